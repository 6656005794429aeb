/- Lists of nodes that a call makes for itself. -/
import Derived.Test.YtoobkajilbmdhaaNodes
import Derived.Deep.Onto
import Derived.Deep.RegionWith
namespace Go.Proofs.Ytoobkajilbmdhaa
open Go.RowKit
set_option linter.unusedVariables false

/-- A node's five cells. -/
def Nd.cells (n : Nd) : List Value := [.int .i64 n.tile, .int .i64 n.a, .int .i64 n.b, .int .i64 n.c, .int .i64 n.d]
def zeroN : Nd := ⟨0, 0, 0, 0, 0⟩
theorem flat_len (l : List Nd) : (l.flatMap Nd.cells).length = l.length * 5 := by
  induction l with
  | nil => rfl
  | cons x xs ih => simp only [List.flatMap_cons, List.length_append, ih, List.length_cons]; simp [Nd.cells]; omega
theorem flat_get : ∀ (l : List Nd) (j i : Nat) (hj : j < l.length), i < 5 → (l.flatMap Nd.cells)[j * 5 + i]? = (l[j].cells)[i]?
  | [], j, i, hj, _ => by simp at hj
  | x :: xs, 0, i, _, hi => by
    simp only [List.flatMap_cons, Nat.zero_mul, Nat.zero_add, List.getElem_cons_zero]
    rw [List.getElem?_append_left (by simpa [Nd.cells] using hi)]
  | x :: xs, j + 1, i, hj, hi => by
    simp only [List.flatMap_cons, List.getElem_cons_succ]
    have e : (j + 1) * 5 + i = x.cells.length + (j * 5 + i) := by simp [Nd.cells]; omega
    rw [e, List.getElem?_append_right (by omega), Nat.add_sub_cancel_left]
    exact flat_get xs j i (by simpa using hj) hi
def setN (L : List Value) (o : Nat) (x : Nd) : List Value := ((((L.set o (.int .i64 x.tile)).set (o + 1) (.int .i64 x.a)).set (o + 2) (.int .i64 x.b)).set (o + 3) (.int .i64 x.c)).set (o + 4) (.int .i64 x.d)
theorem flat_set : ∀ (l : List Nd) (j : Nat) (x : Nd), j < l.length → setN (l.flatMap Nd.cells) (j * 5) x = (l.set j x).flatMap Nd.cells
  | [], j, x, hj => by simp at hj
  | y :: ys, 0, x, _ => by simp [setN, Nd.cells]
  | y :: ys, j + 1, x, hj => by
    have ih := flat_set ys j x (by simpa using hj)
    simp only [List.flatMap_cons, List.set_cons_succ, ← ih]
    have hlen : y.cells.length = 5 := rfl
    unfold setN
    rw [List.set_append_right _ _ (by omega), List.set_append_right _ _ (by omega), List.set_append_right _ _ (by omega), List.set_append_right _ _ (by omega), List.set_append_right _ _ (by omega), hlen]
    rw [show (j + 1) * 5 - 5 = j * 5 by omega, show (j + 1) * 5 + 1 - 5 = j * 5 + 1 by omega, show (j + 1) * 5 + 2 - 5 = j * 5 + 2 by omega, show (j + 1) * 5 + 3 - 5 = j * 5 + 3 by omega, show (j + 1) * 5 + 4 - 5 = j * 5 + 4 by omega]
theorem flat_zeros (n : Nat) : (madeCells #[.int .i64 0, .int .i64 0, .int .i64 0, .int .i64 0, .int .i64 0] (n * 5)).toList = (List.replicate n zeroN).flatMap Nd.cells := by
  have h1 : (madeCells #[Value.int .i64 0, .int .i64 0, .int .i64 0, .int .i64 0, .int .i64 0] (n * 5)).toList = List.replicate (n * 5) (.int .i64 0) := by
    rw [List.eq_replicate_iff]
    refine ⟨by simp [madeCells], fun v hv => ?_⟩
    simp only [madeCells, Array.toList_map, List.mem_map] at hv
    obtain ⟨j, _, rfl⟩ := hv
    have h5 : j % 5 = 0 ∨ j % 5 = 1 ∨ j % 5 = 2 ∨ j % 5 = 3 ∨ j % 5 = 4 := by omega
    show (#[Value.int .i64 0, .int .i64 0, .int .i64 0, .int .i64 0, .int .i64 0] : Array Value)[j % 5]! = _
    rcases h5 with h | h | h | h | h <;> rw [h] <;> rfl
  have h2 : (List.replicate n zeroN).flatMap Nd.cells = List.replicate (n * 5) (.int .i64 0) := by
    rw [List.eq_replicate_iff]
    refine ⟨by rw [flat_len]; simp, fun v hv => ?_⟩
    obtain ⟨x, hx, hv⟩ := List.mem_flatMap.1 hv
    rw [List.eq_of_mem_replicate hx] at hv
    simp [Nd.cells, zeroN] at hv
    exact hv
  rw [h1, h2]

/-- The slice value v owns, among the blocks from base on, a row that reads as the nodes l. -/
def OwnN (w : World) (base : Nat) (v : Value) (l : List Nd) : Prop := w.ownsRow base 73 5 v l.length (l.flatMap Nd.cells)
theorem OwnN.nil (w : World) (base : Nat) : OwnN w base (.slice none 0 0) [] := World.ownsRow_nil _ _ _ _
theorem OwnN.alloc {w : World} {base : Nat} {v : Value} {l : List Nd} (h : OwnN w base v l) (o : Obj) : OwnN (w.alloc o) base v l := World.ownsRow.alloc h o
theorem OwnN.drew {w : World} {base : Nat} {v : Value} {l : List Nd} (h : OwnN w base v l) : OwnN w.drew base v l := h
theorem OwnN.keep {w w' : World} {base : Nat} {v : Value} {l : List Nd} (h : OwnN w base v l) (hb : Below w.heap.size w w') : OwnN w' base v l :=
  World.ownsRow.kept h (row := none) ⟨hb.os, hb.tape, hb.output, hb.size, fun k hk _ => hb.block k hk⟩ (by cases v.ownBlock <;> simp)
theorem OwnN.lower {w : World} {base base' : Nat} {v : Value} {l : List Nd} (hb : base' ≤ base) (h : OwnN w base v l) : OwnN w base' v l := World.ownsRow.mono h hb
theorem OwnN.set_below {w : World} {base : Nat} {v : Value} {l : List Nd} {a : Addr} (ha : a.block < base) (u : Value) (h : OwnN w base v l) : OwnN (w.setCell a u) base v l := ownsRow_setCell_below h ha u
theorem OwnN.len {w : World} {base n c : Nat} {A : Option Addr} {l : List Nd} (h : OwnN w base (.slice A n c) l) : n = l.length := by
  rcases h.2 with ⟨hv, hn⟩ | ⟨g, cap, cur, hv, _⟩
  · simp at hv; omega
  · simp at hv; omega
theorem OwnN.cap {w : World} {base n c : Nat} {A : Option Addr} {l : List Nd} (h : OwnN w base (.slice A n c) l) : l.length ≤ c := by
  rcases h.2 with ⟨hv, hn⟩ | ⟨g, cap, cur, hv, _, _, hn, _⟩
  · omega
  · cases hv; exact hn
theorem OwnN.at_ {w : World} {base n c j : Nat} {A : Option Addr} {l : List Nd} (h : OwnN w base (.slice A n c) l) (hj : j < l.length) :
    ∃ g, A = some ⟨g, 0, none⟩ ∧ base ≤ g ∧ g < w.heap.size ∧ NdAt w g (j * 5) l[j] ∧ ∀ i, w.frozen? ⟨g, i, none⟩ = false := by
  have hn := h.len
  subst hn
  rcases h.2 with ⟨hv, hn⟩ | ⟨g, cap, cur, hv, hb, hg, _⟩
  · omega
  · simp only [Value.slice.injEq] at hv
    obtain ⟨rfl, _, rfl⟩ := hv
    have hlt := (World.ownsRow.lt h g rfl).2
    have hc : ∀ i, i < 5 → w.cell? ⟨g, j * 5 + i, none⟩ = (l[j].cells)[i]? := fun i hi => by
      rw [World.ownsRow.cellAt h (j * 5 + i) (by omega)]
      exact flat_get l j i hj hi
    exact ⟨g, rfl, hb, hlt, ⟨hc 0 (by omega), hc 1 (by omega), hc 2 (by omega), hc 3 (by omega), hc 4 (by omega)⟩, fun i => World.ownsRow.frozenAt h i⟩
theorem OwnN.rn {w : World} {base n c : Nat} {A : Option Addr} {l : List Nd} (h : OwnN w base (.slice A n c) l) : RN w w.heap.size A l := by
  by_cases hl : l = []
  · exact .inl hl
  · have h0 : 0 < l.length := List.length_pos_iff.2 hl
    obtain ⟨g, rfl, _, hg, _⟩ := h.at_ h0
    refine .inr ⟨g, 0, rfl, hg, fun j hj => ?_⟩
    obtain ⟨g', e', _, _, hc, _⟩ := h.at_ hj
    cases e'
    simpa using hc
def putN (w : World) (g o : Nat) (x : Nd) : World := ((((w.setCell ⟨g, o, none⟩ (.int .i64 x.tile)).setCell ⟨g, o + 1, none⟩ (.int .i64 x.a)).setCell ⟨g, o + 2, none⟩ (.int .i64 x.b)).setCell ⟨g, o + 3, none⟩ (.int .i64 x.c)).setCell ⟨g, o + 4, none⟩ (.int .i64 x.d)
theorem OwnN.store {w : World} {base g n c j : Nat} {l : List Nd} (h : OwnN w base (.slice (some ⟨g, 0, none⟩) n c) l) (hj : j < l.length) (x : Nd) :
    OwnN (putN w g (j * 5) x) base (.slice (some ⟨g, 0, none⟩) n c) (l.set j x) ∧ w.grownBy (putN w g (j * 5) x) (some g) := by
  have hn := h.len
  subst hn
  have h0 : w.ownsRow base 73 5 (.slice (some ⟨g, 0, none⟩) l.length c) l.length (l.flatMap Nd.cells) := h
  have s1 := World.ownsRow.stored h0 (j * 5) (.int .i64 x.tile)
  have s2 := World.ownsRow.stored s1.1 (j * 5 + 1) (.int .i64 x.a)
  have s3 := World.ownsRow.stored s2.1 (j * 5 + 2) (.int .i64 x.b)
  have s4 := World.ownsRow.stored s3.1 (j * 5 + 3) (.int .i64 x.c)
  have s5 := World.ownsRow.stored s4.1 (j * 5 + 4) (.int .i64 x.d)
  have tr : ∀ {a b c : World}, a.grownBy b (some g) → b.grownBy c (some g) → a.grownBy c (some g) := fun h k => ⟨k.os.trans h.os, k.tape.trans h.tape, k.output.trans h.output, Nat.le_trans h.size k.size, fun i hi hne => (k.block i (Nat.lt_of_lt_of_le hi h.size) hne).trans (h.block i hi hne)⟩
  refine ⟨?_, tr (tr (tr (tr s1.2 s2.2) s3.2) s4.2) s5.2⟩
  unfold OwnN putN
  rw [List.length_set, ← flat_set l j x hj]
  exact s5.1

theorem own_zeros_n {w : World} {base g n : Nat} (h : w.ownsRow base 73 5 (.slice (some ⟨g, 0, none⟩) n n) n (madeCells #[.int .i64 0, .int .i64 0, .int .i64 0, .int .i64 0, .int .i64 0] (n * 5)).toList) : OwnN w base (.slice (some ⟨g, 0, none⟩) n n) (List.replicate n zeroN) := by
  unfold OwnN
  rw [flat_zeros] at h
  simpa using h
theorem copied_step_n (l : List Nd) (k : Nat) (hk : k < l.length) : (l.take k ++ List.replicate (l.length - k) zeroN).set k l[k] = l.take (k + 1) ++ List.replicate (l.length - (k + 1)) zeroN := by
  have hl : (l.take k).length = k := by simp; omega
  have e : l.length - k = (l.length - (k + 1)) + 1 := by omega
  rw [List.set_append_right _ _ (by omega), hl, Nat.sub_self, e, List.replicate_succ, List.set_cons_zero, List.take_succ_eq_append_getElem hk, List.append_assoc]
  rfl
theorem Try.infoNode : (Try.prog.info? 73).map (fun i => (i.zero, i.size, i.bytes)) = some (some (.agg #[.int .i64 0, .int .i64 0, .int .i64 0, .int .i64 0, .int .i64 0]), 5, 40) := by kernel_rfl

set_option maxHeartbeats 400000 in
theorem szNodes (A : Option Addr) (n c : Nat) (left : Int) (w : World) (hn : n ≤ 9223372036854775807) (h0 : 0 ≤ left) (h1 : left ≤ 1048576) :
    Calls Try.prog 29 #[.slice A n c, .int .i64 left] w fun e w' => e = .returned (.int .i64 (if (n : Int) ≤ left then left - n else -1)) ∧ w = w' := by
  by_cases h : (n : Int) ≤ left
  · rw [if_pos h]
    go_enter Try.func29, Try.ntmps29
    go_wp2
    go_ret
    exact ⟨rfl, rfl⟩
  · rw [if_neg h]
    go_enter Try.func29, Try.ntmps29
    go_wp2
    go_ret
    exact ⟨rfl, rfl⟩
set_option maxHeartbeats 400000 in
theorem szPool_any (left : Int) (A : Option Addr) (n c : Nat) (w : World) (hn : n ≤ 9223372036854775807) (h0 : 0 ≤ left) (h1 : left ≤ 1048576) :
    Calls Try.prog 6 #[.agg #[.slice A n c], .int .i64 left] w fun e w' => e = .returned (.int .i64 (if (n : Int) ≤ left then left - n else -1)) ∧ Below w.heap.size w w' := by
  have hs := fun w => szNodes A n c left w hn h0 h1
  by_cases h : (n : Int) ≤ left
  · rw [if_pos h] at *
    go_enter Try.func6, Try.ntmps6
    go_wp2_with (go_at_call 29; refine (hs _).mono ?_; rintro e w1 ⟨rfl, rfl⟩)
    go_ret
    exact ⟨rfl, (Below.refl _ _).alloc (Nat.le_refl _) _⟩
  · rw [if_neg h] at *
    go_enter Try.func6, Try.ntmps6
    go_wp2_with (go_at_call 29; refine (hs _).mono ?_; rintro e w1 ⟨rfl, rfl⟩)
    go_ret
    exact ⟨rfl, (Below.refl _ _).alloc (Nat.le_refl _) _⟩
set_option maxHeartbeats 400000 in
theorem toNode_any (n : Nd) (w : World) :
    Calls Try.prog 53 #[n.val] w fun e w' => e = .returned n.val ∧ Below w.heap.size w w' := by
  unfold Nd.val
  go_enter Try.func53, Try.ntmps53
  go_wp2
  refine bodyPost_ret (v := .agg #[.int .i64 n.tile, .int .i64 n.a, .int .i64 n.b, .int .i64 n.c, .int .i64 n.d]) (by simp [results, Try.results53, go_sem]) rfl ⟨rfl, (((Below.refl _ _).alloc (Nat.le_refl _) _).alloc (by simp) _).alloc (by simp; omega) _⟩

set_option maxRecDepth 100000 in
set_option maxHeartbeats 400000 in
theorem toNodes (A : Option Addr) (c : Nat) (l : List Nd) (w : World) (h : RN w w.heap.size A l) (hl : l.length ≤ 1000000000) :
    Calls Try.prog 33 #[.slice A l.length c] w fun e w' => e = .returned (.slice (some ⟨w.heap.size, 0, none⟩) l.length l.length) ∧ OwnN w' w.heap.size (.slice (some ⟨w.heap.size, 0, none⟩) l.length l.length) l ∧ Below w.heap.size w w' := by
  obtain ⟨i0, hi, hz0, hz1, hz2⟩ := info_parts Try.infoNode
  have H := Lib.hid h
  clear h
  go_enter Try.func33, Try.ntmps33
  go_wp2_with (at_make; refine wpList_make_full _ rfl _ _ 27 rfl w.heap.size 73 i0 (.agg #[.int .i64 0, .int .i64 0, .int .i64 0, .int .i64 0, .int .i64 0]) 5 Try.underlying27 hi hz0 hz1 .i64 .i64 _ _ l.length rfl rfl rfl rfl ?b2 ?b3 (Nat.le_refl _) ?_)
  case b2 => rw [hz2]; omega
  case b3 => unfold maxLen; omega
  intro w1 hown1 hgrow1
  have ho1 := own_zeros_n hown1
  have hb1 : Below w.heap.size w w1 := (Below.refl _ _).grown hgrow1 (Nat.le_refl _) (fun k hk => by cases hk)
  clear hown1 hgrow1
  go_wp2
  go_loopw [4] (fun i wr => ∃ k : Nat, i = .int .i64 k ∧ k ≤ l.length ∧ OwnN wr w.heap.size (.slice (some ⟨w.heap.size, 0, none⟩) l.length l.length) (l.take k ++ List.replicate (l.length - k) zeroN) ∧ Below w.heap.size w wr) (fun i _ => l.length - (intOf i).toNat)
  case atStart => exact ⟨0, rfl, Nat.zero_le _, by simpa using ho1, hb1⟩
  case round =>
    obtain ⟨k, rfl, hk, ho, hb⟩ := hrel
    by_cases hlt : k < l.length
    · obtain ⟨b, off, rfl, _, hc⟩ := (H.out.below hb).at_ hlt
      have HO := Lib.hid ho
      have HB := Lib.hid hb
      generalize hnk : l[k] = n at hc
      have HNK := Lib.hid hnk
      clear hnk ho hb
      have hT := toNode_any n
      obtain ⟨nt, na, nb, nc, nd⟩ := n
      unfold Nd.val at hT
      obtain ⟨d0, d1, d2, d3, d4⟩ := hc
      simp only at d0 d1 d2 d3 d4 hT
      go_wp2_with fail
      refine (hT _).mono ?_
      rintro e w2 ⟨rfl, hb2⟩
      have ho2 := HO.out.keep hb2
      have HB2 := Lib.hid (HB.out.trans (hb2.mono HB.out.size))
      obtain ⟨g, eg, _, _, hcg, hfg⟩ := ho2.at_ (j := k) (by simp; omega)
      cases eg
      have HS := Lib.hid (ho2.store (j := k) (by simp; omega) ⟨nt, na, nb, nc, nd⟩)
      have hf0 := hfg (k * 5)
      have hf1 := hfg (k * 5 + 1)
      have hf2 := hfg (k * 5 + 2)
      have hf3 := hfg (k * 5 + 3)
      have hf4 := hfg (k * 5 + 4)
      obtain ⟨g0, g1, g2, g3, g4⟩ := hcg
      clear ho2 hb2 hfg d0 d1 d2 d3 d4
      go_wp2
      go_roundw
      case rel => exact ⟨k + 1, by go_num, by omega, by rw [← copied_step_n l k hlt, HNK.out]; exact HS.out.1, HB2.out.grown HS.out.2 HB2.out.size (fun j hj => by cases hj; exact Nat.le_refl _)⟩
      case measure => simp [intOf]; omega
    · go_wp2
      go_ret
      have ek : k = l.length := by omega
      refine ⟨rfl, ?_, hb⟩
      rw [ek] at ho
      simpa using ho

def ToPoolPost (w : World) (l : List Nd) (e : Ending) (w' : World) : Prop :=
  ∃ g, e = .returned (.agg #[.slice (some ⟨g, 0, none⟩) l.length l.length]) ∧ OwnN w' w.heap.size (.slice (some ⟨g, 0, none⟩) l.length l.length) l ∧ Below w.heap.size w w'

set_option maxHeartbeats 400000 in
theorem toPool_any (A : Option Addr) (c : Nat) (l : List Nd) (w : World) (h : RN w w.heap.size A l) (hl : l.length ≤ 1000000000) :
    Calls Try.prog 8 #[.agg #[.slice A l.length c]] w (ToPoolPost w l) := by
  have H := Lib.hid h
  clear h
  have hbw : Below w.heap.size w (((w.alloc (.cells #[.slice A l.length c] 24)).alloc (.cells #[.slice none 0 0] 29)).alloc (.cells #[.slice none 0 0] 29)) := (((Below.refl _ _).alloc (Nat.le_refl _) _).alloc (by simp) _).alloc (by simp; omega) _
  have HT := Lib.hid (toNodes A c l _ ((H.out.below hbw).mono (by simp; omega)) hl)
  go_enter Try.func8, Try.ntmps8
  go_wp2_with fail
  refine HT.out.mono ?_
  rintro e w1 ⟨rfl, ho, hb⟩
  have hb2 : Below w.heap.size w w1 := hbw.trans (hb.mono (by simp; omega))
  have hz : w.heap.size + 1 + 1 < w1.heap.size := by have := hb.size; simp at this; omega
  obtain ⟨hc, hf⟩ := bcell hb
  simp only [alloc_size] at ho
  have HO := Lib.hid ho
  clear ho HT H
  go_wp2
  refine bodyPost_ret (v := .agg #[.slice (some ⟨w.heap.size + 1 + 1 + 1, 0, none⟩) l.length l.length]) (by simp [results, Try.results8, go_sem, hc]) rfl ⟨_, rfl, ?_, ?_⟩
  · exact (OwnN.lower (base := w.heap.size + 1 + 1 + 1) (by omega) (OwnN.set_below (by show w.heap.size + 1 < _; omega) _ (OwnN.set_below (by show w.heap.size + 1 + 1 < _; omega) _ HO.out)))
  · exact (hb2.setCell (by simp; omega) _).setCell (by simp) _

set_option maxHeartbeats 400000 in
theorem eqNode_any (n : Nd) (w : World) :
    Calls Try.prog 57 #[n.val, n.val] w fun e w' => e = .returned (.bool true) ∧ Below w.heap.size w w' := by
  unfold Nd.val
  go_enter Try.func57, Try.ntmps57
  go_wp2
  go_ret
  exact ⟨rfl, ((Below.refl _ _).alloc (Nat.le_refl _) _).alloc (by simp) _⟩

set_option maxRecDepth 100000 in
set_option maxHeartbeats 400000 in
theorem eqNodes (A A' : Option Addr) (c c' : Nat) (l : List Nd) (w : World) (h : RN w w.heap.size A l) (h' : RN w w.heap.size A' l) (hl : l.length ≤ 1000000000) :
    Calls Try.prog 37 #[.slice A l.length c, .slice A' l.length c'] w fun e w' => e = .returned (.bool true) ∧ Below w.heap.size w w' := by
  have H := Lib.hid h
  have H' := Lib.hid h'
  clear h h'
  go_enter Try.func37, Try.ntmps37
  go_wp2
  go_loopw [5] (fun i wr => ∃ k : Nat, i = .int .i64 k ∧ k ≤ l.length ∧ Below w.heap.size w wr) (fun i _ => l.length - (intOf i).toNat)
  case atStart => exact ⟨0, rfl, Nat.zero_le _, Below.refl _ _⟩
  case round =>
    obtain ⟨k, rfl, hk, hs⟩ := hrel
    by_cases hlt : k < l.length
    · obtain ⟨b, off, rfl, _, hc⟩ := (H.out.below hs.drew).at_ hlt
      obtain ⟨b', off', rfl, _, hc'⟩ := (H'.out.below hs.drew).at_ hlt
      have HB := Lib.hid hs
      generalize hnk : l[k] = n at hc hc'
      clear hnk hs
      have hT := eqNode_any n
      obtain ⟨nt, na, nb, nc, nd⟩ := n
      unfold Nd.val at hT
      obtain ⟨d0, d1, d2, d3, d4⟩ := hc
      obtain ⟨e0, e1, e2, e3, e4⟩ := hc'
      simp only at d0 d1 d2 d3 d4 e0 e1 e2 e3 e4 hT
      go_wp2_with fail
      go_region_with (go_at_call 57; refine (hT _).mono ?_; rintro e w2 ⟨rfl, hb2⟩; have HB2 := Lib.hid (HB.out.drew.trans (hb2.mono HB.out.size)); clear hb2)
      all_goals
        go_wp2
        go_roundw
        case rel => exact ⟨k + 1, by go_num, by omega, HB2.out⟩
        case measure => simp [intOf]; omega
    · go_wp2
      go_ret
      exact ⟨rfl, hs⟩

set_option maxHeartbeats 400000 in
theorem eqPool_any (A A' : Option Addr) (c c' : Nat) (l : List Nd) (w : World) (h : RN w w.heap.size A l) (h' : RN w w.heap.size A' l) (hl : l.length ≤ 1000000000) :
    Calls Try.prog 10 #[.agg #[.slice A l.length c], .agg #[.slice A' l.length c']] w fun e w' => e = .returned (.bool true) ∧ Below w.heap.size w w' := by
  have H := Lib.hid h
  have H' := Lib.hid h'
  clear h h'
  have hbw : Below w.heap.size w ((w.alloc (.cells #[.slice A l.length c] 29)).alloc (.cells #[.slice A' l.length c'] 29)) := ((Below.refl _ _).alloc (Nat.le_refl _) _).alloc (by simp) _
  have HT := Lib.hid (eqNodes A A' c c' l _ ((H.out.below hbw).mono (by simp; omega)) ((H'.out.below hbw).mono (by simp; omega)) hl)
  go_enter Try.func10, Try.ntmps10
  go_wp2_with fail
  refine HT.out.mono ?_
  rintro e w1 ⟨rfl, hs⟩
  have hb2 : Below w.heap.size w w1 := hbw.trans (hs.mono (by simp; omega))
  clear HT H H' hs
  go_wp2
  go_ret
  exact ⟨rfl, hb2⟩
end Go.Proofs.Ytoobkajilbmdhaa
