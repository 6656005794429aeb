/- Lists of Place: what can be read, what a call owns; copied, compared, counted, marked and looked at again. -/
import Derived.Test.YtmjbefjkkncjlaaGridL
import Derived.BigQuiet
import Derived.BigRegion
import Derived.Deep.Onto
import Derived.Deep.RegionWith
import Derived.Deep.RegionLaw
namespace Go.Proofs.Ytmjbefjkkncjlaa
open Go.RowKit
set_option linter.unusedVariables false

/-- A Place. -/
structure Pl where
  x : Int
  y : Int
theorem Pl.eq_iff (a b : Pl) : a = b ↔ a.x = b.x ∧ a.y = b.y := by
  constructor
  · rintro rfl; exact ⟨rfl, rfl⟩
  · obtain ⟨nx, ny⟩ := a
    obtain ⟨nx', ny'⟩ := b
    rintro ⟨h0, h1⟩
    simp only at h0 h1
    subst h0 h1
    rfl
instance : DecidableEq Pl := fun a b => decidable_of_iff _ (Pl.eq_iff a b).symm
instance : Inhabited Pl := ⟨⟨0, 0⟩⟩
def Pl.val (n : Pl) : Value := .agg #[.int .i64 n.x, .int .i64 n.y]
def Pl.Fits (n : Pl) : Prop := (Lit.int .i64 n.x).wf = true ∧ (Lit.int .i64 n.y).wf = true
/-- The cells from o on hold n. -/
structure PlAt (w : World) (b o : Nat) (n : Pl) : Prop where
  c0 : w.cell? ⟨b, o, none⟩ = some (.int .i64 n.x)
  c1 : w.cell? ⟨b, o + 1, none⟩ = some (.int .i64 n.y)
theorem PlAt.parts {w : World} {b o : Nat} {n : Pl} (h : PlAt w b o n) : w.cell? ⟨b, o, none⟩ = some (.int .i64 n.x) ∧ w.cell? ⟨b, o + 1, none⟩ = some (.int .i64 n.y) := ⟨h.c0, h.c1⟩
/-- A list that can be read below block B. -/
def RPl (w : World) (B : Nat) (A : Option Addr) (l : List Pl) : Prop := l = [] ∨ ∃ b off, A = some ⟨b, off, none⟩ ∧ b < B ∧ ∀ j (h : j < l.length), PlAt w b (off + j * 2) l[j]
theorem PlAt.keep {w w' : World} {b o : Nat} {n : Pl} (h : PlAt w b o n) (hc : w'.heap[b]? = w.heap[b]?) : PlAt w' b o n :=
  ⟨(World.cell?_of_block (w := w) (a := ⟨b, o, none⟩) hc).trans h.c0, (World.cell?_of_block (w := w) (a := ⟨b, o + 1, none⟩) hc).trans h.c1⟩
theorem RPl.keep {w w' : World} {B : Nat} {A : Option Addr} {l : List Pl} (h : RPl w B A l) (hc : ∀ k, k < B → w'.heap[k]? = w.heap[k]?) : RPl w' B A l := by
  rcases h with h | ⟨b, off, rfl, hb, hn⟩
  · exact .inl h
  · exact .inr ⟨b, off, rfl, hb, fun j hj => (hn j hj).keep (hc b hb)⟩
theorem RPl.below {w w' : World} {B : Nat} {A : Option Addr} {l : List Pl} (h : RPl w B A l) (hb : Below B w w') : RPl w' B A l := h.keep fun k hk => hb.block k hk
theorem RPl.mono {w : World} {B B' : Nat} {A : Option Addr} {l : List Pl} (h : RPl w B A l) (hB : B ≤ B') : RPl w B' A l := by
  rcases h with h | ⟨b, off, rfl, hb, hn⟩
  · exact .inl h
  · exact .inr ⟨b, off, rfl, by omega, hn⟩
theorem RPl.still {w w' : World} {B : Nat} {A : Option Addr} {l : List Pl} (h : RPl w B A l) (hs : Still w w') : RPl w' B A l := h.keep fun k _ => by rw [hs.1]
theorem RPl.at_ {w : World} {B j : Nat} {A : Option Addr} {l : List Pl} (h : RPl w B A l) (hj : j < l.length) : ∃ b off, A = some ⟨b, off, none⟩ ∧ b < B ∧ PlAt w b (off + j * 2) l[j] := by
  rcases h with h | ⟨b, off, rfl, hb, hn⟩
  · subst h; simp at hj
  · exact ⟨b, off, rfl, hb, hn j hj⟩

def Pl.cells (n : Pl) : List Value := [.int .i64 n.x, .int .i64 n.y]
def zeroPl : Pl := ⟨0, 0⟩
theorem flatPl_len (l : List Pl) : (l.flatMap Pl.cells).length = l.length * 2 := by
  induction l with
  | nil => rfl
  | cons x xs ih => simp only [List.flatMap_cons, List.length_append, ih, List.length_cons]; simp [Pl.cells]; omega
theorem flatPl_get : ∀ (l : List Pl) (j i : Nat) (hj : j < l.length), i < 2 → (l.flatMap Pl.cells)[j * 2 + i]? = (l[j].cells)[i]?
  | [], j, i, hj, _ => by simp at hj
  | x :: xs, 0, i, _, hi => by
    simp only [List.flatMap_cons, Nat.zero_mul, Nat.zero_add, List.getElem_cons_zero]
    rw [List.getElem?_append_left (by simpa [Pl.cells] using hi)]
  | x :: xs, j + 1, i, hj, hi => by
    simp only [List.flatMap_cons, List.getElem_cons_succ]
    have e : (j + 1) * 2 + i = x.cells.length + (j * 2 + i) := by simp [Pl.cells]; omega
    rw [e, List.getElem?_append_right (by omega), Nat.add_sub_cancel_left]
    exact flatPl_get xs j i (by simpa using hj) hi
def setPl (L : List Value) (o : Nat) (x : Pl) : List Value := ((L.set (o) (.int .i64 x.x)).set (o + 1) (.int .i64 x.y))
theorem flatPl_set : ∀ (l : List Pl) (j : Nat) (x : Pl), j < l.length → setPl (l.flatMap Pl.cells) (j * 2) x = (l.set j x).flatMap Pl.cells
  | [], j, x, hj => by simp at hj
  | y :: ys, 0, x, _ => by simp [setPl, Pl.cells]
  | y :: ys, j + 1, x, hj => by
    have ih := flatPl_set ys j x (by simpa using hj)
    simp only [List.flatMap_cons, List.set_cons_succ, ← ih]
    have hlen : y.cells.length = 2 := rfl
    unfold setPl
    rw [List.set_append_right _ _ (by omega), List.set_append_right _ _ (by omega), hlen]
    rw [show (j + 1) * 2 - 2 = j * 2 by omega, show (j + 1) * 2 + 1 - 2 = j * 2 + 1 by omega]
theorem flatPl_zeros (n : Nat) : (madeCells #[.int .i64 0, .int .i64 0] (n * 2)).toList = (List.replicate n zeroPl).flatMap Pl.cells := by
  have h1 : (madeCells #[Value.int .i64 0, .int .i64 0] (n * 2)).toList = List.replicate (n * 2) (.int .i64 0) := by
    rw [List.eq_replicate_iff]
    refine ⟨by simp [madeCells], fun v hv => ?_⟩
    simp only [madeCells, Array.toList_map, List.mem_map] at hv
    obtain ⟨j, _, rfl⟩ := hv
    have h5 : j % 2 = 0 ∨ j % 2 = 1 := by omega
    show (#[Value.int .i64 0, .int .i64 0] : Array Value)[j % 2]! = _
    rcases h5 with h | h <;> rw [h] <;> rfl
  have h2 : (List.replicate n zeroPl).flatMap Pl.cells = List.replicate (n * 2) (.int .i64 0) := by
    rw [List.eq_replicate_iff]
    refine ⟨by rw [flatPl_len]; simp, fun v hv => ?_⟩
    obtain ⟨x, hx, hv⟩ := List.mem_flatMap.1 hv
    rw [List.eq_of_mem_replicate hx] at hv
    simp [Pl.cells, zeroPl] at hv
    exact hv
  rw [h1, h2]

/-- The slice value v owns, among the blocks from base on, a row that reads as the list l. -/
def OwnPl (w : World) (base : Nat) (v : Value) (l : List Pl) : Prop := w.ownsRow base 27 2 v l.length (l.flatMap Pl.cells)
theorem OwnPl.nil (w : World) (base : Nat) : OwnPl w base (.slice none 0 0) [] := World.ownsRow_nil _ _ _ _
theorem OwnPl.alloc {w : World} {base : Nat} {v : Value} {l : List Pl} (h : OwnPl w base v l) (o : Obj) : OwnPl (w.alloc o) base v l := World.ownsRow.alloc h o
theorem OwnPl.drew {w : World} {base : Nat} {v : Value} {l : List Pl} (h : OwnPl w base v l) : OwnPl w.drew base v l := h
theorem OwnPl.kept {w w' : World} {base : Nat} {v : Value} {l : List Pl} {row : Option Nat} (h : OwnPl w base v l) (hg : w.grownBy w' row) (hr : v.ownBlock = none ∨ v.ownBlock ≠ row) : OwnPl w' base v l := World.ownsRow.kept h hg hr
theorem OwnPl.keep {w w' : World} {base : Nat} {v : Value} {l : List Pl} (h : OwnPl w base v l) (hb : Below w.heap.size w w') : OwnPl w' base v l :=
  World.ownsRow.kept h (row := none) ⟨hb.os, hb.tape, hb.output, hb.size, fun k hk _ => hb.block k hk⟩ (by cases v.ownBlock <;> simp)
theorem OwnPl.lower {w : World} {base base' : Nat} {v : Value} {l : List Pl} (hb : base' ≤ base) (h : OwnPl w base v l) : OwnPl w base' v l := World.ownsRow.mono h hb
theorem OwnPl.set_below {w : World} {base : Nat} {v : Value} {l : List Pl} {a : Addr} (ha : a.block < base) (u : Value) (h : OwnPl w base v l) : OwnPl (w.setCell a u) base v l := ownsRow_setCell_below h ha u
theorem OwnPl.len {w : World} {base n c : Nat} {A : Option Addr} {l : List Pl} (h : OwnPl w base (.slice A n c) l) : n = l.length := by
  rcases h.2 with ⟨hv, hn⟩ | ⟨g, cap, cur, hv, _⟩
  · simp at hv; omega
  · simp at hv; omega
theorem OwnPl.form {w : World} {base : Nat} {v : Value} {l : List Pl} (h : OwnPl w base v l) : ∃ A c, v = .slice A l.length c := by
  rcases h.2 with ⟨hv, hn⟩ | ⟨g, cap, cur, hv, _⟩
  · exact ⟨none, 0, by rw [hv, hn]⟩
  · exact ⟨_, _, hv⟩
theorem OwnPl.lt {w : World} {base : Nat} {v : Value} {l : List Pl} (h : OwnPl w base v l) : ∀ k, v.ownBlock = some k → base ≤ k ∧ k < w.heap.size := World.ownsRow.lt h
theorem OwnPl.at_ {w : World} {base n c j : Nat} {A : Option Addr} {l : List Pl} (h : OwnPl w base (.slice A n c) l) (hj : j < l.length) :
    ∃ g, A = some ⟨g, 0, none⟩ ∧ base ≤ g ∧ g < w.heap.size ∧ PlAt w g (j * 2) l[j] ∧ ∀ i, w.frozen? ⟨g, i, none⟩ = false := by
  have hn := h.len
  subst hn
  rcases h.2 with ⟨hv, hn⟩ | ⟨g, cap, cur, hv, hb, hg, _⟩
  · omega
  · simp only [Value.slice.injEq] at hv
    obtain ⟨rfl, _, rfl⟩ := hv
    have hlt := (World.ownsRow.lt h g rfl).2
    have hc : ∀ i, i < 2 → w.cell? ⟨g, j * 2 + i, none⟩ = (l[j].cells)[i]? := fun i hi => by
      rw [World.ownsRow.cellAt h (j * 2 + i) (by omega)]
      exact flatPl_get l j i hj hi
    exact ⟨g, rfl, hb, hlt, ⟨hc 0 (by omega), hc 1 (by omega)⟩, fun i => World.ownsRow.frozenAt h i⟩
theorem OwnPl.r {w : World} {base n c : Nat} {A : Option Addr} {l : List Pl} (h : OwnPl w base (.slice A n c) l) : RPl w w.heap.size A l := by
  by_cases hl : l = []
  · exact .inl hl
  · have h0 : 0 < l.length := List.length_pos_iff.2 hl
    obtain ⟨g, rfl, _, hg, _⟩ := h.at_ h0
    refine .inr ⟨g, 0, rfl, hg, fun j hj => ?_⟩
    obtain ⟨g', e', _, _, hc, _⟩ := h.at_ hj
    cases e'
    simpa using hc
def putPl (w : World) (g o : Nat) (x : Pl) : World := ((w.setCell ⟨g, o, none⟩ (.int .i64 x.x)).setCell ⟨g, o + 1, none⟩ (.int .i64 x.y))
theorem OwnPl.store {w : World} {base g n c j : Nat} {l : List Pl} (h : OwnPl w base (.slice (some ⟨g, 0, none⟩) n c) l) (hj : j < l.length) (x : Pl) :
    OwnPl (putPl w g (j * 2) x) base (.slice (some ⟨g, 0, none⟩) n c) (l.set j x) ∧ w.grownBy (putPl w g (j * 2) x) (some g) := by
  have hn := h.len
  subst hn
  have h0 : w.ownsRow base 27 2 (.slice (some ⟨g, 0, none⟩) l.length c) l.length (l.flatMap Pl.cells) := h
  have s1 := World.ownsRow.stored h0 (j * 2) (.int .i64 x.x)
  have s2 := World.ownsRow.stored s1.1 (j * 2 + 1) (.int .i64 x.y)
  have tr : ∀ {a b c : World}, a.grownBy b (some g) → b.grownBy c (some g) → a.grownBy c (some g) := fun h k => ⟨k.os.trans h.os, k.tape.trans h.tape, k.output.trans h.output, Nat.le_trans h.size k.size, fun i hi hne => (k.block i (Nat.lt_of_lt_of_le hi h.size) hne).trans (h.block i hi hne)⟩
  refine ⟨?_, tr s1.2 s2.2⟩
  unfold OwnPl putPl
  rw [List.length_set, ← flatPl_set l j x hj]
  exact s2.1

theorem own_zerosPl {w : World} {base g n : Nat} (h : w.ownsRow base 27 2 (.slice (some ⟨g, 0, none⟩) n n) n (madeCells #[.int .i64 0, .int .i64 0] (n * 2)).toList) : OwnPl w base (.slice (some ⟨g, 0, none⟩) n n) (List.replicate n zeroPl) := by
  unfold OwnPl
  rw [flatPl_zeros] at h
  simpa using h
theorem copied_stepPl (l : List Pl) (k : Nat) (hk : k < l.length) : (l.take k ++ List.replicate (l.length - k) zeroPl).set k l[k] = l.take (k + 1) ++ List.replicate (l.length - (k + 1)) zeroPl := by
  have hl : (l.take k).length = k := by simp; omega
  have e : l.length - k = (l.length - (k + 1)) + 1 := by omega
  rw [List.set_append_right _ _ (by omega), hl, Nat.sub_self, e, List.replicate_succ, List.set_cons_zero, List.take_succ_eq_append_getElem hk, List.append_assoc]
  rfl
theorem Try.infoPl : (Try.prog.info? 27).map (fun i => (i.zero, i.size, i.bytes)) = some (some (.agg #[.int .i64 0, .int .i64 0]), 2, 16) := by kernel_rfl

set_option maxHeartbeats 400000 in
theorem toPl_any (n : Pl) (w : World) :
    Calls Try.prog 19 #[n.val] w fun e w' => e = .returned n.val ∧ Below w.heap.size w w' := by
  unfold Pl.val
  go_enter Try.func19, Try.ntmps19
  go_wp2
  refine bodyPost_ret (v := .agg #[.int .i64 n.x, .int .i64 n.y]) (by simp [results, Try.results19, go_sem]) rfl ⟨rfl, (((Below.refl _ _).alloc (Nat.le_refl _) _).alloc (by simp) _).alloc (by simp; omega) _⟩

set_option maxHeartbeats 400000 in
theorem eqPl_any (n : Pl) (w : World) :
    Calls Try.prog 68 #[n.val, n.val] w fun e w' => e = .returned (.bool true) ∧ Below w.heap.size w w' := by
  unfold Pl.val
  go_enter Try.func68, Try.ntmps68
  go_wp2
  go_ret
  exact ⟨rfl, ((Below.refl _ _).alloc (Nat.le_refl _) _).alloc (by simp) _⟩

set_option maxRecDepth 100000 in
set_option maxHeartbeats 400000 in
theorem eqPls (A A' : Option Addr) (c c' : Nat) (l : List Pl) (w : World) (h : RPl w w.heap.size A l) (h' : RPl w w.heap.size A' l) (hl : l.length ≤ 1000000000) :
    Calls Try.prog 47 #[.slice A l.length c, .slice A' l.length c'] w fun e w' => e = .returned (.bool true) ∧ Below w.heap.size w w' := by
  have H := Lib.hid h
  have H' := Lib.hid h'
  clear h h'
  go_enter Try.func47, Try.ntmps47
  go_wp2
  go_loopw [5] (fun i wr => ∃ k : Nat, i = .int .i64 k ∧ k ≤ l.length ∧ Below w.heap.size w wr) (fun i _ => l.length - (intOf i).toNat)
  case atStart => exact ⟨0, rfl, Nat.zero_le _, Below.refl _ _⟩
  case round =>
    obtain ⟨k, rfl, hk, hs⟩ := hrel
    by_cases hlt : k < l.length
    · obtain ⟨b, off, rfl, _, hc⟩ := (H.out.below hs.drew).at_ hlt
      obtain ⟨b', off', rfl, _, hc'⟩ := (H'.out.below hs.drew).at_ hlt
      have HB := Lib.hid hs
      generalize hnk : l[k] = n at hc hc'
      clear hnk hs
      have hT := eqPl_any n
      obtain ⟨nx, ny⟩ := n
      unfold Pl.val at hT
      obtain ⟨d0, d1⟩ := hc
      obtain ⟨e0, e1⟩ := hc'
      simp only at d0 d1 e0 e1 hT
      go_wp2_with fail
      go_region_with (go_at_call 68; refine (hT _).mono ?_; rintro e w2 ⟨rfl, hb2⟩; have HB2 := Lib.hid (HB.out.drew.trans (hb2.mono HB.out.size)); clear hb2)
      all_goals
        go_wp2
        go_roundw
        case rel => exact ⟨k + 1, by go_num, by omega, HB2.out⟩
        case measure => simp [intOf]; omega
    · go_wp2
      go_ret
      exact ⟨rfl, hs⟩

def markPl (k : Nat) : Pl := ⟨(k : Int), (k : Int) + 1⟩
def marksPl (k n : Nat) : List Pl := (List.range n).map fun i => markPl (k + 2 * i)
theorem marksPl_length (k n : Nat) : (marksPl k n).length = n := by simp [marksPl]
theorem marksPl_get (k n i : Nat) (h : i < (marksPl k n).length) : (marksPl k n)[i] = markPl (k + 2 * i) := by simp [marksPl]
theorem markedPl_step (l : List Pl) (k j : Nat) (hj : j < l.length) : ((marksPl k l.length).take j ++ l.drop j).set j (markPl (k + 2 * j)) = (marksPl k l.length).take (j + 1) ++ l.drop (j + 1) := by
  have hm : j < (marksPl k l.length).length := by rw [marksPl_length]; exact hj
  have hl : ((marksPl k l.length).take j).length = j := by simp [marksPl_length]; omega
  rw [List.set_append_right _ _ (by omega), hl, Nat.sub_self, List.drop_eq_getElem_cons hj, List.set_cons_zero, List.take_succ_eq_append_getElem hm, marksPl_get, List.append_assoc]
  rfl

set_option maxRecDepth 100000 in
set_option maxHeartbeats 1000000 in
theorem markPls (A : Option Addr) (c base k0 : Nat) (l : List Pl) (w : World) (h : OwnPl w base (.slice A l.length c) l) (hl : l.length ≤ 1100000) (hk0 : k0 ≤ 1000000000) :
    Calls Try.prog 50 #[.slice A l.length c, .int .i64 k0] w fun e w' => e = .returned (.int .i64 ((k0 + 2 * l.length : Nat) : Int)) ∧ OwnPl w' base (.slice A l.length c) (marksPl k0 l.length) ∧ w.grownBy w' (Value.slice A l.length c).ownBlock ∧ w'.heap.size = w.heap.size := by
  go_enter Try.func50, Try.ntmps50
  go_wp2
  go_loopw [1, 5] (fun x i wr => ∃ j K : Nat, i = .int .i64 j ∧ x = .int .i64 K ∧ Hid (K = k0 + 2 * j) ∧ j ≤ l.length ∧ OwnPl wr base (.slice A l.length c) ((marksPl k0 l.length).take j ++ l.drop j) ∧ w.grownBy wr (Value.slice A l.length c).ownBlock ∧ Hid (wr.heap.size = w.heap.size)) (fun _ i _ => l.length - (intOf i).toNat)
  case atStart => exact ⟨0, k0, rfl, rfl, rfl, Nat.zero_le _, by simpa using h, ⟨rfl, rfl, rfl, Nat.le_refl _, fun _ _ _ => rfl⟩, rfl⟩
  case round =>
    obtain ⟨j, K, rfl, rfl, HK, hj, ho, hg, HZ⟩ := hrel
    have hKb : (K : Int) ≤ 2000000000 := by have := HK.out; omega
    by_cases hlt : j < l.length
    · obtain ⟨g, rfl, _, _, hcg, hfg⟩ := ho.at_ (j := j) (by simp [marksPl_length]; omega)
      have HS := Lib.hid (ho.store (j := j) (by simp [marksPl_length]; omega) (markPl K))
      have hf0 := hfg (j * 2)
      have hf1 := hfg (j * 2 + 1)
      obtain ⟨g0, g1⟩ := hcg
      have HG := Lib.hid hg
      clear ho h hfg hg
      go_wp2
      go_roundw
      case rel => exact ⟨j + 1, K + 2, by go_num, by go_num, (by have := HK.out; show _ = _; omega), by omega, by rw [← markedPl_step l k0 j hlt, ← HK.out]; exact HS.out.1, by_trans HG.out HS.out.2, by show (World.setCell _ _ _).heap.size = _; simpa [World.setCell] using HZ.out⟩
      case measure => simp [intOf]; omega
    · have ej : j = l.length := by omega
      subst ej
      have HKE : Hid ((K : Int) = ((k0 + 2 * l.length : Nat) : Int)) := by have := HK.out; show _ = _; omega
      have HO := Lib.hid ho
      have HG := Lib.hid hg
      clear ho hg h
      go_wp2
      go_ret
      exact ⟨ret_int HKE.out, by simpa [marksPl_length, List.take_of_length_le] using HO.out, HG.out, HZ.out⟩

set_option maxRecDepth 100000 in
set_option maxHeartbeats 1000000 in
theorem heldPls (A : Option Addr) (c B k0 n : Nat) (w : World) (h : RPl w B A (marksPl k0 n)) (hl : n ≤ 1100000) (hk0 : k0 ≤ 1000000000) :
    Calls Try.prog 51 #[.slice A n c, .int .i64 k0] w fun e w' => e = .returned (.int .i64 ((k0 + 2 * n : Nat) : Int)) ∧ w = w' := by
  have H := Lib.hid h
  clear h
  go_enter Try.func51, Try.ntmps51
  go_wp2
  go_loop [1, 5] (fun x i => ∃ j K : Nat, i = .int .i64 j ∧ x = .int .i64 K ∧ Hid (K = k0 + 2 * j) ∧ j ≤ n) (fun _ i => n - (intOf i).toNat)
  case atStart => exact ⟨0, k0, rfl, rfl, rfl, Nat.zero_le _⟩
  case round =>
    obtain ⟨j, K, rfl, rfl, HK, hj⟩ := hrel
    have hKb : (K : Int) ≤ 2000000000 := by have := HK.out; omega
    by_cases hlt : j < n
    · obtain ⟨b, off, rfl, _, hc⟩ := H.out.at_ (j := j) (by rw [marksPl_length]; exact hlt)
      rw [marksPl_get, ← HK.out] at hc
      obtain ⟨d0, d1⟩ := hc
      simp only [markPl] at d0 d1
      go_wp2
      go_round
      case rel => exact ⟨j + 1, K + 2, by go_num, by go_num, (by have := HK.out; show _ = _; omega), by omega⟩
      case measure => simp [intOf]; omega
    · have ej : j = n := by omega
      subst ej
      have HKE : Hid ((K : Int) = ((k0 + 2 * j : Nat) : Int)) := by have := HK.out; show _ = _; omega
      go_wp2
      go_ret
      exact ⟨ret_int HKE.out, rfl⟩

theorem newsPl {w : World} {b : Nat} {x : Pl} (h : PlAt w b 0 x) : ∀ j u, x.cells[j]? = some u → w.cell? ((⟨b, 0, none⟩ : Addr).add j) = some u := by
  have e : ∀ i, (⟨b, 0, none⟩ : Addr).add i = ⟨b, i, none⟩ := fun i => by unfold Addr.add; split <;> simp_all
  intro j u hu
  obtain ⟨hj, rfl⟩ := List.getElem?_eq_some_iff.1 hu
  rw [e]
  obtain ⟨c0, c1⟩ := h
  simp only [Nat.zero_add] at c0 c1
  have h5 : j = 0 ∨ j = 1 := by simp [Pl.cells] at hj; omega
  rcases h5 with rfl | rfl
  · exact c0
  · exact c1
/-- One is appended, in a region that draws. -/
theorem step_appendPl {i0 : TypeInfo} (hi : Try.prog.info? 27 = some i0) (hz0 : i0.zero = some (.agg #[.int .i64 0, .int .i64 0])) (hz1 : i0.size = 2) (hz2 : i0.bytes = 16)
    {ops : Array Oper} {o : Oper} {a : Act} {K : Act → World → Prop} {Q : Exit → Act → World → Prop} {E : Prop} (hgd : o.guard = none) (s x : Operand)
    (ho : o.op = .call { callee := .builtin .append, args := #[s, x], argTypes := #[30, 30] })
    (base : Nat) (v : Value) (l : List Pl) (n : Pl) (wr : World) (b : Nat) (hown : OwnPl wr base v l) (hs : a.eval s = v) (hx : a.eval x = .slice (some ⟨b, 0, none⟩) 1 1) (hn : PlAt wr b 0 n) (hlen : l.length ≤ 1000000) (hb : base ≤ wr.heap.size)
    (h : ∀ g cap w', OwnPl w' base (.slice (some ⟨g, 0, none⟩) (l.length + 1) cap) (l ++ [n]) → wr.grownBy w' v.ownBlock → (v.ownBlock = some g ∨ g = wr.heap.size) → K (a.put o.dst (.slice (some ⟨g, 0, none⟩) (l.length + 1) cap)) w') :
    if Region.wanted o (yielded ops a.tmps) = true then Oper.wp Try.prog o a wr K Q else E := by
  refine step_append_lies _ hgd s x 30 ho base 27 i0 (.agg #[.int .i64 0, .int .i64 0]) 2 16 Try.underlying30 hi hz0 hz1 hz2 rfl (by decide) v l.length _ hs hown ⟨b, 0, none⟩ 1 1 n.cells hx rfl (newsPl hn) ?_ (by decide) ?_ ?_ hb wr.heap.size rfl ?_
  · intro u hu
    simp [Pl.cells] at hu
    rcases hu with rfl | rfl <;> rfl
  · unfold maxLen; omega
  · omega
  · intro g cap w' hown' hgrow hlies _
    refine h g cap w' ?_ hgrow hlies
    unfold OwnPl
    simpa [List.flatMap_append] using hown'
/-- One is appended. -/
theorem appendPl {i0 : TypeInfo} (hi : Try.prog.info? 27 = some i0) (hz0 : i0.zero = some (.agg #[.int .i64 0, .int .i64 0])) (hz1 : i0.size = 2) (hz2 : i0.bytes = 16)
    {ops : Array Oper} {rest : List Oper} {o : Oper} {a : Act} {Q : Exit → Act → World → Prop} (hgd : o.guard = none) (s x : Operand)
    (ho : o.op = .call { callee := .builtin .append, args := #[s, x], argTypes := #[30, 30] })
    (base : Nat) (v : Value) (l : List Pl) (n : Pl) (wr : World) (b : Nat) (hown : OwnPl wr base v l) (hs : a.eval s = v) (hx : a.eval x = .slice (some ⟨b, 0, none⟩) 1 1) (hn : PlAt wr b 0 n) (hlen : l.length ≤ 1000000) (hb : base ≤ wr.heap.size)
    (h : ∀ v' w', OwnPl w' base v' (l ++ [n]) → wr.grownBy w' v.ownBlock → wpList Try.prog ops Q rest (a.put o.dst v') w') :
    wpList Try.prog ops Q (o :: rest) a wr := by
  refine wpList_append_own _ hgd s x 30 ho base 27 i0 (.agg #[.int .i64 0, .int .i64 0]) 2 16 Try.underlying30 hi hz0 hz1 hz2 rfl (by decide) v l.length _ hs hown ⟨b, 0, none⟩ 1 1 n.cells hx rfl (newsPl hn) ?_ ?_ ?_ hb ?_
  · intro u hu
    simp [Pl.cells] at hu
    rcases hu with rfl | rfl <;> rfl
  · unfold maxLen; omega
  · omega
  · intro v' w' hown' hgrow _
    refine h v' w' ?_ hgrow
    unfold OwnPl
    simpa [List.flatMap_append] using hown'
end Go.Proofs.Ytmjbefjkkncjlaa
