/- Lists of Change: what can be read, what a call owns; copied, compared, counted, marked and looked at again. -/
import Derived.Test.YtphkceiafehidaaGridL
import Derived.BigQuiet
import Derived.BigRegion
import Derived.Deep.Onto
import Derived.Deep.RegionWith
import Derived.Deep.RegionLaw
namespace Go.Proofs.Ytphkceiafehidaa
open Go.RowKit
set_option linter.unusedVariables false

/-- A Change. -/
structure Ch where
  x : Int
  y : Int
  o : Int
  n : Int
theorem Ch.eq_iff (a b : Ch) : a = b ↔ a.x = b.x ∧ a.y = b.y ∧ a.o = b.o ∧ a.n = b.n := by
  constructor
  · rintro rfl; exact ⟨rfl, rfl, rfl, rfl⟩
  · obtain ⟨nx, ny, no, nn⟩ := a
    obtain ⟨nx', ny', no', nn'⟩ := b
    rintro ⟨h0, h1, h2, h3⟩
    simp only at h0 h1 h2 h3
    subst h0 h1 h2 h3
    rfl
instance : DecidableEq Ch := fun a b => decidable_of_iff _ (Ch.eq_iff a b).symm
instance : Inhabited Ch := ⟨⟨0, 0, 0, 0⟩⟩
def Ch.val (n : Ch) : Value := .agg #[.int .i64 n.x, .int .i64 n.y, .int .i64 n.o, .int .i64 n.n]
def Ch.Fits (n : Ch) : Prop := (Lit.int .i64 n.x).wf = true ∧ (Lit.int .i64 n.y).wf = true ∧ (Lit.int .i64 n.o).wf = true ∧ (Lit.int .i64 n.n).wf = true
/-- The cells from o on hold n. -/
structure ChAt (w : World) (b o : Nat) (n : Ch) : Prop where
  c0 : w.cell? ⟨b, o, none⟩ = some (.int .i64 n.x)
  c1 : w.cell? ⟨b, o + 1, none⟩ = some (.int .i64 n.y)
  c2 : w.cell? ⟨b, o + 2, none⟩ = some (.int .i64 n.o)
  c3 : w.cell? ⟨b, o + 3, none⟩ = some (.int .i64 n.n)
theorem ChAt.parts {w : World} {b o : Nat} {n : Ch} (h : ChAt w b o n) : w.cell? ⟨b, o, none⟩ = some (.int .i64 n.x) ∧ w.cell? ⟨b, o + 1, none⟩ = some (.int .i64 n.y) ∧ w.cell? ⟨b, o + 2, none⟩ = some (.int .i64 n.o) ∧ w.cell? ⟨b, o + 3, none⟩ = some (.int .i64 n.n) := ⟨h.c0, h.c1, h.c2, h.c3⟩
/-- A list that can be read below block B. -/
def RCh (w : World) (B : Nat) (A : Option Addr) (l : List Ch) : Prop := l = [] ∨ ∃ b off, A = some ⟨b, off, none⟩ ∧ b < B ∧ ∀ j (h : j < l.length), ChAt w b (off + j * 4) l[j]
theorem ChAt.keep {w w' : World} {b o : Nat} {n : Ch} (h : ChAt w b o n) (hc : w'.heap[b]? = w.heap[b]?) : ChAt w' b o n :=
  ⟨(World.cell?_of_block (w := w) (a := ⟨b, o, none⟩) hc).trans h.c0, (World.cell?_of_block (w := w) (a := ⟨b, o + 1, none⟩) hc).trans h.c1, (World.cell?_of_block (w := w) (a := ⟨b, o + 2, none⟩) hc).trans h.c2, (World.cell?_of_block (w := w) (a := ⟨b, o + 3, none⟩) hc).trans h.c3⟩
theorem RCh.keep {w w' : World} {B : Nat} {A : Option Addr} {l : List Ch} (h : RCh w B A l) (hc : ∀ k, k < B → w'.heap[k]? = w.heap[k]?) : RCh w' B A l := by
  rcases h with h | ⟨b, off, rfl, hb, hn⟩
  · exact .inl h
  · exact .inr ⟨b, off, rfl, hb, fun j hj => (hn j hj).keep (hc b hb)⟩
theorem RCh.below {w w' : World} {B : Nat} {A : Option Addr} {l : List Ch} (h : RCh w B A l) (hb : Below B w w') : RCh w' B A l := h.keep fun k hk => hb.block k hk
theorem RCh.mono {w : World} {B B' : Nat} {A : Option Addr} {l : List Ch} (h : RCh w B A l) (hB : B ≤ B') : RCh w B' A l := by
  rcases h with h | ⟨b, off, rfl, hb, hn⟩
  · exact .inl h
  · exact .inr ⟨b, off, rfl, by omega, hn⟩
theorem RCh.still {w w' : World} {B : Nat} {A : Option Addr} {l : List Ch} (h : RCh w B A l) (hs : Still w w') : RCh w' B A l := h.keep fun k _ => by rw [hs.1]
theorem RCh.at_ {w : World} {B j : Nat} {A : Option Addr} {l : List Ch} (h : RCh w B A l) (hj : j < l.length) : ∃ b off, A = some ⟨b, off, none⟩ ∧ b < B ∧ ChAt w b (off + j * 4) l[j] := by
  rcases h with h | ⟨b, off, rfl, hb, hn⟩
  · subst h; simp at hj
  · exact ⟨b, off, rfl, hb, hn j hj⟩

def Ch.cells (n : Ch) : List Value := [.int .i64 n.x, .int .i64 n.y, .int .i64 n.o, .int .i64 n.n]
def zeroCh : Ch := ⟨0, 0, 0, 0⟩
theorem flatCh_len (l : List Ch) : (l.flatMap Ch.cells).length = l.length * 4 := by
  induction l with
  | nil => rfl
  | cons x xs ih => simp only [List.flatMap_cons, List.length_append, ih, List.length_cons]; simp [Ch.cells]; omega
theorem flatCh_get : ∀ (l : List Ch) (j i : Nat) (hj : j < l.length), i < 4 → (l.flatMap Ch.cells)[j * 4 + i]? = (l[j].cells)[i]?
  | [], j, i, hj, _ => by simp at hj
  | x :: xs, 0, i, _, hi => by
    simp only [List.flatMap_cons, Nat.zero_mul, Nat.zero_add, List.getElem_cons_zero]
    rw [List.getElem?_append_left (by simpa [Ch.cells] using hi)]
  | x :: xs, j + 1, i, hj, hi => by
    simp only [List.flatMap_cons, List.getElem_cons_succ]
    have e : (j + 1) * 4 + i = x.cells.length + (j * 4 + i) := by simp [Ch.cells]; omega
    rw [e, List.getElem?_append_right (by omega), Nat.add_sub_cancel_left]
    exact flatCh_get xs j i (by simpa using hj) hi
def setCh (L : List Value) (o : Nat) (x : Ch) : List Value := ((((L.set (o) (.int .i64 x.x)).set (o + 1) (.int .i64 x.y)).set (o + 2) (.int .i64 x.o)).set (o + 3) (.int .i64 x.n))
theorem flatCh_set : ∀ (l : List Ch) (j : Nat) (x : Ch), j < l.length → setCh (l.flatMap Ch.cells) (j * 4) x = (l.set j x).flatMap Ch.cells
  | [], j, x, hj => by simp at hj
  | y :: ys, 0, x, _ => by simp [setCh, Ch.cells]
  | y :: ys, j + 1, x, hj => by
    have ih := flatCh_set ys j x (by simpa using hj)
    simp only [List.flatMap_cons, List.set_cons_succ, ← ih]
    have hlen : y.cells.length = 4 := rfl
    unfold setCh
    rw [List.set_append_right _ _ (by omega), List.set_append_right _ _ (by omega), List.set_append_right _ _ (by omega), List.set_append_right _ _ (by omega), hlen]
    rw [show (j + 1) * 4 - 4 = j * 4 by omega, show (j + 1) * 4 + 1 - 4 = j * 4 + 1 by omega, show (j + 1) * 4 + 2 - 4 = j * 4 + 2 by omega, show (j + 1) * 4 + 3 - 4 = j * 4 + 3 by omega]
theorem flatCh_zeros (n : Nat) : (madeCells #[.int .i64 0, .int .i64 0, .int .i64 0, .int .i64 0] (n * 4)).toList = (List.replicate n zeroCh).flatMap Ch.cells := by
  have h1 : (madeCells #[Value.int .i64 0, .int .i64 0, .int .i64 0, .int .i64 0] (n * 4)).toList = List.replicate (n * 4) (.int .i64 0) := by
    rw [List.eq_replicate_iff]
    refine ⟨by simp [madeCells], fun v hv => ?_⟩
    simp only [madeCells, Array.toList_map, List.mem_map] at hv
    obtain ⟨j, _, rfl⟩ := hv
    have h5 : j % 4 = 0 ∨ j % 4 = 1 ∨ j % 4 = 2 ∨ j % 4 = 3 := by omega
    show (#[Value.int .i64 0, .int .i64 0, .int .i64 0, .int .i64 0] : Array Value)[j % 4]! = _
    rcases h5 with h | h | h | h <;> rw [h] <;> rfl
  have h2 : (List.replicate n zeroCh).flatMap Ch.cells = List.replicate (n * 4) (.int .i64 0) := by
    rw [List.eq_replicate_iff]
    refine ⟨by rw [flatCh_len]; simp, fun v hv => ?_⟩
    obtain ⟨x, hx, hv⟩ := List.mem_flatMap.1 hv
    rw [List.eq_of_mem_replicate hx] at hv
    simp [Ch.cells, zeroCh] at hv
    exact hv
  rw [h1, h2]

/-- The slice value v owns, among the blocks from base on, a row that reads as the list l. -/
def OwnCh (w : World) (base : Nat) (v : Value) (l : List Ch) : Prop := w.ownsRow base 136 4 v l.length (l.flatMap Ch.cells)
theorem OwnCh.nil (w : World) (base : Nat) : OwnCh w base (.slice none 0 0) [] := World.ownsRow_nil _ _ _ _
theorem OwnCh.alloc {w : World} {base : Nat} {v : Value} {l : List Ch} (h : OwnCh w base v l) (o : Obj) : OwnCh (w.alloc o) base v l := World.ownsRow.alloc h o
theorem OwnCh.drew {w : World} {base : Nat} {v : Value} {l : List Ch} (h : OwnCh w base v l) : OwnCh w.drew base v l := h
theorem OwnCh.kept {w w' : World} {base : Nat} {v : Value} {l : List Ch} {row : Option Nat} (h : OwnCh w base v l) (hg : w.grownBy w' row) (hr : v.ownBlock = none ∨ v.ownBlock ≠ row) : OwnCh w' base v l := World.ownsRow.kept h hg hr
theorem OwnCh.keep {w w' : World} {base : Nat} {v : Value} {l : List Ch} (h : OwnCh w base v l) (hb : Below w.heap.size w w') : OwnCh w' base v l :=
  World.ownsRow.kept h (row := none) ⟨hb.os, hb.tape, hb.output, hb.size, fun k hk _ => hb.block k hk⟩ (by cases v.ownBlock <;> simp)
theorem OwnCh.lower {w : World} {base base' : Nat} {v : Value} {l : List Ch} (hb : base' ≤ base) (h : OwnCh w base v l) : OwnCh w base' v l := World.ownsRow.mono h hb
theorem OwnCh.set_below {w : World} {base : Nat} {v : Value} {l : List Ch} {a : Addr} (ha : a.block < base) (u : Value) (h : OwnCh w base v l) : OwnCh (w.setCell a u) base v l := ownsRow_setCell_below h ha u
theorem OwnCh.len {w : World} {base n c : Nat} {A : Option Addr} {l : List Ch} (h : OwnCh w base (.slice A n c) l) : n = l.length := by
  rcases h.2 with ⟨hv, hn⟩ | ⟨g, cap, cur, hv, _⟩
  · simp at hv; omega
  · simp at hv; omega
theorem OwnCh.form {w : World} {base : Nat} {v : Value} {l : List Ch} (h : OwnCh w base v l) : ∃ A c, v = .slice A l.length c := by
  rcases h.2 with ⟨hv, hn⟩ | ⟨g, cap, cur, hv, _⟩
  · exact ⟨none, 0, by rw [hv, hn]⟩
  · exact ⟨_, _, hv⟩
theorem OwnCh.lt {w : World} {base : Nat} {v : Value} {l : List Ch} (h : OwnCh w base v l) : ∀ k, v.ownBlock = some k → base ≤ k ∧ k < w.heap.size := World.ownsRow.lt h
theorem OwnCh.at_ {w : World} {base n c j : Nat} {A : Option Addr} {l : List Ch} (h : OwnCh w base (.slice A n c) l) (hj : j < l.length) :
    ∃ g, A = some ⟨g, 0, none⟩ ∧ base ≤ g ∧ g < w.heap.size ∧ ChAt w g (j * 4) l[j] ∧ ∀ i, w.frozen? ⟨g, i, none⟩ = false := by
  have hn := h.len
  subst hn
  rcases h.2 with ⟨hv, hn⟩ | ⟨g, cap, cur, hv, hb, hg, _⟩
  · omega
  · simp only [Value.slice.injEq] at hv
    obtain ⟨rfl, _, rfl⟩ := hv
    have hlt := (World.ownsRow.lt h g rfl).2
    have hc : ∀ i, i < 4 → w.cell? ⟨g, j * 4 + i, none⟩ = (l[j].cells)[i]? := fun i hi => by
      rw [World.ownsRow.cellAt h (j * 4 + i) (by omega)]
      exact flatCh_get l j i hj hi
    exact ⟨g, rfl, hb, hlt, ⟨hc 0 (by omega), hc 1 (by omega), hc 2 (by omega), hc 3 (by omega)⟩, fun i => World.ownsRow.frozenAt h i⟩
theorem OwnCh.r {w : World} {base n c : Nat} {A : Option Addr} {l : List Ch} (h : OwnCh w base (.slice A n c) l) : RCh w w.heap.size A l := by
  by_cases hl : l = []
  · exact .inl hl
  · have h0 : 0 < l.length := List.length_pos_iff.2 hl
    obtain ⟨g, rfl, _, hg, _⟩ := h.at_ h0
    refine .inr ⟨g, 0, rfl, hg, fun j hj => ?_⟩
    obtain ⟨g', e', _, _, hc, _⟩ := h.at_ hj
    cases e'
    simpa using hc
def putCh (w : World) (g o : Nat) (x : Ch) : World := ((((w.setCell ⟨g, o, none⟩ (.int .i64 x.x)).setCell ⟨g, o + 1, none⟩ (.int .i64 x.y)).setCell ⟨g, o + 2, none⟩ (.int .i64 x.o)).setCell ⟨g, o + 3, none⟩ (.int .i64 x.n))
theorem OwnCh.store {w : World} {base g n c j : Nat} {l : List Ch} (h : OwnCh w base (.slice (some ⟨g, 0, none⟩) n c) l) (hj : j < l.length) (x : Ch) :
    OwnCh (putCh w g (j * 4) x) base (.slice (some ⟨g, 0, none⟩) n c) (l.set j x) ∧ w.grownBy (putCh w g (j * 4) x) (some g) := by
  have hn := h.len
  subst hn
  have h0 : w.ownsRow base 136 4 (.slice (some ⟨g, 0, none⟩) l.length c) l.length (l.flatMap Ch.cells) := h
  have s1 := World.ownsRow.stored h0 (j * 4) (.int .i64 x.x)
  have s2 := World.ownsRow.stored s1.1 (j * 4 + 1) (.int .i64 x.y)
  have s3 := World.ownsRow.stored s2.1 (j * 4 + 2) (.int .i64 x.o)
  have s4 := World.ownsRow.stored s3.1 (j * 4 + 3) (.int .i64 x.n)
  have tr : ∀ {a b c : World}, a.grownBy b (some g) → b.grownBy c (some g) → a.grownBy c (some g) := fun h k => ⟨k.os.trans h.os, k.tape.trans h.tape, k.output.trans h.output, Nat.le_trans h.size k.size, fun i hi hne => (k.block i (Nat.lt_of_lt_of_le hi h.size) hne).trans (h.block i hi hne)⟩
  refine ⟨?_, tr (tr (tr s1.2 s2.2) s3.2) s4.2⟩
  unfold OwnCh putCh
  rw [List.length_set, ← flatCh_set l j x hj]
  exact s4.1

theorem own_zerosCh {w : World} {base g n : Nat} (h : w.ownsRow base 136 4 (.slice (some ⟨g, 0, none⟩) n n) n (madeCells #[.int .i64 0, .int .i64 0, .int .i64 0, .int .i64 0] (n * 4)).toList) : OwnCh w base (.slice (some ⟨g, 0, none⟩) n n) (List.replicate n zeroCh) := by
  unfold OwnCh
  rw [flatCh_zeros] at h
  simpa using h
theorem copied_stepCh (l : List Ch) (k : Nat) (hk : k < l.length) : (l.take k ++ List.replicate (l.length - k) zeroCh).set k l[k] = l.take (k + 1) ++ List.replicate (l.length - (k + 1)) zeroCh := by
  have hl : (l.take k).length = k := by simp; omega
  have e : l.length - k = (l.length - (k + 1)) + 1 := by omega
  rw [List.set_append_right _ _ (by omega), hl, Nat.sub_self, e, List.replicate_succ, List.set_cons_zero, List.take_succ_eq_append_getElem hk, List.append_assoc]
  rfl
theorem Try.infoCh : (Try.prog.info? 136).map (fun i => (i.zero, i.size, i.bytes)) = some (some (.agg #[.int .i64 0, .int .i64 0, .int .i64 0, .int .i64 0]), 4, 32) := by kernel_rfl

set_option maxHeartbeats 400000 in
theorem eqCh_any (n : Ch) (w : World) :
    Calls Try.prog 89 #[n.val, n.val] w fun e w' => e = .returned (.bool true) ∧ Below w.heap.size w w' := by
  unfold Ch.val
  go_enter Try.func89, Try.ntmps89
  go_wp2
  go_ret
  exact ⟨rfl, ((Below.refl _ _).alloc (Nat.le_refl _) _).alloc (by simp) _⟩

set_option maxRecDepth 100000 in
set_option maxHeartbeats 400000 in
theorem eqChs (A A' : Option Addr) (c c' : Nat) (l : List Ch) (w : World) (h : RCh w w.heap.size A l) (h' : RCh w w.heap.size A' l) (hl : l.length ≤ 1000000000) :
    Calls Try.prog 61 #[.slice A l.length c, .slice A' l.length c'] w fun e w' => e = .returned (.bool true) ∧ Below w.heap.size w w' := by
  have H := Lib.hid h
  have H' := Lib.hid h'
  clear h h'
  go_enter Try.func61, Try.ntmps61
  go_wp2
  go_loopw [5] (fun i wr => ∃ k : Nat, i = .int .i64 k ∧ k ≤ l.length ∧ Below w.heap.size w wr) (fun i _ => l.length - (intOf i).toNat)
  case atStart => exact ⟨0, rfl, Nat.zero_le _, Below.refl _ _⟩
  case round =>
    obtain ⟨k, rfl, hk, hs⟩ := hrel
    by_cases hlt : k < l.length
    · obtain ⟨b, off, rfl, _, hc⟩ := (H.out.below hs.drew).at_ hlt
      obtain ⟨b', off', rfl, _, hc'⟩ := (H'.out.below hs.drew).at_ hlt
      have HB := Lib.hid hs
      generalize hnk : l[k] = n at hc hc'
      clear hnk hs
      have hT := eqCh_any n
      obtain ⟨nx, ny, no, nn⟩ := n
      unfold Ch.val at hT
      obtain ⟨d0, d1, d2, d3⟩ := hc
      obtain ⟨e0, e1, e2, e3⟩ := hc'
      simp only at d0 d1 d2 d3 e0 e1 e2 e3 hT
      go_wp2_with fail
      go_region_with (go_at_call 89; refine (hT _).mono ?_; rintro e w2 ⟨rfl, hb2⟩; have HB2 := Lib.hid (HB.out.drew.trans (hb2.mono HB.out.size)); clear hb2)
      all_goals
        go_wp2
        go_roundw
        case rel => exact ⟨k + 1, by go_num, by omega, HB2.out⟩
        case measure => simp [intOf]; omega
    · go_wp2
      go_ret
      exact ⟨rfl, hs⟩

def markCh (k : Nat) : Ch := ⟨(k : Int), (k : Int) + 1, (k : Int) + 2, (k : Int) + 3⟩
def marksCh (k n : Nat) : List Ch := (List.range n).map fun i => markCh (k + 4 * i)
theorem marksCh_length (k n : Nat) : (marksCh k n).length = n := by simp [marksCh]
theorem marksCh_get (k n i : Nat) (h : i < (marksCh k n).length) : (marksCh k n)[i] = markCh (k + 4 * i) := by simp [marksCh]
theorem markedCh_step (l : List Ch) (k j : Nat) (hj : j < l.length) : ((marksCh k l.length).take j ++ l.drop j).set j (markCh (k + 4 * j)) = (marksCh k l.length).take (j + 1) ++ l.drop (j + 1) := by
  have hm : j < (marksCh k l.length).length := by rw [marksCh_length]; exact hj
  have hl : ((marksCh k l.length).take j).length = j := by simp [marksCh_length]; omega
  rw [List.set_append_right _ _ (by omega), hl, Nat.sub_self, List.drop_eq_getElem_cons hj, List.set_cons_zero, List.take_succ_eq_append_getElem hm, marksCh_get, List.append_assoc]
  rfl

set_option maxRecDepth 100000 in
set_option maxHeartbeats 1000000 in
theorem markChs (A : Option Addr) (c base k0 : Nat) (l : List Ch) (w : World) (h : OwnCh w base (.slice A l.length c) l) (hl : l.length ≤ 1100000) (hk0 : k0 ≤ 1000000000) :
    Calls Try.prog 63 #[.slice A l.length c, .int .i64 k0] w fun e w' => e = .returned (.int .i64 ((k0 + 4 * l.length : Nat) : Int)) ∧ OwnCh w' base (.slice A l.length c) (marksCh k0 l.length) ∧ w.grownBy w' (Value.slice A l.length c).ownBlock ∧ w'.heap.size = w.heap.size := by
  go_enter Try.func63, Try.ntmps63
  go_wp2
  go_loopw [1, 5] (fun x i wr => ∃ j K : Nat, i = .int .i64 j ∧ x = .int .i64 K ∧ Hid (K = k0 + 4 * j) ∧ j ≤ l.length ∧ OwnCh wr base (.slice A l.length c) ((marksCh k0 l.length).take j ++ l.drop j) ∧ w.grownBy wr (Value.slice A l.length c).ownBlock ∧ Hid (wr.heap.size = w.heap.size)) (fun _ i _ => l.length - (intOf i).toNat)
  case atStart => exact ⟨0, k0, rfl, rfl, rfl, Nat.zero_le _, by simpa using h, ⟨rfl, rfl, rfl, Nat.le_refl _, fun _ _ _ => rfl⟩, rfl⟩
  case round =>
    obtain ⟨j, K, rfl, rfl, HK, hj, ho, hg, HZ⟩ := hrel
    have hKb : (K : Int) ≤ 2000000000 := by have := HK.out; omega
    by_cases hlt : j < l.length
    · obtain ⟨g, rfl, _, _, hcg, hfg⟩ := ho.at_ (j := j) (by simp [marksCh_length]; omega)
      have HS := Lib.hid (ho.store (j := j) (by simp [marksCh_length]; omega) (markCh K))
      have hf0 := hfg (j * 4)
      have hf1 := hfg (j * 4 + 1)
      have hf2 := hfg (j * 4 + 2)
      have hf3 := hfg (j * 4 + 3)
      obtain ⟨g0, g1, g2, g3⟩ := hcg
      have HG := Lib.hid hg
      clear ho h hfg hg
      go_wp2
      go_roundw
      case rel => exact ⟨j + 1, K + 4, by go_num, by go_num, (by have := HK.out; show _ = _; omega), by omega, by rw [← markedCh_step l k0 j hlt, ← HK.out]; exact HS.out.1, by_trans HG.out HS.out.2, by show (World.setCell _ _ _).heap.size = _; simpa [World.setCell] using HZ.out⟩
      case measure => simp [intOf]; omega
    · have ej : j = l.length := by omega
      subst ej
      have HKE : Hid ((K : Int) = ((k0 + 4 * l.length : Nat) : Int)) := by have := HK.out; show _ = _; omega
      have HO := Lib.hid ho
      have HG := Lib.hid hg
      clear ho hg h
      go_wp2
      go_ret
      exact ⟨ret_int HKE.out, by simpa [marksCh_length, List.take_of_length_le] using HO.out, HG.out, HZ.out⟩

set_option maxRecDepth 100000 in
set_option maxHeartbeats 1000000 in
theorem heldChs (A : Option Addr) (c B k0 n : Nat) (w : World) (h : RCh w B A (marksCh k0 n)) (hl : n ≤ 1100000) (hk0 : k0 ≤ 1000000000) :
    Calls Try.prog 65 #[.slice A n c, .int .i64 k0] w fun e w' => e = .returned (.int .i64 ((k0 + 4 * n : Nat) : Int)) ∧ w = w' := by
  have H := Lib.hid h
  clear h
  go_enter Try.func65, Try.ntmps65
  go_wp2
  go_loop [1, 5] (fun x i => ∃ j K : Nat, i = .int .i64 j ∧ x = .int .i64 K ∧ Hid (K = k0 + 4 * j) ∧ j ≤ n) (fun _ i => n - (intOf i).toNat)
  case atStart => exact ⟨0, k0, rfl, rfl, rfl, Nat.zero_le _⟩
  case round =>
    obtain ⟨j, K, rfl, rfl, HK, hj⟩ := hrel
    have hKb : (K : Int) ≤ 2000000000 := by have := HK.out; omega
    by_cases hlt : j < n
    · obtain ⟨b, off, rfl, _, hc⟩ := H.out.at_ (j := j) (by rw [marksCh_length]; exact hlt)
      rw [marksCh_get, ← HK.out] at hc
      obtain ⟨d0, d1, d2, d3⟩ := hc
      simp only [markCh] at d0 d1 d2 d3
      go_wp2
      go_round
      case rel => exact ⟨j + 1, K + 4, by go_num, by go_num, (by have := HK.out; show _ = _; omega), by omega⟩
      case measure => simp [intOf]; omega
    · have ej : j = n := by omega
      subst ej
      have HKE : Hid ((K : Int) = ((k0 + 4 * j : Nat) : Int)) := by have := HK.out; show _ = _; omega
      go_wp2
      go_ret
      exact ⟨ret_int HKE.out, rfl⟩

theorem newsCh {w : World} {b : Nat} {x : Ch} (h : ChAt w b 0 x) : ∀ j u, x.cells[j]? = some u → w.cell? ((⟨b, 0, none⟩ : Addr).add j) = some u := by
  have e : ∀ i, (⟨b, 0, none⟩ : Addr).add i = ⟨b, i, none⟩ := fun i => by unfold Addr.add; split <;> simp_all
  intro j u hu
  obtain ⟨hj, rfl⟩ := List.getElem?_eq_some_iff.1 hu
  rw [e]
  obtain ⟨c0, c1, c2, c3⟩ := h
  simp only [Nat.zero_add] at c0 c1 c2 c3
  have h5 : j = 0 ∨ j = 1 ∨ j = 2 ∨ j = 3 := by simp [Ch.cells] at hj; omega
  rcases h5 with rfl | rfl | rfl | rfl
  · exact c0
  · exact c1
  · exact c2
  · exact c3
/-- One is appended, in a region that draws. -/
theorem step_appendCh {i0 : TypeInfo} (hi : Try.prog.info? 136 = some i0) (hz0 : i0.zero = some (.agg #[.int .i64 0, .int .i64 0, .int .i64 0, .int .i64 0])) (hz1 : i0.size = 4) (hz2 : i0.bytes = 32)
    {ops : Array Oper} {o : Oper} {a : Act} {K : Act → World → Prop} {Q : Exit → Act → World → Prop} {E : Prop} (hgd : o.guard = none) (s x : Operand)
    (ho : o.op = .call { callee := .builtin .append, args := #[s, x], argTypes := #[57, 57] })
    (base : Nat) (v : Value) (l : List Ch) (n : Ch) (wr : World) (b : Nat) (hown : OwnCh wr base v l) (hs : a.eval s = v) (hx : a.eval x = .slice (some ⟨b, 0, none⟩) 1 1) (hn : ChAt wr b 0 n) (hlen : l.length ≤ 1000000) (hb : base ≤ wr.heap.size)
    (h : ∀ g cap w', OwnCh w' base (.slice (some ⟨g, 0, none⟩) (l.length + 1) cap) (l ++ [n]) → wr.grownBy w' v.ownBlock → (v.ownBlock = some g ∨ g = wr.heap.size) → K (a.put o.dst (.slice (some ⟨g, 0, none⟩) (l.length + 1) cap)) w') :
    if Region.wanted o (yielded ops a.tmps) = true then Oper.wp Try.prog o a wr K Q else E := by
  refine step_append_lies _ hgd s x 57 ho base 136 i0 (.agg #[.int .i64 0, .int .i64 0, .int .i64 0, .int .i64 0]) 4 32 Try.underlying57 hi hz0 hz1 hz2 rfl (by decide) v l.length _ hs hown ⟨b, 0, none⟩ 1 1 n.cells hx rfl (newsCh hn) ?_ (by decide) ?_ ?_ hb wr.heap.size rfl ?_
  · intro u hu
    simp [Ch.cells] at hu
    rcases hu with rfl | rfl | rfl | rfl <;> rfl
  · unfold maxLen; omega
  · omega
  · intro g cap w' hown' hgrow hlies _
    refine h g cap w' ?_ hgrow hlies
    unfold OwnCh
    simpa [List.flatMap_append] using hown'
/-- One is appended. -/
theorem appendCh {i0 : TypeInfo} (hi : Try.prog.info? 136 = some i0) (hz0 : i0.zero = some (.agg #[.int .i64 0, .int .i64 0, .int .i64 0, .int .i64 0])) (hz1 : i0.size = 4) (hz2 : i0.bytes = 32)
    {ops : Array Oper} {rest : List Oper} {o : Oper} {a : Act} {Q : Exit → Act → World → Prop} (hgd : o.guard = none) (s x : Operand)
    (ho : o.op = .call { callee := .builtin .append, args := #[s, x], argTypes := #[57, 57] })
    (base : Nat) (v : Value) (l : List Ch) (n : Ch) (wr : World) (b : Nat) (hown : OwnCh wr base v l) (hs : a.eval s = v) (hx : a.eval x = .slice (some ⟨b, 0, none⟩) 1 1) (hn : ChAt wr b 0 n) (hlen : l.length ≤ 1000000) (hb : base ≤ wr.heap.size)
    (h : ∀ v' w', OwnCh w' base v' (l ++ [n]) → wr.grownBy w' v.ownBlock → wpList Try.prog ops Q rest (a.put o.dst v') w') :
    wpList Try.prog ops Q (o :: rest) a wr := by
  refine wpList_append_own _ hgd s x 57 ho base 136 i0 (.agg #[.int .i64 0, .int .i64 0, .int .i64 0, .int .i64 0]) 4 32 Try.underlying57 hi hz0 hz1 hz2 rfl (by decide) v l.length _ hs hown ⟨b, 0, none⟩ 1 1 n.cells hx rfl (newsCh hn) ?_ ?_ ?_ hb ?_
  · intro u hu
    simp [Ch.cells] at hu
    rcases hu with rfl | rfl | rfl | rfl <;> rfl
  · unfold maxLen; omega
  · omega
  · intro v' w' hown' hgrow _
    refine h v' w' ?_ hgrow
    unfold OwnCh
    simpa [List.flatMap_append] using hown'
end Go.Proofs.Ytphkceiafehidaa
