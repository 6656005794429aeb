/- Lists of Change: what can be read, what a call owns; copied, compared, counted, marked and looked at again. -/
import Derived.Test.YtmjbefjkkncjlaaGridL
import Derived.BigQuiet
import Derived.BigRegion
import Derived.Deep.Onto
import Derived.Deep.RegionWith
import Derived.Deep.RegionLaw
namespace Go.Proofs.Ytmjbefjkkncjlaa
open Go.RowKit
set_option linter.unusedVariables false

/-- A Change. -/
structure Ch where
  x : Int
  y : Int
  o : Int
  n : Int
theorem Ch.eq_iff (a b : Ch) : a = b ↔ a.x = b.x ∧ a.y = b.y ∧ a.o = b.o ∧ a.n = b.n := by
  constructor
  · rintro rfl; exact ⟨rfl, rfl, rfl, rfl⟩
  · obtain ⟨nx, ny, no, nn⟩ := a
    obtain ⟨nx', ny', no', nn'⟩ := b
    rintro ⟨h0, h1, h2, h3⟩
    simp only at h0 h1 h2 h3
    subst h0 h1 h2 h3
    rfl
instance : DecidableEq Ch := fun a b => decidable_of_iff _ (Ch.eq_iff a b).symm
instance : Inhabited Ch := ⟨⟨0, 0, 0, 0⟩⟩
def Ch.val (n : Ch) : Value := .agg #[.int .i64 n.x, .int .i64 n.y, .int .i64 n.o, .int .i64 n.n]
def Ch.Fits (n : Ch) : Prop := (Lit.int .i64 n.x).wf = true ∧ (Lit.int .i64 n.y).wf = true ∧ (Lit.int .i64 n.o).wf = true ∧ (Lit.int .i64 n.n).wf = true
/-- The cells from o on hold n. -/
structure ChAt (w : World) (b o : Nat) (n : Ch) : Prop where
  c0 : w.cell? ⟨b, o, none⟩ = some (.int .i64 n.x)
  c1 : w.cell? ⟨b, o + 1, none⟩ = some (.int .i64 n.y)
  c2 : w.cell? ⟨b, o + 2, none⟩ = some (.int .i64 n.o)
  c3 : w.cell? ⟨b, o + 3, none⟩ = some (.int .i64 n.n)
theorem ChAt.parts {w : World} {b o : Nat} {n : Ch} (h : ChAt w b o n) : w.cell? ⟨b, o, none⟩ = some (.int .i64 n.x) ∧ w.cell? ⟨b, o + 1, none⟩ = some (.int .i64 n.y) ∧ w.cell? ⟨b, o + 2, none⟩ = some (.int .i64 n.o) ∧ w.cell? ⟨b, o + 3, none⟩ = some (.int .i64 n.n) := ⟨h.c0, h.c1, h.c2, h.c3⟩
/-- A list that can be read below block B. -/
def RCh (w : World) (B : Nat) (A : Option Addr) (l : List Ch) : Prop := l = [] ∨ ∃ b off, A = some ⟨b, off, none⟩ ∧ b < B ∧ ∀ j (h : j < l.length), ChAt w b (off + j * 4) l[j]
theorem ChAt.keep {w w' : World} {b o : Nat} {n : Ch} (h : ChAt w b o n) (hc : w'.heap[b]? = w.heap[b]?) : ChAt w' b o n :=
  ⟨(World.cell?_of_block (w := w) (a := ⟨b, o, none⟩) hc).trans h.c0, (World.cell?_of_block (w := w) (a := ⟨b, o + 1, none⟩) hc).trans h.c1, (World.cell?_of_block (w := w) (a := ⟨b, o + 2, none⟩) hc).trans h.c2, (World.cell?_of_block (w := w) (a := ⟨b, o + 3, none⟩) hc).trans h.c3⟩
theorem RCh.keep {w w' : World} {B : Nat} {A : Option Addr} {l : List Ch} (h : RCh w B A l) (hc : ∀ k, k < B → w'.heap[k]? = w.heap[k]?) : RCh w' B A l := by
  rcases h with h | ⟨b, off, rfl, hb, hn⟩
  · exact .inl h
  · exact .inr ⟨b, off, rfl, hb, fun j hj => (hn j hj).keep (hc b hb)⟩
theorem RCh.below {w w' : World} {B : Nat} {A : Option Addr} {l : List Ch} (h : RCh w B A l) (hb : Below B w w') : RCh w' B A l := h.keep fun k hk => hb.block k hk
theorem RCh.mono {w : World} {B B' : Nat} {A : Option Addr} {l : List Ch} (h : RCh w B A l) (hB : B ≤ B') : RCh w B' A l := by
  rcases h with h | ⟨b, off, rfl, hb, hn⟩
  · exact .inl h
  · exact .inr ⟨b, off, rfl, by omega, hn⟩
theorem RCh.still {w w' : World} {B : Nat} {A : Option Addr} {l : List Ch} (h : RCh w B A l) (hs : Still w w') : RCh w' B A l := h.keep fun k _ => by rw [hs.1]
theorem RCh.at_ {w : World} {B j : Nat} {A : Option Addr} {l : List Ch} (h : RCh w B A l) (hj : j < l.length) : ∃ b off, A = some ⟨b, off, none⟩ ∧ b < B ∧ ChAt w b (off + j * 4) l[j] := by
  rcases h with h | ⟨b, off, rfl, hb, hn⟩
  · subst h; simp at hj
  · exact ⟨b, off, rfl, hb, hn j hj⟩

def Ch.cells (n : Ch) : List Value := [.int .i64 n.x, .int .i64 n.y, .int .i64 n.o, .int .i64 n.n]
def zeroCh : Ch := ⟨0, 0, 0, 0⟩
theorem flatCh_len (l : List Ch) : (l.flatMap Ch.cells).length = l.length * 4 := by
  induction l with
  | nil => rfl
  | cons x xs ih => simp only [List.flatMap_cons, List.length_append, ih, List.length_cons]; simp [Ch.cells]; omega
theorem flatCh_get : ∀ (l : List Ch) (j i : Nat) (hj : j < l.length), i < 4 → (l.flatMap Ch.cells)[j * 4 + i]? = (l[j].cells)[i]?
  | [], j, i, hj, _ => by simp at hj
  | x :: xs, 0, i, _, hi => by
    simp only [List.flatMap_cons, Nat.zero_mul, Nat.zero_add, List.getElem_cons_zero]
    rw [List.getElem?_append_left (by simpa [Ch.cells] using hi)]
  | x :: xs, j + 1, i, hj, hi => by
    simp only [List.flatMap_cons, List.getElem_cons_succ]
    have e : (j + 1) * 4 + i = x.cells.length + (j * 4 + i) := by simp [Ch.cells]; omega
    rw [e, List.getElem?_append_right (by omega), Nat.add_sub_cancel_left]
    exact flatCh_get xs j i (by simpa using hj) hi
def setCh (L : List Value) (o : Nat) (x : Ch) : List Value := ((((L.set (o) (.int .i64 x.x)).set (o + 1) (.int .i64 x.y)).set (o + 2) (.int .i64 x.o)).set (o + 3) (.int .i64 x.n))
theorem flatCh_set : ∀ (l : List Ch) (j : Nat) (x : Ch), j < l.length → setCh (l.flatMap Ch.cells) (j * 4) x = (l.set j x).flatMap Ch.cells
  | [], j, x, hj => by simp at hj
  | y :: ys, 0, x, _ => by simp [setCh, Ch.cells]
  | y :: ys, j + 1, x, hj => by
    have ih := flatCh_set ys j x (by simpa using hj)
    simp only [List.flatMap_cons, List.set_cons_succ, ← ih]
    have hlen : y.cells.length = 4 := rfl
    unfold setCh
    rw [List.set_append_right _ _ (by omega), List.set_append_right _ _ (by omega), List.set_append_right _ _ (by omega), List.set_append_right _ _ (by omega), hlen]
    rw [show (j + 1) * 4 - 4 = j * 4 by omega, show (j + 1) * 4 + 1 - 4 = j * 4 + 1 by omega, show (j + 1) * 4 + 2 - 4 = j * 4 + 2 by omega, show (j + 1) * 4 + 3 - 4 = j * 4 + 3 by omega]
theorem flatCh_zeros (n : Nat) : (madeCells #[.int .i64 0, .int .i64 0, .int .i64 0, .int .i64 0] (n * 4)).toList = (List.replicate n zeroCh).flatMap Ch.cells := by
  have h1 : (madeCells #[Value.int .i64 0, .int .i64 0, .int .i64 0, .int .i64 0] (n * 4)).toList = List.replicate (n * 4) (.int .i64 0) := by
    rw [List.eq_replicate_iff]
    refine ⟨by simp [madeCells], fun v hv => ?_⟩
    simp only [madeCells, Array.toList_map, List.mem_map] at hv
    obtain ⟨j, _, rfl⟩ := hv
    have h5 : j % 4 = 0 ∨ j % 4 = 1 ∨ j % 4 = 2 ∨ j % 4 = 3 := by omega
    show (#[Value.int .i64 0, .int .i64 0, .int .i64 0, .int .i64 0] : Array Value)[j % 4]! = _
    rcases h5 with h | h | h | h <;> rw [h] <;> rfl
  have h2 : (List.replicate n zeroCh).flatMap Ch.cells = List.replicate (n * 4) (.int .i64 0) := by
    rw [List.eq_replicate_iff]
    refine ⟨by rw [flatCh_len]; simp, fun v hv => ?_⟩
    obtain ⟨x, hx, hv⟩ := List.mem_flatMap.1 hv
    rw [List.eq_of_mem_replicate hx] at hv
    simp [Ch.cells, zeroCh] at hv
    exact hv
  rw [h1, h2]

def putCh (w : World) (g o : Nat) (x : Ch) : World := ((((w.setCell ⟨g, o, none⟩ (.int .i64 x.x)).setCell ⟨g, o + 1, none⟩ (.int .i64 x.y)).setCell ⟨g, o + 2, none⟩ (.int .i64 x.o)).setCell ⟨g, o + 3, none⟩ (.int .i64 x.n))
theorem copied_stepCh (l : List Ch) (k : Nat) (hk : k < l.length) : (l.take k ++ List.replicate (l.length - k) zeroCh).set k l[k] = l.take (k + 1) ++ List.replicate (l.length - (k + 1)) zeroCh := by
  have hl : (l.take k).length = k := by simp; omega
  have e : l.length - k = (l.length - (k + 1)) + 1 := by omega
  rw [List.set_append_right _ _ (by omega), hl, Nat.sub_self, e, List.replicate_succ, List.set_cons_zero, List.take_succ_eq_append_getElem hk, List.append_assoc]
  rfl
def markCh (k : Nat) : Ch := ⟨(k : Int), (k : Int) + 1, (k : Int) + 2, (k : Int) + 3⟩
def marksCh (k n : Nat) : List Ch := (List.range n).map fun i => markCh (k + 4 * i)
theorem marksCh_length (k n : Nat) : (marksCh k n).length = n := by simp [marksCh]
theorem marksCh_get (k n i : Nat) (h : i < (marksCh k n).length) : (marksCh k n)[i] = markCh (k + 4 * i) := by simp [marksCh]
theorem markedCh_step (l : List Ch) (k j : Nat) (hj : j < l.length) : ((marksCh k l.length).take j ++ l.drop j).set j (markCh (k + 4 * j)) = (marksCh k l.length).take (j + 1) ++ l.drop (j + 1) := by
  have hm : j < (marksCh k l.length).length := by rw [marksCh_length]; exact hj
  have hl : ((marksCh k l.length).take j).length = j := by simp [marksCh_length]; omega
  rw [List.set_append_right _ _ (by omega), hl, Nat.sub_self, List.drop_eq_getElem_cons hj, List.set_cons_zero, List.take_succ_eq_append_getElem hm, marksCh_get, List.append_assoc]
  rfl

theorem newsCh {w : World} {b : Nat} {x : Ch} (h : ChAt w b 0 x) : ∀ j u, x.cells[j]? = some u → w.cell? ((⟨b, 0, none⟩ : Addr).add j) = some u := by
  have e : ∀ i, (⟨b, 0, none⟩ : Addr).add i = ⟨b, i, none⟩ := fun i => by unfold Addr.add; split <;> simp_all
  intro j u hu
  obtain ⟨hj, rfl⟩ := List.getElem?_eq_some_iff.1 hu
  rw [e]
  obtain ⟨c0, c1, c2, c3⟩ := h
  simp only [Nat.zero_add] at c0 c1 c2 c3
  have h5 : j = 0 ∨ j = 1 ∨ j = 2 ∨ j = 3 := by simp [Ch.cells] at hj; omega
  rcases h5 with rfl | rfl | rfl | rfl
  · exact c0
  · exact c1
  · exact c2
  · exact c3
end Go.Proofs.Ytmjbefjkkncjlaa
