/- A merge in the making: three maps in their boxes, the answer in its box, its tiles, its clashes. -/
import Derived.Test.YthhadbojepcdjaaDfM
namespace Go.Proofs.Ythhadbojepcdjaa
open Go.RowKit
set_option linter.unusedVariables false

/-- The box of a merge's answer. -/
structure MB (w : World) (q : Nat) (side : Int) (vT vC : Value) (code : Int) : Prop where
  c0 : w.cell? ⟨q, 0, none⟩ = some (.int .i64 side)
  c1 : w.cell? ⟨q, 1, none⟩ = some vT
  c2 : w.cell? ⟨q, 2, none⟩ = some vC
  c3 : w.cell? ⟨q, 3, none⟩ = some (.int .i64 code)
  f0 : w.frozen? ⟨q, 0, none⟩ = false
  f1 : w.frozen? ⟨q, 1, none⟩ = false
  f2 : w.frozen? ⟨q, 2, none⟩ = false
  f3 : w.frozen? ⟨q, 3, none⟩ = false
section
variable {w w' : World} {q : Nat} {side code : Int} {vT vC : Value}
theorem MB.at_ (h : MB w q side vT vC code) (e : w'.heap[q]? = w.heap[q]?) : MB w' q side vT vC code :=
  ⟨(World.cell?_of_block (a := ⟨q, 0, none⟩) e).trans h.c0, (World.cell?_of_block (a := ⟨q, 1, none⟩) e).trans h.c1, (World.cell?_of_block (a := ⟨q, 2, none⟩) e).trans h.c2, (World.cell?_of_block (a := ⟨q, 3, none⟩) e).trans h.c3,
   (World.frozen?_of_block (a := ⟨q, 0, none⟩) e).trans h.f0, (World.frozen?_of_block (a := ⟨q, 1, none⟩) e).trans h.f1, (World.frozen?_of_block (a := ⟨q, 2, none⟩) e).trans h.f2, (World.frozen?_of_block (a := ⟨q, 3, none⟩) e).trans h.f3⟩
theorem MB.made (w : World) (side code : Int) (vT vC : Value) (t : TypeId) : MB (w.alloc (.cells #[.int .i64 side, vT, vC, .int .i64 code] t)) w.heap.size side vT vC code :=
  ⟨by simp [go_sem], by simp [go_sem], by simp [go_sem], by simp [go_sem], by simp [go_sem], by simp [go_sem], by simp [go_sem], by simp [go_sem]⟩
theorem MB.set1 (h : MB w q side vT vC code) (v : Value) : MB (w.setCell ⟨q, 1, none⟩ v) q side v vC code :=
  ⟨(World.cell?_setCell_other _ _ _ _ (by simp)).trans h.c0, World.cell?_setCell_same _ _ _ h.c1, (World.cell?_setCell_other _ _ _ _ (by simp)).trans h.c2, (World.cell?_setCell_other _ _ _ _ (by simp)).trans h.c3, by simpa using h.f0, by simpa using h.f1, by simpa using h.f2, by simpa using h.f3⟩
theorem MB.set2 (h : MB w q side vT vC code) (v : Value) : MB (w.setCell ⟨q, 2, none⟩ v) q side vT v code :=
  ⟨(World.cell?_setCell_other _ _ _ _ (by simp)).trans h.c0, (World.cell?_setCell_other _ _ _ _ (by simp)).trans h.c1, World.cell?_setCell_same _ _ _ h.c2, (World.cell?_setCell_other _ _ _ _ (by simp)).trans h.c3, by simpa using h.f0, by simpa using h.f1, by simpa using h.f2, by simpa using h.f3⟩
end
theorem grown_set1 (w : World) (a : Addr) (u : Value) : w.grownBy (w.setCell a u) (some a.block) := ⟨rfl, rfl, rfl, by simp, fun k _ hk => heap_setCell_other w a k u (fun e => hk (by rw [e]))⟩
theorem GB.at_ {w w' : World} {b : Nat} {side : Int} {v : Value} (h : GB w b side v) (e : w'.heap[b]? = w.heap[b]?) : GB w' b side v :=
  ⟨(World.cell?_of_block (a := ⟨b, 0, none⟩) e).trans h.c0, (World.cell?_of_block (a := ⟨b, 1, none⟩) e).trans h.c1, (World.frozen?_of_block (a := ⟨b, 0, none⟩) e).trans h.f0, (World.frozen?_of_block (a := ⟨b, 1, none⟩) e).trans h.f1⟩

/-- Three maps in their boxes, and the box of what is to be handed back. -/
structure M3 (w : World) (so : Int) (vo : Value) (sa : Int) (va : Value) (sb : Int) (vb : Value) (wr : World) : Prop where
  o : GB wr w.heap.size so vo
  a : GB wr (w.heap.size + 1) sa va
  b : GB wr (w.heap.size + 1 + 1) sb vb
  r : MB wr (w.heap.size + 1 + 1 + 1) 0 (.slice none 0 0) (.slice none 0 0) 0
  bel : Below w.heap.size w wr
  siz : w.heap.size + 1 + 1 + 1 < wr.heap.size
section
variable {w : World} {so sa sb : Int} {vo va vb : Value} {wr wr' : World}
/-- The four boxes stay where their blocks do. -/
theorem M3.at_ (h : M3 w so vo sa va sb vb wr) (hk : ∀ k, k < w.heap.size + 1 + 1 + 1 + 1 → wr'.heap[k]? = wr.heap[k]?) (ho : wr'.os = wr.os) (ht : wr'.tape = wr.tape) (hu : wr'.output = wr.output) (hz : wr.heap.size ≤ wr'.heap.size) : M3 w so vo sa va sb vb wr' :=
  ⟨h.o.at_ (hk _ (by omega)), h.a.at_ (hk _ (by omega)), h.b.at_ (hk _ (by omega)), h.r.at_ (hk _ (by omega)), ⟨ho.trans h.bel.os, ht.trans h.bel.tape, hu.trans h.bel.output, Nat.le_trans h.bel.size hz, fun k hk' => (hk k (by omega)).trans (h.bel.block k hk')⟩, Nat.lt_of_lt_of_le h.siz hz⟩
theorem M3.below (h : M3 w so vo sa va sb vb wr) (hb : Below wr.heap.size wr wr') : M3 w so vo sa va sb vb wr' := h.at_ (fun k hk => hb.block k (by have := h.siz; omega)) hb.os hb.tape hb.output hb.size
theorem M3.drew (h : M3 w so vo sa va sb vb wr) : M3 w so vo sa va sb vb wr.drew := h.below (Below.refl _ _).drew
theorem M3.made (w : World) (so : Int) (vo : Value) (sa : Int) (va : Value) (sb : Int) (vb : Value) : M3 w so vo sa va sb vb ((((w.alloc (.cells #[.int .i64 so, vo] 25)).alloc (.cells #[.int .i64 sa, va] 25)).alloc (.cells #[.int .i64 sb, vb] 25)).alloc (.cells #[.int .i64 0, .slice none 0 0, .slice none 0 0, .int .i64 0] 45)) :=
  ⟨⟨by simp [go_sem], by simp [go_sem], by simp [go_sem], by simp [go_sem]⟩, ⟨by simp [go_sem], by simp [go_sem], by simp [go_sem], by simp [go_sem]⟩, ⟨by simp [go_sem], by simp [go_sem], by simp [go_sem], by simp [go_sem]⟩,
   ⟨by simp [go_sem], by simp [go_sem], by simp [go_sem], by simp [go_sem], by simp [go_sem], by simp [go_sem], by simp [go_sem], by simp [go_sem]⟩,
   ((((Below.refl _ _).alloc (Nat.le_refl _) _).alloc (by simp) _).alloc (by simp; omega) _).alloc (by simp; omega) _, by simp⟩
end
/-- The answer in the making: box q, its tiles, its clashes, apart from each other. -/
structure MI (w : World) (so : Int) (vo : Value) (sa : Int) (va : Value) (sb : Int) (vb : Value) (B q : Nat) (side : Int) (vT vC : Value) (T : List Int) (C : List Ch) (wr : World) : Prop where
  three : M3 w so vo sa va sb vb wr
  m : MB wr q side vT vC 0
  oT : OwnI 2 .i64 wr B vT T
  oC : OwnCh wr B vC C
  siz : w.heap.size + 1 + 1 + 1 < B ∧ B ≤ q ∧ q < wr.heap.size
  aT : vT.ownBlock ≠ some q
  aC : vC.ownBlock ≠ some q
  ap : ∀ k, vT.ownBlock = some k → vC.ownBlock ≠ some k
section
variable {w : World} {so sa sb : Int} {vo va vb : Value} {B q : Nat} {side : Int} {vT vC : Value} {T : List Int} {C : List Ch} {wr wr' : World}
theorem MI.below (h : MI w so vo sa va sb vb B q side vT vC T C wr) (hb : Below wr.heap.size wr wr') : MI w so vo sa va sb vb B q side vT vC T C wr' := by
  obtain ⟨z1, z2, z3⟩ := h.siz
  exact ⟨h.three.below hb, h.m.at_ (hb.block q z3), h.oT.keep hb, h.oC.keep hb, ⟨z1, z2, Nat.lt_of_lt_of_le z3 hb.size⟩, h.aT, h.aC, h.ap⟩
theorem MI.drew (h : MI w so vo sa va sb vb B q side vT vC T C wr) : MI w so vo sa va sb vb B q side vT vC T C wr.drew := h.below (Below.refl _ _).drew
theorem MI.bel (h : MI w so vo sa va sb vb B q side vT vC T C wr) : Below w.heap.size w wr := h.three.bel
/-- A tile turns. -/
theorem MI.setT {g n c : Nat} (h : MI w so vo sa va sb vb B q side (.slice (some ⟨g, 0, none⟩) n c) vC T C wr) (j : Nat) (x : Int) : MI w so vo sa va sb vb B q side (.slice (some ⟨g, 0, none⟩) n c) vC (T.set j x) C (wr.setCell ⟨g, j, none⟩ (.int .i64 x)) := by
  obtain ⟨z1, z2, z3⟩ := h.siz
  have hs := h.oT.store (j := j) x
  have hg := (World.ownsRow.lt h.oT g rfl).1
  have hne : ∀ k, k ≠ g → (wr.setCell ⟨g, j, none⟩ (.int .i64 x)).heap[k]? = wr.heap[k]? := fun k hk => heap_setCell_other wr ⟨g, j, none⟩ k _ (fun e => hk (by simpa using e))
  have hq : q ≠ g := fun e => h.aT (by rw [e]; rfl)
  refine ⟨h.three.at_ (fun k hk => hne k (by omega)) rfl rfl rfl (by simp), h.m.at_ (hne q hq), hs.1, World.ownsRow.kept h.oC hs.2 (.inr (h.ap g rfl)), ⟨z1, z2, by simpa using z3⟩, h.aT, h.aC, h.ap⟩
/-- A clash is appended, and the new row stored. -/
theorem MI.pushC {g n c : Nat} {C' : List Ch} (h : MI w so vo sa va sb vb B q side vT vC T C wr) (ho : OwnCh wr' B (.slice (some ⟨g, 0, none⟩) n c) C') (hg : wr.grownBy wr' vC.ownBlock) (hl : vC.ownBlock = some g ∨ g = wr.heap.size) :
    MI w so vo sa va sb vb B q side vT (.slice (some ⟨g, 0, none⟩) n c) T C' (wr'.setCell ⟨q, 2, none⟩ (.slice (some ⟨g, 0, none⟩) n c)) := by
  obtain ⟨z1, z2, z3⟩ := h.siz
  have hgq : g ≠ q := by
    rcases hl with hl | hl
    · intro e; exact h.aC (by rw [hl, e])
    · omega
  have hlo := fun k hk => (h.oC.lt k hk).1
  have hkeep : ∀ k, k < wr.heap.size → vC.ownBlock ≠ some k → k ≠ q → (wr'.setCell ⟨q, 2, none⟩ (.slice (some ⟨g, 0, none⟩) n c)).heap[k]? = wr.heap[k]? := fun k hk h1 h2 =>
    (heap_setCell_other wr' ⟨q, 2, none⟩ k _ (fun e => h2 (by simpa using e))).trans (hg.block k hk (fun e => h1 e.symm))
  have hm : MB wr' q side vT vC 0 := h.m.at_ (hg.block q z3 (fun e => h.aC e.symm))
  have hT : OwnI 2 .i64 wr' B vT T := World.ownsRow.kept h.oT hg (by
    cases e : vT.ownBlock with
    | none => exact .inl rfl
    | some k => exact .inr (fun e' => h.ap k e e'.symm))
  refine ⟨h.three.at_ (fun k hk => hkeep k (by have := h.three.siz; omega) (fun e => by have := hlo k e; omega) (by omega)) hg.os hg.tape hg.output (by simpa using hg.size), hm.set2 _, World.ownsRow.kept hT (grown_set1 _ _ _) (.inr h.aT), World.ownsRow.kept ho (grown_set1 _ _ _) (.inr (by simpa [Value.ownBlock] using hgq)), ⟨z1, z2, by have := hg.size; simp; omega⟩, h.aT, by simpa [Value.ownBlock] using hgq, fun k hk e => ?_⟩
  have hkl := (World.ownsRow.lt h.oT k hk).2
  simp only [Value.ownBlock, Option.some.injEq] at e
  subst e
  rcases hl with hl | hl
  · exact h.ap _ hk hl
  · omega
/-- A tile is appended, and the new row stored. -/
theorem MI.pushT {g n c : Nat} {T' : List Int} (h : MI w so vo sa va sb vb B q side vT vC T C wr) (ho : OwnI 2 .i64 wr' B (.slice (some ⟨g, 0, none⟩) n c) T') (hg : wr.grownBy wr' vT.ownBlock) (hl : vT.ownBlock = some g ∨ g = wr.heap.size) :
    MI w so vo sa va sb vb B q side (.slice (some ⟨g, 0, none⟩) n c) vC T' C (wr'.setCell ⟨q, 1, none⟩ (.slice (some ⟨g, 0, none⟩) n c)) := by
  obtain ⟨z1, z2, z3⟩ := h.siz
  have hgq : g ≠ q := by
    rcases hl with hl | hl
    · intro e; exact h.aT (by rw [hl, e])
    · omega
  have hlo := fun k hk => (World.ownsRow.lt h.oT k hk).1
  have hkeep : ∀ k, k < wr.heap.size → vT.ownBlock ≠ some k → k ≠ q → (wr'.setCell ⟨q, 1, none⟩ (.slice (some ⟨g, 0, none⟩) n c)).heap[k]? = wr.heap[k]? := fun k hk h1 h2 =>
    (heap_setCell_other wr' ⟨q, 1, none⟩ k _ (fun e => h2 (by simpa using e))).trans (hg.block k hk (fun e => h1 e.symm))
  have hm : MB wr' q side vT vC 0 := h.m.at_ (hg.block q z3 (fun e => h.aT e.symm))
  have hC : OwnCh wr' B vC C := World.ownsRow.kept h.oC hg (by
    cases e : vT.ownBlock with
    | none =>
      cases e2 : vC.ownBlock with
      | none => exact .inl rfl
      | some k => exact .inr (by simp)
    | some k => exact .inr (h.ap k e))
  refine ⟨h.three.at_ (fun k hk => hkeep k (by have := h.three.siz; omega) (fun e => by have := hlo k e; omega) (by omega)) hg.os hg.tape hg.output (by simpa using hg.size), hm.set1 _, World.ownsRow.kept ho (grown_set1 _ _ _) (.inr (by simpa [Value.ownBlock] using hgq)), World.ownsRow.kept hC (grown_set1 _ _ _) (.inr h.aC), ⟨z1, z2, by have := hg.size; simp; omega⟩, by simpa [Value.ownBlock] using hgq, h.aC, fun k hk e => ?_⟩
  have hkl := (h.oC.lt k e).2
  simp only [Value.ownBlock, Option.some.injEq] at hk
  subst hk
  rcases hl with hl | hl
  · exact h.ap _ hl e
  · omega
end

/-- What Merge hands back: its tiles and its clashes in rows of their own. -/
def MOut (w w' : World) (r : Int × Int × List Int × List Ch) (e : Ending) : Prop :=
  ∃ A c A' c', e = .returned (.agg #[.int .i64 r.2.1, .slice A r.2.2.1.length c, .slice A' r.2.2.2.length c', .int .i64 r.1]) ∧ OwnI 2 .i64 w' w.heap.size (.slice A r.2.2.1.length c) r.2.2.1 ∧ OwnCh w' w.heap.size (.slice A' r.2.2.2.length c') r.2.2.2 ∧ (∀ k, (Value.slice A r.2.2.1.length c).ownBlock = some k → (Value.slice A' r.2.2.2.length c').ownBlock ≠ some k) ∧ Below w.heap.size w w'
end Go.Proofs.Ythhadbojepcdjaa
