/- What the laws of chapter 5 draw: a map and a list of changes, in the making. -/
import Derived.Test.YthhadbojepcdjaaDr4
import Derived.Test.YthhadbojepcdjaaMgL
import Derived.Test.YthhadbojepcdjaaDfU
namespace Go.Proofs.Ythhadbojepcdjaa
open Go.RowKit
set_option linter.unusedVariables false

theorem sm_cons {c : Ch} {cs : List Ch} (h : SmCh c) (hs : ∀ d ∈ cs, SmCh d) : ∀ d ∈ c :: cs, SmCh d := by
  intro d hd
  rcases List.mem_cons.1 hd with e | hd
  · rw [e]; exact h
  · exact hs d hd
/-- One cell of a row of changes is set: a row of changes still. -/
theorem flat_set1 : ∀ (l : List Ch) (j i : Nat) (x : Int), j < l.length → i < 4 → (-100 ≤ x ∧ x ≤ 100) → (∀ c ∈ l, SmCh c) → ∃ l' : List Ch, l'.length = l.length ∧ (∀ c ∈ l', SmCh c) ∧ (l.flatMap Ch.cells).set (j * 4 + i) (.int .i64 x) = l'.flatMap Ch.cells
  | [], j, i, x, h, _, _, _ => by simp at h
  | c :: cs, 0, i, x, _, hi, hx, hs => by
    have h0 := hs c (by simp)
    have h1 : ∀ d ∈ cs, SmCh d := fun d hd => hs d (by simp [hd])
    match i, hi with
    | 0, _ => exact ⟨⟨x, c.y, c.o, c.n⟩ :: cs, rfl, sm_cons ⟨hx, h0.2.1, h0.2.2.1, h0.2.2.2⟩ h1, by simp [Ch.cells]⟩
    | 1, _ => exact ⟨⟨c.x, x, c.o, c.n⟩ :: cs, rfl, sm_cons ⟨h0.1, hx, h0.2.2.1, h0.2.2.2⟩ h1, by simp [Ch.cells]⟩
    | 2, _ => exact ⟨⟨c.x, c.y, x, c.n⟩ :: cs, rfl, sm_cons ⟨h0.1, h0.2.1, hx, h0.2.2.2⟩ h1, by simp [Ch.cells]⟩
    | 3, _ => exact ⟨⟨c.x, c.y, c.o, x⟩ :: cs, rfl, sm_cons ⟨h0.1, h0.2.1, h0.2.2.1, hx⟩ h1, by simp [Ch.cells]⟩
  | c :: cs, j + 1, i, x, hj, hi, hx, hs => by
    obtain ⟨l', e1, e2, e3⟩ := flat_set1 cs j i x (by simpa using hj) hi hx (fun d hd => hs d (by simp [hd]))
    refine ⟨c :: l', by simp [e1], ?_, ?_⟩
    · exact sm_cons (hs c (by simp)) e2
    · have hk : (j + 1) * 4 + i = c.cells.length + (j * 4 + i) := by simp [Ch.cells]; omega
      rw [List.flatMap_cons, List.flatMap_cons, ← e3, hk, List.set_append_right _ _ (by omega)]
      congr 2
      omega
/-- While changes are drawn: the box to hand back, still empty; the map in its box; the changes. -/
structure CX (w : World) (g q : Nat) (side : Int) (vT : Value) (lt : List Int) (B : Nat) (v : Value) (l : List Ch) (wr : World) : Prop where
  res : GB wr w.heap.size 0 (.slice none 0 0)
  box : GB wr q side vT
  own : OwnI 2 .i64 wr (w.heap.size + 1) vT lt
  low : ∀ k, vT.ownBlock = some k → k < B
  och : OwnCh wr B v l
  sm : l.length ≤ 65 ∧ ∀ c ∈ l, SmCh c
  drw : Drew w g wr
  siz : g < w.heap.size ∧ w.heap.size < q ∧ q < B ∧ B ≤ wr.heap.size
section
variable {w wr wr' : World} {g q B : Nat} {side : Int} {vT v v' : Value} {lt : List Int} {l l' : List Ch}
theorem CX.drewn (h : CX w g q side vT lt B v l wr) (hd : Drew wr g wr') : CX w g q side vT lt B v l wr' := by
  obtain ⟨z1, z2, z3, z4⟩ := h.siz
  refine ⟨h.res.drewn hd (by omega) (by omega), h.box.drewn hd (by omega) (by omega), h.own.drewn hd (by omega), h.low, h.och.kept hd.2 ?_, h.sm, h.drw.trans hd, z1, z2, z3, Nat.le_trans z4 hd.2.size⟩
  cases hv : v.ownBlock with
  | none => exact .inl rfl
  | some b =>
    refine .inr fun e => ?_
    have := (h.och.lt b hv).1
    have e' := Option.some.inj e
    omega
theorem CX.n {most : Int} (h : CX w g q side vT lt B v l wr) (hs : SrcB wr' g) (hg : wr.grownBy wr' (some g)) : CX w g q side vT lt B v l wr' := h.drewn ⟨hs, hg⟩
theorem CX.turn (h : CX w g q side vT lt B v l wr) (hk : ∀ k, k < B → wr'.heap[k]? = wr.heap[k]?) (e1 : wr'.os = wr.os) (e2 : wr'.tape = wr.tape) (e3 : wr'.output = wr.output) (hz : wr.heap.size ≤ wr'.heap.size) (ho : OwnCh wr' B v' l') (hs : l'.length ≤ 65 ∧ ∀ c ∈ l', SmCh c) : CX w g q side vT lt B v' l' wr' := by
  obtain ⟨z1, z2, z3, z4⟩ := h.siz
  have hd : Drew wr g wr' → Drew w g wr' := h.drw.trans
  refine ⟨h.res.at_ (hk _ (by omega)), h.box.at_ (hk _ (by omega)), ?_, h.low, ho, hs, ?_, z1, z2, z3, Nat.le_trans z4 hz⟩
  · have hw : wr.grownBy wr' none → OwnI 2 .i64 wr' (w.heap.size + 1) vT lt := fun hg => World.ownsRow.kept h.own hg (by cases hv : vT.ownBlock <;> simp)
    rcases h.own.2 with hn | ⟨b, cap, cur, hv, hb, hbl, h1, h2, h3, h4⟩
    · exact ⟨h.own.1, .inl hn⟩
    · exact ⟨h.own.1, .inr ⟨b, cap, cur, hv, hb, (hk b (h.low b (by rw [hv]; rfl))).trans hbl, h1, h2, h3, h4⟩⟩
  · have := h.drw.2
    exact ⟨h.drw.1.keep fun k hkg => hk k (by omega), e1.trans this.os, e2.trans this.tape, e3.trans this.output, Nat.le_trans this.size hz, fun k hkw hne => (hk k (by omega)).trans (this.block k hkw hne)⟩
theorem CX.grown (h : CX w g q side vT lt B v l wr) (hg : wr.grownBy wr' v.ownBlock) (ho : OwnCh wr' B v' l') (hs : l'.length ≤ 65 ∧ ∀ c ∈ l', SmCh c) : CX w g q side vT lt B v' l' wr' := by
  refine h.turn (fun k hk => ?_) hg.os hg.tape hg.output hg.size ho hs
  refine hg.block k (by have := h.siz; omega) fun e => ?_
  have := (h.och.lt k e.symm).1
  omega
theorem CX.alloc (h : CX w g q side vT lt B v l wr) (o : Obj) : CX w g q side vT lt B v l (wr.alloc o) := by
  have hb : Below wr.heap.size wr (wr.alloc o) := (Below.refl _ _).alloc (Nat.le_refl _) _
  exact h.turn (fun k hk => hb.block k (by have := h.siz; omega)) hb.os hb.tape hb.output hb.size (h.och.alloc o) h.sm
theorem CX.store {b n c j i : Nat} {x : Int} (h : CX w g q side vT lt B (.slice (some ⟨b, 0, none⟩) n c) l wr) (hj : j < l.length) (hi : i < 4) (hx : -100 ≤ x ∧ x ≤ 100) : ∃ l', l'.length = l.length ∧ CX w g q side vT lt B (.slice (some ⟨b, 0, none⟩) n c) l' (wr.setCell ⟨b, j * 4 + i, none⟩ (.int .i64 x)) := by
  obtain ⟨l', e1, e2, e3⟩ := flat_set1 l j i x hj hi hx h.sm.2
  have hn := h.och.len
  subst hn
  have h0 : wr.ownsRow B 53 4 (.slice (some ⟨b, 0, none⟩) l.length c) l.length (l.flatMap Ch.cells) := h.och
  have s1 := World.ownsRow.stored h0 (j * 4 + i) (.int .i64 x)
  refine ⟨l', e1, h.grown s1.2 ?_ ⟨by rw [e1]; exact h.sm.1, e2⟩⟩
  unfold OwnCh
  rw [e1, ← e3]
  exact s1.1
/-- The map is handed back. -/
theorem CX.ret {A : Option Addr} {c : Nat} (h : CX w g q side (.slice A lt.length c) lt B v l wr) : OwnI 2 .i64 ((wr.setCell ⟨w.heap.size, 0, none⟩ (.int .i64 side)).setCell ⟨w.heap.size, 1, none⟩ (.slice A lt.length c)) w.heap.size (.slice A lt.length c) lt ∧ OwnCh ((wr.setCell ⟨w.heap.size, 0, none⟩ (.int .i64 side)).setCell ⟨w.heap.size, 1, none⟩ (.slice A lt.length c)) w.heap.size v l ∧ Drew w g ((wr.setCell ⟨w.heap.size, 0, none⟩ (.int .i64 side)).setCell ⟨w.heap.size, 1, none⟩ (.slice A lt.length c)) := by
  obtain ⟨z1, z2, z3, z4⟩ := h.siz
  have hb : Below w.heap.size wr ((wr.setCell ⟨w.heap.size, 0, none⟩ (.int .i64 side)).setCell ⟨w.heap.size, 1, none⟩ (.slice A lt.length c)) := ((Below.refl _ _).setCell (by simp) _).setCell (by simp) _
  exact ⟨OwnI.lower (base := w.heap.size + 1) (by omega) (OwnI.set_below (by show w.heap.size < _; omega) _ (OwnI.set_below (by show w.heap.size < _; omega) _ h.own)), OwnCh.lower (base := B) (by omega) (OwnCh.set_below (by show w.heap.size < _; omega) _ (OwnCh.set_below (by show w.heap.size < _; omega) _ h.och)), h.drw.more z1 hb⟩
end
def vlen : Value → Nat
  | .slice _ n _ => n
  | _ => 0
/-- A map and changes, drawn. -/
def ChsPost (w : World) (g : Nat) (e : Ending) (w' : World) : Prop :=
  ∃ (side : Int) (A : Option Addr) (c : Nat) (lt : List Int) (D : Option Addr) (d : Nat) (L : List Ch), e = .returned (.tuple #[.agg #[.int .i64 side, .slice A lt.length c], .slice D L.length d]) ∧ Small3 side lt ∧ (L.length ≤ 65 ∧ ∀ c ∈ L, SmCh c) ∧ OwnI 2 .i64 w' w.heap.size (.slice A lt.length c) lt ∧ OwnCh w' w.heap.size (.slice D L.length d) L ∧ Drew w g w'
end Go.Proofs.Ythhadbojepcdjaa
