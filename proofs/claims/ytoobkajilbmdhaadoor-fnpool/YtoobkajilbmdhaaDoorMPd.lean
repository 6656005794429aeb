/- Several texts in one: Dr13, Dr14, Dr15, Dr16, Lw9. -/
import Derived.Test.YtoobkajilbmdhaaDoorMPa
import Derived.Test.YtoobkajilbmdhaaDoorMPb
import Derived.Test.YtoobkajilbmdhaaDoorMPc
import Derived.Test.YtoobkajilbmdhaaDoorPgK
import Derived.Deep.CutRange
import Derived.Deep.RegionHeld3
import Derived.Test.YtoobkajilbmdhaaDoorPoolM
import Derived.BigRegion
namespace Go.Proofs.YtoobkajilbmdhaaDoor
open Go.RowKit
set_option linter.unusedVariables false
set_option linter.unusedSimpArgs false

theorem set_by9 (w : World) (a : Addr) (u : Value) : w.grownBy (w.setCell a u) (some a.block) := ⟨rfl, rfl, rfl, by simp, fun k _ hk => heap_setCell_other w a k u (fun e => hk (by rw [e]))⟩
theorem GB.at9 {w w' : World} {b : Nat} {side : Int} {v : Value} (h : GB w b side v) (e : w'.heap[b]? = w.heap[b]?) : GB w' b side v :=
  ⟨(cell_at e).trans h.c0, (cell_at e).trans h.c1, (froz_at e).trans h.f0, (froz_at e).trans h.f1⟩
theorem OwnN.drewn {w w' : World} {base g : Nat} {v : Value} {l : List Nd} (h : OwnN w base v l) (hd : Drew w g w') (hg : g < base) : OwnN w' base v l := by
  refine World.ownsRow.kept h hd.2 ?_
  cases e : v.ownBlock with
  | none => exact .inl rfl
  | some k =>
    refine .inr fun e2 => ?_
    have := (h.lt k e).1
    cases e2
    omega
theorem wf_small {n : Int} (h0 : -1000000 ≤ n) (h1 : n ≤ 1000000) : (Lit.int .i64 n).wf = true := by
  simp [Lit.wf, IntKind.min, IntKind.max, IntKind.bits, IntKind.signed]
  omega
theorem OwnN.rw {w : World} {base n c : Nat} {A : Option Addr} {l : List Nd} (h : OwnN w base (.slice A n c) l) : (A = none ∧ c = 0 ∧ l = []) ∨ ∃ b, A = some ⟨b, 0, none⟩ ∧ b < w.heap.size := by
  have hn := h.len
  have hlt := h.lt
  rcases h with ⟨_, ⟨h1, h2⟩ | ⟨g, cap, cur, h1, _, h3, _⟩⟩
  · injection h1 with h4 h5 h6
    exact .inl ⟨h4, h6, List.length_eq_zero_iff.1 (by omega)⟩
  · injection h1 with h4 h5 h6
    subst h4
    exact .inr ⟨g, rfl, (hlt g rfl).2⟩
theorem mPoolPut_own (A : Option Addr) (base c cg : Nat) (l : List Nd) (side : Int) (A' : Option Addr) (tiles : List Int) (w : World) (ho : OwnN w base (.slice A l.length c) l) (hl : l.length ≤ 1048576) (hri : RI w w.heap.size A' tiles) (htl : tiles.length ≤ 1048576) :
    Calls Tryd.prog 16 #[.agg #[.slice A l.length c], .agg #[.int .i64 side, .slice A' tiles.length cg]] w (POut w (putP l side tiles)) := by
  rcases ho.rw with ⟨rfl, rfl, rfl⟩ | ⟨b, rfl, hb⟩
  · exact mPoolPut_nil cg side A' tiles w hri htl
  · refine mPoolPut_any b 0 c cg l side A' tiles w ⟨hb, fun j hj => ?_⟩ hl hri htl
    obtain ⟨g, e, _, _, hc, _⟩ := ho.at_ hj
    cases e
    simpa using hc
theorem put_fits {l : List Nd} {side : Int} {tiles : List Int} (h : (putP l side tiles).1 = 0) : (putP l side tiles).2.2.length ≤ 200 ∧ (∀ n ∈ (putP l side tiles).2.2, n.Fits) ∧ 0 ≤ (putP l side tiles).2.1 ∧ (putP l side tiles).2.1 ≤ 200 := by
  have hr := putP_right h
  have hb : 0 ≤ (putP l side tiles).2.1 ∧ (putP l side tiles).2.1 < ((putP l side tiles).2.2.length : Int) := by
    obtain ⟨_, _, sn, _, _, _, _, hl, hp, e⟩ := putP_parts h
    rw [e]
    have := hp.2.1
    simp only
    omega
  generalize putP l side tiles = R at *
  have hl := pool_len hr
  refine ⟨hl, fun n hn => ?_, hb.1, by omega⟩
  obtain ⟨k, hk, rfl⟩ := List.getElem_of_mem hn
  have hok := right_node hr hk
  cases hs : leafN R.2.2[k]
  · obtain ⟨h1, h2, h3, h4, h5⟩ := ok_split hok hs
    exact ⟨wf_small (by omega) (by omega), wf_small (by omega) (by omega), wf_small (by omega) (by omega), wf_small (by omega) (by omega), wf_small (by omega) (by omega)⟩
  · obtain ⟨h1, h2, h3⟩ := ((pOk_right.1 hr).2).leaf hk hs
    have e1 : R.2.2[k].a = 0 := by rw [h1]; rfl
    have e2 : R.2.2[k].b = 0 := by rw [h1]; rfl
    have e3 : R.2.2[k].c = 0 := by rw [h1]; rfl
    have e4 : R.2.2[k].d = 0 := by rw [h1]; rfl
    exact ⟨wf_small (by omega) (by omega), wf_small (by omega) (by omega), wf_small (by omega) (by omega), wf_small (by omega) (by omega), wf_small (by omega) (by omega)⟩
/-- A list of numbers does not lie in a map's box. -/
theorem OwnI.off_box {w : World} {base n c o : Nat} {A Av : Option Addr} {m k : Nat} {l : List Int} {side : Int} (h : OwnI 2 .i64 w base (.slice A n c) l) (h1 : 1 < l.length) (hb : GB w o side (.slice Av m k)) : (Value.slice A n c).ownBlock ≠ some o := by
  intro e
  obtain ⟨g, rfl, _, _, hc, _⟩ := h.at_ h1
  have : g = o := Option.some.inj e
  subst this
  rw [hb.c1] at hc
  cases hc
/-- A drawn pool. -/
def PoolPost (w : World) (g : Nat) (e : Ending) (w' : World) : Prop := ∃ (A : Option Addr) (c : Nat) (l : List Nd) (rt : Int), e = .returned (.tuple #[.agg #[.slice A l.length c], .int .i64 rt]) ∧ (l.length ≤ 201 ∧ (∀ n ∈ l, n.Fits) ∧ -1 ≤ rt ∧ rt ≤ 200) ∧ OwnN w' w.heap.size (.slice A l.length c) l ∧ Drew w g w'
/-- While a pool is drawn. -/
structure LP (w : World) (g o : Nat) (A : Option Addr) (c : Nat) (l : List Nd) (side : Int) (Ag : Option Addr) (cg : Nat) (lg : List Int) (wr : World) : Prop where
  d : Drew w g wr
  r2 : PB1 wr w.heap.size (.slice none 0 0)
  p4 : PB1 wr (w.heap.size + 1) (.slice A l.length c)
  own : OwnN wr (w.heap.size + 1 + 1) (.slice A l.length c) l
  gb : GB wr o side (.slice Ag lg.length cg)
  gown : OwnI 2 .i64 wr (w.heap.size + 1 + 1) (.slice Ag lg.length cg) lg
  gr : gridRight side lg = true
  s2 : 2 ≤ side
  fit : l.length ≤ 200 ∧ ∀ n ∈ l, n.Fits
  ne : (Value.slice A l.length c).ownBlock ≠ some o
  ho : w.heap.size + 1 + 1 ≤ o ∧ o < wr.heap.size
  lt : g < w.heap.size
theorem PB1.at_ {w w' : World} {b : Nat} {v : Value} (h : PB1 w b v) (e : w'.heap[b]? = w.heap[b]?) : PB1 w' b v := ⟨(cell_at e).trans h.c0, (froz_at e).trans h.f0⟩
section
variable {w wr wr' : World} {g o c cg : Nat} {A Ag : Option Addr} {l : List Nd} {side : Int} {lg : List Int}
theorem LP.len (h : LP w g o A c l side Ag cg lg wr) : 1 < lg.length ∧ lg.length ≤ 64 := by
  have h2 := right_len h.gr
  have h3 := (right_parts h.gr).2.1
  have h4 := h.s2
  rcases (sideOk_iff side).1 (right_parts h.gr).1 with rfl | rfl | rfl | rfl <;> omega
theorem LP.drew (h : LP w g o A c l side Ag cg lg wr) (hd : Drew wr g wr') : LP w g o A c l side Ag cg lg wr' := by
  have h1 := h.lt
  obtain ⟨h2, h3⟩ := h.ho
  have k : ∀ b, b < wr.heap.size → b ≠ g → wr'.heap[b]? = wr.heap[b]? := fun b hb hn => hd.2.block b hb (fun e => hn (Option.some.inj e))
  exact ⟨h.d.trans hd, h.r2.at_ (k _ (by omega) (by omega)), h.p4.at_ (k _ (by omega) (by omega)), OwnN.drewn h.own hd (by omega), h.gb.drewn hd (by omega) h3, h.gown.drewn hd (by omega), h.gr, h.s2, h.fit, h.ne, ⟨h2, Nat.lt_of_lt_of_le h3 hd.2.size⟩, h1⟩
theorem LP.below (h : LP w g o A c l side Ag cg lg wr) (hb : Below wr.heap.size wr wr') : LP w g o A c l side Ag cg lg wr' := by
  have h1 := h.lt
  obtain ⟨h2, h3⟩ := h.ho
  exact ⟨h.d.more h1 (hb.mono (by omega)), h.r2.at_ (hb.block _ (by omega)), h.p4.at_ (hb.block _ (by omega)), h.own.keep hb, h.gb.below hb h3, h.gown.keep hb, h.gr, h.s2, h.fit, h.ne, ⟨h2, Nat.lt_of_lt_of_le h3 hb.size⟩, h1⟩
/-- The map that was drawn later stands in the box. -/
theorem LP.setG {Ag' : Option Addr} {cg' : Nat} {lg' : List Int} (h : LP w g o A c l side Ag cg lg wr) (hr : gridRight side lg' = true) (ho : OwnI 2 .i64 wr (w.heap.size + 1 + 1) (.slice Ag' lg'.length cg') lg') : LP w g o A c l side Ag' cg' lg' ((wr.setCell ⟨o, 0, none⟩ (.int .i64 side)).setCell ⟨o, 1, none⟩ (.slice Ag' lg'.length cg')) := by
  have h1 := h.lt
  obtain ⟨h2, h3⟩ := h.ho
  have hl : 1 < lg'.length := by
    have h3 := (right_parts hr).2.1
    have h4 := h.s2
    rcases (sideOk_iff side).1 (right_parts hr).1 with rfl | rfl | rfl | rfl <;> omega
  have hoff := ho.off_box hl h.gb
  have k : ∀ b, b ≠ o → ((wr.setCell ⟨o, 0, none⟩ (.int .i64 side)).setCell ⟨o, 1, none⟩ (.slice Ag' lg'.length cg')).heap[b]? = wr.heap[b]? := fun b hb => (heap_setCell_other _ _ b _ hb).trans (heap_setCell_other _ _ b _ hb)
  have hbl : Below w.heap.size wr ((wr.setCell ⟨o, 0, none⟩ (.int .i64 side)).setCell ⟨o, 1, none⟩ (.slice Ag' lg'.length cg')) := ((Below.refl _ _).setCell (by show w.heap.size ≤ o; omega) _).setCell (by show w.heap.size ≤ o; omega) _
  have hz : ((wr.setCell ⟨o, 0, none⟩ (.int .i64 side)).setCell ⟨o, 1, none⟩ (.slice Ag' lg'.length cg')).heap.size = wr.heap.size := by simp
  have kn : ∀ {v : Value} {x : List Nd}, OwnN wr (w.heap.size + 1 + 1) v x → v.ownBlock ≠ some o → OwnN ((wr.setCell ⟨o, 0, none⟩ (.int .i64 side)).setCell ⟨o, 1, none⟩ (.slice Ag' lg'.length cg')) (w.heap.size + 1 + 1) v x := fun h9 hn => World.ownsRow.kept (World.ownsRow.kept h9 (set_by9 wr ⟨o, 0, none⟩ _) (.inr hn)) (set_by9 _ ⟨o, 1, none⟩ _) (.inr hn)
  have ki : OwnI 2 .i64 ((wr.setCell ⟨o, 0, none⟩ (.int .i64 side)).setCell ⟨o, 1, none⟩ (.slice Ag' lg'.length cg')) (w.heap.size + 1 + 1) (.slice Ag' lg'.length cg') lg' := World.ownsRow.kept (World.ownsRow.kept ho (set_by9 wr ⟨o, 0, none⟩ _) (.inr hoff)) (set_by9 _ ⟨o, 1, none⟩ _) (.inr hoff)
  have a0 : (wr.setCell ⟨o, 0, none⟩ (.int .i64 side)).cell? ⟨o, 0, none⟩ = some (.int .i64 side) := World.cell?_setCell_same _ _ _ h.gb.c0
  have a1 : (wr.setCell ⟨o, 0, none⟩ (.int .i64 side)).cell? ⟨o, 1, none⟩ = some (.slice Ag lg.length cg) := (World.cell?_setCell_other _ _ _ _ (by simp)).trans h.gb.c1
  obtain ⟨_, _, f0, f1⟩ := h.gb
  exact ⟨h.d.more h1 hbl, h.r2.at_ (k _ (by omega)), h.p4.at_ (k _ (by omega)), kn h.own h.ne, ⟨(World.cell?_setCell_other _ _ _ _ (by simp)).trans a0, World.cell?_setCell_same _ _ _ a1, by simpa using f0, by simpa using f1⟩, ki, hr, h.s2, h.fit, h.ne, ⟨h2, by rw [hz]; exact h3⟩, h1⟩
/-- Another pool stands in the box. -/
theorem LP.setP {A' : Option Addr} {c' : Nat} {l' : List Nd} {B : Nat} (h : LP w g o A c l side Ag cg lg wr) (ho : OwnN wr B (.slice A' l'.length c') l') (hB : o < B) (hf : l'.length ≤ 200 ∧ ∀ n ∈ l', n.Fits) : LP w g o A' c' l' side Ag cg lg (wr.setCell ⟨w.heap.size + 1, 0, none⟩ (.slice A' l'.length c')) := by
  have h1 := h.lt
  obtain ⟨h2, h3⟩ := h.ho
  have k : ∀ b, b ≠ w.heap.size + 1 → (wr.setCell ⟨w.heap.size + 1, 0, none⟩ (.slice A' l'.length c')).heap[b]? = wr.heap[b]? := fun b hb => heap_setCell_other _ _ b _ hb
  have hz : (wr.setCell ⟨w.heap.size + 1, 0, none⟩ (.slice A' l'.length c')).heap.size = wr.heap.size := by simp
  refine ⟨h.d.more h1 ((Below.refl _ _).setCell (by show w.heap.size ≤ w.heap.size + 1; omega) _), h.r2.at_ (k _ (by omega)), ⟨World.cell?_setCell_same _ _ _ h.p4.c0, by simpa using h.p4.f0⟩, OwnN.lower (by omega) (OwnN.set_below (by show w.heap.size + 1 < B; omega) _ ho), h.gb.at9 (k _ (by omega)), OwnI.set_below (by show w.heap.size + 1 < w.heap.size + 1 + 1; omega) _ h.gown, h.gr, h.s2, hf, fun e => ?_, ⟨h2, by rw [hz]; exact h3⟩, h1⟩
  have := (ho.lt _ e).1
  omega
end
/-- What is left of a pool that was drawn, before it is handed back. -/
structure FP (w : World) (g : Nat) (A : Option Addr) (c : Nat) (l : List Nd) (wr : World) : Prop where
  d : Drew w g wr
  r2 : PB1 wr w.heap.size (.slice none 0 0)
  p4 : PB1 wr (w.heap.size + 1) (.slice A l.length c)
  own : OwnN wr (w.heap.size + 1 + 1) (.slice A l.length c) l
  fit : l.length ≤ 201 ∧ ∀ n ∈ l, n.Fits
  lt : g < w.heap.size
theorem LP.fp {w wr : World} {g o c cg : Nat} {A Ag : Option Addr} {l : List Nd} {side : Int} {lg : List Int} (h : LP w g o A c l side Ag cg lg wr) : FP w g A c l wr := ⟨h.d, h.r2, h.p4, h.own, ⟨by have := h.fit.1; omega, h.fit.2⟩, h.lt⟩
theorem FP.drew {w wr wr' : World} {g c : Nat} {A : Option Addr} {l : List Nd} (h : FP w g A c l wr) (hd : Drew wr g wr') : FP w g A c l wr' := by
  have h1 := h.lt
  have hz := h.d.2.size
  have hb := World.block_lt_of_cell? wr _ h.p4.c0
  have k : ∀ b, b < wr.heap.size → b ≠ g → wr'.heap[b]? = wr.heap[b]? := fun b hb hn => hd.2.block b hb (fun e => hn (Option.some.inj e))
  exact ⟨h.d.trans hd, h.r2.at_ (k _ (by simp at hb; omega) (by omega)), h.p4.at_ (k _ (by simpa using hb) (by omega)), OwnN.drewn h.own hd (by omega), h.fit, h1⟩
theorem FP.below {w wr wr' : World} {g c : Nat} {A : Option Addr} {l : List Nd} (h : FP w g A c l wr) (hb : Below wr.heap.size wr wr') : FP w g A c l wr' := by
  have h1 := h.lt
  have hz := h.d.2.size
  have h2 := World.block_lt_of_cell? wr _ h.p4.c0
  exact ⟨h.d.more h1 (hb.mono hz), h.r2.at_ (hb.block _ (by simp at h2; omega)), h.p4.at_ (hb.block _ (by simpa using h2)), h.own.keep hb, h.fit, h1⟩
/-- One cell of a node turns. -/
theorem FP.put {w wr : World} {g b c j : Nat} {l l' : List Nd} {v : Value} (h : FP w g (some ⟨b, 0, none⟩) c l wr) (hb : w.heap.size + 1 + 1 ≤ b) (hl : l'.length = l.length) (ho : OwnN (wr.setCell ⟨b, j, none⟩ v) (w.heap.size + 1 + 1) (.slice (some ⟨b, 0, none⟩) l.length c) l') (hf : ∀ n ∈ l', n.Fits) : FP w g (some ⟨b, 0, none⟩) c l' (wr.setCell ⟨b, j, none⟩ v) := by
  have k : ∀ i, i ≠ b → (wr.setCell ⟨b, j, none⟩ v).heap[i]? = wr.heap[i]? := fun i hi => heap_setCell_other _ _ i _ hi
  exact ⟨h.d.more h.lt ((Below.refl _ _).setCell (by show w.heap.size ≤ b; omega) _), h.r2.at_ (k _ (by omega)), by rw [hl]; exact h.p4.at_ (k _ (by omega)), by rw [hl]; exact ho, ⟨by rw [hl]; exact h.fit.1, hf⟩, h.lt⟩
/-- A node was appended. -/
theorem FP.push {w wr w2 : World} {g g' c c' : Nat} {A : Option Addr} {l l' : List Nd} {n : Nat} (h : FP w g A c l wr) (hn9 : l'.length = n) (ho : OwnN w2 (w.heap.size + 1 + 1) (.slice (some ⟨g', 0, none⟩) n c') l') (hg : wr.grownBy w2 (Value.slice A l.length c).ownBlock) (hf : l'.length ≤ 201 ∧ ∀ n ∈ l', n.Fits) : FP w g (some ⟨g', 0, none⟩) c' l' (w2.setCell ⟨w.heap.size + 1, 0, none⟩ (.slice (some ⟨g', 0, none⟩) n c')) := by
  subst hn9
  have hlt := h.lt
  have hz := h.d.2.size
  have h2 := World.block_lt_of_cell? wr _ h.p4.c0
  simp at h2
  have hn : ∀ k, k < w.heap.size + 1 + 1 → some k ≠ (Value.slice A l.length c).ownBlock := fun k hk e => by have := (h.own.lt k e.symm).1; omega
  have hb : Below w.heap.size wr w2 := ⟨hg.os, hg.tape, hg.output, hg.size, fun k hk => hg.block k (by omega) (hn k (by omega))⟩
  have k : ∀ i, i ≠ w.heap.size + 1 → (w2.setCell ⟨w.heap.size + 1, 0, none⟩ (.slice (some ⟨g', 0, none⟩) l'.length c')).heap[i]? = w2.heap[i]? := fun i hi => heap_setCell_other _ _ i _ hi
  have hp := h.p4.at_ (hg.block _ h2 (hn _ (by omega)))
  exact ⟨(h.d.more hlt hb).more hlt ((Below.refl _ _).setCell (by show w.heap.size ≤ w.heap.size + 1; omega) _), (h.r2.at_ (hg.block _ (by omega) (hn _ (by omega)))).at_ (k _ (by omega)), ⟨World.cell?_setCell_same _ _ _ hp.c0, by simpa using hp.f0⟩, OwnN.set_below (by show w.heap.size + 1 < w.heap.size + 1 + 1; omega) _ ho, hf, hlt⟩
theorem FP.post {w wr : World} {g c n : Nat} {A : Option Addr} {l : List Nd} {r : Int} (h : FP w g A c l wr) (hn : l.length = n) (h0 : -1 ≤ r) (h1 : r ≤ 200) : PoolPost w g (.returned (.tuple #[.agg #[.slice A n c], .int .i64 r])) (wr.setCell ⟨w.heap.size, 0, none⟩ (.slice A n c)) := by
  subst hn
  exact ⟨A, c, l, r, rfl, ⟨h.fit.1, h.fit.2, h0, h1⟩, OwnN.lower (by omega) (OwnN.set_below (by show w.heap.size < w.heap.size + 1 + 1; omega) _ h.own), h.d.more h.lt ((Below.refl _ _).setCell (by show w.heap.size ≤ w.heap.size; omega) _)⟩
theorem set_there {α : Type} : ∀ (L : List α) (k : Nat) (v : α), L[k]? = some v → L.set k v = L
  | [], k, v, h => by simp at h
  | x :: xs, 0, v, h => by simp at h; simp [h]
  | x :: xs, k + 1, v, h => by simp at h; simp [set_there xs k v h]
theorem set_tile (l : List Nd) (j : Nat) (hj : j < l.length) (t : Int) : (l.flatMap Nd.cells).set (j * 5) (.int .i64 t) = (l.set j ⟨t, l[j].a, l[j].b, l[j].c, l[j].d⟩).flatMap Nd.cells := by
  rw [← flat_set l j _ hj]
  have h1 := flat_get l j 1 hj (by omega)
  have h2 := flat_get l j 2 hj (by omega)
  have h3 := flat_get l j 3 hj (by omega)
  have h4 := flat_get l j 4 hj (by omega)
  simp only [Nd.cells, List.getElem?_cons_succ, List.getElem?_cons_zero] at h1 h2 h3 h4
  unfold setN
  symm
  simp only []
  refine (set_there _ _ _ ?_).trans ((set_there _ _ _ ?_).trans ((set_there _ _ _ ?_).trans (set_there _ _ _ ?_))) <;> simp [List.getElem?_set, h1, h2, h3, h4]
theorem set_b (l : List Nd) (j : Nat) (hj : j < l.length) (t : Int) : (l.flatMap Nd.cells).set (j * 5 + 2) (.int .i64 t) = (l.set j ⟨l[j].tile, l[j].a, t, l[j].c, l[j].d⟩).flatMap Nd.cells := by
  rw [← flat_set l j _ hj]
  have h1 := flat_get l j 0 hj (by omega)
  have h2 := flat_get l j 1 hj (by omega)
  have h3 := flat_get l j 3 hj (by omega)
  have h4 := flat_get l j 4 hj (by omega)
  simp only [Nd.cells, List.getElem?_cons_succ, List.getElem?_cons_zero, Nat.add_zero] at h1 h2 h3 h4
  unfold setN
  symm
  simp only []
  refine (set_there _ _ _ ?_).trans ((set_there _ _ _ ?_).trans (congrArg (fun L : List Value => List.set L (j * 5 + 2) (Value.int .i64 t)) ((set_there _ _ _ ?_).trans (set_there _ _ _ ?_)))) <;> simp [List.getElem?_set, h1, h2, h3, h4]
theorem OwnN.cut1 {w : World} {base g n c j : Nat} {l l' : List Nd} {v : Value} (h : OwnN w base (.slice (some ⟨g, 0, none⟩) n c) l) (hl : l'.length = l.length) (e : (l.flatMap Nd.cells).set j v = l'.flatMap Nd.cells) : OwnN (w.setCell ⟨g, j, none⟩ v) base (.slice (some ⟨g, 0, none⟩) n c) l' := by
  have hn := h.len
  subst hn
  have h0 : w.ownsRow base 84 5 (.slice (some ⟨g, 0, none⟩) l.length c) l.length (l.flatMap Nd.cells) := h
  have s1 := (World.ownsRow.stored h0 j v).1
  rw [e, ← hl] at s1
  rw [← hl]
  exact s1
theorem fits_set {l : List Nd} {j : Nat} {x : Nd} (h : ∀ n ∈ l, n.Fits) (hx : x.Fits) : ∀ n ∈ l.set j x, n.Fits := fun n hn => by
  rcases List.mem_or_eq_of_mem_set hn with h1 | rfl
  · exact h n h1
  · exact hx
theorem FP.fin {w wr : World} {g c : Nat} {A : Option Addr} {l : List Nd} (h : FP w g A c l wr) (v : Value) : OwnN (wr.setCell ⟨w.heap.size, 0, none⟩ v) w.heap.size (.slice A l.length c) l ∧ Drew w g (wr.setCell ⟨w.heap.size, 0, none⟩ v) :=
  ⟨OwnN.lower (by omega) (OwnN.set_below (by show w.heap.size < w.heap.size + 1 + 1; omega) _ h.own), h.d.more h.lt ((Below.refl _ _).setCell (by show w.heap.size ≤ w.heap.size; omega) _)⟩

set_option maxRecDepth 100000 in
set_option maxHeartbeats 4000000 in
theorem pool_any (g : Nat) (w : World) (hs : SrcB w g) :
    Calls Tryd.prog 41 #[.pointer (some ⟨g, 0, none⟩)] w (PoolPost w g) := by
  obtain ⟨i0, hi, hz0, hz1, hz2⟩ := info_parts Tryd.infoNode
  have hlt := hs.lt
  have H0 := Lib.hid (((Drew.refl hs).alloc (.cells #[.slice none 0 0] 25)).alloc (.cells #[.slice none 0 0] 25))
  have HP0 : Hid (PB1 ((w.alloc (.cells #[.slice none 0 0] 25)).alloc (.cells #[.slice none 0 0] 25)) w.heap.size (.slice none 0 0) ∧ PB1 ((w.alloc (.cells #[.slice none 0 0] 25)).alloc (.cells #[.slice none 0 0] 25)) (w.heap.size + 1) (.slice none 0 0)) := ⟨⟨by simp [go_sem], by simp [go_sem]⟩, ⟨by simp [go_sem], by simp [go_sem]⟩⟩
  have HZ0 : Hid (((w.alloc (.cells #[.slice none 0 0] 25)).alloc (.cells #[.slice none 0 0] 25)).heap.size = w.heap.size + 1 + 1) := by show _ = _; simp
  clear hs
  go_enter Tryd.func41, Tryd.ntmps41
  go_wp2_with fail
  generalize (w.alloc (.cells #[.slice none 0 0] 25)).alloc (.cells #[.slice none 0 0] 25) = W0 at *
  have HD1 := Lib.hid (H0.out.alloc (.cells #[.int .i64 2, .int .i64 4, .int .i64 4, .int .i64 8] 2))
  have hbA : Below W0.heap.size W0 (W0.alloc (.cells #[.int .i64 2, .int .i64 4, .int .i64 4, .int .i64 8] 2)) := (Below.refl _ _).alloc (Nat.le_refl _) _
  have hz0' := HZ0.out
  have HP1 : Hid (PB1 (W0.alloc (.cells #[.int .i64 2, .int .i64 4, .int .i64 4, .int .i64 8] 2)) w.heap.size (.slice none 0 0) ∧ PB1 (W0.alloc (.cells #[.int .i64 2, .int .i64 4, .int .i64 4, .int .i64 8] 2)) (w.heap.size + 1) (.slice none 0 0)) := ⟨HP0.out.1.at_ (hbA.block _ (by omega)), HP0.out.2.at_ (hbA.block _ (by omega))⟩
  have hgz : g < W0.heap.size := by omega
  refine (src_n g 4 _ HD1.out.1 (by omega)).mono ?_
  rintro e w2 ⟨r, rfl, h1, h2, h3, h4, h5, h6⟩
  have h2' := h2 (by omega)
  obtain ⟨k, rfl⟩ := Int.eq_ofNat_of_zero_le h1
  have hk : k < ([2, 4, 4, 8] : List Int).length := by simp; omega
  have hc := lit_at (w := W0) (l := [2, 4, 4, 8]) hk hgz h5
  rw [hz0'] at hc
  have HS : Hid (sideOk ([2, 4, 4, 8] : List Int)[k] = true ∧ 2 ≤ ([2, 4, 4, 8] : List Int)[k]) := by
    have hk5 : k < 4 := by omega
    match k, hk5 with
    | 0, _ => exact ⟨rfl, (by decide : (2 : Int) ≤ 2)⟩
    | 1, _ => exact ⟨rfl, (by decide : (2 : Int) ≤ 4)⟩
    | 2, _ => exact ⟨rfl, (by decide : (2 : Int) ≤ 4)⟩
    | 3, _ => exact ⟨rfl, (by decide : (2 : Int) ≤ 8)⟩
  have HD2 : Hid (Drew w g w2) := HD1.out.trans ⟨h4, h5⟩
  have HP2 : Hid (PB1 w2 w.heap.size (.slice none 0 0) ∧ PB1 w2 (w.heap.size + 1) (.slice none 0 0)) := ⟨HP1.out.1.at_ (h5.block _ (by simp; omega) (fun e => by have h9 : g = w.heap.size := Option.some.inj e.symm; omega)), HP1.out.2.at_ (h5.block _ (by simp; omega) (fun e => by have h9 : g = w.heap.size + 1 := Option.some.inj e.symm; omega))⟩
  have hz2 : w.heap.size + 1 + 1 < w2.heap.size := by have := h5.size; simp at this; omega
  generalize ([2, 4, 4, 8] : List Int)[k] = side at *
  clear h2 h3 h4 h5 h6 HD1 HP1 H0 hbA HP0
  have HR := Lib.hid (new_right HS.out.1)
  go_wp2_with fail
  refine (mNew_any side 0 w2 HS.out.1).mono ?_
  rintro e w3 ⟨A3, c3, rfl, ho3, hb3⟩
  have hbB : Below w3.heap.size w3 (w3.alloc (.cells #[.int .i64 side, .slice A3 (side * side).toNat c3] 28)) := (Below.refl _ _).alloc (Nat.le_refl _) _
  have hb4 := hb3.trans (hbB.mono hb3.size)
  have hz3 := hb3.size
  have HLP : Hid (LP w g w3.heap.size none 0 [] side A3 c3 (List.replicate (side * side).toNat 0) (w3.alloc (.cells #[.int .i64 side, .slice A3 (side * side).toNat c3] 28))) := by
    have hlen : (List.replicate (side * side).toNat (0 : Int)).length = (side * side).toNat := by simp
    refine ⟨HD2.out.more hlt (hb4.mono (by omega)), HP2.out.1.at_ (hb4.block _ (by omega)), HP2.out.2.at_ (hb4.block _ (by omega)), OwnN.nil _ _, ?_, ?_, HR.out, HS.out.2, ⟨by simp, by simp⟩, by simp [Value.ownBlock], ⟨by omega, by simp⟩, hlt⟩
    · rw [hlen]; exact GB.made _ _ _ _
    · rw [hlen]; exact OwnI.lower (by omega) (OwnI.alloc ho3 _)
  have hrl : Hid ((side * side).toNat = (List.replicate (side * side).toNat (0 : Int)).length) := by show _ = _; simp
  go_wp2_with fail
  generalize List.replicate (side * side).toNat (0 : Int) = lg at *
  have HRL := hrl.out
  rw [HRL] at HLP ⊢
  generalize w3.alloc (.cells #[.int .i64 side, .slice A3 lg.length c3] 28) = W4 at *
  have hoz : w.heap.size + 1 + 1 ≤ w3.heap.size := by omega
  clear hz2 hz3 ho3 hb3 hbB hb4 HD2 HP2 HZ0 hz0' hrl HRL HR HS hc
  generalize w3.heap.size = o at *
  refine (src_n g 4 W4 HLP.out.d.1 (by omega)).mono ?_
  rintro e w5 ⟨r, rfl, h1, h2, h3, h4, h5, h6⟩
  have h2' := h2 (by omega)
  obtain ⟨m, rfl⟩ := Int.eq_ofNat_of_zero_le h1
  have HL5 := Lib.hid (HLP.out.drew ⟨h4, h5⟩)
  have hw : IntKind.i64.wrap (1 + (m : Int)) = ((m + 1 : Nat) : Int) := by rw [IntWalk.i64_in _ (by omega)]; omega
  clear h1 h2 h3 h4 h5 h6 HLP
  go_wp2_with fail
  go_loopw [5, 7] (fun rt kk wr => ∃ (r : Int) (n : Nat) (A : Option Addr) (c : Nat) (l : List Nd) (Ag : Option Addr) (cg : Nat) (lg : List Int), rt = .int .i64 r ∧ kk = .int .i64 n ∧ n ≤ 4 ∧ (0 ≤ r ∧ r ≤ 200) ∧ LP w g o A c l side Ag cg lg wr) (fun _ kk _ => (intOf kk).toNat)
  case atStart => exact ⟨0, m + 1, none, 0, [], A3, c3, lg, rfl, by go_num, by omega, by omega, HL5.out⟩
  case round =>
    obtain ⟨r, n, A, c, l, Ag, cg, lg', rfl, rfl, hn, hr, hlp⟩ := hrel
    have HL := Lib.hid hlp
    clear hlp HL5
    by_cases hpos : 0 < n
    · have hnI : (0 : Int) < (n : Int) := by omega
      obtain ⟨c0, c1, _, _⟩ := HL.out.gb
      go_wp2_with fail
      refine (later_any g (w.heap.size + 1 + 1) side Ag cg lg' wr HL.out.d.1 HL.out.gr HL.out.gown (by omega) (by have := HL.out.ho; omega)).mono ?_
      rintro e w6 ⟨A6, c6, l6, rfl, hr6, ho6, hd6⟩
      have HL6 := Lib.hid ((HL.out.drew hd6).setG hr6 ho6)
      obtain ⟨d0, d1, f0, f1⟩ := (HL.out.drew hd6).gb
      clear hr6 ho6 hd6 c0 c1 HL
      go_upto_region 8 with fail
      generalize (w6.setCell ⟨o, 0, none⟩ (.int .i64 side)).setCell ⟨o, 1, none⟩ (.slice A6 l6.length c6) = w7 at *
      clear d0 d1 f0 f1
      obtain ⟨p0, pf⟩ := HL6.out.p4
      obtain ⟨e0, e1, _, _⟩ := HL6.out.gb
      go_wp2_with fail
      refine (mPoolPut_own A (w.heap.size + 1 + 1) c c6 l side A6 l6 w7 HL6.out.own (by have := HL6.out.fit; omega) HL6.out.gown.ri (by have := HL6.out.len; omega)).mono ?_
      rintro e w8 ⟨A8, c8, rfl, ho8, hb8⟩
      have HPF := Lib.hid (put_fits (l := l) (side := side) (tiles := l6))
      generalize putP l side l6 = R at *
      obtain ⟨rc, rr, rl⟩ := R
      simp only at ho8 HPF
      have hbA : Below w8.heap.size w8 (w8.alloc (.cells #[.slice A8 rl.length c8, .int .i64 rr, .int .i64 rc] 32)) := (Below.refl _ _).alloc (Nat.le_refl _) _
      have HL9 := Lib.hid ((HL6.out.below hb8).below hbA)
      have HO9 := Lib.hid (OwnN.keep ho8 hbA)
      have ho7 := HL6.out.ho.2
      have hz9 : o < (w8.alloc (.cells #[.slice A8 rl.length c8, .int .i64 rr, .int .i64 rc] 32)).heap.size := HL9.out.ho.2
      clear ho8 hb8 hbA p0 pf e0 e1 HL6
      by_cases hc : rc = 0
      · subst hc
        obtain ⟨q1, q2, q3, q4⟩ := HPF.out rfl
        have Q2 := Lib.hid q2
        clear HPF q2
        obtain ⟨p0, pf⟩ := HL9.out.p4
        have HLN := Lib.hid (HL9.out.setP HO9.out ho7 ⟨q1, Q2.out⟩)
        go_upto_region 9 with fail
        have x0 : (w8.alloc (.cells #[.slice A8 rl.length c8, .int .i64 rr, .int .i64 0] 32)).cell? ⟨w8.heap.size, 0, none⟩ = some (.slice A8 rl.length c8) := by simp [go_sem]
        have x1 : (w8.alloc (.cells #[.slice A8 rl.length c8, .int .i64 rr, .int .i64 0] 32)).cell? ⟨w8.heap.size, 1, none⟩ = some (.int .i64 rr) := by simp [go_sem]
        have x2 : (w8.alloc (.cells #[.slice A8 rl.length c8, .int .i64 rr, .int .i64 0] 32)).cell? ⟨w8.heap.size, 2, none⟩ = some (.int .i64 0) := by simp [go_sem]
        have hne : ¬ w8.heap.size = w.heap.size + 1 := by have := HL9.out.ho; have h9 := HLN.out.ho; simp at hz9; omega
        generalize w8.alloc (.cells #[.slice A8 rl.length c8, .int .i64 rr, .int .i64 0] 32) = w9 at *
        generalize w8.heap.size = q at *
        go_wp2_with fail
        go_roundw
        case rel => exact ⟨rr, n - 1, A8, c8, rl, A6, c6, l6, rfl, by go_num, by omega, by omega, HLN.out⟩
        case measure => simp [intOf] <;> omega
      · have hq : (rc == 0) = false := by simpa using hc
        clear HPF
        go_wp2_with fail
        go_roundw
        case rel => exact ⟨r, n - 1, A, c, l, A6, c6, l6, rfl, by go_num, by omega, by omega, HL9.out⟩
        case measure => simp [intOf] <;> omega
    · obtain rfl : n = 0 := by omega
      have HFP := Lib.hid HL.out.fp
      have H200 := Lib.hid HL.out.fit.1
      clear HL
      obtain ⟨p0, pf⟩ := HFP.out.p4
      go_wp2_with fail
      refine (src_one g 15 wr HFP.out.d.1 (by omega)).mono ?_
      rintro e w6 ⟨⟨b, rfl⟩, hd6⟩
      have HFP6 := Lib.hid (HFP.out.drew hd6)
      clear hd6 p0 pf HFP
      have HFP := HFP6
      clear HFP6
      cases b
      · obtain ⟨r0, rf⟩ := HFP.out.r2
        obtain ⟨p0, pf⟩ := HFP.out.p4
        go_wp2_with fail
        refine bodyPost_ret (v := .tuple #[.agg #[.slice A l.length c], .int .i64 r]) (by simp [results, Tryd.results41, go_sem, r0, p0]) rfl ?_
        exact ⟨A, c, l, r, rfl, ⟨HFP.out.fit.1, HFP.out.fit.2, by omega, by omega⟩, (HFP.out.fin _).1, (HFP.out.fin _).2⟩
      obtain ⟨p0, pf⟩ := HFP.out.p4
      by_cases hL0 : 0 < l.length
      · have hL0I : (0 : Int) < (l.length : Int) := by omega
        have hdd : decide ((0 : Int) < (l.length : Int)) = true := by simpa using hL0
        go_wp2_with fail
        refine (src_n g 4 w6 HFP.out.d.1 (by omega)).mono ?_
        rintro e w7 ⟨r7, rfl, h1, h2, h3, h4, h5, h6⟩
        have h2' := h2 (by omega)
        have HFP7 := Lib.hid (HFP.out.drew ⟨h4, h5⟩)
        clear h2 h3 h4 h5 h6 p0 pf HFP
        have h4c : r7 = 0 ∨ r7 = 1 ∨ r7 = 2 ∨ r7 = 3 := by omega
        obtain ⟨b, rfl, hb, hbs, hc, hfz⟩ := HFP7.out.own.at_ hL0
        clear h1 h2'
        rcases h4c with rfl | rfl | rfl | rfl
        · clear hfz
          have HX : Hid (l[0] ∈ l) := List.getElem_mem hL0
          generalize l[0] = x at hc HX
          obtain ⟨xt, xa, xb, xc, xd⟩ := x
          obtain ⟨e0, e1, e2, e3, e4⟩ := hc
          simp only [Nat.zero_mul, Nat.zero_add] at e0 e1 e2 e3 e4
          obtain ⟨p0, pf⟩ := HFP7.out.p4
          have hba : Below w7.heap.size w7 (w7.alloc (.cells #[.int .i64 xt, .int .i64 xa, .int .i64 xb, .int .i64 xc, .int .i64 xd] 84)) := (Below.refl _ _).alloc (Nat.le_refl _) _
          have HPA := Lib.hid (HFP7.out.below hba.drew)
          have HNA : Hid (NdAt (w7.alloc (.cells #[.int .i64 xt, .int .i64 xa, .int .i64 xb, .int .i64 xc, .int .i64 xd] 84)).drew w7.heap.size 0 ⟨xt, xa, xb, xc, xd⟩) := NdAt.mk (by simp [go_sem]) (by simp [go_sem]) (by simp [go_sem]) (by simp [go_sem]) (by simp [go_sem])
          clear hba
          have hpw : ¬ w.heap.size + 1 = w7.heap.size := by omega
          have hl6 : l.length ≤ 1000000 := by have := H200.out; omega
          have hbl : w.heap.size + 1 + 1 ≤ (w7.alloc (.cells #[.int .i64 xt, .int .i64 xa, .int .i64 xb, .int .i64 xc, .int .i64 xd] 84)).drew.heap.size := by simp; omega
          go_wp2_with fail
          have hnk : some (w.heap.size + 1) ≠ (Value.slice (some ⟨b, 0, none⟩) l.length c).ownBlock := by
            intro e
            have h9 : w.heap.size + 1 = b := Option.some.inj e
            omega
          have hlt9 : w.heap.size + 1 < (w7.alloc (.cells #[.int .i64 xt, .int .i64 xa, .int .i64 xb, .int .i64 xc, .int .i64 xd] 84)).drew.heap.size := by simp; omega
          have p9 : (w7.alloc (.cells #[.int .i64 xt, .int .i64 xa, .int .i64 xb, .int .i64 xc, .int .i64 xd] 84)).cell? ⟨w.heap.size + 1, 0, none⟩ = some (.slice (some ⟨b, 0, none⟩) l.length c) := HPA.out.p4.c0
          go_region_law ((refine step_append_node hi hz0 hz1 hz2 (by rfl) _ _ (by rfl) (w.heap.size + 1 + 1) _ l ⟨xt, xa, xb, xc, xd⟩ _ w7.heap.size HPA.out.own (by rfl) (by rfl) HNA.out hl6 hbl ?_; intro g9 cap w9 hown9 hg9 hlies; have c2 := hg9.cell HPA.out.p4.c0 hnk; have f2 := (World.frozen?_of_block (a := ⟨w.heap.size + 1, 0, none⟩) (hg9.block (w.heap.size + 1) hlt9 hnk)).trans HPA.out.p4.f0))
          all_goals
            have HF9 := Lib.hid (HPA.out.push (by simp) hown9 hg9 ⟨by have := H200.out; simp; omega, fun n hn => (List.mem_append.1 hn).elim (HPA.out.fit.2 n) (fun h => by have h9 := List.mem_singleton.1 h; rw [h9]; exact HPA.out.fit.2 _ HX.out)⟩)
            clear hown9 hg9 hlies c2 f2 p0 pf e0 e1 e2 e3 e4
            obtain ⟨r0, rf⟩ := HF9.out.r2
            obtain ⟨p0, pf⟩ := HF9.out.p4
            rw [List.length_append, List.length_singleton] at p0
            generalize w9.setCell ⟨w.heap.size + 1, 0, none⟩ (.slice (some ⟨g9, 0, none⟩) (l.length + 1) cap) = Wz at *
            go_wp2_with fail
            refine bodyPost_ret (v := .tuple #[.agg #[.slice (some ⟨g9, 0, none⟩) (l.length + 1) cap], .int .i64 r]) (by simp [results, Tryd.results41, go_sem, r0, p0]) rfl ?_
            exact HF9.out.post (by simp) (by omega) (by omega)
        · obtain ⟨p0, pf⟩ := HFP7.out.p4
          have HD := Lib.hid (HFP7.out.below (Below.refl _ _).drew)
          have hpb : ¬ w.heap.size + 1 = b := by omega
          obtain ⟨e0, e1, e2, e3, e4⟩ := hc
          simp only [Nat.zero_mul, Nat.zero_add] at e0 e1 e2 e3 e4
          clear e0 e1 e2 e3 e4 hfz
          go_wp2_with fail
          go_region_with (go_at_call 47; refine (src_n g 12 w7.drew HD.out.d.1 (by omega)).mono ?_; rintro e w8 ⟨r8, rfl, k1, k2, k3, k4, k5, k6⟩; have HFP8 := Lib.hid (HD.out.drew ⟨k4, k5⟩); have HK8 := Lib.hid (And.intro k1 (k2 (by omega))); obtain ⟨p8, pf8⟩ := HFP8.out.p4; obtain ⟨b8, hbe, _, _, hc8, hf8⟩ := HFP8.out.own.at_ hL0; cases hbe; obtain ⟨e0, _, _, _, _⟩ := hc8; simp only [Nat.zero_mul, Nat.zero_add] at e0; have f0 := hf8 0; have hw8 : IntKind.i64.wrap (r8 - 1) = r8 - 1 := (by have := HK8.out; exact IntWalk.i64_in _ (by omega)); clear k1 k2 k3 k4 k5 k6 hf8)
          all_goals
            have HF8 : Hid (FP w g (some ⟨b, 0, none⟩) c (l.set 0 ⟨r8 - 1, l[0].a, l[0].b, l[0].c, l[0].d⟩) (w8.setCell ⟨b, 0, none⟩ (.int .i64 (r8 - 1)))) := by
              obtain ⟨q1, q2, q3, q4, q5⟩ := HFP8.out.fit.2 _ (List.getElem_mem hL0)
              exact HFP8.out.put hb (by simp) (HFP8.out.own.cut1 (by simp) (by simpa using set_tile l 0 hL0 (r8 - 1))) (fits_set HFP8.out.fit.2 ⟨wf_small (by have := HK8.out; simp only []; omega) (by have := HK8.out; simp only []; omega), q2, q3, q4, q5⟩)
            have HLS : Hid ((l.set 0 ⟨r8 - 1, l[0].a, l[0].b, l[0].c, l[0].d⟩).length = l.length) := by show _ = _; simp
            generalize l.set 0 ⟨r8 - 1, l[0].a, l[0].b, l[0].c, l[0].d⟩ = ls at *
            clear p8 pf8 p0 pf e0 f0
            obtain ⟨r0, rf⟩ := HF8.out.r2
            obtain ⟨p0, pf⟩ := HF8.out.p4
            rw [HLS.out] at p0
            generalize w8.setCell ⟨b, 0, none⟩ (.int .i64 (r8 - 1)) = Wz at *
            go_wp2_with fail
            refine bodyPost_ret (v := .tuple #[.agg #[.slice (some ⟨b, 0, none⟩) l.length c], .int .i64 r]) (by simp [results, Tryd.results41, go_sem, r0, p0]) rfl ?_
            exact HF8.out.post HLS.out (by omega) (by omega)
        · obtain ⟨p0, pf⟩ := HFP7.out.p4
          have HD := Lib.hid (HFP7.out.below (Below.refl _ _).drew)
          have hpb : ¬ w.heap.size + 1 = b := by omega
          obtain ⟨q, hq⟩ : ∃ q, q = l.length - 1 := ⟨_, rfl⟩
          have HQ : Hid (q < l.length ∧ l.length = q + 1) := ⟨by omega, by omega⟩
          have hqw : IntKind.i64.wrap ((l.length : Int) - 1) = (q : Int) := by
            have h9 := H200.out
            rw [IntWalk.i64_in _ (by omega)]
            omega
          have hq1 : (q : Int) < (l.length : Int) := by omega
          have hq2 : q < l.length := by omega
          clear hq hc hfz
          go_wp2_with fail
          go_region_with (go_at_call 47; refine (src_n g 9 w7.drew HD.out.d.1 (by omega)).mono ?_; rintro e w8 ⟨r8, rfl, k1, k2, k3, k4, k5, k6⟩; have HFP8 := Lib.hid (HD.out.drew ⟨k4, k5⟩); have HK8 := Lib.hid (And.intro k1 (k2 (by omega))); obtain ⟨p8, pf8⟩ := HFP8.out.p4; obtain ⟨b8, hbe, _, _, hc8, hf8⟩ := HFP8.out.own.at_ HQ.out.1; cases hbe; obtain ⟨_, _, e0, _, _⟩ := hc8; have f0 := hf8 (q * 5 + 2); clear k1 k2 k3 k4 k5 k6 hf8)
          all_goals
            have HF8 : Hid (FP w g (some ⟨b, 0, none⟩) c (l.set q ⟨l[q].tile, l[q].a, r8, l[q].c, l[q].d⟩) (w8.setCell ⟨b, q * 5 + 2, none⟩ (.int .i64 r8))) := by
              obtain ⟨q1, q2, q3, q4, q5⟩ := HFP8.out.fit.2 _ (List.getElem_mem hq2)
              exact HFP8.out.put hb (by simp) (HFP8.out.own.cut1 (by simp) (set_b l q hq2 r8)) (fits_set HFP8.out.fit.2 ⟨q1, q2, wf_small (by have := HK8.out; simp only []; omega) (by have := HK8.out; simp only []; omega), q4, q5⟩)
            have HLS : Hid ((l.set q ⟨l[q].tile, l[q].a, r8, l[q].c, l[q].d⟩).length = l.length) := by show _ = _; simp
            generalize l.set q ⟨l[q].tile, l[q].a, r8, l[q].c, l[q].d⟩ = ls at *
            clear p8 pf8 p0 pf e0 f0
            obtain ⟨r0, rf⟩ := HF8.out.r2
            obtain ⟨p0, pf⟩ := HF8.out.p4
            rw [HLS.out] at p0
            generalize w8.setCell ⟨b, q * 5 + 2, none⟩ (.int .i64 r8) = Wz at *
            go_wp2_with fail
            refine bodyPost_ret (v := .tuple #[.agg #[.slice (some ⟨b, 0, none⟩) l.length c], .int .i64 r]) (by simp [results, Tryd.results41, go_sem, r0, p0]) rfl ?_
            exact HF8.out.post HLS.out (by omega) (by omega)
        · go_wp2_with fail
          refine (src_n g 9 w7 HFP7.out.d.1 (by omega)).mono ?_
          rintro e w8 ⟨r8, rfl, k1, k2, k3, k4, k5, k6⟩
          have HK8 := Lib.hid (And.intro k1 (k2 (by omega)))
          have HFP8 := Lib.hid (HFP7.out.drew ⟨k4, k5⟩)
          have hw8 : IntKind.i64.wrap (r8 - 1) = r8 - 1 := by have := HK8.out; exact IntWalk.i64_in _ (by omega)
          clear k1 k2 k3 k4 k5 k6
          obtain ⟨r0, rf⟩ := HFP8.out.r2
          obtain ⟨p0, pf⟩ := HFP8.out.p4
          go_wp2_with fail
          refine bodyPost_ret (v := .tuple #[.agg #[.slice (some ⟨b, 0, none⟩) l.length c], .int .i64 (r8 - 1)]) (by simp [results, Tryd.results41, go_sem, r0, p0]) rfl ?_
          exact HFP8.out.post rfl (by have := HK8.out; omega) (by have := HK8.out; omega)
      · have hdd : (0 < l.length) = False := by simp [hL0]
        clear hL0 p0 pf
        obtain ⟨r0, rf⟩ := HFP.out.r2
        obtain ⟨p0, pf⟩ := HFP.out.p4
        go_wp2_with fail
        refine bodyPost_ret (v := .tuple #[.agg #[.slice A l.length c], .int .i64 r]) (by simp [results, Tryd.results41, go_sem, r0, p0]) rfl ?_
        exact ⟨A, c, l, r, rfl, ⟨HFP.out.fit.1, HFP.out.fit.2, by omega, by omega⟩, (HFP.out.fin _).1, (HFP.out.fin _).2⟩
end Go.Proofs.YtoobkajilbmdhaaDoor

namespace Go.Proofs.YtoobkajilbmdhaaDoor
open Go.RowKit
set_option linter.unusedVariables false
set_option linter.unusedSimpArgs false

def SmP (l : List Nd) : Prop := l.length ≤ 201 ∧ ∀ n ∈ l, n.Fits
/-- What holds while arguments are drawn: the pool to hand back, the source in block g, the pool in block o. -/
structure QX (w : World) (g o : Nat) (A : Option Addr) (c : Nat) (l : List Nd) (wr : World) : Prop where
  res : PB1 wr w.heap.size (.slice none 0 0)
  box : PB1 wr o (.slice A l.length c)
  own : OwnN wr (g + 1) (.slice A l.length c) l
  src : SrcB wr g
  bel : Below w.heap.size w wr
  siz : w.heap.size < g ∧ g < o ∧ o < wr.heap.size
section
variable {w wr wr' : World} {g o c : Nat} {A : Option Addr} {l : List Nd}
theorem QX.drew (h : QX w g o A c l wr) (hd : Drew wr g wr') : QX w g o A c l wr' := by
  obtain ⟨h1, h2, h3⟩ := h.siz
  have k : ∀ b, b < wr.heap.size → b ≠ g → wr'.heap[b]? = wr.heap[b]? := fun b hb hn => hd.2.block b hb (fun e => hn (Option.some.inj e))
  exact ⟨h.res.at_ (k _ (by omega) (by omega)), h.box.at_ (k _ h3 (by omega)), OwnN.drewn h.own hd (by omega), hd.1, h.bel.trans (hd.below (by omega) (by omega)), ⟨h1, h2, Nat.lt_of_lt_of_le h3 hd.2.size⟩⟩
theorem QX.below (h : QX w g o A c l wr) (hb : Below wr.heap.size wr wr') : QX w g o A c l wr' := by
  obtain ⟨h1, h2, h3⟩ := h.siz
  exact ⟨h.res.at_ (hb.block _ (by omega)), h.box.at_ (hb.block _ h3), h.own.keep hb, h.src.keep fun k hk => hb.block k (by omega), h.bel.trans (hb.mono (by omega)), ⟨h1, h2, Nat.lt_of_lt_of_le h3 hb.size⟩⟩
theorem QX.tape (h : QX w g o A c l wr) : QX w g o A c l wr.drew := h.below (Below.refl _ _).drew
theorem QX.fin (h : QX w g o A c l wr) (v : Value) : OwnN (wr.setCell ⟨w.heap.size, 0, none⟩ v) w.heap.size (.slice A l.length c) l ∧ Below w.heap.size w (wr.setCell ⟨w.heap.size, 0, none⟩ v) := by
  obtain ⟨h1, h2, h3⟩ := h.siz
  exact ⟨OwnN.lower (base := g + 1) (by omega) (OwnN.set_below (by show w.heap.size < _; omega) _ h.own), h.bel.setCell (by simp) _⟩
/-- A drawn pool is laid into its box. -/
theorem QX.made {w1 w2 : World} (hr : PB1 w1 w.heap.size (.slice none 0 0)) (hb : Below w.heap.size w w1) (hg : w.heap.size < g) (hg1 : g < w1.heap.size) (hd : Drew w1 g w2) (ho : OwnN w2 w1.heap.size (.slice A l.length c) l) : QX w g w2.heap.size A c l (w2.alloc (.cells #[.slice A l.length c] 25)) := by
  have hz := hd.2.size
  have hbb : Below w2.heap.size w2 (w2.alloc (.cells #[.slice A l.length c] 25)) := (Below.refl _ _).alloc (Nat.le_refl _) _
  have k : ∀ b, b < w1.heap.size → b ≠ g → w2.heap[b]? = w1.heap[b]? := fun b hb hn => hd.2.block b hb (fun e => hn (Option.some.inj e))
  exact ⟨(hr.at_ (k _ (by omega) (by omega))).at_ (hbb.block _ (by omega)), PB1.made _ _ _, OwnN.lower (by omega) (ho.alloc _), hd.1.alloc _, (hb.trans (hd.below (by omega) (by omega))).trans (hbb.mono (by omega)), ⟨hg, by omega, by simp⟩⟩
end

def PSetArgs (w : World) (e : Ending) (w' : World) : Prop := ∃ (A : Option Addr) (c : Nat) (l : List Nd) (rt x y t : Int), e = .returned (.tuple #[.agg #[.slice A l.length c], .int .i64 rt, .int .i64 8, .int .i64 x, .int .i64 y, .int .i64 t]) ∧ SmP l ∧ (-1 ≤ rt ∧ rt ≤ 200) ∧ (-1 ≤ x ∧ x ≤ 9 ∧ -1 ≤ y ∧ y ≤ 9 ∧ -1 ≤ t ∧ t ≤ 10) ∧ OwnN w' w.heap.size (.slice A l.length c) l ∧ Below w.heap.size w w'
set_option maxRecDepth 100000 in
set_option maxHeartbeats 1000000 in
theorem drawPSet_any (A : Option Addr) (n c : Nat) (w : World) (hn : n ≤ 1048576) (hin : BytesIn w w.heap.size A n) :
    Calls Tryd.prog 10 #[.slice A n c] w (PSetArgs w) := by
  have HS := Lib.hid (source_any A n c _ hn (hin.alloc (.cells #[.slice none 0 0] 25)))
  have HG0 := Lib.hid (PB1.made w (.slice none 0 0) 25)
  have HB0 := Lib.hid ((Below.refl w.heap.size w).alloc (Nat.le_refl _) (.cells #[.slice none 0 0] 25))
  simp only [alloc_size] at HS
  clear hin
  go_enter Tryd.func10, Tryd.ntmps10
  go_wp2_with fail
  refine HS.out.mono ?_
  rintro e w1 ⟨rfl, hs1, hb1⟩
  have H1 := Lib.hid hs1
  have HG1 := Lib.hid (HG0.out.at_ (hb1.block _ (by omega)))
  have HB1 := Lib.hid (HB0.out.trans (hb1.mono (by omega)))
  have hz1 := hs1.lt
  clear hs1 hb1
  go_wp2_with fail
  refine (pool_any (w.heap.size + 1) w1 H1.out).mono ?_
  rintro e w2 ⟨A2, c2, l2, rt, rfl, ⟨hl2, hf2, hr0, hr1⟩, ho2, hd2⟩
  have HX2 := Lib.hid (QX.made HG1.out HB1.out (Nat.lt_succ_self _) hz1 hd2 ho2)
  have HSM : Hid (SmP l2) := ⟨hl2, hf2⟩
  have HRT : Hid (-1 ≤ rt ∧ rt ≤ 200) := ⟨hr0, hr1⟩
  clear hl2 hf2 hr0 hr1 ho2 hd2
  go_wp2_with fail
  generalize w2.alloc (.cells #[.slice A2 l2.length c2] 25) = W at *
  generalize w2.heap.size = o at *
  refine (src_n (w.heap.size + 1) 9 W HX2.out.src (by omega)).mono ?_
  rintro e w3 ⟨r, rfl, h1, h2, h3, h4, h5, h6⟩
  have h2' := h2 (by omega)
  have HX3 := Lib.hid (HX2.out.drew ⟨h4, h5⟩)
  clear h2 h3 h4 h5 h6 HX2
  go_wp2_with fail
  refine (src_n (w.heap.size + 1) 9 w3 HX3.out.src (by omega)).mono ?_
  rintro e w4 ⟨r2, rfl, k1, k2, h3, h4, h5, h6⟩
  have k2' := k2 (by omega)
  have HX4 := Lib.hid (HX3.out.drew ⟨h4, h5⟩)
  clear k2 h3 h4 h5 h6 HX3
  obtain ⟨c0, f0⟩ := HX4.out.box
  have hx4 := HX4.out.tape
  have hz3 := HX4.out.siz
  go_wp2_with fail
  go_region_held3 (fun w' => w'.cell? ⟨o, 0, none⟩ = some (.slice A2 l2.length c2))
    (first
      | go_keep
      | exact hk6
      | exact (World.cell?_setCell_other _ _ _ _ (by simp <;> omega)).trans hk6)
    (first
      | (go_at_call 51; refine (src_tile (w.heap.size + 1) _ (by with_reducible exact hx4.src)).mono ?_; rintro e w5 ⟨t, rfl, htl, hd5⟩; have HX5 := Lib.hid (hx4.drew hd5); have HT5 := Lib.hid htl; have hk6 := HX5.out.box.c0; obtain ⟨p0, q0⟩ := HX5.out.res; clear htl hd5))
  all_goals
    go_wp2
    refine bodyPost_ret (v := .tuple #[.agg #[.slice A2 l2.length c2], .int .i64 rt, .int .i64 8, .int .i64 r, .int .i64 r2, .int .i64 t]) (by simp [results, Tryd.results10, go_sem, p0]) rfl ?_
    exact ⟨A2, c2, l2, rt, r, r2, t, rfl, HSM.out, HRT.out, ⟨by omega, by omega, by omega, by omega, HT5.out.1, HT5.out.2⟩, HX5.out.fin _⟩
def PAtArgs (w : World) (e : Ending) (w' : World) : Prop := ∃ (A : Option Addr) (c : Nat) (l : List Nd) (rt x y : Int), e = .returned (.tuple #[.agg #[.slice A l.length c], .int .i64 rt, .int .i64 8, .int .i64 x, .int .i64 y]) ∧ SmP l ∧ (-1 ≤ rt ∧ rt ≤ 200) ∧ (-1 ≤ x ∧ x ≤ 9 ∧ -1 ≤ y ∧ y ≤ 9) ∧ OwnN w' w.heap.size (.slice A l.length c) l ∧ Below w.heap.size w w'
set_option maxRecDepth 100000 in
set_option maxHeartbeats 1000000 in
theorem drawPAt_any (A : Option Addr) (n c : Nat) (w : World) (hn : n ≤ 1048576) (hin : BytesIn w w.heap.size A n) :
    Calls Tryd.prog 12 #[.slice A n c] w (PAtArgs w) := by
  have HS := Lib.hid (source_any A n c _ hn (hin.alloc (.cells #[.slice none 0 0] 25)))
  have HG0 := Lib.hid (PB1.made w (.slice none 0 0) 25)
  have HB0 := Lib.hid ((Below.refl w.heap.size w).alloc (Nat.le_refl _) (.cells #[.slice none 0 0] 25))
  simp only [alloc_size] at HS
  clear hin
  go_enter Tryd.func12, Tryd.ntmps12
  go_wp2_with fail
  refine HS.out.mono ?_
  rintro e w1 ⟨rfl, hs1, hb1⟩
  have H1 := Lib.hid hs1
  have HG1 := Lib.hid (HG0.out.at_ (hb1.block _ (by omega)))
  have HB1 := Lib.hid (HB0.out.trans (hb1.mono (by omega)))
  have hz1 := hs1.lt
  clear hs1 hb1
  go_wp2_with fail
  refine (pool_any (w.heap.size + 1) w1 H1.out).mono ?_
  rintro e w2 ⟨A2, c2, l2, rt, rfl, ⟨hl2, hf2, hr0, hr1⟩, ho2, hd2⟩
  have HX2 := Lib.hid (QX.made HG1.out HB1.out (Nat.lt_succ_self _) hz1 hd2 ho2)
  have HSM : Hid (SmP l2) := ⟨hl2, hf2⟩
  have HRT : Hid (-1 ≤ rt ∧ rt ≤ 200) := ⟨hr0, hr1⟩
  clear hl2 hf2 hr0 hr1 ho2 hd2
  go_wp2_with fail
  generalize w2.alloc (.cells #[.slice A2 l2.length c2] 25) = W at *
  generalize w2.heap.size = o at *
  refine (src_n (w.heap.size + 1) 9 W HX2.out.src (by omega)).mono ?_
  rintro e w3 ⟨r, rfl, h1, h2, h3, h4, h5, h6⟩
  have h2' := h2 (by omega)
  have HX3 := Lib.hid (HX2.out.drew ⟨h4, h5⟩)
  clear h2 h3 h4 h5 h6 HX2
  have e1 : IntKind.i64.wrap (r - 1) = r - 1 := IntWalk.i64_in _ (by omega)
  obtain ⟨c0, f0⟩ := HX3.out.box
  have hx4 := HX3.out.tape
  have hz3 := HX3.out.siz
  go_wp2_with fail
  go_region_held3 (fun w' => w'.cell? ⟨o, 0, none⟩ = some (.slice A2 l2.length c2))
    (first
      | go_keep
      | exact hk6
      | exact (World.cell?_setCell_other _ _ _ _ (by simp <;> omega)).trans hk6)
    (first
      | (go_at_call 47; refine (src_n (w.heap.size + 1) 9 _ (by with_reducible exact hx4.src) (by omega)).mono ?_; rintro e w5 ⟨r2, rfl, k1, k2, k3, k4, k5, k6⟩; have k2' := k2 (by omega); have HX5 := Lib.hid (hx4.drew ⟨k4, k5⟩); have e2 : IntKind.i64.wrap (r2 - 1) = r2 - 1 := IntWalk.i64_in _ (by omega); have hk6 := HX5.out.box.c0; obtain ⟨p0, q0⟩ := HX5.out.res; clear k2 k3 k4 k5 k6))
  all_goals
    go_wp2
    refine bodyPost_ret (v := .tuple #[.agg #[.slice A2 l2.length c2], .int .i64 rt, .int .i64 8, .int .i64 (r - 1), .int .i64 (r2 - 1)]) (by simp [results, Tryd.results12, go_sem, p0]) rfl ?_
    exact ⟨A2, c2, l2, rt, r - 1, r2 - 1, rfl, HSM.out, HRT.out, ⟨by omega, by omega, by omega, by omega⟩, HX5.out.fin _⟩

def HeightArgs (w : World) (e : Ending) (w' : World) : Prop := ∃ (A : Option Addr) (c : Nat) (l : List Nd) (rt : Int), e = .returned (.tuple #[.agg #[.slice A l.length c], .int .i64 rt]) ∧ SmP l ∧ (-1 ≤ rt ∧ rt ≤ 202) ∧ OwnN w' w.heap.size (.slice A l.length c) l ∧ Below w.heap.size w w'
set_option maxRecDepth 100000 in
set_option maxHeartbeats 1000000 in
theorem drawHeight_any (A : Option Addr) (n c : Nat) (w : World) (hn : n ≤ 1048576) (hin : BytesIn w w.heap.size A n) :
    Calls Tryd.prog 13 #[.slice A n c] w (HeightArgs w) := by
  have HS := Lib.hid (source_any A n c _ hn (hin.alloc (.cells #[.slice none 0 0] 25)))
  have HG0 := Lib.hid (PB1.made w (.slice none 0 0) 25)
  have HB0 := Lib.hid ((Below.refl w.heap.size w).alloc (Nat.le_refl _) (.cells #[.slice none 0 0] 25))
  simp only [alloc_size] at HS
  clear hin
  go_enter Tryd.func13, Tryd.ntmps13
  go_wp2_with fail
  refine HS.out.mono ?_
  rintro e w1 ⟨rfl, hs1, hb1⟩
  have H1 := Lib.hid hs1
  have HG1 := Lib.hid (HG0.out.at_ (hb1.block _ (by omega)))
  have HB1 := Lib.hid (HB0.out.trans (hb1.mono (by omega)))
  have hz1 := hs1.lt
  clear hs1 hb1
  go_wp2_with fail
  refine (pool_any (w.heap.size + 1) w1 H1.out).mono ?_
  rintro e w2 ⟨A2, c2, l2, rt, rfl, ⟨hl2, hf2, hr0, hr1⟩, ho2, hd2⟩
  have HX2 := Lib.hid (QX.made HG1.out HB1.out (Nat.lt_succ_self _) hz1 hd2 ho2)
  have HSM : Hid (SmP l2) := ⟨hl2, hf2⟩
  have HRT : Hid (-1 ≤ rt ∧ rt ≤ 200) := ⟨hr0, hr1⟩
  clear hl2 hf2 hr0 hr1 ho2 hd2
  go_wp2_with fail
  generalize w2.alloc (.cells #[.slice A2 l2.length c2] 25) = W at *
  generalize w2.heap.size = o at *
  refine (src_one (w.heap.size + 1) 3 W HX2.out.src (by omega)).mono ?_
  rintro e w3 ⟨⟨b, rfl⟩, hd3⟩
  have HX3 := Lib.hid (HX2.out.drew hd3)
  clear hd3 HX2
  cases b
  · obtain ⟨c0, f0⟩ := HX3.out.box
    obtain ⟨p0, q0⟩ := HX3.out.res
    go_wp2_with fail
    refine bodyPost_ret (v := .tuple #[.agg #[.slice A2 l2.length c2], .int .i64 rt]) (by simp [results, Tryd.results13, go_sem, p0]) rfl ?_
    exact ⟨A2, c2, l2, rt, rfl, HSM.out, ⟨HRT.out.1, by have := HRT.out; omega⟩, HX3.out.fin _⟩
  · obtain ⟨c0, f0⟩ := HX3.out.box
    have hx4 := HX3.out.tape
    have hz3 := HX3.out.siz
    have hll := HSM.out.1
    have e1 : IntKind.i64.wrap ((l2.length : Int) + 2) = (l2.length : Int) + 2 := IntWalk.i64_in _ (by omega)
    have e1' : wrap64 ((l2.length : Int) + 2) = (l2.length : Int) + 2 := wrap64_in (by omega) (by omega)
    go_wp2_with fail
    go_region_held3 (fun w' => w'.cell? ⟨o, 0, none⟩ = some (.slice A2 l2.length c2))
      (first
        | go_keep
        | exact hk6
        | exact (World.cell?_setCell_other _ _ _ _ (by simp <;> omega)).trans hk6)
      (first
        | (go_at_call 47; refine (src_n (w.heap.size + 1) ((l2.length : Int) + 2) _ (by with_reducible exact hx4.src) (by omega)).mono ?_; rintro e w5 ⟨r2, rfl, k1, k2, k3, k4, k5, k6⟩; have k2' := k2 (by omega); have HX5 := Lib.hid (hx4.drew ⟨k4, k5⟩); have e2 : IntKind.i64.wrap (r2 - 1) = r2 - 1 := IntWalk.i64_in _ (by omega); have hk6 := HX5.out.box.c0; obtain ⟨p0, q0⟩ := HX5.out.res; clear k2 k3 k4 k5 k6))
    all_goals
      go_wp2
      refine bodyPost_ret (v := .tuple #[.agg #[.slice A2 l2.length c2], .int .i64 (r2 - 1)]) (by simp [results, Tryd.results13, go_sem, p0]) rfl ?_
      exact ⟨A2, c2, l2, r2 - 1, rfl, HSM.out, ⟨by omega, by omega⟩, HX5.out.fin _⟩

set_option maxRecDepth 100000 in
set_option maxHeartbeats 1000000 in
theorem drawWeight_any (A : Option Addr) (n c : Nat) (w : World) (hn : n ≤ 1048576) (hin : BytesIn w w.heap.size A n) :
    Calls Tryd.prog 14 #[.slice A n c] w (HeightArgs w) := by
  have HS := Lib.hid (drawHeight_any A n c _ hn (hin.alloc (.cells #[.slice none 0 0] 25)))
  have HG0 := Lib.hid (PB1.made w (.slice none 0 0) 25)
  have HB0 := Lib.hid ((Below.refl w.heap.size w).alloc (Nat.le_refl _) (.cells #[.slice none 0 0] 25))
  clear hin
  go_enter Tryd.func14, Tryd.ntmps14
  go_wp2_with fail
  refine HS.out.mono ?_
  rintro e w2 ⟨A2, c2, l2, rt, rfl, hsm, hrt, ho2, hb2⟩
  have HSM := Lib.hid hsm
  have HRT := Lib.hid hrt
  have hb2' : Below (w.heap.size + 1) (w.alloc (.cells #[.slice none 0 0] 25)) w2 := by simpa using hb2
  have ho2' : OwnN w2 (w.heap.size + 1) (.slice A2 l2.length c2) l2 := by simpa using ho2
  have HO2 := Lib.hid ho2'
  have HG1 := Lib.hid (HG0.out.at_ (hb2'.block _ (by omega)))
  have HB1 := Lib.hid (HB0.out.trans (hb2'.mono (by omega)))
  clear hsm hrt ho2 hb2 hb2' ho2'
  obtain ⟨p0, q0⟩ := HG1.out
  go_wp2_with fail
  refine bodyPost_ret (v := .tuple #[.agg #[.slice A2 l2.length c2], .int .i64 rt]) (by simp [results, Tryd.results14, go_sem, p0]) rfl ?_
  exact ⟨A2, c2, l2, rt, rfl, HSM.out, HRT.out, OwnN.lower (base := w.heap.size + 1) (by omega) (OwnN.set_below (by show w.heap.size < _; omega) _ HO2.out), HB1.out.setCell (by simp) _⟩
end Go.Proofs.YtoobkajilbmdhaaDoor

namespace Go.Proofs.YtoobkajilbmdhaaDoor
open Go.RowKit
set_option linter.unusedVariables false
set_option linter.unusedSimpArgs false

/-- What is left of a drawn pool, once it stands in the box that is handed back. -/
structure PF (w : World) (A : Option Addr) (c : Nat) (l : List Nd) (wf : World) : Prop where
  box : PB1 wf w.heap.size (.slice A l.length c)
  own : OwnN wf w.heap.size (.slice A l.length c) l
  bel : Below w.heap.size w wf
theorem QX.pf {w wr : World} {g o c : Nat} {A : Option Addr} {l : List Nd} (h : QX w g o A c l wr) : PF w A c l (wr.setCell ⟨w.heap.size, 0, none⟩ (.slice A l.length c)) :=
  ⟨⟨World.cell?_setCell_same _ _ _ h.res.c0, by simpa using h.res.f0⟩, (h.fin _).1, (h.fin _).2⟩
theorem PF.alloc {w wf : World} {c : Nat} {A : Option Addr} {l : List Nd} (h : PF w A c l wf) (x : Obj) : PF w A c l (wf.alloc x) := by
  have hb : Below wf.heap.size wf (wf.alloc x) := (Below.refl _ _).alloc (Nat.le_refl _) _
  have h2 := World.block_lt_of_cell? wf _ h.box.c0
  exact ⟨h.box.at_ (hb.block _ (by simpa using h2)), h.own.keep hb, h.bel.trans (hb.mono h.bel.size)⟩
def PGetArgs (w : World) (e : Ending) (w' : World) : Prop := ∃ (A : Option Addr) (c : Nat) (l : List Nd) (rt sd : Int), e = .returned (.tuple #[.agg #[.slice A l.length c], .int .i64 rt, .int .i64 sd]) ∧ SmP l ∧ (-1 ≤ rt ∧ rt ≤ 200) ∧ (2 ≤ sd ∧ sd ≤ 8) ∧ OwnN w' w.heap.size (.slice A l.length c) l ∧ Below w.heap.size w w'
set_option maxRecDepth 100000 in
set_option maxHeartbeats 1000000 in
theorem drawPGet_any (A : Option Addr) (n c : Nat) (w : World) (hn : n ≤ 1048576) (hin : BytesIn w w.heap.size A n) :
    Calls Tryd.prog 8 #[.slice A n c] w (PGetArgs w) := by
  have HS := Lib.hid (source_any A n c _ hn (hin.alloc (.cells #[.slice none 0 0] 25)))
  have HG0 := Lib.hid (PB1.made w (.slice none 0 0) 25)
  have HB0 := Lib.hid ((Below.refl w.heap.size w).alloc (Nat.le_refl _) (.cells #[.slice none 0 0] 25))
  simp only [alloc_size] at HS
  clear hin
  go_enter Tryd.func8, Tryd.ntmps8
  go_wp2_with fail
  refine HS.out.mono ?_
  rintro e w1 ⟨rfl, hs1, hb1⟩
  have H1 := Lib.hid hs1
  have HG1 := Lib.hid (HG0.out.at_ (hb1.block _ (by omega)))
  have HB1 := Lib.hid (HB0.out.trans (hb1.mono (by omega)))
  have hz1 := hs1.lt
  clear hs1 hb1
  go_wp2_with fail
  refine (pool_any (w.heap.size + 1) w1 H1.out).mono ?_
  rintro e w2 ⟨A2, c2, l2, rt, rfl, ⟨hl2, hf2, hr0, hr1⟩, ho2, hd2⟩
  have HX2 := Lib.hid (QX.made HG1.out HB1.out (Nat.lt_succ_self _) hz1 hd2 ho2)
  have HSM : Hid (SmP l2) := ⟨hl2, hf2⟩
  have HRT : Hid (-1 ≤ rt ∧ rt ≤ 200) := ⟨hr0, hr1⟩
  clear hl2 hf2 hr0 hr1 ho2 hd2
  go_wp2_with fail
  generalize w2.alloc (.cells #[.slice A2 l2.length c2] 25) = W at *
  generalize w2.heap.size = o at *
  obtain ⟨c0, f0⟩ := HX2.out.box
  have hz8 := HX2.out.siz
  have HXA := Lib.hid (HX2.out.below ((Below.refl W.heap.size W).alloc (Nat.le_refl _) (.cells #[.int .i64 8, .int .i64 8, .int .i64 4, .int .i64 2, .int .i64 3] 2)).drew)
  have HXB := Lib.hid (HX2.out.below (Below.refl W.heap.size W).drew)
  have HLIT : Hid (∀ q, (h : q < ([8, 8, 4, 2, 3] : List Int).length) → (2 ≤ ([8, 8, 4, 2, 3] : List Int)[q] ∧ ([8, 8, 4, 2, 3] : List Int)[q] ≤ 8) ∧ (#[Value.int .i64 8, Value.int .i64 8, Value.int .i64 4, Value.int .i64 2, Value.int .i64 3] : Array Value)[q]? = some (.int .i64 ([8, 8, 4, 2, 3] : List Int)[q])) := by
    show ∀ q, _
    intro q h
    have h2 : q < 5 := by simpa using h
    match q, h2 with
    | 0, _ => exact ⟨by simp, rfl⟩
    | 1, _ => exact ⟨by simp, rfl⟩
    | 2, _ => exact ⟨by simp, rfl⟩
    | 3, _ => exact ⟨by simp, rfl⟩
    | 4, _ => exact ⟨by simp, rfl⟩
  go_region_with
    (first
      | (go_at_call 47; refine (src_n (w.heap.size + 1) 5 _ (by with_reducible exact HXA.out.src) (by omega)).mono ?_; rintro e w8 ⟨r, rfl, h1', h2, h3, h4, h5, h6⟩; have h2'' := h2 (by omega); obtain ⟨q, rfl⟩ := Int.eq_ofNat_of_zero_le h1'; have hq : q < ([8, 8, 4, 2, 3] : List Int).length := (by simp; omega); have hlit := lit_in (W := (W.alloc (.cells #[.int .i64 8, .int .i64 8, .int .i64 4, .int .i64 2, .int .i64 3] 2)).drew) (l := [8, 8, 4, 2, 3]) rfl hq (by omega) h5; have HXX := Lib.hid (HLIT.out q hq).1; have HX8 := Lib.hid (HXA.out.drew ⟨h4, h5⟩); have HX9 := Lib.hid HX8.out.pf; have hk60 := HX8.out.box.c0; obtain ⟨p0, q0⟩ := HX8.out.res; have hz80 := HX8.out.siz.2.2; have hz81 : w.heap.size < w8.heap.size := (by have := HX8.out.siz; omega); have hz82 : ¬ o = w8.heap.size := (by omega); have hz83 : ¬ w.heap.size = w8.heap.size := (by omega); generalize ([8, 8, 4, 2, 3] : List Int)[q] = xx at hlit HXX; clear h2 h3 h4 h5 h6)
      | (go_at_call 47; refine (src_n (w.heap.size + 1) 5 _ (by with_reducible exact HXB.out.src) (by omega)).mono ?_; rintro e w8 ⟨r, rfl, h1', h2, h3, h4, h5, h6⟩; have h2'' := h2 (by omega); obtain ⟨q, rfl⟩ := Int.eq_ofNat_of_zero_le h1'; have hq : q < ([8, 8, 4, 2, 3] : List Int).length := (by simp; omega); have hlit : (w8.alloc (.cells #[.int .i64 8, .int .i64 8, .int .i64 4, .int .i64 2, .int .i64 3] 2)).cell? ⟨w8.heap.size, q, none⟩ = some (.int .i64 ([8, 8, 4, 2, 3] : List Int)[q]) := lit_new w8 (l := [8, 8, 4, 2, 3]) hq; have hlit2 := (HLIT.out q hq).2; have HXX := Lib.hid (HLIT.out q hq).1; have HX8 := Lib.hid (HXB.out.drew ⟨h4, h5⟩); have HX9 := Lib.hid (HX8.out.pf.alloc (.cells #[.int .i64 8, .int .i64 8, .int .i64 4, .int .i64 2, .int .i64 3] 2)); have hk60 := HX8.out.box.c0; obtain ⟨p0, q0⟩ := HX8.out.res; have hz80 := HX8.out.siz.2.2; have hz81 : w.heap.size < w8.heap.size := (by have := HX8.out.siz; omega); have hz82 : ¬ o = w8.heap.size := (by omega); have hz83 : ¬ w.heap.size = w8.heap.size := (by omega); generalize ([8, 8, 4, 2, 3] : List Int)[q] = xx at hlit hlit2 HXX; clear h2 h3 h4 h5 h6))
  all_goals first
    | generalize (w8.setCell ⟨w.heap.size, 0, none⟩ (.slice A2 l2.length c2)).alloc (.cells #[.int .i64 8, .int .i64 8, .int .i64 4, .int .i64 2, .int .i64 3] 2) = Wz at HX9 ⊢
    | generalize w8.setCell ⟨w.heap.size, 0, none⟩ (.slice A2 l2.length c2) = Wz at HX9 ⊢
  all_goals
    clear hlit hk60 p0 q0
    obtain ⟨p0, q0⟩ := HX9.out.box
    go_wp2
    refine bodyPost_ret (v := .tuple #[.agg #[.slice A2 l2.length c2], .int .i64 rt, .int .i64 xx]) (by simp [results, Tryd.results8, go_sem, p0]) rfl ?_
    exact ⟨A2, c2, l2, rt, xx, rfl, HSM.out, HRT.out, HXX.out, HX9.out.own, HX9.out.bel⟩
end Go.Proofs.YtoobkajilbmdhaaDoor

namespace Go.Proofs.YtoobkajilbmdhaaDoor
open Go.RowKit
set_option linter.unusedVariables false
set_option linter.unusedSimpArgs false

def PPutArgs (w : World) (e : Ending) (w' : World) : Prop := ∃ (A : Option Addr) (c : Nat) (l : List Nd) (side : Int) (A' : Option Addr) (c' : Nat) (l' : List Int), e = .returned (.tuple #[.agg #[.slice A l.length c], .agg #[.int .i64 side, .slice A' l'.length c']]) ∧ SmP l ∧ Small side l' ∧ OwnN w' w.heap.size (.slice A l.length c) l ∧ OwnI 2 .i64 w' w.heap.size (.slice A' l'.length c') l' ∧ Below w.heap.size w w'
set_option maxRecDepth 100000 in
set_option maxHeartbeats 1000000 in
theorem drawPPut_any (A : Option Addr) (n c : Nat) (w : World) (hn : n ≤ 1048576) (hin : BytesIn w w.heap.size A n) :
    Calls Tryd.prog 6 #[.slice A n c] w (PPutArgs w) := by
  have HS := Lib.hid (source_any A n c _ hn ((hin.alloc (.cells #[.slice none 0 0] 25)).alloc (.cells #[.int .i64 0, .slice none 0 0] 28)))
  have HBa : Below (w.heap.size + 1) (w.alloc (.cells #[.slice none 0 0] 25)) ((w.alloc (.cells #[.slice none 0 0] 25)).alloc (.cells #[.int .i64 0, .slice none 0 0] 28)) := (Below.refl _ _).alloc (by simp) _
  have HG0 := Lib.hid ((PB1.made w (.slice none 0 0) 25).at_ (HBa.block _ (by omega)))
  have HK0 := Lib.hid (GB.made (w.alloc (.cells #[.slice none 0 0] 25)) 0 (.slice none 0 0) 28)
  have HB0 := Lib.hid (((Below.refl w.heap.size w).alloc (Nat.le_refl _) (.cells #[.slice none 0 0] 25)).trans (HBa.mono (by omega)))
  simp only [alloc_size] at HS HK0
  clear hin HBa
  go_enter Tryd.func6, Tryd.ntmps6
  go_wp2_with fail
  refine HS.out.mono ?_
  rintro e w1 ⟨rfl, hs1, hb1⟩
  have H1 := Lib.hid hs1
  have HG1 := Lib.hid (HG0.out.at_ (hb1.block _ (by omega)))
  have HK1 := Lib.hid (HK0.out.below hb1 (by omega))
  have HB1 := Lib.hid (HB0.out.trans (hb1.mono (by omega)))
  have hz1 := hs1.lt
  clear hs1 hb1
  go_wp2_with fail
  refine (pool_any (w.heap.size + 1 + 1) w1 H1.out).mono ?_
  rintro e w2 ⟨A2, c2, l2, rt, rfl, ⟨hl2, hf2, hr0, hr1⟩, ho2, hd2⟩
  have HX2 := Lib.hid (QX.made HG1.out HB1.out (by omega) hz1 hd2 ho2)
  have HK2 : Hid (GB (w2.alloc (.cells #[.slice A2 l2.length c2] 25)) (w.heap.size + 1) 0 (.slice none 0 0)) := (HK1.out.drewn hd2 (by omega) (by omega)).below ((Below.refl _ _).alloc (Nat.le_refl _) _) (by have := hd2.2.size; omega)
  have HSM : Hid (SmP l2) := ⟨hl2, hf2⟩
  clear hl2 hf2 hr0 hr1 ho2 hd2
  go_wp2_with fail
  generalize w2.alloc (.cells #[.slice A2 l2.length c2] 25) = W at *
  generalize w2.heap.size = o at *
  obtain ⟨c0, f0⟩ := HX2.out.box
  have hx4 := HX2.out.tape
  have hz3 := HX2.out.siz
  have HK3 : Hid (GB W.drew (w.heap.size + 1) 0 (.slice none 0 0)) := HK2.out.below (Below.refl W.heap.size W).drew (by omega)
  go_region_held3 (fun w' => w'.cell? ⟨o, 0, none⟩ = some (.slice A2 l2.length c2))
    (first
      | go_keep
      | exact hk6
      | exact (World.cell?_setCell_other _ _ _ _ (by simp <;> omega)).trans hk6
      | exact (World.cell?_setCell_other _ _ _ _ (by simp <;> omega)).trans ((World.cell?_setCell_other _ _ _ _ (by simp <;> omega)).trans hk6)
      | exact (World.cell?_setCell_other _ _ _ _ (by simp <;> omega)).trans ((World.cell?_setCell_other _ _ _ _ (by simp <;> omega)).trans ((World.cell?_setCell_other _ _ _ _ (by simp <;> omega)).trans hk6)))
    (first
      | (go_at_call 42; refine (grid_any (w.heap.size + 1 + 1) _ (by with_reducible exact hx4.src)).mono ?_; rintro e w5 ⟨sd, A5, c5, l5, rfl, hsm5, ho5, hd5⟩; have HX5 := Lib.hid (hx4.drew hd5); have HO5 := Lib.hid (OwnI.lower (base' := w.heap.size + 1 + 1) (by show w.heap.size + 1 + 1 ≤ W.heap.size; omega) ho5); have HS5 : Hid (Small sd l5) := hsm5; have hk6 := HX5.out.box.c0; obtain ⟨p0, q0⟩ := HX5.out.res; have HK5 : Hid (GB w5 (w.heap.size + 1) 0 (.slice none 0 0)) := GB.drewn (w := W.drew) HK3.out hd5 (by omega) (by show w.heap.size + 1 < W.heap.size; omega); have hk7 := HK5.out; clear hsm5 ho5 hd5; obtain ⟨d0, d1, m0, m1⟩ := hk7))
  all_goals
    go_wp2
    refine bodyPost_ret (v := .tuple #[.agg #[.slice A2 l2.length c2], .agg #[.int .i64 sd, .slice A5 l5.length c5]]) (by simp [results, Tryd.results6, go_sem, p0, d0, d1]) rfl ?_
    refine ⟨A2, c2, l2, sd, A5, c5, l5, rfl, HSM.out, HS5.out, ?_, ?_, ?_⟩
    · exact OwnN.lower (base := w.heap.size + 1 + 1 + 1) (by omega) (OwnN.set_below (by show _ < _; simp <;> omega) _ (OwnN.set_below (by show _ < _; simp <;> omega) _ (OwnN.set_below (by show _ < _; simp <;> omega) _ HX5.out.own)))
    · exact OwnI.lower (base := w.heap.size + 1 + 1) (by omega) (OwnI.set_below (by show _ < _; simp <;> omega) _ (OwnI.set_below (by show _ < _; simp <;> omega) _ (OwnI.set_below (by show _ < _; simp <;> omega) _ HO5.out)))
    · exact ((HX5.out.bel.setCell (by simp <;> omega) _).setCell (by simp <;> omega) _).setCell (by simp <;> omega) _
end Go.Proofs.YtoobkajilbmdhaaDoor

namespace Go.Proofs.YtoobkajilbmdhaaDoor
open Go.RowKit
set_option linter.unusedVariables false
set_option linter.unusedSimpArgs false

theorem RN.go {w w' : World} {A : Option Addr} {l : List Nd} (h : RN w w.heap.size A l) (hb : Below w.heap.size w w') : RN w' w'.heap.size A l := (h.below hb).mono hb.size
set_option maxRecDepth 100000 in
set_option maxHeartbeats 2000000 in
theorem lwPools_any (rt code : Int) (A A' : Option Addr) (c c' : Nat) (l : List Nd) (w : World) (h : RN w w.heap.size A l) (h' : RN w w.heap.size A' l) (hl : l.length ≤ 1000000000) (hr : code = 0 → poolRight l = true) :
    Calls Tryd.prog 15 #[.agg #[.slice A l.length c, .int .i64 rt, .int .i64 code], .agg #[.slice A' l.length c', .int .i64 rt, .int .i64 code]] w fun e w' => e = .returned (.bool true) ∧ Below w.heap.size w w' := by
  obtain ⟨W0, HW⟩ : ∃ W0, W0 = ((w.alloc (.cells #[.slice A l.length c, .int .i64 rt, .int .i64 code] 32)).alloc (.cells #[.slice A' l.length c', .int .i64 rt, .int .i64 code] 32)) := ⟨_, rfl⟩
  have HB0 : Hid (Below w.heap.size w W0) := by rw [HW]; exact ((Below.refl _ _).alloc (Nat.le_refl _) _).alloc (by simp) _
  have HX0 : Hid (PO1 W0 w.heap.size (.slice A l.length c) rt code ∧ PO1 W0 (w.heap.size + 1) (.slice A' l.length c') rt code ∧ w.heap.size + 1 < W0.heap.size) := by
    rw [HW]
    exact ⟨⟨by simp [go_sem], by simp [go_sem], by simp [go_sem]⟩, ⟨by simp [go_sem], by simp [go_sem], by simp [go_sem]⟩, by simp⟩
  have H := Lib.hid (h.go HB0.out)
  have H' := Lib.hid (h'.go HB0.out)
  have HR := Lib.hid hr
  clear h h' hr
  obtain ⟨⟨a0, a1, a2⟩, ⟨b0, b1, b2⟩, _⟩ := HX0.out
  go_enter Tryd.func15, Tryd.ntmps15
  go_upto_region 1 with fail
  rw [← HW]
  clear HW
  go_wp2_with fail
  go_loopw [5] (fun i wr => ∃ k : Nat, i = .int .i64 k ∧ k ≤ l.length ∧ Hid (Below W0.heap.size W0 wr)) (fun i _ => l.length - (intOf i).toNat)
  case atStart => exact ⟨0, rfl, Nat.zero_le _, Below.refl _ _⟩
  case round =>
    clear a0 a1 a2 b0 b1 b2
    obtain ⟨k, rfl, hk, HB⟩ := hrel
    have hz := HX0.out.2.2
    have a0 := (HB.out.cell (p := ⟨w.heap.size, 0, none⟩) (by show w.heap.size < _; omega)).trans HX0.out.1.c0
    have a2 := (HB.out.cell (p := ⟨w.heap.size, 2, none⟩) (by show w.heap.size < _; omega)).trans HX0.out.1.c2
    have b0 := (HB.out.cell (p := ⟨w.heap.size + 1, 0, none⟩) (by show w.heap.size + 1 < _; omega)).trans HX0.out.2.1.c0
    clear hz
    by_cases hlt : k < l.length
    · obtain ⟨b1, o1, rfl, _, hc1⟩ := (H.out.below HB.out).at_ hlt
      obtain ⟨b2, o2, rfl, _, hc2⟩ := (H'.out.below HB.out).at_ hlt
      have hkI : (k : Int) < (l.length : Int) := by omega
      generalize l[k] = x at hc1 hc2
      obtain ⟨x1, x2, x3, x4, x5⟩ := x
      obtain ⟨d1, d2, d3, d4, d5⟩ := hc1
      obtain ⟨f1, f2, f3, f4, f5⟩ := hc2
      go_wp2_with fail
      go_region
      go_wp2
      go_roundw
      case rel => exact ⟨k + 1, by go_num, by omega, HB.out.drew⟩
      case measure => simp [intOf] <;> omega
    · obtain rfl : k = l.length := by omega
      have HBW := Lib.hid (HB0.out.trans (HB.out.mono HB0.out.size))
      by_cases hc : code = 0
      · have hq : (code != 0) = false := by simpa using hc
        have hRR := mPoolRight_any A c l wr (H.out.go HB.out) hl
        rw [HR.out hc] at hRR
        clear hc
        go_wp2_with fail
        refine hRR.mono ?_
        rintro e w2 ⟨rfl, hb2⟩
        have HB2 := Lib.hid (HBW.out.trans (hb2.mono HBW.out.size))
        clear hb2 a0 a2 b0
        go_wp2
        go_ret
        exact ⟨rfl, HB2.out⟩
      · have hq : (code != 0) = true := by simpa using hc
        clear hc
        go_wp2
        go_ret
        exact ⟨rfl, HBW.out⟩
end Go.Proofs.YtoobkajilbmdhaaDoor
