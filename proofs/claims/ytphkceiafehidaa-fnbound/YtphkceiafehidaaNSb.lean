/- Several texts in one: TbW, WyBm, WyY, WyDp, WyBp, BdN, BdL, EqP, SmM, BdM, BdC, BdI, PgBo, BdP. -/
import Derived.Test.YtphkceiafehidaaWyX
import Derived.Test.YtphkceiafehidaaWyF
import Derived.Test.YtphkceiafehidaaWyZ
import Derived.Deep.LoopGhost
import Derived.Deep.RegionWith
import Derived.Test.YtphkceiafehidaaWyW
import Derived.Test.YtphkceiafehidaaPlL
import Derived.BigRegion
import Derived.Deep.CutRange
import Derived.Deep.RegionHeld3
import Derived.Test.YtphkceiafehidaaWyV
import Derived.Test.YtphkceiafehidaaPgB
import Derived.Test.YtphkceiafehidaaWyN
namespace Go.Proofs.Ytphkceiafehidaa
open Go.RowKit
set_option linter.unusedVariables false

/-- Block q holds the fields of tables. -/
structure TB (w : World) (q : Nat) (vM vD : Value) : Prop where
  c0 : w.cell? ⟨q, 0, none⟩ = some vM
  c1 : w.cell? ⟨q, 1, none⟩ = some vD
  f0 : w.frozen? ⟨q, 0, none⟩ = false
  f1 : w.frozen? ⟨q, 1, none⟩ = false
theorem TB.made (w : World) (vM vD : Value) (t : TypeId) : TB (w.alloc (.cells #[vM, vD] t)) w.heap.size vM vD := ⟨by simp [go_sem], by simp [go_sem], by simp [go_sem], by simp [go_sem]⟩
theorem TB.made2 (w : World) (vM vD vM' vD' : Value) (t : TypeId) : TB ((w.alloc (.cells #[vM, vD] t)).alloc (.cells #[vM', vD'] t)) w.heap.size vM vD ∧ TB ((w.alloc (.cells #[vM, vD] t)).alloc (.cells #[vM', vD'] t)) (w.heap.size + 1) vM' vD' :=
  ⟨⟨by simp [go_sem], by simp [go_sem], by simp [go_sem], by simp [go_sem]⟩, ⟨by simp [go_sem], by simp [go_sem], by simp [go_sem], by simp [go_sem]⟩⟩
theorem TB.at_ {w w' : World} {q : Nat} {vM vD : Value} (h : TB w q vM vD) (e : w'.heap[q]? = w.heap[q]?) : TB w' q vM vD := ⟨(cell_at e).trans h.c0, (cell_at e).trans h.c1, (froz_at e).trans h.f0, (froz_at e).trans h.f1⟩
theorem TB.below {w w' : World} {q B : Nat} {vM vD : Value} (h : TB w q vM vD) (hb : Below B w w') (hq : q < B) : TB w' q vM vD := h.at_ (hb.block q hq)
theorem TB.set1 {w : World} {q : Nat} {vM vD : Value} (h : TB w q vM vD) (v : Value) : TB (w.setCell ⟨q, 1, none⟩ v) q vM v := ⟨(World.cell?_setCell_other _ _ _ _ (by simp)).trans h.c0, World.cell?_setCell_same _ _ _ h.c1, by simpa using h.f0, by simpa using h.f1⟩
/-- Where the own blocks of two slices lie, apart. -/
def Apt (vT vC : Value) : Prop := ∀ k, vT.ownBlock = some k → vC.ownBlock ≠ some k

/-- An answer in its box q, with its two rows, all between B and hi. -/
structure TA (w : World) (B hi q : Nat) (vT vC : Value) (T : List Pl) (L : List Int) : Prop where
  m : TB w q vT vC
  oT : OwnPl w B vT T
  oC : OwnI 2 .i64 w B vC L
  lT : Lies vT B hi
  lC : Lies vC B hi
  hq : B ≤ q ∧ q < hi
  aT : vT.ownBlock ≠ some q
  aC : vC.ownBlock ≠ some q
  ap : Apt vT vC
def itT (B hi q : Nat) (vT vC : Value) (T : List Pl) (L : List Int) : It := ⟨B, hi, fun w => TA w B hi q vT vC T L, fun w w' hk h =>
  ⟨h.m.at_ (hk q h.hq.1 h.hq.2), ownsRow_at h.oT h.lT hk, ownsRow_at h.oC h.lC hk, h.lT, h.lC, h.hq, h.aT, h.aC, h.ap⟩⟩
theorem TA.marked {w w' : World} {B hi q : Nat} {vT vC : Value} {T T' : List Pl} {L L' : List Int} (h : TA w B hi q vT vC T L) (hq : w'.heap[q]? = w.heap[q]?) (oT : OwnPl w' B vT T') (oC : OwnI 2 .i64 w' B vC L') : TA w' B hi q vT vC T' L' :=
  ⟨h.m.at_ hq, oT, oC, h.lT, h.lC, h.hq, h.aT, h.aC, h.ap⟩
theorem TA.new {w0 w1 : World} {B : Nat} {vT vC : Value} {T : List Pl} {L : List Int} (h1 : OwnPl w1 w0.heap.size vT T) (h2 : OwnI 2 .i64 w1 w0.heap.size vC L) (ap : Apt vT vC) (hB : B ≤ w0.heap.size) (hz : w0.heap.size ≤ w1.heap.size) :
    TA (w1.alloc (.cells #[vT, vC] 45)) B (w1.alloc (.cells #[vT, vC] 45)).heap.size w1.heap.size vT vC T L := by
  have l1 := h1.lt
  have l2 := World.ownsRow.lt h2
  refine ⟨TB.made _ _ _ _, OwnPl.lower hB (h1.alloc _), OwnI.lower hB (OwnI.alloc h2 _), fun k hk => ?_, fun k hk => ?_, ⟨by omega, by simp⟩, fun e => ?_, fun e => ?_, ap⟩
  · have := l1 k hk; simp; omega
  · have := l2 k hk; simp; omega
  · have := (l1 _ e).2; omega
  · have := (l2 _ e).2; omega
/-- An answer that is tables. -/
def TOut (w w' : World) (T : List Pl) (L : List Int) (e : Ending) : Prop := ∃ A c D d, e = .returned (.agg #[.slice A T.length c, .slice D L.length d]) ∧ OwnPl w' w.heap.size (.slice A T.length c) T ∧ OwnI 2 .i64 w' w.heap.size (.slice D L.length d) L ∧ Apt (.slice A T.length c) (.slice D L.length d) ∧ Below w.heap.size w w'

/-- Tables baked: of each mark all sums. -/
def bakeOk (side : Int) (l : List Int) (ms : List Pl) : Bool := gridRight side l && decide (ms.length ≤ 4) && ms.all fun p => opn side l p.x p.y
def flatD (D : Nat → List Int) (k : Nat) : List Int := (List.range k).flatMap D
theorem flatD_succ (D : Nat → List Int) (k : Nat) : flatD D (k + 1) = flatD D k ++ D k := by simp [flatD, List.range_succ]
def bakeM (side : Int) (l : List Int) (ms : List Pl) : List Pl := if bakeOk side l ms then ms else []
def bakeD (side : Int) (l : List Int) (ms : List Pl) (D : Nat → List Int) : List Int := if bakeOk side l ms then flatD D ms.length else []
/-- D has the sums of each mark that is open. -/
def IsB (side : Int) (l : List Int) (ms : List Pl) (D : Nat → List Int) : Prop := ∀ i (h : i < ms.length), (gridRight side l && opn side l ms[i].x ms[i].y) = true → GDist side l ms[i].x ms[i].y (D i)
theorem isb_any (side : Int) (l : List Int) (ms : List Pl) : ∃ D, IsB side l ms D :=
  ⟨fun i => if h : i < ms.length then Classical.choose (gdist_any side l ms[i].x ms[i].y) else [], fun i h => by dsimp only; rw [dif_pos h]; exact Classical.choose_spec (gdist_any side l ms[i].x ms[i].y)⟩
theorem flatD_len {side : Int} {l : List Int} {ms : List Pl} {D : Nat → List Int} (hd : IsB side l ms D) (hr : gridRight side l = true) : ∀ k, k ≤ ms.length → (∀ i (h : i < ms.length), i < k → opn side l ms[i].x ms[i].y = true) → (flatD D k).length = k * l.length
  | 0, _, _ => by simp [flatD]
  | k + 1, hk, ho => by
    have h1 := flatD_len hd hr k (by omega) (fun i h hi => ho i h (by omega))
    have h2 := (hd k (by omega) (by rw [hr, ho k (by omega) (by omega)]; rfl)).len
    rw [flatD_succ, List.length_append, h1, h2, Nat.add_mul]
    omega
theorem bakeM_len (side : Int) (l : List Int) (ms : List Pl) : (bakeM side l ms).length ≤ 4 := by
  unfold bakeM
  split
  · next h =>
    simp only [bakeOk, Bool.and_eq_true, decide_eq_true_eq] at h
    exact h.1.2
  · simp
theorem bakeD_len {side : Int} {l : List Int} {ms : List Pl} {D : Nat → List Int} (hd : IsB side l ms D) : (bakeD side l ms D).length ≤ 256 := by
  unfold bakeD
  split
  · next h =>
    simp only [bakeOk, Bool.and_eq_true, decide_eq_true_eq, List.all_eq_true] at h
    rw [flatD_len hd h.1.1 ms.length (Nat.le_refl _) (fun i hi _ => h.2 _ (List.getElem_mem hi))]
    have h1 := right_len h.1.1
    have := Nat.mul_le_mul h.1.2 h1
    omega
  · simp
end Go.Proofs.Ytphkceiafehidaa

namespace Go.Proofs.Ytphkceiafehidaa
open Go.RowKit
set_option linter.unusedVariables false
set_option linter.unusedSimpArgs false

theorem step_app_ints {i0 : TypeInfo} (hi : Try.prog.info? 2 = some i0) (hz0 : i0.zero = some (.int .i64 0)) (hz1 : i0.size = 1) (hz2 : i0.bytes = 8)
    {ops : Array Oper} {o : Oper} {a : Act} {K : Act → World → Prop} {Q : Exit → Act → World → Prop} {E : Prop} (hgd : o.guard = none) (s x : Operand)
    (ho : o.op = .call { callee := .builtin .append, args := #[s, x], argTypes := #[23, 23] })
    (base : Nat) (v : Value) (l l' : List Int) (wr : World) (b off c : Nat) (hown : OwnI 2 .i64 wr base v l) (hs : a.eval s = v) (hx : a.eval x = .slice (some ⟨b, off, none⟩) l'.length c) (hn : ∀ j (hj : j < l'.length), wr.cell? ⟨b, off + j, none⟩ = some (.int .i64 l'[j])) (h0 : 0 < l'.length) (hlen : l.length + l'.length ≤ 1000000) (hb : base ≤ wr.heap.size)
    (h : ∀ g cap w', OwnI 2 .i64 w' base (.slice (some ⟨g, 0, none⟩) (l.length + l'.length) cap) (l ++ l') → wr.grownBy w' v.ownBlock → (v.ownBlock = some g ∨ g = wr.heap.size) → K (a.put o.dst (.slice (some ⟨g, 0, none⟩) (l.length + l'.length) cap)) w') :
    if Region.wanted o (yielded ops a.tmps) = true then Oper.wp Try.prog o a wr K Q else E := by
  refine step_append_lies _ hgd s x 23 ho base 2 i0 (.int .i64 0) 1 8 Try.underlying23 hi hz0 hz1 hz2 rfl (by decide) v l.length _ hs hown ⟨b, off, none⟩ l'.length c (l'.map (Value.int .i64)) hx (by simp) ?_ ?_ h0 ?_ ?_ hb wr.heap.size rfl ?_
  · intro j u hu
    have hj : j < l'.length := by have := (List.getElem?_eq_some_iff.1 hu).1; simpa using this
    have e : (⟨b, off, none⟩ : Addr).add j = ⟨b, off + j, none⟩ := by unfold Addr.add; split <;> simp_all
    rw [e, hn j hj]
    simpa [hj] using hu
  · intro u hu
    obtain ⟨x, _, rfl⟩ := List.mem_map.1 hu
    rfl
  · unfold maxLen; omega
  · omega
  · intro g cap w' hown' hgrow hlies _
    refine h g cap w' ?_ hgrow hlies
    have e : (l ++ l').length = l.length + l'.length := by simp
    unfold OwnI
    simpa [e] using hown'
theorem append_pls {i0 : TypeInfo} (hi : Try.prog.info? 27 = some i0) (hz0 : i0.zero = some (.agg #[.int .i64 0, .int .i64 0])) (hz1 : i0.size = 2) (hz2 : i0.bytes = 16)
    {ops : Array Oper} {rest : List Oper} {o : Oper} {a : Act} {Q : Exit → Act → World → Prop} (hgd : o.guard = none) (s x : Operand)
    (ho : o.op = .call { callee := .builtin .append, args := #[s, x], argTypes := #[30, 30] })
    (base : Nat) (v : Value) (l l' : List Pl) (wr : World) (b off c : Nat) (hown : OwnPl wr base v l) (hs : a.eval s = v) (hx : a.eval x = .slice (some ⟨b, off, none⟩) l'.length c) (hn : ∀ j (hj : j < l'.length), PlAt wr b (off + j * 2) l'[j]) (hlen : l.length + l'.length ≤ 1000000) (hb : base ≤ wr.heap.size)
    (h : ∀ v' w', OwnPl w' base v' (l ++ l') → wr.grownBy w' v.ownBlock → wpList Try.prog ops Q rest (a.put o.dst v') w') :
    wpList Try.prog ops Q (o :: rest) a wr := by
  refine wpList_append_own _ hgd s x 30 ho base 27 i0 (.agg #[.int .i64 0, .int .i64 0]) 2 16 Try.underlying30 hi hz0 hz1 hz2 rfl (by decide) v l.length _ hs hown ⟨b, off, none⟩ l'.length c (l'.flatMap Pl.cells) hx (flatPl_len _) ?_ ?_ ?_ ?_ hb ?_
  · intro j u hu
    have e : (⟨b, off, none⟩ : Addr).add j = ⟨b, off + j, none⟩ := by unfold Addr.add; split <;> simp_all
    rw [e]
    have hjl : j < l'.length * 2 := by
      have := (List.getElem?_eq_some_iff.1 hu).1
      rw [flatPl_len] at this
      exact this
    have hq : j / 2 < l'.length := by omega
    have hg := flatPl_get l' (j / 2) (j % 2) hq (by omega)
    have e2 : j / 2 * 2 + j % 2 = j := by omega
    rw [e2, hu] at hg
    have hp := hn (j / 2) hq
    rcases Nat.mod_two_eq_zero_or_one j with h0 | h0
    · rw [h0] at hg
      simp only [Pl.cells, List.getElem?_cons_zero, Option.some.injEq] at hg
      have e3 : off + j = off + j / 2 * 2 := by omega
      rw [hg, ← hp.c0, e3]
    · rw [h0] at hg
      simp only [Pl.cells, List.getElem?_cons_succ, List.getElem?_cons_zero, Option.some.injEq] at hg
      have e3 : off + j = off + j / 2 * 2 + 1 := by omega
      rw [hg, ← hp.c1, e3]
  · intro u hu
    obtain ⟨n, _, hu⟩ := List.mem_flatMap.1 hu
    simp [Pl.cells] at hu
    rcases hu with rfl | rfl <;> rfl
  · unfold maxLen; omega
  · omega
  · intro v' w' hown' hgrow _
    refine h v' w' ?_ hgrow
    unfold OwnPl
    simpa [List.flatMap_append] using hown'
/-- While tables are baked: the boxes of the map, of the answer, of what is made; its rows. -/
structure BK (w : World) (side : Int) (A : Option Addr) (c : Nat) (l : List Int) (bo : Nat) (vM vD : Value) (ms : List Pl) (ds : List Int) (wr : World) : Prop where
  g : GB wr w.heap.size side (.slice A l.length c)
  r : TB wr (w.heap.size + 1) (.slice none 0 0) (.slice none 0 0)
  o : TB wr bo vM vD
  oM : OwnPl wr (w.heap.size + 1 + 1) vM ms
  oD : OwnI 2 .i64 wr (w.heap.size + 1 + 1) vD ds
  ap : Apt vM vD
  aM : vM.ownBlock ≠ some bo
  aD : vD.ownBlock ≠ some bo
  bo2 : w.heap.size + 1 + 1 ≤ bo ∧ bo < wr.heap.size
  bel : Below w.heap.size w wr
section
variable {w wr wr' : World} {side : Int} {A : Option Addr} {c : Nat} {l : List Int} {bo : Nat} {vM vD : Value} {ms : List Pl} {ds : List Int}
theorem BK.below (h : BK w side A c l bo vM vD ms ds wr) (hb : Below wr.heap.size wr wr') : BK w side A c l bo vM vD ms ds wr' := by
  obtain ⟨h1, h2⟩ := h.bo2
  exact ⟨h.g.below hb (by omega), h.r.below hb (by omega), h.o.below hb h2, h.oM.keep hb, h.oD.keep hb, h.ap, h.aM, h.aD, ⟨h1, Nat.lt_of_lt_of_le h2 hb.size⟩, h.bel.trans (hb.mono (by omega))⟩
theorem BK.mid (h : BK w side A c l bo vM vD ms ds wr) (hg : wr.grownBy wr' vD.ownBlock) : GB wr' w.heap.size side (.slice A l.length c) ∧ Below w.heap.size w wr' := by
  obtain ⟨h1, h2⟩ := h.bo2
  have lD := World.ownsRow.lt h.oD
  exact ⟨h.g.at5 (hg.block _ (by omega) fun e => by have := (lD _ e.symm).1; omega), h.bel.trans ((Below.refl _ wr).grown hg h.bel.size (fun k e => by have := (lD k e).1; omega))⟩
/-- The row of sums grows, and is stored. -/
theorem BK.push {g cap : Nat} {ds2 : List Int} {n2 : Nat} (h : BK w side A c l bo vM vD ms ds wr) (ho : OwnI 2 .i64 wr' (w.heap.size + 1 + 1) (.slice (some ⟨g, 0, none⟩) n2 cap) ds2) (hg : wr.grownBy wr' vD.ownBlock) (hl : vD.ownBlock = some g ∨ g = wr.heap.size) : BK w side A c l bo vM (.slice (some ⟨g, 0, none⟩) n2 cap) ms ds2 (wr'.setCell ⟨bo, 1, none⟩ (.slice (some ⟨g, 0, none⟩) n2 cap)) := by
  obtain ⟨h1, h2⟩ := h.bo2
  have lD := World.ownsRow.lt h.oD
  have lM := h.oM.lt
  have k : ∀ b, b < w.heap.size + 1 + 1 → wr'.heap[b]? = wr.heap[b]? := fun b hb => hg.block b (by omega) fun e => by have := (lD b e.symm).1; omega
  have kb : wr'.heap[bo]? = wr.heap[bo]? := hg.block bo h2 fun e => h.aD e.symm
  have s : ∀ b, b ≠ bo → (wr'.setCell ⟨bo, 1, none⟩ (.slice (some ⟨g, 0, none⟩) n2 cap)).heap[b]? = wr'.heap[b]? := fun b hb => heap_setCell_other wr' _ b _ hb
  have hgb : g ≠ bo := by
    rcases hl with e | e
    · intro e2; subst e2; exact h.aD e
    · omega
  have hz := hg.size
  have hbb : Below w.heap.size wr wr' := (Below.refl _ wr).grown hg (by omega) (fun k e => by have := (lD k e).1; omega)
  have hlt : w.heap.size ≤ wr.heap.size := h.bel.size
  have oM2 : OwnPl wr' (w.heap.size + 1 + 1) vM ms := h.oM.kept hg (by
    cases e : vM.ownBlock with
    | none => exact .inl rfl
    | some k => exact .inr fun e' => h.ap k e e'.symm)
  refine ⟨(h.g.at5 (k _ (by omega))).at5 (s _ (by omega)), (h.r.at_ (k _ (by omega))).at_ (s _ (by omega)), (h.o.at_ kb).set1 _, ?_, ?_, ?_, h.aM, ?_, ⟨h1, by simpa using Nat.lt_of_lt_of_le h2 hz⟩, (h.bel.trans hbb).setCell (by show _ ≤ bo; omega) _⟩
  · exact oM2.kept (setCell_by wr' ⟨bo, 1, none⟩ _) (.inr h.aM)
  · exact World.ownsRow.kept ho (setCell_by wr' ⟨bo, 1, none⟩ _) (.inr fun e => hgb (Option.some.inj e))
  · intro k hk e
    have e' : k = g := (Option.some.inj e).symm
    subst e'
    rcases hl with h5 | h5
    · exact h.ap k hk h5
    · have := (lM k hk).2; omega
  · intro e
    exact hgb (Option.some.inj e)
end

set_option maxRecDepth 100000 in
set_option maxHeartbeats 2000000 in
theorem mBake_any (side : Int) (A : Option Addr) (c : Nat) (l : List Int) (bm offm cm : Nat) (ms : List Pl) (D : Nat → List Int) (w : World) (h : RI w w.heap.size A l) (hm : RPl w w.heap.size (some ⟨bm, offm, none⟩) ms) (hl : l.length ≤ 1000000000) (hml : ms.length ≤ 1100000) (hd : IsB side l ms D) :
    Calls Try.prog 20 #[.agg #[.int .i64 side, .slice A l.length c], .slice (some ⟨bm, offm, none⟩) ms.length cm] w fun e w' => TOut w w' (bakeM side l ms) (bakeD side l ms D) e := by
  obtain ⟨i1, hi1, hy0, hy1, hy2⟩ := info_parts Try.infoInt
  obtain ⟨i0, hin, hz0, hz1, hz2⟩ := info_parts Try.infoPl
  have H := Lib.hid h
  have HMS := Lib.hid hm
  have hR := fun w h => mRight_any side A c l w h hl
  have HZ : Hid (∀ wr, Below w.heap.size w wr → TOut w wr [] [] (.returned (.agg #[.slice none 0 0, .slice none 0 0]))) := fun wr hb => ⟨none, 0, none, 0, rfl, OwnPl.nil _ _, World.ownsRow_nil _ _ _ _, fun k hk => by simp [Value.ownBlock] at hk, hb⟩
  have HB0 : Hid (GB ((w.alloc (.cells #[.int .i64 side, .slice A l.length c] 25)).alloc (.cells #[.slice none 0 0, .slice none 0 0] 45)) w.heap.size side (.slice A l.length c) ∧ TB ((w.alloc (.cells #[.int .i64 side, .slice A l.length c] 25)).alloc (.cells #[.slice none 0 0, .slice none 0 0] 45)) (w.heap.size + 1) (.slice none 0 0) (.slice none 0 0) ∧ Below w.heap.size w ((w.alloc (.cells #[.int .i64 side, .slice A l.length c] 25)).alloc (.cells #[.slice none 0 0, .slice none 0 0] 45))) :=
    ⟨⟨by simp [go_sem], by simp [go_sem], by simp [go_sem], by simp [go_sem]⟩, ⟨by simp [go_sem], by simp [go_sem], by simp [go_sem], by simp [go_sem]⟩, bel_T (bel_A _ _) (bel_A _ _)⟩
  clear h hm hl
  cases hr : gridRight side l
  · have HE : Hid (bakeM side l ms = [] ∧ bakeD side l ms D = []) := by constructor <;> simp [bakeM, bakeD, bakeOk, hr]
    rw [HE.out.1, HE.out.2]
    rw [hr] at hR
    clear hr hd
    go_enter Try.func20, Try.ntmps20
    go_wp2_with fail
    refine (hR _ ((H.out.below HB0.out.2.2).mono HB0.out.2.2.size)).mono ?_
    rintro e w1 ⟨rfl, hb1⟩
    have HB1 : Hid (GB w1 w.heap.size side (.slice A l.length c) ∧ TB w1 (w.heap.size + 1) (.slice none 0 0) (.slice none 0 0) ∧ Below w.heap.size w w1) := ⟨HB0.out.1.below hb1 (by simp; omega), HB0.out.2.1.below hb1 (by simp), bel_T HB0.out.2.2 hb1⟩
    clear hb1 HB0
    obtain ⟨r0, r1, rf0, rf1⟩ := HB1.out.2.1
    go_wp2_with fail
    refine bodyPost_ret (v := .agg #[.slice none 0 0, .slice none 0 0]) (by simp [results, Try.results20, go_sem, r0, r1]) rfl ?_
    exact HZ.out _ ((HB1.out.2.2.setCell (by simp) _).setCell (by simp) _)
  · rw [hr] at hR
    have HR := Lib.hid hr
    by_cases h4 : ms.length ≤ 4
    · have hq4 : decide ((4 : Int) < (ms.length : Int)) = false := by simp; omega
      have HMSB : Hid (∀ wr, Below w.heap.size w wr → ∀ j (hj : j < ms.length), PlAt wr bm (offm + j * 2) ms[j] ∧ bm < w.heap.size) := by
        intro wr hb j hj
        obtain ⟨b', o', e, hlt, hp⟩ := HMS.out.at_ hj
        cases e
        exact ⟨hp.keep (hb.block _ hlt), hlt⟩
      have HDD := Lib.hid hd
      clear hr hd
      go_enter Try.func20, Try.ntmps20
      go_wp2_with fail
      refine (hR _ ((H.out.below HB0.out.2.2).mono HB0.out.2.2.size)).mono ?_
      rintro e w1 ⟨rfl, hb1⟩
      have HB1 : Hid (GB w1 w.heap.size side (.slice A l.length c) ∧ TB w1 (w.heap.size + 1) (.slice none 0 0) (.slice none 0 0) ∧ Below w.heap.size w w1 ∧ w.heap.size + 1 + 1 ≤ w1.heap.size) := ⟨HB0.out.1.below hb1 (by simp; omega), HB0.out.2.1.below hb1 (by simp), bel_T HB0.out.2.2 hb1, by have := hb1.size; simpa using this⟩
      clear hb1 HB0 hR
      have HO1 := Lib.hid (OwnPl.none_lit w1 (w.heap.size + 1 + 1) HB1.out.2.2.2)
      have HN1 : Hid (∀ j (hj : j < ms.length), PlAt (w1.alloc (.cells #[] 27)) bm (offm + j * 2) ms[j]) := fun j hj => (HMSB.out _ (bel_T HB1.out.2.2.1 (bel_A _ _)) j hj).1
      have hb1z : w.heap.size + 1 + 1 ≤ (w1.alloc (.cells #[] 27)).heap.size := by have := HB1.out.2.2.2; simp; omega
      have HB1Z := Lib.hid hb1z
      have hml2 : ([] : List Pl).length + ms.length ≤ 1000000 := by simp; omega
      clear hb1z
      go_upto_region 3 with fail
      go_wp2_with (at_builtin; refine append_pls hin hz0 hz1 hz2 rfl _ _ rfl (w.heap.size + 1 + 1) (.slice (some ⟨w1.heap.size, 0, none⟩) 0 0) [] ms (w1.alloc (.cells #[] 27)) bm offm cm HO1.out (by simp [Act.eval]) (by simp [Act.eval]) HN1.out hml2 HB1Z.out ?_; intro vM w2 hoM hg2; rw [List.nil_append] at hoM; obtain ⟨AM, cM, rfl⟩ := hoM.form)
      have HK0 : Hid (BK w side A c l w2.heap.size (.slice AM ms.length cM) (.slice none 0 0) ms [] (w2.alloc (.cells #[.slice AM ms.length cM, .slice none 0 0] 45))) := by
        have hz := HB1.out.2.2.2
        have hbw : Below w1.heap.size w1 w2 := (bel_A w1 (.cells #[] 27)).trans ((Below.refl _ _).grown hg2 (by simp) (fun k e => by have e' : w1.heap.size = k := Option.some.inj e; omega))
        have hs2 := hbw.size
        have ho := hoM.lt
        refine ⟨(HB1.out.1.below hbw (by omega)).below (bel_A w2 _) (by omega), (HB1.out.2.1.below hbw (by omega)).below (bel_A w2 _) (by omega), TB.made _ _ _ _, hoM.alloc _, World.ownsRow_nil _ _ _ _, fun k hk => by simp [Value.ownBlock], fun e => by have := (ho _ e).2; omega, by simp [Value.ownBlock], ⟨by omega, by simp⟩, bel_T (bel_T HB1.out.2.2.1 hbw) (bel_A _ _)⟩
      generalize w2.alloc (.cells #[.slice AM ms.length cM, .slice none 0 0] 45) = w3 at HK0 ⊢
      generalize w2.heap.size = bo at HK0 ⊢
      clear hoM hg2 HO1 HN1 HB1Z
      go_wp2_with fail
      go_loopw [6] (fun i wr => ∃ (k : Nat) (AD : Option Addr) (cD : Nat), i = .int .i64 k ∧ k ≤ ms.length ∧ BK w side A c l bo (.slice AM ms.length cM) (.slice AD (flatD D k).length cD) ms (flatD D k) wr ∧ Hid (∀ i (h : i < ms.length), i < k → opn side l ms[i].x ms[i].y = true)) (fun i _ => ms.length - (intOf i).toNat)
      case atStart => exact ⟨0, none, 0, rfl, Nat.zero_le _, HK0.out, fun i _ h => absurd h (by omega)⟩
      case round =>
        obtain ⟨k, AD, cD, rfl, hk, hbk, HOP⟩ := hrel
        have HK := Lib.hid hbk
        clear HK0 hbk
        by_cases hlt : k < ms.length
        · have hkI : (k : Int) < (ms.length : Int) := by omega
          have hp := HMSB.out wr HK.out.bel k hlt
          have HDk := Lib.hid (fun ho => HDD.out k hlt ho)
          have HOk : Hid (∀ b, opn side l ms[k].x ms[k].y = b → ∀ i (h : i < ms.length), i < k + 1 → b = true → opn side l ms[i].x ms[i].y = true) := by
            intro b hb i hi hik hbt
            by_cases e : i < k
            · exact HOP.out i hi e
            · obtain rfl : i = k := by omega
              exact hb.trans hbt
          have HNO : Hid (opn side l ms[k].x ms[k].y = false → bakeM side l ms = [] ∧ bakeD side l ms D = []) := by
            intro ho
            have : bakeOk side l ms = false := by
              cases e : bakeOk side l ms
              · rfl
              · simp only [bakeOk, Bool.and_eq_true, List.all_eq_true] at e
                rw [e.2 _ (List.getElem_mem hlt)] at ho
                cases ho
            constructor <;> simp [bakeM, bakeD, this]
          have HPK : Hid (∀ V, Below w.heap.size w V → PlAt V bm (offm + k * 2) ms[k]) := fun V hb => (HMSB.out V hb k hlt).1
          generalize ms[k] = p at hp HDk HOk HNO HPK
          obtain ⟨ux, uy⟩ := p
          simp only at hp HDk HOk HNO HPK
          have hOp := fun w h => mOpen5_any side ux uy A c l w h HR.out
          have HSS : Hid (∀ wr', Below wr.heap.size wr wr' → wr'.cell? ⟨w.heap.size, 0, none⟩ = some (.int .i64 side) ∧ wr'.cell? ⟨w.heap.size, 1, none⟩ = some (.slice A l.length c) ∧ wr'.cell? ⟨bm, offm + k * 2, none⟩ = some (.int .i64 ux) ∧ wr'.cell? ⟨bm, offm + k * 2 + 1, none⟩ = some (.int .i64 uy)) := fun wr' hb => ⟨(HK.out.below hb).g.c0, (HK.out.below hb).g.c1, (HPK.out wr' (bel_T HK.out.bel hb)).c0, (HPK.out wr' (bel_T HK.out.bel hb)).c1⟩
          have hkeep := HSS.out _ (bel_D wr)
          cases ho : opn side l ux uy
          · rw [ho] at hOp HNO
            clear ho hp
            go_upto_region 7 with fail
            go_region_held3 (fun w' => w'.cell? ⟨w.heap.size, 0, none⟩ = some (.int .i64 side) ∧ w'.cell? ⟨w.heap.size, 1, none⟩ = some (.slice A l.length c) ∧ w'.cell? ⟨bm, offm + k * 2, none⟩ = some (.int .i64 ux) ∧ w'.cell? ⟨bm, offm + k * 2 + 1, none⟩ = some (.int .i64 uy))
              (first | (with_reducible exact hkeep) | go_keep)
              (first | (go_at_call 48; refine (hOp _ ((H.out.below (bel_T HK.out.bel (bel_D wr))).mono (bel_T HK.out.bel (bel_D wr)).size)).mono ?_; rintro e w4 ⟨rfl, hb⟩; have hb4 := bel_T (bel_D wr) hb; clear hkeep; have hkeep := HSS.out _ hb4; clear hb))
            have HK4 := Lib.hid (HK.out.below hb4)
            obtain ⟨r0, r1, rf0, rf1⟩ := HK4.out.r
            clear hkeep hb4
            go_wp2_with fail
            refine bodyPost_ret (v := .agg #[.slice none 0 0, .slice none 0 0]) (by simp [results, Try.results20, go_sem, r0, r1]) rfl ?_
            rw [(HNO.out (by trivial)).1, (HNO.out (by trivial)).2]
            exact HZ.out _ ((HK4.out.bel.setCell (by simp) _).setCell (by simp) _)
          · rw [ho] at hOp
            have HO1 := Lib.hid (HOk.out true ho)
            have hD := fun w h => mL05Dists_any side ux uy A c l (D k) w h HR.out ho (HDk.out (by rw [HR.out, ho]; rfl))
            have HDL : Hid ((D k).length = l.length) := (HDk.out (by rw [HR.out, ho]; rfl)).len
            have HL0 : Hid (0 < l.length) := by have := (opn_parts HR.out ho).2.1; show _ < _; omega
            clear ho hp
            go_upto_region 7 with fail
            go_region_held3 (fun w' => w'.cell? ⟨w.heap.size, 0, none⟩ = some (.int .i64 side) ∧ w'.cell? ⟨w.heap.size, 1, none⟩ = some (.slice A l.length c) ∧ w'.cell? ⟨bm, offm + k * 2, none⟩ = some (.int .i64 ux) ∧ w'.cell? ⟨bm, offm + k * 2 + 1, none⟩ = some (.int .i64 uy))
              (first | (with_reducible exact hkeep) | go_keep)
              (first | (go_at_call 48; refine (hOp _ ((H.out.below (bel_T HK.out.bel (bel_D wr))).mono (bel_T HK.out.bel (bel_D wr)).size)).mono ?_; rintro e w4 ⟨rfl, hb⟩; have hb4 := bel_T (bel_D wr) hb; clear hkeep; have hkeep := HSS.out _ hb4; clear hb))
            have HK4 := Lib.hid (HK.out.below hb4)
            have HB4 := Lib.hid hb4
            clear hkeep hb4
            have HS9 : Hid (∀ wr', Below w4.heap.size w4 wr' → wr'.cell? ⟨w.heap.size, 0, none⟩ = some (.int .i64 side) ∧ wr'.cell? ⟨w.heap.size, 1, none⟩ = some (.slice A l.length c) ∧ wr'.cell? ⟨bm, offm + k * 2, none⟩ = some (.int .i64 ux) ∧ wr'.cell? ⟨bm, offm + k * 2 + 1, none⟩ = some (.int .i64 uy) ∧ wr'.cell? ⟨bo, 1, none⟩ = some (.slice AD (flatD D k).length cD)) := fun wr' hb => ⟨(HK4.out.below hb).g.c0, (HK4.out.below hb).g.c1, (HPK.out wr' (bel_T HK4.out.bel hb)).c0, (HPK.out wr' (bel_T HK4.out.bel hb)).c1, (HK4.out.below hb).o.c1⟩
            have k9 := HS9.out _ (bel_D w4)
            have hkeep := And.intro k9.1 (And.intro k9.2.1 (And.intro k9.2.2.1 k9.2.2.2.1))
            have c91 := k9.2.2.2.2
            clear k9
            have HFL : Hid ((flatD D k).length + (D k).length ≤ 1000000) := by
              have h1 := flatD_len HDD.out HR.out k (by omega) HOP.out
              have h2 := HDL.out
              have h3 := right_len HR.out
              have h4 := Nat.mul_le_mul (show k ≤ 4 by omega) h3
              show _ ≤ _
              omega
            go_upto_region 9 with fail
            have hf1 := HK4.out.o.f1
            refine wp_region_noPanic ?_
            refine wp_region_held_drew (S := (fun w' => w'.cell? ⟨w.heap.size, 0, none⟩ = some (.int .i64 side) ∧ w'.cell? ⟨w.heap.size, 1, none⟩ = some (.slice A l.length c) ∧ w'.cell? ⟨bm, offm + k * 2, none⟩ = some (.int .i64 ux) ∧ w'.cell? ⟨bm, offm + k * 2 + 1, none⟩ = some (.int .i64 uy))) (by kernel_rfl) hkeep (fun hHeld => ?_)
            refine wpAnyH_take (i := 0) (v := ?_) rfl (by kernel_rfl) (by kernel_rfl) (by kernel_rfl) (fun _ _ _ h => h) (Or.inl ⟨by rfl, ?_⟩) (by assumption) ?_
            rotate_left 1
            · (intro w' hSw; (try dsimp only at hSw); go_simp <;> with_reducible rfl)
            simp only [Act.put, List.getElem_toArray, List.getElem_cons_succ, List.getElem_cons_zero, List.setIfInBounds_toArray, List.set_cons_zero, List.set_cons_succ]
            refine wpAnyH_take (i := 2) (v := ?_) rfl (by kernel_rfl) (by kernel_rfl) (by kernel_rfl) (fun _ _ _ h => h) (Or.inl ⟨by rfl, ?_⟩) (by assumption) ?_
            rotate_left 1
            · (intro w' hSw; (try dsimp only at hSw); go_simp <;> with_reducible rfl)
            simp only [Act.put, List.getElem_toArray, List.getElem_cons_succ, List.getElem_cons_zero, List.setIfInBounds_toArray, List.set_cons_zero, List.set_cons_succ]
            refine wpAnyH_take (i := 3) (v := ?_) rfl (by kernel_rfl) (by kernel_rfl) (by kernel_rfl) (fun _ _ _ h => h) (Or.inl ⟨by rfl, ?_⟩) (by assumption) ?_
            rotate_left 1
            · (intro w' hSw; (try dsimp only at hSw); go_simp <;> with_reducible rfl)
            simp only [Act.put, List.getElem_toArray, List.getElem_cons_succ, List.getElem_cons_zero, List.setIfInBounds_toArray, List.set_cons_zero, List.set_cons_succ]
            refine wpAnyH_take (i := 4) (v := ?_) rfl (by kernel_rfl) (by kernel_rfl) (by kernel_rfl) (fun _ _ _ h => h) (Or.inl ⟨by rfl, ?_⟩) (by assumption) ?_
            rotate_left 1
            · (intro w' hSw; (try dsimp only at hSw); go_simp <;> with_reducible rfl)
            simp only [Act.put, List.getElem_toArray, List.getElem_cons_succ, List.getElem_cons_zero, List.setIfInBounds_toArray, List.set_cons_zero, List.set_cons_succ]
            refine wpAnyH_take (i := 5) (v := ?_) rfl (by kernel_rfl) (by kernel_rfl) (by kernel_rfl) (fun _ _ _ h => h) (Or.inl ⟨by rfl, ?_⟩) (by assumption) ?_
            rotate_left 1
            · (intro w' hSw; (try dsimp only at hSw); go_simp <;> with_reducible rfl)
            simp only [Act.put, List.getElem_toArray, List.getElem_cons_succ, List.getElem_cons_zero, List.setIfInBounds_toArray, List.set_cons_zero, List.set_cons_succ]
            refine wpAnyH_take (i := 6) (v := ?_) rfl (by kernel_rfl) (by kernel_rfl) (by kernel_rfl) (fun _ _ _ h => h) (Or.inl ⟨by rfl, ?_⟩) (by assumption) ?_
            rotate_left 1
            · (intro w' hSw; (try dsimp only at hSw); go_simp <;> with_reducible rfl)
            simp only [Act.put, List.getElem_toArray, List.getElem_cons_succ, List.getElem_cons_zero, List.setIfInBounds_toArray, List.set_cons_zero, List.set_cons_succ]
            refine wpAnyH_ready (rs := [1, 7]) (by kernel_rfl) (by simp) ?_
            refine (AllReadyH.cons rfl (fun K hK => ?_) (AllReadyH.cons rfl (fun K hK => ?_) AllReadyH.nil))
            · skip
              go_simp
              refine hK.out _ _ ?_ (fun hHeld => ?_)
              · (first | (with_reducible exact hkeep) | (with_reducible exact And.intro HK7.out.g.c0 (And.intro HK7.out.g.c1 (And.intro (HPK.out _ HK7.out.bel).c0 (HPK.out _ HK7.out.bel).c1))) | go_keep)
              clear hK K
              try simp only [Act.put, List.getElem_toArray, List.getElem_cons_succ, List.getElem_cons_zero, List.setIfInBounds_toArray, List.set_cons_zero, List.set_cons_succ]
              refine wpAnyH_ready (rs := [7]) (by kernel_rfl) (by simp) ?_
              refine (AllReadyH.cons rfl (fun K hK => ?_) AllReadyH.nil)
              go_simp
              (go_at_call 34; refine (hD _ ((H.out.below (bel_T HK4.out.bel (bel_D w4))).mono (bel_T HK4.out.bel (bel_D w4)).size)).mono ?_; rintro e w5 ⟨A5, c5, rfl, ho5, hb⟩; have HK5 := Lib.hid (HK4.out.below (bel_T (bel_D w4) hb)); have HO5 := Lib.hid ho5; obtain ⟨g5, rfl, _, _, _, _⟩ := ho5.at_ (j := 0) (by rw [HDL.out]; exact HL0.out); have HN5 : Hid (∀ j (hj : j < (D k).length), w5.cell? ⟨g5, 0 + j, none⟩ = some (.int .i64 (D k)[j])) := by { intro j hj; obtain ⟨g6, e6, _, _, hc6, _⟩ := HO5.out.at_ hj; cases e6; rw [Nat.zero_add]; exact hc6 }; have HL5 : Hid (0 < (D k).length) := by { rw [HDL.out]; exact HL0.out }; have HZ5 : Hid (w.heap.size + 1 + 1 ≤ w5.heap.size) := Nat.le_of_lt (Nat.lt_of_le_of_lt HK5.out.bo2.1 HK5.out.bo2.2); have k9 := HS9.out _ (bel_T (bel_D w4) hb); clear hkeep; have hkeep := And.intro k9.1 (And.intro k9.2.1 (And.intro k9.2.2.1 k9.2.2.2.1)); have c91 := k9.2.2.2.2; clear hb)
              try go_wp2_with fail
              refine hK.out _ _ ?_ (fun hHeld => ?_)
              · (first | (with_reducible exact hkeep) | (with_reducible exact And.intro HK7.out.g.c0 (And.intro HK7.out.g.c1 (And.intro (HPK.out _ HK7.out.bel).c0 (HPK.out _ HK7.out.bel).c1))) | go_keep)
              clear hK K
              try simp only [Act.put, List.getElem_toArray, List.getElem_cons_succ, List.getElem_cons_zero, List.setIfInBounds_toArray, List.set_cons_zero, List.set_cons_succ]
              refine wpAnyH_ready (rs := [8]) (by kernel_rfl) (by simp) ?_
              refine (AllReadyH.cons rfl (fun K hK => ?_) AllReadyH.nil)
              (refine step_app_ints hi1 hy0 hy1 hy2 (by rfl) _ _ (by rfl) (w.heap.size + 1 + 1) (.slice AD (flatD D k).length cD) (flatD D k) (D k) w5 g5 0 c5 HK5.out.oD (by rfl) (by rfl) HN5.out HL5.out HFL.out HZ5.out ?_; intro g cap w6 ho6 hg6 hl6; have c6 := (World.cell?_of_block (a := ⟨bo, 1, none⟩) (hg6.block bo HK5.out.bo2.2 (fun e => HK5.out.aD e.symm))).trans HK5.out.o.c1; have f6 := (World.frozen?_of_block (a := ⟨bo, 1, none⟩) (hg6.block bo HK5.out.bo2.2 (fun e => HK5.out.aD e.symm))).trans HK5.out.o.f1; have HG6 := Lib.hid (HK5.out.mid hg6); have HK7 := Lib.hid (HK5.out.push ho6 hg6 hl6); clear hkeep; have hkeep := And.intro HG6.out.1.c0 (And.intro HG6.out.1.c1 (And.intro (HPK.out _ HG6.out.2).c0 (HPK.out _ HG6.out.2).c1)))
              refine hK.out _ _ ?_ (fun hHeld => ?_)
              · (first | (with_reducible exact hkeep) | (with_reducible exact And.intro HK7.out.g.c0 (And.intro HK7.out.g.c1 (And.intro (HPK.out _ HK7.out.bel).c0 (HPK.out _ HK7.out.bel).c1))) | go_keep)
              clear hK K
              try simp only [Act.put, List.getElem_toArray, List.getElem_cons_succ, List.getElem_cons_zero, List.setIfInBounds_toArray, List.set_cons_zero, List.set_cons_succ]
              refine wpAnyH_take (i := 9) (v := ?_) rfl (by kernel_rfl) (by kernel_rfl) (by kernel_rfl) (fun _ _ _ h => h) (Or.inl ⟨by rfl, ?_⟩) (by assumption) ?_
              rotate_left 1
              · (intro w' hSw; (try dsimp only at hSw); go_simp <;> with_reducible rfl)
              simp only [Act.put, List.getElem_toArray, List.getElem_cons_succ, List.getElem_cons_zero, List.setIfInBounds_toArray, List.set_cons_zero, List.set_cons_succ]
              refine wpAnyH_ready (rs := [10]) (by kernel_rfl) (by simp) ?_
              refine (AllReadyH.cons rfl (fun K hK => ?_) AllReadyH.nil)
              go_simp
              refine hK.out _ _ ?_ (fun hHeld => ?_)
              · (first | (with_reducible exact hkeep) | (with_reducible exact And.intro HK7.out.g.c0 (And.intro HK7.out.g.c1 (And.intro (HPK.out _ HK7.out.bel).c0 (HPK.out _ HK7.out.bel).c1))) | go_keep)
              clear hK K
              try simp only [Act.put, List.getElem_toArray, List.getElem_cons_succ, List.getElem_cons_zero, List.setIfInBounds_toArray, List.set_cons_zero, List.set_cons_succ]
              refine wpAnyH_done (by kernel_rfl) ?_ _
              refine NoPanic.normal ?_
              have HK8 : Hid (BK w side A c l bo (.slice AM ms.length cM) (.slice (some ⟨g, 0, none⟩) (flatD D (k + 1)).length cap) ms (flatD D (k + 1)) (w6.setCell ⟨bo, 1, none⟩ (.slice (some ⟨g, 0, none⟩) ((flatD D k).length + (D k).length) cap))) := by have h7 := HK7.out; rw [flatD_succ, List.length_append]; exact h7
              clear hkeep c6 f6 HG6 HK7 c91 hf1 ho6 hg6 hl6
              go_wp2_with fail
              go_roundw
              case rel => exact ⟨k + 1, some ⟨g, 0, none⟩, cap, by go_num, by omega, HK8.out, fun i h h2 => HO1.out i h h2 (by trivial)⟩
              case measure => simp [intOf] <;> omega
            · skip
              go_simp
              (go_at_call 34; refine (hD _ ((H.out.below (bel_T HK4.out.bel (bel_D w4))).mono (bel_T HK4.out.bel (bel_D w4)).size)).mono ?_; rintro e w5 ⟨A5, c5, rfl, ho5, hb⟩; have HK5 := Lib.hid (HK4.out.below (bel_T (bel_D w4) hb)); have HO5 := Lib.hid ho5; obtain ⟨g5, rfl, _, _, _, _⟩ := ho5.at_ (j := 0) (by rw [HDL.out]; exact HL0.out); have HN5 : Hid (∀ j (hj : j < (D k).length), w5.cell? ⟨g5, 0 + j, none⟩ = some (.int .i64 (D k)[j])) := by { intro j hj; obtain ⟨g6, e6, _, _, hc6, _⟩ := HO5.out.at_ hj; cases e6; rw [Nat.zero_add]; exact hc6 }; have HL5 : Hid (0 < (D k).length) := by { rw [HDL.out]; exact HL0.out }; have HZ5 : Hid (w.heap.size + 1 + 1 ≤ w5.heap.size) := Nat.le_of_lt (Nat.lt_of_le_of_lt HK5.out.bo2.1 HK5.out.bo2.2); have k9 := HS9.out _ (bel_T (bel_D w4) hb); clear hkeep; have hkeep := And.intro k9.1 (And.intro k9.2.1 (And.intro k9.2.2.1 k9.2.2.2.1)); have c91 := k9.2.2.2.2; clear hb)
              try go_wp2_with fail
              refine hK.out _ _ ?_ (fun hHeld => ?_)
              · (first | (with_reducible exact hkeep) | (with_reducible exact And.intro HK7.out.g.c0 (And.intro HK7.out.g.c1 (And.intro (HPK.out _ HK7.out.bel).c0 (HPK.out _ HK7.out.bel).c1))) | go_keep)
              clear hK K
              try simp only [Act.put, List.getElem_toArray, List.getElem_cons_succ, List.getElem_cons_zero, List.setIfInBounds_toArray, List.set_cons_zero, List.set_cons_succ]
              refine wpAnyH_ready (rs := [1]) (by kernel_rfl) (by simp) ?_
              refine (AllReadyH.cons rfl (fun K hK => ?_) AllReadyH.nil)
              go_simp
              refine hK.out _ _ ?_ (fun hHeld => ?_)
              · (first | (with_reducible exact hkeep) | (with_reducible exact And.intro HK7.out.g.c0 (And.intro HK7.out.g.c1 (And.intro (HPK.out _ HK7.out.bel).c0 (HPK.out _ HK7.out.bel).c1))) | go_keep)
              clear hK K
              try simp only [Act.put, List.getElem_toArray, List.getElem_cons_succ, List.getElem_cons_zero, List.setIfInBounds_toArray, List.set_cons_zero, List.set_cons_succ]
              refine wpAnyH_ready (rs := [8]) (by kernel_rfl) (by simp) ?_
              refine (AllReadyH.cons rfl (fun K hK => ?_) AllReadyH.nil)
              (refine step_app_ints hi1 hy0 hy1 hy2 (by rfl) _ _ (by rfl) (w.heap.size + 1 + 1) (.slice AD (flatD D k).length cD) (flatD D k) (D k) w5 g5 0 c5 HK5.out.oD (by rfl) (by rfl) HN5.out HL5.out HFL.out HZ5.out ?_; intro g cap w6 ho6 hg6 hl6; have c6 := (World.cell?_of_block (a := ⟨bo, 1, none⟩) (hg6.block bo HK5.out.bo2.2 (fun e => HK5.out.aD e.symm))).trans HK5.out.o.c1; have f6 := (World.frozen?_of_block (a := ⟨bo, 1, none⟩) (hg6.block bo HK5.out.bo2.2 (fun e => HK5.out.aD e.symm))).trans HK5.out.o.f1; have HG6 := Lib.hid (HK5.out.mid hg6); have HK7 := Lib.hid (HK5.out.push ho6 hg6 hl6); clear hkeep; have hkeep := And.intro HG6.out.1.c0 (And.intro HG6.out.1.c1 (And.intro (HPK.out _ HG6.out.2).c0 (HPK.out _ HG6.out.2).c1)))
              refine hK.out _ _ ?_ (fun hHeld => ?_)
              · (first | (with_reducible exact hkeep) | (with_reducible exact And.intro HK7.out.g.c0 (And.intro HK7.out.g.c1 (And.intro (HPK.out _ HK7.out.bel).c0 (HPK.out _ HK7.out.bel).c1))) | go_keep)
              clear hK K
              try simp only [Act.put, List.getElem_toArray, List.getElem_cons_succ, List.getElem_cons_zero, List.setIfInBounds_toArray, List.set_cons_zero, List.set_cons_succ]
              refine wpAnyH_take (i := 9) (v := ?_) rfl (by kernel_rfl) (by kernel_rfl) (by kernel_rfl) (fun _ _ _ h => h) (Or.inl ⟨by rfl, ?_⟩) (by assumption) ?_
              rotate_left 1
              · (intro w' hSw; (try dsimp only at hSw); go_simp <;> with_reducible rfl)
              simp only [Act.put, List.getElem_toArray, List.getElem_cons_succ, List.getElem_cons_zero, List.setIfInBounds_toArray, List.set_cons_zero, List.set_cons_succ]
              refine wpAnyH_ready (rs := [10]) (by kernel_rfl) (by simp) ?_
              refine (AllReadyH.cons rfl (fun K hK => ?_) AllReadyH.nil)
              go_simp
              refine hK.out _ _ ?_ (fun hHeld => ?_)
              · (first | (with_reducible exact hkeep) | (with_reducible exact And.intro HK7.out.g.c0 (And.intro HK7.out.g.c1 (And.intro (HPK.out _ HK7.out.bel).c0 (HPK.out _ HK7.out.bel).c1))) | go_keep)
              clear hK K
              try simp only [Act.put, List.getElem_toArray, List.getElem_cons_succ, List.getElem_cons_zero, List.setIfInBounds_toArray, List.set_cons_zero, List.set_cons_succ]
              refine wpAnyH_done (by kernel_rfl) ?_ _
              refine NoPanic.normal ?_
              have HK8 : Hid (BK w side A c l bo (.slice AM ms.length cM) (.slice (some ⟨g, 0, none⟩) (flatD D (k + 1)).length cap) ms (flatD D (k + 1)) (w6.setCell ⟨bo, 1, none⟩ (.slice (some ⟨g, 0, none⟩) ((flatD D k).length + (D k).length) cap))) := by have h7 := HK7.out; rw [flatD_succ, List.length_append]; exact h7
              clear hkeep c6 f6 HG6 HK7 c91 hf1 ho6 hg6 hl6
              go_wp2_with fail
              go_roundw
              case rel => exact ⟨k + 1, some ⟨g, 0, none⟩, cap, by go_num, by omega, HK8.out, fun i h h2 => HO1.out i h h2 (by trivial)⟩
              case measure => simp [intOf] <;> omega
        · obtain rfl : k = ms.length := by omega
          have HE : Hid (bakeM side l ms = ms ∧ bakeD side l ms D = flatD D ms.length) := by
            have : bakeOk side l ms = true := by
              simp only [bakeOk, Bool.and_eq_true, List.all_eq_true, decide_eq_true_eq]
              refine ⟨⟨HR.out, h4⟩, fun p hp => ?_⟩
              obtain ⟨i, hi, rfl⟩ := List.getElem_of_mem hp
              exact HOP.out i hi hi
            constructor <;> simp [bakeM, bakeD, this]
          obtain ⟨r0, r1, rf0, rf1⟩ := HK.out.r
          obtain ⟨o0, o1, _, _⟩ := HK.out.o
          have hn1 : ¬ bo = w.heap.size + 1 := by have := HK.out.bo2.1; omega
          go_wp2_with fail
          refine bodyPost_ret (v := .agg #[.slice AM ms.length cM, .slice AD (flatD D ms.length).length cD]) (by simp [results, Try.results20, go_sem, r0, r1]) rfl ?_
          rw [HE.out.1, HE.out.2]
          refine ⟨AM, cM, AD, cD, rfl, ?_, ?_, HK.out.ap, (HK.out.bel.setCell (by simp) _).setCell (by simp) _⟩
          · exact OwnPl.lower (by omega) (OwnPl.set_below (by simp) _ (OwnPl.set_below (by simp) _ HK.out.oM))
          · exact OwnI.lower (by omega) (OwnI.set_below (by simp) _ (OwnI.set_below (by simp) _ HK.out.oD))
    · have hq4 : decide ((4 : Int) < (ms.length : Int)) = true := by simp; omega
      have HE : Hid (bakeM side l ms = [] ∧ bakeD side l ms D = []) := by
        have : bakeOk side l ms = false := by simp [bakeOk, h4]
        constructor <;> simp [bakeM, bakeD, this]
      rw [HE.out.1, HE.out.2]
      clear hr hd
      go_enter Try.func20, Try.ntmps20
      go_wp2_with fail
      refine (hR _ ((H.out.below HB0.out.2.2).mono HB0.out.2.2.size)).mono ?_
      rintro e w1 ⟨rfl, hb1⟩
      have HB1 : Hid (GB w1 w.heap.size side (.slice A l.length c) ∧ TB w1 (w.heap.size + 1) (.slice none 0 0) (.slice none 0 0) ∧ Below w.heap.size w w1) := ⟨HB0.out.1.below hb1 (by simp; omega), HB0.out.2.1.below hb1 (by simp), bel_T HB0.out.2.2 hb1⟩
      clear hb1 HB0
      obtain ⟨r0, r1, rf0, rf1⟩ := HB1.out.2.1
      go_wp2_with fail
      refine bodyPost_ret (v := .agg #[.slice none 0 0, .slice none 0 0]) (by simp [results, Try.results20, go_sem, r0, r1]) rfl ?_
      exact HZ.out _ ((HB1.out.2.2.setCell (by simp) _).setCell (by simp) _)
end Go.Proofs.Ytphkceiafehidaa

namespace Go.Proofs.Ytphkceiafehidaa
open Go.RowKit Go.Shelf
set_option linter.unusedVariables false
set_option linter.unusedSimpArgs false
attribute [local go_sem] Oper.semAt_some

theorem done_snoc {side : Int} {l : List Int} {px py : Int} (pre : List (StepTo side l px py)) (x : StepTo side l px py) : (fun j => (∃ y ∈ pre, j = pn side y.1.x y.1.y) ∨ j = pn side x.1.x x.1.y) = (fun j => ∃ y ∈ pre ++ [x], j = pn side y.1.x y.1.y) := by
  funext j
  apply propext
  constructor
  · rintro (⟨y, h1, h2⟩ | h)
    · exact ⟨y, by simp [h1], h2⟩
    · exact ⟨x, by simp, h⟩
  · rintro ⟨y, h1, h2⟩
    rcases List.mem_append.1 h1 with h | h
    · exact .inl ⟨y, h, h2⟩
    · simp only [List.mem_singleton] at h
      subst h
      exact .inr h2
/-- Ahead of the queue: the boxes, the row of sums. -/
structure DV (w : World) (side : Int) (A : Option Addr) (c : Nat) (l : List Int) (fx fy : Int) (gd bd : Nat) (d : List Int) (wr : World) : Prop where
  b2 : B2 w side A c l fx fy wr
  d0 : wr.cell? ⟨bd, 0, none⟩ = some (.slice (some ⟨gd, 0, none⟩) d.length l.length)
  dd : OwnI 2 .i64 wr w.heap.size (.slice (some ⟨gd, 0, none⟩) d.length l.length) d
  nd : w.heap.size + 1 < gd ∧ gd < bd ∧ bd < wr.heap.size
theorem DV.below {w wr wr' : World} {side : Int} {A : Option Addr} {c : Nat} {l : List Int} {fx fy : Int} {gd bd : Nat} {d : List Int} (h : DV w side A c l fx fy gd bd d wr) (hb : Below wr.heap.size wr wr') : DV w side A c l fx fy gd bd d wr' := by
  obtain ⟨h1, h2, h3⟩ := h.nd
  exact ⟨h.b2.below hb, (hb.cell (p := ⟨bd, 0, none⟩) h3).trans h.d0, h.dd.keep hb, h1, h2, Nat.lt_of_lt_of_le h3 hb.size⟩
theorem DV.store {w wr : World} {side : Int} {A : Option Addr} {c : Nat} {l : List Int} {fx fy : Int} {gd bd : Nat} {d : List Int} (h : DV w side A c l fx fy gd bd d wr) (j : Nat) (x : Int) : DV w side A c l fx fy gd bd (d.set j x) (wr.setCell ⟨gd, j, none⟩ (.int .i64 x)) := by
  obtain ⟨h1, h2, h3⟩ := h.nd
  have ht := Trn.set wr gd j (.int .i64 x)
  have hz := h.b2.siz
  have e1 := ht.block w.heap.size (by omega) (by omega)
  have e2 := ht.block (w.heap.size + 1) hz (by omega)
  have e3 := ht.block bd h3 (by omega)
  refine ⟨⟨h.b2.g.at5 e1, ⟨(World.cell?_of_block (a := ⟨w.heap.size + 1, 0, none⟩) e2).trans h.b2.f.c0, (World.cell?_of_block (a := ⟨w.heap.size + 1, 1, none⟩) e2).trans h.b2.f.c1⟩, h.b2.bel.setCell (by show _ ≤ gd; omega) _, by simpa using hz⟩, by rw [List.length_set]; exact (World.cell?_of_block (a := ⟨bd, 0, none⟩) e3).trans h.d0, by rw [List.length_set]; exact (h.dd.store (j := j) x).1, h1, h2, by simpa using h3⟩

set_option maxRecDepth 100000 in
set_option maxHeartbeats 4000000 in
theorem pDists_main (side fx fy : Int) (A : Option Addr) (c : Nat) (l : List Int) (d0 : List Int) (w : World) (h : RI w w.heap.size A l) (hr : gridRight side l = true) (ho : opn side l fx fy = true) (hd : GDist side l fx fy d0) :
    Calls Try.prog 10 #[.agg #[.int .i64 side, .slice A l.length c], .agg #[.int .i64 fx, .int .i64 fy]] w fun e w' => NOut w w' d0 e := by
  have HD := Lib.hid hd
  have HR := Lib.hid hr
  have HO := Lib.hid ho
  have H := Lib.hid h
  have hl64 := right_len hr
  have HL64 := Lib.hid hl64
  have hgin := (opn_parts hr ho).1
  have hN := fun w => pNum5_any (side := side) (x := fx) (y := fy) (l := l) hr hgin w
  have hplI : ((pn side fx fy : Nat) : Int) < (l.length : Int) := by have := (pn_lt hr hgin).1; omega
  have HPL := Lib.hid (pn_lt hr hgin).1
  have hs8 := side_bound (right_parts hr).1
  obtain ⟨hx0, hx1, hy0, hy1⟩ := gridIn_iff.1 hgin
  have hOp := fun w h => pOpen5_any side fx fy A c l w h (by omega) ⟨by omega, by omega⟩ ⟨by omega, by omega⟩
  rw [hr, ho, Bool.and_self] at hOp
  have hlq : (l.length : Int) = 1 ∨ (l.length : Int) = 4 ∨ (l.length : Int) = 16 ∨ (l.length : Int) = 64 := by
    obtain ⟨hs, hl, _⟩ := right_parts hr
    rcases (sideOk_iff side).1 hs with rfl | rfl | rfl | rfl <;> omega
  have HLQ := Lib.hid hlq
  have HB := Lib.hid (B2.made w side A c l fx fy)
  clear h hr ho hd hgin hx0 hx1 hy0 hy1 hl64 hlq
  refine (callsIn_wide (n := 9)).1 ?_
  refine callsIn_of_wp_marks Try.func10 rfl trivial ?_ rfl
  simp only [Try.ntmps10, List.size_toArray, List.length_cons, List.length_nil, Nat.reduceAdd, Nat.reduceSub, Array.replicate_succ, Array.replicate_zero, List.push_toArray, List.append_toArray, List.nil_append, List.cons_append]
  refine wpIn_wide.2 ?_
  go_wp2_with fail
  refine (hOp _ ((H.out.below HB.out.bel).mono HB.out.bel.size)).mono ?_
  rintro e w1 ⟨rfl, hb1⟩
  have HB1 := Lib.hid (HB.out.below hb1)
  clear hb1 HB hOp
  obtain ⟨g0, g1, _, _⟩ := HB1.out.g
  obtain ⟨f0, f1⟩ := HB1.out.f
  have hz1 := HB1.out.siz
  have hz1a : w.heap.size < w1.heap.size := by omega
  go_wp2_with fail
  have HBa := Lib.hid (HB1.out.below (bel_A w1 (.cells #[.int .i64 (-1)] 2)))
  refine (pRepeat_any l.length (-1) w1.heap.size _ HLQ.out (by simp [go_sem])).mono ?_
  rintro e w2 ⟨rfl, ho2, hb2⟩
  have HB2 := Lib.hid (HBa.out.below hb2)
  have HO2 := Lib.hid ho2
  clear hb2 ho2 HBa HB1 g0 g1 f0 f1
  obtain ⟨g0, g1, _, _⟩ := HB2.out.g
  obtain ⟨f0, f1⟩ := HB2.out.f
  have hz2 := HB2.out.siz
  have hz2a : w.heap.size < w2.heap.size := by omega
  go_upto_region 4 with fail
  have HV3 : Hid (DV w side A c l fx fy (w1.heap.size + 1) w2.heap.size (List.replicate l.length (-1)) (w2.alloc (.cells #[.slice (some ⟨w1.heap.size + 1, 0, none⟩) l.length l.length] 23))) := by
    have hlt := (World.ownsRow.lt HO2.out (w1.heap.size + 1) (by simp [Value.ownBlock])).2
    refine ⟨HB2.out.below (bel_A _ _), by rw [List.length_replicate]; simp [go_sem], ?_, by omega, by simpa using hlt, by simp⟩
    have := (OwnI.lower (base' := w.heap.size) (by simp; omega) HO2.out).keep (bel_A w2 (.cells #[.slice (some ⟨w1.heap.size + 1, 0, none⟩) l.length l.length] 23))
    rw [List.length_replicate]
    simpa using this
  generalize w2.alloc (.cells #[.slice (some ⟨w1.heap.size + 1, 0, none⟩) l.length l.length] 23) = w3 at HV3 ⊢
  generalize w2.heap.size = bd at HV3 ⊢
  generalize w1.heap.size + 1 = gd at HV3 ⊢
  clear HB2 HO2 g0 g1 f0 f1 hz2 hz2a hz1 hz1a
  have HS : Hid (∀ w', DV w side A c l fx fy gd bd (List.replicate l.length (-1)) w' → w'.cell? ⟨w.heap.size, 0, none⟩ = some (.int .i64 side) ∧ w'.cell? ⟨w.heap.size + 1, 0, none⟩ = some (.int .i64 fx) ∧ w'.cell? ⟨w.heap.size + 1, 1, none⟩ = some (.int .i64 fy) ∧ w'.cell? ⟨bd, 0, none⟩ = some (.slice (some ⟨gd, 0, none⟩) l.length l.length)) := by
    intro w' hv
    have hd0 := hv.d0
    rw [List.length_replicate] at hd0
    exact ⟨hv.b2.g.c0, hv.b2.f.c0, hv.b2.f.c1, hd0⟩
  have hn1 := HV3.out.nd.1
  have hn2 := HV3.out.nd.2.1
  have q0 := HV3.out.below (bel_D _)
  have hkeep := HS.out _ q0
  go_region_held3 (fun w' => w'.cell? ⟨w.heap.size, 0, none⟩ = some (.int .i64 side) ∧ w'.cell? ⟨w.heap.size + 1, 0, none⟩ = some (.int .i64 fx) ∧ w'.cell? ⟨w.heap.size + 1, 1, none⟩ = some (.int .i64 fy) ∧ w'.cell? ⟨bd, 0, none⟩ = some (.slice (some ⟨gd, 0, none⟩) l.length l.length))
    (first
      | (with_reducible exact hkeep)
      | (have q2 := q1.store (pn side fx fy) 0; have q2d := q2.d0; rw [List.length_set, List.length_replicate] at q2d; with_reducible exact ⟨q2.b2.g.c0, q2.b2.f.c0, q2.b2.f.c1, q2d⟩)
      | go_keep)
    (first | (go_at_call 43; refine (hN _).mono ?_; rintro e v1 ⟨rfl, hb⟩; have q1 := q0.below hb; clear hkeep; have hkeep := HS.out _ q1; obtain ⟨_, e5, _, _, hcs, hfs⟩ := q1.dd.at_ (j := pn side fx fy) (by rw [List.length_replicate]; exact HPL.out); cases e5; clear hb))
  all_goals
    have HV4 := Lib.hid (q1.store (pn side fx fy) 0)
    clear hkeep q0 q1 hcs hfs
    generalize v1.setCell ⟨gd, pn side fx fy, none⟩ (.int .i64 0) = w4 at HV4 ⊢
    obtain ⟨f0, f1⟩ := HV4.out.b2.f
    have hz4 := HV4.out.b2.siz
    clear HS HV3
    have HVa := Lib.hid (HV4.out.below (bel_A w4 (.cells #[.slice none 0 0] 78)))
    have hzw : w.heap.size ≤ w4.heap.size := by omega
    go_wp2_with fail
    refine (pQPut_first (base := w.heap.size) fx fy (by simp [go_sem]) (by simp [go_sem]) hzw).mono ?_
    rintro e w5 ⟨rfl, b0, off0, cap0, hq5, hlt5, ht5⟩
    have HP5 : Hid (PS5 w.heap.size side A c l w.heap.size bd w4.heap.size gd l.length ((List.replicate l.length (-1)).set (pn side fx fy) 0) b0 off0 cap0 [⟨fx, fy⟩] w5 ∧ Below w.heap.size w w5 ∧ w4.heap.size < w5.heap.size) := by
      obtain ⟨h1, h2, h3⟩ := HV4.out.nd
      have h4 := HVa.out
      have e : ∀ k, k < w4.heap.size → w5.heap[k]? = (w4.alloc (.cells #[.slice none 0 0] 78)).heap[k]? := fun k hk => ht5.block k (by simp; omega) (by omega)
      have hg := World.ownsRow.lt HV4.out.dd gd rfl
      have hs5 := ht5.size
      rw [alloc_size] at hs5 hlt5
      refine ⟨⟨h4.b2.g.at5 (e _ (by omega)), (World.cell?_of_block (a := ⟨bd, 0, none⟩) (e bd (by omega))).trans h4.d0, ownI_block h4.dd (e gd (by omega)), hq5, ⟨by omega, by omega⟩, ⟨by omega, by omega, by omega⟩, by omega, by omega, by omega⟩, h4.b2.bel.trans (ht5.below (fun k hk => by omega) (by simp; omega)), by omega⟩
    have HM5 : Hid (DM side l (pn side fx fy) (pn side fx fy) (fun _ => True) ((List.replicate l.length (-1)).set (pn side fx fy) 0) [⟨fx, fy⟩]) := ⟨OnW.start (gr_grid HR.out) HPL.out, by intro p hp; simp at hp; subst hp; exact HO.out⟩
    clear hq5 hlt5 ht5 HVa HV4 f0 f1 hn1 hn2
    generalize (List.replicate l.length (-1)).set (pn side fx fy) 0 = dA at HP5 HM5
    generalize hbo : w4.heap.size = bo at HP5 ⊢
    clear hbo hz4 hzw
    go_wp2_with fail
    refine wp_loop_ghost_k (fun K a wr => ∃ (y0 y1 y3 y4 y7 y8 y9 y10 y11 y12 y13 y14 y15 y16 y17 y18 y19 y20 y21 y22 y23 y24 y25 y26 y27 y28 y29 y30 y31 y32 y33 y34 y35 y36 y37 y38 y39 y40 y41 y42 y43 y44 y45 y46 y47 y48 y49 y50 y51 y52 y53 y54 y55 y56 y57 y58 y59 y60 y61 y62 y63 y64 y65 y66 y67 y68 y69 : Value) (ds : List Deferred), (∃ (d : List Int) (b off cap : Nat) (q : List Pl) (a5 : Nat) (done : Nat → Prop), PS5 w.heap.size side A c l w.heap.size bd bo gd l.length d b off cap q wr ∧ Hid (DM side l (pn side fx fy) a5 done d q ∧ (∀ j, Stp side l a5 j → done j) ∧ lft side l d q ≤ K) ∧ Hid (Mks w.heap.size ds wr) ∧ Hid (Below w.heap.size w wr)) ∧ a = { tmps := #[y0, y1, .pointer (some ⟨w.heap.size, 0, none⟩), y3, y4, .pointer (some ⟨bd, 0, none⟩), .pointer (some ⟨bo, 0, none⟩), y7, y8, y9, y10, y11, y12, y13, y14, y15, y16, y17, y18, y19, y20, y21, y22, y23, y24, y25, y26, y27, y28, y29, y30, y31, y32, y33, y34, y35, y36, y37, y38, y39, y40, y41, y42, y43, y44, y45, y46, y47, y48, y49, y50, y51, y52, y53, y54, y55, y56, y57, y58, y59, y60, y61, y62, y63, y64, y65, y66, y67, y68, y69], defers := ds }) (lft side l dA [⟨fx, fy⟩]) ?_ ?_
    · (repeat apply Exists.intro)
      refine ⟨?_, rfl⟩
      exact ⟨dA, b0, off0, cap0, [⟨fx, fy⟩], _, _, HP5.out.1, ⟨HM5.out, fun _ _ => trivial, Nat.le_refl _⟩, Mks.nil _ _, HP5.out.2.1⟩
    · intro gk _ wr hinv
      obtain ⟨y0, y1, y3, y4, y7, y8, y9, y10, y11, y12, y13, y14, y15, y16, y17, y18, y19, y20, y21, y22, y23, y24, y25, y26, y27, y28, y29, y30, y31, y32, y33, y34, y35, y36, y37, y38, y39, y40, y41, y42, y43, y44, y45, y46, y47, y48, y49, y50, y51, y52, y53, y54, y55, y56, y57, y58, y59, y60, y61, y62, y63, y64, y65, y66, y67, y68, y69, ds, hinv⟩ := hinv
      obtain ⟨hrel, ha⟩ := hinv
      subst ha
      intro _ _ _ _
      obtain ⟨d, b, off, cap, q, a5, done, hps, HMM, HMK, HBL⟩ := hrel
      have HS := Lib.hid hps
      have hc0 := hps.qb.c0
      clear hps HP5 HM5
      go_wp2_with fail
      refine (pQEmpty_any hc0).mono ?_
      rintro e w6 ⟨rfl, rfl⟩
      cases q with
      | nil =>
        have HE : Hid (d = d0) := IsD.one (gr_grid HR.out) (HMM.out.1.on.done HMM.out.2.1) HD.out
        have hd0 := HS.out.d0
        clear hc0
        go_wp2_with fail
        refine Mks.leaves ds wr HMK.out fun w' ht => ?_
        refine ⟨_, results_tmp rfl _ _ _, ?_⟩
        have e1 := HE.out
        subst e1
        exact ⟨_, _, rfl, ownI_block HS.out.dd (ht.cells HS.out.cr), HBL.out.trans (ht.below (fun k e => e.1) HBL.out.size)⟩
      | cons p q =>
        obtain ⟨px, py⟩ := p
        have HOP : Hid (opn side l px py = true) := HMM.out.1.opn ⟨px, py⟩ (by simp)
        have HM0 : Hid (DM side l (pn side fx fy) (pn side px py) (fun _ => False) d q ∧ lft side l d q < gk) := by
          obtain ⟨hm, hdn, hle2⟩ := HMM.out
          have hon := hm.on
          simp only [List.map_cons] at hon
          obtain ⟨h1, h2⟩ := hon.next hdn
          exact ⟨⟨h1, fun p hp => hm.opn p (by simp [hp])⟩, by unfold lft at hle2 ⊢; simp only [List.map_cons] at hle2; omega⟩
        have htk := pQTake_any HS.out.qb HBL.out.size
        have hne0 : ((((q.length + 1 : Nat) : Int)) == 0) = false := by rw [beq_eq_false_iff_ne]; omega
        clear hc0 HMM
        simp only [List.length_cons, hne0]
        go_wp2_with fail
        refine htk.mono ?_
        rintro e w7 ⟨rfl, off2, cap2, hq7, ht7⟩
        have HS7 := Lib.hid (HS.out.queue hq7 (ht7.mono fun k e => .inl e) (.inl rfl))
        have HBL7 := Lib.hid (HBL.out.trans (ht7.below (fun k e => by subst e; exact HS.out.qb.lo) HBL.out.size))
        have HMK7 := Lib.hid (HMK.out.others (ht7.others fun k e _ => by subst e; exact HS.out.co))
        clear hq7 ht7 htk HS HBL HMK hne0
        have HP8 := Lib.hid (PlB.made w7 px py 27)
        have HS8 := Lib.hid (HS7.out.below (bel_A w7 (.cells #[.int .i64 px, .int .i64 py] 27)))
        have HBL8 := Lib.hid (HBL7.out.trans ((bel_A w7 (.cells #[.int .i64 px, .int .i64 py] 27)).mono HBL7.out.size))
        obtain ⟨g0, g1, _, _⟩ := HS7.out.g
        have hbg := World.block_lt_of_cell? w7 _ g0
        simp only at hbg
        go_wp2_with fail
        refine (pStepsFrom_any side px py A c l _ ((H.out.below HBL8.out).mono HBL8.out.size) HR.out HOP.out).mono ?_
        rintro e w9 ⟨bb, bg, bh, rfl, hsb, ⟨z1, z2⟩, ⟨z3, z4⟩, ⟨z5, z6⟩, hb9⟩
        have HS9 := Lib.hid (HS8.out.below hb9)
        have HBL9 := Lib.hid (HBL8.out.trans (hb9.mono HBL8.out.size))
        have HMK9 : Hid (Mks w.heap.size ds w9) := HMK7.out.others ((KeepsOthers.alloc w7 _).trans ((Trn.of_below (p := fun _ => False) hb9).others fun _ e => e.elim))
        have HP9 := Lib.hid (HP8.out.below hb9 (by simp))
        have hb8z : w7.heap.size + 1 ≤ w9.heap.size := by have := hb9.size; simpa using this
        have hz7 := HBL7.out.size
        have lt7 : ∀ {k : Nat}, (∃ x : Obj, w7.heap[k]? = some x ∧ x.isCells = true) → k < w7.heap.size := fun ⟨x, hx, _⟩ => (Array.getElem?_eq_some_iff.1 hx).1
        have l1 := lt7 HS7.out.cr
        have l2 := lt7 HS7.out.co
        have l3 := lt7 HS7.out.qb.cl
        have l4 := (World.ownsRow.lt HS7.out.dd gd rfl).1
        have l5 := HS7.out.qb.lo
        have l6 := HS7.out.qb.q.lo
        rcases H.out with e0 | ⟨bt, offt, eA, hbt, hct⟩
        · have := HPL.out; rw [e0] at this; simp at this
        subst eA
        simp only [alloc_size] at z1 z3 z5
        have HNX : Hid (¬ (bb = gd ∨ bb = bo ∨ bb = b) ∧ ¬ (bg = gd ∨ bg = bo ∨ bg = b) ∧ ¬ (bh = gd ∨ bh = bo ∨ bh = b) ∧ ¬ (bt = gd ∨ bt = bo ∨ bt = b)) := by refine ⟨?_, ?_, ?_, ?_⟩ <;> omega
        have HIT : Hid (IT5 w9.heap.size bb bg bh bt offt side c l px py w9 w9) := ⟨hsb, fun j hj => (HBL9.out.cell (p := ⟨bt, offt + j, none⟩) hbt).trans (hct j hj), ⟨z2, z4, z6, by omega⟩, Nat.le_refl _, Nat.le_refl _⟩
        have HPI0 : Hid (PIn w w9 side (some ⟨bt, offt, none⟩) c l w.heap.size bd bo gd l.length b (pn side fx fy) (pn side px py) gk px py [] w9) := ⟨d, b, off2, cap2, q, HS9.out, .inl rfl, Trn.refl _ _, by have := HM0.out.1; simpa using this, HM0.out.2⟩
        have HLT : Hid (gd < w9.heap.size ∧ bo < w9.heap.size ∧ b < w9.heap.size ∧ w7.heap.size < w9.heap.size ∧ gd < w7.heap.size ∧ bo < w7.heap.size ∧ b < w7.heap.size) := by refine ⟨?_, ?_, ?_, ?_, ?_, ?_, ?_⟩ <;> omega
        have HLO : Hid (w.heap.size ≤ gd ∧ w.heap.size ≤ bo ∧ w.heap.size ≤ b) := ⟨l4, l5, l6⟩
        clear hsb z1 z2 z3 z4 z5 z6 hb9 l1 l2 l3 l4 l5 l6 lt7 hz7 hb8z g0 g1 hbg HS8 HBL8 HP8 HS7 HBL7 HMK7 HM0 hct hbt
        generalize hbp : w7.heap.size = bp at HP9 HLT ⊢
        clear hbp
        go_wp2_with fail
        refine (wpIn_wide (n := 9)).1 ?_
        refine wpIn_rangeFunc_ownH (F := Fence.wide) (n := 9) rfl (by omega) (gf := 78) (lb := #[.pointer (some ⟨bb, 0, none⟩), .pointer (some ⟨bg, 0, none⟩), .pointer (some ⟨bh, 0, none⟩)]) rfl trivial (enters_of Try.func78 (by kernel_rfl) rfl)
          (pSteps_stops 8 (by omega) w9.heap.size (fun k => k = gd ∨ k = bo ∨ k = b) bb bg bh bt offt side c l px py w9 HR.out HOP.out HNX.out HIT.out) kpE_t (kpE_b (Nat.le_refl _)) (Below.refl _ _) (fun _ => rfl)
          (PIn w w9 side (some ⟨bt, offt, none⟩) c l w.heap.size bd bo gd l.length b (pn side fx fy) (pn side px py) gk px py) (fun _ _ _ => False) PIn.own (fun _ _ _ _ _ hs _ _ => hs) HPI0.out
          (fun x a' W => ∃ Bx, w9.heap.size ≤ Bx ∧ PlB W Bx x.1.x x.1.y ∧ a' = { tmps := #[y0, y1, .pointer (some ⟨w.heap.size, 0, none⟩), y3, y4, .pointer (some ⟨bd, 0, none⟩), .pointer (some ⟨bo, 0, none⟩), .pointer (some ⟨bp, 0, none⟩), .pointer (some ⟨Bx, 0, none⟩), .int .i64 (cst l (pn side px py) (pn side x.1.x x.1.y)), y10, y11, y12, y13, y14, y15, y16, y17, y18, y19, y20, y21, y22, y23, y24, y25, y26, y27, y28, .bool false, .bool true, .agg #[.int .i64 px, .int .i64 py], .agg #[.int .i64 side, .slice (some ⟨bt, offt, none⟩) l.length c], .agg #[.int .i64 px, .int .i64 py], .func (.func 78) #[] #[.pointer (some ⟨bb, 0, none⟩), .pointer (some ⟨bg, 0, none⟩), .pointer (some ⟨bh, 0, none⟩)], .agg #[.int .i64 x.1.x, .int .i64 x.1.y], .int .i64 (cst l (pn side px py) (pn side x.1.x x.1.y)), y37, y38, y39, y40, y41, y42, y43, y44, y45, y46, y47, y48, y49, y50, y51, y52, y53, y54, y55, y56, y57, y58, y59, y60, y61, y62, y63, y64, y65, y66, y67, y68, y69], defers := [] })
          ?hAx ?assign ?body ?done ?stop
        case hAx =>
          rintro x a' _ W W' row ⟨Bx, h1, h2, h3⟩ hg hr
          have e1 := keepc hg (fun r e => (hr r e).2) (cells_of_cell h2.c0)
          exact ⟨Bx, h1, ⟨(World.cell?_of_block (a := ⟨Bx, 0, none⟩) e1).trans h2.c0, (World.cell?_of_block (a := ⟨Bx, 1, none⟩) e1).trans h2.c1⟩, h3⟩
        case assign =>
          intro l' pre x W K hi hK
          gi_wp2
          refine hK _ _ ((KeepsOthers.alloc _ _).from _) ((KpE.of_trn (p := fun _ => False) (Trn.of_below (bel_A _ _)) fun _ e => e.elim)) (hi.below (bel_A _ _)) ⟨W.heap.size, ?_, PlB.made W x.1.x x.1.y 27, rfl⟩
          obtain ⟨d', b', off', cap', q', hpi⟩ := hi
          exact hpi.tr.size
        case body =>
          rintro L pre x a' W hL hrec ⟨d', b', off', cap', q', hpi⟩ ⟨Bx, hBx, hpb, rfl⟩ hlen
          obtain ⟨⟨ux, uy⟩, hxx⟩ := x
          have hou := hxx.1
          have hmu := hxx.2
          dsimp only at hpb hou hmu ⊢
          have HPI := Lib.hid hpi
          have HST : Hid (Stp side l (pn side px py) (pn side ux uy)) := ⟨px, py, ux, uy, HOP.out, hou, hmu, rfl, rfl⟩
          have HNE : Hid (pn side px py ≠ pn side ux uy) := abt_ne HR.out HOP.out hou hmu
          have hgp := (opn_parts HR.out HOP.out).1
          have hgu := (opn_parts HR.out hou).1
          have hNp := fun w => pNum5_any (side := side) (x := px) (y := py) (l := l) HR.out hgp w
          have hNu := fun w => pNum5_any (side := side) (x := ux) (y := uy) (l := l) HR.out hgu w
          have hdl : d'.length = l.length := hpi.dm.on.len
          have hlp := (pn_lt HR.out hgp).1
          have hlu := (pn_lt HR.out hgu).1
          have hlpI : ((pn side px py : Nat) : Int) < (d'.length : Int) := by omega
          have hluI : ((pn side ux uy : Nat) : Int) < (d'.length : Int) := by omega
          have HCD : Hid (∀ V b off cap q, PS5 w.heap.size side (some ⟨bt, offt, none⟩) c l w.heap.size bd bo gd l.length d' b off cap q V → V.cell? ⟨gd, pn side px py, none⟩ = some (.int .i64 (dk d' (pn side px py))) ∧ V.cell? ⟨gd, pn side ux uy, none⟩ = some (.int .i64 (dk d' (pn side ux uy))) ∧ V.frozen? ⟨gd, pn side ux uy, none⟩ = false) := by
            intro V b off cap q hh
            obtain ⟨g1, q1, _, _, hc1, _⟩ := hh.dd.at_ (j := pn side px py) (by omega)
            cases q1
            obtain ⟨g2, q2, _, _, hc2, hf2⟩ := hh.dd.at_ (j := pn side ux uy) (by omega)
            cases q2
            rw [dk_lt (by omega), dk_lt (by omega)]
            exact ⟨hc1, hc2, hf2⟩
          have hxa0 := hpi.dm.on.at_.2
          have hxa1 := hpi.dm.on.bound (pn side px py)
          have hxu := hpi.dm.on.lab _ hlu
          have hcl := (gr_grid HR.out).low _ _ HST.out
          have hch := (gr_grid HR.out).high _ _ HST.out
          have HMG := Lib.hid (fun hlt => hpi.dm.go HR.out hou HST.out HNE.out hlt)
          have HMK := Lib.hid (fun hb hle => hpi.dm.skip (b := pn side ux uy) hb hle)
          have HQL := Lib.hid (hpi.dm.len HL64.out)
          have hl64 := HL64.out
          have HXU : Hid (dk d' (pn side ux uy) = -1 ∨ 0 ≤ dk d' (pn side ux uy)) := hxu.imp id And.left
          clear hxu
          generalize dk d' (pn side px py) = xa at *
          generalize dk d' (pn side ux uy) = xu at *
          generalize cst l (pn side px py) (pn side ux uy) = cc at *
          have hwr : IntKind.i64.wrap (xa + cc) = xa + cc := IntWalk.i64_in _ (by omega)
          have HBX := Lib.hid hBx
          have HPB := Lib.hid hpb
          have HPW : Hid (PlB W bp px py) := by
            obtain ⟨h1, h2, h3, h4, h5, h6, h7⟩ := HLT.out
            have e := hpi.tr.block bp h4 (by omega)
            exact ⟨(World.cell?_of_block (a := ⟨bp, 0, none⟩) e).trans HP9.out.c0, (World.cell?_of_block (a := ⟨bp, 1, none⟩) e).trans HP9.out.c1⟩
          obtain ⟨k1, k2, _⟩ := HCD.out _ _ _ _ _ hpi.ps
          have k3 := hpi.ps.g.c0
          have k4 := hpi.ps.d0
          obtain ⟨k5, k6⟩ := HPW.out
          have hmx : Try.prog.follows .mixedOrders = true := by kernel_rfl
          clear hpi hBx hpb hgp hgu hlp hlu hou hmu HPI0 hxa0 hxa1 hcl hch hdl hl64
          have HKV : Hid (∀ V, Below W.heap.size W V → V.cell? ⟨bd, 0, none⟩ = some (.slice (some ⟨gd, 0, none⟩) d'.length l.length) ∧ V.cell? ⟨w.heap.size, 0, none⟩ = some (.int .i64 side) ∧ V.cell? ⟨bp, 0, none⟩ = some (.int .i64 px) ∧ V.cell? ⟨bp, 1, none⟩ = some (.int .i64 py) ∧ V.cell? ⟨gd, pn side px py, none⟩ = some (.int .i64 xa) ∧ PI w w9 side (some ⟨bt, offt, none⟩) c l w.heap.size bd bo gd l.length b (pn side fx fy) (pn side px py) gk (fun j => ∃ x ∈ pre, j = pn side x.1.x x.1.y) V d' b' off' cap' q' ∧ PlB V Bx ux uy ∧ W.heap.size ≤ V.heap.size) := by
            intro V hb
            have h1 := HPI.out.keep (p := fun _ => False) (Trn.of_below hb) (fun _ _ => id) (fun _ => False.elim)
            have hp := HPW.out.below hb (World.block_lt_of_cell? W _ HPW.out.c0)
            exact ⟨h1.ps.d0, h1.ps.g.c0, hp.c0, hp.c1, (HCD.out _ _ _ _ _ h1.ps).1, h1, HPB.out.below hb (World.block_lt_of_cell? W _ HPB.out.c0), hb.size⟩
          gi_upto_region 12 with fail
          obtain ⟨m1, m2, m3, m4, m5, m6, m7, m8⟩ := HKV.out _ (bel_D W)
          have hkeep := And.intro m1 (And.intro m2 (And.intro m3 (And.intro m4 m5)))
          clear k1 k2 k3 k4 k5 k6 m1 m2 m3 m4 m5 m6 m7 m8
          refine wpIn_region_heldR (S := (fun w' => w'.cell? ⟨bd, 0, none⟩ = some (.slice (some ⟨gd, 0, none⟩) d'.length l.length) ∧ w'.cell? ⟨w.heap.size, 0, none⟩ = some (.int .i64 side) ∧ w'.cell? ⟨bp, 0, none⟩ = some (.int .i64 px) ∧ w'.cell? ⟨bp, 1, none⟩ = some (.int .i64 py) ∧ w'.cell? ⟨gd, pn side px py, none⟩ = some (.int .i64 xa))) (by kernel_rfl) (by kernel_rfl) (fun _ _ h => h) hkeep (fun hHeld => ?_)
          refine wpAnyH_take (i := 0) (v := ?_) rfl (by kernel_rfl) (by kernel_rfl) (by kernel_rfl) (fun _ _ _ h => h) (Or.inl ⟨by rfl, ?_⟩) (by assumption) ?_
          rotate_left 1
          · (intro w' hSw; (try dsimp only at hSw); go_simp <;> with_reducible rfl)
          simp only [Act.put, List.getElem_toArray, List.getElem_cons_succ, List.getElem_cons_zero, List.setIfInBounds_toArray, List.set_cons_zero, List.set_cons_succ]
          refine wpAnyH_take (i := 1) (v := ?_) rfl (by kernel_rfl) (by kernel_rfl) (by kernel_rfl) (fun _ _ _ h => h) (Or.inl ⟨by rfl, ?_⟩) (by assumption) ?_
          rotate_left 1
          · (intro w' hSw; (try dsimp only at hSw); go_simp <;> with_reducible rfl)
          simp only [Act.put, List.getElem_toArray, List.getElem_cons_succ, List.getElem_cons_zero, List.setIfInBounds_toArray, List.set_cons_zero, List.set_cons_succ]
          refine wpAnyH_take (i := 2) (v := ?_) rfl (by kernel_rfl) (by kernel_rfl) (by kernel_rfl) (fun _ _ _ h => h) (Or.inl ⟨by rfl, ?_⟩) (by assumption) ?_
          rotate_left 1
          · (intro w' hSw; (try dsimp only at hSw); go_simp <;> with_reducible rfl)
          simp only [Act.put, List.getElem_toArray, List.getElem_cons_succ, List.getElem_cons_zero, List.setIfInBounds_toArray, List.set_cons_zero, List.set_cons_succ]
          refine wpAnyH_take (i := 3) (v := ?_) rfl (by kernel_rfl) (by kernel_rfl) (by kernel_rfl) (fun _ _ _ h => h) (Or.inl ⟨by rfl, ?_⟩) (by assumption) ?_
          rotate_left 1
          · (intro w' hSw; (try dsimp only at hSw); go_simp <;> with_reducible rfl)
          simp only [Act.put, List.getElem_toArray, List.getElem_cons_succ, List.getElem_cons_zero, List.setIfInBounds_toArray, List.set_cons_zero, List.set_cons_succ]
          refine wpAnyH_take (i := 7) (v := ?_) rfl (by kernel_rfl) (by kernel_rfl) (by kernel_rfl) (fun _ _ _ h => h) (Or.inl ⟨by rfl, ?_⟩) (by assumption) ?_
          rotate_left 1
          · (intro w' hSw; (try dsimp only at hSw); go_simp <;> with_reducible rfl)
          simp only [Act.put, List.getElem_toArray, List.getElem_cons_succ, List.getElem_cons_zero, List.setIfInBounds_toArray, List.set_cons_zero, List.set_cons_succ]
          refine wpAnyH_ready (rs := [4]) (by kernel_rfl) (by simp) ?_
          refine (AllReadyH.cons rfl (fun K hK => ?_) AllReadyH.nil)
          go_simp
          (go_at_call 43; refine (hNp _).mono ?_; rintro e vW ⟨rfl, hb⟩; have hbv := bel_T (bel_D _) hb; obtain ⟨m1, m2, m3, m4, m5, m6, m7, m8⟩ := HKV.out vW hbv; clear hkeep; have hkeep := And.intro m1 (And.intro m2 (And.intro m3 (And.intro m4 m5))); clear hb)
          try go_wp2_with fail
          refine hK.out _ _ ?_ (fun hHeld => ?_)
          · exact hkeep
          clear hK K
          try simp only [Act.put, List.getElem_toArray, List.getElem_cons_succ, List.getElem_cons_zero, List.setIfInBounds_toArray, List.set_cons_zero, List.set_cons_succ]
          refine wpAnyH_take (i := 5) (v := ?_) rfl (by kernel_rfl) (by kernel_rfl) (by kernel_rfl) (fun _ _ _ h => h) (Or.inl ⟨by rfl, ?_⟩) (by assumption) ?_
          rotate_left 1
          · (intro w' hSw; (try dsimp only at hSw); go_simp <;> with_reducible rfl)
          simp only [Act.put, List.getElem_toArray, List.getElem_cons_succ, List.getElem_cons_zero, List.setIfInBounds_toArray, List.set_cons_zero, List.set_cons_succ]
          refine wpAnyH_take (i := 6) (v := ?_) rfl (by kernel_rfl) (by kernel_rfl) (by kernel_rfl) (fun _ _ _ h => h) (Or.inl ⟨by rfl, ?_⟩) (by assumption) ?_
          rotate_left 1
          · (intro w' hSw; (try dsimp only at hSw); go_simp <;> with_reducible rfl)
          simp only [Act.put, List.getElem_toArray, List.getElem_cons_succ, List.getElem_cons_zero, List.setIfInBounds_toArray, List.set_cons_zero, List.set_cons_succ]
          refine wpAnyH_take (i := 8) (v := ?_) rfl (by kernel_rfl) (by kernel_rfl) (by kernel_rfl) (fun _ _ _ h => h) (Or.inl ⟨by rfl, ?_⟩) (by assumption) ?_
          rotate_left 1
          · (intro w' hSw; (try dsimp only at hSw); go_simp <;> with_reducible rfl)
          simp only [Act.put, List.getElem_toArray, List.getElem_cons_succ, List.getElem_cons_zero, List.setIfInBounds_toArray, List.set_cons_zero, List.set_cons_succ]
          refine wpAnyH_take (i := 9) (v := ?_) rfl (by kernel_rfl) (by kernel_rfl) (by kernel_rfl) (fun _ _ _ h => h) (Or.inl ⟨by rfl, ?_⟩) (by assumption) ?_
          rotate_left 1
          · (intro w' hSw; (try dsimp only at hSw); go_simp <;> with_reducible rfl)
          simp only [Act.put, List.getElem_toArray, List.getElem_cons_succ, List.getElem_cons_zero, List.setIfInBounds_toArray, List.set_cons_zero, List.set_cons_succ]
          refine wpAnyH_done (by kernel_rfl) ?_ _
          refine NoPanic.normal ?_
          have HBV := Lib.hid hbv
          have M6 := Lib.hid m6
          have M7 := Lib.hid m7
          clear hkeep hbv m1 m3 m4 m5 m6 m7 m8 HKV HPI HPB HPW
          obtain ⟨p0, p1⟩ := M7.out
          gi_wp2_with fail
          refine ⟨trivial, (CallsIn.inRound L (callsIn_wide.2 (hNu _))).mono ?_⟩
          rintro e vX ⟨rfl, hbx⟩
          have M8 := Lib.hid (M6.out.keep (p := fun _ => False) (Trn.of_below hbx) (fun _ _ => id) (fun _ => False.elim))
          have HPX := Lib.hid (M7.out.below hbx (World.block_lt_of_cell? vW _ M7.out.c0))
          have HBX2 := Lib.hid (bel_T HBV.out hbx)
          obtain ⟨c1, c2, cf⟩ := HCD.out _ _ _ _ _ M8.out.ps
          have c3 := M8.out.ps.d0
          obtain ⟨c4, c5⟩ := HPX.out
          have hgx : ¬ Bx = gd := by have h1 := HBX.out; have h2 := HLT.out.1; omega
          have hgx2 : ¬ gd = Bx := by have h1 := HBX.out; have h2 := HLT.out.1; omega
          have hgbd : ¬ bd = gd := M8.out.ps.n3.1
          clear m2 p0 p1 hbx M6 M7 HBV c1
          have HFIN : Hid (∀ vP b2 off2 cap2, QB vP w.heap.size bo b2 off2 cap2 (q' ++ [⟨ux, uy⟩]) → (b2 = b' ∨ vX.heap.size ≤ b2) → Trn (fun k => k = bo ∨ k = b') (vX.setCell ⟨gd, pn side ux uy, none⟩ (.int .i64 (xa + cc))) vP → (xu < 0 ∨ xa + cc < xu) → ownPostG w9.heap.size (KpE w9.heap.size (fun k => k = gd ∨ k = bo ∨ k = b)) (PIn w w9 side (some ⟨bt, offt, none⟩) c l w.heap.size bd bo gd l.length b (pn side fx fy) (pn side px py) gk px py) (fun _ _ _ => False) (pre ++ [⟨⟨ux, uy⟩, hxx⟩]) W .normal { tmps := #[], defers := [] } vP) := by
            intro vP b2 off2 cap2 hq2 hl2 ht2 hlt
            have hps := M8.out.ps.store (pn side ux uy) (xa + cc)
            have hps2 := hps.queue hq2 ht2 (by simpa using hl2)
            have hz := HBX2.out.size
            have hz9 := M8.out.tr.size
            have htW : Trn (fun k => k = gd ∨ k = bo ∨ k = b') W vP := ((Trn.of_below HBX2.out).trans (Trn.set vX gd (pn side ux uy) (.int .i64 (xa + cc))) fun k _ e => .inl e).trans ht2 fun k _ e => .inr e
            have hko : KeepsOthers W vP := (((Trn.of_below (p := fun _ => False) HBX2.out).others fun _ e => e.elim).trans (KeepsOthers.setCell _ _ _)).trans (ht2.others fun k e _ => hps.cells k (.inr e))
            refine ⟨hko.from _, KpE.of_trn htW fun k e hk => ?_, d'.set (pn side ux uy) (xa + cc), b2, off2, cap2, q' ++ [⟨ux, uy⟩], hps2, ?_, ?_, ?_, Nat.lt_trans (HMG.out hlt).2 M8.out.lf⟩
            · rcases e with e | e | e
              · exact .inl e
              · exact .inr (.inl e)
              · rcases M8.out.hb with h | h
                · exact .inr (.inr (e.trans h))
                · omega
            · rcases hl2 with rfl | hl2
              · exact M8.out.hb
              · exact .inr (by omega)
            · refine (M8.out.tr.trans (Trn.set vX gd (pn side ux uy) (.int .i64 (xa + cc))) fun k _ e => .inl e).trans ht2 fun k hk e => ?_
              rcases e with e | e
              · exact .inr (.inl e)
              · rcases M8.out.hb with h | h
                · exact .inr (.inr (e.trans h))
                · omega
            · have := (HMG.out hlt).1
              have e := done_snoc pre ⟨⟨ux, uy⟩, hxx⟩
              dsimp only at e
              rw [← e]
              exact this
          by_cases h1 : xu = -1
          · have hq1 : (xu == -1) = true := by simpa using h1
            have HX1 : Hid (xu < 0 ∨ xa + cc < xu) := .inl (by omega)
            clear h1
            gi_wp2_with fail
            have hps' := M8.out.ps.store (pn side ux uy) (xa + cc)
            refine ⟨trivial, (CallsIn.inRound L (callsIn_wide.2 (pQPut_any ux uy hps'.qb (Nat.le_of_lt (World.block_lt_of_cell? _ _ hps'.g.c0)) HQL.out))).mono ?_⟩
            rintro e vP ⟨rfl, b2, off2, cap2, hq2, hl2, ht2⟩
            have HF2 := Lib.hid (HFIN.out vP b2 off2 cap2 hq2 (hl2.imp id (fun h => by simpa using h)) ht2 HX1.out)
            clear hq2 hl2 ht2 hps'
            gi_wp2_with fail
            exact HF2.out
          · have hq1 : (xu == -1) = false := by simpa using h1
            have h0 : 0 ≤ xu := by have := HXU.out; omega
            by_cases h2 : xa + cc < xu
            · have hq2 : decide (xa + cc < xu) = true := decide_eq_true h2
              have HX1 : Hid (xu < 0 ∨ xa + cc < xu) := .inr h2
              clear h0 h1
              gi_wp2_with fail
              have hps' := M8.out.ps.store (pn side ux uy) (xa + cc)
              refine ⟨trivial, (CallsIn.inRound L (callsIn_wide.2 (pQPut_any ux uy hps'.qb (Nat.le_of_lt (World.block_lt_of_cell? _ _ hps'.g.c0)) HQL.out))).mono ?_⟩
              rintro e vP ⟨rfl, b2, off2, cap2, hq2, hl2, ht2⟩
              have HF2 := Lib.hid (HFIN.out vP b2 off2 cap2 hq2 (hl2.imp id (fun h => by simpa using h)) ht2 HX1.out)
              clear hq2 hl2 ht2 hps'
              gi_wp2_with fail
              exact HF2.out
            · have hq2 : decide (xa + cc < xu) = false := decide_eq_false h2
              have HDM := Lib.hid (HMK.out h0 (by omega))
              clear h0 h1
              gi_wp2_with fail
              refine ⟨((Trn.of_below (p := fun _ => False) HBX2.out).others fun _ e => e.elim).from _, KpE.of_trn (p := fun _ => False) (Trn.of_below HBX2.out) (fun _ e => e.elim), d', b', off', cap', q', M8.out.ps, M8.out.hb, M8.out.tr, ?_, M8.out.lf⟩
              have e := done_snoc pre ⟨⟨ux, uy⟩, hxx⟩
              dsimp only at e
              rw [← e]
              exact HDM.out
        case done =>
          rintro D xs W hD hxs ⟨d', b', off', cap', q', hpi⟩ hdf
          have HPI := Lib.hid hpi
          have HXS := Lib.hid hxs
          have HDF := Lib.hid hdf
          clear hpi hxs hdf HPI0
          go_wp2_with fail
          go_roundg (lft side l d' q')
          case measure => exact HPI.out.lf
          case rel =>
            refine ⟨d', b', off', cap', q', pn side px py, _, HPI.out.ps, ⟨HPI.out.dm, fun j hj => ?_, Nat.le_refl _⟩, ?_, HBL9.out.trans (HPI.out.tr.below (fun k e => by have := HLO.out; omega) HBL9.out.size)⟩
            · obtain ⟨u, v, h1, h2, rfl⟩ := stp_to HR.out HOP.out hj
              have hm : (⟨u, v⟩ : Pl) ∈ xs.map (·.1) := by rw [HXS.out]; exact bes_mem.2 ⟨h2, h1⟩
              obtain ⟨x, hx, e⟩ := List.mem_map.1 hm
              exact ⟨x, hx, by rw [e]⟩
            · refine HMK9.out.push (HMK9.out.keep fun D' _ hD' => ?_) (Nat.le_trans HBL9.out.size hD) hD HDF.out
              refine (HPI.out.tr.block D' (Array.getElem?_eq_some_iff.1 hD').1 fun e => ?_).trans hD'
              obtain ⟨x, hx, hc⟩ := HS9.out.cells D' e
              rw [hD'] at hx
              cases hx
              cases hc
        case stop =>
          rintro D c pre W _ _ h _
          exact h.elim
end Go.Proofs.Ytphkceiafehidaa

namespace Go.Proofs.Ytphkceiafehidaa
open Go.RowKit
set_option linter.unusedVariables false
set_option linter.unusedSimpArgs false

set_option maxRecDepth 100000 in
set_option maxHeartbeats 1000000 in
theorem pDists_any (side fx fy : Int) (A : Option Addr) (c : Nat) (l : List Int) (d0 : List Int) (w : World) (h : RI w w.heap.size A l) (hl : l.length ≤ 1000000000) (hx : In64 fx) (hy : In64 fy) (hd : (gridRight side l && opn side l fx fy) = true → GDist side l fx fy d0) :
    Calls Try.prog 10 #[.agg #[.int .i64 side, .slice A l.length c], .agg #[.int .i64 fx, .int .i64 fy]] w fun e w' => NOut w w' (dOut side l fx fy d0) e := by
  cases hro : (gridRight side l && opn side l fx fy)
  · have HE : Hid (dOut side l fx fy d0 = []) := by show _ = _; rw [dOut, hro]; rfl
    rw [HE.out]
    have hOp := fun w h => pOpen5_any side fx fy A c l w h hl hx hy
    rw [hro] at hOp
    have HB := Lib.hid (B2.made w side A c l fx fy)
    have H := Lib.hid h
    clear h hl hx hy hd hro
    refine (callsIn_wide (n := 9)).1 ?_
    refine callsIn_of_wp_marks Try.func10 rfl trivial ?_ rfl
    simp only [Try.ntmps10, List.size_toArray, List.length_cons, List.length_nil, Nat.reduceAdd, Nat.reduceSub, Array.replicate_succ, Array.replicate_zero, List.push_toArray, List.append_toArray, List.nil_append, List.cons_append]
    refine wpIn_wide.2 ?_
    go_wp2_with fail
    refine (hOp _ ((H.out.below HB.out.bel).mono HB.out.bel.size)).mono ?_
    rintro e w1 ⟨rfl, hb1⟩
    have HB1 := Lib.hid (HB.out.below hb1)
    clear hb1 HB hOp
    go_wp2_with fail
    refine ⟨_, results_tmp rfl _ _ _, ?_⟩
    exact ⟨none, 0, rfl, World.ownsRow_nil _ _ _ _, HB1.out.bel⟩
  · have h2 := hro
    simp only [Bool.and_eq_true] at h2
    have HE : Hid (dOut side l fx fy d0 = d0) := by show _ = _; rw [dOut, hro]; rfl
    rw [HE.out]
    exact pDists_main side fx fy A c l d0 w h h2.1 h2.2 (hd hro)
end Go.Proofs.Ytphkceiafehidaa

namespace Go.Proofs.Ytphkceiafehidaa
open Go.RowKit
set_option linter.unusedVariables false
set_option linter.unusedSimpArgs false

/-- A box of a place beside a row that grows, and beside a cell that is stored. -/
theorem plb_grown {w w' : World} {q bo : Nat} {x y : Int} {v : Value} (hg : w.grownBy w' v.ownBlock) (h : PlB w q x y) (hq : q < w.heap.size) (hn : v.ownBlock ≠ some q) (hb : q ≠ bo) : PlB w' q x y ∧ ∀ u, PlB (w'.setCell ⟨bo, 1, none⟩ u) q x y := by
  have e := hg.block q hq (fun e => hn e.symm)
  have h1 : PlB w' q x y := ⟨(cell_at e).trans h.c0, (cell_at e).trans h.c1⟩
  exact ⟨h1, fun u => ⟨(World.cell?_setCell_other _ _ _ _ (by simp [hb])).trans h1.c0, (World.cell?_setCell_other _ _ _ _ (by simp [hb])).trans h1.c1⟩⟩

set_option maxHeartbeats 400000 in
theorem pClonePl_any (b off c : Nat) (l : List Pl) (w : World) (hn : RPl w w.heap.size (some ⟨b, off, none⟩) l) (hl : l.length ≤ 1000000) :
    Calls Try.prog 50 #[.slice (some ⟨b, off, none⟩) l.length c] w fun e w' => ∃ A' c', e = .returned (.slice A' l.length c') ∧ OwnPl w' w.heap.size (.slice A' l.length c') l ∧ Below w.heap.size w w' := by
  obtain ⟨i0, hi, hz0, hz1, hz2⟩ := info_parts Try.infoPl
  have HB := Lib.hid ((Below.refl w.heap.size w).alloc (Nat.le_refl _) (.cells #[] 27))
  have HO := Lib.hid (OwnPl.none_lit w w.heap.size (Nat.le_refl _))
  have HN : Hid (∀ j (hj : j < l.length), PlAt (w.alloc (.cells #[] 27)) b (off + j * 2) l[j]) := by
    intro j hj
    obtain ⟨b', o', e, hlt, hp⟩ := (hn.below HB.out).at_ hj
    cases e
    exact hp
  clear hn
  have hq : ∀ (w : World) (a : Option Addr) (n c n' c' : Nat), (binOp .eql 30 (.slice a n c) (.slice none n' c')).run Try.prog w = .ok (.bool a.isNone) w := fun w a n c n' c' => Lib.run_eql_slice_nil w _ _ a n c n' c' Try.underlying30
  go_enter Try.func50, Try.ntmps50
  go_wp2_with (at_builtin; refine append_pls hi hz0 hz1 hz2 rfl _ _ rfl w.heap.size _ [] l (w.alloc (.cells #[] 27)) b off c HO.out rfl rfl HN.out (by simp; omega) (by simp) ?_; intro v' w1 hown1 hg1)
  go_ret
  rw [List.nil_append] at hown1
  obtain ⟨A', c', rfl⟩ := hown1.form
  exact ⟨A', c', rfl, hown1, HB.out.trans ((Below.refl _ _).grown hg1 (by simp) (fun k hk => by cases hk; exact Nat.le_refl _))⟩

set_option maxRecDepth 100000 in
set_option maxHeartbeats 2000000 in
theorem pBake_any (side : Int) (A : Option Addr) (c : Nat) (l : List Int) (bm offm cm : Nat) (ms : List Pl) (D : Nat → List Int) (w : World) (h : RI w w.heap.size A l) (hm : RPl w w.heap.size (some ⟨bm, offm, none⟩) ms) (hl : l.length ≤ 1000000000) (hml : ms.length ≤ 1100000) (hf : ∀ i (h : i < ms.length), In64 ms[i].x ∧ In64 ms[i].y) (hd : IsB side l ms D) :
    Calls Try.prog 19 #[.agg #[.int .i64 side, .slice A l.length c], .slice (some ⟨bm, offm, none⟩) ms.length cm] w fun e w' => TOut w w' (bakeM side l ms) (bakeD side l ms D) e := by
  obtain ⟨i1, hi1, hy0, hy1, hy2⟩ := info_parts Try.infoInt
  have H := Lib.hid h
  have HMS := Lib.hid hm
  have HZ : Hid (∀ wr, Below w.heap.size w wr → TOut w wr [] [] (.returned (.agg #[.slice none 0 0, .slice none 0 0]))) := fun wr hb => ⟨none, 0, none, 0, rfl, OwnPl.nil _ _, World.ownsRow_nil _ _ _ _, fun k hk => by simp [Value.ownBlock] at hk, hb⟩
  have HB0 : Hid (GB ((w.alloc (.cells #[.int .i64 side, .slice A l.length c] 25)).alloc (.cells #[.slice none 0 0, .slice none 0 0] 45)) w.heap.size side (.slice A l.length c) ∧ TB ((w.alloc (.cells #[.int .i64 side, .slice A l.length c] 25)).alloc (.cells #[.slice none 0 0, .slice none 0 0] 45)) (w.heap.size + 1) (.slice none 0 0) (.slice none 0 0) ∧ Below w.heap.size w ((w.alloc (.cells #[.int .i64 side, .slice A l.length c] 25)).alloc (.cells #[.slice none 0 0, .slice none 0 0] 45))) :=
    ⟨⟨by simp [go_sem], by simp [go_sem], by simp [go_sem], by simp [go_sem]⟩, ⟨by simp [go_sem], by simp [go_sem], by simp [go_sem], by simp [go_sem]⟩, bel_T (bel_A _ _) (bel_A _ _)⟩
  have HF := Lib.hid hf
  have HDD := Lib.hid hd
  have HL := Lib.hid hl
  clear h hm hf hd hl
  by_cases h4 : ms.length ≤ 4
  · have hq4 : decide ((4 : Int) < (ms.length : Int)) = false := by simp; omega
    have HMSB : Hid (∀ wr, Below w.heap.size w wr → ∀ j (hj : j < ms.length), PlAt wr bm (offm + j * 2) ms[j] ∧ bm < w.heap.size) := by
      intro wr hb j hj
      obtain ⟨b', o', e, hlt, hp⟩ := HMS.out.at_ hj
      cases e
      exact ⟨hp.keep (hb.block _ hlt), hlt⟩
    have hCl := fun w h => pClonePl_any bm offm cm ms w h (by omega)
    go_enter Try.func19, Try.ntmps19
    go_wp2_with fail
    refine (hCl _ ((HMS.out.below HB0.out.2.2).mono HB0.out.2.2.size)).mono ?_
    rintro e w2 ⟨AM, cM, rfl, hoM, hb2⟩
    have HK0 : Hid (BK w side A c l w2.heap.size (.slice AM ms.length cM) (.slice none 0 0) ms [] (w2.alloc (.cells #[.slice AM ms.length cM, .slice none 0 0] 45))) := by
      have hz : w.heap.size + 1 + 1 ≤ w2.heap.size := by have := hb2.size; simpa using this
      have ho := hoM.lt
      have e0 : ((w.alloc (.cells #[.int .i64 side, .slice A l.length c] 25)).alloc (.cells #[.slice none 0 0, .slice none 0 0] 45)).heap.size = w.heap.size + 1 + 1 := by simp
      refine ⟨(HB0.out.1.below hb2 (by simp; omega)).below (bel_A w2 _) (by omega), (HB0.out.2.1.below hb2 (by simp)).below (bel_A w2 _) (by omega), TB.made _ _ _ _, (OwnPl.lower (by omega) hoM).alloc _, World.ownsRow_nil _ _ _ _, fun k hk => by simp [Value.ownBlock], fun e => by have := (ho _ e).2; omega, by simp [Value.ownBlock], ⟨by omega, by simp⟩, bel_T (bel_T HB0.out.2.2 hb2) (bel_A _ _)⟩
    clear hCl hb2 HB0
    go_wp2_with fail
    generalize w2.alloc (.cells #[.slice AM ms.length cM, .slice none 0 0] 45) = w3 at HK0 ⊢
    generalize w2.heap.size = bo at HK0 ⊢
    clear hoM
    go_wp2_with fail
    go_loopw [17] (fun i wr => ∃ (k : Nat) (AD : Option Addr) (cD : Nat), i = .int .i64 k ∧ k ≤ ms.length ∧ BK w side A c l bo (.slice AM ms.length cM) (.slice AD (flatD D k).length cD) ms (flatD D k) wr ∧ Hid (∀ i (h : i < ms.length), i < k → (gridRight side l && opn side l ms[i].x ms[i].y) = true)) (fun i _ => ms.length - (intOf i).toNat)
    case atStart => exact ⟨0, none, 0, rfl, Nat.zero_le _, HK0.out, fun i _ h => absurd h (by omega)⟩
    case round =>
      obtain ⟨k, AD, cD, rfl, hk, hbk, HOP⟩ := hrel
      have HK := Lib.hid hbk
      clear HK0 hbk
      by_cases hlt : k < ms.length
      · have hkI : (k : Int) < (ms.length : Int) := by omega
        have hp := (HMSB.out wr HK.out.bel k hlt).1
        have hpf := HF.out k hlt
        have HDk := Lib.hid (fun ho => HDD.out k hlt ho)
        have HOk : Hid (∀ b, (gridRight side l && opn side l ms[k].x ms[k].y) = b → ∀ i (h : i < ms.length), i < k + 1 → b = true → (gridRight side l && opn side l ms[i].x ms[i].y) = true) := by
          intro b hb i hi hik hbt
          by_cases e : i < k
          · exact HOP.out i hi e
          · obtain rfl : i = k := by omega
            exact hb.trans hbt
        have HNO : Hid ((gridRight side l && opn side l ms[k].x ms[k].y) = false → bakeM side l ms = [] ∧ bakeD side l ms D = []) := by
          intro ho
          have : bakeOk side l ms = false := by
            cases e : bakeOk side l ms
            · rfl
            · simp only [bakeOk, Bool.and_eq_true, List.all_eq_true] at e
              rw [e.1.1, e.2 _ (List.getElem_mem hlt)] at ho
              cases ho
          constructor <;> simp [bakeM, bakeD, this]
        generalize ms[k] = p at hp hpf HDk HOk HNO
        obtain ⟨ux, uy⟩ := p
        simp only at hp hpf HDk HOk HNO
        obtain ⟨p0, p1⟩ := hp
        simp only at p0 p1
        have hOp := fun w h => pOpen5_any side ux uy A c l w h HL.out hpf.1 hpf.2
        have HK1 := Lib.hid (HK.out.below (bel_A wr (.cells #[.int .i64 ux, .int .i64 uy] 27)))
        have HP1 : Hid (PlB (wr.alloc (.cells #[.int .i64 ux, .int .i64 uy] 27)) wr.heap.size ux uy) := ⟨by simp [go_sem], by simp [go_sem]⟩
        have HQ1 : Hid (wr.heap.size < (wr.alloc (.cells #[.int .i64 ux, .int .i64 uy] 27)).heap.size) := by show _ < _; simp
        obtain ⟨g0, g1, _, _⟩ := HK1.out.g
        cases ho : (gridRight side l && opn side l ux uy)
        · rw [ho] at hOp HNO
          clear ho
          go_wp2_with fail
          refine (hOp _ ((H.out.below HK1.out.bel).mono HK1.out.bel.size)).mono ?_
          rintro e w4 ⟨rfl, hb⟩
          have HK4 := Lib.hid (HK1.out.below hb)
          obtain ⟨r0, r1, rf0, rf1⟩ := HK4.out.r
          clear hb g0 g1
          go_wp2_with fail
          refine bodyPost_ret (v := .agg #[.slice none 0 0, .slice none 0 0]) (by simp [results, Try.results19, go_sem, r0, r1]) rfl ?_
          rw [(HNO.out (by trivial)).1, (HNO.out (by trivial)).2]
          exact HZ.out _ ((HK4.out.bel.setCell (by simp) _).setCell (by simp) _)
        · rw [ho] at hOp
          have HO1 := Lib.hid (HOk.out true ho)
          have HR : Hid (gridRight side l = true) := by simp only [Bool.and_eq_true] at ho; exact ho.1
          have hop : opn side l ux uy = true := by simp only [Bool.and_eq_true] at ho; exact ho.2
          have HDE : Hid (dOut side l ux uy (D k) = D k) := by show _ = _; rw [dOut, ho]; rfl
          have hD := fun w h => pDists_any side ux uy A c l (D k) w h HL.out hpf.1 hpf.2 HDk.out
          rw [HDE.out] at hD
          unfold NOut at hD
          have HDL : Hid ((D k).length = l.length) := (HDk.out ho).len
          have HL0 : Hid (0 < l.length) := by have := (opn_parts HR.out hop).2.1; show _ < _; omega
          clear ho hop
          go_wp2_with fail
          refine (hOp _ ((H.out.below HK1.out.bel).mono HK1.out.bel.size)).mono ?_
          rintro e w4 ⟨rfl, hb⟩
          have HK4 := Lib.hid (HK1.out.below hb)
          have HP4 : Hid (PlB w4 wr.heap.size ux uy ∧ wr.heap.size < w4.heap.size) := ⟨HP1.out.below hb HQ1.out, Nat.lt_of_lt_of_le HQ1.out hb.size⟩
          have HQN : Hid ((Value.slice AD (flatD D k).length cD).ownBlock ≠ some wr.heap.size) := fun e => by have := (World.ownsRow.lt HK.out.oD _ e).2; omega
          have HQB : Hid (wr.heap.size ≠ bo) := by have := HK.out.bo2.2; show _ ≠ _; omega
          generalize wr.heap.size = q at HP4 HQN HQB ⊢
          clear hb g0 g1 p0 p1 hOp HK1 HP1 HQ1
          have HS9 : Hid (∀ wr', Below w4.heap.size w4 wr' → wr'.cell? ⟨w.heap.size, 0, none⟩ = some (.int .i64 side) ∧ wr'.cell? ⟨w.heap.size, 1, none⟩ = some (.slice A l.length c) ∧ wr'.cell? ⟨q, 0, none⟩ = some (.int .i64 ux) ∧ wr'.cell? ⟨q, 1, none⟩ = some (.int .i64 uy) ∧ wr'.cell? ⟨bo, 1, none⟩ = some (.slice AD (flatD D k).length cD)) := fun wr' hb => ⟨(HK4.out.below hb).g.c0, (HK4.out.below hb).g.c1, (HP4.out.1.below hb HP4.out.2).c0, (HP4.out.1.below hb HP4.out.2).c1, (HK4.out.below hb).o.c1⟩
          have k9 := HS9.out _ (bel_D w4)
          have hkeep := And.intro k9.1 (And.intro k9.2.1 (And.intro k9.2.2.1 k9.2.2.2.1))
          have c91 := k9.2.2.2.2
          clear k9
          have HFL : Hid ((flatD D k).length + (D k).length ≤ 1000000) := by
            have h1 := flatD_len HDD.out HR.out k (by omega) (fun i h hi => by have := HOP.out i h hi; simp only [Bool.and_eq_true] at this; exact this.2)
            have h2 := HDL.out
            have h3 := right_len HR.out
            have h4 := Nat.mul_le_mul (show k ≤ 4 by omega) h3
            show _ ≤ _
            omega
          go_upto_region 9 with fail
          have hf1 := HK4.out.o.f1
          refine wp_region_noPanic ?_
          refine wp_region_held_drew (S := (fun w' => w'.cell? ⟨w.heap.size, 0, none⟩ = some (.int .i64 side) ∧ w'.cell? ⟨w.heap.size, 1, none⟩ = some (.slice A l.length c) ∧ w'.cell? ⟨q, 0, none⟩ = some (.int .i64 ux) ∧ w'.cell? ⟨q, 1, none⟩ = some (.int .i64 uy))) (by kernel_rfl) hkeep (fun hHeld => ?_)
          refine wpAnyH_take (i := 0) (v := ?_) rfl (by kernel_rfl) (by kernel_rfl) (by kernel_rfl) (fun _ _ _ h => h) (Or.inl ⟨by rfl, ?_⟩) (by assumption) ?_
          rotate_left 1
          · (intro w' hSw; (try dsimp only at hSw); go_simp <;> with_reducible rfl)
          simp only [Act.put, List.getElem_toArray, List.getElem_cons_succ, List.getElem_cons_zero, List.setIfInBounds_toArray, List.set_cons_zero, List.set_cons_succ]
          refine wpAnyH_take (i := 2) (v := ?_) rfl (by kernel_rfl) (by kernel_rfl) (by kernel_rfl) (fun _ _ _ h => h) (Or.inl ⟨by rfl, ?_⟩) (by assumption) ?_
          rotate_left 1
          · (intro w' hSw; (try dsimp only at hSw); go_simp <;> with_reducible rfl)
          simp only [Act.put, List.getElem_toArray, List.getElem_cons_succ, List.getElem_cons_zero, List.setIfInBounds_toArray, List.set_cons_zero, List.set_cons_succ]
          refine wpAnyH_take (i := 3) (v := ?_) rfl (by kernel_rfl) (by kernel_rfl) (by kernel_rfl) (fun _ _ _ h => h) (Or.inl ⟨by rfl, ?_⟩) (by assumption) ?_
          rotate_left 1
          · (intro w' hSw; (try dsimp only at hSw); go_simp <;> with_reducible rfl)
          simp only [Act.put, List.getElem_toArray, List.getElem_cons_succ, List.getElem_cons_zero, List.setIfInBounds_toArray, List.set_cons_zero, List.set_cons_succ]
          refine wpAnyH_ready (rs := [1, 4]) (by kernel_rfl) (by simp) ?_
          refine (AllReadyH.cons rfl (fun K hK => ?_) (AllReadyH.cons rfl (fun K hK => ?_) AllReadyH.nil))
          · skip
            go_simp
            refine hK.out _ _ ?_ (fun hHeld => ?_)
            · (first | (with_reducible exact hkeep) | (with_reducible exact And.intro HK7.out.g.c0 (And.intro HK7.out.g.c1 (And.intro (HP6.out.2 _).c0 (HP6.out.2 _).c1))) | go_keep)
            clear hK K
            try simp only [Act.put, List.getElem_toArray, List.getElem_cons_succ, List.getElem_cons_zero, List.setIfInBounds_toArray, List.set_cons_zero, List.set_cons_succ]
            refine wpAnyH_ready (rs := [4]) (by kernel_rfl) (by simp) ?_
            refine (AllReadyH.cons rfl (fun K hK => ?_) AllReadyH.nil)
            go_simp
            (go_at_call 10; refine (hD _ ((H.out.below (bel_T HK4.out.bel (bel_D w4))).mono (bel_T HK4.out.bel (bel_D w4)).size)).mono ?_; rintro e w5 ⟨A5, c5, rfl, ho5, hb⟩; have HP5 := Lib.hid (And.intro (HP4.out.1.below (bel_T (bel_D w4) hb) HP4.out.2) (Nat.lt_of_lt_of_le HP4.out.2 (bel_T (bel_D w4) hb).size)); have HK5 := Lib.hid (HK4.out.below (bel_T (bel_D w4) hb)); have HO5 := Lib.hid ho5; obtain ⟨g5, rfl, _, _, _, _⟩ := ho5.at_ (j := 0) (by rw [HDL.out]; exact HL0.out); have HN5 : Hid (∀ j (hj : j < (D k).length), w5.cell? ⟨g5, 0 + j, none⟩ = some (.int .i64 (D k)[j])) := by { intro j hj; obtain ⟨g6, e6, _, _, hc6, _⟩ := HO5.out.at_ hj; cases e6; rw [Nat.zero_add]; exact hc6 }; have HL5 : Hid (0 < (D k).length) := by { rw [HDL.out]; exact HL0.out }; have HZ5 : Hid (w.heap.size + 1 + 1 ≤ w5.heap.size) := Nat.le_of_lt (Nat.lt_of_le_of_lt HK5.out.bo2.1 HK5.out.bo2.2); have k9 := HS9.out _ (bel_T (bel_D w4) hb); clear hkeep; have hkeep := And.intro k9.1 (And.intro k9.2.1 (And.intro k9.2.2.1 k9.2.2.2.1)); have c91 := k9.2.2.2.2; clear hb)
            try go_wp2_with fail
            refine hK.out _ _ ?_ (fun hHeld => ?_)
            · (first | (with_reducible exact hkeep) | (with_reducible exact And.intro HK7.out.g.c0 (And.intro HK7.out.g.c1 (And.intro (HP6.out.2 _).c0 (HP6.out.2 _).c1))) | go_keep)
            clear hK K
            try simp only [Act.put, List.getElem_toArray, List.getElem_cons_succ, List.getElem_cons_zero, List.setIfInBounds_toArray, List.set_cons_zero, List.set_cons_succ]
            refine wpAnyH_ready (rs := [5]) (by kernel_rfl) (by simp) ?_
            refine (AllReadyH.cons rfl (fun K hK => ?_) AllReadyH.nil)
            (refine step_app_ints hi1 hy0 hy1 hy2 (by rfl) _ _ (by rfl) (w.heap.size + 1 + 1) (.slice AD (flatD D k).length cD) (flatD D k) (D k) w5 g5 0 c5 HK5.out.oD (by rfl) (by rfl) HN5.out HL5.out HFL.out HZ5.out ?_; intro g cap w6 ho6 hg6 hl6; have c6 := (World.cell?_of_block (a := ⟨bo, 1, none⟩) (hg6.block bo HK5.out.bo2.2 (fun e => HK5.out.aD e.symm))).trans HK5.out.o.c1; have f6 := (World.frozen?_of_block (a := ⟨bo, 1, none⟩) (hg6.block bo HK5.out.bo2.2 (fun e => HK5.out.aD e.symm))).trans HK5.out.o.f1; have HG6 := Lib.hid (HK5.out.mid hg6); have HK7 := Lib.hid (HK5.out.push ho6 hg6 hl6); have HP6 := Lib.hid (plb_grown hg6 HP5.out.1 HP5.out.2 HQN.out HQB.out); clear hkeep; have hkeep := And.intro HG6.out.1.c0 (And.intro HG6.out.1.c1 (And.intro HP6.out.1.c0 HP6.out.1.c1)))
            refine hK.out _ _ ?_ (fun hHeld => ?_)
            · (first | (with_reducible exact hkeep) | (with_reducible exact And.intro HK7.out.g.c0 (And.intro HK7.out.g.c1 (And.intro (HP6.out.2 _).c0 (HP6.out.2 _).c1))) | go_keep)
            clear hK K
            try simp only [Act.put, List.getElem_toArray, List.getElem_cons_succ, List.getElem_cons_zero, List.setIfInBounds_toArray, List.set_cons_zero, List.set_cons_succ]
            refine wpAnyH_take (i := 6) (v := ?_) rfl (by kernel_rfl) (by kernel_rfl) (by kernel_rfl) (fun _ _ _ h => h) (Or.inl ⟨by rfl, ?_⟩) (by assumption) ?_
            rotate_left 1
            · (intro w' hSw; (try dsimp only at hSw); go_simp <;> with_reducible rfl)
            simp only [Act.put, List.getElem_toArray, List.getElem_cons_succ, List.getElem_cons_zero, List.setIfInBounds_toArray, List.set_cons_zero, List.set_cons_succ]
            refine wpAnyH_ready (rs := [7]) (by kernel_rfl) (by simp) ?_
            refine (AllReadyH.cons rfl (fun K hK => ?_) AllReadyH.nil)
            go_simp
            refine hK.out _ _ ?_ (fun hHeld => ?_)
            · (first | (with_reducible exact hkeep) | (with_reducible exact And.intro HK7.out.g.c0 (And.intro HK7.out.g.c1 (And.intro (HP6.out.2 _).c0 (HP6.out.2 _).c1))) | go_keep)
            clear hK K
            try simp only [Act.put, List.getElem_toArray, List.getElem_cons_succ, List.getElem_cons_zero, List.setIfInBounds_toArray, List.set_cons_zero, List.set_cons_succ]
            refine wpAnyH_done (by kernel_rfl) ?_ _
            refine NoPanic.normal ?_
            have HK8 : Hid (BK w side A c l bo (.slice AM ms.length cM) (.slice (some ⟨g, 0, none⟩) (flatD D (k + 1)).length cap) ms (flatD D (k + 1)) (w6.setCell ⟨bo, 1, none⟩ (.slice (some ⟨g, 0, none⟩) ((flatD D k).length + (D k).length) cap))) := by have h7 := HK7.out; rw [flatD_succ, List.length_append]; exact h7
            clear hkeep c6 f6 HG6 HP6 HK7 c91 hf1 ho6 hg6 hl6
            go_wp2_with fail
            go_roundw
            case rel => exact ⟨k + 1, some ⟨g, 0, none⟩, cap, by go_num, by omega, HK8.out, fun i h h2 => HO1.out i h h2 (by trivial)⟩
            case measure => simp [intOf] <;> omega
          · skip
            go_simp
            (go_at_call 10; refine (hD _ ((H.out.below (bel_T HK4.out.bel (bel_D w4))).mono (bel_T HK4.out.bel (bel_D w4)).size)).mono ?_; rintro e w5 ⟨A5, c5, rfl, ho5, hb⟩; have HP5 := Lib.hid (And.intro (HP4.out.1.below (bel_T (bel_D w4) hb) HP4.out.2) (Nat.lt_of_lt_of_le HP4.out.2 (bel_T (bel_D w4) hb).size)); have HK5 := Lib.hid (HK4.out.below (bel_T (bel_D w4) hb)); have HO5 := Lib.hid ho5; obtain ⟨g5, rfl, _, _, _, _⟩ := ho5.at_ (j := 0) (by rw [HDL.out]; exact HL0.out); have HN5 : Hid (∀ j (hj : j < (D k).length), w5.cell? ⟨g5, 0 + j, none⟩ = some (.int .i64 (D k)[j])) := by { intro j hj; obtain ⟨g6, e6, _, _, hc6, _⟩ := HO5.out.at_ hj; cases e6; rw [Nat.zero_add]; exact hc6 }; have HL5 : Hid (0 < (D k).length) := by { rw [HDL.out]; exact HL0.out }; have HZ5 : Hid (w.heap.size + 1 + 1 ≤ w5.heap.size) := Nat.le_of_lt (Nat.lt_of_le_of_lt HK5.out.bo2.1 HK5.out.bo2.2); have k9 := HS9.out _ (bel_T (bel_D w4) hb); clear hkeep; have hkeep := And.intro k9.1 (And.intro k9.2.1 (And.intro k9.2.2.1 k9.2.2.2.1)); have c91 := k9.2.2.2.2; clear hb)
            try go_wp2_with fail
            refine hK.out _ _ ?_ (fun hHeld => ?_)
            · (first | (with_reducible exact hkeep) | (with_reducible exact And.intro HK7.out.g.c0 (And.intro HK7.out.g.c1 (And.intro (HP6.out.2 _).c0 (HP6.out.2 _).c1))) | go_keep)
            clear hK K
            try simp only [Act.put, List.getElem_toArray, List.getElem_cons_succ, List.getElem_cons_zero, List.setIfInBounds_toArray, List.set_cons_zero, List.set_cons_succ]
            refine wpAnyH_ready (rs := [1]) (by kernel_rfl) (by simp) ?_
            refine (AllReadyH.cons rfl (fun K hK => ?_) AllReadyH.nil)
            go_simp
            refine hK.out _ _ ?_ (fun hHeld => ?_)
            · (first | (with_reducible exact hkeep) | (with_reducible exact And.intro HK7.out.g.c0 (And.intro HK7.out.g.c1 (And.intro (HP6.out.2 _).c0 (HP6.out.2 _).c1))) | go_keep)
            clear hK K
            try simp only [Act.put, List.getElem_toArray, List.getElem_cons_succ, List.getElem_cons_zero, List.setIfInBounds_toArray, List.set_cons_zero, List.set_cons_succ]
            refine wpAnyH_ready (rs := [5]) (by kernel_rfl) (by simp) ?_
            refine (AllReadyH.cons rfl (fun K hK => ?_) AllReadyH.nil)
            (refine step_app_ints hi1 hy0 hy1 hy2 (by rfl) _ _ (by rfl) (w.heap.size + 1 + 1) (.slice AD (flatD D k).length cD) (flatD D k) (D k) w5 g5 0 c5 HK5.out.oD (by rfl) (by rfl) HN5.out HL5.out HFL.out HZ5.out ?_; intro g cap w6 ho6 hg6 hl6; have c6 := (World.cell?_of_block (a := ⟨bo, 1, none⟩) (hg6.block bo HK5.out.bo2.2 (fun e => HK5.out.aD e.symm))).trans HK5.out.o.c1; have f6 := (World.frozen?_of_block (a := ⟨bo, 1, none⟩) (hg6.block bo HK5.out.bo2.2 (fun e => HK5.out.aD e.symm))).trans HK5.out.o.f1; have HG6 := Lib.hid (HK5.out.mid hg6); have HK7 := Lib.hid (HK5.out.push ho6 hg6 hl6); have HP6 := Lib.hid (plb_grown hg6 HP5.out.1 HP5.out.2 HQN.out HQB.out); clear hkeep; have hkeep := And.intro HG6.out.1.c0 (And.intro HG6.out.1.c1 (And.intro HP6.out.1.c0 HP6.out.1.c1)))
            refine hK.out _ _ ?_ (fun hHeld => ?_)
            · (first | (with_reducible exact hkeep) | (with_reducible exact And.intro HK7.out.g.c0 (And.intro HK7.out.g.c1 (And.intro (HP6.out.2 _).c0 (HP6.out.2 _).c1))) | go_keep)
            clear hK K
            try simp only [Act.put, List.getElem_toArray, List.getElem_cons_succ, List.getElem_cons_zero, List.setIfInBounds_toArray, List.set_cons_zero, List.set_cons_succ]
            refine wpAnyH_take (i := 6) (v := ?_) rfl (by kernel_rfl) (by kernel_rfl) (by kernel_rfl) (fun _ _ _ h => h) (Or.inl ⟨by rfl, ?_⟩) (by assumption) ?_
            rotate_left 1
            · (intro w' hSw; (try dsimp only at hSw); go_simp <;> with_reducible rfl)
            simp only [Act.put, List.getElem_toArray, List.getElem_cons_succ, List.getElem_cons_zero, List.setIfInBounds_toArray, List.set_cons_zero, List.set_cons_succ]
            refine wpAnyH_ready (rs := [7]) (by kernel_rfl) (by simp) ?_
            refine (AllReadyH.cons rfl (fun K hK => ?_) AllReadyH.nil)
            go_simp
            refine hK.out _ _ ?_ (fun hHeld => ?_)
            · (first | (with_reducible exact hkeep) | (with_reducible exact And.intro HK7.out.g.c0 (And.intro HK7.out.g.c1 (And.intro (HP6.out.2 _).c0 (HP6.out.2 _).c1))) | go_keep)
            clear hK K
            try simp only [Act.put, List.getElem_toArray, List.getElem_cons_succ, List.getElem_cons_zero, List.setIfInBounds_toArray, List.set_cons_zero, List.set_cons_succ]
            refine wpAnyH_done (by kernel_rfl) ?_ _
            refine NoPanic.normal ?_
            have HK8 : Hid (BK w side A c l bo (.slice AM ms.length cM) (.slice (some ⟨g, 0, none⟩) (flatD D (k + 1)).length cap) ms (flatD D (k + 1)) (w6.setCell ⟨bo, 1, none⟩ (.slice (some ⟨g, 0, none⟩) ((flatD D k).length + (D k).length) cap))) := by have h7 := HK7.out; rw [flatD_succ, List.length_append]; exact h7
            clear hkeep c6 f6 HG6 HP6 HK7 c91 hf1 ho6 hg6 hl6
            go_wp2_with fail
            go_roundw
            case rel => exact ⟨k + 1, some ⟨g, 0, none⟩, cap, by go_num, by omega, HK8.out, fun i h h2 => HO1.out i h h2 (by trivial)⟩
            case measure => simp [intOf] <;> omega
      · obtain rfl : k = ms.length := by omega
        have HE : Hid (bakeM side l ms = ms ∧ bakeD side l ms D = flatD D ms.length) := by
          by_cases hz : ms.length = 0
          · have e : ms = [] := List.length_eq_zero_iff.1 hz
            subst e
            constructor <;> simp [bakeM, bakeD, flatD]
          · have h0 := HOP.out 0 (by omega) (by omega)
            simp only [Bool.and_eq_true] at h0
            have : bakeOk side l ms = true := by
              simp only [bakeOk, Bool.and_eq_true, List.all_eq_true, decide_eq_true_eq]
              refine ⟨⟨h0.1, h4⟩, fun p hp => ?_⟩
              obtain ⟨i, hi, rfl⟩ := List.getElem_of_mem hp
              have h1 := HOP.out i hi hi
              simp only [Bool.and_eq_true] at h1
              exact h1.2
            constructor <;> simp [bakeM, bakeD, this]
        obtain ⟨r0, r1, rf0, rf1⟩ := HK.out.r
        obtain ⟨o0, o1, _, _⟩ := HK.out.o
        have hn1 : ¬ bo = w.heap.size + 1 := by have := HK.out.bo2.1; omega
        go_wp2_with fail
        refine bodyPost_ret (v := .agg #[.slice AM ms.length cM, .slice AD (flatD D ms.length).length cD]) (by simp [results, Try.results19, go_sem, r0, r1]) rfl ?_
        rw [HE.out.1, HE.out.2]
        refine ⟨AM, cM, AD, cD, rfl, ?_, ?_, HK.out.ap, (HK.out.bel.setCell (by simp) _).setCell (by simp) _⟩
        · exact OwnPl.lower (by omega) (OwnPl.set_below (by simp) _ (OwnPl.set_below (by simp) _ HK.out.oM))
        · exact OwnI.lower (by omega) (OwnI.set_below (by simp) _ (OwnI.set_below (by simp) _ HK.out.oD))
  · have hq4 : decide ((4 : Int) < (ms.length : Int)) = true := by simp; omega
    have HE : Hid (bakeM side l ms = [] ∧ bakeD side l ms D = []) := by
      have : bakeOk side l ms = false := by simp [bakeOk, h4]
      constructor <;> simp [bakeM, bakeD, this]
    rw [HE.out.1, HE.out.2]
    obtain ⟨r0, r1, rf0, rf1⟩ := HB0.out.2.1
    go_enter Try.func19, Try.ntmps19
    go_wp2_with fail
    refine bodyPost_ret (v := .agg #[.slice none 0 0, .slice none 0 0]) (by simp [results, Try.results19, go_sem, r0, r1]) rfl ?_
    exact HZ.out _ HB0.out.2.2
end Go.Proofs.Ytphkceiafehidaa

namespace Go.Proofs.Ytphkceiafehidaa
open Go.RowKit
set_option linter.unusedVariables false
set_option linter.unusedSimpArgs false

theorem bake_none (side : Int) (l : List Int) (D : Nat → List Int) : bakeM side l [] = [] ∧ bakeD side l [] D = [] := by
  constructor
  · simp [bakeM]
  · simp [bakeD, flatD]
set_option maxRecDepth 100000 in
set_option maxHeartbeats 1000000 in
theorem mBake_nil (side : Int) (A : Option Addr) (c : Nat) (l : List Int) (w : World) (h : RI w w.heap.size A l) (hl : l.length ≤ 1000000000) :
    Calls Try.prog 20 #[.agg #[.int .i64 side, .slice A l.length c], .slice none 0 0] w fun e w' => TOut w w' [] [] e := by
  have H := Lib.hid h
  have hR := fun w h => mRight_any side A c l w h hl
  have HZ : Hid (∀ wr, Below w.heap.size w wr → TOut w wr [] [] (.returned (.agg #[.slice none 0 0, .slice none 0 0]))) := fun wr hb => ⟨none, 0, none, 0, rfl, OwnPl.nil _ _, World.ownsRow_nil _ _ _ _, fun k hk => by simp [Value.ownBlock] at hk, hb⟩
  have HB0 : Hid (GB ((w.alloc (.cells #[.int .i64 side, .slice A l.length c] 25)).alloc (.cells #[.slice none 0 0, .slice none 0 0] 45)) w.heap.size side (.slice A l.length c) ∧ TB ((w.alloc (.cells #[.int .i64 side, .slice A l.length c] 25)).alloc (.cells #[.slice none 0 0, .slice none 0 0] 45)) (w.heap.size + 1) (.slice none 0 0) (.slice none 0 0) ∧ Below w.heap.size w ((w.alloc (.cells #[.int .i64 side, .slice A l.length c] 25)).alloc (.cells #[.slice none 0 0, .slice none 0 0] 45))) :=
    ⟨⟨by simp [go_sem], by simp [go_sem], by simp [go_sem], by simp [go_sem]⟩, ⟨by simp [go_sem], by simp [go_sem], by simp [go_sem], by simp [go_sem]⟩, bel_T (bel_A _ _) (bel_A _ _)⟩
  clear h hl
  cases hr : gridRight side l
  · rw [hr] at hR
    clear hr
    go_enter Try.func20, Try.ntmps20
    go_wp2_with fail
    refine (hR _ ((H.out.below HB0.out.2.2).mono HB0.out.2.2.size)).mono ?_
    rintro e w1 ⟨rfl, hb1⟩
    have HB1 : Hid (GB w1 w.heap.size side (.slice A l.length c) ∧ TB w1 (w.heap.size + 1) (.slice none 0 0) (.slice none 0 0) ∧ Below w.heap.size w w1) := ⟨HB0.out.1.below hb1 (by simp; omega), HB0.out.2.1.below hb1 (by simp), bel_T HB0.out.2.2 hb1⟩
    clear hb1 HB0
    obtain ⟨r0, r1, rf0, rf1⟩ := HB1.out.2.1
    go_wp2_with fail
    refine bodyPost_ret (v := .agg #[.slice none 0 0, .slice none 0 0]) (by simp [results, Try.results20, go_sem, r0, r1]) rfl ?_
    exact HZ.out _ ((HB1.out.2.2.setCell (by simp) _).setCell (by simp) _)
  · rw [hr] at hR
    clear hr
    go_enter Try.func20, Try.ntmps20
    go_wp2_with fail
    refine (hR _ ((H.out.below HB0.out.2.2).mono HB0.out.2.2.size)).mono ?_
    rintro e w1 ⟨rfl, hb1⟩
    have HB1 : Hid (GB w1 w.heap.size side (.slice A l.length c) ∧ TB w1 (w.heap.size + 1) (.slice none 0 0) (.slice none 0 0) ∧ Below w.heap.size w w1 ∧ w.heap.size + 1 + 1 ≤ w1.heap.size) := ⟨HB0.out.1.below hb1 (by simp; omega), HB0.out.2.1.below hb1 (by simp), bel_T HB0.out.2.2 hb1, by have := hb1.size; simpa using this⟩
    clear hb1 HB0 hR
    have HK0 : Hid (BK w side A c l (w1.heap.size + 1) (.slice (some ⟨w1.heap.size, 0, none⟩) 0 0) (.slice none 0 0) [] [] ((w1.alloc (.cells #[] 27)).alloc (.cells #[.slice (some ⟨w1.heap.size, 0, none⟩) 0 0, .slice none 0 0] 45))) := by
      have hz := HB1.out.2.2.2
      have hb2 : Below w1.heap.size w1 ((w1.alloc (.cells #[] 27)).alloc (.cells #[.slice (some ⟨w1.heap.size, 0, none⟩) 0 0, .slice none 0 0] 45)) := bel_T (bel_A _ _) (bel_A _ _)
      have ht := TB.made (w1.alloc (.cells #[] 27)) (.slice (some ⟨w1.heap.size, 0, none⟩) 0 0) (.slice none 0 0) 45
      rw [show (w1.alloc (.cells #[] 27)).heap.size = w1.heap.size + 1 by simp] at ht
      exact ⟨HB1.out.1.below hb2 (by omega), HB1.out.2.1.below hb2 (by omega), ht, (OwnPl.none_lit w1 (w.heap.size + 1 + 1) hz).alloc _, World.ownsRow_nil _ _ _ _, fun k hk => by simp [Value.ownBlock], fun e => by have h9 : w1.heap.size = w1.heap.size + 1 := Option.some.inj e; omega, by simp [Value.ownBlock], ⟨by omega, by simp⟩, bel_T HB1.out.2.2.1 hb2⟩
    clear HB1
    go_upto_region 3 with fail
    go_wp2_with fail
    generalize (w1.alloc (.cells #[] 27)).alloc (.cells #[.slice (some ⟨w1.heap.size, 0, none⟩) 0 0, .slice none 0 0] 45) = w3 at HK0 ⊢
    generalize w1.heap.size + 1 = bo at HK0 ⊢
    go_loopw [6] (fun i wr => i = .int .i64 0 ∧ BK w side A c l bo (.slice (some ⟨w1.heap.size, 0, none⟩) 0 0) (.slice none 0 0) [] [] wr) (fun i _ => 0)
    case atStart => exact ⟨rfl, HK0.out⟩
    case round =>
      obtain ⟨rfl, hk⟩ := hrel
      have HK := Lib.hid hk
      clear hk HK0
      obtain ⟨r0, r1, rf0, rf1⟩ := HK.out.r
      obtain ⟨o0, o1, _, _⟩ := HK.out.o
      have hn1 : ¬ bo = w.heap.size + 1 := by have := HK.out.bo2.1; omega
      go_wp2_with fail
      refine bodyPost_ret (v := .agg #[.slice (some ⟨w1.heap.size, 0, none⟩) 0 0, .slice none 0 0]) (by simp [results, Try.results20, go_sem, r0, r1]) rfl ?_
      refine ⟨_, _, none, 0, rfl, ?_, World.ownsRow_nil _ _ _ _, HK.out.ap, (HK.out.bel.setCell (by simp) _).setCell (by simp) _⟩
      exact OwnPl.lower (by omega) (OwnPl.set_below (by simp) _ (OwnPl.set_below (by simp) _ HK.out.oM))
theorem pClonePl_nil (w : World) :
    Calls Try.prog 50 #[.slice none 0 0] w fun e w' => e = .returned (.slice none 0 0) ∧ Below w.heap.size w w' := by
  have hq : ∀ (w : World) (a : Option Addr) (n c n' c' : Nat), (binOp .eql 30 (.slice a n c) (.slice none n' c')).run Try.prog w = .ok (.bool a.isNone) w := fun w a n c n' c' => Lib.run_eql_slice_nil w _ _ a n c n' c' Try.underlying30
  go_enter Try.func50, Try.ntmps50
  go_wp2_with fail
  go_ret
  exact ⟨rfl, Below.refl _ _⟩
set_option maxRecDepth 100000 in
set_option maxHeartbeats 1000000 in
theorem pBake_nil (side : Int) (A : Option Addr) (c : Nat) (l : List Int) (w : World) :
    Calls Try.prog 19 #[.agg #[.int .i64 side, .slice A l.length c], .slice none 0 0] w fun e w' => TOut w w' [] [] e := by
  have HB0 : Hid (GB ((w.alloc (.cells #[.int .i64 side, .slice A l.length c] 25)).alloc (.cells #[.slice none 0 0, .slice none 0 0] 45)) w.heap.size side (.slice A l.length c) ∧ TB ((w.alloc (.cells #[.int .i64 side, .slice A l.length c] 25)).alloc (.cells #[.slice none 0 0, .slice none 0 0] 45)) (w.heap.size + 1) (.slice none 0 0) (.slice none 0 0) ∧ Below w.heap.size w ((w.alloc (.cells #[.int .i64 side, .slice A l.length c] 25)).alloc (.cells #[.slice none 0 0, .slice none 0 0] 45))) :=
    ⟨⟨by simp [go_sem], by simp [go_sem], by simp [go_sem], by simp [go_sem]⟩, ⟨by simp [go_sem], by simp [go_sem], by simp [go_sem], by simp [go_sem]⟩, bel_T (bel_A _ _) (bel_A _ _)⟩
  go_enter Try.func19, Try.ntmps19
  go_wp2_with fail
  refine (pClonePl_nil _).mono ?_
  rintro e w1 ⟨rfl, hb⟩
  have HK0 : Hid (BK w side A c l w1.heap.size (.slice none 0 0) (.slice none 0 0) [] [] (w1.alloc (.cells #[.slice none 0 0, .slice none 0 0] 45))) := by
    have hz : w.heap.size + 1 + 1 ≤ w1.heap.size := by have := hb.size; simpa using this
    exact ⟨(HB0.out.1.below hb (by simp; omega)).below (bel_A w1 _) (by omega), (HB0.out.2.1.below hb (by simp)).below (bel_A w1 _) (by omega), TB.made _ _ _ _, OwnPl.nil _ _, World.ownsRow_nil _ _ _ _, fun k hk => by simp [Value.ownBlock], by simp [Value.ownBlock], by simp [Value.ownBlock], ⟨by omega, by simp⟩, bel_T (bel_T HB0.out.2.2 hb) (bel_A _ _)⟩
  clear hb HB0
  go_wp2_with fail
  generalize w1.alloc (.cells #[.slice none 0 0, .slice none 0 0] 45) = w3 at HK0 ⊢
  generalize w1.heap.size = bo at HK0 ⊢
  go_loopw [17] (fun i wr => i = .int .i64 0 ∧ BK w side A c l bo (.slice none 0 0) (.slice none 0 0) [] [] wr) (fun i _ => 0)
  case atStart => exact ⟨rfl, HK0.out⟩
  case round =>
    obtain ⟨rfl, hk⟩ := hrel
    have HK := Lib.hid hk
    clear hk HK0
    obtain ⟨r0, r1, rf0, rf1⟩ := HK.out.r
    obtain ⟨o0, o1, _, _⟩ := HK.out.o
    have hn1 : ¬ bo = w.heap.size + 1 := by have := HK.out.bo2.1; omega
    go_wp2_with fail
    refine bodyPost_ret (v := .agg #[.slice none 0 0, .slice none 0 0]) (by simp [results, Try.results19, go_sem, r0, r1]) rfl ?_
    exact ⟨none, 0, none, 0, rfl, OwnPl.nil _ _, World.ownsRow_nil _ _ _ _, HK.out.ap, (HK.out.bel.setCell (by simp) _).setCell (by simp) _⟩
/-- Where a row may lie that is handed to a call: nowhere, or at the beginning of a cell. -/
def Rw (A : Option Addr) (c : Nat) : Prop := (A = none ∧ c = 0) ∨ ∃ b off, A = some ⟨b, off, none⟩
theorem mBake_gen (side : Int) (A : Option Addr) (c : Nat) (l : List Int) (AM : Option Addr) (cm : Nat) (ms : List Pl) (D : Nat → List Int) (w : World) (h : RI w w.heap.size A l) (hm : RPl w w.heap.size AM ms) (hl : l.length ≤ 1000000000) (hml : ms.length ≤ 1100000) (hd : IsB side l ms D) (hR : Rw AM cm) :
    Calls Try.prog 20 #[.agg #[.int .i64 side, .slice A l.length c], .slice AM ms.length cm] w fun e w' => TOut w w' (bakeM side l ms) (bakeD side l ms D) e := by
  rcases hR with ⟨rfl, rfl⟩ | ⟨b, off, rfl⟩
  · have e : ms = [] := by
      rcases hm with e | ⟨_, _, e, _⟩
      · exact e
      · cases e
    subst e
    rw [(bake_none side l D).1, (bake_none side l D).2]
    exact mBake_nil side A c l w h hl
  · exact mBake_any side A c l b off cm ms D w h hm hl hml hd
theorem pBake_gen (side : Int) (A : Option Addr) (c : Nat) (l : List Int) (AM : Option Addr) (cm : Nat) (ms : List Pl) (D : Nat → List Int) (w : World) (h : RI w w.heap.size A l) (hm : RPl w w.heap.size AM ms) (hl : l.length ≤ 1000000000) (hml : ms.length ≤ 1100000) (hf : ∀ i (h : i < ms.length), In64 ms[i].x ∧ In64 ms[i].y) (hd : IsB side l ms D) (hR : Rw AM cm) :
    Calls Try.prog 19 #[.agg #[.int .i64 side, .slice A l.length c], .slice AM ms.length cm] w fun e w' => TOut w w' (bakeM side l ms) (bakeD side l ms D) e := by
  rcases hR with ⟨rfl, rfl⟩ | ⟨b, off, rfl⟩
  · have e : ms = [] := by
      rcases hm with e | ⟨_, _, e, _⟩
      · exact e
      · cases e
    subst e
    rw [(bake_none side l D).1, (bake_none side l D).2]
    exact pBake_nil side A c l w
  · exact pBake_any side A c l b off cm ms D w h hm hl hml hf hd
end Go.Proofs.Ytphkceiafehidaa

namespace Go.Proofs.Ytphkceiafehidaa
open Go.RowKit
set_option linter.unusedVariables false

theorem dk_small {side : Int} {l d : List Int} {ax ay : Int} (hr : gridRight side l = true) (hd : GDist side l ax ay d) {k : Nat} (hk : k < l.length) : -1 ≤ dk d k ∧ dk d k ≤ 1300 := by
  rcases hd.lab k hk with e | ⟨h0, hw⟩
  · omega
  · refine ⟨by omega, ?_⟩
    generalize hx : dk d k = x at hw
    cases hw with
    | here => omega
    | @step i _ x hw he =>
      obtain ⟨x1, y1, u, v, h1, h2, h3, rfl, rfl⟩ := he
      have := sum_le hr hd (p := ⟨u, v⟩) h2
      simp only at this
      omega
theorem flatD_get {D : Nat → List Int} {m : Nat} : ∀ {n : Nat}, (∀ j, j < n → (D j).length = m) → (flatD D n).length = n * m ∧ ∀ i k, i < n → k < m → (flatD D n)[i * m + k]? = (D i)[k]?
  | 0, _ => ⟨by simp [flatD], fun i k h => absurd h (Nat.not_lt_zero _)⟩
  | n + 1, hl => by
    obtain ⟨h1, h2⟩ := flatD_get (n := n) fun j hj => hl j (by omega)
    have hn := hl n (by omega)
    have e1 : (n + 1) * m = n * m + m := Nat.succ_mul n m
    refine ⟨by rw [flatD_succ, List.length_append, h1, hn, e1], fun i k hi hk => ?_⟩
    rw [flatD_succ]
    by_cases hin : i < n
    · have : i * m + m ≤ n * m := by have := Nat.mul_le_mul_right m (show i + 1 ≤ n from hin); rw [Nat.succ_mul] at this; exact this
      rw [List.getElem?_append_left (by omega)]
      exact h2 i k hin hk
    · obtain rfl : i = n := by omega
      rw [List.getElem?_append_right (by omega), h1]
      congr 1
      omega
/-- What one mark says besides. -/
def bnd1 (x y n : Int) : Option Int := if decide (x < 0) != decide (y < 0) then none else some (if 0 ≤ x then (if x ≥ y then max n (x - y) else max n (y - x)) else n)
/-- What the first k marks say. -/
def bndTo (D : Nat → List Int) (pa pb : Nat) : Nat → Option Int
  | 0 => some 0
  | k + 1 => (bndTo D pa pb k).bind fun n => bnd1 (dk (D k) pa) (dk (D k) pb) n
theorem bndTo_none {D : Nat → List Int} {pa pb k : Nat} (h : bndTo D pa pb k = none) : ∀ n, k ≤ n → bndTo D pa pb n = none
  | 0, hk => by obtain rfl : k = 0 := by omega
                exact h
  | n + 1, hk => by
    by_cases e : k = n + 1
    · rw [← e]; exact h
    · have := bndTo_none h n (by omega)
      simp [bndTo, this]
theorem bnd1_small {x y n m : Int} (h : bnd1 x y n = some m) (hn : 0 ≤ n ∧ n ≤ 1301) (hx : -1 ≤ x ∧ x ≤ 1300) (hy : -1 ≤ y ∧ y ≤ 1300) : 0 ≤ m ∧ m ≤ 1301 := by
  unfold bnd1 at h
  split at h
  · cases h
  · injection h with h
    split at h
    · split at h <;> omega
    · omega
theorem bndTo_small {D : Nat → List Int} {pa pb : Nat} : ∀ {k : Nat} {m : Int}, bndTo D pa pb k = some m → (∀ j, j < k → (-1 ≤ dk (D j) pa ∧ dk (D j) pa ≤ 1300) ∧ (-1 ≤ dk (D j) pb ∧ dk (D j) pb ≤ 1300)) → 0 ≤ m ∧ m ≤ 1301
  | 0, m, h, _ => by
    simp only [bndTo, Option.some.injEq] at h
    omega
  | k + 1, m, h, hd => by
    simp only [bndTo] at h
    cases hb : bndTo D pa pb k with
    | none => rw [hb] at h; cases h
    | some n =>
      rw [hb] at h
      exact bnd1_small h (bndTo_small hb fun j hj => hd j (by omega)) (hd k (by omega)).1 (hd k (by omega)).2
/-- What Bound answers. -/
def boundOut (side : Int) (l : List Int) (T : List Pl) (L : List Int) (ax ay bx b_y : Int) (D : Nat → List Int) : Int :=
  if gridRight side l && (gridIn side ax ay && gridIn side bx b_y) && (decide (T = bakeM side l T) && decide (L = bakeD side l T D)) then (bndTo D (pn side ax ay) (pn side bx b_y) T.length).getD (-1) else -1
theorem boundOut_ok {side : Int} {l : List Int} {T : List Pl} {D : Nat → List Int} (h : T = bakeM side l T) (hr : gridRight side l = true) : bakeOk side l T = true := by
  unfold bakeM at h
  cases hb : bakeOk side l T
  · rw [hb] at h
    simp only [Bool.false_eq_true, if_false] at h
    subst h
    simp [bakeOk, hr] at hb
  · rfl
end Go.Proofs.Ytphkceiafehidaa

namespace Go.Proofs.Ytphkceiafehidaa
open Go.RowKit
set_option linter.unusedVariables false
set_option linter.unusedSimpArgs false

theorem eq_short {α : Type} {l l' : List α} (h : ¬ l = l') (hl : l'.length = l.length) : ∃ k, ∃ h1 : k < l.length, ∃ h2 : k < l'.length, ¬ l[k] = l'[k] := by
  refine Classical.byContradiction fun hc => h (List.ext_getElem hl.symm fun k h1 h2 => ?_)
  refine Classical.byContradiction fun hk => hc ⟨k, h1, h2, hk⟩

set_option maxRecDepth 100000 in
set_option maxHeartbeats 2000000 in
theorem pEqInts_any (A A' : Option Addr) (c c' : Nat) (l l' : List Int) (w : World) (h : RI w w.heap.size A l) (h' : RI w w.heap.size A' l') (hl : l.length ≤ 1000000000) (hl' : l'.length ≤ 1000000000) :
    Calls Try.prog 80 #[.slice A l.length c, .slice A' l'.length c'] w fun e w' => e = .returned (.bool (decide (l = l'))) ∧ Below w.heap.size w w' := by
  have H := Lib.hid h
  have H' := Lib.hid h'
  clear h h'
  by_cases hle : l'.length = l.length
  · have HLE := Lib.hid hle
    rw [hle]
    clear hle hl'
    go_enter Try.func80, Try.ntmps80
    go_wp2
    go_loopw [13] (fun i wr => ∃ k : Nat, i = .int .i64 k ∧ k ≤ l.length ∧ Hid (Below w.heap.size w wr) ∧ Hid (∀ j (h1 : j < l.length) (h2 : j < l'.length), j < k → l[j] = l'[j])) (fun i _ => l.length - (intOf i).toNat)
    case atStart => exact ⟨0, rfl, Nat.zero_le _, Below.refl _ _, fun j _ _ h => absurd h (Nat.not_lt_zero _)⟩
    case round =>
      obtain ⟨k, rfl, hk, HB, HA⟩ := hrel
      by_cases hlt : k < l.length
      · have hlt' : k < l'.length := by rw [HLE.out]; exact hlt
        obtain ⟨b1, o1, rfl, _, hc1⟩ := (H.out.below HB.out).at_ hlt
        obtain ⟨b2, o2, rfl, _, hc2⟩ := (H'.out.below HB.out).at_ hlt'
        have hkI : (k : Int) < (l.length : Int) := by omega
        have HXY : Hid (∀ x y, l[k] = x → l'[k] = y → (x = y → ∀ j (h1 : j < l.length) (h2 : j < l'.length), j < k + 1 → l[j] = l'[j]) ∧ (¬ x = y → ¬ l = l')) := by
          intro x y hx hy
          refine ⟨fun e j h1 h2 hj => ?_, fun e e2 => ?_⟩
          · by_cases hjk : j < k
            · exact HA.out j h1 h2 hjk
            · obtain rfl : j = k := by omega
              rw [hx, hy, e]
          · subst e2
            exact e (hx.symm.trans hy)
        generalize hx : l[k] = x at hc1
        generalize hy : l'[k] = y at hc2
        have HC := Lib.hid (HXY.out x y hx hy)
        clear hx hy HXY hlt'
        by_cases hxy : x = y
        · have HN := Lib.hid (HC.out.1 hxy)
          subst hxy
          go_wp2_with fail
          go_region
          go_wp2
          go_roundw
          case rel => exact ⟨k + 1, by go_num, by omega, HB.out.drew, HN.out⟩
          case measure => simp [intOf] <;> omega
        · have HN := Lib.hid (HC.out.2 hxy)
          go_wp2_with fail
          go_region
          go_wp2
          go_ret
          exact ⟨ret_bool (decide_eq_false HN.out).symm, HB.out.drew⟩
      · obtain rfl : k = l.length := by omega
        have HE : Hid (l = l') := List.ext_getElem HLE.out.symm fun j h1 h2 => HA.out j h1 h2 h1
        go_wp2
        go_ret
        exact ⟨ret_bool (decide_eq_true HE.out).symm, HB.out⟩
  · have HN : Hid (¬ l = l') := fun e => hle (by rw [e])
    have hne : ¬ l.length = l'.length := fun e => hle e.symm
    have hneI : ¬ (l.length : Int) = (l'.length : Int) := by omega
    go_enter Try.func80, Try.ntmps80
    go_wp2
    go_ret
    exact ⟨ret_bool (decide_eq_false HN.out).symm, Below.refl _ _⟩

theorem pl_ne {x y u v : Int} (h : ¬ (⟨x, y⟩ : Pl) = ⟨u, v⟩) : ¬ x = u ∨ (x = u ∧ ¬ y = v) := by
  rw [Pl.eq_iff] at h
  simp only at h
  omega

set_option maxRecDepth 100000 in
set_option maxHeartbeats 2000000 in
theorem pEqPls_any (A A' : Option Addr) (c c' : Nat) (l l' : List Pl) (w : World) (h : RPl w w.heap.size A l) (h' : RPl w w.heap.size A' l') (hl : l.length ≤ 1000000000) (hl' : l'.length ≤ 1000000000) :
    Calls Try.prog 79 #[.slice A l.length c, .slice A' l'.length c'] w fun e w' => e = .returned (.bool (decide (l = l'))) ∧ Below w.heap.size w w' := by
  have H := Lib.hid h
  have H' := Lib.hid h'
  clear h h'
  by_cases hle : l'.length = l.length
  · have HLE := Lib.hid hle
    rw [hle]
    clear hle hl'
    go_enter Try.func79, Try.ntmps79
    go_wp2
    go_loopw [13] (fun i wr => ∃ k : Nat, i = .int .i64 k ∧ k ≤ l.length ∧ Hid (Below w.heap.size w wr) ∧ Hid (∀ j (h1 : j < l.length) (h2 : j < l'.length), j < k → l[j] = l'[j])) (fun i _ => l.length - (intOf i).toNat)
    case atStart => exact ⟨0, rfl, Nat.zero_le _, Below.refl _ _, fun j _ _ h => absurd h (Nat.not_lt_zero _)⟩
    case round =>
      obtain ⟨k, rfl, hk, HB, HA⟩ := hrel
      by_cases hlt : k < l.length
      · have hlt' : k < l'.length := by rw [HLE.out]; exact hlt
        obtain ⟨b1, o1, rfl, _, hc1⟩ := (H.out.below HB.out).at_ hlt
        obtain ⟨b2, o2, rfl, _, hc2⟩ := (H'.out.below HB.out).at_ hlt'
        have hkI : (k : Int) < (l.length : Int) := by omega
        have HXY : Hid (∀ x y, l[k] = x → l'[k] = y → (x = y → ∀ j (h1 : j < l.length) (h2 : j < l'.length), j < k + 1 → l[j] = l'[j]) ∧ (¬ x = y → ¬ l = l')) := by
          intro x y hx hy
          refine ⟨fun e j h1 h2 hj => ?_, fun e e2 => ?_⟩
          · by_cases hjk : j < k
            · exact HA.out j h1 h2 hjk
            · obtain rfl : j = k := by omega
              rw [hx, hy, e]
          · subst e2
            exact e (hx.symm.trans hy)
        generalize hx : l[k] = x at hc1
        generalize hy : l'[k] = y at hc2
        have HC := Lib.hid (HXY.out x y hx hy)
        clear hx hy HXY hlt'
        obtain ⟨x1, x2⟩ := x
        obtain ⟨y1, y2⟩ := y
        obtain ⟨c1, c2⟩ := hc1
        obtain ⟨d1, d2⟩ := hc2
        by_cases hxy : (⟨x1, x2⟩ : Pl) = ⟨y1, y2⟩
        · have HN := Lib.hid (HC.out.1 hxy)
          cases hxy
          go_wp2_with fail
          go_region
          go_wp2
          go_roundw
          case rel => exact ⟨k + 1, by go_num, by omega, HB.out.drew, HN.out⟩
          case measure => simp [intOf] <;> omega
        · have HN := Lib.hid (HC.out.2 hxy)
          have h5 := pl_ne hxy
          clear hxy HC
          rcases h5 with h5 | ⟨rfl, h5⟩
          all_goals
            go_wp2_with fail
            go_region
            go_wp2
            go_ret
            exact ⟨ret_bool (decide_eq_false HN.out).symm, HB.out.drew⟩
      · obtain rfl : k = l.length := by omega
        have HE : Hid (l = l') := List.ext_getElem HLE.out.symm fun j h1 h2 => HA.out j h1 h2 h1
        go_wp2
        go_ret
        exact ⟨ret_bool (decide_eq_true HE.out).symm, HB.out⟩
  · have HN : Hid (¬ l = l') := fun e => hle (by rw [e])
    have hne : ¬ l.length = l'.length := fun e => hle e.symm
    have hneI : ¬ (l.length : Int) = (l'.length : Int) := by omega
    go_enter Try.func79, Try.ntmps79
    go_wp2
    go_ret
    exact ⟨ret_bool (decide_eq_false HN.out).symm, Below.refl _ _⟩
end Go.Proofs.Ytphkceiafehidaa

namespace Go.Proofs.Ytphkceiafehidaa
open Go.RowKit
set_option linter.unusedVariables false
set_option linter.unusedSimpArgs false

/-- The boxes of two tables. -/
structure TT (w : World) (v1 v2 u1 u2 : Value) (wr : World) : Prop where
  a : TB wr w.heap.size v1 v2
  b : TB wr (w.heap.size + 1) u1 u2
  bel : Below w.heap.size w wr
  siz : w.heap.size + 1 < wr.heap.size
theorem TT.below {w wr wr' : World} {v1 v2 u1 u2 : Value} (h : TT w v1 v2 u1 u2 wr) (hb : Below wr.heap.size wr wr') : TT w v1 v2 u1 u2 wr' := by
  have hz := h.siz
  exact ⟨h.a.below hb (by omega), h.b.below hb hz, h.bel.trans (hb.mono (by omega)), Nat.lt_of_lt_of_le hz hb.size⟩
theorem TT.made (w : World) (v1 v2 u1 u2 : Value) : TT w v1 v2 u1 u2 ((w.alloc (.cells #[v1, v2] 45)).alloc (.cells #[u1, u2] 45)) :=
  ⟨(TB.made2 w v1 v2 u1 u2 45).1, (TB.made2 w v1 v2 u1 u2 45).2, bel_T (bel_A _ _) (bel_A _ _), by simp⟩

set_option maxRecDepth 100000 in
set_option maxHeartbeats 2000000 in
theorem mSame_any (A A' D D' : Option Addr) (c c' d d' : Nat) (T T' : List Pl) (L L' : List Int) (w : World) (h : RPl w w.heap.size A T) (h' : RPl w w.heap.size A' T') (k : RI w w.heap.size D L) (k' : RI w w.heap.size D' L') (hT : T.length ≤ 1000000000) (hT' : T'.length ≤ 1000000000) (hL : L.length ≤ 1000000000) (hL' : L'.length ≤ 1000000000) :
    Calls Try.prog 54 #[.agg #[.slice A T.length c, .slice D L.length d], .agg #[.slice A' T'.length c', .slice D' L'.length d']] w fun e w' => e = .returned (.bool (decide (T = T') && decide (L = L'))) ∧ Below w.heap.size w w' := by
  have H := Lib.hid h
  have H' := Lib.hid h'
  have K := Lib.hid k
  have K' := Lib.hid k'
  clear h h' k k'
  have HB := Lib.hid (TT.made w (.slice A T.length c) (.slice D L.length d) (.slice A' T'.length c') (.slice D' L'.length d'))
  by_cases hlt : T'.length = T.length
  · by_cases hll : L'.length = L.length
    · have HLT := Lib.hid hlt
      have HLL := Lib.hid hll
      rw [hlt, hll] at HB ⊢
      clear hlt hll hT' hL'
      go_enter Try.func54, Try.ntmps54
      obtain ⟨x0, x1, _, _⟩ := HB.out.a
      obtain ⟨y0, y1, _, _⟩ := HB.out.b
      go_wp2_with fail
      go_loopw [5] (fun i wr => ∃ k : Nat, i = .int .i64 k ∧ k ≤ T.length ∧ Hid (TT w (.slice A T.length c) (.slice D L.length d) (.slice A' T.length c') (.slice D' L.length d') wr) ∧ Hid (∀ j (h1 : j < T.length) (h2 : j < T'.length), j < k → T[j] = T'[j])) (fun i _ => T.length - (intOf i).toNat)
      case atStart => exact ⟨0, rfl, Nat.zero_le _, HB.out, fun j _ _ h => absurd h (Nat.not_lt_zero _)⟩
      case round =>
        clear x0 x1 y0 y1
        obtain ⟨k, rfl, hk, HB1, HA⟩ := hrel
        obtain ⟨x0, x1, _, _⟩ := HB1.out.a
        obtain ⟨y0, y1, _, _⟩ := HB1.out.b
        by_cases hlt : k < T.length
        · have hlt' : k < T'.length := by rw [HLT.out]; exact hlt
          obtain ⟨b1, o1, rfl, _, hc1⟩ := (H.out.below HB1.out.bel).at_ hlt
          obtain ⟨b2, o2, rfl, _, hc2⟩ := (H'.out.below HB1.out.bel).at_ hlt'
          have hkI : (k : Int) < (T.length : Int) := by omega
          have HXY : Hid (∀ x y, T[k] = x → T'[k] = y → (x = y → ∀ j (h1 : j < T.length) (h2 : j < T'.length), j < k + 1 → T[j] = T'[j]) ∧ (¬ x = y → ¬ T = T')) := by
            intro x y hx hy
            refine ⟨fun e j h1 h2 hj => ?_, fun e e2 => ?_⟩
            · by_cases hjk : j < k
              · exact HA.out j h1 h2 hjk
              · obtain rfl : j = k := by omega
                rw [hx, hy, e]
            · subst e2
              exact e (hx.symm.trans hy)
          generalize hx : T[k] = x at hc1
          generalize hy : T'[k] = y at hc2
          have HC := Lib.hid (HXY.out x y hx hy)
          clear hx hy HXY hlt'
          obtain ⟨x1', x2'⟩ := x
          obtain ⟨y1', y2'⟩ := y
          obtain ⟨c1, c2⟩ := hc1
          obtain ⟨d1, d2⟩ := hc2
          by_cases hxy : (⟨x1', x2'⟩ : Pl) = ⟨y1', y2'⟩
          · have HN := Lib.hid (HC.out.1 hxy)
            cases hxy
            go_wp2_with fail
            go_region
            go_wp2
            go_roundw
            case rel => exact ⟨k + 1, by go_num, by omega, HB1.out.below (bel_D _), HN.out⟩
            case measure => simp [intOf] <;> omega
          · have HN := Lib.hid (HC.out.2 hxy)
            have h5 := pl_ne hxy
            clear hxy HC
            rcases h5 with h5 | ⟨rfl, h5⟩
            all_goals
              go_wp2_with fail
              go_region
              go_wp2
              go_ret
              exact ⟨ret_bool (by rw [decide_eq_false HN.out]; rfl), (HB1.out.below (bel_D _)).bel⟩
        · obtain rfl : k = T.length := by omega
          have HE : Hid (T = T') := List.ext_getElem HLT.out.symm fun j h1 h2 => HA.out j h1 h2 h1
          clear HA
          go_wp2_with fail
          go_loopw [6] (fun i wr => ∃ k : Nat, i = .int .i64 k ∧ k ≤ L.length ∧ Hid (TT w (.slice A T.length c) (.slice D L.length d) (.slice A' T.length c') (.slice D' L.length d') wr) ∧ Hid (∀ j (h1 : j < L.length) (h2 : j < L'.length), j < k → L[j] = L'[j])) (fun i _ => L.length - (intOf i).toNat)
          case atStart => exact ⟨0, rfl, Nat.zero_le _, HB1.out, fun j _ _ h => absurd h (Nat.not_lt_zero _)⟩
          case round =>
            clear x0 x1 y0 y1
            obtain ⟨k, rfl, hk, HB2, HA⟩ := hrel
            obtain ⟨x0, x1, _, _⟩ := HB2.out.a
            obtain ⟨y0, y1, _, _⟩ := HB2.out.b
            by_cases hlt : k < L.length
            · have hlt' : k < L'.length := by rw [HLL.out]; exact hlt
              obtain ⟨b1, o1, rfl, _, hc1⟩ := (K.out.below HB2.out.bel).at_ hlt
              obtain ⟨b2, o2, rfl, _, hc2⟩ := (K'.out.below HB2.out.bel).at_ hlt'
              have hkI : (k : Int) < (L.length : Int) := by omega
              have HXY : Hid (∀ x y, L[k] = x → L'[k] = y → (x = y → ∀ j (h1 : j < L.length) (h2 : j < L'.length), j < k + 1 → L[j] = L'[j]) ∧ (¬ x = y → ¬ L = L')) := by
                intro x y hx hy
                refine ⟨fun e j h1 h2 hj => ?_, fun e e2 => ?_⟩
                · by_cases hjk : j < k
                  · exact HA.out j h1 h2 hjk
                  · obtain rfl : j = k := by omega
                    rw [hx, hy, e]
                · subst e2
                  exact e (hx.symm.trans hy)
              generalize hx : L[k] = x at hc1
              generalize hy : L'[k] = y at hc2
              have HC := Lib.hid (HXY.out x y hx hy)
              clear hx hy HXY hlt'
              by_cases hxy : x = y
              · have HN := Lib.hid (HC.out.1 hxy)
                subst hxy
                go_wp2_with fail
                go_region
                go_wp2
                go_roundw
                case rel => exact ⟨k + 1, by go_num, by omega, HB2.out.below (bel_D _), HN.out⟩
                case measure => simp [intOf] <;> omega
              · have HN := Lib.hid (HC.out.2 hxy)
                go_wp2_with fail
                go_region
                go_wp2
                go_ret
                exact ⟨ret_bool (by rw [decide_eq_false HN.out, Bool.and_false]), (HB2.out.below (bel_D _)).bel⟩
            · obtain rfl : k = L.length := by omega
              have HE2 : Hid (L = L') := List.ext_getElem HLL.out.symm fun j h1 h2 => HA.out j h1 h2 h1
              go_wp2
              go_ret
              exact ⟨ret_bool (by rw [decide_eq_true HE.out, decide_eq_true HE2.out]; rfl), HB2.out.bel⟩
    · have HLT := Lib.hid hlt
      rw [hlt] at HB ⊢
      clear hlt
      have HN : Hid (¬ L = L') := fun e => hll (by rw [e])
      have hneI : ¬ (L.length : Int) = (L'.length : Int) := by omega
      go_enter Try.func54, Try.ntmps54
      obtain ⟨x0, x1, _, _⟩ := HB.out.a
      obtain ⟨y0, y1, _, _⟩ := HB.out.b
      go_wp2_with fail
      go_ret
      exact ⟨ret_bool (by rw [decide_eq_false HN.out, Bool.and_false]), HB.out.bel⟩
  · have HN : Hid (¬ T = T') := fun e => hlt (by rw [e])
    have hneI : ¬ (T.length : Int) = (T'.length : Int) := by omega
    go_enter Try.func54, Try.ntmps54
    obtain ⟨x0, x1, _, _⟩ := HB.out.a
    obtain ⟨y0, y1, _, _⟩ := HB.out.b
    go_wp2_with fail
    go_ret
    exact ⟨ret_bool (by rw [decide_eq_false HN.out]; rfl), HB.out.bel⟩
end Go.Proofs.Ytphkceiafehidaa

namespace Go.Proofs.Ytphkceiafehidaa
open Go.RowKit
set_option linter.unusedVariables false
set_option linter.unusedSimpArgs false

/-- The boxes of a map, tables and two places. -/
structure B5 (w : World) (side : Int) (A : Option Addr) (c : Nat) (l : List Int) (v1 v2 : Value) (ax ay bx b_y : Int) (wr : World) : Prop where
  g : GB wr w.heap.size side (.slice A l.length c)
  t : TB wr (w.heap.size + 1) v1 v2
  a : PlB wr (w.heap.size + 1 + 1) ax ay
  b : PlB wr (w.heap.size + 1 + 1 + 1) bx b_y
  bel : Below w.heap.size w wr
  siz : w.heap.size + 1 + 1 + 1 < wr.heap.size
theorem B5.below {w wr wr' : World} {side : Int} {A : Option Addr} {c : Nat} {l : List Int} {v1 v2 : Value} {ax ay bx b_y : Int} (h : B5 w side A c l v1 v2 ax ay bx b_y wr) (hb : Below wr.heap.size wr wr') : B5 w side A c l v1 v2 ax ay bx b_y wr' := by
  have hz := h.siz
  exact ⟨h.g.below hb (by omega), h.t.below hb (by omega), h.a.below hb (by omega), h.b.below hb hz, h.bel.trans (hb.mono (by omega)), Nat.lt_of_lt_of_le hz hb.size⟩
theorem B5.made (w : World) (side : Int) (A : Option Addr) (c : Nat) (l : List Int) (v1 v2 : Value) (ax ay bx b_y : Int) : B5 w side A c l v1 v2 ax ay bx b_y ((((w.alloc (.cells #[.int .i64 side, .slice A l.length c] 25)).alloc (.cells #[v1, v2] 45)).alloc (.cells #[.int .i64 ax, .int .i64 ay] 27)).alloc (.cells #[.int .i64 bx, .int .i64 b_y] 27)) := by
  refine ⟨⟨by simp [go_sem], by simp [go_sem], by simp [go_sem], by simp [go_sem]⟩, ⟨by simp [go_sem], by simp [go_sem], by simp [go_sem], by simp [go_sem]⟩, ⟨by simp [go_sem], by simp [go_sem]⟩, ⟨by simp [go_sem], by simp [go_sem]⟩, bel_T (bel_A _ _) (bel_T (bel_A _ _) (bel_T (bel_A _ _) (bel_A _ _))), by simp⟩
theorem mMax_any (x y : Int) (w : World) : Calls Try.prog 55 #[.int .i64 x, .int .i64 y] w fun e w' => e = .returned (.int .i64 (max x y)) ∧ w = w' := by
  by_cases h : x > y
  · have hm : max x y = x := by omega
    rw [hm]
    go_enter Try.func55, Try.ntmps55
    go_wp2
    go_ret
    exact ⟨rfl, rfl⟩
  · have hm : max x y = y := by omega
    rw [hm]
    go_enter Try.func55, Try.ntmps55
    go_wp2
    go_ret
    exact ⟨rfl, rfl⟩

set_option maxRecDepth 100000 in
set_option maxHeartbeats 8000000 in
theorem mBound_gen (side : Int) (A : Option Addr) (c : Nat) (l : List Int) (AM : Option Addr) (cm : Nat) (T : List Pl) (AL : Option Addr) (cL : Nat) (Ld : List Int) (ax ay bx b_y : Int) (D : Nat → List Int) (w : World) (h : RI w w.heap.size A l) (hT : RPl w w.heap.size AM T) (hLd : RI w w.heap.size AL Ld) (hl : l.length ≤ 1000000000) (hTl : T.length ≤ 1100000) (hLl : Ld.length ≤ 1000000000) (hd : IsB side l T D) (hRw : Rw AM cm) :
    Calls Try.prog 23 #[.agg #[.int .i64 side, .slice A l.length c], .agg #[.slice AM T.length cm, .slice AL Ld.length cL], .agg #[.int .i64 ax, .int .i64 ay], .agg #[.int .i64 bx, .int .i64 b_y]] w fun e w' => e = .returned (.int .i64 (boundOut side l T Ld ax ay bx b_y D)) ∧ Below w.heap.size w w' := by
  have HB := Lib.hid (B5.made w side A c l (.slice AM T.length cm) (.slice AL Ld.length cL) ax ay bx b_y)
  have H := Lib.hid h
  have HT := Lib.hid hT
  have HL := Lib.hid hLd
  have hR := fun w h => mRight_any side A c l w h hl
  have HS : Hid (∀ w', B5 w side A c l (.slice AM T.length cm) (.slice AL Ld.length cL) ax ay bx b_y w' → w'.cell? ⟨w.heap.size, 0, none⟩ = some (.int .i64 side) ∧ w'.cell? ⟨w.heap.size, 1, none⟩ = some (.slice A l.length c) ∧ w'.cell? ⟨w.heap.size + 1, 0, none⟩ = some (.slice AM T.length cm) ∧ w'.cell? ⟨w.heap.size + 1, 1, none⟩ = some (.slice AL Ld.length cL) ∧ w'.cell? ⟨w.heap.size + 1 + 1, 0, none⟩ = some (.int .i64 ax) ∧ w'.cell? ⟨w.heap.size + 1 + 1, 1, none⟩ = some (.int .i64 ay) ∧ w'.cell? ⟨w.heap.size + 1 + 1 + 1, 0, none⟩ = some (.int .i64 bx) ∧ w'.cell? ⟨w.heap.size + 1 + 1 + 1, 1, none⟩ = some (.int .i64 b_y)) := fun w' h => ⟨h.g.c0, h.g.c1, h.t.c0, h.t.c1, h.a.c0, h.a.c1, h.b.c0, h.b.c1⟩
  have hBk := fun w h hm => mBake_gen side A c l AM cm T D w h hm hl hTl hd hRw
  have hML := bakeM_len side l T
  have hDL := bakeD_len hd
  clear h hT hLd
  cases hr : gridRight side l
  · rw [hr] at hR
    have HE : Hid (boundOut side l T Ld ax ay bx b_y D = -1) := by show _ = _; unfold boundOut; rw [hr]; rfl
    rw [HE.out]
    clear HE hr hBk hML hDL hd hTl hLl
    go_enter Try.func23, Try.ntmps23
    go_upto_region 1 with fail
    have q0 := HB.out.below (bel_D _)
    have hkeep := HS.out _ q0
    refine wp_region_noPanic ?_
    refine wp_region_held_drew (S := (fun w' => w'.cell? ⟨w.heap.size, 0, none⟩ = some (.int .i64 side) ∧ w'.cell? ⟨w.heap.size, 1, none⟩ = some (.slice A l.length c) ∧ w'.cell? ⟨w.heap.size + 1, 0, none⟩ = some (.slice AM T.length cm) ∧ w'.cell? ⟨w.heap.size + 1, 1, none⟩ = some (.slice AL Ld.length cL) ∧ w'.cell? ⟨w.heap.size + 1 + 1, 0, none⟩ = some (.int .i64 ax) ∧ w'.cell? ⟨w.heap.size + 1 + 1, 1, none⟩ = some (.int .i64 ay) ∧ w'.cell? ⟨w.heap.size + 1 + 1 + 1, 0, none⟩ = some (.int .i64 bx) ∧ w'.cell? ⟨w.heap.size + 1 + 1 + 1, 1, none⟩ = some (.int .i64 b_y))) (by kernel_rfl) hkeep (fun hHeld => ?_)
    refine wpAnyH_take (i := 0) (v := ?_) rfl (by kernel_rfl) (by kernel_rfl) (by kernel_rfl) (fun _ _ _ h => h) (Or.inl ⟨by rfl, ?_⟩) (by assumption) ?_
    rotate_left 1
    · (intro w' hSw; (try dsimp only at hSw); go_simp <;> with_reducible rfl)
    simp only [Act.put, List.getElem_toArray, List.getElem_cons_succ, List.getElem_cons_zero, List.setIfInBounds_toArray, List.set_cons_zero, List.set_cons_succ]
    refine wpAnyH_ready (rs := [1]) (by kernel_rfl) (by simp) ?_
    refine (AllReadyH.cons rfl (fun K hK => ?_) AllReadyH.nil)
    go_simp
    (go_at_call 32; refine (hR _ ((H.out.below q0.bel).mono q0.bel.size)).mono ?_; rintro e v1 ⟨rfl, hb⟩; clear hkeep; have q1 := q0.below hb; have hkeep := HS.out _ q1; clear hb)
    try go_wp2_with fail
    refine hK.out _ _ ?_ (fun hHeld => ?_)
    · (first | (with_reducible exact hkeep) | go_keep)
    clear hK K
    try simp only [Act.put, List.getElem_toArray, List.getElem_cons_succ, List.getElem_cons_zero, List.setIfInBounds_toArray, List.set_cons_zero, List.set_cons_succ]
    refine wpAnyH_take (i := 2) (v := ?_) rfl (by kernel_rfl) (by kernel_rfl) (by kernel_rfl) (fun _ _ _ h => h) (Or.inl ⟨by rfl, ?_⟩) (by assumption) ?_
    rotate_left 1
    · (intro w' hSw; (try dsimp only at hSw); go_simp <;> with_reducible rfl)
    simp only [Act.put, List.getElem_toArray, List.getElem_cons_succ, List.getElem_cons_zero, List.setIfInBounds_toArray, List.set_cons_zero, List.set_cons_succ]
    refine wpAnyH_take (i := 3) (v := ?_) rfl (by kernel_rfl) (by kernel_rfl) (by kernel_rfl) (fun _ _ _ h => h) (Or.inl ⟨by rfl, ?_⟩) (by assumption) ?_
    rotate_left 1
    · (intro w' hSw; (try dsimp only at hSw); go_simp <;> with_reducible rfl)
    simp only [Act.put, List.getElem_toArray, List.getElem_cons_succ, List.getElem_cons_zero, List.setIfInBounds_toArray, List.set_cons_zero, List.set_cons_succ]
    refine wpAnyH_take (i := 4) (v := undef) rfl (by kernel_rfl) (by kernel_rfl) (by kernel_rfl) (fun _ _ _ h => h) (Or.inr ⟨by kernel_rfl, rfl⟩) (by assumption) ?_
    simp only [Act.put, List.getElem_toArray, List.getElem_cons_succ, List.getElem_cons_zero, List.setIfInBounds_toArray, List.set_cons_zero, List.set_cons_succ]
    refine wpAnyH_take (i := 5) (v := undef) rfl (by kernel_rfl) (by kernel_rfl) (by kernel_rfl) (fun _ _ _ h => h) (Or.inr ⟨by kernel_rfl, rfl⟩) (by assumption) ?_
    simp only [Act.put, List.getElem_toArray, List.getElem_cons_succ, List.getElem_cons_zero, List.setIfInBounds_toArray, List.set_cons_zero, List.set_cons_succ]
    refine wpAnyH_take (i := 6) (v := undef) rfl (by kernel_rfl) (by kernel_rfl) (by kernel_rfl) (fun _ _ _ h => h) (Or.inr ⟨by kernel_rfl, rfl⟩) (by assumption) ?_
    simp only [Act.put, List.getElem_toArray, List.getElem_cons_succ, List.getElem_cons_zero, List.setIfInBounds_toArray, List.set_cons_zero, List.set_cons_succ]
    refine wpAnyH_take (i := 7) (v := undef) rfl (by kernel_rfl) (by kernel_rfl) (by kernel_rfl) (fun _ _ _ h => h) (Or.inr ⟨by kernel_rfl, rfl⟩) (by assumption) ?_
    simp only [Act.put, List.getElem_toArray, List.getElem_cons_succ, List.getElem_cons_zero, List.setIfInBounds_toArray, List.set_cons_zero, List.set_cons_succ]
    refine wpAnyH_take (i := 8) (v := undef) rfl (by kernel_rfl) (by kernel_rfl) (by kernel_rfl) (fun _ _ _ h => h) (Or.inr ⟨by kernel_rfl, rfl⟩) (by assumption) ?_
    simp only [Act.put, List.getElem_toArray, List.getElem_cons_succ, List.getElem_cons_zero, List.setIfInBounds_toArray, List.set_cons_zero, List.set_cons_succ]
    refine wpAnyH_ready (rs := [9]) (by kernel_rfl) (by simp) ?_
    refine (AllReadyH.cons rfl (fun K hK => ?_) AllReadyH.nil)
    rw [if_neg (show ¬ (_ = true) from fun h => Bool.noConfusion ((show _ = false by kernel_rfl).symm.trans h))]
    refine hK.out _ _ ?_ (fun hHeld => ?_)
    · (first | (with_reducible exact hkeep) | go_keep)
    clear hK K
    try simp only [Act.put, List.getElem_toArray, List.getElem_cons_succ, List.getElem_cons_zero, List.setIfInBounds_toArray, List.set_cons_zero, List.set_cons_succ]
    refine wpAnyH_take (i := 10) (v := undef) rfl (by kernel_rfl) (by kernel_rfl) (by kernel_rfl) (fun _ _ _ h => h) (Or.inr ⟨by kernel_rfl, rfl⟩) (by assumption) ?_
    simp only [Act.put, List.getElem_toArray, List.getElem_cons_succ, List.getElem_cons_zero, List.setIfInBounds_toArray, List.set_cons_zero, List.set_cons_succ]
    refine wpAnyH_take (i := 11) (v := ?_) rfl (by kernel_rfl) (by kernel_rfl) (by kernel_rfl) (fun _ _ _ h => h) (Or.inl ⟨by rfl, ?_⟩) (by assumption) ?_
    rotate_left 1
    · (intro w' hSw; (try dsimp only at hSw); go_simp <;> with_reducible rfl)
    simp only [Act.put, List.getElem_toArray, List.getElem_cons_succ, List.getElem_cons_zero, List.setIfInBounds_toArray, List.set_cons_zero, List.set_cons_succ]
    refine wpAnyH_take (i := 12) (v := ?_) rfl (by kernel_rfl) (by kernel_rfl) (by kernel_rfl) (fun _ _ _ h => h) (Or.inl ⟨by rfl, ?_⟩) (by assumption) ?_
    rotate_left 1
    · (intro w' hSw; (try dsimp only at hSw); go_simp <;> with_reducible rfl)
    simp only [Act.put, List.getElem_toArray, List.getElem_cons_succ, List.getElem_cons_zero, List.setIfInBounds_toArray, List.set_cons_zero, List.set_cons_succ]
    refine wpAnyH_take (i := 13) (v := undef) rfl (by kernel_rfl) (by kernel_rfl) (by kernel_rfl) (fun _ _ _ h => h) (Or.inr ⟨by kernel_rfl, rfl⟩) (by assumption) ?_
    simp only [Act.put, List.getElem_toArray, List.getElem_cons_succ, List.getElem_cons_zero, List.setIfInBounds_toArray, List.set_cons_zero, List.set_cons_succ]
    refine wpAnyH_take (i := 14) (v := undef) rfl (by kernel_rfl) (by kernel_rfl) (by kernel_rfl) (fun _ _ _ h => h) (Or.inr ⟨by kernel_rfl, rfl⟩) (by assumption) ?_
    simp only [Act.put, List.getElem_toArray, List.getElem_cons_succ, List.getElem_cons_zero, List.setIfInBounds_toArray, List.set_cons_zero, List.set_cons_succ]
    refine wpAnyH_take (i := 15) (v := undef) rfl (by kernel_rfl) (by kernel_rfl) (by kernel_rfl) (fun _ _ _ h => h) (Or.inr ⟨by kernel_rfl, rfl⟩) (by assumption) ?_
    simp only [Act.put, List.getElem_toArray, List.getElem_cons_succ, List.getElem_cons_zero, List.setIfInBounds_toArray, List.set_cons_zero, List.set_cons_succ]
    refine wpAnyH_take (i := 16) (v := undef) rfl (by kernel_rfl) (by kernel_rfl) (by kernel_rfl) (fun _ _ _ h => h) (Or.inr ⟨by kernel_rfl, rfl⟩) (by assumption) ?_
    simp only [Act.put, List.getElem_toArray, List.getElem_cons_succ, List.getElem_cons_zero, List.setIfInBounds_toArray, List.set_cons_zero, List.set_cons_succ]
    refine wpAnyH_take (i := 17) (v := undef) rfl (by kernel_rfl) (by kernel_rfl) (by kernel_rfl) (fun _ _ _ h => h) (Or.inr ⟨by kernel_rfl, rfl⟩) (by assumption) ?_
    simp only [Act.put, List.getElem_toArray, List.getElem_cons_succ, List.getElem_cons_zero, List.setIfInBounds_toArray, List.set_cons_zero, List.set_cons_succ]
    refine wpAnyH_ready (rs := [18]) (by kernel_rfl) (by simp) ?_
    refine (AllReadyH.cons rfl (fun K hK => ?_) AllReadyH.nil)
    rw [if_neg (show ¬ (_ = true) from fun h => Bool.noConfusion ((show _ = false by kernel_rfl).symm.trans h))]
    refine hK.out _ _ ?_ (fun hHeld => ?_)
    · (first | (with_reducible exact hkeep) | go_keep)
    clear hK K
    try simp only [Act.put, List.getElem_toArray, List.getElem_cons_succ, List.getElem_cons_zero, List.setIfInBounds_toArray, List.set_cons_zero, List.set_cons_succ]
    refine wpAnyH_take (i := 19) (v := undef) rfl (by kernel_rfl) (by kernel_rfl) (by kernel_rfl) (fun _ _ _ h => h) (Or.inr ⟨by kernel_rfl, rfl⟩) (by assumption) ?_
    simp only [Act.put, List.getElem_toArray, List.getElem_cons_succ, List.getElem_cons_zero, List.setIfInBounds_toArray, List.set_cons_zero, List.set_cons_succ]
    refine wpAnyH_take (i := 20) (v := ?_) rfl (by kernel_rfl) (by kernel_rfl) (by kernel_rfl) (fun _ _ _ h => h) (Or.inl ⟨by rfl, ?_⟩) (by assumption) ?_
    rotate_left 1
    · (intro w' hSw; (try dsimp only at hSw); go_simp <;> with_reducible rfl)
    simp only [Act.put, List.getElem_toArray, List.getElem_cons_succ, List.getElem_cons_zero, List.setIfInBounds_toArray, List.set_cons_zero, List.set_cons_succ]
    refine wpAnyH_take (i := 21) (v := ?_) rfl (by kernel_rfl) (by kernel_rfl) (by kernel_rfl) (fun _ _ _ h => h) (Or.inl ⟨by rfl, ?_⟩) (by assumption) ?_
    rotate_left 1
    · (intro w' hSw; (try dsimp only at hSw); go_simp <;> with_reducible rfl)
    simp only [Act.put, List.getElem_toArray, List.getElem_cons_succ, List.getElem_cons_zero, List.setIfInBounds_toArray, List.set_cons_zero, List.set_cons_succ]
    refine wpAnyH_take (i := 22) (v := undef) rfl (by kernel_rfl) (by kernel_rfl) (by kernel_rfl) (fun _ _ _ h => h) (Or.inr ⟨by kernel_rfl, rfl⟩) (by assumption) ?_
    simp only [Act.put, List.getElem_toArray, List.getElem_cons_succ, List.getElem_cons_zero, List.setIfInBounds_toArray, List.set_cons_zero, List.set_cons_succ]
    refine wpAnyH_take (i := 23) (v := undef) rfl (by kernel_rfl) (by kernel_rfl) (by kernel_rfl) (fun _ _ _ h => h) (Or.inr ⟨by kernel_rfl, rfl⟩) (by assumption) ?_
    simp only [Act.put, List.getElem_toArray, List.getElem_cons_succ, List.getElem_cons_zero, List.setIfInBounds_toArray, List.set_cons_zero, List.set_cons_succ]
    refine wpAnyH_take (i := 24) (v := undef) rfl (by kernel_rfl) (by kernel_rfl) (by kernel_rfl) (fun _ _ _ h => h) (Or.inr ⟨by kernel_rfl, rfl⟩) (by assumption) ?_
    simp only [Act.put, List.getElem_toArray, List.getElem_cons_succ, List.getElem_cons_zero, List.setIfInBounds_toArray, List.set_cons_zero, List.set_cons_succ]
    refine wpAnyH_take (i := 25) (v := undef) rfl (by kernel_rfl) (by kernel_rfl) (by kernel_rfl) (fun _ _ _ h => h) (Or.inr ⟨by kernel_rfl, rfl⟩) (by assumption) ?_
    simp only [Act.put, List.getElem_toArray, List.getElem_cons_succ, List.getElem_cons_zero, List.setIfInBounds_toArray, List.set_cons_zero, List.set_cons_succ]
    refine wpAnyH_ready (rs := [26]) (by kernel_rfl) (by simp) ?_
    refine (AllReadyH.cons rfl (fun K hK => ?_) AllReadyH.nil)
    rw [if_neg (show ¬ (_ = true) from fun h => Bool.noConfusion ((show _ = false by kernel_rfl).symm.trans h))]
    refine hK.out _ _ ?_ (fun hHeld => ?_)
    · (first | (with_reducible exact hkeep) | go_keep)
    clear hK K
    try simp only [Act.put, List.getElem_toArray, List.getElem_cons_succ, List.getElem_cons_zero, List.setIfInBounds_toArray, List.set_cons_zero, List.set_cons_succ]
    refine wpAnyH_ready (rs := [27]) (by kernel_rfl) (by simp) ?_
    refine (AllReadyH.cons rfl (fun K hK => ?_) AllReadyH.nil)
    rw [if_neg (show ¬ (_ = true) from fun h => Bool.noConfusion ((show _ = false by kernel_rfl).symm.trans h))]
    refine hK.out _ _ ?_ (fun hHeld => ?_)
    · (first | (with_reducible exact hkeep) | go_keep)
    clear hK K
    try simp only [Act.put, List.getElem_toArray, List.getElem_cons_succ, List.getElem_cons_zero, List.setIfInBounds_toArray, List.set_cons_zero, List.set_cons_succ]
    refine wpAnyH_take (i := 28) (v := undef) rfl (by kernel_rfl) (by kernel_rfl) (by kernel_rfl) (fun _ _ _ h => h) (Or.inr ⟨by kernel_rfl, rfl⟩) (by assumption) ?_
    simp only [Act.put, List.getElem_toArray, List.getElem_cons_succ, List.getElem_cons_zero, List.setIfInBounds_toArray, List.set_cons_zero, List.set_cons_succ]
    refine wpAnyH_take (i := 29) (v := ?_) rfl (by kernel_rfl) (by kernel_rfl) (by kernel_rfl) (fun _ _ _ h => h) (Or.inl ⟨by rfl, ?_⟩) (by assumption) ?_
    rotate_left 1
    · (intro w' hSw; (try dsimp only at hSw); go_simp <;> with_reducible rfl)
    simp only [Act.put, List.getElem_toArray, List.getElem_cons_succ, List.getElem_cons_zero, List.setIfInBounds_toArray, List.set_cons_zero, List.set_cons_succ]
    refine wpAnyH_done (by kernel_rfl) ?_ _
    refine NoPanic.normal ?_
    have Q9 := Lib.hid q1
    clear hkeep q0 q1
    go_wp2_with fail
    go_ret
    exact ⟨rfl, Q9.out.bel⟩
  · have hs := (right_parts hr).1
    have hI1 := fun w => mIn_any side ax ay A l.length c w hs
    have hI2 := fun w => mIn_any side bx b_y A l.length c w hs
    rw [hr] at hR
    cases hi : gridIn side ax ay
    · rw [hi] at hI1
      have HE : Hid (boundOut side l T Ld ax ay bx b_y D = -1) := by show _ = _; unfold boundOut; rw [hr, hi]; rfl
      rw [HE.out]
      clear HE hr hi hI2 hBk hML hDL hd hTl hLl hs
      go_enter Try.func23, Try.ntmps23
      go_upto_region 1 with fail
      have q0 := HB.out.below (bel_D _)
      have hkeep := HS.out _ q0
      refine wp_region_noPanic ?_
      refine wp_region_held_drew (S := (fun w' => w'.cell? ⟨w.heap.size, 0, none⟩ = some (.int .i64 side) ∧ w'.cell? ⟨w.heap.size, 1, none⟩ = some (.slice A l.length c) ∧ w'.cell? ⟨w.heap.size + 1, 0, none⟩ = some (.slice AM T.length cm) ∧ w'.cell? ⟨w.heap.size + 1, 1, none⟩ = some (.slice AL Ld.length cL) ∧ w'.cell? ⟨w.heap.size + 1 + 1, 0, none⟩ = some (.int .i64 ax) ∧ w'.cell? ⟨w.heap.size + 1 + 1, 1, none⟩ = some (.int .i64 ay) ∧ w'.cell? ⟨w.heap.size + 1 + 1 + 1, 0, none⟩ = some (.int .i64 bx) ∧ w'.cell? ⟨w.heap.size + 1 + 1 + 1, 1, none⟩ = some (.int .i64 b_y))) (by kernel_rfl) hkeep (fun hHeld => ?_)
      refine wpAnyH_take (i := 0) (v := ?_) rfl (by kernel_rfl) (by kernel_rfl) (by kernel_rfl) (fun _ _ _ h => h) (Or.inl ⟨by rfl, ?_⟩) (by assumption) ?_
      rotate_left 1
      · (intro w' hSw; (try dsimp only at hSw); go_simp <;> with_reducible rfl)
      simp only [Act.put, List.getElem_toArray, List.getElem_cons_succ, List.getElem_cons_zero, List.setIfInBounds_toArray, List.set_cons_zero, List.set_cons_succ]
      refine wpAnyH_ready (rs := [1]) (by kernel_rfl) (by simp) ?_
      refine (AllReadyH.cons rfl (fun K hK => ?_) AllReadyH.nil)
      go_simp
      (go_at_call 32; refine (hR _ ((H.out.below q0.bel).mono q0.bel.size)).mono ?_; rintro e v1 ⟨rfl, hb⟩; clear hkeep; have q1 := q0.below hb; have hkeep := HS.out _ q1; clear hb)
      try go_wp2_with fail
      refine hK.out _ _ ?_ (fun hHeld => ?_)
      · (first | (with_reducible exact hkeep) | go_keep)
      clear hK K
      try simp only [Act.put, List.getElem_toArray, List.getElem_cons_succ, List.getElem_cons_zero, List.setIfInBounds_toArray, List.set_cons_zero, List.set_cons_succ]
      refine wpAnyH_take (i := 2) (v := ?_) rfl (by kernel_rfl) (by kernel_rfl) (by kernel_rfl) (fun _ _ _ h => h) (Or.inl ⟨by rfl, ?_⟩) (by assumption) ?_
      rotate_left 1
      · (intro w' hSw; (try dsimp only at hSw); go_simp <;> with_reducible rfl)
      simp only [Act.put, List.getElem_toArray, List.getElem_cons_succ, List.getElem_cons_zero, List.setIfInBounds_toArray, List.set_cons_zero, List.set_cons_succ]
      refine wpAnyH_take (i := 3) (v := ?_) rfl (by kernel_rfl) (by kernel_rfl) (by kernel_rfl) (fun _ _ _ h => h) (Or.inl ⟨by rfl, ?_⟩) (by assumption) ?_
      rotate_left 1
      · (intro w' hSw; (try dsimp only at hSw); go_simp <;> with_reducible rfl)
      simp only [Act.put, List.getElem_toArray, List.getElem_cons_succ, List.getElem_cons_zero, List.setIfInBounds_toArray, List.set_cons_zero, List.set_cons_succ]
      refine wpAnyH_take (i := 4) (v := ?_) rfl (by kernel_rfl) (by kernel_rfl) (by kernel_rfl) (fun _ _ _ h => h) (Or.inl ⟨by rfl, ?_⟩) (by assumption) ?_
      rotate_left 1
      · (intro w' hSw; (try dsimp only at hSw); go_simp <;> with_reducible rfl)
      simp only [Act.put, List.getElem_toArray, List.getElem_cons_succ, List.getElem_cons_zero, List.setIfInBounds_toArray, List.set_cons_zero, List.set_cons_succ]
      refine wpAnyH_take (i := 5) (v := ?_) rfl (by kernel_rfl) (by kernel_rfl) (by kernel_rfl) (fun _ _ _ h => h) (Or.inl ⟨by rfl, ?_⟩) (by assumption) ?_
      rotate_left 1
      · (intro w' hSw; (try dsimp only at hSw); go_simp <;> with_reducible rfl)
      simp only [Act.put, List.getElem_toArray, List.getElem_cons_succ, List.getElem_cons_zero, List.setIfInBounds_toArray, List.set_cons_zero, List.set_cons_succ]
      refine wpAnyH_take (i := 6) (v := ?_) rfl (by kernel_rfl) (by kernel_rfl) (by kernel_rfl) (fun _ _ _ h => h) (Or.inl ⟨by rfl, ?_⟩) (by assumption) ?_
      rotate_left 1
      · (intro w' hSw; (try dsimp only at hSw); go_simp <;> with_reducible rfl)
      simp only [Act.put, List.getElem_toArray, List.getElem_cons_succ, List.getElem_cons_zero, List.setIfInBounds_toArray, List.set_cons_zero, List.set_cons_succ]
      refine wpAnyH_take (i := 7) (v := ?_) rfl (by kernel_rfl) (by kernel_rfl) (by kernel_rfl) (fun _ _ _ h => h) (Or.inl ⟨by rfl, ?_⟩) (by assumption) ?_
      rotate_left 1
      · (intro w' hSw; (try dsimp only at hSw); go_simp <;> with_reducible rfl)
      simp only [Act.put, List.getElem_toArray, List.getElem_cons_succ, List.getElem_cons_zero, List.setIfInBounds_toArray, List.set_cons_zero, List.set_cons_succ]
      refine wpAnyH_take (i := 8) (v := ?_) rfl (by kernel_rfl) (by kernel_rfl) (by kernel_rfl) (fun _ _ _ h => h) (Or.inl ⟨by rfl, ?_⟩) (by assumption) ?_
      rotate_left 1
      · (intro w' hSw; (try dsimp only at hSw); go_simp <;> with_reducible rfl)
      simp only [Act.put, List.getElem_toArray, List.getElem_cons_succ, List.getElem_cons_zero, List.setIfInBounds_toArray, List.set_cons_zero, List.set_cons_succ]
      refine wpAnyH_ready (rs := [9]) (by kernel_rfl) (by simp) ?_
      refine (AllReadyH.cons rfl (fun K hK => ?_) AllReadyH.nil)
      go_simp
      (go_at_call 33; refine (hI1 _).mono ?_; rintro e v2 ⟨rfl, hb⟩; clear hkeep; have q2 := q1.below hb; have hkeep := HS.out _ q2; clear hb)
      try go_wp2_with fail
      refine hK.out _ _ ?_ (fun hHeld => ?_)
      · (first | (with_reducible exact hkeep) | go_keep)
      clear hK K
      try simp only [Act.put, List.getElem_toArray, List.getElem_cons_succ, List.getElem_cons_zero, List.setIfInBounds_toArray, List.set_cons_zero, List.set_cons_succ]
      refine wpAnyH_take (i := 10) (v := ?_) rfl (by kernel_rfl) (by kernel_rfl) (by kernel_rfl) (fun _ _ _ h => h) (Or.inl ⟨by rfl, ?_⟩) (by assumption) ?_
      rotate_left 1
      · (intro w' hSw; (try dsimp only at hSw); go_simp <;> with_reducible rfl)
      simp only [Act.put, List.getElem_toArray, List.getElem_cons_succ, List.getElem_cons_zero, List.setIfInBounds_toArray, List.set_cons_zero, List.set_cons_succ]
      refine wpAnyH_take (i := 11) (v := ?_) rfl (by kernel_rfl) (by kernel_rfl) (by kernel_rfl) (fun _ _ _ h => h) (Or.inl ⟨by rfl, ?_⟩) (by assumption) ?_
      rotate_left 1
      · (intro w' hSw; (try dsimp only at hSw); go_simp <;> with_reducible rfl)
      simp only [Act.put, List.getElem_toArray, List.getElem_cons_succ, List.getElem_cons_zero, List.setIfInBounds_toArray, List.set_cons_zero, List.set_cons_succ]
      refine wpAnyH_take (i := 12) (v := ?_) rfl (by kernel_rfl) (by kernel_rfl) (by kernel_rfl) (fun _ _ _ h => h) (Or.inl ⟨by rfl, ?_⟩) (by assumption) ?_
      rotate_left 1
      · (intro w' hSw; (try dsimp only at hSw); go_simp <;> with_reducible rfl)
      simp only [Act.put, List.getElem_toArray, List.getElem_cons_succ, List.getElem_cons_zero, List.setIfInBounds_toArray, List.set_cons_zero, List.set_cons_succ]
      refine wpAnyH_take (i := 13) (v := undef) rfl (by kernel_rfl) (by kernel_rfl) (by kernel_rfl) (fun _ _ _ h => h) (Or.inr ⟨by kernel_rfl, rfl⟩) (by assumption) ?_
      simp only [Act.put, List.getElem_toArray, List.getElem_cons_succ, List.getElem_cons_zero, List.setIfInBounds_toArray, List.set_cons_zero, List.set_cons_succ]
      refine wpAnyH_take (i := 14) (v := undef) rfl (by kernel_rfl) (by kernel_rfl) (by kernel_rfl) (fun _ _ _ h => h) (Or.inr ⟨by kernel_rfl, rfl⟩) (by assumption) ?_
      simp only [Act.put, List.getElem_toArray, List.getElem_cons_succ, List.getElem_cons_zero, List.setIfInBounds_toArray, List.set_cons_zero, List.set_cons_succ]
      refine wpAnyH_take (i := 15) (v := undef) rfl (by kernel_rfl) (by kernel_rfl) (by kernel_rfl) (fun _ _ _ h => h) (Or.inr ⟨by kernel_rfl, rfl⟩) (by assumption) ?_
      simp only [Act.put, List.getElem_toArray, List.getElem_cons_succ, List.getElem_cons_zero, List.setIfInBounds_toArray, List.set_cons_zero, List.set_cons_succ]
      refine wpAnyH_take (i := 16) (v := undef) rfl (by kernel_rfl) (by kernel_rfl) (by kernel_rfl) (fun _ _ _ h => h) (Or.inr ⟨by kernel_rfl, rfl⟩) (by assumption) ?_
      simp only [Act.put, List.getElem_toArray, List.getElem_cons_succ, List.getElem_cons_zero, List.setIfInBounds_toArray, List.set_cons_zero, List.set_cons_succ]
      refine wpAnyH_take (i := 17) (v := undef) rfl (by kernel_rfl) (by kernel_rfl) (by kernel_rfl) (fun _ _ _ h => h) (Or.inr ⟨by kernel_rfl, rfl⟩) (by assumption) ?_
      simp only [Act.put, List.getElem_toArray, List.getElem_cons_succ, List.getElem_cons_zero, List.setIfInBounds_toArray, List.set_cons_zero, List.set_cons_succ]
      refine wpAnyH_ready (rs := [18]) (by kernel_rfl) (by simp) ?_
      refine (AllReadyH.cons rfl (fun K hK => ?_) AllReadyH.nil)
      rw [if_neg (show ¬ (_ = true) from fun h => Bool.noConfusion ((show _ = false by kernel_rfl).symm.trans h))]
      refine hK.out _ _ ?_ (fun hHeld => ?_)
      · (first | (with_reducible exact hkeep) | go_keep)
      clear hK K
      try simp only [Act.put, List.getElem_toArray, List.getElem_cons_succ, List.getElem_cons_zero, List.setIfInBounds_toArray, List.set_cons_zero, List.set_cons_succ]
      refine wpAnyH_take (i := 19) (v := undef) rfl (by kernel_rfl) (by kernel_rfl) (by kernel_rfl) (fun _ _ _ h => h) (Or.inr ⟨by kernel_rfl, rfl⟩) (by assumption) ?_
      simp only [Act.put, List.getElem_toArray, List.getElem_cons_succ, List.getElem_cons_zero, List.setIfInBounds_toArray, List.set_cons_zero, List.set_cons_succ]
      refine wpAnyH_take (i := 20) (v := ?_) rfl (by kernel_rfl) (by kernel_rfl) (by kernel_rfl) (fun _ _ _ h => h) (Or.inl ⟨by rfl, ?_⟩) (by assumption) ?_
      rotate_left 1
      · (intro w' hSw; (try dsimp only at hSw); go_simp <;> with_reducible rfl)
      simp only [Act.put, List.getElem_toArray, List.getElem_cons_succ, List.getElem_cons_zero, List.setIfInBounds_toArray, List.set_cons_zero, List.set_cons_succ]
      refine wpAnyH_take (i := 21) (v := ?_) rfl (by kernel_rfl) (by kernel_rfl) (by kernel_rfl) (fun _ _ _ h => h) (Or.inl ⟨by rfl, ?_⟩) (by assumption) ?_
      rotate_left 1
      · (intro w' hSw; (try dsimp only at hSw); go_simp <;> with_reducible rfl)
      simp only [Act.put, List.getElem_toArray, List.getElem_cons_succ, List.getElem_cons_zero, List.setIfInBounds_toArray, List.set_cons_zero, List.set_cons_succ]
      refine wpAnyH_take (i := 22) (v := undef) rfl (by kernel_rfl) (by kernel_rfl) (by kernel_rfl) (fun _ _ _ h => h) (Or.inr ⟨by kernel_rfl, rfl⟩) (by assumption) ?_
      simp only [Act.put, List.getElem_toArray, List.getElem_cons_succ, List.getElem_cons_zero, List.setIfInBounds_toArray, List.set_cons_zero, List.set_cons_succ]
      refine wpAnyH_take (i := 23) (v := undef) rfl (by kernel_rfl) (by kernel_rfl) (by kernel_rfl) (fun _ _ _ h => h) (Or.inr ⟨by kernel_rfl, rfl⟩) (by assumption) ?_
      simp only [Act.put, List.getElem_toArray, List.getElem_cons_succ, List.getElem_cons_zero, List.setIfInBounds_toArray, List.set_cons_zero, List.set_cons_succ]
      refine wpAnyH_take (i := 24) (v := undef) rfl (by kernel_rfl) (by kernel_rfl) (by kernel_rfl) (fun _ _ _ h => h) (Or.inr ⟨by kernel_rfl, rfl⟩) (by assumption) ?_
      simp only [Act.put, List.getElem_toArray, List.getElem_cons_succ, List.getElem_cons_zero, List.setIfInBounds_toArray, List.set_cons_zero, List.set_cons_succ]
      refine wpAnyH_take (i := 25) (v := undef) rfl (by kernel_rfl) (by kernel_rfl) (by kernel_rfl) (fun _ _ _ h => h) (Or.inr ⟨by kernel_rfl, rfl⟩) (by assumption) ?_
      simp only [Act.put, List.getElem_toArray, List.getElem_cons_succ, List.getElem_cons_zero, List.setIfInBounds_toArray, List.set_cons_zero, List.set_cons_succ]
      refine wpAnyH_ready (rs := [26]) (by kernel_rfl) (by simp) ?_
      refine (AllReadyH.cons rfl (fun K hK => ?_) AllReadyH.nil)
      rw [if_neg (show ¬ (_ = true) from fun h => Bool.noConfusion ((show _ = false by kernel_rfl).symm.trans h))]
      refine hK.out _ _ ?_ (fun hHeld => ?_)
      · (first | (with_reducible exact hkeep) | go_keep)
      clear hK K
      try simp only [Act.put, List.getElem_toArray, List.getElem_cons_succ, List.getElem_cons_zero, List.setIfInBounds_toArray, List.set_cons_zero, List.set_cons_succ]
      refine wpAnyH_ready (rs := [27]) (by kernel_rfl) (by simp) ?_
      refine (AllReadyH.cons rfl (fun K hK => ?_) AllReadyH.nil)
      rw [if_neg (show ¬ (_ = true) from fun h => Bool.noConfusion ((show _ = false by kernel_rfl).symm.trans h))]
      refine hK.out _ _ ?_ (fun hHeld => ?_)
      · (first | (with_reducible exact hkeep) | go_keep)
      clear hK K
      try simp only [Act.put, List.getElem_toArray, List.getElem_cons_succ, List.getElem_cons_zero, List.setIfInBounds_toArray, List.set_cons_zero, List.set_cons_succ]
      refine wpAnyH_take (i := 28) (v := undef) rfl (by kernel_rfl) (by kernel_rfl) (by kernel_rfl) (fun _ _ _ h => h) (Or.inr ⟨by kernel_rfl, rfl⟩) (by assumption) ?_
      simp only [Act.put, List.getElem_toArray, List.getElem_cons_succ, List.getElem_cons_zero, List.setIfInBounds_toArray, List.set_cons_zero, List.set_cons_succ]
      refine wpAnyH_take (i := 29) (v := ?_) rfl (by kernel_rfl) (by kernel_rfl) (by kernel_rfl) (fun _ _ _ h => h) (Or.inl ⟨by rfl, ?_⟩) (by assumption) ?_
      rotate_left 1
      · (intro w' hSw; (try dsimp only at hSw); go_simp <;> with_reducible rfl)
      simp only [Act.put, List.getElem_toArray, List.getElem_cons_succ, List.getElem_cons_zero, List.setIfInBounds_toArray, List.set_cons_zero, List.set_cons_succ]
      refine wpAnyH_done (by kernel_rfl) ?_ _
      refine NoPanic.normal ?_
      have Q9 := Lib.hid q2
      clear hkeep q0 q1 q2
      go_wp2_with fail
      go_ret
      exact ⟨rfl, Q9.out.bel⟩
    · rw [hi] at hI1
      cases hj : gridIn side bx b_y
      · rw [hj] at hI2
        have HE : Hid (boundOut side l T Ld ax ay bx b_y D = -1) := by show _ = _; unfold boundOut; rw [hr, hi, hj]; rfl
        rw [HE.out]
        clear HE hr hi hj hBk hML hDL hd hTl hLl hs
        go_enter Try.func23, Try.ntmps23
        go_upto_region 1 with fail
        have q0 := HB.out.below (bel_D _)
        have hkeep := HS.out _ q0
        refine wp_region_noPanic ?_
        refine wp_region_held_drew (S := (fun w' => w'.cell? ⟨w.heap.size, 0, none⟩ = some (.int .i64 side) ∧ w'.cell? ⟨w.heap.size, 1, none⟩ = some (.slice A l.length c) ∧ w'.cell? ⟨w.heap.size + 1, 0, none⟩ = some (.slice AM T.length cm) ∧ w'.cell? ⟨w.heap.size + 1, 1, none⟩ = some (.slice AL Ld.length cL) ∧ w'.cell? ⟨w.heap.size + 1 + 1, 0, none⟩ = some (.int .i64 ax) ∧ w'.cell? ⟨w.heap.size + 1 + 1, 1, none⟩ = some (.int .i64 ay) ∧ w'.cell? ⟨w.heap.size + 1 + 1 + 1, 0, none⟩ = some (.int .i64 bx) ∧ w'.cell? ⟨w.heap.size + 1 + 1 + 1, 1, none⟩ = some (.int .i64 b_y))) (by kernel_rfl) hkeep (fun hHeld => ?_)
        refine wpAnyH_take (i := 0) (v := ?_) rfl (by kernel_rfl) (by kernel_rfl) (by kernel_rfl) (fun _ _ _ h => h) (Or.inl ⟨by rfl, ?_⟩) (by assumption) ?_
        rotate_left 1
        · (intro w' hSw; (try dsimp only at hSw); go_simp <;> with_reducible rfl)
        simp only [Act.put, List.getElem_toArray, List.getElem_cons_succ, List.getElem_cons_zero, List.setIfInBounds_toArray, List.set_cons_zero, List.set_cons_succ]
        refine wpAnyH_ready (rs := [1]) (by kernel_rfl) (by simp) ?_
        refine (AllReadyH.cons rfl (fun K hK => ?_) AllReadyH.nil)
        go_simp
        (go_at_call 32; refine (hR _ ((H.out.below q0.bel).mono q0.bel.size)).mono ?_; rintro e v1 ⟨rfl, hb⟩; clear hkeep; have q1 := q0.below hb; have hkeep := HS.out _ q1; clear hb)
        try go_wp2_with fail
        refine hK.out _ _ ?_ (fun hHeld => ?_)
        · (first | (with_reducible exact hkeep) | go_keep)
        clear hK K
        try simp only [Act.put, List.getElem_toArray, List.getElem_cons_succ, List.getElem_cons_zero, List.setIfInBounds_toArray, List.set_cons_zero, List.set_cons_succ]
        refine wpAnyH_take (i := 2) (v := ?_) rfl (by kernel_rfl) (by kernel_rfl) (by kernel_rfl) (fun _ _ _ h => h) (Or.inl ⟨by rfl, ?_⟩) (by assumption) ?_
        rotate_left 1
        · (intro w' hSw; (try dsimp only at hSw); go_simp <;> with_reducible rfl)
        simp only [Act.put, List.getElem_toArray, List.getElem_cons_succ, List.getElem_cons_zero, List.setIfInBounds_toArray, List.set_cons_zero, List.set_cons_succ]
        refine wpAnyH_take (i := 3) (v := ?_) rfl (by kernel_rfl) (by kernel_rfl) (by kernel_rfl) (fun _ _ _ h => h) (Or.inl ⟨by rfl, ?_⟩) (by assumption) ?_
        rotate_left 1
        · (intro w' hSw; (try dsimp only at hSw); go_simp <;> with_reducible rfl)
        simp only [Act.put, List.getElem_toArray, List.getElem_cons_succ, List.getElem_cons_zero, List.setIfInBounds_toArray, List.set_cons_zero, List.set_cons_succ]
        refine wpAnyH_take (i := 4) (v := ?_) rfl (by kernel_rfl) (by kernel_rfl) (by kernel_rfl) (fun _ _ _ h => h) (Or.inl ⟨by rfl, ?_⟩) (by assumption) ?_
        rotate_left 1
        · (intro w' hSw; (try dsimp only at hSw); go_simp <;> with_reducible rfl)
        simp only [Act.put, List.getElem_toArray, List.getElem_cons_succ, List.getElem_cons_zero, List.setIfInBounds_toArray, List.set_cons_zero, List.set_cons_succ]
        refine wpAnyH_take (i := 5) (v := ?_) rfl (by kernel_rfl) (by kernel_rfl) (by kernel_rfl) (fun _ _ _ h => h) (Or.inl ⟨by rfl, ?_⟩) (by assumption) ?_
        rotate_left 1
        · (intro w' hSw; (try dsimp only at hSw); go_simp <;> with_reducible rfl)
        simp only [Act.put, List.getElem_toArray, List.getElem_cons_succ, List.getElem_cons_zero, List.setIfInBounds_toArray, List.set_cons_zero, List.set_cons_succ]
        refine wpAnyH_take (i := 6) (v := ?_) rfl (by kernel_rfl) (by kernel_rfl) (by kernel_rfl) (fun _ _ _ h => h) (Or.inl ⟨by rfl, ?_⟩) (by assumption) ?_
        rotate_left 1
        · (intro w' hSw; (try dsimp only at hSw); go_simp <;> with_reducible rfl)
        simp only [Act.put, List.getElem_toArray, List.getElem_cons_succ, List.getElem_cons_zero, List.setIfInBounds_toArray, List.set_cons_zero, List.set_cons_succ]
        refine wpAnyH_take (i := 7) (v := ?_) rfl (by kernel_rfl) (by kernel_rfl) (by kernel_rfl) (fun _ _ _ h => h) (Or.inl ⟨by rfl, ?_⟩) (by assumption) ?_
        rotate_left 1
        · (intro w' hSw; (try dsimp only at hSw); go_simp <;> with_reducible rfl)
        simp only [Act.put, List.getElem_toArray, List.getElem_cons_succ, List.getElem_cons_zero, List.setIfInBounds_toArray, List.set_cons_zero, List.set_cons_succ]
        refine wpAnyH_take (i := 8) (v := ?_) rfl (by kernel_rfl) (by kernel_rfl) (by kernel_rfl) (fun _ _ _ h => h) (Or.inl ⟨by rfl, ?_⟩) (by assumption) ?_
        rotate_left 1
        · (intro w' hSw; (try dsimp only at hSw); go_simp <;> with_reducible rfl)
        simp only [Act.put, List.getElem_toArray, List.getElem_cons_succ, List.getElem_cons_zero, List.setIfInBounds_toArray, List.set_cons_zero, List.set_cons_succ]
        refine wpAnyH_ready (rs := [9]) (by kernel_rfl) (by simp) ?_
        refine (AllReadyH.cons rfl (fun K hK => ?_) AllReadyH.nil)
        go_simp
        (go_at_call 33; refine (hI1 _).mono ?_; rintro e v2 ⟨rfl, hb⟩; clear hkeep; have q2 := q1.below hb; have hkeep := HS.out _ q2; clear hb)
        try go_wp2_with fail
        refine hK.out _ _ ?_ (fun hHeld => ?_)
        · (first | (with_reducible exact hkeep) | go_keep)
        clear hK K
        try simp only [Act.put, List.getElem_toArray, List.getElem_cons_succ, List.getElem_cons_zero, List.setIfInBounds_toArray, List.set_cons_zero, List.set_cons_succ]
        refine wpAnyH_take (i := 10) (v := ?_) rfl (by kernel_rfl) (by kernel_rfl) (by kernel_rfl) (fun _ _ _ h => h) (Or.inl ⟨by rfl, ?_⟩) (by assumption) ?_
        rotate_left 1
        · (intro w' hSw; (try dsimp only at hSw); go_simp <;> with_reducible rfl)
        simp only [Act.put, List.getElem_toArray, List.getElem_cons_succ, List.getElem_cons_zero, List.setIfInBounds_toArray, List.set_cons_zero, List.set_cons_succ]
        refine wpAnyH_take (i := 11) (v := ?_) rfl (by kernel_rfl) (by kernel_rfl) (by kernel_rfl) (fun _ _ _ h => h) (Or.inl ⟨by rfl, ?_⟩) (by assumption) ?_
        rotate_left 1
        · (intro w' hSw; (try dsimp only at hSw); go_simp <;> with_reducible rfl)
        simp only [Act.put, List.getElem_toArray, List.getElem_cons_succ, List.getElem_cons_zero, List.setIfInBounds_toArray, List.set_cons_zero, List.set_cons_succ]
        refine wpAnyH_take (i := 12) (v := ?_) rfl (by kernel_rfl) (by kernel_rfl) (by kernel_rfl) (fun _ _ _ h => h) (Or.inl ⟨by rfl, ?_⟩) (by assumption) ?_
        rotate_left 1
        · (intro w' hSw; (try dsimp only at hSw); go_simp <;> with_reducible rfl)
        simp only [Act.put, List.getElem_toArray, List.getElem_cons_succ, List.getElem_cons_zero, List.setIfInBounds_toArray, List.set_cons_zero, List.set_cons_succ]
        refine wpAnyH_take (i := 13) (v := ?_) rfl (by kernel_rfl) (by kernel_rfl) (by kernel_rfl) (fun _ _ _ h => h) (Or.inl ⟨by rfl, ?_⟩) (by assumption) ?_
        rotate_left 1
        · (intro w' hSw; (try dsimp only at hSw); go_simp <;> with_reducible rfl)
        simp only [Act.put, List.getElem_toArray, List.getElem_cons_succ, List.getElem_cons_zero, List.setIfInBounds_toArray, List.set_cons_zero, List.set_cons_succ]
        refine wpAnyH_take (i := 14) (v := ?_) rfl (by kernel_rfl) (by kernel_rfl) (by kernel_rfl) (fun _ _ _ h => h) (Or.inl ⟨by rfl, ?_⟩) (by assumption) ?_
        rotate_left 1
        · (intro w' hSw; (try dsimp only at hSw); go_simp <;> with_reducible rfl)
        simp only [Act.put, List.getElem_toArray, List.getElem_cons_succ, List.getElem_cons_zero, List.setIfInBounds_toArray, List.set_cons_zero, List.set_cons_succ]
        refine wpAnyH_take (i := 15) (v := ?_) rfl (by kernel_rfl) (by kernel_rfl) (by kernel_rfl) (fun _ _ _ h => h) (Or.inl ⟨by rfl, ?_⟩) (by assumption) ?_
        rotate_left 1
        · (intro w' hSw; (try dsimp only at hSw); go_simp <;> with_reducible rfl)
        simp only [Act.put, List.getElem_toArray, List.getElem_cons_succ, List.getElem_cons_zero, List.setIfInBounds_toArray, List.set_cons_zero, List.set_cons_succ]
        refine wpAnyH_take (i := 16) (v := ?_) rfl (by kernel_rfl) (by kernel_rfl) (by kernel_rfl) (fun _ _ _ h => h) (Or.inl ⟨by rfl, ?_⟩) (by assumption) ?_
        rotate_left 1
        · (intro w' hSw; (try dsimp only at hSw); go_simp <;> with_reducible rfl)
        simp only [Act.put, List.getElem_toArray, List.getElem_cons_succ, List.getElem_cons_zero, List.setIfInBounds_toArray, List.set_cons_zero, List.set_cons_succ]
        refine wpAnyH_take (i := 17) (v := ?_) rfl (by kernel_rfl) (by kernel_rfl) (by kernel_rfl) (fun _ _ _ h => h) (Or.inl ⟨by rfl, ?_⟩) (by assumption) ?_
        rotate_left 1
        · (intro w' hSw; (try dsimp only at hSw); go_simp <;> with_reducible rfl)
        simp only [Act.put, List.getElem_toArray, List.getElem_cons_succ, List.getElem_cons_zero, List.setIfInBounds_toArray, List.set_cons_zero, List.set_cons_succ]
        refine wpAnyH_ready (rs := [18]) (by kernel_rfl) (by simp) ?_
        refine (AllReadyH.cons rfl (fun K hK => ?_) AllReadyH.nil)
        go_simp
        (go_at_call 33; refine (hI2 _).mono ?_; rintro e v3 ⟨rfl, hb⟩; clear hkeep; have q3 := q2.below hb; have hkeep := HS.out _ q3; clear hb)
        try go_wp2_with fail
        refine hK.out _ _ ?_ (fun hHeld => ?_)
        · (first | (with_reducible exact hkeep) | go_keep)
        clear hK K
        try simp only [Act.put, List.getElem_toArray, List.getElem_cons_succ, List.getElem_cons_zero, List.setIfInBounds_toArray, List.set_cons_zero, List.set_cons_succ]
        refine wpAnyH_take (i := 19) (v := ?_) rfl (by kernel_rfl) (by kernel_rfl) (by kernel_rfl) (fun _ _ _ h => h) (Or.inl ⟨by rfl, ?_⟩) (by assumption) ?_
        rotate_left 1
        · (intro w' hSw; (try dsimp only at hSw); go_simp <;> with_reducible rfl)
        simp only [Act.put, List.getElem_toArray, List.getElem_cons_succ, List.getElem_cons_zero, List.setIfInBounds_toArray, List.set_cons_zero, List.set_cons_succ]
        refine wpAnyH_take (i := 20) (v := ?_) rfl (by kernel_rfl) (by kernel_rfl) (by kernel_rfl) (fun _ _ _ h => h) (Or.inl ⟨by rfl, ?_⟩) (by assumption) ?_
        rotate_left 1
        · (intro w' hSw; (try dsimp only at hSw); go_simp <;> with_reducible rfl)
        simp only [Act.put, List.getElem_toArray, List.getElem_cons_succ, List.getElem_cons_zero, List.setIfInBounds_toArray, List.set_cons_zero, List.set_cons_succ]
        refine wpAnyH_take (i := 21) (v := ?_) rfl (by kernel_rfl) (by kernel_rfl) (by kernel_rfl) (fun _ _ _ h => h) (Or.inl ⟨by rfl, ?_⟩) (by assumption) ?_
        rotate_left 1
        · (intro w' hSw; (try dsimp only at hSw); go_simp <;> with_reducible rfl)
        simp only [Act.put, List.getElem_toArray, List.getElem_cons_succ, List.getElem_cons_zero, List.setIfInBounds_toArray, List.set_cons_zero, List.set_cons_succ]
        refine wpAnyH_take (i := 22) (v := undef) rfl (by kernel_rfl) (by kernel_rfl) (by kernel_rfl) (fun _ _ _ h => h) (Or.inr ⟨by kernel_rfl, rfl⟩) (by assumption) ?_
        simp only [Act.put, List.getElem_toArray, List.getElem_cons_succ, List.getElem_cons_zero, List.setIfInBounds_toArray, List.set_cons_zero, List.set_cons_succ]
        refine wpAnyH_take (i := 23) (v := undef) rfl (by kernel_rfl) (by kernel_rfl) (by kernel_rfl) (fun _ _ _ h => h) (Or.inr ⟨by kernel_rfl, rfl⟩) (by assumption) ?_
        simp only [Act.put, List.getElem_toArray, List.getElem_cons_succ, List.getElem_cons_zero, List.setIfInBounds_toArray, List.set_cons_zero, List.set_cons_succ]
        refine wpAnyH_take (i := 24) (v := undef) rfl (by kernel_rfl) (by kernel_rfl) (by kernel_rfl) (fun _ _ _ h => h) (Or.inr ⟨by kernel_rfl, rfl⟩) (by assumption) ?_
        simp only [Act.put, List.getElem_toArray, List.getElem_cons_succ, List.getElem_cons_zero, List.setIfInBounds_toArray, List.set_cons_zero, List.set_cons_succ]
        refine wpAnyH_take (i := 25) (v := undef) rfl (by kernel_rfl) (by kernel_rfl) (by kernel_rfl) (fun _ _ _ h => h) (Or.inr ⟨by kernel_rfl, rfl⟩) (by assumption) ?_
        simp only [Act.put, List.getElem_toArray, List.getElem_cons_succ, List.getElem_cons_zero, List.setIfInBounds_toArray, List.set_cons_zero, List.set_cons_succ]
        refine wpAnyH_ready (rs := [26]) (by kernel_rfl) (by simp) ?_
        refine (AllReadyH.cons rfl (fun K hK => ?_) AllReadyH.nil)
        rw [if_neg (show ¬ (_ = true) from fun h => Bool.noConfusion ((show _ = false by kernel_rfl).symm.trans h))]
        refine hK.out _ _ ?_ (fun hHeld => ?_)
        · (first | (with_reducible exact hkeep) | go_keep)
        clear hK K
        try simp only [Act.put, List.getElem_toArray, List.getElem_cons_succ, List.getElem_cons_zero, List.setIfInBounds_toArray, List.set_cons_zero, List.set_cons_succ]
        refine wpAnyH_ready (rs := [27]) (by kernel_rfl) (by simp) ?_
        refine (AllReadyH.cons rfl (fun K hK => ?_) AllReadyH.nil)
        rw [if_neg (show ¬ (_ = true) from fun h => Bool.noConfusion ((show _ = false by kernel_rfl).symm.trans h))]
        refine hK.out _ _ ?_ (fun hHeld => ?_)
        · (first | (with_reducible exact hkeep) | go_keep)
        clear hK K
        try simp only [Act.put, List.getElem_toArray, List.getElem_cons_succ, List.getElem_cons_zero, List.setIfInBounds_toArray, List.set_cons_zero, List.set_cons_succ]
        refine wpAnyH_take (i := 28) (v := undef) rfl (by kernel_rfl) (by kernel_rfl) (by kernel_rfl) (fun _ _ _ h => h) (Or.inr ⟨by kernel_rfl, rfl⟩) (by assumption) ?_
        simp only [Act.put, List.getElem_toArray, List.getElem_cons_succ, List.getElem_cons_zero, List.setIfInBounds_toArray, List.set_cons_zero, List.set_cons_succ]
        refine wpAnyH_take (i := 29) (v := ?_) rfl (by kernel_rfl) (by kernel_rfl) (by kernel_rfl) (fun _ _ _ h => h) (Or.inl ⟨by rfl, ?_⟩) (by assumption) ?_
        rotate_left 1
        · (intro w' hSw; (try dsimp only at hSw); go_simp <;> with_reducible rfl)
        simp only [Act.put, List.getElem_toArray, List.getElem_cons_succ, List.getElem_cons_zero, List.setIfInBounds_toArray, List.set_cons_zero, List.set_cons_succ]
        refine wpAnyH_done (by kernel_rfl) ?_ _
        refine NoPanic.normal ?_
        have Q9 := Lib.hid q3
        clear hkeep q0 q1 q2 q3
        go_wp2_with fail
        go_ret
        exact ⟨rfl, Q9.out.bel⟩
      · rw [hj] at hI2
        have hSm := fun A4 c4 D4 d4 w h h2 k k2 => mSame_any AM A4 AL D4 cm c4 cL d4 T (bakeM side l T) Ld (bakeD side l T D) w h h2 k k2 (by omega) (by omega) (by omega) (by omega)
        cases hsm : (decide (T = bakeM side l T) && decide (Ld = bakeD side l T D))
        · rw [hsm] at hSm
          have HE : Hid (boundOut side l T Ld ax ay bx b_y D = -1) := by show _ = _; unfold boundOut; rw [hr, hi, hj, hsm]; rfl
          rw [HE.out]
          clear HE hr hi hj hsm hML hDL hd hTl hLl hs
          go_enter Try.func23, Try.ntmps23
          go_upto_region 1 with fail
          have q0 := HB.out.below (bel_D _)
          have hkeep := HS.out _ q0
          go_region_held3 (fun w' => w'.cell? ⟨w.heap.size, 0, none⟩ = some (.int .i64 side) ∧ w'.cell? ⟨w.heap.size, 1, none⟩ = some (.slice A l.length c) ∧ w'.cell? ⟨w.heap.size + 1, 0, none⟩ = some (.slice AM T.length cm) ∧ w'.cell? ⟨w.heap.size + 1, 1, none⟩ = some (.slice AL Ld.length cL) ∧ w'.cell? ⟨w.heap.size + 1 + 1, 0, none⟩ = some (.int .i64 ax) ∧ w'.cell? ⟨w.heap.size + 1 + 1, 1, none⟩ = some (.int .i64 ay) ∧ w'.cell? ⟨w.heap.size + 1 + 1 + 1, 0, none⟩ = some (.int .i64 bx) ∧ w'.cell? ⟨w.heap.size + 1 + 1 + 1, 1, none⟩ = some (.int .i64 b_y))
            (first | (with_reducible exact hkeep) | go_keep)
            (first
              | (go_at_call 54; have _c := q4; clear _c; refine (hSm _ _ _ _ _ ((HT.out.below q4.bel).mono q4.bel.size) HO4.out ((HL.out.below q4.bel).mono q4.bel.size) HO5.out).mono ?_; rintro e v5 ⟨rfl, hb⟩; clear hkeep; have q5 := q4.below hb; have hkeep := HS.out _ q5; clear hb)
              | (go_at_call 20; have _c := q3; clear _c; refine (hBk _ ((H.out.below q3.bel).mono q3.bel.size) ((HT.out.below q3.bel).mono q3.bel.size)).mono ?_; rintro e v4 ⟨A4, c4, D4, d4, rfl, o4, o5, _, hb⟩; clear hkeep; have q4 := q3.below hb; have HO4 := Lib.hid o4.r; have HO5 := Lib.hid o5.ri; clear o4 o5; have hkeep := HS.out _ q4; clear hb)
              | (go_at_call 33; have _c := q2; clear _c; refine (hI2 _).mono ?_; rintro e v3 ⟨rfl, hb⟩; clear hkeep; have q3 := q2.below hb; have hkeep := HS.out _ q3; clear hb)
              | (go_at_call 33; have _c := q1; clear _c; refine (hI1 _).mono ?_; rintro e v2 ⟨rfl, hb⟩; clear hkeep; have q2 := q1.below hb; have hkeep := HS.out _ q2; clear hb)
              | (go_at_call 32; refine (hR _ ((H.out.below q0.bel).mono q0.bel.size)).mono ?_; rintro e v1 ⟨rfl, hb⟩; clear hkeep; have q1 := q0.below hb; have hkeep := HS.out _ q1; clear hb))
          all_goals
            have Q9 := Lib.hid q5
            clear hkeep q0 q1 q2 q3 q4 q5
            go_wp2_with fail
            go_ret
            exact ⟨rfl, Q9.out.bel⟩
        · rw [hsm] at hSm
          have hsm' := hsm
          simp only [Bool.and_eq_true, decide_eq_true_eq] at hsm'
          have HE : Hid (boundOut side l T Ld ax ay bx b_y D = (bndTo D (pn side ax ay) (pn side bx b_y) T.length).getD (-1)) := by show _ = _; unfold boundOut; rw [hr, hi, hj, hsm]; rfl
          rw [HE.out]
          have hok := boundOut_ok (D := D) hsm'.1 hr
          have hok' := hok
          unfold bakeOk at hok'
          simp only [Bool.and_eq_true, decide_eq_true_eq, List.all_eq_true] at hok'
          have hT4 := hok'.1.2
          have HOP : Hid (∀ i (hi : i < T.length), opn side l T[i].x T[i].y = true) := fun i hi => hok'.2 _ (List.getElem_mem hi)
          have HGD : Hid (∀ i (hi : i < T.length), GDist side l T[i].x T[i].y (D i)) := fun i hi => hd i hi (by rw [hr, HOP.out i hi]; rfl)
          have HLE : Hid (Ld = flatD D T.length) := by
            show Ld = flatD D T.length
            rw [hsm'.2]
            unfold bakeD
            rw [hok]
            rfl
          have hlen := flatD_get (D := D) (m := l.length) (n := T.length) fun j hj => (HGD.out j hj).len
          have hl64 := right_len hr
          have hpa := (pn_lt hr hi).1
          have hpb := (pn_lt hr hj).1
          have hA1 := fun A n c w => mAt5_any hr hi A n c w
          have hA2 := fun A n c w => mAt5_any hr hj A n c w
          have HSM : Hid (∀ j, j < T.length → (-1 ≤ dk (D j) (pn side ax ay) ∧ dk (D j) (pn side ax ay) ≤ 1300) ∧ (-1 ≤ dk (D j) (pn side bx b_y) ∧ dk (D j) (pn side bx b_y) ≤ 1300)) := fun j hj => ⟨dk_small hr (HGD.out j hj) hpa, dk_small hr (HGD.out j hj) hpb⟩
          have HLL : Hid (Ld.length = T.length * l.length) := by show _ = _; rw [HLE.out]; exact hlen.1
          have HAT : Hid (∀ k p, k < T.length → p < l.length → ∃ hh : k * l.length + p < Ld.length, Ld[k * l.length + p] = dk (D k) p) := by
            intro k p hk hp
            have hm : k * l.length + l.length ≤ T.length * l.length := by have := Nat.mul_le_mul_right l.length (show k + 1 ≤ T.length from hk); rw [Nat.succ_mul] at this; exact this
            have hh : k * l.length + p < Ld.length := by rw [HLL.out]; omega
            refine ⟨hh, ?_⟩
            have h1 := hlen.2 k p hk hp
            rw [← HLE.out, List.getElem?_eq_getElem hh, List.getElem?_eq_getElem (by rw [(HGD.out k hk).len]; exact hp)] at h1
            rw [dk_lt (by rw [(HGD.out k hk).len]; exact hp)]
            exact Option.some.inj h1
          clear hr hi hj hsm hsm' hok hok' hd hTl hLl hs hML hDL HE hlen HGD HOP HLE
          generalize pn side ax ay = pa at *
          generalize pn side bx b_y = pb at *
          go_enter Try.func23, Try.ntmps23
          go_upto_region 1 with fail
          go_cut [42] from 13 to 103 (fun c42 wx => c42 = .bool false ∧ B5 w side A c l (.slice AM T.length cm) (.slice AL Ld.length cL) ax ay bx b_y wx)
          case first =>
            have q0 := HB.out.below (bel_D _)
            have hkeep := HS.out _ q0
            go_region_held3 (fun w' => w'.cell? ⟨w.heap.size, 0, none⟩ = some (.int .i64 side) ∧ w'.cell? ⟨w.heap.size, 1, none⟩ = some (.slice A l.length c) ∧ w'.cell? ⟨w.heap.size + 1, 0, none⟩ = some (.slice AM T.length cm) ∧ w'.cell? ⟨w.heap.size + 1, 1, none⟩ = some (.slice AL Ld.length cL) ∧ w'.cell? ⟨w.heap.size + 1 + 1, 0, none⟩ = some (.int .i64 ax) ∧ w'.cell? ⟨w.heap.size + 1 + 1, 1, none⟩ = some (.int .i64 ay) ∧ w'.cell? ⟨w.heap.size + 1 + 1 + 1, 0, none⟩ = some (.int .i64 bx) ∧ w'.cell? ⟨w.heap.size + 1 + 1 + 1, 1, none⟩ = some (.int .i64 b_y))
              (first | (with_reducible exact hkeep) | go_keep)
              (first
                | (go_at_call 54; have _c := q4; clear _c; refine (hSm _ _ _ _ _ ((HT.out.below q4.bel).mono q4.bel.size) HO4.out ((HL.out.below q4.bel).mono q4.bel.size) HO5.out).mono ?_; rintro e v5 ⟨rfl, hb⟩; clear hkeep; have q5 := q4.below hb; have hkeep := HS.out _ q5; clear hb)
                | (go_at_call 20; have _c := q3; clear _c; refine (hBk _ ((H.out.below q3.bel).mono q3.bel.size) ((HT.out.below q3.bel).mono q3.bel.size)).mono ?_; rintro e v4 ⟨A4, c4, D4, d4, rfl, o4, o5, _, hb⟩; clear hkeep; have q4 := q3.below hb; have HO4 := Lib.hid o4.r; have HO5 := Lib.hid o5.ri; clear o4 o5; have hkeep := HS.out _ q4; clear hb)
                | (go_at_call 33; have _c := q2; clear _c; refine (hI2 _).mono ?_; rintro e v3 ⟨rfl, hb⟩; clear hkeep; have q3 := q2.below hb; have hkeep := HS.out _ q3; clear hb)
                | (go_at_call 33; have _c := q1; clear _c; refine (hI1 _).mono ?_; rintro e v2 ⟨rfl, hb⟩; clear hkeep; have q2 := q1.below hb; have hkeep := HS.out _ q2; clear hb)
                | (go_at_call 32; refine (hR _ ((H.out.below q0.bel).mono q0.bel.size)).mono ?_; rintro e v1 ⟨rfl, hb⟩; clear hkeep; have q1 := q0.below hb; have hkeep := HS.out _ q1; clear hb))
            all_goals
              have Q9 := Lib.hid q5
              clear hkeep q0 q1 q2 q3 q4 q5
              go_wp2_with fail
              go_meet
              exact ⟨rfl, Q9.out⟩
          obtain ⟨rfl, hq⟩ := hcut
          have HQ := Lib.hid hq
          clear hq HB hR hI1 hI2 hBk hSm
          generalize wc = W at *
          go_wp2_with fail
          go_loopw [9, 10] (fun n i wr => ∃ (k : Nat) (N : Int), i = .int .i64 k ∧ n = .int .i64 N ∧ k ≤ T.length ∧ B5 w side A c l (.slice AM T.length cm) (.slice AL Ld.length cL) ax ay bx b_y wr ∧ Hid (bndTo D pa pb k = some N)) (fun _ i _ => T.length - (intOf i).toNat)
          case atStart => exact ⟨0, 0, rfl, rfl, Nat.zero_le _, HQ.out, rfl⟩
          case round =>
            obtain ⟨k, N, rfl, rfl, hk, hq, HN⟩ := hrel
            have HQ1 := Lib.hid hq
            clear hq HQ
            have hNs := bndTo_small HN.out fun j hj => HSM.out j (by omega)
            obtain ⟨g0, g1, t0, t1, a0, a1, b0, b1⟩ := HS.out _ HQ1.out
            by_cases hlt : k < T.length
            · have hsm := HSM.out k hlt
              have HBN : Hid (bndTo D pa pb (k + 1) = bnd1 (dk (D k) pa) (dk (D k) pb) N) := by show _ = _; simp only [bndTo, HN.out, Option.bind_some]
              have HNO : Hid (bndTo D pa pb (k + 1) = none → bndTo D pa pb T.length = none) := fun h => bndTo_none h _ (by omega)
              obtain ⟨hh1, hv1⟩ := HAT.out k pa hlt hpa
              obtain ⟨hh2, hv2⟩ := HAT.out k pb hlt hpb
              obtain ⟨bL, offL, rfl, hbL, hcL⟩ := (show ∃ b off, AL = some ⟨b, off, none⟩ ∧ b < w.heap.size ∧ ∀ j (hj : j < Ld.length), w.cell? ⟨b, off + j, none⟩ = some (.int .i64 Ld[j]) from by
                rcases HL.out with e0 | hh
                · rw [e0] at hh1; simp at hh1
                · exact hh)
              have HCL : Hid (∀ W', Below w.heap.size w W' → W'.cell? ⟨bL, offL + (k * l.length + pa), none⟩ = some (.int .i64 (dk (D k) pa)) ∧ W'.cell? ⟨bL, offL + (k * l.length + pb), none⟩ = some (.int .i64 (dk (D k) pb))) := by
                intro W' hb
                rw [← hv1, ← hv2]
                exact ⟨(hb.cell (p := ⟨bL, offL + (k * l.length + pa), none⟩) hbL).trans (hcL _ hh1), (hb.cell (p := ⟨bL, offL + (k * l.length + pb), none⟩) hbL).trans (hcL _ hh2)⟩
              clear hv1 hv2 hcL hbL
              have hkl : k * l.length ≤ 4 * 64 := Nat.mul_le_mul (by omega) hl64
              obtain ⟨K1, hK1⟩ : ∃ K1, K1 = k * l.length := ⟨_, rfl⟩
              have hw1 : IntKind.i64.wrap ((k : Int) * (l.length : Int)) = (K1 : Int) := by
                have e1 : (k : Int) * (l.length : Int) = (K1 : Int) := by rw [hK1]; exact (Int.natCast_mul _ _).symm
                rw [e1]
                exact IntWalk.i64_in _ (by omega)
              rw [← hK1] at HCL hh1 hh2 hkl
              clear hK1
              have hw2 : IntKind.i64.wrap ((K1 : Int) + (pa : Int)) = ((K1 + pa : Nat) : Int) := by
                rw [Int.natCast_add]; exact IntWalk.i64_in _ (by omega)
              have hw3 : IntKind.i64.wrap ((K1 : Int) + (pb : Int)) = ((K1 + pb : Nat) : Int) := by
                rw [Int.natCast_add]; exact IntWalk.i64_in _ (by omega)
              generalize K1 + pa = M1 at *
              generalize K1 + pb = M2 at *
              have hm1 : (M1 : Int) < (Ld.length : Int) := by omega
              have hm2 : (M2 : Int) < (Ld.length : Int) := by omega
              generalize dk (D k) pa = x at *
              generalize dk (D k) pb = y at *
              have hkI : (k : Int) < (T.length : Int) := by omega
              clear hh1 hh2
              go_upto_region 7 with fail
              clear g0 g1 t0 t1 a0 a1 b0 b1
              have q0 := HQ1.out.below (bel_D _)
              have hkeep := And.intro (HCL.out _ q0.bel).1 (HS.out _ q0)
              go_region_held3 (fun w' => w'.cell? ⟨bL, offL + M1, none⟩ = some (.int .i64 x) ∧ w'.cell? ⟨w.heap.size, 0, none⟩ = some (.int .i64 side) ∧ w'.cell? ⟨w.heap.size, 1, none⟩ = some (.slice A l.length c) ∧ w'.cell? ⟨w.heap.size + 1, 0, none⟩ = some (.slice AM T.length cm) ∧ w'.cell? ⟨w.heap.size + 1, 1, none⟩ = some (.slice (some ⟨bL, offL, none⟩) Ld.length cL) ∧ w'.cell? ⟨w.heap.size + 1 + 1, 0, none⟩ = some (.int .i64 ax) ∧ w'.cell? ⟨w.heap.size + 1 + 1, 1, none⟩ = some (.int .i64 ay) ∧ w'.cell? ⟨w.heap.size + 1 + 1 + 1, 0, none⟩ = some (.int .i64 bx) ∧ w'.cell? ⟨w.heap.size + 1 + 1 + 1, 1, none⟩ = some (.int .i64 b_y))
                (first | (with_reducible exact hkeep) | go_keep)
                (first | (go_at_call 35; refine (hA1 _ _ _ _).mono ?_; rintro e v1 ⟨rfl, hb⟩; clear hkeep; have q1 := q0.below hb; have hkeep := And.intro (HCL.out _ q1.bel).1 (HS.out _ q1); clear hb))
              all_goals
                have Q1 := Lib.hid q1
                clear hkeep q0 q1 HQ1
                obtain ⟨g0, g1, t0, t1, a0, a1, b0, b1⟩ := HS.out _ Q1.out
                go_upto_region 8 with fail
                clear g0 g1 t0 t1 a0 a1 b0 b1
                have q0 := Q1.out.below (bel_D _)
                have hkeep := And.intro (HCL.out _ q0.bel).2 (HS.out _ q0)
                go_region_held3 (fun w' => w'.cell? ⟨bL, offL + M2, none⟩ = some (.int .i64 y) ∧ w'.cell? ⟨w.heap.size, 0, none⟩ = some (.int .i64 side) ∧ w'.cell? ⟨w.heap.size, 1, none⟩ = some (.slice A l.length c) ∧ w'.cell? ⟨w.heap.size + 1, 0, none⟩ = some (.slice AM T.length cm) ∧ w'.cell? ⟨w.heap.size + 1, 1, none⟩ = some (.slice (some ⟨bL, offL, none⟩) Ld.length cL) ∧ w'.cell? ⟨w.heap.size + 1 + 1, 0, none⟩ = some (.int .i64 ax) ∧ w'.cell? ⟨w.heap.size + 1 + 1, 1, none⟩ = some (.int .i64 ay) ∧ w'.cell? ⟨w.heap.size + 1 + 1 + 1, 0, none⟩ = some (.int .i64 bx) ∧ w'.cell? ⟨w.heap.size + 1 + 1 + 1, 1, none⟩ = some (.int .i64 b_y))
                  (first | (with_reducible exact hkeep) | go_keep)
                  (first | (go_at_call 35; refine (hA2 _ _ _ _).mono ?_; rintro e v2 ⟨rfl, hb⟩; clear hkeep; have q1 := q0.below hb; have hkeep := And.intro (HCL.out _ q1.bel).2 (HS.out _ q1); clear hb))
                all_goals
                  have Q2 := Lib.hid q1
                  clear hkeep q0 q1 Q1
                  have hy1 : IntKind.i64.wrap (x - y) = x - y := IntWalk.i64_in _ (by omega)
                  have hy2 : IntKind.i64.wrap (y - x) = y - x := IntWalk.i64_in _ (by omega)
                  clear hw1 hw2 hw3 hm1 hm2
                  by_cases hx : x < 0
                  · have hdx : decide (x < 0) = true := decide_eq_true hx
                    have hgx : ¬ x ≥ 0 := by omega
                    have hgx2 : ¬ 0 ≤ x := by omega
                    by_cases hy : y < 0
                    · have hdy : decide (y < 0) = true := decide_eq_true hy
                      have HR1 : Hid (bndTo D pa pb (k + 1) = some N) := by show _ = _; rw [HBN.out]; unfold bnd1; rw [hdx, hdy, if_neg (by simp), if_neg hgx2]
                      go_wp2_with fail
                      go_roundw
                      case rel => exact ⟨k + 1, N, by go_num, rfl, by omega, Q2.out, HR1.out⟩
                      case measure => simp [intOf] <;> omega
                    · have hdy : decide (y < 0) = false := decide_eq_false hy
                      have HR1 : Hid (bndTo D pa pb T.length = none) := HNO.out (by rw [HBN.out]; unfold bnd1; rw [hdx, hdy, if_pos (by simp)])
                      go_wp2_with fail
                      go_ret
                      exact ⟨by rw [HR1.out]; rfl, Q2.out.bel⟩
                  · have hdx : decide (x < 0) = false := decide_eq_false hx
                    have hgx : x ≥ 0 := by omega
                    have hgx2 : 0 ≤ x := by omega
                    by_cases hy : y < 0
                    · have hdy : decide (y < 0) = true := decide_eq_true hy
                      have HR1 : Hid (bndTo D pa pb T.length = none) := HNO.out (by rw [HBN.out]; unfold bnd1; rw [hdx, hdy, if_pos (by simp)])
                      go_wp2_with fail
                      go_ret
                      exact ⟨by rw [HR1.out]; rfl, Q2.out.bel⟩
                    · have hdy : decide (y < 0) = false := decide_eq_false hy
                      by_cases hxy : x ≥ y
                      · have HR1 : Hid (bndTo D pa pb (k + 1) = some (max N (x - y))) := by show _ = _; rw [HBN.out]; unfold bnd1; rw [hdx, hdy, if_neg (by simp), if_pos hgx2, if_pos hxy]
                        go_wp2_with fail
                        refine (mMax_any N (x - y) _).mono ?_
                        rintro e v3 ⟨rfl, rfl⟩
                        go_wp2_with fail
                        go_roundw
                        case rel => exact ⟨k + 1, _, by go_num, rfl, by omega, Q2.out, HR1.out⟩
                        case measure => simp [intOf] <;> omega
                      · have HR1 : Hid (bndTo D pa pb (k + 1) = some (max N (y - x))) := by show _ = _; rw [HBN.out]; unfold bnd1; rw [hdx, hdy, if_neg (by simp), if_pos hgx2, if_neg hxy]
                        go_wp2_with fail
                        refine (mMax_any N (y - x) _).mono ?_
                        rintro e v3 ⟨rfl, rfl⟩
                        go_wp2_with fail
                        go_roundw
                        case rel => exact ⟨k + 1, _, by go_num, rfl, by omega, Q2.out, HR1.out⟩
                        case measure => simp [intOf] <;> omega
            · obtain rfl : k = T.length := by omega
              go_wp2_with fail
              go_ret
              exact ⟨by rw [HN.out]; rfl, HQ1.out.bel⟩
theorem mBound_any (side : Int) (A : Option Addr) (c : Nat) (l : List Int) (bm offm cm : Nat) (T : List Pl) (AL : Option Addr) (cL : Nat) (Ld : List Int) (ax ay bx b_y : Int) (D : Nat → List Int) (w : World) (h : RI w w.heap.size A l) (hT : RPl w w.heap.size (some ⟨bm, offm, none⟩) T) (hLd : RI w w.heap.size AL Ld) (hl : l.length ≤ 1000000000) (hTl : T.length ≤ 1100000) (hLl : Ld.length ≤ 1000000000) (hd : IsB side l T D) :
    Calls Try.prog 23 #[.agg #[.int .i64 side, .slice A l.length c], .agg #[.slice (some ⟨bm, offm, none⟩) T.length cm, .slice AL Ld.length cL], .agg #[.int .i64 ax, .int .i64 ay], .agg #[.int .i64 bx, .int .i64 b_y]] w fun e w' => e = .returned (.int .i64 (boundOut side l T Ld ax ay bx b_y D)) ∧ Below w.heap.size w w' :=
  mBound_gen side A c l (some ⟨bm, offm, none⟩) cm T AL cL Ld ax ay bx b_y D w h hT hLd hl hTl hLl hd (.inr ⟨_, _, rfl⟩)
end Go.Proofs.Ytphkceiafehidaa

namespace Go.Proofs.Ytphkceiafehidaa
open Go.RowKit Go.Shelf
set_option linter.unusedVariables false
set_option linter.unusedSimpArgs false
attribute [local go_sem] Oper.semAt_some

/-- The boxes that the iterator holds. -/
structure CT (n₀ : Nat) (b1 b2 : Nat) (AL : Option Addr) (bL offL len cap m : Nat) (W : World) : Prop where
  c1 : W.cell? ⟨b1, 0, none⟩ = some (.slice AL len cap)
  c2 : W.cell? ⟨b2, 0, none⟩ = some (.int .i64 m)
  lt : b1 < n₀ ∧ b2 < n₀
  siz : n₀ ≤ W.heap.size
  sm : 0 < len → AL = some ⟨bL, offL, none⟩
theorem CT.below {n₀ b1 b2 : Nat} {AL : Option Addr} {bL offL len cap m : Nat} {W W' : World} (h : CT n₀ b1 b2 AL bL offL len cap m W) (hb : Below W.heap.size W W') : CT n₀ b1 b2 AL bL offL len cap m W' := by
  obtain ⟨h1, h2⟩ := h.lt
  have hz := h.siz
  exact ⟨(hb.cell (p := ⟨b1, 0, none⟩) (by show b1 < _; omega)).trans h.c1, (hb.cell (p := ⟨b2, 0, none⟩) (by show b2 < _; omega)).trans h.c2, ⟨h1, h2⟩, Nat.le_trans hz hb.size, h.sm⟩
theorem CT.round {n₀ b1 b2 : Nat} {AL : Option Addr} {bL offL len cap m : Nat} {ex : Nat → Prop} {W W' : World} (h : CT n₀ b1 b2 AL bL offL len cap m W) (hk : KpE n₀ ex W W') (hx : ¬ ex b1 ∧ ¬ ex b2) : CT n₀ b1 b2 AL bL offL len cap m W' := by
  obtain ⟨h1, h2⟩ := h.lt
  have hz := h.siz
  exact ⟨(World.cell?_of_block (a := ⟨b1, 0, none⟩) (hk.block b1 h1 (by omega) hx.1)).trans h.c1, (World.cell?_of_block (a := ⟨b2, 0, none⟩) (hk.block b2 h2 (by omega) hx.2)).trans h.c2, ⟨h1, h2⟩, Nat.le_trans hz hk.size, h.sm⟩
abbrev chunkEnc (bL offL m cnt : Nat) (x : Fin cnt) : Array Value := #[.slice (some ⟨bL, offL + x.1 * m, none⟩) m m]

set_option maxRecDepth 100000 in
set_option maxHeartbeats 2000000 in
theorem pChunk_stops (n : Nat) (hn : 2 ≤ n) (n₀ : Nat) (ex : Nat → Prop) (b1 b2 : Nat) (AL : Option Addr) (bL offL cnt m cap : Nat) (w : World) (hm : 0 < m) (hm64 : m ≤ 64) (hcnt : cnt ≤ 4) (hcap : cnt * m ≤ cap) (hx : ¬ ex b1 ∧ ¬ ex b2) (h : CT n₀ b1 b2 AL bL offL (cnt * m) cap m w) :
    SeqStopsK Fence.wide n Try.prog 81 #[.pointer (some ⟨b1, 0, none⟩), .pointer (some ⟨b2, 0, none⟩)] (chunkEnc bL offL m cnt) (KpE n₀ ex) (fun xs => xs.map (·.1) = List.range cnt) (fun pre => ∃ k, k ≤ cnt ∧ pre.map (·.1) = List.range k) 5 w := fun L J Jx W hW hJ hJx hY h0 => by
  have HI0 := Lib.hid (h.below hW)
  have HJ := Lib.hid hJ
  have HJX := Lib.hid hJx
  have HY := Lib.hid hY
  have HH0 := Lib.hid h0
  have HX := Lib.hid hx
  have hlm : cnt * m ≤ 4 * 64 := Nat.mul_le_mul hcnt hm64
  have HLN : Hid (∀ k, k < cnt → k * m + m ≤ cnt * m) := fun k hk => by have := Nat.mul_le_mul_right m (show k + 1 ≤ cnt from hk); rw [Nat.succ_mul] at this; exact this
  obtain ⟨Lc, hLc⟩ : ∃ Lc, Lc = cnt * m := ⟨_, rfl⟩
  have HLC : Hid (Lc = cnt * m) := hLc
  rw [← hLc] at hlm hcap HLN HI0
  clear h hW hJ hJx hY h0 hx hLc
  refine callsIn_of_wp Try.func81 rfl trivial ?_ rfl
  simp only [Try.ntmps81, List.size_toArray, List.length_cons, List.length_nil, Nat.reduceAdd, Nat.reduceSub, Array.replicate_succ, Array.replicate_zero, List.push_toArray, List.append_toArray, List.nil_append, List.cons_append]
  gi_wp2
  gi_loopw [4] (fun i wr => ∃ (p : Nat) (k : Nat) (pre : List (Fin cnt)), i = .int .i64 p ∧ Hid (p = k * m ∧ k ≤ cnt ∧ pre.map (·.1) = List.range k) ∧ J pre wr ∧ CT n₀ b1 b2 AL bL offL Lc cap m wr ∧ Hid (W.heap.size ≤ wr.heap.size)) (fun i _ => Lc + 1 - (intOf i).toNat)
  case atStart => exact ⟨0, 0, [], rfl, ⟨by simp, Nat.zero_le _, rfl⟩, HH0.out, HI0.out, Nat.le_refl _⟩
  case round =>
    obtain ⟨p, k, pre, rfl, HP, hj, hct, HSZ⟩ := hrel
    have HJ1 := Lib.hid hj
    have HC := Lib.hid hct
    clear hj hct HH0 HI0
    have c1 := HC.out.c1
    have c2 := HC.out.c2
    by_cases hk : k < cnt
    · have hal := HC.out.sm (by rw [HLC.out]; exact Nat.mul_pos (by omega) hm)
      subst hal
      have hp1 := HLN.out k hk
      have hp0 := HP.out.1
      rw [← hp0] at hp1
      clear hp0
      have hlt : (p : Int) < (Lc : Int) := by omega
      have hq1 : (p : Int) ≤ (Lc : Int) := by omega
      have hq2 : (p : Int) + (m : Int) ≤ (cap : Int) := by omega
      have hwr : IntKind.i64.wrap ((p : Int) + (m : Int)) = (p : Int) + (m : Int) := IntWalk.i64_in _ (by omega)
      have hmin : min (m : Int) ((Lc : Int) - (p : Int)) = (m : Int) := by omega
      have hsub : ((Lc - p : Nat) : Int) = (Lc : Int) - (p : Int) := by omega
      have hge : (0 : Int) ≤ (p : Int) := by omega
      have hqc : (Lc : Int) ≤ (cap : Int) := by omega
      gi_upto_region 3 with fail
      refine wpIn_wide.2 ?_
      go_region
      clear hmin hsub hq1 hqc
      have HJd := Lib.hid (abides_below HJ.out HJ1.out (bel_D wr))
      have HCd := Lib.hid (HC.out.below (bel_D wr))
      have HLEN : Hid (pre.length < 5) := by
        have h1 := congrArg List.length HP.out.2.2
        rw [List.length_map, List.length_range] at h1
        show _ < _
        omega
      obtain ⟨fn, tmps, assign, body, hy, hR⟩ := HY.out pre ⟨k, hk⟩ wr.drew HJd.out HLEN.out
      dsimp only [chunkEnc] at hy
      rw [← HP.out.1] at hy
      have hpm : (p + m : Nat) - p = m := by omega
      have hle2 : (p : Int) ≤ (p : Int) + (m : Int) := by omega
      have HNY : Hid (p + m = (k + 1) * m ∧ k + 1 ≤ cnt ∧ (pre ++ [(⟨k, hk⟩ : Fin cnt)]).map (·.1) = List.range (k + 1)) := by
        refine ⟨by rw [HP.out.1, Nat.succ_mul], hk, ?_⟩
        rw [List.map_append, HP.out.2.2, List.range_succ]
        rfl
      clear c1 c2
      obtain ⟨c1, c2, _, _, _⟩ := HCd.out
      gi_wp2_with fail
      refine ⟨fun _ => by omega, hR.mono ?_⟩
      rintro e W3 (⟨rfl, hJ3, hk3⟩ | ⟨rfl, hJx3⟩)
      · have HJ3 := Lib.hid hJ3
        have HK3 := Lib.hid hk3
        have HC3 := Lib.hid (HCd.out.round hk3 HX.out)
        clear hJ3 hk3 hR hy c1 c2
        have c2 := HC3.out.c2
        have hzd : Hid (wr.heap.size ≤ W3.heap.size) := by
          have := HK3.out.size
          exact this
        gi_wp2_with fail
        go_roundw
        case rel => exact ⟨p + m, k + 1, _, by go_num, HNY.out, HJ3.out, HC3.out, Nat.le_trans HSZ.out hzd.out⟩
        case measure => simp [intOf] <;> omega
      · have HJ3 := Lib.hid hJx3
        clear hJx3 hR hy c1 c2
        gi_wp2_with fail
        refine bodyPost_ret (results_none rfl _ _ _) rfl ?_
        exact ⟨⟨_, rfl⟩, .inr ⟨_, ⟨k + 1, HNY.out.2.1, HNY.out.2.2⟩, HJ3.out⟩⟩
    · have HE : Hid (k = cnt) := by have := HP.out.2.1; show k = cnt; omega
      have hpe : p = Lc := by rw [HP.out.1, HLC.out, HE.out]
      subst hpe
      clear hk
      gi_wp2_with fail
      go_end0
      exact ⟨⟨_, rfl⟩, .inl ⟨pre, by rw [HP.out.2.2, HE.out], HJ1.out⟩⟩

set_option maxRecDepth 100000 in
set_option maxHeartbeats 1000000 in
theorem pChunk_any (A : Option Addr) (n c m : Nat) (w : World) (hm : 0 < m) (hm64 : m ≤ 64) :
    Calls Try.prog 53 #[.slice A n c, .int .i64 m] w fun e w' => e = .returned (.func (.func 81) #[] #[.pointer (some ⟨w.heap.size, 0, none⟩), .pointer (some ⟨w.heap.size + 1, 0, none⟩)]) ∧ w'.cell? ⟨w.heap.size, 0, none⟩ = some (.slice A n c) ∧ w'.cell? ⟨w.heap.size + 1, 0, none⟩ = some (.int .i64 m) ∧ w.heap.size + 1 < w'.heap.size ∧ Below w.heap.size w w' := by
  have hb : Below w.heap.size w ((w.alloc (.cells #[.slice A n c] 23)).alloc (.cells #[.int .i64 m] 3)) := bel_T (bel_A _ _) (bel_A _ _)
  have HB := Lib.hid hb
  have hnl : ¬ (m : Int) < 1 := by omega
  clear hb
  go_enter Try.func53, Try.ntmps53
  go_wp2_with fail
  go_ret
  exact ⟨rfl, by simp [go_sem], by simp [go_sem], by simp, HB.out⟩
end Go.Proofs.Ytphkceiafehidaa

namespace Go.Proofs.Ytphkceiafehidaa
open Go.RowKit Go.Shelf
set_option linter.unusedVariables false
set_option linter.unusedSimpArgs false
attribute [local go_sem] Oper.semAt_some

/-- The boxes of isBake. -/
structure B7 (w : World) (side : Int) (A : Option Addr) (c : Nat) (l : List Int) (v1 v2 : Value) (wr : World) : Prop where
  g : GB wr w.heap.size side (.slice A l.length c)
  t : TB wr (w.heap.size + 1) v1 v2
  bel : Below w.heap.size w wr
  siz : w.heap.size + 1 < wr.heap.size
theorem B7.below {w wr wr' : World} {side : Int} {A : Option Addr} {c : Nat} {l : List Int} {v1 v2 : Value} (h : B7 w side A c l v1 v2 wr) (hb : Below wr.heap.size wr wr') : B7 w side A c l v1 v2 wr' := by
  have hz := h.siz
  exact ⟨h.g.below hb (by omega), h.t.below hb hz, h.bel.trans (hb.mono (by omega)), Nat.lt_of_lt_of_le hz hb.size⟩
theorem B7.made (w : World) (side : Int) (A : Option Addr) (c : Nat) (l : List Int) (v1 v2 : Value) : B7 w side A c l v1 v2 ((w.alloc (.cells #[.int .i64 side, .slice A l.length c] 25)).alloc (.cells #[v1, v2] 45)) :=
  ⟨⟨by simp [go_sem], by simp [go_sem], by simp [go_sem], by simp [go_sem]⟩, ⟨by simp [go_sem], by simp [go_sem], by simp [go_sem], by simp [go_sem]⟩, bel_T (bel_A _ _) (bel_A _ _), by simp⟩

set_option maxRecDepth 100000 in
set_option maxHeartbeats 2000000 in
theorem pIsBake_gen (side : Int) (A : Option Addr) (c : Nat) (l : List Int) (AM : Option Addr) (cm : Nat) (T : List Pl) (AL : Option Addr) (cL : Nat) (Ld : List Int) (D : Nat → List Int) (w : World) (h : RI w w.heap.size A l) (hT : RPl w w.heap.size AM T) (hLd : RI w w.heap.size AL Ld) (hl : l.length ≤ 1000000000) (hTl : T.length ≤ 1100000) (hLl : Ld.length ≤ 1000000000) (hf : ∀ i (h : i < T.length), In64 T[i].x ∧ In64 T[i].y) (hd : IsB side l T D) (hRw : Rw AM cm) :
    Calls Try.prog 52 #[.agg #[.int .i64 side, .slice A l.length c], .agg #[.slice AM T.length cm, .slice AL Ld.length cL]] w fun e w' => e = .returned (.bool (decide (T = bakeM side l T) && decide (Ld = bakeD side l T D))) ∧ Below w.heap.size w w' := by
  have HB := Lib.hid (B7.made w side A c l (.slice AM T.length cm) (.slice AL Ld.length cL))
  have H := Lib.hid h
  have HT := Lib.hid hT
  have HL := Lib.hid hLd
  have hBk := fun w h hm => pBake_gen side A c l AM cm T D w h hm hl hTl hf hd hRw
  have hML := bakeM_len side l T
  have hDL := bakeD_len hd
  have hE1 := fun A4 c4 w h h2 => pEqPls_any AM A4 cm c4 T (bakeM side l T) w h h2 (by omega) (by omega)
  have hE2 := fun A4 c4 w h h2 => pEqInts_any AL A4 cL c4 Ld (bakeD side l T D) w h h2 (by omega) (by omega)
  clear h hT hLd hf hd
  generalize bakeM side l T = T2 at *
  generalize bakeD side l T D = L2 at *
  cases h1 : decide (T = T2)
  · rw [h1] at hE1
    rw [Bool.false_and]
    clear hE2 h1
    go_enter Try.func52, Try.ntmps52
    obtain ⟨g0, g1, _, _⟩ := HB.out.g
    obtain ⟨t0, t1, _, _⟩ := HB.out.t
    go_wp2_with fail
    refine (hBk _ ((H.out.below HB.out.bel).mono HB.out.bel.size) ((HT.out.below HB.out.bel).mono HB.out.bel.size)).mono ?_
    rintro e w1 ⟨A4, c4, D4, d4, rfl, o4, o5, _, hb⟩
    have HB1 := Lib.hid ((HB.out.below hb).below (bel_A w1 (.cells #[.slice A4 T2.length c4, .slice D4 L2.length d4] 45)))
    have HO4 := Lib.hid (o4.alloc (.cells #[.slice A4 T2.length c4, .slice D4 L2.length d4] 45))
    clear hb o4 o5 g0 g1 t0 t1 HB
    obtain ⟨t0, t1, _, _⟩ := HB1.out.t
    go_wp2_with fail
    refine (hE1 _ _ _ ((HT.out.below HB1.out.bel).mono HB1.out.bel.size) HO4.out.r).mono ?_
    rintro e w2 ⟨rfl, hb⟩
    have HB2 := Lib.hid (HB1.out.below hb)
    clear hb t0 t1 HB1
    go_wp2_with fail
    go_ret
    exact ⟨rfl, HB2.out.bel⟩
  · rw [h1] at hE1
    rw [Bool.true_and]
    generalize decide (Ld = L2) = bb at *
    clear h1
    go_enter Try.func52, Try.ntmps52
    obtain ⟨g0, g1, _, _⟩ := HB.out.g
    obtain ⟨t0, t1, _, _⟩ := HB.out.t
    go_wp2_with fail
    refine (hBk _ ((H.out.below HB.out.bel).mono HB.out.bel.size) ((HT.out.below HB.out.bel).mono HB.out.bel.size)).mono ?_
    rintro e w1 ⟨A4, c4, D4, d4, rfl, o4, o5, _, hb⟩
    have HB1 := Lib.hid ((HB.out.below hb).below (bel_A w1 (.cells #[.slice A4 T2.length c4, .slice D4 L2.length d4] 45)))
    have HO4 := Lib.hid (o4.alloc (.cells #[.slice A4 T2.length c4, .slice D4 L2.length d4] 45))
    have HO5 := Lib.hid (OwnI.keep o5 (bel_A w1 (.cells #[.slice A4 T2.length c4, .slice D4 L2.length d4] 45)))
    have HTB := Lib.hid (TB.made w1 (.slice A4 T2.length c4) (.slice D4 L2.length d4) 45)
    have hz1 := HB.out.siz
    have hz2 := hb.size
    have hne : ¬ w1.heap.size = w.heap.size + 1 := by omega
    have hne2 : ¬ w.heap.size + 1 = w1.heap.size := by omega
    clear hb o4 o5 g0 g1 t0 t1 HB
    obtain ⟨t0, t1, _, _⟩ := HB1.out.t
    obtain ⟨s0, s1, _, _⟩ := HTB.out
    go_wp2_with fail
    refine (hE1 _ _ _ ((HT.out.below HB1.out.bel).mono HB1.out.bel.size) HO4.out.r).mono ?_
    rintro e w2 ⟨rfl, hb⟩
    have HB2 := Lib.hid (HB1.out.below hb)
    have HO6 := Lib.hid (OwnI.keep HO5.out hb)
    have HTB2 := Lib.hid (HTB.out.below hb (by simp))
    clear hb t0 t1 s0 s1 HB1 HTB HO5
    obtain ⟨t0, t1, _, _⟩ := HB2.out.t
    obtain ⟨s0, s1, _, _⟩ := HTB2.out
    go_wp2_with fail
    refine (hE2 _ _ _ ((HL.out.below HB2.out.bel).mono HB2.out.bel.size) HO6.out.ri).mono ?_
    rintro e w3 ⟨rfl, hb⟩
    have HB3 := Lib.hid (HB2.out.below hb)
    clear hb t0 t1 s0 s1 HB2
    go_wp2_with fail
    go_ret
    exact ⟨rfl, HB3.out.bel⟩
end Go.Proofs.Ytphkceiafehidaa
namespace Go.Proofs.Ytphkceiafehidaa
open Go.RowKit
set_option linter.unusedVariables false
set_option linter.unusedSimpArgs false

set_option maxRecDepth 100000 in
set_option maxHeartbeats 1000000 in
theorem pBoth_any (side x y u v : Int) (w : World) (hs : sideOk side = true) (hx : In64 x) (hy : In64 y) (hu : In64 u) (hv : In64 v) :
    Calls Try.prog 30 #[.int .i64 side, .agg #[.int .i64 x, .int .i64 y], .agg #[.int .i64 u, .int .i64 v]] w fun e w' => e = .returned (.bool (gridIn side x y && gridIn side u v)) ∧ Below w.heap.size w w' := by
  have h1 := fun w => pPlace_any side x y w hs hx hy
  have h2 := fun w => pPlace_any side u v w hs hu hv
  have HB : Hid (Below w.heap.size w ((w.alloc (.cells #[.int .i64 x, .int .i64 y] 27)).alloc (.cells #[.int .i64 u, .int .i64 v] 27))) := bel_T (bel_A _ _) (bel_A _ _)
  clear hs hx hy hu hv
  cases hi : gridIn side x y
  · rw [hi] at h1
    clear h2 hi
    go_enter Try.func30, Try.ntmps30
    go_wp2_with fail
    refine (h1 _).mono ?_
    rintro e w1 ⟨rfl, rfl⟩
    go_wp2_with fail
    go_ret
    exact ⟨rfl, HB.out⟩
  · rw [hi] at h1
    rw [Bool.true_and]
    generalize gridIn side u v = bb at *
    clear hi
    go_enter Try.func30, Try.ntmps30
    go_wp2_with fail
    refine (h1 _).mono ?_
    rintro e w1 ⟨rfl, rfl⟩
    go_wp2_with fail
    refine (h2 _).mono ?_
    rintro e w2 ⟨rfl, rfl⟩
    go_wp2_with fail
    go_ret
    exact ⟨rfl, HB.out⟩
end Go.Proofs.Ytphkceiafehidaa

namespace Go.Proofs.Ytphkceiafehidaa
open Go.RowKit Go.Shelf
set_option linter.unusedVariables false
set_option linter.unusedSimpArgs false
attribute [local go_sem] Oper.semAt_some

/-- What the marks of a list say. -/
def bndL (D : Nat → List Int) (pa pb : Nat) (xs : List Nat) : Option Int := xs.foldl (fun o k => o.bind fun n => bnd1 (dk (D k) pa) (dk (D k) pb) n) (some 0)
theorem bndL_snoc (D : Nat → List Int) (pa pb : Nat) (xs : List Nat) (k : Nat) : bndL D pa pb (xs ++ [k]) = (bndL D pa pb xs).bind fun n => bnd1 (dk (D k) pa) (dk (D k) pb) n := by simp [bndL, List.foldl_append]
theorem bndL_range (D : Nat → List Int) (pa pb : Nat) : ∀ k, bndL D pa pb (List.range k) = bndTo D pa pb k
  | 0 => rfl
  | k + 1 => by rw [List.range_succ, bndL_snoc, bndL_range D pa pb k]; rfl
theorem bnd1_max {x y N : Int} (hN : 0 ≤ N) (hx : -1 ≤ x) (hy : -1 ≤ y) (h : (x == -1) = (y == -1)) : bnd1 x y N = some (max (max N (x - y)) (y - x)) := by
  unfold bnd1
  by_cases h1 : x = -1
  · have h2 : y = -1 := by subst h1; simpa using h.symm
    subst h1 h2
    simp
    omega
  · have h2 : ¬ y = -1 := fun e => h1 (by subst e; simpa using h)
    have d1 : decide (x < 0) = false := decide_eq_false (by omega)
    have d2 : decide (y < 0) = false := decide_eq_false (by omega)
    rw [d1, d2, if_neg (by simp), if_pos (by omega)]
    by_cases h3 : x ≥ y
    · rw [if_pos h3]; congr 1; omega
    · rw [if_neg h3]; congr 1; omega
theorem bnd1_none {x y N : Int} (hx : -1 ≤ x) (hy : -1 ≤ y) (h : ¬ (x == -1) = (y == -1)) : bnd1 x y N = none := by
  unfold bnd1
  rw [if_pos]
  by_cases h1 : x = -1
  · have h2 : ¬ y = -1 := fun e => h (by rw [h1, e])
    have d1 : decide (x < 0) = true := decide_eq_true (by omega)
    have d2 : decide (y < 0) = false := decide_eq_false (by omega)
    rw [d1, d2]; rfl
  · have h2 : y = -1 := by
      refine Classical.byContradiction fun e => h ?_
      have e1 : (x == -1) = false := by simpa using h1
      have e2 : (y == -1) = false := by simpa using e
      rw [e1, e2]
    have d1 : decide (x < 0) = false := decide_eq_false (by omega)
    have d2 : decide (y < 0) = true := decide_eq_true (by omega)
    rw [d1, d2]; rfl
/-- And the box of the answer. -/
structure B6 (w : World) (side : Int) (A : Option Addr) (c : Nat) (l : List Int) (v1 v2 : Value) (ax ay bx b_y : Int) (wr : World) : Prop where
  b : B5 w side A c l v1 v2 ax ay bx b_y wr
  r0 : wr.cell? ⟨w.heap.size + 1 + 1 + 1 + 1, 0, none⟩ = some (.int .i64 0)
  rf : wr.frozen? ⟨w.heap.size + 1 + 1 + 1 + 1, 0, none⟩ = false
  siz : w.heap.size + 1 + 1 + 1 + 1 < wr.heap.size
section
variable {w wr wr' : World} {side : Int} {A : Option Addr} {c : Nat} {l : List Int} {v1 v2 : Value} {ax ay bx b_y : Int}
theorem B6.below (h : B6 w side A c l v1 v2 ax ay bx b_y wr) (hb : Below wr.heap.size wr wr') : B6 w side A c l v1 v2 ax ay bx b_y wr' :=
  ⟨h.b.below hb, (hb.cell (p := ⟨w.heap.size + 1 + 1 + 1 + 1, 0, none⟩) h.siz).trans h.r0, (hb.frozen (p := ⟨w.heap.size + 1 + 1 + 1 + 1, 0, none⟩) h.siz).trans h.rf, Nat.lt_of_lt_of_le h.siz hb.size⟩
/-- What turns one later block alone turns them not. -/
theorem B6.kept {q : Nat} (h : B6 w side A c l v1 v2 ax ay bx b_y wr) (ht : Trn (· = q) wr wr') (hq : w.heap.size + 1 + 1 + 1 + 1 < q) : B6 w side A c l v1 v2 ax ay bx b_y wr' := by
  have hz := h.siz
  have hb : Below (w.heap.size + 1 + 1 + 1 + 1 + 1) wr wr' := ht.below (fun k e => by omega) (by omega)
  exact ⟨⟨h.b.g.below hb (by omega), h.b.t.below hb (by omega), h.b.a.below hb (by omega), h.b.b.below hb (by omega), h.b.bel.trans (hb.mono (by omega)), Nat.lt_of_lt_of_le h.b.siz hb.size⟩, (hb.cell (p := ⟨w.heap.size + 1 + 1 + 1 + 1, 0, none⟩) (by show w.heap.size + 1 + 1 + 1 + 1 < _; omega)).trans h.r0, (hb.frozen (p := ⟨w.heap.size + 1 + 1 + 1 + 1, 0, none⟩) (by show w.heap.size + 1 + 1 + 1 + 1 < _; omega)).trans h.rf, Nat.lt_of_lt_of_le hz hb.size⟩
end
theorem B6.made (w : World) (side : Int) (A : Option Addr) (c : Nat) (l : List Int) (v1 v2 : Value) (ax ay bx b_y : Int) : B6 w side A c l v1 v2 ax ay bx b_y (((((w.alloc (.cells #[.int .i64 side, .slice A l.length c] 25)).alloc (.cells #[v1, v2] 45)).alloc (.cells #[.int .i64 ax, .int .i64 ay] 27)).alloc (.cells #[.int .i64 bx, .int .i64 b_y] 27)).alloc (.cells #[.int .i64 0] 2)) := by
  refine ⟨(B5.made w side A c l v1 v2 ax ay bx b_y).below (bel_A _ _), ?_, ?_, by simp⟩ <;> simp [go_sem]
/-- Between two marks. -/
structure BnI (w5 : World) (bq : Nat) (D : Nat → List Int) (pa pb cnt : Nat) (pre : List (Fin cnt)) (W : World) : Prop where
  tr : Trn (· = bq) w5 W
  val : ∃ N, bndL D pa pb (pre.map (·.1)) = some N ∧ 0 ≤ N ∧ N ≤ 1301 ∧ W.cell? ⟨bq, 0, none⟩ = some (.int .i64 N)
  fz : W.frozen? ⟨bq, 0, none⟩ = false
theorem BnI.keep {w5 : World} {bq : Nat} {D : Nat → List Int} {pa pb cnt : Nat} {pre : List (Fin cnt)} {W W' : World} {p : Nat → Prop} (h : BnI w5 bq D pa pb cnt pre W) (ht : Trn p W W') (hp : ∀ k, (∃ x : Obj, W.heap[k]? = some x ∧ x.isCells = true) → ¬ p k) (hn : ∀ k, p k → w5.heap.size ≤ k) : BnI w5 bq D pa pb cnt pre W' := by
  obtain ⟨N, h1, h2, h3, h4⟩ := h.val
  have hc := cells_of_cell h4
  have hz : bq < W.heap.size := by obtain ⟨y, hy, _⟩ := hc; exact (Array.getElem?_eq_some_iff.1 hy).1
  have e := ht.block bq hz (hp _ hc)
  exact ⟨h.tr.trans ht fun k hk e => absurd (hn k e) (by omega), ⟨N, h1, h2, h3, (World.cell?_of_block (a := ⟨bq, 0, none⟩) e).trans h4⟩, (World.frozen?_of_block (a := ⟨bq, 0, none⟩) e).trans h.fz⟩
theorem not_cells {W W' : World} {n : Nat} {row : Option Nat} (hr : ∀ r, row = some r → n ≤ r ∧ ∃ o : Obj, W.heap[r]? = some o ∧ o.isCells = false) : ∀ k, (∃ x : Obj, W.heap[k]? = some x ∧ x.isCells = true) → ¬ row = some k := by
  intro k hc e
  obtain ⟨o, ho, hoc⟩ := (hr k e).2
  obtain ⟨y, hy, hyc⟩ := hc
  rw [hy] at ho
  cases ho
  rw [hyc] at hoc
  cases hoc
theorem BnI.own {w5 : World} {bq : Nat} {D : Nat → List Int} {pa pb cnt : Nat} : OwnFrom w5.heap.size (BnI w5 bq D pa pb cnt) := by
  rintro pre W W' row h hg hr
  exact h.keep (Trn.of_grownBy hg (p := fun k => row = some k) fun r e => e) (not_cells (W' := W') hr) fun k e => (hr k e).1
/-- Left in the midst: there is no way. -/
structure BnX (w5 : World) (bq br : Nat) (D : Nat → List Int) (pa pb cnt : Nat) (co : Code) (pre : List (Fin cnt)) (W : World) : Prop where
  co : co = .ret
  no : bndL D pa pb (pre.map (·.1)) = none
  tr : Trn (fun k => k = bq ∨ k = br) w5 W
  val : W.cell? ⟨br, 0, none⟩ = some (.int .i64 (-1))
theorem BnX.own {w5 : World} {bq br : Nat} {D : Nat → List Int} {pa pb cnt : Nat} (co : Code) : OwnFrom w5.heap.size (BnX w5 bq br D pa pb cnt co) := by
  rintro pre W W' row h hg hr
  have ht := Trn.of_grownBy hg (p := fun k => row = some k) fun r e => e
  have hc := cells_of_cell h.val
  have hz : br < W.heap.size := by obtain ⟨y, hy, _⟩ := hc; exact (Array.getElem?_eq_some_iff.1 hy).1
  exact ⟨h.co, h.no, h.tr.trans ht fun k hk e => absurd (hr k e).1 (by omega), (World.cell?_of_block (a := ⟨br, 0, none⟩) (ht.block br hz (not_cells (W' := W') hr _ hc))).trans h.val⟩

set_option maxRecDepth 100000 in
set_option maxHeartbeats 8000000 in
theorem pBound_gen (side : Int) (A : Option Addr) (c : Nat) (l : List Int) (AM : Option Addr) (cm : Nat) (T : List Pl) (AL : Option Addr) (cL : Nat) (Ld : List Int) (ax ay bx b_y : Int) (D : Nat → List Int) (w : World) (h : RI w w.heap.size A l) (hT : RPl w w.heap.size AM T) (hLd : RI w w.heap.size AL Ld) (hl : l.length ≤ 1000000000) (hTl : T.length ≤ 1100000) (hLl : Ld.length ≤ 1000000000) (hcL : Ld.length ≤ cL) (hax : In64 ax) (hay : In64 ay) (hbx : In64 bx) (hby : In64 b_y) (hf : ∀ i (h : i < T.length), In64 T[i].x ∧ In64 T[i].y) (hd : IsB side l T D) (hRw : Rw AM cm) :
    Calls Try.prog 22 #[.agg #[.int .i64 side, .slice A l.length c], .agg #[.slice AM T.length cm, .slice AL Ld.length cL], .agg #[.int .i64 ax, .int .i64 ay], .agg #[.int .i64 bx, .int .i64 b_y]] w fun e w' => e = .returned (.int .i64 (boundOut side l T Ld ax ay bx b_y D)) ∧ Below w.heap.size w w' := by
  have HB := Lib.hid (B6.made w side A c l (.slice AM T.length cm) (.slice AL Ld.length cL) ax ay bx b_y)
  have H := Lib.hid h
  have HT := Lib.hid hT
  have HL := Lib.hid hLd
  have hR := fun w h => pRight_any side A c l w h hl
  have HS : Hid (∀ w', B5 w side A c l (.slice AM T.length cm) (.slice AL Ld.length cL) ax ay bx b_y w' → w'.cell? ⟨w.heap.size, 0, none⟩ = some (.int .i64 side) ∧ w'.cell? ⟨w.heap.size, 1, none⟩ = some (.slice A l.length c) ∧ w'.cell? ⟨w.heap.size + 1, 0, none⟩ = some (.slice AM T.length cm) ∧ w'.cell? ⟨w.heap.size + 1, 1, none⟩ = some (.slice AL Ld.length cL) ∧ w'.cell? ⟨w.heap.size + 1 + 1, 0, none⟩ = some (.int .i64 ax) ∧ w'.cell? ⟨w.heap.size + 1 + 1, 1, none⟩ = some (.int .i64 ay) ∧ w'.cell? ⟨w.heap.size + 1 + 1 + 1, 0, none⟩ = some (.int .i64 bx) ∧ w'.cell? ⟨w.heap.size + 1 + 1 + 1, 1, none⟩ = some (.int .i64 b_y)) := fun w' h => ⟨h.g.c0, h.g.c1, h.t.c0, h.t.c1, h.a.c0, h.a.c1, h.b.c0, h.b.c1⟩
  have hK := fun w h h2 h3 => pIsBake_gen side A c l AM cm T AL cL Ld D w h h2 h3 hl hTl hLl hf hd hRw
  clear h hT hLd hf
  cases hr : gridRight side l
  · rw [hr] at hR
    have HE : Hid (boundOut side l T Ld ax ay bx b_y D = -1) := by show _ = _; unfold boundOut; rw [hr]; rfl
    rw [HE.out]
    clear HE hr hK hd hTl hLl hcL hax hay hbx hby
    go_enter Try.func22, Try.ntmps22
    obtain ⟨g0, g1, t0, t1, a0, a1, b0, b1⟩ := HS.out _ HB.out.b
    go_wp2_with fail
    refine (hR _ ((H.out.below HB.out.b.bel).mono HB.out.b.bel.size)).mono ?_
    rintro e w1 ⟨rfl, hb1⟩
    have HB1 := Lib.hid (HB.out.below hb1)
    clear hb1 HB g0 g1 t0 t1 a0 a1 b0 b1
    have r0 := HB1.out.r0
    have rf := HB1.out.rf
    go_wp2_with fail
    refine bodyPost_ret (v := .int .i64 (-1)) (by simp [results, Try.results22, go_sem, r0]) rfl ?_
    exact ⟨rfl, HB1.out.b.bel.setCell (by show w.heap.size ≤ w.heap.size + 1 + 1 + 1 + 1; omega) _⟩
  · have hs := (right_parts hr).1
    have hI := fun w => pBoth_any side ax ay bx b_y w hs hax hay hbx hby
    rw [hr] at hR
    cases hij : (gridIn side ax ay && gridIn side bx b_y)
    · rw [hij] at hI
      have HE : Hid (boundOut side l T Ld ax ay bx b_y D = -1) := by show _ = _; unfold boundOut; rw [hr, hij]; rfl
      rw [HE.out]
      clear HE hr hK hd hTl hLl hcL hax hay hbx hby hs hij
      go_enter Try.func22, Try.ntmps22
      obtain ⟨g0, g1, t0, t1, a0, a1, b0, b1⟩ := HS.out _ HB.out.b
      go_wp2_with fail
      refine (hR _ ((H.out.below HB.out.b.bel).mono HB.out.b.bel.size)).mono ?_
      rintro e w1 ⟨rfl, hb1⟩
      have HB1 := Lib.hid (HB.out.below hb1)
      clear hb1 HB g0 g1 t0 t1 a0 a1 b0 b1
      obtain ⟨g0, g1, t0, t1, a0, a1, b0, b1⟩ := HS.out _ HB1.out.b
      go_wp2_with fail
      refine (hI _).mono ?_
      rintro e w2 ⟨rfl, hb2⟩
      have HB2 := Lib.hid (HB1.out.below hb2)
      clear hb2 HB1 g0 g1 t0 t1 a0 a1 b0 b1
      have r0 := HB2.out.r0
      have rf := HB2.out.rf
      go_wp2_with fail
      refine bodyPost_ret (v := .int .i64 (-1)) (by simp [results, Try.results22, go_sem, r0]) rfl ?_
      exact ⟨rfl, HB2.out.b.bel.setCell (by show w.heap.size ≤ w.heap.size + 1 + 1 + 1 + 1; omega) _⟩
    · rw [hij] at hI
      cases hsm : (decide (T = bakeM side l T) && decide (Ld = bakeD side l T D))
      · rw [hsm] at hK
        have HE : Hid (boundOut side l T Ld ax ay bx b_y D = -1) := by show _ = _; unfold boundOut; rw [hr, hij, hsm]; rfl
        rw [HE.out]
        clear HE hr hd hTl hLl hcL hax hay hbx hby hs hij hsm
        go_enter Try.func22, Try.ntmps22
        obtain ⟨g0, g1, t0, t1, a0, a1, b0, b1⟩ := HS.out _ HB.out.b
        go_wp2_with fail
        refine (hR _ ((H.out.below HB.out.b.bel).mono HB.out.b.bel.size)).mono ?_
        rintro e w1 ⟨rfl, hb1⟩
        have HB1 := Lib.hid (HB.out.below hb1)
        clear hb1 HB g0 g1 t0 t1 a0 a1 b0 b1
        obtain ⟨g0, g1, t0, t1, a0, a1, b0, b1⟩ := HS.out _ HB1.out.b
        go_wp2_with fail
        refine (hI _).mono ?_
        rintro e w2 ⟨rfl, hb2⟩
        have HB2 := Lib.hid (HB1.out.below hb2)
        clear hb2 HB1 g0 g1 t0 t1 a0 a1 b0 b1
        obtain ⟨g0, g1, t0, t1, a0, a1, b0, b1⟩ := HS.out _ HB2.out.b
        go_wp2_with fail
        refine (hK _ ((H.out.below HB2.out.b.bel).mono HB2.out.b.bel.size) ((HT.out.below HB2.out.b.bel).mono HB2.out.b.bel.size) ((HL.out.below HB2.out.b.bel).mono HB2.out.b.bel.size)).mono ?_
        rintro e w3 ⟨rfl, hb3⟩
        have HB3 := Lib.hid (HB2.out.below hb3)
        clear hb3 HB2 g0 g1 t0 t1 a0 a1 b0 b1
        have r0 := HB3.out.r0
        have rf := HB3.out.rf
        go_wp2_with fail
        refine bodyPost_ret (v := .int .i64 (-1)) (by simp [results, Try.results22, go_sem, r0]) rfl ?_
        exact ⟨rfl, HB3.out.b.bel.setCell (by show w.heap.size ≤ w.heap.size + 1 + 1 + 1 + 1; omega) _⟩
      rw [hsm] at hK
      have hsm' := hsm
      simp only [Bool.and_eq_true, decide_eq_true_eq] at hsm'
      have hij' := hij
      simp only [Bool.and_eq_true] at hij'
      have HE : Hid (boundOut side l T Ld ax ay bx b_y D = (bndTo D (pn side ax ay) (pn side bx b_y) T.length).getD (-1)) := by show _ = _; unfold boundOut; rw [hr, hij, hsm]; rfl
      rw [HE.out]
      have hok := boundOut_ok (D := D) hsm'.1 hr
      have hok' := hok
      unfold bakeOk at hok'
      simp only [Bool.and_eq_true, decide_eq_true_eq, List.all_eq_true] at hok'
      have hT4 := hok'.1.2
      have HOP : Hid (∀ i (hi : i < T.length), opn side l T[i].x T[i].y = true) := fun i hi => hok'.2 _ (List.getElem_mem hi)
      have HGD : Hid (∀ i (hi : i < T.length), GDist side l T[i].x T[i].y (D i)) := fun i hi => hd i hi (by rw [hr, HOP.out i hi]; rfl)
      have HLE : Hid (Ld = flatD D T.length) := by
        show Ld = flatD D T.length
        rw [hsm'.2]
        unfold bakeD
        rw [hok]
        rfl
      have hlen := flatD_get (D := D) (m := l.length) (n := T.length) fun j hj => (HGD.out j hj).len
      have hl64 := right_len hr
      have hpa := (pn_lt hr hij'.1).1
      have hpb := (pn_lt hr hij'.2).1
      have hN1 := fun w => pNum5_any (side := side) (x := ax) (y := ay) (l := l) hr hij'.1 w
      have hN2 := fun w => pNum5_any (side := side) (x := bx) (y := b_y) (l := l) hr hij'.2 w
      have HSM : Hid (∀ j, j < T.length → (-1 ≤ dk (D j) (pn side ax ay) ∧ dk (D j) (pn side ax ay) ≤ 1300) ∧ (-1 ≤ dk (D j) (pn side bx b_y) ∧ dk (D j) (pn side bx b_y) ≤ 1300)) := fun j hj => ⟨dk_small hr (HGD.out j hj) hpa, dk_small hr (HGD.out j hj) hpb⟩
      have HLL : Hid (Ld.length = T.length * l.length) := by show _ = _; rw [HLE.out]; exact hlen.1
      have HAT : Hid (∀ k p, k < T.length → p < l.length → ∃ hh : k * l.length + p < Ld.length, Ld[k * l.length + p] = dk (D k) p) := by
        intro k p hk hp
        have hm : k * l.length + l.length ≤ T.length * l.length := by have := Nat.mul_le_mul_right l.length (show k + 1 ≤ T.length from hk); rw [Nat.succ_mul] at this; exact this
        have hh : k * l.length + p < Ld.length := by rw [HLL.out]; omega
        refine ⟨hh, ?_⟩
        have h1 := hlen.2 k p hk hp
        rw [← HLE.out, List.getElem?_eq_getElem hh, List.getElem?_eq_getElem (by rw [(HGD.out k hk).len]; exact hp)] at h1
        rw [dk_lt (by rw [(HGD.out k hk).len]; exact hp)]
        exact Option.some.inj h1
      obtain ⟨bL, offL, HAL⟩ : ∃ bL offL : Nat, Hid (0 < Ld.length → AL = some ⟨bL, offL, none⟩) := by
        rcases HL.out with e0 | ⟨b2, o2, e2, _⟩
        · exact ⟨0, 0, fun h => by rw [e0] at h; simp at h⟩
        · exact ⟨b2, o2, fun _ => e2⟩
      have HCA : Hid (∀ W, Below w.heap.size w W → ∀ k p, k < T.length → p < l.length → W.cell? ⟨bL, offL + k * l.length + p, none⟩ = some (.int .i64 (dk (D k) p))) := by
        intro W hb k p hk hp
        obtain ⟨hh, hv⟩ := HAT.out k p hk hp
        rcases HL.out with e0 | ⟨b2, o2, e2, hb2, hc2⟩
        · rw [e0] at hh; simp at hh
        · have e3 := (HAL.out (by omega)).symm.trans e2
          cases e3
          rw [← hv, Nat.add_assoc]
          exact (hb.cell (p := ⟨bL, offL + (k * l.length + p), none⟩) hb2).trans (hc2 _ hh)
      have hl0 : 0 < l.length := by omega
      have HLCAP : Hid (T.length * l.length ≤ cL) := by show _ ≤ _; rw [← HLL.out]; exact hcL
      have HTL : Hid (T.length ≤ 4 ∧ l.length ≤ 64 ∧ 0 < l.length) := ⟨hT4, hl64, hl0⟩
      have HPAB : Hid (pn side ax ay < l.length ∧ pn side bx b_y < l.length) := ⟨hpa, hpb⟩
      clear hr hij hij' hsm hsm' hok hok' hd hTl hLl hs HE hlen HGD HOP HLE hax hay hbx hby HAT hcL hpa hpb
      generalize pn side ax ay = pa at *
      generalize pn side bx b_y = pb at *
      refine (callsIn_wide (n := 9)).1 ?_
      refine callsIn_of_wp_marks Try.func22 rfl trivial ?_ rfl
      simp only [Try.ntmps22, List.size_toArray, List.length_cons, List.length_nil, Nat.reduceAdd, Nat.reduceSub, Array.replicate_succ, Array.replicate_zero, List.push_toArray, List.append_toArray, List.nil_append, List.cons_append]
      refine wpIn_wide.2 ?_
      obtain ⟨g0, g1, t0, t1, a0, a1, b0, b1⟩ := HS.out _ HB.out.b
      go_wp2_with fail
      refine (hR _ ((H.out.below HB.out.b.bel).mono HB.out.b.bel.size)).mono ?_
      rintro e w1 ⟨rfl, hb1⟩
      have HB1 := Lib.hid (HB.out.below hb1)
      clear hb1 HB g0 g1 t0 t1 a0 a1 b0 b1
      obtain ⟨g0, g1, t0, t1, a0, a1, b0, b1⟩ := HS.out _ HB1.out.b
      go_wp2_with fail
      refine (hI _).mono ?_
      rintro e w2 ⟨rfl, hb2⟩
      have HB2 := Lib.hid (HB1.out.below hb2)
      clear hb2 HB1 g0 g1 t0 t1 a0 a1 b0 b1
      obtain ⟨g0, g1, t0, t1, a0, a1, b0, b1⟩ := HS.out _ HB2.out.b
      go_wp2_with fail
      refine (hK _ ((H.out.below HB2.out.b.bel).mono HB2.out.b.bel.size) ((HT.out.below HB2.out.b.bel).mono HB2.out.b.bel.size) ((HL.out.below HB2.out.b.bel).mono HB2.out.b.bel.size)).mono ?_
      rintro e w3 ⟨rfl, hb3⟩
      have HB3 := Lib.hid (HB2.out.below hb3)
      clear hb3 HB2 g0 g1 t0 t1 a0 a1 b0 b1
      obtain ⟨g0, g1, t0, t1, a0, a1, b0, b1⟩ := HS.out _ HB3.out.b
      have hz3 := HB3.out.siz
      have hgs : w.heap.size < w3.heap.size := by omega
      have hgs1 : w.heap.size + 1 < w3.heap.size := by omega
      have hq1 : ¬ w3.heap.size = w.heap.size := by omega
      have hq2 : ¬ w3.heap.size = w.heap.size + 1 := by omega
      go_wp2_with fail
      have HB4 := Lib.hid (HB3.out.below (bel_A w3 (.cells #[.int .i64 0] 2)))
      have HV4 : Hid ((w3.alloc (.cells #[.int .i64 0] 2)).cell? ⟨w3.heap.size, 0, none⟩ = some (.int .i64 0) ∧ (w3.alloc (.cells #[.int .i64 0] 2)).frozen? ⟨w3.heap.size, 0, none⟩ = false) := ⟨by simp [go_sem], by simp [go_sem]⟩
      have HBQ : Hid (w.heap.size + 1 + 1 + 1 + 1 < w3.heap.size ∧ w3.heap.size < (w3.alloc (.cells #[.int .i64 0] 2)).heap.size) := ⟨hz3, by simp⟩
      clear g0 g1 t0 t1 a0 a1 b0 b1 hz3 hgs hgs1 hq1 hq2 HB3 hR hI hK
      generalize w3.alloc (.cells #[.int .i64 0] 2) = w4 at *
      generalize w3.heap.size = bq at *
      refine (pChunk_any AL Ld.length cL l.length w4 hl0 hl64).mono ?_
      rintro e w5 ⟨rfl, hc1, hc2, hz5, hb5⟩
      have HB5 := Lib.hid (HB4.out.below hb5)
      rw [HLL.out] at hc1
      have HCT : Hid (CT w5.heap.size w4.heap.size (w4.heap.size + 1) AL bL offL (T.length * l.length) cL l.length w5) := ⟨hc1, hc2, ⟨by omega, hz5⟩, Nat.le_refl _, fun hp => HAL.out (by rw [HLL.out]; exact hp)⟩
      have HBI : Hid (BnI w5 bq D pa pb T.length [] w5) := ⟨Trn.refl _ _, ⟨0, rfl, by omega, by omega, (hb5.cell (p := ⟨bq, 0, none⟩) HBQ.out.2).trans HV4.out.1⟩, (hb5.frozen (p := ⟨bq, 0, none⟩) HBQ.out.2).trans HV4.out.2⟩
      have HNX : Hid (¬ w4.heap.size = bq ∧ ¬ w4.heap.size + 1 = bq) := by have := HBQ.out.2; exact ⟨by omega, by omega⟩
      have HZ45 : Hid (bq < w5.heap.size ∧ w.heap.size ≤ w5.heap.size) := by have h1 := HBQ.out; have h2 := hb5.size; exact ⟨by omega, by omega⟩
      clear hc1 hc2 hz5 hb5 HB4 HV4
      go_wp2_with fail
      refine (wpIn_wide (n := 9)).1 ?_
      refine wpIn_rangeFunc_ownH (F := Fence.wide) (n := 9) rfl (by omega) (gf := 81) (lb := #[.pointer (some ⟨w4.heap.size, 0, none⟩), .pointer (some ⟨w4.heap.size + 1, 0, none⟩)]) rfl trivial (enters_of Try.func81 (by kernel_rfl) rfl)
        (pChunk_stops 8 (by omega) w5.heap.size (fun k => k = bq) w4.heap.size (w4.heap.size + 1) AL bL offL T.length l.length cL w5 HTL.out.2.2 HTL.out.2.1 HTL.out.1 HLCAP.out HNX.out HCT.out) kpE_t (kpE_b (Nat.le_refl _)) (Below.refl _ _) (fun _ => rfl)
        (BnI w5 bq D pa pb T.length) (BnX w5 bq (w.heap.size + 1 + 1 + 1 + 1) D pa pb T.length) BnI.own (fun co => BnX.own co) HBI.out
        (fun x a' W => ∃ (u0 u1 u2 u3 u11 u12 u13 u14 u15 u16 u17 u18 u19 u20 u21 u22 u23 u24 u25 u26 u27 u28 u29 u30 u31 u32 u33 u34 u35 u36 u37 u38 u39 u40 u41 u42 u43 u44 u45 u46 u47 u48 u49 u50 u51 u52 u53 u54 u55 u56 u57 u58 u59 u60 u61 u62 u63 u64 : Value), a' = { tmps := #[u0, u1, u2, u3, .pointer (some ⟨w.heap.size, 0, none⟩), .pointer (some ⟨w.heap.size + 1, 0, none⟩), .pointer (some ⟨w.heap.size + 1 + 1, 0, none⟩), .pointer (some ⟨w.heap.size + 1 + 1 + 1, 0, none⟩), .pointer (some ⟨w.heap.size + 1 + 1 + 1 + 1, 0, none⟩), .pointer (some ⟨bq, 0, none⟩), .slice (some ⟨bL, offL + x.1 * l.length, none⟩) l.length l.length, u11, u12, u13, u14, u15, u16, u17, u18, u19, u20, u21, u22, u23, u24, u25, u26, u27, u28, u29, u30, u31, u32, u33, u34, u35, u36, u37, u38, u39, u40, u41, u42, u43, u44, u45, u46, u47, u48, u49, u50, u51, u52, u53, u54, u55, u56, u57, u58, u59, u60, u61, u62, u63, u64], defers := [] })
        ?hAx ?assign ?body ?done ?stop
      case hAx =>
        rintro x a' _ W W' row h hg hr
        exact h
      case assign =>
        intro l' pre x W K hi hK
        gi_wp2
        refine hK _ _ ((KeepsOthers.refl _).from _) (KpE.of_trn (p := fun _ => False) (Trn.refl _ _) fun _ e => e.elim) hi ?_
        (repeat apply Exists.intro)
        rfl
      case body =>
        rintro Lp pre x a' W hLp hrec hbi ⟨u0, u1, u2, u3, u11, u12, u13, u14, u15, u16, u17, u18, u19, u20, u21, u22, u23, u24, u25, u26, u27, u28, u29, u30, u31, u32, u33, u34, u35, u36, u37, u38, u39, u40, u41, u42, u43, u44, u45, u46, u47, u48, u49, u50, u51, u52, u53, u54, u55, u56, u57, u58, u59, u60, u61, u62, u63, u64, rfl⟩ hlen
        have HI := Lib.hid hbi
        have HX := Lib.hid x.2
        obtain ⟨k, hk⟩ := x
        dsimp only at HX ⊢
        obtain ⟨N, hN1, hN2, hN3, hN4⟩ := hbi.val
        have HB6 := Lib.hid (HB5.out.kept hbi.tr HBQ.out.1)
        have hsmk := HSM.out k hk
        have HNS : Hid (bndL D pa pb ((pre ++ [(⟨k, hk⟩ : Fin T.length)]).map (·.1)) = bnd1 (dk (D k) pa) (dk (D k) pb) N) := by
          show _ = _
          rw [List.map_append, List.map_singleton, bndL_snoc, hN1]
          rfl
        have HCC : Hid (∀ V, Below W.heap.size W V → V.cell? ⟨bL, offL + k * l.length + pa, none⟩ = some (.int .i64 (dk (D k) pa)) ∧ V.cell? ⟨bL, offL + k * l.length + pb, none⟩ = some (.int .i64 (dk (D k) pb))) := by
          intro V hb
          have h1 := (HB6.out.below hb).b.bel
          exact ⟨HCA.out V h1 k pa hk HPAB.out.1, HCA.out V h1 k pb hk HPAB.out.2⟩
        have HN := Lib.hid (And.intro hN2 hN3)
        have HN4 := Lib.hid hN4
        have hpaI : (pa : Int) < (l.length : Int) := by have := HPAB.out.1; omega
        have hpbI : (pb : Int) < (l.length : Int) := by have := HPAB.out.2; omega
        generalize dk (D k) pa = xv at *
        generalize dk (D k) pb = yv at *
        generalize k * l.length = p at *
        have HKV : Hid (∀ V, Below W.heap.size W V → V.cell? ⟨w.heap.size, 0, none⟩ = some (.int .i64 side) ∧ V.cell? ⟨w.heap.size + 1 + 1, 0, none⟩ = some (.int .i64 ax) ∧ V.cell? ⟨w.heap.size + 1 + 1, 1, none⟩ = some (.int .i64 ay) ∧ V.cell? ⟨w.heap.size + 1 + 1 + 1, 0, none⟩ = some (.int .i64 bx) ∧ V.cell? ⟨w.heap.size + 1 + 1 + 1, 1, none⟩ = some (.int .i64 b_y) ∧ V.cell? ⟨bL, offL + p + pa, none⟩ = some (.int .i64 xv) ∧ V.cell? ⟨bL, offL + p + pb, none⟩ = some (.int .i64 yv)) := by
          intro V hb
          have h1 := (HB6.out.below hb).b
          have h2 := HCC.out V hb
          exact ⟨h1.g.c0, h1.a.c0, h1.a.c1, h1.b.c0, h1.b.c1, h2.1, h2.2⟩
        obtain ⟨k1, k2, k3, k4, k5, k6, k7⟩ := HKV.out W (Below.refl _ _)
        have hmx : Try.prog.follows .mixedOrders = true := by kernel_rfl
        clear hbi hN1 hN2 hN3 hN4 HBI
        gi_upto_region 6 with fail
        have hkeep := HKV.out _ (bel_D W)
        clear k1 k2 k3 k4 k5 k6 k7
        refine wpIn_region_heldR (S := (fun w' => w'.cell? ⟨w.heap.size, 0, none⟩ = some (.int .i64 side) ∧ w'.cell? ⟨w.heap.size + 1 + 1, 0, none⟩ = some (.int .i64 ax) ∧ w'.cell? ⟨w.heap.size + 1 + 1, 1, none⟩ = some (.int .i64 ay) ∧ w'.cell? ⟨w.heap.size + 1 + 1 + 1, 0, none⟩ = some (.int .i64 bx) ∧ w'.cell? ⟨w.heap.size + 1 + 1 + 1, 1, none⟩ = some (.int .i64 b_y) ∧ w'.cell? ⟨bL, offL + p + pa, none⟩ = some (.int .i64 xv) ∧ w'.cell? ⟨bL, offL + p + pb, none⟩ = some (.int .i64 yv))) (by kernel_rfl) (by kernel_rfl) (fun _ _ h => h) hkeep (fun hHeld => ?_)
        refine wpAnyH_take (i := 0) (v := ?_) rfl (by kernel_rfl) (by kernel_rfl) (by kernel_rfl) (fun _ _ _ h => h) (Or.inl ⟨by rfl, ?_⟩) (by assumption) ?_
        rotate_left 1
        · (intro w' hSw; (try dsimp only at hSw); go_simp <;> with_reducible rfl)
        simp only [Act.put, List.getElem_toArray, List.getElem_cons_succ, List.getElem_cons_zero, List.setIfInBounds_toArray, List.set_cons_zero, List.set_cons_succ]
        refine wpAnyH_take (i := 1) (v := ?_) rfl (by kernel_rfl) (by kernel_rfl) (by kernel_rfl) (fun _ _ _ h => h) (Or.inl ⟨by rfl, ?_⟩) (by assumption) ?_
        rotate_left 1
        · (intro w' hSw; (try dsimp only at hSw); go_simp <;> with_reducible rfl)
        simp only [Act.put, List.getElem_toArray, List.getElem_cons_succ, List.getElem_cons_zero, List.setIfInBounds_toArray, List.set_cons_zero, List.set_cons_succ]
        refine wpAnyH_take (i := 2) (v := ?_) rfl (by kernel_rfl) (by kernel_rfl) (by kernel_rfl) (fun _ _ _ h => h) (Or.inl ⟨by rfl, ?_⟩) (by assumption) ?_
        rotate_left 1
        · (intro w' hSw; (try dsimp only at hSw); go_simp <;> with_reducible rfl)
        simp only [Act.put, List.getElem_toArray, List.getElem_cons_succ, List.getElem_cons_zero, List.setIfInBounds_toArray, List.set_cons_zero, List.set_cons_succ]
        refine wpAnyH_take (i := 3) (v := ?_) rfl (by kernel_rfl) (by kernel_rfl) (by kernel_rfl) (fun _ _ _ h => h) (Or.inl ⟨by rfl, ?_⟩) (by assumption) ?_
        rotate_left 1
        · (intro w' hSw; (try dsimp only at hSw); go_simp <;> with_reducible rfl)
        simp only [Act.put, List.getElem_toArray, List.getElem_cons_succ, List.getElem_cons_zero, List.setIfInBounds_toArray, List.set_cons_zero, List.set_cons_succ]
        refine wpAnyH_take (i := 7) (v := ?_) rfl (by kernel_rfl) (by kernel_rfl) (by kernel_rfl) (fun _ _ _ h => h) (Or.inl ⟨by rfl, ?_⟩) (by assumption) ?_
        rotate_left 1
        · (intro w' hSw; (try dsimp only at hSw); go_simp <;> with_reducible rfl)
        simp only [Act.put, List.getElem_toArray, List.getElem_cons_succ, List.getElem_cons_zero, List.setIfInBounds_toArray, List.set_cons_zero, List.set_cons_succ]
        refine wpAnyH_take (i := 8) (v := ?_) rfl (by kernel_rfl) (by kernel_rfl) (by kernel_rfl) (fun _ _ _ h => h) (Or.inl ⟨by rfl, ?_⟩) (by assumption) ?_
        rotate_left 1
        · (intro w' hSw; (try dsimp only at hSw); go_simp <;> with_reducible rfl)
        simp only [Act.put, List.getElem_toArray, List.getElem_cons_succ, List.getElem_cons_zero, List.setIfInBounds_toArray, List.set_cons_zero, List.set_cons_succ]
        refine wpAnyH_take (i := 9) (v := ?_) rfl (by kernel_rfl) (by kernel_rfl) (by kernel_rfl) (fun _ _ _ h => h) (Or.inl ⟨by rfl, ?_⟩) (by assumption) ?_
        rotate_left 1
        · (intro w' hSw; (try dsimp only at hSw); go_simp <;> with_reducible rfl)
        simp only [Act.put, List.getElem_toArray, List.getElem_cons_succ, List.getElem_cons_zero, List.setIfInBounds_toArray, List.set_cons_zero, List.set_cons_succ]
        refine wpAnyH_take (i := 10) (v := ?_) rfl (by kernel_rfl) (by kernel_rfl) (by kernel_rfl) (fun _ _ _ h => h) (Or.inl ⟨by rfl, ?_⟩) (by assumption) ?_
        rotate_left 1
        · (intro w' hSw; (try dsimp only at hSw); go_simp <;> with_reducible rfl)
        simp only [Act.put, List.getElem_toArray, List.getElem_cons_succ, List.getElem_cons_zero, List.setIfInBounds_toArray, List.set_cons_zero, List.set_cons_succ]
        refine wpAnyH_ready (rs := [4]) (by kernel_rfl) (by simp) ?_
        refine (AllReadyH.cons rfl (fun K hK => ?_) AllReadyH.nil)
        go_simp
        (go_at_call 43; refine (hN1 _).mono ?_; rintro e vA ⟨rfl, hb⟩; have hbA := bel_T (bel_D W) hb; clear hkeep; have hkeep := HKV.out vA hbA; clear hb)
        try go_wp2_with fail
        refine hK.out _ _ ?_ (fun hHeld => ?_)
        · exact hkeep
        clear hK K
        try simp only [Act.put, List.getElem_toArray, List.getElem_cons_succ, List.getElem_cons_zero, List.setIfInBounds_toArray, List.set_cons_zero, List.set_cons_succ]
        refine wpAnyH_take (i := 5) (v := ?_) rfl (by kernel_rfl) (by kernel_rfl) (by kernel_rfl) (fun _ _ _ h => h) (Or.inl ⟨by rfl, ?_⟩) (by assumption) ?_
        rotate_left 1
        · (intro w' hSw; (try dsimp only at hSw); go_simp <;> with_reducible rfl)
        simp only [Act.put, List.getElem_toArray, List.getElem_cons_succ, List.getElem_cons_zero, List.setIfInBounds_toArray, List.set_cons_zero, List.set_cons_succ]
        refine wpAnyH_take (i := 6) (v := ?_) rfl (by kernel_rfl) (by kernel_rfl) (by kernel_rfl) (fun _ _ _ h => h) (Or.inl ⟨by rfl, ?_⟩) (by assumption) ?_
        rotate_left 1
        · (intro w' hSw; (try dsimp only at hSw); go_simp <;> with_reducible rfl)
        simp only [Act.put, List.getElem_toArray, List.getElem_cons_succ, List.getElem_cons_zero, List.setIfInBounds_toArray, List.set_cons_zero, List.set_cons_succ]
        refine wpAnyH_ready (rs := [11]) (by kernel_rfl) (by simp) ?_
        refine (AllReadyH.cons rfl (fun K hK => ?_) AllReadyH.nil)
        go_simp
        (go_at_call 43; refine (hN2 _).mono ?_; rintro e vB ⟨rfl, hb⟩; have hbB := bel_T hbA hb; clear hkeep; have hkeep := HKV.out vB hbB; clear hb)
        try go_wp2_with fail
        refine hK.out _ _ ?_ (fun hHeld => ?_)
        · exact hkeep
        clear hK K
        try simp only [Act.put, List.getElem_toArray, List.getElem_cons_succ, List.getElem_cons_zero, List.setIfInBounds_toArray, List.set_cons_zero, List.set_cons_succ]
        refine wpAnyH_take (i := 12) (v := ?_) rfl (by kernel_rfl) (by kernel_rfl) (by kernel_rfl) (fun _ _ _ h => h) (Or.inl ⟨by rfl, ?_⟩) (by assumption) ?_
        rotate_left 1
        · (intro w' hSw; (try dsimp only at hSw); go_simp <;> with_reducible rfl)
        simp only [Act.put, List.getElem_toArray, List.getElem_cons_succ, List.getElem_cons_zero, List.setIfInBounds_toArray, List.set_cons_zero, List.set_cons_succ]
        refine wpAnyH_take (i := 13) (v := ?_) rfl (by kernel_rfl) (by kernel_rfl) (by kernel_rfl) (fun _ _ _ h => h) (Or.inl ⟨by rfl, ?_⟩) (by assumption) ?_
        rotate_left 1
        · (intro w' hSw; (try dsimp only at hSw); go_simp <;> with_reducible rfl)
        simp only [Act.put, List.getElem_toArray, List.getElem_cons_succ, List.getElem_cons_zero, List.setIfInBounds_toArray, List.set_cons_zero, List.set_cons_succ]
        refine wpAnyH_take (i := 14) (v := ?_) rfl (by kernel_rfl) (by kernel_rfl) (by kernel_rfl) (fun _ _ _ h => h) (Or.inl ⟨by rfl, ?_⟩) (by assumption) ?_
        rotate_left 1
        · (intro w' hSw; (try dsimp only at hSw); go_simp <;> with_reducible rfl)
        simp only [Act.put, List.getElem_toArray, List.getElem_cons_succ, List.getElem_cons_zero, List.setIfInBounds_toArray, List.set_cons_zero, List.set_cons_succ]
        refine wpAnyH_take (i := 15) (v := ?_) rfl (by kernel_rfl) (by kernel_rfl) (by kernel_rfl) (fun _ _ _ h => h) (Or.inl ⟨by rfl, ?_⟩) (by assumption) ?_
        rotate_left 1
        · (intro w' hSw; (try dsimp only at hSw); go_simp <;> with_reducible rfl)
        simp only [Act.put, List.getElem_toArray, List.getElem_cons_succ, List.getElem_cons_zero, List.setIfInBounds_toArray, List.set_cons_zero, List.set_cons_succ]
        refine wpAnyH_done (by kernel_rfl) ?_ _
        refine NoPanic.normal ?_
        have HBB := Lib.hid hbB
        have HB7 := Lib.hid (HB6.out.below hbB)
        have HV7 : Hid (vB.cell? ⟨bq, 0, none⟩ = some (.int .i64 N) ∧ vB.frozen? ⟨bq, 0, none⟩ = false) := by
          have hz := World.block_lt_of_cell? W _ HN4.out
          exact ⟨(hbB.cell (p := ⟨bq, 0, none⟩) hz).trans HN4.out, (hbB.frozen (p := ⟨bq, 0, none⟩) hz).trans HI.out.fz⟩
        have HI7 : Hid (Trn (· = bq) w5 vB) := HI.out.tr.trans (Trn.of_below (p := fun _ => False) hbB) fun _ _ e => e.elim
        clear hkeep hbA hbB HKV HCC HB6 HI HN4
        have hx1 := hsmk.1.1
        have hy1 := hsmk.2.1
        have hN0 := HN.out
        have HFIN : Hid (∀ (R : Int) (a' : Act), bndL D pa pb ((pre ++ [(⟨k, hk⟩ : Fin T.length)]).map (·.1)) = some R → 0 ≤ R ∧ R ≤ 1301 → ownPostG w5.heap.size (KpE w5.heap.size fun k => k = bq) (BnI w5 bq D pa pb T.length) (BnX w5 bq (w.heap.size + 1 + 1 + 1 + 1) D pa pb T.length) (pre ++ [⟨k, hk⟩]) W Exit.normal a' (vB.setCell ⟨bq, 0, none⟩ (.int .i64 R))) := by
          intro R a' hR hR2
          have ht : Trn (· = bq) W (vB.setCell ⟨bq, 0, none⟩ (.int .i64 R)) := (Trn.of_below HBB.out).trans (Trn.set vB bq 0 _) fun _ _ e => e
          exact ⟨(((Trn.of_below (p := fun _ => False) HBB.out).others fun _ e => e.elim).trans (KeepsOthers.setCell _ _ _)).from _, KpE.of_trn ht (fun k e _ => e), HI7.out.trans (Trn.set vB bq 0 _) fun _ _ e => e, ⟨R, hR, hR2.1, hR2.2, World.cell?_setCell_same _ _ _ HV7.out.1⟩, by simpa using HV7.out.2⟩
        have HFX : Hid (∀ (a' : Act), bndL D pa pb ((pre ++ [(⟨k, hk⟩ : Fin T.length)]).map (·.1)) = none → ownPostG w5.heap.size (KpE w5.heap.size fun k => k = bq) (BnI w5 bq D pa pb T.length) (BnX w5 bq (w.heap.size + 1 + 1 + 1 + 1) D pa pb T.length) (pre ++ [⟨k, hk⟩]) W Exit.ret a' (vB.setCell ⟨w.heap.size + 1 + 1 + 1 + 1, 0, none⟩ (.int .i64 (-1)))) := by
          intro a' hR
          exact ⟨(((Trn.of_below (p := fun _ => False) HBB.out).others fun _ e => e.elim).trans (KeepsOthers.setCell _ _ _)).from _, rfl, hR, (HI7.out.mono fun k e => .inl e).trans ((Trn.set vB (w.heap.size + 1 + 1 + 1 + 1) 0 _).mono fun k e => e) fun _ _ e => .inr e, World.cell?_setCell_same _ _ _ HB7.out.r0⟩
        by_cases hx : xv = -1
        · have hqx : (xv == -1) = true := by simpa using hx
          have hdx : decide (xv = -1) = true := decide_eq_true hx
          by_cases hy : yv = -1
          · have hqy : (yv == -1) = true := by simpa using hy
            have hdy : decide (yv = -1) = true := decide_eq_true hy
            have HMX := Lib.hid (bnd1_max HN.out.1 hx1 hy1 (show (xv == -1) = (yv == -1) by rw [hqx, hqy]))
            have hw1 : IntKind.i64.wrap (xv - yv) = xv - yv := IntWalk.i64_in _ (by omega)
            have hw2 : IntKind.i64.wrap (yv - xv) = yv - xv := IntWalk.i64_in _ (by omega)
            obtain ⟨q0, qf⟩ := HV7.out
            clear hx hy
            gi_wp2_with fail
            all_goals exact HFIN.out _ _ (by rw [HNS.out, HMX.out]; congr 1; omega) (by omega)
          · have hqy : (yv == -1) = false := by simpa using hy
            have hdy : decide (yv = -1) = false := decide_eq_false hy
            have HNO := Lib.hid (bnd1_none (N := N) hx1 hy1 (show ¬ (xv == -1) = (yv == -1) by rw [hqx, hqy]; simp))
            have r0 := HB7.out.r0
            have rf := HB7.out.rf
            clear hx hy
            gi_wp2_with fail
            exact HFX.out _ (by rw [HNS.out, HNO.out])
        · have hqx : (xv == -1) = false := by simpa using hx
          have hdx : decide (xv = -1) = false := decide_eq_false hx
          by_cases hy : yv = -1
          · have hqy : (yv == -1) = true := by simpa using hy
            have hdy : decide (yv = -1) = true := decide_eq_true hy
            have HNO := Lib.hid (bnd1_none (N := N) hx1 hy1 (show ¬ (xv == -1) = (yv == -1) by rw [hqx, hqy]; simp))
            have r0 := HB7.out.r0
            have rf := HB7.out.rf
            clear hx hy
            gi_wp2_with fail
            exact HFX.out _ (by rw [HNS.out, HNO.out])
          · have hqy : (yv == -1) = false := by simpa using hy
            have hdy : decide (yv = -1) = false := decide_eq_false hy
            have HMX := Lib.hid (bnd1_max HN.out.1 hx1 hy1 (show (xv == -1) = (yv == -1) by rw [hqx, hqy]))
            have hw1 : IntKind.i64.wrap (xv - yv) = xv - yv := IntWalk.i64_in _ (by omega)
            have hw2 : IntKind.i64.wrap (yv - xv) = yv - xv := IntWalk.i64_in _ (by omega)
            obtain ⟨q0, qf⟩ := HV7.out
            clear hx hy
            gi_wp2_with fail
            all_goals exact HFIN.out _ _ (by rw [HNS.out, HMX.out]; congr 1; omega) (by omega)
      case done =>
        rintro D9 xs W hDD hxs hbi hdf
        obtain ⟨N, hN1, hN2, hN3, hN4⟩ := hbi.val
        rw [hxs, bndL_range] at hN1
        have HB6 := Lib.hid (HB5.out.kept hbi.tr HBQ.out.1)
        have HNV := Lib.hid hN1
        have HDF := Lib.hid hdf
        have HDD := Lib.hid hDD
        have hz6 := HB5.out.siz
        have hDne : D9 ≠ w.heap.size + 1 + 1 + 1 + 1 := by omega
        have r0 := HB6.out.r0
        have rf := HB6.out.rf
        have hbqr : ¬ bq = w.heap.size + 1 + 1 + 1 + 1 := by have := HBQ.out.1; omega
        clear hbi hN1 hN2 hN3 hxs hdf hDD HBI
        go_wp2_with fail
        refine Mks.leaves (B := w.heap.size) [_] _ ((Mks.nil _ w5).push (Mks.nil _ _) (Nat.le_trans HZ45.out.2 HDD.out) HDD.out ((heap_setCell_other _ _ _ _ hDne).trans HDF.out)) fun w' ht => ?_
        have hcv := World.cell?_setCell_same W ⟨w.heap.size + 1 + 1 + 1 + 1, 0, none⟩ (.int .i64 N) r0
        have hcw := (World.cell?_of_block (a := ⟨w.heap.size + 1 + 1 + 1 + 1, 0, none⟩) (ht.cells (cells_of_cell hcv))).trans hcv
        have hbs : Below w.heap.size w (W.setCell ⟨w.heap.size + 1 + 1 + 1 + 1, 0, none⟩ (.int .i64 N)) := HB6.out.b.bel.setCell (by show w.heap.size ≤ w.heap.size + 1 + 1 + 1 + 1; omega) _
        refine ⟨.int .i64 N, by simp [results, Try.results22, go_sem, hcw], ?_⟩
        exact ⟨by rw [HNV.out]; rfl, hbs.trans (ht.below (fun k e => e.1) hbs.size)⟩
      case stop =>
        rintro D9 co pre W hDD ⟨k, hk, hpre⟩ ⟨rfl, hno, htr, hval⟩ hdf
        rw [hpre, bndL_range] at hno
        have HNV : Hid (bndTo D pa pb T.length = none) := bndTo_none hno _ hk
        have HDF := Lib.hid hdf
        have HDD := Lib.hid hDD
        have HVL := Lib.hid hval
        have HBW : Hid (Below w.heap.size w W) := HB5.out.b.bel.trans (htr.below (fun k e => by have := HBQ.out.1; omega) HB5.out.b.bel.size)
        clear hno htr hval hdf hDD hpre hk HBI
        refine wpIn_wide.2 ?_
        go_wp2_with fail
        refine Mks.leaves (B := w.heap.size) [_] _ ((Mks.nil _ w5).push (Mks.nil _ _) (Nat.le_trans HZ45.out.2 HDD.out) HDD.out HDF.out) fun w' ht => ?_
        have hcw := (World.cell?_of_block (a := ⟨w.heap.size + 1 + 1 + 1 + 1, 0, none⟩) (ht.cells (cells_of_cell HVL.out))).trans HVL.out
        refine ⟨.int .i64 (-1), by simp [results, Try.results22, go_sem, hcw], ?_⟩
        exact ⟨by rw [HNV.out]; rfl, HBW.out.trans (ht.below (fun k e => e.1) HBW.out.size)⟩
theorem pBound_any (side : Int) (A : Option Addr) (c : Nat) (l : List Int) (bm offm cm : Nat) (T : List Pl) (bL offL cL : Nat) (Ld : List Int) (ax ay bx b_y : Int) (D : Nat → List Int) (w : World) (h : RI w w.heap.size A l) (hT : RPl w w.heap.size (some ⟨bm, offm, none⟩) T) (hLd : RI w w.heap.size (some ⟨bL, offL, none⟩) Ld) (hl : l.length ≤ 1000000000) (hTl : T.length ≤ 1100000) (hLl : Ld.length ≤ 1000000000) (hcL : Ld.length ≤ cL) (hax : In64 ax) (hay : In64 ay) (hbx : In64 bx) (hby : In64 b_y) (hf : ∀ i (h : i < T.length), In64 T[i].x ∧ In64 T[i].y) (hd : IsB side l T D) :
    Calls Try.prog 22 #[.agg #[.int .i64 side, .slice A l.length c], .agg #[.slice (some ⟨bm, offm, none⟩) T.length cm, .slice (some ⟨bL, offL, none⟩) Ld.length cL], .agg #[.int .i64 ax, .int .i64 ay], .agg #[.int .i64 bx, .int .i64 b_y]] w fun e w' => e = .returned (.int .i64 (boundOut side l T Ld ax ay bx b_y D)) ∧ Below w.heap.size w w' :=
  pBound_gen side A c l (some ⟨bm, offm, none⟩) cm T (some ⟨bL, offL, none⟩) cL Ld ax ay bx b_y D w h hT hLd hl hTl hLl hcL hax hay hbx hby hf hd (.inr ⟨_, _, rfl⟩)
end Go.Proofs.Ytphkceiafehidaa
