/- The model's ways: tables baked. -/
import Derived.Test.YtmjbefjkkncjlaaTbW
import Derived.Test.YtmjbefjkkncjlaaWyZ
import Derived.Deep.LoopGhost
namespace Go.Proofs.Ytmjbefjkkncjlaa
open Go.RowKit
set_option linter.unusedVariables false
set_option linter.unusedSimpArgs false

theorem step_app_ints {i0 : TypeInfo} (hi : Try.prog.info? 2 = some i0) (hz0 : i0.zero = some (.int .i64 0)) (hz1 : i0.size = 1) (hz2 : i0.bytes = 8)
    {ops : Array Oper} {o : Oper} {a : Act} {K : Act → World → Prop} {Q : Exit → Act → World → Prop} {E : Prop} (hgd : o.guard = none) (s x : Operand)
    (ho : o.op = .call { callee := .builtin .append, args := #[s, x], argTypes := #[23, 23] })
    (base : Nat) (v : Value) (l l' : List Int) (wr : World) (b off c : Nat) (hown : OwnI 2 .i64 wr base v l) (hs : a.eval s = v) (hx : a.eval x = .slice (some ⟨b, off, none⟩) l'.length c) (hn : ∀ j (hj : j < l'.length), wr.cell? ⟨b, off + j, none⟩ = some (.int .i64 l'[j])) (h0 : 0 < l'.length) (hlen : l.length + l'.length ≤ 1000000) (hb : base ≤ wr.heap.size)
    (h : ∀ g cap w', OwnI 2 .i64 w' base (.slice (some ⟨g, 0, none⟩) (l.length + l'.length) cap) (l ++ l') → wr.grownBy w' v.ownBlock → (v.ownBlock = some g ∨ g = wr.heap.size) → K (a.put o.dst (.slice (some ⟨g, 0, none⟩) (l.length + l'.length) cap)) w') :
    if Region.wanted o (yielded ops a.tmps) = true then Oper.wp Try.prog o a wr K Q else E := by
  refine step_append_lies _ hgd s x 23 ho base 2 i0 (.int .i64 0) 1 8 Try.underlying23 hi hz0 hz1 hz2 rfl (by decide) v l.length _ hs hown ⟨b, off, none⟩ l'.length c (l'.map (Value.int .i64)) hx (by simp) ?_ ?_ h0 ?_ ?_ hb wr.heap.size rfl ?_
  · intro j u hu
    have hj : j < l'.length := by have := (List.getElem?_eq_some_iff.1 hu).1; simpa using this
    have e : (⟨b, off, none⟩ : Addr).add j = ⟨b, off + j, none⟩ := by unfold Addr.add; split <;> simp_all
    rw [e, hn j hj]
    simpa [hj] using hu
  · intro u hu
    obtain ⟨x, _, rfl⟩ := List.mem_map.1 hu
    rfl
  · unfold maxLen; omega
  · omega
  · intro g cap w' hown' hgrow hlies _
    refine h g cap w' ?_ hgrow hlies
    have e : (l ++ l').length = l.length + l'.length := by simp
    unfold OwnI
    simpa [e] using hown'
theorem append_pls {i0 : TypeInfo} (hi : Try.prog.info? 27 = some i0) (hz0 : i0.zero = some (.agg #[.int .i64 0, .int .i64 0])) (hz1 : i0.size = 2) (hz2 : i0.bytes = 16)
    {ops : Array Oper} {rest : List Oper} {o : Oper} {a : Act} {Q : Exit → Act → World → Prop} (hgd : o.guard = none) (s x : Operand)
    (ho : o.op = .call { callee := .builtin .append, args := #[s, x], argTypes := #[30, 30] })
    (base : Nat) (v : Value) (l l' : List Pl) (wr : World) (b off c : Nat) (hown : OwnPl wr base v l) (hs : a.eval s = v) (hx : a.eval x = .slice (some ⟨b, off, none⟩) l'.length c) (hn : ∀ j (hj : j < l'.length), PlAt wr b (off + j * 2) l'[j]) (hlen : l.length + l'.length ≤ 1000000) (hb : base ≤ wr.heap.size)
    (h : ∀ v' w', OwnPl w' base v' (l ++ l') → wr.grownBy w' v.ownBlock → wpList Try.prog ops Q rest (a.put o.dst v') w') :
    wpList Try.prog ops Q (o :: rest) a wr := by
  refine wpList_append_own _ hgd s x 30 ho base 27 i0 (.agg #[.int .i64 0, .int .i64 0]) 2 16 Try.underlying30 hi hz0 hz1 hz2 rfl (by decide) v l.length _ hs hown ⟨b, off, none⟩ l'.length c (l'.flatMap Pl.cells) hx (flatPl_len _) ?_ ?_ ?_ ?_ hb ?_
  · intro j u hu
    have e : (⟨b, off, none⟩ : Addr).add j = ⟨b, off + j, none⟩ := by unfold Addr.add; split <;> simp_all
    rw [e]
    have hjl : j < l'.length * 2 := by
      have := (List.getElem?_eq_some_iff.1 hu).1
      rw [flatPl_len] at this
      exact this
    have hq : j / 2 < l'.length := by omega
    have hg := flatPl_get l' (j / 2) (j % 2) hq (by omega)
    have e2 : j / 2 * 2 + j % 2 = j := by omega
    rw [e2, hu] at hg
    have hp := hn (j / 2) hq
    rcases Nat.mod_two_eq_zero_or_one j with h0 | h0
    · rw [h0] at hg
      simp only [Pl.cells, List.getElem?_cons_zero, Option.some.injEq] at hg
      have e3 : off + j = off + j / 2 * 2 := by omega
      rw [hg, ← hp.c0, e3]
    · rw [h0] at hg
      simp only [Pl.cells, List.getElem?_cons_succ, List.getElem?_cons_zero, Option.some.injEq] at hg
      have e3 : off + j = off + j / 2 * 2 + 1 := by omega
      rw [hg, ← hp.c1, e3]
  · intro u hu
    obtain ⟨n, _, hu⟩ := List.mem_flatMap.1 hu
    simp [Pl.cells] at hu
    rcases hu with rfl | rfl <;> rfl
  · unfold maxLen; omega
  · omega
  · intro v' w' hown' hgrow _
    refine h v' w' ?_ hgrow
    unfold OwnPl
    simpa [List.flatMap_append] using hown'
/-- While tables are baked: the boxes of the map, of the answer, of what is made; its rows. -/
structure BK (w : World) (side : Int) (A : Option Addr) (c : Nat) (l : List Int) (bo : Nat) (vM vD : Value) (ms : List Pl) (ds : List Int) (wr : World) : Prop where
  g : GB wr w.heap.size side (.slice A l.length c)
  r : TB wr (w.heap.size + 1) (.slice none 0 0) (.slice none 0 0)
  o : TB wr bo vM vD
  oM : OwnPl wr (w.heap.size + 1 + 1) vM ms
  oD : OwnI 2 .i64 wr (w.heap.size + 1 + 1) vD ds
  ap : Apt vM vD
  aM : vM.ownBlock ≠ some bo
  aD : vD.ownBlock ≠ some bo
  bo2 : w.heap.size + 1 + 1 ≤ bo ∧ bo < wr.heap.size
  bel : Below w.heap.size w wr
section
variable {w wr wr' : World} {side : Int} {A : Option Addr} {c : Nat} {l : List Int} {bo : Nat} {vM vD : Value} {ms : List Pl} {ds : List Int}
theorem BK.below (h : BK w side A c l bo vM vD ms ds wr) (hb : Below wr.heap.size wr wr') : BK w side A c l bo vM vD ms ds wr' := by
  obtain ⟨h1, h2⟩ := h.bo2
  exact ⟨h.g.below hb (by omega), h.r.below hb (by omega), h.o.below hb h2, h.oM.keep hb, h.oD.keep hb, h.ap, h.aM, h.aD, ⟨h1, Nat.lt_of_lt_of_le h2 hb.size⟩, h.bel.trans (hb.mono (by omega))⟩
theorem BK.mid (h : BK w side A c l bo vM vD ms ds wr) (hg : wr.grownBy wr' vD.ownBlock) : GB wr' w.heap.size side (.slice A l.length c) ∧ Below w.heap.size w wr' := by
  obtain ⟨h1, h2⟩ := h.bo2
  have lD := World.ownsRow.lt h.oD
  exact ⟨h.g.at5 (hg.block _ (by omega) fun e => by have := (lD _ e.symm).1; omega), h.bel.trans ((Below.refl _ wr).grown hg h.bel.size (fun k e => by have := (lD k e).1; omega))⟩
/-- The row of sums grows, and is stored. -/
theorem BK.push {g cap : Nat} {ds2 : List Int} {n2 : Nat} (h : BK w side A c l bo vM vD ms ds wr) (ho : OwnI 2 .i64 wr' (w.heap.size + 1 + 1) (.slice (some ⟨g, 0, none⟩) n2 cap) ds2) (hg : wr.grownBy wr' vD.ownBlock) (hl : vD.ownBlock = some g ∨ g = wr.heap.size) : BK w side A c l bo vM (.slice (some ⟨g, 0, none⟩) n2 cap) ms ds2 (wr'.setCell ⟨bo, 1, none⟩ (.slice (some ⟨g, 0, none⟩) n2 cap)) := by
  obtain ⟨h1, h2⟩ := h.bo2
  have lD := World.ownsRow.lt h.oD
  have lM := h.oM.lt
  have k : ∀ b, b < w.heap.size + 1 + 1 → wr'.heap[b]? = wr.heap[b]? := fun b hb => hg.block b (by omega) fun e => by have := (lD b e.symm).1; omega
  have kb : wr'.heap[bo]? = wr.heap[bo]? := hg.block bo h2 fun e => h.aD e.symm
  have s : ∀ b, b ≠ bo → (wr'.setCell ⟨bo, 1, none⟩ (.slice (some ⟨g, 0, none⟩) n2 cap)).heap[b]? = wr'.heap[b]? := fun b hb => heap_setCell_other wr' _ b _ hb
  have hgb : g ≠ bo := by
    rcases hl with e | e
    · intro e2; subst e2; exact h.aD e
    · omega
  have hz := hg.size
  have hbb : Below w.heap.size wr wr' := (Below.refl _ wr).grown hg (by omega) (fun k e => by have := (lD k e).1; omega)
  have hlt : w.heap.size ≤ wr.heap.size := h.bel.size
  have oM2 : OwnPl wr' (w.heap.size + 1 + 1) vM ms := h.oM.kept hg (by
    cases e : vM.ownBlock with
    | none => exact .inl rfl
    | some k => exact .inr fun e' => h.ap k e e'.symm)
  refine ⟨(h.g.at5 (k _ (by omega))).at5 (s _ (by omega)), (h.r.at_ (k _ (by omega))).at_ (s _ (by omega)), (h.o.at_ kb).set1 _, ?_, ?_, ?_, h.aM, ?_, ⟨h1, by simpa using Nat.lt_of_lt_of_le h2 hz⟩, (h.bel.trans hbb).setCell (by show _ ≤ bo; omega) _⟩
  · exact oM2.kept (setCell_by wr' ⟨bo, 1, none⟩ _) (.inr h.aM)
  · exact World.ownsRow.kept ho (setCell_by wr' ⟨bo, 1, none⟩ _) (.inr fun e => hgb (Option.some.inj e))
  · intro k hk e
    have e' : k = g := (Option.some.inj e).symm
    subst e'
    rcases hl with h5 | h5
    · exact h.ap k hk h5
    · have := (lM k hk).2; omega
  · intro e
    exact hgb (Option.some.inj e)
end

end Go.Proofs.Ytmjbefjkkncjlaa
