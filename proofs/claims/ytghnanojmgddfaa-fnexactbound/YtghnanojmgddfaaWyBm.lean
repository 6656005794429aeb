/- The model's ways: tables baked. -/
import Derived.Test.YtghnanojmgddfaaTbW
import Derived.Test.YtghnanojmgddfaaWyZ
import Derived.Deep.LoopGhost
namespace Go.Proofs.Ytghnanojmgddfaa
open Go.RowKit
set_option linter.unusedVariables false
set_option linter.unusedSimpArgs false

theorem step_app_ints {i0 : TypeInfo} (hi : Try.prog.info? 2 = some i0) (hz0 : i0.zero = some (.int .i64 0)) (hz1 : i0.size = 1) (hz2 : i0.bytes = 8)
    {ops : Array Oper} {o : Oper} {a : Act} {K : Act → World → Prop} {Q : Exit → Act → World → Prop} {E : Prop} (hgd : o.guard = none) (s x : Operand)
    (ho : o.op = .call { callee := .builtin .append, args := #[s, x], argTypes := #[23, 23] })
    (base : Nat) (v : Value) (l l' : List Int) (wr : World) (b off c : Nat) (hown : OwnI 2 .i64 wr base v l) (hs : a.eval s = v) (hx : a.eval x = .slice (some ⟨b, off, none⟩) l'.length c) (hn : ∀ j (hj : j < l'.length), wr.cell? ⟨b, off + j, none⟩ = some (.int .i64 l'[j])) (h0 : 0 < l'.length) (hlen : l.length + l'.length ≤ 1000000) (hb : base ≤ wr.heap.size)
    (h : ∀ g cap w', OwnI 2 .i64 w' base (.slice (some ⟨g, 0, none⟩) (l.length + l'.length) cap) (l ++ l') → wr.grownBy w' v.ownBlock → (v.ownBlock = some g ∨ g = wr.heap.size) → K (a.put o.dst (.slice (some ⟨g, 0, none⟩) (l.length + l'.length) cap)) w') :
    if Region.wanted o (yielded ops a.tmps) = true then Oper.wp Try.prog o a wr K Q else E := by
  refine step_append_lies _ hgd s x 23 ho base 2 i0 (.int .i64 0) 1 8 Try.underlying23 hi hz0 hz1 hz2 rfl (by decide) v l.length _ hs hown ⟨b, off, none⟩ l'.length c (l'.map (Value.int .i64)) hx (by simp) ?_ ?_ h0 ?_ ?_ hb wr.heap.size rfl ?_
  · intro j u hu
    have hj : j < l'.length := by have := (List.getElem?_eq_some_iff.1 hu).1; simpa using this
    have e : (⟨b, off, none⟩ : Addr).add j = ⟨b, off + j, none⟩ := by unfold Addr.add; split <;> simp_all
    rw [e, hn j hj]
    simpa [hj] using hu
  · intro u hu
    obtain ⟨x, _, rfl⟩ := List.mem_map.1 hu
    rfl
  · unfold maxLen; omega
  · omega
  · intro g cap w' hown' hgrow hlies _
    refine h g cap w' ?_ hgrow hlies
    have e : (l ++ l').length = l.length + l'.length := by simp
    unfold OwnI
    simpa [e] using hown'
theorem append_pls {i0 : TypeInfo} (hi : Try.prog.info? 27 = some i0) (hz0 : i0.zero = some (.agg #[.int .i64 0, .int .i64 0])) (hz1 : i0.size = 2) (hz2 : i0.bytes = 16)
    {ops : Array Oper} {rest : List Oper} {o : Oper} {a : Act} {Q : Exit → Act → World → Prop} (hgd : o.guard = none) (s x : Operand)
    (ho : o.op = .call { callee := .builtin .append, args := #[s, x], argTypes := #[30, 30] })
    (base : Nat) (v : Value) (l l' : List Pl) (wr : World) (b off c : Nat) (hown : OwnPl wr base v l) (hs : a.eval s = v) (hx : a.eval x = .slice (some ⟨b, off, none⟩) l'.length c) (hn : ∀ j (hj : j < l'.length), PlAt wr b (off + j * 2) l'[j]) (hlen : l.length + l'.length ≤ 1000000) (hb : base ≤ wr.heap.size)
    (h : ∀ v' w', OwnPl w' base v' (l ++ l') → wr.grownBy w' v.ownBlock → wpList Try.prog ops Q rest (a.put o.dst v') w') :
    wpList Try.prog ops Q (o :: rest) a wr := by
  refine wpList_append_own _ hgd s x 30 ho base 27 i0 (.agg #[.int .i64 0, .int .i64 0]) 2 16 Try.underlying30 hi hz0 hz1 hz2 rfl (by decide) v l.length _ hs hown ⟨b, off, none⟩ l'.length c (l'.flatMap Pl.cells) hx (flatPl_len _) ?_ ?_ ?_ ?_ hb ?_
  · intro j u hu
    have e : (⟨b, off, none⟩ : Addr).add j = ⟨b, off + j, none⟩ := by unfold Addr.add; split <;> simp_all
    rw [e]
    have hjl : j < l'.length * 2 := by
      have := (List.getElem?_eq_some_iff.1 hu).1
      rw [flatPl_len] at this
      exact this
    have hq : j / 2 < l'.length := by omega
    have hg := flatPl_get l' (j / 2) (j % 2) hq (by omega)
    have e2 : j / 2 * 2 + j % 2 = j := by omega
    rw [e2, hu] at hg
    have hp := hn (j / 2) hq
    rcases Nat.mod_two_eq_zero_or_one j with h0 | h0
    · rw [h0] at hg
      simp only [Pl.cells, List.getElem?_cons_zero, Option.some.injEq] at hg
      have e3 : off + j = off + j / 2 * 2 := by omega
      rw [hg, ← hp.c0, e3]
    · rw [h0] at hg
      simp only [Pl.cells, List.getElem?_cons_succ, List.getElem?_cons_zero, Option.some.injEq] at hg
      have e3 : off + j = off + j / 2 * 2 + 1 := by omega
      rw [hg, ← hp.c1, e3]
  · intro u hu
    obtain ⟨n, _, hu⟩ := List.mem_flatMap.1 hu
    simp [Pl.cells] at hu
    rcases hu with rfl | rfl <;> rfl
  · unfold maxLen; omega
  · omega
  · intro v' w' hown' hgrow _
    refine h v' w' ?_ hgrow
    unfold OwnPl
    simpa [List.flatMap_append] using hown'
/-- While tables are baked: the boxes of the map, of the answer, of what is made; its rows. -/
structure BK (w : World) (side : Int) (A : Option Addr) (c : Nat) (l : List Int) (bo : Nat) (vM vD : Value) (ms : List Pl) (ds : List Int) (wr : World) : Prop where
  g : GB wr w.heap.size side (.slice A l.length c)
  r : TB wr (w.heap.size + 1) (.slice none 0 0) (.slice none 0 0)
  o : TB wr bo vM vD
  oM : OwnPl wr (w.heap.size + 1 + 1) vM ms
  oD : OwnI 2 .i64 wr (w.heap.size + 1 + 1) vD ds
  ap : Apt vM vD
  aM : vM.ownBlock ≠ some bo
  aD : vD.ownBlock ≠ some bo
  bo2 : w.heap.size + 1 + 1 ≤ bo ∧ bo < wr.heap.size
  bel : Below w.heap.size w wr
section
variable {w wr wr' : World} {side : Int} {A : Option Addr} {c : Nat} {l : List Int} {bo : Nat} {vM vD : Value} {ms : List Pl} {ds : List Int}
theorem BK.below (h : BK w side A c l bo vM vD ms ds wr) (hb : Below wr.heap.size wr wr') : BK w side A c l bo vM vD ms ds wr' := by
  obtain ⟨h1, h2⟩ := h.bo2
  exact ⟨h.g.below hb (by omega), h.r.below hb (by omega), h.o.below hb h2, h.oM.keep hb, h.oD.keep hb, h.ap, h.aM, h.aD, ⟨h1, Nat.lt_of_lt_of_le h2 hb.size⟩, h.bel.trans (hb.mono (by omega))⟩
theorem BK.mid (h : BK w side A c l bo vM vD ms ds wr) (hg : wr.grownBy wr' vD.ownBlock) : GB wr' w.heap.size side (.slice A l.length c) ∧ Below w.heap.size w wr' := by
  obtain ⟨h1, h2⟩ := h.bo2
  have lD := World.ownsRow.lt h.oD
  exact ⟨h.g.at5 (hg.block _ (by omega) fun e => by have := (lD _ e.symm).1; omega), h.bel.trans ((Below.refl _ wr).grown hg h.bel.size (fun k e => by have := (lD k e).1; omega))⟩
/-- The row of sums grows, and is stored. -/
theorem BK.push {g cap : Nat} {ds2 : List Int} {n2 : Nat} (h : BK w side A c l bo vM vD ms ds wr) (ho : OwnI 2 .i64 wr' (w.heap.size + 1 + 1) (.slice (some ⟨g, 0, none⟩) n2 cap) ds2) (hg : wr.grownBy wr' vD.ownBlock) (hl : vD.ownBlock = some g ∨ g = wr.heap.size) : BK w side A c l bo vM (.slice (some ⟨g, 0, none⟩) n2 cap) ms ds2 (wr'.setCell ⟨bo, 1, none⟩ (.slice (some ⟨g, 0, none⟩) n2 cap)) := by
  obtain ⟨h1, h2⟩ := h.bo2
  have lD := World.ownsRow.lt h.oD
  have lM := h.oM.lt
  have k : ∀ b, b < w.heap.size + 1 + 1 → wr'.heap[b]? = wr.heap[b]? := fun b hb => hg.block b (by omega) fun e => by have := (lD b e.symm).1; omega
  have kb : wr'.heap[bo]? = wr.heap[bo]? := hg.block bo h2 fun e => h.aD e.symm
  have s : ∀ b, b ≠ bo → (wr'.setCell ⟨bo, 1, none⟩ (.slice (some ⟨g, 0, none⟩) n2 cap)).heap[b]? = wr'.heap[b]? := fun b hb => heap_setCell_other wr' _ b _ hb
  have hgb : g ≠ bo := by
    rcases hl with e | e
    · intro e2; subst e2; exact h.aD e
    · omega
  have hz := hg.size
  have hbb : Below w.heap.size wr wr' := (Below.refl _ wr).grown hg (by omega) (fun k e => by have := (lD k e).1; omega)
  have hlt : w.heap.size ≤ wr.heap.size := h.bel.size
  have oM2 : OwnPl wr' (w.heap.size + 1 + 1) vM ms := h.oM.kept hg (by
    cases e : vM.ownBlock with
    | none => exact .inl rfl
    | some k => exact .inr fun e' => h.ap k e e'.symm)
  refine ⟨(h.g.at5 (k _ (by omega))).at5 (s _ (by omega)), (h.r.at_ (k _ (by omega))).at_ (s _ (by omega)), (h.o.at_ kb).set1 _, ?_, ?_, ?_, h.aM, ?_, ⟨h1, by simpa using Nat.lt_of_lt_of_le h2 hz⟩, (h.bel.trans hbb).setCell (by show _ ≤ bo; omega) _⟩
  · exact oM2.kept (setCell_by wr' ⟨bo, 1, none⟩ _) (.inr h.aM)
  · exact World.ownsRow.kept ho (setCell_by wr' ⟨bo, 1, none⟩ _) (.inr fun e => hgb (Option.some.inj e))
  · intro k hk e
    have e' : k = g := (Option.some.inj e).symm
    subst e'
    rcases hl with h5 | h5
    · exact h.ap k hk h5
    · have := (lM k hk).2; omega
  · intro e
    exact hgb (Option.some.inj e)
end

set_option maxRecDepth 100000 in
set_option maxHeartbeats 2000000 in
theorem mBake_any (side : Int) (A : Option Addr) (c : Nat) (l : List Int) (bm offm cm : Nat) (ms : List Pl) (D : Nat → List Int) (w : World) (h : RI w w.heap.size A l) (hm : RPl w w.heap.size (some ⟨bm, offm, none⟩) ms) (hl : l.length ≤ 1000000000) (hml : ms.length ≤ 1100000) (hd : IsB side l ms D) :
    Calls Try.prog 22 #[.agg #[.int .i64 side, .slice A l.length c], .slice (some ⟨bm, offm, none⟩) ms.length cm] w fun e w' => TOut w w' (bakeM side l ms) (bakeD side l ms D) e := by
  obtain ⟨i1, hi1, hy0, hy1, hy2⟩ := info_parts Try.infoInt
  obtain ⟨i0, hin, hz0, hz1, hz2⟩ := info_parts Try.infoPl
  have H := Lib.hid h
  have HMS := Lib.hid hm
  have hR := fun w h => mRight_any side A c l w h hl
  have HZ : Hid (∀ wr, Below w.heap.size w wr → TOut w wr [] [] (.returned (.agg #[.slice none 0 0, .slice none 0 0]))) := fun wr hb => ⟨none, 0, none, 0, rfl, OwnPl.nil _ _, World.ownsRow_nil _ _ _ _, fun k hk => by simp [Value.ownBlock] at hk, hb⟩
  have HB0 : Hid (GB ((w.alloc (.cells #[.int .i64 side, .slice A l.length c] 25)).alloc (.cells #[.slice none 0 0, .slice none 0 0] 45)) w.heap.size side (.slice A l.length c) ∧ TB ((w.alloc (.cells #[.int .i64 side, .slice A l.length c] 25)).alloc (.cells #[.slice none 0 0, .slice none 0 0] 45)) (w.heap.size + 1) (.slice none 0 0) (.slice none 0 0) ∧ Below w.heap.size w ((w.alloc (.cells #[.int .i64 side, .slice A l.length c] 25)).alloc (.cells #[.slice none 0 0, .slice none 0 0] 45))) :=
    ⟨⟨by simp [go_sem], by simp [go_sem], by simp [go_sem], by simp [go_sem]⟩, ⟨by simp [go_sem], by simp [go_sem], by simp [go_sem], by simp [go_sem]⟩, bel_T (bel_A _ _) (bel_A _ _)⟩
  clear h hm hl
  cases hr : gridRight side l
  · have HE : Hid (bakeM side l ms = [] ∧ bakeD side l ms D = []) := by constructor <;> simp [bakeM, bakeD, bakeOk, hr]
    rw [HE.out.1, HE.out.2]
    rw [hr] at hR
    clear hr hd
    go_enter Try.func22, Try.ntmps22
    go_wp2_with fail
    refine (hR _ ((H.out.below HB0.out.2.2).mono HB0.out.2.2.size)).mono ?_
    rintro e w1 ⟨rfl, hb1⟩
    have HB1 : Hid (GB w1 w.heap.size side (.slice A l.length c) ∧ TB w1 (w.heap.size + 1) (.slice none 0 0) (.slice none 0 0) ∧ Below w.heap.size w w1) := ⟨HB0.out.1.below hb1 (by simp; omega), HB0.out.2.1.below hb1 (by simp), bel_T HB0.out.2.2 hb1⟩
    clear hb1 HB0
    obtain ⟨r0, r1, rf0, rf1⟩ := HB1.out.2.1
    go_wp2_with fail
    refine bodyPost_ret (v := .agg #[.slice none 0 0, .slice none 0 0]) (by simp [results, Try.results22, go_sem, r0, r1]) rfl ?_
    exact HZ.out _ ((HB1.out.2.2.setCell (by simp) _).setCell (by simp) _)
  · rw [hr] at hR
    have HR := Lib.hid hr
    by_cases h4 : ms.length ≤ 4
    · have hq4 : decide ((4 : Int) < (ms.length : Int)) = false := by simp; omega
      have HMSB : Hid (∀ wr, Below w.heap.size w wr → ∀ j (hj : j < ms.length), PlAt wr bm (offm + j * 2) ms[j] ∧ bm < w.heap.size) := by
        intro wr hb j hj
        obtain ⟨b', o', e, hlt, hp⟩ := HMS.out.at_ hj
        cases e
        exact ⟨hp.keep (hb.block _ hlt), hlt⟩
      have HDD := Lib.hid hd
      clear hr hd
      go_enter Try.func22, Try.ntmps22
      go_wp2_with fail
      refine (hR _ ((H.out.below HB0.out.2.2).mono HB0.out.2.2.size)).mono ?_
      rintro e w1 ⟨rfl, hb1⟩
      have HB1 : Hid (GB w1 w.heap.size side (.slice A l.length c) ∧ TB w1 (w.heap.size + 1) (.slice none 0 0) (.slice none 0 0) ∧ Below w.heap.size w w1 ∧ w.heap.size + 1 + 1 ≤ w1.heap.size) := ⟨HB0.out.1.below hb1 (by simp; omega), HB0.out.2.1.below hb1 (by simp), bel_T HB0.out.2.2 hb1, by have := hb1.size; simpa using this⟩
      clear hb1 HB0 hR
      have HO1 := Lib.hid (OwnPl.none_lit w1 (w.heap.size + 1 + 1) HB1.out.2.2.2)
      have HN1 : Hid (∀ j (hj : j < ms.length), PlAt (w1.alloc (.cells #[] 27)) bm (offm + j * 2) ms[j]) := fun j hj => (HMSB.out _ (bel_T HB1.out.2.2.1 (bel_A _ _)) j hj).1
      have hb1z : w.heap.size + 1 + 1 ≤ (w1.alloc (.cells #[] 27)).heap.size := by have := HB1.out.2.2.2; simp; omega
      have HB1Z := Lib.hid hb1z
      have hml2 : ([] : List Pl).length + ms.length ≤ 1000000 := by simp; omega
      clear hb1z
      go_upto_region 3 with fail
      go_wp2_with (at_builtin; refine append_pls hin hz0 hz1 hz2 rfl _ _ rfl (w.heap.size + 1 + 1) (.slice (some ⟨w1.heap.size, 0, none⟩) 0 0) [] ms (w1.alloc (.cells #[] 27)) bm offm cm HO1.out (by simp [Act.eval]) (by simp [Act.eval]) HN1.out hml2 HB1Z.out ?_; intro vM w2 hoM hg2; rw [List.nil_append] at hoM; obtain ⟨AM, cM, rfl⟩ := hoM.form)
      have HK0 : Hid (BK w side A c l w2.heap.size (.slice AM ms.length cM) (.slice none 0 0) ms [] (w2.alloc (.cells #[.slice AM ms.length cM, .slice none 0 0] 45))) := by
        have hz := HB1.out.2.2.2
        have hbw : Below w1.heap.size w1 w2 := (bel_A w1 (.cells #[] 27)).trans ((Below.refl _ _).grown hg2 (by simp) (fun k e => by have e' : w1.heap.size = k := Option.some.inj e; omega))
        have hs2 := hbw.size
        have ho := hoM.lt
        refine ⟨(HB1.out.1.below hbw (by omega)).below (bel_A w2 _) (by omega), (HB1.out.2.1.below hbw (by omega)).below (bel_A w2 _) (by omega), TB.made _ _ _ _, hoM.alloc _, World.ownsRow_nil _ _ _ _, fun k hk => by simp [Value.ownBlock], fun e => by have := (ho _ e).2; omega, by simp [Value.ownBlock], ⟨by omega, by simp⟩, bel_T (bel_T HB1.out.2.2.1 hbw) (bel_A _ _)⟩
      generalize w2.alloc (.cells #[.slice AM ms.length cM, .slice none 0 0] 45) = w3 at HK0 ⊢
      generalize w2.heap.size = bo at HK0 ⊢
      clear hoM hg2 HO1 HN1 HB1Z
      go_wp2_with fail
      go_loopw [6] (fun i wr => ∃ (k : Nat) (AD : Option Addr) (cD : Nat), i = .int .i64 k ∧ k ≤ ms.length ∧ BK w side A c l bo (.slice AM ms.length cM) (.slice AD (flatD D k).length cD) ms (flatD D k) wr ∧ Hid (∀ i (h : i < ms.length), i < k → opn side l ms[i].x ms[i].y = true)) (fun i _ => ms.length - (intOf i).toNat)
      case atStart => exact ⟨0, none, 0, rfl, Nat.zero_le _, HK0.out, fun i _ h => absurd h (by omega)⟩
      case round =>
        obtain ⟨k, AD, cD, rfl, hk, hbk, HOP⟩ := hrel
        have HK := Lib.hid hbk
        clear HK0 hbk
        by_cases hlt : k < ms.length
        · have hkI : (k : Int) < (ms.length : Int) := by omega
          have hp := HMSB.out wr HK.out.bel k hlt
          have HDk := Lib.hid (fun ho => HDD.out k hlt ho)
          have HOk : Hid (∀ b, opn side l ms[k].x ms[k].y = b → ∀ i (h : i < ms.length), i < k + 1 → b = true → opn side l ms[i].x ms[i].y = true) := by
            intro b hb i hi hik hbt
            by_cases e : i < k
            · exact HOP.out i hi e
            · obtain rfl : i = k := by omega
              exact hb.trans hbt
          have HNO : Hid (opn side l ms[k].x ms[k].y = false → bakeM side l ms = [] ∧ bakeD side l ms D = []) := by
            intro ho
            have : bakeOk side l ms = false := by
              cases e : bakeOk side l ms
              · rfl
              · simp only [bakeOk, Bool.and_eq_true, List.all_eq_true] at e
                rw [e.2 _ (List.getElem_mem hlt)] at ho
                cases ho
            constructor <;> simp [bakeM, bakeD, this]
          have HPK : Hid (∀ V, Below w.heap.size w V → PlAt V bm (offm + k * 2) ms[k]) := fun V hb => (HMSB.out V hb k hlt).1
          generalize ms[k] = p at hp HDk HOk HNO HPK
          obtain ⟨ux, uy⟩ := p
          simp only at hp HDk HOk HNO HPK
          have hOp := fun w h => mOpen5_any side ux uy A c l w h HR.out
          have HSS : Hid (∀ wr', Below wr.heap.size wr wr' → wr'.cell? ⟨w.heap.size, 0, none⟩ = some (.int .i64 side) ∧ wr'.cell? ⟨w.heap.size, 1, none⟩ = some (.slice A l.length c) ∧ wr'.cell? ⟨bm, offm + k * 2, none⟩ = some (.int .i64 ux) ∧ wr'.cell? ⟨bm, offm + k * 2 + 1, none⟩ = some (.int .i64 uy)) := fun wr' hb => ⟨(HK.out.below hb).g.c0, (HK.out.below hb).g.c1, (HPK.out wr' (bel_T HK.out.bel hb)).c0, (HPK.out wr' (bel_T HK.out.bel hb)).c1⟩
          have hkeep := HSS.out _ (bel_D wr)
          cases ho : opn side l ux uy
          · rw [ho] at hOp HNO
            clear ho hp
            go_upto_region 7 with fail
            go_region_held3 (fun w' => w'.cell? ⟨w.heap.size, 0, none⟩ = some (.int .i64 side) ∧ w'.cell? ⟨w.heap.size, 1, none⟩ = some (.slice A l.length c) ∧ w'.cell? ⟨bm, offm + k * 2, none⟩ = some (.int .i64 ux) ∧ w'.cell? ⟨bm, offm + k * 2 + 1, none⟩ = some (.int .i64 uy))
              (first | (with_reducible exact hkeep) | go_keep)
              (first | (go_at_call 61; refine (hOp _ ((H.out.below (bel_T HK.out.bel (bel_D wr))).mono (bel_T HK.out.bel (bel_D wr)).size)).mono ?_; rintro e w4 ⟨rfl, hb⟩; have hb4 := bel_T (bel_D wr) hb; clear hkeep; have hkeep := HSS.out _ hb4; clear hb))
            have HK4 := Lib.hid (HK.out.below hb4)
            obtain ⟨r0, r1, rf0, rf1⟩ := HK4.out.r
            clear hkeep hb4
            go_wp2_with fail
            refine bodyPost_ret (v := .agg #[.slice none 0 0, .slice none 0 0]) (by simp [results, Try.results22, go_sem, r0, r1]) rfl ?_
            rw [(HNO.out (by trivial)).1, (HNO.out (by trivial)).2]
            exact HZ.out _ ((HK4.out.bel.setCell (by simp) _).setCell (by simp) _)
          · rw [ho] at hOp
            have HO1 := Lib.hid (HOk.out true ho)
            have hD := fun w h => mL05Dists_any side ux uy A c l (D k) w h HR.out ho (HDk.out (by rw [HR.out, ho]; rfl))
            have HDL : Hid ((D k).length = l.length) := (HDk.out (by rw [HR.out, ho]; rfl)).len
            have HL0 : Hid (0 < l.length) := by have := (opn_parts HR.out ho).2.1; show _ < _; omega
            clear ho hp
            go_upto_region 7 with fail
            go_region_held3 (fun w' => w'.cell? ⟨w.heap.size, 0, none⟩ = some (.int .i64 side) ∧ w'.cell? ⟨w.heap.size, 1, none⟩ = some (.slice A l.length c) ∧ w'.cell? ⟨bm, offm + k * 2, none⟩ = some (.int .i64 ux) ∧ w'.cell? ⟨bm, offm + k * 2 + 1, none⟩ = some (.int .i64 uy))
              (first | (with_reducible exact hkeep) | go_keep)
              (first | (go_at_call 61; refine (hOp _ ((H.out.below (bel_T HK.out.bel (bel_D wr))).mono (bel_T HK.out.bel (bel_D wr)).size)).mono ?_; rintro e w4 ⟨rfl, hb⟩; have hb4 := bel_T (bel_D wr) hb; clear hkeep; have hkeep := HSS.out _ hb4; clear hb))
            have HK4 := Lib.hid (HK.out.below hb4)
            have HB4 := Lib.hid hb4
            clear hkeep hb4
            have HS9 : Hid (∀ wr', Below w4.heap.size w4 wr' → wr'.cell? ⟨w.heap.size, 0, none⟩ = some (.int .i64 side) ∧ wr'.cell? ⟨w.heap.size, 1, none⟩ = some (.slice A l.length c) ∧ wr'.cell? ⟨bm, offm + k * 2, none⟩ = some (.int .i64 ux) ∧ wr'.cell? ⟨bm, offm + k * 2 + 1, none⟩ = some (.int .i64 uy) ∧ wr'.cell? ⟨bo, 1, none⟩ = some (.slice AD (flatD D k).length cD)) := fun wr' hb => ⟨(HK4.out.below hb).g.c0, (HK4.out.below hb).g.c1, (HPK.out wr' (bel_T HK4.out.bel hb)).c0, (HPK.out wr' (bel_T HK4.out.bel hb)).c1, (HK4.out.below hb).o.c1⟩
            have k9 := HS9.out _ (bel_D w4)
            have hkeep := And.intro k9.1 (And.intro k9.2.1 (And.intro k9.2.2.1 k9.2.2.2.1))
            have c91 := k9.2.2.2.2
            clear k9
            have HFL : Hid ((flatD D k).length + (D k).length ≤ 1000000) := by
              have h1 := flatD_len HDD.out HR.out k (by omega) HOP.out
              have h2 := HDL.out
              have h3 := right_len HR.out
              have h4 := Nat.mul_le_mul (show k ≤ 4 by omega) h3
              show _ ≤ _
              omega
            go_upto_region 9 with fail
            have hf1 := HK4.out.o.f1
            refine wp_region_noPanic ?_
            refine wp_region_held_drew (S := (fun w' => w'.cell? ⟨w.heap.size, 0, none⟩ = some (.int .i64 side) ∧ w'.cell? ⟨w.heap.size, 1, none⟩ = some (.slice A l.length c) ∧ w'.cell? ⟨bm, offm + k * 2, none⟩ = some (.int .i64 ux) ∧ w'.cell? ⟨bm, offm + k * 2 + 1, none⟩ = some (.int .i64 uy))) (by kernel_rfl) hkeep (fun hHeld => ?_)
            refine wpAnyH_take (i := 0) (v := ?_) rfl (by kernel_rfl) (by kernel_rfl) (by kernel_rfl) (fun _ _ _ h => h) (Or.inl ⟨by rfl, ?_⟩) (by assumption) ?_
            rotate_left 1
            · (intro w' hSw; (try dsimp only at hSw); go_simp <;> with_reducible rfl)
            simp only [Act.put, List.getElem_toArray, List.getElem_cons_succ, List.getElem_cons_zero, List.setIfInBounds_toArray, List.set_cons_zero, List.set_cons_succ]
            refine wpAnyH_take (i := 2) (v := ?_) rfl (by kernel_rfl) (by kernel_rfl) (by kernel_rfl) (fun _ _ _ h => h) (Or.inl ⟨by rfl, ?_⟩) (by assumption) ?_
            rotate_left 1
            · (intro w' hSw; (try dsimp only at hSw); go_simp <;> with_reducible rfl)
            simp only [Act.put, List.getElem_toArray, List.getElem_cons_succ, List.getElem_cons_zero, List.setIfInBounds_toArray, List.set_cons_zero, List.set_cons_succ]
            refine wpAnyH_take (i := 3) (v := ?_) rfl (by kernel_rfl) (by kernel_rfl) (by kernel_rfl) (fun _ _ _ h => h) (Or.inl ⟨by rfl, ?_⟩) (by assumption) ?_
            rotate_left 1
            · (intro w' hSw; (try dsimp only at hSw); go_simp <;> with_reducible rfl)
            simp only [Act.put, List.getElem_toArray, List.getElem_cons_succ, List.getElem_cons_zero, List.setIfInBounds_toArray, List.set_cons_zero, List.set_cons_succ]
            refine wpAnyH_take (i := 4) (v := ?_) rfl (by kernel_rfl) (by kernel_rfl) (by kernel_rfl) (fun _ _ _ h => h) (Or.inl ⟨by rfl, ?_⟩) (by assumption) ?_
            rotate_left 1
            · (intro w' hSw; (try dsimp only at hSw); go_simp <;> with_reducible rfl)
            simp only [Act.put, List.getElem_toArray, List.getElem_cons_succ, List.getElem_cons_zero, List.setIfInBounds_toArray, List.set_cons_zero, List.set_cons_succ]
            refine wpAnyH_take (i := 5) (v := ?_) rfl (by kernel_rfl) (by kernel_rfl) (by kernel_rfl) (fun _ _ _ h => h) (Or.inl ⟨by rfl, ?_⟩) (by assumption) ?_
            rotate_left 1
            · (intro w' hSw; (try dsimp only at hSw); go_simp <;> with_reducible rfl)
            simp only [Act.put, List.getElem_toArray, List.getElem_cons_succ, List.getElem_cons_zero, List.setIfInBounds_toArray, List.set_cons_zero, List.set_cons_succ]
            refine wpAnyH_take (i := 6) (v := ?_) rfl (by kernel_rfl) (by kernel_rfl) (by kernel_rfl) (fun _ _ _ h => h) (Or.inl ⟨by rfl, ?_⟩) (by assumption) ?_
            rotate_left 1
            · (intro w' hSw; (try dsimp only at hSw); go_simp <;> with_reducible rfl)
            simp only [Act.put, List.getElem_toArray, List.getElem_cons_succ, List.getElem_cons_zero, List.setIfInBounds_toArray, List.set_cons_zero, List.set_cons_succ]
            refine wpAnyH_ready (rs := [1, 7]) (by kernel_rfl) (by simp) ?_
            refine (AllReadyH.cons rfl (fun K hK => ?_) (AllReadyH.cons rfl (fun K hK => ?_) AllReadyH.nil))
            · skip
              go_simp
              refine hK.out _ _ ?_ (fun hHeld => ?_)
              · (first | (with_reducible exact hkeep) | (with_reducible exact And.intro HK7.out.g.c0 (And.intro HK7.out.g.c1 (And.intro (HPK.out _ HK7.out.bel).c0 (HPK.out _ HK7.out.bel).c1))) | go_keep)
              clear hK K
              try simp only [Act.put, List.getElem_toArray, List.getElem_cons_succ, List.getElem_cons_zero, List.setIfInBounds_toArray, List.set_cons_zero, List.set_cons_succ]
              refine wpAnyH_ready (rs := [7]) (by kernel_rfl) (by simp) ?_
              refine (AllReadyH.cons rfl (fun K hK => ?_) AllReadyH.nil)
              go_simp
              (go_at_call 47; refine (hD _ ((H.out.below (bel_T HK4.out.bel (bel_D w4))).mono (bel_T HK4.out.bel (bel_D w4)).size)).mono ?_; rintro e w5 ⟨A5, c5, rfl, ho5, hb⟩; have HK5 := Lib.hid (HK4.out.below (bel_T (bel_D w4) hb)); have HO5 := Lib.hid ho5; obtain ⟨g5, rfl, _, _, _, _⟩ := ho5.at_ (j := 0) (by rw [HDL.out]; exact HL0.out); have HN5 : Hid (∀ j (hj : j < (D k).length), w5.cell? ⟨g5, 0 + j, none⟩ = some (.int .i64 (D k)[j])) := by { intro j hj; obtain ⟨g6, e6, _, _, hc6, _⟩ := HO5.out.at_ hj; cases e6; rw [Nat.zero_add]; exact hc6 }; have HL5 : Hid (0 < (D k).length) := by { rw [HDL.out]; exact HL0.out }; have HZ5 : Hid (w.heap.size + 1 + 1 ≤ w5.heap.size) := Nat.le_of_lt (Nat.lt_of_le_of_lt HK5.out.bo2.1 HK5.out.bo2.2); have k9 := HS9.out _ (bel_T (bel_D w4) hb); clear hkeep; have hkeep := And.intro k9.1 (And.intro k9.2.1 (And.intro k9.2.2.1 k9.2.2.2.1)); have c91 := k9.2.2.2.2; clear hb)
              try go_wp2_with fail
              refine hK.out _ _ ?_ (fun hHeld => ?_)
              · (first | (with_reducible exact hkeep) | (with_reducible exact And.intro HK7.out.g.c0 (And.intro HK7.out.g.c1 (And.intro (HPK.out _ HK7.out.bel).c0 (HPK.out _ HK7.out.bel).c1))) | go_keep)
              clear hK K
              try simp only [Act.put, List.getElem_toArray, List.getElem_cons_succ, List.getElem_cons_zero, List.setIfInBounds_toArray, List.set_cons_zero, List.set_cons_succ]
              refine wpAnyH_ready (rs := [8]) (by kernel_rfl) (by simp) ?_
              refine (AllReadyH.cons rfl (fun K hK => ?_) AllReadyH.nil)
              (refine step_app_ints hi1 hy0 hy1 hy2 (by rfl) _ _ (by rfl) (w.heap.size + 1 + 1) (.slice AD (flatD D k).length cD) (flatD D k) (D k) w5 g5 0 c5 HK5.out.oD (by rfl) (by rfl) HN5.out HL5.out HFL.out HZ5.out ?_; intro g cap w6 ho6 hg6 hl6; have c6 := (World.cell?_of_block (a := ⟨bo, 1, none⟩) (hg6.block bo HK5.out.bo2.2 (fun e => HK5.out.aD e.symm))).trans HK5.out.o.c1; have f6 := (World.frozen?_of_block (a := ⟨bo, 1, none⟩) (hg6.block bo HK5.out.bo2.2 (fun e => HK5.out.aD e.symm))).trans HK5.out.o.f1; have HG6 := Lib.hid (HK5.out.mid hg6); have HK7 := Lib.hid (HK5.out.push ho6 hg6 hl6); clear hkeep; have hkeep := And.intro HG6.out.1.c0 (And.intro HG6.out.1.c1 (And.intro (HPK.out _ HG6.out.2).c0 (HPK.out _ HG6.out.2).c1)))
              refine hK.out _ _ ?_ (fun hHeld => ?_)
              · (first | (with_reducible exact hkeep) | (with_reducible exact And.intro HK7.out.g.c0 (And.intro HK7.out.g.c1 (And.intro (HPK.out _ HK7.out.bel).c0 (HPK.out _ HK7.out.bel).c1))) | go_keep)
              clear hK K
              try simp only [Act.put, List.getElem_toArray, List.getElem_cons_succ, List.getElem_cons_zero, List.setIfInBounds_toArray, List.set_cons_zero, List.set_cons_succ]
              refine wpAnyH_take (i := 9) (v := ?_) rfl (by kernel_rfl) (by kernel_rfl) (by kernel_rfl) (fun _ _ _ h => h) (Or.inl ⟨by rfl, ?_⟩) (by assumption) ?_
              rotate_left 1
              · (intro w' hSw; (try dsimp only at hSw); go_simp <;> with_reducible rfl)
              simp only [Act.put, List.getElem_toArray, List.getElem_cons_succ, List.getElem_cons_zero, List.setIfInBounds_toArray, List.set_cons_zero, List.set_cons_succ]
              refine wpAnyH_ready (rs := [10]) (by kernel_rfl) (by simp) ?_
              refine (AllReadyH.cons rfl (fun K hK => ?_) AllReadyH.nil)
              go_simp
              refine hK.out _ _ ?_ (fun hHeld => ?_)
              · (first | (with_reducible exact hkeep) | (with_reducible exact And.intro HK7.out.g.c0 (And.intro HK7.out.g.c1 (And.intro (HPK.out _ HK7.out.bel).c0 (HPK.out _ HK7.out.bel).c1))) | go_keep)
              clear hK K
              try simp only [Act.put, List.getElem_toArray, List.getElem_cons_succ, List.getElem_cons_zero, List.setIfInBounds_toArray, List.set_cons_zero, List.set_cons_succ]
              refine wpAnyH_done (by kernel_rfl) ?_ _
              refine NoPanic.normal ?_
              have HK8 : Hid (BK w side A c l bo (.slice AM ms.length cM) (.slice (some ⟨g, 0, none⟩) (flatD D (k + 1)).length cap) ms (flatD D (k + 1)) (w6.setCell ⟨bo, 1, none⟩ (.slice (some ⟨g, 0, none⟩) ((flatD D k).length + (D k).length) cap))) := by have h7 := HK7.out; rw [flatD_succ, List.length_append]; exact h7
              clear hkeep c6 f6 HG6 HK7 c91 hf1 ho6 hg6 hl6
              go_wp2_with fail
              go_roundw
              case rel => exact ⟨k + 1, some ⟨g, 0, none⟩, cap, by go_num, by omega, HK8.out, fun i h h2 => HO1.out i h h2 (by trivial)⟩
              case measure => simp [intOf] <;> omega
            · skip
              go_simp
              (go_at_call 47; refine (hD _ ((H.out.below (bel_T HK4.out.bel (bel_D w4))).mono (bel_T HK4.out.bel (bel_D w4)).size)).mono ?_; rintro e w5 ⟨A5, c5, rfl, ho5, hb⟩; have HK5 := Lib.hid (HK4.out.below (bel_T (bel_D w4) hb)); have HO5 := Lib.hid ho5; obtain ⟨g5, rfl, _, _, _, _⟩ := ho5.at_ (j := 0) (by rw [HDL.out]; exact HL0.out); have HN5 : Hid (∀ j (hj : j < (D k).length), w5.cell? ⟨g5, 0 + j, none⟩ = some (.int .i64 (D k)[j])) := by { intro j hj; obtain ⟨g6, e6, _, _, hc6, _⟩ := HO5.out.at_ hj; cases e6; rw [Nat.zero_add]; exact hc6 }; have HL5 : Hid (0 < (D k).length) := by { rw [HDL.out]; exact HL0.out }; have HZ5 : Hid (w.heap.size + 1 + 1 ≤ w5.heap.size) := Nat.le_of_lt (Nat.lt_of_le_of_lt HK5.out.bo2.1 HK5.out.bo2.2); have k9 := HS9.out _ (bel_T (bel_D w4) hb); clear hkeep; have hkeep := And.intro k9.1 (And.intro k9.2.1 (And.intro k9.2.2.1 k9.2.2.2.1)); have c91 := k9.2.2.2.2; clear hb)
              try go_wp2_with fail
              refine hK.out _ _ ?_ (fun hHeld => ?_)
              · (first | (with_reducible exact hkeep) | (with_reducible exact And.intro HK7.out.g.c0 (And.intro HK7.out.g.c1 (And.intro (HPK.out _ HK7.out.bel).c0 (HPK.out _ HK7.out.bel).c1))) | go_keep)
              clear hK K
              try simp only [Act.put, List.getElem_toArray, List.getElem_cons_succ, List.getElem_cons_zero, List.setIfInBounds_toArray, List.set_cons_zero, List.set_cons_succ]
              refine wpAnyH_ready (rs := [1]) (by kernel_rfl) (by simp) ?_
              refine (AllReadyH.cons rfl (fun K hK => ?_) AllReadyH.nil)
              go_simp
              refine hK.out _ _ ?_ (fun hHeld => ?_)
              · (first | (with_reducible exact hkeep) | (with_reducible exact And.intro HK7.out.g.c0 (And.intro HK7.out.g.c1 (And.intro (HPK.out _ HK7.out.bel).c0 (HPK.out _ HK7.out.bel).c1))) | go_keep)
              clear hK K
              try simp only [Act.put, List.getElem_toArray, List.getElem_cons_succ, List.getElem_cons_zero, List.setIfInBounds_toArray, List.set_cons_zero, List.set_cons_succ]
              refine wpAnyH_ready (rs := [8]) (by kernel_rfl) (by simp) ?_
              refine (AllReadyH.cons rfl (fun K hK => ?_) AllReadyH.nil)
              (refine step_app_ints hi1 hy0 hy1 hy2 (by rfl) _ _ (by rfl) (w.heap.size + 1 + 1) (.slice AD (flatD D k).length cD) (flatD D k) (D k) w5 g5 0 c5 HK5.out.oD (by rfl) (by rfl) HN5.out HL5.out HFL.out HZ5.out ?_; intro g cap w6 ho6 hg6 hl6; have c6 := (World.cell?_of_block (a := ⟨bo, 1, none⟩) (hg6.block bo HK5.out.bo2.2 (fun e => HK5.out.aD e.symm))).trans HK5.out.o.c1; have f6 := (World.frozen?_of_block (a := ⟨bo, 1, none⟩) (hg6.block bo HK5.out.bo2.2 (fun e => HK5.out.aD e.symm))).trans HK5.out.o.f1; have HG6 := Lib.hid (HK5.out.mid hg6); have HK7 := Lib.hid (HK5.out.push ho6 hg6 hl6); clear hkeep; have hkeep := And.intro HG6.out.1.c0 (And.intro HG6.out.1.c1 (And.intro (HPK.out _ HG6.out.2).c0 (HPK.out _ HG6.out.2).c1)))
              refine hK.out _ _ ?_ (fun hHeld => ?_)
              · (first | (with_reducible exact hkeep) | (with_reducible exact And.intro HK7.out.g.c0 (And.intro HK7.out.g.c1 (And.intro (HPK.out _ HK7.out.bel).c0 (HPK.out _ HK7.out.bel).c1))) | go_keep)
              clear hK K
              try simp only [Act.put, List.getElem_toArray, List.getElem_cons_succ, List.getElem_cons_zero, List.setIfInBounds_toArray, List.set_cons_zero, List.set_cons_succ]
              refine wpAnyH_take (i := 9) (v := ?_) rfl (by kernel_rfl) (by kernel_rfl) (by kernel_rfl) (fun _ _ _ h => h) (Or.inl ⟨by rfl, ?_⟩) (by assumption) ?_
              rotate_left 1
              · (intro w' hSw; (try dsimp only at hSw); go_simp <;> with_reducible rfl)
              simp only [Act.put, List.getElem_toArray, List.getElem_cons_succ, List.getElem_cons_zero, List.setIfInBounds_toArray, List.set_cons_zero, List.set_cons_succ]
              refine wpAnyH_ready (rs := [10]) (by kernel_rfl) (by simp) ?_
              refine (AllReadyH.cons rfl (fun K hK => ?_) AllReadyH.nil)
              go_simp
              refine hK.out _ _ ?_ (fun hHeld => ?_)
              · (first | (with_reducible exact hkeep) | (with_reducible exact And.intro HK7.out.g.c0 (And.intro HK7.out.g.c1 (And.intro (HPK.out _ HK7.out.bel).c0 (HPK.out _ HK7.out.bel).c1))) | go_keep)
              clear hK K
              try simp only [Act.put, List.getElem_toArray, List.getElem_cons_succ, List.getElem_cons_zero, List.setIfInBounds_toArray, List.set_cons_zero, List.set_cons_succ]
              refine wpAnyH_done (by kernel_rfl) ?_ _
              refine NoPanic.normal ?_
              have HK8 : Hid (BK w side A c l bo (.slice AM ms.length cM) (.slice (some ⟨g, 0, none⟩) (flatD D (k + 1)).length cap) ms (flatD D (k + 1)) (w6.setCell ⟨bo, 1, none⟩ (.slice (some ⟨g, 0, none⟩) ((flatD D k).length + (D k).length) cap))) := by have h7 := HK7.out; rw [flatD_succ, List.length_append]; exact h7
              clear hkeep c6 f6 HG6 HK7 c91 hf1 ho6 hg6 hl6
              go_wp2_with fail
              go_roundw
              case rel => exact ⟨k + 1, some ⟨g, 0, none⟩, cap, by go_num, by omega, HK8.out, fun i h h2 => HO1.out i h h2 (by trivial)⟩
              case measure => simp [intOf] <;> omega
        · obtain rfl : k = ms.length := by omega
          have HE : Hid (bakeM side l ms = ms ∧ bakeD side l ms D = flatD D ms.length) := by
            have : bakeOk side l ms = true := by
              simp only [bakeOk, Bool.and_eq_true, List.all_eq_true, decide_eq_true_eq]
              refine ⟨⟨HR.out, h4⟩, fun p hp => ?_⟩
              obtain ⟨i, hi, rfl⟩ := List.getElem_of_mem hp
              exact HOP.out i hi hi
            constructor <;> simp [bakeM, bakeD, this]
          obtain ⟨r0, r1, rf0, rf1⟩ := HK.out.r
          obtain ⟨o0, o1, _, _⟩ := HK.out.o
          have hn1 : ¬ bo = w.heap.size + 1 := by have := HK.out.bo2.1; omega
          go_wp2_with fail
          refine bodyPost_ret (v := .agg #[.slice AM ms.length cM, .slice AD (flatD D ms.length).length cD]) (by simp [results, Try.results22, go_sem, r0, r1]) rfl ?_
          rw [HE.out.1, HE.out.2]
          refine ⟨AM, cM, AD, cD, rfl, ?_, ?_, HK.out.ap, (HK.out.bel.setCell (by simp) _).setCell (by simp) _⟩
          · exact OwnPl.lower (by omega) (OwnPl.set_below (by simp) _ (OwnPl.set_below (by simp) _ HK.out.oM))
          · exact OwnI.lower (by omega) (OwnI.set_below (by simp) _ (OwnI.set_below (by simp) _ HK.out.oD))
    · have hq4 : decide ((4 : Int) < (ms.length : Int)) = true := by simp; omega
      have HE : Hid (bakeM side l ms = [] ∧ bakeD side l ms D = []) := by
        have : bakeOk side l ms = false := by simp [bakeOk, h4]
        constructor <;> simp [bakeM, bakeD, this]
      rw [HE.out.1, HE.out.2]
      clear hr hd
      go_enter Try.func22, Try.ntmps22
      go_wp2_with fail
      refine (hR _ ((H.out.below HB0.out.2.2).mono HB0.out.2.2.size)).mono ?_
      rintro e w1 ⟨rfl, hb1⟩
      have HB1 : Hid (GB w1 w.heap.size side (.slice A l.length c) ∧ TB w1 (w.heap.size + 1) (.slice none 0 0) (.slice none 0 0) ∧ Below w.heap.size w w1) := ⟨HB0.out.1.below hb1 (by simp; omega), HB0.out.2.1.below hb1 (by simp), bel_T HB0.out.2.2 hb1⟩
      clear hb1 HB0
      obtain ⟨r0, r1, rf0, rf1⟩ := HB1.out.2.1
      go_wp2_with fail
      refine bodyPost_ret (v := .agg #[.slice none 0 0, .slice none 0 0]) (by simp [results, Try.results22, go_sem, r0, r1]) rfl ?_
      exact HZ.out _ ((HB1.out.2.2.setCell (by simp) _).setCell (by simp) _)
end Go.Proofs.Ytghnanojmgddfaa
