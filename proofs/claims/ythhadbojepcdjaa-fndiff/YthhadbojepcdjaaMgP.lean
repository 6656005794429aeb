/- The program's Merge. -/
import Derived.Test.YthhadbojepcdjaaMgM
import Derived.Test.YthhadbojepcdjaaDfP
namespace Go.Proofs.Ythhadbojepcdjaa
open Go.RowKit
set_option linter.unusedVariables false
set_option linter.unusedSimpArgs false

set_option maxHeartbeats 1000000 in
theorem pMergeTile_any (o a b : Int) (w : World) :
    Calls Try.prog 36 #[.int .i64 o, .int .i64 a, .int .i64 b] w fun e w' => e = .returned (.tuple #[.int .i64 (mTile o a b), .bool (mClash o a b)]) ∧ w = w' := by
  by_cases h1 : b = o
  · have e1 : mTile o a b = a := by simp [mTile, h1]
    have e2 : mClash o a b = false := by simp [mClash, h1]
    rw [e1, e2]
    clear e1 e2
    subst h1
    go_enter Try.func36, Try.ntmps36
    go_wp2
    refine bodyPost_ret (v := .tuple #[.int .i64 a, .bool false]) (by simp [results, Try.results36, go_sem]) rfl ⟨rfl, rfl⟩
  · have b1 : (b == o) = false := by simpa using h1
    by_cases h2 : a = b
    · have e1 : mTile o a b = a := by simp [mTile, h2]
      have e2 : mClash o a b = false := by simp [mClash, h2]
      rw [e1, e2]
      clear e1 e2
      subst h2
      go_enter Try.func36, Try.ntmps36
      go_wp2
      refine bodyPost_ret (v := .tuple #[.int .i64 a, .bool false]) (by simp [results, Try.results36, go_sem]) rfl ⟨rfl, rfl⟩
    · have b2 : (a == b) = false := by simpa using h2
      by_cases h3 : a = o
      · have e1 : mTile o a b = b := by rw [mTile, if_neg (by simp [h1, h2]), if_pos h3]
        have e2 : mClash o a b = false := by simp [mClash, h3]
        rw [e1, e2]
        clear e1 e2
        subst h3
        go_enter Try.func36, Try.ntmps36
        go_wp2
        refine bodyPost_ret (v := .tuple #[.int .i64 b, .bool false]) (by simp [results, Try.results36, go_sem]) rfl ⟨rfl, rfl⟩
      · have b3 : (a == o) = false := by simpa using h3
        have e1 : mTile o a b = a := by rw [mTile, if_neg (by simp [h1, h2]), if_neg h3]
        have e2 : mClash o a b = true := by simp [mClash, h1, h2, h3]
        rw [e1, e2]
        clear e1 e2
        go_enter Try.func36, Try.ntmps36
        go_wp2
        refine bodyPost_ret (v := .tuple #[.int .i64 a, .bool true]) (by simp [results, Try.results36, go_sem]) rfl ⟨rfl, rfl⟩

theorem threeRight_eq (so sa sb : Int) (A A' : Option Addr) (c c' : Nat) (lo la lb : List Int) : ([(⟨sa, A, c, la⟩ : Gd), ⟨sb, A', c', lb⟩].all (Gd.fits so) && gridRight so lo) = threeRight so lo sa la sb lb := by
  simp only [List.all_cons, List.all_nil, Gd.fits, threeRight, Bool.and_true]
  cases gridRight so lo <;> cases gridRight sa la <;> cases gridRight sb lb <;> cases (sa == so) <;> cases (sb == so) <;> rfl
theorem threeRight_parts {so sa sb : Int} {lo la lb : List Int} (h : threeRight so lo sa la sb lb = true) : gridRight so lo = true ∧ gridRight sa la = true ∧ gridRight sb lb = true ∧ sa = so ∧ sb = so := by
  simp only [threeRight, Bool.and_eq_true, beq_iff_eq] at h
  exact ⟨h.1.1.1.1, h.1.1.1.2, h.1.1.2, h.1.2, h.2⟩
theorem append_int_lies {P : Program} {t e : TypeId} {k : IntKind} {by_ : Nat} {i : TypeInfo} (ht : P.underlying t = some (.slice e)) (hi : P.info? e = some i) (hz : i.zero = some (.int k 0)) (hsz : i.size = 1) (hby : i.bytes = by_) (h8 : by_ ≤ 8)
    {ops : Array Oper} {rest : List Oper} {o : Oper} {a : Act} {Q : Exit → Act → World → Prop} (hgd : o.guard = none) (s x : Operand)
    (ho : o.op = .call { callee := .builtin .append, args := #[s, x], argTypes := #[t, t] })
    (base : Nat) (v : Value) (l : List Int) (b : Int) (wr : World) (hown : OwnI e k wr base v l) (hs : a.eval s = v)
    (hx : a.eval x = .slice (some ⟨wr.heap.size, 0, none⟩) 1 1) (hlen : l.length < 17000000000000) (hb : base ≤ wr.heap.size)
    (h : ∀ g cap w', OwnI e k w' base (.slice (some ⟨g, 0, none⟩) (l.length + 1) cap) (l ++ [b]) → (wr.alloc (.cells #[.int k b] e)).grownBy w' v.ownBlock → (v.ownBlock = some g ∨ g = (wr.alloc (.cells #[.int k b] e)).heap.size) → wpList P ops Q rest (a.put o.dst (.slice (some ⟨g, 0, none⟩) (l.length + 1) cap)) w') :
    wpList P ops Q (o :: rest) a (wr.alloc (.cells #[.int k b] e)) := by
  refine wpList_append_lies _ hgd s x t ho base e i (.int k 0) 1 by_ ht hi hz hsz hby rfl (by decide) v l.length _ hs (World.ownsRow.alloc hown _) ⟨wr.heap.size, 0, none⟩ 1 1 [.int k b] hx rfl ?_ ?_ (by decide) ?_ ?_ ?_ _ rfl ?_
  · exact cell_one_new _ _ _
  · intro u hu; simp at hu; subst hu; rfl
  · unfold maxLen; omega
  · have h1 : (l.length + 1) * by_ ≤ (l.length + 1) * 8 := Nat.mul_le_mul_left _ h8
    omega
  · simp; omega
  · intro g cap w' hown' hgrow hlies _
    refine h g cap w' ?_ hgrow hlies
    simpa [OwnI] using hown'

set_option maxRecDepth 100000 in
set_option maxHeartbeats 2000000 in
theorem pMerge_any (so : Int) (Ao : Option Addr) (co : Nat) (lo : List Int) (sa : Int) (A : Option Addr) (c : Nat) (la : List Int) (sb : Int) (A' : Option Addr) (c' : Nat) (lb : List Int) (w : World) (ho : RI w w.heap.size Ao lo) (h : RI w w.heap.size A la) (h' : RI w w.heap.size A' lb) (hlo : lo.length ≤ 1000000000) (hl : la.length ≤ 1000000000) (hl' : lb.length ≤ 1000000000) :
    Calls Try.prog 19 #[.agg #[.int .i64 so, .slice Ao lo.length co], .agg #[.int .i64 sa, .slice A la.length c], .agg #[.int .i64 sb, .slice A' lb.length c']] w fun e w' => MOut w w' (mergeOut so lo sa la sb lb) e := by
  obtain ⟨i0, hi, hz0, hz1, hz2⟩ := info_parts Try.infoCh
  obtain ⟨i1, hi1, hy0, hy1, hy2⟩ := info_parts Try.infoInt
  have HO := Lib.hid ho
  have H := Lib.hid h
  have H' := Lib.hid h'
  clear ho h h'
  have HM0 := Lib.hid (M3.made w so (.slice Ao lo.length co) sa (.slice A la.length c) sb (.slice A' lb.length c'))
  have hba : Below ((((w.alloc (.cells #[.int .i64 so, .slice Ao lo.length co] 25)).alloc (.cells #[.int .i64 sa, .slice A la.length c] 25)).alloc (.cells #[.int .i64 sb, .slice A' lb.length c'] 25)).alloc (.cells #[.int .i64 0, .slice none 0 0, .slice none 0 0, .int .i64 0] 45)).heap.size ((((w.alloc (.cells #[.int .i64 so, .slice Ao lo.length co] 25)).alloc (.cells #[.int .i64 sa, .slice A la.length c] 25)).alloc (.cells #[.int .i64 sb, .slice A' lb.length c'] 25)).alloc (.cells #[.int .i64 0, .slice none 0 0, .slice none 0 0, .int .i64 0] 45)) (((((w.alloc (.cells #[.int .i64 so, .slice Ao lo.length co] 25)).alloc (.cells #[.int .i64 sa, .slice A la.length c] 25)).alloc (.cells #[.int .i64 sb, .slice A' lb.length c'] 25)).alloc (.cells #[.int .i64 0, .slice none 0 0, .slice none 0 0, .int .i64 0] 45)).alloc (.cells #[.int .i64 sa, .slice A la.length c, .int .i64 sb, .slice A' lb.length c'] 25)) := (Below.refl _ _).alloc (Nat.le_refl _) _
  have HM1 := Lib.hid (HM0.out.below hba)
  have HG : Hid (RG (((((w.alloc (.cells #[.int .i64 so, .slice Ao lo.length co] 25)).alloc (.cells #[.int .i64 sa, .slice A la.length c] 25)).alloc (.cells #[.int .i64 sb, .slice A' lb.length c'] 25)).alloc (.cells #[.int .i64 0, .slice none 0 0, .slice none 0 0, .int .i64 0] 45)).alloc (.cells #[.int .i64 sa, .slice A la.length c, .int .i64 sb, .slice A' lb.length c'] 25)) (((((w.alloc (.cells #[.int .i64 so, .slice Ao lo.length co] 25)).alloc (.cells #[.int .i64 sa, .slice A la.length c] 25)).alloc (.cells #[.int .i64 sb, .slice A' lb.length c'] 25)).alloc (.cells #[.int .i64 0, .slice none 0 0, .slice none 0 0, .int .i64 0] 45)).alloc (.cells #[.int .i64 sa, .slice A la.length c, .int .i64 sb, .slice A' lb.length c'] 25)).heap.size (w.heap.size + 1 + 1 + 1 + 1) [⟨sa, A, c, la⟩, ⟨sb, A', c', lb⟩]) := by
    refine ⟨by simp, fun j hj => ?_⟩
    have h2 : j = 0 ∨ j = 1 := by simp at hj; omega
    rcases h2 with rfl | rfl
    · exact ⟨by simp [go_sem], by simp [go_sem], H.out.below' HM1.out.bel, hl⟩
    · exact ⟨by simp [go_sem], by simp [go_sem], H'.out.below' HM1.out.bel, hl'⟩
  have hOS := fun h => pOneSide_any so Ao co lo (w.heap.size + 1 + 1 + 1 + 1) 2 [⟨sa, A, c, la⟩, ⟨sb, A', c', lb⟩] (((((w.alloc (.cells #[.int .i64 so, .slice Ao lo.length co] 25)).alloc (.cells #[.int .i64 sa, .slice A la.length c] 25)).alloc (.cells #[.int .i64 sb, .slice A' lb.length c'] 25)).alloc (.cells #[.int .i64 0, .slice none 0 0, .slice none 0 0, .int .i64 0] 45)).alloc (.cells #[.int .i64 sa, .slice A la.length c, .int .i64 sb, .slice A' lb.length c'] 25)) h hlo HG.out (by simp)
  rw [threeRight_eq] at hOS
  simp only [List.length_cons, List.length_nil] at hOS
  have HOS := Lib.hid hOS
  clear hOS hba
  cases h3 : threeRight so lo sa la sb lb
  · have HE := Lib.hid (mergeOut_bad h3)
    rw [h3] at HOS
    clear h3
    go_enter Try.func19, Try.ntmps19
    go_wp2_with fail
    refine (HOS.out (HO.out.below' HM1.out.bel)).mono ?_
    rintro e w1 ⟨rfl, hb1⟩
    have HM2 := Lib.hid (HM1.out.below hb1)
    clear hb1 HM0 HM1 HOS HG
    obtain ⟨⟨o0, o1, _, _⟩, ⟨a0, a1, _, _⟩, ⟨b0, b1, _, _⟩, ⟨r0, r1, r2, r3, f0, f1, f2, f3⟩, _, _⟩ := HM2.out
    go_wp2
    refine bodyPost_ret (v := .agg #[.int .i64 0, .slice none 0 0, .slice none 0 0, .int .i64 1]) (by simp [results, Try.results19, go_sem, r0, r1, r2, r3]) rfl ?_
    rw [HE.out]
    exact ⟨none, 0, none, 0, rfl, OwnI.nil _ _ _ _, OwnCh.nil _ _, by simp [Value.ownBlock], (((HM2.out.bel.setCell (by simp; omega) _).setCell (by simp; omega) _).setCell (by simp; omega) _).setCell (by simp; omega) _⟩
  · obtain ⟨h1, h2, h4, rfl, rfl⟩ := threeRight_parts h3
    have HE := Lib.hid (mergeOut_good h3)
    rw [h3] at HOS
    have h64 := right_len h1
    obtain ⟨hs1, hs8⟩ := side_bound (right_parts h1).1
    have hsq := sq_in h1
    have HLA : Hid (la.length = lo.length) := by show _ = _; have q1 := (right_parts h1).2.1; have q2 := (right_parts h2).2.1; omega
    have HLB : Hid (lb.length = lo.length) := by show _ = _; have q1 := (right_parts h1).2.1; have q2 := (right_parts h4).2.1; omega
    have hne : ¬ sb = 0 := by omega
    clear h1 h2 h3 h4
    go_enter Try.func19, Try.ntmps19
    go_wp2_with fail
    refine (HOS.out (HO.out.below' HM1.out.bel)).mono ?_
    rintro e w1 ⟨rfl, hb1⟩
    have HM2 := Lib.hid (HM1.out.below hb1)
    clear hb1 HM0 HM1 HOS HG
    obtain ⟨⟨o0, o1, _, _⟩, ⟨a0, a1, _, _⟩, ⟨b0, b1, _, _⟩, _, _, _⟩ := HM2.out
    have HI0 : Hid (MI w sb (.slice Ao lo.length co) sb (.slice A la.length c) sb (.slice A' lb.length c') w1.heap.size w1.heap.size sb (.slice none 0 0) (.slice none 0 0) [] [] (w1.alloc (.cells #[.int .i64 sb, .slice none 0 0, .slice none 0 0, .int .i64 0] 45))) :=
      ⟨HM2.out.below ((Below.refl _ _).alloc (Nat.le_refl _) _), MB.made _ _ _ _ _ _, OwnI.nil _ _ _ _, OwnCh.nil _ _, ⟨HM2.out.siz, Nat.le_refl _, by simp⟩, by simp [Value.ownBlock], by simp [Value.ownBlock], by simp [Value.ownBlock]⟩
    have hzv : w.heap.size < w1.heap.size := by have := HM2.out.siz; omega
    clear HM2
    go_wp2
    generalize w1.alloc (.cells #[.int .i64 sb, .slice none 0 0, .slice none 0 0, .int .i64 0] 45) = w5 at *
    generalize hqq : w1.heap.size = q at *
    clear hqq hzv o0 o1 a0 a1 b0 b1
    go_loopw [27] (fun i wr => ∃ (k : Nat) (A2 : Option Addr) (c2 : Nat) (A3 : Option Addr) (c3 : Nat), i = .int .i64 k ∧ k ≤ lo.length ∧ MI w sb (.slice Ao lo.length co) sb (.slice A la.length c) sb (.slice A' lb.length c') q q sb (.slice A2 (mergeTo lo la lb k).length c2) (.slice A3 (clashTo sb lo la lb k).length c3) (mergeTo lo la lb k) (clashTo sb lo la lb k) wr) (fun i _ => lo.length - (intOf i).toNat)
    case atStart => exact ⟨0, none, 0, none, 0, rfl, Nat.zero_le _, HI0.out⟩
    case round =>
      obtain ⟨k, A2, c2, A3, c3, rfl, hk, hi'⟩ := hrel
      have HI := Lib.hid hi'
      clear HI0 hi'
      have hle : (clashTo sb lo la lb k).length ≤ 1000000 := by have := clashTo_len sb lo la lb k; omega
      have hleT : (mergeTo lo la lb k).length < 17000000000000 := by rw [mergeTo_len]; omega
      by_cases hlt : k < lo.length
      · obtain ⟨bo, offo, rfl, hblo, hco⟩ := HO.out.at_ hlt
        have hlta : k < la.length := by rw [HLA.out]; exact hlt
        have hltb : k < lb.length := by rw [HLB.out]; exact hlt
        obtain ⟨b, off, rfl, hbl, hc⟩ := H.out.at_ hlta
        obtain ⟨b', off', rfl, hbl', hc'⟩ := H'.out.at_ hltb
        have HS : Hid (clashTo sb lo la lb (k + 1) = clashTo sb lo la lb k ++ clashAt sb lo la lb k) := rfl
        have HST : Hid (mergeTo lo la lb (k + 1) = mergeTo lo la lb k ++ [mergeAt lo la lb k]) := rfl
        have HCA : Hid (clashAt sb lo la lb k = if mClash lo[k] la[k] lb[k] then [⟨(k : Int) % sb, (k : Int) / sb, la[k], lb[k]⟩] else []) := by show _ = _; unfold clashAt; rw [getD_at hlt, getD_at hlta, getD_at hltb]
        have HMA : Hid (mergeAt lo la lb k = mTile lo[k] la[k] lb[k]) := by show _ = _; unfold mergeAt; rw [getD_at hlt, getD_at hlta, getD_at hltb]
        generalize lo[k] = x at *
        generalize la[k] = y at *
        generalize lb[k] = z at *
        have HC := Lib.hid hc
        have HCO := Lib.hid hco
        have HC' := Lib.hid hc'
        have hi1' : (k : Int) < la.length := by omega
        have hi0 : (k : Int) < lo.length := by omega
        have hi2 : (k : Int) < lb.length := by omega
        have hMT := fun w => (pMergeTile_any x y z w).mono (fun e w' h => (⟨h.1, h.2.symm⟩ : e = .returned (.tuple #[.int .i64 (mTile x y z), .bool (mClash x y z)]) ∧ w' = w))
        clear hc hco hc' hlta hltb
        obtain ⟨⟨o0, o1, _, _⟩, ⟨a0, a1, _, _⟩, ⟨b0, b1, _, _⟩, _, _, _⟩ := HI.out.three
        obtain ⟨m0, m1, m2, m3, _, mf1, mf2, _⟩ := HI.out.m
        have hk1 : wr.cell? ⟨b, off + k, none⟩ = some (.int .i64 y) := (HI.out.bel.cell (p := ⟨b, off + k, none⟩) hbl).trans HC.out
        have hk0 : wr.cell? ⟨bo, offo + k, none⟩ = some (.int .i64 x) := (HI.out.bel.cell (p := ⟨bo, offo + k, none⟩) hblo).trans HCO.out
        have hk2 : wr.cell? ⟨b', off' + k, none⟩ = some (.int .i64 z) := (HI.out.bel.cell (p := ⟨b', off' + k, none⟩) hbl').trans HC'.out
        generalize mTile x y z = t at *
        go_wp2_with fail
        go_quiet (first | (go_at_call 36; refine Calls.quiet_of_same (hMT _)))
        have HI1 := Lib.hid (HI.out.below (below_drewN _ wr nq))
        clear o0 o1 a0 a1 b0 b1 m0 m1 m2 m3 mf1 mf2 hk0 hk1 hk2 HI hMT
        generalize wr.drewN nq = w6 at *
        obtain ⟨⟨o0, o1, _, _⟩, ⟨a0, a1, _, _⟩, ⟨b0, b1, _, _⟩, _, _, _⟩ := HI1.out.three
        obtain ⟨m0, m1, m2, m3, _, mf1, mf2, _⟩ := HI1.out.m
        have hk1 : w6.cell? ⟨b, off + k, none⟩ = some (.int .i64 y) := (HI1.out.bel.cell (p := ⟨b, off + k, none⟩) hbl).trans HC.out
        have hk0 : w6.cell? ⟨bo, offo + k, none⟩ = some (.int .i64 x) := (HI1.out.bel.cell (p := ⟨bo, offo + k, none⟩) hblo).trans HCO.out
        have hk2 : w6.cell? ⟨b', off' + k, none⟩ = some (.int .i64 z) := (HI1.out.bel.cell (p := ⟨b', off' + k, none⟩) hbl').trans HC'.out
        have HIA := Lib.hid (HI1.out.below ((Below.refl _ _).alloc (Nat.le_refl _) (.cells #[.int .i64 t] 2)))
        have hqz : q < w6.heap.size := HI1.out.siz.2.2
        have hzz := HI1.out.three.siz
        have z1 := HI1.out.siz.1
        have hq6 : q ≤ w6.heap.size := by omega
        cases hcl : mClash x y z
        · have HE1 : Hid (clashTo sb lo la lb (k + 1) = clashTo sb lo la lb k) := by show _ = _; rw [HS.out, HCA.out, hcl]; simp
          have HE2 : Hid (mergeTo lo la lb (k + 1) = mergeTo lo la lb k ++ [t]) := by show _ = _; rw [HST.out, HMA.out]
          go_wp2_with (at_builtin; refine append_int_lies Try.underlying23 hi1 hy0 hy1 hy2 (by decide) rfl _ _ rfl q _ _ t w6 HI1.out.oT rfl rfl hleT hq6 ?_; intro g7 c7 w7 hown7 hg7 hl7; have HI7 := Lib.hid (HIA.out.pushT hown7 hg7 hl7); have cq := hg7.cell HIA.out.m.c1 (fun e => HIA.out.aT e.symm); have fq := (World.frozen?_of_block (a := ⟨q, 1, none⟩) (hg7.block q HIA.out.siz.2.2 (fun e => HIA.out.aT e.symm))).trans HIA.out.m.f1; clear hown7 hg7 hl7)
          go_roundw
          case rel => exact ⟨k + 1, some ⟨g7, 0, none⟩, c7, A3, c3, by go_num, by omega, by rw [HE1.out, HE2.out, List.length_append]; exact HI7.out⟩
          case measure => simp [intOf]; omega
        · have HE1 : Hid (clashTo sb lo la lb (k + 1) = clashTo sb lo la lb k ++ [⟨(k : Int) % sb, (k : Int) / sb, y, z⟩]) := by show _ = _; rw [HS.out, HCA.out, hcl]; rfl
          have HE2 : Hid (mergeTo lo la lb (k + 1) = mergeTo lo la lb k ++ [t]) := by show _ = _; rw [HST.out, HMA.out]
          go_wp2_with (at_builtin; refine append_int_lies Try.underlying23 hi1 hy0 hy1 hy2 (by decide) rfl _ _ rfl q _ _ t w6 HI1.out.oT rfl rfl hleT hq6 ?_; intro g7 c7 w7 hown7 hg7 hl7; have HI7 := Lib.hid (HIA.out.pushT hown7 hg7 hl7); have cq := hg7.cell HIA.out.m.c1 (fun e => HIA.out.aT e.symm); have fq := (World.frozen?_of_block (a := ⟨q, 1, none⟩) (hg7.block q HIA.out.siz.2.2 (fun e => HIA.out.aT e.symm))).trans HIA.out.m.f1; clear hown7 hg7 hl7)
          clear o0 o1 a0 a1 b0 b1 m0 m1 m2 m3 mf1 mf2 hk0 hk1 hk2 HI1 HIA cq fq hqz hzz z1 hq6
          generalize w7.setCell ⟨q, 1, none⟩ (.slice (some ⟨g7, 0, none⟩) ((mergeTo lo la lb k).length + 1) c7) = w8 at *
          obtain ⟨⟨o0, o1, _, _⟩, ⟨a0, a1, _, _⟩, ⟨b0, b1, _, _⟩, _, _, _⟩ := HI7.out.three
          obtain ⟨m0, m1, m2, m3, _, mf1, mf2, _⟩ := HI7.out.m
          have hk1 : w8.cell? ⟨b, off + k, none⟩ = some (.int .i64 y) := (HI7.out.bel.cell (p := ⟨b, off + k, none⟩) hbl).trans HC.out
          have hk0 : w8.cell? ⟨bo, offo + k, none⟩ = some (.int .i64 x) := (HI7.out.bel.cell (p := ⟨bo, offo + k, none⟩) hblo).trans HCO.out
          have hk2 : w8.cell? ⟨b', off' + k, none⟩ = some (.int .i64 z) := (HI7.out.bel.cell (p := ⟨b', off' + k, none⟩) hbl').trans HC'.out
          have hCA := fun w => pChangeAt_any sb k y z w hs1 hs8 (by omega)
          have hqz : q < w8.heap.size := HI7.out.siz.2.2
          obtain ⟨z1, z2, z3⟩ := HI7.out.siz
          have hq0 : q ≠ w.heap.size := by omega
          have hq1 : q ≠ w.heap.size + 1 := by omega
          have hq2 : q ≠ w.heap.size + 1 + 1 := by omega
          have hq3 : q ≠ b := by omega
          have hq4 : q ≠ b' := by omega
          clear z1 z2 z3
          go_wp2_with fail
          refine wp_region_noPanic ?_
          refine wp_region_held_drew (S := (fun w' => w'.cell? ⟨w.heap.size, 0, none⟩ = some (.int .i64 sb) ∧ w'.cell? ⟨w.heap.size + 1, 1, none⟩ = some (.slice (some ⟨b, off, none⟩) la.length c) ∧ w'.cell? ⟨w.heap.size + 1 + 1, 1, none⟩ = some (.slice (some ⟨b', off', none⟩) lb.length c') ∧ w'.cell? ⟨b, off + k, none⟩ = some (.int .i64 y) ∧ w'.cell? ⟨b', off' + k, none⟩ = some (.int .i64 z))) (by kernel_rfl) ⟨o0, a1, b1, hk1, hk2⟩ (fun hHeld => ?_)
          refine wpAnyH_take (i := 0) (v := ?v1) rfl (by kernel_rfl) (by kernel_rfl) (by kernel_rfl) (fun _ _ _ h => h) (Or.inl ⟨by rfl, ?hy1⟩) (by assumption) ?rest1
          case hy1 => (intro w' hSw; (try dsimp only at hSw); go_simp <;> with_reducible rfl)
          simp only [Act.put, List.setIfInBounds_toArray, List.set_cons_zero, List.set_cons_succ]
          refine wpAnyH_take (i := 2) (v := ?v2) rfl (by kernel_rfl) (by kernel_rfl) (by kernel_rfl) (fun _ _ _ h => h) (Or.inl ⟨by rfl, ?hy2⟩) (by assumption) ?rest2
          case hy2 => (intro w' hSw; (try dsimp only at hSw); go_simp <;> with_reducible rfl)
          simp only [Act.put, List.setIfInBounds_toArray, List.set_cons_zero, List.set_cons_succ]
          refine wpAnyH_take (i := 3) (v := ?v3) rfl (by kernel_rfl) (by kernel_rfl) (by kernel_rfl) (fun _ _ _ h => h) (Or.inl ⟨by rfl, ?hy3⟩) (by assumption) ?rest3
          case hy3 => (intro w' hSw; (try dsimp only at hSw); go_simp <;> with_reducible rfl)
          simp only [Act.put, List.setIfInBounds_toArray, List.set_cons_zero, List.set_cons_succ]
          refine wpAnyH_take (i := 4) (v := ?v4) rfl (by kernel_rfl) (by kernel_rfl) (by kernel_rfl) (fun _ _ _ h => h) (Or.inl ⟨by rfl, ?hy4⟩) (by assumption) ?rest4
          case hy4 => (intro w' hSw; (try dsimp only at hSw); go_simp <;> with_reducible rfl)
          simp only [Act.put, List.setIfInBounds_toArray, List.set_cons_zero, List.set_cons_succ]
          refine wpAnyH_take (i := 5) (v := ?v5) rfl (by kernel_rfl) (by kernel_rfl) (by kernel_rfl) (fun _ _ _ h => h) (Or.inl ⟨by rfl, ?hy5⟩) (by assumption) ?rest5
          case hy5 => (intro w' hSw; (try dsimp only at hSw); go_simp <;> with_reducible rfl)
          simp only [Act.put, List.setIfInBounds_toArray, List.set_cons_zero, List.set_cons_succ]
          refine wpAnyH_take (i := 6) (v := ?v6) rfl (by kernel_rfl) (by kernel_rfl) (by kernel_rfl) (fun _ _ _ h => h) (Or.inl ⟨by rfl, ?hy6⟩) (by assumption) ?rest6
          case hy6 => (intro w' hSw; (try dsimp only at hSw); go_simp <;> with_reducible rfl)
          simp only [Act.put, List.setIfInBounds_toArray, List.set_cons_zero, List.set_cons_succ]
          refine wpAnyH_take (i := 7) (v := ?v7) rfl (by kernel_rfl) (by kernel_rfl) (by kernel_rfl) (fun _ _ _ h => h) (Or.inl ⟨by rfl, ?hy7⟩) (by assumption) ?rest7
          case hy7 => (intro w' hSw; (try dsimp only at hSw); go_simp <;> with_reducible rfl)
          simp only [Act.put, List.setIfInBounds_toArray, List.set_cons_zero, List.set_cons_succ]
          refine wpAnyH_take (i := 8) (v := ?v8) rfl (by kernel_rfl) (by kernel_rfl) (by kernel_rfl) (fun _ _ _ h => h) (Or.inl ⟨by rfl, ?hy8⟩) (by assumption) ?rest8
          case hy8 => (intro w' hSw; (try dsimp only at hSw); go_simp <;> with_reducible rfl)
          simp only [Act.put, List.setIfInBounds_toArray, List.set_cons_zero, List.set_cons_succ]
          refine wpAnyH_take (i := 9) (v := ?v9) rfl (by kernel_rfl) (by kernel_rfl) (by kernel_rfl) (fun _ _ _ h => h) (Or.inl ⟨by rfl, ?hy9⟩) (by assumption) ?rest9
          case hy9 => (intro w' hSw; (try dsimp only at hSw); go_simp <;> with_reducible rfl)
          simp only [Act.put, List.setIfInBounds_toArray, List.set_cons_zero, List.set_cons_succ]
          refine wpAnyH_take (i := 10) (v := ?v10) rfl (by kernel_rfl) (by kernel_rfl) (by kernel_rfl) (fun _ _ _ h => h) (Or.inl ⟨by rfl, ?hy10⟩) (by assumption) ?rest10
          case hy10 => (intro w' hSw; (try dsimp only at hSw); go_simp <;> with_reducible rfl)
          simp only [Act.put, List.setIfInBounds_toArray, List.set_cons_zero, List.set_cons_succ]
          refine wpAnyH_take (i := 11) (v := ?v11) rfl (by kernel_rfl) (by kernel_rfl) (by kernel_rfl) (fun _ _ _ h => h) (Or.inl ⟨by rfl, ?hy11⟩) (by assumption) ?rest11
          case hy11 => (intro w' hSw; (try dsimp only at hSw); go_simp <;> with_reducible rfl)
          simp only [Act.put, List.setIfInBounds_toArray, List.set_cons_zero, List.set_cons_succ]
          refine wpAnyH_take (i := 12) (v := ?v12) rfl (by kernel_rfl) (by kernel_rfl) (by kernel_rfl) (fun _ _ _ h => h) (Or.inl ⟨by rfl, ?hy12⟩) (by assumption) ?rest12
          case hy12 => (intro w' hSw; (try dsimp only at hSw); go_simp <;> with_reducible rfl)
          simp only [Act.put, List.setIfInBounds_toArray, List.set_cons_zero, List.set_cons_succ]
          refine wpAnyH_take (i := 13) (v := ?v13) rfl (by kernel_rfl) (by kernel_rfl) (by kernel_rfl) (fun _ _ _ h => h) (Or.inl ⟨by rfl, ?hy13⟩) (by assumption) ?rest13
          case hy13 => (intro w' hSw; (try dsimp only at hSw); go_simp <;> with_reducible rfl)
          simp only [Act.put, List.setIfInBounds_toArray, List.set_cons_zero, List.set_cons_succ]
          refine wpAnyH_take (i := 14) (v := ?v14) rfl (by kernel_rfl) (by kernel_rfl) (by kernel_rfl) (fun _ _ _ h => h) (Or.inl ⟨by rfl, ?hy14⟩) (by assumption) ?rest14
          case hy14 => (intro w' hSw; (try dsimp only at hSw); go_simp <;> with_reducible rfl)
          simp only [Act.put, List.setIfInBounds_toArray, List.set_cons_zero, List.set_cons_succ]
          refine wpAnyH_ready (rs := [1, 15]) (by kernel_rfl) (by simp) ?_
          refine (AllReadyH.cons rfl (fun K hK => ?_) (AllReadyH.cons rfl (fun K hK => ?_) AllReadyH.nil))
          · skip
            go_simp
            refine hK.out _ _ ?_ (fun hHeld => ?_)
            · (first | exact hHeld | exact hk8 | exact hk9 | exact hk3 | go_keep)
            clear hK K
            try simp only [Act.put, List.setIfInBounds_toArray, List.set_cons_zero, List.set_cons_succ]
            refine wpAnyH_ready (rs := [15]) (by kernel_rfl) (by simp) ?_
            refine (AllReadyH.cons rfl (fun K hK => ?_) AllReadyH.nil)
            go_simp
            go_at_call 24; refine (hCA _).mono ?_; rintro e w9 ⟨rfl, hb9⟩; have HI9 := Lib.hid (HI7.out.drew.below hb9); clear hb9; have HIB := Lib.hid (HI9.out.below ((Below.refl _ _).alloc (Nat.le_refl _) (.cells #[.int .i64 ((k : Int) % sb), .int .i64 ((k : Int) / sb), .int .i64 y, .int .i64 z] 53))); have hBz : q ≤ (w9.alloc (.cells #[.int .i64 ((k : Int) % sb), .int .i64 ((k : Int) / sb), .int .i64 y, .int .i64 z] 53)).heap.size := Nat.le_of_lt HIB.out.siz.2.2; have n2 := HI9.out.m.c2; have hqz9 : q < w9.heap.size := HI9.out.siz.2.2; have hk3 := And.intro HI9.out.three.o.c0 (And.intro HI9.out.three.a.c1 (And.intro HI9.out.three.b.c1 (And.intro ((HI9.out.bel.cell (p := ⟨b, off + k, none⟩) hbl).trans HC.out) ((HI9.out.bel.cell (p := ⟨b', off' + k, none⟩) hbl').trans HC'.out)))); have y1 : w.heap.size < w9.heap.size := Nat.lt_of_succ_lt (Nat.lt_of_succ_lt (Nat.lt_of_succ_lt HI9.out.three.siz)); have y2 : w.heap.size + 1 < w9.heap.size := Nat.lt_of_succ_lt (Nat.lt_of_succ_lt HI9.out.three.siz); have y3 : w.heap.size + 1 + 1 < w9.heap.size := Nat.lt_of_succ_lt HI9.out.three.siz; have y4 : b < w9.heap.size := Nat.lt_trans hbl y1; have y5 : b' < w9.heap.size := Nat.lt_trans hbl' y1
            try go_wp2_with fail
            refine hK.out _ _ ?_ (fun hHeld => ?_)
            · (first | exact hHeld | exact hk8 | exact hk9 | exact hk3 | go_keep)
            clear hK K
            try simp only [Act.put, List.setIfInBounds_toArray, List.set_cons_zero, List.set_cons_succ]
            refine wpAnyH_ready (rs := [16]) (by kernel_rfl) (by simp) ?_
            refine (AllReadyH.cons rfl (fun K hK => ?_) AllReadyH.nil)
            go_simp
            refine hK.out _ _ ?_ (fun hHeld => ?_)
            · (first | exact hHeld | exact hk8 | exact hk9 | exact hk3 | go_keep)
            clear hK K
            try simp only [Act.put, List.setIfInBounds_toArray, List.set_cons_zero, List.set_cons_succ]
            refine wpAnyH_ready (rs := [17]) (by kernel_rfl) (by simp) ?_
            refine (AllReadyH.cons rfl (fun K hK => ?_) AllReadyH.nil)
            refine step_appendCh hi hz0 hz1 hz2 (by rfl) _ _ (by rfl) q _ (clashTo sb lo la lb k) ⟨(k : Int) % sb, (k : Int) / sb, y, z⟩ _ w9.heap.size HIB.out.oC (by simp [Act.eval]) (by simp [Act.eval]) (madeCh' w9 ((k : Int) % sb) ((k : Int) / sb) y z) hle hBz ?_; intro gC cap wa hown8 hg8 hlies; have HI8 := Lib.hid (HIB.out.pushC hown8 hg8 hlies); have cq := hg8.cell HIB.out.m.c2 (fun e => HIB.out.aC e.symm); have fq := (World.frozen?_of_block (a := ⟨q, 2, none⟩) (hg8.block q HIB.out.siz.2.2 (fun e => HIB.out.aC e.symm))).trans HIB.out.m.f2; have hk9 := And.intro HI8.out.three.o.c0 (And.intro HI8.out.three.a.c1 (And.intro HI8.out.three.b.c1 (And.intro ((HI8.out.bel.cell (p := ⟨b, off + k, none⟩) hbl).trans HC.out) ((HI8.out.bel.cell (p := ⟨b', off' + k, none⟩) hbl').trans HC'.out)))); have hk8 := And.intro ((World.cell?_setCell_far wa ⟨q, 2, none⟩ ⟨w.heap.size, 0, none⟩ (.slice (some ⟨gC, 0, none⟩) ((clashTo sb lo la lb k).length + 1) cap) hq0).symm.trans hk9.1) (And.intro ((World.cell?_setCell_far wa ⟨q, 2, none⟩ ⟨w.heap.size + 1, 1, none⟩ (.slice (some ⟨gC, 0, none⟩) ((clashTo sb lo la lb k).length + 1) cap) hq1).symm.trans hk9.2.1) (And.intro ((World.cell?_setCell_far wa ⟨q, 2, none⟩ ⟨w.heap.size + 1 + 1, 1, none⟩ (.slice (some ⟨gC, 0, none⟩) ((clashTo sb lo la lb k).length + 1) cap) hq2).symm.trans hk9.2.2.1) (And.intro ((World.cell?_setCell_far wa ⟨q, 2, none⟩ ⟨b, off + k, none⟩ (.slice (some ⟨gC, 0, none⟩) ((clashTo sb lo la lb k).length + 1) cap) hq3).symm.trans hk9.2.2.2.1) ((World.cell?_setCell_far wa ⟨q, 2, none⟩ ⟨b', off' + k, none⟩ (.slice (some ⟨gC, 0, none⟩) ((clashTo sb lo la lb k).length + 1) cap) hq4).symm.trans hk9.2.2.2.2))))
            refine hK.out _ _ ?_ (fun hHeld => ?_)
            · (first | exact hHeld | exact hk8 | exact hk9 | exact hk3 | go_keep)
            clear hK K
            try simp only [Act.put, List.setIfInBounds_toArray, List.set_cons_zero, List.set_cons_succ]
            refine wpAnyH_take (i := 18) (v := ?v15) rfl (by kernel_rfl) (by kernel_rfl) (by kernel_rfl) (fun _ _ _ h => h) (Or.inl ⟨by rfl, ?hy15⟩) (by assumption) ?rest15
            case hy15 => (intro w' hSw; (try dsimp only at hSw); go_simp <;> with_reducible rfl)
            simp only [Act.put, List.setIfInBounds_toArray, List.set_cons_zero, List.set_cons_succ]
            refine wpAnyH_ready (rs := [19]) (by kernel_rfl) (by simp) ?_
            refine (AllReadyH.cons rfl (fun K hK => ?_) AllReadyH.nil)
            go_simp
            refine hK.out _ _ ?_ (fun hHeld => ?_)
            · (first | exact hHeld | exact hk8 | exact hk9 | exact hk3 | go_keep)
            clear hK K
            try simp only [Act.put, List.setIfInBounds_toArray, List.set_cons_zero, List.set_cons_succ]
            refine wpAnyH_done (by kernel_rfl) ?_ _
            refine NoPanic.normal ?_
            clear hown8 hg8 hlies hk8 hk9 hk3 o0 o1 a0 a1 b0 b1 m0 m1 m2 m3 mf1 mf2 hk0 hk1 hk2 HIB cq fq n2
            go_wp2
            go_roundw
            case rel => exact ⟨k + 1, some ⟨g7, 0, none⟩, c7, some ⟨gC, 0, none⟩, cap, by go_num, by omega, by rw [HE1.out, HE2.out, List.length_append, List.length_append]; exact HI8.out⟩
            case measure => simp [intOf]; omega
          · skip
            go_simp
            go_at_call 24; refine (hCA _).mono ?_; rintro e w9 ⟨rfl, hb9⟩; have HI9 := Lib.hid (HI7.out.drew.below hb9); clear hb9; have HIB := Lib.hid (HI9.out.below ((Below.refl _ _).alloc (Nat.le_refl _) (.cells #[.int .i64 ((k : Int) % sb), .int .i64 ((k : Int) / sb), .int .i64 y, .int .i64 z] 53))); have hBz : q ≤ (w9.alloc (.cells #[.int .i64 ((k : Int) % sb), .int .i64 ((k : Int) / sb), .int .i64 y, .int .i64 z] 53)).heap.size := Nat.le_of_lt HIB.out.siz.2.2; have n2 := HI9.out.m.c2; have hqz9 : q < w9.heap.size := HI9.out.siz.2.2; have hk3 := And.intro HI9.out.three.o.c0 (And.intro HI9.out.three.a.c1 (And.intro HI9.out.three.b.c1 (And.intro ((HI9.out.bel.cell (p := ⟨b, off + k, none⟩) hbl).trans HC.out) ((HI9.out.bel.cell (p := ⟨b', off' + k, none⟩) hbl').trans HC'.out)))); have y1 : w.heap.size < w9.heap.size := Nat.lt_of_succ_lt (Nat.lt_of_succ_lt (Nat.lt_of_succ_lt HI9.out.three.siz)); have y2 : w.heap.size + 1 < w9.heap.size := Nat.lt_of_succ_lt (Nat.lt_of_succ_lt HI9.out.three.siz); have y3 : w.heap.size + 1 + 1 < w9.heap.size := Nat.lt_of_succ_lt HI9.out.three.siz; have y4 : b < w9.heap.size := Nat.lt_trans hbl y1; have y5 : b' < w9.heap.size := Nat.lt_trans hbl' y1
            try go_wp2_with fail
            refine hK.out _ _ ?_ (fun hHeld => ?_)
            · (first | exact hHeld | exact hk8 | exact hk9 | exact hk3 | go_keep)
            clear hK K
            try simp only [Act.put, List.setIfInBounds_toArray, List.set_cons_zero, List.set_cons_succ]
            refine wpAnyH_ready (rs := [1, 16]) (by kernel_rfl) (by simp) ?_
            refine (AllReadyH.cons rfl (fun K hK => ?_) (AllReadyH.cons rfl (fun K hK => ?_) AllReadyH.nil))
            · skip
              go_simp
              refine hK.out _ _ ?_ (fun hHeld => ?_)
              · (first | exact hHeld | exact hk8 | exact hk9 | exact hk3 | go_keep)
              clear hK K
              try simp only [Act.put, List.setIfInBounds_toArray, List.set_cons_zero, List.set_cons_succ]
              refine wpAnyH_ready (rs := [16]) (by kernel_rfl) (by simp) ?_
              refine (AllReadyH.cons rfl (fun K hK => ?_) AllReadyH.nil)
              go_simp
              refine hK.out _ _ ?_ (fun hHeld => ?_)
              · (first | exact hHeld | exact hk8 | exact hk9 | exact hk3 | go_keep)
              clear hK K
              try simp only [Act.put, List.setIfInBounds_toArray, List.set_cons_zero, List.set_cons_succ]
              refine wpAnyH_ready (rs := [17]) (by kernel_rfl) (by simp) ?_
              refine (AllReadyH.cons rfl (fun K hK => ?_) AllReadyH.nil)
              refine step_appendCh hi hz0 hz1 hz2 (by rfl) _ _ (by rfl) q _ (clashTo sb lo la lb k) ⟨(k : Int) % sb, (k : Int) / sb, y, z⟩ _ w9.heap.size HIB.out.oC (by simp [Act.eval]) (by simp [Act.eval]) (madeCh' w9 ((k : Int) % sb) ((k : Int) / sb) y z) hle hBz ?_; intro gC cap wa hown8 hg8 hlies; have HI8 := Lib.hid (HIB.out.pushC hown8 hg8 hlies); have cq := hg8.cell HIB.out.m.c2 (fun e => HIB.out.aC e.symm); have fq := (World.frozen?_of_block (a := ⟨q, 2, none⟩) (hg8.block q HIB.out.siz.2.2 (fun e => HIB.out.aC e.symm))).trans HIB.out.m.f2; have hk9 := And.intro HI8.out.three.o.c0 (And.intro HI8.out.three.a.c1 (And.intro HI8.out.three.b.c1 (And.intro ((HI8.out.bel.cell (p := ⟨b, off + k, none⟩) hbl).trans HC.out) ((HI8.out.bel.cell (p := ⟨b', off' + k, none⟩) hbl').trans HC'.out)))); have hk8 := And.intro ((World.cell?_setCell_far wa ⟨q, 2, none⟩ ⟨w.heap.size, 0, none⟩ (.slice (some ⟨gC, 0, none⟩) ((clashTo sb lo la lb k).length + 1) cap) hq0).symm.trans hk9.1) (And.intro ((World.cell?_setCell_far wa ⟨q, 2, none⟩ ⟨w.heap.size + 1, 1, none⟩ (.slice (some ⟨gC, 0, none⟩) ((clashTo sb lo la lb k).length + 1) cap) hq1).symm.trans hk9.2.1) (And.intro ((World.cell?_setCell_far wa ⟨q, 2, none⟩ ⟨w.heap.size + 1 + 1, 1, none⟩ (.slice (some ⟨gC, 0, none⟩) ((clashTo sb lo la lb k).length + 1) cap) hq2).symm.trans hk9.2.2.1) (And.intro ((World.cell?_setCell_far wa ⟨q, 2, none⟩ ⟨b, off + k, none⟩ (.slice (some ⟨gC, 0, none⟩) ((clashTo sb lo la lb k).length + 1) cap) hq3).symm.trans hk9.2.2.2.1) ((World.cell?_setCell_far wa ⟨q, 2, none⟩ ⟨b', off' + k, none⟩ (.slice (some ⟨gC, 0, none⟩) ((clashTo sb lo la lb k).length + 1) cap) hq4).symm.trans hk9.2.2.2.2))))
              refine hK.out _ _ ?_ (fun hHeld => ?_)
              · (first | exact hHeld | exact hk8 | exact hk9 | exact hk3 | go_keep)
              clear hK K
              try simp only [Act.put, List.setIfInBounds_toArray, List.set_cons_zero, List.set_cons_succ]
              refine wpAnyH_take (i := 18) (v := ?v16) rfl (by kernel_rfl) (by kernel_rfl) (by kernel_rfl) (fun _ _ _ h => h) (Or.inl ⟨by rfl, ?hy16⟩) (by assumption) ?rest16
              case hy16 => (intro w' hSw; (try dsimp only at hSw); go_simp <;> with_reducible rfl)
              simp only [Act.put, List.setIfInBounds_toArray, List.set_cons_zero, List.set_cons_succ]
              refine wpAnyH_ready (rs := [19]) (by kernel_rfl) (by simp) ?_
              refine (AllReadyH.cons rfl (fun K hK => ?_) AllReadyH.nil)
              go_simp
              refine hK.out _ _ ?_ (fun hHeld => ?_)
              · (first | exact hHeld | exact hk8 | exact hk9 | exact hk3 | go_keep)
              clear hK K
              try simp only [Act.put, List.setIfInBounds_toArray, List.set_cons_zero, List.set_cons_succ]
              refine wpAnyH_done (by kernel_rfl) ?_ _
              refine NoPanic.normal ?_
              clear hown8 hg8 hlies hk8 hk9 hk3 o0 o1 a0 a1 b0 b1 m0 m1 m2 m3 mf1 mf2 hk0 hk1 hk2 HIB cq fq n2
              go_wp2
              go_roundw
              case rel => exact ⟨k + 1, some ⟨g7, 0, none⟩, c7, some ⟨gC, 0, none⟩, cap, by go_num, by omega, by rw [HE1.out, HE2.out, List.length_append, List.length_append]; exact HI8.out⟩
              case measure => simp [intOf]; omega
            · skip
              go_simp
              refine hK.out _ _ ?_ (fun hHeld => ?_)
              · (first | exact hHeld | exact hk8 | exact hk9 | exact hk3 | go_keep)
              clear hK K
              try simp only [Act.put, List.setIfInBounds_toArray, List.set_cons_zero, List.set_cons_succ]
              refine wpAnyH_ready (rs := [1]) (by kernel_rfl) (by simp) ?_
              refine (AllReadyH.cons rfl (fun K hK => ?_) AllReadyH.nil)
              go_simp
              refine hK.out _ _ ?_ (fun hHeld => ?_)
              · (first | exact hHeld | exact hk8 | exact hk9 | exact hk3 | go_keep)
              clear hK K
              try simp only [Act.put, List.setIfInBounds_toArray, List.set_cons_zero, List.set_cons_succ]
              refine wpAnyH_ready (rs := [17]) (by kernel_rfl) (by simp) ?_
              refine (AllReadyH.cons rfl (fun K hK => ?_) AllReadyH.nil)
              refine step_appendCh hi hz0 hz1 hz2 (by rfl) _ _ (by rfl) q _ (clashTo sb lo la lb k) ⟨(k : Int) % sb, (k : Int) / sb, y, z⟩ _ w9.heap.size HIB.out.oC (by simp [Act.eval]) (by simp [Act.eval]) (madeCh' w9 ((k : Int) % sb) ((k : Int) / sb) y z) hle hBz ?_; intro gC cap wa hown8 hg8 hlies; have HI8 := Lib.hid (HIB.out.pushC hown8 hg8 hlies); have cq := hg8.cell HIB.out.m.c2 (fun e => HIB.out.aC e.symm); have fq := (World.frozen?_of_block (a := ⟨q, 2, none⟩) (hg8.block q HIB.out.siz.2.2 (fun e => HIB.out.aC e.symm))).trans HIB.out.m.f2; have hk9 := And.intro HI8.out.three.o.c0 (And.intro HI8.out.three.a.c1 (And.intro HI8.out.three.b.c1 (And.intro ((HI8.out.bel.cell (p := ⟨b, off + k, none⟩) hbl).trans HC.out) ((HI8.out.bel.cell (p := ⟨b', off' + k, none⟩) hbl').trans HC'.out)))); have hk8 := And.intro ((World.cell?_setCell_far wa ⟨q, 2, none⟩ ⟨w.heap.size, 0, none⟩ (.slice (some ⟨gC, 0, none⟩) ((clashTo sb lo la lb k).length + 1) cap) hq0).symm.trans hk9.1) (And.intro ((World.cell?_setCell_far wa ⟨q, 2, none⟩ ⟨w.heap.size + 1, 1, none⟩ (.slice (some ⟨gC, 0, none⟩) ((clashTo sb lo la lb k).length + 1) cap) hq1).symm.trans hk9.2.1) (And.intro ((World.cell?_setCell_far wa ⟨q, 2, none⟩ ⟨w.heap.size + 1 + 1, 1, none⟩ (.slice (some ⟨gC, 0, none⟩) ((clashTo sb lo la lb k).length + 1) cap) hq2).symm.trans hk9.2.2.1) (And.intro ((World.cell?_setCell_far wa ⟨q, 2, none⟩ ⟨b, off + k, none⟩ (.slice (some ⟨gC, 0, none⟩) ((clashTo sb lo la lb k).length + 1) cap) hq3).symm.trans hk9.2.2.2.1) ((World.cell?_setCell_far wa ⟨q, 2, none⟩ ⟨b', off' + k, none⟩ (.slice (some ⟨gC, 0, none⟩) ((clashTo sb lo la lb k).length + 1) cap) hq4).symm.trans hk9.2.2.2.2))))
              refine hK.out _ _ ?_ (fun hHeld => ?_)
              · (first | exact hHeld | exact hk8 | exact hk9 | exact hk3 | go_keep)
              clear hK K
              try simp only [Act.put, List.setIfInBounds_toArray, List.set_cons_zero, List.set_cons_succ]
              refine wpAnyH_take (i := 18) (v := ?v17) rfl (by kernel_rfl) (by kernel_rfl) (by kernel_rfl) (fun _ _ _ h => h) (Or.inl ⟨by rfl, ?hy17⟩) (by assumption) ?rest17
              case hy17 => (intro w' hSw; (try dsimp only at hSw); go_simp <;> with_reducible rfl)
              simp only [Act.put, List.setIfInBounds_toArray, List.set_cons_zero, List.set_cons_succ]
              refine wpAnyH_ready (rs := [19]) (by kernel_rfl) (by simp) ?_
              refine (AllReadyH.cons rfl (fun K hK => ?_) AllReadyH.nil)
              go_simp
              refine hK.out _ _ ?_ (fun hHeld => ?_)
              · (first | exact hHeld | exact hk8 | exact hk9 | exact hk3 | go_keep)
              clear hK K
              try simp only [Act.put, List.setIfInBounds_toArray, List.set_cons_zero, List.set_cons_succ]
              refine wpAnyH_done (by kernel_rfl) ?_ _
              refine NoPanic.normal ?_
              clear hown8 hg8 hlies hk8 hk9 hk3 o0 o1 a0 a1 b0 b1 m0 m1 m2 m3 mf1 mf2 hk0 hk1 hk2 HIB cq fq n2
              go_wp2
              go_roundw
              case rel => exact ⟨k + 1, some ⟨g7, 0, none⟩, c7, some ⟨gC, 0, none⟩, cap, by go_num, by omega, by rw [HE1.out, HE2.out, List.length_append, List.length_append]; exact HI8.out⟩
              case measure => simp [intOf]; omega
      · obtain rfl : k = lo.length := by omega
        obtain ⟨m0, m1, m2, m3, _, _, _, _⟩ := HI.out.m
        obtain ⟨r0, r1, r2, r3, f0, f1, f2, f3⟩ := HI.out.three.r
        have hz := HI.out.three.siz
        obtain ⟨z1, z2, z3⟩ := HI.out.siz
        go_wp2
        refine bodyPost_ret (v := .agg #[.int .i64 sb, .slice A2 (mergeTo lo la lb lo.length).length c2, .slice A3 (clashTo sb lo la lb lo.length).length c3, .int .i64 0]) (by simp [results, Try.results19, go_sem, r0, r1, r2, r3]) rfl ?_
        rw [HE.out]
        refine ⟨A2, c2, A3, c3, rfl, ?_, ?_, HI.out.ap, (((HI.out.bel.setCell (by simp; omega) _).setCell (by simp; omega) _).setCell (by simp; omega) _).setCell (by simp; omega) _⟩
        · exact OwnI.lower (base := q) (by omega) (OwnI.set_below z1 _ (OwnI.set_below z1 _ (OwnI.set_below z1 _ (OwnI.set_below z1 _ HI.out.oT))))
        · exact OwnCh.lower (base := q) (by omega) (OwnCh.set_below z1 _ (OwnCh.set_below z1 _ (OwnCh.set_below z1 _ (OwnCh.set_below z1 _ HI.out.oC))))
end Go.Proofs.Ythhadbojepcdjaa
