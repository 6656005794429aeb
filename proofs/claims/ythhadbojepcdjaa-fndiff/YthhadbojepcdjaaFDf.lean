/- The law on changes, walked. -/
import Derived.Test.YthhadbojepcdjaaDr7
import Derived.Test.YthhadbojepcdjaaDdM
import Derived.Test.YthhadbojepcdjaaDdP
import Derived.Test.YthhadbojepcdjaaLwC
import Derived.Test.YthhadbojepcdjaaLwG
import Derived.Test.YthhadbojepcdjaaDfU
import Derived.Deep.CutRange
import Derived.Deep.RegionWith
import Derived.Deep.RegionHeld3
namespace Go.Proofs.Ythhadbojepcdjaa
open Go.RowKit
set_option linter.unusedVariables false
set_option linter.unusedSimpArgs false

theorem field_gridout (a b c : Value) (w : World) : (Instr.field 37 (.agg #[a, b, c]) 0).run Try.prog w = .ok (.agg #[a, b]) w := by kernel_rfl
/-- An answer of changes, to be read. -/
def CRead (w w' : World) (l : List Ch) (e : Ending) : Prop := ∃ A c, e = .returned (.slice A l.length c) ∧ RCh w' w'.heap.size A l ∧ Below w.heap.size w w'
theorem COut.rd {w w' : World} {l : List Ch} {e : Ending} (h : COut w w' l e) : CRead w w' l e := by
  obtain ⟨A, c, h1, h2, h3⟩ := h
  exact ⟨A, c, h1, h2.r, h3⟩
/-- An answer of a map, to be read. -/
def GRead (w w' : World) (r : Int × Int × List Int) (e : Ending) : Prop := ∃ A c, e = .returned (.agg #[.int .i64 r.2.1, .slice A r.2.2.length c, .int .i64 r.1]) ∧ RI w' w'.heap.size A r.2.2 ∧ Below w.heap.size w w'
theorem GOut.rd {w w' : World} {s : Int} {l : List Int} {c : Int} {e : Ending} (h : GOut w w' s l c e) : GRead w w' (c, s, l) e := by
  obtain ⟨A, k, h1, h2, h3⟩ := h
  exact ⟨A, k, h1, h2.ri, h3⟩

set_option maxRecDepth 100000 in
set_option maxHeartbeats 12000000 in
theorem fnDiff_walk (a0 : Option Addr) (len0 cap0 : Nat) (a1 : Option Addr) (len1 cap1 : Nat) (w : World) (i0 : BytesIn w w.heap.size a0 len0) (i1 : BytesIn w w.heap.size a1 len1) :
    Calls Try.prog 3 #[.slice a0 len0 cap0, .slice a1 len1 cap1] w fun e w' => e = .returned (.bool true) ∧ Below w.heap.size w w' := by
  by_cases h0 : 1048576 < (len0 : Int)
  · clear i0 i1
    go_enter Try.func3, Try.ntmps3
    go_wp2_with fail
    go_ret
    exact ⟨rfl, Below.refl _ _⟩
  have hd0 : decide (1048576 < (len0 : Int)) = false := by simpa using h0
  by_cases h1 : 1048576 < (len1 : Int)
  · clear i0 i1 h0
    go_enter Try.func3, Try.ntmps3
    go_wp2_with fail
    go_ret
    exact ⟨rfl, Below.refl _ _⟩
  have hd1 : decide (1048576 < (len1 : Int)) = false := by simpa using h1
  have I0 := Lib.hid i0
  have I1 := Lib.hid i1
  clear i0 i1
  go_enter Try.func3, Try.ntmps3
  go_wp2_with fail
  refine (drawDiffOf_any a0 len0 cap0 w (by omega) I0.out).mono ?_
  rintro e w1 ⟨sa, Aa, ca, la, sb, Ab, cb, lb, rfl, s0, s1, r0, r1, hb1⟩
  have hla := s0.2.2.1
  have hlb := s1.2.2.1
  clear s0 s1
  have GA : Gm w1.heap.size sa Aa ca la ((w1.alloc (.cells #[.int .i64 sa, .slice Aa la.length ca] 25)).alloc (.cells #[.int .i64 sb, .slice Ab lb.length cb] 25)) := (Gm.made 25 r0).on (belowA _ _)
  have GB_ : Gm (w1.heap.size + 1) sb Ab cb lb ((w1.alloc (.cells #[.int .i64 sa, .slice Aa la.length ca] 25)).alloc (.cells #[.int .i64 sb, .slice Ab lb.length cb] 25)) := by
    have := Gm.made (side := sb) (c := cb) 25 (r1.go (belowA w1 (.cells #[.int .i64 sa, .slice Aa la.length ca] 25)))
    rw [alloc_size] at this
    exact this
  have HBW : Below w.heap.size w ((w1.alloc (.cells #[.int .i64 sa, .slice Aa la.length ca] 25)).alloc (.cells #[.int .i64 sb, .slice Ab lb.length cb] 25)) := bAnd hb1 (bAnd (belowA _ _) (belowA _ _))
  go_wp2_with fail
  generalize ((w1.alloc (.cells #[.int .i64 sa, .slice Aa la.length ca] 25)).alloc (.cells #[.int .i64 sb, .slice Ab lb.length cb] 25)) = W at GA GB_ HBW ⊢
  generalize w1.heap.size + 1 = bb at GB_ ⊢
  generalize w1.heap.size = ba at GA ⊢
  clear hb1 r0 r1
  have hLL := diffOf_len sa la sb lb
  have HLS := Lib.hid (diffOf_small sa la sb lb)
  refine (pDiffOf_any sa Aa ca la sb Ab cb lb W GA.ri GB_.ri (by omega) (by omega)).mono ?_
  have HDF : Hid (∀ w h h', Calls Try.prog 11 #[.agg #[.int .i64 sa, .slice Aa la.length ca], .agg #[.int .i64 sb, .slice Ab lb.length cb]] w fun e w' => CRead w w' (diffOf sa la sb lb) e) := fun w h h' => (mDiffOf_any sa Aa ca la sb Ab cb lb w h h' (by omega) (by omega)).mono fun _ _ h => h.rd
  have HONE := Lib.hid (fun h => oneSide_do (sa := sa) (la := la) (sb := sb) (lb := lb) h)
  generalize diffOf sa la sb lb = LL at *
  rintro e w2 ⟨DL, dl, rfl, oL, hb2⟩
  replace GA := GA.on hb2; replace GB_ := GB_.on hb2
  have RL := oL.r
  have hin2 := bytes_more I1.out (HBW.trans (hb2.mono HBW.size))
  have HB2 := HBW.trans (hb2.mono HBW.size)
  clear oL hb2 HBW
  go_wp2_with fail
  refine (drawDiffDo_any a1 len1 cap1 w2 (by omega) hin2).mono ?_
  rintro e w3 ⟨sg, Ag, cg, lg, DC, dc, LC, rfl, s0, sc, rg, rc, hb3⟩
  have hlg := s0.2.2.1
  have hLC := sc.1
  have HCF : Hid (∀ n ∈ LC, n.Fits) := fun n hn => (sc.2 n hn).fits
  have HBg := bAnd hb3 (belowA w3 (.cells #[.int .i64 sg, .slice Ag lg.length cg] 25))
  replace GA := GA.on HBg; replace GB_ := GB_.on HBg; replace RL := RL.go HBg
  have GG := Gm.made (side := sg) (c := cg) 25 rg
  have RC := rc.go (belowA w3 (.cells #[.int .i64 sg, .slice Ag lg.length cg] 25))
  have HB3 := bAnd HB2 HBg
  clear s0 sc rg rc hb3 HB2 hin2 HBg
  go_wp2_with fail
  generalize w3.alloc (.cells #[.int .i64 sg, .slice Ag lg.length cg] 25) = W3 at GA GB_ GG RL RC HB3 ⊢
  generalize w3.heap.size = bg at GG ⊢
  refine (drawInvert_any a0 len0 cap0 W3 (by omega) (bytes_more I0.out HB3)).mono ?_
  rintro e w4 ⟨DV, dv, LV, rfl, sv, RV, hb4⟩
  have hLV := sv.1
  clear sv
  replace GA := GA.on hb4; replace GB_ := GB_.on hb4; replace GG := GG.on hb4; replace RL := RL.go hb4; replace RC := RC.go hb4
  have HB4 := bAnd HB3 hb4
  clear hb4 HB3 I0 I1
  go_wp2_with fail
  refine (pInvert_any DV dv LV w4 RV (by omega)).mono ?_
  rintro e w5 ⟨DW, dw, rfl, oW, hb5⟩
  have RW := oW.r
  have hLW := invL_len LV
  replace GA := GA.on hb5; replace GB_ := GB_.on hb5; replace GG := GG.on hb5; replace RL := RL.go hb5; replace RC := RC.go hb5; replace RV := RV.go hb5
  have HB5 := bAnd HB4 hb5
  clear hb5 HB4 oW
  obtain ⟨P, HK, HP, p0⟩ : ∃ P : World → Prop, Hid (Kep P) ∧ Hid (∀ v, P v → Gm ba sa Aa ca la v ∧ Gm bb sb Ab cb lb v ∧ Gm bg sg Ag cg lg v ∧ RCh v v.heap.size DL LL ∧ RCh v v.heap.size DC LC ∧ RCh v v.heap.size DV LV ∧ RCh v v.heap.size DW (invL LV) ∧ Below w.heap.size w v) ∧ P w5 :=
    ⟨fun v => Below w5.heap.size w5 v, fun v v' hb h => h.trans (hb.mono h.size), fun v h => ⟨GA.on h, GB_.on h, GG.on h, RL.go h, RC.go h, RV.go h, RW.go h, bAnd HB5 h⟩, Below.refl _ _⟩
  have HS : Hid (∀ w', P w' → w'.cell? ⟨ba, 0, none⟩ = some (.int .i64 sa) ∧ w'.cell? ⟨ba, 1, none⟩ = some (.slice Aa la.length ca) ∧ w'.cell? ⟨bb, 0, none⟩ = some (.int .i64 sb) ∧ w'.cell? ⟨bb, 1, none⟩ = some (.slice Ab lb.length cb) ∧ w'.cell? ⟨bg, 0, none⟩ = some (.int .i64 sg) ∧ w'.cell? ⟨bg, 1, none⟩ = some (.slice Ag lg.length cg)) := by
    intro w' h
    obtain ⟨h1, h2, h3, _⟩ := HP.out w' h
    exact ⟨h1.c0, h1.c1, h2.c0, h2.c1, h3.c0, h3.c1⟩
  clear GA GB_ GG RL RC RV RW HB5
  have N1 : Hid (∀ v, P v → Calls Try.prog 11 #[.agg #[.int .i64 sa, .slice Aa la.length ca], .agg #[.int .i64 sb, .slice Ab lb.length cb]] v fun e w' => CRead v w' LL e) := fun v p => HDF.out v (HP.out v p).1.ri (HP.out v p).2.1.ri
  have N3 : Hid (∀ v, P v → Calls Try.prog 13 #[.agg #[.int .i64 sg, .slice Ag lg.length cg], .slice DC LC.length dc] v fun e w' => GRead v w' (doOut sg lg LC) e) := fun v p => (pDiffDo_any sg Ag cg lg DC dc LC v (HP.out v p).2.2.1.ri (HP.out v p).2.2.2.2.1 (by omega) (by omega) HCF.out).mono fun _ _ h => h.rd
  have N4 : Hid (∀ v, P v → Calls Try.prog 14 #[.agg #[.int .i64 sg, .slice Ag lg.length cg], .slice DC LC.length dc] v fun e w' => GRead v w' (doOut sg lg LC) e) := fun v p => (mDiffDo_any sg Ag cg lg DC dc LC v (HP.out v p).2.2.1.ri (HP.out v p).2.2.2.2.1 (by omega) (by omega)).mono fun _ _ h => h.rd
  have N6 : Hid (∀ v, P v → Calls Try.prog 15 #[.slice DV LV.length dv] v fun e w' => CRead v w' (invL LV) e) := fun v p => (mInvert_any DV dv LV v (HP.out v p).2.2.2.2.2.1 (by omega)).mono fun _ _ h => h.rd
  have N8 : Hid (LV.length ≤ 64 → ∀ v, P v → Calls Try.prog 9 #[.slice DW (invL LV).length dw] v fun e w' => CRead v w' LV e) := by
    intro h64 v p
    have := pInvert_any DW dw (invL LV) v (HP.out v p).2.2.2.2.2.2.1 (by omega)
    rw [inv_inv LV h64] at this
    exact this.mono fun _ _ h => h.rd
  have hT := doOut_len sg lg LC
  have HTR := Lib.hid (doOut_right sg lg LC)
  clear HDF
  generalize doOut sg lg LC = RD at *
  obtain ⟨Cd, Sd, Td⟩ := RD
  generalize invL LV = LW at *
  unfold CRead at N1 N6 N8
  unfold GRead at N3 N4
  simp only at N3 N4 HTR hT
  go_upto_region 8 with fail
  go_cut [71] from 37 to 71 (fun c wx => c = .bool false ∧ P wx)
  case first =>
    have q0 := HK.out _ _ (belowD w5) p0
    have hkeep := HS.out _ q0
    have hk00 := HS.out _ p0
    by_cases h64 : LV.length ≤ 64
    · have hdv : decide ((LV.length : Int) ≤ 64) = true := decide_eq_true (by omega)
      have hdw : decide (LV.length ≤ 64) = true := decide_eq_true (by omega)
      go_wp2_with fail
      go_region_held3 (fun w' => w'.cell? ⟨ba, 0, none⟩ = some (.int .i64 sa) ∧ w'.cell? ⟨ba, 1, none⟩ = some (.slice Aa la.length ca) ∧ w'.cell? ⟨bb, 0, none⟩ = some (.int .i64 sb) ∧ w'.cell? ⟨bb, 1, none⟩ = some (.slice Ab lb.length cb) ∧ w'.cell? ⟨bg, 0, none⟩ = some (.int .i64 sg) ∧ w'.cell? ⟨bg, 1, none⟩ = some (.slice Ag lg.length cg))
        (first
          | (with_reducible exact hkeep)
          | go_keep)
        (first
          | (go_at_call 10; have _c := q8; clear _c; refine (lwChanges_any D8 DV d8 dv LV v8 r8 (HP.out v8 q8).2.2.2.2.2.1 (by omega)).mono ?_; rintro e v9 ⟨rfl, hb⟩; clear hkeep; have q9 := HK.out _ _ hb q8; have hkeep := HS.out _ q9; clear hb)
          | (go_at_call 9; have _c := q7; clear _c; refine (N8.out h64 v7 q7).mono ?_; rintro e v8 ⟨D8, d8, rfl, r8, hb⟩; clear hkeep; have q8 := HK.out _ _ hb q7; have hkeep := HS.out _ q8; clear hb)
          | (go_at_call 10; have _c := q6; clear _c; refine (lwChanges_any DW D6 dw d6 LW v6 (HP.out v6 q6).2.2.2.2.2.2.1 r6 (by omega)).mono ?_; rintro e v7 ⟨rfl, hb⟩; clear hkeep; have q7 := HK.out _ _ hb q6; have hkeep := HS.out _ q7; clear hb)
          | (go_at_call 15; have _c := q5; clear _c; refine (N6.out v5 q5).mono ?_; rintro e v6 ⟨D6, d6, rfl, r6, hb⟩; clear hkeep; have q6 := HK.out _ _ hb q5; have hkeep := HS.out _ q6; clear hb)
          | (go_at_call 12; have _c := q4; clear _c; refine (lwGrids_any Sd Cd A3 A4 c3 c4 Td v4 r3b r4 (by omega) HTR.out).mono ?_; rintro e v5 ⟨rfl, hb⟩; clear hkeep; have q5 := HK.out _ _ hb q4; have hkeep := HS.out _ q5; clear hb)
          | (go_at_call 14; have _c := q3; clear _c; refine (N4.out v3 q3).mono ?_; rintro e v4 ⟨A4, c4, rfl, r4, hb⟩; clear hkeep; have q4 := HK.out _ _ hb q3; have hkeep := HS.out _ q4; have r3b := r3.go hb; clear hb)
          | (go_at_call 13; have _c := q2; clear _c; refine (N3.out v2 q2).mono ?_; rintro e v3 ⟨A3, c3, rfl, r3, hb⟩; clear hkeep; have q3 := HK.out _ _ hb q2; have hkeep := HS.out _ q3; clear hb)
          | (go_at_call 10; have _c := q1; clear _c; refine (lwChanges_any DL D1 dl d1 LL v1 (HP.out v1 q1).2.2.2.1 r1 (by omega)).mono ?_; rintro e v2 ⟨rfl, hb⟩; clear hkeep; have q2 := HK.out _ _ hb q1; have hkeep := HS.out _ q2; clear hb)
          | (go_at_call 11; have _c := q0; clear _c; refine (N1.out w5.drew q0).mono ?_; rintro e v1 ⟨D1, d1, rfl, r1, hb⟩; clear hkeep; have q1 := HK.out _ _ hb q0; have hkeep := HS.out _ q1; clear hb))
      all_goals
        go_wp2_with fail
        go_meet
        exact ⟨rfl, q9⟩
    · have hdv : decide ((LV.length : Int) ≤ 64) = false := decide_eq_false (by omega)
      have hdw : decide (LV.length ≤ 64) = false := decide_eq_false (by omega)
      go_wp2_with fail
      refine wp_region_noPanic ?_
      refine wp_region_held_drew (S := (fun w' => w'.cell? ⟨ba, 0, none⟩ = some (.int .i64 sa) ∧ w'.cell? ⟨ba, 1, none⟩ = some (.slice Aa la.length ca) ∧ w'.cell? ⟨bb, 0, none⟩ = some (.int .i64 sb) ∧ w'.cell? ⟨bb, 1, none⟩ = some (.slice Ab lb.length cb) ∧ w'.cell? ⟨bg, 0, none⟩ = some (.int .i64 sg) ∧ w'.cell? ⟨bg, 1, none⟩ = some (.slice Ag lg.length cg))) (by kernel_rfl) hk00 (fun hHeld => ?_)
      refine wpAnyH_take (i := 0) (v := ?_) rfl (by kernel_rfl) (by kernel_rfl) (by kernel_rfl) (fun _ _ _ h => h) (Or.inl ⟨by rfl, ?_⟩) (by assumption) ?_
      rotate_left 1
      · (intro w' hSw; (try dsimp only at hSw); go_simp <;> with_reducible rfl)
      simp only [Act.put, List.getElem_toArray, List.getElem_cons_succ, List.getElem_cons_zero, List.setIfInBounds_toArray, List.set_cons_zero, List.set_cons_succ]
      refine wpAnyH_take (i := 1) (v := ?_) rfl (by kernel_rfl) (by kernel_rfl) (by kernel_rfl) (fun _ _ _ h => h) (Or.inl ⟨by rfl, ?_⟩) (by assumption) ?_
      rotate_left 1
      · (intro w' hSw; (try dsimp only at hSw); go_simp <;> with_reducible rfl)
      simp only [Act.put, List.getElem_toArray, List.getElem_cons_succ, List.getElem_cons_zero, List.setIfInBounds_toArray, List.set_cons_zero, List.set_cons_succ]
      refine wpAnyH_take (i := 2) (v := ?_) rfl (by kernel_rfl) (by kernel_rfl) (by kernel_rfl) (fun _ _ _ h => h) (Or.inl ⟨by rfl, ?_⟩) (by assumption) ?_
      rotate_left 1
      · (intro w' hSw; (try dsimp only at hSw); go_simp <;> with_reducible rfl)
      simp only [Act.put, List.getElem_toArray, List.getElem_cons_succ, List.getElem_cons_zero, List.setIfInBounds_toArray, List.set_cons_zero, List.set_cons_succ]
      refine wpAnyH_ready (rs := [3]) (by kernel_rfl) (by simp) ?_
      refine (AllReadyH.cons rfl (fun K hK => ?_) AllReadyH.nil)
      go_simp
      (first | (go_at_call 10; have _c := q6; clear _c; refine (lwChanges_any DW D6 dw d6 LW v6 (HP.out v6 q6).2.2.2.2.2.2.1 r6 (by omega)).mono ?_; rintro e v7 ⟨rfl, hb⟩; clear hkeep; have q7 := HK.out _ _ hb q6; have hkeep := HS.out _ q7; clear hb) | (go_at_call 15; have _c := q5; clear _c; refine (N6.out v5 q5).mono ?_; rintro e v6 ⟨D6, d6, rfl, r6, hb⟩; clear hkeep; have q6 := HK.out _ _ hb q5; have hkeep := HS.out _ q6; clear hb) | (go_at_call 12; have _c := q4; clear _c; refine (lwGrids_any Sd Cd A3 A4 c3 c4 Td v4 r3b r4 (by omega) HTR.out).mono ?_; rintro e v5 ⟨rfl, hb⟩; clear hkeep; have q5 := HK.out _ _ hb q4; have hkeep := HS.out _ q5; clear hb) | (go_at_call 14; have _c := q3; clear _c; refine (N4.out v3 q3).mono ?_; rintro e v4 ⟨A4, c4, rfl, r4, hb⟩; clear hkeep; have q4 := HK.out _ _ hb q3; have hkeep := HS.out _ q4; have r3b := r3.go hb; clear hb) | (go_at_call 13; have _c := q2; clear _c; refine (N3.out v2 q2).mono ?_; rintro e v3 ⟨A3, c3, rfl, r3, hb⟩; clear hkeep; have q3 := HK.out _ _ hb q2; have hkeep := HS.out _ q3; clear hb) | (go_at_call 10; have _c := q1; clear _c; refine (lwChanges_any DL D1 dl d1 LL v1 (HP.out v1 q1).2.2.2.1 r1 (by omega)).mono ?_; rintro e v2 ⟨rfl, hb⟩; clear hkeep; have q2 := HK.out _ _ hb q1; have hkeep := HS.out _ q2; clear hb) | (go_at_call 11; have _c := q0; clear _c; refine (N1.out w5.drew q0).mono ?_; rintro e v1 ⟨D1, d1, rfl, r1, hb⟩; clear hkeep; have q1 := HK.out _ _ hb q0; have hkeep := HS.out _ q1; clear hb))
      try go_wp2_with fail
      refine hK.out _ _ ?_ (fun hHeld => ?_)
      · (first | (with_reducible exact hHeld) | (with_reducible exact hkeep) | go_keep)
      clear hK K
      try simp only [Act.put, List.getElem_toArray, List.getElem_cons_succ, List.getElem_cons_zero, List.setIfInBounds_toArray, List.set_cons_zero, List.set_cons_succ]
      refine wpAnyH_ready (rs := [4]) (by kernel_rfl) (by simp) ?_
      refine (AllReadyH.cons rfl (fun K hK => ?_) AllReadyH.nil)
      go_simp
      (first | (go_at_call 10; have _c := q6; clear _c; refine (lwChanges_any DW D6 dw d6 LW v6 (HP.out v6 q6).2.2.2.2.2.2.1 r6 (by omega)).mono ?_; rintro e v7 ⟨rfl, hb⟩; clear hkeep; have q7 := HK.out _ _ hb q6; have hkeep := HS.out _ q7; clear hb) | (go_at_call 15; have _c := q5; clear _c; refine (N6.out v5 q5).mono ?_; rintro e v6 ⟨D6, d6, rfl, r6, hb⟩; clear hkeep; have q6 := HK.out _ _ hb q5; have hkeep := HS.out _ q6; clear hb) | (go_at_call 12; have _c := q4; clear _c; refine (lwGrids_any Sd Cd A3 A4 c3 c4 Td v4 r3b r4 (by omega) HTR.out).mono ?_; rintro e v5 ⟨rfl, hb⟩; clear hkeep; have q5 := HK.out _ _ hb q4; have hkeep := HS.out _ q5; clear hb) | (go_at_call 14; have _c := q3; clear _c; refine (N4.out v3 q3).mono ?_; rintro e v4 ⟨A4, c4, rfl, r4, hb⟩; clear hkeep; have q4 := HK.out _ _ hb q3; have hkeep := HS.out _ q4; have r3b := r3.go hb; clear hb) | (go_at_call 13; have _c := q2; clear _c; refine (N3.out v2 q2).mono ?_; rintro e v3 ⟨A3, c3, rfl, r3, hb⟩; clear hkeep; have q3 := HK.out _ _ hb q2; have hkeep := HS.out _ q3; clear hb) | (go_at_call 10; have _c := q1; clear _c; refine (lwChanges_any DL D1 dl d1 LL v1 (HP.out v1 q1).2.2.2.1 r1 (by omega)).mono ?_; rintro e v2 ⟨rfl, hb⟩; clear hkeep; have q2 := HK.out _ _ hb q1; have hkeep := HS.out _ q2; clear hb) | (go_at_call 11; have _c := q0; clear _c; refine (N1.out w5.drew q0).mono ?_; rintro e v1 ⟨D1, d1, rfl, r1, hb⟩; clear hkeep; have q1 := HK.out _ _ hb q0; have hkeep := HS.out _ q1; clear hb))
      try go_wp2_with fail
      refine hK.out _ _ ?_ (fun hHeld => ?_)
      · (first | (with_reducible exact hHeld) | (with_reducible exact hkeep) | go_keep)
      clear hK K
      try simp only [Act.put, List.getElem_toArray, List.getElem_cons_succ, List.getElem_cons_zero, List.setIfInBounds_toArray, List.set_cons_zero, List.set_cons_succ]
      refine wpAnyH_take (i := 5) (v := ?_) rfl (by kernel_rfl) (by kernel_rfl) (by kernel_rfl) (fun _ _ _ h => h) (Or.inl ⟨by rfl, ?_⟩) (by assumption) ?_
      rotate_left 1
      · (intro w' hSw; (try dsimp only at hSw); go_simp <;> with_reducible rfl)
      simp only [Act.put, List.getElem_toArray, List.getElem_cons_succ, List.getElem_cons_zero, List.setIfInBounds_toArray, List.set_cons_zero, List.set_cons_succ]
      refine wpAnyH_take (i := 6) (v := ?_) rfl (by kernel_rfl) (by kernel_rfl) (by kernel_rfl) (fun _ _ _ h => h) (Or.inl ⟨by rfl, ?_⟩) (by assumption) ?_
      rotate_left 1
      · (intro w' hSw; (try dsimp only at hSw); go_simp <;> with_reducible rfl)
      simp only [Act.put, List.getElem_toArray, List.getElem_cons_succ, List.getElem_cons_zero, List.setIfInBounds_toArray, List.set_cons_zero, List.set_cons_succ]
      refine wpAnyH_take (i := 7) (v := ?_) rfl (by kernel_rfl) (by kernel_rfl) (by kernel_rfl) (fun _ _ _ h => h) (Or.inl ⟨by rfl, ?_⟩) (by assumption) ?_
      rotate_left 1
      · (intro w' hSw; (try dsimp only at hSw); go_simp <;> with_reducible rfl)
      simp only [Act.put, List.getElem_toArray, List.getElem_cons_succ, List.getElem_cons_zero, List.setIfInBounds_toArray, List.set_cons_zero, List.set_cons_succ]
      refine wpAnyH_take (i := 8) (v := ?_) rfl (by kernel_rfl) (by kernel_rfl) (by kernel_rfl) (fun _ _ _ h => h) (Or.inl ⟨by rfl, ?_⟩) (by assumption) ?_
      rotate_left 1
      · (intro w' hSw; (try dsimp only at hSw); go_simp <;> with_reducible rfl)
      simp only [Act.put, List.getElem_toArray, List.getElem_cons_succ, List.getElem_cons_zero, List.setIfInBounds_toArray, List.set_cons_zero, List.set_cons_succ]
      refine wpAnyH_take (i := 10) (v := ?_) rfl (by kernel_rfl) (by kernel_rfl) (by kernel_rfl) (fun _ _ _ h => h) (Or.inl ⟨by rfl, ?_⟩) (by assumption) ?_
      rotate_left 1
      · (intro w' hSw; (try dsimp only at hSw); go_simp <;> with_reducible rfl)
      simp only [Act.put, List.getElem_toArray, List.getElem_cons_succ, List.getElem_cons_zero, List.setIfInBounds_toArray, List.set_cons_zero, List.set_cons_succ]
      refine wpAnyH_take (i := 11) (v := ?_) rfl (by kernel_rfl) (by kernel_rfl) (by kernel_rfl) (fun _ _ _ h => h) (Or.inl ⟨by rfl, ?_⟩) (by assumption) ?_
      rotate_left 1
      · (intro w' hSw; (try dsimp only at hSw); go_simp <;> with_reducible rfl)
      simp only [Act.put, List.getElem_toArray, List.getElem_cons_succ, List.getElem_cons_zero, List.setIfInBounds_toArray, List.set_cons_zero, List.set_cons_succ]
      refine wpAnyH_ready (rs := [9]) (by kernel_rfl) (by simp) ?_
      refine (AllReadyH.cons rfl (fun K hK => ?_) AllReadyH.nil)
      go_simp
      (first | (go_at_call 10; have _c := q6; clear _c; refine (lwChanges_any DW D6 dw d6 LW v6 (HP.out v6 q6).2.2.2.2.2.2.1 r6 (by omega)).mono ?_; rintro e v7 ⟨rfl, hb⟩; clear hkeep; have q7 := HK.out _ _ hb q6; have hkeep := HS.out _ q7; clear hb) | (go_at_call 15; have _c := q5; clear _c; refine (N6.out v5 q5).mono ?_; rintro e v6 ⟨D6, d6, rfl, r6, hb⟩; clear hkeep; have q6 := HK.out _ _ hb q5; have hkeep := HS.out _ q6; clear hb) | (go_at_call 12; have _c := q4; clear _c; refine (lwGrids_any Sd Cd A3 A4 c3 c4 Td v4 r3b r4 (by omega) HTR.out).mono ?_; rintro e v5 ⟨rfl, hb⟩; clear hkeep; have q5 := HK.out _ _ hb q4; have hkeep := HS.out _ q5; clear hb) | (go_at_call 14; have _c := q3; clear _c; refine (N4.out v3 q3).mono ?_; rintro e v4 ⟨A4, c4, rfl, r4, hb⟩; clear hkeep; have q4 := HK.out _ _ hb q3; have hkeep := HS.out _ q4; have r3b := r3.go hb; clear hb) | (go_at_call 13; have _c := q2; clear _c; refine (N3.out v2 q2).mono ?_; rintro e v3 ⟨A3, c3, rfl, r3, hb⟩; clear hkeep; have q3 := HK.out _ _ hb q2; have hkeep := HS.out _ q3; clear hb) | (go_at_call 10; have _c := q1; clear _c; refine (lwChanges_any DL D1 dl d1 LL v1 (HP.out v1 q1).2.2.2.1 r1 (by omega)).mono ?_; rintro e v2 ⟨rfl, hb⟩; clear hkeep; have q2 := HK.out _ _ hb q1; have hkeep := HS.out _ q2; clear hb) | (go_at_call 11; have _c := q0; clear _c; refine (N1.out w5.drew q0).mono ?_; rintro e v1 ⟨D1, d1, rfl, r1, hb⟩; clear hkeep; have q1 := HK.out _ _ hb q0; have hkeep := HS.out _ q1; clear hb))
      try go_wp2_with fail
      refine hK.out _ _ ?_ (fun hHeld => ?_)
      · (first | (with_reducible exact hHeld) | (with_reducible exact hkeep) | go_keep)
      clear hK K
      try simp only [Act.put, List.getElem_toArray, List.getElem_cons_succ, List.getElem_cons_zero, List.setIfInBounds_toArray, List.set_cons_zero, List.set_cons_succ]
      refine wpAnyH_ready (rs := [12]) (by kernel_rfl) (by simp) ?_
      refine (AllReadyH.cons rfl (fun K hK => ?_) AllReadyH.nil)
      go_simp
      (first | (go_at_call 10; have _c := q6; clear _c; refine (lwChanges_any DW D6 dw d6 LW v6 (HP.out v6 q6).2.2.2.2.2.2.1 r6 (by omega)).mono ?_; rintro e v7 ⟨rfl, hb⟩; clear hkeep; have q7 := HK.out _ _ hb q6; have hkeep := HS.out _ q7; clear hb) | (go_at_call 15; have _c := q5; clear _c; refine (N6.out v5 q5).mono ?_; rintro e v6 ⟨D6, d6, rfl, r6, hb⟩; clear hkeep; have q6 := HK.out _ _ hb q5; have hkeep := HS.out _ q6; clear hb) | (go_at_call 12; have _c := q4; clear _c; refine (lwGrids_any Sd Cd A3 A4 c3 c4 Td v4 r3b r4 (by omega) HTR.out).mono ?_; rintro e v5 ⟨rfl, hb⟩; clear hkeep; have q5 := HK.out _ _ hb q4; have hkeep := HS.out _ q5; clear hb) | (go_at_call 14; have _c := q3; clear _c; refine (N4.out v3 q3).mono ?_; rintro e v4 ⟨A4, c4, rfl, r4, hb⟩; clear hkeep; have q4 := HK.out _ _ hb q3; have hkeep := HS.out _ q4; have r3b := r3.go hb; clear hb) | (go_at_call 13; have _c := q2; clear _c; refine (N3.out v2 q2).mono ?_; rintro e v3 ⟨A3, c3, rfl, r3, hb⟩; clear hkeep; have q3 := HK.out _ _ hb q2; have hkeep := HS.out _ q3; clear hb) | (go_at_call 10; have _c := q1; clear _c; refine (lwChanges_any DL D1 dl d1 LL v1 (HP.out v1 q1).2.2.2.1 r1 (by omega)).mono ?_; rintro e v2 ⟨rfl, hb⟩; clear hkeep; have q2 := HK.out _ _ hb q1; have hkeep := HS.out _ q2; clear hb) | (go_at_call 11; have _c := q0; clear _c; refine (N1.out w5.drew q0).mono ?_; rintro e v1 ⟨D1, d1, rfl, r1, hb⟩; clear hkeep; have q1 := HK.out _ _ hb q0; have hkeep := HS.out _ q1; clear hb))
      try go_wp2_with fail
      refine hK.out _ _ ?_ (fun hHeld => ?_)
      · (first | (with_reducible exact hHeld) | (with_reducible exact hkeep) | go_keep)
      clear hK K
      try simp only [Act.put, List.getElem_toArray, List.getElem_cons_succ, List.getElem_cons_zero, List.setIfInBounds_toArray, List.set_cons_zero, List.set_cons_succ]
      refine wpAnyH_ready (rs := [13]) (by kernel_rfl) (by simp) ?_
      refine (AllReadyH.cons rfl (fun K hK => ?_) AllReadyH.nil)
      go_simp
      (first | (go_at_call 10; have _c := q6; clear _c; refine (lwChanges_any DW D6 dw d6 LW v6 (HP.out v6 q6).2.2.2.2.2.2.1 r6 (by omega)).mono ?_; rintro e v7 ⟨rfl, hb⟩; clear hkeep; have q7 := HK.out _ _ hb q6; have hkeep := HS.out _ q7; clear hb) | (go_at_call 15; have _c := q5; clear _c; refine (N6.out v5 q5).mono ?_; rintro e v6 ⟨D6, d6, rfl, r6, hb⟩; clear hkeep; have q6 := HK.out _ _ hb q5; have hkeep := HS.out _ q6; clear hb) | (go_at_call 12; have _c := q4; clear _c; refine (lwGrids_any Sd Cd A3 A4 c3 c4 Td v4 r3b r4 (by omega) HTR.out).mono ?_; rintro e v5 ⟨rfl, hb⟩; clear hkeep; have q5 := HK.out _ _ hb q4; have hkeep := HS.out _ q5; clear hb) | (go_at_call 14; have _c := q3; clear _c; refine (N4.out v3 q3).mono ?_; rintro e v4 ⟨A4, c4, rfl, r4, hb⟩; clear hkeep; have q4 := HK.out _ _ hb q3; have hkeep := HS.out _ q4; have r3b := r3.go hb; clear hb) | (go_at_call 13; have _c := q2; clear _c; refine (N3.out v2 q2).mono ?_; rintro e v3 ⟨A3, c3, rfl, r3, hb⟩; clear hkeep; have q3 := HK.out _ _ hb q2; have hkeep := HS.out _ q3; clear hb) | (go_at_call 10; have _c := q1; clear _c; refine (lwChanges_any DL D1 dl d1 LL v1 (HP.out v1 q1).2.2.2.1 r1 (by omega)).mono ?_; rintro e v2 ⟨rfl, hb⟩; clear hkeep; have q2 := HK.out _ _ hb q1; have hkeep := HS.out _ q2; clear hb) | (go_at_call 11; have _c := q0; clear _c; refine (N1.out w5.drew q0).mono ?_; rintro e v1 ⟨D1, d1, rfl, r1, hb⟩; clear hkeep; have q1 := HK.out _ _ hb q0; have hkeep := HS.out _ q1; clear hb))
      try go_wp2_with fail
      refine hK.out _ _ ?_ (fun hHeld => ?_)
      · (first | (with_reducible exact hHeld) | (with_reducible exact hkeep) | go_keep)
      clear hK K
      try simp only [Act.put, List.getElem_toArray, List.getElem_cons_succ, List.getElem_cons_zero, List.setIfInBounds_toArray, List.set_cons_zero, List.set_cons_succ]
      refine wpAnyH_take (i := 14) (v := ?_) rfl (by kernel_rfl) (by kernel_rfl) (by kernel_rfl) (fun _ _ _ h => h) (Or.inl ⟨by rfl, ?_⟩) (by assumption) ?_
      rotate_left 1
      · (intro w' hSw; (try dsimp only at hSw); go_simp <;> with_reducible rfl)
      simp only [Act.put, List.getElem_toArray, List.getElem_cons_succ, List.getElem_cons_zero, List.setIfInBounds_toArray, List.set_cons_zero, List.set_cons_succ]
      refine wpAnyH_take (i := 15) (v := ?_) rfl (by kernel_rfl) (by kernel_rfl) (by kernel_rfl) (fun _ _ _ h => h) (Or.inl ⟨by rfl, ?_⟩) (by assumption) ?_
      rotate_left 1
      · (intro w' hSw; (try dsimp only at hSw); go_simp <;> with_reducible rfl)
      simp only [Act.put, List.getElem_toArray, List.getElem_cons_succ, List.getElem_cons_zero, List.setIfInBounds_toArray, List.set_cons_zero, List.set_cons_succ]
      refine wpAnyH_take (i := 16) (v := ?_) rfl (by kernel_rfl) (by kernel_rfl) (by kernel_rfl) (fun _ _ _ h => h) (Or.inl ⟨by rfl, ?_⟩) (by assumption) ?_
      rotate_left 1
      · (intro w' hSw; (try dsimp only at hSw); go_simp <;> with_reducible rfl)
      simp only [Act.put, List.getElem_toArray, List.getElem_cons_succ, List.getElem_cons_zero, List.setIfInBounds_toArray, List.set_cons_zero, List.set_cons_succ]
      refine wpAnyH_take (i := 17) (v := ?_) rfl (by kernel_rfl) (by kernel_rfl) (by kernel_rfl) (fun _ _ _ h => h) (Or.inl ⟨by rfl, ?_⟩) (by assumption) ?_
      rotate_left 1
      · (intro w' hSw; (try dsimp only at hSw); go_simp <;> with_reducible rfl)
      simp only [Act.put, List.getElem_toArray, List.getElem_cons_succ, List.getElem_cons_zero, List.setIfInBounds_toArray, List.set_cons_zero, List.set_cons_succ]
      refine wpAnyH_take (i := 18) (v := ?_) rfl (by kernel_rfl) (by kernel_rfl) (by kernel_rfl) (fun _ _ _ h => h) (Or.inl ⟨by rfl, ?_⟩) (by assumption) ?_
      rotate_left 1
      · (intro w' hSw; (try dsimp only at hSw); go_simp <;> with_reducible rfl)
      simp only [Act.put, List.getElem_toArray, List.getElem_cons_succ, List.getElem_cons_zero, List.setIfInBounds_toArray, List.set_cons_zero, List.set_cons_succ]
      refine wpAnyH_ready (rs := [19]) (by kernel_rfl) (by simp) ?_
      refine (AllReadyH.cons rfl (fun K hK => ?_) AllReadyH.nil)
      go_simp
      (first | (go_at_call 10; have _c := q6; clear _c; refine (lwChanges_any DW D6 dw d6 LW v6 (HP.out v6 q6).2.2.2.2.2.2.1 r6 (by omega)).mono ?_; rintro e v7 ⟨rfl, hb⟩; clear hkeep; have q7 := HK.out _ _ hb q6; have hkeep := HS.out _ q7; clear hb) | (go_at_call 15; have _c := q5; clear _c; refine (N6.out v5 q5).mono ?_; rintro e v6 ⟨D6, d6, rfl, r6, hb⟩; clear hkeep; have q6 := HK.out _ _ hb q5; have hkeep := HS.out _ q6; clear hb) | (go_at_call 12; have _c := q4; clear _c; refine (lwGrids_any Sd Cd A3 A4 c3 c4 Td v4 r3b r4 (by omega) HTR.out).mono ?_; rintro e v5 ⟨rfl, hb⟩; clear hkeep; have q5 := HK.out _ _ hb q4; have hkeep := HS.out _ q5; clear hb) | (go_at_call 14; have _c := q3; clear _c; refine (N4.out v3 q3).mono ?_; rintro e v4 ⟨A4, c4, rfl, r4, hb⟩; clear hkeep; have q4 := HK.out _ _ hb q3; have hkeep := HS.out _ q4; have r3b := r3.go hb; clear hb) | (go_at_call 13; have _c := q2; clear _c; refine (N3.out v2 q2).mono ?_; rintro e v3 ⟨A3, c3, rfl, r3, hb⟩; clear hkeep; have q3 := HK.out _ _ hb q2; have hkeep := HS.out _ q3; clear hb) | (go_at_call 10; have _c := q1; clear _c; refine (lwChanges_any DL D1 dl d1 LL v1 (HP.out v1 q1).2.2.2.1 r1 (by omega)).mono ?_; rintro e v2 ⟨rfl, hb⟩; clear hkeep; have q2 := HK.out _ _ hb q1; have hkeep := HS.out _ q2; clear hb) | (go_at_call 11; have _c := q0; clear _c; refine (N1.out w5.drew q0).mono ?_; rintro e v1 ⟨D1, d1, rfl, r1, hb⟩; clear hkeep; have q1 := HK.out _ _ hb q0; have hkeep := HS.out _ q1; clear hb))
      try go_wp2_with fail
      refine hK.out _ _ ?_ (fun hHeld => ?_)
      · (first | (with_reducible exact hHeld) | (with_reducible exact hkeep) | go_keep)
      clear hK K
      try simp only [Act.put, List.getElem_toArray, List.getElem_cons_succ, List.getElem_cons_zero, List.setIfInBounds_toArray, List.set_cons_zero, List.set_cons_succ]
      refine wpAnyH_ready (rs := [20]) (by kernel_rfl) (by simp) ?_
      refine (AllReadyH.cons rfl (fun K hK => ?_) AllReadyH.nil)
      go_simp
      (first | (go_at_call 10; have _c := q6; clear _c; refine (lwChanges_any DW D6 dw d6 LW v6 (HP.out v6 q6).2.2.2.2.2.2.1 r6 (by omega)).mono ?_; rintro e v7 ⟨rfl, hb⟩; clear hkeep; have q7 := HK.out _ _ hb q6; have hkeep := HS.out _ q7; clear hb) | (go_at_call 15; have _c := q5; clear _c; refine (N6.out v5 q5).mono ?_; rintro e v6 ⟨D6, d6, rfl, r6, hb⟩; clear hkeep; have q6 := HK.out _ _ hb q5; have hkeep := HS.out _ q6; clear hb) | (go_at_call 12; have _c := q4; clear _c; refine (lwGrids_any Sd Cd A3 A4 c3 c4 Td v4 r3b r4 (by omega) HTR.out).mono ?_; rintro e v5 ⟨rfl, hb⟩; clear hkeep; have q5 := HK.out _ _ hb q4; have hkeep := HS.out _ q5; clear hb) | (go_at_call 14; have _c := q3; clear _c; refine (N4.out v3 q3).mono ?_; rintro e v4 ⟨A4, c4, rfl, r4, hb⟩; clear hkeep; have q4 := HK.out _ _ hb q3; have hkeep := HS.out _ q4; have r3b := r3.go hb; clear hb) | (go_at_call 13; have _c := q2; clear _c; refine (N3.out v2 q2).mono ?_; rintro e v3 ⟨A3, c3, rfl, r3, hb⟩; clear hkeep; have q3 := HK.out _ _ hb q2; have hkeep := HS.out _ q3; clear hb) | (go_at_call 10; have _c := q1; clear _c; refine (lwChanges_any DL D1 dl d1 LL v1 (HP.out v1 q1).2.2.2.1 r1 (by omega)).mono ?_; rintro e v2 ⟨rfl, hb⟩; clear hkeep; have q2 := HK.out _ _ hb q1; have hkeep := HS.out _ q2; clear hb) | (go_at_call 11; have _c := q0; clear _c; refine (N1.out w5.drew q0).mono ?_; rintro e v1 ⟨D1, d1, rfl, r1, hb⟩; clear hkeep; have q1 := HK.out _ _ hb q0; have hkeep := HS.out _ q1; clear hb))
      try go_wp2_with fail
      refine hK.out _ _ ?_ (fun hHeld => ?_)
      · (first | (with_reducible exact hHeld) | (with_reducible exact hkeep) | go_keep)
      clear hK K
      try simp only [Act.put, List.getElem_toArray, List.getElem_cons_succ, List.getElem_cons_zero, List.setIfInBounds_toArray, List.set_cons_zero, List.set_cons_succ]
      refine wpAnyH_take (i := 21) (v := ?_) rfl (by kernel_rfl) (by kernel_rfl) (by kernel_rfl) (fun _ _ _ h => h) (Or.inl ⟨by rfl, ?_⟩) (by assumption) ?_
      rotate_left 1
      · (intro w' hSw; (try dsimp only at hSw); go_simp <;> with_reducible rfl)
      simp only [Act.put, List.getElem_toArray, List.getElem_cons_succ, List.getElem_cons_zero, List.setIfInBounds_toArray, List.set_cons_zero, List.set_cons_succ]
      refine wpAnyH_take (i := 22) (v := ?_) rfl (by kernel_rfl) (by kernel_rfl) (by kernel_rfl) (fun _ _ _ h => h) (Or.inl ⟨by rfl, ?_⟩) (by assumption) ?_
      rotate_left 1
      · (intro w' hSw; (try dsimp only at hSw); go_simp <;> with_reducible rfl)
      simp only [Act.put, List.getElem_toArray, List.getElem_cons_succ, List.getElem_cons_zero, List.setIfInBounds_toArray, List.set_cons_zero, List.set_cons_succ]
      refine wpAnyH_take (i := 23) (v := ?_) rfl (by kernel_rfl) (by kernel_rfl) (by kernel_rfl) (fun _ _ _ h => h) (Or.inl ⟨by rfl, ?_⟩) (by assumption) ?_
      rotate_left 1
      · (intro w' hSw; (try dsimp only at hSw); go_simp <;> with_reducible rfl)
      simp only [Act.put, List.getElem_toArray, List.getElem_cons_succ, List.getElem_cons_zero, List.setIfInBounds_toArray, List.set_cons_zero, List.set_cons_succ]
      refine wpAnyH_take (i := 24) (v := ?_) rfl (by kernel_rfl) (by kernel_rfl) (by kernel_rfl) (fun _ _ _ h => h) (Or.inl ⟨by rfl, ?_⟩) (by assumption) ?_
      rotate_left 1
      · (intro w' hSw; (try dsimp only at hSw); go_simp <;> with_reducible rfl)
      simp only [Act.put, List.getElem_toArray, List.getElem_cons_succ, List.getElem_cons_zero, List.setIfInBounds_toArray, List.set_cons_zero, List.set_cons_succ]
      refine wpAnyH_take (i := 25) (v := ?_) rfl (by kernel_rfl) (by kernel_rfl) (by kernel_rfl) (fun _ _ _ h => h) (Or.inl ⟨by rfl, ?_⟩) (by assumption) ?_
      rotate_left 1
      · (intro w' hSw; (try dsimp only at hSw); go_simp <;> with_reducible rfl)
      simp only [Act.put, List.getElem_toArray, List.getElem_cons_succ, List.getElem_cons_zero, List.setIfInBounds_toArray, List.set_cons_zero, List.set_cons_succ]
      refine wpAnyH_take (i := 26) (v := ?_) rfl (by kernel_rfl) (by kernel_rfl) (by kernel_rfl) (fun _ _ _ h => h) (Or.inl ⟨by rfl, ?_⟩) (by assumption) ?_
      rotate_left 1
      · (intro w' hSw; (try dsimp only at hSw); go_simp <;> with_reducible rfl)
      simp only [Act.put, List.getElem_toArray, List.getElem_cons_succ, List.getElem_cons_zero, List.setIfInBounds_toArray, List.set_cons_zero, List.set_cons_succ]
      refine wpAnyH_take (i := 27) (v := ?_) rfl (by kernel_rfl) (by kernel_rfl) (by kernel_rfl) (fun _ _ _ h => h) (Or.inl ⟨by rfl, ?_⟩) (by assumption) ?_
      rotate_left 1
      · (intro w' hSw; (try dsimp only at hSw); go_simp <;> with_reducible rfl)
      simp only [Act.put, List.getElem_toArray, List.getElem_cons_succ, List.getElem_cons_zero, List.setIfInBounds_toArray, List.set_cons_zero, List.set_cons_succ]
      refine wpAnyH_take (i := 28) (v := undef) rfl (by kernel_rfl) (by kernel_rfl) (by kernel_rfl) (fun _ _ _ h => h) (Or.inr ⟨by kernel_rfl, rfl⟩) (by assumption) ?_
      simp only [Act.put, List.getElem_toArray, List.getElem_cons_succ, List.getElem_cons_zero, List.setIfInBounds_toArray, List.set_cons_zero, List.set_cons_succ]
      refine wpAnyH_take (i := 30) (v := undef) rfl (by kernel_rfl) (by kernel_rfl) (by kernel_rfl) (fun _ _ _ h => h) (Or.inr ⟨by kernel_rfl, rfl⟩) (by assumption) ?_
      simp only [Act.put, List.getElem_toArray, List.getElem_cons_succ, List.getElem_cons_zero, List.setIfInBounds_toArray, List.set_cons_zero, List.set_cons_succ]
      refine wpAnyH_ready (rs := [29]) (by kernel_rfl) (by simp) ?_
      refine (AllReadyH.cons rfl (fun K hK => ?_) AllReadyH.nil)
      rw [if_neg (show ¬ (_ = true) from fun h => Bool.noConfusion ((show _ = false by kernel_rfl).symm.trans h))]
      refine hK.out _ _ ?_ (fun hHeld => ?_)
      · (first | (with_reducible exact hHeld) | (with_reducible exact hkeep) | go_keep)
      clear hK K
      try simp only [Act.put, List.getElem_toArray, List.getElem_cons_succ, List.getElem_cons_zero, List.setIfInBounds_toArray, List.set_cons_zero, List.set_cons_succ]
      refine wpAnyH_ready (rs := [31]) (by kernel_rfl) (by simp) ?_
      refine (AllReadyH.cons rfl (fun K hK => ?_) AllReadyH.nil)
      rw [if_neg (show ¬ (_ = true) from fun h => Bool.noConfusion ((show _ = false by kernel_rfl).symm.trans h))]
      refine hK.out _ _ ?_ (fun hHeld => ?_)
      · (first | (with_reducible exact hHeld) | (with_reducible exact hkeep) | go_keep)
      clear hK K
      try simp only [Act.put, List.getElem_toArray, List.getElem_cons_succ, List.getElem_cons_zero, List.setIfInBounds_toArray, List.set_cons_zero, List.set_cons_succ]
      refine wpAnyH_ready (rs := [32]) (by kernel_rfl) (by simp) ?_
      refine (AllReadyH.cons rfl (fun K hK => ?_) AllReadyH.nil)
      rw [if_neg (show ¬ (_ = true) from fun h => Bool.noConfusion ((show _ = false by kernel_rfl).symm.trans h))]
      refine hK.out _ _ ?_ (fun hHeld => ?_)
      · (first | (with_reducible exact hHeld) | (with_reducible exact hkeep) | go_keep)
      clear hK K
      try simp only [Act.put, List.getElem_toArray, List.getElem_cons_succ, List.getElem_cons_zero, List.setIfInBounds_toArray, List.set_cons_zero, List.set_cons_succ]
      refine wpAnyH_take (i := 33) (v := ?_) rfl (by kernel_rfl) (by kernel_rfl) (by kernel_rfl) (fun _ _ _ h => h) (Or.inl ⟨by rfl, ?_⟩) (by assumption) ?_
      rotate_left 1
      · (intro w' hSw; (try dsimp only at hSw); go_simp <;> with_reducible rfl)
      simp only [Act.put, List.getElem_toArray, List.getElem_cons_succ, List.getElem_cons_zero, List.setIfInBounds_toArray, List.set_cons_zero, List.set_cons_succ]
      refine wpAnyH_take (i := 34) (v := ?_) rfl (by kernel_rfl) (by kernel_rfl) (by kernel_rfl) (fun _ _ _ h => h) (Or.inl ⟨by rfl, ?_⟩) (by assumption) ?_
      rotate_left 1
      · (intro w' hSw; (try dsimp only at hSw); go_simp <;> with_reducible rfl)
      simp only [Act.put, List.getElem_toArray, List.getElem_cons_succ, List.getElem_cons_zero, List.setIfInBounds_toArray, List.set_cons_zero, List.set_cons_succ]
      refine wpAnyH_done (by kernel_rfl) ?_ _
      refine NoPanic.normal ?_
      clear hHeld
      try simp only [Act.put, List.getElem_toArray, List.getElem_cons_succ, List.getElem_cons_zero, List.setIfInBounds_toArray, List.set_cons_zero, List.set_cons_succ]
      go_wp2_with fail
      go_meet
      exact ⟨rfl, q7⟩
  case rest =>
    obtain ⟨rfl, pc⟩ := hcut
    clear N1 N3 N4 N6 N8 p0 HTR
    have PC := Lib.hid pc
    have hRa := fun v p => mRight_any sa Aa ca la v (HP.out v p).1.ri (by omega)
    have hRb := fun v p => mRight_any sb Ab cb lb v (HP.out v p).2.1.ri (by omega)
    obtain ⟨g0, g1, g2, g3, g4, g5⟩ := HS.out _ pc
    cases hra : gridRight sa la
    case false =>
      rw [hra] at hRa
      go_wp2_with fail
      refine (hRa _ PC.out).mono ?_
      rintro e w6 ⟨rfl, hb⟩
      have p6 := Lib.hid (HK.out _ _ hb PC.out)
      clear hb pc g0 g1 g2 g3 g4 g5
      go_wp2_with fail
      go_ret
      exact ⟨rfl, (HP.out _ p6.out).2.2.2.2.2.2.2⟩
    rw [hra] at hRa
    cases hrb : gridRight sb lb
    case false =>
      rw [hrb] at hRb
      go_wp2_with fail
      refine (hRa _ PC.out).mono ?_
      rintro e w6 ⟨rfl, hb⟩
      have p6 := HK.out _ _ hb PC.out
      clear hb pc g0 g1 g2 g3 g4 g5
      obtain ⟨g0, g1, g2, g3, g4, g5⟩ := HS.out _ p6
      have P6 := Lib.hid p6
      clear p6
      go_wp2_with fail
      refine (hRb _ P6.out).mono ?_
      rintro e w7 ⟨rfl, hb⟩
      have p7 := HK.out _ _ hb P6.out
      clear hb g0 g1 g2 g3 g4 g5
      obtain ⟨g0, g1, g2, g3, g4, g5⟩ := HS.out _ p7
      have P7 := Lib.hid p7
      clear p7
      go_wp2_with fail
      go_ret
      exact ⟨rfl, (HP.out _ P7.out).2.2.2.2.2.2.2⟩
    rw [hrb] at hRb
    by_cases hss : sa = sb
    case neg =>
      have hq1 : (sa != sb) = true := by simpa using hss
      go_wp2_with fail
      refine (hRa _ PC.out).mono ?_
      rintro e w6 ⟨rfl, hb⟩
      have p6 := HK.out _ _ hb PC.out
      clear hb pc g0 g1 g2 g3 g4 g5
      obtain ⟨g0, g1, g2, g3, g4, g5⟩ := HS.out _ p6
      have P6 := Lib.hid p6
      clear p6
      go_wp2_with fail
      refine (hRb _ P6.out).mono ?_
      rintro e w7 ⟨rfl, hb⟩
      have p7 := HK.out _ _ hb P6.out
      clear hb g0 g1 g2 g3 g4 g5
      obtain ⟨g0, g1, g2, g3, g4, g5⟩ := HS.out _ p7
      have P7 := Lib.hid p7
      clear p7
      go_wp2_with fail
      go_ret
      exact ⟨rfl, (HP.out _ P7.out).2.2.2.2.2.2.2⟩
    have hos : oneSide sa la sb lb = true := by simp only [oneSide, hra, hrb, Bool.and_true, Bool.true_and, beq_iff_eq]; exact hss
    obtain ⟨e1, e2⟩ := HONE.out hos
    have hq1 : (sa != sb) = false := by simpa using hss
    have E1 := Lib.hid e1; have E2 := Lib.hid e2
    clear hos e1 e2 hra hrb HONE hss
    go_wp2_with fail
    refine (hRa _ PC.out).mono ?_
    rintro e w6 ⟨rfl, hb⟩
    have p6 := HK.out _ _ hb PC.out
    clear hb pc g0 g1 g2 g3 g4 g5
    obtain ⟨g0, g1, g2, g3, g4, g5⟩ := HS.out _ p6
    have P6 := Lib.hid p6
    clear p6
    go_wp2_with fail
    refine (hRb _ P6.out).mono ?_
    rintro e w7 ⟨rfl, hb⟩
    have p7 := HK.out _ _ hb P6.out
    clear hb g0 g1 g2 g3 g4 g5
    obtain ⟨g0, g1, g2, g3, g4, g5⟩ := HS.out _ p7
    have P7 := Lib.hid p7
    clear p7
    have M1 : Hid (∀ v, P v → Calls Try.prog 13 #[.agg #[.int .i64 sa, .slice Aa la.length ca], .slice DL LL.length dl] v fun e w' => GRead v w' (0, sb, lb) e) := by
      intro v p
      have := pDiffDo_any sa Aa ca la DL dl LL v (HP.out v p).1.ri (HP.out v p).2.2.2.1 (by omega) (by omega) (fun n hn => (HLS.out n hn).fits)
      rw [E1.out] at this
      exact this.mono fun _ _ h => h.rd
    have M3 : Hid (∀ v, P v → Calls Try.prog 9 #[.slice DL LL.length dl] v fun e w' => CRead v w' (invL LL) e) := fun v p => (pInvert_any DL dl LL v (HP.out v p).2.2.2.1 (by omega)).mono fun _ _ h => h.rd
    have hLi := invL_len LL
    have HIS := Lib.hid (invL_small HLS.out)
    have M4 : Hid (∀ v D d, P v → RCh v v.heap.size D (invL LL) → Calls Try.prog 13 #[.agg #[.int .i64 sb, .slice Ab lb.length cb], .slice D (invL LL).length d] v fun e w' => GRead v w' (0, sa, la) e) := by
      intro v D d p r
      have := pDiffDo_any sb Ab cb lb D d (invL LL) v (HP.out v p).2.1.ri r (by omega) (by omega) (fun n hn => (HIS.out n hn).fits)
      rw [E2.out] at this
      exact this.mono fun _ _ h => h.rd
    have M6 : Hid (∀ v, P v → Calls Try.prog 6 #[.agg #[.int .i64 sa, .slice Aa la.length ca], .agg #[.int .i64 sa, .slice Aa la.length ca]] v fun e w' => CRead v w' [] e) := by
      intro v p
      have := pDiffOf_any sa Aa ca la sa Aa ca la v (HP.out v p).1.ri (HP.out v p).1.ri (by omega) (by omega)
      rw [diff_same] at this
      exact this.mono fun _ _ h => h.rd
    unfold CRead at M3 M6
    unfold GRead at M1 M4
    simp only [List.length_nil] at M1 M4 M6
    generalize invL LL = LI at *
    have hfd := field_gridout
    go_upto_region 12 with fail
    have q0 := HK.out _ _ (belowD w7) P7.out
    have hkeep := HS.out _ q0
    go_wp2_with fail
    go_region_held3 (fun w' => w'.cell? ⟨ba, 0, none⟩ = some (.int .i64 sa) ∧ w'.cell? ⟨ba, 1, none⟩ = some (.slice Aa la.length ca) ∧ w'.cell? ⟨bb, 0, none⟩ = some (.int .i64 sb) ∧ w'.cell? ⟨bb, 1, none⟩ = some (.slice Ab lb.length cb) ∧ w'.cell? ⟨bg, 0, none⟩ = some (.int .i64 sg) ∧ w'.cell? ⟨bg, 1, none⟩ = some (.slice Ag lg.length cg))
      (first
        | (with_reducible exact hkeep)
        | go_keep)
      (first
        | (go_at_call 6; have _c := q5; clear _c; refine (M6.out v5 q5).mono ?_; rintro e v6 ⟨D6, d6, rfl, r6, hb⟩; clear hkeep; have q6 := HK.out _ _ hb q5; have hkeep := HS.out _ q6; clear hb)
        | (go_at_call 17; have _c := q4; clear _c; refine (lwGrid_any sa A4 Aa c4 ca la v4 r4 (HP.out v4 q4).1.ri (by omega)).mono ?_; rintro e v5 ⟨rfl, hb⟩; clear hkeep; have q5 := HK.out _ _ hb q4; have hkeep := HS.out _ q5; clear hb)
        | (go_at_call 13; have _c := q3; clear _c; refine (M4.out v3 D3 d3 q3 r3).mono ?_; rintro e v4 ⟨A4, c4, rfl, r4, hb⟩; clear hkeep; have q4 := HK.out _ _ hb q3; have hkeep := HS.out _ q4; clear hb)
        | (go_at_call 9; have _c := q2; clear _c; refine (M3.out v2 q2).mono ?_; rintro e v3 ⟨D3, d3, rfl, r3, hb⟩; clear hkeep; have q3 := HK.out _ _ hb q2; have hkeep := HS.out _ q3; clear hb)
        | (go_at_call 17; have _c := q1; clear _c; refine (lwGrid_any sb A1 Ab c1 cb lb v1 r1 (HP.out v1 q1).2.1.ri (by omega)).mono ?_; rintro e v2 ⟨rfl, hb⟩; clear hkeep; have q2 := HK.out _ _ hb q1; have hkeep := HS.out _ q2; clear hb)
        | (go_at_call 13; have _c := q0; clear _c; refine (M1.out w7.drew q0).mono ?_; rintro e v1 ⟨A1, c1, rfl, r1, hb⟩; clear hkeep; have q1 := HK.out _ _ hb q0; have hkeep := HS.out _ q1; clear hb))
    all_goals
      have Q6 := Lib.hid q6
      clear hkeep q6
      go_wp2_with fail
      go_ret
      exact ⟨rfl, (HP.out _ Q6.out).2.2.2.2.2.2.2⟩
end Go.Proofs.Ythhadbojepcdjaa
