/- What the laws of chapter 5 draw: a map and a list of changes. -/
import Derived.Test.YthhadbojepcdjaaDr5
import Derived.Test.YthhadbojepcdjaaFMp
import Derived.Deep.CutRange
namespace Go.Proofs.Ythhadbojepcdjaa
open Go.RowKit
set_option linter.unusedVariables false
set_option linter.unusedSimpArgs false

set_option maxRecDepth 100000 in
set_option maxHeartbeats 4000000 in
theorem changes_any (g : Nat) (w : World) (hs : SrcB w g) :
    Calls Try.prog 25 #[.pointer (some ⟨g, 0, none⟩)] w (ChsPost w g) := by
  obtain ⟨i0, hi, hz0, hz1, hz2⟩ := info_parts Try.infoCh
  have hlt := hs.lt
  have HD0 : Hid (Drew w g (w.alloc (.cells #[.int .i64 0, .slice none 0 0] 25))) := (Drew.refl hs).alloc _
  have HR0 := Lib.hid (GB.made w 0 (.slice none 0 0) 25)
  have HT := Lib.hid (three_any g _ HD0.out.1)
  clear hs
  go_enter Try.func25, Try.ntmps25
  go_wp2_with fail
  refine HT.out.mono ?_
  rintro e w1 ⟨side, A, c, lt, sa, A2, c2, la, sb, A3, c3, lb, rfl, s0, s1, s2, o0, o1, o2, hd⟩
  have hl0 := s0.2.2.1
  have hl1 := s1.2.2.1
  have HS0 := Lib.hid s0
  have R1 := HR0.out.drewn hd (by omega) (by simp)
  have D1 := HD0.out.trans hd
  have hz : w.heap.size + 1 ≤ w1.heap.size := by have := hd.2.size; simpa using this
  have r0 := o0.ri
  have r1 := o1.ri
  simp only [alloc_size] at o0
  have O1 : OwnI 2 .i64 w1 (w.heap.size + 1) (.slice A lt.length c) lt := OwnI.lower (by omega) o0
  clear s0 s1 s2 o0 o1 o2 hd HT HD0 HR0
  have HB : Below w1.heap.size w1 (((w1.alloc (.cells #[.int .i64 side, .slice A lt.length c] 25)).alloc (.cells #[.int .i64 sa, .slice A2 la.length c2] 25)).alloc (.cells #[.int .i64 sb, .slice A3 lb.length c3] 25)) := bAnd (belowA _ _) (bAnd (belowA _ _) (belowA _ _))
  have M0 : Gm w1.heap.size side A c lt (((w1.alloc (.cells #[.int .i64 side, .slice A lt.length c] 25)).alloc (.cells #[.int .i64 sa, .slice A2 la.length c2] 25)).alloc (.cells #[.int .i64 sb, .slice A3 lb.length c3] 25)) := ((Gm.made 25 r0).on (belowA _ _)).on (belowA _ _)
  have B0 : GB (((w1.alloc (.cells #[.int .i64 side, .slice A lt.length c] 25)).alloc (.cells #[.int .i64 sa, .slice A2 la.length c2] 25)).alloc (.cells #[.int .i64 sb, .slice A3 lb.length c3] 25)) w1.heap.size side (.slice A lt.length c) := ((GB.made w1 side (.slice A lt.length c) 25).below (belowA _ _) (by simp)).below (belowA _ _) (by simp; omega)
  have M1 : Gm (w1.heap.size + 1) sa A2 c2 la (((w1.alloc (.cells #[.int .i64 side, .slice A lt.length c] 25)).alloc (.cells #[.int .i64 sa, .slice A2 la.length c2] 25)).alloc (.cells #[.int .i64 sb, .slice A3 lb.length c3] 25)) := by
    have := (Gm.made (side := sa) (c := c2) 25 (r1.go (belowA w1 (.cells #[.int .i64 side, .slice A lt.length c] 25)))).on (belowA _ (.cells #[.int .i64 sb, .slice A3 lb.length c3] 25))
    rw [alloc_size] at this
    exact this
  have R2 := R1.below HB (by omega)
  have O2 := OwnI.keep O1 HB
  have D2 := D1.more hlt (HB.mono (by omega))
  have zW : w1.heap.size + 3 ≤ (((w1.alloc (.cells #[.int .i64 side, .slice A lt.length c] 25)).alloc (.cells #[.int .i64 sa, .slice A2 la.length c2] 25)).alloc (.cells #[.int .i64 sb, .slice A3 lb.length c3] 25)).heap.size := by simp
  have LOW : Hid (∀ k, (Value.slice A lt.length c).ownBlock = some k → k < w1.heap.size) := fun k hk => (World.ownsRow.lt O1 k hk).2
  go_wp2_with fail
  generalize (((w1.alloc (.cells #[.int .i64 side, .slice A lt.length c] 25)).alloc (.cells #[.int .i64 sa, .slice A2 la.length c2] 25)).alloc (.cells #[.int .i64 sb, .slice A3 lb.length c3] 25)) = V at HB M0 B0 M1 R2 O2 D2 zW ⊢
  clear HB R1 D1 O1 r0 r1
  refine (mDiffOf_any side A c lt sa A2 c2 la V M0.ri M1.ri (by omega) (by omega)).mono ?_
  have h64 := diffOf_len side lt sa la
  have hsm := diffOf_small side lt sa la
  generalize diffOf side lt sa la = L at h64 hsm
  rintro e w2 ⟨D, d, rfl, oc, hb2⟩
  have X : CX w g w1.heap.size side (.slice A lt.length c) lt V.heap.size (.slice D L.length d) L w2 := by
    exact ⟨R2.below hb2 (by omega), B0.below hb2 (by omega), OwnI.keep O2 hb2, fun k hk => by have := LOW.out k hk; omega, oc, ⟨by omega, hsm⟩, D2.more hlt (hb2.mono (by omega)), hlt, by omega, by omega, hb2.size⟩
  clear R2 B0 O2 D2 M0 M1 LOW hsm oc hb2 zW
  generalize V.heap.size = B at X
  generalize w1.heap.size = q at X hz ⊢
  go_upto_region 3 with fail
  go_cut [24] from 18 to 23 (fun c24 wx => ∃ bb : Bool, c24 = .bool bb ∧ Hid (bb = true → 0 < L.length) ∧ CX w g q side (.slice A lt.length c) lt B (.slice D L.length d) L wx)
  case first =>
    go_wp2_with fail
    refine (src_one g 4 w2 X.drw.1 (by decide)).mono ?_
    rintro e w3 ⟨⟨b, rfl⟩, hd3⟩
    have XH := Lib.hid (X.drewn hd3)
    clear hd3 X
    cases b
    case false =>
      go_wp2_with fail
      go_meet
      exact ⟨false, rfl, (fun h => by cases h), XH.out⟩
    go_wp2_with fail
    go_meet
    exact ⟨decide (0 < L.length), rfl, (fun h => by simpa using h), XH.out⟩
  obtain ⟨bb, rfl, hbb, XC⟩ := hcut
  clear X
  have XH := Lib.hid XC
  clear XC
  generalize wc = w3 at *
  go_upto_if 24 with fail
  go_cut [7] from 18 to 53 (fun cv wx => cv = .slice D L.length d ∧ ∃ L' : List Ch, L'.length = L.length ∧ CX w g q side (.slice A lt.length c) lt B (.slice D L.length d) L' wx)
  case first =>
    cases bb
    case false =>
      go_wp2_with fail
      go_meet
      exact ⟨rfl, L, rfl, XH.out⟩
    have hL0 := hbb.out rfl
    clear hbb
    go_wp2_with fail
    refine (src_n g (L.length : Int) w3 XH.out.drw.1 (by omega)).mono ?_
    rintro e w4 ⟨r, rfl, hr0, hr1, hr2, hs4, hg4, _⟩
    have X4 := Lib.hid (XH.out.drewn ⟨hs4, hg4⟩)
    have hrl : r < (L.length : Int) := by by_cases h1 : 1 < (L.length : Int); exact hr1 h1; have := hr2 (by omega); omega
    obtain ⟨j, rfl⟩ : ∃ j : Nat, r = (j : Int) := ⟨r.toNat, by omega⟩
    have hj : j < L.length := by omega
    clear hr1 hr2 hs4 hg4 XH
    go_wp2_with fail
    refine (src_n g 3 w4 X4.out.drw.1 (by decide)).mono ?_
    rintro e w5 ⟨r, rfl, hq0, hq1, _, hs5, hg5, _⟩
    have X5 := Lib.hid (X4.out.drewn ⟨hs5, hg5⟩)
    have hq3 := hq1 (by decide)
    clear hq1 hs5 hg5 X4
    by_cases h0 : r = 0
    case pos =>
      subst h0
      go_wp2_with fail
      refine (src_tile g w5 X5.out.drw.1).mono ?_
      rintro e w6 ⟨r6, rfl, h6, hd6⟩
      have X6 := Lib.hid (X5.out.drewn hd6)
      clear hd6 X5
      obtain ⟨gb, eD, _, hgb, hcg, hfg⟩ := X6.out.och.at_ hj
      subst eD
      obtain ⟨c0, c1, c2_, c3_⟩ := hcg
      have hf := hfg (j * 4 + 2)
      have hf0 := hfg (j * 4)
      obtain ⟨L7, hL7, X7⟩ := X6.out.store (j := j) (i := 2) (x := r6) hj (by decide) (by omega)
      have X7 := Lib.hid X7
      clear hfg
      go_wp2_with fail
      go_meet
      exact ⟨rfl, L7, hL7, X7.out⟩
    have hb0 : (r == 0) = false := by simpa using h0
    by_cases h1 : r = 1
    case pos =>
      subst h1
      go_wp2_with fail
      refine (src_tile g w5 X5.out.drw.1).mono ?_
      rintro e w6 ⟨r6, rfl, h6, hd6⟩
      have X6 := Lib.hid (X5.out.drewn hd6)
      clear hd6 X5
      obtain ⟨gb, eD, _, hgb, hcg, hfg⟩ := X6.out.och.at_ hj
      subst eD
      obtain ⟨c0, c1, c2_, c3_⟩ := hcg
      have hf := hfg (j * 4 + 3)
      have hf0 := hfg (j * 4)
      obtain ⟨L7, hL7, X7⟩ := X6.out.store (j := j) (i := 3) (x := r6) hj (by decide) (by omega)
      have X7 := Lib.hid X7
      clear hfg
      go_wp2_with fail
      go_meet
      exact ⟨rfl, L7, hL7, X7.out⟩
    have hb1 : (r == 1) = false := by simpa using h1
    go_wp2_with fail
    refine (src_n g 10 w5 X5.out.drw.1 (by decide)).mono ?_
    rintro e w6 ⟨r6, rfl, h60, h61, _, hs6, hg6, _⟩
    have X6 := Lib.hid (X5.out.drewn ⟨hs6, hg6⟩)
    have h62 := h61 (by decide)
    clear hs6 hg6 h61 X5
    obtain ⟨gb, eD, _, hgb, hcg, hfg⟩ := X6.out.och.at_ hj
    subst eD
    obtain ⟨c0, c1, c2_, c3_⟩ := hcg
    have hf := hfg (j * 4 + 0)
    have hf0 := hfg (j * 4)
    obtain ⟨L7, hL7, X7⟩ := X6.out.store (j := j) (i := 0) (x := r6 - 1) hj (by decide) (by omega)
    have X7 := Lib.hid X7
    clear hfg
    go_wp2_with fail
    go_meet
    exact ⟨rfl, L7, hL7, X7.out⟩
  case rest =>
    obtain ⟨rfl, L', hL', X'⟩ := hcut
    clear XH
    rw [← hL'] at X' ⊢
    have X1 := Lib.hid X'
    clear X' hL' h64
    go_wp2_with fail
    refine (src_one g 25 wc X1.out.drw.1 (by decide)).mono ?_
    rintro e w8 ⟨⟨b, rfl⟩, hd8⟩
    have X8 := Lib.hid (X1.out.drewn hd8)
    clear hd8 X1
    cases b
    case false =>
      obtain ⟨r0, r1, r2_, r3_⟩ := X8.out.res
      obtain ⟨b0, b1, _, _⟩ := X8.out.box
      obtain ⟨z1, z2, z3, z4⟩ := X8.out.siz
      have hzr : w.heap.size < _ := Nat.lt_of_lt_of_le (Nat.lt_trans z2 z3) z4
      have hzq : q < _ := Nat.lt_of_lt_of_le z3 z4
      go_wp2_with fail
      refine bodyPost_ret (v := .tuple #[.agg #[.int .i64 side, .slice A lt.length c], .slice D L'.length d]) (by simp [results, Try.results25, go_sem, r0, r1]) rfl ?_
      obtain ⟨y1, y2, y3⟩ := X8.out.ret
      exact ⟨side, A, c, lt, D, d, L', rfl, HS0.out, X8.out.sm, y1, y2, y3⟩
    case true =>
      go_wp2_with fail
      go_loopw [7] (fun v wr => ∃ (Dv : Option Addr) (dv : Nat) (K : List Ch), v = .slice Dv K.length dv ∧ CX w g q side (.slice A lt.length c) lt B (.slice Dv K.length dv) K wr) (fun v _ => 65 - vlen v)
      case atStart => exact ⟨D, d, L', rfl, X8.out⟩
      case round =>
        obtain ⟨Dv, dv, K, rfl, xk⟩ := hrel
        have XK := Lib.hid xk
        have hK := xk.sm.1
        clear xk X8
        go_wp2_with fail
        refine (src_n g 2 _ XK.out.drw.1 (by decide)).mono ?_
        rintro e w9 ⟨r, rfl, hr0, hr1, _, hs9, hg9, _⟩
        have X9 := Lib.hid (XK.out.drewn ⟨hs9, hg9⟩)
        have hr2 := hr1 (by decide)
        clear hs9 hg9 hr1 XK
        by_cases hlt : (K.length : Int) < 64 + r
        · have hK1 : K.length ≤ 1000000 := by omega
          have hb1 : decide ((K.length : Int) < 64 + r) = true := by simpa using hlt
          have XA := Lib.hid (X9.out.alloc (.cells #[.int .i64 0, .int .i64 0, .int .i64 0, .int .i64 0] 53))
          have HNA : Hid (ChAt (w9.alloc (.cells #[.int .i64 0, .int .i64 0, .int .i64 0, .int .i64 0] 53)) w9.heap.size 0 zeroCh) := madeCh' w9 0 0 0 0
          have hBz : B ≤ (w9.alloc (.cells #[.int .i64 0, .int .i64 0, .int .i64 0, .int .i64 0] 53)).heap.size := XA.out.siz.2.2.2
          have HKS : Hid ((K ++ [zeroCh]).length ≤ 65 ∧ ∀ c ∈ K ++ [zeroCh], SmCh c) := by
            refine ⟨by simp; omega, fun c hc => ?_⟩
            rcases List.mem_append.1 hc with h | h
            · exact X9.out.sm.2 c h
            · simp only [List.mem_singleton] at h; subst h; exact ⟨by decide, by decide, by decide, by decide⟩
          have hKl : (K ++ [zeroCh]).length = K.length + 1 := by simp
          have HKL := Lib.hid hKl
          clear hKl
          go_wp2_with (at_builtin; refine appendCh hi hz0 hz1 hz2 rfl _ _ rfl B (.slice Dv K.length dv) K zeroCh _ w9.heap.size XA.out.och (by simp [Act.eval]) (by simp [Act.eval]) HNA.out hK1 hBz ?_; intro v2 w10 ho hg; have XB := Lib.hid (XA.out.grown hg ho HKS.out); obtain ⟨Dn, dn, rfl⟩ := ho.form; clear ho hg)
          go_wp2
          go_roundw
          case rel => exact ⟨Dn, dn, K ++ [zeroCh], by rw [HKL.out], XB.out⟩
          case measure => simp [vlen] <;> omega
        · have hb1 : decide ((K.length : Int) < 64 + r) = false := by simpa using hlt
          obtain ⟨r0, r1, r2_, r3_⟩ := X9.out.res
          obtain ⟨b0, b1, _, _⟩ := X9.out.box
          obtain ⟨z1, z2, z3, z4⟩ := X9.out.siz
          have hzr : w.heap.size < _ := Nat.lt_of_lt_of_le (Nat.lt_trans z2 z3) z4
          have hzq : q < _ := Nat.lt_of_lt_of_le z3 z4
          go_wp2_with fail
          refine bodyPost_ret (v := .tuple #[.agg #[.int .i64 side, .slice A lt.length c], .slice Dv K.length dv]) (by simp [results, Try.results25, go_sem, r0, r1]) rfl ?_
          obtain ⟨y1, y2, y3⟩ := X9.out.ret
          exact ⟨side, A, c, lt, Dv, dv, K, rfl, HS0.out, X9.out.sm, y1, y2, y3⟩
end Go.Proofs.Ythhadbojepcdjaa
