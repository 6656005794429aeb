/- The law on pools, walked. -/
import Derived.Test.YtoobkajilbmdhaaDoorMPe
import Derived.Test.YtoobkajilbmdhaaDoorMPf
import Derived.Test.YtoobkajilbmdhaaDoorPgH
import Derived.Test.YtoobkajilbmdhaaDoorHtM
import Derived.Deep.CutRange
import Derived.Deep.RegionWith
import Derived.Deep.RegionHeld3
namespace Go.Proofs.YtoobkajilbmdhaaDoor
open Go.RowKit
set_option linter.unusedVariables false
set_option linter.unusedSimpArgs false

theorem putP_small (l : List Nd) (side : Int) (t : List Int) : (putP l side t).2.2.length ≤ 200 := by
  by_cases h : (putP l side t).1 = 0
  · exact (put_fits h).1
  · by_cases hg : (poolRight l && gridRight side t) = true
    · have e : putP l side t = putR l side.toNat t := by
        simp only [Bool.and_eq_true] at hg
        exact putP_R hg.1 hg.2
      rw [e]
      exact putR_len _ _ _
    · have e : (putP l side t).2.2 = [] := by
        unfold putP
        rw [if_neg hg]
      rw [e]
      exact Nat.zero_le _
theorem right_fits {l : List Nd} (hr : poolRight l = true) : ∀ n ∈ l, n.Fits := fun n hn => by
  have hl := pool_len hr
  obtain ⟨k, hk, rfl⟩ := List.getElem_of_mem hn
  have hok := right_node hr hk
  cases hs : leafN l[k]
  · obtain ⟨h1, h2, h3, h4, h5⟩ := ok_split hok hs
    exact ⟨wf_small (by omega) (by omega), wf_small (by omega) (by omega), wf_small (by omega) (by omega), wf_small (by omega) (by omega), wf_small (by omega) (by omega)⟩
  · obtain ⟨h1, h2, h3⟩ := ((pOk_right.1 hr).2).leaf hk hs
    have e1 : l[k].a = 0 := by rw [h1]; rfl
    have e2 : l[k].b = 0 := by rw [h1]; rfl
    have e3 : l[k].c = 0 := by rw [h1]; rfl
    have e4 : l[k].d = 0 := by rw [h1]; rfl
    exact ⟨wf_small (by omega) (by omega), wf_small (by omega) (by omega), wf_small (by omega) (by omega), wf_small (by omega) (by omega), wf_small (by omega) (by omega)⟩
theorem getP_small (l : List Nd) (rt side : Int) : (getP l rt side).2.2.length ≤ 1000 := by
  by_cases h : (getP l rt side).1 = 0
  · have := (right_small (getP_gr h)).2.2.1
    omega
  · rw [(getP_zero h).2]
    exact Nat.zero_le _
/-- What the draws and the program's calls lean on. -/
structure Bas (w : World) (a0 : Option Addr) (len0 : Nat) (a1 : Option Addr) (len1 : Nat) (wr : World) : Prop where
  tab : HasTab wr
  i0 : BytesIn wr wr.heap.size a0 len0
  i1 : BytesIn wr wr.heap.size a1 len1
  bel : Below w.heap.size w wr
theorem Bas.on {w : World} {a0 a1 : Option Addr} {len0 len1 : Nat} {v v' : World} (h : Bas w a0 len0 a1 len1 v) (hb : Below v.heap.size v v') : Bas w a0 len0 a1 len1 v' := ⟨h.tab.below hb, bytes_more h.i0 hb, bytes_more h.i1 hb, bAnd h.bel hb⟩
set_option maxRecDepth 100000 in
set_option maxHeartbeats 12000000 in
theorem fnPool_walk (a0 : Option Addr) (len0 cap0 : Nat) (a1 : Option Addr) (len1 cap1 : Nat) (w : World) (i0 : BytesIn w w.heap.size a0 len0) (i1 : BytesIn w w.heap.size a1 len1) (hg : HasTab w) :
    Calls Tryd.prog 3 #[.slice a0 len0 cap0, .slice a1 len1 cap1] w fun e w' => e = .returned (.bool true) ∧ Below w.heap.size w w' := by
  by_cases h0 : 1048576 < (len0 : Int)
  · clear i0 i1
    go_enter Tryd.func3, Tryd.ntmps3
    go_wp2_with fail
    go_ret
    exact ⟨rfl, Below.refl _ _⟩
  have hd0 : decide (1048576 < (len0 : Int)) = false := by simpa using h0
  by_cases h1 : 1048576 < (len1 : Int)
  · clear i0 i1 h0
    go_enter Tryd.func3, Tryd.ntmps3
    go_wp2_with fail
    go_ret
    exact ⟨rfl, Below.refl _ _⟩
  have hd1 : decide (1048576 < (len1 : Int)) = false := by simpa using h1
  have B0 : Hid (Bas w a0 len0 a1 len1 w) := ⟨hg, i0, i1, Below.refl _ _⟩
  clear i0 i1 hg
  go_enter Tryd.func3, Tryd.ntmps3
  go_wp2_with fail
  refine (drawPPut_any a0 len0 cap0 w (by omega) B0.out.i0).mono ?_
  rintro e w1 ⟨A5, c5, l5, s6, A6, c6, l6, rfl, hs5, hs6, ho5, ho6, hb1⟩
  have S5 := Lib.hid hs5
  have S6 := Lib.hid hs6
  have PX : Hid (Qm w1.heap.size A5 c5 l5 ((w1.alloc (.cells #[.slice A5 l5.length c5] 25)).alloc (.cells #[.int .i64 s6, .slice A6 l6.length c6] 28)) ∧ Gm (w1.heap.size + 1) s6 A6 c6 l6 ((w1.alloc (.cells #[.slice A5 l5.length c5] 25)).alloc (.cells #[.int .i64 s6, .slice A6 l6.length c6] 28)) ∧ Bas w a0 len0 a1 len1 ((w1.alloc (.cells #[.slice A5 l5.length c5] 25)).alloc (.cells #[.int .i64 s6, .slice A6 l6.length c6] 28))) := by
    refine ⟨(Qm.made _ ho5.rn ho5.rnn).on (belowA _ _), ?_, (((B0.out.on hb1).on (belowA _ _)).on (belowA _ _))⟩
    have h := Gm.made (side := s6) (c := c6) (w := w1.alloc (.cells #[.slice A5 l5.length c5] 25)) 28 (ho6.ri.go (belowA _ _))
    simpa using h
  clear hs5 hs6 ho5 ho6 hb1 B0
  go_wp2_with fail
  generalize (w1.alloc (.cells #[.slice A5 l5.length c5] 25)).alloc (.cells #[.int .i64 s6, .slice A6 l6.length c6] 28) = W3 at PX ⊢
  generalize w1.heap.size + 1 = b6 at PX ⊢
  generalize w1.heap.size = b5 at PX ⊢
  refine (pPoolPut_rd A5 c5 c6 l5 s6 A6 l6 W3 PX.out.1.rw PX.out.1.rn (by have := S5.out.1; omega) PX.out.2.1.ri (by have := S6.out.2.2.1; omega) S5.out.2).mono ?_
  rintro e w4 ⟨A7, c7, rfl, ho7, hb4⟩
  obtain ⟨R7, hR7⟩ : ∃ R7, Hid (R7 = putP l5 s6 l6) := ⟨_, rfl⟩
  rw [← hR7.out] at ho7 ⊢
  obtain ⟨C7, r7, l7⟩ := R7
  simp only at ho7 ⊢
  have PY : Hid (Om w4.heap.size A7 c7 l7 r7 C7 (w4.alloc (.cells #[.slice A7 l7.length c7, .int .i64 r7, .int .i64 C7] 32)) ∧ Qm b5 A5 c5 l5 (w4.alloc (.cells #[.slice A7 l7.length c7, .int .i64 r7, .int .i64 C7] 32)) ∧ Gm b6 s6 A6 c6 l6 (w4.alloc (.cells #[.slice A7 l7.length c7, .int .i64 r7, .int .i64 C7] 32)) ∧ Bas w a0 len0 a1 len1 (w4.alloc (.cells #[.slice A7 l7.length c7, .int .i64 r7, .int .i64 C7] 32))) :=
    ⟨Om.made _ ho7.rn ho7.rnn, (PX.out.1.on hb4).on (belowA _ _), (PX.out.2.1.on hb4).on (belowA _ _), (PX.out.2.2.on hb4).on (belowA _ _)⟩
  clear ho7 hb4 PX
  go_wp2_with fail
  generalize w4.alloc (.cells #[.slice A7 l7.length c7, .int .i64 r7, .int .i64 C7] 32) = W4 at PY ⊢
  generalize w4.heap.size = b7 at PY ⊢
  refine (drawPGet_any a1 len1 cap1 W4 (by omega) PY.out.2.2.2.i1).mono ?_
  rintro e w5 ⟨A8, c8, l8, r8, s8, rfl, hs8, hr8, hd8, ho8, hb5⟩
  have S8 := Lib.hid hs8
  have D8 := Lib.hid (And.intro hr8 hd8)
  have PZ : Hid (Qm w5.heap.size A8 c8 l8 (w5.alloc (.cells #[.slice A8 l8.length c8] 25)) ∧ Om b7 A7 c7 l7 r7 C7 (w5.alloc (.cells #[.slice A8 l8.length c8] 25)) ∧ Qm b5 A5 c5 l5 (w5.alloc (.cells #[.slice A8 l8.length c8] 25)) ∧ Gm b6 s6 A6 c6 l6 (w5.alloc (.cells #[.slice A8 l8.length c8] 25)) ∧ Bas w a0 len0 a1 len1 (w5.alloc (.cells #[.slice A8 l8.length c8] 25))) :=
    ⟨Qm.made _ ho8.rn ho8.rnn, (PY.out.1.on hb5).on (belowA _ _), (PY.out.2.1.on hb5).on (belowA _ _), (PY.out.2.2.1.on hb5).on (belowA _ _), (PY.out.2.2.2.on hb5).on (belowA _ _)⟩
  clear hs8 hr8 hd8 ho8 hb5 PY
  go_wp2_with fail
  generalize w5.alloc (.cells #[.slice A8 l8.length c8] 25) = W5 at PZ ⊢
  generalize w5.heap.size = b8 at PZ ⊢
  refine (pPoolGet_any A8 c8 l8 r8 s8 W5 PZ.out.1.rn (by have := S8.out.1; omega) PZ.out.1.rw.1 S8.out.2 PZ.out.2.2.2.2.tab).mono ?_
  rintro e w6 ⟨A11, c11, rfl, ho11, hb6⟩
  obtain ⟨R11, hR11⟩ : ∃ R11, Hid (R11 = getP l8 r8 s8) := ⟨_, rfl⟩
  rw [← hR11.out] at ho11 ⊢
  obtain ⟨C11, s11, l11⟩ := R11
  simp only at ho11 ⊢
  have HQ : Hid (Hm w6.heap.size s11 A11 c11 l11 C11 (w6.alloc (.cells #[.int .i64 s11, .slice A11 l11.length c11, .int .i64 C11] 37)) ∧ Qm b8 A8 c8 l8 (w6.alloc (.cells #[.int .i64 s11, .slice A11 l11.length c11, .int .i64 C11] 37)) ∧ Om b7 A7 c7 l7 r7 C7 (w6.alloc (.cells #[.int .i64 s11, .slice A11 l11.length c11, .int .i64 C11] 37)) ∧ Qm b5 A5 c5 l5 (w6.alloc (.cells #[.int .i64 s11, .slice A11 l11.length c11, .int .i64 C11] 37)) ∧ Gm b6 s6 A6 c6 l6 (w6.alloc (.cells #[.int .i64 s11, .slice A11 l11.length c11, .int .i64 C11] 37)) ∧ Bas w a0 len0 a1 len1 (w6.alloc (.cells #[.int .i64 s11, .slice A11 l11.length c11, .int .i64 C11] 37))) :=
    ⟨Hm.made _ ho11.ri, (PZ.out.1.on hb6).on (belowA _ _), (PZ.out.2.1.on hb6).on (belowA _ _), (PZ.out.2.2.1.on hb6).on (belowA _ _), (PZ.out.2.2.2.1.on hb6).on (belowA _ _), (PZ.out.2.2.2.2.on hb6).on (belowA _ _)⟩
  clear ho11 hb6 PZ
  go_wp2_with fail
  generalize w6.alloc (.cells #[.int .i64 s11, .slice A11 l11.length c11, .int .i64 C11] 37) = Wi at HQ ⊢
  generalize w6.heap.size = b11 at HQ ⊢
  obtain ⟨P, HK, HP, pW⟩ : ∃ P : World → Prop, Hid (Kep P) ∧ Hid (∀ v, P v → Hm b11 s11 A11 c11 l11 C11 v ∧ Qm b8 A8 c8 l8 v ∧ Om b7 A7 c7 l7 r7 C7 v ∧ Qm b5 A5 c5 l5 v ∧ Gm b6 s6 A6 c6 l6 v ∧ Bas w a0 len0 a1 len1 v) ∧ Hid (P Wi) :=
    ⟨fun v => Hm b11 s11 A11 c11 l11 C11 v ∧ Qm b8 A8 c8 l8 v ∧ Om b7 A7 c7 l7 r7 C7 v ∧ Qm b5 A5 c5 l5 v ∧ Gm b6 s6 A6 c6 l6 v ∧ Bas w a0 len0 a1 len1 v, fun v v' hb h => ⟨h.1.on hb, h.2.1.on hb, h.2.2.1.on hb, h.2.2.2.1.on hb, h.2.2.2.2.1.on hb, h.2.2.2.2.2.on hb⟩, fun v h => h, HQ.out⟩
  clear HQ
  refine (drawPSet_any a0 len0 cap0 Wi (by omega) (HP.out _ pW.out).2.2.2.2.2.i0).mono ?_
  rintro e w7 ⟨A12, c12, l12, r12, x12, y12, t12, rfl, hs12, hr12, hd12, ho12, hb7⟩
  have S12 := Lib.hid hs12
  have D12 := Lib.hid (And.intro hr12 hd12)
  have PX : Hid (Qm w7.heap.size A12 c12 l12 (w7.alloc (.cells #[.slice A12 l12.length c12] 25)) ∧ P (w7.alloc (.cells #[.slice A12 l12.length c12] 25))) := ⟨Qm.made _ ho12.rn ho12.rnn, HK.out _ _ (belowA _ _) (HK.out _ _ hb7 pW.out)⟩
  clear hs12 hr12 hd12 ho12 hb7 pW
  go_wp2_with fail
  generalize w7.alloc (.cells #[.slice A12 l12.length c12] 25) = Wj at PX ⊢
  generalize w7.heap.size = b12 at PX ⊢
  refine (pPoolSet_any A12 c12 l12 r12 8 x12 y12 t12 Wj PX.out.1.rn (by have := S12.out.1; omega) PX.out.1.rw.1 S12.out.2 ⟨by have := D12.out; omega, by have := D12.out; omega⟩ ⟨by have := D12.out; omega, by have := D12.out; omega⟩ (HP.out _ PX.out.2).2.2.2.2.2.tab).mono ?_
  rintro e w8 ⟨A18, c18, rfl, ho18, hb8⟩
  obtain ⟨R18, hR18⟩ : ∃ R18, Hid (R18 = setP l12 r12 8 x12 y12 t12) := ⟨_, rfl⟩
  rw [← hR18.out] at ho18 ⊢
  obtain ⟨C18, r18, l18⟩ := R18
  simp only at ho18 ⊢
  have PY : Hid (Om w8.heap.size A18 c18 l18 r18 C18 (w8.alloc (.cells #[.slice A18 l18.length c18, .int .i64 r18, .int .i64 C18] 32)) ∧ Qm b12 A12 c12 l12 (w8.alloc (.cells #[.slice A18 l18.length c18, .int .i64 r18, .int .i64 C18] 32)) ∧ P (w8.alloc (.cells #[.slice A18 l18.length c18, .int .i64 r18, .int .i64 C18] 32))) :=
    ⟨Om.made _ ho18.rn ho18.rnn, (PX.out.1.on hb8).on (belowA _ _), HK.out _ _ (belowA _ _) (HK.out _ _ hb8 PX.out.2)⟩
  clear ho18 hb8 PX
  go_wp2_with fail
  generalize w8.alloc (.cells #[.slice A18 l18.length c18, .int .i64 r18, .int .i64 C18] 32) = Wk at PY ⊢
  generalize w8.heap.size = b18 at PY ⊢
  refine (drawPAt_any a1 len1 cap1 Wk (by omega) (HP.out _ PY.out.2.2).2.2.2.2.2.i1).mono ?_
  rintro e w9 ⟨A19, c19, l19, r19, x19, y19, rfl, hs19, hr19, hd19, ho19, hb9⟩
  have S19 := Lib.hid hs19
  have D19 := Lib.hid (And.intro hr19 hd19)
  have PZ : Hid (Qm w9.heap.size A19 c19 l19 (w9.alloc (.cells #[.slice A19 l19.length c19] 25)) ∧ Om b18 A18 c18 l18 r18 C18 (w9.alloc (.cells #[.slice A19 l19.length c19] 25)) ∧ Qm b12 A12 c12 l12 (w9.alloc (.cells #[.slice A19 l19.length c19] 25)) ∧ P (w9.alloc (.cells #[.slice A19 l19.length c19] 25))) :=
    ⟨Qm.made _ ho19.rn ho19.rnn, (PY.out.1.on hb9).on (belowA _ _), (PY.out.2.1.on hb9).on (belowA _ _), HK.out _ _ (belowA _ _) (HK.out _ _ hb9 PY.out.2.2)⟩
  clear hs19 hr19 hd19 ho19 hb9 PY
  go_wp2_with fail
  generalize w9.alloc (.cells #[.slice A19 l19.length c19] 25) = W9q at PZ ⊢
  generalize w9.heap.size = b19 at PZ ⊢
  refine (drawHeight_any a0 len0 cap0 W9q (by omega) (HP.out _ PZ.out.2.2.2).2.2.2.2.2.i0).mono ?_
  rintro e w10 ⟨A24, c24, l24, r24, rfl, hs24, hr24, ho24, hb10⟩
  have S24 := Lib.hid hs24
  have D24 := Lib.hid hr24
  have PX : Hid (Qm w10.heap.size A24 c24 l24 (w10.alloc (.cells #[.slice A24 l24.length c24] 25)) ∧ Qm b19 A19 c19 l19 (w10.alloc (.cells #[.slice A24 l24.length c24] 25)) ∧ Om b18 A18 c18 l18 r18 C18 (w10.alloc (.cells #[.slice A24 l24.length c24] 25)) ∧ Qm b12 A12 c12 l12 (w10.alloc (.cells #[.slice A24 l24.length c24] 25)) ∧ P (w10.alloc (.cells #[.slice A24 l24.length c24] 25))) :=
    ⟨Qm.made _ ho24.rn ho24.rnn, (PZ.out.1.on hb10).on (belowA _ _), (PZ.out.2.1.on hb10).on (belowA _ _), (PZ.out.2.2.1.on hb10).on (belowA _ _), HK.out _ _ (belowA _ _) (HK.out _ _ hb10 PZ.out.2.2.2)⟩
  clear hs24 hr24 ho24 hb10 PZ
  go_wp2_with fail
  generalize w10.alloc (.cells #[.slice A24 l24.length c24] 25) = Wt at PX ⊢
  generalize w10.heap.size = b24 at PX ⊢
  refine (drawWeight_any a1 len1 cap1 Wt (by omega) (HP.out _ PX.out.2.2.2.2).2.2.2.2.2.i1).mono ?_
  rintro e w11 ⟨A26, c26, l26, r26, rfl, hs26, hr26, ho26, hb11⟩
  have S26 := Lib.hid hs26
  have D26 := Lib.hid hr26
  have PY : Hid (Qm w11.heap.size A26 c26 l26 (w11.alloc (.cells #[.slice A26 l26.length c26] 25)) ∧ Qm b24 A24 c24 l24 (w11.alloc (.cells #[.slice A26 l26.length c26] 25)) ∧ Qm b19 A19 c19 l19 (w11.alloc (.cells #[.slice A26 l26.length c26] 25)) ∧ Om b18 A18 c18 l18 r18 C18 (w11.alloc (.cells #[.slice A26 l26.length c26] 25)) ∧ Qm b12 A12 c12 l12 (w11.alloc (.cells #[.slice A26 l26.length c26] 25)) ∧ P (w11.alloc (.cells #[.slice A26 l26.length c26] 25))) :=
    ⟨Qm.made _ ho26.rn ho26.rnn, (PX.out.1.on hb11).on (belowA _ _), (PX.out.2.1.on hb11).on (belowA _ _), (PX.out.2.2.1.on hb11).on (belowA _ _), (PX.out.2.2.2.1.on hb11).on (belowA _ _), HK.out _ _ (belowA _ _) (HK.out _ _ hb11 PX.out.2.2.2.2)⟩
  clear hs26 hr26 ho26 hb11 PX
  go_wp2_with fail
  generalize w11.alloc (.cells #[.slice A26 l26.length c26] 25) = Wu at PY ⊢
  generalize w11.heap.size = b26 at PY ⊢
  obtain ⟨Q, HK, HQ, qW⟩ : ∃ Q : World → Prop, Hid (Kep Q) ∧ Hid (∀ v, Q v → (Qm b26 A26 c26 l26 v ∧ Qm b24 A24 c24 l24 v ∧ Qm b19 A19 c19 l19 v ∧ Om b18 A18 c18 l18 r18 C18 v ∧ Qm b12 A12 c12 l12 v) ∧ Hm b11 s11 A11 c11 l11 C11 v ∧ Qm b8 A8 c8 l8 v ∧ Om b7 A7 c7 l7 r7 C7 v ∧ Qm b5 A5 c5 l5 v ∧ Gm b6 s6 A6 c6 l6 v ∧ Bas w a0 len0 a1 len1 v) ∧ Hid (Q Wu) :=
    ⟨fun v => (Qm b26 A26 c26 l26 v ∧ Qm b24 A24 c24 l24 v ∧ Qm b19 A19 c19 l19 v ∧ Om b18 A18 c18 l18 r18 C18 v ∧ Qm b12 A12 c12 l12 v) ∧ P v, fun v v' hb h => ⟨⟨h.1.1.on hb, h.1.2.1.on hb, h.1.2.2.1.on hb, h.1.2.2.2.1.on hb, h.1.2.2.2.2.on hb⟩, HK.out _ _ hb h.2⟩, fun v h => ⟨h.1, HP.out _ h.2⟩, ⟨⟨PY.out.1, PY.out.2.1, PY.out.2.2.1, PY.out.2.2.2.1, PY.out.2.2.2.2.1⟩, PY.out.2.2.2.2.2⟩⟩
  clear PY HP
  have HS : Hid (∀ v, Q v → v.cell? ⟨b5, 0, none⟩ = some (.slice A5 l5.length c5) ∧ v.cell? ⟨b6, 0, none⟩ = some (.int .i64 s6) ∧ v.cell? ⟨b6, 1, none⟩ = some (.slice A6 l6.length c6) ∧ v.cell? ⟨b7, 0, none⟩ = some (.slice A7 l7.length c7) ∧ v.cell? ⟨b7, 1, none⟩ = some (.int .i64 r7) ∧ v.cell? ⟨b7, 2, none⟩ = some (.int .i64 C7) ∧ v.cell? ⟨b8, 0, none⟩ = some (.slice A8 l8.length c8) ∧ v.cell? ⟨b11, 0, none⟩ = some (.int .i64 s11) ∧ v.cell? ⟨b11, 1, none⟩ = some (.slice A11 l11.length c11) ∧ v.cell? ⟨b11, 2, none⟩ = some (.int .i64 C11) ∧ v.cell? ⟨b12, 0, none⟩ = some (.slice A12 l12.length c12) ∧ v.cell? ⟨b18, 0, none⟩ = some (.slice A18 l18.length c18) ∧ v.cell? ⟨b18, 1, none⟩ = some (.int .i64 r18) ∧ v.cell? ⟨b18, 2, none⟩ = some (.int .i64 C18) ∧ v.cell? ⟨b19, 0, none⟩ = some (.slice A19 l19.length c19) ∧ v.cell? ⟨b24, 0, none⟩ = some (.slice A24 l24.length c24) ∧ v.cell? ⟨b26, 0, none⟩ = some (.slice A26 l26.length c26)) := fun v h => by
    obtain ⟨⟨h1, h2, h3, h4, h5⟩, h6, h7, h8, h9, h10, _⟩ := HQ.out v h
    exact ⟨h9.c0, h10.c0, h10.c1, h8.c0, h8.c1, h8.c2, h7.c0, h6.c0, h6.c1, h6.c2, h5.c0, h4.c0, h4.c1, h4.c2, h3.c0, h2.c0, h1.c0⟩
  have e7 := putP_small l5 s6 l6
  have e18 := setP_len l12 r12 8 x12 y12 t12
  have e11 := getP_small l8 r8 s8
  have z7 : C7 = 0 → poolRight l7 = true := fun h => by have h9 := putP_right (l := l5) (side := s6) (tiles := l6) (by rw [← hR7.out]; exact h); rw [← hR7.out] at h9; exact h9
  have z18 : C18 = 0 → poolRight l18 = true := fun h => by have h9 := (set_facts (l := l12) (rt := r12) (side := 8) (x := x12) (y := y12) (tile := t12) (by rw [← hR18.out]; exact h)).2.2; rw [← hR18.out] at h9; exact h9
  have z11 : C11 = 0 → gridRight s11 l11 = true := fun h => by have h9 := getP_gr (l := l8) (rt := r8) (side := s8) (by rw [← hR11.out]; exact h); rw [← hR11.out] at h9; exact h9
  rw [← hR7.out] at e7
  rw [← hR18.out] at e18
  rw [← hR11.out] at e11
  simp only at e7 e18 e11
  have EE : Hid (l7.length ≤ 200 ∧ l18.length ≤ 200 ∧ l11.length ≤ 1000) := ⟨e7, e18, e11⟩
  have Z7 := Lib.hid z7
  have Z18 := Lib.hid z18
  have Z11 := Lib.hid z11
  clear e7 e18 e11 z7 z18 z11
  have HL : Hid (l5.length ≤ 1000 ∧ l6.length ≤ 1000 ∧ l8.length ≤ 1000 ∧ l12.length ≤ 1000 ∧ l19.length ≤ 1000 ∧ l24.length ≤ 1000 ∧ l26.length ≤ 1000) := ⟨by have := S5.out.1; omega, by have := S6.out.2.2.1; omega, by have := S8.out.1; omega, by have := S12.out.1; omega, by have := S19.out.1; omega, by have := S24.out.1; omega, by have := S26.out.1; omega⟩
  have F15 : Hid (∀ v, Q v → Calls Tryd.prog 16 #[.agg #[.slice A5 l5.length c5], .agg #[.int .i64 s6, .slice A6 l6.length c6]] v (POut v (C7, r7, l7))) := fun v h => by
    have h9 := mPoolPut_rd A5 c5 c6 l5 s6 A6 l6 v (HQ.out v h).2.2.2.2.1.rw (HQ.out v h).2.2.2.2.1.rn (by have := HL.out.1; omega) (HQ.out v h).2.2.2.2.2.1.ri (by have := HL.out.2.1; omega)
    rw [← hR7.out] at h9
    exact h9
  have F17 : Hid (∀ v, Q v → Calls Tryd.prog 18 #[.agg #[.slice A8 l8.length c8], .int .i64 r8, .int .i64 s8] v fun e w' => GOut v w' s11 l11 C11 e) := fun v h => by
    have h9 := mPoolGet_any A8 c8 l8 r8 s8 v (HQ.out v h).2.2.1.rn (by have := HL.out.2.2.1; omega)
    rw [← hR11.out] at h9
    exact h9
  have F18 : Hid (∀ v, Q v → Calls Tryd.prog 19 #[.agg #[.slice A12 l12.length c12], .int .i64 r12, .int .i64 8, .int .i64 x12, .int .i64 y12, .int .i64 t12] v (POut v (C18, r18, l18))) := fun v h => by
    have h9 := mPoolSet_any A12 c12 l12 r12 8 x12 y12 t12 v (HQ.out v h).1.2.2.2.2.rn (by have := HL.out.2.2.2.1; omega)
    rw [← hR18.out] at h9
    exact h9
  have qd : Q Wu.drew := HK.out _ _ (belowD Wu) qW.out
  have hk0 := HS.out _ qW.out
  go_cut [157] from 91 to 157 (fun c wx => c = .bool false ∧ Q wx)
  case first => as_aux_lemma =>
    go_wp2_with fail
    simp only [List.append]
    go_region_held3 (fun w' => w'.cell? ⟨b5, 0, none⟩ = some (.slice A5 l5.length c5) ∧ w'.cell? ⟨b6, 0, none⟩ = some (.int .i64 s6) ∧ w'.cell? ⟨b6, 1, none⟩ = some (.slice A6 l6.length c6) ∧ w'.cell? ⟨b7, 0, none⟩ = some (.slice A7 l7.length c7) ∧ w'.cell? ⟨b7, 1, none⟩ = some (.int .i64 r7) ∧ w'.cell? ⟨b7, 2, none⟩ = some (.int .i64 C7) ∧ w'.cell? ⟨b8, 0, none⟩ = some (.slice A8 l8.length c8) ∧ w'.cell? ⟨b11, 0, none⟩ = some (.int .i64 s11) ∧ w'.cell? ⟨b11, 1, none⟩ = some (.slice A11 l11.length c11) ∧ w'.cell? ⟨b11, 2, none⟩ = some (.int .i64 C11) ∧ w'.cell? ⟨b12, 0, none⟩ = some (.slice A12 l12.length c12) ∧ w'.cell? ⟨b18, 0, none⟩ = some (.slice A18 l18.length c18) ∧ w'.cell? ⟨b18, 1, none⟩ = some (.int .i64 r18) ∧ w'.cell? ⟨b18, 2, none⟩ = some (.int .i64 C18) ∧ w'.cell? ⟨b19, 0, none⟩ = some (.slice A19 l19.length c19) ∧ w'.cell? ⟨b24, 0, none⟩ = some (.slice A24 l24.length c24) ∧ w'.cell? ⟨b26, 0, none⟩ = some (.slice A26 l26.length c26))
      (first
        | (with_reducible exact hkvn)
        | (with_reducible exact hkvm)
        | (with_reducible exact hkvl)
        | (with_reducible exact hkvk)
        | (with_reducible exact hkvj)
        | (with_reducible exact hkvi)
        | (with_reducible exact hkvh)
        | (with_reducible exact hkvg)
        | (with_reducible exact hkvf)
        | (with_reducible exact hkve)
        | (with_reducible exact hkvd)
        | (with_reducible exact hkvc)
        | (with_reducible exact hkvb)
        | (with_reducible exact hkva)
        | exact hk0
        | go_keep)
      (first
        | (go_at_call 27; refine (mPoolRight_any A5 c5 l5 vm (HQ.out _ qvm).2.2.2.2.1.rn (by have := HL.out; omega)).mono ?_; rintro e vn ⟨rfl, nvn⟩; have qvn := HK.out _ _ nvn qvm; have hkvn := HS.out _ qvn; clear nvn)
        | (go_at_call 26; refine (pPoolRight_any A5 c5 l5 vl (HQ.out _ qvl).2.2.2.2.1.rn (by have := HL.out; omega) (HQ.out _ qvl).2.2.2.2.1.rw.1 S5.out.2).mono ?_; rintro e vm ⟨rfl, nvm⟩; have qvm := HK.out _ _ nvm qvl; have hkvm := HS.out _ qvm; clear nvm)
        | (go_at_call 25; refine (mWeight_any A26 c26 l26 r26 vk (HQ.out _ qvk).1.1.rn (by have := HL.out; omega)).mono ?_; rintro e vl ⟨rfl, nvl⟩; have qvl := HK.out _ _ nvl qvk; have hkvl := HS.out _ qvl; clear nvl)
        | (go_at_call 24; refine (pWeight_any A26 c26 l26 r26 vj (HQ.out _ qvj).1.1.rn (by have := HL.out; omega) (HQ.out _ qvj).1.1.rw.1 S26.out.2).mono ?_; rintro e vk ⟨rfl, nvk⟩; have qvk := HK.out _ _ nvk qvj; have hkvk := HS.out _ qvk; clear nvk)
        | (go_at_call 23; refine (mHeight_any A24 c24 l24 r24 vi (HQ.out _ qvi).1.2.1.rn (by have := HL.out; omega)).mono ?_; rintro e vj ⟨rfl, nvj⟩; have qvj := HK.out _ _ nvj qvi; have hkvj := HS.out _ qvj; clear nvj)
        | (go_at_call 22; refine (pHeight_any A24 c24 l24 r24 vh (HQ.out _ qvh).1.2.1.rn (by have := HL.out; omega) (HQ.out _ qvh).1.2.1.rw.1 S24.out.2).mono ?_; rintro e vi ⟨rfl, nvi⟩; have qvi := HK.out _ _ nvi qvh; have hkvi := HS.out _ qvi; clear nvi)
        | (go_at_call 21; refine (mPoolAt_any A19 c19 l19 r19 8 x19 y19 vg (HQ.out _ qvg).1.2.2.1.rn (by have := HL.out; omega)).mono ?_; rintro e vh ⟨rfl, nvh⟩; have qvh := HK.out _ _ nvh qvg; have hkvh := HS.out _ qvh; clear nvh)
        | (go_at_call 20; refine (pPoolAt_any A19 c19 l19 r19 8 x19 y19 vf (HQ.out _ qvf).1.2.2.1.rn (by have := HL.out; omega) (HQ.out _ qvf).1.2.2.1.rw.1 S19.out.2 ⟨by have := D19.out; omega, by have := D19.out; omega⟩ ⟨by have := D19.out; omega, by have := D19.out; omega⟩ (HQ.out _ qvf).2.2.2.2.2.2.tab).mono ?_; rintro e vg ⟨rfl, nvg⟩; have qvg := HK.out _ _ nvg qvf; have hkvg := HS.out _ qvg; clear nvg)
        | (go_at_call 15; refine (lwPools_any r18 C18 A18 Xve c18 kve l18 ve (HQ.out _ qve).1.2.2.2.1.rn rve.out (by have := EE.out; omega) Z18.out).mono ?_; rintro e vf ⟨rfl, nvf⟩; have qvf := HK.out _ _ nvf qve; have hkvf := HS.out _ qvf; clear nvf)
        | (go_at_call 19; refine (F18.out _ qvd).mono ?_; rintro e ve ⟨Xve, kve, rfl, ove, nve⟩; have qve := HK.out _ _ nve qvd; have rve := Lib.hid ove.rn; have hkve := HS.out _ qve; clear nve ove)
        | (go_at_call 17; refine (lwGrids_any s11 C11 A11 Xvc c11 kvc l11 vc (HQ.out _ qvc).2.1.ri rvc.out (by have := EE.out; omega) Z11.out).mono ?_; rintro e vd ⟨rfl, nvd⟩; have qvd := HK.out _ _ nvd qvc; have hkvd := HS.out _ qvd; clear nvd)
        | (go_at_call 18; refine (F17.out _ qvb).mono ?_; rintro e vc ⟨Xvc, kvc, rfl, ovc, nvc⟩; have qvc := HK.out _ _ nvc qvb; have rvc := Lib.hid ovc.ri; have hkvc := HS.out _ qvc; clear nvc ovc)
        | (go_at_call 15; refine (lwPools_any r7 C7 A7 Xva c7 kva l7 va (HQ.out _ qva).2.2.2.1.rn rva.out (by have := EE.out; omega) Z7.out).mono ?_; rintro e vb ⟨rfl, nvb⟩; have qvb := HK.out _ _ nvb qva; have hkvb := HS.out _ qvb; clear nvb)
        | (go_at_call 16; refine (F15.out _ qd).mono ?_; rintro e va ⟨Xva, kva, rfl, ova, nva⟩; have qva := HK.out _ _ nva qd; have rva := Lib.hid ova.rn; have hkva := HS.out _ qva; clear nva ova))
    go_wp2_with fail
    go_meet
    exact ⟨rfl, qvn⟩
  case rest =>
    obtain ⟨rfl, qX⟩ := hcut
    clear F15 F17 F18 qd hk0 qW
    have QX := Lib.hid qX
    clear qX
    have hk0 := HS.out _ QX.out
    go_upto_region 14 with fail
    go_cut [185] from 158 to 185 (fun c wx => c = .bool false ∧ Q wx)
    case first => as_aux_lemma =>
      by_cases hC : C18 = 0
      · subst hC
        have z := Z18.out rfl
        have FT := Lib.hid (right_fits z)
        have hsf := set_facts (l := l12) (rt := r12) (side := 8) (x := x12) (y := y12) (tile := t12) (by rw [← hR18.out])
        rw [← hR18.out] at hsf
        simp only at hsf
        obtain ⟨hs1, hs2, _⟩ := hsf
        have FA : Hid (∀ v, Q v → Calls Tryd.prog 20 #[.agg #[.slice A18 l18.length c18], .int .i64 r18, .int .i64 8, .int .i64 x12, .int .i64 y12] v fun e w' => e = .returned (.int .i64 t12) ∧ Below v.heap.size v w') := fun v h => by
          have h9 := pPoolAt_any A18 c18 l18 r18 8 x12 y12 v (HQ.out v h).1.2.2.2.1.rn (by have := EE.out; omega) (HQ.out v h).1.2.2.2.1.rw.1 FT.out ⟨by have := D12.out; omega, by have := D12.out; omega⟩ ⟨by have := D12.out; omega, by have := D12.out; omega⟩ (HQ.out v h).2.2.2.2.2.2.tab
          rw [hs1] at h9
          exact h9
        have hgs := getP_small l12 r12 8
        have hgr := fun h => getP_gr (l := l12) (rt := r12) (side := 8) h
        have FG : Hid (∀ v, Q v → Calls Tryd.prog 9 #[.agg #[.slice A18 l18.length c18], .int .i64 r12, .int .i64 8] v fun e w' => GOut v w' (getP l12 r12 8).2.1 (getP l12 r12 8).2.2 (getP l12 r12 8).1 e) := fun v h => by
          have h9 := pPoolGet_any A18 c18 l18 r12 8 v (HQ.out v h).1.2.2.2.1.rn (by have := EE.out; omega) (HQ.out v h).1.2.2.2.1.rw.1 FT.out (HQ.out v h).2.2.2.2.2.2.tab
          rw [hs2] at h9
          exact h9
        have FM : Hid (∀ v, Q v → Calls Tryd.prog 18 #[.agg #[.slice A12 l12.length c12], .int .i64 r12, .int .i64 8] v fun e w' => GOut v w' (getP l12 r12 8).2.1 (getP l12 r12 8).2.2 (getP l12 r12 8).1 e) := fun v h =>
          mPoolGet_any A12 c12 l12 r12 8 v (HQ.out v h).1.2.2.2.2.rn (by have := HL.out; omega)
        generalize getP l12 r12 8 = RG at FG FM hgs hgr
        obtain ⟨Cg, sg, lg⟩ := RG
        simp only at FG FM hgs hgr
        have GG := Lib.hid (And.intro hgs hgr)
        have HT : Hid (∀ v, Q v → v.cell? ⟨b18, 0, none⟩ = some (.slice A18 l18.length c18) ∧ v.cell? ⟨b18, 1, none⟩ = some (.int .i64 r18) ∧ v.cell? ⟨b18, 2, none⟩ = some (.int .i64 0) ∧ v.cell? ⟨b12, 0, none⟩ = some (.slice A12 l12.length c12)) := fun v h => by
          obtain ⟨⟨_, _, _, h4, h5⟩, _⟩ := HQ.out v h
          exact ⟨h4.c0, h4.c1, h4.c2, h5.c0⟩
        have qd := HK.out _ _ (belowD _) QX.out
        have hk1 := HT.out _ QX.out
        clear hs1 hs2 hgs hgr z hk0 FT
        go_wp2_with fail
        go_region_held3 (fun w' => w'.cell? ⟨b18, 0, none⟩ = some (.slice A18 l18.length c18) ∧ w'.cell? ⟨b18, 1, none⟩ = some (.int .i64 r18) ∧ w'.cell? ⟨b18, 2, none⟩ = some (.int .i64 0) ∧ w'.cell? ⟨b12, 0, none⟩ = some (.slice A12 l12.length c12))
          (first
            | (with_reducible exact hkvd)
            | (with_reducible exact hkvc)
            | (with_reducible exact hkvb)
            | (with_reducible exact hkva)
            | exact hk1
            | go_keep)
          (first
            | (go_at_call 17; refine (lwGrids_any sg Cg Xvb Xvc kvb kvc lg vc (rvb.out.go nvc0) rvc.out (by have := GG.out.1; omega) GG.out.2).mono ?_; rintro e vd ⟨rfl, nvd⟩; have qvd := HK.out _ _ nvd qvc; have hkvd := HT.out _ qvd; clear nvd)
            | (go_at_call 18; refine (FM.out _ qvb).mono ?_; rintro e vc ⟨Xvc, kvc, rfl, ovc, nvc⟩; have qvc := HK.out _ _ nvc qvb; have rvc := Lib.hid ovc.ri; have nvc0 := nvc; have hkvc := HT.out _ qvc; clear nvc ovc)
            | (go_at_call 9; refine (FG.out _ qva).mono ?_; rintro e vb ⟨Xvb, kvb, rfl, ovb, nvb⟩; have qvb := HK.out _ _ nvb qva; have rvb := Lib.hid ovb.ri; have hkvb := HT.out _ qvb; clear nvb ovb)
            | (go_at_call 20; refine (FA.out _ qd).mono ?_; rintro e va ⟨rfl, nva⟩; have qva := HK.out _ _ nva qd; have hkva := HT.out _ qva; clear nva))
        go_wp2_with fail
        go_meet
        exact ⟨rfl, qvd⟩
      · have hq : (C18 == 0) = false := by simpa using hC
        have qd := HK.out _ _ (belowD _) QX.out
        clear hC
        go_wp2_with fail
        go_region
        go_wp2_with fail
        go_meet
        exact ⟨rfl, qd⟩
    case rest =>
      obtain ⟨rfl, qX⟩ := hcut
      have QX := Lib.hid qX
      clear qX hk0
      have hk0 := HS.out _ QX.out
      by_cases hC : C7 = 0
      · subst hC
        have PG := Lib.hid (put_get (l := l5) (side := s6) (tiles := l6) (by rw [← hR7.out]))
        have ZR := Lib.hid (Z7.out rfl)
        have FT := Lib.hid (right_fits ZR.out)
        have FP2 : Hid (∀ v, Q v → Calls Tryd.prog 7 #[.agg #[.slice A7 l7.length c7], .agg #[.int .i64 s6, .slice A6 l6.length c6]] v (POut v (0, r7, l7))) := fun v h => by
          have h9 := pPoolPut_rd A7 c7 c6 l7 s6 A6 l6 v (HQ.out v h).2.2.2.1.rw (HQ.out v h).2.2.2.1.rn (by have := EE.out; omega) (HQ.out v h).2.2.2.2.2.1.ri (by have := HL.out; omega) FT.out
          have h8 := PG.out.2.1
          rw [← hR7.out] at h8
          simp only at h8
          rw [h8] at h9
          exact h9
        go_wp2_with fail
        refine (FP2.out _ QX.out).mono ?_
        rintro e w28 ⟨A28, c28, rfl, ho28, hb28⟩
        simp only at ho28 ⊢
        have qN := HK.out _ _ (belowA _ (.cells #[.slice A28 l7.length c28, .int .i64 r7, .int .i64 0] 32)) (HK.out _ _ hb28 QX.out)
        have QN : Hid (Om w28.heap.size A28 c28 l7 r7 0 (w28.alloc (.cells #[.slice A28 l7.length c28, .int .i64 r7, .int .i64 0] 32)) ∧ Q (w28.alloc (.cells #[.slice A28 l7.length c28, .int .i64 r7, .int .i64 0] 32))) := ⟨Om.made _ ho28.rn ho28.rnn, qN⟩
        clear ho28 hb28 qN QX hk0
        go_wp2_with fail
        generalize w28.alloc (.cells #[.slice A28 l7.length c28, .int .i64 r7, .int .i64 0] 32) = Wn at QN ⊢
        generalize w28.heap.size = b28 at QN ⊢
        obtain ⟨T, KT, HT, qT⟩ : ∃ T : World → Prop, Hid (Kep T) ∧ Hid (∀ v, T v → Om b28 A28 c28 l7 r7 0 v ∧ Q v) ∧ Hid (T Wn) := ⟨fun v => Om b28 A28 c28 l7 r7 0 v ∧ Q v, fun v v' hb h => ⟨h.1.on hb, HK.out _ _ hb h.2⟩, fun v h => h, QN.out⟩
        clear QN FP2
        have FG : Hid (∀ v, T v → Calls Tryd.prog 9 #[.agg #[.slice A7 l7.length c7], .int .i64 r7, .int .i64 s6] v fun e w' => GOut v w' s6 l6 0 e) := fun v h => by
          have h9 := pPoolGet_any A7 c7 l7 r7 s6 v (HQ.out v (HT.out v h).2).2.2.2.1.rn (by have := EE.out; omega) (HQ.out v (HT.out v h).2).2.2.2.1.rw.1 FT.out (HQ.out v (HT.out v h).2).2.2.2.2.2.2.tab
          have h8 := PG.out.1
          rw [← hR7.out] at h8
          simp only at h8
          rw [h8] at h9
          exact h9
        have FW : Hid (∀ v, T v → Calls Tryd.prog 24 #[.agg #[.slice A7 l7.length c7], .int .i64 r7] v fun e w' => e = .returned (.int .i64 (weightN l7 r7)) ∧ Below v.heap.size v w') := fun v h =>
          pWeight_any A7 c7 l7 r7 v (HQ.out v (HT.out v h).2).2.2.2.1.rn (by have := EE.out; omega) (HQ.out v (HT.out v h).2).2.2.2.1.rw.1 FT.out
        have HW1 : 1 ≤ weightN l7 r7 := by
          have h8 := PG.out.1
          rw [← hR7.out] at h8
          simp only at h8
          have h7 : (getP l7 r7 s6).1 = 0 := by rw [h8]
          obtain ⟨_, sn, k, hk, _, e2, _⟩ := getP_parts h7
          have h6 := weight_one ZR.out hk
          rw [e2]
          exact h6
        have hwd : decide (weightN l7 r7 < 1) = false := by simp; omega
        have HS2 : Hid (∀ v, T v → v.cell? ⟨b7, 0, none⟩ = some (.slice A7 l7.length c7) ∧ v.cell? ⟨b7, 1, none⟩ = some (.int .i64 r7) ∧ v.cell? ⟨b6, 0, none⟩ = some (.int .i64 s6) ∧ v.cell? ⟨b6, 1, none⟩ = some (.slice A6 l6.length c6) ∧ v.cell? ⟨b28, 0, none⟩ = some (.slice A28 l7.length c28) ∧ v.cell? ⟨b28, 1, none⟩ = some (.int .i64 r7)) := fun v h => by
          have h1 := (HT.out v h).1
          have h2 := (HQ.out v (HT.out v h).2).2.2.2.1
          have h3 := (HQ.out v (HT.out v h).2).2.2.2.2.2.1
          exact ⟨h2.c0, h2.c1, h3.c0, h3.c1, h1.c0, h1.c1⟩
        generalize weightN l7 r7 = wt at *
        go_upto_region 19 with fail
        go_cut [229] from 193 to 229 (fun c wx => c = .bool false ∧ T wx)
        case first => as_aux_lemma =>
          have qd := KT.out _ _ (belowD _) qT.out
          have hk1 := HS2.out _ qT.out
          have hFg := field_got
          go_region_held3 (fun w' => w'.cell? ⟨b7, 0, none⟩ = some (.slice A7 l7.length c7) ∧ w'.cell? ⟨b7, 1, none⟩ = some (.int .i64 r7) ∧ w'.cell? ⟨b6, 0, none⟩ = some (.int .i64 s6) ∧ w'.cell? ⟨b6, 1, none⟩ = some (.slice A6 l6.length c6) ∧ w'.cell? ⟨b28, 0, none⟩ = some (.slice A28 l7.length c28) ∧ w'.cell? ⟨b28, 1, none⟩ = some (.int .i64 r7))
            (first
              | (with_reducible exact hkvc)
              | (with_reducible exact hkvb)
              | (with_reducible exact hkva)
              | exact hk1
              | go_keep)
            (first
              | (go_at_call 24; refine (FW.out _ qvb).mono ?_; rintro e vc ⟨rfl, nvc⟩; have qvc := KT.out _ _ nvc qvb; have hkvc := HS2.out _ qvc; clear nvc)
              | (go_at_call 28; refine (lwGrid_any s6 Xva A6 kva c6 l6 va rva.out (HQ.out _ (HT.out _ qva).2).2.2.2.2.2.1.ri (by have := HL.out; omega)).mono ?_; rintro e vb ⟨rfl, nvb⟩; have qvb := KT.out _ _ nvb qva; have hkvb := HS2.out _ qvb; clear nvb)
              | (go_at_call 9; refine (FG.out _ qd).mono ?_; rintro e va ⟨Xva, kva, rfl, ova, nva⟩; have qva := KT.out _ _ nva qd; have rva := Lib.hid ova.ri; have hkva := HS2.out _ qva; clear nva ova))
          go_wp2_with fail
          go_meet
          exact ⟨rfl, qvc⟩
        case rest =>
          obtain ⟨rfl, qX⟩ := hcut
          have QX := Lib.hid qX
          clear qX qT
          have HG3 : Hid (∀ i : Int, (getP l7 i s6).1 = 0 → ((getP l7 i s6).2.2 = l6 ↔ i = r7)) := by
            have h8 := PG.out.2.2
            rw [← hR7.out] at h8
            simp only at h8
            exact h8
          have HG6 : Hid (l6.length = s6.toNat * s6.toNat) := by
            have h8 := PG.out.1
            rw [← hR7.out] at h8
            simp only at h8
            have h7 : (getP l7 r7 s6).1 = 0 := by rw [h8]
            have h6 := (getP_ok h7).2.2.2.1
            rw [h8] at h6
            exact h6
          have FGi : Hid (∀ (i : Int) v, T v → Calls Tryd.prog 9 #[.agg #[.slice A7 l7.length c7], .int .i64 i, .int .i64 s6] v fun e w' => GOut v w' (getP l7 i s6).2.1 (getP l7 i s6).2.2 (getP l7 i s6).1 e) := fun i v h =>
            pPoolGet_any A7 c7 l7 i s6 v (HQ.out v (HT.out v h).2).2.2.2.1.rn (by have := EE.out; omega) (HQ.out v (HT.out v h).2).2.2.2.1.rw.1 FT.out (HQ.out v (HT.out v h).2).2.2.2.2.2.2.tab
          have hl7 : l7.length ≤ 1048576 := by have := EE.out; omega
          clear FG FW HW1 hwd
          go_upto_region 22 with fail
          go_loopw [29] (fun i wr => ∃ k : Nat, i = .int .i64 k ∧ k ≤ l7.length ∧ T wr) (fun i _ => l7.length - (intOf i).toNat)
          case atStart => exact ⟨0, rfl, Nat.zero_le _, QX.out⟩
          case round =>
            obtain ⟨k, rfl, hk, qk⟩ := hrel
            have QK := Lib.hid qk
            clear QX qk
            obtain ⟨k0, k1, k2, k3, _, _⟩ := HS2.out _ QK.out
            by_cases hlt : k < l7.length
            · have hkI : (k : Int) < (l7.length : Int) := by omega
              have FK := Lib.hid (FGi.out (k : Int) _ QK.out)
              have HK3 := Lib.hid (HG3.out (k : Int))
              have HK4 : Hid ((getP l7 (k : Int) s6).1 = 0 → (getP l7 (k : Int) s6).2.1 = s6 ∧ (getP l7 (k : Int) s6).2.2.length = s6.toNat * s6.toNat) := fun h => by
                obtain ⟨_, _, h1, h2, _⟩ := getP_ok h
                exact ⟨h1, h2⟩
              generalize getP l7 (k : Int) s6 = RG at *
              obtain ⟨Ck, Sk, Lk⟩ := RG
              simp only at FK HK3 HK4
              go_wp2_with fail
              refine FK.out.mono ?_
              rintro e wa ⟨Aa, ca, rfl, oa, na⟩
              have QB : Hid (T (wa.alloc (.cells #[.int .i64 Sk, .slice Aa Lk.length ca, .int .i64 Ck] 37)) ∧ Hm wa.heap.size Sk Aa ca Lk Ck (wa.alloc (.cells #[.int .i64 Sk, .slice Aa Lk.length ca, .int .i64 Ck] 37))) :=
                ⟨KT.out _ _ (belowA _ _) (KT.out _ _ na QK.out), Hm.made _ oa.ri⟩
              clear na oa QK FK k0 k1 k2 k3
              go_wp2_with fail
              generalize wa.alloc (.cells #[.int .i64 Sk, .slice Aa Lk.length ca, .int .i64 Ck] 37) = Wk at QB ⊢
              generalize wa.heap.size = b30 at QB ⊢
              obtain ⟨U, KU, HU, qU⟩ : ∃ U : World → Prop, Hid (Kep U) ∧ Hid (∀ v, U v → Hm b30 Sk Aa ca Lk Ck v ∧ T v) ∧ Hid (U Wk) := ⟨fun v => Hm b30 Sk Aa ca Lk Ck v ∧ T v, fun v v' hb h => ⟨h.1.on hb, KT.out _ _ hb h.2⟩, fun v h => h, ⟨QB.out.2, QB.out.1⟩⟩
              clear QB
              by_cases hC : Ck = 0
              · subst hC
                obtain ⟨eS, eL⟩ := HK4.out rfl
                subst eS
                have HEL : Hid (l6.length = Lk.length) := by show _ = _; rw [HG6.out, eL]
                obtain ⟨d, hdd⟩ : ∃ d, d = decide (Lk = l6) := ⟨_, rfl⟩
                have hkd : ((k : Int) == r7) = d := by
                  rw [hdd, Bool.eq_iff_iff, decide_eq_true_iff, beq_iff_eq]
                  exact (HK3.out rfl).symm
                have HDD := Lib.hid hdd
                clear hdd eL HK3 HK4
                have FL : Hid (∀ v, U v → Calls Tryd.prog 28 #[.agg #[.int .i64 Sk, .slice Aa Lk.length ca], .agg #[.int .i64 Sk, .slice A6 l6.length c6]] v fun e w' => e = .returned (.bool d) ∧ Below v.heap.size v w') := fun v h => by
                  rw [HEL.out, HDD.out]
                  exact lwGrid_is Sk Aa A6 ca c6 Lk l6 v (HU.out v h).1.ri (HQ.out v (HT.out v (HU.out v h).2).2).2.2.2.2.2.1.ri HEL.out (by have := HL.out; have := HEL.out; omega)
                have HS3 : Hid (∀ v, U v → v.cell? ⟨b30, 0, none⟩ = some (.int .i64 Sk) ∧ v.cell? ⟨b30, 1, none⟩ = some (.slice Aa Lk.length ca) ∧ v.cell? ⟨b30, 2, none⟩ = some (.int .i64 0) ∧ v.cell? ⟨b7, 1, none⟩ = some (.int .i64 r7) ∧ v.cell? ⟨b6, 0, none⟩ = some (.int .i64 Sk) ∧ v.cell? ⟨b6, 1, none⟩ = some (.slice A6 l6.length c6)) := fun v h => by
                  have h1 := (HU.out v h).1
                  have h2 := HS2.out v (HU.out v h).2
                  exact ⟨h1.c0, h1.c1, h1.c2, h2.2.1, h2.2.2.1, h2.2.2.2.1⟩
                go_upto_region 25 with fail
                go_cut [257] from 230 to 257 (fun c wx => c = .bool false ∧ T wx)
                case first => as_aux_lemma =>
                  have qd := KU.out _ _ (belowD _) qU.out
                  have hk1 := HS3.out _ qU.out
                  go_region_held3 (fun w' => w'.cell? ⟨b30, 0, none⟩ = some (.int .i64 Sk) ∧ w'.cell? ⟨b30, 1, none⟩ = some (.slice Aa Lk.length ca) ∧ w'.cell? ⟨b30, 2, none⟩ = some (.int .i64 0) ∧ w'.cell? ⟨b7, 1, none⟩ = some (.int .i64 r7) ∧ w'.cell? ⟨b6, 0, none⟩ = some (.int .i64 Sk) ∧ w'.cell? ⟨b6, 1, none⟩ = some (.slice A6 l6.length c6))
                    (first
                      | (with_reducible exact hkva)
                      | exact hk1
                      | go_keep)
                    (first
                      | (go_at_call 28; refine (FL.out _ qd).mono ?_; rintro e va ⟨rfl, nva⟩; have qva := KU.out _ _ nva qd; have hkva := HS3.out _ qva; clear nva))
                  go_wp2_with fail
                  go_meet
                  exact ⟨rfl, (HU.out _ qva).2⟩
                case rest =>
                  obtain ⟨rfl, qX⟩ := hcut
                  have QX := Lib.hid qX
                  clear qX qU
                  go_wp2
                  go_roundw
                  case rel => exact ⟨k + 1, by go_num, by omega, QX.out⟩
                  case measure => simp [intOf]; omega
              · have hq : (Ck == 0) = false := by simpa using hC
                have qd := (HU.out _ (KU.out _ _ (belowD _) qU.out)).2
                have hk2 := (HU.out _ qU.out).1.c2
                clear hC HK3 HK4
                go_wp2_with fail
                go_region
                go_wp2
                go_roundw
                case rel => exact ⟨k + 1, by go_num, by omega, qd⟩
                case measure => simp [intOf]; omega
            · have hkI : ¬ (k : Int) < (l7.length : Int) := by omega
              go_wp2_with fail
              go_ret
              exact ⟨rfl, (HQ.out _ (HT.out _ QK.out).2).2.2.2.2.2.2.bel⟩
      · have hq : (C7 != 0) = true := by simpa using hC
        clear hC
        go_wp2_with fail
        go_ret
        exact ⟨rfl, (HQ.out _ QX.out).2.2.2.2.2.2.bel⟩
end Go.Proofs.YtoobkajilbmdhaaDoor
