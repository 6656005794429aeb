/- FnExactInvert: for every input the law returns true, and its arguments read as before. No condition beyond the row's own. -/
import Derived.Test.YtjcgelkeegepnaaRows
import Derived.WalkKit
import Derived.ProofKit
import Derived.OpenShut
import Derived.ShutString
import Derived.ChangeOld
import Derived.Below
import Derived.WalkSpells
import Derived.WalkLawsBesides
import Derived.Lib.Hide
import Derived.Test.YtjcgelkeegepnaaItems
import Derived.Test.YtjcgelkeegepnaaChO
import Derived.Test.YtjcgelkeegepnaaDfP
import Derived.Test.YtjcgelkeegepnaaGridO
namespace Go.Proofs.Ytjcgelkeegepnaa.fnExactInvert
open Go.ChangeShapes Go.WideShapes Go.ChangeAt Go.RowKit
open Go.ChangeMaps (open_string shut_string)
set_option linter.unusedVariables false

theorem own : ownKnob Try.prog.godebug = none := by kernel_rfl
theorem laidOut : laidOutB Try.prog = true := by kernel_rfl

set_option maxRecDepth 100000 in
set_option maxHeartbeats 1000000 in
theorem walk (a0 : Option Addr) (c0 : Nat) (l0 : List Ch) (w : World) (h0 : (RCh w w.heap.size a0 l0 ∧ l0.length ≤ maxLen ∧ ∀ n ∈ l0, n.Fits)) :
    Calls Try.prog 7 #[.slice a0 l0.length c0] w fun e w' => e = .returned (.bool true) ∧ Below w.heap.size w w' := by
  have HR0 := Lib.hid h0.1
  have hlm0 := h0.2.1
  have HS0 := Lib.hid h0.2.2
  unfold maxLen at hlm0
  clear h0
  have HF0 : Hid (St w [] w) := by
    have := (St.start w)
    exact this
  have hsz0 := fun w => szChs_b a0 l0.length c0 (1048576) w (by omega) (by decide) (by decide)
  by_cases hl0 : (l0.length : Int) ≤ 1048576
  · rw [if_pos hl0] at hsz0
    have hleft1 : (0 : Int) ≤ 1048576 - l0.length := by omega
    have hM := fun A0 c0' w h0 => mInvert_any A0 c0' l0 w h0 (by omega)
    have hI := fun A0 c0' w h0 => pInvert_any A0 c0' l0 w h0 (by omega)
    have hlen := invL_len l0
    generalize invL l0 = L at *
    go_enter Try.func7, Try.ntmps7
    go_wp2_with fail
    refine (hsz0 _).mono ?_
    rintro e w1 ⟨rfl, hb1⟩
    have HF1 := Lib.hid (HF0.out.below hb1)
    clear hb1 HF0 
    clear hsz0
    go_wp2_with fail
    refine (toChs_b a0 c0 l0 _ (HR0.out.below' HF1.out.bel) (by omega)).mono ?_
    rintro e w2 ⟨g2, rfl, ho2, hb2⟩
    have HF2 := Lib.hid (HF1.out.below hb2)
    have HO2_0 := Lib.hid ho2
    clear hb2 ho2 HF1 
    go_wp2_with fail
    refine (hM _ _ w2 HO2_0.out.r).mono ?_
    rintro e w3 ⟨A1, k1, rfl, ho3, hb3⟩
    have HF3 := Lib.hid (HF2.out.push hb3 (rwC w2.heap.size w3.heap.size (.slice A1 L.length k1) L) (Nat.le_refl _) (Nat.le_refl _) ⟨ho3, ho3.lies⟩)
    clear hb3 ho3 HF2 HO2_0
    go_wp2_with fail
    refine (toChs_b a0 c0 l0 _ (HR0.out.below' HF3.out.bel) (by omega)).mono ?_
    rintro e w4 ⟨g4, rfl, ho4, hb4⟩
    have HF4 := Lib.hid (HF3.out.push hb4 (rwC w3.heap.size w4.heap.size (.slice (some ⟨g4, 0, none⟩) l0.length l0.length) l0) (Nat.le_refl _) (Nat.le_refl _) ⟨ho4, ho4.lies⟩)
    clear hb4 ho4 HF3 
    go_wp2_with fail
    have HQ0 : Hid (OwnCh w4 w3.heap.size (.slice (some ⟨g4, 0, none⟩) l0.length l0.length) l0) := (HF4.out.get 0 rfl).1
    refine (hI _ _ _ HQ0.out.r).mono ?_
    rintro e w5 ⟨A2, k2, rfl, ho5, hb5⟩
    have HF5 := Lib.hid (HF4.out.push hb5 (rwC w4.heap.size w5.heap.size (.slice A2 L.length k2) L) (Nat.le_refl _) (Nat.le_refl _) ⟨ho5, ho5.lies⟩)
    clear hb5 ho5 HF4 HQ0
    go_wp2_with fail
    have HM6 : Hid (OwnCh w5 w2.heap.size (.slice A1 L.length k1) L) := (HF5.out.get 2 rfl).1
    have HN6 : Hid (OwnCh w5 w4.heap.size (.slice A2 L.length k2) L) := (HF5.out.get 0 rfl).1
    refine (eqChs A2 A1 k2 k1 L _ HN6.out.r HM6.out.r (by omega)).mono ?_
    rintro e w6 ⟨rfl, hb6⟩
    have HF6 := Lib.hid (HF5.out.below hb6)
    clear hb6 HF5 HM6 HN6 
    go_wp2_with fail
    refine (toChs_b a0 c0 l0 _ (HR0.out.below' HF6.out.bel) (by omega)).mono ?_
    rintro e w7 ⟨g7, rfl, ho7, hb7⟩
    have HF7 := Lib.hid (HF6.out.below hb7)
    clear hb7 HF6
    go_wp2_with fail
    have HQ0 : Hid (OwnCh w7 w3.heap.size (.slice (some ⟨g4, 0, none⟩) l0.length l0.length) l0) := (HF7.out.get 1 rfl).1
    refine (eqChs _ _ l0.length l0.length l0 _ HQ0.out.r ho7.r (by omega)).mono ?_
    rintro e w8 ⟨rfl, hb8⟩
    have HF8 := Lib.hid (HF7.out.below hb8)
    clear hb8 ho7 HF7 HQ0
    go_wp2_with fail
    have HQ0 : Hid (OwnCh w8 w3.heap.size (.slice (some ⟨g4, 0, none⟩) l0.length l0.length) l0) := (HF8.out.get 1 rfl).1
    have HL0 : Hid (Lies (.slice (some ⟨g4, 0, none⟩) l0.length l0.length) w3.heap.size w4.heap.size) := (HF8.out.get 1 rfl).2
    refine (markChs _ l0.length w3.heap.size (1) l0 _ HQ0.out (by omega) (by omega)).mono ?_
    rintro e w9 ⟨rfl, ho, hg, _⟩
    have HF9 : Hid (St w [(rwC w4.heap.size w5.heap.size (.slice A2 L.length k2) L), (rwC w3.heap.size w4.heap.size (.slice (some ⟨g4, 0, none⟩) l0.length l0.length) (marksCh (1) l0.length)), (rwC w2.heap.size w3.heap.size (.slice A1 L.length k1) L)] w9) := HF8.out.turn 1 (rwC w3.heap.size w4.heap.size (.slice (some ⟨g4, 0, none⟩) l0.length l0.length) (marksCh (1) l0.length)) rfl rfl rfl (Only.grown hg HL0.out) ⟨ho, HL0.out⟩
    clear ho hg HQ0 HL0 HF8 
    go_wp2_with fail
    have HM10 : Hid (OwnCh w9 w2.heap.size (.slice A1 L.length k1) L) := (HF9.out.get 2 rfl).1
    have HN10 : Hid (OwnCh w9 w4.heap.size (.slice A2 L.length k2) L) := (HF9.out.get 0 rfl).1
    refine (eqChs A2 A1 k2 k1 L _ HN10.out.r HM10.out.r (by omega)).mono ?_
    rintro e w10 ⟨rfl, hb10⟩
    have HF10 := Lib.hid (HF9.out.below hb10)
    clear hb10 HF9 HM10 HN10 
    go_wp2_with fail
    have HN : Hid (OwnCh w10 w4.heap.size (.slice A2 L.length k2) L) := (HF10.out.get 0 rfl).1
    have HLg : Hid (Lies (.slice A2 L.length k2) w4.heap.size w5.heap.size) := (HF10.out.get 0 rfl).2
    refine (markChs A2 k2 w4.heap.size 1 L _ HN.out (by omega) (by omega)).mono ?_
    rintro e w11 ⟨rfl, ho, hg, _⟩
    have HF11 : Hid (St w [(rwC w4.heap.size w5.heap.size (.slice A2 L.length k2) (marksCh 1 L.length)), (rwC w3.heap.size w4.heap.size (.slice (some ⟨g4, 0, none⟩) l0.length l0.length) (marksCh (1) l0.length)), (rwC w2.heap.size w3.heap.size (.slice A1 L.length k1) L)] w11) := HF10.out.turn 0 (rwC w4.heap.size w5.heap.size (.slice A2 L.length k2) (marksCh 1 L.length)) rfl rfl rfl (Only.grown hg HLg.out) ⟨ho, HLg.out⟩
    clear ho hg HN HLg HF10 
    go_wp2_with fail
    have HN : Hid (OwnCh w11 w4.heap.size (.slice A2 L.length k2) (marksCh 1 L.length)) := (HF11.out.get 0 rfl).1
    refine (heldChs_b A2 k2 1 L.length _ HN.out.r (by omega) (by omega)).mono ?_
    rintro e w12 ⟨rfl, hb12⟩
    have HF12 := Lib.hid (HF11.out.below hb12)
    clear hb12 HN HF11 
    go_wp2_with fail
    refine (toChs_b a0 c0 l0 _ (HR0.out.below' HF12.out.bel) (by omega)).mono ?_
    rintro e w13 ⟨g13, rfl, ho13, hb13⟩
    have HF13 := Lib.hid (HF12.out.below hb13)
    have HO13_0 := Lib.hid ho13
    clear hb13 ho13 HF12 
    go_wp2_with fail
    refine (hI _ _ w13 HO13_0.out.r).mono ?_
    rintro e w14 ⟨A3, k3, rfl, ho14, hb14⟩
    have HF14 := Lib.hid (HF13.out.below hb14)
    have HOr14 := Lib.hid ho14
    clear hb14 ho14 HF13 HO13_0
    go_wp2_with fail
    have HM15 : Hid (OwnCh w14 w2.heap.size (.slice A1 L.length k1) L) := (HF14.out.get 2 rfl).1
    refine (eqChs A3 A1 k3 k1 L _ HOr14.out.r HM15.out.r (by omega)).mono ?_
    rintro e w15 ⟨rfl, hb15⟩
    have HF15 := Lib.hid (HF14.out.below hb15)
    clear hb15 HF14 HM15 HOr14 
    go_wp2_with fail
    have HN : Hid (OwnCh w15 w4.heap.size (.slice A2 L.length k2) (marksCh 1 L.length)) := (HF15.out.get 0 rfl).1
    refine (heldChs_b A2 k2 1 L.length _ HN.out.r (by omega) (by omega)).mono ?_
    rintro e w16 ⟨rfl, hb16⟩
    have HF16 := Lib.hid (HF15.out.below hb16)
    clear hb16 HN HF15 
    go_wp2
    go_ret
    exact ⟨rfl, HF16.out.bel⟩
  · rw [if_neg hl0] at hsz0
    go_enter Try.func7, Try.ntmps7
    go_wp2_with fail
    refine (hsz0 _).mono ?_
    rintro e w1 ⟨rfl, hb1⟩
    have HF1 := Lib.hid (HF0.out.below hb1)
    clear hb1 HF0 
    go_wp2
    go_ret
    exact ⟨rfl, HF1.out.bel⟩

set_option maxRecDepth 100000 in
theorem lifted (os : Os) (started : os.Started) (H : Type) (enc : TypeId × Value → H) :
    ReturnsInHanded {} Try.checked os 7 .any (Rows.fnExactInvertSpec.pre6 enc Try.prog Try.f7 Rows.fnExactInvertRow.domain false) (Rows.fnExactInvertSpec.post enc Try.prog Try.f7 false true false false) := by
  refine returnsInHanded_of_change (C := Try.checked) own started (by kernel_rfl) Try.func7
    (ChangeSpec.witness6 (enc := enc) (C := Try.checked) false ⟨#[], #[.slice none 0 0], []⟩ 8 (by kernel_rfl) (by kernel_rfl) (by kernel_rfl) (by kernel_rfl)) ?_
  intro W base args ds gs before hval0 hW hcnd _
  have hval : ∀ (j : Nat) t v, Try.f7.params[j]? = some t → args[j]? = some v → Value.okWide Try.prog W .any base t v := hval0
  have hW' := hW
  obtain ⟨p, q, hA0, hV, rfl, hfz, hnd⟩ := hW
  have hA : DataW.TrodAll enc Try.prog W 0 (fun _ => true) true Try.f7.params.toList args.toList ds p := hA0
  rw [Try.params7] at hA hval
  obtain ⟨v0, vs0, d0, ds0, p0, q0, hargs, rfl, rfl, h0, r0⟩ := trodAll_cons hA
  obtain ⟨rfl, rfl, rfl⟩ := trodAll_nil r0
  obtain rfl : args = #[v0] := by cases args; simp_all
  obtain ⟨rfl, rfl⟩ := trodVars_none hV
  have k0 := h0
  have lt0 : ∀ x ∈ p0, x.block < W.heap.size := by obtain ⟨m, hm⟩ := k0; exact DataW.trod_lt m _ _ _ hm
  obtain ⟨a0, cap0, z0, rfl, w0⟩ := openChs (hval 0 54 v0 rfl rfl) h0
  clear hA0 hval0
  refine (walk a0 cap0 z0 W w0).mono fun e W' ⟨he, bel⟩ => ?_
  subst he
  exact ⟨_, rfl, _, _, _, [], _, [], hW', trodAll_mk1 (shut_bool Try.underlying4 _), (trodAll_cons_mk (Below.trod laidOut (by kernel_rfl) (of_decide_eq_true (by kernel_rfl)) k0 bel lt0) trodAll_mk0), rfl, bel.frame _, fun h => by cases h⟩

theorem over : Rows.fnExactInvertRow.holds Try.pinned (OpenSpec.ofChange Rows.fnExactInvertSpec) :=
  OpenClaim.holds_of_wide 7 Try.f7 rfl rfl rfl rfl rfl rfl rfl ⟨rfl, rfl, rfl, rfl, rfl⟩ rfl rfl rfl rfl rfl (by kernel_rfl) Try.func7 (by kernel_rfl)
    (of_decide_eq_true (by kernel_rfl)) (by unfold Func.isWrapper; first | (rw [if_pos (by decide +kernel)]; kernel_rfl) | (rw [if_neg (by decide +kernel)]; exact ⟨rfl, rfl⟩))
    (fun os started H enc _ => lifted os started H enc)

end Go.Proofs.Ytjcgelkeegepnaa.fnExactInvert
namespace Go.Proofs.Ytjcgelkeegepnaa
/-- The statement. -/
theorem fnExactInvert_holds : Rows.FnExactInvertSaid := fnExactInvert.over
end Go.Proofs.Ytjcgelkeegepnaa
