/- The model's pools: a node is put in. -/
import Derived.Test.YtoobkajilbmdhaaDoorPoolS
import Derived.Test.YtoobkajilbmdhaaDoorHeightM
import Derived.Deep.RegionWith
import Derived.Deep.RegionHeld3
namespace Go.Proofs.YtoobkajilbmdhaaDoor
open Go.RowKit
set_option linter.unusedVariables false

set_option maxRecDepth 100000 in
set_option maxHeartbeats 1000000 in
theorem mAdd_any (base p : Nat) (v : Value) (l : List Nd) (x : Nd) (w : World) (h : PS base p v l w) (hl : l.length ≤ 1000000) :
    Calls Tryd.prog 112 #[.pointer (some ⟨p, 0, none⟩), x.val] w fun e w' => e = .returned (.int .i64 (addN l x).2) ∧ ∃ v', PS base p v' (addN l x).1 w' ∧ PG p p v v' w w' := by
  obtain ⟨i0, hi, hz0, hz1, hz2⟩ := info_parts Tryd.infoNode
  obtain ⟨A, c, rfl⟩ := h.own.form
  have hFd := fun w h => mFind_any A c l x w h (by omega)
  obtain ⟨xt, xa, xb, xc, xd⟩ := x
  unfold Nd.val at *
  simp only at *
  have hbw : Below w.heap.size w (w.alloc (.cells #[.int .i64 xt, .int .i64 xa, .int .i64 xb, .int .i64 xc, .int .i64 xd] 84)) := (Below.refl _ _).alloc (Nat.le_refl _) _
  have hx0 : NdAt (w.alloc (.cells #[.int .i64 xt, .int .i64 xa, .int .i64 xb, .int .i64 xc, .int .i64 xd] 84)) w.heap.size 0 ⟨xt, xa, xb, xc, xd⟩ := ⟨by simp [go_sem], by simp [go_sem], by simp [go_sem], by simp [go_sem], by simp [go_sem]⟩
  have HP := Lib.hid (h.below hbw)
  have HX := Lib.hid hx0
  have hpl := h.lt
  have HPL := Lib.hid h
  have hzW : w.heap.size < (w.alloc (.cells #[.int .i64 xt, .int .i64 xa, .int .i64 xb, .int .i64 xc, .int .i64 xd] 84)).heap.size := by simp
  have HBW := Lib.hid hbw
  clear h hx0 hbw
  cases hf : l.findIdx? (fun y => y == (⟨xt, xa, xb, xc, xd⟩ : Nd)) with
  | some k =>
    have HA : Hid (addN l ⟨xt, xa, xb, xc, xd⟩ = (l, k)) := by show _ = _; simp only [addN, hf]
    have hfn := findN_some hf
    rw [hfn] at hFd
    rw [HA.out]
    clear hf hfn
    go_enter Tryd.func112, Tryd.ntmps112
    go_wp2_with fail
    generalize w.alloc (.cells #[.int .i64 xt, .int .i64 xa, .int .i64 xb, .int .i64 xc, .int .i64 xd] 84) = W at *
    have c0 := HP.out.c0
    obtain ⟨e0, e1, e2, e3, e4⟩ := HX.out.five
    simp only at e0 e1 e2 e3 e4
    go_region_with (go_at_call 73; refine (hFd W.drew (HP.out.own.drew.rn)).mono ?_; rintro e w1 ⟨rfl, hb1⟩; have HP1 := Lib.hid (HP.out.below ((Below.refl _ _).drew.trans hb1)); have HB1 := Lib.hid (HBW.out.trans (((Below.refl _ _).drew.trans hb1).mono (Nat.le_of_lt hzW))); clear hb1)
    all_goals
      go_wp2
      go_ret
      exact ⟨rfl, _, HP1.out, PG.below HB1.out⟩
  | none =>
    have HA : Hid (addN l ⟨xt, xa, xb, xc, xd⟩ = (l ++ [⟨xt, xa, xb, xc, xd⟩], l.length)) := by show _ = _; simp only [addN, hf]
    have hfn := findN_nil hf
    rw [hfn] at hFd
    rw [HA.out]
    clear hf hfn
    go_enter Tryd.func112, Tryd.ntmps112
    go_wp2_with fail
    generalize hWW : w.alloc (.cells #[.int .i64 xt, .int .i64 xa, .int .i64 xb, .int .i64 xc, .int .i64 xd] 84) = W at *
    clear hWW
    have c0 := HP.out.c0
    obtain ⟨e0, e1, e2, e3, e4⟩ := HX.out.five
    simp only at e0 e1 e2 e3 e4
    go_region_held3 (fun w' => w'.cell? ⟨p, 0, none⟩ = some (.slice A l.length c) ∧ w'.cell? ⟨w.heap.size, 0, none⟩ = some (.int .i64 xt) ∧ w'.cell? ⟨w.heap.size, 1, none⟩ = some (.int .i64 xa) ∧ w'.cell? ⟨w.heap.size, 2, none⟩ = some (.int .i64 xb) ∧ w'.cell? ⟨w.heap.size, 3, none⟩ = some (.int .i64 xc) ∧ w'.cell? ⟨w.heap.size, 4, none⟩ = some (.int .i64 xd))
      (first
        | go_keep
        | exact hk)
      (first | (go_at_call 73; refine (hFd W.drew (HP.out.own.drew.rn)).mono ?_; rintro e w1 ⟨rfl, hb1⟩; have HP1 := Lib.hid (HP.out.below ((Below.refl _ _).drew.trans hb1)); have HX1 := Lib.hid (HX.out.keep (hb1.block w.heap.size hzW)); have HB1 := Lib.hid (HBW.out.trans (((Below.refl _ _).drew.trans hb1).mono (Nat.le_of_lt hzW))); have hsz1 : w.heap.size < w1.heap.size := Nat.lt_of_lt_of_le hzW hb1.size; have hk := And.intro HP1.out.c0 HX1.out.five; clear hb1))
    clear hk e0 e1 e2 e3 e4 c0 hzW
    have c1 := HP1.out.c0
    have f1 := HP1.out.f0
    have hp1 := HP1.out.lt
    obtain ⟨e0, e1, e2, e3, e4⟩ := HX1.out.five
    simp only at e0 e1 e2 e3 e4
    have hpw : ¬ p = w1.heap.size := by omega
    have hpx : ¬ p = w.heap.size := by omega
    have hba : Below w1.heap.size w1 (w1.alloc (.cells #[.int .i64 xt, .int .i64 xa, .int .i64 xb, .int .i64 xc, .int .i64 xd] 84)) := (Below.refl _ _).alloc (Nat.le_refl _) _
    have HPA := Lib.hid (HP1.out.below hba.drew)
    have HNA : Hid (NdAt (w1.alloc (.cells #[.int .i64 xt, .int .i64 xa, .int .i64 xb, .int .i64 xc, .int .i64 xd] 84)).drew w1.heap.size 0 ⟨xt, xa, xb, xc, xd⟩) := NdAt.mk (by simp [go_sem]) (by simp [go_sem]) (by simp [go_sem]) (by simp [go_sem]) (by simp [go_sem])
    have HBA := Lib.hid (HB1.out.trans (hba.drew.mono (Nat.le_of_lt hsz1)))
    have hbl : base ≤ (w1.alloc (.cells #[.int .i64 xt, .int .i64 xa, .int .i64 xb, .int .i64 xc, .int .i64 xd] 84)).drew.heap.size := Nat.le_trans HPL.out.hb (Nat.le_of_lt HPA.out.lt)
    clear hba
    go_wp2_with fail
    go_region_law ((refine step_append_node hi hz0 hz1 hz2 (by rfl) _ _ (by rfl) base _ l ⟨xt, xa, xb, xc, xd⟩ _ w1.heap.size HPA.out.own (by rfl) (by rfl) HNA.out hl hbl ?_; intro g cap w2 hown2 hg2 hlies; have c2 := hg2.cell HPA.out.c0 (fun e => HPA.out.ne e.symm); have f2 := (World.frozen?_of_block (a := ⟨p, 0, none⟩) (hg2.block p HPA.out.lt (fun e => HPA.out.ne e.symm))).trans HPA.out.f0))
    all_goals
      have HW2 := Lib.hid hown2
      have HG2 := Lib.hid hg2
      have HL2 := Lib.hid hlies
      clear hown2 hg2 hlies
      go_wp2
      go_ret
      have HPU := HPA.out.push (m := p) HW2.out HG2.out HL2.out
      refine ⟨rfl, .slice (some ⟨g, 0, none⟩) (l.length + 1) cap, ?_, ?_⟩
      · exact HPU.1
      · exact (PG.below HBA.out).trans HPU.2
end Go.Proofs.YtoobkajilbmdhaaDoor
