/- The program's shelf: a pool at work, that knows where each of its nodes stands. -/
import Derived.Test.YtphkceiafehidaaPutMo
import Derived.Test.YtphkceiafehidaaPgQ
import Derived.Lib.SliceRun
namespace Go.Proofs.Ytphkceiafehidaa
open Go.RowKit
set_option linter.unusedVariables false

/-- Block B is a map of at most n entries that tells where each node stands. -/
def MapI (w : World) (B n : Nat) (f : Nd → Option Nat) : Prop :=
  ∃ D : DataW Unit, w.ownsMap Try.prog 94 (plainElem Try.prog 2) B n D ∧ ∀ x : Nd, x.Fits → Maps.has D (keyN x) = (f x).isSome ∧ D.atKey (keyN x) (.lit (.int .i64 0)) = .lit (.int .i64 (((f x).getD 0 : Nat) : Int))
theorem MapI.made (w : World) : MapI (w.alloc (.map #[] 0)) w.heap.size 0 (fun _ => none) := ⟨.map [], World.ownsMap_made _ _ _ _, fun x _ => ⟨rfl, rfl⟩⟩
theorem MapI.lt {w : World} {B n : Nat} {f : Nd → Option Nat} (h : MapI w B n f) : B < w.heap.size := by obtain ⟨D, h1, h2⟩ := h; exact h1.lt
theorem MapI.keep {w w' : World} {B n : Nat} {f : Nd → Option Nat} (h : MapI w B n f) (hb : w'.heap[B]? = w.heap[B]?) : MapI w' B n f := by
  obtain ⟨D, ⟨es, clock, hh, F, hs, hD⟩, h2⟩ := h
  exact ⟨D, ⟨es, clock, hb.trans hh, F, hs, hD⟩, h2⟩
theorem zero_int (w : World) : (zeroValue 2).run Try.prog w = .ok (.int .i64 0) w := by kernel_rfl
theorem MapI.look {w : World} {B n : Nat} {f : Nd → Option Nat} (h : MapI w B n f) {x : Nd} (hx : x.Fits) :
    (Instr.lookup 128 (.map (some B)) x.val true).run Try.prog w = .ok (.tuple #[.int .i64 (((f x).getD 0 : Nat) : Int), .bool (f x).isSome]) w := by
  obtain ⟨D, h1, h2⟩ := h
  obtain ⟨v, ps, hrun, hv⟩ := h1.look_ok law_nd Try.underlying128 (zero_int w) (plainElem_int Try.underlying2 (by decide)) (keyN_is hx)
  rw [(h2 x hx).2] at hv
  rw [hrun, (h2 x hx).1]
  obtain ⟨c, rfl, hc, _⟩ := plainElem_int_inv Try.underlying2 hv
  simp only [Prod.mk.injEq, DataW.lit.injEq, Lit.int.injEq, true_and] at hc
  rw [hc.1]
theorem MapI.put {w : World} {B n : Nat} {f : Nd → Option Nat} (h : MapI w B n f) {x : Nd} (hx : x.Fits) (hn : n < maxLen) {i : Nat} (hi : i ≤ 1000000) :
    ∃ w', (Instr.mapUpdate 128 (.map (some B)) x.val (.int .i64 i)).run Try.prog w = .ok () w' ∧ MapI w' B (n + 1) (fun z => if z = x then some i else f z) ∧ w.grownBy w' (some B) := by
  obtain ⟨D, h1, h2⟩ := h
  have hw : (Lit.int .i64 (i : Int)).wf = true := by simp [Lit.wf, IntKind.min, IntKind.max, IntKind.bits, IntKind.signed]; omega
  obtain ⟨w', hrun, ho, hg⟩ := h1.update law_nd Try.underlying128 hn (keyN_is hx) (plainElem_int Try.underlying2 hw)
  refine ⟨w', hrun, ⟨_, ho, fun y hy => ?_⟩, hg⟩
  by_cases e : y = x
  · subst e
    rw [Maps.atKey_put_same h1.isMap (keyN_key _), Maps.has_put_same h1.isMap (keyN_key _)]
    simp
  · rw [Maps.atKey_put_other (keyN_ne hy hx e), Maps.has_put_other (keyN_ne hy hx e), (h2 y hy).1, (h2 y hy).2]
    simp [e]
theorem MapI.fits {w : World} {B n : Nat} {f g : Nd → Option Nat} (h : MapI w B n f) (e : ∀ z, f z = g z) : MapI w B n g := by
  obtain ⟨D, h1, h2⟩ := h
  exact ⟨D, h1, fun x hx => by rw [← e x]; exact h2 x hx⟩
theorem find_snoc {l : List Nd} {x : Nd} (hx : l.findIdx? (fun y => y == x) = none) (z : Nd) : (l ++ [x]).findIdx? (fun y => y == z) = if z = x then some l.length else l.findIdx? (fun y => y == z) := by
  rw [List.findIdx?_append]
  by_cases e : z = x
  · subst e
    rw [hx]
    simp
  · have : (x == z) = false := by simpa using fun h => e h.symm
    simp [e, this]

/-- The shelf in its box. -/
structure SS (base p m : Nat) (v : Value) (l : List Nd) (w : World) : Prop where
  ps : PS base p v l w
  c1 : w.cell? ⟨p, 1, none⟩ = some (.map (some m))
  map : MapI w m l.length (fun x => l.findIdx? (fun y => y == x))
  hm : base ≤ m
  nm : m ≠ p
  nr : v.ownBlock ≠ some m
theorem SS.below {base p m : Nat} {v : Value} {l : List Nd} {w w' : World} (h : SS base p m v l w) (hb : Below w.heap.size w w') : SS base p m v l w' :=
  ⟨h.ps.below hb, (hb.cell (p := ⟨p, 1, none⟩) h.ps.lt).trans h.c1, h.map.keep (hb.block m h.map.lt), h.hm, h.nm, h.nr⟩

set_option maxRecDepth 100000 in
set_option maxHeartbeats 2000000 in
theorem pKeep_any (base p m : Nat) (v : Value) (l : List Nd) (x : Nd) (w : World) (h : SS base p m v l w) (hf : x.Fits) (hl : l.length ≤ 100000) :
    Calls Try.prog 104 #[.pointer (some ⟨p, 0, none⟩), x.val] w fun e w' => e = .returned (.int .i64 (addN l x).2) ∧ ∃ v', SS base p m v' (addN l x).1 w' ∧ PG p m v v' w w' := by
  obtain ⟨i0, hi, hz0, hz1, hz2⟩ := info_parts Try.infoNode
  obtain ⟨A, c, rfl⟩ := h.ps.own.form
  have HFX := Lib.hid hf
  clear hf
  obtain ⟨xt, xa, xb, xc, xd⟩ := x
  unfold Nd.val at *
  simp only at *
  have hbw : Below w.heap.size w (w.alloc (.cells #[.int .i64 xt, .int .i64 xa, .int .i64 xb, .int .i64 xc, .int .i64 xd] 94)) := (Below.refl _ _).alloc (Nat.le_refl _) _
  have hx0 : NdAt (w.alloc (.cells #[.int .i64 xt, .int .i64 xa, .int .i64 xb, .int .i64 xc, .int .i64 xd] 94)) w.heap.size 0 ⟨xt, xa, xb, xc, xd⟩ := ⟨by simp [go_sem], by simp [go_sem], by simp [go_sem], by simp [go_sem], by simp [go_sem]⟩
  have HP := Lib.hid (h.below hbw)
  have HX := Lib.hid hx0
  have hpl := h.ps.lt
  have HML := Lib.hid h.map.lt
  have hzW : w.heap.size < (w.alloc (.cells #[.int .i64 xt, .int .i64 xa, .int .i64 xb, .int .i64 xc, .int .i64 xd] 94)).heap.size := by simp
  have HBW := Lib.hid hbw
  clear h hx0 hbw
  have hlk := (HP.out.below (Below.refl _ _).drew).map.look HFX.out
  unfold Nd.val at hlk
  simp only at hlk
  cases hfi : l.findIdx? (fun y => y == (⟨xt, xa, xb, xc, xd⟩ : Nd)) with
  | some k =>
    have HA : Hid (addN l ⟨xt, xa, xb, xc, xd⟩ = (l, k)) := by show _ = _; simp only [addN, hfi]
    rw [hfi] at hlk
    simp only [Option.getD_some, Option.isSome_some] at hlk
    rw [HA.out]
    clear hfi
    go_enter Try.func104, Try.ntmps104
    go_wp2_with fail
    generalize w.alloc (.cells #[.int .i64 xt, .int .i64 xa, .int .i64 xb, .int .i64 xc, .int .i64 xd] 94) = W at *
    have c0 := HP.out.ps.c0
    have c1 := HP.out.c1
    obtain ⟨e0, e1, e2, e3, e4⟩ := HX.out.five
    simp only at e0 e1 e2 e3 e4
    go_region
    all_goals
      go_wp2
      go_ret
      exact ⟨rfl, _, HP.out.below (Below.refl _ _).drew, PG.below HBW.out.drew⟩
  | none =>
    have HA : Hid (addN l ⟨xt, xa, xb, xc, xd⟩ = (l ++ [⟨xt, xa, xb, xc, xd⟩], l.length)) := by show _ = _; simp only [addN, hfi]
    have HFI := Lib.hid hfi
    rw [hfi] at hlk
    simp only [Option.getD_none, Option.isSome_none] at hlk
    rw [HA.out]
    clear hfi
    go_enter Try.func104, Try.ntmps104
    go_wp2_with fail
    generalize hWW : w.alloc (.cells #[.int .i64 xt, .int .i64 xa, .int .i64 xb, .int .i64 xc, .int .i64 xd] 94) = W at *
    clear hWW
    have c0 := HP.out.ps.c0
    have c1 := HP.out.c1
    obtain ⟨e0, e1, e2, e3, e4⟩ := HX.out.five
    simp only at e0 e1 e2 e3 e4
    go_region
    go_wp2_with fail
    have HP2 := Lib.hid (HP.out.below (Below.refl _ _).drew)
    have HX2 : Hid (NdAt W.drew w.heap.size 0 ⟨xt, xa, xb, xc, xd⟩) := HX.out.keep rfl
    have HB2 := Lib.hid HBW.out.drew
    have hz2' : w.heap.size < W.drew.heap.size := hzW
    clear HP HX HBW hzW hlk e0 e1 e2 e3 e4 c0 c1
    generalize W.drew = W2 at *
    obtain ⟨w3, hrun, hm3, hg3⟩ := MapI.put (HP2.out.below (Below.refl _ _).drew).map HFX.out (by unfold maxLen; omega) (i := l.length) (by omega)
    unfold Nd.val at hrun
    simp only at hrun
    have hgd : W2.grownBy w3 (some m) := ⟨hg3.os, hg3.tape, hg3.output, hg3.size, hg3.block⟩
    have HM3 := Lib.hid hm3
    have HG3 := Lib.hid hgd
    clear hm3 hg3 hgd
    have c0 := HP2.out.ps.c0
    have c1 := HP2.out.c1
    obtain ⟨e0, e1, e2, e3, e4⟩ := HX2.out.five
    simp only at e0 e1 e2 e3 e4
    go_region
    clear e0 e1 e2 e3 e4 c0 c1 hrun
    have hpm : p ≠ m := fun e => HP2.out.nm e.symm
    have HPS3 : Hid (PS base p (.slice A l.length c) l w3) := by
      have h := HP2.out.ps
      exact ⟨HG3.out.cell h.c0 (by simpa using hpm), (World.frozen?_of_block (a := ⟨p, 0, none⟩) (HG3.out.block p h.lt (by simpa using hpm))).trans h.f0, World.ownsRow.kept h.own HG3.out (.inr HP2.out.nr), h.hb, Nat.lt_of_lt_of_le h.lt HG3.out.size, h.ne⟩
    have HC1 : Hid (w3.cell? ⟨p, 1, none⟩ = some (.map (some m))) := HG3.out.cell HP2.out.c1 (by simpa using hpm)
    have hmw : m < w.heap.size := HML.out
    have HX3 : Hid (NdAt w3 w.heap.size 0 ⟨xt, xa, xb, xc, xd⟩) := HX2.out.keep (HG3.out.block _ hz2' (by simp; omega))
    have HPG3 : Hid (PG p m (.slice A l.length c) (.slice A l.length c) w w3) := (PG.below HB2.out).trans ⟨HG3.out.os, HG3.out.tape, HG3.out.output, HG3.out.size, fun k hk _ h2 _ => HG3.out.block k hk (by simpa using h2), fun _ _ h => h⟩
    have hz3 : w.heap.size < w3.heap.size := Nat.lt_of_lt_of_le hz2' HG3.out.size
    have hmN := HP2.out.nr
    have HNR := Lib.hid hmN
    have HHM := Lib.hid HP2.out.hm
    clear hmN HP2 HX2 HB2 HG3
    have c0 := HPS3.out.c0
    have f0 := HPS3.out.f0
    obtain ⟨e0, e1, e2, e3, e4⟩ := HX3.out.five
    simp only at e0 e1 e2 e3 e4
    have hba : Below w3.heap.size w3 (w3.alloc (.cells #[.int .i64 xt, .int .i64 xa, .int .i64 xb, .int .i64 xc, .int .i64 xd] 94)) := (Below.refl _ _).alloc (Nat.le_refl _) _
    have HPA := Lib.hid (HPS3.out.below hba.drew)
    have HNA : Hid (NdAt (w3.alloc (.cells #[.int .i64 xt, .int .i64 xa, .int .i64 xb, .int .i64 xc, .int .i64 xd] 94)).drew w3.heap.size 0 ⟨xt, xa, xb, xc, xd⟩) := NdAt.mk (by simp [go_sem]) (by simp [go_sem]) (by simp [go_sem]) (by simp [go_sem]) (by simp [go_sem])
    have HBA := Lib.hid hba.drew
    have hbl : base ≤ (w3.alloc (.cells #[.int .i64 xt, .int .i64 xa, .int .i64 xb, .int .i64 xc, .int .i64 xd] 94)).drew.heap.size := Nat.le_trans HPS3.out.hb (Nat.le_of_lt HPA.out.lt)
    have hp3 := HPS3.out.lt
    have hpw : ¬ p = w3.heap.size := by omega
    have hpx : ¬ p = w.heap.size := by omega
    clear hba
    go_wp2_with fail
    go_region_law ((refine step_append_node hi hz0 hz1 hz2 (by rfl) _ _ (by rfl) base _ l ⟨xt, xa, xb, xc, xd⟩ _ w3.heap.size HPA.out.own (by rfl) (by rfl) HNA.out (by omega) hbl ?_; intro g cap w4 hown4 hg4 hlies; have c2 := hg4.cell HPA.out.c0 (fun e => HPA.out.ne e.symm); have f2 := (World.frozen?_of_block (a := ⟨p, 0, none⟩) (hg4.block p HPA.out.lt (fun e => HPA.out.ne e.symm))).trans HPA.out.f0))
    all_goals
      have HW4 := Lib.hid hown4
      have HG4 := Lib.hid hg4
      have HL4 := Lib.hid hlies
      clear hown4 hg4 hlies
      go_wp2
      go_ret
      have HPU := HPA.out.push (m := m) HW4.out HG4.out HL4.out
      have hmA : m < (w3.alloc (.cells #[.int .i64 xt, .int .i64 xa, .int .i64 xb, .int .i64 xc, .int .i64 xd] 94)).drew.heap.size := Nat.lt_of_lt_of_le HM3.out.lt HBA.out.size
      have hmr : some m ≠ (Value.slice A l.length c).ownBlock := fun e => HNR.out e.symm
      refine ⟨rfl, .slice (some ⟨g, 0, none⟩) (l.length + 1) cap, ⟨HPU.1, ?_, ?_, HHM.out, fun e => hpm e.symm, ?_⟩, HPG3.out.trans ((PG.below HBA.out).trans HPU.2)⟩
      · have h1 := (HBA.out.cell (p := ⟨p, 1, none⟩) HPS3.out.lt).trans HC1.out
        exact (World.cell?_setCell_other _ _ _ _ (by simp)).trans (HG4.out.cell h1 (fun e => HPA.out.ne e.symm))
      · refine MapI.fits ?_ (fun z => (find_snoc HFI.out z).symm)
        have h1 := HM3.out.keep ((heap_setCell_other w4 ⟨p, 0, none⟩ m (.slice (some ⟨g, 0, none⟩) (l.length + 1) cap) (fun e => hpm e.symm)).trans ((HG4.out.block m hmA hmr).trans (HBA.out.block m HM3.out.lt)))
        simpa using h1
      · rcases HL4.out with h1 | h1
        · intro e; exact HNR.out (by rw [h1]; simpa [Value.ownBlock] using e)
        · intro e; simp [Value.ownBlock] at e; omega
end Go.Proofs.Ytphkceiafehidaa
