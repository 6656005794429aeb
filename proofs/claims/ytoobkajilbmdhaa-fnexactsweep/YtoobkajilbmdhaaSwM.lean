/- The model's Sweep. -/
import Derived.Test.YtoobkajilbmdhaaSwZ
import Derived.Test.YtoobkajilbmdhaaSwN
import Derived.Test.YtoobkajilbmdhaaWtM
import Derived.Test.YtoobkajilbmdhaaPutMm
import Derived.Test.YtoobkajilbmdhaaItems
import Derived.BigRegion
import Derived.Deep.RegionWith
import Derived.Deep.CutRange
namespace Go.Proofs.Ytoobkajilbmdhaa
open Go.RowKit
set_option linter.unusedVariables false
set_option linter.unusedSimpArgs false

theorem Zw.step {w : World} {A : Option Addr} {c : Nat} {l : List Nd} {B : Option Addr} {rs : List Int} {b : Nat} {wr wr' : World} (h : Zw w A c l B rs wr) (hb : Below b wr wr') (hB : w.heap.size + 1 < b) : Zw w A c l B rs wr' := by
  refine ⟨⟨(hb.cell (p := ⟨w.heap.size, 0, none⟩) (show w.heap.size < b by omega)).trans h.p.c0, h.p.ri.below (hb.mono (by omega)), h.p.bel.trans (hb.mono (by omega)), Nat.lt_of_lt_of_le h.p.siz hb.size⟩, h.z.below hb hB, h.ri.below (hb.mono (by omega)), Nat.lt_of_lt_of_le h.siz hb.size⟩
theorem grown_below {w w' : World} {g : Nat} (h : w.grownBy w' (some g)) (hg : g ≤ w.heap.size) : Below g w w' := (Below.refl g w).grown h hg (fun k hk => by cases hk; exact Nat.le_refl _)

theorem S3.set0 {w : World} {b : Nat} {v v' : Value} {code : Int} (h : S3 w b v v' code) (u : Value) : S3 (w.setCell ⟨b, 0, none⟩ u) b u v' code :=
  ⟨World.cell?_setCell_same _ _ _ h.c0, (World.cell?_setCell_other _ _ _ _ (by simp)).trans h.c1, (World.cell?_setCell_other _ _ _ _ (by simp)).trans h.c2, by simpa using h.f0, by simpa using h.f1, by simpa using h.f2⟩
theorem S3.far {w : World} {b : Nat} {v v' : Value} {code : Int} (h : S3 w b v v' code) {p : Addr} (hp : p.block ≠ b) (u : Value) : S3 (w.setCell p u) b v v' code := by
  have hc : ∀ o, (w.setCell p u).cell? ⟨b, o, none⟩ = w.cell? ⟨b, o, none⟩ := fun o => World.cell?_setCell_other _ _ _ _ (by rintro rfl; exact hp rfl)
  exact ⟨(hc 0).trans h.c0, (hc 1).trans h.c1, (hc 2).trans h.c2, by simpa using h.f0, by simpa using h.f1, by simpa using h.f2⟩
/-- While the model sweeps: the answer's box, its nodes, the new numbers. -/
structure Mw (w4 : World) (m : Nat) (A3 : Option Addr) (c3 : Nat) (wr : World) (u : List Nd) (T : List Int) : Prop where
  z : S3 wr w4.heap.size (.slice A3 u.length c3) (.slice none 0 0) 0
  own : OwnN wr (w4.heap.size + 1 + 1) (.slice A3 u.length c3) u
  nm : OwnI 2 .i64 wr (w4.heap.size + 1) (.slice (some ⟨w4.heap.size + 1, 0, none⟩) m m) T
  bel : Below w4.heap.size w4 wr
  lt : w4.heap.size + 1 < wr.heap.size
section
variable {w4 : World} {m : Nat} {A3 : Option Addr} {c3 : Nat} {wr wr' : World} {u : List Nd} {T : List Int}
theorem Mw.keep (h : Mw w4 m A3 c3 wr u T) (hb : Below wr.heap.size wr wr') : Mw w4 m A3 c3 wr' u T :=
  ⟨h.z.below hb (by have := h.lt; omega), h.own.keep hb, h.nm.keep hb, h.bel.trans (hb.mono h.bel.size), Nat.lt_of_lt_of_le h.lt hb.size⟩
theorem Mw.num (h : Mw w4 m A3 c3 wr u T) (k : Nat) (v : Int) : Mw w4 m A3 c3 (wr.setCell ⟨w4.heap.size + 1, k, none⟩ (.int .i64 v)) u (T.set k v) :=
  ⟨h.z.far (by show w4.heap.size + 1 ≠ _; omega) _, OwnN.set_below (by show w4.heap.size + 1 < _; omega) _ h.own, (h.nm.store v).1, h.bel.setCell (by show w4.heap.size ≤ w4.heap.size + 1; omega) _, by simpa [World.setCell] using h.lt⟩
theorem Mw.grown (h : Mw w4 m A3 c3 wr u T) (hg : wr.grownBy wr' (Value.slice A3 u.length c3).ownBlock) : Below (w4.heap.size + 1 + 1) wr wr' :=
  (Below.refl _ _).grown hg (by have := h.lt; omega) (fun k hk => (h.own.lt k hk).1)
theorem Mw.push {A' : Option Addr} {c' n : Nat} {x : Nd} (h : Mw w4 m A3 c3 wr u T) (ho : OwnN wr' (w4.heap.size + 1 + 1) (.slice A' n c') (u ++ [x])) (hg : wr.grownBy wr' (Value.slice A3 u.length c3).ownBlock) : Mw w4 m A' c' (wr'.setCell ⟨w4.heap.size, 0, none⟩ (.slice A' n c')) (u ++ [x]) T := by
  have hn := ho.len
  subst hn
  have hb := h.grown hg
  refine ⟨(h.z.below hb (by omega)).set0 _, OwnN.set_below (by show w4.heap.size < _; omega) _ ho, OwnI.set_below (by show w4.heap.size < _; omega) _ (World.ownsRow.kept h.nm hg (.inr fun e => ?_)), (h.bel.trans (hb.mono (by omega))).setCell (Nat.le_refl _) _, ?_⟩
  · have h1 : (Value.slice A3 u.length c3).ownBlock = some (w4.heap.size + 1) := e.symm
    have := (h.own.lt _ h1).1
    omega
  · have := hb.size
    have := h.lt
    simp [World.setCell]
    omega
end

set_option maxRecDepth 100000 in
set_option maxHeartbeats 8000000 in
theorem mSweep_any (A : Option Addr) (c : Nat) (l : List Nd) (B : Option Addr) (cb : Nat) (rs : List Int) (w : World) (h : RN w w.heap.size A l) (h' : RI w w.heap.size B rs) (hl : l.length ≤ 1000000000) (hrl : rs.length ≤ 1000000000) :
    Calls Try.prog 20 #[.agg #[.slice A l.length c], .slice B rs.length cb] w (SOut w (sweepO l rs)) := by
  have HZ0 := Lib.hid (Zw.made w A c l B rs h h')
  have hPR := fun w h => mPoolRight_any A c l w h hl
  clear h h'
  by_cases h4 : 400 < rs.length
  · have HE : Hid (sweepO l rs = (2, [], [])) := by show _ = _; rw [sweepO, if_pos h4]
    have hd : decide ((400 : Int) < (rs.length : Int)) = true := decide_eq_true (by omega)
    obtain ⟨c0, c1, c2, f0, f1, f2⟩ := HZ0.out.z
    clear hPR h4
    go_enter Try.func20, Try.ntmps20
    go_wp2
    refine bodyPost_ret (v := .agg #[.slice none 0 0, .slice none 0 0, .int .i64 2]) (by simp [results, Try.results20, go_sem, c0, c1, c2]) rfl ?_
    rw [HE.out]
    exact ⟨none, 0, none, 0, rfl, OwnN.nil _ _, OwnI.nil _ _ _ _, (fun k e => by cases e), ((Below.refl _ _).alloc (Nat.le_refl _) _).alloc (by simp) _⟩
  · have hd : decide ((400 : Int) < (rs.length : Int)) = false := decide_eq_false (by omega)
    cases hr : poolRight l
    · rw [hr] at hPR
      have HE : Hid (sweepO l rs = (1, [], [])) := by show _ = _; rw [sweepO, if_neg h4, hr]; rfl
      clear h4 hr
      go_enter Try.func20, Try.ntmps20
      go_wp2_with fail
      refine (hPR _ HZ0.out.p.rn).mono ?_
      rintro e w1 ⟨rfl, hb1⟩
      have HZ1 := Lib.hid (HZ0.out.below hb1)
      obtain ⟨c0, c1, c2, f0, f1, f2⟩ := HZ1.out.z
      clear hb1
      go_wp2
      refine bodyPost_ret (v := .agg #[.slice none 0 0, .slice none 0 0, .int .i64 1]) (by simp [results, Try.results20, go_sem, c0, c1, c2]) rfl ?_
      rw [HE.out]
      exact ⟨none, 0, none, 0, rfl, OwnN.nil _ _, OwnI.nil _ _ _ _, (fun k e => by cases e), ((HZ1.out.p.bel.setCell (by simp) _).setCell (by simp) _).setCell (by simp) _⟩
    · rw [hr] at hPR
      by_cases h14 : 14 < rs.length
      · have HE : Hid (sweepO l rs = (1, [], [])) := by
          show _ = _
          rw [sweepO, if_neg h4, hr, decide_eq_false (show ¬ rs.length ≤ 14 by omega)]
          rfl
        have hd2 : decide ((14 : Int) < (rs.length : Int)) = true := decide_eq_true (by omega)
        clear h4 hr h14
        go_enter Try.func20, Try.ntmps20
        go_wp2_with fail
        refine (hPR _ HZ0.out.p.rn).mono ?_
        rintro e w1 ⟨rfl, hb1⟩
        have HZ1 := Lib.hid (HZ0.out.below hb1)
        obtain ⟨c0, c1, c2, f0, f1, f2⟩ := HZ1.out.z
        clear hb1
        go_wp2
        refine bodyPost_ret (v := .agg #[.slice none 0 0, .slice none 0 0, .int .i64 1]) (by simp [results, Try.results20, go_sem, c0, c1, c2]) rfl ?_
        rw [HE.out]
        exact ⟨none, 0, none, 0, rfl, OwnN.nil _ _, OwnI.nil _ _ _ _, (fun k e => by cases e), ((HZ1.out.p.bel.setCell (by simp) _).setCell (by simp) _).setCell (by simp) _⟩
      · have hd2 : decide ((14 : Int) < (rs.length : Int)) = false := decide_eq_false (by omega)
        have HS6 : Hid (rs.all (fun r => thereN l.length r) = false → sweepO l rs = (6, [], [])) := by
          show _ → _
          intro ha
          rw [sweepO, if_neg h4, hr, decide_eq_true (show rs.length ≤ 14 by omega), ha]
          rfl
        have HS0 : Hid (rs.all (fun r => thereN l.length r) = true → sweepO l rs = (0, (sweepTo l (needA l (rs.map Int.toNat)) l.length).1, rs.map fun r => (sweepTo l (needA l (rs.map Int.toNat)) l.length).2.getD r.toNat 0)) := by
          show _ → _
          intro ha
          rw [sweepO, if_neg h4, hr, decide_eq_true (show rs.length ≤ 14 by omega), ha]
          rfl
        have HR := Lib.hid hr
        have h200 := pool_len hr
        have hTh := fun x w => mThere_any A l.length c x w hl
        have hr14 : rs.length ≤ 14 := by omega
        obtain ⟨ib, hi, hz0, hz1, hz2⟩ := info_parts Try.infoBool
        clear h4 hr h14
        go_enter Try.func20, Try.ntmps20
        go_wp2_with fail
        refine (hPR _ HZ0.out.p.rn).mono ?_
        rintro e w1 ⟨rfl, hb1⟩
        have HZ1 := Lib.hid (HZ0.out.below hb1)
        have p0 := HZ1.out.p.c0
        clear hb1 HZ0 hPR
        go_wp2_with (at_make; refine wpList_make_full _ rfl _ _ 60 rfl w1.heap.size 4 ib (.bool false) 1 Try.underlying60 hi hz0 hz1 .i64 .i64 _ _ l.length rfl rfl (by go_num) (by go_num) ?b2 ?b3 (Nat.le_refl _) ?_)
        case b2 => rw [hz2]; omega
        case b3 => unfold maxLen; omega
        intro w2 hown2 hgrow2
        have hb2 : Below w1.heap.size w1 w2 := (Below.refl _ _).grown hgrow2 (Nat.le_refl _) (fun k hk => by cases hk)
        have HO2 := Lib.hid (own_falses hown2)
        have HZ2 := Lib.hid (HZ1.out.below hb2)
        have hg2 : w1.heap.size < w2.heap.size := (World.ownsRow.lt hown2 _ rfl).2
        have hz1w := HZ1.out.siz
        clear hown2 hgrow2 hb2 p0 HZ1
        generalize w1.heap.size = g1 at *
        go_wp2
        go_loopw [6] (fun i wr => ∃ k : Nat, i = .int .i64 k ∧ k ≤ rs.length ∧ Hid ((rs.take k).all (fun r => thereN l.length r) = true) ∧ Hid (Below w2.heap.size w2 wr)) (fun i _ => rs.length - (intOf i).toNat)
        case atStart => exact ⟨0, rfl, Nat.zero_le _, by simp [Hid], Below.refl _ _⟩
        case round =>
          obtain ⟨k, rfl, hk, HA, HB⟩ := hrel
          have HZ := Lib.hid (HZ2.out.below HB.out)
          have p0 := HZ.out.p.c0
          by_cases hlt : k < rs.length
          · have hkI : (k : Int) < (rs.length : Int) := by omega
            obtain ⟨b, off, rfl, hbl, hcs⟩ := HZ.out.ri.at_ hlt
            have HSTEP : Hid (thereN l.length rs[k] = true → (rs.take (k + 1)).all (fun r => thereN l.length r) = true) := by
              show _ → _
              intro h
              rw [List.take_succ_eq_append_getElem hlt, List.all_append, HA.out]
              simp [h]
            have HBAD : Hid (thereN l.length rs[k] = false → rs.all (fun r => thereN l.length r) = false) := by
              show _ → _
              intro h
              rw [← Bool.not_eq_true]
              intro ha
              simp only [List.all_eq_true] at ha
              have := ha rs[k] (List.getElem_mem hlt)
              rw [h] at this
              cases this
            generalize rs[k] = x at *
            have hTx := hTh x wr.drew
            cases ht : thereN l.length x
            · rw [ht] at hTx
              have HE := Lib.hid (HS6.out (HBAD.out ht))
              clear ht hTh
              go_wp2_with fail
              go_region_with (go_at_call 31; refine hTx.mono ?_; rintro e w3 ⟨rfl, hb3⟩; have HZ3 := Lib.hid (HZ.out.below ((Below.refl _ _).drew.trans hb3)); obtain ⟨c0, c1, c2, f0, f1, f2⟩ := HZ3.out.z; clear hb3)
              all_goals first | go_wp2 | skip
              all_goals
                refine bodyPost_ret (v := .agg #[.slice none 0 0, .slice none 0 0, .int .i64 6]) (by simp [results, Try.results20, go_sem, c0, c1, c2]) rfl ?_
                rw [HE.out]
                exact ⟨none, 0, none, 0, rfl, OwnN.nil _ _, OwnI.nil _ _ _ _, (fun k e => by cases e), ((HZ3.out.p.bel.setCell (by simp) _).setCell (by simp) _).setCell (by simp) _⟩
            · rw [ht] at hTx
              have HS := Lib.hid (HSTEP.out ht)
              clear ht hTh
              go_wp2_with fail
              go_region_with (go_at_call 31; refine hTx.mono ?_; rintro e w3 ⟨rfl, hb3⟩; have HB3 := Lib.hid (HB.out.trans (((Below.refl wr.heap.size wr).drew.trans hb3).mono HB.out.size)); clear hb3)
              all_goals first | go_wp2 | skip
              all_goals
                go_roundw
                case rel => exact ⟨k + 1, by go_num, by omega, HS, HB3.out⟩
                case measure => simp [intOf]; omega
          · have hall : rs.all (fun r => thereN l.length r) = true := by
              have e : rs.take k = rs := List.take_of_length_le (by omega)
              have := HA.out
              rw [e] at this
              exact this
            have HE := Lib.hid (HS0.out hall)
            obtain ⟨hrn1, hrn2⟩ := all_there hall
            obtain ⟨rn, hrn⟩ : ∃ rn, rn = rs.map Int.toNat := ⟨_, rfl⟩
            rw [← hrn] at hrn1 hrn2 HE
            have HRL : Hid (rn.length = rs.length) := by show _ = _; rw [hrn]; simp
            have HRN1 := Lib.hid hrn1
            have HRN2 := Lib.hid hrn2
            have hkI : ¬ (k : Int) < (rs.length : Int) := by omega
            have HO3 := Lib.hid (HO2.out.keep HB.out)
            have hg3 : g1 < wr.heap.size := Nat.lt_of_lt_of_le hg2 HB.out.size
            have HBD : Hid (∀ x ∈ rs, 0 ≤ x ∧ x < (l.length : Int)) := by
              show ∀ x ∈ rs, _
              intro x hx
              simp only [List.all_eq_true] at hall
              have := hall x hx
              simp [thereN, inIs] at this
              omega
            clear hall hrn hrn1 hrn2 HS0 HS6 hTh HA HO2 HZ2 HB p0
            go_wp2
            generalize wr = w3 at *
            go_loopw [7] (fun i wr => ∃ k : Nat, i = .int .i64 k ∧ k ≤ rs.length ∧ OwnB wr g1 (.slice (some ⟨g1, 0, none⟩) l.length l.length) (needA l (rn.take k)) ∧ Zw w A c l B rs wr ∧ g1 < wr.heap.size) (fun i _ => rs.length - (intOf i).toNat)
            case atStart => exact ⟨0, rfl, Nat.zero_le _, by rw [List.take_zero, needA_nil HR.out]; exact HO3.out, HZ.out, hg3⟩
            case round =>
              obtain ⟨k, rfl, hk, how, hz, hg⟩ := hrel
              have HZ := Lib.hid hz
              have p0 := hz.p.c0
              clear HO3
              by_cases hlt : k < rs.length
              · have hkI : (k : Int) < (rs.length : Int) := by omega
                have hk' : k < rn.length := by rw [HRL.out]; exact hlt
                have ek : rs[k] = ((rn[k] : Nat) : Int) := (List.getElem_of_eq HRN1.out hlt).trans (List.getElem_map _)
                have hnode := HRN2.out rn[k] (List.getElem_mem hk')
                obtain ⟨b, off, rfl, hbl, hcs⟩ := hz.ri.at_ hlt
                rw [ek] at hcs
                have HTK : Hid (rn.take (k + 1) = rn.take k ++ [rn[k]]) := List.take_succ_eq_append_getElem hk'
                have hsub : ∀ r ∈ rn.take k, r < l.length := fun r hr => HRN2.out r (List.mem_of_mem_take hr)
                have HSUB := Lib.hid hsub
                generalize rn[k] = node at *
                have hMk := mMark_any l HR.out l.length A c g1 l.length g1 node (needA l (rn.take k)) wr.drew hnode hnode (needA_len l _) ((hz.p.ri.mono (by omega)).below (Below.refl _ _).drew) how
                have hbr : b < wr.heap.size := by have := hz.p.siz; omega
                clear ek hz how hsub
                go_wp2_with fail
                go_region_with (go_at_call 32; refine hMk.mono ?_; rintro e w5 ⟨rfl, M', hmp, how5, hg5⟩; have HO5 : Hid (OwnB w5 g1 (.slice (some ⟨g1, 0, none⟩) l.length l.length) (needA l (rn.take (k + 1)))) := (by show OwnB _ _ _ _; rw [HTK.out, ← mark_next HR.out HSUB.out hnode hmp]; exact how5); have HZ5 := Lib.hid (HZ.out.step ((Below.refl g1 wr).drew.trans (grown_below hg5 (Nat.le_of_lt hg))) hz1w); have hgs : g1 < w5.heap.size := Nat.lt_of_lt_of_le hg hg5.size; clear hmp how5 hg5)
                all_goals first | go_wp2 | skip
                all_goals
                  go_roundw
                  case rel => exact ⟨k + 1, by go_num, by omega, HO5.out, HZ5.out, hgs⟩
                  case measure => simp [intOf]; omega
              · have hkI : ¬ (k : Int) < (rs.length : Int) := by omega
                have HM4 : Hid (OwnB wr g1 (.slice (some ⟨g1, 0, none⟩) l.length l.length) (needA l rn)) := by
                  have e : rn.take k = rn := List.take_of_length_le (by rw [HRL.out]; omega)
                  rw [e] at how
                  exact how
                obtain ⟨j0, hji, hj0, hj1, hj2⟩ := info_parts Try.infoInt
                obtain ⟨n0, hni, hn0, hn1, hn2⟩ := info_parts Try.infoNode
                clear hz how
                generalize wr = w4 at *
                have hsz4 := HZ.out.siz
                have hw4 : w.heap.size < w4.heap.size := HZ.out.p.siz
                go_wp2_with (at_make; refine wpList_make_full _ rfl _ _ 33 rfl (w4.alloc (.cells #[.slice none 0 0, .slice none 0 0, .int .i64 0] 48)).heap.size 2 j0 (.int .i64 0) 1 Try.underlying33 hji hj0 hj1 .i64 .i64 _ _ l.length rfl rfl (by go_num) (by go_num) ?b5 ?b6 (Nat.le_refl _) ?_)
                case b5 => first | (rw [hj2]; omega) | omega
                case b6 => unfold maxLen; omega
                intro w6 hown6 hgrow6
                have HP6 : Hid (Mw w4 l.length none 0 w6 [] (List.replicate l.length 0)) := by
                  have ha : Below w4.heap.size w4 (w4.alloc (.cells #[.slice none 0 0, .slice none 0 0, .int .i64 0] 48)) := (Below.refl _ _).alloc (Nat.le_refl _) _
                  have hb : Below (w4.heap.size + 1) (w4.alloc (.cells #[.slice none 0 0, .slice none 0 0, .int .i64 0] 48)) w6 := by
                    have := (Below.refl (w4.alloc (.cells #[.slice none 0 0, .slice none 0 0, .int .i64 0] 48)).heap.size (w4.alloc (.cells #[.slice none 0 0, .slice none 0 0, .int .i64 0] 48))).grown hgrow6 (Nat.le_refl _) (fun k hk => by cases hk)
                    simpa using this
                  have hz := (S3.made w4 (.slice none 0 0) (.slice none 0 0) 0 48).below hb (Nat.lt_succ_self _)
                  have hlt6 := (World.ownsRow.lt hown6 _ rfl).2
                  simp only [alloc_size] at hown6 hlt6
                  have ho : OwnI 2 .i64 w6 (w4.heap.size + 1) (.slice (some ⟨w4.heap.size + 1, 0, none⟩) l.length l.length) (List.replicate l.length 0) := by
                    unfold OwnI
                    rw [toList_madeCells_one] at hown6
                    simpa using hown6
                  exact ⟨hz, OwnN.nil _ _, ho, ha.trans (hb.mono (Nat.le_succ _)), hlt6⟩
                clear hown6 hgrow6 p0
                go_wp2
                go_loopw [10] (fun i wr => ∃ (k : Nat) (A3 : Option Addr) (c3 : Nat), i = .int .i64 k ∧ k ≤ l.length ∧ Mw w4 l.length A3 c3 wr (sweepTo l (needA l rn) k).1 (sweepTo l (needA l rn) k).2) (fun i _ => l.length - (intOf i).toNat)
                case atStart => exact ⟨0, none, 0, rfl, Nat.zero_le _, HP6.out⟩
                case round =>
                  obtain ⟨k, A3, c3, rfl, hk, hp⟩ := hrel
                  have HP := Lib.hid hp
                  have HZR := Lib.hid (HZ.out.below hp.bel)
                  have p0 := HZR.out.p.c0
                  clear HP6
                  by_cases hlt : k < l.length
                  · have hkI2 : (k : Int) < (l.length : Int) := by omega
                    obtain ⟨b, off, rfl, hbl, hn⟩ := HZR.out.p.ri.at_ hlt
                    obtain ⟨g', e, _, _, cm0, _⟩ := (HM4.out.keep hp.bel).at_ (j := k) (by rw [needA_len]; exact hlt)
                    cases e
                    have HSK := Lib.hid (sweep_skip (l := l) (M := needA l rn) (k := k))
                    have HST := Lib.hid (sweep_take (l := l) (M := needA l rn) hlt)
                    have hml : k < (needA l rn).length := by rw [needA_len]; exact hlt
                    have HGD : Hid ((needA l rn).getD k false = (needA l rn)[k]'hml) := by show _ = _; simp [List.getD, hml]
                    have hul := (sweepTo_len l (needA l rn) k)
                    have hok := right_node HR.out hlt
                    have hlt2 := hp.lt
                    have hwz := HZR.out.siz
                    generalize (needA l rn)[k]'hml = mk at *
                    generalize hnk : l[k] = n at *
                    clear hnk hp
                    generalize hres : sweepTo l (needA l rn) k = RES at *
                    clear hres
                    obtain ⟨u, T⟩ := RES
                    simp only at HP hul HST HSK ⊢
                    have HTL := Lib.hid hul.2
                    have hu2 : u.length ≤ 200 := by omega
                    clear hul
                    have hS := mLeaf_any n
                    obtain ⟨nt, na, nb, nc, nd⟩ := n
                    unfold Nd.val at hS
                    obtain ⟨d0, d1, d2, d3, d4⟩ := hn
                    simp only at d0 d1 d2 d3 d4 hS
                    have HN0 := Lib.hid (N9.made wr nt na nb nc nd 73)
                    have HA0 : Hid (Below wr.heap.size wr (wr.alloc (.cells #[.int .i64 nt, .int .i64 na, .int .i64 nb, .int .i64 nc, .int .i64 nd] 73))) := (Below.refl _ _).alloc (Nat.le_refl _) _
                    have hgw : g1 < wr.heap.size := by omega
                    have hwr : w.heap.size < wr.heap.size := by omega
                    cases mk
                    · have HE2 : Hid (sweepTo l (needA l rn) (k + 1) = (u, T)) := HSK.out HGD.out
                      clear HST hok hS
                      go_wp2
                      go_roundw
                      case rel => exact ⟨k + 1, A3, c3, by go_num, by omega, by rw [HE2.out]; exact HP.out⟩
                      case measure => simp [intOf]; omega
                    · have HE2 := Lib.hid (HST.out HGD.out)
                      clear HSK HST
                      cases hlf : leafN (⟨nt, na, nb, nc, nd⟩ : Nd)
                      · rw [hlf] at hS
                        obtain ⟨q0, qa, qb, qc, qd⟩ := ok_split hok hlf
                        clear q0
                        simp only at qa qb qc qd
                        obtain ⟨ia, rfl⟩ := Int.eq_ofNat_of_zero_le qa.1
                        obtain ⟨ib', rfl⟩ := Int.eq_ofNat_of_zero_le qb.1
                        obtain ⟨ic, rfl⟩ := Int.eq_ofNat_of_zero_le qc.1
                        obtain ⟨id, rfl⟩ := Int.eq_ofNat_of_zero_le qd.1
                        have HX : Hid (newN T (⟨nt, (ia : Int), (ib' : Int), (ic : Int), (id : Int)⟩ : Nd) = ⟨-1, T.getD ia 0, T.getD ib' 0, T.getD ic 0, T.getD id 0⟩) := by show _ = _; rw [newN, if_neg (by rw [hlf]; decide)]; simp
                        clear hok hlf
                        go_wp2_with fail
                        refine (hS _).mono ?_
                        rintro e w7 ⟨rfl, hb7⟩
                        have HB7 := Lib.hid (HA0.out.trans (hb7.mono HA0.out.size))
                        have HP7 := Lib.hid (HP.out.keep HB7.out)
                        have HN7 := Lib.hid (HN0.out.below hb7 (by simp))
                        have hzw7 : wr.heap.size < w7.heap.size := by have := hb7.size; simp at this; omega
                        have hT : ∀ j, j < k → ∃ v, T.getD j 0 = v ∧ w7.cell? ⟨w4.heap.size + 1, j, none⟩ = some (.int .i64 v) := fun j hj => by
                          have hjT : j < T.length := by rw [HTL.out]; omega
                          obtain ⟨g9, e9, _, _, ct, _⟩ := HP7.out.nm.at_ hjT
                          cases e9
                          exact ⟨T[j], by simp [List.getD, hjT], ct⟩
                        obtain ⟨ta, hta, cta⟩ := hT ia (by omega)
                        obtain ⟨tb, htb, ctb⟩ := hT ib' (by omega)
                        obtain ⟨tc, htc, ctc⟩ := hT ic (by omega)
                        obtain ⟨td, htd, ctd⟩ := hT id (by omega)
                        rw [hta, htb, htc, htd] at HX
                        obtain ⟨x0, x1, x2, x3, x4, f0, f1, f2, f3, f4⟩ := HN7.out
                        have a0 : (0 : Int) ≤ (ia : Int) := by omega
                        have a1 : (ia : Int) < (l.length : Int) := by omega
                        have b0 : (0 : Int) ≤ (ib' : Int) := by omega
                        have b1 : (ib' : Int) < (l.length : Int) := by omega
                        have i0 : (0 : Int) ≤ (ic : Int) := by omega
                        have i1 : (ic : Int) < (l.length : Int) := by omega
                        have j0' : (0 : Int) ≤ (id : Int) := by omega
                        have j1' : (id : Int) < (l.length : Int) := by omega
                        have hne7 : ¬ w4.heap.size + 1 = wr.heap.size := by omega
                        clear hb7 d0 d1 d2 d3 d4 cm0 HN0 hT hta htb htc htd
                        have HW0 : Hid (∀ W0, W0 = (((((w7.setCell ⟨wr.heap.size, 0, none⟩ (.int .i64 (-1))).setCell ⟨wr.heap.size, 1, none⟩ (.int .i64 ta)).setCell ⟨wr.heap.size, 2, none⟩ (.int .i64 tb)).setCell ⟨wr.heap.size, 3, none⟩ (.int .i64 tc)).setCell ⟨wr.heap.size, 4, none⟩ (.int .i64 td)) → Mw w4 l.length A3 c3 W0.drew u T ∧ N9 W0.drew wr.heap.size ⟨-1, ta, tb, tc, td⟩ ∧ wr.heap.size < W0.drew.heap.size) := by
                          show ∀ W0, _
                          intro W0 hW0
                          have hb0 : Below wr.heap.size wr W0 := by rw [hW0]; exact ((((HB7.out.setCell (Nat.le_refl _) _).setCell (Nat.le_refl _) _).setCell (Nat.le_refl _) _).setCell (Nat.le_refl _) _).setCell (Nat.le_refl _) _
                          have hn0 : N9 W0 wr.heap.size ⟨-1, ta, tb, tc, td⟩ := by
                            rw [hW0]
                            exact ⟨by simp [go_sem, x0], by simp [go_sem, x1], by simp [go_sem, x2], by simp [go_sem, x3], by simp [go_sem, x4], by simpa using f0, by simpa using f1, by simpa using f2, by simpa using f3, by simpa using f4⟩
                          have hz0 : wr.heap.size < W0.heap.size := by rw [hW0]; simpa [World.setCell] using hzw7
                          have hd0 : Below W0.heap.size W0 W0.drew := (Below.refl _ _).drew
                          exact ⟨HP.out.keep (hb0.trans (hd0.mono (Nat.le_of_lt hz0))), hn0.below hd0 hz0, Nat.lt_of_lt_of_le hz0 hd0.size⟩
                        go_wp2_with fail
                        go_cut [82] from 62 to 117 (fun c wx => Mw w4 l.length A3 c3 wx u T ∧ N9 wx wr.heap.size ⟨-1, ta, tb, tc, td⟩ ∧ wr.heap.size < wx.heap.size)
                        case first => as_aux_lemma =>
                          go_region
                          go_wp2_with fail
                          go_meet
                          exact HW0.out _ rfl
                        case rest =>
                          obtain ⟨hm6, hn6, hz6⟩ := hcut
                          generalize wc = W6 at *
                          have HP2 := Lib.hid hm6
                          have HN6 := Lib.hid hn6
                          clear hm6 hn6 x0 x1 x2 x3 x4 f0 f1 f2 f3 f4 cta ctb ctc ctd HP7 HW0 a0 a1 b0 b1 i0 i1 j0' j1' HN7 HB7
                          obtain ⟨g9, e9, _, _, t0, tf⟩ := HP2.out.nm.at_ (j := k) (by rw [HTL.out]; exact hlt)
                          cases e9
                          obtain ⟨y0, y1, y2, v0, v1, v2⟩ := HP2.out.z
                          have HQ := Lib.hid (HP2.out.num k (u.length : Int))
                          have HPA := Lib.hid (HQ.out.keep ((Below.refl _ _).alloc (Nat.le_refl _) (.cells #[.int .i64 (-1), .int .i64 ta, .int .i64 tb, .int .i64 tc, .int .i64 td] 73)))
                          obtain ⟨x0, x1, x2, x3, x4, _, _, _, _, _⟩ := HN6.out
                          have HCL : Hid (∀ j (hj : j < [(⟨(-1), ta, tb, tc, td⟩ : Nd)].length), NdAt ((W6.setCell ⟨w4.heap.size + 1, k, none⟩ (.int .i64 (u.length : Int))).alloc (.cells #[.int .i64 (-1), .int .i64 ta, .int .i64 tb, .int .i64 tc, .int .i64 td] 73)) W6.heap.size (0 + j * 5) [(⟨(-1), ta, tb, tc, td⟩ : Nd)][j]) := by
                            show ∀ j (hj : j < _), _
                            intro j hj
                            obtain rfl : j = 0 := by simpa using hj
                            have := N9.made (W6.setCell ⟨w4.heap.size + 1, k, none⟩ (.int .i64 (u.length : Int))) (-1) ta tb tc td 73
                            have e : (W6.setCell ⟨w4.heap.size + 1, k, none⟩ (.int .i64 (u.length : Int))).heap.size = W6.heap.size := by simp [World.setCell]
                            rw [e] at this
                            exact ⟨this.c0, this.c1, this.c2, this.c3, this.c4⟩
                          have hwn : ¬ wr.heap.size = w4.heap.size + 1 := by omega
                          have hwn2 : ¬ wr.heap.size = w4.heap.size := by omega
                          have hwn3 : w4.heap.size < W6.heap.size := by omega
                          clear HP2
                          go_wp2_with (at_builtin; refine append_nodes hni hn0 hn1 hn2 rfl _ _ rfl (w4.heap.size + 1 + 1) _ u [(⟨(-1), ta, tb, tc, td⟩ : Nd)] _ W6.heap.size 0 1 HPA.out.own rfl rfl HCL.out (by simp <;> omega) (by simp <;> omega) ?_; intro v3 w9 hown9 hg9; obtain ⟨A9, c9, rfl⟩ := hown9.form; obtain ⟨s0, s1, s2, s3, s4, s5⟩ := HPA.out.z.below (HPA.out.grown hg9) (by omega))
                          have hp9 := HPA.out.push hown9 hg9
                          simp only [List.length_append, List.length_singleton] at hp9
                          have HP3 := Lib.hid hp9
                          clear hown9 hg9 hp9 s0 s1 s2 s3 s4 s5
                          go_roundw
                          case rel => exact ⟨k + 1, A9, c9, by go_num, by omega, by rw [HE2.out, HX.out]; exact HP3.out⟩
                          case measure => simp [intOf]; omega
                      · rw [hlf] at hS
                        have HX : Hid (newN T (⟨nt, na, nb, nc, nd⟩ : Nd) = ⟨nt, na, nb, nc, nd⟩) := by show _ = _; rw [newN, if_pos hlf]
                        clear hok hlf
                        go_wp2_with fail
                        refine (hS _).mono ?_
                        rintro e w7 ⟨rfl, hb7⟩
                        have HP2 := Lib.hid (HP.out.keep (HA0.out.trans (hb7.mono HA0.out.size)))
                        have HN2 := Lib.hid (HN0.out.below hb7 (by simp))
                        have hzw7 : wr.heap.size < w7.heap.size := by have := hb7.size; simp at this; omega
                        clear hb7 d0 d1 d2 d3 d4 cm0 HN0
                        obtain ⟨g9, e9, _, _, t0, tf⟩ := HP2.out.nm.at_ (j := k) (by rw [HTL.out]; exact hlt)
                        cases e9
                        obtain ⟨y0, y1, y2, v0, v1, v2⟩ := HP2.out.z
                        have HQ := Lib.hid (HP2.out.num k (u.length : Int))
                        have HPA := Lib.hid (HQ.out.keep ((Below.refl _ _).alloc (Nat.le_refl _) (.cells #[.int .i64 nt, .int .i64 na, .int .i64 nb, .int .i64 nc, .int .i64 nd] 73)))
                        obtain ⟨x0, x1, x2, x3, x4, _, _, _, _, _⟩ := HN2.out
                        have HCL : Hid (∀ j (hj : j < [(⟨nt, na, nb, nc, nd⟩ : Nd)].length), NdAt ((w7.setCell ⟨w4.heap.size + 1, k, none⟩ (.int .i64 (u.length : Int))).alloc (.cells #[.int .i64 nt, .int .i64 na, .int .i64 nb, .int .i64 nc, .int .i64 nd] 73)) w7.heap.size (0 + j * 5) [(⟨nt, na, nb, nc, nd⟩ : Nd)][j]) := by
                          show ∀ j (hj : j < _), _
                          intro j hj
                          obtain rfl : j = 0 := by simpa using hj
                          have := N9.made (w7.setCell ⟨w4.heap.size + 1, k, none⟩ (.int .i64 (u.length : Int))) nt na nb nc nd 73
                          have e : (w7.setCell ⟨w4.heap.size + 1, k, none⟩ (.int .i64 (u.length : Int))).heap.size = w7.heap.size := by simp [World.setCell]
                          rw [e] at this
                          exact ⟨this.c0, this.c1, this.c2, this.c3, this.c4⟩
                        have hwn : ¬ wr.heap.size = w4.heap.size + 1 := by omega
                        have hwn2 : ¬ wr.heap.size = w4.heap.size := by omega
                        have hwn3 : w4.heap.size < w7.heap.size := by omega
                        clear HP2
                        go_wp2_with (at_builtin; refine append_nodes hni hn0 hn1 hn2 rfl _ _ rfl (w4.heap.size + 1 + 1) _ u [(⟨nt, na, nb, nc, nd⟩ : Nd)] _ w7.heap.size 0 1 HPA.out.own rfl rfl HCL.out (by simp <;> omega) (by simp <;> omega) ?_; intro v3 w9 hown9 hg9; obtain ⟨A9, c9, rfl⟩ := hown9.form; obtain ⟨s0, s1, s2, s3, s4, s5⟩ := HPA.out.z.below (HPA.out.grown hg9) (by omega))
                        have hp9 := HPA.out.push hown9 hg9
                        simp only [List.length_append, List.length_singleton] at hp9
                        have HP3 := Lib.hid hp9
                        clear hown9 hg9 hp9 s0 s1 s2 s3 s4 s5
                        go_roundw
                        case rel => exact ⟨k + 1, A9, c9, by go_num, by omega, by rw [HE2.out, HX.out]; exact HP3.out⟩
                        case measure => simp [intOf]; omega
                  · obtain rfl : k = l.length := by omega
                    generalize hres : sweepTo l (needA l rn) l.length = RES at *
                    obtain ⟨u, T⟩ := RES
                    have HTL : Hid (T.length = l.length) := by have := (sweepTo_len l (needA l rn) l.length).2; rw [hres] at this; exact this
                    simp only at HP HE
                    have hlt2 := hp.lt
                    have hwz := HZ.out.siz
                    clear hres hp
                    have hkI2 : ¬ ((l.length : Nat) : Int) < (l.length : Int) := by omega
                    go_wp2
                    generalize wr = w7 at *
                    go_loopw [12] (fun i wr => ∃ (k : Nat) (A2 : Option Addr) (c2 : Nat) (R : List Int), i = .int .i64 k ∧ k ≤ rs.length ∧ S3 wr w4.heap.size (.slice A3 u.length c3) (.slice A2 R.length c2) 0 ∧ OwnI 2 .i64 wr w7.heap.size (.slice A2 R.length c2) R ∧ Below w4.heap.size w7 wr ∧ Hid (∀ b, b < w7.heap.size → b ≠ w4.heap.size → wr.heap[b]? = w7.heap[b]?) ∧ w7.heap.size ≤ wr.heap.size ∧ Hid (R = (rs.take k).map fun r => T.getD r.toNat 0)) (fun i _ => rs.length - (intOf i).toNat)
                    case atStart => exact ⟨0, none, 0, [], rfl, Nat.zero_le _, HP.out.z, OwnI.nil _ _ _ _, Below.refl _ _, fun _ _ _ => rfl, Nat.le_refl _, rfl⟩
                    case round =>
                      obtain ⟨k2, A2, c2, R, rfl, hk2, hs3, how, hb, HK, hz, HRR⟩ := hrel
                      have HO := Lib.hid how
                      have HB := Lib.hid hb
                      have HS := Lib.hid hs3
                      have HZ7 := Lib.hid (HZR.out.step hb hwz)
                      obtain ⟨y0, y1, y2, e0, e1, e2⟩ := hs3
                      by_cases hlt9 : k2 < rs.length
                      · have hkI3 : (k2 : Int) < (rs.length : Int) := by omega
                        have hbd := HBD.out rs[k2] (List.getElem_mem hlt9)
                        obtain ⟨b, off, rfl, hbl, hcs⟩ := HZ7.out.ri.at_ hlt9
                        have HNX : Hid ((rs.take (k2 + 1)).map (fun r => T.getD r.toNat 0) = R ++ [T.getD rs[k2].toNat 0]) := by
                          show _ = _
                          rw [List.take_succ_eq_append_getElem hlt9, List.map_append, ← HRR.out]
                          rfl
                        generalize rs[k2] = x at *
                        obtain ⟨r, rfl⟩ := Int.eq_ofNat_of_zero_le hbd.1
                        have hrT : r < T.length := by rw [HTL.out]; omega
                        obtain ⟨g9, e9, _, _, ct7, _⟩ := HP.out.nm.at_ hrT
                        cases e9
                        have ct := (World.cell?_of_block (a := ⟨w4.heap.size + 1, r, none⟩) (HK.out (w4.heap.size + 1) hlt2 (by omega))).trans ct7
                        have hv : T.getD (r : Int).toNat 0 = T[r] := by simp [List.getD, hrT]
                        rw [hv] at HNX
                        generalize T[r] = v at *
                        have hRl : R.length ≤ 14 := by rw [HRR.out, List.length_map, List.length_take]; omega
                        have q0 : (0 : Int) ≤ (r : Int) := by omega
                        have q1 : (r : Int) < (l.length : Int) := hbd.2
                        have hw3r : w4.heap.size + 1 < wr.heap.size := by omega
                        have hbr : b < wr.heap.size := by have := HZ7.out.p.siz; omega
                        have HA := Lib.hid (how.alloc (.cells #[.int .i64 v] 2)).drew
                        have HX : Hid (∀ j (h : j < [v].length), (wr.alloc (.cells #[.int .i64 v] 2)).drew.cell? ⟨wr.heap.size, 0 + j, none⟩ = some (.int .i64 [v][j])) := by
                          show ∀ j (h : j < [v].length), _
                          intro j hj
                          obtain rfl : j = 0 := by simpa using hj
                          simp [go_sem]
                        have hab : Below wr.heap.size wr (wr.alloc (.cells #[.int .i64 v] 2)).drew := ((Below.refl _ _).alloc (Nat.le_refl _) _).drew
                        have HAB := Lib.hid hab
                        have HS3 := Lib.hid (HS.out.below hab (by omega))
                        obtain ⟨g0, g1', g2, g3, g4, g5⟩ := HS3.out
                        have hnw : ¬ w4.heap.size = wr.heap.size := by omega
                        clear hab how hb hv hbd ct7
                        go_wp2_with fail
                        go_region_law ((refine step_append_ints Try.underlying33 hji hj0 hj1 hj2 (by decide) (by rfl) _ _ (by rfl) w7.heap.size _ _ [v] _ wr.heap.size 0 1 HA.out (by rfl) (by rfl) HX.out (Nat.zero_lt_one) (by simp <;> omega) (by simp <;> omega) ?_; intro g cap w6' hown6 hb6; obtain ⟨p0', p1', p2', q0', q1', q2'⟩ := HS3.out.below hb6 (by omega)))
                        all_goals
                          have HS6 := Lib.hid ((HS3.out.below hb6 (by omega)).set1 (.slice (some ⟨g, 0, none⟩) (R.length + [v].length) cap))
                          have HO6 := Lib.hid (OwnI.set_below (a := ⟨w4.heap.size, 1, none⟩) (by show w4.heap.size < _; omega) (.slice (some ⟨g, 0, none⟩) (R.length + [v].length) cap) hown6)
                          have HB6 := Lib.hid ((HB.out.trans ((HAB.out.mono (by omega)).trans (hb6.mono (by omega)))).setCell (p := ⟨w4.heap.size, 1, none⟩) (Nat.le_refl _) (.slice (some ⟨g, 0, none⟩) (R.length + [v].length) cap))
                          have HK6 : Hid (∀ b, b < w7.heap.size → b ≠ w4.heap.size → (w6'.setCell ⟨w4.heap.size, 1, none⟩ (.slice (some ⟨g, 0, none⟩) (R.length + [v].length) cap)).heap[b]? = w7.heap[b]?) := by
                            show ∀ b, _
                            intro b9 h1 h2
                            exact (heap_setCell_other _ _ _ _ (fun e => h2 (by rw [e]))).trans ((hb6.block b9 h1).trans ((HAB.out.block b9 (by omega)).trans (HK.out b9 h1 h2)))
                          have hz6 : w7.heap.size ≤ w6'.heap.size := by have := hb6.size; simp at this; omega
                          clear hown6 hb6 y0 y1 y2 e0 e1 e2 g0 g1' g2 g3 g4 g5
                          go_wp2
                          go_roundw
                          case rel =>
                            refine ⟨k2 + 1, some ⟨g, 0, none⟩, cap, R ++ [v], by go_num, by omega, ?_, ?_, HB6.out, HK6, by simpa [World.setCell] using hz6, ?_⟩
                            · rw [List.length_append]; exact HS6.out
                            · rw [List.length_append]; exact HO6.out
                            · show _ = _
                              rw [HNX.out]
                          case measure => simp [intOf]; omega
                      · have hkI3 : ¬ (k2 : Int) < (rs.length : Int) := by omega
                        have HRE : Hid (R = rs.map fun r => T.getD r.toNat 0) := by
                          have e : rs.take k2 = rs := List.take_of_length_le (by omega)
                          have := HRR.out
                          rw [e] at this
                          exact this
                        obtain ⟨c0, c1', c2', f0, f1, f2⟩ := HZ7.out.z
                        have hnn : OwnN wr (w4.heap.size + 1 + 1) (.slice A3 u.length c3) u := ownsRow_at HP.out.own (lo := w4.heap.size + 1 + 1) (hi := w7.heap.size) HP.out.own.lt (fun k h1 h2 => HK.out k h2 (by omega))
                        have HN := Lib.hid hnn
                        have HLT := Lib.hid HP.out.own.lt
                        have HLI := Lib.hid (World.ownsRow.lt how)
                        clear how hb hnn
                        go_wp2
                        refine bodyPost_ret (v := .agg #[.slice A3 u.length c3, .slice A2 R.length c2, .int .i64 0]) (by simp [results, Try.results20, go_sem, c0, c1', c2']) rfl ?_
                        rw [HE.out, ← HRE.out]
                        refine ⟨A3, c3, A2, c2, rfl, ?_, ?_, fun k9 e9 e8 => ?_, ((HZ7.out.p.bel.setCell (by simp) _).setCell (by simp) _).setCell (by simp) _⟩
                        · exact OwnN.lower (base := w4.heap.size + 1 + 1) (by omega) (OwnN.set_below (by show w.heap.size + 1 < _; omega) _ (OwnN.set_below (by show w.heap.size + 1 < _; omega) _ (OwnN.set_below (by show w.heap.size + 1 < _; omega) _ HN.out)))
                        · exact OwnI.lower (base := w7.heap.size) (by omega) (OwnI.set_below (by show w.heap.size + 1 < _; omega) _ (OwnI.set_below (by show w.heap.size + 1 < _; omega) _ (OwnI.set_below (by show w.heap.size + 1 < _; omega) _ HO.out)))
                        · have i1 := (HLT.out k9 e9).2
                          have i2 := (HLI.out k9 e8).1
                          omega
end Go.Proofs.Ytoobkajilbmdhaa
