/- The program's swept. -/
import Derived.Test.YtoobkajilbmdhaaSwN
import Derived.Test.YtoobkajilbmdhaaPgH
import Derived.Test.YtoobkajilbmdhaaBools
import Derived.Test.YtoobkajilbmdhaaInts
import Derived.Test.YtoobkajilbmdhaaPutMm
import Derived.Test.YtoobkajilbmdhaaPgU
import Derived.BigRegion
import Derived.Deep.CutRange
namespace Go.Proofs.Ytoobkajilbmdhaa
open Go.RowKit
set_option linter.unusedVariables false
set_option linter.unusedSimpArgs false

/-- Block b holds four numbers. -/
structure Q4 (w : World) (b : Nat) (x0 x1 x2 x3 : Int) : Prop where
  c0 : w.cell? ⟨b, 0, none⟩ = some (.int .i64 x0)
  c1 : w.cell? ⟨b, 1, none⟩ = some (.int .i64 x1)
  c2 : w.cell? ⟨b, 2, none⟩ = some (.int .i64 x2)
  c3 : w.cell? ⟨b, 3, none⟩ = some (.int .i64 x3)
  f0 : w.frozen? ⟨b, 0, none⟩ = false
  f1 : w.frozen? ⟨b, 1, none⟩ = false
  f2 : w.frozen? ⟨b, 2, none⟩ = false
  f3 : w.frozen? ⟨b, 3, none⟩ = false
theorem Q4.below {w w' : World} {b B : Nat} {x0 x1 x2 x3 : Int} (h : Q4 w b x0 x1 x2 x3) (hb : Below B w w') (hB : b < B) : Q4 w' b x0 x1 x2 x3 :=
  ⟨(hb.cell (p := ⟨b, 0, none⟩) hB).trans h.c0, (hb.cell (p := ⟨b, 1, none⟩) hB).trans h.c1, (hb.cell (p := ⟨b, 2, none⟩) hB).trans h.c2, (hb.cell (p := ⟨b, 3, none⟩) hB).trans h.c3,
    (hb.frozen (p := ⟨b, 0, none⟩) hB).trans h.f0, (hb.frozen (p := ⟨b, 1, none⟩) hB).trans h.f1, (hb.frozen (p := ⟨b, 2, none⟩) hB).trans h.f2, (hb.frozen (p := ⟨b, 3, none⟩) hB).trans h.f3⟩
theorem Q4.made (w : World) (ty : TypeId) : Q4 (w.alloc (.cells #[.int .i64 0, .int .i64 0, .int .i64 0, .int .i64 0] ty)) w.heap.size 0 0 0 0 :=
  ⟨by simp [go_sem], by simp [go_sem], by simp [go_sem], by simp [go_sem], by simp [go_sem], by simp [go_sem], by simp [go_sem], by simp [go_sem]⟩
theorem Q4.set0 {w : World} {b : Nat} {x0 x1 x2 x3 : Int} (h : Q4 w b x0 x1 x2 x3) (v : Int) : Q4 (w.setCell ⟨b, 0, none⟩ (.int .i64 v)) b v x1 x2 x3 :=
  ⟨World.cell?_setCell_same _ _ _ h.c0, (World.cell?_setCell_other _ _ _ _ (by simp)).trans h.c1, (World.cell?_setCell_other _ _ _ _ (by simp)).trans h.c2, (World.cell?_setCell_other _ _ _ _ (by simp)).trans h.c3, by simpa using h.f0, by simpa using h.f1, by simpa using h.f2, by simpa using h.f3⟩
theorem Q4.set1 {w : World} {b : Nat} {x0 x1 x2 x3 : Int} (h : Q4 w b x0 x1 x2 x3) (v : Int) : Q4 (w.setCell ⟨b, 1, none⟩ (.int .i64 v)) b x0 v x2 x3 :=
  ⟨(World.cell?_setCell_other _ _ _ _ (by simp)).trans h.c0, World.cell?_setCell_same _ _ _ h.c1, (World.cell?_setCell_other _ _ _ _ (by simp)).trans h.c2, (World.cell?_setCell_other _ _ _ _ (by simp)).trans h.c3, by simpa using h.f0, by simpa using h.f1, by simpa using h.f2, by simpa using h.f3⟩
theorem Q4.set2 {w : World} {b : Nat} {x0 x1 x2 x3 : Int} (h : Q4 w b x0 x1 x2 x3) (v : Int) : Q4 (w.setCell ⟨b, 2, none⟩ (.int .i64 v)) b x0 x1 v x3 :=
  ⟨(World.cell?_setCell_other _ _ _ _ (by simp)).trans h.c0, (World.cell?_setCell_other _ _ _ _ (by simp)).trans h.c1, World.cell?_setCell_same _ _ _ h.c2, (World.cell?_setCell_other _ _ _ _ (by simp)).trans h.c3, by simpa using h.f0, by simpa using h.f1, by simpa using h.f2, by simpa using h.f3⟩
theorem Q4.set3 {w : World} {b : Nat} {x0 x1 x2 x3 : Int} (h : Q4 w b x0 x1 x2 x3) (v : Int) : Q4 (w.setCell ⟨b, 3, none⟩ (.int .i64 v)) b x0 x1 x2 v :=
  ⟨(World.cell?_setCell_other _ _ _ _ (by simp)).trans h.c0, (World.cell?_setCell_other _ _ _ _ (by simp)).trans h.c1, (World.cell?_setCell_other _ _ _ _ (by simp)).trans h.c2, World.cell?_setCell_same _ _ _ h.c3, by simpa using h.f0, by simpa using h.f1, by simpa using h.f2, by simpa using h.f3⟩

/-- While it is swept: what is left, and the new numbers, in the block that was made first. -/
structure Pw (w : World) (m : Nat) (A : Option Addr) (c : Nat) (wr : World) (u : List Nd) (T : List Int) : Prop where
  own : OwnN wr (w.heap.size + 1) (.slice A u.length c) u
  nm : OwnI 2 .i64 wr w.heap.size (.slice (some ⟨w.heap.size, 0, none⟩) m m) T
  bel : Below w.heap.size w wr
  lt : w.heap.size < wr.heap.size
theorem Pw.keep {w : World} {m : Nat} {A : Option Addr} {c : Nat} {wr wr' : World} {u : List Nd} {T : List Int} (h : Pw w m A c wr u T) (hb : Below wr.heap.size wr wr') : Pw w m A c wr' u T :=
  ⟨h.own.keep hb, h.nm.keep hb, h.bel.trans (hb.mono h.bel.size), Nat.lt_of_lt_of_le h.lt hb.size⟩
theorem Pw.num {w : World} {m : Nat} {A : Option Addr} {c : Nat} {wr : World} {u : List Nd} {T : List Int} (h : Pw w m A c wr u T) (k : Nat) (v : Int) : Pw w m A c (wr.setCell ⟨w.heap.size, k, none⟩ (.int .i64 v)) u (T.set k v) :=
  ⟨OwnN.set_below (by show w.heap.size < _; omega) _ h.own, (h.nm.store v).1, h.bel.setCell (Nat.le_refl _) _, by simpa [World.setCell] using h.lt⟩
theorem Pw.push {w : World} {m : Nat} {A : Option Addr} {c : Nat} {wr wr' : World} {u : List Nd} {T : List Int} {v' : Value} {x : Nd} (h : Pw w m A c wr u T) (ho : OwnN wr' (w.heap.size + 1) v' (u ++ [x])) (hg : wr.grownBy wr' (Value.slice A u.length c).ownBlock) : ∃ A' c', v' = .slice A' (u ++ [x]).length c' ∧ Pw w m A' c' wr' (u ++ [x]) T := by
  obtain ⟨A', c', rfl⟩ := ho.form
  refine ⟨A', c', rfl, ho, World.ownsRow.kept h.nm hg (.inr fun e => ?_), h.bel.grown hg h.bel.size (fun k hk => ?_), Nat.lt_of_lt_of_le h.lt hg.size⟩
  · have h1 : (Value.slice A u.length c).ownBlock = some w.heap.size := e.symm
    have := (h.own.lt _ h1).1
    omega
  · have := (h.own.lt k hk).1
    omega
set_option maxRecDepth 100000 in
set_option maxHeartbeats 4000000 in
theorem pSwept_any (A : Option Addr) (c base g cm : Nat) (l : List Nd) (M : List Bool) (w : World) (h : RN w w.heap.size A l) (hr : poolRight l = true) (hM : OwnB w base (.slice (some ⟨g, 0, none⟩) l.length cm) M) :
    Calls Try.prog 47 #[.slice A l.length c, .slice (some ⟨g, 0, none⟩) l.length cm] w fun e w' => ∃ A1 c1, e = .returned (.tuple #[.slice A1 (sweepTo l M l.length).1.length c1, .slice (some ⟨w.heap.size, 0, none⟩) l.length l.length]) ∧ Pw w l.length A1 c1 w' (sweepTo l M l.length).1 (sweepTo l M l.length).2 := by
  obtain ⟨i1, hi1, hy0, hy1, hy2⟩ := info_parts Try.infoInt
  obtain ⟨i0, hi, hz0, hz1, hz2⟩ := info_parts Try.infoNode
  have hl := pool_len hr
  have HR := Lib.hid hr
  have H := Lib.hid h
  have HM := Lib.hid hM
  have HML := Lib.hid hM.len
  clear h hr hM
  go_enter Try.func47, Try.ntmps47
  go_wp2_with (at_make; refine wpList_make_full _ rfl _ _ 33 rfl w.heap.size 2 i1 (.int .i64 0) 1 Try.underlying33 hi1 hy0 hy1 .i64 .i64 _ _ l.length rfl rfl (by go_num) (by go_num) ?b2 ?b3 (Nat.le_refl _) ?_)
  case b2 => rw [hy2]; omega
  case b3 => unfold maxLen; omega
  intro w1 hown1 hgrow1
  have HP1 : Hid (Pw w l.length none 0 w1 [] (List.replicate l.length 0)) := by
    have ho : OwnI 2 .i64 w1 w.heap.size (.slice (some ⟨w.heap.size, 0, none⟩) l.length l.length) (List.replicate l.length 0) := by
      unfold OwnI
      rw [toList_madeCells_one] at hown1
      simpa using hown1
    exact ⟨OwnN.nil _ _, ho, (Below.refl _ _).grown hgrow1 (Nat.le_refl _) (fun k hk => by cases hk), (World.ownsRow.lt hown1 _ rfl).2⟩
  clear hown1 hgrow1
  go_wp2
  go_loopw [6, 18] (fun v i wr => ∃ (k : Nat) (A1 : Option Addr) (c1 : Nat), i = .int .i64 k ∧ k ≤ l.length ∧ v = .slice A1 (sweepTo l M k).1.length c1 ∧ Pw w l.length A1 c1 wr (sweepTo l M k).1 (sweepTo l M k).2) (fun _ i _ => l.length - (intOf i).toNat)
  case atStart => exact ⟨0, none, 0, rfl, Nat.zero_le _, rfl, HP1.out⟩
  case round =>
    obtain ⟨k, A1, c1, rfl, hk, rfl, hp⟩ := hrel
    have HP := Lib.hid hp
    clear HP1
    by_cases hlt : k < l.length
    · have hkI : (k : Int) < (l.length : Int) := by omega
      obtain ⟨b, off, rfl, hbl, hn⟩ := (H.out.below hp.bel).at_ hlt
      have hwl := hp.lt
      obtain ⟨g', e, _, _, cm0, _⟩ := (HM.out.keep hp.bel).at_ (j := k) (by rw [← HML.out]; exact hlt)
      cases e
      have HSK := Lib.hid (sweep_skip (l := l) (M := M) (k := k))
      have HST := Lib.hid (sweep_take (l := l) (M := M) hlt)
      have HGD : Hid (M.getD k false = M[k]'(by rw [← HML.out]; exact hlt)) := by show _ = _; simp [List.getD, show k < M.length by rw [← HML.out]; exact hlt]
      have hul := (sweepTo_len l M k)
      have hok := right_node HR.out hlt
      have hsp := right_sp HR.out hlt
      generalize M[k]'(by rw [← HML.out]; exact hlt) = mk at *
      generalize hnk : l[k] = n at *
      clear hnk
      clear hp
      generalize sweepTo l M k = RES at *
      obtain ⟨u, T⟩ := RES
      simp only at HP hul HST HSK ⊢
      have HTL := Lib.hid hul.2
      have hu2 : u.length ≤ 200 := by omega
      clear hul
      have hS := pSplit_any n
      obtain ⟨nt, na, nb, nc, nd⟩ := n
      unfold Nd.val at hS
      obtain ⟨d0, d1, d2, d3, d4⟩ := hn
      simp only at d0 d1 d2 d3 d4 hS
      have HN0 := Lib.hid (N9.made wr nt na nb nc nd 73)
      have HA0 : Hid (Below wr.heap.size wr (wr.alloc (.cells #[.int .i64 nt, .int .i64 na, .int .i64 nb, .int .i64 nc, .int .i64 nd] 73))) := (Below.refl _ _).alloc (Nat.le_refl _) _
      have hgw : g < wr.heap.size := by omega
      cases mk
      · have HE : Hid (sweepTo l M (k + 1) = (u, T)) := HSK.out HGD.out
        clear HST hok hsp hS
        go_wp2
        go_roundw
        case rel => exact ⟨k + 1, A1, c1, by go_num, by omega, by rw [HE.out], by rw [HE.out]; exact HP.out.keep HA0.out⟩
        case measure => simp [intOf]; omega
      · have HE := Lib.hid (HST.out HGD.out)
        clear HSK HST
        cases hlf : isSp (⟨nt, na, nb, nc, nd⟩ : Nd)
        · rw [hlf] at hS hsp
          have HX : Hid (newN T (⟨nt, na, nb, nc, nd⟩ : Nd) = ⟨nt, na, nb, nc, nd⟩) := by show _ = _; rw [newN, if_pos (by rw [hsp]; rfl)]
          clear hok hsp hlf
          go_wp2_with fail
          refine (hS _).mono ?_
          rintro e w2 ⟨rfl, hb2⟩
          have HP2 := Lib.hid (HP.out.keep (HA0.out.trans (hb2.mono HA0.out.size)))
          have HN2 := Lib.hid (HN0.out.below hb2 (by simp))
          have hzw2 : wr.heap.size < w2.heap.size := by have := hb2.size; simp at this; omega
          clear hb2 d0 d1 d2 d3 d4 cm0 HN0
          obtain ⟨g9, e9, _, _, t0, tf⟩ := HP2.out.nm.at_ (j := k) (by rw [HTL.out]; exact hlt)
          cases e9
          have HQ := Lib.hid (HP2.out.num k (u.length : Int))
          have HPA := Lib.hid (HQ.out.keep ((Below.refl _ _).alloc (Nat.le_refl _) (.cells #[.int .i64 nt, .int .i64 na, .int .i64 nb, .int .i64 nc, .int .i64 nd] 73)))
          obtain ⟨x0, x1, x2, x3, x4, _, _, _, _, _⟩ := HN2.out
          have HCL : Hid (∀ j (hj : j < [(⟨nt, na, nb, nc, nd⟩ : Nd)].length), NdAt ((w2.setCell ⟨w.heap.size, k, none⟩ (.int .i64 (u.length : Int))).alloc (.cells #[.int .i64 nt, .int .i64 na, .int .i64 nb, .int .i64 nc, .int .i64 nd] 73)) w2.heap.size (0 + j * 5) [(⟨nt, na, nb, nc, nd⟩ : Nd)][j]) := by
            show ∀ j (hj : j < _), _
            intro j hj
            obtain rfl : j = 0 := by simpa using hj
            have := N9.made (w2.setCell ⟨w.heap.size, k, none⟩ (.int .i64 (u.length : Int))) nt na nb nc nd 73
            have e : (w2.setCell ⟨w.heap.size, k, none⟩ (.int .i64 (u.length : Int))).heap.size = w2.heap.size := by simp [World.setCell]
            rw [e] at this
            exact ⟨this.c0, this.c1, this.c2, this.c3, this.c4⟩
          have hwn : ¬ wr.heap.size = w.heap.size := by omega
          clear HP2
          go_wp2_with (at_builtin; refine append_nodes hi hz0 hz1 hz2 rfl _ _ rfl (w.heap.size + 1) _ u [(⟨nt, na, nb, nc, nd⟩ : Nd)] _ w2.heap.size 0 1 HPA.out.own rfl rfl HCL.out (by simp <;> omega) (by simp <;> omega) ?_; intro v3 w3 hown3 hg3)
          obtain ⟨A3, c3, rfl, hp3⟩ := HPA.out.push hown3 hg3
          have HP3 := Lib.hid hp3
          clear hown3 hg3 hp3
          go_wp2
          go_roundw
          case rel => exact ⟨k + 1, A3, c3, by go_num, by omega, by rw [HE.out, HX.out], by rw [HE.out, HX.out]; exact HP3.out⟩
          case measure => simp [intOf]; omega
        · obtain ⟨wo, hwo⟩ : ∃ wo, wo = wr := ⟨_, rfl⟩
          subst hwo
          rw [hlf] at hS hsp
          obtain ⟨q0, qa, qb, qc, qd⟩ := ok_split hok hsp
          clear q0
          simp only at qa qb qc qd
          obtain ⟨ia, rfl⟩ := Int.eq_ofNat_of_zero_le qa.1
          obtain ⟨ib, rfl⟩ := Int.eq_ofNat_of_zero_le qb.1
          obtain ⟨ic, rfl⟩ := Int.eq_ofNat_of_zero_le qc.1
          obtain ⟨id, rfl⟩ := Int.eq_ofNat_of_zero_le qd.1
          have HX : Hid (newN T (⟨nt, (ia : Int), (ib : Int), (ic : Int), (id : Int)⟩ : Nd) = ⟨-1, T.getD ia 0, T.getD ib 0, T.getD ic 0, T.getD id 0⟩) := by show _ = _; rw [newN, if_neg (by rw [hsp]; decide)]; simp
          have hQ := pQuarters_any (⟨nt, (ia : Int), (ib : Int), (ic : Int), (id : Int)⟩ : Nd)
          unfold Nd.val qV at hQ
          simp only at hQ
          clear hok hsp hlf
          go_wp2_with fail
          refine (hS _).mono ?_
          rintro e w2 ⟨rfl, hb2⟩
          have hb02 := HA0.out.trans (hb2.mono HA0.out.size)
          have HB2 := Lib.hid hb02
          have HN2 := Lib.hid (HN0.out.below hb2 (by simp))
          have hzw2 : wo.heap.size < w2.heap.size := by have := hb2.size; simp at this; omega
          obtain ⟨x0, x1, x2, x3, x4, _, _, _, _, _⟩ := HN2.out
          have hbq : Below w2.heap.size w2 (w2.alloc (.cells #[.int .i64 0, .int .i64 0, .int .i64 0, .int .i64 0] 83)) := (Below.refl _ _).alloc (Nat.le_refl _) _
          have HBQ := Lib.hid hbq
          have HQ0 := Lib.hid (Q4.made w2 83)
          clear hb2 hb02 hbq d0 d1 d2 d3 d4 cm0 HN0
          go_wp2_with fail
          refine (hQ _).mono ?_
          rintro e w3 ⟨rfl, hb3⟩
          have HB3 := Lib.hid (HBQ.out.trans (hb3.mono HBQ.out.size))
          have HQ3 := Lib.hid (HQ0.out.below hb3 (by simp))
          have hzw3 : w2.heap.size < w3.heap.size := by have := hb3.size; simp at this; omega
          clear hb3 x0 x1 x2 x3 x4 HQ0
          generalize hta : T.getD ia 0 = ta at *
          generalize htb : T.getD ib 0 = tb at *
          generalize htc : T.getD ic 0 = tc at *
          generalize htd : T.getD id 0 = td at *
          have HTA := Lib.hid hta
          have HTB := Lib.hid htb
          have HTC := Lib.hid htc
          have HTD := Lib.hid htd
          clear hta htb htc htd
          go_wp2
          go_loopw [32] (fun i wr => ∃ m : Nat, i = .int .i64 m ∧ m ≤ 4 ∧ Below w2.heap.size w2 wr ∧ w2.heap.size < wr.heap.size ∧ Q4 wr w2.heap.size (if 0 < m then ta else 0) (if 1 < m then tb else 0) (if 2 < m then tc else 0) (if 3 < m then td else 0)) (fun i _ => 4 - (intOf i).toNat)
          case atStart => exact ⟨0, rfl, Nat.zero_le _, HB3.out, hzw3, HQ3.out⟩
          case round =>
            obtain ⟨m, rfl, hm, hbm, hzm, hq4⟩ := hrel
            have HBM := Lib.hid hbm
            have HQ4 := Lib.hid hq4
            have HPM := Lib.hid (HP.out.keep (HB2.out.trans (hbm.mono HB2.out.size)))
            clear hbm hq4
            have h5 : m = 0 ∨ m = 1 ∨ m = 2 ∨ m = 3 ∨ m = 4 := by omega
            rcases h5 with rfl | rfl | rfl | rfl | rfl
            · have HQ5 : Hid (Q4 wr w2.heap.size 0 0 0 0) := by show Q4 _ _ _ _ _ _; simpa using HQ4.out
              obtain ⟨y0, y1, y2, y3, z0, z1, z2, z3⟩ := HQ5.out
              obtain ⟨g9, e9, _, _, ct, _⟩ := HPM.out.nm.at_ (j := ia) (by rw [HTL.out]; omega)
              cases e9
              have et : T[ia]'(by rw [HTL.out]; omega) = ta := by rw [← HTA.out]; simp [List.getD, show ia < T.length by rw [HTL.out]; omega]
              rw [et] at ct
              have hix := index_quad0 ia ib ic id
              have q0 : (0 : Int) ≤ ia := by omega
              have q1 : (ia : Int) < (l.length : Int) := by omega
              have hnb : ¬ w.heap.size = w2.heap.size := by omega
              clear et HQ4
              go_wp2
              go_roundw
              case rel => exact ⟨1, by go_num, by omega, HBM.out.setCell (Nat.le_refl _) _, by simpa [World.setCell] using hzm, by simpa using HQ5.out.set0 ta⟩
              case measure => simp [intOf]
            · have HQ5 : Hid (Q4 wr w2.heap.size ta 0 0 0) := by show Q4 _ _ _ _ _ _; simpa using HQ4.out
              obtain ⟨y0, y1, y2, y3, z0, z1, z2, z3⟩ := HQ5.out
              obtain ⟨g9, e9, _, _, ct, _⟩ := HPM.out.nm.at_ (j := ib) (by rw [HTL.out]; omega)
              cases e9
              have et : T[ib]'(by rw [HTL.out]; omega) = tb := by rw [← HTB.out]; simp [List.getD, show ib < T.length by rw [HTL.out]; omega]
              rw [et] at ct
              have hix := index_quad1 ia ib ic id
              have q0 : (0 : Int) ≤ ib := by omega
              have q1 : (ib : Int) < (l.length : Int) := by omega
              have hnb : ¬ w.heap.size = w2.heap.size := by omega
              clear et HQ4
              go_wp2
              go_roundw
              case rel => exact ⟨2, by go_num, by omega, HBM.out.setCell (Nat.le_refl _) _, by simpa [World.setCell] using hzm, by simpa using HQ5.out.set1 tb⟩
              case measure => simp [intOf]
            · have HQ5 : Hid (Q4 wr w2.heap.size ta tb 0 0) := by show Q4 _ _ _ _ _ _; simpa using HQ4.out
              obtain ⟨y0, y1, y2, y3, z0, z1, z2, z3⟩ := HQ5.out
              obtain ⟨g9, e9, _, _, ct, _⟩ := HPM.out.nm.at_ (j := ic) (by rw [HTL.out]; omega)
              cases e9
              have et : T[ic]'(by rw [HTL.out]; omega) = tc := by rw [← HTC.out]; simp [List.getD, show ic < T.length by rw [HTL.out]; omega]
              rw [et] at ct
              have hix := index_quad2 ia ib ic id
              have q0 : (0 : Int) ≤ ic := by omega
              have q1 : (ic : Int) < (l.length : Int) := by omega
              have hnb : ¬ w.heap.size = w2.heap.size := by omega
              clear et HQ4
              go_wp2
              go_roundw
              case rel => exact ⟨3, by go_num, by omega, HBM.out.setCell (Nat.le_refl _) _, by simpa [World.setCell] using hzm, by simpa using HQ5.out.set2 tc⟩
              case measure => simp [intOf]
            · have HQ5 : Hid (Q4 wr w2.heap.size ta tb tc 0) := by show Q4 _ _ _ _ _ _; simpa using HQ4.out
              obtain ⟨y0, y1, y2, y3, z0, z1, z2, z3⟩ := HQ5.out
              obtain ⟨g9, e9, _, _, ct, _⟩ := HPM.out.nm.at_ (j := id) (by rw [HTL.out]; omega)
              cases e9
              have et : T[id]'(by rw [HTL.out]; omega) = td := by rw [← HTD.out]; simp [List.getD, show id < T.length by rw [HTL.out]; omega]
              rw [et] at ct
              have hix := index_quad3 ia ib ic id
              have q0 : (0 : Int) ≤ id := by omega
              have q1 : (id : Int) < (l.length : Int) := by omega
              have hnb : ¬ w.heap.size = w2.heap.size := by omega
              clear et HQ4
              go_wp2
              go_roundw
              case rel => exact ⟨4, by go_num, by omega, HBM.out.setCell (Nat.le_refl _) _, by simpa [World.setCell] using hzm, by simpa using HQ5.out.set3 td⟩
              case measure => simp [intOf]
            · have HQ5 : Hid (Q4 wr w2.heap.size ta tb tc td) := by show Q4 _ _ _ _ _ _; simpa using HQ4.out
              obtain ⟨y0, y1, y2, y3, z0, z1, z2, z3⟩ := HQ5.out
              have HN4 := Lib.hid (HN2.out.below HBM.out hzw2)
              have hzq : wo.heap.size < wr.heap.size := by omega
              clear HQ4
              go_wp2_with fail
              refine (pSplitOf_any ta tb tc td _).mono ?_
              rintro e w5 ⟨rfl, hb5⟩
              have HN5 := Lib.hid (HN4.out.below hb5 hzq)
              have HB5 := Lib.hid ((HB2.out.trans (HBM.out.mono HB2.out.size)).trans (hb5.mono (by omega)))
              have hz5 : wo.heap.size < w5.heap.size := Nat.lt_of_lt_of_le hzq hb5.size
              obtain ⟨x0, x1, x2, x3, x4, f0, f1, f2, f3, f4⟩ := HN5.out
              clear hb5 y0 y1 y2 y3 z0 z1 z2 z3 HQ5
              go_upto_region 15 with fail
              obtain ⟨W6, hW6⟩ : ∃ W6, Hid (W6 = (((((w5.setCell ⟨wo.heap.size, 0, none⟩ (.int .i64 (-1))).setCell ⟨wo.heap.size, 1, none⟩ (.int .i64 ta)).setCell ⟨wo.heap.size, 2, none⟩ (.int .i64 tb)).setCell ⟨wo.heap.size, 3, none⟩ (.int .i64 tc)).setCell ⟨wo.heap.size, 4, none⟩ (.int .i64 td))) := ⟨_, rfl⟩
              have HP2 : Hid (Pw w l.length A1 c1 W6 u T) := by rw [hW6.out]; exact HP.out.keep (((((HB5.out.setCell (Nat.le_refl _) _).setCell (Nat.le_refl _) _).setCell (Nat.le_refl _) _).setCell (Nat.le_refl _) _).setCell (Nat.le_refl _) _)
              have HN6 : Hid (N9 W6 wo.heap.size ⟨-1, ta, tb, tc, td⟩) := by
                rw [hW6.out]
                exact ⟨by simp [go_sem, x0], by simp [go_sem, x1], by simp [go_sem, x2], by simp [go_sem, x3], by simp [go_sem, x4], by simpa using f0, by simpa using f1, by simpa using f2, by simpa using f3, by simpa using f4⟩
              have hz6 : wo.heap.size < W6.heap.size := by rw [hW6.out]; simpa [World.setCell] using hz5
              have hW7 := hW6.out
              clear x0 x1 x2 x3 x4 f0 f1 f2 f3 f4 hW6
              rw [← hW7]
              clear hW7
              obtain ⟨g9, e9, _, _, t0, tf⟩ := HP2.out.nm.at_ (j := k) (by rw [HTL.out]; exact hlt)
              cases e9
              have HQ := Lib.hid (HP2.out.num k (u.length : Int))
              have HPA := Lib.hid (HQ.out.keep ((Below.refl _ _).alloc (Nat.le_refl _) (.cells #[.int .i64 (-1), .int .i64 ta, .int .i64 tb, .int .i64 tc, .int .i64 td] 73)))
              obtain ⟨x0, x1, x2, x3, x4, _, _, _, _, _⟩ := HN6.out
              have HCL : Hid (∀ j (hj : j < [(⟨-1, ta, tb, tc, td⟩ : Nd)].length), NdAt ((W6.setCell ⟨w.heap.size, k, none⟩ (.int .i64 (u.length : Int))).alloc (.cells #[.int .i64 (-1), .int .i64 ta, .int .i64 tb, .int .i64 tc, .int .i64 td] 73)) W6.heap.size (0 + j * 5) [(⟨-1, ta, tb, tc, td⟩ : Nd)][j]) := by
                show ∀ j (hj : j < _), _
                intro j hj
                obtain rfl : j = 0 := by simpa using hj
                have := N9.made (W6.setCell ⟨w.heap.size, k, none⟩ (.int .i64 (u.length : Int))) (-1) ta tb tc td 73
                have e : (W6.setCell ⟨w.heap.size, k, none⟩ (.int .i64 (u.length : Int))).heap.size = W6.heap.size := by simp [World.setCell]
                rw [e] at this
                exact ⟨this.c0, this.c1, this.c2, this.c3, this.c4⟩
              have hwn : ¬ wo.heap.size = w.heap.size := by omega
              clear HP2
              go_wp2_with (at_builtin; refine append_nodes hi hz0 hz1 hz2 rfl _ _ rfl (w.heap.size + 1) _ u [(⟨-1, ta, tb, tc, td⟩ : Nd)] _ W6.heap.size 0 1 HPA.out.own rfl rfl HCL.out (by simp <;> omega) (by simp <;> omega) ?_; intro v3 w3 hown3 hg3)
              obtain ⟨A3, c3, rfl, hp3⟩ := HPA.out.push hown3 hg3
              have HP3 := Lib.hid hp3
              clear hown3 hg3 hp3
              go_wp2
              go_roundw
              case rel => exact ⟨k + 1, A3, c3, by go_num, by omega, by rw [HE.out, HX.out], by rw [HE.out, HX.out]; exact HP3.out⟩
              case measure => simp [intOf]; omega
    · obtain rfl : k = l.length := by omega
      go_wp2
      refine bodyPost_ret (v := .tuple #[.slice A1 (sweepTo l M l.length).1.length c1, .slice (some ⟨w.heap.size, 0, none⟩) l.length l.length]) (by simp [results, Try.results47, go_sem]) rfl ⟨A1, c1, rfl, HP.out⟩
end Go.Proofs.Ytoobkajilbmdhaa
