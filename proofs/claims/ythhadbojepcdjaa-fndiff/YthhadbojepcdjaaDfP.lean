/- The program's changes: maps of one side, a change at a place, between two maps, taken back. -/
import Derived.Test.YthhadbojepcdjaaDfM
import Derived.Test.YthhadbojepcdjaaPgT
namespace Go.Proofs.Ythhadbojepcdjaa
open Go.RowKit
set_option linter.unusedVariables false

theorem inv_step (l : List Ch) (k : Nat) (h : k < l.length) : (List.replicate (l.length - k) zeroCh ++ ((l.take k).map Ch.flip).reverse).set (l.length - 1 - k) (l[k].flip) = List.replicate (l.length - (k + 1)) zeroCh ++ ((l.take (k + 1)).map Ch.flip).reverse := by
  have e : l.length - k = (l.length - (k + 1)) + 1 := by omega
  rw [List.set_append_left _ _ (by simp; omega), e, List.replicate_succ', List.set_append_right _ _ (by simp; omega), List.take_succ_eq_append_getElem h]
  have e2 : l.length - 1 - k - (List.replicate (l.length - (k + 1)) zeroCh).length = 0 := by simp; omega
  rw [e2, List.map_append, List.reverse_append, List.append_assoc]
  rfl
/-- A map, as a value. -/
structure Gd where
  s : Int
  a : Option Addr
  c : Nat
  l : List Int
/-- Maps that stand one behind the other from the begin of block b on. -/
structure RG (w : World) (B b : Nat) (gs : List Gd) : Prop where
  lt : b < B
  at_ : ∀ j (h : j < gs.length), w.cell? ⟨b, j * 2, none⟩ = some (.int .i64 gs[j].s) ∧ w.cell? ⟨b, j * 2 + 1, none⟩ = some (.slice gs[j].a gs[j].l.length gs[j].c) ∧ RI w B gs[j].a gs[j].l ∧ gs[j].l.length ≤ 1000000000
theorem RG.below {w w' : World} {B b : Nat} {gs : List Gd} (h : RG w B b gs) (hb : Below B w w') : RG w' B b gs :=
  ⟨h.lt, fun j hj => ⟨(hb.cell (p := ⟨b, j * 2, none⟩) h.lt).trans (h.at_ j hj).1, (hb.cell (p := ⟨b, j * 2 + 1, none⟩) h.lt).trans (h.at_ j hj).2.1, (h.at_ j hj).2.2.1.below hb, (h.at_ j hj).2.2.2⟩⟩
def Gd.fits (side : Int) (g : Gd) : Bool := g.s == side && gridRight g.s g.l

set_option maxRecDepth 100000 in
set_option maxHeartbeats 1000000 in
theorem pOneSide_any (side : Int) (A : Option Addr) (c : Nat) (l : List Int) (b cap : Nat) (gs : List Gd) (w : World) (h : RI w w.heap.size A l) (hl : l.length ≤ 1000000000) (hg : RG w w.heap.size b gs) (hgl : gs.length ≤ 1000) :
    Calls Try.prog 23 #[.agg #[.int .i64 side, .slice A l.length c], .slice (some ⟨b, 0, none⟩) gs.length cap] w fun e w' => e = .returned (.bool (gs.all (Gd.fits side) && gridRight side l)) ∧ Below w.heap.size w w' := by
  have H := Lib.hid h
  have HG := Lib.hid hg
  clear h hg
  have hrt := fun w h => pRight_any side A c l w h hl
  have hb0 : Below w.heap.size w (w.alloc (.cells #[.int .i64 side, .slice A l.length c] 25)) := (Below.refl _ _).alloc (Nat.le_refl _) _
  have HB0 := Lib.hid hb0
  have HX0 := Lib.hid (GB.made w side (.slice A l.length c) 25)
  clear hb0
  go_enter Try.func23, Try.ntmps23
  go_wp2
  go_loopw [9] (fun i wr => ∃ k : Nat, i = .int .i64 k ∧ k ≤ gs.length ∧ GB wr w.heap.size side (.slice A l.length c) ∧ Below w.heap.size w wr ∧ w.heap.size < wr.heap.size ∧ Hid ((gs.take k).all (Gd.fits side) = true)) (fun i _ => gs.length - (intOf i).toNat)
  case atStart => exact ⟨0, rfl, Nat.zero_le _, HX0.out, HB0.out, by simp, rfl⟩
  case round =>
    obtain ⟨k, rfl, hk, hx, hb, hz, HA⟩ := hrel
    have HX := Lib.hid hx
    have HB := Lib.hid hb
    obtain ⟨x0, x1, f0, f1⟩ := hx
    by_cases hlt : k < gs.length
    · obtain ⟨c0, c1, hri, hll⟩ := (HG.out.below hb).at_ k hlt
      have hbl := HG.out.lt
      have HK : Hid (gs.take (k + 1) = gs.take k ++ [gs[k]]) := List.take_succ_eq_append_getElem hlt
      have HM : Hid (gs[k] ∈ gs) := List.getElem_mem hlt
      generalize gs[k] = g at *
      obtain ⟨gs_, ga, gc, gl⟩ := g
      simp only at c0 c1 hri hll
      have hzb : b < wr.heap.size := by omega
      have hrg := fun w h => pRight_any gs_ ga gc gl w h hll
      have HRI := Lib.hid hri
      have HB1 := Lib.hid (HB.out.alloc HB.out.size (.cells #[.int .i64 gs_, .slice ga gl.length gc] 25))
      have HXA := Lib.hid (HX.out.below ((Below.refl _ _).alloc (B := wr.heap.size) (Nat.le_refl _) (.cells #[.int .i64 gs_, .slice ga gl.length gc] 25)) hz)
      clear hri hb
      by_cases hs : gs_ = side
      · subst hs
        cases hr : gridRight gs_ gl
        · rw [hr] at hrg
          have HF : Hid (gs.all (Gd.fits gs_) = false) := by
            show _ = _
            rw [List.all_eq_false]
            exact ⟨_, HM.out, by simp [Gd.fits, hr]⟩
          clear hr
          go_wp2_with fail
          refine (hrg _ ((HRI.out.below ((Below.refl _ _).alloc HB.out.size _)).mono (by simp; have := HB.out.size; omega))).mono ?_
          rintro e w1 ⟨rfl, hb1⟩
          have HB2 := Lib.hid (HB1.out.trans (hb1.mono HB1.out.size))
          clear hb1
          go_wp2
          go_ret
          exact ⟨ret_bool (by rw [HF.out]; rfl), HB2.out⟩
        · rw [hr] at hrg
          have HF : Hid ((gs.take (k + 1)).all (Gd.fits gs_) = true) := by
            show _ = _
            rw [HK.out, List.all_append, HA.out]
            simp [Gd.fits, hr]
          clear hr
          go_wp2_with fail
          refine (hrg _ ((HRI.out.below ((Below.refl _ _).alloc HB.out.size _)).mono (by simp; have := HB.out.size; omega))).mono ?_
          rintro e w1 ⟨rfl, hb1⟩
          have HB2 := Lib.hid (HB1.out.trans (hb1.mono HB1.out.size))
          have HX2 := Lib.hid (HXA.out.below hb1 (by simp; omega))
          have hz1 : w.heap.size < w1.heap.size := by have := hb1.size; simp at this; omega
          clear hb1
          go_wp2
          go_roundw
          case rel => exact ⟨k + 1, by go_num, by omega, HX2.out, HB2.out, hz1, HF⟩
          case measure => simp [intOf]; omega
      · have hsb : (gs_ != side) = true := by simpa using hs
        have HF : Hid (gs.all (Gd.fits side) = false) := by
          show _ = _
          rw [List.all_eq_false]
          exact ⟨_, HM.out, by simp [Gd.fits, hs]⟩
        go_wp2_with fail
        go_ret
        exact ⟨ret_bool (by rw [HF.out]; rfl), HB1.out⟩
    · have HF : Hid (gs.all (Gd.fits side) = true) := by
        show _ = _
        have := HA.out
        rwa [List.take_of_length_le (by omega)] at this
      have hri := H.out.below' hb
      clear hb
      go_wp2_with fail
      refine (hrt _ hri).mono ?_
      rintro e w1 ⟨rfl, hb1⟩
      have HB2 := Lib.hid (HB.out.trans (hb1.mono HB.out.size))
      clear hb1
      go_wp2
      go_ret
      exact ⟨ret_bool (by rw [HF.out]; rfl), HB2.out⟩

set_option maxHeartbeats 1000000 in
theorem pChangeAt_any (side : Int) (k : Nat) (x y : Int) (w : World) (hs : 1 ≤ side) (hs8 : side ≤ 8) (hk : k ≤ 1000000) :
    Calls Try.prog 24 #[.int .i64 side, .int .i64 k, .int .i64 x, .int .i64 y] w fun e w' => e = .returned (.agg #[.int .i64 ((k : Int) % side), .int .i64 ((k : Int) / side), .int .i64 x, .int .i64 y]) ∧ Below w.heap.size w w' := by
  have htm : (k : Int).tmod side = (k : Int) % side := Int.tmod_eq_emod_of_nonneg (by omega)
  have hdv : IntKind.i64.wrap ((k : Int) / side) = (k : Int) / side := wrap_div (by omega) hs
  have hne : ¬ side = 0 := by omega
  have HB := Lib.hid ((Below.refl w.heap.size w).alloc (Nat.le_refl _) (.cells #[.int .i64 0, .int .i64 0, .int .i64 0, .int .i64 0] 53))
  go_enter Try.func24, Try.ntmps24
  go_wp2_with fail
  go_region
  go_wp2
  refine bodyPost_ret (v := .agg #[.int .i64 ((k : Int) % side), .int .i64 ((k : Int) / side), .int .i64 x, .int .i64 y]) (by simp [results, Try.results24, go_sem]) rfl ⟨rfl, ((Below.refl _ _).alloc (Nat.le_refl _) _).drew⟩

set_option maxRecDepth 100000 in
set_option maxHeartbeats 1000000 in
theorem pInvert_any (A : Option Addr) (c : Nat) (l : List Ch) (w : World) (h : RCh w w.heap.size A l) (hl : l.length ≤ 1000000000) :
    Calls Try.prog 9 #[.slice A l.length c] w fun e w' => COut w w' (invL l) e := by
  obtain ⟨i0, hi, hz0, hz1, hz2⟩ := info_parts Try.infoCh
  have H := Lib.hid h
  clear h
  by_cases h64 : l.length ≤ 64
  · go_enter Try.func9, Try.ntmps9
    go_wp2_with (at_make; refine wpList_make_full _ rfl _ _ 28 rfl w.heap.size 53 i0 (.agg #[.int .i64 0, .int .i64 0, .int .i64 0, .int .i64 0]) 4 Try.underlying28 hi hz0 hz1 .i64 .i64 _ _ l.length rfl rfl rfl rfl ?b2 ?b3 (Nat.le_refl _) ?_)
    case b2 => rw [hz2]; omega
    case b3 => unfold maxLen; omega
    intro w1 hown1 hgrow1
    have ho1 := own_zerosCh hown1
    have hb1 : Below w.heap.size w w1 := (Below.refl _ _).grown hgrow1 (Nat.le_refl _) (fun k hk => by cases hk)
    clear hown1 hgrow1
    go_wp2
    go_loopw [14] (fun i wr => ∃ k : Nat, i = .int .i64 k ∧ k ≤ l.length ∧ OwnCh wr w.heap.size (.slice (some ⟨w.heap.size, 0, none⟩) l.length l.length) (List.replicate (l.length - k) zeroCh ++ ((l.take k).map Ch.flip).reverse) ∧ Below w.heap.size w wr ∧ w.heap.size < wr.heap.size) (fun i _ => l.length - (intOf i).toNat)
    case atStart => exact ⟨0, rfl, Nat.zero_le _, by simpa using ho1, hb1, (ho1.lt _ rfl).2⟩
    case round =>
      obtain ⟨k, rfl, hk, ho, hb, hz⟩ := hrel
      by_cases hlt : k < l.length
      · obtain ⟨b, off, rfl, hbl, hc⟩ := H.out.at_ hlt
        have HST := Lib.hid (inv_step l k hlt)
        have hc' := hc.keep (hb.block b hbl)
        clear hc
        generalize l[k] = n at hc' HST
        obtain ⟨nx, ny, no, nn⟩ := n
        obtain ⟨d0, d1, d2, d3⟩ := hc'
        simp only [Ch.flip] at d0 d1 d2 d3 HST
        obtain ⟨q, hq, hqi⟩ : ∃ q : Nat, l.length - 1 - k = q ∧ (l.length : Int) - 1 - k = q := ⟨l.length - 1 - k, rfl, by omega⟩
        rw [hq] at HST
        have hql : (q : Int) < l.length := by omega
        obtain ⟨g, eg, _, _, hcg, hfg⟩ := ho.at_ (j := q) (by simp; omega)
        cases eg
        have HS := Lib.hid (ho.store (j := q) (by simp; omega) ⟨nx, ny, nn, no⟩)
        have HBA := Lib.hid (hb.grown HS.out.2 hb.size (fun j hj => by cases hj; exact Nat.le_refl _))
        have hf0 := hfg (q * 4)
        have hf1 := hfg (q * 4 + 1)
        have hf2 := hfg (q * 4 + 2)
        have hf3 := hfg (q * 4 + 3)
        obtain ⟨g0, g1, g2, g3⟩ := hcg
        have hzb : b < wr.heap.size := by have := hb.size; omega
        clear ho hfg hb hq
        go_wp2
        go_roundw
        case rel => exact ⟨k + 1, by go_num, by omega, by rw [← HST.out]; exact HS.out.1.alloc _, HBA.out.alloc HBA.out.size _, by simp; omega⟩
        case measure => simp [intOf]; omega
      · have ek : k = l.length := by omega
        subst ek
        have HO := Lib.hid ho
        have HB := Lib.hid hb
        have e : List.replicate (l.length - l.length) zeroCh ++ ((l.take l.length).map Ch.flip).reverse = invL l := by simp [invL, h64]
        clear ho hb
        go_wp2
        go_ret
        rw [e] at HO
        have hlen : (invL l).length = l.length := by unfold invL; rw [if_pos h64]; simp
        refine ⟨some ⟨w.heap.size, 0, none⟩, l.length, by rw [hlen]; rfl, ?_, HB.out⟩
        rw [hlen]
        exact HO.out
  · have HE : Hid (invL l = []) := by show _ = _; simp [invL, h64]
    have hgb : decide ((64 : Int) < l.length) = true := decide_eq_true (by omega)
    go_enter Try.func9, Try.ntmps9
    go_wp2
    go_ret
    rw [HE.out]
    exact ⟨none, 0, rfl, OwnCh.nil _ _, Below.refl _ _⟩

theorem oneSide_eq (sa sb : Int) (A' : Option Addr) (c' : Nat) (la lb : List Int) : ([(⟨sb, A', c', lb⟩ : Gd)].all (Gd.fits sa) && gridRight sa la) = oneSide sa la sb lb := by
  simp only [List.all_cons, List.all_nil, Gd.fits, oneSide, Bool.and_true]
  by_cases h : sa = sb
  · subst h
    cases gridRight sa la <;> cases gridRight sa lb <;> simp
  · have h1 : (sa == sb) = false := by simpa using h
    have h2 : (sb == sa) = false := by simpa using fun e => h e.symm
    rw [h1, h2]
    simp
theorem sq_in {side : Int} {l : List Int} (h : gridRight side l = true) : IntKind.i64.wrap (side * side) = l.length := by
  obtain ⟨hs, hl, _⟩ := right_parts h
  rw [← hl]
  exact IntWalk.i64_in _ (by have := right_len h; omega)

set_option maxRecDepth 100000 in
set_option maxHeartbeats 1000000 in
theorem pDiffOf_any (sa : Int) (A : Option Addr) (c : Nat) (la : List Int) (sb : Int) (A' : Option Addr) (c' : Nat) (lb : List Int) (w : World) (h : RI w w.heap.size A la) (h' : RI w w.heap.size A' lb) (hl : la.length ≤ 1000000000) (hl' : lb.length ≤ 1000000000) :
    Calls Try.prog 6 #[.agg #[.int .i64 sa, .slice A la.length c], .agg #[.int .i64 sb, .slice A' lb.length c']] w fun e w' => COut w w' (diffOf sa la sb lb) e := by
  obtain ⟨i0, hi, hz0, hz1, hz2⟩ := info_parts Try.infoCh
  have H := Lib.hid h
  have H' := Lib.hid h'
  clear h h'
  have HP0 := Lib.hid (PP.made w sa sb (.slice A la.length c) (.slice A' lb.length c') 25 25)
  have hba : Below ((w.alloc (.cells #[.int .i64 sa, .slice A la.length c] 25)).alloc (.cells #[.int .i64 sb, .slice A' lb.length c'] 25)).heap.size ((w.alloc (.cells #[.int .i64 sa, .slice A la.length c] 25)).alloc (.cells #[.int .i64 sb, .slice A' lb.length c'] 25)) (((w.alloc (.cells #[.int .i64 sa, .slice A la.length c] 25)).alloc (.cells #[.int .i64 sb, .slice A' lb.length c'] 25)).alloc (.cells #[.int .i64 sb, .slice A' lb.length c'] 25)) := (Below.refl _ _).alloc (Nat.le_refl _) _
  have HP1 := Lib.hid (HP0.out.below hba)
  have HX := Lib.hid (GB.made ((w.alloc (.cells #[.int .i64 sa, .slice A la.length c] 25)).alloc (.cells #[.int .i64 sb, .slice A' lb.length c'] 25)) sb (.slice A' lb.length c') 25)
  simp only [alloc_size] at HX
  have HG : Hid (RG (((w.alloc (.cells #[.int .i64 sa, .slice A la.length c] 25)).alloc (.cells #[.int .i64 sb, .slice A' lb.length c'] 25)).alloc (.cells #[.int .i64 sb, .slice A' lb.length c'] 25)) (((w.alloc (.cells #[.int .i64 sa, .slice A la.length c] 25)).alloc (.cells #[.int .i64 sb, .slice A' lb.length c'] 25)).alloc (.cells #[.int .i64 sb, .slice A' lb.length c'] 25)).heap.size (w.heap.size + 1 + 1) [⟨sb, A', c', lb⟩]) := by
    refine ⟨by simp, fun j hj => ?_⟩
    obtain rfl : j = 0 := by simpa using hj
    exact ⟨HX.out.c0, HX.out.c1, H'.out.below' HP1.out.bel, hl'⟩
  have hOS := fun h => pOneSide_any sa A c la (w.heap.size + 1 + 1) 1 [⟨sb, A', c', lb⟩] (((w.alloc (.cells #[.int .i64 sa, .slice A la.length c] 25)).alloc (.cells #[.int .i64 sb, .slice A' lb.length c'] 25)).alloc (.cells #[.int .i64 sb, .slice A' lb.length c'] 25)) h hl HG.out (by simp)
  rw [oneSide_eq] at hOS
  simp only [List.length_singleton] at hOS
  have HOS := Lib.hid hOS
  clear hOS hba
  cases ho : oneSide sa la sb lb
  · have HE : Hid (diffOf sa la sb lb = []) := by show _ = _; simp [diffOf, ho]
    rw [ho] at HOS
    clear ho
    go_enter Try.func6, Try.ntmps6
    go_wp2_with fail
    refine (HOS.out (H.out.below' HP1.out.bel)).mono ?_
    rintro e w1 ⟨rfl, hb1⟩
    have HP2 := Lib.hid (HP1.out.below hb1)
    clear hb1 HP0 HP1 HOS HX HG
    go_wp2
    go_ret
    rw [HE.out]
    exact ⟨none, 0, rfl, OwnCh.nil _ _, HP2.out.bel⟩
  · have HE : Hid (diffOf sa la sb lb = diffTo sa la lb la.length) := by show _ = _; simp [diffOf, ho]
    rw [ho] at HOS
    rw [HE.out]
    obtain ⟨hra, hrb, rfl⟩ := oneSide_parts ho
    have h64 := right_len hra
    have HLL : Hid (lb.length = la.length) := by show _ = _; have h1 := (right_parts hra).2.1; have h2 := (right_parts hrb).2.1; omega
    have hsq := sq_in hra
    obtain ⟨hs1, hs8⟩ := side_bound (right_parts hra).1
    clear ho hra hrb
    go_enter Try.func6, Try.ntmps6
    go_wp2_with fail
    refine (HOS.out (H.out.below' HP1.out.bel)).mono ?_
    rintro e w1 ⟨rfl, hb1⟩
    have HP2 := Lib.hid (HP1.out.below hb1)
    have hz2' : w.heap.size + 1 + 1 ≤ w1.heap.size := by have := hb1.size; simp at this; omega
    clear hb1 HP0 HP1 HOS HX HG
    have HD0 := Lib.hid (HP2.out.di (OwnCh.nil w1 (w.heap.size + 1 + 1)) (by omega) hz2')
    obtain ⟨⟨a0, a1, _, _⟩, ⟨b0, b1, _, _⟩, _, _⟩ := HP2.out
    go_wp2
    go_loopw [5, 17] (fun v i wr => ∃ (k : Nat) (A2 : Option Addr) (c2 : Nat), i = .int .i64 k ∧ k ≤ la.length ∧ v = .slice A2 (diffTo sa la lb k).length c2 ∧ DI w sa (.slice A la.length c) sa (.slice A' lb.length c') (w.heap.size + 1 + 1) v (diffTo sa la lb k) wr) (fun _ i _ => la.length - (intOf i).toNat)
    case atStart => exact ⟨0, none, 0, rfl, Nat.zero_le _, rfl, HD0.out⟩
    case round =>
      obtain ⟨k, A2, c2, rfl, hk, rfl, hd⟩ := hrel
      have HD := Lib.hid hd
      clear a0 a1 b0 b1 HP2
      obtain ⟨a0, a1, a2⟩ := hd.two
      have hle : (diffTo sa la lb k).length ≤ 1000000 := by have := diffTo_len sa la lb k; omega
      clear HD0
      by_cases hlt : k < la.length
      · obtain ⟨b, off, rfl, hbl, hc⟩ := H.out.at_ hlt
        have hlt' : k < lb.length := by rw [HLL.out]; exact hlt
        obtain ⟨b', off', rfl, hbl', hc'⟩ := H'.out.at_ hlt'
        have HS : Hid (diffTo sa la lb (k + 1) = diffTo sa la lb k ++ diffAt sa la lb k) := rfl
        have HDA : Hid (diffAt sa la lb k = if la[k] = lb[k] then [] else [⟨(k : Int) % sa, (k : Int) / sa, la[k], lb[k]⟩]) := by show _ = _; unfold diffAt; rw [getD_at hlt, getD_at hlt']
        generalize la[k] = x at hc HDA
        generalize lb[k] = y at hc' HDA
        have HC := Lib.hid hc
        have HC' := Lib.hid hc'
        have hk1 : wr.cell? ⟨b, off + k, none⟩ = some (.int .i64 x) := (hd.bel.cell (p := ⟨b, off + k, none⟩) hbl).trans hc
        have hk2 : wr.cell? ⟨b', off' + k, none⟩ = some (.int .i64 y) := (hd.bel.cell (p := ⟨b', off' + k, none⟩) hbl').trans hc'
        have hlb : (k : Int) < la.length := by omega
        have hlb' : (k : Int) < lb.length := by omega
        clear hd hc hc' hlt'
        by_cases hxy : x = y
        · subst hxy
          go_wp2_with fail
          go_quiet (fail)
          go_wp2
          go_roundw
          case rel =>
            have e : diffTo sa la lb (k + 1) = diffTo sa la lb k := by rw [HS.out, HDA.out]; simp
            refine ⟨k + 1, A2, c2, by go_num, by omega, by rw [e], by rw [e]; exact HD.out.below (below_drewN _ _ _)⟩
          case measure => simp [intOf]; omega
        · have hxb : (x != y) = true := by simpa using hxy
          go_wp2_with fail
          go_quiet (fail)
          have HD1 := Lib.hid (HD.out.below (below_drewN _ wr nq))
          clear a0 a1 a2 hk1 hk2 HD
          generalize wr.drewN nq = w2 at *
          obtain ⟨a0, a1, a2⟩ := HD1.out.two
          have hk1 : w2.cell? ⟨b, off + k, none⟩ = some (.int .i64 x) := (HD1.out.bel.cell (p := ⟨b, off + k, none⟩) hbl).trans HC.out
          have hk2 : w2.cell? ⟨b', off' + k, none⟩ = some (.int .i64 y) := (HD1.out.bel.cell (p := ⟨b', off' + k, none⟩) hbl').trans HC'.out
          have hCA := pChangeAt_any sa k x y w2.drew hs1 hs8 (by omega)
          have hzw : w.heap.size + 1 < w2.heap.size := by have := HD1.out.siz; omega
          go_wp2_with fail
          go_region_held3 (fun w' => w'.cell? ⟨w.heap.size, 0, none⟩ = some (.int .i64 sa) ∧ w'.cell? ⟨w.heap.size, 1, none⟩ = some (.slice (some ⟨b, off, none⟩) la.length c) ∧ w'.cell? ⟨w.heap.size + 1, 1, none⟩ = some (.slice (some ⟨b', off', none⟩) lb.length c') ∧ w'.cell? ⟨b, off + k, none⟩ = some (.int .i64 x) ∧ w'.cell? ⟨b', off' + k, none⟩ = some (.int .i64 y))
            (first | exact hk4 | exact hk3 | go_keep)
            (first
              | (refine step_appendCh hi hz0 hz1 hz2 (by rfl) _ _ (by rfl) (w.heap.size + 1 + 1) _ (diffTo sa la lb k) ⟨(k : Int) % sa, (k : Int) / sa, x, y⟩ _ w3.heap.size (HD3.out.below ((Below.refl _ _).alloc (Nat.le_refl _) (.cells #[.int .i64 ((k : Int) % sa), .int .i64 ((k : Int) / sa), .int .i64 x, .int .i64 y] 53))).own (by simp [Act.eval]) (by simp [Act.eval]) (madeCh' w3 ((k : Int) % sa) ((k : Int) / sa) x y) hle (by have := HD3.out.siz; simp <;> omega) ?_; intro g cap w4 hown4 hg4 hlies; have HD4 := Lib.hid ((HD3.out.below ((Below.refl _ _).alloc (Nat.le_refl _) (.cells #[.int .i64 ((k : Int) % sa), .int .i64 ((k : Int) / sa), .int .i64 x, .int .i64 y] 53))).grown hg4 hown4); have hk4 := And.intro HD4.out.two.1 (And.intro HD4.out.two.2.1 (And.intro HD4.out.two.2.2 (And.intro ((HD4.out.bel.cell (p := ⟨b, off + k, none⟩) hbl).trans HC.out) ((HD4.out.bel.cell (p := ⟨b', off' + k, none⟩) hbl').trans HC'.out)))))
              | (go_at_call 24; refine hCA.mono ?_; rintro e w3 ⟨rfl, hb3⟩; have HD3 := Lib.hid (HD1.out.drew.below hb3); clear hb3; have hk3 := And.intro HD3.out.two.1 (And.intro HD3.out.two.2.1 (And.intro HD3.out.two.2.2 (And.intro ((HD3.out.bel.cell (p := ⟨b, off + k, none⟩) hbl).trans HC.out) ((HD3.out.bel.cell (p := ⟨b', off' + k, none⟩) hbl').trans HC'.out)))); have hzb : b < w3.heap.size := Nat.lt_of_lt_of_le hbl HD3.out.bel.size; have hzb' : b' < w3.heap.size := Nat.lt_of_lt_of_le hbl' HD3.out.bel.size; have hzw : w.heap.size + 1 < w3.heap.size := Nat.lt_of_lt_of_le HD3.out.siz.1 HD3.out.siz.2; have hzv : w.heap.size < w3.heap.size := Nat.lt_of_succ_lt hzw))
          all_goals
            clear hown4 hg4 hlies hk4 hk3 a0 a1 a2 hk1 hk2
            go_wp2
            go_roundw
            case rel =>
              have e : diffTo sa la lb (k + 1) = diffTo sa la lb k ++ [⟨(k : Int) % sa, (k : Int) / sa, x, y⟩] := by rw [HS.out, HDA.out, if_neg hxy]
              refine ⟨k + 1, some ⟨g, 0, none⟩, cap, by go_num, by omega, by rw [e]; simp, by rw [e]; exact HD4.out⟩
            case measure => simp [intOf]; omega
      · have ek : k = la.length := by omega
        subst ek
        clear hd
        go_wp2
        go_ret
        exact ⟨_, _, rfl, OwnCh.lower (by omega) HD.out.own, HD.out.bel⟩
end Go.Proofs.Ythhadbojepcdjaa
