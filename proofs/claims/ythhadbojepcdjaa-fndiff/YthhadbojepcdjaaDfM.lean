/- The model's changes: taken back; between two maps. -/
import Derived.Test.YthhadbojepcdjaaDfL
import Derived.Test.YthhadbojepcdjaaGWalkS
import Derived.Deep.RegionHeld3
namespace Go.Proofs.Ythhadbojepcdjaa
open Go.RowKit
set_option linter.unusedVariables false

/-- What is handed back: a list of changes of its own. -/
def COut (w w' : World) (l : List Ch) (e : Ending) : Prop := ∃ A c, e = .returned (.slice A l.length c) ∧ OwnCh w' w.heap.size (.slice A l.length c) l ∧ Below w.heap.size w w'

theorem OwnCh.none_lit (w : World) (base : Nat) (hb : base ≤ w.heap.size) : OwnCh (w.alloc (.cells #[] 53)) base (.slice (some ⟨w.heap.size, 0, none⟩) 0 0) [] := by
  have := World.ownsRow_lit (e := 53) (size := 4) (base := base) w #[] 0 hb (by simp) (by simp)
  simpa [OwnCh] using this
theorem madeCh (w : World) (x y o n : Int) : ChAt (w.alloc (.cells #[.int .i64 x, .int .i64 y, .int .i64 o, .int .i64 n] 53)).drew w.heap.size 0 ⟨x, y, o, n⟩ :=
  ⟨by simp [go_sem], by simp [go_sem], by simp [go_sem], by simp [go_sem]⟩

theorem madeCh' (w : World) (x y o n : Int) : ChAt (w.alloc (.cells #[.int .i64 x, .int .i64 y, .int .i64 o, .int .i64 n] 53)) w.heap.size 0 ⟨x, y, o, n⟩ :=
  ⟨by simp [go_sem], by simp [go_sem], by simp [go_sem], by simp [go_sem]⟩

set_option maxRecDepth 100000 in
set_option maxHeartbeats 1000000 in
theorem mInvert_any (A : Option Addr) (c : Nat) (l : List Ch) (w : World) (h : RCh w w.heap.size A l) (hl : l.length ≤ 1000000000) :
    Calls Try.prog 15 #[.slice A l.length c] w fun e w' => COut w w' (invL l) e := by
  obtain ⟨i0, hi, hz0, hz1, hz2⟩ := info_parts Try.infoCh
  have H := Lib.hid h
  clear h
  by_cases h64 : l.length ≤ 64
  · go_enter Try.func15, Try.ntmps15
    go_wp2
    have hb0 : Below w.heap.size w (w.alloc (.cells #[] 53)) := (Below.refl _ _).alloc (Nat.le_refl _) _
    have ho0 := OwnCh.none_lit w w.heap.size (Nat.le_refl _)
    generalize w.alloc (.cells #[] 53) = W at *
    go_loopw [3, 4] (fun v i wr => ∃ (k : Nat) (A' : Option Addr) (c' : Nat), i = .int .i64 ((l.length : Int) - 1 - k) ∧ k ≤ l.length ∧ v = .slice A' (invTo l k).length c' ∧ OwnCh wr w.heap.size v (invTo l k) ∧ Below w.heap.size w wr) (fun _ i _ => ((intOf i) + 1).toNat)
    case atStart => exact ⟨0, _, _, by simp, Nat.zero_le _, rfl, ho0, hb0⟩
    case round =>
      obtain ⟨k, A', c', rfl, hk, rfl, ho, hb⟩ := hrel
      have hle : (invTo l k).length ≤ 1000000 := by have : (invTo l k).length ≤ k := by simp [invTo]; omega
                                                    omega
      by_cases hlt : k < l.length
      · obtain ⟨b, off, rfl, hbl, hc⟩ := H.out.at_ (j := l.length - 1 - k) (by omega)
        have HST := Lib.hid (invTo_step l k hlt)
        generalize hnk : l[l.length - 1 - k] = n at hc HST
        clear hnk
        obtain ⟨nx, ny, no, nn⟩ := n
        obtain ⟨q, hq⟩ : ∃ q : Nat, (l.length : Int) - 1 - k = q ∧ l.length - 1 - k = q := ⟨l.length - 1 - k, by omega, rfl⟩
        rw [hq.2] at hc
        rw [hq.1]
        have HC := Lib.hid hc
        obtain ⟨d0, d1, d2, d3⟩ := hc.keep (hb.block b hbl)
        have hql : q < l.length := by omega
        have HQ := Lib.hid hq
        have HOA := Lib.hid ((ho.alloc (.cells #[.int .i64 nx, .int .i64 ny, .int .i64 nn, .int .i64 no] 53)).drew)
        have HNA := Lib.hid (madeCh wr nx ny nn no)
        have HBA := Lib.hid ((hb.alloc hb.size (.cells #[.int .i64 nx, .int .i64 ny, .int .i64 nn, .int .i64 no] 53)).drew)
        have hbz := HBA.out.size
        clear ho hb hq hc
        simp only at d0 d1 d2 d3
        go_wp2_with fail
        go_region_held3 (fun w' => w'.cell? ⟨b, off + q * 4, none⟩ = some (.int .i64 nx) ∧ w'.cell? ⟨b, off + q * 4 + 1, none⟩ = some (.int .i64 ny) ∧ w'.cell? ⟨b, off + q * 4 + 2, none⟩ = some (.int .i64 no) ∧ w'.cell? ⟨b, off + q * 4 + 3, none⟩ = some (.int .i64 nn))
          (first | exact hk2 | go_keep)
          ((refine step_appendCh hi hz0 hz1 hz2 (by rfl) _ _ (by rfl) w.heap.size _ (invTo l k) ⟨nx, ny, nn, no⟩ _ wr.heap.size HOA.out (by simp [Act.eval]) (by simp [Act.eval]) HNA.out hle hbz ?_; intro g cap w2 hown2 hg2 hlies; have HB2 := Lib.hid (HBA.out.grown hg2 hbz (fun k hk => (HOA.out.lt k hk).1)); have hk2 := (HC.out.keep (HB2.out.block b hbl)).parts))
        all_goals
          have HW2 := Lib.hid hown2
          clear hown2 hg2 hlies hk2 d0 d1 d2 d3
          go_wp2
          go_roundw
          case rel =>
            refine ⟨k + 1, some ⟨g, 0, none⟩, cap, by have := HQ.out.1; go_num, by omega, ?_, ?_, HB2.out⟩
            · rw [HST.out]; simp
            · rw [HST.out]; exact HW2.out
          case measure => simp [intOf] <;> omega
      · have ek : k = l.length := by omega
        subst ek
        have HO := Lib.hid ho
        have HB := Lib.hid hb
        clear ho hb
        go_wp2
        go_ret
        rw [invTo_all l h64] at HO ⊢
        exact ⟨_, _, rfl, HO.out, HB.out⟩
  · have HE : Hid (invL l = []) := by show _ = _; simp [invL, h64]
    have hgt : ¬ (l.length : Int) ≤ 64 := by omega
    have hgb : decide ((l.length : Int) ≤ 64) = false := decide_eq_false hgt
    clear hgt
    go_enter Try.func15, Try.ntmps15
    go_wp2
    have hb0 : Below w.heap.size w (w.alloc (.cells #[] 53)) := (Below.refl _ _).alloc (Nat.le_refl _) _
    have ho0 := OwnCh.none_lit w w.heap.size (Nat.le_refl _)
    generalize w.alloc (.cells #[] 53) = W at *
    go_loopw [3, 4] (fun v i wr => v = .slice (some ⟨w.heap.size, 0, none⟩) 0 0 ∧ i = .int .i64 ((l.length : Int) - 1) ∧ OwnCh wr w.heap.size v [] ∧ Below w.heap.size w wr) (fun _ _ _ => 0)
    case atStart => exact ⟨rfl, rfl, ho0, hb0⟩
    case round =>
      obtain ⟨rfl, rfl, ho, hb⟩ := hrel
      have HO := Lib.hid ho
      have HB := Lib.hid hb
      clear ho hb
      go_wp2
      go_ret
      rw [HE.out]
      exact ⟨_, _, rfl, HO.out, HB.out⟩

/-- Two maps in their boxes, a list of changes that grows. -/
structure DI (w : World) (sa : Int) (va : Value) (sb : Int) (vb : Value) (B : Nat) (v : Value) (l : List Ch) (wr : World) : Prop where
  a : GB wr w.heap.size sa va
  b : GB wr (w.heap.size + 1) sb vb
  own : OwnCh wr B v l
  bel : Below w.heap.size w wr
  siz : w.heap.size + 1 < B ∧ B ≤ wr.heap.size
theorem DI.below {w : World} {sa sb : Int} {va vb v : Value} {B : Nat} {l : List Ch} {wr wr' : World} (h : DI w sa va sb vb B v l wr) (hb : Below wr.heap.size wr wr') : DI w sa va sb vb B v l wr' := by
  obtain ⟨z1, z2⟩ := h.siz
  exact ⟨h.a.below hb (by omega), h.b.below hb (by omega), h.own.keep hb, h.bel.trans (hb.mono h.bel.size), z1, Nat.le_trans z2 hb.size⟩
theorem DI.drew {w : World} {sa sb : Int} {va vb v : Value} {B : Nat} {l : List Ch} {wr : World} (h : DI w sa va sb vb B v l wr) : DI w sa va sb vb B v l wr.drew := h.below (Below.refl _ _).drew
theorem DI.grown {w : World} {sa sb : Int} {va vb v v' : Value} {B : Nat} {l l' : List Ch} {wr wr' : World} (h : DI w sa va sb vb B v l wr) (hg : wr.grownBy wr' v.ownBlock) (ho : OwnCh wr' B v' l') : DI w sa va sb vb B v' l' wr' := by
  obtain ⟨z1, z2⟩ := h.siz
  have hl := fun k hk => (h.own.lt k hk).1
  refine ⟨h.a.grown hg (by omega) (fun e => ?_), h.b.grown hg (by omega) (fun e => ?_), ho, h.bel.grown hg h.bel.size (fun k hk => ?_), z1, Nat.le_trans z2 hg.size⟩
  · have := hl _ e; omega
  · have := hl _ e; omega
  · have := hl _ hk; omega
theorem DI.two {w : World} {sa sb : Int} {va vb v : Value} {B : Nat} {l : List Ch} {wr : World} (h : DI w sa va sb vb B v l wr) : wr.cell? ⟨w.heap.size, 0, none⟩ = some (.int .i64 sa) ∧ wr.cell? ⟨w.heap.size, 1, none⟩ = some va ∧ wr.cell? ⟨w.heap.size + 1, 1, none⟩ = some vb := ⟨h.a.c0, h.a.c1, h.b.c1⟩
theorem below_drewN (B : Nat) (w : World) (n : Nat) : Below B w (w.drewN n) := ⟨rfl, rfl, rfl, Nat.le_refl _, fun _ _ => rfl⟩
theorem PP.di {w : World} {sa sb : Int} {va vb v : Value} {wr : World} {l : List Ch} {B : Nat} (h : PP w sa sb va vb wr) (ho : OwnCh wr B v l) (h1 : w.heap.size + 1 < B) (h2 : B ≤ wr.heap.size) : DI w sa va sb vb B v l wr := ⟨h.p, h.p', ho, h.bel, h1, h2⟩
theorem PP.made (w : World) (sa sb : Int) (va vb : Value) (t t' : TypeId) : PP w sa sb va vb ((w.alloc (.cells #[.int .i64 sa, va] t)).alloc (.cells #[.int .i64 sb, vb] t')) := by
  refine ⟨(GB.made w sa va t).below ((Below.refl _ _).alloc (B := w.heap.size + 1) (by simp) _) (by omega), ?_, ((Below.refl _ _).alloc (Nat.le_refl _) _).alloc (by simp) _, by simp⟩
  have := GB.made (w.alloc (.cells #[.int .i64 sa, va] t)) sb vb t'
  rw [alloc_size] at this
  exact this

theorem wrap_div {k : Nat} {side : Int} (hk : k ≤ 1000000) (hs : 1 ≤ side) : IntKind.i64.wrap ((k : Int) / side) = (k : Int) / side := by
  have h0 := Int.ediv_nonneg (show (0 : Int) ≤ k by omega) (show 0 ≤ side by omega)
  have h1 := Int.ediv_le_self side (show (0 : Int) ≤ k by omega)
  exact IntWalk.i64_in _ (by omega)
theorem getD_at {l : List Int} {k : Nat} (h : k < l.length) : l.getD k 0 = l[k] := by simp [List.getD, h]

set_option maxRecDepth 100000 in
set_option maxHeartbeats 1000000 in
theorem mL04Diff_any (side : Int) (A A' : Option Addr) (c c' : Nat) (la lb : List Int) (w : World) (h : RI w w.heap.size A la) (h' : RI w w.heap.size A' lb) (hl : la.length ≤ 64) (hll : lb.length = la.length) (hs : sideOk side = true) :
    Calls Try.prog 26 #[.agg #[.int .i64 side, .slice A la.length c], .agg #[.int .i64 side, .slice A' lb.length c']] w fun e w' => COut w w' (diffTo side la lb la.length) e := by
  obtain ⟨i0, hi, hz0, hz1, hz2⟩ := info_parts Try.infoCh
  have H := Lib.hid h
  have H' := Lib.hid h'
  have HLL := Lib.hid hll
  have hll' : (lb.length : Int) = la.length := by omega
  obtain ⟨hs1, hs8⟩ := side_bound hs
  have hne : ¬ side = 0 := by omega
  clear h h' hll
  rw [HLL.out]
  go_enter Try.func26, Try.ntmps26
  go_wp2
  have HP0 := Lib.hid (PP.made w side side (.slice A la.length c) (.slice A' la.length c') 25 25)
  have HD0 := Lib.hid ((HP0.out.below ((Below.refl _ _).alloc (Nat.le_refl _) (.cells #[] 53))).di (OwnCh.none_lit _ (w.heap.size + 1 + 1) (by simp)) (by omega) (by simp))
  simp only [alloc_size] at HD0
  go_loopw [5, 6] (fun v i wr => ∃ (k : Nat) (A2 : Option Addr) (c2 : Nat), i = .int .i64 k ∧ k ≤ la.length ∧ v = .slice A2 (diffTo side la lb k).length c2 ∧ DI w side (.slice A la.length c) side (.slice A' la.length c') (w.heap.size + 1 + 1) v (diffTo side la lb k) wr) (fun _ i _ => la.length - (intOf i).toNat)
  case atStart => exact ⟨0, _, _, rfl, Nat.zero_le _, rfl, HD0.out⟩
  case round =>
    obtain ⟨k, A2, c2, rfl, hk, rfl, hd⟩ := hrel
    have HD := Lib.hid hd
    obtain ⟨a0, a1, a2⟩ := hd.two
    have hle : (diffTo side la lb k).length ≤ 1000000 := by have := diffTo_len side la lb k; omega
    clear HD0 HP0
    by_cases hlt : k < la.length
    · obtain ⟨b, off, rfl, hbl, hc⟩ := H.out.at_ hlt
      have hlt' : k < lb.length := by rw [HLL.out]; exact hlt
      obtain ⟨b', off', rfl, hbl', hc'⟩ := H'.out.at_ hlt'
      have HS : Hid (diffTo side la lb (k + 1) = diffTo side la lb k ++ diffAt side la lb k) := rfl
      have HDA : Hid (diffAt side la lb k = if la[k] = lb[k] then [] else [⟨(k : Int) % side, (k : Int) / side, la[k], lb[k]⟩]) := by show _ = _; unfold diffAt; rw [getD_at hlt, getD_at hlt']
      generalize la[k] = x at hc HDA
      generalize lb[k] = y at hc' HDA
      have HC := Lib.hid hc
      have HC' := Lib.hid hc'
      have hk1 : wr.cell? ⟨b, off + k, none⟩ = some (.int .i64 x) := (hd.bel.cell (p := ⟨b, off + k, none⟩) hbl).trans hc
      have hk2 : wr.cell? ⟨b', off' + k, none⟩ = some (.int .i64 y) := (hd.bel.cell (p := ⟨b', off' + k, none⟩) hbl').trans hc'
      have hlb : (k : Int) < la.length := by omega
      clear hd hc hc' hlt'
      by_cases hxy : x = y
      · have HXY := Lib.hid hxy
        subst hxy
        go_wp2_with fail
        go_quiet (fail)
        go_wp2
        go_roundw
        case rel =>
          have e : diffTo side la lb (k + 1) = diffTo side la lb k := by rw [HS.out, HDA.out]; simp
          refine ⟨k + 1, A2, c2, by go_num, by omega, by rw [e], by rw [e]; exact HD.out.below (below_drewN _ _ _)⟩
        case measure => simp [intOf] <;> omega
      · have hxb : (x != y) = true := by simpa using hxy
        have hxn : ¬ x = y := hxy
        go_wp2_with fail
        go_quiet (fail)
        have HD1 := Lib.hid (HD.out.below (below_drewN _ wr nq))
        clear a0 a1 a2 hk1 hk2 HD
        generalize wr.drewN nq = w1 at *
        obtain ⟨a0, a1, a2⟩ := HD1.out.two
        have hk1 : w1.cell? ⟨b, off + k, none⟩ = some (.int .i64 x) := (HD1.out.bel.cell (p := ⟨b, off + k, none⟩) hbl).trans HC.out
        have hk2 : w1.cell? ⟨b', off' + k, none⟩ = some (.int .i64 y) := (HD1.out.bel.cell (p := ⟨b', off' + k, none⟩) hbl').trans HC'.out
        have HDA1 := Lib.hid ((HD1.out.below ((Below.refl _ _).alloc (Nat.le_refl _) (.cells #[.int .i64 ((k : Int) % side), .int .i64 ((k : Int) / side), .int .i64 x, .int .i64 y] 53))).drew)
        have HNA := Lib.hid (madeCh w1 ((k : Int) % side) ((k : Int) / side) x y)
        have hzw : w.heap.size + 1 < w1.heap.size := by have := HD1.out.siz; omega
        have hzb : b < w1.heap.size := by omega
        have hzb' : b' < w1.heap.size := by omega
        have hzv : w.heap.size < w1.heap.size := by omega
        have htm : (k : Int).tmod side = (k : Int) % side := Int.tmod_eq_emod_of_nonneg (by omega)
        have hdv : IntKind.i64.wrap ((k : Int) / side) = (k : Int) / side := wrap_div (by omega) hs1
        go_wp2_with fail
        go_region_held3 (fun w' => w'.cell? ⟨w.heap.size, 0, none⟩ = some (.int .i64 side) ∧ w'.cell? ⟨w.heap.size, 1, none⟩ = some (.slice (some ⟨b, off, none⟩) la.length c) ∧ w'.cell? ⟨w.heap.size + 1, 1, none⟩ = some (.slice (some ⟨b', off', none⟩) la.length c') ∧ w'.cell? ⟨b, off + k, none⟩ = some (.int .i64 x) ∧ w'.cell? ⟨b', off' + k, none⟩ = some (.int .i64 y))
          (first | exact hk3 | go_keep)
          ((refine step_appendCh hi hz0 hz1 hz2 (by rfl) _ _ (by rfl) (w.heap.size + 1 + 1) _ (diffTo side la lb k) ⟨(k : Int) % side, (k : Int) / side, x, y⟩ _ w1.heap.size HDA1.out.own (by simp [Act.eval]) (by simp [Act.eval]) HNA.out hle HDA1.out.siz.2 ?_; intro g cap w2 hown2 hg2 hlies; have HD2 := Lib.hid (HDA1.out.grown hg2 hown2); have hk3 := And.intro HD2.out.two.1 (And.intro HD2.out.two.2.1 (And.intro HD2.out.two.2.2 (And.intro ((HD2.out.bel.cell (p := ⟨b, off + k, none⟩) hbl).trans HC.out) ((HD2.out.bel.cell (p := ⟨b', off' + k, none⟩) hbl').trans HC'.out))))))
        all_goals
          clear hown2 hg2 hlies hk3 a0 a1 a2 hk1 hk2 HDA1 HNA
          go_wp2
          go_roundw
          case rel =>
            have e : diffTo side la lb (k + 1) = diffTo side la lb k ++ [⟨(k : Int) % side, (k : Int) / side, x, y⟩] := by rw [HS.out, HDA.out, if_neg hxn]
            refine ⟨k + 1, some ⟨g, 0, none⟩, cap, by go_num, by omega, by rw [e]; simp, by rw [e]; exact HD2.out⟩
          case measure => simp [intOf] <;> omega
    · have ek : k = la.length := by omega
      subst ek
      clear hd
      go_wp2
      go_ret
      exact ⟨_, _, rfl, OwnCh.lower (by omega) HD.out.own, HD.out.bel⟩


theorem oneSide_parts {sa sb : Int} {la lb : List Int} (h : oneSide sa la sb lb = true) : gridRight sa la = true ∧ gridRight sb lb = true ∧ sa = sb := by
  simp only [oneSide, Bool.and_eq_true, beq_iff_eq] at h
  exact ⟨h.1.1, h.1.2, h.2⟩
set_option maxRecDepth 100000 in
set_option maxHeartbeats 1000000 in
theorem mDiffOf_any (sa : Int) (A : Option Addr) (c : Nat) (la : List Int) (sb : Int) (A' : Option Addr) (c' : Nat) (lb : List Int) (w : World) (h : RI w w.heap.size A la) (h' : RI w w.heap.size A' lb) (hl : la.length ≤ 1000000000) (hl' : lb.length ≤ 1000000000) :
    Calls Try.prog 11 #[.agg #[.int .i64 sa, .slice A la.length c], .agg #[.int .i64 sb, .slice A' lb.length c']] w fun e w' => COut w w' (diffOf sa la sb lb) e := by
  have H := Lib.hid h
  have H' := Lib.hid h'
  clear h h'
  have HP0 := Lib.hid (PP.made w sa sb (.slice A la.length c) (.slice A' lb.length c') 25 25)
  have hra := fun w h => mRight_any sa A c la w h hl
  have hrb := fun w h => mRight_any sb A' c' lb w h hl'
  cases ha : gridRight sa la
  · rw [ha] at hra
    have HE : Hid (diffOf sa la sb lb = []) := by show _ = _; simp [diffOf, oneSide, ha]
    clear ha
    go_enter Try.func11, Try.ntmps11
    go_wp2_with fail
    refine (hra _ (H.out.below' HP0.out.bel)).mono ?_
    rintro e w1 ⟨rfl, hb1⟩
    have HP1 := Lib.hid (HP0.out.below hb1)
    clear hb1 HP0
    go_wp2
    go_ret
    rw [HE.out]
    exact ⟨_, _, rfl, OwnCh.lower HP1.out.bel.size (OwnCh.none_lit w1 w1.heap.size (Nat.le_refl _)), HP1.out.bel.alloc HP1.out.bel.size _⟩
  · cases hb : gridRight sb lb
    · rw [ha] at hra
      rw [hb] at hrb
      have HE : Hid (diffOf sa la sb lb = []) := by show _ = _; simp [diffOf, oneSide, hb]
      clear ha hb
      go_enter Try.func11, Try.ntmps11
      go_wp2_with fail
      refine (hra _ (H.out.below' HP0.out.bel)).mono ?_
      rintro e w1 ⟨rfl, hb1⟩
      have HP1 := Lib.hid (HP0.out.below hb1)
      clear hb1 HP0
      obtain ⟨⟨a0, a1, _, _⟩, ⟨b0, b1, _, _⟩, _, _⟩ := HP1.out
      go_wp2_with fail
      refine (hrb _ (H'.out.below' HP1.out.bel)).mono ?_
      rintro e w2 ⟨rfl, hb2⟩
      have HP2 := Lib.hid (HP1.out.below hb2)
      clear hb2 HP1 a0 a1 b0 b1
      go_wp2
      go_ret
      rw [HE.out]
      exact ⟨_, _, rfl, OwnCh.lower HP2.out.bel.size (OwnCh.none_lit w2 w2.heap.size (Nat.le_refl _)), HP2.out.bel.alloc HP2.out.bel.size _⟩
    · rw [ha] at hra
      rw [hb] at hrb
      by_cases hs : sa = sb
      · subst hs
        have h64 := right_len ha
        have hll : lb.length = la.length := by have h1 := (right_parts ha).2.1; have h2 := (right_parts hb).2.1; omega
        have hD := fun w h h' => mL04Diff_any sa A A' c c' la lb w h h' h64 hll (right_parts ha).1
        have HE : Hid (diffOf sa la sa lb = diffTo sa la lb la.length) := by show _ = _; simp [diffOf, oneSide, ha, hb]
        rw [HE.out]
        clear ha hb hll
        go_enter Try.func11, Try.ntmps11
        go_wp2_with fail
        refine (hra _ (H.out.below' HP0.out.bel)).mono ?_
        rintro e w1 ⟨rfl, hb1⟩
        have HP1 := Lib.hid (HP0.out.below hb1)
        clear hb1 HP0
        obtain ⟨⟨a0, a1, _, _⟩, ⟨b0, b1, _, _⟩, _, _⟩ := HP1.out
        go_wp2_with fail
        refine (hrb _ (H'.out.below' HP1.out.bel)).mono ?_
        rintro e w2 ⟨rfl, hb2⟩
        have HP2 := Lib.hid (HP1.out.below hb2)
        clear hb2 HP1 a0 a1 b0 b1
        obtain ⟨⟨a0, a1, _, _⟩, ⟨b0, b1, _, _⟩, _, _⟩ := HP2.out
        go_wp2_with fail
        refine (hD _ (H.out.below' HP2.out.bel) (H'.out.below' HP2.out.bel)).mono ?_
        rintro e w3 ⟨A3, c3, rfl, ho3, hb3⟩
        have HO3 := Lib.hid ho3
        have HB3 := Lib.hid (HP2.out.bel.trans (hb3.mono HP2.out.bel.size))
        have HZ3 := Lib.hid HP2.out.bel.size
        clear ho3 hb3 HP2 a0 a1 b0 b1
        go_wp2
        go_ret
        exact ⟨_, _, rfl, OwnCh.lower HZ3.out HO3.out, HB3.out⟩
      · have hsb : (sa != sb) = true := by simpa using hs
        have HE : Hid (diffOf sa la sb lb = []) := by show _ = _; simp [diffOf, oneSide, hs]
        clear ha hb
        go_enter Try.func11, Try.ntmps11
        go_wp2_with fail
        refine (hra _ (H.out.below' HP0.out.bel)).mono ?_
        rintro e w1 ⟨rfl, hb1⟩
        have HP1 := Lib.hid (HP0.out.below hb1)
        clear hb1 HP0
        obtain ⟨⟨a0, a1, _, _⟩, ⟨b0, b1, _, _⟩, _, _⟩ := HP1.out
        go_wp2_with fail
        refine (hrb _ (H'.out.below' HP1.out.bel)).mono ?_
        rintro e w2 ⟨rfl, hb2⟩
        have HP2 := Lib.hid (HP1.out.below hb2)
        clear hb2 HP1 a0 a1 b0 b1
        obtain ⟨⟨a0, a1, _, _⟩, ⟨b0, b1, _, _⟩, _, _⟩ := HP2.out
        go_wp2
        go_ret
        rw [HE.out]
        exact ⟨_, _, rfl, OwnCh.lower HP2.out.bel.size (OwnCh.none_lit w2 w2.heap.size (Nat.le_refl _)), HP2.out.bel.alloc HP2.out.bel.size _⟩
end Go.Proofs.Ythhadbojepcdjaa
