/- The exact law of PoolPut, walked for any program whose function keeps its contract. -/
import Derived.Test.YtbcnfohbiagfpaaPPV
import Derived.Deep.CutRange
import Derived.Deep.RegionWith
import Derived.Deep.RegionHeld3
namespace Go.Proofs.Ytbcnfohbiagfpaa
open Go.RowKit
set_option linter.unusedVariables false

theorem AR.held {w : World} {a : Option Addr} {n cap : Nat} {side : Int} {ag : Option Addr} {ng capg : Nat} {wr : World} (h : AR w a n cap side ag ng capg wr) : wr.cell? ⟨w.heap.size, 0, none⟩ = some (.slice a n cap) ∧ wr.cell? ⟨w.heap.size + 1, 0, none⟩ = some (.int .i64 side) ∧ wr.cell? ⟨w.heap.size + 1, 1, none⟩ = some (.slice ag ng capg) := ⟨h.p0, h.g0, h.g1⟩
theorem OwnN.nat {w : World} {base g n c : Nat} {l : List Nd} (h : OwnN w base (.slice (some ⟨g, 0, none⟩) n c) l) : NAt w g 0 l := by
  refine ⟨(World.ownsRow.lt h g rfl).2, fun j hj => ?_⟩
  obtain ⟨g', e, _, _, hc, _⟩ := h.at_ hj
  cases e
  simpa using hc
/-- The contract of PoolPut, of the program and of the model. -/
def PoolPutDoes (fn : Nat) : Prop := ∀ (b off c cg : Nat) (l : List Nd) (side : Int) (A' : Option Addr) (tiles : List Int) (w : World), NAt w b off l → l.length ≤ 1048576 → l.length ≤ c → (∀ n ∈ l, n.Fits) → RI w w.heap.size A' tiles → tiles.length ≤ 1048576 →
  Calls Try.prog fn #[.agg #[.slice (some ⟨b, off, none⟩) l.length c], .agg #[.int .i64 side, .slice A' tiles.length cg]] w (POut w (putP l side tiles))
theorem putP_len {l : List Nd} {side : Int} {tiles : List Int} : (putP l side tiles).2.2.length ≤ 200 := by
  unfold putP
  split
  · dsimp only
    split
    · assumption
    · simp
  · simp

set_option maxRecDepth 100000 in
set_option maxHeartbeats 1000000 in
theorem poolPut_walk (hspec : PoolPutDoes 31) (himpl : PoolPutDoes 34)
    (a : Option Addr) (cap : Nat) (l : List Nd) (side : Int) (ag : Option Addr) (capg : Nat) (tiles : List Int) (w : World) (w0 : InPool w a l) (w1 : InGrid w side ag tiles) :
    Calls Try.prog 5 #[.agg #[.slice a l.length cap], .agg #[.int .i64 side, .slice ag tiles.length capg]] w fun e w' => e = .returned (.bool true) ∧ Below w.heap.size w w' := by
  obtain ⟨hri, hlm, hfit⟩ := w0
  obtain ⟨_, hrg, hgm, _⟩ := w1
  unfold maxLen at hlm hgm
  have HR := Lib.hid hri
  have HG := Lib.hid hrg
  have HF := Lib.hid hfit
  clear hri hrg hfit
  have HA0 := Lib.hid (AR.made w a l.length cap side ag tiles.length capg)
  have hsz := fun w => szPool_any 1048576 a l.length cap w (by omega) (by decide) (by decide)
  by_cases hl : (l.length : Int) ≤ 1048576
  · rw [if_pos hl] at hsz
    have hleft : (0 : Int) ≤ 1048576 - l.length := by omega
    have hsg := fun w => szGrid_any side (1048576 - l.length) ag tiles.length capg w (by omega) hleft (by omega)
    by_cases hg : (tiles.length : Int) ≤ 1048576 - l.length
    · rw [if_pos hg] at hsg
      have hlef2 : (0 : Int) ≤ 1048576 - l.length - tiles.length := by omega
      have HTP : Hid (∀ wr, AR w a l.length cap side ag tiles.length capg wr → Calls Try.prog 32 #[.agg #[.slice a l.length cap]] wr (ToPoolPost wr l)) := fun wr h => toPool_any a cap l wr ((HR.out.below h.bel).mono h.bel.size) (by omega)
      have HTG : Hid (∀ wr, AR w a l.length cap side ag tiles.length capg wr → Calls Try.prog 33 #[.agg #[.int .i64 side, .slice ag tiles.length capg]] wr (ToGridPost wr side tiles)) := fun wr h => toGrid_any side ag capg tiles wr ((HG.out.below h.bel).mono h.bel.size) (by omega)
      have HM : Hid (∀ (g g' lo lo' : Nat) (wr : World), OwnN wr lo (.slice (some ⟨g, 0, none⟩) l.length l.length) l → OwnI 2 .i64 wr lo' (.slice (some ⟨g', 0, none⟩) tiles.length tiles.length) tiles → Calls Try.prog 31 #[.agg #[.slice (some ⟨g, 0, none⟩) l.length l.length], .agg #[.int .i64 side, .slice (some ⟨g', 0, none⟩) tiles.length tiles.length]] wr (POut wr (putP l side tiles))) := fun g g' lo lo' wr h h' => hspec g 0 l.length tiles.length l side _ tiles wr h.nat (by omega) (Nat.le_refl _) HF.out h'.ri (by omega)
      have HI : Hid (∀ (g g' lo lo' : Nat) (wr : World), OwnN wr lo (.slice (some ⟨g, 0, none⟩) l.length l.length) l → OwnI 2 .i64 wr lo' (.slice (some ⟨g', 0, none⟩) tiles.length tiles.length) tiles → Calls Try.prog 34 #[.agg #[.slice (some ⟨g, 0, none⟩) l.length l.length], .agg #[.int .i64 side, .slice (some ⟨g', 0, none⟩) tiles.length tiles.length]] wr (POut wr (putP l side tiles))) := fun g g' lo lo' wr h h' => himpl g 0 l.length tiles.length l side _ tiles wr h.nat (by omega) (Nat.le_refl _) HF.out h'.ri (by omega)
      have hLL := putP_len (l := l) (side := side) (tiles := tiles)
      generalize putP l side tiles = RES at *
      obtain ⟨C, Rt, L⟩ := RES
      simp only at hLL
      go_enter Try.func5, Try.ntmps5
      go_wp2_with fail
      refine (hsz _).mono ?_
      rintro e w1 ⟨rfl, hb1⟩
      have HA1 := Lib.hid (HA0.out.below hb1)
      clear hb1
      have g0 := HA1.out.g0
      have g1 := HA1.out.g1
      go_wp2_with fail
      refine (hsg _).mono ?_
      rintro e w2 ⟨rfl, hb2⟩
      have HA2 := Lib.hid (HA1.out.below hb2)
      clear hb2 g0 g1 HA0 HA1 hsz hsg
      have p0 := HA2.out.p0
      have g0 := HA2.out.g0
      have g1 := HA2.out.g1
      have hs2 := HA2.out.siz
      have hs2' : w.heap.size < w2.heap.size := by omega
      go_wp2_with fail
      go_cut [6] from 24 to 28 (fun c wx => ∃ (q : Nat) (A1 : Option Addr) (c1 : Nat), c = .pointer (some ⟨q, 0, none⟩) ∧ AN w a l.length cap side ag tiles.length capg w2 q (.slice A1 L.length c1) Rt C L wx)
      case first =>
        clear p0 g0 g1
        have A2 := (AB.mk (W0 := w2) HA2.out (Below.refl _ _)).drew
        have A2z := (ZB.made (AB.mk (W0 := w2) HA2.out (Below.refl _ _))).drew
        have hk := A2.ar.held
        go_region_held3 (fun w' => w'.cell? ⟨w.heap.size, 0, none⟩ = some (.slice a l.length cap) ∧ w'.cell? ⟨w.heap.size + 1, 0, none⟩ = some (.int .i64 side) ∧ w'.cell? ⟨w.heap.size + 1, 1, none⟩ = some (.slice ag tiles.length capg))
          (first
            | (with_reducible exact hk)
            | (with_reducible exact A2.ar.held)
            | exact A2z.ab.ar.held
            | exact (ZB.made A3).ab.ar.held
            | exact (ZB.made A4).ab.ar.held
            | exact (B5.below ((Below.refl _ _).alloc (Nat.le_refl _) _)).ar.held
            | exact ⟨(World.cell?_setCell_other _ _ _ _ (by simp <;> omega)).trans ((World.cell?_setCell_other _ _ _ _ (by simp <;> omega)).trans ((World.cell?_setCell_other _ _ _ _ (by simp <;> omega)).trans hk.1)), (World.cell?_setCell_other _ _ _ _ (by simp <;> omega)).trans ((World.cell?_setCell_other _ _ _ _ (by simp <;> omega)).trans ((World.cell?_setCell_other _ _ _ _ (by simp <;> omega)).trans hk.2.1)), (World.cell?_setCell_other _ _ _ _ (by simp <;> omega)).trans ((World.cell?_setCell_other _ _ _ _ (by simp <;> omega)).trans ((World.cell?_setCell_other _ _ _ _ (by simp <;> omega)).trans hk.2.2))⟩)
          (first
          | (go_at_call 32; refine (HTP.out w2.drew (by with_reducible exact A2.ar)).mono ?_; rintro e w3 ⟨g3, rfl, ho3, hb3⟩; have A3 := A2.below hb3; clear hb3; have hk := A3.ar.held; have y3 := A3.ar.siz)
          | (go_at_call 32; refine (HTP.out _ (by with_reducible exact A2z.ab.ar)).mono ?_; rintro e w3 ⟨g3, rfl, ho3, hb3⟩; have A3z := A2z.below hb3; clear hb3; have hk := A3z.ab.ar.held; have y3 := A3z.ab.ar.siz)
          | (go_at_call 33; refine (HTG.out w3 (by with_reducible exact A3.ar)).mono ?_; rintro e w4 ⟨g4, rfl, ho4, hb4⟩; have A4 := A3.below hb4; have ho34 := ho3.keep hb4; have hk := A4.ar.held; clear hb4)
          | (go_at_call 33; refine (HTG.out w3 (by with_reducible exact A3z.ab.ar)).mono ?_; rintro e w4 ⟨g4, rfl, ho4, hb4⟩; have A4z := A3z.below hb4; have ho34 := ho3.keep hb4; have hk := A4z.ab.ar.held; clear hb4)
          | (go_at_call 33; refine (HTG.out _ (by with_reducible exact (ZB.made A3).ab.ar)).mono ?_; rintro e w4 ⟨g4, rfl, ho4, hb4⟩; have A4z := (ZB.made A3).below hb4; have ho34 := (ho3.alloc _).keep hb4; have hk := A4z.ab.ar.held; clear hb4)
          | (go_at_call 31; refine (HM.out _ _ _ _ w4 (by with_reducible exact ho34) (by with_reducible exact ho4)).mono ?_; rintro e w5 ⟨A5, c5, rfl, ho5, hb5⟩; simp only at ho5; have B5 := A4.below hb5; have hk := B5.ar.held; clear hb5)
          | (go_at_call 31; refine (HM.out _ _ _ _ w4 (by with_reducible exact ho34) (by with_reducible exact ho4)).mono ?_; rintro e w5 ⟨A5, c5, rfl, ho5, hb5⟩; simp only at ho5; have Z5 := A4z.below hb5; have q5 := A4z.lt; obtain ⟨s0, s1, s2⟩ := Z5.po; have t0 := Z5.fz 0; have t1 := Z5.fz 1; have t2 := Z5.fz 2; have hz5 := Z5.lt; have hq5 := Z5.hq; have hk := Z5.ab.ar.held; clear hb5)
          | (go_at_call 31; refine (HM.out _ _ _ _ _ (by with_reducible exact ho34.alloc _) (by with_reducible exact ho4.alloc _)).mono ?_; rintro e w5 ⟨A5, c5, rfl, ho5, hb5⟩; simp only at ho5; have Z5 := (ZB.made A4).below hb5; have q5 := (ZB.made A4).lt; obtain ⟨s0, s1, s2⟩ := Z5.po; have t0 := Z5.fz 0; have t1 := Z5.fz 1; have t2 := Z5.fz 2; have hz5 := Z5.lt; have hq5 := Z5.hq; have hk := Z5.ab.ar.held; clear hb5))
        all_goals
          clear hk
          go_wp2_with fail
          go_meet
          first
            | exact ⟨_, A5, c5, rfl, AN.new B5 ho5 A4.nb.size⟩
            | exact ⟨_, A5, c5, rfl, Z5.fill ho5 q5 hs2⟩
      case rest =>
        obtain ⟨q, A1, c1, rfl, hAN⟩ := hcut
        rename_i hcutu
        have HN := Lib.hid hAN
        clear hAN p0 g0 g1
        have p0 := HN.out.ab.ar.p0
        go_wp2_with fail
        refine (HTP.out wc HN.out.ab.ar).mono ?_
        rintro e w5 ⟨g5, rfl, ho5, hb5⟩
        have hba5 : Below w5.heap.size w5 (w5.alloc (.cells #[(.slice (some ⟨g5, 0, none⟩) l.length l.length)] 58)) := (Below.refl _ _).alloc (Nat.le_refl _) _
        have z5 : wc.heap.size ≤ w5.heap.size := hb5.size
        have hb5' := hb5.trans (hba5.mono z5)
        have HAR5 := Lib.hid (HN.out.ab.ar.below hb5')
        have HPO5 := Lib.hid (HN.out.po.below hb5' HN.out.lt)
        have HO15 := Lib.hid (HN.out.own.keep hb5')
        have HOX5 := Lib.hid (ho5.alloc (.cells #[(.slice (some ⟨g5, 0, none⟩) l.length l.length)] 58))
        have HIX : Hid (Lies (.slice (some ⟨g5, 0, none⟩) l.length l.length) wc.heap.size w5.heap.size) := World.ownsRow.lt ho5
        have HI1 : Hid (Lies (.slice A1 L.length c1) w2.heap.size wc.heap.size) := World.ownsRow.lt HN.out.own
        have HX5 := Lib.hid (B1.made w5 (.slice (some ⟨g5, 0, none⟩) l.length l.length) 58)
        clear hb5 ho5 hba5 hb5' p0
        have g0 := HAR5.out.g0
        have g1 := HAR5.out.g1
        go_wp2_with fail
        refine (HTG.out _ HAR5.out).mono ?_
        rintro e w6 ⟨g6, rfl, ho6, hb6⟩
        simp only [alloc_size] at ho6
        have hba6 : Below w6.heap.size w6 (w6.alloc (.cells #[.int .i64 side, (.slice (some ⟨g6, 0, none⟩) tiles.length tiles.length)] 25)) := (Below.refl _ _).alloc (Nat.le_refl _) _
        have z6 : w5.heap.size + 1 ≤ w6.heap.size := by have := hb6.size; simp at this; omega
        have hb6' := hb6.trans (hba6.mono hb6.size)
        have HAR6 := Lib.hid (HAR5.out.below hb6')
        have HPO6 := Lib.hid (HPO5.out.below hb6' (by have := HN.out.lt; simp; omega))
        have HO16 := Lib.hid (HO15.out.keep hb6')
        have HOX6 := Lib.hid (HOX5.out.keep hb6')
        have HOY6 := Lib.hid (ho6.alloc (.cells #[.int .i64 side, (.slice (some ⟨g6, 0, none⟩) tiles.length tiles.length)] 25))
        have HIY : Hid (Lies (.slice (some ⟨g6, 0, none⟩) tiles.length tiles.length) (w5.heap.size + 1) w6.heap.size) := World.ownsRow.lt ho6
        have HX6 := Lib.hid (HX5.out.below hb6' (by simp))
        have HY6 := Lib.hid (GB.made w6 side (.slice (some ⟨g6, 0, none⟩) tiles.length tiles.length) 25)
        clear hb6 ho6 hba6 hb6' g0 g1 HAR5 HPO5 HO15 HOX5 HX5
        have x0 := HX6.out.c0
        obtain ⟨y0, y1, _, _⟩ := HY6.out
        go_wp2_with fail
        refine (HI.out _ _ _ _ _ HOX6.out HOY6.out).mono ?_
        rintro e w7 ⟨A7, c7, rfl, ho7, hb7⟩
        simp only [alloc_size] at ho7
        have hba7 : Below w7.heap.size w7 (w7.alloc (.cells #[.slice A7 L.length c7, .int .i64 Rt, .int .i64 C] 60)) := (Below.refl _ _).alloc (Nat.le_refl _) _
        have z7 : w6.heap.size + 1 ≤ w7.heap.size := by have := hb7.size; simp at this; omega
        have hb7' := hb7.trans (hba7.mono hb7.size)
        have HT : Hid (TS w a l.length cap side ag tiles.length capg w2.heap.size q wc.heap.size w5.heap.size w6.heap.size w7.heap.size (.slice A1 L.length c1) (.slice (some ⟨g5, 0, none⟩) l.length l.length) (.slice (some ⟨g6, 0, none⟩) tiles.length tiles.length) (.slice A7 L.length c7) Rt C L l tiles L (w7.alloc (.cells #[.slice A7 L.length c7, .int .i64 Rt, .int .i64 C] 60))) :=
          TS.mk (HAR6.out.below hb7') (HPO6.out.below hb7' (by have := HN.out.lt; simp; omega)) (PO.made _ _ _ _ _) (HX6.out.below hb7' (by simp; omega)) (HY6.out.below hb7' (by simp)) (HO16.out.keep hb7') (HOX6.out.keep hb7') (HOY6.out.keep hb7') (ho7.alloc _) HN.out.nq HI1.out HIX.out HIY.out (World.ownsRow.lt ho7) ⟨hs2, HN.out.hq, HN.out.lt, z5, by omega, by omega⟩ (by simp)
        clear hb7 ho7 hba7 hb7' x0 y0 y1 HAR6 HPO6 HO16 HOX6 HOY6 HX6 HY6 HIX HIY HI1 HN HA2 z5 z6 z7
        obtain ⟨p0, p1, p2⟩ := HT.out.po
        obtain ⟨q0, q1, q2⟩ := HT.out.pg
        go_wp2_with fail
        clear p0 p1 p2 q0 q1 q2
        generalize hbx : w5.heap.size = bx at *
        generalize hgy : w6.heap.size = gy at *
        generalize w7.alloc (.cells #[.slice A7 L.length c7, .int .i64 Rt, .int .i64 C] 60) = W at *
        generalize hbg : w7.heap.size = bg at *
        clear hbx hgy hbg
        refine (eqPoolOut_any Rt C A7 A1 c7 c1 L W HT.out.o2.rn HT.out.o1.rn (by omega)).mono ?_
        rintro e w8 ⟨rfl, hb8⟩
        have HT8 := Lib.hid (HT.out.below hb8)
        clear hb8 HT
        have p0 := HT8.out.ar.p0
        have x0 := HT8.out.x.c0
        go_wp2_with fail
        have HT9 := Lib.hid (HTP.out w8.drew HT8.out.drew.ar)
        go_region_held3 (fun w' => w'.cell? ⟨bx, 0, none⟩ = some (.slice (some ⟨g5, 0, none⟩) l.length l.length) ∧ w'.cell? ⟨w.heap.size, 0, none⟩ = some (.slice a l.length cap))
          (first
            | go_keep
            | exact hk9
            | exact hk10)
          (first
            | (go_at_call 32; refine HT9.out.mono ?_; rintro e w9 ⟨g9, rfl, ho9, hb9⟩; have HS9 := Lib.hid (HT8.out.drew.below hb9); have hk9 := And.intro HS9.out.x.c0 HS9.out.ar.p0)
            | (go_at_call 36; refine (eqPool_any _ _ l.length l.length l w9 HS9.out.ox.rn ho9.rn (by omega)).mono ?_; rintro e w10 ⟨rfl, hb10⟩; have HS10 := Lib.hid (HS9.out.below hb10); have hk10 := And.intro HS10.out.x.c0 HS10.out.ar.p0))
        rename_i hheld
        clear hheld hk9 hk10 ho9 hb9 hb10 HT9 HT8 HS9 p0 x0
        obtain ⟨y0, y1, _, _⟩ := HS10.out.y
        have g0 := HS10.out.ar.g0
        have g1 := HS10.out.ar.g1
        go_wp2_with fail
        have HT11 := Lib.hid (HTG.out w10.drew HS10.out.drew.ar)
        go_region_held3 (fun w' => w'.cell? ⟨gy, 0, none⟩ = some (.int .i64 side) ∧ w'.cell? ⟨gy, 1, none⟩ = some (.slice (some ⟨g6, 0, none⟩) tiles.length tiles.length) ∧ w'.cell? ⟨w.heap.size + 1, 0, none⟩ = some (.int .i64 side) ∧ w'.cell? ⟨w.heap.size + 1, 1, none⟩ = some (.slice ag tiles.length capg))
          (first
            | go_keep
            | exact hk11
            | exact hk12)
          (first
            | (go_at_call 33; refine HT11.out.mono ?_; rintro e w11 ⟨g11, rfl, ho11, hb11⟩; have HS11 := Lib.hid (HS10.out.drew.below hb11); have hk11 := And.intro HS11.out.y.c0 (And.intro HS11.out.y.c1 (And.intro HS11.out.ar.g0 HS11.out.ar.g1)))
            | (go_at_call 37; refine (eqGrid_any side _ _ tiles.length tiles.length tiles w11 HS11.out.oy.ri ho11.ri (by omega)).mono ?_; rintro e w12 ⟨rfl, hb12⟩; have HS12 := Lib.hid (HS11.out.below hb12); have hk12 := And.intro HS12.out.y.c0 (And.intro HS12.out.y.c1 (And.intro HS12.out.ar.g0 HS12.out.ar.g1))))
        rename_i hheld
        clear hheld hk11 hk12 ho11 hb11 hb12 HT11 HS10 HS11 y0 y1 g0 g1
        have x0 := HS12.out.x.c0
        go_wp2_with fail
        refine (markPool_any _ l.length wc.heap.size 1 l w12 HS12.out.ox (by omega) (by decide)).mono ?_
        rintro e w13 ⟨rfl, ho13, hg13⟩
        have HS13 := Lib.hid (HS12.out.markX ho13 hg13)
        clear ho13 hg13 HS12 x0
        obtain ⟨y0, y1, _, _⟩ := HS13.out.y
        have hkk : 1 + 5 * l.length ≤ 1000000000 := by omega
        go_wp2_with fail
        refine (markGrid_any side _ tiles.length (bx + 1) (1 + 5 * l.length) tiles w13 HS13.out.oy (by omega) hkk).mono ?_
        rintro e w14 ⟨rfl, ho14, hg14⟩
        have HS14 := Lib.hid (HS13.out.markY ho14 hg14)
        clear ho14 hg14 HS13 y0 y1 hkk
        obtain ⟨p0, p1, p2⟩ := HS14.out.po
        obtain ⟨q0, q1, q2⟩ := HS14.out.pg
        go_wp2_with fail
        refine (eqPoolOut_any Rt C A7 A1 c7 c1 L w14 HS14.out.o2.rn HS14.out.o1.rn (by omega)).mono ?_
        rintro e w15 ⟨rfl, hb15⟩
        have HS15 := Lib.hid (HS14.out.below hb15)
        clear hb15 p0 p1 p2 q0 q1 q2 HS14
        obtain ⟨q0, q1, q2⟩ := HS15.out.pg
        go_wp2_with fail
        refine (markPoolOut_any Rt C A7 c7 (gy + 1) 1 L w15 HS15.out.o2 (by omega) (by decide)).mono ?_
        rintro e w16 ⟨rfl, ho16, hg16⟩
        have HS16 := Lib.hid (HS15.out.markG ho16 hg16)
        clear ho16 hg16 HS15 q0 q1 q2
        obtain ⟨q0, q1, q2⟩ := HS16.out.pg
        go_wp2_with fail
        refine (heldPoolOut_any Rt C A7 c7 1 L.length w16 HS16.out.o2.rn (by omega) (by decide)).mono ?_
        rintro e w17 ⟨rfl, hb17⟩
        have HS17 := Lib.hid (HS16.out.below hb17)
        clear hb17 HS16 q0 q1 q2
        have hs17 := HS17.out.ar.siz
        have hs17' : w.heap.size < w17.heap.size := by omega
        go_wp2_with fail
        go_cut [13] from 75 to 79 (fun c wx => ∃ (q' : Nat) (A' : Option Addr) (c' : Nat), c = .pointer (some ⟨q', 0, none⟩) ∧ AN w a l.length cap side ag tiles.length capg w17 q' (.slice A' L.length c') Rt C L wx)
        case first =>
          have A2 := (AB.mk (W0 := w17) HS17.out.ar (Below.refl _ _)).drew
          have A2z := (ZB.made (AB.mk (W0 := w17) HS17.out.ar (Below.refl _ _))).drew
          have hk := A2.ar.held
          go_region_held3 (fun w' => w'.cell? ⟨w.heap.size, 0, none⟩ = some (.slice a l.length cap) ∧ w'.cell? ⟨w.heap.size + 1, 0, none⟩ = some (.int .i64 side) ∧ w'.cell? ⟨w.heap.size + 1, 1, none⟩ = some (.slice ag tiles.length capg))
            (first
              | (with_reducible exact hk)
              | (with_reducible exact A2.ar.held)
              | exact A2z.ab.ar.held
              | exact (ZB.made A3).ab.ar.held
              | exact (ZB.made A4).ab.ar.held
              | exact (B5.below ((Below.refl _ _).alloc (Nat.le_refl _) _)).ar.held
              | exact ⟨(World.cell?_setCell_other _ _ _ _ (by simp <;> omega)).trans ((World.cell?_setCell_other _ _ _ _ (by simp <;> omega)).trans ((World.cell?_setCell_other _ _ _ _ (by simp <;> omega)).trans hk.1)), (World.cell?_setCell_other _ _ _ _ (by simp <;> omega)).trans ((World.cell?_setCell_other _ _ _ _ (by simp <;> omega)).trans ((World.cell?_setCell_other _ _ _ _ (by simp <;> omega)).trans hk.2.1)), (World.cell?_setCell_other _ _ _ _ (by simp <;> omega)).trans ((World.cell?_setCell_other _ _ _ _ (by simp <;> omega)).trans ((World.cell?_setCell_other _ _ _ _ (by simp <;> omega)).trans hk.2.2))⟩)
            (first
            | (go_at_call 32; refine (HTP.out w17.drew (by with_reducible exact A2.ar)).mono ?_; rintro e w3 ⟨g3, rfl, ho3, hb3⟩; have A3 := A2.below hb3; clear hb3; have hk := A3.ar.held; have y3 := A3.ar.siz)
            | (go_at_call 32; refine (HTP.out _ (by with_reducible exact A2z.ab.ar)).mono ?_; rintro e w3 ⟨g3, rfl, ho3, hb3⟩; have A3z := A2z.below hb3; clear hb3; have hk := A3z.ab.ar.held; have y3 := A3z.ab.ar.siz)
            | (go_at_call 33; refine (HTG.out w3 (by with_reducible exact A3.ar)).mono ?_; rintro e w4 ⟨g4, rfl, ho4, hb4⟩; have A4 := A3.below hb4; have ho34 := ho3.keep hb4; have hk := A4.ar.held; clear hb4)
            | (go_at_call 33; refine (HTG.out w3 (by with_reducible exact A3z.ab.ar)).mono ?_; rintro e w4 ⟨g4, rfl, ho4, hb4⟩; have A4z := A3z.below hb4; have ho34 := ho3.keep hb4; have hk := A4z.ab.ar.held; clear hb4)
            | (go_at_call 33; refine (HTG.out _ (by with_reducible exact (ZB.made A3).ab.ar)).mono ?_; rintro e w4 ⟨g4, rfl, ho4, hb4⟩; have A4z := (ZB.made A3).below hb4; have ho34 := (ho3.alloc _).keep hb4; have hk := A4z.ab.ar.held; clear hb4)
            | (go_at_call 34; refine (HI.out _ _ _ _ w4 (by with_reducible exact ho34) (by with_reducible exact ho4)).mono ?_; rintro e w5 ⟨A5, c5, rfl, ho5, hb5⟩; simp only at ho5; have B5 := A4.below hb5; have hk := B5.ar.held; clear hb5)
            | (go_at_call 34; refine (HI.out _ _ _ _ w4 (by with_reducible exact ho34) (by with_reducible exact ho4)).mono ?_; rintro e w5 ⟨A5, c5, rfl, ho5, hb5⟩; simp only at ho5; have Z5 := A4z.below hb5; have q5 := A4z.lt; obtain ⟨s0, s1, s2⟩ := Z5.po; have t0 := Z5.fz 0; have t1 := Z5.fz 1; have t2 := Z5.fz 2; have hz5 := Z5.lt; have hq5 := Z5.hq; have hk := Z5.ab.ar.held; clear hb5)
            | (go_at_call 34; refine (HI.out _ _ _ _ _ (by with_reducible exact ho34.alloc _) (by with_reducible exact ho4.alloc _)).mono ?_; rintro e w5 ⟨A5, c5, rfl, ho5, hb5⟩; simp only at ho5; have Z5 := (ZB.made A4).below hb5; have q5 := (ZB.made A4).lt; obtain ⟨s0, s1, s2⟩ := Z5.po; have t0 := Z5.fz 0; have t1 := Z5.fz 1; have t2 := Z5.fz 2; have hz5 := Z5.lt; have hq5 := Z5.hq; have hk := Z5.ab.ar.held; clear hb5))
          all_goals
            clear hk
            go_wp2_with fail
            go_meet
            first
              | exact ⟨_, A5, c5, rfl, AN.new B5 ho5 A4.nb.size⟩
              | exact ⟨_, A5, c5, rfl, Z5.fill ho5 q5 hs17⟩
        case rest =>
          obtain ⟨q', A', c', rfl, hAN⟩ := hcut
          rename_i hcutu2
          have HN := Lib.hid hAN
          have HS18 := Lib.hid (HS17.out.below HN.out.ab.nb)
          clear hAN HS17
          obtain ⟨p0, p1, p2⟩ := HS18.out.po
          obtain ⟨h0, h1, h2⟩ := HN.out.po
          go_wp2_with fail
          rename_i wd _ _ _ _ _ _
          refine (eqPoolOut_any Rt C A' A1 c' c1 L _ HN.out.own.rn HS18.out.o1.rn (by omega)).mono ?_
          rintro e w19 ⟨rfl, hb19⟩
          have HS19 := Lib.hid (HS18.out.below hb19)
          clear hb19 p0 p1 p2 h0 h1 h2 HS18 HN
          obtain ⟨q0, q1, q2⟩ := HS19.out.pg
          go_wp2_with fail
          refine (heldPoolOut_any Rt C A7 c7 1 L.length w19 HS19.out.o2.rn (by omega) (by decide)).mono ?_
          rintro e w20 ⟨rfl, hb20⟩
          have HS20 := Lib.hid (HS19.out.below hb20)
          clear hb20 HS19 q0 q1 q2
          go_wp2_with fail
          go_ret
          exact ⟨rfl, HS20.out.ar.bel⟩
    · rw [if_neg hg] at hsg
      go_enter Try.func5, Try.ntmps5
      go_wp2_with fail
      refine (hsz _).mono ?_
      rintro e w1 ⟨rfl, hb1⟩
      have HA1 := Lib.hid (HA0.out.below hb1)
      clear hb1
      have g0 := HA1.out.g0
      have g1 := HA1.out.g1
      go_wp2_with fail
      refine (hsg _).mono ?_
      rintro e w2 ⟨rfl, hb2⟩
      have HA2 := Lib.hid (HA1.out.below hb2)
      clear hb2 g0 g1 HA0 HA1 hsz hsg
      go_wp2_with fail
      go_ret
      exact ⟨rfl, HA2.out.bel⟩
  · rw [if_neg hl] at hsz
    go_enter Try.func5, Try.ntmps5
    go_wp2_with fail
    refine (hsz _).mono ?_
    rintro e w1 ⟨rfl, hb1⟩
    have HA1 := Lib.hid (HA0.out.below hb1)
    clear hb1
    go_wp2_with fail
    go_ret
    exact ⟨rfl, HA1.out.bel⟩
end Go.Proofs.Ytbcnfohbiagfpaa
