/- The model's pools: a square is put in. -/
import Derived.Test.YtoobkajilbmdhaaDoorAddM
namespace Go.Proofs.YtoobkajilbmdhaaDoor
open Go.RowKit
set_option linter.unusedVariables false

/-- The tile at a place of a map of side sn. -/
def tileF (sn : Nat) (tiles : List Int) (x y : Nat) : Int := tiles.getD (y * sn + x) 0
/-- How many nodes a square may bring. -/
def cnt : Nat → Nat
  | 0 => 1
  | d + 1 => 4 * cnt d + 1
theorem msq_len (T : Nat → Nat → Int) : ∀ (d x y : Nat) (l : List Nd), (msq T d x y l).1.length ≤ l.length + cnt d
  | 0, x, y, l => addN_len _ _
  | d + 1, x, y, l => by
    rw [msq]
    have h1 := msq_len T d x y l
    have h2 := msq_len T d (x + 2 ^ d) y (msq T d x y l).1
    have h3 := msq_len T d x (y + 2 ^ d) (msq T d (x + 2 ^ d) y (msq T d x y l).1).1
    have h4 := msq_len T d (x + 2 ^ d) (y + 2 ^ d) (msq T d x (y + 2 ^ d) (msq T d (x + 2 ^ d) y (msq T d x y l).1).1).1
    split
    · have := addN_len l (leafOfT (T x y)); simp only [cnt]; omega
    · simp only [cnt]
      refine Nat.le_trans (addN_len _ _) ?_
      omega
/-- The state of a square call: the pool, the map in its box. -/
structure QS (W0 : World) (base p b : Nat) (v0 : Value) (A : Option Addr) (cg sn : Nat) (tiles : List Int) (v : Value) (l : List Nd) (wr : World) : Prop where
  ps : PS base p v l wr
  pg : PG p p v0 v W0 wr
  g0 : wr.cell? ⟨b, 0, none⟩ = some (.int .i64 sn)
  g1 : wr.cell? ⟨b, 1, none⟩ = some (.slice A tiles.length cg)
  ri : RI wr base A tiles
theorem QS.step {W0 : World} {base p b : Nat} {v0 : Value} {A : Option Addr} {cg sn : Nat} {tiles : List Int} {v v' : Value} {l l' : List Nd} {wr wr' : World} (h : QS W0 base p b v0 A cg sn tiles v l wr) (hp : PS base p v' l' wr') (hg : PG p p v v' wr wr') (hb : b < W0.heap.size) (hbp : b ≠ p) (hbv : v0.ownBlock ≠ some b) : QS W0 base p b v0 A cg sn tiles v' l' wr' :=
  have hr := h.pg.row b hb hbv
  have hbw := Nat.lt_of_lt_of_le hb h.pg.size
  ⟨hp, h.pg.trans hg, (hg.cell (a := ⟨b, 0, none⟩) hbw hbp hbp hr).trans h.g0, (hg.cell (a := ⟨b, 1, none⟩) hbw hbp hbp hr).trans h.g1, h.ri.below (hg.base (Nat.le_trans h.ps.hb (Nat.le_of_lt h.ps.lt)) h.ps.hb h.ps.hb (fun k hk => (h.ps.own.lt k hk).1))⟩
theorem tileF_at {sn : Nat} {tiles : List Int} {x y : Nat} (h : y * sn + x < tiles.length) : tileF sn tiles x y = tiles[y * sn + x] := by simp [tileF, List.getD, h]

/-- What a square call tells, if its halves tell f. -/
def sqR (T : Nat → Nat → Int) (n h x y : Nat) (f : Nat → Nat → List Nd → List Nd × Nat) (l : List Nd) : List Nd × Nat :=
  if uniB T x y n then addN l (leafOfT (T x y)) else
  let a := f x y l
  let b := f (x + h) y a.1
  let c := f x (y + h) b.1
  let e := f (x + h) (y + h) c.1
  addN e.1 ⟨-1, a.2, b.2, c.2, e.2⟩
theorem cast_lt2 {a b c : Nat} (h : a + b < c) : (a : Int) + (b : Int) < (c : Int) := by omega
theorem cast_le2 {a b c : Nat} (h : a + b ≤ c) : (a : Int) + (b : Int) ≤ (c : Int) := by omega
theorem cast_one {a : Nat} (h : 1 ≤ a) : (1 : Int) ≤ (a : Int) := by omega
theorem cast_lt3 {a b c : Nat} (h : a < b + c) : (a : Int) < (b : Int) + (c : Int) := by omega
theorem lt_of2 {a b c d : Nat} (h : b + c ≤ d) (k : a < b + c) : a < d := by omega
theorem tdiv2 (h : Nat) : ((2 * h : Nat) : Int).tdiv 2 = (h : Int) := by rw [Int.tdiv_eq_ediv_of_nonneg (by omega)]; omega
theorem place_sq {sn J I : Nat} {tiles : List Int} (hs8 : sn ≤ 8) (htl : tiles.length = sn * sn) (hJ : J < sn) (hI : I < sn) : ∃ q : Nat, J * sn = q ∧ q + I < tiles.length ∧ q + I < 64 ∧ wrap64 ((J : Int) * (sn : Int)) = (q : Int) := by
  have h1 : (J + 1) * sn ≤ sn * sn := Nat.mul_le_mul_right _ hJ
  rw [Nat.add_mul, Nat.one_mul] at h1
  have h2 : sn * sn ≤ 8 * 8 := Nat.mul_le_mul hs8 hs8
  refine ⟨J * sn, rfl, by omega, by omega, ?_⟩
  rw [wrap64_in]
  · simp
  · have : (0 : Int) ≤ (J : Int) * (sn : Int) := Int.mul_nonneg (by omega) (by omega)
    omega
  · have : (J : Int) * (sn : Int) = ((J * sn : Nat) : Int) := by simp
    omega

def RelJ (T : Nat → Nat → Int) (t : Int) (x y n : Nat) (o j : Value) : Prop := ∃ (J : Nat) (bo : Bool), j = .int .i64 J ∧ o = .bool bo ∧ y ≤ J ∧ J ≤ y + n ∧ Hid (bo = true ↔ ∀ j' i', y ≤ j' → j' < J → x ≤ i' → i' < x + n → T i' j' = t)
def RelI (T : Nat → Nat → Int) (t : Int) (x J n : Nat) (bo : Bool) (o i : Value) : Prop := ∃ (I : Nat) (bi : Bool), i = .int .i64 I ∧ o = .bool bi ∧ x ≤ I ∧ I ≤ x + n ∧ Hid (bi = true ↔ bo = true ∧ ∀ i', x ≤ i' → i' < I → T i' J = t)
set_option maxRecDepth 100000 in
set_option maxHeartbeats 2000000 in
theorem mSquare_body (sn : Nat) (tiles : List Int) (hs8 : sn ≤ 8) (htl : tiles.length = sn * sn) (n h K : Nat) (hn1 : 1 ≤ n) (hn8 : n ≤ 8) (hh : n = 2 * h ∨ n = 1) (f : Nat → Nat → List Nd → List Nd × Nat) (base p x y cg : Nat) (v : Value) (l : List Nd) (A : Option Addr) (w : World)
    (hx : x + n ≤ sn) (hy : y + n ≤ sn) (hps : PS base p v l w) (hri : RI w base A tiles) (hlen : l.length + 4 * K + 1 ≤ 1000000) (hfl : ∀ x y l, (f x y l).1.length ≤ l.length + K)
    (ih : n = 2 * h → ∀ (x' y' : Nat) (v' : Value) (l' : List Nd) (w' : World), (x' = x ∨ x' = x + h) → (y' = y ∨ y' = y + h) → PS base p v' l' w' → RI w' base A tiles → l'.length ≤ l.length + 3 * K →
      Calls Tryd.prog 96 #[.pointer (some ⟨p, 0, none⟩), .agg #[.int .i64 sn, .slice A tiles.length cg], .int .i64 x', .int .i64 y', .int .i64 h] w' fun e w'' => e = .returned (.int .i64 (f x' y' l').2) ∧ ∃ v'', PS base p v'' (f x' y' l').1 w'' ∧ PG p p v' v'' w' w'') :
    Calls Tryd.prog 96 #[.pointer (some ⟨p, 0, none⟩), .agg #[.int .i64 sn, .slice A tiles.length cg], .int .i64 x, .int .i64 y, .int .i64 n] w fun e w' => e = .returned (.int .i64 (sqR (tileF sn tiles) n h x y f l).2) ∧ ∃ v', PS base p v' (sqR (tileF sn tiles) n h x y f l).1 w' ∧ PG p p v v' w w' := by
  have hbw : Below w.heap.size w (w.alloc (.cells #[.int .i64 sn, .slice A tiles.length cg] 28)) := (Below.refl _ _).alloc (Nat.le_refl _) _
  have hpl := hps.lt
  have HG0 := Lib.hid (GB.made w sn (.slice A tiles.length cg) 28)
  have HQ0 : Hid (QS (w.alloc (.cells #[.int .i64 sn, .slice A tiles.length cg] 28)) base p w.heap.size v A cg sn tiles v l (w.alloc (.cells #[.int .i64 sn, .slice A tiles.length cg] 28))) :=
    QS.mk (hps.below hbw) (PG.refl _ _ _ _) HG0.out.c0 HG0.out.c1 (hri.below (hbw.mono (Nat.le_trans hps.hb (Nat.le_of_lt hpl))))
  have HPG := Lib.hid (PG.below (p := p) (m := p) (v := v) hbw)
  have HNB : Hid (v.ownBlock ≠ some w.heap.size) := fun e => by have := (hps.own.lt _ e).2; omega
  have hbz : w.heap.size < (w.alloc (.cells #[.int .i64 sn, .slice A tiles.length cg] 28)).heap.size := by simp
  obtain ⟨q0, hq0, hq1, hq2, hq3⟩ := place_sq (tiles := tiles) hs8 htl (J := y) (I := x) (by omega) (by omega)
  obtain ⟨bt, off, rfl, hbt, hct⟩ := hri.at_ hq1
  have HRI := Lib.hid hri
  have HT : Hid (tileF sn tiles x y = tiles[q0 + x]) := by show _ = _; subst hq0; exact tileF_at hq1
  clear hri hps hq0 HG0 hct
  have HTL := Lib.hid htl
  have HFL := Lib.hid hfl
  have IH := Lib.hid ih
  have HLN := Lib.hid hlen
  have HH := Lib.hid hh
  have HX := Lib.hid hx
  have HY := Lib.hid hy
  have x8 : (x : Int) + (n : Int) ≤ 8 := cast_le2 (Nat.le_trans hx hs8)
  have y8 : (y : Int) + (n : Int) ≤ 8 := cast_le2 (Nat.le_trans hy hs8)
  have qb : (q0 : Int) + (x : Int) < 64 := cast_lt2 hq2
  have qt : (q0 : Int) + (x : Int) < (tiles.length : Int) := cast_lt2 hq1
  have hcx := HQ0.out.ri.at_ hq1
  obtain ⟨bt', off', e', _, hct⟩ := hcx
  simp only [Option.some.injEq, Addr.mk.injEq, and_true] at e'
  obtain ⟨rfl, rfl⟩ := e'
  rw [← HT.out] at hct
  generalize hTF : tileF sn tiles = T at *
  have HTF : Hid (T = tileF sn tiles) := hTF.symm
  clear hTF
  clear HT hbw htl hfl ih hlen hh hx hy hq1 hq2
  generalize hTT : T x y = t at *
  have HTT := Lib.hid hTT
  clear hTT
  go_enter Tryd.func96, Tryd.ntmps96
  have g0 := HQ0.out.g0
  have g1 := HQ0.out.g1
  go_wp2_with fail
  clear g0 g1 hct
  have n1 : (1 : Int) ≤ (n : Int) := cast_one hn1
  generalize w.alloc (.cells #[.int .i64 sn, .slice (some ⟨bt, off, none⟩) tiles.length cg] 28) = W0 at *
  go_loop [12, 13] (fun o j => RelJ T t x y n o j) (fun _ j => y + n - (intOf j).toNat)
  case atStart => exact ⟨y, true, rfl, rfl, Nat.le_refl _, by omega, ⟨fun _ j' i' h1 h2 => by omega, fun _ => rfl⟩⟩
  case round =>
    obtain ⟨J, bo, rfl, rfl, hJ0, hJ1, HB⟩ := hrel
    by_cases hJ : J < y + n
    · have jl : (J : Int) < (y : Int) + (n : Int) := cast_lt3 hJ
      go_wp2_with fail
      go_loop [12, 14] (fun o i => RelI T t x J n bo o i) (fun _ i => x + n - (intOf i).toNat)
      case atStart => exact ⟨x, bo, rfl, rfl, Nat.le_refl _, by omega, ⟨fun h => ⟨h, fun i' h1 h2 => by omega⟩, fun h => h.1⟩⟩
      case round =>
        obtain ⟨I, bi, rfl, rfl, hI0, hI1, HI⟩ := hrel
        by_cases hI : I < x + n
        · have il : (I : Int) < (x : Int) + (n : Int) := cast_lt3 hI
          obtain ⟨q, hq0, hq1, hq2, hq4⟩ := place_sq (tiles := tiles) hs8 HTL.out (J := J) (I := I) (lt_of2 HY.out hJ) (lt_of2 HX.out hI)
          have qb2 : (q : Int) + (I : Int) < 64 := cast_lt2 hq2
          have qt2 : (q : Int) + (I : Int) < (tiles.length : Int) := cast_lt2 hq1
          have hcx := HQ0.out.ri.at_ hq1
          obtain ⟨bt', off', e', _, hct⟩ := hcx
          simp only [Option.some.injEq, Addr.mk.injEq, and_true] at e'
          obtain ⟨rfl, rfl⟩ := e'
          have HTI : Hid (T I J = tiles[q + I]) := by show _ = _; rw [HTF.out]; subst hq0; exact tileF_at hq1
          rw [← HTI.out] at hct
          clear HTI hq0 hq1 hq2
          generalize hu : T I J = u at *
          have HU := Lib.hid hu
          clear hu
          have g0 := HQ0.out.g0
          have g1 := HQ0.out.g1
          cases bi
          · go_wp2_with fail
            go_round
            case rel => exact ⟨I + 1, false, by go_num, rfl, by omega, by omega, ⟨fun h => (by cases h), fun h => (by have := HI.out.2 ⟨h.1, fun i' a b => h.2 i' a (by omega)⟩; cases this)⟩⟩
            case measure => simp [intOf]; omega
          · by_cases hut : u = t
            · have hub : (u == t) = true := by simpa using hut
              have HUT := Lib.hid hut
              clear hut
              go_wp2_with fail
              go_round
              case rel => exact ⟨I + 1, true, by go_num, rfl, by omega, by omega, ⟨fun _ => ⟨(HI.out.1 rfl).1, fun i' a b => (by
                by_cases e : i' = I
                · subst e; exact HU.out.trans HUT.out
                · exact (HI.out.1 rfl).2 i' a (by omega))⟩, fun _ => rfl⟩⟩
              case measure => simp [intOf]; omega
            · have hub : (u == t) = false := by simpa using hut
              have HUT := Lib.hid hut
              clear hut
              go_wp2_with fail
              go_round
              case rel => exact ⟨I + 1, false, by go_num, rfl, by omega, by omega, ⟨fun h => (by cases h), fun h => absurd (HU.out.symm.trans (h.2 I hI0 (by omega))) HUT.out⟩⟩
              case measure => simp [intOf]; omega
        · have HIE : Hid (I = x + n) := by show _ = _; omega
          go_wp2_with fail
          go_round
          case rel => exact ⟨J + 1, bi, by go_num, rfl, by omega, by omega, ⟨fun h j' i' a b c d => (by
            by_cases e : j' = J
            · subst e; exact (HI.out.1 h).2 i' c (by rw [HIE.out]; exact d)
            · exact (HB.out.1 (HI.out.1 h).1) j' i' a (by omega) c d), fun h => HI.out.2 ⟨HB.out.2 fun j' i' a b c d => h j' i' a (by omega) c d, fun i' a b => h J i' hJ0 (by omega) a (by rw [HIE.out] at b; exact b)⟩⟩⟩
          case measure => simp [intOf]; omega
    · have eJ : J = y + n := by omega
      have HBU : Hid (bo = uniB T x y n) := by
        show _ = _
        rw [eJ] at HB
        rw [Bool.eq_iff_iff, HB.out, uniB_iff, uni, HTT.out]
        refine ⟨fun h i j hi hj => h (y + j) (x + i) (by omega) (by omega) (by omega) (by omega), fun h j' i' a b c d => ?_⟩
        have := h (i' - x) (j' - y) (by omega) (by omega)
        rwa [show x + (i' - x) = i' by omega, show y + (j' - y) = j' by omega] at this
      clear HB eJ
      have g0 := HQ0.out.g0
      have g1 := HQ0.out.g1
      cases bo
      · have HN2 : Hid (n = 2 * h) := by
          rcases HH.out with h2 | h2
          · exact h2
          · exfalso
            have h3 := (uniB_iff T x y 1).2 (uni_one T x y)
            have h4 := HBU.out
            rw [h2, h3] at h4
            cases h4
        have hdv : (n : Int).tdiv 2 = (h : Int) := by rw [HN2.out]; exact tdiv2 h
        have HLB0 : Hid (l.length ≤ l.length + 0 * K) := by show _ ≤ _; omega
        have h8 : (h : Int) ≤ 4 := by have := HN2.out; omega
        have x4 : (x : Int) + (h : Int) ≤ 8 := by have := HN2.out; omega
        have y4 : (y : Int) + (h : Int) ≤ 8 := by have := HN2.out; omega
        have hc0 := IH.out HN2.out x y v l W0 (.inl rfl) (.inl rfl) HQ0.out.ps HQ0.out.ri (by have := HLB0.out; omega)
        go_wp2_with fail
        refine hc0.mono ?_
        rintro e w1 ⟨rfl, v1, hp1, hg1⟩
        have HQ1 := Lib.hid (HQ0.out.step hp1 hg1 hbz (by omega) HNB.out)
        have HLB1 : Hid ((f x y l).1.length ≤ l.length + 1 * K) := by have h1 := HFL.out x y l; have h2 := HLB0.out; show _ ≤ _; omega
        clear hc0 hp1 hg1 g0 g1
        have g0 := HQ1.out.g0
        have g1 := HQ1.out.g1
        generalize hF0 : f x y l = F0 at *
        have HF0 := Lib.hid hF0
        clear hF0
        obtain ⟨l1, r1⟩ := F0
        simp only at HQ1 HLB1
        have hc1 := IH.out HN2.out (x + h) y v1 l1 w1 (.inr rfl) (.inl rfl) HQ1.out.ps HQ1.out.ri (by have := HLB1.out; omega)
        simp only [Int.natCast_add] at hc1
        go_wp2_with fail
        refine hc1.mono ?_
        rintro e w2 ⟨rfl, v2, hp2, hg2⟩
        have HQ2 := Lib.hid (HQ1.out.step hp2 hg2 hbz (by omega) HNB.out)
        have HLB2 : Hid ((f (x + h) y l1).1.length ≤ l.length + 2 * K) := by have h1 := HFL.out (x + h) y l1; have h2 := HLB1.out; show _ ≤ _; omega
        clear hc1 hp2 hg2 g0 g1
        have g0 := HQ2.out.g0
        have g1 := HQ2.out.g1
        generalize hF1 : f (x + h) y l1 = F1 at *
        have HF1 := Lib.hid hF1
        clear hF1
        obtain ⟨l2, r2⟩ := F1
        simp only at HQ2 HLB2
        have hc2 := IH.out HN2.out x (y + h) v2 l2 w2 (.inl rfl) (.inr rfl) HQ2.out.ps HQ2.out.ri (by have := HLB2.out; omega)
        simp only [Int.natCast_add] at hc2
        go_wp2_with fail
        refine hc2.mono ?_
        rintro e w3 ⟨rfl, v3, hp3, hg3⟩
        have HQ3 := Lib.hid (HQ2.out.step hp3 hg3 hbz (by omega) HNB.out)
        have HLB3 : Hid ((f x (y + h) l2).1.length ≤ l.length + 3 * K) := by have h1 := HFL.out x (y + h) l2; have h2 := HLB2.out; show _ ≤ _; omega
        clear hc2 hp3 hg3 g0 g1
        have g0 := HQ3.out.g0
        have g1 := HQ3.out.g1
        generalize hF2 : f x (y + h) l2 = F2 at *
        have HF2 := Lib.hid hF2
        clear hF2
        obtain ⟨l3, r3⟩ := F2
        simp only at HQ3 HLB3
        have hc3 := IH.out HN2.out (x + h) (y + h) v3 l3 w3 (.inr rfl) (.inr rfl) HQ3.out.ps HQ3.out.ri (by have := HLB3.out; omega)
        simp only [Int.natCast_add] at hc3
        go_wp2_with fail
        refine hc3.mono ?_
        rintro e w4 ⟨rfl, v4, hp4, hg4⟩
        have HQ4 := Lib.hid (HQ3.out.step hp4 hg4 hbz (by omega) HNB.out)
        have HLB4 : Hid ((f (x + h) (y + h) l3).1.length ≤ l.length + 4 * K) := by have h1 := HFL.out (x + h) (y + h) l3; have h2 := HLB3.out; show _ ≤ _; omega
        clear hc3 hp4 hg4 g0 g1
        have g0 := HQ4.out.g0
        have g1 := HQ4.out.g1
        generalize hF3 : f (x + h) (y + h) l3 = F3 at *
        have HF3 := Lib.hid hF3
        clear hF3
        obtain ⟨l4, r4⟩ := F3
        simp only at HQ4 HLB4
        have HR : Hid (sqR T n h x y f l = addN l4 ⟨-1, r1, r2, r3, r4⟩) := by
          show _ = _
          rw [sqR, if_neg (by rw [← HBU.out]; simp)]
          simp only [HF0.out, HF1.out, HF2.out, HF3.out]
        have hAd := mAdd_any base p v4 l4 ⟨-1, r1, r2, r3, r4⟩ w4 HQ4.out.ps (by have h1 := HLN.out; have h2 := HLB4.out; omega)
        unfold Nd.val at hAd
        simp only at hAd
        go_wp2_with fail
        refine hAd.mono ?_
        rintro e w5 ⟨rfl, v5, hp5, hg5⟩
        have HP5 := Lib.hid hp5
        have HG5 := Lib.hid (HPG.out.trans (HQ4.out.pg.trans hg5))
        clear hp5 hg5
        go_wp2_with fail
        go_ret
        rw [HR.out]
        exact ⟨rfl, v5, HP5.out, HG5.out⟩
      · have HR : Hid (sqR T n h x y f l = addN l (leafOfT t)) := by show _ = _; rw [sqR, if_pos HBU.out.symm, HTT.out]
        have hAd := mAdd_any base p v l (leafOfT t) W0 HQ0.out.ps (by have := HLN.out; omega)
        unfold Nd.val leafOfT at hAd
        go_wp2_with fail
        refine hAd.mono ?_
        rintro e w1 ⟨rfl, v1, hp1, hg1⟩
        have HP1 := Lib.hid hp1
        have HG1 := Lib.hid (HPG.out.trans hg1)
        clear hp1 hg1
        go_wp2_with fail
        go_ret
        rw [HR.out]
        exact ⟨rfl, v1, HP1.out, HG1.out⟩

set_option maxRecDepth 100000 in
set_option maxHeartbeats 2000000 in
theorem mSquare_any (sn : Nat) (tiles : List Int) (hs8 : sn ≤ 8) (htl : tiles.length = sn * sn) : ∀ (d : Nat) (base p x y cg : Nat) (v : Value) (l : List Nd) (A : Option Addr) (w : World), d ≤ 3 → x + 2 ^ d ≤ sn → y + 2 ^ d ≤ sn → PS base p v l w → RI w base A tiles → l.length + cnt d ≤ 1000000 →
    Calls Tryd.prog 96 #[.pointer (some ⟨p, 0, none⟩), .agg #[.int .i64 sn, .slice A tiles.length cg], .int .i64 x, .int .i64 y, .int .i64 ((2 ^ d : Nat) : Int)] w fun e w' => e = .returned (.int .i64 (msq (tileF sn tiles) d x y l).2) ∧ ∃ v', PS base p v' (msq (tileF sn tiles) d x y l).1 w' ∧ PG p p v v' w w' := by
  intro d
  induction d with
  | zero =>
    intro base p x y cg v l A w hd hx hy hps hri hlen
    have := mSquare_body sn tiles hs8 htl 1 0 0 (Nat.le_refl _) (by omega) (.inr rfl) (fun _ _ l => (l, 0)) base p x y cg v l A w hx hy hps hri (by simp only [cnt] at hlen; omega) (fun _ _ _ => Nat.le_refl _) (fun h => by omega)
    have e : sqR (tileF sn tiles) 1 0 x y (fun _ _ l => (l, 0)) l = msq (tileF sn tiles) 0 x y l := by rw [sqR, if_pos ((uniB_iff _ _ _ _).2 (uni_one _ _ _))]; rfl
    rw [e] at this
    exact this
  | succ d ih =>
    intro base p x y cg v l A w hd hx hy hps hri hlen
    have e2 : 2 ^ (d + 1) = 2 * 2 ^ d := by rw [Nat.pow_succ, Nat.mul_comm]
    have h1 : 1 ≤ 2 ^ d := Nat.one_le_two_pow
    have h4 : 2 ^ d ≤ 2 ^ 2 := Nat.pow_le_pow_right (by omega) (by omega)
    simp only [cnt] at hlen
    have := mSquare_body sn tiles hs8 htl (2 ^ (d + 1)) (2 ^ d) (cnt d) (by omega) (by omega) (.inl e2) (msq (tileF sn tiles) d) base p x y cg v l A w hx hy hps hri (by omega) (msq_len _ d) (fun _ x' y' v' l' w' hx' hy' hp' hr' hl' => ih base p x' y' cg v' l' A w' (by omega) (by omega) (by omega) hp' hr' (by omega))
    have e : sqR (tileF sn tiles) (2 ^ (d + 1)) (2 ^ d) x y (msq (tileF sn tiles) d) l = msq (tileF sn tiles) (d + 1) x y l := by rw [sqR, msq]
    rw [e] at this
    exact this
end Go.Proofs.YtoobkajilbmdhaaDoor
