/- Several texts in one: PgBo, BdI, BdC, BdP. -/
import Derived.Test.YtghnanojmgddfaaPgB
import Derived.Test.YtghnanojmgddfaaWyN
import Derived.Test.YtghnanojmgddfaaMSd
import Derived.Test.YtghnanojmgddfaaWyBp
import Derived.Test.YtghnanojmgddfaaWyV
import Derived.Test.YtghnanojmgddfaaWyZ
namespace Go.Proofs.Ytghnanojmgddfaa
open Go.RowKit
set_option linter.unusedVariables false
set_option linter.unusedSimpArgs false

set_option maxRecDepth 100000 in
set_option maxHeartbeats 1000000 in
theorem pBoth_any (side x y u v : Int) (w : World) (hs : sideOk side = true) (hx : In64 x) (hy : In64 y) (hu : In64 u) (hv : In64 v) :
    Calls Try.prog 43 #[.int .i64 side, .agg #[.int .i64 x, .int .i64 y], .agg #[.int .i64 u, .int .i64 v]] w fun e w' => e = .returned (.bool (gridIn side x y && gridIn side u v)) ∧ Below w.heap.size w w' := by
  have h1 := fun w => pPlace_any side x y w hs hx hy
  have h2 := fun w => pPlace_any side u v w hs hu hv
  have HB : Hid (Below w.heap.size w ((w.alloc (.cells #[.int .i64 x, .int .i64 y] 27)).alloc (.cells #[.int .i64 u, .int .i64 v] 27))) := bel_T (bel_A _ _) (bel_A _ _)
  clear hs hx hy hu hv
  cases hi : gridIn side x y
  · rw [hi] at h1
    clear h2 hi
    go_enter Try.func43, Try.ntmps43
    go_wp2_with fail
    refine (h1 _).mono ?_
    rintro e w1 ⟨rfl, rfl⟩
    go_wp2_with fail
    go_ret
    exact ⟨rfl, HB.out⟩
  · rw [hi] at h1
    rw [Bool.true_and]
    generalize gridIn side u v = bb at *
    clear hi
    go_enter Try.func43, Try.ntmps43
    go_wp2_with fail
    refine (h1 _).mono ?_
    rintro e w1 ⟨rfl, rfl⟩
    go_wp2_with fail
    refine (h2 _).mono ?_
    rintro e w2 ⟨rfl, rfl⟩
    go_wp2_with fail
    go_ret
    exact ⟨rfl, HB.out⟩
end Go.Proofs.Ytghnanojmgddfaa

namespace Go.Proofs.Ytghnanojmgddfaa
open Go.RowKit Go.Shelf
set_option linter.unusedVariables false
set_option linter.unusedSimpArgs false
attribute [local go_sem] Oper.semAt_some

/-- The boxes of isBake. -/
structure B7 (w : World) (side : Int) (A : Option Addr) (c : Nat) (l : List Int) (v1 v2 : Value) (wr : World) : Prop where
  g : GB wr w.heap.size side (.slice A l.length c)
  t : TB wr (w.heap.size + 1) v1 v2
  bel : Below w.heap.size w wr
  siz : w.heap.size + 1 < wr.heap.size
theorem B7.below {w wr wr' : World} {side : Int} {A : Option Addr} {c : Nat} {l : List Int} {v1 v2 : Value} (h : B7 w side A c l v1 v2 wr) (hb : Below wr.heap.size wr wr') : B7 w side A c l v1 v2 wr' := by
  have hz := h.siz
  exact ⟨h.g.below hb (by omega), h.t.below hb hz, h.bel.trans (hb.mono (by omega)), Nat.lt_of_lt_of_le hz hb.size⟩
theorem B7.made (w : World) (side : Int) (A : Option Addr) (c : Nat) (l : List Int) (v1 v2 : Value) : B7 w side A c l v1 v2 ((w.alloc (.cells #[.int .i64 side, .slice A l.length c] 25)).alloc (.cells #[v1, v2] 45)) :=
  ⟨⟨by simp [go_sem], by simp [go_sem], by simp [go_sem], by simp [go_sem]⟩, ⟨by simp [go_sem], by simp [go_sem], by simp [go_sem], by simp [go_sem]⟩, bel_T (bel_A _ _) (bel_A _ _), by simp⟩

set_option maxRecDepth 100000 in
set_option maxHeartbeats 2000000 in
theorem pIsBake_any (side : Int) (A : Option Addr) (c : Nat) (l : List Int) (bm offm cm : Nat) (T : List Pl) (AL : Option Addr) (cL : Nat) (Ld : List Int) (D : Nat → List Int) (w : World) (h : RI w w.heap.size A l) (hT : RPl w w.heap.size (some ⟨bm, offm, none⟩) T) (hLd : RI w w.heap.size AL Ld) (hl : l.length ≤ 1000000000) (hTl : T.length ≤ 1100000) (hLl : Ld.length ≤ 1000000000) (hf : ∀ i (h : i < T.length), In64 T[i].x ∧ In64 T[i].y) (hd : IsB side l T D) :
    Calls Try.prog 65 #[.agg #[.int .i64 side, .slice A l.length c], .agg #[.slice (some ⟨bm, offm, none⟩) T.length cm, .slice AL Ld.length cL]] w fun e w' => e = .returned (.bool (decide (T = bakeM side l T) && decide (Ld = bakeD side l T D))) ∧ Below w.heap.size w w' := by
  have HB := Lib.hid (B7.made w side A c l (.slice (some ⟨bm, offm, none⟩) T.length cm) (.slice AL Ld.length cL))
  have H := Lib.hid h
  have HT := Lib.hid hT
  have HL := Lib.hid hLd
  have hBk := fun w h hm => pBake_any side A c l bm offm cm T D w h hm hl hTl hf hd
  have hML := bakeM_len side l T
  have hDL := bakeD_len hd
  have hE1 := fun A4 c4 w h h2 => pEqPls_any (some ⟨bm, offm, none⟩) A4 cm c4 T (bakeM side l T) w h h2 (by omega) (by omega)
  have hE2 := fun A4 c4 w h h2 => pEqInts_any AL A4 cL c4 Ld (bakeD side l T D) w h h2 (by omega) (by omega)
  clear h hT hLd hf hd
  generalize bakeM side l T = T2 at *
  generalize bakeD side l T D = L2 at *
  cases h1 : decide (T = T2)
  · rw [h1] at hE1
    rw [Bool.false_and]
    clear hE2 h1
    go_enter Try.func65, Try.ntmps65
    obtain ⟨g0, g1, _, _⟩ := HB.out.g
    obtain ⟨t0, t1, _, _⟩ := HB.out.t
    go_wp2_with fail
    refine (hBk _ ((H.out.below HB.out.bel).mono HB.out.bel.size) ((HT.out.below HB.out.bel).mono HB.out.bel.size)).mono ?_
    rintro e w1 ⟨A4, c4, D4, d4, rfl, o4, o5, _, hb⟩
    have HB1 := Lib.hid ((HB.out.below hb).below (bel_A w1 (.cells #[.slice A4 T2.length c4, .slice D4 L2.length d4] 45)))
    have HO4 := Lib.hid (o4.alloc (.cells #[.slice A4 T2.length c4, .slice D4 L2.length d4] 45))
    clear hb o4 o5 g0 g1 t0 t1 HB
    obtain ⟨t0, t1, _, _⟩ := HB1.out.t
    go_wp2_with fail
    refine (hE1 _ _ _ ((HT.out.below HB1.out.bel).mono HB1.out.bel.size) HO4.out.r).mono ?_
    rintro e w2 ⟨rfl, hb⟩
    have HB2 := Lib.hid (HB1.out.below hb)
    clear hb t0 t1 HB1
    go_wp2_with fail
    go_ret
    exact ⟨rfl, HB2.out.bel⟩
  · rw [h1] at hE1
    rw [Bool.true_and]
    generalize decide (Ld = L2) = bb at *
    clear h1
    go_enter Try.func65, Try.ntmps65
    obtain ⟨g0, g1, _, _⟩ := HB.out.g
    obtain ⟨t0, t1, _, _⟩ := HB.out.t
    go_wp2_with fail
    refine (hBk _ ((H.out.below HB.out.bel).mono HB.out.bel.size) ((HT.out.below HB.out.bel).mono HB.out.bel.size)).mono ?_
    rintro e w1 ⟨A4, c4, D4, d4, rfl, o4, o5, _, hb⟩
    have HB1 := Lib.hid ((HB.out.below hb).below (bel_A w1 (.cells #[.slice A4 T2.length c4, .slice D4 L2.length d4] 45)))
    have HO4 := Lib.hid (o4.alloc (.cells #[.slice A4 T2.length c4, .slice D4 L2.length d4] 45))
    have HO5 := Lib.hid (OwnI.keep o5 (bel_A w1 (.cells #[.slice A4 T2.length c4, .slice D4 L2.length d4] 45)))
    have HTB := Lib.hid (TB.made w1 (.slice A4 T2.length c4) (.slice D4 L2.length d4) 45)
    have hz1 := HB.out.siz
    have hz2 := hb.size
    have hne : ¬ w1.heap.size = w.heap.size + 1 := by omega
    have hne2 : ¬ w.heap.size + 1 = w1.heap.size := by omega
    clear hb o4 o5 g0 g1 t0 t1 HB
    obtain ⟨t0, t1, _, _⟩ := HB1.out.t
    obtain ⟨s0, s1, _, _⟩ := HTB.out
    go_wp2_with fail
    refine (hE1 _ _ _ ((HT.out.below HB1.out.bel).mono HB1.out.bel.size) HO4.out.r).mono ?_
    rintro e w2 ⟨rfl, hb⟩
    have HB2 := Lib.hid (HB1.out.below hb)
    have HO6 := Lib.hid (OwnI.keep HO5.out hb)
    have HTB2 := Lib.hid (HTB.out.below hb (by simp))
    clear hb t0 t1 s0 s1 HB1 HTB HO5
    obtain ⟨t0, t1, _, _⟩ := HB2.out.t
    obtain ⟨s0, s1, _, _⟩ := HTB2.out
    go_wp2_with fail
    refine (hE2 _ _ _ ((HL.out.below HB2.out.bel).mono HB2.out.bel.size) HO6.out.ri).mono ?_
    rintro e w3 ⟨rfl, hb⟩
    have HB3 := Lib.hid (HB2.out.below hb)
    clear hb t0 t1 s0 s1 HB2
    go_wp2_with fail
    go_ret
    exact ⟨rfl, HB3.out.bel⟩
end Go.Proofs.Ytghnanojmgddfaa
namespace Go.Proofs.Ytghnanojmgddfaa
open Go.RowKit Go.Shelf
set_option linter.unusedVariables false
set_option linter.unusedSimpArgs false
attribute [local go_sem] Oper.semAt_some

/-- The boxes that the iterator holds. -/
structure CT (n₀ : Nat) (b1 b2 bL offL len cap m : Nat) (W : World) : Prop where
  c1 : W.cell? ⟨b1, 0, none⟩ = some (.slice (some ⟨bL, offL, none⟩) len cap)
  c2 : W.cell? ⟨b2, 0, none⟩ = some (.int .i64 m)
  lt : b1 < n₀ ∧ b2 < n₀
  siz : n₀ ≤ W.heap.size
theorem CT.below {n₀ b1 b2 bL offL len cap m : Nat} {W W' : World} (h : CT n₀ b1 b2 bL offL len cap m W) (hb : Below W.heap.size W W') : CT n₀ b1 b2 bL offL len cap m W' := by
  obtain ⟨h1, h2⟩ := h.lt
  have hz := h.siz
  exact ⟨(hb.cell (p := ⟨b1, 0, none⟩) (by show b1 < _; omega)).trans h.c1, (hb.cell (p := ⟨b2, 0, none⟩) (by show b2 < _; omega)).trans h.c2, ⟨h1, h2⟩, Nat.le_trans hz hb.size⟩
theorem CT.round {n₀ b1 b2 bL offL len cap m : Nat} {ex : Nat → Prop} {W W' : World} (h : CT n₀ b1 b2 bL offL len cap m W) (hk : KpE n₀ ex W W') (hx : ¬ ex b1 ∧ ¬ ex b2) : CT n₀ b1 b2 bL offL len cap m W' := by
  obtain ⟨h1, h2⟩ := h.lt
  have hz := h.siz
  exact ⟨(World.cell?_of_block (a := ⟨b1, 0, none⟩) (hk.block b1 h1 (by omega) hx.1)).trans h.c1, (World.cell?_of_block (a := ⟨b2, 0, none⟩) (hk.block b2 h2 (by omega) hx.2)).trans h.c2, ⟨h1, h2⟩, Nat.le_trans hz hk.size⟩
abbrev chunkEnc (bL offL m cnt : Nat) (x : Fin cnt) : Array Value := #[.slice (some ⟨bL, offL + x.1 * m, none⟩) m m]

set_option maxRecDepth 100000 in
set_option maxHeartbeats 2000000 in
theorem pChunk_stops (n : Nat) (hn : 2 ≤ n) (n₀ : Nat) (ex : Nat → Prop) (b1 b2 bL offL cnt m cap : Nat) (w : World) (hm : 0 < m) (hm64 : m ≤ 64) (hcnt : cnt ≤ 4) (hcap : cnt * m ≤ cap) (hx : ¬ ex b1 ∧ ¬ ex b2) (h : CT n₀ b1 b2 bL offL (cnt * m) cap m w) :
    SeqStopsK Fence.wide n Try.prog 103 #[.pointer (some ⟨b1, 0, none⟩), .pointer (some ⟨b2, 0, none⟩)] (chunkEnc bL offL m cnt) (KpE n₀ ex) (fun xs => xs.map (·.1) = List.range cnt) (fun pre => ∃ k, k ≤ cnt ∧ pre.map (·.1) = List.range k) 5 w := fun L J Jx W hW hJ hJx hY h0 => by
  have HI0 := Lib.hid (h.below hW)
  have HJ := Lib.hid hJ
  have HJX := Lib.hid hJx
  have HY := Lib.hid hY
  have HH0 := Lib.hid h0
  have HX := Lib.hid hx
  have hlm : cnt * m ≤ 4 * 64 := Nat.mul_le_mul hcnt hm64
  have HLN : Hid (∀ k, k < cnt → k * m + m ≤ cnt * m) := fun k hk => by have := Nat.mul_le_mul_right m (show k + 1 ≤ cnt from hk); rw [Nat.succ_mul] at this; exact this
  obtain ⟨Lc, hLc⟩ : ∃ Lc, Lc = cnt * m := ⟨_, rfl⟩
  have HLC : Hid (Lc = cnt * m) := hLc
  rw [← hLc] at hlm hcap HLN HI0
  clear h hW hJ hJx hY h0 hx hLc
  refine callsIn_of_wp Try.func103 rfl trivial ?_ rfl
  simp only [Try.ntmps103, List.size_toArray, List.length_cons, List.length_nil, Nat.reduceAdd, Nat.reduceSub, Array.replicate_succ, Array.replicate_zero, List.push_toArray, List.append_toArray, List.nil_append, List.cons_append]
  gi_wp2
  gi_loopw [4] (fun i wr => ∃ (p : Nat) (k : Nat) (pre : List (Fin cnt)), i = .int .i64 p ∧ Hid (p = k * m ∧ k ≤ cnt ∧ pre.map (·.1) = List.range k) ∧ J pre wr ∧ CT n₀ b1 b2 bL offL Lc cap m wr ∧ Hid (W.heap.size ≤ wr.heap.size)) (fun i _ => Lc + 1 - (intOf i).toNat)
  case atStart => exact ⟨0, 0, [], rfl, ⟨by simp, Nat.zero_le _, rfl⟩, HH0.out, HI0.out, Nat.le_refl _⟩
  case round =>
    obtain ⟨p, k, pre, rfl, HP, hj, hct, HSZ⟩ := hrel
    have HJ1 := Lib.hid hj
    have HC := Lib.hid hct
    clear hj hct HH0 HI0
    have c1 := HC.out.c1
    have c2 := HC.out.c2
    by_cases hk : k < cnt
    · have hp1 := HLN.out k hk
      have hp0 := HP.out.1
      rw [← hp0] at hp1
      clear hp0
      have hlt : (p : Int) < (Lc : Int) := by omega
      have hq1 : (p : Int) ≤ (Lc : Int) := by omega
      have hq2 : (p : Int) + (m : Int) ≤ (cap : Int) := by omega
      have hwr : IntKind.i64.wrap ((p : Int) + (m : Int)) = (p : Int) + (m : Int) := IntWalk.i64_in _ (by omega)
      have hmin : min (m : Int) ((Lc : Int) - (p : Int)) = (m : Int) := by omega
      have hsub : ((Lc - p : Nat) : Int) = (Lc : Int) - (p : Int) := by omega
      have hge : (0 : Int) ≤ (p : Int) := by omega
      have hqc : (Lc : Int) ≤ (cap : Int) := by omega
      gi_upto_region 3 with fail
      refine wpIn_wide.2 ?_
      go_region
      clear hmin hsub hq1 hqc
      have HJd := Lib.hid (abides_below HJ.out HJ1.out (bel_D wr))
      have HCd := Lib.hid (HC.out.below (bel_D wr))
      have HLEN : Hid (pre.length < 5) := by
        have h1 := congrArg List.length HP.out.2.2
        rw [List.length_map, List.length_range] at h1
        show _ < _
        omega
      obtain ⟨fn, tmps, assign, body, hy, hR⟩ := HY.out pre ⟨k, hk⟩ wr.drew HJd.out HLEN.out
      dsimp only [chunkEnc] at hy
      rw [← HP.out.1] at hy
      have hpm : (p + m : Nat) - p = m := by omega
      have hle2 : (p : Int) ≤ (p : Int) + (m : Int) := by omega
      have HNY : Hid (p + m = (k + 1) * m ∧ k + 1 ≤ cnt ∧ (pre ++ [(⟨k, hk⟩ : Fin cnt)]).map (·.1) = List.range (k + 1)) := by
        refine ⟨by rw [HP.out.1, Nat.succ_mul], hk, ?_⟩
        rw [List.map_append, HP.out.2.2, List.range_succ]
        rfl
      clear c1 c2
      obtain ⟨c1, c2, _, _⟩ := HCd.out
      gi_wp2_with fail
      refine ⟨fun _ => by omega, hR.mono ?_⟩
      rintro e W3 (⟨rfl, hJ3, hk3⟩ | ⟨rfl, hJx3⟩)
      · have HJ3 := Lib.hid hJ3
        have HK3 := Lib.hid hk3
        have HC3 := Lib.hid (HCd.out.round hk3 HX.out)
        clear hJ3 hk3 hR hy c1 c2
        have c2 := HC3.out.c2
        have hzd : Hid (wr.heap.size ≤ W3.heap.size) := by
          have := HK3.out.size
          exact this
        gi_wp2_with fail
        go_roundw
        case rel => exact ⟨p + m, k + 1, _, by go_num, HNY.out, HJ3.out, HC3.out, Nat.le_trans HSZ.out hzd.out⟩
        case measure => simp [intOf] <;> omega
      · have HJ3 := Lib.hid hJx3
        clear hJx3 hR hy c1 c2
        gi_wp2_with fail
        refine bodyPost_ret (results_none rfl _ _ _) rfl ?_
        exact ⟨⟨_, rfl⟩, .inr ⟨_, ⟨k + 1, HNY.out.2.1, HNY.out.2.2⟩, HJ3.out⟩⟩
    · have HE : Hid (k = cnt) := by have := HP.out.2.1; show k = cnt; omega
      have hpe : p = Lc := by rw [HP.out.1, HLC.out, HE.out]
      subst hpe
      clear hk
      gi_wp2_with fail
      go_end0
      exact ⟨⟨_, rfl⟩, .inl ⟨pre, by rw [HP.out.2.2, HE.out], HJ1.out⟩⟩

set_option maxRecDepth 100000 in
set_option maxHeartbeats 1000000 in
theorem pChunk_any (A : Option Addr) (n c m : Nat) (w : World) (hm : 0 < m) (hm64 : m ≤ 64) :
    Calls Try.prog 66 #[.slice A n c, .int .i64 m] w fun e w' => e = .returned (.func (.func 103) #[] #[.pointer (some ⟨w.heap.size, 0, none⟩), .pointer (some ⟨w.heap.size + 1, 0, none⟩)]) ∧ w'.cell? ⟨w.heap.size, 0, none⟩ = some (.slice A n c) ∧ w'.cell? ⟨w.heap.size + 1, 0, none⟩ = some (.int .i64 m) ∧ w.heap.size + 1 < w'.heap.size ∧ Below w.heap.size w w' := by
  have hb : Below w.heap.size w ((w.alloc (.cells #[.slice A n c] 23)).alloc (.cells #[.int .i64 m] 3)) := bel_T (bel_A _ _) (bel_A _ _)
  have HB := Lib.hid hb
  have hnl : ¬ (m : Int) < 1 := by omega
  clear hb
  go_enter Try.func66, Try.ntmps66
  go_wp2_with fail
  go_ret
  exact ⟨rfl, by simp [go_sem], by simp [go_sem], by simp, HB.out⟩
end Go.Proofs.Ytghnanojmgddfaa

namespace Go.Proofs.Ytghnanojmgddfaa
open Go.RowKit Go.Shelf
set_option linter.unusedVariables false
set_option linter.unusedSimpArgs false
attribute [local go_sem] Oper.semAt_some

/-- What the marks of a list say. -/
def bndL (D : Nat → List Int) (pa pb : Nat) (xs : List Nat) : Option Int := xs.foldl (fun o k => o.bind fun n => bnd1 (dk (D k) pa) (dk (D k) pb) n) (some 0)
theorem bndL_snoc (D : Nat → List Int) (pa pb : Nat) (xs : List Nat) (k : Nat) : bndL D pa pb (xs ++ [k]) = (bndL D pa pb xs).bind fun n => bnd1 (dk (D k) pa) (dk (D k) pb) n := by simp [bndL, List.foldl_append]
theorem bndL_range (D : Nat → List Int) (pa pb : Nat) : ∀ k, bndL D pa pb (List.range k) = bndTo D pa pb k
  | 0 => rfl
  | k + 1 => by rw [List.range_succ, bndL_snoc, bndL_range D pa pb k]; rfl
theorem bnd1_max {x y N : Int} (hN : 0 ≤ N) (hx : -1 ≤ x) (hy : -1 ≤ y) (h : (x == -1) = (y == -1)) : bnd1 x y N = some (max (max N (x - y)) (y - x)) := by
  unfold bnd1
  by_cases h1 : x = -1
  · have h2 : y = -1 := by subst h1; simpa using h.symm
    subst h1 h2
    simp
    omega
  · have h2 : ¬ y = -1 := fun e => h1 (by subst e; simpa using h)
    have d1 : decide (x < 0) = false := decide_eq_false (by omega)
    have d2 : decide (y < 0) = false := decide_eq_false (by omega)
    rw [d1, d2, if_neg (by simp), if_pos (by omega)]
    by_cases h3 : x ≥ y
    · rw [if_pos h3]; congr 1; omega
    · rw [if_neg h3]; congr 1; omega
theorem bnd1_none {x y N : Int} (hx : -1 ≤ x) (hy : -1 ≤ y) (h : ¬ (x == -1) = (y == -1)) : bnd1 x y N = none := by
  unfold bnd1
  rw [if_pos]
  by_cases h1 : x = -1
  · have h2 : ¬ y = -1 := fun e => h (by rw [h1, e])
    have d1 : decide (x < 0) = true := decide_eq_true (by omega)
    have d2 : decide (y < 0) = false := decide_eq_false (by omega)
    rw [d1, d2]; rfl
  · have h2 : y = -1 := by
      refine Classical.byContradiction fun e => h ?_
      have e1 : (x == -1) = false := by simpa using h1
      have e2 : (y == -1) = false := by simpa using e
      rw [e1, e2]
    have d1 : decide (x < 0) = false := decide_eq_false (by omega)
    have d2 : decide (y < 0) = true := decide_eq_true (by omega)
    rw [d1, d2]; rfl
/-- And the box of the answer. -/
structure B6 (w : World) (side : Int) (A : Option Addr) (c : Nat) (l : List Int) (v1 v2 : Value) (ax ay bx b_y : Int) (wr : World) : Prop where
  b : B5 w side A c l v1 v2 ax ay bx b_y wr
  r0 : wr.cell? ⟨w.heap.size + 1 + 1 + 1 + 1, 0, none⟩ = some (.int .i64 0)
  rf : wr.frozen? ⟨w.heap.size + 1 + 1 + 1 + 1, 0, none⟩ = false
  siz : w.heap.size + 1 + 1 + 1 + 1 < wr.heap.size
section
variable {w wr wr' : World} {side : Int} {A : Option Addr} {c : Nat} {l : List Int} {v1 v2 : Value} {ax ay bx b_y : Int}
theorem B6.below (h : B6 w side A c l v1 v2 ax ay bx b_y wr) (hb : Below wr.heap.size wr wr') : B6 w side A c l v1 v2 ax ay bx b_y wr' :=
  ⟨h.b.below hb, (hb.cell (p := ⟨w.heap.size + 1 + 1 + 1 + 1, 0, none⟩) h.siz).trans h.r0, (hb.frozen (p := ⟨w.heap.size + 1 + 1 + 1 + 1, 0, none⟩) h.siz).trans h.rf, Nat.lt_of_lt_of_le h.siz hb.size⟩
/-- What turns one later block alone turns them not. -/
theorem B6.kept {q : Nat} (h : B6 w side A c l v1 v2 ax ay bx b_y wr) (ht : Trn (· = q) wr wr') (hq : w.heap.size + 1 + 1 + 1 + 1 < q) : B6 w side A c l v1 v2 ax ay bx b_y wr' := by
  have hz := h.siz
  have hb : Below (w.heap.size + 1 + 1 + 1 + 1 + 1) wr wr' := ht.below (fun k e => by omega) (by omega)
  exact ⟨⟨h.b.g.below hb (by omega), h.b.t.below hb (by omega), h.b.a.below hb (by omega), h.b.b.below hb (by omega), h.b.bel.trans (hb.mono (by omega)), Nat.lt_of_lt_of_le h.b.siz hb.size⟩, (hb.cell (p := ⟨w.heap.size + 1 + 1 + 1 + 1, 0, none⟩) (by show w.heap.size + 1 + 1 + 1 + 1 < _; omega)).trans h.r0, (hb.frozen (p := ⟨w.heap.size + 1 + 1 + 1 + 1, 0, none⟩) (by show w.heap.size + 1 + 1 + 1 + 1 < _; omega)).trans h.rf, Nat.lt_of_lt_of_le hz hb.size⟩
end
theorem B6.made (w : World) (side : Int) (A : Option Addr) (c : Nat) (l : List Int) (v1 v2 : Value) (ax ay bx b_y : Int) : B6 w side A c l v1 v2 ax ay bx b_y (((((w.alloc (.cells #[.int .i64 side, .slice A l.length c] 25)).alloc (.cells #[v1, v2] 45)).alloc (.cells #[.int .i64 ax, .int .i64 ay] 27)).alloc (.cells #[.int .i64 bx, .int .i64 b_y] 27)).alloc (.cells #[.int .i64 0] 2)) := by
  refine ⟨(B5.made w side A c l v1 v2 ax ay bx b_y).below (bel_A _ _), ?_, ?_, by simp⟩ <;> simp [go_sem]
/-- Between two marks. -/
structure BnI (w5 : World) (bq : Nat) (D : Nat → List Int) (pa pb cnt : Nat) (pre : List (Fin cnt)) (W : World) : Prop where
  tr : Trn (· = bq) w5 W
  val : ∃ N, bndL D pa pb (pre.map (·.1)) = some N ∧ 0 ≤ N ∧ N ≤ 1301 ∧ W.cell? ⟨bq, 0, none⟩ = some (.int .i64 N)
  fz : W.frozen? ⟨bq, 0, none⟩ = false
theorem BnI.keep {w5 : World} {bq : Nat} {D : Nat → List Int} {pa pb cnt : Nat} {pre : List (Fin cnt)} {W W' : World} {p : Nat → Prop} (h : BnI w5 bq D pa pb cnt pre W) (ht : Trn p W W') (hp : ∀ k, (∃ x : Obj, W.heap[k]? = some x ∧ x.isCells = true) → ¬ p k) (hn : ∀ k, p k → w5.heap.size ≤ k) : BnI w5 bq D pa pb cnt pre W' := by
  obtain ⟨N, h1, h2, h3, h4⟩ := h.val
  have hc := cells_of_cell h4
  have hz : bq < W.heap.size := by obtain ⟨y, hy, _⟩ := hc; exact (Array.getElem?_eq_some_iff.1 hy).1
  have e := ht.block bq hz (hp _ hc)
  exact ⟨h.tr.trans ht fun k hk e => absurd (hn k e) (by omega), ⟨N, h1, h2, h3, (World.cell?_of_block (a := ⟨bq, 0, none⟩) e).trans h4⟩, (World.frozen?_of_block (a := ⟨bq, 0, none⟩) e).trans h.fz⟩
theorem not_cells {W W' : World} {n : Nat} {row : Option Nat} (hr : ∀ r, row = some r → n ≤ r ∧ ∃ o : Obj, W.heap[r]? = some o ∧ o.isCells = false) : ∀ k, (∃ x : Obj, W.heap[k]? = some x ∧ x.isCells = true) → ¬ row = some k := by
  intro k hc e
  obtain ⟨o, ho, hoc⟩ := (hr k e).2
  obtain ⟨y, hy, hyc⟩ := hc
  rw [hy] at ho
  cases ho
  rw [hyc] at hoc
  cases hoc
theorem BnI.own {w5 : World} {bq : Nat} {D : Nat → List Int} {pa pb cnt : Nat} : OwnFrom w5.heap.size (BnI w5 bq D pa pb cnt) := by
  rintro pre W W' row h hg hr
  exact h.keep (Trn.of_grownBy hg (p := fun k => row = some k) fun r e => e) (not_cells (W' := W') hr) fun k e => (hr k e).1
/-- Left in the midst: there is no way. -/
structure BnX (w5 : World) (bq br : Nat) (D : Nat → List Int) (pa pb cnt : Nat) (co : Code) (pre : List (Fin cnt)) (W : World) : Prop where
  co : co = .ret
  no : bndL D pa pb (pre.map (·.1)) = none
  tr : Trn (fun k => k = bq ∨ k = br) w5 W
  val : W.cell? ⟨br, 0, none⟩ = some (.int .i64 (-1))
theorem BnX.own {w5 : World} {bq br : Nat} {D : Nat → List Int} {pa pb cnt : Nat} (co : Code) : OwnFrom w5.heap.size (BnX w5 bq br D pa pb cnt co) := by
  rintro pre W W' row h hg hr
  have ht := Trn.of_grownBy hg (p := fun k => row = some k) fun r e => e
  have hc := cells_of_cell h.val
  have hz : br < W.heap.size := by obtain ⟨y, hy, _⟩ := hc; exact (Array.getElem?_eq_some_iff.1 hy).1
  exact ⟨h.co, h.no, h.tr.trans ht fun k hk e => absurd (hr k e).1 (by omega), (World.cell?_of_block (a := ⟨br, 0, none⟩) (ht.block br hz (not_cells (W' := W') hr _ hc))).trans h.val⟩

set_option maxRecDepth 100000 in
set_option maxHeartbeats 8000000 in
theorem pBound_any (side : Int) (A : Option Addr) (c : Nat) (l : List Int) (bm offm cm : Nat) (T : List Pl) (bL offL cL : Nat) (Ld : List Int) (ax ay bx b_y : Int) (D : Nat → List Int) (w : World) (h : RI w w.heap.size A l) (hT : RPl w w.heap.size (some ⟨bm, offm, none⟩) T) (hLd : RI w w.heap.size (some ⟨bL, offL, none⟩) Ld) (hl : l.length ≤ 1000000000) (hTl : T.length ≤ 1100000) (hLl : Ld.length ≤ 1000000000) (hcL : Ld.length ≤ cL) (hax : In64 ax) (hay : In64 ay) (hbx : In64 bx) (hby : In64 b_y) (hf : ∀ i (h : i < T.length), In64 T[i].x ∧ In64 T[i].y) (hd : IsB side l T D) :
    Calls Try.prog 24 #[.agg #[.int .i64 side, .slice A l.length c], .agg #[.slice (some ⟨bm, offm, none⟩) T.length cm, .slice (some ⟨bL, offL, none⟩) Ld.length cL], .agg #[.int .i64 ax, .int .i64 ay], .agg #[.int .i64 bx, .int .i64 b_y]] w fun e w' => e = .returned (.int .i64 (boundOut side l T Ld ax ay bx b_y D)) ∧ Below w.heap.size w w' := by
  have HB := Lib.hid (B6.made w side A c l (.slice (some ⟨bm, offm, none⟩) T.length cm) (.slice (some ⟨bL, offL, none⟩) Ld.length cL) ax ay bx b_y)
  have H := Lib.hid h
  have HT := Lib.hid hT
  have HL := Lib.hid hLd
  have hR := fun w h => pRight_any side A c l w h hl
  have HS : Hid (∀ w', B5 w side A c l (.slice (some ⟨bm, offm, none⟩) T.length cm) (.slice (some ⟨bL, offL, none⟩) Ld.length cL) ax ay bx b_y w' → w'.cell? ⟨w.heap.size, 0, none⟩ = some (.int .i64 side) ∧ w'.cell? ⟨w.heap.size, 1, none⟩ = some (.slice A l.length c) ∧ w'.cell? ⟨w.heap.size + 1, 0, none⟩ = some (.slice (some ⟨bm, offm, none⟩) T.length cm) ∧ w'.cell? ⟨w.heap.size + 1, 1, none⟩ = some (.slice (some ⟨bL, offL, none⟩) Ld.length cL) ∧ w'.cell? ⟨w.heap.size + 1 + 1, 0, none⟩ = some (.int .i64 ax) ∧ w'.cell? ⟨w.heap.size + 1 + 1, 1, none⟩ = some (.int .i64 ay) ∧ w'.cell? ⟨w.heap.size + 1 + 1 + 1, 0, none⟩ = some (.int .i64 bx) ∧ w'.cell? ⟨w.heap.size + 1 + 1 + 1, 1, none⟩ = some (.int .i64 b_y)) := fun w' h => ⟨h.g.c0, h.g.c1, h.t.c0, h.t.c1, h.a.c0, h.a.c1, h.b.c0, h.b.c1⟩
  have hK := fun w h h2 h3 => pIsBake_any side A c l bm offm cm T (some ⟨bL, offL, none⟩) cL Ld D w h h2 h3 hl hTl hLl hf hd
  clear h hT hLd hf
  cases hr : gridRight side l
  · rw [hr] at hR
    have HE : Hid (boundOut side l T Ld ax ay bx b_y D = -1) := by show _ = _; unfold boundOut; rw [hr]; rfl
    rw [HE.out]
    clear HE hr hK hd hTl hLl hcL hax hay hbx hby
    go_enter Try.func24, Try.ntmps24
    obtain ⟨g0, g1, t0, t1, a0, a1, b0, b1⟩ := HS.out _ HB.out.b
    go_wp2_with fail
    refine (hR _ ((H.out.below HB.out.b.bel).mono HB.out.b.bel.size)).mono ?_
    rintro e w1 ⟨rfl, hb1⟩
    have HB1 := Lib.hid (HB.out.below hb1)
    clear hb1 HB g0 g1 t0 t1 a0 a1 b0 b1
    have r0 := HB1.out.r0
    have rf := HB1.out.rf
    go_wp2_with fail
    refine bodyPost_ret (v := .int .i64 (-1)) (by simp [results, Try.results24, go_sem, r0]) rfl ?_
    exact ⟨rfl, HB1.out.b.bel.setCell (by show w.heap.size ≤ w.heap.size + 1 + 1 + 1 + 1; omega) _⟩
  · have hs := (right_parts hr).1
    have hI := fun w => pBoth_any side ax ay bx b_y w hs hax hay hbx hby
    rw [hr] at hR
    cases hij : (gridIn side ax ay && gridIn side bx b_y)
    · rw [hij] at hI
      have HE : Hid (boundOut side l T Ld ax ay bx b_y D = -1) := by show _ = _; unfold boundOut; rw [hr, hij]; rfl
      rw [HE.out]
      clear HE hr hK hd hTl hLl hcL hax hay hbx hby hs hij
      go_enter Try.func24, Try.ntmps24
      obtain ⟨g0, g1, t0, t1, a0, a1, b0, b1⟩ := HS.out _ HB.out.b
      go_wp2_with fail
      refine (hR _ ((H.out.below HB.out.b.bel).mono HB.out.b.bel.size)).mono ?_
      rintro e w1 ⟨rfl, hb1⟩
      have HB1 := Lib.hid (HB.out.below hb1)
      clear hb1 HB g0 g1 t0 t1 a0 a1 b0 b1
      obtain ⟨g0, g1, t0, t1, a0, a1, b0, b1⟩ := HS.out _ HB1.out.b
      go_wp2_with fail
      refine (hI _).mono ?_
      rintro e w2 ⟨rfl, hb2⟩
      have HB2 := Lib.hid (HB1.out.below hb2)
      clear hb2 HB1 g0 g1 t0 t1 a0 a1 b0 b1
      have r0 := HB2.out.r0
      have rf := HB2.out.rf
      go_wp2_with fail
      refine bodyPost_ret (v := .int .i64 (-1)) (by simp [results, Try.results24, go_sem, r0]) rfl ?_
      exact ⟨rfl, HB2.out.b.bel.setCell (by show w.heap.size ≤ w.heap.size + 1 + 1 + 1 + 1; omega) _⟩
    · rw [hij] at hI
      cases hsm : (decide (T = bakeM side l T) && decide (Ld = bakeD side l T D))
      · rw [hsm] at hK
        have HE : Hid (boundOut side l T Ld ax ay bx b_y D = -1) := by show _ = _; unfold boundOut; rw [hr, hij, hsm]; rfl
        rw [HE.out]
        clear HE hr hd hTl hLl hcL hax hay hbx hby hs hij hsm
        go_enter Try.func24, Try.ntmps24
        obtain ⟨g0, g1, t0, t1, a0, a1, b0, b1⟩ := HS.out _ HB.out.b
        go_wp2_with fail
        refine (hR _ ((H.out.below HB.out.b.bel).mono HB.out.b.bel.size)).mono ?_
        rintro e w1 ⟨rfl, hb1⟩
        have HB1 := Lib.hid (HB.out.below hb1)
        clear hb1 HB g0 g1 t0 t1 a0 a1 b0 b1
        obtain ⟨g0, g1, t0, t1, a0, a1, b0, b1⟩ := HS.out _ HB1.out.b
        go_wp2_with fail
        refine (hI _).mono ?_
        rintro e w2 ⟨rfl, hb2⟩
        have HB2 := Lib.hid (HB1.out.below hb2)
        clear hb2 HB1 g0 g1 t0 t1 a0 a1 b0 b1
        obtain ⟨g0, g1, t0, t1, a0, a1, b0, b1⟩ := HS.out _ HB2.out.b
        go_wp2_with fail
        refine (hK _ ((H.out.below HB2.out.b.bel).mono HB2.out.b.bel.size) ((HT.out.below HB2.out.b.bel).mono HB2.out.b.bel.size) ((HL.out.below HB2.out.b.bel).mono HB2.out.b.bel.size)).mono ?_
        rintro e w3 ⟨rfl, hb3⟩
        have HB3 := Lib.hid (HB2.out.below hb3)
        clear hb3 HB2 g0 g1 t0 t1 a0 a1 b0 b1
        have r0 := HB3.out.r0
        have rf := HB3.out.rf
        go_wp2_with fail
        refine bodyPost_ret (v := .int .i64 (-1)) (by simp [results, Try.results24, go_sem, r0]) rfl ?_
        exact ⟨rfl, HB3.out.b.bel.setCell (by show w.heap.size ≤ w.heap.size + 1 + 1 + 1 + 1; omega) _⟩
      rw [hsm] at hK
      have hsm' := hsm
      simp only [Bool.and_eq_true, decide_eq_true_eq] at hsm'
      have hij' := hij
      simp only [Bool.and_eq_true] at hij'
      have HE : Hid (boundOut side l T Ld ax ay bx b_y D = (bndTo D (pn side ax ay) (pn side bx b_y) T.length).getD (-1)) := by show _ = _; unfold boundOut; rw [hr, hij, hsm]; rfl
      rw [HE.out]
      have hok := boundOut_ok (D := D) hsm'.1 hr
      have hok' := hok
      unfold bakeOk at hok'
      simp only [Bool.and_eq_true, decide_eq_true_eq, List.all_eq_true] at hok'
      have hT4 := hok'.1.2
      have HOP : Hid (∀ i (hi : i < T.length), opn side l T[i].x T[i].y = true) := fun i hi => hok'.2 _ (List.getElem_mem hi)
      have HGD : Hid (∀ i (hi : i < T.length), GDist side l T[i].x T[i].y (D i)) := fun i hi => hd i hi (by rw [hr, HOP.out i hi]; rfl)
      have HLE : Hid (Ld = flatD D T.length) := by
        show Ld = flatD D T.length
        rw [hsm'.2]
        unfold bakeD
        rw [hok]
        rfl
      have hlen := flatD_get (D := D) (m := l.length) (n := T.length) fun j hj => (HGD.out j hj).len
      have hl64 := right_len hr
      have hpa := (pn_lt hr hij'.1).1
      have hpb := (pn_lt hr hij'.2).1
      have hN1 := fun w => pNum5_any (side := side) (x := ax) (y := ay) (l := l) hr hij'.1 w
      have hN2 := fun w => pNum5_any (side := side) (x := bx) (y := b_y) (l := l) hr hij'.2 w
      have HSM : Hid (∀ j, j < T.length → (-1 ≤ dk (D j) (pn side ax ay) ∧ dk (D j) (pn side ax ay) ≤ 1300) ∧ (-1 ≤ dk (D j) (pn side bx b_y) ∧ dk (D j) (pn side bx b_y) ≤ 1300)) := fun j hj => ⟨dk_small hr (HGD.out j hj) hpa, dk_small hr (HGD.out j hj) hpb⟩
      have HLL : Hid (Ld.length = T.length * l.length) := by show _ = _; rw [HLE.out]; exact hlen.1
      have HAT : Hid (∀ k p, k < T.length → p < l.length → ∃ hh : k * l.length + p < Ld.length, Ld[k * l.length + p] = dk (D k) p) := by
        intro k p hk hp
        have hm : k * l.length + l.length ≤ T.length * l.length := by have := Nat.mul_le_mul_right l.length (show k + 1 ≤ T.length from hk); rw [Nat.succ_mul] at this; exact this
        have hh : k * l.length + p < Ld.length := by rw [HLL.out]; omega
        refine ⟨hh, ?_⟩
        have h1 := hlen.2 k p hk hp
        rw [← HLE.out, List.getElem?_eq_getElem hh, List.getElem?_eq_getElem (by rw [(HGD.out k hk).len]; exact hp)] at h1
        rw [dk_lt (by rw [(HGD.out k hk).len]; exact hp)]
        exact Option.some.inj h1
      have HCA : Hid (∀ W, Below w.heap.size w W → ∀ k p, k < T.length → p < l.length → W.cell? ⟨bL, offL + k * l.length + p, none⟩ = some (.int .i64 (dk (D k) p))) := by
        intro W hb k p hk hp
        obtain ⟨hh, hv⟩ := HAT.out k p hk hp
        rcases HL.out with e0 | ⟨b2, o2, e2, hb2, hc2⟩
        · rw [e0] at hh; simp at hh
        · cases e2
          rw [← hv, Nat.add_assoc]
          exact (hb.cell (p := ⟨bL, offL + (k * l.length + p), none⟩) hb2).trans (hc2 _ hh)
      have hl0 : 0 < l.length := by omega
      have HLCAP : Hid (T.length * l.length ≤ cL) := by show _ ≤ _; rw [← HLL.out]; exact hcL
      have HTL : Hid (T.length ≤ 4 ∧ l.length ≤ 64 ∧ 0 < l.length) := ⟨hT4, hl64, hl0⟩
      have HPAB : Hid (pn side ax ay < l.length ∧ pn side bx b_y < l.length) := ⟨hpa, hpb⟩
      clear hr hij hij' hsm hsm' hok hok' hd hTl hLl hs HE hlen HGD HOP HLE hax hay hbx hby HAT hcL hpa hpb
      generalize pn side ax ay = pa at *
      generalize pn side bx b_y = pb at *
      refine (callsIn_wide (n := 9)).1 ?_
      refine callsIn_of_wp_marks Try.func24 rfl trivial ?_ rfl
      simp only [Try.ntmps24, List.size_toArray, List.length_cons, List.length_nil, Nat.reduceAdd, Nat.reduceSub, Array.replicate_succ, Array.replicate_zero, List.push_toArray, List.append_toArray, List.nil_append, List.cons_append]
      refine wpIn_wide.2 ?_
      obtain ⟨g0, g1, t0, t1, a0, a1, b0, b1⟩ := HS.out _ HB.out.b
      go_wp2_with fail
      refine (hR _ ((H.out.below HB.out.b.bel).mono HB.out.b.bel.size)).mono ?_
      rintro e w1 ⟨rfl, hb1⟩
      have HB1 := Lib.hid (HB.out.below hb1)
      clear hb1 HB g0 g1 t0 t1 a0 a1 b0 b1
      obtain ⟨g0, g1, t0, t1, a0, a1, b0, b1⟩ := HS.out _ HB1.out.b
      go_wp2_with fail
      refine (hI _).mono ?_
      rintro e w2 ⟨rfl, hb2⟩
      have HB2 := Lib.hid (HB1.out.below hb2)
      clear hb2 HB1 g0 g1 t0 t1 a0 a1 b0 b1
      obtain ⟨g0, g1, t0, t1, a0, a1, b0, b1⟩ := HS.out _ HB2.out.b
      go_wp2_with fail
      refine (hK _ ((H.out.below HB2.out.b.bel).mono HB2.out.b.bel.size) ((HT.out.below HB2.out.b.bel).mono HB2.out.b.bel.size) ((HL.out.below HB2.out.b.bel).mono HB2.out.b.bel.size)).mono ?_
      rintro e w3 ⟨rfl, hb3⟩
      have HB3 := Lib.hid (HB2.out.below hb3)
      clear hb3 HB2 g0 g1 t0 t1 a0 a1 b0 b1
      obtain ⟨g0, g1, t0, t1, a0, a1, b0, b1⟩ := HS.out _ HB3.out.b
      have hz3 := HB3.out.siz
      have hgs : w.heap.size < w3.heap.size := by omega
      have hgs1 : w.heap.size + 1 < w3.heap.size := by omega
      have hq1 : ¬ w3.heap.size = w.heap.size := by omega
      have hq2 : ¬ w3.heap.size = w.heap.size + 1 := by omega
      go_wp2_with fail
      have HB4 := Lib.hid (HB3.out.below (bel_A w3 (.cells #[.int .i64 0] 2)))
      have HV4 : Hid ((w3.alloc (.cells #[.int .i64 0] 2)).cell? ⟨w3.heap.size, 0, none⟩ = some (.int .i64 0) ∧ (w3.alloc (.cells #[.int .i64 0] 2)).frozen? ⟨w3.heap.size, 0, none⟩ = false) := ⟨by simp [go_sem], by simp [go_sem]⟩
      have HBQ : Hid (w.heap.size + 1 + 1 + 1 + 1 < w3.heap.size ∧ w3.heap.size < (w3.alloc (.cells #[.int .i64 0] 2)).heap.size) := ⟨hz3, by simp⟩
      clear g0 g1 t0 t1 a0 a1 b0 b1 hz3 hgs hgs1 hq1 hq2 HB3 hR hI hK
      generalize w3.alloc (.cells #[.int .i64 0] 2) = w4 at *
      generalize w3.heap.size = bq at *
      refine (pChunk_any (some ⟨bL, offL, none⟩) Ld.length cL l.length w4 hl0 hl64).mono ?_
      rintro e w5 ⟨rfl, hc1, hc2, hz5, hb5⟩
      have HB5 := Lib.hid (HB4.out.below hb5)
      rw [HLL.out] at hc1
      have HCT : Hid (CT w5.heap.size w4.heap.size (w4.heap.size + 1) bL offL (T.length * l.length) cL l.length w5) := ⟨hc1, hc2, ⟨by omega, hz5⟩, Nat.le_refl _⟩
      have HBI : Hid (BnI w5 bq D pa pb T.length [] w5) := ⟨Trn.refl _ _, ⟨0, rfl, by omega, by omega, (hb5.cell (p := ⟨bq, 0, none⟩) HBQ.out.2).trans HV4.out.1⟩, (hb5.frozen (p := ⟨bq, 0, none⟩) HBQ.out.2).trans HV4.out.2⟩
      have HNX : Hid (¬ w4.heap.size = bq ∧ ¬ w4.heap.size + 1 = bq) := by have := HBQ.out.2; exact ⟨by omega, by omega⟩
      have HZ45 : Hid (bq < w5.heap.size ∧ w.heap.size ≤ w5.heap.size) := by have h1 := HBQ.out; have h2 := hb5.size; exact ⟨by omega, by omega⟩
      clear hc1 hc2 hz5 hb5 HB4 HV4
      go_wp2_with fail
      refine (wpIn_wide (n := 9)).1 ?_
      refine wpIn_rangeFunc_ownH (F := Fence.wide) (n := 9) rfl (by omega) (gf := 103) (lb := #[.pointer (some ⟨w4.heap.size, 0, none⟩), .pointer (some ⟨w4.heap.size + 1, 0, none⟩)]) rfl trivial (enters_of Try.func103 (by kernel_rfl) rfl)
        (pChunk_stops 8 (by omega) w5.heap.size (fun k => k = bq) w4.heap.size (w4.heap.size + 1) bL offL T.length l.length cL w5 HTL.out.2.2 HTL.out.2.1 HTL.out.1 HLCAP.out HNX.out HCT.out) kpE_t (kpE_b (Nat.le_refl _)) (Below.refl _ _) (fun _ => rfl)
        (BnI w5 bq D pa pb T.length) (BnX w5 bq (w.heap.size + 1 + 1 + 1 + 1) D pa pb T.length) BnI.own (fun co => BnX.own co) HBI.out
        (fun x a' W => ∃ (u0 u1 u2 u3 u11 u12 u13 u14 u15 u16 u17 u18 u19 u20 u21 u22 u23 u24 u25 u26 u27 u28 u29 u30 u31 u32 u33 u34 u35 u36 u37 u38 u39 u40 u41 u42 u43 u44 u45 u46 u47 u48 u49 u50 u51 u52 u53 u54 u55 u56 u57 u58 u59 u60 u61 u62 u63 u64 : Value), a' = { tmps := #[u0, u1, u2, u3, .pointer (some ⟨w.heap.size, 0, none⟩), .pointer (some ⟨w.heap.size + 1, 0, none⟩), .pointer (some ⟨w.heap.size + 1 + 1, 0, none⟩), .pointer (some ⟨w.heap.size + 1 + 1 + 1, 0, none⟩), .pointer (some ⟨w.heap.size + 1 + 1 + 1 + 1, 0, none⟩), .pointer (some ⟨bq, 0, none⟩), .slice (some ⟨bL, offL + x.1 * l.length, none⟩) l.length l.length, u11, u12, u13, u14, u15, u16, u17, u18, u19, u20, u21, u22, u23, u24, u25, u26, u27, u28, u29, u30, u31, u32, u33, u34, u35, u36, u37, u38, u39, u40, u41, u42, u43, u44, u45, u46, u47, u48, u49, u50, u51, u52, u53, u54, u55, u56, u57, u58, u59, u60, u61, u62, u63, u64], defers := [] })
        ?hAx ?assign ?body ?done ?stop
      case hAx =>
        rintro x a' _ W W' row h hg hr
        exact h
      case assign =>
        intro l' pre x W K hi hK
        gi_wp2
        refine hK _ _ ((KeepsOthers.refl _).from _) (KpE.of_trn (p := fun _ => False) (Trn.refl _ _) fun _ e => e.elim) hi ?_
        (repeat apply Exists.intro)
        rfl
      case body =>
        rintro Lp pre x a' W hLp hrec hbi ⟨u0, u1, u2, u3, u11, u12, u13, u14, u15, u16, u17, u18, u19, u20, u21, u22, u23, u24, u25, u26, u27, u28, u29, u30, u31, u32, u33, u34, u35, u36, u37, u38, u39, u40, u41, u42, u43, u44, u45, u46, u47, u48, u49, u50, u51, u52, u53, u54, u55, u56, u57, u58, u59, u60, u61, u62, u63, u64, rfl⟩ hlen
        have HI := Lib.hid hbi
        have HX := Lib.hid x.2
        obtain ⟨k, hk⟩ := x
        dsimp only at HX ⊢
        obtain ⟨N, hN1, hN2, hN3, hN4⟩ := hbi.val
        have HB6 := Lib.hid (HB5.out.kept hbi.tr HBQ.out.1)
        have hsmk := HSM.out k hk
        have HNS : Hid (bndL D pa pb ((pre ++ [(⟨k, hk⟩ : Fin T.length)]).map (·.1)) = bnd1 (dk (D k) pa) (dk (D k) pb) N) := by
          show _ = _
          rw [List.map_append, List.map_singleton, bndL_snoc, hN1]
          rfl
        have HCC : Hid (∀ V, Below W.heap.size W V → V.cell? ⟨bL, offL + k * l.length + pa, none⟩ = some (.int .i64 (dk (D k) pa)) ∧ V.cell? ⟨bL, offL + k * l.length + pb, none⟩ = some (.int .i64 (dk (D k) pb))) := by
          intro V hb
          have h1 := (HB6.out.below hb).b.bel
          exact ⟨HCA.out V h1 k pa hk HPAB.out.1, HCA.out V h1 k pb hk HPAB.out.2⟩
        have HN := Lib.hid (And.intro hN2 hN3)
        have HN4 := Lib.hid hN4
        have hpaI : (pa : Int) < (l.length : Int) := by have := HPAB.out.1; omega
        have hpbI : (pb : Int) < (l.length : Int) := by have := HPAB.out.2; omega
        generalize dk (D k) pa = xv at *
        generalize dk (D k) pb = yv at *
        generalize k * l.length = p at *
        have HKV : Hid (∀ V, Below W.heap.size W V → V.cell? ⟨w.heap.size, 0, none⟩ = some (.int .i64 side) ∧ V.cell? ⟨w.heap.size + 1 + 1, 0, none⟩ = some (.int .i64 ax) ∧ V.cell? ⟨w.heap.size + 1 + 1, 1, none⟩ = some (.int .i64 ay) ∧ V.cell? ⟨w.heap.size + 1 + 1 + 1, 0, none⟩ = some (.int .i64 bx) ∧ V.cell? ⟨w.heap.size + 1 + 1 + 1, 1, none⟩ = some (.int .i64 b_y) ∧ V.cell? ⟨bL, offL + p + pa, none⟩ = some (.int .i64 xv) ∧ V.cell? ⟨bL, offL + p + pb, none⟩ = some (.int .i64 yv)) := by
          intro V hb
          have h1 := (HB6.out.below hb).b
          have h2 := HCC.out V hb
          exact ⟨h1.g.c0, h1.a.c0, h1.a.c1, h1.b.c0, h1.b.c1, h2.1, h2.2⟩
        obtain ⟨k1, k2, k3, k4, k5, k6, k7⟩ := HKV.out W (Below.refl _ _)
        have hmx : Try.prog.follows .mixedOrders = true := by kernel_rfl
        clear hbi hN1 hN2 hN3 hN4 HBI
        gi_upto_region 6 with fail
        have hkeep := HKV.out _ (bel_D W)
        clear k1 k2 k3 k4 k5 k6 k7
        refine wpIn_region_heldR (S := (fun w' => w'.cell? ⟨w.heap.size, 0, none⟩ = some (.int .i64 side) ∧ w'.cell? ⟨w.heap.size + 1 + 1, 0, none⟩ = some (.int .i64 ax) ∧ w'.cell? ⟨w.heap.size + 1 + 1, 1, none⟩ = some (.int .i64 ay) ∧ w'.cell? ⟨w.heap.size + 1 + 1 + 1, 0, none⟩ = some (.int .i64 bx) ∧ w'.cell? ⟨w.heap.size + 1 + 1 + 1, 1, none⟩ = some (.int .i64 b_y) ∧ w'.cell? ⟨bL, offL + p + pa, none⟩ = some (.int .i64 xv) ∧ w'.cell? ⟨bL, offL + p + pb, none⟩ = some (.int .i64 yv))) (by kernel_rfl) (by kernel_rfl) (fun _ _ h => h) hkeep (fun hHeld => ?_)
        refine wpAnyH_take (i := 0) (v := ?_) rfl (by kernel_rfl) (by kernel_rfl) (by kernel_rfl) (fun _ _ _ h => h) (Or.inl ⟨by rfl, ?_⟩) (by assumption) ?_
        rotate_left 1
        · (intro w' hSw; (try dsimp only at hSw); go_simp <;> with_reducible rfl)
        simp only [Act.put, List.getElem_toArray, List.getElem_cons_succ, List.getElem_cons_zero, List.setIfInBounds_toArray, List.set_cons_zero, List.set_cons_succ]
        refine wpAnyH_take (i := 1) (v := ?_) rfl (by kernel_rfl) (by kernel_rfl) (by kernel_rfl) (fun _ _ _ h => h) (Or.inl ⟨by rfl, ?_⟩) (by assumption) ?_
        rotate_left 1
        · (intro w' hSw; (try dsimp only at hSw); go_simp <;> with_reducible rfl)
        simp only [Act.put, List.getElem_toArray, List.getElem_cons_succ, List.getElem_cons_zero, List.setIfInBounds_toArray, List.set_cons_zero, List.set_cons_succ]
        refine wpAnyH_take (i := 2) (v := ?_) rfl (by kernel_rfl) (by kernel_rfl) (by kernel_rfl) (fun _ _ _ h => h) (Or.inl ⟨by rfl, ?_⟩) (by assumption) ?_
        rotate_left 1
        · (intro w' hSw; (try dsimp only at hSw); go_simp <;> with_reducible rfl)
        simp only [Act.put, List.getElem_toArray, List.getElem_cons_succ, List.getElem_cons_zero, List.setIfInBounds_toArray, List.set_cons_zero, List.set_cons_succ]
        refine wpAnyH_take (i := 3) (v := ?_) rfl (by kernel_rfl) (by kernel_rfl) (by kernel_rfl) (fun _ _ _ h => h) (Or.inl ⟨by rfl, ?_⟩) (by assumption) ?_
        rotate_left 1
        · (intro w' hSw; (try dsimp only at hSw); go_simp <;> with_reducible rfl)
        simp only [Act.put, List.getElem_toArray, List.getElem_cons_succ, List.getElem_cons_zero, List.setIfInBounds_toArray, List.set_cons_zero, List.set_cons_succ]
        refine wpAnyH_take (i := 7) (v := ?_) rfl (by kernel_rfl) (by kernel_rfl) (by kernel_rfl) (fun _ _ _ h => h) (Or.inl ⟨by rfl, ?_⟩) (by assumption) ?_
        rotate_left 1
        · (intro w' hSw; (try dsimp only at hSw); go_simp <;> with_reducible rfl)
        simp only [Act.put, List.getElem_toArray, List.getElem_cons_succ, List.getElem_cons_zero, List.setIfInBounds_toArray, List.set_cons_zero, List.set_cons_succ]
        refine wpAnyH_take (i := 8) (v := ?_) rfl (by kernel_rfl) (by kernel_rfl) (by kernel_rfl) (fun _ _ _ h => h) (Or.inl ⟨by rfl, ?_⟩) (by assumption) ?_
        rotate_left 1
        · (intro w' hSw; (try dsimp only at hSw); go_simp <;> with_reducible rfl)
        simp only [Act.put, List.getElem_toArray, List.getElem_cons_succ, List.getElem_cons_zero, List.setIfInBounds_toArray, List.set_cons_zero, List.set_cons_succ]
        refine wpAnyH_take (i := 9) (v := ?_) rfl (by kernel_rfl) (by kernel_rfl) (by kernel_rfl) (fun _ _ _ h => h) (Or.inl ⟨by rfl, ?_⟩) (by assumption) ?_
        rotate_left 1
        · (intro w' hSw; (try dsimp only at hSw); go_simp <;> with_reducible rfl)
        simp only [Act.put, List.getElem_toArray, List.getElem_cons_succ, List.getElem_cons_zero, List.setIfInBounds_toArray, List.set_cons_zero, List.set_cons_succ]
        refine wpAnyH_take (i := 10) (v := ?_) rfl (by kernel_rfl) (by kernel_rfl) (by kernel_rfl) (fun _ _ _ h => h) (Or.inl ⟨by rfl, ?_⟩) (by assumption) ?_
        rotate_left 1
        · (intro w' hSw; (try dsimp only at hSw); go_simp <;> with_reducible rfl)
        simp only [Act.put, List.getElem_toArray, List.getElem_cons_succ, List.getElem_cons_zero, List.setIfInBounds_toArray, List.set_cons_zero, List.set_cons_succ]
        refine wpAnyH_ready (rs := [4]) (by kernel_rfl) (by simp) ?_
        refine (AllReadyH.cons rfl (fun K hK => ?_) AllReadyH.nil)
        go_simp
        (go_at_call 56; refine (hN1 _).mono ?_; rintro e vA ⟨rfl, hb⟩; have hbA := bel_T (bel_D W) hb; clear hkeep; have hkeep := HKV.out vA hbA; clear hb)
        try go_wp2_with fail
        refine hK.out _ _ ?_ (fun hHeld => ?_)
        · exact hkeep
        clear hK K
        try simp only [Act.put, List.getElem_toArray, List.getElem_cons_succ, List.getElem_cons_zero, List.setIfInBounds_toArray, List.set_cons_zero, List.set_cons_succ]
        refine wpAnyH_take (i := 5) (v := ?_) rfl (by kernel_rfl) (by kernel_rfl) (by kernel_rfl) (fun _ _ _ h => h) (Or.inl ⟨by rfl, ?_⟩) (by assumption) ?_
        rotate_left 1
        · (intro w' hSw; (try dsimp only at hSw); go_simp <;> with_reducible rfl)
        simp only [Act.put, List.getElem_toArray, List.getElem_cons_succ, List.getElem_cons_zero, List.setIfInBounds_toArray, List.set_cons_zero, List.set_cons_succ]
        refine wpAnyH_take (i := 6) (v := ?_) rfl (by kernel_rfl) (by kernel_rfl) (by kernel_rfl) (fun _ _ _ h => h) (Or.inl ⟨by rfl, ?_⟩) (by assumption) ?_
        rotate_left 1
        · (intro w' hSw; (try dsimp only at hSw); go_simp <;> with_reducible rfl)
        simp only [Act.put, List.getElem_toArray, List.getElem_cons_succ, List.getElem_cons_zero, List.setIfInBounds_toArray, List.set_cons_zero, List.set_cons_succ]
        refine wpAnyH_ready (rs := [11]) (by kernel_rfl) (by simp) ?_
        refine (AllReadyH.cons rfl (fun K hK => ?_) AllReadyH.nil)
        go_simp
        (go_at_call 56; refine (hN2 _).mono ?_; rintro e vB ⟨rfl, hb⟩; have hbB := bel_T hbA hb; clear hkeep; have hkeep := HKV.out vB hbB; clear hb)
        try go_wp2_with fail
        refine hK.out _ _ ?_ (fun hHeld => ?_)
        · exact hkeep
        clear hK K
        try simp only [Act.put, List.getElem_toArray, List.getElem_cons_succ, List.getElem_cons_zero, List.setIfInBounds_toArray, List.set_cons_zero, List.set_cons_succ]
        refine wpAnyH_take (i := 12) (v := ?_) rfl (by kernel_rfl) (by kernel_rfl) (by kernel_rfl) (fun _ _ _ h => h) (Or.inl ⟨by rfl, ?_⟩) (by assumption) ?_
        rotate_left 1
        · (intro w' hSw; (try dsimp only at hSw); go_simp <;> with_reducible rfl)
        simp only [Act.put, List.getElem_toArray, List.getElem_cons_succ, List.getElem_cons_zero, List.setIfInBounds_toArray, List.set_cons_zero, List.set_cons_succ]
        refine wpAnyH_take (i := 13) (v := ?_) rfl (by kernel_rfl) (by kernel_rfl) (by kernel_rfl) (fun _ _ _ h => h) (Or.inl ⟨by rfl, ?_⟩) (by assumption) ?_
        rotate_left 1
        · (intro w' hSw; (try dsimp only at hSw); go_simp <;> with_reducible rfl)
        simp only [Act.put, List.getElem_toArray, List.getElem_cons_succ, List.getElem_cons_zero, List.setIfInBounds_toArray, List.set_cons_zero, List.set_cons_succ]
        refine wpAnyH_take (i := 14) (v := ?_) rfl (by kernel_rfl) (by kernel_rfl) (by kernel_rfl) (fun _ _ _ h => h) (Or.inl ⟨by rfl, ?_⟩) (by assumption) ?_
        rotate_left 1
        · (intro w' hSw; (try dsimp only at hSw); go_simp <;> with_reducible rfl)
        simp only [Act.put, List.getElem_toArray, List.getElem_cons_succ, List.getElem_cons_zero, List.setIfInBounds_toArray, List.set_cons_zero, List.set_cons_succ]
        refine wpAnyH_take (i := 15) (v := ?_) rfl (by kernel_rfl) (by kernel_rfl) (by kernel_rfl) (fun _ _ _ h => h) (Or.inl ⟨by rfl, ?_⟩) (by assumption) ?_
        rotate_left 1
        · (intro w' hSw; (try dsimp only at hSw); go_simp <;> with_reducible rfl)
        simp only [Act.put, List.getElem_toArray, List.getElem_cons_succ, List.getElem_cons_zero, List.setIfInBounds_toArray, List.set_cons_zero, List.set_cons_succ]
        refine wpAnyH_done (by kernel_rfl) ?_ _
        refine NoPanic.normal ?_
        have HBB := Lib.hid hbB
        have HB7 := Lib.hid (HB6.out.below hbB)
        have HV7 : Hid (vB.cell? ⟨bq, 0, none⟩ = some (.int .i64 N) ∧ vB.frozen? ⟨bq, 0, none⟩ = false) := by
          have hz := World.block_lt_of_cell? W _ HN4.out
          exact ⟨(hbB.cell (p := ⟨bq, 0, none⟩) hz).trans HN4.out, (hbB.frozen (p := ⟨bq, 0, none⟩) hz).trans HI.out.fz⟩
        have HI7 : Hid (Trn (· = bq) w5 vB) := HI.out.tr.trans (Trn.of_below (p := fun _ => False) hbB) fun _ _ e => e.elim
        clear hkeep hbA hbB HKV HCC HB6 HI HN4
        have hx1 := hsmk.1.1
        have hy1 := hsmk.2.1
        have hN0 := HN.out
        have HFIN : Hid (∀ (R : Int) (a' : Act), bndL D pa pb ((pre ++ [(⟨k, hk⟩ : Fin T.length)]).map (·.1)) = some R → 0 ≤ R ∧ R ≤ 1301 → ownPostG w5.heap.size (KpE w5.heap.size fun k => k = bq) (BnI w5 bq D pa pb T.length) (BnX w5 bq (w.heap.size + 1 + 1 + 1 + 1) D pa pb T.length) (pre ++ [⟨k, hk⟩]) W Exit.normal a' (vB.setCell ⟨bq, 0, none⟩ (.int .i64 R))) := by
          intro R a' hR hR2
          have ht : Trn (· = bq) W (vB.setCell ⟨bq, 0, none⟩ (.int .i64 R)) := (Trn.of_below HBB.out).trans (Trn.set vB bq 0 _) fun _ _ e => e
          exact ⟨(((Trn.of_below (p := fun _ => False) HBB.out).others fun _ e => e.elim).trans (KeepsOthers.setCell _ _ _)).from _, KpE.of_trn ht (fun k e _ => e), HI7.out.trans (Trn.set vB bq 0 _) fun _ _ e => e, ⟨R, hR, hR2.1, hR2.2, World.cell?_setCell_same _ _ _ HV7.out.1⟩, by simpa using HV7.out.2⟩
        have HFX : Hid (∀ (a' : Act), bndL D pa pb ((pre ++ [(⟨k, hk⟩ : Fin T.length)]).map (·.1)) = none → ownPostG w5.heap.size (KpE w5.heap.size fun k => k = bq) (BnI w5 bq D pa pb T.length) (BnX w5 bq (w.heap.size + 1 + 1 + 1 + 1) D pa pb T.length) (pre ++ [⟨k, hk⟩]) W Exit.ret a' (vB.setCell ⟨w.heap.size + 1 + 1 + 1 + 1, 0, none⟩ (.int .i64 (-1)))) := by
          intro a' hR
          exact ⟨(((Trn.of_below (p := fun _ => False) HBB.out).others fun _ e => e.elim).trans (KeepsOthers.setCell _ _ _)).from _, rfl, hR, (HI7.out.mono fun k e => .inl e).trans ((Trn.set vB (w.heap.size + 1 + 1 + 1 + 1) 0 _).mono fun k e => e) fun _ _ e => .inr e, World.cell?_setCell_same _ _ _ HB7.out.r0⟩
        by_cases hx : xv = -1
        · have hqx : (xv == -1) = true := by simpa using hx
          have hdx : decide (xv = -1) = true := decide_eq_true hx
          by_cases hy : yv = -1
          · have hqy : (yv == -1) = true := by simpa using hy
            have hdy : decide (yv = -1) = true := decide_eq_true hy
            have HMX := Lib.hid (bnd1_max HN.out.1 hx1 hy1 (show (xv == -1) = (yv == -1) by rw [hqx, hqy]))
            have hw1 : IntKind.i64.wrap (xv - yv) = xv - yv := IntWalk.i64_in _ (by omega)
            have hw2 : IntKind.i64.wrap (yv - xv) = yv - xv := IntWalk.i64_in _ (by omega)
            obtain ⟨q0, qf⟩ := HV7.out
            clear hx hy
            gi_wp2_with fail
            all_goals exact HFIN.out _ _ (by rw [HNS.out, HMX.out]; congr 1; omega) (by omega)
          · have hqy : (yv == -1) = false := by simpa using hy
            have hdy : decide (yv = -1) = false := decide_eq_false hy
            have HNO := Lib.hid (bnd1_none (N := N) hx1 hy1 (show ¬ (xv == -1) = (yv == -1) by rw [hqx, hqy]; simp))
            have r0 := HB7.out.r0
            have rf := HB7.out.rf
            clear hx hy
            gi_wp2_with fail
            exact HFX.out _ (by rw [HNS.out, HNO.out])
        · have hqx : (xv == -1) = false := by simpa using hx
          have hdx : decide (xv = -1) = false := decide_eq_false hx
          by_cases hy : yv = -1
          · have hqy : (yv == -1) = true := by simpa using hy
            have hdy : decide (yv = -1) = true := decide_eq_true hy
            have HNO := Lib.hid (bnd1_none (N := N) hx1 hy1 (show ¬ (xv == -1) = (yv == -1) by rw [hqx, hqy]; simp))
            have r0 := HB7.out.r0
            have rf := HB7.out.rf
            clear hx hy
            gi_wp2_with fail
            exact HFX.out _ (by rw [HNS.out, HNO.out])
          · have hqy : (yv == -1) = false := by simpa using hy
            have hdy : decide (yv = -1) = false := decide_eq_false hy
            have HMX := Lib.hid (bnd1_max HN.out.1 hx1 hy1 (show (xv == -1) = (yv == -1) by rw [hqx, hqy]))
            have hw1 : IntKind.i64.wrap (xv - yv) = xv - yv := IntWalk.i64_in _ (by omega)
            have hw2 : IntKind.i64.wrap (yv - xv) = yv - xv := IntWalk.i64_in _ (by omega)
            obtain ⟨q0, qf⟩ := HV7.out
            clear hx hy
            gi_wp2_with fail
            all_goals exact HFIN.out _ _ (by rw [HNS.out, HMX.out]; congr 1; omega) (by omega)
      case done =>
        rintro D9 xs W hDD hxs hbi hdf
        obtain ⟨N, hN1, hN2, hN3, hN4⟩ := hbi.val
        rw [hxs, bndL_range] at hN1
        have HB6 := Lib.hid (HB5.out.kept hbi.tr HBQ.out.1)
        have HNV := Lib.hid hN1
        have HDF := Lib.hid hdf
        have HDD := Lib.hid hDD
        have hz6 := HB5.out.siz
        have hDne : D9 ≠ w.heap.size + 1 + 1 + 1 + 1 := by omega
        have r0 := HB6.out.r0
        have rf := HB6.out.rf
        have hbqr : ¬ bq = w.heap.size + 1 + 1 + 1 + 1 := by have := HBQ.out.1; omega
        clear hbi hN1 hN2 hN3 hxs hdf hDD HBI
        go_wp2_with fail
        refine Mks.leaves (B := w.heap.size) [_] _ ((Mks.nil _ w5).push (Mks.nil _ _) (Nat.le_trans HZ45.out.2 HDD.out) HDD.out ((heap_setCell_other _ _ _ _ hDne).trans HDF.out)) fun w' ht => ?_
        have hcv := World.cell?_setCell_same W ⟨w.heap.size + 1 + 1 + 1 + 1, 0, none⟩ (.int .i64 N) r0
        have hcw := (World.cell?_of_block (a := ⟨w.heap.size + 1 + 1 + 1 + 1, 0, none⟩) (ht.cells (cells_of_cell hcv))).trans hcv
        have hbs : Below w.heap.size w (W.setCell ⟨w.heap.size + 1 + 1 + 1 + 1, 0, none⟩ (.int .i64 N)) := HB6.out.b.bel.setCell (by show w.heap.size ≤ w.heap.size + 1 + 1 + 1 + 1; omega) _
        refine ⟨.int .i64 N, by simp [results, Try.results24, go_sem, hcw], ?_⟩
        exact ⟨by rw [HNV.out]; rfl, hbs.trans (ht.below (fun k e => e.1) hbs.size)⟩
      case stop =>
        rintro D9 co pre W hDD ⟨k, hk, hpre⟩ ⟨rfl, hno, htr, hval⟩ hdf
        rw [hpre, bndL_range] at hno
        have HNV : Hid (bndTo D pa pb T.length = none) := bndTo_none hno _ hk
        have HDF := Lib.hid hdf
        have HDD := Lib.hid hDD
        have HVL := Lib.hid hval
        have HBW : Hid (Below w.heap.size w W) := HB5.out.b.bel.trans (htr.below (fun k e => by have := HBQ.out.1; omega) HB5.out.b.bel.size)
        clear hno htr hval hdf hDD hpre hk HBI
        refine wpIn_wide.2 ?_
        go_wp2_with fail
        refine Mks.leaves (B := w.heap.size) [_] _ ((Mks.nil _ w5).push (Mks.nil _ _) (Nat.le_trans HZ45.out.2 HDD.out) HDD.out HDF.out) fun w' ht => ?_
        have hcw := (World.cell?_of_block (a := ⟨w.heap.size + 1 + 1 + 1 + 1, 0, none⟩) (ht.cells (cells_of_cell HVL.out))).trans HVL.out
        refine ⟨.int .i64 (-1), by simp [results, Try.results24, go_sem, hcw], ?_⟩
        exact ⟨by rw [HNV.out]; rfl, HBW.out.trans (ht.below (fun k e => e.1) HBW.out.size)⟩
end Go.Proofs.Ytghnanojmgddfaa
