/- The program's pools: a square is put in by a closure that calls itself. -/
import Derived.Test.YtphkceiafehidaaPgS
namespace Go.Proofs.Ytphkceiafehidaa
open Go.RowKit
set_option linter.unusedVariables false

set_option maxHeartbeats 400000 in
theorem pSplitOf_any (a b c d : Int) (w : World) :
    Calls Try.prog 107 #[.agg #[.int .i64 a, .int .i64 b, .int .i64 c, .int .i64 d]] w fun e w' => e = .returned (.agg #[.int .i64 (-1), .int .i64 a, .int .i64 b, .int .i64 c, .int .i64 d]) ∧ Below w.heap.size w w' := by
  go_enter Try.func107, Try.ntmps107
  go_wp2
  refine bodyPost_ret (v := .agg #[.int .i64 (-1), .int .i64 a, .int .i64 b, .int .i64 c, .int .i64 d]) (by simp [results, Try.results107, go_sem]) rfl ⟨rfl, ((Below.refl _ _).alloc (Nat.le_refl _) _).alloc (by simp) _⟩

/-- The closure's captured boxes: the shelf's pointer, the map, the closure itself. -/
structure CB (base p m : Nat) (v : Value) (bs bg bf : Nat) (A : Option Addr) (cg sn : Nat) (tiles : List Int) (w : World) : Prop where
  s0 : w.cell? ⟨bs, 0, none⟩ = some (.pointer (some ⟨p, 0, none⟩))
  g0 : w.cell? ⟨bg, 0, none⟩ = some (.int .i64 sn)
  g1 : w.cell? ⟨bg, 1, none⟩ = some (.slice A tiles.length cg)
  k0 : w.cell? ⟨bf, 0, none⟩ = some (.func (Fn.func 103) #[] #[.pointer (some ⟨bs, 0, none⟩), .pointer (some ⟨bg, 0, none⟩), .pointer (some ⟨bf, 0, none⟩)])
  ri : RI w base A tiles
  hs : bs < w.heap.size ∧ bs ≠ p ∧ bs ≠ m ∧ v.ownBlock ≠ some bs
  hg : bg < w.heap.size ∧ bg ≠ p ∧ bg ≠ m ∧ v.ownBlock ≠ some bg
  hf : bf < w.heap.size ∧ bf ≠ p ∧ bf ≠ m ∧ v.ownBlock ≠ some bf
theorem CB.step {base p m : Nat} {v v' : Value} {bs bg bf : Nat} {A : Option Addr} {cg sn : Nat} {tiles : List Int} {w w' : World} (h : CB base p m v bs bg bf A cg sn tiles w) (hp : PG p m v v' w w') (hb : Below base w w') : CB base p m v' bs bg bf A cg sn tiles w' :=
  have st : ∀ k, (k < w.heap.size ∧ k ≠ p ∧ k ≠ m ∧ v.ownBlock ≠ some k) → k < w'.heap.size ∧ k ≠ p ∧ k ≠ m ∧ v'.ownBlock ≠ some k := fun k hk => ⟨Nat.lt_of_lt_of_le hk.1 hp.size, hk.2.1, hk.2.2.1, hp.row k hk.1 hk.2.2.2⟩
  ⟨(hp.cell (a := ⟨bs, 0, none⟩) h.hs.1 h.hs.2.1 h.hs.2.2.1 h.hs.2.2.2).trans h.s0, (hp.cell (a := ⟨bg, 0, none⟩) h.hg.1 h.hg.2.1 h.hg.2.2.1 h.hg.2.2.2).trans h.g0, (hp.cell (a := ⟨bg, 1, none⟩) h.hg.1 h.hg.2.1 h.hg.2.2.1 h.hg.2.2.2).trans h.g1, (hp.cell (a := ⟨bf, 0, none⟩) h.hf.1 h.hf.2.1 h.hf.2.2.1 h.hf.2.2.2).trans h.k0, h.ri.below hb, st bs h.hs, st bg h.hg, st bf h.hf⟩
theorem SS.base {base p m : Nat} {v v' : Value} {l : List Nd} {w w' : World} (h : SS base p m v l w) (hp : PG p m v v' w w') : Below base w w' :=
  hp.base (Nat.le_trans h.ps.hb (Nat.le_of_lt h.ps.lt)) h.ps.hb h.hm (fun k hk => (h.ps.own.lt k hk).1)
theorem CB.below {base p m : Nat} {v : Value} {bs bg bf : Nat} {A : Option Addr} {cg sn : Nat} {tiles : List Int} {w w' : World} (h : CB base p m v bs bg bf A cg sn tiles w) (hb : Below w.heap.size w w') (hbb : base ≤ w.heap.size) : CB base p m v bs bg bf A cg sn tiles w' := h.step (PG.below hb) (hb.mono hbb)
theorem fits_small {n : Nd} (h0 : -1 ≤ n.tile ∧ n.tile ≤ 1000000) (h1 : 0 ≤ n.a ∧ n.a ≤ 1000000) (h2 : 0 ≤ n.b ∧ n.b ≤ 1000000) (h3 : 0 ≤ n.c ∧ n.c ≤ 1000000) (h4 : 0 ≤ n.d ∧ n.d ≤ 1000000) : n.Fits := by
  simp [Nd.Fits, Lit.wf, IntKind.min, IntKind.max, IntKind.bits, IntKind.signed]
  omega

theorem wrap_sum {q x : Nat} (h : q + x < 64) : wrap64 ((q : Int) + (x : Int)) = ((q + x : Nat) : Int) := by rw [wrap64_in (by omega) (by omega)]; omega
theorem wrap_sum' {q x : Nat} (h : q + x < 64) : IntKind.i64.wrap ((q : Int) + (x : Int)) = ((q + x : Nat) : Int) := by rw [IntWalk.i64_in _ (by omega)]; omega
theorem wrap_mul' {J sn q x : Nat} (h : J * sn = q) (k : q + x < 64) : IntKind.i64.wrap ((J : Int) * (sn : Int)) = (q : Int) := by
  have e : (J : Int) * (sn : Int) = (q : Int) := by rw [← h]; simp
  rw [e]
  exact IntWalk.i64_in _ (by omega)
theorem cast_nn (k : Nat) : (0 : Int) ≤ (k : Int) := by omega
theorem cast_lt {a b : Nat} (h : a < b) : (a : Int) < (b : Int) := by omega
theorem lt_le8 {a b : Nat} (h : a < b) (k : b ≤ 8) : (a : Int) < 8 := by omega
theorem le_of_cnt0 {n : Nat} (h : n + cnt 0 ≤ 100000) : n ≤ 100000 := by simp only [cnt] at h; omega
theorem leaf_fits {t : Int} (h : 0 ≤ t ∧ t ≤ 9) : (leafOfT t).Fits := fits_small (by simp only [leafOfT]; omega) (by simp [leafOfT]) (by simp [leafOfT]) (by simp [leafOfT]) (by simp [leafOfT])
/-- What a call of the closure at size 2^d does. -/
def SqDoes (sn : Nat) (tiles : List Int) (d : Nat) : Prop := ∀ (base p m bs bg bf x y cg : Nat) (v : Value) (l : List Nd) (A : Option Addr) (w : World), x + 2 ^ d ≤ sn → y + 2 ^ d ≤ sn → SS base p m v l w → CB base p m v bs bg bf A cg sn tiles w → l.length + cnt d ≤ 100000 →
    Calls Try.prog 103 #[.int .i64 x, .int .i64 y, .int .i64 ((2 ^ d : Nat) : Int), .pointer (some ⟨bs, 0, none⟩), .pointer (some ⟨bg, 0, none⟩), .pointer (some ⟨bf, 0, none⟩)] w fun e w' => e = .returned (.int .i64 (msq (tileF sn tiles) d x y l).2) ∧ ∃ v', SS base p m v' (msq (tileF sn tiles) d x y l).1 w' ∧ PG p m v v' w w'

set_option maxRecDepth 100000 in
set_option maxHeartbeats 400000 in
theorem pSq_zero (sn : Nat) (tiles : List Int) (hs8 : sn ≤ 8) (htl : tiles.length = sn * sn) (htt : ∀ t ∈ tiles, 0 ≤ t ∧ t ≤ 9) : SqDoes sn tiles 0 := by
  intro base p m bs bg bf x y cg v l A w hx hy hss hcb hlen
  have hx1 : x < sn := by have h : x + 1 ≤ sn := by simpa using hx
                          exact h
  have hy1 : y < sn := by have h : y + 1 ≤ sn := by simpa using hy
                          exact h
  obtain ⟨q, hq0, hq1, hq2, hq3⟩ := place_sq (tiles := tiles) hs8 htl hy1 hx1
  have hws : wrap64 ((q : Int) + (x : Int)) = ((q + x : Nat) : Int) := wrap_sum hq2
  have hws' : IntKind.i64.wrap ((q : Int) + (x : Int)) = ((q + x : Nat) : Int) := wrap_sum' hq2
  have hq3' := wrap_mul' hq0 hq2
  have HT : Hid (tileF sn tiles x y = tiles[q + x]) := by show _ = _; subst hq0; exact tileF_at hq1
  generalize hqx : q + x = k at *
  clear hqx
  have k0 : (0 : Int) ≤ (k : Int) := cast_nn k
  have k1 : (k : Int) < (tiles.length : Int) := cast_lt hq1
  have htr := htt _ (List.getElem_mem hq1)
  rw [← HT.out] at htr
  have HS := Lib.hid hss
  have HC := Lib.hid hcb
  obtain ⟨bt, off, rfl, hbt, hct⟩ := (hcb.ri).at_ hq1
  rw [← HT.out] at hct
  have HA : Hid (msq (tileF sn tiles) 0 x y l = addN l (leafOfT (tileF sn tiles x y))) := rfl
  have HLN : Hid (l.length ≤ 100000) := le_of_cnt0 hlen
  rw [HA.out]
  clear HT hq0 hq1 hq2 htl hx hy hlen
  generalize tileF sn tiles x y = t at *
  have HF : Hid (leafOfT t).Fits := leaf_fits htr
  have hLf := pLeafOf_any t
  have x8 : (x : Int) < 8 := lt_le8 hx1 hs8
  have y8 : (y : Int) < 8 := lt_le8 hy1 hs8
  have hbb : base ≤ w.heap.size := Nat.le_trans hss.ps.hb (Nat.le_of_lt hss.ps.lt)
  have hk : w.drew.cell? ⟨bs, 0, none⟩ = some (.pointer (some ⟨p, 0, none⟩)) ∧ w.drew.cell? ⟨bg, 0, none⟩ = some (.int .i64 sn) ∧ w.drew.cell? ⟨bg, 1, none⟩ = some (.slice (some ⟨bt, off, none⟩) tiles.length cg) ∧ w.drew.cell? ⟨bt, off + k, none⟩ = some (.int .i64 t) := ⟨hcb.s0, hcb.g0, hcb.g1, hct⟩
  have hbtw : bt < w.heap.size := Nat.lt_of_lt_of_le hbt hbb
  have HK := Lib.hid hk
  have HBT := Lib.hid hbt
  clear hss hcb hct
  clear htt hx1 hy1 htr hbt
  go_enter Try.func103, Try.ntmps103
  go_wp2_with fail
  go_region_held3 (fun w' => w'.cell? ⟨bs, 0, none⟩ = some (.pointer (some ⟨p, 0, none⟩)) ∧ w'.cell? ⟨bg, 0, none⟩ = some (.int .i64 sn) ∧ w'.cell? ⟨bg, 1, none⟩ = some (.slice (some ⟨bt, off, none⟩) tiles.length cg) ∧ w'.cell? ⟨bt, off + k, none⟩ = some (.int .i64 t))
    (first
      | go_keep
      | exact hk)
    (first
      | (go_at_call 105; refine (hLf w.drew).mono ?_; rintro e w1 ⟨rfl, hb1⟩; have HS1 := Lib.hid (HS.out.below ((Below.refl _ _).drew.trans hb1)); have HB1 := Lib.hid ((Below.refl w.heap.size w).drew.trans hb1); have HC1 := Lib.hid (HC.out.below HB1.out hbb); clear hk; have hk := And.intro HC1.out.s0 (And.intro HC1.out.g0 (And.intro HC1.out.g1 ((hb1.cell (p := ⟨bt, off + k, none⟩) hbtw).trans HK.out.2.2.2))); clear hb1)
      | (go_at_call 104; refine (pKeep_any base p m v l (leafOfT t) w1 HS1.out HF.out HLN.out).mono ?_; rintro e w2 ⟨rfl, v2, hs2, hg2⟩; have HS2 := Lib.hid hs2; have HG2 := Lib.hid ((PG.below HB1.out).trans hg2); have HC2 := Lib.hid (HC1.out.step hg2 (HS1.out.base hg2)); clear hk; have hk := And.intro HC2.out.s0 (And.intro HC2.out.g0 (And.intro HC2.out.g1 (((HS1.out.base hg2).cell (p := ⟨bt, off + k, none⟩) HBT.out).trans (((HB1.out.mono hbb).cell (p := ⟨bt, off + k, none⟩) HBT.out).trans HK.out.2.2.2)))); clear hs2 hg2))
  go_wp2_with fail
  go_ret
  exact ⟨rfl, v2, HS2.out, HG2.out⟩
end Go.Proofs.Ytphkceiafehidaa
