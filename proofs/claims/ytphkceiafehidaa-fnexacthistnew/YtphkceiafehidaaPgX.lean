/- The program's pools: the closure, step by step. -/
import Derived.Test.YtphkceiafehidaaPgV
namespace Go.Proofs.Ytphkceiafehidaa
open Go.RowKit
set_option linter.unusedVariables false

def RelQ (w : World) (base p m : Nat) (v : Value) (bs bg bf : Nat) (A : Option Addr) (cg sn : Nat) (tiles : List Int) (l0 l1 l2 l3 l4 : List Nd) (r0 r1 r2 r3 : Nat) (idx : Value) (wr : World) : Prop :=
  ∃ (i : Nat) (v1 : Value), idx = .int .i64 i ∧ i ≤ 4 ∧ LQ w base p m v bs bg bf A cg sn tiles v1 (lsF l0 l1 l2 l3 l4 i) (rsF r0 r1 r2 r3 i) wr
def resQ (L3 : List Nd) (R0 R1 R2 R3 : Nat) : List Nd × Nat := if oneL L3 R0 R1 R2 R3 then (L3, R0) else addN L3 ⟨-1, R0, R1, R2, R3⟩
theorem split_fits {a b c d : Nat} (h : a < 100000 ∧ b < 100000 ∧ c < 100000 ∧ d < 100000) : (⟨-1, a, b, c, d⟩ : Nd).Fits := fits_small (by simp) (by simp; omega) (by simp; omega) (by simp; omega) (by simp; omega)

theorem LQ.hk1 {w : World} {base p m : Nat} {v : Value} {bs bg bf : Nat} {A : Option Addr} {cg sn : Nat} {tiles : List Int} {A1 : Option Addr} {c1 n1 : Nat} {l : List Nd} {R0 R1 R2 R3 : Int} {wr : World} (h : LQ w base p m v bs bg bf A cg sn tiles (.slice A1 n1 c1) l (R0, R1, R2, R3) wr) : wr.drew.cell? ⟨bs, 0, none⟩ = some (.pointer (some ⟨p, 0, none⟩)) ∧ wr.drew.cell? ⟨p, 0, none⟩ = some (.slice A1 n1 c1) ∧ wr.drew.cell? ⟨w.heap.size, 0, none⟩ = some (.int .i64 R0) ∧ wr.drew.cell? ⟨w.heap.size, 1, none⟩ = some (.int .i64 R1) ∧ wr.drew.cell? ⟨w.heap.size, 2, none⟩ = some (.int .i64 R2) ∧ wr.drew.cell? ⟨w.heap.size, 3, none⟩ = some (.int .i64 R3) := ⟨h.cb.s0, h.ss.ps.c0, h.q4.c0, h.q4.c1, h.q4.c2, h.q4.c3⟩
theorem LQ.hk2 {w : World} {base p m : Nat} {v : Value} {bs bg bf : Nat} {A : Option Addr} {cg sn : Nat} {tiles : List Int} {A1 : Option Addr} {c1 n1 : Nat} {l : List Nd} {R0 R1 R2 R3 : Int} {wr : World} (h : LQ w base p m v bs bg bf A cg sn tiles (.slice A1 n1 c1) l (R0, R1, R2, R3) wr) : wr.cell? ⟨bs, 0, none⟩ = some (.pointer (some ⟨p, 0, none⟩)) ∧ wr.cell? ⟨p, 0, none⟩ = some (.slice A1 n1 c1) ∧ wr.cell? ⟨w.heap.size, 0, none⟩ = some (.int .i64 R0) ∧ wr.cell? ⟨w.heap.size, 1, none⟩ = some (.int .i64 R1) ∧ wr.cell? ⟨w.heap.size, 2, none⟩ = some (.int .i64 R2) ∧ wr.cell? ⟨w.heap.size, 3, none⟩ = some (.int .i64 R3) := ⟨h.cb.s0, h.ss.ps.c0, h.q4.c0, h.q4.c1, h.q4.c2, h.q4.c3⟩
theorem LQ.hk3 {w : World} {base p m : Nat} {v v' : Value} {bs bg bf : Nat} {A : Option Addr} {cg sn : Nat} {tiles : List Int} {l : List Nd} {R0 R1 R2 R3 : Int} {wr : World} (h : LQ w base p m v bs bg bf A cg sn tiles v' l (R0, R1, R2, R3) wr) : wr.drew.cell? ⟨bs, 0, none⟩ = some (.pointer (some ⟨p, 0, none⟩)) ∧ wr.drew.cell? ⟨w.heap.size, 0, none⟩ = some (.int .i64 R0) ∧ wr.drew.cell? ⟨w.heap.size, 1, none⟩ = some (.int .i64 R1) ∧ wr.drew.cell? ⟨w.heap.size, 2, none⟩ = some (.int .i64 R2) ∧ wr.drew.cell? ⟨w.heap.size, 3, none⟩ = some (.int .i64 R3) := ⟨h.cb.s0, h.q4.c0, h.q4.c1, h.q4.c2, h.q4.c3⟩
theorem LQ.hk4 {w : World} {base p m : Nat} {v v' : Value} {bs bg bf : Nat} {A : Option Addr} {cg sn : Nat} {tiles : List Int} {l : List Nd} {R0 R1 R2 R3 : Int} {wr : World} (h : LQ w base p m v bs bg bf A cg sn tiles v' l (R0, R1, R2, R3) wr) : wr.cell? ⟨bs, 0, none⟩ = some (.pointer (some ⟨p, 0, none⟩)) ∧ wr.cell? ⟨w.heap.size, 0, none⟩ = some (.int .i64 R0) ∧ wr.cell? ⟨w.heap.size, 1, none⟩ = some (.int .i64 R1) ∧ wr.cell? ⟨w.heap.size, 2, none⟩ = some (.int .i64 R2) ∧ wr.cell? ⟨w.heap.size, 3, none⟩ = some (.int .i64 R3) := ⟨h.cb.s0, h.q4.c0, h.q4.c1, h.q4.c2, h.q4.c3⟩

set_option maxRecDepth 100000 in
set_option maxHeartbeats 1000000 in
theorem pSq_body (sn : Nat) (tiles : List Int) (n h : Nat) (hn : n = 2 * h) (h1 : 1 ≤ h) (base p m bs bg bf x y cg : Nat) (v : Value) (l L0 L1 L2 L3 : List Nd) (R0 R1 R2 R3 : Nat) (A : Option Addr) (w : World)
    (hx : x + n ≤ 8) (hy : y + n ≤ 8) (hss : SS base p m v l w) (hcb : CB base p m v bs bg bf A cg sn tiles w) (hL3 : L3.length ≤ 100000) (hR : R0 < L3.length) (hRR : R0 < 100000 ∧ R1 < 100000 ∧ R2 < 100000 ∧ R3 < 100000)
    (hk0 : ∀ (v' : Value) (w' : World), SS base p m v' l w' → CB base p m v' bs bg bf A cg sn tiles w' → Calls Try.prog 103 #[.int .i64 (x : Int), .int .i64 (y : Int), .int .i64 h, .pointer (some ⟨bs, 0, none⟩), .pointer (some ⟨bg, 0, none⟩), .pointer (some ⟨bf, 0, none⟩)] w' fun e w'' => e = .returned (.int .i64 R0) ∧ ∃ v'', SS base p m v'' L0 w'' ∧ PG p m v' v'' w' w'')
    (hk1 : ∀ (v' : Value) (w' : World), SS base p m v' L0 w' → CB base p m v' bs bg bf A cg sn tiles w' → Calls Try.prog 103 #[.int .i64 ((x : Int) + (h : Int)), .int .i64 (y : Int), .int .i64 h, .pointer (some ⟨bs, 0, none⟩), .pointer (some ⟨bg, 0, none⟩), .pointer (some ⟨bf, 0, none⟩)] w' fun e w'' => e = .returned (.int .i64 R1) ∧ ∃ v'', SS base p m v'' L1 w'' ∧ PG p m v' v'' w' w'')
    (hk2 : ∀ (v' : Value) (w' : World), SS base p m v' L1 w' → CB base p m v' bs bg bf A cg sn tiles w' → Calls Try.prog 103 #[.int .i64 (x : Int), .int .i64 ((y : Int) + (h : Int)), .int .i64 h, .pointer (some ⟨bs, 0, none⟩), .pointer (some ⟨bg, 0, none⟩), .pointer (some ⟨bf, 0, none⟩)] w' fun e w'' => e = .returned (.int .i64 R2) ∧ ∃ v'', SS base p m v'' L2 w'' ∧ PG p m v' v'' w' w'')
    (hk3 : ∀ (v' : Value) (w' : World), SS base p m v' L2 w' → CB base p m v' bs bg bf A cg sn tiles w' → Calls Try.prog 103 #[.int .i64 ((x : Int) + (h : Int)), .int .i64 ((y : Int) + (h : Int)), .int .i64 h, .pointer (some ⟨bs, 0, none⟩), .pointer (some ⟨bg, 0, none⟩), .pointer (some ⟨bf, 0, none⟩)] w' fun e w'' => e = .returned (.int .i64 R3) ∧ ∃ v'', SS base p m v'' L3 w'' ∧ PG p m v' v'' w' w'') :
    Calls Try.prog 103 #[.int .i64 x, .int .i64 y, .int .i64 n, .pointer (some ⟨bs, 0, none⟩), .pointer (some ⟨bg, 0, none⟩), .pointer (some ⟨bf, 0, none⟩)] w fun e w' => e = .returned (.int .i64 (resQ L3 R0 R1 R2 R3).2) ∧ ∃ v', SS base p m v' (resQ L3 R0 R1 R2 R3).1 w' ∧ PG p m v v' w w' := by
  have hp := hss.ps.lt
  have hm := hss.map.lt
  have hbs := hcb.hs.1
  have hbg := hcb.hg.1
  have hbf := hcb.hf.1
  have hbb : base ≤ w.heap.size := Nat.le_trans hss.ps.hb (Nat.le_of_lt hp)
  have hb0 : Below w.heap.size w (w.alloc (.cells #[.int .i64 0, .int .i64 0, .int .i64 0, .int .i64 0] 153)) := (Below.refl _ _).alloc (Nat.le_refl _) _
  have HL0 : Hid (LQ w base p m v bs bg bf A cg sn tiles v (lsF l L0 L1 L2 L3 0) (rsF R0 R1 R2 R3 0) (w.alloc (.cells #[.int .i64 0, .int .i64 0, .int .i64 0, .int .i64 0] 153))) :=
    LQ.mk (hss.below hb0) (hcb.below hb0 hbb) (PG.below hb0) (fun e => by have := (hss.ps.own.lt _ e).2; omega) (Q4.mk (by simp [go_sem, rsF]) (by simp [go_sem, rsF]) (by simp [go_sem, rsF]) (by simp [go_sem, rsF]) (fun j => by simp [go_sem])) (by simp)
  have HK0 := Lib.hid hk0
  have HK1 := Lib.hid hk1
  have HK2 := Lib.hid hk2
  have HK3 := Lib.hid hk3
  have HL3L := Lib.hid hL3
  have HR := Lib.hid hR
  have HRR := Lib.hid hRR
  have hdv : (n : Int).tdiv 2 = (h : Int) := by rw [hn]; exact tdiv2 h
  have hn1 : ((n : Int) == 1) = false := by simp; omega
  have x8 : (x : Int) + (h : Int) ≤ 8 := by omega
  have y8 : (y : Int) + (h : Int) ≤ 8 := by omega
  have h8 : (h : Int) ≤ 4 := by omega
  have h0 : (1 : Int) ≤ (h : Int) := by omega
  clear hk0 hk1 hk2 hk3 hL3 hR hRR hss hcb hb0 hn hx hy
  go_enter Try.func103, Try.ntmps103
  go_wp2_with fail
  go_loopw [30] (fun i wr => RelQ w base p m v bs bg bf A cg sn tiles l L0 L1 L2 L3 R0 R1 R2 R3 i wr) (fun i _ => 4 - (intOf i).toNat)
  case atStart => exact ⟨0, v, rfl, Nat.zero_le _, HL0.out⟩
  case round =>
    obtain ⟨i, v1, rfl, hi, hlq⟩ := hrel
    have HL := Lib.hid hlq
    clear hlq HL0
    by_cases hi4 : i = 4
    · subst hi4
      simp only [lsF, rsF] at HL
      obtain ⟨A1, c1, rfl⟩ := HL.out.ss.ps.own.form
      have hOn := pOneLeaf_any A1 c1 L3 R0 R1 R2 R3 wr.drew (HL.out.ss.ps.own.drew.rn) (cast_nn R0) (cast_lt HR.out)
      unfold qV at hOn
      have hk := HL.out.hk1
      cases ho : oneL L3 R0 R1 R2 R3
      · rw [ho] at hOn
        have HRS : Hid (resQ L3 R0 R1 R2 R3 = addN L3 ⟨-1, R0, R1, R2, R3⟩) := by show _ = _; rw [resQ, if_neg (by rw [ho]; simp)]
        clear ho
        go_wp2_with fail
        go_region_held3 (fun w' => w'.cell? ⟨bs, 0, none⟩ = some (.pointer (some ⟨p, 0, none⟩)) ∧ w'.cell? ⟨p, 0, none⟩ = some (.slice A1 L3.length c1) ∧ w'.cell? ⟨w.heap.size, 0, none⟩ = some (.int .i64 R0) ∧ w'.cell? ⟨w.heap.size, 1, none⟩ = some (.int .i64 R1) ∧ w'.cell? ⟨w.heap.size, 2, none⟩ = some (.int .i64 R2) ∧ w'.cell? ⟨w.heap.size, 3, none⟩ = some (.int .i64 R3))
          (first
            | go_keep
            | exact hk)
          (first | (go_at_call 106; refine hOn.mono ?_; rintro e w1 ⟨rfl, hb1⟩; have HL1 := Lib.hid (HL.out.below ((Below.refl _ _).drew.trans hb1) hp hm); clear hk; have hk := HL1.out.hk2; clear hb1))
        have hk2 := HL1.out.hk3
        have hSp := pSplitOf_any R0 R1 R2 R3
        clear hk hOn
        go_wp2_with fail
        go_region_held3 (fun w' => w'.cell? ⟨bs, 0, none⟩ = some (.pointer (some ⟨p, 0, none⟩)) ∧ w'.cell? ⟨w.heap.size, 0, none⟩ = some (.int .i64 R0) ∧ w'.cell? ⟨w.heap.size, 1, none⟩ = some (.int .i64 R1) ∧ w'.cell? ⟨w.heap.size, 2, none⟩ = some (.int .i64 R2) ∧ w'.cell? ⟨w.heap.size, 3, none⟩ = some (.int .i64 R3))
          (first
            | go_keep
            | exact hk2)
          (first
            | (go_at_call 107; refine (hSp w1.drew).mono ?_; rintro e w2 ⟨rfl, hb2⟩; have HL2 := Lib.hid (HL1.out.below ((Below.refl _ _).drew.trans hb2) hp hm); clear hk2; have hk2 := HL2.out.hk4; clear hb2)
            | (go_at_call 104; refine (pKeep_any base p m _ L3 ⟨-1, R0, R1, R2, R3⟩ w2 HL2.out.ss (split_fits HRR.out) HL3L.out).mono ?_; rintro e w3 ⟨rfl, v3, hs3, hg3⟩; have HL3 := Lib.hid (HL2.out.call hs3 hg3 hp hm); clear hk2; have hk2 := HL3.out.hk4; clear hs3 hg3))
        go_wp2_with fail
        go_ret
        rw [HRS.out]
        exact ⟨rfl, v3, HL3.out.ss, HL3.out.pg⟩
      · rw [ho] at hOn
        have HRS : Hid (resQ L3 R0 R1 R2 R3 = (L3, R0)) := by show _ = _; rw [resQ, if_pos ho]
        clear ho
        go_wp2_with fail
        go_region_held3 (fun w' => w'.cell? ⟨bs, 0, none⟩ = some (.pointer (some ⟨p, 0, none⟩)) ∧ w'.cell? ⟨p, 0, none⟩ = some (.slice A1 L3.length c1) ∧ w'.cell? ⟨w.heap.size, 0, none⟩ = some (.int .i64 R0) ∧ w'.cell? ⟨w.heap.size, 1, none⟩ = some (.int .i64 R1) ∧ w'.cell? ⟨w.heap.size, 2, none⟩ = some (.int .i64 R2) ∧ w'.cell? ⟨w.heap.size, 3, none⟩ = some (.int .i64 R3))
          (first
            | go_keep
            | exact hk)
          (first | (go_at_call 106; refine hOn.mono ?_; rintro e w1 ⟨rfl, hb1⟩; have HL1 := Lib.hid (HL.out.below ((Below.refl _ _).drew.trans hb1) hp hm); clear hk; have hk := HL1.out.hk2; clear hb1))
        have c0 := HL1.out.q4.c0
        simp only at c0
        clear hk hOn
        go_wp2_with fail
        go_ret
        rw [HRS.out]
        exact ⟨rfl, _, HL1.out.ss, HL1.out.pg⟩
    · have h4 : i = 0 ∨ i = 1 ∨ i = 2 ∨ i = 3 := by omega
      clear hi hi4
      rcases h4 with rfl | rfl | rfl | rfl
      · have hc := HK0.out v1 wr HL.out.ss HL.out.cb
        have k0 := HL.out.cb.k0
        go_wp2_with fail
        refine hc.mono ?_
        rintro e w2 ⟨rfl, v2, hs2, hg2⟩
        have HL2 := Lib.hid (HL.out.call hs2 hg2 hp hm)
        clear hc hs2 hg2 k0
        obtain ⟨c0, c1, c2, c3, fz⟩ := HL2.out.q4
        simp only [rsF] at c0 c1 c2 c3
        have fzj := fz 0
        have HL3 := Lib.hid (HL2.out.store (q' := rsF R0 R1 R2 R3 1) 0 R0 (HL2.out.q4.set0 R0) hp hm hbs hbg hbf hbb)
        clear fz
        go_wp2_with fail
        go_roundw
        case rel => exact ⟨1, v2, by go_num, by omega, HL3.out⟩
        case measure => simp [intOf]
      · have hc := HK1.out v1 wr HL.out.ss HL.out.cb
        have k0 := HL.out.cb.k0
        go_wp2_with fail
        refine hc.mono ?_
        rintro e w2 ⟨rfl, v2, hs2, hg2⟩
        have HL2 := Lib.hid (HL.out.call hs2 hg2 hp hm)
        clear hc hs2 hg2 k0
        obtain ⟨c0, c1, c2, c3, fz⟩ := HL2.out.q4
        simp only [rsF] at c0 c1 c2 c3
        have fzj := fz 1
        have HL3 := Lib.hid (HL2.out.store (q' := rsF R0 R1 R2 R3 2) 1 R1 (HL2.out.q4.set1 R1) hp hm hbs hbg hbf hbb)
        clear fz
        go_wp2_with fail
        go_roundw
        case rel => exact ⟨2, v2, by go_num, by omega, HL3.out⟩
        case measure => simp [intOf]
      · have hc := HK2.out v1 wr HL.out.ss HL.out.cb
        have k0 := HL.out.cb.k0
        go_wp2_with fail
        refine hc.mono ?_
        rintro e w2 ⟨rfl, v2, hs2, hg2⟩
        have HL2 := Lib.hid (HL.out.call hs2 hg2 hp hm)
        clear hc hs2 hg2 k0
        obtain ⟨c0, c1, c2, c3, fz⟩ := HL2.out.q4
        simp only [rsF] at c0 c1 c2 c3
        have fzj := fz 2
        have HL3 := Lib.hid (HL2.out.store (q' := rsF R0 R1 R2 R3 3) 2 R2 (HL2.out.q4.set2 R2) hp hm hbs hbg hbf hbb)
        clear fz
        go_wp2_with fail
        go_roundw
        case rel => exact ⟨3, v2, by go_num, by omega, HL3.out⟩
        case measure => simp [intOf]
      · have hc := HK3.out v1 wr HL.out.ss HL.out.cb
        have k0 := HL.out.cb.k0
        go_wp2_with fail
        refine hc.mono ?_
        rintro e w2 ⟨rfl, v2, hs2, hg2⟩
        have HL2 := Lib.hid (HL.out.call hs2 hg2 hp hm)
        clear hc hs2 hg2 k0
        obtain ⟨c0, c1, c2, c3, fz⟩ := HL2.out.q4
        simp only [rsF] at c0 c1 c2 c3
        have fzj := fz 3
        have HL3 := Lib.hid (HL2.out.store (q' := rsF R0 R1 R2 R3 4) 3 R3 (HL2.out.q4.set3 R3) hp hm hbs hbg hbf hbb)
        clear fz
        go_wp2_with fail
        go_roundw
        case rel => exact ⟨4, v2, by go_num, by omega, HL3.out⟩
        case measure => simp [intOf]
end Go.Proofs.Ytphkceiafehidaa
