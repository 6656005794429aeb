/- The model's pools: which are right. -/
import Derived.Test.YtoobkajilbmdhaaNodeM
import Derived.Deep.RegionHeld3
import Derived.Deep.RegionWith
namespace Go.Proofs.Ytoobkajilbmdhaa
open Go.RowKit

/-- A pool that is right. -/
def poolRight (l : List Nd) : Bool := decide (l.length ≤ 200 ∧ ∀ j (h : j < l.length), nodeOk l j l[j] = true ∧ findN l l[j] = (j : Int))

/-- The pool stands in its box, its nodes can be read. -/
structure PB (w : World) (A : Option Addr) (c : Nat) (l : List Nd) (wr : World) : Prop where
  c0 : wr.cell? ⟨w.heap.size, 0, none⟩ = some (.slice A l.length c)
  ri : RN wr w.heap.size A l
  bel : Below w.heap.size w wr
  siz : w.heap.size < wr.heap.size
theorem PB.below {w : World} {A : Option Addr} {c : Nat} {l : List Nd} {wr wr' : World} (h : PB w A c l wr) (hb : Below wr.heap.size wr wr') : PB w A c l wr' :=
  ⟨(hb.cell (p := ⟨w.heap.size, 0, none⟩) h.siz).trans h.c0, h.ri.below (hb.mono (Nat.le_of_lt h.siz)), h.bel.trans (hb.mono (Nat.le_of_lt h.siz)), Nat.lt_of_lt_of_le h.siz hb.size⟩
theorem PB.rn {w : World} {A : Option Addr} {c : Nat} {l : List Nd} {wr : World} (h : PB w A c l wr) : RN wr wr.heap.size A l := h.ri.mono (Nat.le_of_lt h.siz)
theorem PB.made (w : World) (A : Option Addr) (c : Nat) (l : List Nd) (h : RN w w.heap.size A l) : PB w A c l (w.alloc (.cells #[.slice A l.length c] 29)) :=
  ⟨by simp [go_sem], h.below ((Below.refl _ _).alloc (Nat.le_refl _) _), (Below.refl _ _).alloc (Nat.le_refl _) _, by simp⟩

theorem PB.held {w : World} {b off c k : Nat} {l : List Nd} {wr : World} {nt na nb nc nd : Int} (h : PB w (some ⟨b, off, none⟩) c l wr) (hk : k < l.length) (hn : l[k] = ⟨nt, na, nb, nc, nd⟩) :
    wr.cell? ⟨w.heap.size, 0, none⟩ = some (.slice (some ⟨b, off, none⟩) l.length c) ∧ wr.cell? ⟨b, off + k * 5, none⟩ = some (.int .i64 nt) ∧ wr.cell? ⟨b, off + k * 5 + 1, none⟩ = some (.int .i64 na) ∧ wr.cell? ⟨b, off + k * 5 + 2, none⟩ = some (.int .i64 nb) ∧ wr.cell? ⟨b, off + k * 5 + 3, none⟩ = some (.int .i64 nc) ∧ wr.cell? ⟨b, off + k * 5 + 4, none⟩ = some (.int .i64 nd) := by
  obtain ⟨b', off', he, _, hn'⟩ := h.ri.at_ hk
  simp only [Option.some.injEq, Addr.mk.injEq, and_true] at he
  obtain ⟨rfl, rfl⟩ := he
  rw [hn] at hn'
  exact ⟨h.c0, hn'.c0, hn'.c1, hn'.c2, hn'.c3, hn'.c4⟩

set_option maxRecDepth 100000 in
set_option maxHeartbeats 4000000 in
theorem mPoolRight_any (A : Option Addr) (c : Nat) (l : List Nd) (w : World) (h : RN w w.heap.size A l) (hl : l.length ≤ 1000000000) :
    Calls Try.prog 30 #[.agg #[.slice A l.length c]] w fun e w' => e = .returned (.bool (poolRight l)) ∧ Below w.heap.size w w' := by
  have HP0 := Lib.hid (PB.made w A c l h)
  have hbw : Below w.heap.size w (w.alloc (.cells #[.slice A l.length c] 29)) := (Below.refl _ _).alloc (Nat.le_refl _) _
  clear h
  by_cases h200 : l.length ≤ 200
  · have hd : decide ((200 : Int) < (l.length : Int)) = false := by simp; omega
    go_enter Try.func30, Try.ntmps30
    go_wp2
    go_loopw [3] (fun i wr => ∃ k : Nat, i = .int .i64 k ∧ k ≤ l.length ∧ PB w A c l wr ∧ ∀ j (hj : j < l.length), j < k → nodeOk l j l[j] = true ∧ findN l l[j] = (j : Int)) (fun i _ => l.length - (intOf i).toNat)
    case atStart => exact ⟨0, rfl, Nat.zero_le _, HP0.out, fun j _ h => absurd h (Nat.not_lt_zero _)⟩
    case round =>
      obtain ⟨k, rfl, hk, hpb, hall⟩ := hrel
      have HA := Lib.hid hall
      have HPB := Lib.hid hpb
      have c0 := hpb.c0
      clear hall
      by_cases hlt : k < l.length
      · have pd := hpb.below (Below.refl _ _).drew
        obtain ⟨b, off, rfl, hbl, hn⟩ := hpb.ri.at_ hlt
        have HN := Lib.hid hn
        have hNd := fun w h => mNode_any (some ⟨b, off, none⟩) c l k w h (by omega) hlt
        have hFd := fun w h => mFind_any (some ⟨b, off, none⟩) c l l[k] w h (by omega)
        clear hpb
        generalize hnk : l[k] = n at hn HN hNd hFd
        have HNK := Lib.hid hnk
        cases hok : nodeOk l k n
        · rw [hok] at hNd
          have HOK := Lib.hid hok
          clear hok hn hFd hnk HN HA HP0 h200 hbw
          go_wp2_with fail
          first
            | (go_region_with (go_at_call 51; refine (hNd _ pd.rn).mono ?_; rintro e w1 ⟨rfl, hb1⟩; have HP1 := Lib.hid (pd.below hb1); have c1 := HP1.out.c0; clear hb1))
            | fail
          all_goals
            go_wp2
            go_ret
            refine ⟨ret_bool ?_, HP1.out.bel⟩
            symm
            rw [poolRight, decide_eq_false_iff_not]
            rintro ⟨_, h⟩
            have h2 := (h k hlt).1
            rw [HNK.out, HOK.out] at h2
            cases h2
        · rw [hok] at hNd
          have HOK := Lib.hid hok
          clear hok
          obtain ⟨nt, na, nb, nc, nd⟩ := n
          obtain ⟨d0, d1, d2, d3, d4⟩ := hn
          unfold Nd.val at hFd
          simp only at d0 d1 d2 d3 d4
          generalize hfn : findN l ⟨nt, na, nb, nc, nd⟩ = f at *
          have HFN := Lib.hid hfn
          clear hnk hfn HN
          have hk := pd.held hlt HNK.out
          by_cases hfk : f = (k : Int)
          · have hq : (f != (k : Int)) = false := by simpa using hfk
            have HFK := Lib.hid hfk
            clear hfk
            go_wp2_with fail
            go_region_held3 (fun w' => w'.cell? ⟨w.heap.size, 0, none⟩ = some (.slice (some ⟨b, off, none⟩) l.length c) ∧ w'.cell? ⟨b, off + k * 5, none⟩ = some (.int .i64 nt) ∧ w'.cell? ⟨b, off + k * 5 + 1, none⟩ = some (.int .i64 na) ∧ w'.cell? ⟨b, off + k * 5 + 2, none⟩ = some (.int .i64 nb) ∧ w'.cell? ⟨b, off + k * 5 + 3, none⟩ = some (.int .i64 nc) ∧ w'.cell? ⟨b, off + k * 5 + 4, none⟩ = some (.int .i64 nd))
              (first
                | go_keep
                | exact hk)
              (first
                | (go_at_call 51; refine (hNd _ pd.rn).mono ?_; rintro e w1 ⟨rfl, hb1⟩; clear hk; have p1 := pd.below hb1; have hk := p1.held hlt HNK.out; clear hb1)
                | (go_at_call 52; refine (hFd w1 p1.rn).mono ?_; rintro e w2 ⟨rfl, hb2⟩; clear hk; have p2 := p1.below hb2; have hk := p2.held hlt HNK.out; clear hb2))
            have HP2 := Lib.hid p2
            clear p1 p2 pd hk d0 d1 d2 d3 d4 c0
            go_wp2
            go_roundw
            case rel => exact ⟨k + 1, by go_num, by omega, HP2.out, fun j hj hjk => by
              by_cases e : j = k
              · subst e; rw [HNK.out]; exact ⟨HOK.out, HFN.out.trans HFK.out⟩
              · exact HA.out j hj (by omega)⟩
            case measure => simp [intOf]; omega
          · have hq : (f != (k : Int)) = true := by simpa using hfk
            have HFK := Lib.hid hfk
            clear hfk
            go_wp2_with fail
            go_region_held3 (fun w' => w'.cell? ⟨w.heap.size, 0, none⟩ = some (.slice (some ⟨b, off, none⟩) l.length c) ∧ w'.cell? ⟨b, off + k * 5, none⟩ = some (.int .i64 nt) ∧ w'.cell? ⟨b, off + k * 5 + 1, none⟩ = some (.int .i64 na) ∧ w'.cell? ⟨b, off + k * 5 + 2, none⟩ = some (.int .i64 nb) ∧ w'.cell? ⟨b, off + k * 5 + 3, none⟩ = some (.int .i64 nc) ∧ w'.cell? ⟨b, off + k * 5 + 4, none⟩ = some (.int .i64 nd))
              (first
                | go_keep
                | exact hk)
              (first
                | (go_at_call 51; refine (hNd _ pd.rn).mono ?_; rintro e w1 ⟨rfl, hb1⟩; clear hk; have p1 := pd.below hb1; have hk := p1.held hlt HNK.out; clear hb1)
                | (go_at_call 52; refine (hFd w1 p1.rn).mono ?_; rintro e w2 ⟨rfl, hb2⟩; clear hk; have p2 := p1.below hb2; have hk := p2.held hlt HNK.out; clear hb2))
            have HP2 := Lib.hid p2
            clear p1 p2 pd hk d0 d1 d2 d3 d4 c0
            go_wp2
            go_ret
            refine ⟨ret_bool ?_, HP2.out.bel⟩
            symm
            rw [poolRight, decide_eq_false_iff_not]
            rintro ⟨_, h⟩
            have h2 := (h k hlt).2
            rw [HNK.out, HFN.out] at h2
            exact HFK.out h2
      · clear hpb
        go_wp2
        go_ret
        refine ⟨ret_bool ?_, HPB.out.bel⟩
        symm
        rw [poolRight, decide_eq_true_iff]
        exact ⟨h200, fun j hj => HA.out j hj (by omega)⟩
  · have hd : decide ((200 : Int) < (l.length : Int)) = true := by simp; omega
    have HL := Lib.hid h200
    clear h200
    go_enter Try.func30, Try.ntmps30
    go_wp2
    go_ret
    refine ⟨ret_bool ?_, hbw⟩
    symm
    rw [poolRight, decide_eq_false_iff_not]
    exact fun h => HL.out h.1
end Go.Proofs.Ytoobkajilbmdhaa
