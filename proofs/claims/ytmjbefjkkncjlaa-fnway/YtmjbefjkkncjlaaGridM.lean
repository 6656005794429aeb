/- The model's maps: what may be, what is right; one Lean function says what each of them answers. -/
import Derived.Test.YtmjbefjkkncjlaaGridL
namespace Go.Proofs.Ytmjbefjkkncjlaa
open Go.RowKit

def inIs (n lo hi : Int) : Bool := decide (lo ≤ n ∧ n ≤ hi)
def sideOk (n : Int) : Bool := n == 1 || n == 2 || n == 4 || n == 8
def tileOk (n : Int) : Bool := inIs n 0 9
def gridRight (side : Int) (l : List Int) : Bool := sideOk side && (l.length : Int) == side * side && l.all tileOk
theorem sideOk_iff (n : Int) : sideOk n = true ↔ n = 1 ∨ n = 2 ∨ n = 4 ∨ n = 8 := by simp [sideOk, or_assoc]
theorem tileOk_iff (n : Int) : tileOk n = true ↔ 0 ≤ n ∧ n ≤ 9 := by simp [tileOk, inIs]

set_option maxHeartbeats 400000 in
theorem mIs_any (n lo hi : Int) (w : World) :
    Calls Try.prog 58 #[.int .i64 n, .int .i64 lo, .int .i64 hi] w fun e w' => e = .returned (.bool (inIs n lo hi)) ∧ w = w' := by
  by_cases h1 : lo ≤ n
  · by_cases h2 : n ≤ hi
    all_goals
      go_enter Try.func58, Try.ntmps58
      go_wp2
      go_ret
      exact ⟨ret_bool (by simp [inIs]; omega), rfl⟩
  · go_enter Try.func58, Try.ntmps58
    go_wp2
    go_ret
    exact ⟨ret_bool (by simp [inIs]; omega), rfl⟩

set_option maxHeartbeats 400000 in
theorem mTile_any (n : Int) (w : World) :
    Calls Try.prog 57 #[.int .i64 n] w fun e w' => e = .returned (.bool (tileOk n)) ∧ w = w' := by
  go_enter Try.func57, Try.ntmps57
  go_wp2_with (go_at_call 58; refine (mIs_any n 0 9 _).mono ?_; rintro e w' ⟨rfl, rfl⟩)
  go_ret
  exact ⟨rfl, rfl⟩

set_option maxHeartbeats 400000 in
theorem mSide_any (n : Int) (w : World) :
    Calls Try.prog 56 #[.int .i64 n] w fun e w' => e = .returned (.bool (sideOk n)) ∧ w = w' := by
  cases h1 : (n == 1) <;> cases h2 : (n == 2) <;> cases h4 : (n == 4) <;> cases h8 : (n == 8)
  all_goals
    have HS : Hid (sideOk n = (n == 1 || n == 2 || n == 4 || n == 8)) := rfl
    rw [h1, h2, h4, h8] at HS
    go_enter Try.func56, Try.ntmps56
    go_wp2
    go_ret
    exact ⟨ret_bool HS.out.symm, rfl⟩

set_option maxHeartbeats 400000 in
theorem mIll_any (code : Int) (w : World) :
    Calls Try.prog 74 #[.int .i64 code] w fun e w' => e = .returned (.agg #[.int .i64 0, .slice none 0 0, .int .i64 code]) ∧ Below w.heap.size w w' := by
  go_enter Try.func74, Try.ntmps74
  go_wp2
  refine bodyPost_ret (v := .agg #[.int .i64 0, .slice none 0 0, .int .i64 code]) (by simp [results, Try.results74, go_sem]) rfl ⟨rfl, ?_⟩
  exact (Below.refl _ _).alloc (Nat.le_refl _) _

theorem all_get {l : List Int} {p : Int → Bool} {k : Nat} (h : ∀ j (hj : j < l.length), j < k → p l[j] = true) (hk : l.length ≤ k) : l.all p = true := by
  rw [List.all_eq_true]
  intro x hx
  obtain ⟨j, hj, rfl⟩ := List.getElem_of_mem hx
  exact h j hj (by omega)

set_option maxRecDepth 100000 in
set_option maxHeartbeats 400000 in
theorem mRight_any (side : Int) (A : Option Addr) (c : Nat) (l : List Int) (w : World) (h : RI w w.heap.size A l) (hl : l.length ≤ 1000000000) :
    Calls Try.prog 28 #[.agg #[.int .i64 side, .slice A l.length c]] w fun e w' => e = .returned (.bool (gridRight side l)) ∧ Below w.heap.size w w' := by
  have H := Lib.hid h
  clear h
  have hbw : Below w.heap.size w (w.alloc (.cells #[.int .i64 side, .slice A l.length c] 25)) := (Below.refl _ _).alloc (Nat.le_refl _) _
  have hsd := mSide_any side
  cases hs : sideOk side
  · rw [hs] at hsd
    have HS := Lib.hid hs
    clear hs
    go_enter Try.func28, Try.ntmps28
    go_wp2_with fail
    refine (hsd _).mono ?_
    rintro e w1 ⟨rfl, rfl⟩
    go_wp2
    go_ret
    exact ⟨ret_bool (by simp [gridRight, HS.out]), hbw⟩
  · rw [hs] at hsd
    have HS := Lib.hid hs
    have hm : IntKind.i64.wrap (side * side) = side * side := by
      rcases (sideOk_iff side).1 hs with rfl | rfl | rfl | rfl <;> decide
    clear hs
    cases he : ((l.length : Int) == side * side)
    · have HE := Lib.hid he
      go_enter Try.func28, Try.ntmps28
      go_wp2_with fail
      refine (hsd _).mono ?_
      rintro e w1 ⟨rfl, rfl⟩
      go_wp2
      go_ret
      exact ⟨ret_bool (by simp only [gridRight, HE.out]; simp), hbw⟩
    · have HE := Lib.hid he
      go_enter Try.func28, Try.ntmps28
      go_wp2_with fail
      refine (hsd _).mono ?_
      rintro e w1 ⟨rfl, rfl⟩
      go_wp2
      have HR := Lib.hid ((H.out.below hbw).mono (Nat.le_refl _))
      rename_i hx K ha
      clear H hx he
      go_loop [3] (fun i => ∃ k : Nat, i = .int .i64 k ∧ k ≤ l.length ∧ ∀ j (hj : j < l.length), j < k → tileOk l[j] = true) (fun i => l.length - (intOf i).toNat)
      case atStart => exact ⟨0, rfl, Nat.zero_le _, fun j _ h => absurd h (Nat.not_lt_zero _)⟩
      case round =>
        obtain ⟨k, rfl, hk, ht⟩ := hrel
        have HA := Lib.hid ht
        clear ht
        by_cases hlt : k < l.length
        · obtain ⟨b, off, rfl, _, hc⟩ := HR.out.at_ hlt
          have hti := mTile_any l[k]
          cases htk : tileOk l[k]
          · rw [htk] at hti
            have HK := Lib.hid htk
            clear htk
            go_wp2_with (go_at_call 57; refine (hti _).mono ?_; rintro e w1 ⟨rfl, rfl⟩)
            go_ret
            refine ⟨ret_bool ?_, hbw⟩
            have hna : l.all tileOk = false := by
              rw [List.all_eq_false]
              exact ⟨l[k], List.getElem_mem hlt, by rw [HK.out]; decide⟩
            simp [gridRight, hna]
          · rw [htk] at hti
            have HK := Lib.hid htk
            clear htk
            go_wp2_with (go_at_call 57; refine (hti _).mono ?_; rintro e w1 ⟨rfl, rfl⟩)
            go_round
            case rel => exact ⟨k + 1, by go_num, by omega, fun j hj hjk => by
              by_cases e : j = k
              · subst e; exact HK.out
              · exact HA.out j hj (by omega)⟩
            case measure => simp [intOf]; omega
        · go_wp2
          go_ret
          refine ⟨ret_bool ?_, hbw⟩
          have := all_get HA.out (by omega)
          rw [gridRight, HS.out, HE.out, this]
          rfl
end Go.Proofs.Ytmjbefjkkncjlaa
