/- The program's maps: what may be, what is right, a tile. -/
import Derived.Test.YtmjbefjkkncjlaaGWalk
namespace Go.Proofs.Ytmjbefjkkncjlaa
open Go.RowKit

theorem OwnI.cap {e : TypeId} {k : IntKind} {w : World} {base n c : Nat} {A : Option Addr} {l : List Int} (h : OwnI e k w base (.slice A n c) l) : l.length ≤ c := by
  rcases h.2 with ⟨hv, hn⟩ | ⟨g, cap, cur, hv, _, _, hn, _⟩
  · omega
  · cases hv; exact hn

set_option maxHeartbeats 400000 in
theorem pTile_any (n : Int) (w : World) :
    Calls Try.prog 53 #[.int .i64 n] w fun e w' => e = .returned (.bool (tileOk n)) ∧ w = w' := by
  by_cases h1 : 0 ≤ n
  · by_cases h2 : n ≤ 9
    all_goals
      go_enter Try.func53, Try.ntmps53
      go_wp2
      go_ret
      exact ⟨ret_bool (by simp [tileOk, inIs]; omega), rfl⟩
  · go_enter Try.func53, Try.ntmps53
    go_wp2
    go_ret
    exact ⟨ret_bool (by simp [tileOk, inIs]; omega), rfl⟩

set_option maxHeartbeats 400000 in
theorem pSide_any (n : Int) (w : World) :
    Calls Try.prog 52 #[.int .i64 n] w fun e w' => e = .returned (.bool (sideOk n)) ∧ w = w' := by
  by_cases h1 : 1 ≤ n
  · by_cases h2 : n ≤ 8
    · have h : n = 1 ∨ n = 2 ∨ n = 3 ∨ n = 4 ∨ n = 5 ∨ n = 6 ∨ n = 7 ∨ n = 8 := by omega
      rcases h with rfl | rfl | rfl | rfl | rfl | rfl | rfl | rfl
      all_goals
        go_enter Try.func52, Try.ntmps52
        go_wp2
        go_ret
        exact ⟨rfl, rfl⟩
    · go_enter Try.func52, Try.ntmps52
      go_wp2
      go_ret
      exact ⟨ret_bool (by simp [sideOk]; omega), rfl⟩
  · go_enter Try.func52, Try.ntmps52
    go_wp2
    go_ret
    exact ⟨ret_bool (by simp [sideOk]; omega), rfl⟩

def spanIn (side at_ size : Int) : Bool := decide (0 ≤ at_ ∧ 1 ≤ size ∧ size ≤ side - at_)
set_option maxHeartbeats 400000 in
theorem pSpan_any (side at_ size : Int) (w : World) (hs : sideOk side = true) (ha : In64 at_) :
    Calls Try.prog 69 #[.int .i64 side, .int .i64 at_, .int .i64 size] w fun e w' => e = .returned (.bool (spanIn side at_ size)) ∧ w = w' := by
  have hb := side_bound hs
  unfold In64 at ha
  by_cases h1 : 0 ≤ at_
  · by_cases h2 : 1 ≤ size
    · have hw : IntKind.i64.wrap (side - at_) = side - at_ := IntWalk.i64_in _ (by omega)
      by_cases h3 : size ≤ side - at_
      all_goals
        go_enter Try.func69, Try.ntmps69
        go_wp2
        go_ret
        exact ⟨ret_bool (by simp [spanIn]; omega), rfl⟩
    · go_enter Try.func69, Try.ntmps69
      go_wp2
      go_ret
      exact ⟨ret_bool (by simp [spanIn]; omega), rfl⟩
  · go_enter Try.func69, Try.ntmps69
    go_wp2
    go_ret
    exact ⟨ret_bool (by simp [spanIn]; omega), rfl⟩

set_option maxRecDepth 100000 in
set_option maxHeartbeats 400000 in
theorem pRight_any (side : Int) (A : Option Addr) (c : Nat) (l : List Int) (w : World) (h : RI w w.heap.size A l) (hl : l.length ≤ 1000000000) :
    Calls Try.prog 25 #[.agg #[.int .i64 side, .slice A l.length c]] w fun e w' => e = .returned (.bool (gridRight side l)) ∧ Below w.heap.size w w' := by
  have H := Lib.hid h
  clear h
  have hbw : Below w.heap.size w (w.alloc (.cells #[.int .i64 side, .slice A l.length c] 25)) := (Below.refl _ _).alloc (Nat.le_refl _) _
  have hsd := pSide_any side
  cases hs : sideOk side
  · rw [hs] at hsd
    have HS := Lib.hid hs
    clear hs
    go_enter Try.func25, Try.ntmps25
    go_wp2_with fail
    refine (hsd _).mono ?_
    rintro e w1 ⟨rfl, rfl⟩
    go_wp2
    go_ret
    exact ⟨ret_bool (by simp [gridRight, HS.out]), hbw⟩
  · rw [hs] at hsd
    have HS := Lib.hid hs
    have hm : IntKind.i64.wrap (side * side) = side * side := by
      rcases (sideOk_iff side).1 hs with rfl | rfl | rfl | rfl <;> decide
    clear hs
    cases he : ((l.length : Int) == side * side)
    · have HE := Lib.hid he
      go_enter Try.func25, Try.ntmps25
      go_wp2_with fail
      refine (hsd _).mono ?_
      rintro e w1 ⟨rfl, rfl⟩
      go_wp2
      go_ret
      exact ⟨ret_bool (by simp only [gridRight, HE.out]; simp), hbw⟩
    · have HE := Lib.hid he
      have hne : ((l.length : Int) != side * side) = false := by rw [bne, he]; rfl
      have heq : (l.length : Int) = side * side := by simpa using he
      go_enter Try.func25, Try.ntmps25
      go_wp2_with fail
      refine (hsd _).mono ?_
      rintro e w1 ⟨rfl, rfl⟩
      go_wp2
      have HR := Lib.hid ((H.out.below hbw).mono (Nat.le_refl _))
      clear H he
      go_loop [4, 23] (fun _ i => ∃ k : Nat, i = .int .i64 k ∧ k ≤ l.length ∧ ∀ j (hj : j < l.length), j < k → tileOk l[j] = true) (fun _ i => l.length - (intOf i).toNat)
      case atStart => exact ⟨0, rfl, Nat.zero_le _, fun j _ h => absurd h (Nat.not_lt_zero _)⟩
      case round =>
        obtain ⟨k, rfl, hk, ht⟩ := hrel
        have HA := Lib.hid ht
        clear ht
        by_cases hlt : k < l.length
        · obtain ⟨b, off, rfl, _, hc⟩ := HR.out.at_ hlt
          have hti := pTile_any l[k]
          cases htk : tileOk l[k]
          · rw [htk] at hti
            have HK := Lib.hid htk
            clear htk
            go_wp2_with (go_at_call 53; refine (hti _).mono ?_; rintro e w1 ⟨rfl, rfl⟩)
            go_ret
            refine ⟨ret_bool ?_, hbw⟩
            have hna : l.all tileOk = false := by
              rw [List.all_eq_false]
              exact ⟨l[k], List.getElem_mem hlt, by rw [HK.out]; decide⟩
            simp [gridRight, hna]
          · rw [htk] at hti
            have HK := Lib.hid htk
            clear htk
            go_wp2_with (go_at_call 53; refine (hti _).mono ?_; rintro e w1 ⟨rfl, rfl⟩)
            go_round
            case rel => exact ⟨k + 1, by go_num, by omega, fun j hj hjk => by
              by_cases e : j = k
              · subst e; exact HK.out
              · exact HA.out j hj (by omega)⟩
            case measure => simp [intOf]; omega
        · go_wp2
          go_ret
          refine ⟨ret_bool ?_, hbw⟩
          have := all_get HA.out (by omega)
          rw [gridRight, HS.out, HE.out, this]
          rfl

theorem gridRight_does : GridRightDoes := fun side A c l w _ h hl _ => pRight_any side A c l w h (by omega)
end Go.Proofs.Ytmjbefjkkncjlaa
