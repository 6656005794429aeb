/- The program's maps: new ones. -/
import Derived.Test.YtmjbefjkkncjlaaPgA
import Derived.Test.YtmjbefjkkncjlaaGWalkN
import Derived.Laws.CopyOwn
import Derived.Deep.RegionLaw
namespace Go.Proofs.Ytmjbefjkkncjlaa
open Go.RowKit

set_option maxHeartbeats 400000 in
theorem pMul64_any (n : Int) (w : World) (h : n = 1 ∨ n = 4 ∨ n = 16 ∨ n = 64) :
    Calls Try.prog 73 #[.int .u64 1, .int .u64 n] w fun e w' => e = .returned (.tuple #[.int .u64 0, .int .u64 n]) ∧ w = w' := by
  rcases h with rfl | rfl | rfl | rfl
  all_goals
    go_enter Try.func73, Try.ntmps73
    go_wp2
    exact bodyPost_ret (v := .tuple #[.int .u64 0, .int .u64 _]) (by simp [results, Try.results73, go_sem] <;> decide) rfl ⟨rfl, rfl⟩

set_option maxHeartbeats 400000 in
theorem pMul_any (n : Int) (w : World) (h : n = 1 ∨ n = 4 ∨ n = 16 ∨ n = 64) :
    Calls Try.prog 66 #[.int .u64 1, .int .u64 n] w fun e w' => e = .returned (.tuple #[.int .u64 0, .int .u64 n]) ∧ w = w' := by
  have hm := fun w => pMul64_any n w h
  clear h
  go_enter Try.func66, Try.ntmps66
  go_wp2_with fail
  refine (hm _).mono ?_
  rintro e w1 ⟨rfl, rfl⟩
  go_wp2
  exact bodyPost_ret (v := .tuple #[.int .u64 0, .int .u64 _]) (by simp [results, Try.results66, go_sem]) rfl ⟨rfl, rfl⟩

/-- Block g is, whole, the numbers l. -/
def Row64 (w : World) (g : Nat) (l : List Int) : Prop := w.heap[g]? = some (.cells (l.map (Value.int .i64)).toArray 2 (0, 0))
theorem row64_made {w : World} {base g n : Nat} (h : w.ownsRow base 2 1 (.slice (some ⟨g, 0, none⟩) n n) n (madeCells #[Value.int .i64 0] n).toList) : Row64 w g (List.replicate n 0) := by
  rcases h.2 with ⟨h', _⟩ | ⟨g', cap, cur, h', _, hg, _, _, hcs, htake⟩
  · simp at h'
  · simp only [Value.slice.injEq, Option.some.injEq, Addr.mk.injEq, and_true, true_and] at h'
    obtain ⟨rfl, rfl⟩ := h'
    rw [toList_madeCells_one, List.take_of_length_le (by rw [Array.length_toList, hcs]; exact Nat.le_refl _)] at htake
    unfold Row64
    rw [hg, List.map_replicate, ← htake]
theorem row64_own {w : World} {base g : Nat} {l : List Int} (h : Row64 w g l) (hb : base ≤ g) (hm : l.length ≤ maxLen) : OwnI 2 .i64 w base (.slice (some ⟨g, 0, none⟩) l.length l.length) l :=
  ⟨by simp, .inr ⟨g, l.length, _, rfl, hb, h, Nat.le_refl _, hm, by simp, by rw [Nat.mul_one]; exact List.take_of_length_le (by simp)⟩⟩
theorem Try.sizeInt : (Try.prog.info? 2).map (·.size) = some 1 := by kernel_rfl
/-- The row while it is filled: k cells are. -/
def upTo (k n : Nat) (x : Int) : List Int := List.replicate k x ++ List.replicate (n - k) 0
theorem upTo_length (k n : Nat) (x : Int) (h : k ≤ n) : (upTo k n x).length = n := by simp [upTo]; omega
theorem upTo_splice (k m n : Nat) (x : Int) : splice ((upTo k n x).map (Value.int .i64)) k (List.replicate m (.int .i64 x)) = (upTo (k + m) n x).map (Value.int .i64) := by
  have e : n - k - m = n - (k + m) := by omega
  simp [upTo, splice, List.drop_append, e]
  rw [← List.append_assoc, List.replicate_append_replicate]

set_option maxRecDepth 100000 in
set_option maxHeartbeats 400000 in
theorem pRepeat_any (n : Nat) (tile : Int) (b : Nat) (w : World) (h : (n : Int) = 1 ∨ (n : Int) = 4 ∨ (n : Int) = 16 ∨ (n : Int) = 64) (hc : w.cell? ⟨b, 0, none⟩ = some (.int .i64 tile)) :
    Calls Try.prog 38 #[.slice (some ⟨b, 0, none⟩) 1 1, .int .i64 n] w fun e w' => e = .returned (.slice (some ⟨w.heap.size, 0, none⟩) n n) ∧ OwnI 2 .i64 w' w.heap.size (.slice (some ⟨w.heap.size, 0, none⟩) n n) (List.replicate n tile) ∧ Below w.heap.size w w' := by
  obtain ⟨i0, hi, hz0, hz1, hz2⟩ := info_parts Try.infoInt
  have hm := fun w => pMul_any n w h
  have hwu : IntKind.u64.wrap n = n := by rcases h with h | h | h | h <;> rw [h] <;> decide
  have hn1 : 1 ≤ n := by omega
  have hn2 : n ≤ 64 := by omega
  have hbl : b < w.heap.size := World.block_lt_of_cell? w _ hc
  have HC := Lib.hid hc
  clear h hc
  have hwi : IntKind.i64.wrap n = n := IntWalk.i64_in _ (by omega)
  have hd1 : decide ((n : Int) < 0) = false := by simp
  have hd2 : decide ((9223372036854775807 : Int) < n) = false := by simp; omega
  go_enter Try.func38, Try.ntmps38
  go_wp2_with fail
  refine (hm _).mono ?_
  rintro e w0 ⟨rfl, rfl⟩
  go_wp2_with (at_make; refine wpList_make_full _ rfl _ _ 23 rfl w.heap.size 2 i0 (.int .i64 0) 1 Try.underlying23 hi hz0 hz1 .i64 .i64 _ _ n rfl rfl rfl rfl ?b2 ?b3 (Nat.le_refl _) ?_)
  case b2 => rw [hz2]; omega
  case b3 => unfold maxLen; omega
  intro w1 hown1 hgrow1
  have hrow1 := row64_made hown1
  have hb1 : Below w.heap.size w w1 := (Below.refl _ _).grown hgrow1 (Nat.le_refl _) (fun k hk => by cases hk)
  clear hown1 hgrow1
  have hc1 : w1.cell? ⟨b, 0, none⟩ = some (.int .i64 tile) := (hb1.cell (p := ⟨b, 0, none⟩) hbl).trans HC.out
  have HR1 : Hid (Row64 w1 w.heap.size (upTo 0 n tile)) := by
    show Row64 _ _ _
    simpa [upTo] using hrow1
  have HL : Hid ((upTo 0 n tile).length = n) := upTo_length 0 n tile (Nat.zero_le _)
  clear hrow1
  have hr1 : w1.heap[w.heap.size]? = some (.cells ((upTo 0 n tile).map (Value.int .i64)).toArray 2 (0, 0)) := HR1.out
  have hm1 : Nat.min 1 n = 1 := Nat.min_eq_left hn1
  obtain ⟨X1, hX1⟩ : ∃ X1 : List Value, X1 = List.replicate 1 (.int .i64 tile) := ⟨_, rfl⟩
  have HX1 := Lib.hid hX1
  have hl1 : X1.length = 1 := by rw [hX1]; rfl
  clear hX1
  go_wp2_with (with_reducible refine wpList_copy_splice rfl (.tmp 31) (.tmp 32) 23 23 rfl 2 Try.underlying23 Try.sizeInt _ _ _ _ _ _ rfl rfl w.heap.size 0 ((upTo 0 n tile).map (Value.int .i64)) 2 hr1 X1 ?hn ?hp ?hf ?h1 w.heap.size w hb1 (Nat.le_refl _) ?_)
  case hn => rw [hl1, hm1]
  case hp =>
    intro j v hj
    rw [HX1.out] at hj
    cases j with
    | zero => simp at hj; subst hj; exact hc1
    | succ j => simp at hj
  case hf => simp [HL.out, hl1]; omega
  case h1 => intro v hv; rw [HX1.out] at hv; rw [List.eq_of_mem_replicate hv]; rfl
  intro w2 hg2 hb2
  have HR2 : Hid (Row64 w2 w.heap.size (upTo 1 n tile)) := by
    show Row64 _ _ _
    have := hg2.out
    rw [HX1.out, upTo_splice] at this
    exact this
  clear hg2 HR1 hb1 hc1
  go_wp2
  go_loopw [8] (fun i wr => ∃ k : Nat, i = .int .i64 k ∧ 1 ≤ k ∧ k ≤ n ∧ Row64 wr w.heap.size (upTo k n tile) ∧ Below w.heap.size w wr) (fun i _ => n - (intOf i).toNat)
  case atStart => exact ⟨1, rfl, Nat.le_refl _, hn1, HR2.out, hb2⟩
  case round =>
    obtain ⟨k, rfl, hk1, hk, hrow, hb⟩ := hrel
    have HR := Lib.hid hrow
    have HB := Lib.hid hb
    clear hrow hb
    by_cases hlt : k < n
    · obtain ⟨m, hm2⟩ : ∃ m, m = Nat.min k (n - k) := ⟨_, rfl⟩
      have hmk : m ≤ k ∧ m ≤ n - k ∧ 1 ≤ m := by
        subst hm2
        exact ⟨Nat.min_le_left _ _, Nat.min_le_right _ _, Nat.le_min.2 ⟨hk1, by omega⟩⟩
      have HM := Lib.hid hm2
      obtain ⟨X, hX⟩ : ∃ X : List Value, X = List.replicate m (.int .i64 tile) := ⟨_, rfl⟩
      have HX := Lib.hid hX
      have hl : X.length = m := by rw [hX]; simp
      have hr : wr.drew.heap[w.heap.size]? = some (.cells ((upTo k n tile).map (Value.int .i64)).toArray 2 (0, 0)) := HR.out
      have HN : Hid (X.length = Nat.min k (n - k)) := hl.trans hm2
      have HS : Hid (∀ j v, X[j]? = some v → wr.drew.cell? ((⟨w.heap.size, 0, none⟩ : Addr).add j) = some v) := by
        show ∀ j v, _
        intro j v hj
        rw [hX, List.getElem?_replicate] at hj
        split at hj
        · next hjm =>
          cases hj
          have hjk : j < k := by omega
          have ho := row64_own (base := w.heap.size) HR.out (Nat.le_refl _) (by rw [upTo_length _ _ _ hk]; unfold maxLen; omega)
          obtain ⟨g, eg, _, _, hcg, _⟩ := ho.at_ (j := j) (by rw [upTo_length _ _ _ hk]; omega)
          cases eg
          have e : (upTo k n tile)[j]'(by rw [upTo_length _ _ _ hk]; omega) = tile := by
            simp only [upTo]
            rw [List.getElem_append_left (by simpa using hjk)]
            simp
          rw [e] at hcg
          rw [show (⟨w.heap.size, 0, none⟩ : Addr).add j = ⟨w.heap.size, j, none⟩ by unfold Addr.add; split <;> simp_all]
          exact hcg
        · cases hj
      have HLL : Hid (k + X.length ≤ ((upTo k n tile).map (Value.int .i64)).length) := by
        show _ ≤ _
        rw [List.length_map, upTo_length _ _ _ hk, hl]; omega
      have H1 : Hid (∀ v ∈ X, v.oneCell' = true) := by
        show ∀ v ∈ X, _
        intro v hv; rw [hX] at hv; rw [List.eq_of_mem_replicate hv]; rfl
      have hbd := Lib.hid HB.out.drew
      have hne : ¬ n = k := by omega
      have hwk : IntKind.i64.wrap ((k : Int) + m) = (k : Int) + m := IntWalk.i64_in _ (by omega)
      clear hm2 hX
      go_wp2_with fail
      go_region_law (refine step_copy_splice rfl (.tmp 41) (.tmp 44) 23 23 rfl 2 Try.underlying23 Try.sizeInt (some ⟨w.heap.size, k, none⟩) (some ⟨w.heap.size, 0, none⟩) (n - k) (n - k) k n (by simp [Act.eval, Act.put]) (by simp [Act.eval, Act.put]) w.heap.size k ((upTo k n tile).map (Value.int .i64)) 2 hr X HN.out (fun _ => ⟨rfl, _, rfl, HS.out⟩) HLL.out H1.out w.heap.size w hbd.out (Nat.le_refl _) ?_; intro w4 hg4 hb4)
      all_goals
        have HR4 : Hid (Row64 w4 w.heap.size (upTo (k + m) n tile)) := by
          show Row64 _ _ _
          have := hg4.out
          rw [HX.out, upTo_splice] at this
          exact this
        clear hg4
        go_simp
        go_roundw
        case rel => exact ⟨_, _, _, _, _, _, _, _, _, _, _, _, _, _, ⟨k + m, by go_num, by omega, by omega, HR4.out, hb4⟩, rfl⟩
        case measure => simp [intOf]; omega
    · have ek : k = n := by omega
      subst ek
      go_wp2
      go_ret
      have hf : upTo k k tile = List.replicate k tile := by simp [upTo]
      refine ⟨rfl, ?_, HB.out⟩
      have := row64_own (base := w.heap.size) HR.out (Nat.le_refl _) (by rw [hf, List.length_replicate]; unfold maxLen; omega)
      rw [hf, List.length_replicate] at this
      exact this

end Go.Proofs.Ytmjbefjkkncjlaa
