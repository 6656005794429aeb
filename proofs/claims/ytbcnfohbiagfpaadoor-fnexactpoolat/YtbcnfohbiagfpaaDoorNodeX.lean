/- Lists of nodes as the exact laws hold them: marked and looked at again. -/
import Derived.Test.YtbcnfohbiagfpaaDoorNodeW
import Derived.Test.YtbcnfohbiagfpaaDoorPutMm
namespace Go.Proofs.YtbcnfohbiagfpaaDoor
open Go.RowKit
set_option linter.unusedVariables false

def nmark (k : Nat) : Nd := ⟨(k : Int), (k : Int) + 1, (k : Int) + 2, (k : Int) + 3, (k : Int) + 4⟩
def marksN (k n : Nat) : List Nd := (List.range n).map fun i => nmark (k + 5 * i)
theorem marksN_length (k n : Nat) : (marksN k n).length = n := by simp [marksN]
theorem marksN_get (k n i : Nat) (h : i < (marksN k n).length) : (marksN k n)[i] = nmark (k + 5 * i) := by simp [marksN]
theorem markedN_step (l : List Nd) (k j : Nat) (hj : j < l.length) : ((marksN k l.length).take j ++ l.drop j).set j (nmark (k + 5 * j)) = (marksN k l.length).take (j + 1) ++ l.drop (j + 1) := by
  have hm : j < (marksN k l.length).length := by rw [marksN_length]; exact hj
  have hl : ((marksN k l.length).take j).length = j := by simp [marksN_length]; omega
  rw [List.set_append_right _ _ (by omega), hl, Nat.sub_self, List.drop_eq_getElem_cons hj, List.set_cons_zero, List.take_succ_eq_append_getElem hm, marksN_get, List.append_assoc]
  rfl

set_option maxRecDepth 100000 in
set_option maxHeartbeats 1000000 in
theorem markNodes (A : Option Addr) (c base k0 : Nat) (l : List Nd) (w : World) (h : OwnN w base (.slice A l.length c) l) (hl : l.length ≤ 1100000) (hk0 : k0 ≤ 1000000000) :
    Calls Tryd.prog 79 #[.slice A l.length c, .int .i64 k0] w fun e w' => e = .returned (.int .i64 ((k0 + 5 * l.length : Nat) : Int)) ∧ OwnN w' base (.slice A l.length c) (marksN k0 l.length) ∧ w.grownBy w' (Value.slice A l.length c).ownBlock ∧ w'.heap.size = w.heap.size := by
  go_enter Tryd.func79, Tryd.ntmps79
  go_wp2
  go_loopw [1, 5] (fun x i wr => ∃ j K : Nat, i = .int .i64 j ∧ x = .int .i64 K ∧ Hid (K = k0 + 5 * j) ∧ j ≤ l.length ∧ OwnN wr base (.slice A l.length c) ((marksN k0 l.length).take j ++ l.drop j) ∧ w.grownBy wr (Value.slice A l.length c).ownBlock ∧ Hid (wr.heap.size = w.heap.size)) (fun _ i _ => l.length - (intOf i).toNat)
  case atStart => exact ⟨0, k0, rfl, rfl, rfl, Nat.zero_le _, by simpa using h, ⟨rfl, rfl, rfl, Nat.le_refl _, fun _ _ _ => rfl⟩, rfl⟩
  case round =>
    obtain ⟨j, K, rfl, rfl, HK, hj, ho, hg, HZ⟩ := hrel
    have hKb : (K : Int) ≤ 2000000000 := by have := HK.out; omega
    by_cases hlt : j < l.length
    · obtain ⟨g, rfl, _, _, hcg, hfg⟩ := ho.at_ (j := j) (by simp [marksN_length]; omega)
      have HS := Lib.hid (ho.store (j := j) (by simp [marksN_length]; omega) (nmark K))
      have hf0 := hfg (j * 5)
      have hf1 := hfg (j * 5 + 1)
      have hf2 := hfg (j * 5 + 2)
      have hf3 := hfg (j * 5 + 3)
      have hf4 := hfg (j * 5 + 4)
      obtain ⟨g0, g1, g2, g3, g4⟩ := hcg
      have HG := Lib.hid hg
      clear ho h hfg hg
      go_wp2
      go_roundw
      case rel => exact ⟨j + 1, K + 5, by go_num, by go_num, (by have := HK.out; show _ = _; omega), by omega, by rw [← markedN_step l k0 j hlt, ← HK.out]; exact HS.out.1, by_trans HG.out HS.out.2, by show (World.setCell _ _ _).heap.size = _; simpa [World.setCell] using HZ.out⟩
      case measure => simp [intOf]; omega
    · have ej : j = l.length := by omega
      subst ej
      have HKE : Hid ((K : Int) = ((k0 + 5 * l.length : Nat) : Int)) := by have := HK.out; show _ = _; omega
      have HO := Lib.hid ho
      have HG := Lib.hid hg
      clear ho hg h
      go_wp2
      go_ret
      exact ⟨ret_int HKE.out, by simpa [marksN_length, List.take_of_length_le] using HO.out, HG.out, HZ.out⟩

set_option maxRecDepth 100000 in
set_option maxHeartbeats 1000000 in
theorem heldNodes (A : Option Addr) (c B k0 n : Nat) (w : World) (h : RN w B A (marksN k0 n)) (hl : n ≤ 1100000) (hk0 : k0 ≤ 1000000000) :
    Calls Tryd.prog 107 #[.slice A n c, .int .i64 k0] w fun e w' => e = .returned (.int .i64 ((k0 + 5 * n : Nat) : Int)) ∧ w = w' := by
  have H := Lib.hid h
  clear h
  go_enter Tryd.func107, Tryd.ntmps107
  go_wp2
  go_loop [1, 5] (fun x i => ∃ j K : Nat, i = .int .i64 j ∧ x = .int .i64 K ∧ Hid (K = k0 + 5 * j) ∧ j ≤ n) (fun _ i => n - (intOf i).toNat)
  case atStart => exact ⟨0, k0, rfl, rfl, rfl, Nat.zero_le _⟩
  case round =>
    obtain ⟨j, K, rfl, rfl, HK, hj⟩ := hrel
    have hKb : (K : Int) ≤ 2000000000 := by have := HK.out; omega
    by_cases hlt : j < n
    · obtain ⟨b, off, rfl, _, hc⟩ := H.out.at_ (j := j) (by rw [marksN_length]; exact hlt)
      rw [marksN_get, ← HK.out] at hc
      obtain ⟨d0, d1, d2, d3, d4⟩ := hc
      simp only [nmark] at d0 d1 d2 d3 d4
      go_wp2
      go_round
      case rel => exact ⟨j + 1, K + 5, by go_num, by go_num, (by have := HK.out; show _ = _; omega), by omega⟩
      case measure => simp [intOf]; omega
    · have ej : j = n := by omega
      subst ej
      have HKE : Hid ((K : Int) = ((k0 + 5 * j : Nat) : Int)) := by have := HK.out; show _ = _; omega
      go_wp2
      go_ret
      exact ⟨ret_int HKE.out, rfl⟩

set_option maxHeartbeats 400000 in
theorem markPool_any (A : Option Addr) (c base k0 : Nat) (l : List Nd) (w : World) (h : OwnN w base (.slice A l.length c) l) (hl : l.length ≤ 1100000) (hk0 : k0 ≤ 1000000000) :
    Calls Tryd.prog 34 #[.agg #[.slice A l.length c], .int .i64 k0] w fun e w' => e = .returned (.int .i64 ((k0 + 5 * l.length : Nat) : Int)) ∧ OwnN w' base (.slice A l.length c) (marksN k0 l.length) ∧ w.grownBy w' (Value.slice A l.length c).ownBlock := by
  have HT := Lib.hid (markNodes A c base k0 l _ (h.alloc (.cells #[.slice A l.length c] 25)) hl hk0)
  clear h
  have hbw : Below w.heap.size w (w.alloc (.cells #[.slice A l.length c] 25)) := (Below.refl _ _).alloc (Nat.le_refl _) _
  go_enter Tryd.func34, Tryd.ntmps34
  go_wp2_with fail
  refine HT.out.mono ?_
  rintro e w1 ⟨rfl, ho, hg, hz⟩
  have HO := Lib.hid ho
  have HG := Lib.hid (by_trans (below_by hbw _) hg)
  clear HT ho hg hz hbw
  go_wp2
  go_ret
  exact ⟨rfl, HO.out, HG.out⟩
set_option maxHeartbeats 400000 in
theorem markPoolOut_any (root code : Int) (A : Option Addr) (c base k0 : Nat) (l : List Nd) (w : World) (h : OwnN w base (.slice A l.length c) l) (hl : l.length ≤ 1100000) (hk0 : k0 ≤ 1000000000) :
    Calls Tryd.prog 38 #[.agg #[.slice A l.length c, .int .i64 root, .int .i64 code], .int .i64 k0] w fun e w' => e = .returned (.int .i64 ((k0 + 5 * l.length : Nat) : Int)) ∧ OwnN w' base (.slice A l.length c) (marksN k0 l.length) ∧ w.grownBy w' (Value.slice A l.length c).ownBlock := by
  have HT := Lib.hid (markPool_any A c base k0 l _ (h.alloc (.cells #[.slice A l.length c, .int .i64 root, .int .i64 code] 32)) hl hk0)
  clear h
  have hbw : Below w.heap.size w (w.alloc (.cells #[.slice A l.length c, .int .i64 root, .int .i64 code] 32)) := (Below.refl _ _).alloc (Nat.le_refl _) _
  go_enter Tryd.func38, Tryd.ntmps38
  go_wp2_with fail
  refine HT.out.mono ?_
  rintro e w1 ⟨rfl, ho, hg⟩
  have HO := Lib.hid ho
  have HG := Lib.hid (by_trans (below_by hbw _) hg)
  clear HT ho hg hbw
  go_wp2
  go_ret
  exact ⟨rfl, HO.out, HG.out⟩
set_option maxHeartbeats 400000 in
theorem heldPool_any (A : Option Addr) (c k0 n : Nat) (w : World) (h : RN w w.heap.size A (marksN k0 n)) (hl : n ≤ 1100000) (hk0 : k0 ≤ 1000000000) :
    Calls Tryd.prog 82 #[.agg #[.slice A n c], .int .i64 k0] w fun e w' => e = .returned (.int .i64 ((k0 + 5 * n : Nat) : Int)) ∧ Below w.heap.size w w' := by
  have hbw : Below w.heap.size w (w.alloc (.cells #[.slice A n c] 25)) := (Below.refl _ _).alloc (Nat.le_refl _) _
  have HT := Lib.hid (heldNodes A c _ k0 n _ (h.below hbw) hl hk0)
  clear h
  go_enter Tryd.func82, Tryd.ntmps82
  go_wp2_with fail
  refine HT.out.mono ?_
  rintro e w1 ⟨rfl, rfl⟩
  clear HT
  go_wp2
  go_ret
  exact ⟨rfl, hbw⟩
set_option maxHeartbeats 400000 in
theorem heldPoolOut_any (root code : Int) (A : Option Addr) (c k0 n : Nat) (w : World) (h : RN w w.heap.size A (marksN k0 n)) (hl : n ≤ 1100000) (hk0 : k0 ≤ 1000000000) :
    Calls Tryd.prog 39 #[.agg #[.slice A n c, .int .i64 root, .int .i64 code], .int .i64 k0] w fun e w' => e = .returned (.int .i64 ((k0 + 5 * n : Nat) : Int)) ∧ Below w.heap.size w w' := by
  have hbw : Below w.heap.size w (w.alloc (.cells #[.slice A n c, .int .i64 root, .int .i64 code] 32)) := (Below.refl _ _).alloc (Nat.le_refl _) _
  have HT := Lib.hid (heldPool_any A c k0 n _ ((h.below hbw).mono (by simp)) hl hk0)
  clear h
  go_enter Tryd.func39, Tryd.ntmps39
  go_wp2_with fail
  refine HT.out.mono ?_
  rintro e w1 ⟨rfl, hb⟩
  have hb2 : Below w.heap.size w w1 := hbw.trans (hb.mono (by simp))
  clear HT hb hbw
  go_wp2
  go_ret
  exact ⟨rfl, hb2⟩
set_option maxHeartbeats 400000 in
theorem eqPoolOut_any (root code : Int) (A A' : Option Addr) (c c' : Nat) (l : List Nd) (w : World) (h : RN w w.heap.size A l) (h' : RN w w.heap.size A' l) (hl : l.length ≤ 1000000000) :
    Calls Tryd.prog 37 #[.agg #[.slice A l.length c, .int .i64 root, .int .i64 code], .agg #[.slice A' l.length c', .int .i64 root, .int .i64 code]] w fun e w' => e = .returned (.bool true) ∧ Below w.heap.size w w' := by
  have H := Lib.hid h
  have H' := Lib.hid h'
  clear h h'
  have hbw : Below w.heap.size w ((w.alloc (.cells #[.slice A l.length c, .int .i64 root, .int .i64 code] 32)).alloc (.cells #[.slice A' l.length c', .int .i64 root, .int .i64 code] 32)) := ((Below.refl _ _).alloc (Nat.le_refl _) _).alloc (by simp) _
  have HT := Lib.hid (eqPool_any A A' c c' l _ ((H.out.below hbw).mono (by simp; omega)) ((H'.out.below hbw).mono (by simp; omega)) hl)
  go_enter Tryd.func37, Tryd.ntmps37
  go_wp2_with fail
  refine HT.out.mono ?_
  rintro e w1 ⟨rfl, hb⟩
  have hb2 : Below w.heap.size w w1 := hbw.trans (hb.mono (by simp; omega))
  obtain ⟨hc, hf⟩ := bcell hb
  clear HT H H' hb
  go_wp2
  go_ret
  exact ⟨rfl, hb2⟩
end Go.Proofs.YtbcnfohbiagfpaaDoor
