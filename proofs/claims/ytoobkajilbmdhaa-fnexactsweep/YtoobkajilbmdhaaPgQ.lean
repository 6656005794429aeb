/- The program's pools: which are right. -/
import Derived.Test.YtoobkajilbmdhaaPgN2
import Derived.Test.YtoobkajilbmdhaaPgK
import Derived.Test.YtoobkajilbmdhaaPoolM
namespace Go.Proofs.Ytoobkajilbmdhaa
open Go.RowKit
set_option linter.unusedVariables false

theorem nodeOk_take {l : List Nd} {k : Nat} (hk : k < l.length) (n : Nd) : nodeOk (l.take k) (l.take k).length n = nodeOk l k n := by
  have hl : (l.take k).length = k := by simp; omega
  rw [hl]
  unfold nodeOk
  split
  · rfl
  · cases hs : splitIn k n
    · rfl
    · have ha : n.a.toNat < k := by simp [splitIn, inIs] at hs; omega
      have e : (l.take k).getD n.a.toNat ⟨0, 0, 0, 0, 0⟩ = l.getD n.a.toNat ⟨0, 0, 0, 0, 0⟩ := by simp [List.getD, ha]
      simp only [unlike, e]
theorem nodeOk_tile {l : List Nd} {k : Nat} {n : Nd} (h : nodeOk l k n = true) : -1 ≤ n.tile := by
  unfold nodeOk at h
  split at h
  · rename_i hl; simp [leafN] at hl; omega
  · simp [splitIn] at h; omega
theorem RN.take {w : World} {B : Nat} {A : Option Addr} {l : List Nd} (h : RN w B A l) (k : Nat) : RN w B A (l.take k) := by
  rcases h with h | ⟨b, off, rfl, hb, hn⟩
  · left; simp [h]
  · refine .inr ⟨b, off, rfl, hb, fun j hj => ?_⟩
    rw [List.getElem_take]
    exact hn j (by simp at hj; omega)
theorem find_mem {l : List Nd} {k : Nat} (hk : k < l.length) : (l.take k).contains l[k] = !decide (findN l l[k] = (k : Int)) := by
  rw [Bool.eq_iff_iff]
  simp only [List.contains_iff_mem, Bool.not_eq_true', decide_eq_false_iff_not]
  constructor
  · intro hm he
    obtain ⟨j, hj, e⟩ := List.getElem_of_mem hm
    rw [List.getElem_take] at e
    unfold findN at he
    cases hf : l.findIdx? (fun y => y == l[k]) with
    | none => rw [hf] at he; simp at he
    | some i =>
      rw [hf] at he
      obtain ⟨hi, h1, h2⟩ := List.findIdx?_eq_some_iff_getElem.1 hf
      have hik : i = k := by simp at he; omega
      have := h2 j (by simp at hj; omega)
      simp [e] at this
  · intro hne
    exact Classical.byContradiction fun hm => hne (findN_at hk (fun j hj hjk e => hm (by rw [← e]; exact List.mem_take_iff_getElem.2 ⟨j, by omega, rfl⟩)) rfl)
theorem take_put {l : List Nd} {k : Nat} (hk : k < l.length) : (fun z => z == l[k] || (l.take k).contains z) = fun z => (l.take (k + 1)).contains z := by
  funext z
  rw [List.take_succ_eq_append_getElem hk, Bool.eq_iff_iff]
  simp only [List.contains_iff_mem, Bool.or_eq_true, beq_iff_eq, List.mem_append, List.mem_singleton]
  exact Or.comm

/-- The pool in its box stays while the map beside it is written. -/
theorem PB.map {w : World} {A : Option Addr} {c : Nat} {l : List Nd} {wr wr' : World} {B : Nat} (h : PB w A c l wr) (hg : wr.grownBy wr' (some B)) (hB : w.heap.size < B) : PB w A c l wr' := by
  have hb : Below (w.heap.size + 1) wr wr' := ⟨hg.os, hg.tape, hg.output, hg.size, fun k hk => hg.block k (by have := h.siz; omega) (by simp; omega)⟩
  exact ⟨(hb.cell (p := ⟨w.heap.size, 0, none⟩) (Nat.lt_succ_self _)).trans h.c0, h.ri.below (hb.mono (Nat.le_succ _)), h.bel.trans (hb.mono (Nat.le_succ _)), Nat.lt_of_lt_of_le h.siz hg.size⟩

set_option maxRecDepth 100000 in
set_option maxHeartbeats 4000000 in
theorem pPoolRight_any (A : Option Addr) (c : Nat) (l : List Nd) (w : World) (h : RN w w.heap.size A l) (hl : l.length ≤ 1048576) (hc : l.length ≤ c) (hf : ∀ n ∈ l, n.Fits) :
    Calls Try.prog 34 #[.agg #[.slice A l.length c]] w fun e w' => e = .returned (.bool (poolRight l)) ∧ Below w.heap.size w w' := by
  have HP0 := Lib.hid (PB.made w A c l h)
  have hbw : Below w.heap.size w (w.alloc (.cells #[.slice A l.length c] 29)) := (Below.refl _ _).alloc (Nat.le_refl _) _
  have HF := Lib.hid hf
  clear h hf
  by_cases h200 : l.length ≤ 200
  · have hd : decide ((200 : Int) < (l.length : Int)) = false := by simp; omega
    have hmm := @run_makeMap Try.prog
    go_enter Try.func34, Try.ntmps34
    go_wp2
    have HM0 := Lib.hid (MapB.made (w.alloc (.cells #[.slice A l.length c] 29)))
    have HP1 := Lib.hid (HP0.out.below (((Below.refl _ _).alloc (Nat.le_refl _) (.map #[] 0))))
    simp only [alloc_size] at HM0
    go_loopw [14] (fun i wr => ∃ k : Nat, i = .int .i64 k ∧ k ≤ l.length ∧ PB w A c l wr ∧ MapB wr (w.heap.size + 1) k (fun z => (l.take k).contains z) ∧ ∀ j (hj : j < l.length), j < k → nodeOk l j l[j] = true ∧ findN l l[j] = (j : Int)) (fun i _ => l.length - (intOf i).toNat)
    case atStart => exact ⟨0, rfl, Nat.zero_le _, HP1.out, by simpa using HM0.out, fun j _ h => absurd h (Nat.not_lt_zero _)⟩
    case round =>
      obtain ⟨k, rfl, hk, hpb, hmb, hall⟩ := hrel
      have HA := Lib.hid hall
      have HPB := Lib.hid hpb
      have HMB := Lib.hid hmb
      have c0 := hpb.c0
      clear hall hmb
      by_cases hlt : k < l.length
      · obtain ⟨b, off, rfl, hbl, hn⟩ := hpb.ri.at_ hlt
        have HFk := Lib.hid (HF.out l[k] (List.getElem_mem hlt))
        have HFM := Lib.hid (find_mem hlt)
        have HTP := Lib.hid (take_put hlt)
        have hsz := HPB.out.siz
        clear hpb
        generalize hnk : l[k] = n at hn HFk HFM HTP
        have HNK := Lib.hid hnk
        clear hnk
        obtain ⟨nt, na, nb, nc, nd⟩ := n
        obtain ⟨d0, d1, d2, d3, d4⟩ := hn
        simp only at d0 d1 d2 d3 d4
        go_wp2_with fail
        have hba : Below wr.heap.size wr (wr.alloc (.cells #[.int .i64 nt, .int .i64 na, .int .i64 nb, .int .i64 nc, .int .i64 nd] 73)) := (Below.refl _ _).alloc (Nat.le_refl _) _
        have HPW := Lib.hid (HPB.out.below hba)
        have HMW := Lib.hid (HMB.out.below hba)
        have hx0 : NdAt (wr.alloc (.cells #[.int .i64 nt, .int .i64 na, .int .i64 nb, .int .i64 nc, .int .i64 nd] 73)) wr.heap.size 0 ⟨nt, na, nb, nc, nd⟩ := ⟨by simp [go_sem], by simp [go_sem], by simp [go_sem], by simp [go_sem], by simp [go_sem]⟩
        have HX := Lib.hid hx0
        have hzW : wr.heap.size < (wr.alloc (.cells #[.int .i64 nt, .int .i64 na, .int .i64 nb, .int .i64 nc, .int .i64 nd] 73)).heap.size := by simp
        clear hx0 hba d0 d1 d2 d3 d4 c0 HPB HMB HP0 HP1 HM0 hbw
        generalize wr.alloc (.cells #[.int .i64 nt, .int .i64 na, .int .i64 nb, .int .i64 nc, .int .i64 nd] 73) = W at *
        generalize hN : wr.heap.size = N at *
        clear hN
        have c0 := HPW.out.c0
        have hk0 : (0 : Int) ≤ (k : Int) := by omega
        have hkc : (k : Int) ≤ (c : Int) := by omega
        have hkl : (k : Int) ≤ (l.length : Int) := by omega
        obtain ⟨e0, e1, e2, e3, e4⟩ := HX.out.all
        simp only at e0 e1 e2 e3 e4
        have hlk := HMW.out.drew.look HFk.out
        simp only [Nd.val] at hlk
        cases hct : (l.take k).contains (⟨nt, na, nb, nc, nd⟩ : Nd)
        · rw [hct] at hlk HFM
          have HCT := Lib.hid hct
          have hNd := fun w h => pNode_any (some ⟨b, off, none⟩) c (l.take k) ⟨nt, na, nb, nc, nd⟩ w h (fun x hx => by
            obtain ⟨j, hj, e⟩ := List.getElem_of_mem hx
            have hj' : j < k := by simp at hj; omega
            rw [List.getElem_take] at e
            rw [← e]
            exact nodeOk_tile (HA.out j (by omega) hj').1)
          simp only [nodeOk_take hlt] at hNd
          rw [show (l.take k).length = k by simp; omega] at hNd
          unfold Nd.val at hNd
          simp only at hNd
          have hk : W.drew.cell? ⟨w.heap.size, 0, none⟩ = some (.slice (some ⟨b, off, none⟩) l.length c) ∧ W.drew.cell? ⟨N, 0, none⟩ = some (.int .i64 nt) ∧ W.drew.cell? ⟨N, 1, none⟩ = some (.int .i64 na) ∧ W.drew.cell? ⟨N, 2, none⟩ = some (.int .i64 nb) ∧ W.drew.cell? ⟨N, 3, none⟩ = some (.int .i64 nc) ∧ W.drew.cell? ⟨N, 4, none⟩ = some (.int .i64 nd) := ⟨c0, e0, e1, e2, e3, e4⟩
          clear hct
          cases hok : nodeOk l k ⟨nt, na, nb, nc, nd⟩
          · rw [hok] at hNd
            have HOK := Lib.hid hok
            clear hok
            go_region_held3 (fun w' => w'.cell? ⟨w.heap.size, 0, none⟩ = some (.slice (some ⟨b, off, none⟩) l.length c) ∧ w'.cell? ⟨N, 0, none⟩ = some (.int .i64 nt) ∧ w'.cell? ⟨N, 1, none⟩ = some (.int .i64 na) ∧ w'.cell? ⟨N, 2, none⟩ = some (.int .i64 nb) ∧ w'.cell? ⟨N, 3, none⟩ = some (.int .i64 nc) ∧ w'.cell? ⟨N, 4, none⟩ = some (.int .i64 nd))
              (first
                | go_keep
                | exact hk)
              (first | (go_at_call 54; refine (hNd W.drew ((HPW.out.below (Below.refl _ _).drew).rn.take k)).mono ?_; rintro e w1 ⟨rfl, hb1⟩; have HP1 := Lib.hid (HPW.out.below ((Below.refl _ _).drew.trans hb1)); clear hk; have hk := And.intro HP1.out.c0 (HX.out.keep (hb1.block N hzW)).all; clear hb1))
            go_wp2
            go_ret
            refine ⟨ret_bool ?_, HP1.out.bel⟩
            symm
            rw [poolRight, decide_eq_false_iff_not]
            rintro ⟨_, h⟩
            have h2 := (h k hlt).1
            rw [HNK.out, HOK.out] at h2
            cases h2
          · rw [hok] at hNd
            have HOK := Lib.hid hok
            clear hok
            go_region_held3 (fun w' => w'.cell? ⟨w.heap.size, 0, none⟩ = some (.slice (some ⟨b, off, none⟩) l.length c) ∧ w'.cell? ⟨N, 0, none⟩ = some (.int .i64 nt) ∧ w'.cell? ⟨N, 1, none⟩ = some (.int .i64 na) ∧ w'.cell? ⟨N, 2, none⟩ = some (.int .i64 nb) ∧ w'.cell? ⟨N, 3, none⟩ = some (.int .i64 nc) ∧ w'.cell? ⟨N, 4, none⟩ = some (.int .i64 nd))
              (first
                | go_keep
                | exact hk)
              (first | (go_at_call 54; refine (hNd W.drew ((HPW.out.below (Below.refl _ _).drew).rn.take k)).mono ?_; rintro e w1 ⟨rfl, hb1⟩; have HP1 := Lib.hid (HPW.out.below ((Below.refl _ _).drew.trans hb1)); have HM1 := Lib.hid (HMW.out.below ((Below.refl _ _).drew.trans hb1)); clear hk; have hk := And.intro HP1.out.c0 (HX.out.keep (hb1.block N hzW)).all; clear hb1))
            go_wp2_with (first | (at_mapUpdate; refine wpList_put_b _ rfl _ _ _ rfl rfl HM1.out (by unfold maxLen; omega) rfl rfl HFk.out ?_; intro w2 hm2 hg2) | fail)
            have HP2 := Lib.hid (HP1.out.map hg2 (Nat.lt_succ_self _))
            rw [HTP.out] at hm2
            have HM2 := Lib.hid hm2
            clear hm2 hg2 hk e0 e1 e2 e3 e4 c0 hlk
            go_wp2
            go_roundw
            case rel => exact ⟨k + 1, by go_num, by omega, HP2.out, HM2.out, fun j hj hjk => by
              by_cases e : j = k
              · subst e; rw [HNK.out]; exact ⟨HOK.out, by simpa using HFM.out⟩
              · exact HA.out j hj (by omega)⟩
            case measure => simp [intOf]; omega
        · rw [hct] at hlk HFM
          clear hct
          first
            | (go_region_with fail)
            | fail
          all_goals
            go_wp2
            go_ret
            refine ⟨ret_bool ?_, (HPW.out.below (Below.refl _ _).drew).bel⟩
            symm
            rw [poolRight, decide_eq_false_iff_not]
            rintro ⟨_, h⟩
            have h2 := (h k hlt).2
            rw [HNK.out] at h2
            have h3 := HFM.out
            simp [h2] at h3
      · clear hpb
        go_wp2
        go_ret
        refine ⟨ret_bool ?_, HPB.out.bel⟩
        symm
        rw [poolRight, decide_eq_true_iff]
        exact ⟨h200, fun j hj => HA.out j hj (by omega)⟩
  · have hd : decide ((200 : Int) < (l.length : Int)) = true := by simp; omega
    have HL := Lib.hid h200
    clear h200
    go_enter Try.func34, Try.ntmps34
    go_wp2
    go_ret
    refine ⟨ret_bool ?_, hbw⟩
    symm
    rw [poolRight, decide_eq_false_iff_not]
    exact fun h => HL.out h.1
end Go.Proofs.Ytoobkajilbmdhaa
