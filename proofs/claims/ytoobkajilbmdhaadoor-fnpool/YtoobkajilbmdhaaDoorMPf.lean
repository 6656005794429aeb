/- Several texts in one: WtA, Bools, PgW, PgW2, WtM, WtN, LwG, LwE. -/
import Derived.Test.YtoobkajilbmdhaaDoorWt
import Derived.Test.YtoobkajilbmdhaaDoorNodes
import Derived.Test.YtoobkajilbmdhaaDoorInts
import Derived.Test.YtoobkajilbmdhaaDoorPgH
import Derived.Test.YtoobkajilbmdhaaDoorGridS
import Derived.Test.YtoobkajilbmdhaaDoorGridF
import Derived.Test.YtoobkajilbmdhaaDoorMPc
namespace Go.Proofs.YtoobkajilbmdhaaDoor
open Go.RowKit
set_option linter.unusedVariables false

/-- All of rs marked. -/
def markAll (M : List Bool) (rs : List Nat) : List Bool := rs.foldl (fun M r => M.set r true) M
theorem markAll_len : ∀ (rs : List Nat) (M : List Bool), (markAll M rs).length = M.length
  | [], _ => rfl
  | r :: rs, M => by
    have := markAll_len rs (M.set r true)
    rw [List.length_set] at this
    exact this
theorem markAll_iff (j : Nat) : ∀ (rs : List Nat) (M : List Bool), (∀ r ∈ rs, r < M.length) → ((markAll M rs).getD j false = true ↔ j ∈ rs ∨ M.getD j false = true)
  | [], M, _ => by simp [markAll]
  | r :: rs, M, h => by
    have hr : r < M.length := h r (by simp)
    have ih := markAll_iff j rs (M.set r true) (fun q hq => by rw [List.length_set]; exact h q (by simp [hq]))
    have e : markAll M (r :: rs) = markAll (M.set r true) rs := rfl
    rw [e, ih, getD_set]
    by_cases hj : j = r
    · simp [hj, hr]
    · simp [hj]
theorem markAll_step {M : List Bool} {rs : List Nat} {k : Nat} (hk : k < rs.length) : markAll M (rs.take (k + 1)) = (markAll M (rs.take k)).set rs[k] true := by
  rw [List.take_succ_eq_append_getElem hk, markAll, List.foldl_append]
  rfl
theorem false_getD (n j : Nat) : (List.replicate n false).getD j false = false := by
  simp [List.getD, List.getElem?_replicate]; split <;> simp

theorem downP_specA {l : List Nd} (hr : poolRight l = true) (S : Nat → Prop) : ∀ (i : Nat) (M : List Bool), i ≤ l.length → M.length = l.length → (∀ r, S r → M.getD r false = true) → (∀ j, M.getD j false = true → ∃ r, S r ∧ Rch l r j) →
    (∀ j (hj : j < l.length), i ≤ j → M.getD j false = true → leafN l[j] = false → ∀ q ∈ qs l[j], M.getD q false = true) → ∀ j, (downP l i M).getD j false = true ↔ ∃ r, S r ∧ Rch l r j
  | 0, M, _, hlen, h1, h2, h3, j => by
    refine ⟨h2 j, fun ⟨r, hs, h⟩ => ?_⟩
    exact h (fun j => M.getD j false = true) (h1 r hs) fun _ _ ih hi hs hq => h3 _ hi (Nat.zero_le _) ih hs _ hq
  | i + 1, M, hi, hlen, h1, h2, h3, j => by
    have hil : i < l.length := by omega
    rw [downP, ndAt_eq hil]
    by_cases hc : (M.getD i false && !leafN l[i]) = true
    · rw [if_pos hc]
      simp only [Bool.and_eq_true, Bool.not_eq_true'] at hc
      have hq : ∀ q ∈ qs l[i], q < i := fun q hq => qs_lt hr hil hc.2 hq
      have hm := markQ_iff M l[i] (fun q h => by have := hq q h; omega)
      refine downP_specA hr S i _ (by omega) (by rw [markQ_len]; exact hlen) (fun r hs => (hm r).2 (.inl (h1 r hs))) (fun j hj => ?_) (fun j hj hij hmj hs q hqj => ?_) j
      · rcases (hm j).1 hj with h | h
        · exact h2 j h
        · obtain ⟨r, hs, hR⟩ := h2 i hc.1
          exact ⟨r, hs, hR.step hil hc.2 h⟩
      · rcases (hm j).1 hmj with h | h
        · by_cases e : j = i
          · subst e; exact (hm q).2 (.inr hqj)
          · exact (hm q).2 (.inl (h3 j hj (by omega) h hs q hqj))
        · have := hq j h; omega
    · rw [if_neg hc]
      refine downP_specA hr S i M (by omega) hlen h1 h2 (fun j hj hij hmj hs q hqj => ?_) j
      by_cases e : j = i
      · subst e
        simp only [Bool.and_eq_true, Bool.not_eq_true'] at hc
        exact absurd ⟨hmj, hs⟩ hc
      · exact h3 j hj (by omega) hmj hs q hqj
/-- The marks of what rs need. -/
def needA (l : List Nd) (rs : List Nat) : List Bool := downP l l.length (markAll (List.replicate l.length false) rs)
theorem needA_len (l : List Nd) (rs : List Nat) : (needA l rs).length = l.length := by rw [needA, downP_len, markAll_len]; simp
theorem needA_iff {l : List Nd} (hr : poolRight l = true) {rs : List Nat} (h : ∀ r ∈ rs, r < l.length) (j : Nat) : (needA l rs).getD j false = true ↔ ∃ r, r ∈ rs ∧ Rch l r j := by
  have hm := fun j => markAll_iff j rs (List.replicate l.length false) (fun r hr => by simpa using h r hr)
  unfold needA
  refine downP_specA hr (fun r => r ∈ rs) l.length _ (Nat.le_refl _) (by rw [markAll_len]; simp) (fun r hs => (hm r).2 (.inl hs)) (fun j hj => ?_) (fun j hj hij => by omega) j
  rcases (hm j).1 hj with h | h
  · exact ⟨j, h, .here⟩
  · rw [false_getD] at h; cases h
theorem needA_count {l : List Nd} (hr : poolRight l = true) {k : Nat} (hk : k < l.length) : (needA l [k]).count true = (needL l k).count true := by
  refine count_same (by rw [needL_len, needA_len]; omega) fun j => ?_
  rw [Bool.eq_iff_iff, needA_iff hr (by simpa using hk) j, needL_iff hr hk j]
  simp
end Go.Proofs.YtoobkajilbmdhaaDoor

namespace Go.Proofs.YtoobkajilbmdhaaDoor
open Go.RowKit
set_option linter.unusedVariables false

/-- The slice value v owns, among the blocks from base on, a row that reads as the bools l. -/
def OwnB (w : World) (base : Nat) (v : Value) (l : List Bool) : Prop := w.ownsRow base 4 1 v l.length (l.map Value.bool)
theorem OwnB.alloc {w : World} {base : Nat} {v : Value} {l : List Bool} (h : OwnB w base v l) (o : Obj) : OwnB (w.alloc o) base v l := World.ownsRow.alloc h o
theorem OwnB.keep {w w' : World} {base : Nat} {v : Value} {l : List Bool} (h : OwnB w base v l) (hb : Below w.heap.size w w') : OwnB w' base v l :=
  World.ownsRow.kept h (row := none) ⟨hb.os, hb.tape, hb.output, hb.size, fun k hk _ => hb.block k hk⟩ (by cases v.ownBlock <;> simp)
theorem OwnB.len {w : World} {base n c : Nat} {A : Option Addr} {l : List Bool} (h : OwnB w base (.slice A n c) l) : n = l.length := by
  rcases h.2 with ⟨hv, hn⟩ | ⟨g, cap, cur, hv, _⟩
  · simp at hv; omega
  · simp at hv; omega
theorem OwnB.at_ {w : World} {base n c j : Nat} {A : Option Addr} {l : List Bool} (h : OwnB w base (.slice A n c) l) (hj : j < l.length) :
    ∃ g, A = some ⟨g, 0, none⟩ ∧ base ≤ g ∧ g < w.heap.size ∧ w.cell? ⟨g, j, none⟩ = some (.bool l[j]) ∧ w.frozen? ⟨g, j, none⟩ = false := by
  have hn := h.len
  subst hn
  rcases h.2 with ⟨hv, hn⟩ | ⟨g, cap, cur, hv, hb, hg, _⟩
  · omega
  · simp only [Value.slice.injEq] at hv
    obtain ⟨rfl, _, rfl⟩ := hv
    have hlt := (World.ownsRow.lt h g rfl).2
    refine ⟨g, rfl, hb, hlt, ?_, World.ownsRow.frozenAt h j⟩
    have := World.ownsRow.cells h (g := g) rfl j (.bool l[j]) (by simp [hj])
    rw [← this]
    unfold Addr.add
    split <;> simp_all
theorem OwnB.store {w : World} {base g n c j : Nat} {l : List Bool} (h : OwnB w base (.slice (some ⟨g, 0, none⟩) n c) l) (x : Bool) :
    OwnB (w.setCell ⟨g, j, none⟩ (.bool x)) base (.slice (some ⟨g, 0, none⟩) n c) (l.set j x) ∧ w.grownBy (w.setCell ⟨g, j, none⟩ (.bool x)) (some g) := by
  have hn := h.len
  subst hn
  have := World.ownsRow.stored (h : w.ownsRow base 4 1 (.slice (some ⟨g, 0, none⟩) l.length c) l.length (l.map Value.bool)) j (.bool x)
  refine ⟨?_, this.2⟩
  have h1 := this.1
  unfold OwnB
  simpa [List.map_set] using h1
theorem own_falses {w : World} {base g n : Nat} (h : w.ownsRow base 4 1 (.slice (some ⟨g, 0, none⟩) n n) n (madeCells #[Value.bool false] n).toList) : OwnB w base (.slice (some ⟨g, 0, none⟩) n n) (List.replicate n false) := by
  unfold OwnB
  rw [toList_madeCells_one] at h
  simpa using h
theorem Tryd.infoBool : (Tryd.prog.info? 4).map (fun i => (i.zero, i.size, i.bytes)) = some (some (.bool false), 1, 1) := by kernel_rfl
end Go.Proofs.YtoobkajilbmdhaaDoor

namespace Go.Proofs.YtoobkajilbmdhaaDoor
open Go.RowKit
set_option linter.unusedVariables false

/-- The first m quarters are marked. -/
def markTo (M : List Bool) (a b c d : Nat) : Nat → List Bool
  | 0 => M
  | 1 => M.set a true
  | 2 => (M.set a true).set b true
  | 3 => ((M.set a true).set b true).set c true
  | _ => (((M.set a true).set b true).set c true).set d true
set_option maxRecDepth 100000 in
set_option maxHeartbeats 2000000 in
theorem pNeeded_any (A : Option Addr) (c : Nat) (l : List Nd) (R : Option Addr) (cr : Nat) (rs : List Nat) (w : World) (h : RN w w.heap.size A l) (hr : poolRight l = true) (hR : RI w w.heap.size R (rs.map fun (r : Nat) => (r : Int))) (hrs : ∀ r ∈ rs, r < l.length) (hrl : rs.length ≤ 1000000000) :
    Calls Tryd.prog 69 #[.slice A l.length c, .slice R rs.length cr] w fun e w' => e = .returned (.slice (some ⟨w.heap.size, 0, none⟩) l.length l.length) ∧ OwnB w' w.heap.size (.slice (some ⟨w.heap.size, 0, none⟩) l.length l.length) (needA l rs) ∧ Below w.heap.size w w' := by
  obtain ⟨i0, hi, hz0, hz1, hz2⟩ := info_parts Tryd.infoBool
  have hl := pool_len hr
  have HR := Lib.hid hr
  have H := Lib.hid h
  have HRI := Lib.hid hR
  have HRS := Lib.hid hrs
  clear h hr hR hrs
  have hw1 : wrap64 ((l.length : Int) - 1) = (l.length : Int) - 1 := wrap64_in (by omega) (by omega)
  go_enter Tryd.func69, Tryd.ntmps69
  go_wp2_with (at_make; refine wpList_make_full _ rfl _ _ 93 rfl w.heap.size 4 i0 (.bool false) 1 Tryd.underlying93 hi hz0 hz1 .i64 .i64 _ _ l.length rfl rfl (by go_num) (by go_num) ?b2 ?b3 (Nat.le_refl _) ?_)
  case b2 => rw [hz2]; omega
  case b3 => unfold maxLen; omega
  intro w1 hown1 hgrow1
  have HO1 := Lib.hid (own_falses hown1)
  have HB1 : Hid (Below w.heap.size w w1) := (Below.refl _ _).grown hgrow1 (Nat.le_refl _) (fun k hk => by cases hk)
  clear hown1 hgrow1
  go_wp2
  go_loopw [16] (fun i wr => ∃ k : Nat, i = .int .i64 k ∧ k ≤ rs.length ∧ OwnB wr w.heap.size (.slice (some ⟨w.heap.size, 0, none⟩) l.length l.length) (markAll (List.replicate l.length false) (rs.take k)) ∧ Below w.heap.size w wr) (fun i _ => rs.length - (intOf i).toNat)
  case atStart => exact ⟨0, rfl, Nat.zero_le _, HO1.out, HB1.out⟩
  case round =>
    obtain ⟨k, rfl, hk, how, hb⟩ := hrel
    have HO := Lib.hid how
    have HB := Lib.hid hb
    clear HO1 HB1
    by_cases hlt : k < rs.length
    · obtain ⟨b, off, rfl, hbl, hc⟩ := (HRI.out.below hb).at_ (j := k) (by simpa using hlt)
      have hrk := HRS.out rs[k] (List.getElem_mem hlt)
      have HST := Lib.hid (markAll_step (M := List.replicate l.length false) hlt)
      have HS := Lib.hid (how.store (j := rs[k]) true)
      obtain ⟨g, e, _, _, cj, fj⟩ := how.at_ (j := rs[k]) (by rw [markAll_len]; simpa using hrk)
      cases e
      simp only [List.getElem_map] at hc
      have r0 : (0 : Int) ≤ (rs[k] : Int) := by omega
      have r1 : (rs[k] : Int) < (l.length : Int) := by omega
      have hkI : (k : Int) < (rs.length : Int) := by omega
      clear how hb
      generalize rs[k] = r at *
      go_wp2
      go_roundw
      case rel => exact ⟨k + 1, by go_num, by omega, by rw [HST.out]; exact HS.out.1, HB.out.setCell (Nat.le_refl _) _⟩
      case measure => simp [intOf]; omega
    · have HOE : Hid (OwnB wr w.heap.size (.slice (some ⟨w.heap.size, 0, none⟩) l.length l.length) (markAll (List.replicate l.length false) rs)) := by
        have e : rs.take k = rs := List.take_of_length_le (by omega)
        have := HO.out
        rw [e] at this
        exact this
      clear how hb HO
      go_wp2
      go_loopw [8] (fun i wr => ∃ (j : Nat) (M : List Bool), i = .int .i64 ((j : Int) - 1) ∧ j ≤ l.length ∧ OwnB wr w.heap.size (.slice (some ⟨w.heap.size, 0, none⟩) l.length l.length) M ∧ Below w.heap.size w wr ∧ Hid (downP l j M = needA l rs)) (fun i _ => (intOf i + 1).toNat)
      case atStart => exact ⟨l.length, _, by go_num, Nat.le_refl _, HOE.out, HB.out, rfl⟩
      case round =>
        obtain ⟨j, M, rfl, hj, how, hb, HD⟩ := hrel
        have HO := Lib.hid how
        have HB := Lib.hid hb
        have HML := Lib.hid how.len
        clear HOE
        cases j with
        | succ j =>
          have ej : ((j + 1 : Nat) : Int) - 1 = (j : Int) := by omega
          rw [ej] at *
          have hjl : j < l.length := by omega
          obtain ⟨b, off, rfl, hbl, hn⟩ := (H.out.below hb).at_ hjl
          obtain ⟨g, e, _, _, cj, fj⟩ := how.at_ (j := j) (by have := HML.out; omega)
          cases e
          have hok := right_node HR.out hjl
          have hsp := right_sp HR.out hjl
          have HD2 := HD.out
          rw [downP, ndAt_eq hjl, show M.getD j false = M[j]'(by have := HML.out; omega) by simp [List.getD, show j < M.length by have := HML.out; omega]] at HD2
          clear how hb HD
          generalize hnk2 : l[j] = n at hn hok hsp HD2
          clear hnk2
          have hS := pSplit_any n
          have j0 : (0 : Int) ≤ (j : Int) := by omega
          have j1 : (j : Int) < (l.length : Int) := by omega
          have hwj : wrap64 ((j : Int) - 1) = (j : Int) - 1 := wrap64_in (by omega) (by omega)
          cases hm : M[j]'(by have := HML.out; omega)
          · rw [hm] at cj HD2
            have HD3 : Hid (downP l j M = needA l rs) := by show _ = _; simpa using HD2
            clear hm HD2 hok hsp hS hn
            go_wp2
            go_roundw
            case rel => exact ⟨j, M, by go_num, by omega, HO.out, HB.out, HD3⟩
            case measure => first | (simp [intOf]; done) | (simp [intOf]; omega)
          · rw [hm] at cj HD2
            cases hlf : isSp n
            · rw [hlf] at hS hsp
              rw [hsp] at HD2
              have HD3 : Hid (downP l j M = needA l rs) := by show _ = _; simpa using HD2
              clear hm HD2 hok hsp hlf
              obtain ⟨nt, na, nb, nc, nd⟩ := n
              unfold Nd.val at hS
              obtain ⟨d0, d1, d2, d3, d4⟩ := hn
              simp only at d0 d1 d2 d3 d4 hS
              go_wp2_with fail
              refine (hS _).mono ?_
              rintro e w2 ⟨rfl, hb2⟩
              have HB2 := Lib.hid (HB.out.trans (hb2.mono HB.out.size))
              have HO2 := Lib.hid (HO.out.keep hb2)
              clear hb2
              go_wp2
              go_roundw
              case rel => exact ⟨j, M, by go_num, by omega, HO2.out, HB2.out, HD3⟩
              case measure => first | (simp [intOf]; done) | (simp [intOf]; omega)
            · rw [hlf] at hS hsp
              obtain ⟨q0, qa, qb, qc, qd⟩ := ok_split hok hsp
              clear q0
              rw [hsp] at HD2
              have HD3 : Hid (downP l j (markQ M n) = needA l rs) := by show _ = _; simpa using HD2
              have hQ := pQuarters_any n
              clear hm HD2 hok hsp hlf
              obtain ⟨nt, na, nb, nc, nd⟩ := n
              simp only [markQ] at qa qb qc qd HD3
              obtain ⟨ia, rfl⟩ := Int.eq_ofNat_of_zero_le qa.1
              obtain ⟨ib, rfl⟩ := Int.eq_ofNat_of_zero_le qb.1
              obtain ⟨ic, rfl⟩ := Int.eq_ofNat_of_zero_le qc.1
              obtain ⟨id, rfl⟩ := Int.eq_ofNat_of_zero_le qd.1
              simp only [Int.toNat_natCast] at HD3
              unfold Nd.val at hS hQ
              unfold qV at hQ
              obtain ⟨d0, d1, d2, d3, d4⟩ := hn
              simp only at d0 d1 d2 d3 d4 hS hQ
              go_wp2_with fail
              refine (hS _).mono ?_
              rintro e w2 ⟨rfl, hb2⟩
              have HB2 := Lib.hid (HB.out.trans (hb2.mono HB.out.size))
              have HO2 := Lib.hid (HO.out.keep hb2)
              have hh := fun o => hb2.cell (p := ⟨b, off + j * 5 + o, none⟩) (show b < wr.heap.size from Nat.lt_of_lt_of_le hbl HB.out.size)
              have d0' := (hh 0).trans d0
              have d1' := (hh 1).trans d1
              have d2' := (hh 2).trans d2
              have d3' := (hh 3).trans d3
              have d4' := (hh 4).trans d4
              simp only [Nat.add_zero] at d0'
              clear hb2 hh d0 d1 d2 d3 d4 cj fj
              go_wp2_with fail
              refine (hQ _).mono ?_
              rintro e w3 ⟨rfl, hb3⟩
              have HB3 := Lib.hid (HB2.out.trans (hb3.mono HB2.out.size))
              have HO3 := Lib.hid (HO2.out.keep hb3)
              clear hb3 d0' d1' d2' d3' d4'
              go_wp2
              go_loopw [49] (fun i wr => ∃ m : Nat, i = .int .i64 m ∧ m ≤ 4 ∧ OwnB wr w.heap.size (.slice (some ⟨w.heap.size, 0, none⟩) l.length l.length) (markTo M ia ib ic id m) ∧ Below w.heap.size w wr) (fun i _ => 4 - (intOf i).toNat)
              case atStart => exact ⟨0, rfl, Nat.zero_le _, HO3.out, HB3.out⟩
              case round =>
                obtain ⟨m, rfl, hm, how, hb⟩ := hrel
                have HO4 := Lib.hid how
                have HB4 := Lib.hid hb
                clear how hb
                by_cases hm4 : m = 4
                · subst hm4
                  go_wp2
                  go_roundw
                  case rel => exact ⟨j, _, by go_num, by omega, HO4.out, HB4.out, HD3⟩
                  case measure => first | (simp [intOf]; done) | (simp [intOf]; omega)
                · have h4 : m = 0 ∨ m = 1 ∨ m = 2 ∨ m = 3 := by omega
                  rcases h4 with rfl | rfl | rfl | rfl
                  · have hix := index_quad0 ia ib ic id
                    have HS := Lib.hid (HO4.out.store (j := ia) true)
                    obtain ⟨g, e, _, _, cq, fq⟩ := HO4.out.at_ (j := ia) (by rw [← HO4.out.len]; omega)
                    cases e
                    have q0 : (0 : Int) ≤ ia := by omega
                    have q1 : (ia : Int) < (l.length : Int) := by omega
                    go_wp2
                    go_roundw
                    case rel => exact ⟨1, by go_num, by omega, HS.out.1, HB4.out.setCell (Nat.le_refl _) _⟩
                    case measure => simp [intOf]
                  · have hix := index_quad1 ia ib ic id
                    have HS := Lib.hid (HO4.out.store (j := ib) true)
                    obtain ⟨g, e, _, _, cq, fq⟩ := HO4.out.at_ (j := ib) (by rw [← HO4.out.len]; omega)
                    cases e
                    have q0 : (0 : Int) ≤ ib := by omega
                    have q1 : (ib : Int) < (l.length : Int) := by omega
                    go_wp2
                    go_roundw
                    case rel => exact ⟨2, by go_num, by omega, HS.out.1, HB4.out.setCell (Nat.le_refl _) _⟩
                    case measure => simp [intOf]
                  · have hix := index_quad2 ia ib ic id
                    have HS := Lib.hid (HO4.out.store (j := ic) true)
                    obtain ⟨g, e, _, _, cq, fq⟩ := HO4.out.at_ (j := ic) (by rw [← HO4.out.len]; omega)
                    cases e
                    have q0 : (0 : Int) ≤ ic := by omega
                    have q1 : (ic : Int) < (l.length : Int) := by omega
                    go_wp2
                    go_roundw
                    case rel => exact ⟨3, by go_num, by omega, HS.out.1, HB4.out.setCell (Nat.le_refl _) _⟩
                    case measure => simp [intOf]
                  · have hix := index_quad3 ia ib ic id
                    have HS := Lib.hid (HO4.out.store (j := id) true)
                    obtain ⟨g, e, _, _, cq, fq⟩ := HO4.out.at_ (j := id) (by rw [← HO4.out.len]; omega)
                    cases e
                    have q0 : (0 : Int) ≤ id := by omega
                    have q1 : (id : Int) < (l.length : Int) := by omega
                    go_wp2
                    go_roundw
                    case rel => exact ⟨4, by go_num, by omega, HS.out.1, HB4.out.setCell (Nat.le_refl _) _⟩
                    case measure => simp [intOf]
        | zero =>
          have HD2 := HD.out
          rw [downP] at HD2
          have em : ((0 : Nat) : Int) - 1 = -1 := by omega
          rw [em] at *
          rw [HD2] at HO
          clear how hb HD HD2
          go_wp2
          go_ret
          exact ⟨rfl, HO.out, HB.out⟩
end Go.Proofs.YtoobkajilbmdhaaDoor

namespace Go.Proofs.YtoobkajilbmdhaaDoor
open Go.RowKit
set_option linter.unusedVariables false

theorem count_take_p (M : List Bool) {k : Nat} (hk : k < M.length) : ((M.take (k + 1)).count true : Int) = (M.take k).count true + if M[k] then 1 else 0 := by
  rw [List.take_succ_eq_append_getElem hk, List.count_append]
  cases M[k] <;> simp
set_option maxRecDepth 100000 in
set_option maxHeartbeats 1000000 in
theorem pWeight_any (A : Option Addr) (c : Nat) (l : List Nd) (node : Int) (w : World) (h : RN w w.heap.size A l) (hl : l.length ≤ 1048576) (hc : l.length ≤ c) (hf : ∀ n ∈ l, n.Fits) :
    Calls Tryd.prog 24 #[.agg #[.slice A l.length c], .int .i64 node] w fun e w' => e = .returned (.int .i64 (weightN l node)) ∧ Below w.heap.size w w' := by
  have HP0 := Lib.hid (PB.made w A c l h)
  have hbw : Below w.heap.size w (w.alloc (.cells #[.slice A l.length c] 25)) := (Below.refl _ _).alloc (Nat.le_refl _) _
  have hPR := pPoolRight_any A c l (w.alloc (.cells #[.slice A l.length c] 25)) ((h.below hbw).mono (by simp)) hl hc hf
  clear h hf
  cases hr : poolRight l
  · rw [hr] at hPR
    have HR := Lib.hid hr
    clear hr
    go_enter Tryd.func24, Tryd.ntmps24
    go_wp2_with fail
    refine hPR.mono ?_
    rintro e w1 ⟨rfl, hb1⟩
    have HP1 := Lib.hid (HP0.out.below hb1)
    have c1 := HP1.out.c0
    clear hb1
    go_wp2
    go_ret
    exact ⟨ret_int (by simp [weightN, HR.out]), HP1.out.bel⟩
  · rw [hr] at hPR
    have HR := Lib.hid hr
    have h200 := pool_len hr
    clear hr
    have hTh := fun w => pThere_any A l.length c node w
    cases ht : thereN l.length node
    · rw [ht] at hTh
      have HT := Lib.hid ht
      clear ht
      go_enter Tryd.func24, Tryd.ntmps24
      go_wp2_with fail
      refine hPR.mono ?_
      rintro e w1 ⟨rfl, hb1⟩
      have HP1 := Lib.hid (HP0.out.below hb1)
      have c1 := HP1.out.c0
      clear hb1
      go_wp2_with fail
      refine (hTh _).mono ?_
      rintro e w2 ⟨rfl, rfl⟩
      have HP2 := HP1
      go_wp2
      go_ret
      exact ⟨ret_int (by simp [weightN, HT.out]), HP2.out.bel⟩
    · rw [ht] at hTh
      have HT := Lib.hid ht
      have h2 : 0 ≤ node ∧ node < l.length := by simp [thereN, inIs] at ht; omega
      obtain ⟨k, rfl⟩ := Int.eq_ofNat_of_zero_le h2.1
      have hk : k < l.length := by omega
      clear ht h2
      go_enter Tryd.func24, Tryd.ntmps24
      go_wp2_with fail
      refine hPR.mono ?_
      rintro e w1 ⟨rfl, hb1⟩
      have HP1 := Lib.hid (HP0.out.below hb1)
      have c1 := HP1.out.c0
      clear hb1
      go_wp2_with fail
      refine (hTh _).mono ?_
      rintro e w2 ⟨rfl, rfl⟩
      go_wp2_with fail
      have HP2 := Lib.hid (HP1.out.below ((Below.refl _ _).alloc (Nat.le_refl _) (.cells #[.int .i64 k] 2)))
      have HRI : Hid (RI (w1.alloc (.cells #[.int .i64 k] 2)) (w1.alloc (.cells #[.int .i64 k] 2)).heap.size (some ⟨w1.heap.size, 0, none⟩) ([k].map fun (r : Nat) => (r : Int))) := .inr ⟨w1.heap.size, 0, rfl, by simp, fun j hj => by
        have : j = 0 := by simpa using hj
        subst this
        simp [go_sem]⟩
      refine (pNeeded_any A c l (some ⟨w1.heap.size, 0, none⟩) 1 [k] _ HP2.out.rn HR.out HRI.out (by simpa using hk) (by simp)).mono ?_
      rintro e w4 ⟨rfl, ho4, hb4⟩
      have HB4 := Lib.hid (HP2.out.below hb4).bel
      simp only [alloc_size] at ho4 ⊢
      have HML := Lib.hid (needA_len l [k])
      have HO4 := Lib.hid ho4
      clear ho4 hb4 c1
      generalize hNM : needA l [k] = M at *
      have HNM := Lib.hid hNM
      clear hNM
      go_wp2
      go_loop [5, 24] (fun n i => ∃ j : Nat, i = .int .i64 j ∧ n = .int .i64 ((M.take j).count true) ∧ j ≤ l.length) (fun _ i => l.length - (intOf i).toNat)
      case atStart => exact ⟨0, rfl, by simp, Nat.zero_le _⟩
      case round =>
        obtain ⟨j, rfl, rfl, hj⟩ := hrel
        by_cases hlt : j < l.length
        · have hML := HML.out
          obtain ⟨g, e, _, _, hc, _⟩ := HO4.out.at_ (j := j) (by omega)
          cases e
          have HC := Lib.hid (count_take_p M (k := j) (by omega))
          have hle := List.count_le_length (a := true) (l := M.take j)
          have hle2 : (M.take j).length ≤ l.length := by simp; omega
          generalize hcn : (M.take j).count true = cn at *
          clear hcn
          have hw : wrap64 ((cn : Int) + 1) = (cn : Int) + 1 := wrap64_in (by omega) (by omega)
          cases hm : M[j]'(by omega)
          · rw [hm] at hc HC
            clear hm hML
            go_wp2
            go_round
            case rel => exact ⟨j + 1, by go_num, by rw [HC.out]; simp, by omega⟩
            case measure => simp [intOf]; omega
          · rw [hm] at hc HC
            clear hm hML
            go_wp2
            go_round
            case rel => exact ⟨j + 1, by go_num, by rw [HC.out]; simp, by omega⟩
            case measure => simp [intOf]; omega
        · have ej : j = l.length := by omega
          subst ej
          have HW : Hid (((M.take l.length).count true : Int) = weightN l k) := by
            show _ = _
            have e : M.take l.length = M := by rw [← HML.out, List.take_length]
            rw [weightN, HR.out, HT.out, e, ← HNM.out, needA_count HR.out hk]
            simp
          go_wp2
          go_ret
          exact ⟨ret_int HW.out, HB4.out⟩
end Go.Proofs.YtoobkajilbmdhaaDoor

namespace Go.Proofs.YtoobkajilbmdhaaDoor
open Go.RowKit
set_option linter.unusedVariables false

/-- The state of a marking call: its marks, its two boxes. -/
structure MS (w0 : World) (A : Option Addr) (c : Nat) (l : List Nd) (g cm base : Nat) (n : Nd) (M : List Bool) (wr : World) : Prop where
  own : OwnB wr base (.slice (some ⟨g, 0, none⟩) l.length cm) M
  grown : w0.grownBy wr (some g)
  box : wr.cell? ⟨w0.heap.size, 0, none⟩ = some (.slice A l.length c)
  nd : NdAt wr (w0.heap.size + 1) 0 n
  siz : w0.heap.size + 1 < wr.heap.size
theorem MS.step {w0 : World} {A : Option Addr} {c : Nat} {l : List Nd} {g cm base : Nat} {n : Nd} {M M' : List Bool} {wr wr' : World} (h : MS w0 A c l g cm base n M wr) (hg : wr.grownBy wr' (some g)) (ho : OwnB wr' base (.slice (some ⟨g, 0, none⟩) l.length cm) M') (hgw : g < w0.heap.size) : MS w0 A c l g cm base n M' wr' :=
  ⟨ho, by_trans h.grown hg, hg.cell h.box (by simp; omega), h.nd.keep (hg.block _ h.siz (by simp; omega)), Nat.lt_of_lt_of_le h.siz hg.size⟩
theorem MS.rn {w0 : World} {A : Option Addr} {c : Nat} {l : List Nd} {g cm base : Nat} {n : Nd} {M : List Bool} {wr : World} (h : MS w0 A c l g cm base n M wr) (hr : RN w0 g A l) (hgw : g < w0.heap.size) : RN wr g A l :=
  hr.keep fun k hk => h.grown.block k (by omega) (by simp; omega)
structure B2 (w : World) (b : Nat) (v : Value) (n : Nd) : Prop where
  bx : w.cell? ⟨b, 0, none⟩ = some v
  c0 : w.cell? ⟨b + 1, 0, none⟩ = some (.int .i64 n.tile)
  c1 : w.cell? ⟨b + 1, 0 + 1, none⟩ = some (.int .i64 n.a)
  c2 : w.cell? ⟨b + 1, 0 + 2, none⟩ = some (.int .i64 n.b)
  c3 : w.cell? ⟨b + 1, 0 + 3, none⟩ = some (.int .i64 n.c)
  c4 : w.cell? ⟨b + 1, 0 + 4, none⟩ = some (.int .i64 n.d)
theorem MS.enter {w0 : World} {A : Option Addr} {c : Nat} {l : List Nd} {g cm base node : Nat} {nt na nb nc nd : Int} {M : List Bool} {w1 : World} (ho : OwnB w0 base (.slice (some ⟨g, 0, none⟩) l.length cm) M)
    (hb : Below (((w0.setCell ⟨g, node, none⟩ (.bool true)).alloc (.cells #[.slice A l.length c] 25)).alloc (.cells #[.int .i64 nt, .int .i64 na, .int .i64 nb, .int .i64 nc, .int .i64 nd] 84)).heap.size (((w0.setCell ⟨g, node, none⟩ (.bool true)).alloc (.cells #[.slice A l.length c] 25)).alloc (.cells #[.int .i64 nt, .int .i64 na, .int .i64 nb, .int .i64 nc, .int .i64 nd] 84)) w1) : MS w0 A c l g cm base ⟨nt, na, nb, nc, nd⟩ (M.set node true) w1 := by
  have hs := ho.store (j := node) true
  have hz : (w0.setCell ⟨g, node, none⟩ (.bool true)).heap.size = w0.heap.size := by simp
  generalize w0.setCell ⟨g, node, none⟩ (.bool true) = W at *
  have hbx : B2 ((W.alloc (.cells #[.slice A l.length c] 25)).alloc (.cells #[.int .i64 nt, .int .i64 na, .int .i64 nb, .int .i64 nc, .int .i64 nd] 84)) W.heap.size (.slice A l.length c) ⟨nt, na, nb, nc, nd⟩ := ⟨by simp [go_sem], by simp [go_sem], by simp [go_sem], by simp [go_sem], by simp [go_sem], by simp [go_sem]⟩
  have hz2 : ((W.alloc (.cells #[.slice A l.length c] 25)).alloc (.cells #[.int .i64 nt, .int .i64 na, .int .i64 nb, .int .i64 nc, .int .i64 nd] 84)).heap.size = w0.heap.size + 1 + 1 := by simp [hz]
  have hg2 : W.grownBy ((W.alloc (.cells #[.slice A l.length c] 25)).alloc (.cells #[.int .i64 nt, .int .i64 na, .int .i64 nb, .int .i64 nc, .int .i64 nd] 84)) (some g) := by_trans (World.grownBy_alloc _ _ _) (World.grownBy_alloc _ _ _)
  have ho2 : OwnB ((W.alloc (.cells #[.slice A l.length c] 25)).alloc (.cells #[.int .i64 nt, .int .i64 na, .int .i64 nb, .int .i64 nc, .int .i64 nd] 84)) base (.slice (some ⟨g, 0, none⟩) l.length cm) (M.set node true) := (hs.1.alloc _).alloc _
  generalize (W.alloc (.cells #[.slice A l.length c] 25)).alloc (.cells #[.int .i64 nt, .int .i64 na, .int .i64 nb, .int .i64 nc, .int .i64 nd] 84) = X at *
  rw [hz] at hbx
  refine ⟨ho2.keep hb, by_trans hs.2 (by_trans hg2 (below_by hb _)), (hb.cell (p := ⟨w0.heap.size, 0, none⟩) (by show w0.heap.size < _; omega)).trans hbx.bx, ?_, by have := hb.size; omega⟩
  exact (NdAt.mk hbx.c0 hbx.c1 hbx.c2 hbx.c3 hbx.c4).keep (hb.block _ (by omega))

set_option maxRecDepth 100000 in
set_option maxHeartbeats 1000000 in
theorem mMark_any (l : List Nd) (hr : poolRight l = true) : ∀ (k : Nat) (A : Option Addr) (c g cm base node : Nat) (M : List Bool) (w : World), node < k → node < l.length → M.length = l.length → RN w g A l → OwnB w base (.slice (some ⟨g, 0, none⟩) l.length cm) M →
    Calls Tryd.prog 70 #[.agg #[.slice A l.length c], .slice (some ⟨g, 0, none⟩) l.length cm, .int .i64 node] w fun e w' => e = .returned (.tuple #[]) ∧ ∃ M', MarkP l M M' node ∧ OwnB w' base (.slice (some ⟨g, 0, none⟩) l.length cm) M' ∧ w.grownBy w' (some g) := by
  intro k
  induction k with
  | zero => intro A c g cm base node M w hk; omega
  | succ k ih =>
    intro A c g cm base node M w hk hn hM hrn how
    have hl := pool_len hr
    obtain ⟨g', eg, hbg, hgw, cM, fM⟩ := how.at_ (j := node) (by omega)
    cases eg
    have HO := Lib.hid how
    have HRN := Lib.hid hrn
    have n0 : (0 : Int) ≤ (node : Int) := by omega
    have n1 : (node : Int) < (l.length : Int) := by omega
    clear how hrn
    cases hm : M[node]'(by omega)
    · rw [hm] at cM
      have HS := Lib.hid ((HO.out.alloc (.cells #[.slice A l.length c] 25)).store (j := node) true)
      obtain ⟨b, off, rfl, hbl, hN⟩ := HRN.out.at_ hn
      have HBG := Lib.hid hbl
      have hne : ¬ b = g := by omega
      generalize hnk : l[node] = n at hN
      have HNK := Lib.hid hnk
      clear hnk
      have hLf := mLeaf_any n
      cases hlf : leafN n
      · have hok := right_node hr hn
        rw [HNK.out] at hok
        obtain ⟨q0, qa, qb, qc, qd⟩ := ok_split hok hlf
        clear q0 hok
        have HP : Hid (∀ M2 M3 M4 M5, MarkP l (M.set node true) M2 n.a.toNat → MarkP l M2 M3 n.b.toNat → MarkP l M3 M4 n.c.toNat → MarkP l M4 M5 n.d.toNat → MarkP l M M5 node) := by
          intro M2 M3 M4 M5 h2 h3 h4 h5
          exact MarkP.split hn hM (by rw [HNK.out]; exact hlf) (by rw [HNK.out]; exact h2) (by rw [HNK.out]; exact h3) (by rw [HNK.out]; exact h4) (by rw [HNK.out]; exact h5)
        rw [hlf] at hLf
        clear hlf hm HNK
        obtain ⟨nt, na, nb, nc, nd⟩ := n
        simp only at qa qb qc qd HP
        obtain ⟨ia, rfl⟩ := Int.eq_ofNat_of_zero_le qa.1
        obtain ⟨ib, rfl⟩ := Int.eq_ofNat_of_zero_le qb.1
        obtain ⟨ic, rfl⟩ := Int.eq_ofNat_of_zero_le qc.1
        obtain ⟨id, rfl⟩ := Int.eq_ofNat_of_zero_le qd.1
        simp only [Int.toNat_natCast] at HP
        unfold Nd.val at hLf
        obtain ⟨d0, d1, d2, d3, d4⟩ := hN
        simp only at d0 d1 d2 d3 d4 hLf
        have hbw : b < w.heap.size := by omega
        go_enter Tryd.func70, Tryd.ntmps70
        go_wp2_with fail
        refine (hLf _).mono ?_
        rintro e w1 ⟨rfl, hb1⟩
        have H1 := Lib.hid (MS.enter HO.out hb1)
        have HL1 : Hid ((M.set node true).length = M.length) := by show _ = _; simp
        clear hb1 d0 d1 d2 d3 d4 hLf HS cM fM
        have e0 := H1.out.box
        obtain ⟨p0, p1, p2, p3, p4⟩ := H1.out.nd.five
        simp only at p0 p1 p2 p3 p4
        go_wp2_with fail
        refine (ih (some ⟨b, off, none⟩) c g cm base ia _ w1 (by omega) (by omega) (by rw [HL1.out]; exact hM) (H1.out.rn HRN.out hgw) H1.out.own).mono ?_
        rintro e w2 ⟨rfl, M2, hp2, ho2, hg2⟩
        have H2 := Lib.hid (H1.out.step hg2 ho2 hgw)
        have HP2 := Lib.hid hp2
        have HL2 : Hid (M2.length = M.length) := hp2.len.trans HL1.out
        clear hp2 ho2 hg2 e0 p0 p1 p2 p3 p4
        have e1 := H2.out.box
        obtain ⟨p0, p1, p2, p3, p4⟩ := H2.out.nd.five
        simp only at p0 p1 p2 p3 p4
        go_wp2_with fail
        refine (ih (some ⟨b, off, none⟩) c g cm base ib _ w2 (by omega) (by omega) (by rw [HL2.out]; exact hM) (H2.out.rn HRN.out hgw) H2.out.own).mono ?_
        rintro e w3 ⟨rfl, M3, hp3, ho3, hg3⟩
        have H3 := Lib.hid (H2.out.step hg3 ho3 hgw)
        have HP3 := Lib.hid hp3
        have HL3 : Hid (M3.length = M.length) := hp3.len.trans HL2.out
        clear hp3 ho3 hg3 e1 p0 p1 p2 p3 p4
        have e2 := H3.out.box
        obtain ⟨p0, p1, p2, p3, p4⟩ := H3.out.nd.five
        simp only at p0 p1 p2 p3 p4
        go_wp2_with fail
        refine (ih (some ⟨b, off, none⟩) c g cm base ic _ w3 (by omega) (by omega) (by rw [HL3.out]; exact hM) (H3.out.rn HRN.out hgw) H3.out.own).mono ?_
        rintro e w4 ⟨rfl, M4, hp4, ho4, hg4⟩
        have H4 := Lib.hid (H3.out.step hg4 ho4 hgw)
        have HP4 := Lib.hid hp4
        have HL4 : Hid (M4.length = M.length) := hp4.len.trans HL3.out
        clear hp4 ho4 hg4 e2 p0 p1 p2 p3 p4
        have e3 := H4.out.box
        obtain ⟨p0, p1, p2, p3, p4⟩ := H4.out.nd.five
        simp only at p0 p1 p2 p3 p4
        go_wp2_with fail
        refine (ih (some ⟨b, off, none⟩) c g cm base id _ w4 (by omega) (by omega) (by rw [HL4.out]; exact hM) (H4.out.rn HRN.out hgw) H4.out.own).mono ?_
        rintro e w5 ⟨rfl, M5, hp5, ho5, hg5⟩
        have H5 := Lib.hid (H4.out.step hg5 ho5 hgw)
        have HP5 := Lib.hid hp5
        have HL5 : Hid (M5.length = M.length) := hp5.len.trans HL4.out
        clear hp5 ho5 hg5 e3 p0 p1 p2 p3 p4
        go_wp2_with fail
        go_end0
        exact ⟨rfl, _, HP.out _ _ _ _ HP2.out HP3.out HP4.out HP5.out, H5.out.own, H5.out.grown⟩
      · rw [hlf] at hLf
        have HP : Hid (MarkP l M (M.set node true) node) := MarkP.leaf hn hM (by rw [HNK.out]; exact hlf)
        clear hlf hm
        obtain ⟨nt, na, nb, nc, nd⟩ := n
        unfold Nd.val at hLf
        obtain ⟨d0, d1, d2, d3, d4⟩ := hN
        simp only at d0 d1 d2 d3 d4 hLf
        have hbw : b < w.heap.size := by omega
        go_enter Tryd.func70, Tryd.ntmps70
        go_wp2_with fail
        refine (hLf _).mono ?_
        rintro e w1 ⟨rfl, hb1⟩
        have H1 := Lib.hid (MS.enter HO.out hb1)
        clear hb1
        go_wp2_with fail
        go_end0
        exact ⟨rfl, _, HP.out, H1.out.own, H1.out.grown⟩
    · rw [hm] at cM
      have HM : Hid (M.getD node false = true) := by show _ = _; simp [List.getD, hm, show node < M.length by omega]
      clear hm
      go_enter Tryd.func70, Tryd.ntmps70
      go_wp2_with fail
      refine bodyPost_ret (results_none rfl _ _ _) rfl ?_
      exact ⟨rfl, M, MarkP.there HM.out, HO.out.alloc _, World.grownBy_alloc _ _ _⟩

end Go.Proofs.YtoobkajilbmdhaaDoor

namespace Go.Proofs.YtoobkajilbmdhaaDoor
open Go.RowKit
set_option linter.unusedVariables false

theorem count_take (M : List Bool) {k : Nat} (hk : k < M.length) : ((M.take (k + 1)).count true : Int) = (M.take k).count true + if M[k] then 1 else 0 := by
  rw [List.take_succ_eq_append_getElem hk, List.count_append]
  cases M[k] <;> simp
set_option maxRecDepth 100000 in
set_option maxHeartbeats 1000000 in
theorem mWeight_any (A : Option Addr) (c : Nat) (l : List Nd) (node : Int) (w : World) (h : RN w w.heap.size A l) (hl : l.length ≤ 1000000000) :
    Calls Tryd.prog 25 #[.agg #[.slice A l.length c], .int .i64 node] w fun e w' => e = .returned (.int .i64 (weightN l node)) ∧ Below w.heap.size w w' := by
  obtain ⟨i0, hi, hz0, hz1, hz2⟩ := info_parts Tryd.infoBool
  have HP0 := Lib.hid (PB.made w A c l h)
  have hbw : Below w.heap.size w (w.alloc (.cells #[.slice A l.length c] 25)) := (Below.refl _ _).alloc (Nat.le_refl _) _
  have hPR := mPoolRight_any A c l (w.alloc (.cells #[.slice A l.length c] 25)) ((h.below hbw).mono (by simp)) hl
  clear h
  cases hr : poolRight l
  · rw [hr] at hPR
    have HR := Lib.hid hr
    clear hr
    go_enter Tryd.func25, Tryd.ntmps25
    go_wp2_with fail
    refine hPR.mono ?_
    rintro e w1 ⟨rfl, hb1⟩
    have HP1 := Lib.hid (HP0.out.below hb1)
    have c1 := HP1.out.c0
    clear hb1
    go_wp2
    go_ret
    exact ⟨ret_int (by simp [weightN, HR.out]), HP1.out.bel⟩
  · rw [hr] at hPR
    have HR := Lib.hid hr
    have h200 := pool_len hr
    clear hr
    have hTh := fun w => mThere_any A l.length c node w hl
    cases ht : thereN l.length node
    · rw [ht] at hTh
      have HT := Lib.hid ht
      clear ht
      go_enter Tryd.func25, Tryd.ntmps25
      go_wp2_with fail
      refine hPR.mono ?_
      rintro e w1 ⟨rfl, hb1⟩
      have HP1 := Lib.hid (HP0.out.below hb1)
      have c1 := HP1.out.c0
      clear hb1
      go_wp2_with fail
      refine (hTh _).mono ?_
      rintro e w2 ⟨rfl, hb2⟩
      have HP2 := Lib.hid (HP1.out.below hb2)
      clear hb2
      go_wp2
      go_ret
      exact ⟨ret_int (by simp [weightN, HT.out]), HP2.out.bel⟩
    · rw [ht] at hTh
      have HT := Lib.hid ht
      have h2 : 0 ≤ node ∧ node < l.length := by simp [thereN, inIs] at ht; omega
      obtain ⟨k, rfl⟩ := Int.eq_ofNat_of_zero_le h2.1
      have hk : k < l.length := by omega
      clear ht h2
      go_enter Tryd.func25, Tryd.ntmps25
      go_wp2_with fail
      refine hPR.mono ?_
      rintro e w1 ⟨rfl, hb1⟩
      have HP1 := Lib.hid (HP0.out.below hb1)
      have c1 := HP1.out.c0
      clear hb1
      go_wp2_with fail
      refine (hTh _).mono ?_
      rintro e w2 ⟨rfl, hb2⟩
      have HP2 := Lib.hid (HP1.out.below hb2)
      have c2 := HP2.out.c0
      clear hb2 c1
      go_wp2_with (at_make; refine wpList_make_full _ rfl _ _ 93 rfl w2.heap.size 4 i0 (.bool false) 1 Tryd.underlying93 hi hz0 hz1 .i64 .i64 _ _ l.length rfl rfl rfl rfl ?b2 ?b3 (Nat.le_refl _) ?_)
      case b2 => rw [hz2]; omega
      case b3 => unfold maxLen; omega
      intro w3 hown3 hgrow3
      have ho3 := own_falses hown3
      have hb3 : Below w2.heap.size w2 w3 := (Below.refl _ _).grown hgrow3 (Nat.le_refl _) (fun k hk => by cases hk)
      have HP3 := Lib.hid (HP2.out.below hb3)
      have HB3 := Lib.hid hb3
      have HO3 := Lib.hid ho3
      have c3 := HP3.out.c0
      have hsz := HP2.out.siz
      clear hown3 hgrow3 ho3 hb3 c2
      go_wp2_with fail
      refine (mMark_any l HR.out (k + 1) A c w2.heap.size l.length w2.heap.size k _ w3 (by omega) hk (by simp) (HP3.out.ri.mono (by omega)) HO3.out).mono ?_
      rintro e w4 ⟨rfl, M, hp4, ho4, hg4⟩
      have HV := Lib.hid (mark_count HR.out hk hp4)
      have HML : Hid (M.length = l.length) := by show _ = _; rw [hp4.len]; simp
      have HO4 := Lib.hid ho4
      have HB4 : Hid (Below w.heap.size w w4) := HP3.out.bel.grown hg4 HP3.out.bel.size (fun j hj => by cases hj; omega)
      clear hp4 ho4 hg4 c3 HO3 HB3 HP3
      go_wp2
      go_loop [6, 7] (fun n i => ∃ j : Nat, i = .int .i64 j ∧ n = .int .i64 ((M.take j).count true) ∧ j ≤ l.length) (fun _ i => l.length - (intOf i).toNat)
      case atStart => exact ⟨0, rfl, by simp, Nat.zero_le _⟩
      case round =>
        obtain ⟨j, rfl, rfl, hj⟩ := hrel
        by_cases hlt : j < l.length
        · have hML := HML.out
          obtain ⟨g, e, _, _, hc, _⟩ := HO4.out.at_ (j := j) (by omega)
          cases e
          have HC := Lib.hid (count_take M (k := j) (by omega))
          have hle := List.count_le_length (a := true) (l := M.take j)
          have hle2 : (M.take j).length ≤ l.length := by simp; omega
          generalize hcn : (M.take j).count true = cn at *
          have hc0 : (0 : Int) ≤ (cn : Int) := by omega
          have hc1 : (cn : Int) ≤ 200 := by omega
          clear hcn hle hle2
          cases hm : M[j]'(by omega)
          · rw [hm] at hc HC
            clear hm hML
            go_wp2
            go_round
            case rel => exact ⟨j + 1, by go_num, by rw [HC.out]; simp, by omega⟩
            case measure => simp [intOf]; omega
          · rw [hm] at hc HC
            clear hm hML
            go_wp2
            go_round
            case rel => exact ⟨j + 1, by go_num, by first | (rw [HC.out]; simp; done) | (rw [HC.out, wrap64_in (by omega) (by omega)]; simp), by omega⟩
            case measure => simp [intOf]; omega
        · have ej : j = l.length := by omega
          subst ej
          have HW : Hid (((M.take l.length).count true : Int) = weightN l k) := by
            show _ = _
            have e : M.take l.length = M := by rw [← HML.out, List.take_length]
            rw [weightN, HR.out, HT.out, e, HV.out, Int.toNat_natCast]
            rfl
          go_wp2
          go_ret
          exact ⟨ret_int HW.out, HB4.out⟩
end Go.Proofs.YtoobkajilbmdhaaDoor

namespace Go.Proofs.YtoobkajilbmdhaaDoor
open Go.RowKit

set_option maxRecDepth 100000 in
set_option maxHeartbeats 400000 in
theorem lwNums_any (A A' : Option Addr) (c c' : Nat) (l : List Int) (w : World) (h : RI w w.heap.size A l) (h' : RI w w.heap.size A' l) (hl : l.length ≤ 1000000000) :
    Calls Tryd.prog 74 #[.slice A l.length c, .slice A' l.length c'] w fun e w' => e = .returned (.bool true) ∧ Below w.heap.size w w' := by
  have H := Lib.hid h
  have H' := Lib.hid h'
  clear h h'
  go_enter Tryd.func74, Tryd.ntmps74
  go_wp2
  go_loopw [5] (fun i wr => ∃ k : Nat, i = .int .i64 k ∧ k ≤ l.length ∧ Still w wr) (fun i _ => l.length - (intOf i).toNat)
  case atStart => exact ⟨0, rfl, Nat.zero_le _, Still.refl _⟩
  case round =>
    obtain ⟨k, rfl, hk, hs⟩ := hrel
    have HST := Lib.hid hs
    by_cases hlt : k < l.length
    · obtain ⟨b, off, rfl, _, hc⟩ := (H.out.still hs).at_ hlt
      obtain ⟨b', off', rfl, _, hc'⟩ := (H'.out.still hs).at_ hlt
      generalize l[k] = x at hc hc'
      clear hs
      go_wp2_with fail
      go_quiet (fail)
      go_wp2
      go_roundw
      case rel => exact ⟨k + 1, by go_num, by omega, HST.out.trans ⟨rfl, rfl, rfl, rfl⟩⟩
      case measure => simp [intOf]; omega
    · go_wp2
      go_ret
      exact ⟨rfl, HST.out.below _⟩

set_option maxRecDepth 100000 in
set_option maxHeartbeats 400000 in
theorem lwGrid_any (side : Int) (A A' : Option Addr) (c c' : Nat) (l : List Int) (w : World) (h : RI w w.heap.size A l) (h' : RI w w.heap.size A' l) (hl : l.length ≤ 1000000000) :
    Calls Tryd.prog 28 #[.agg #[.int .i64 side, .slice A l.length c], .agg #[.int .i64 side, .slice A' l.length c']] w fun e w' => e = .returned (.bool true) ∧ Below w.heap.size w w' := by
  have HP0 : Hid (PP w side side (.slice A l.length c) (.slice A' l.length c') ((w.alloc (.cells #[.int .i64 side, .slice A l.length c] 28)).alloc (.cells #[.int .i64 side, .slice A' l.length c'] 28))) := by
    refine ⟨(GB.made w side (.slice A l.length c) 28).below ((Below.refl _ _).alloc (B := w.heap.size + 1) (by simp) _) (by omega), ?_, ((Below.refl _ _).alloc (Nat.le_refl _) _).alloc (by simp) _, by simp⟩
    have := GB.made (w.alloc (.cells #[.int .i64 side, .slice A l.length c] 28)) side (.slice A' l.length c') 28
    rw [alloc_size] at this
    exact this
  have HN := Lib.hid (lwNums_any A A' c c' l _ ((h.below HP0.out.bel).mono HP0.out.bel.size) ((h'.below HP0.out.bel).mono HP0.out.bel.size) hl)
  clear h h'
  go_enter Tryd.func28, Tryd.ntmps28
  go_wp2_with fail
  refine HN.out.mono ?_
  rintro e w1 ⟨rfl, hb1⟩
  have HB := Lib.hid (HP0.out.bel.trans (hb1.mono HP0.out.bel.size))
  clear hb1
  go_wp2
  go_ret
  exact ⟨rfl, HB.out⟩

/-- Block b holds the fields of a map that was handed back. -/
theorem GC.made2 (w : World) (s s' cd cd' : Int) (v v' : Value) (t : TypeId) : GC ((w.alloc (.cells #[.int .i64 s, v, .int .i64 cd] t)).alloc (.cells #[.int .i64 s', v', .int .i64 cd'] t)) w.heap.size s v cd ∧ GC ((w.alloc (.cells #[.int .i64 s, v, .int .i64 cd] t)).alloc (.cells #[.int .i64 s', v', .int .i64 cd'] t)) (w.heap.size + 1) s' v' cd' := by
  refine ⟨(GC.made w s cd v t).below ((Below.refl _ _).alloc (B := w.heap.size + 1) (by simp) _) (by omega), ?_⟩
  have := GC.made (w.alloc (.cells #[.int .i64 s, v, .int .i64 cd] t)) s' cd' v' t
  rw [alloc_size] at this
  exact this

set_option maxRecDepth 100000 in
set_option maxHeartbeats 400000 in
theorem lwGrids_any (side code : Int) (A A' : Option Addr) (c c' : Nat) (l : List Int) (w : World) (h : RI w w.heap.size A l) (h' : RI w w.heap.size A' l) (hl : l.length ≤ 1000000000) (hr : code = 0 → gridRight side l = true) :
    Calls Tryd.prog 17 #[.agg #[.int .i64 side, .slice A l.length c, .int .i64 code], .agg #[.int .i64 side, .slice A' l.length c', .int .i64 code]] w fun e w' => e = .returned (.bool true) ∧ Below w.heap.size w w' := by
  obtain ⟨hg1, hg2⟩ := GC.made2 w side side code code (.slice A l.length c) (.slice A' l.length c') 37
  have hb0 : Below w.heap.size w ((w.alloc (.cells #[.int .i64 side, .slice A l.length c, .int .i64 code] 37)).alloc (.cells #[.int .i64 side, .slice A' l.length c', .int .i64 code] 37)) := ((Below.refl _ _).alloc (Nat.le_refl _) _).alloc (by simp) _
  have HN := Lib.hid (lwGrid_any side A A' c c' l _ ((h.below hb0).mono hb0.size) ((h'.below hb0).mono hb0.size) hl)
  have HG1 := Lib.hid hg1
  have HB0 := Lib.hid hb0
  have H := Lib.hid h
  have hz : w.heap.size < ((w.alloc (.cells #[.int .i64 side, .slice A l.length c, .int .i64 code] 37)).alloc (.cells #[.int .i64 side, .slice A' l.length c', .int .i64 code] 37)).heap.size := by simp; omega
  have HZ := Lib.hid hz
  clear h h' hg1 hg2 hb0 hz
  by_cases hc : code = 0
  · have hq : (code != 0) = false := by simpa using hc
    have HRR := Lib.hid (hr hc)
    clear hr hc
    go_enter Tryd.func17, Tryd.ntmps17
    go_wp2_with fail
    refine HN.out.mono ?_
    rintro e w1 ⟨rfl, hb1⟩
    have HB1 := Lib.hid (HB0.out.trans (hb1.mono HB0.out.size))
    obtain ⟨c0, c1, c2⟩ := HG1.out.below hb1 HZ.out
    have hR := mRight_any side A c l w1 ((H.out.below HB1.out).mono HB1.out.size) hl
    rw [HRR.out] at hR
    clear hb1
    go_wp2_with fail
    refine hR.mono ?_
    rintro e w2 ⟨rfl, hb2⟩
    have HB2 := Lib.hid (HB1.out.trans (hb2.mono HB1.out.size))
    clear hb2
    go_wp2
    go_ret
    exact ⟨rfl, HB2.out⟩
  · have hq : (code != 0) = true := by simpa using hc
    clear hr hc
    go_enter Tryd.func17, Tryd.ntmps17
    go_wp2_with fail
    refine HN.out.mono ?_
    rintro e w1 ⟨rfl, hb1⟩
    have HB1 := Lib.hid (HB0.out.trans (hb1.mono HB0.out.size))
    obtain ⟨c0, c1, c2⟩ := HG1.out.below hb1 HZ.out
    clear hb1
    go_wp2
    go_ret
    exact ⟨rfl, HB1.out⟩
end Go.Proofs.YtoobkajilbmdhaaDoor

namespace Go.Proofs.YtoobkajilbmdhaaDoor
open Go.RowKit
set_option linter.unusedVariables false

theorem take_more {l l' : List Int} {k : Nat} (h : l.take k = l'.take k) (h1 : k < l.length) (h2 : k < l'.length) (e : l[k] = l'[k]) : l.take (k + 1) = l'.take (k + 1) := by
  rw [List.take_succ_eq_append_getElem h1, List.take_succ_eq_append_getElem h2, h, e]

set_option maxRecDepth 100000 in
set_option maxHeartbeats 400000 in
theorem lwNums_is (A A' : Option Addr) (c c' : Nat) (l l' : List Int) (w : World) (h : RI w w.heap.size A l) (h' : RI w w.heap.size A' l') (hn : l'.length = l.length) (hl : l.length ≤ 1000000000) :
    Calls Tryd.prog 74 #[.slice A l.length c, .slice A' l.length c'] w fun e w' => e = .returned (.bool (decide (l = l'))) ∧ Below w.heap.size w w' := by
  have H := Lib.hid h
  have H' := Lib.hid h'
  have HN := Lib.hid hn
  clear h h' hn
  go_enter Tryd.func74, Tryd.ntmps74
  go_wp2
  go_loopw [5] (fun i wr => ∃ k : Nat, i = .int .i64 k ∧ k ≤ l.length ∧ Still w wr ∧ Hid (l.take k = l'.take k)) (fun i _ => l.length - (intOf i).toNat)
  case atStart => exact ⟨0, rfl, Nat.zero_le _, Still.refl _, rfl⟩
  case round =>
    obtain ⟨k, rfl, hk, hs, HT⟩ := hrel
    have HST := Lib.hid hs
    by_cases hlt : k < l.length
    · have hlt' : k < l'.length := by rw [HN.out]; exact hlt
      obtain ⟨b, off, rfl, _, hc⟩ := (H.out.still hs).at_ hlt
      obtain ⟨b', off', rfl, _, hc'⟩ := (H'.out.still hs).at_ hlt'
      have HM := Lib.hid (fun e => take_more HT.out hlt hlt' e)
      have HD : Hid (¬ l[k] = l'[k] → decide (l = l') = false) := by
        show _ → _
        intro h
        refine decide_eq_false fun e => h ?_
        subst e
        rfl
      generalize l[k] = x at hc HM HD
      generalize l'[k] = y at hc' HM HD
      clear hs
      by_cases hxy : x = y
      · have HM2 := Lib.hid (HM.out hxy)
        subst hxy
        go_wp2_with fail
        go_quiet (fail)
        go_wp2
        go_roundw
        case rel => exact ⟨k + 1, by go_num, by omega, HST.out.trans ⟨rfl, rfl, rfl, rfl⟩, HM2⟩
        case measure => simp [intOf]; omega
      · have hq : (x != y) = true := by simpa using hxy
        have HD2 := Lib.hid (HD.out hxy)
        clear hxy
        go_wp2_with fail
        go_quiet (fail)
        go_wp2
        go_ret
        exact ⟨ret_bool (by rw [HD2.out]), (HST.out.trans (show Still wr (wr.drewN nq) from ⟨rfl, rfl, rfl, rfl⟩)).below _⟩
    · have HE : Hid (decide (l = l') = true) := by
        have e1 : l.take k = l := List.take_of_length_le (by omega)
        have e2 : l'.take k = l' := List.take_of_length_le (by rw [HN.out]; omega)
        have := HT.out
        rw [e1, e2] at this
        exact decide_eq_true this
      go_wp2
      go_ret
      exact ⟨ret_bool (by rw [HE.out]), HST.out.below _⟩

set_option maxRecDepth 100000 in
set_option maxHeartbeats 400000 in
theorem lwGrid_is (side : Int) (A A' : Option Addr) (c c' : Nat) (l l' : List Int) (w : World) (h : RI w w.heap.size A l) (h' : RI w w.heap.size A' l') (hn : l'.length = l.length) (hl : l.length ≤ 1000000000) :
    Calls Tryd.prog 28 #[.agg #[.int .i64 side, .slice A l.length c], .agg #[.int .i64 side, .slice A' l.length c']] w fun e w' => e = .returned (.bool (decide (l = l'))) ∧ Below w.heap.size w w' := by
  have HP0 : Hid (PP w side side (.slice A l.length c) (.slice A' l.length c') ((w.alloc (.cells #[.int .i64 side, .slice A l.length c] 28)).alloc (.cells #[.int .i64 side, .slice A' l.length c'] 28))) := by
    refine ⟨(GB.made w side (.slice A l.length c) 28).below ((Below.refl _ _).alloc (B := w.heap.size + 1) (by simp) _) (by omega), ?_, ((Below.refl _ _).alloc (Nat.le_refl _) _).alloc (by simp) _, by simp⟩
    have := GB.made (w.alloc (.cells #[.int .i64 side, .slice A l.length c] 28)) side (.slice A' l.length c') 28
    rw [alloc_size] at this
    exact this
  have HN := Lib.hid (lwNums_is A A' c c' l l' _ ((h.below HP0.out.bel).mono HP0.out.bel.size) ((h'.below HP0.out.bel).mono HP0.out.bel.size) hn hl)
  clear h h' hn
  go_enter Tryd.func28, Tryd.ntmps28
  go_wp2_with fail
  refine HN.out.mono ?_
  rintro e w1 ⟨rfl, hb1⟩
  have HB := Lib.hid (HP0.out.bel.trans (hb1.mono HP0.out.bel.size))
  clear hb1
  generalize hd : decide (l = l') = d
  have HD := Lib.hid hd
  clear hd
  go_wp2
  go_ret
  exact ⟨ret_bool HD.out.symm, HB.out⟩
end Go.Proofs.YtoobkajilbmdhaaDoor
