/- Several texts in one: NodeX, ItemsP, SwW, SwO, NodeO. -/
import Derived.Test.YtoobkajilbmdhaaNodeW
import Derived.Test.YtoobkajilbmdhaaPutMm
import Derived.Test.YtoobkajilbmdhaaItems
import Derived.Test.YtoobkajilbmdhaaSwZ
import Derived.Test.YtoobkajilbmdhaaGWalkS
import Derived.Test.YtoobkajilbmdhaaGridO
import Derived.Test.YtoobkajilbmdhaaInts
import Derived.Deep.Slices
import Derived.Test.YtoobkajilbmdhaaPgK
namespace Go.Proofs.Ytoobkajilbmdhaa
open Go.RowKit
set_option linter.unusedVariables false

def nmark (k : Nat) : Nd := ⟨(k : Int), (k : Int) + 1, (k : Int) + 2, (k : Int) + 3, (k : Int) + 4⟩
def marksN (k n : Nat) : List Nd := (List.range n).map fun i => nmark (k + 5 * i)
theorem marksN_length (k n : Nat) : (marksN k n).length = n := by simp [marksN]
theorem marksN_get (k n i : Nat) (h : i < (marksN k n).length) : (marksN k n)[i] = nmark (k + 5 * i) := by simp [marksN]
theorem markedN_step (l : List Nd) (k j : Nat) (hj : j < l.length) : ((marksN k l.length).take j ++ l.drop j).set j (nmark (k + 5 * j)) = (marksN k l.length).take (j + 1) ++ l.drop (j + 1) := by
  have hm : j < (marksN k l.length).length := by rw [marksN_length]; exact hj
  have hl : ((marksN k l.length).take j).length = j := by simp [marksN_length]; omega
  rw [List.set_append_right _ _ (by omega), hl, Nat.sub_self, List.drop_eq_getElem_cons hj, List.set_cons_zero, List.take_succ_eq_append_getElem hm, marksN_get, List.append_assoc]
  rfl

set_option maxRecDepth 100000 in
set_option maxHeartbeats 1000000 in
theorem markNodes (A : Option Addr) (c base k0 : Nat) (l : List Nd) (w : World) (h : OwnN w base (.slice A l.length c) l) (hl : l.length ≤ 1100000) (hk0 : k0 ≤ 1000000000) :
    Calls Try.prog 48 #[.slice A l.length c, .int .i64 k0] w fun e w' => e = .returned (.int .i64 ((k0 + 5 * l.length : Nat) : Int)) ∧ OwnN w' base (.slice A l.length c) (marksN k0 l.length) ∧ w.grownBy w' (Value.slice A l.length c).ownBlock ∧ w'.heap.size = w.heap.size := by
  go_enter Try.func48, Try.ntmps48
  go_wp2
  go_loopw [1, 5] (fun x i wr => ∃ j K : Nat, i = .int .i64 j ∧ x = .int .i64 K ∧ Hid (K = k0 + 5 * j) ∧ j ≤ l.length ∧ OwnN wr base (.slice A l.length c) ((marksN k0 l.length).take j ++ l.drop j) ∧ w.grownBy wr (Value.slice A l.length c).ownBlock ∧ Hid (wr.heap.size = w.heap.size)) (fun _ i _ => l.length - (intOf i).toNat)
  case atStart => exact ⟨0, k0, rfl, rfl, rfl, Nat.zero_le _, by simpa using h, ⟨rfl, rfl, rfl, Nat.le_refl _, fun _ _ _ => rfl⟩, rfl⟩
  case round =>
    obtain ⟨j, K, rfl, rfl, HK, hj, ho, hg, HZ⟩ := hrel
    have hKb : (K : Int) ≤ 2000000000 := by have := HK.out; omega
    by_cases hlt : j < l.length
    · obtain ⟨g, rfl, _, _, hcg, hfg⟩ := ho.at_ (j := j) (by simp [marksN_length]; omega)
      have HS := Lib.hid (ho.store (j := j) (by simp [marksN_length]; omega) (nmark K))
      have hf0 := hfg (j * 5)
      have hf1 := hfg (j * 5 + 1)
      have hf2 := hfg (j * 5 + 2)
      have hf3 := hfg (j * 5 + 3)
      have hf4 := hfg (j * 5 + 4)
      obtain ⟨g0, g1, g2, g3, g4⟩ := hcg
      have HG := Lib.hid hg
      clear ho h hfg hg
      go_wp2
      go_roundw
      case rel => exact ⟨j + 1, K + 5, by go_num, by go_num, (by have := HK.out; show _ = _; omega), by omega, by rw [← markedN_step l k0 j hlt, ← HK.out]; exact HS.out.1, by_trans HG.out HS.out.2, by show (World.setCell _ _ _).heap.size = _; simpa [World.setCell] using HZ.out⟩
      case measure => simp [intOf]; omega
    · have ej : j = l.length := by omega
      subst ej
      have HKE : Hid ((K : Int) = ((k0 + 5 * l.length : Nat) : Int)) := by have := HK.out; show _ = _; omega
      have HO := Lib.hid ho
      have HG := Lib.hid hg
      clear ho hg h
      go_wp2
      go_ret
      exact ⟨ret_int HKE.out, by simpa [marksN_length, List.take_of_length_le] using HO.out, HG.out, HZ.out⟩

set_option maxRecDepth 100000 in
set_option maxHeartbeats 1000000 in
theorem heldNodes (A : Option Addr) (c B k0 n : Nat) (w : World) (h : RN w B A (marksN k0 n)) (hl : n ≤ 1100000) (hk0 : k0 ≤ 1000000000) :
    Calls Try.prog 65 #[.slice A n c, .int .i64 k0] w fun e w' => e = .returned (.int .i64 ((k0 + 5 * n : Nat) : Int)) ∧ w = w' := by
  have H := Lib.hid h
  clear h
  go_enter Try.func65, Try.ntmps65
  go_wp2
  go_loop [1, 5] (fun x i => ∃ j K : Nat, i = .int .i64 j ∧ x = .int .i64 K ∧ Hid (K = k0 + 5 * j) ∧ j ≤ n) (fun _ i => n - (intOf i).toNat)
  case atStart => exact ⟨0, k0, rfl, rfl, rfl, Nat.zero_le _⟩
  case round =>
    obtain ⟨j, K, rfl, rfl, HK, hj⟩ := hrel
    have hKb : (K : Int) ≤ 2000000000 := by have := HK.out; omega
    by_cases hlt : j < n
    · obtain ⟨b, off, rfl, _, hc⟩ := H.out.at_ (j := j) (by rw [marksN_length]; exact hlt)
      rw [marksN_get, ← HK.out] at hc
      obtain ⟨d0, d1, d2, d3, d4⟩ := hc
      simp only [nmark] at d0 d1 d2 d3 d4
      go_wp2
      go_round
      case rel => exact ⟨j + 1, K + 5, by go_num, by go_num, (by have := HK.out; show _ = _; omega), by omega⟩
      case measure => simp [intOf]; omega
    · have ej : j = n := by omega
      subst ej
      have HKE : Hid ((K : Int) = ((k0 + 5 * j : Nat) : Int)) := by have := HK.out; show _ = _; omega
      go_wp2
      go_ret
      exact ⟨ret_int HKE.out, rfl⟩

set_option maxHeartbeats 400000 in
theorem markPool_any (A : Option Addr) (c base k0 : Nat) (l : List Nd) (w : World) (h : OwnN w base (.slice A l.length c) l) (hl : l.length ≤ 1100000) (hk0 : k0 ≤ 1000000000) :
    Calls Try.prog 25 #[.agg #[.slice A l.length c], .int .i64 k0] w fun e w' => e = .returned (.int .i64 ((k0 + 5 * l.length : Nat) : Int)) ∧ OwnN w' base (.slice A l.length c) (marksN k0 l.length) ∧ w.grownBy w' (Value.slice A l.length c).ownBlock := by
  have HT := Lib.hid (markNodes A c base k0 l _ (h.alloc (.cells #[.slice A l.length c] 29)) hl hk0)
  clear h
  have hbw : Below w.heap.size w (w.alloc (.cells #[.slice A l.length c] 29)) := (Below.refl _ _).alloc (Nat.le_refl _) _
  go_enter Try.func25, Try.ntmps25
  go_wp2_with fail
  refine HT.out.mono ?_
  rintro e w1 ⟨rfl, ho, hg, hz⟩
  have HO := Lib.hid ho
  have HG := Lib.hid (by_trans (below_by hbw _) hg)
  clear HT ho hg hz hbw
  go_wp2
  go_ret
  exact ⟨rfl, HO.out, HG.out⟩
set_option maxHeartbeats 400000 in
theorem heldPool_any (A : Option Addr) (c k0 n : Nat) (w : World) (h : RN w w.heap.size A (marksN k0 n)) (hl : n ≤ 1100000) (hk0 : k0 ≤ 1000000000) :
    Calls Try.prog 49 #[.agg #[.slice A n c], .int .i64 k0] w fun e w' => e = .returned (.int .i64 ((k0 + 5 * n : Nat) : Int)) ∧ Below w.heap.size w w' := by
  have hbw : Below w.heap.size w (w.alloc (.cells #[.slice A n c] 29)) := (Below.refl _ _).alloc (Nat.le_refl _) _
  have HT := Lib.hid (heldNodes A c _ k0 n _ (h.below hbw) hl hk0)
  clear h
  go_enter Try.func49, Try.ntmps49
  go_wp2_with fail
  refine HT.out.mono ?_
  rintro e w1 ⟨rfl, rfl⟩
  clear HT
  go_wp2
  go_ret
  exact ⟨rfl, hbw⟩
end Go.Proofs.Ytoobkajilbmdhaa

namespace Go.Proofs.Ytoobkajilbmdhaa
open Go.RowKit
set_option linter.unusedVariables false

/-- Block b holds the field of a pool. -/
structure PB1 (w : World) (b : Nat) (v : Value) : Prop where
  c0 : w.cell? ⟨b, 0, none⟩ = some v
  f0 : w.frozen? ⟨b, 0, none⟩ = false
theorem PB1.made (w : World) (v : Value) (t : TypeId) : PB1 (w.alloc (.cells #[v] t)) w.heap.size v := ⟨by simp [go_sem], by simp [go_sem]⟩
/-- A pool's box. -/
def bxP (b : Nat) (v : Value) : It := ⟨b, b + 1, fun w => PB1 w b v, fun w w' hk h => by
  have e := hk b (Nat.le_refl _) (Nat.lt_succ_self _)
  exact ⟨(cell_at e).trans h.c0, (froz_at e).trans h.f0⟩⟩
/-- A row of nodes. -/
def rwN (B hi : Nat) (v : Value) (l : List Nd) : It := ⟨B, hi, fun w => OwnN w B v l ∧ Lies v B hi, fun w w' hk h => ⟨ownsRow_at h.1 h.2 hk, h.2⟩⟩
/-- Block b holds the fields of a pool that was handed back. -/
structure PO1 (w : World) (b : Nat) (v : Value) (root code : Int) : Prop where
  c0 : w.cell? ⟨b, 0, none⟩ = some v
  c1 : w.cell? ⟨b, 1, none⟩ = some (.int .i64 root)
  c2 : w.cell? ⟨b, 2, none⟩ = some (.int .i64 code)
theorem PO1.made (w : World) (v : Value) (root code : Int) (t : TypeId) : PO1 (w.alloc (.cells #[v, .int .i64 root, .int .i64 code] t)) w.heap.size v root code := ⟨by simp [go_sem], by simp [go_sem], by simp [go_sem]⟩
def bxPO (b : Nat) (v : Value) (root code : Int) : It := ⟨b, b + 1, fun w => PO1 w b v root code, fun w w' hk h => by
  have e := hk b (Nat.le_refl _) (Nat.lt_succ_self _)
  exact ⟨(cell_at e).trans h.c0, (cell_at e).trans h.c1, (cell_at e).trans h.c2⟩⟩
theorem OwnN.lies {w : World} {base : Nat} {v : Value} {l : List Nd} (h : OwnN w base v l) : Lies v base w.heap.size := World.ownsRow.lt h
theorem RN.below' {w w' : World} {A : Option Addr} {l : List Nd} (h : RN w w.heap.size A l) (hb : Below w.heap.size w w') : RN w' w'.heap.size A l := (h.below hb).mono hb.size
end Go.Proofs.Ytoobkajilbmdhaa

namespace Go.Proofs.Ytoobkajilbmdhaa
open Go.RowKit
set_option linter.unusedVariables false
set_option linter.unusedSimpArgs false

theorem S3.at_ {w w' : World} {q : Nat} {v v' : Value} {C : Int} (h : S3 w q v v' C) (e : w'.heap[q]? = w.heap[q]?) : S3 w' q v v' C := ⟨(cell_at e).trans h.c0, (cell_at e).trans h.c1, (cell_at e).trans h.c2, (froz_at e).trans h.f0, (froz_at e).trans h.f1, (froz_at e).trans h.f2⟩
theorem S3.made2 (w : World) (vM vD vM' vD' : Value) (C C' : Int) (t : TypeId) : S3 ((w.alloc (.cells #[vM, vD, .int .i64 C] t)).alloc (.cells #[vM', vD', .int .i64 C'] t)) w.heap.size vM vD C ∧ S3 ((w.alloc (.cells #[vM, vD, .int .i64 C] t)).alloc (.cells #[vM', vD', .int .i64 C'] t)) (w.heap.size + 1) vM' vD' C' :=
  ⟨⟨by simp [go_sem], by simp [go_sem], by simp [go_sem], by simp [go_sem], by simp [go_sem], by simp [go_sem]⟩, ⟨by simp [go_sem], by simp [go_sem], by simp [go_sem], by simp [go_sem], by simp [go_sem], by simp [go_sem]⟩⟩
/-- Where the own blocks of two slices lie, apart. -/
def ApS (vT vC : Value) : Prop := ∀ k, vT.ownBlock = some k → vC.ownBlock ≠ some k

set_option maxHeartbeats 400000 in
theorem eqSweepOut_any (C : Int) (A A' : Option Addr) (c c' : Nat) (D D' : Option Addr) (d d' : Nat) (T : List Nd) (L : List Int) (w : World) (h : RN w w.heap.size A T) (h' : RN w w.heap.size A' T) (k : RI w w.heap.size D L) (k' : RI w w.heap.size D' L) (hT : T.length ≤ 1000000000) (hL : L.length ≤ 1000000000) :
    Calls Try.prog 23 #[.agg #[.slice A T.length c, .slice D L.length d, .int .i64 C], .agg #[.slice A' T.length c', .slice D' L.length d', .int .i64 C]] w fun e w' => e = .returned (.bool true) ∧ Below w.heap.size w w' := by
  have H := Lib.hid h
  have H' := Lib.hid h'
  have K := Lib.hid k
  have K' := Lib.hid k'
  clear h h' k k'
  have hbw : Below w.heap.size w ((w.alloc (.cells #[.slice A T.length c, .slice D L.length d, .int .i64 C] 48)).alloc (.cells #[.slice A' T.length c', .slice D' L.length d', .int .i64 C] 48)) := ((Below.refl _ _).alloc (Nat.le_refl _) _).alloc (by simp) _
  have HB := Lib.hid hbw
  have HX := Lib.hid (S3.made2 w (.slice A T.length c) (.slice D L.length d) (.slice A' T.length c') (.slice D' L.length d') C C 48)
  have HT := Lib.hid (eqPool_any A A' c c' T _ (H.out.below' hbw) (H'.out.below' hbw) hT)
  clear hbw
  go_enter Try.func23, Try.ntmps23
  go_wp2_with fail
  refine HT.out.mono ?_
  rintro e w1 ⟨rfl, hb⟩
  have HB1 := Lib.hid (HB.out.trans (hb.mono HB.out.size))
  have HX1 := Lib.hid (And.intro (HX.out.1.at_ (hb.block _ (by simp; omega))) (HX.out.2.at_ (hb.block _ (by simp))))
  have hz : w.heap.size + 1 < w1.heap.size := by have := hb.size; simp at this; omega
  obtain ⟨⟨x0, x1, x2, _, _, _⟩, ⟨y0, y1, y2, _, _, _⟩⟩ := HX1.out
  clear HT hb HX
  go_wp2_with fail
  refine (eqInts D D' d d' w1.heap.size L w1 (K.out.below' HB1.out) (K'.out.below' HB1.out) hL).mono ?_
  rintro e w2 ⟨rfl, hs2⟩
  have hb2 := hs2.below w1.heap.size
  have HB2 := Lib.hid (HB1.out.trans (hb2.mono HB1.out.size))
  have HX2 := Lib.hid (And.intro (HX1.out.1.at_ (hb2.block _ (by omega))) (HX1.out.2.at_ (hb2.block _ hz)))
  clear hb2 hs2 x0 x1 x2 y0 y1 y2 HX1
  obtain ⟨⟨x0, x1, x2, _, _, _⟩, ⟨y0, y1, y2, _, _, _⟩⟩ := HX2.out
  go_wp2
  go_ret
  exact ⟨rfl, HB2.out⟩

set_option maxHeartbeats 400000 in
theorem markSweepOut_any (C : Int) (A : Option Addr) (c : Nat) (D : Option Addr) (d base lo hi k0 : Nat) (T : List Nd) (L : List Int) (w : World) (h : OwnN w base (.slice A T.length c) T) (k : OwnI 2 .i64 w base (.slice D L.length d) L) (ap : ApS (.slice A T.length c) (.slice D L.length d)) (l1 : Lies (.slice A T.length c) lo hi) (l2 : Lies (.slice D L.length d) lo hi) (hhi : hi ≤ w.heap.size) (hT : T.length ≤ 1000000) (hL : L.length ≤ 1000000) (hk0 : k0 ≤ 1000000) :
    Calls Try.prog 27 #[.agg #[.slice A T.length c, .slice D L.length d, .int .i64 C], .int .i64 k0] w fun e w' => e = .returned (.int .i64 ((k0 + 5 * T.length + L.length : Nat) : Int)) ∧ OwnN w' base (.slice A T.length c) (marksN k0 T.length) ∧ OwnI 2 .i64 w' base (.slice D L.length d) (marks (k0 + 5 * T.length) L.length) ∧ Only lo hi w w' ∧ ∀ k, k < w.heap.size → (Value.slice A T.length c).ownBlock ≠ some k → (Value.slice D L.length d).ownBlock ≠ some k → w'.heap[k]? = w.heap[k]? := by
  have HK : Hid (OwnI 2 .i64 (w.alloc (.cells #[.slice A T.length c, .slice D L.length d, .int .i64 C] 48)) base (.slice D L.length d) L) := OwnI.alloc k _
  have HT := Lib.hid (markPool_any A c base k0 T _ (h.alloc (.cells #[.slice A T.length c, .slice D L.length d, .int .i64 C] 48)) (by omega) (by omega))
  have HX := Lib.hid (S3.made w (.slice A T.length c) (.slice D L.length d) C 48)
  have HL1 := Lib.hid l1
  have HL2 := Lib.hid l2
  have HAP := Lib.hid ap
  have HLT := Lib.hid h.lt
  have HO0 : Hid (Only lo hi w (w.alloc (.cells #[.slice A T.length c, .slice D L.length d, .int .i64 C] 48))) := by
    have hb : Below w.heap.size w (w.alloc (.cells #[.slice A T.length c, .slice D L.length d, .int .i64 C] 48)) := (Below.refl _ _).alloc (Nat.le_refl _) _
    exact ⟨hb.os, hb.tape, hb.output, hb.size, fun k hk _ => hb.block k hk⟩
  clear h k ap l1 l2
  go_enter Try.func27, Try.ntmps27
  go_wp2_with fail
  refine HT.out.mono ?_
  rintro e w1 ⟨rfl, ho, hg⟩
  have hne : (Value.slice A T.length c).ownBlock ≠ some w.heap.size := fun e => by have := (HLT.out _ e).2; omega
  have HX1 := Lib.hid (HX.out.at_ (hg.block w.heap.size (by simp) (Ne.symm hne)))
  have HK1 : Hid (OwnI 2 .i64 w1 base (.slice D L.length d) L) := World.ownsRow.kept HK.out hg (by
    cases e : (Value.slice D L.length d).ownBlock with
    | none => exact .inl rfl
    | some k => exact .inr fun e' => HAP.out k e'.symm e)
  have HO1 := Lib.hid (HO0.out.trans (Only.grown hg HL1.out))
  have HKB : Hid (∀ k, k < w.heap.size → (Value.slice A T.length c).ownBlock ≠ some k → w1.heap[k]? = w.heap[k]?) := fun k hk h1 => (hg.block k (by simp; omega) (Ne.symm h1)).trans (((Below.refl w.heap.size w).alloc (Nat.le_refl _) _).block k hk)
  have HOT := Lib.hid ho
  have hz : w.heap.size < w1.heap.size := by have := hg.size; simp at this; omega
  obtain ⟨x0, x1, x2, _, _, _⟩ := HX1.out
  clear HT ho hg HX HK HO0 hne
  have HM := Lib.hid (markInts D d base (k0 + 5 * T.length) L w1 HK1.out (by omega) (by omega))
  go_wp2_with fail
  refine HM.out.mono ?_
  rintro e w2 ⟨rfl, ho2, hg2, _⟩
  have HO2 := Lib.hid (HO1.out.trans (Only.grown hg2 HL2.out))
  have HKC : Hid (∀ k, k < w.heap.size → (Value.slice A T.length c).ownBlock ≠ some k → (Value.slice D L.length d).ownBlock ≠ some k → w2.heap[k]? = w.heap[k]?) := fun k hk h1 h2 => (hg2.block k (by omega) (Ne.symm h2)).trans (HKB.out k hk h1)
  have HOC := Lib.hid ho2
  have HOT2 : Hid (OwnN w2 base (.slice A T.length c) (marksN k0 T.length)) := World.ownsRow.kept HOT.out hg2 (by
    cases e : (Value.slice A T.length c).ownBlock with
    | none => exact .inl rfl
    | some k => exact .inr fun e' => HAP.out k e e'.symm)
  clear ho2 hg2 x0 x1 x2 HM
  go_wp2
  go_ret
  exact ⟨rfl, HOT2.out, HOC.out, HO2.out, HKC.out⟩

set_option maxHeartbeats 400000 in
theorem heldSweepOut_any (C : Int) (A : Option Addr) (c : Nat) (D : Option Addr) (d k0 n m : Nat) (w : World) (h : RN w w.heap.size A (marksN k0 n)) (k : RI w w.heap.size D (marks (k0 + 5 * n) m)) (hn : n ≤ 1000000) (hm : m ≤ 1000000) (hk0 : k0 ≤ 1000000) :
    Calls Try.prog 28 #[.agg #[.slice A n c, .slice D m d, .int .i64 C], .int .i64 k0] w fun e w' => e = .returned (.int .i64 ((k0 + 5 * n + m : Nat) : Int)) ∧ Below w.heap.size w w' := by
  have hbw : Below w.heap.size w (w.alloc (.cells #[.slice A n c, .slice D m d, .int .i64 C] 48)) := (Below.refl _ _).alloc (Nat.le_refl _) _
  have HT := Lib.hid (heldPool_any A c k0 n _ (h.below' hbw) (by omega) (by omega))
  have HX := Lib.hid (S3.made w (.slice A n c) (.slice D m d) C 48)
  have HB := Lib.hid hbw
  have K := Lib.hid k
  clear h k
  have hlt : (0 : Int) ≤ ((k0 + 5 * n : Nat) : Int) := by omega
  have hlt2 : (0 : Int) ≤ ((k0 + 5 * n + m : Nat) : Int) := by omega
  go_enter Try.func28, Try.ntmps28
  go_wp2_with fail
  refine HT.out.mono ?_
  rintro e w1 ⟨rfl, hb⟩
  have HB1 := Lib.hid (HB.out.trans (hb.mono HB.out.size))
  have HX1 := Lib.hid (HX.out.at_ (hb.block _ (by simp)))
  obtain ⟨x0, x1, x2, _, _, _⟩ := HX1.out
  clear HT hb HX hbw
  have HM := Lib.hid (heldInts D d w1.heap.size (k0 + 5 * n) m w1 (K.out.below' HB1.out) (by omega) (by omega))
  go_wp2_with fail
  refine HM.out.mono ?_
  rintro e w2 ⟨rfl, rfl⟩
  clear HM
  go_wp2
  go_ret
  exact ⟨rfl, HB1.out⟩

/-- An answer in its box q, with its two rows, all between B and hi. -/
structure SA (w : World) (B hi q : Nat) (C : Int) (vT vC : Value) (T : List Nd) (L : List Int) : Prop where
  m : S3 w q vT vC C
  oT : OwnN w B vT T
  oC : OwnI 2 .i64 w B vC L
  lT : Lies vT B hi
  lC : Lies vC B hi
  hq : B ≤ q ∧ q < hi
  aT : vT.ownBlock ≠ some q
  aC : vC.ownBlock ≠ some q
  ap : ApS vT vC
def itS (B hi q : Nat) (C : Int) (vT vC : Value) (T : List Nd) (L : List Int) : It := ⟨B, hi, fun w => SA w B hi q C vT vC T L, fun w w' hk h =>
  ⟨h.m.at_ (hk q h.hq.1 h.hq.2), ownsRow_at h.oT h.lT hk, ownsRow_at h.oC h.lC hk, h.lT, h.lC, h.hq, h.aT, h.aC, h.ap⟩⟩
theorem SA.marked {w w' : World} {B hi q : Nat} {C : Int} {vT vC : Value} {T T' : List Nd} {L L' : List Int} (h : SA w B hi q C vT vC T L) (hq : w'.heap[q]? = w.heap[q]?) (oT : OwnN w' B vT T') (oC : OwnI 2 .i64 w' B vC L') : SA w' B hi q C vT vC T' L' :=
  ⟨h.m.at_ hq, oT, oC, h.lT, h.lC, h.hq, h.aT, h.aC, h.ap⟩
theorem SA.new {w0 w1 : World} {B : Nat} {C : Int} {vT vC : Value} {T : List Nd} {L : List Int} (h1 : OwnN w1 w0.heap.size vT T) (h2 : OwnI 2 .i64 w1 w0.heap.size vC L) (ap : ApS vT vC) (hB : B ≤ w0.heap.size) (hz : w0.heap.size ≤ w1.heap.size) :
    SA (w1.alloc (.cells #[vT, vC, .int .i64 C] 48)) B (w1.alloc (.cells #[vT, vC, .int .i64 C] 48)).heap.size w1.heap.size C vT vC T L := by
  have l1 := h1.lt
  have l2 := World.ownsRow.lt h2
  refine ⟨S3.made _ _ _ _ _, OwnN.lower hB (h1.alloc _), OwnI.lower hB (OwnI.alloc h2 _), fun k hk => ?_, fun k hk => ?_, ⟨by omega, by simp⟩, fun e => ?_, fun e => ?_, ap⟩
  · have := l1 k hk; simp; omega
  · have := l2 k hk; simp; omega
  · have := (l1 _ e).2; omega
  · have := (l2 _ e).2; omega
theorem toI_b (A : Option Addr) (c : Nat) (l : List Int) (w : World) (h : RI w w.heap.size A l) (hl : l.length ≤ 1000000000) :
    Calls Try.prog 21 #[.slice A l.length c] w fun e w' => ∃ g, e = .returned (.slice (some ⟨g, 0, none⟩) l.length l.length) ∧ OwnI 2 .i64 w' w.heap.size (.slice (some ⟨g, 0, none⟩) l.length l.length) l ∧ Below w.heap.size w w' :=
  (toInts A c l w h hl).mono fun _ _ h => ⟨w.heap.size, h.1, h.2.1, h.2.2⟩
theorem eqI_b (A A' : Option Addr) (c c' : Nat) (l : List Int) (w : World) (h : RI w w.heap.size A l) (h' : RI w w.heap.size A' l) (hl : l.length ≤ 1000000000) :
    Calls Try.prog 24 #[.slice A l.length c, .slice A' l.length c'] w fun e w' => e = .returned (.bool true) ∧ Below w.heap.size w w' :=
  (eqInts A A' c c' w.heap.size l w h h' hl).mono fun _ _ h => ⟨h.1, h.2.below _⟩
end Go.Proofs.Ytoobkajilbmdhaa

namespace Go.Proofs.Ytoobkajilbmdhaa
open Go.ChangeShapes Go.WideShapes Go.ChangeAt Go.RowKit Go.Joins Go.Deep
set_option linter.unusedVariables false

set_option maxRecDepth 100000 in
theorem openI64s {H : Type} {enc : TypeId × Value → H} {W : World} {r : Reach} {b0 base : Nat} {v : Value} {d : DataW H} {p : List MemPlace}
    (hv : Value.okWide Try.prog W r b0 33 v) (h : DataW.Trod enc Try.prog W base (fun _ => true) true 33 v d p) :
    ∃ (a : Option Addr) (cap : Nat) (l : List Int), v = .slice a l.length cap ∧ RI W W.heap.size a l ∧ l.length ≤ maxLen := by
  obtain ⟨a0, len0, cap0, rfl⟩ := okWide_slice Try.underlying33 hv
  obtain ⟨fuel, hf⟩ := h
  rcases open_ints Try.underlying33 Try.underlying2 (by kernel_rfl) hf with ⟨hcs, _⟩ | ⟨x, l, c, zs, hcs, _, hl, hm, hz, _, hcell, hwz⟩
  · simp [Value.cells] at hcs
    obtain ⟨rfl, rfl, rfl⟩ := hcs
    exact ⟨none, 0, [], rfl, .inl rfl, by simp⟩
  · simp [Value.cells] at hcs
    obtain ⟨rfl, rfl, rfl⟩ := hcs
    have hzl : zs.length = cap0 := by simpa using hz
    refine ⟨some x, cap0, zs.take len0, by rw [List.length_take, Nat.min_eq_left (by omega)], ?_, by rw [List.length_take]; omega⟩
    by_cases h0 : len0 = 0
    · left; subst h0; rfl
    · right
      have h00 := hcell 0 (by omega)
      obtain ⟨b, off, spot⟩ := x
      have hs : spot = none := by simpa [Addr.add] using World.cell?_spot h00
      subst hs
      have hb := World.block_lt_of_cell? W _ h00
      refine ⟨b, off, rfl, by simpa [Addr.add] using hb, fun j hj => ?_⟩
      rw [List.length_take] at hj
      have e : (⟨b, off, none⟩ : Addr).add j = ⟨b, off + j, none⟩ := by unfold Addr.add; split <;> simp_all
      have := hcell j (by omega)
      rw [e] at this
      rw [this]
      simp [List.getD, show j < zs.length by omega]
end Go.Proofs.Ytoobkajilbmdhaa

namespace Go.Proofs.Ytoobkajilbmdhaa
open Go.ChangeShapes Go.WideShapes Go.ChangeAt Go.RowKit Go.Joins Go.Deep
set_option linter.unusedVariables false

theorem cells_lnode : Try.prog.cellsOf 80 = 5 := by kernel_rfl
theorem cells_lpool : Try.prog.cellsOf 24 = 1 := by kernel_rfl
theorem cells_lnodes : Try.prog.cellsOf 22 = 1 := by kernel_rfl
theorem array1 {α : Type} {cs : Array α} (h : cs.size = 1) : ∃ c0, cs = #[c0] := by
  obtain ⟨l⟩ := cs
  match l, h with
  | [c0], _ => exact ⟨c0, rfl⟩
theorem list5 {α : Type} {cs : List α} (h : cs.length = 5) : ∃ c0 c1 c2 c3 c4, cs = [c0, c1, c2, c3, c4] := by
  match cs, h with
  | [c0, c1, c2, c3, c4], _ => exact ⟨c0, c1, c2, c3, c4, rfl⟩

theorem trod_struct5 {H : Type} {enc : TypeId × Value → H} {P : Program} {w : World} {base : Nat} {spare : Nat → Bool} {held : Bool} {t : TypeId} {f0 f1 f2 f3 f4 : Field} {fuel : Nat} {cs : List Value} {x : DataW H × List MemPlace} (ht : P.underlying t = some (.struct #[f0, f1, f2, f3, f4])) (h : DataW.trod enc P w base spare held fuel t cs = some x) :
    ∃ y0 y1 y2 y3 y4 n, cs.length = P.cellsOf t ∧ DataW.trod enc P w base spare held n f0.type ((cs.drop f0.offset).take (P.cellsOf f0.type)) = some y0 ∧
      DataW.trod enc P w base spare held n f1.type ((cs.drop f1.offset).take (P.cellsOf f1.type)) = some y1 ∧ DataW.trod enc P w base spare held n f2.type ((cs.drop f2.offset).take (P.cellsOf f2.type)) = some y2 ∧
      DataW.trod enc P w base spare held n f3.type ((cs.drop f3.offset).take (P.cellsOf f3.type)) = some y3 ∧ DataW.trod enc P w base spare held n f4.type ((cs.drop f4.offset).take (P.cellsOf f4.type)) = some y4 := by
  obtain ⟨xs, n, _, rfl, hl, hlen, hf⟩ := DataW.trod_struct ht h
  match xs, hlen with
  | [y0, y1, y2, y3, y4], _ => exact ⟨y0, y1, y2, y3, y4, n, hl, by simpa using hf 0 f0 rfl, by simpa using hf 1 f1 rfl, by simpa using hf 2 f2 rfl, by simpa using hf 3 f3 rfl, by simpa using hf 4 f4 rfl⟩
theorem trod_struct1 {H : Type} {enc : TypeId × Value → H} {P : Program} {w : World} {base : Nat} {spare : Nat → Bool} {held : Bool} {t : TypeId} {f0 : Field} {fuel : Nat} {cs : List Value} {x : DataW H × List MemPlace} (ht : P.underlying t = some (.struct #[f0])) (h : DataW.trod enc P w base spare held fuel t cs = some x) :
    ∃ y0 n, DataW.trod enc P w base spare held n f0.type ((cs.drop f0.offset).take (P.cellsOf f0.type)) = some y0 := by
  obtain ⟨xs, n, _, rfl, hl, hlen, hf⟩ := DataW.trod_struct ht h
  match xs, hlen with
  | [y0], _ => exact ⟨y0, n, by simpa using hf 0 f0 rfl⟩

/-- One node's cells, read. -/
theorem open_node {H : Type} {enc : TypeId × Value → H} {W : World} {base fuel : Nat} {sp : Nat → Bool} {held : Bool} {cs : List Value} {x : DataW H × List MemPlace}
    (h : DataW.trod enc Try.prog W base sp held fuel 80 cs = some x) :
    ∃ n : Nd, cs = [.int .i64 n.tile, .int .i64 n.a, .int .i64 n.b, .int .i64 n.c, .int .i64 n.d] ∧ n.Fits := by
  obtain ⟨y0, y1, y2, y3, y4, n, hl, h0, h1, h2, h3, h4⟩ := trod_struct5 Try.underlying80 h
  rw [cells_lnode] at hl
  obtain ⟨c0, c1, c2, c3, c4, rfl⟩ := list5 hl
  simp only [cells_int] at h0 h1 h2 h3 h4
  obtain ⟨z0, q0, _, w0⟩ := DataW.trod_int Try.underlying2 h0
  obtain ⟨z1, q1, _, w1⟩ := DataW.trod_int Try.underlying2 h1
  obtain ⟨z2, q2, _, w2⟩ := DataW.trod_int Try.underlying2 h2
  obtain ⟨z3, q3, _, w3⟩ := DataW.trod_int Try.underlying2 h3
  obtain ⟨z4, q4, _, w4⟩ := DataW.trod_int Try.underlying2 h4
  simp at q0 q1 q2 q3 q4
  subst q0 q1 q2 q3 q4
  exact ⟨⟨z0, z1, z2, z3, z4⟩, rfl, w0, w1, w2, w3, w4⟩

set_option maxRecDepth 100000 in
theorem open_pool {H : Type} {enc : TypeId × Value → H} {W : World} {r : Reach} {b0 base : Nat} {v : Value} {d : DataW H} {p : List MemPlace}
    (hv : Value.okWide Try.prog W r b0 24 v) (h : DataW.Trod enc Try.prog W base (fun _ => true) true 24 v d p) :
    ∃ (a : Option Addr) (cap : Nat) (l : List Nd), v = .agg #[.slice a l.length cap] ∧ RN W W.heap.size a l ∧ l.length ≤ maxLen ∧ ∀ n ∈ l, n.Fits := by
  obtain ⟨cs, rfl, hsz⟩ := okWide_struct Try.underlying24 hv
  obtain ⟨c0, rfl⟩ := array1 (hsz.trans cells_lpool)
  obtain ⟨fuel, hf⟩ := h
  obtain ⟨y0, n, h0⟩ := trod_struct1 Try.underlying24 hf
  simp only [cells_lnodes] at h0
  simp [Value.cells] at h0
  rcases open_slice Try.underlying22 h0 with ⟨hcs, _⟩ | ⟨a, len, cap, m, k, D, Pl, hcs, _, hl, hm, hmm, _, hel⟩
  · simp at hcs
    subst hcs
    exact ⟨none, 0, [], rfl, .inl rfl, by simp, by simp⟩
  · simp at hcs
    subst hcs
    simp only [if_true] at hmm
    subst hmm
    have hn : ∀ i, i < len → ∃ n : Nd, n.Fits ∧ ∀ j, j < 5 → W.cell? (a.add (i * 5 + j)) = (n.val.cells.toList)[j]? := by
      intro i hi
      obtain ⟨cs', h1, h2⟩ := hel i (by omega)
      obtain ⟨n, rfl, hw⟩ := open_node h2
      refine ⟨n, hw, fun j hj => ?_⟩
      rw [cells_lnode] at h1
      have hc := (World.cells?_some h1).2.2 j hj
      rw [add_add] at hc
      rw [hc]
      simp [Nd.val, Value.cells]
    haveI : Inhabited Nd := ⟨⟨0, 0, 0, 0, 0⟩⟩
    obtain ⟨f, hfn⟩ := choose_lt hn
    refine ⟨some a, m, (List.range len).map f, by simp, ?_, by simp; omega, fun n hn => ?_⟩
    · by_cases hz : len = 0
      · left; subst hz; rfl
      · right
        have h00 := (hfn 0 (by omega)).2 0 (by omega)
        simp [Nd.val, Value.cells] at h00
        obtain ⟨b, off, spot⟩ := a
        have hs : spot = none := by simpa [Addr.add] using World.cell?_spot h00
        subst hs
        have hb := World.block_lt_of_cell? W _ h00
        refine ⟨b, off, rfl, by simpa [Addr.add] using hb, fun j hj => ?_⟩
        simp at hj
        have e : ∀ i, (⟨b, off, none⟩ : Addr).add i = ⟨b, off + i, none⟩ := fun i => by unfold Addr.add; split <;> simp_all
        have hj' := (hfn j hj).2
        simp only [e, ← Nat.add_assoc] at hj'
        simp only [List.getElem_map, List.getElem_range]
        exact ⟨hj' 0 (by omega), hj' 1 (by omega), hj' 2 (by omega), hj' 3 (by omega), hj' 4 (by omega)⟩
    · obtain ⟨i, hi, rfl⟩ := List.mem_map.1 hn
      exact (hfn i (by simpa using hi)).1
end Go.Proofs.Ytoobkajilbmdhaa
