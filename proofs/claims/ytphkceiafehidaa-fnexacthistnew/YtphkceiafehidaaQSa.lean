/- Several texts in one: BrL, BrT, BrH, BrO, BrM, NodeX, VeL, HiW, HiX, HiM, HiY, HiR, ItHi, HiN, HiP, HiQ. -/
import Derived.Test.YtphkceiafehidaaGridL
import Derived.BigQuiet
import Derived.BigRegion
import Derived.Deep.Onto
import Derived.Deep.RegionWith
import Derived.Deep.RegionLaw
import Derived.Deep.RegionHeld3
import Derived.Deep.CutRange
import Derived.Test.YtphkceiafehidaaGridN
import Derived.Test.YtphkceiafehidaaNodeW
import Derived.Test.YtphkceiafehidaaPutMm
import Derived.Test.YtphkceiafehidaaChL
import Derived.Test.YtphkceiafehidaaItems
import Derived.Test.YtphkceiafehidaaGridM
namespace Go.Proofs.Ytphkceiafehidaa
open Go.RowKit
set_option linter.unusedVariables false
set_option linter.unusedSimpArgs false

structure Br where
  name : ByteArray
  at_ : Int
  redo : List Int
/-- Three cells that hold a branch. -/
structure BrAt (w : World) (b o : Nat) (n : Br) (A : Option Addr) (c : Nat) : Prop where
  c0 : w.cell? ⟨b, o, none⟩ = some (.string n.name)
  c1 : w.cell? ⟨b, o + 1, none⟩ = some (.int .i64 n.at_)
  c2 : w.cell? ⟨b, o + 2, none⟩ = some (.slice A n.redo.length c)
theorem BrAt.keep {w w' : World} {b o : Nat} {n : Br} {A : Option Addr} {c : Nat} (h : BrAt w b o n A c) (hc : w'.heap[b]? = w.heap[b]?) : BrAt w' b o n A c :=
  ⟨(World.cell?_of_block (a := ⟨b, o, none⟩) hc).trans h.c0, (World.cell?_of_block (a := ⟨b, o + 1, none⟩) hc).trans h.c1, (World.cell?_of_block (a := ⟨b, o + 2, none⟩) hc).trans h.c2⟩
/-- A list of branches that can be read, below B. -/
def RBr (w : World) (B : Nat) (A : Option Addr) (l : List Br) : Prop := l = [] ∨ ∃ b off, A = some ⟨b, off, none⟩ ∧ b < B ∧ ∀ j (h : j < l.length), ∃ Ar cr, BrAt w b (off + j * 3) l[j] Ar cr ∧ RI w B Ar l[j].redo
theorem RBr.below {w w' : World} {B : Nat} {A : Option Addr} {l : List Br} (h : RBr w B A l) (hb : Below B w w') : RBr w' B A l := by
  rcases h with h | ⟨b, off, rfl, hB, hc⟩
  · exact .inl h
  · refine .inr ⟨b, off, rfl, hB, fun j hj => ?_⟩
    obtain ⟨Ar, cr, h1, h2⟩ := hc j hj
    exact ⟨Ar, cr, h1.keep (hb.block b hB), h2.below hb⟩
theorem RBr.mono {w : World} {B B' : Nat} {A : Option Addr} {l : List Br} (h : RBr w B A l) (hB : B ≤ B') : RBr w B' A l := by
  rcases h with h | ⟨b, off, rfl, hb, hc⟩
  · exact .inl h
  · refine .inr ⟨b, off, rfl, by omega, fun j hj => ?_⟩
    obtain ⟨Ar, cr, h1, h2⟩ := hc j hj
    exact ⟨Ar, cr, h1, h2.mono hB⟩
theorem RBr.at_ {w : World} {B j : Nat} {A : Option Addr} {l : List Br} (h : RBr w B A l) (hj : j < l.length) : ∃ b off, A = some ⟨b, off, none⟩ ∧ b < B ∧ ∃ Ar cr, BrAt w b (off + j * 3) l[j] Ar cr ∧ RI w B Ar l[j].redo := by
  rcases h with h | ⟨b, off, e, hb, hc⟩
  · rw [h] at hj; simp at hj
  · exact ⟨b, off, e, hb, hc j hj⟩

set_option maxRecDepth 100000 in
set_option maxHeartbeats 1000000 in
theorem eqBranch_any (t : ByteArray) (at_ : Int) (A A' : Option Addr) (c c' : Nat) (l : List Int) (w : World) (h : RI w w.heap.size A l) (h' : RI w w.heap.size A' l) (hl : l.length ≤ 1000000000) :
    Calls Try.prog 110 #[.agg #[.string t, .int .i64 at_, .slice A l.length c], .agg #[.string t, .int .i64 at_, .slice A' l.length c']] w fun e w' => e = .returned (.bool true) ∧ Below w.heap.size w w' := by
  have H := Lib.hid h
  have H' := Lib.hid h'
  clear h h'
  have hbw : Below w.heap.size w ((w.alloc (.cells #[.string t, .int .i64 at_, .slice A l.length c] 98)).alloc (.cells #[.string t, .int .i64 at_, .slice A' l.length c'] 98)) := ((Below.refl _ _).alloc (Nat.le_refl _) _).alloc (by simp) _
  have HT := Lib.hid (eqInts A A' c c' _ l _ (H.out.below hbw) (H'.out.below hbw) hl)
  have HB := Lib.hid hbw
  clear hbw
  go_enter Try.func110, Try.ntmps110
  go_wp2_with fail
  refine HT.out.mono ?_
  rintro e w1 ⟨rfl, hs⟩
  have HB2 := Lib.hid (HB.out.trans (hs.below _))
  clear HT hs
  go_wp2
  go_ret
  exact ⟨rfl, HB2.out⟩

set_option maxRecDepth 100000 in
set_option maxHeartbeats 2000000 in
theorem eqBrs (A A' : Option Addr) (c c' : Nat) (l : List Br) (w : World) (h : RBr w w.heap.size A l) (h' : RBr w w.heap.size A' l) (hl : l.length ≤ 1000000000) (hr : ∀ n ∈ l, n.redo.length ≤ 1000000000) :
    Calls Try.prog 88 #[.slice A l.length c, .slice A' l.length c'] w fun e w' => e = .returned (.bool true) ∧ Below w.heap.size w w' := by
  have H := Lib.hid h
  have H' := Lib.hid h'
  have HR := Lib.hid hr
  clear h h' hr
  go_enter Try.func88, Try.ntmps88
  go_wp2
  go_loopw [5] (fun i wr => ∃ k : Nat, i = .int .i64 k ∧ k ≤ l.length ∧ Hid (Below w.heap.size w wr)) (fun i _ => l.length - (intOf i).toNat)
  case atStart => exact ⟨0, rfl, Nat.zero_le _, Below.refl _ _⟩
  case round =>
    obtain ⟨k, rfl, hk, HB⟩ := hrel
    by_cases hlt : k < l.length
    · obtain ⟨b1, o1, rfl, hb1, A1, c1, hc1, hi1⟩ := H.out.at_ hlt
      obtain ⟨b2, o2, rfl, hb2, A2, c2, hc2, hi2⟩ := H'.out.at_ hlt
      have hkI : (k : Int) < (l.length : Int) := by omega
      have hrl := HR.out _ (List.getElem_mem hlt)
      have HC : Hid (∀ V, Below w.heap.size w V → BrAt V b1 (o1 + k * 3) l[k] A1 c1 ∧ BrAt V b2 (o2 + k * 3) l[k] A2 c2 ∧ RI V V.heap.size A1 l[k].redo ∧ RI V V.heap.size A2 l[k].redo) := fun V hb => ⟨hc1.keep (hb.block b1 hb1), hc2.keep (hb.block b2 hb2), (hi1.below hb).mono hb.size, (hi2.below hb).mono hb.size⟩
      clear hc1 hc2 hi1 hi2
      generalize l[k] = x at HC hrl
      obtain ⟨t, at_, redo⟩ := x
      simp only at HC hrl
      go_upto_region 6 with fail
      have q0 := HB.out.drew
      have hkeep := (show _ ∧ _ ∧ _ ∧ _ ∧ _ ∧ _ from ⟨(HC.out _ q0).1.c0, (HC.out _ q0).1.c1, (HC.out _ q0).1.c2, (HC.out _ q0).2.1.c0, (HC.out _ q0).2.1.c1, (HC.out _ q0).2.1.c2⟩)
      go_region_held3 (fun w' => w'.cell? ⟨b1, o1 + k * 3, none⟩ = some (.string t) ∧ w'.cell? ⟨b1, o1 + k * 3 + 1, none⟩ = some (.int .i64 at_) ∧ w'.cell? ⟨b1, o1 + k * 3 + 2, none⟩ = some (.slice A1 redo.length c1) ∧ w'.cell? ⟨b2, o2 + k * 3, none⟩ = some (.string t) ∧ w'.cell? ⟨b2, o2 + k * 3 + 1, none⟩ = some (.int .i64 at_) ∧ w'.cell? ⟨b2, o2 + k * 3 + 2, none⟩ = some (.slice A2 redo.length c2))
        (first | (with_reducible exact hkeep) | go_keep)
        (first | (go_at_call 110; refine (eqBranch_any t at_ A1 A2 c1 c2 redo _ (HC.out _ q0).2.2.1 (HC.out _ q0).2.2.2 hrl).mono ?_; rintro e v1 ⟨rfl, hb⟩; have q1 := q0.trans (hb.mono q0.size); clear hkeep; have hkeep := (show _ ∧ _ ∧ _ ∧ _ ∧ _ ∧ _ from ⟨(HC.out _ q1).1.c0, (HC.out _ q1).1.c1, (HC.out _ q1).1.c2, (HC.out _ q1).2.1.c0, (HC.out _ q1).2.1.c1, (HC.out _ q1).2.1.c2⟩); clear hb))
      all_goals
        have Q1 := Lib.hid q1
        clear hkeep q0 q1 HC
        go_wp2_with fail
        go_roundw
        case rel => exact ⟨k + 1, by go_num, by omega, Q1.out⟩
        case measure => simp [intOf] <;> omega
    · go_wp2
      go_ret
      exact ⟨rfl, HB.out⟩
end Go.Proofs.Ytphkceiafehidaa

namespace Go.Proofs.Ytphkceiafehidaa
open Go.RowKit
set_option linter.unusedVariables false
set_option linter.unusedSimpArgs false

/-- The digits of k ahead of a text; f: at most so many. -/
def decT : Nat → Nat → ByteArray → ByteArray
  | 0, _, o => o
  | f + 1, k, o => if k = 0 then o else decT f (k / 10) (strOfNums [48 + ((k % 10 : Nat) : Int)] ++ o)
theorem decT_zero (f : Nat) (o : ByteArray) : decT f 0 o = o := by
  cases f <;> simp [decT]
/-- A mark. -/
def markT (k : Nat) : ByteArray := ⟨#[109]⟩ ++ decT 11 k ⟨#[]⟩

set_option maxRecDepth 100000 in
set_option maxHeartbeats 1000000 in
theorem markText_any (k : Nat) (w : World) (hk0 : 0 < k) (hk : k ≤ 10000000000) :
    Calls Try.prog 112 #[.int .i64 k] w fun e w' => e = .returned (.string (markT k)) ∧ Below w.heap.size w w' := by
  have hcv : ∀ (W : World) (x : Int), (convert 22 9 (.slice (some ⟨W.heap.size, 0, none⟩) 1 1)).run Try.prog (W.alloc (.cells #[.int .u8 x] 5)) = .ok (.string (strOfNums [x])) (W.alloc (.cells #[.int .u8 x] 5)) := fun W x => OwnI.string (OwnI.lit (e := 5) (k := .u8) (w := W) (base := 0) [x] (Nat.zero_le _) (by unfold maxLen; simp)) Try.underlying22 Try.underlying5 Try.underlying9
  have hso : ∀ x, (strOfNums [x]).size = 1 := fun x => strOfNums_size [x]
  have hkI : ¬ (k : Int) ≤ 0 := by omega
  go_enter Try.func112, Try.ntmps112
  go_wp2_with fail
  go_loopw [0, 3] (fun n v wr => ∃ (j f : Nat) (o : ByteArray), n = .int .i64 j ∧ v = .string o ∧ Hid (j < 10 ^ f ∧ o.size + f ≤ 11 ∧ decT f j o = decT 11 k ⟨#[]⟩) ∧ j ≤ 10000000000 ∧ Hid (Below w.heap.size w wr)) (fun n _ _ => (intOf n).toNat)
  case atStart => exact ⟨k, 11, _, rfl, rfl, ⟨by omega, by simp [ByteArray.size], rfl⟩, hk, Below.refl _ _⟩
  case round =>
    obtain ⟨j, f, o, rfl, rfl, HJ, hj, HB⟩ := hrel
    by_cases hpos : 0 < j
    · have hjI : (0 : Int) < (j : Int) := by omega
      have hq : (j : Int).tmod 10 = ((j % 10 : Nat) : Int) := by rw [Int.tmod_eq_emod_of_nonneg (by omega)]; omega
      have hd : (j : Int).tdiv 10 = ((j / 10 : Nat) : Int) := by rw [Int.tdiv_eq_ediv_of_nonneg (by omega)]; omega
      have HN : Hid (∃ f', j / 10 < 10 ^ f' ∧ (strOfNums [48 + ((j % 10 : Nat) : Int)] ++ o).size + f' ≤ 11 ∧ decT f' (j / 10) (strOfNums [48 + ((j % 10 : Nat) : Int)] ++ o) = decT 11 k ⟨#[]⟩) := by
        obtain ⟨h1, h2, h3⟩ := HJ.out
        cases f with
        | zero => simp at h1; omega
        | succ f' =>
          refine ⟨f', ?_, ?_, ?_⟩
          · rw [Nat.pow_succ] at h1
            omega
          · simp [hso]; omega
          · rw [← h3]
            simp only [decT]
            rw [if_neg (by omega)]
      have hos : ¬ 9223372036854775807 < 1 + o.size := by have := HJ.out.2.1; omega
      have hlt : j / 10 < j := by omega
      obtain ⟨m, hm⟩ : ∃ m, m = j % 10 := ⟨_, rfl⟩
      obtain ⟨d, hdd⟩ : ∃ d, d = j / 10 := ⟨_, rfl⟩
      have hm10 : m < 10 := by omega
      rw [← hm] at hq HN
      rw [← hdd] at hd HN hlt
      have hw1 : IntKind.i64.wrap (48 + (m : Int)) = 48 + (m : Int) := IntWalk.i64_in _ (by omega)
      have hw2 : IntKind.u8.wrap (48 + (m : Int)) = 48 + (m : Int) := by
        simp [IntKind.wrap, IntKind.bits, IntKind.signed, IntKind.min, IntKind.max] <;> omega
      have hwd : IntKind.i64.wrap (d : Int) = (d : Int) := IntWalk.i64_in _ (by omega)
      have hwm : IntKind.i64.wrap (m : Int) = (m : Int) := IntWalk.i64_in _ (by omega)
      clear hm hdd
      go_wp2_with fail
      go_roundw
      case rel =>
        obtain ⟨f', h⟩ := HN.out
        exact ⟨d, f', _, rfl, rfl, h, by omega, HB.out.alloc HB.out.size _⟩
      case measure => simp [intOf] <;> omega
    · obtain rfl : j = 0 := by omega
      have HE : Hid (o = decT 11 k ⟨#[]⟩) := by
        have := HJ.out.2.2
        rw [decT_zero] at this
        exact this
      have hos : ¬ 9223372036854775807 < 1 + o.size := by have := HJ.out.2.1; omega
      go_wp2_with fail
      go_ret
      exact ⟨by rw [HE.out]; rfl, HB.out⟩
end Go.Proofs.Ytphkceiafehidaa

namespace Go.Proofs.Ytphkceiafehidaa
open Go.RowKit
set_option linter.unusedVariables false
set_option linter.unusedSimpArgs false

/-- The number that branch i's mark begins with, lists of ns numbers in the branches. -/
def kAt (k0 : Nat) (ns : List Nat) (i : Nat) : Nat := k0 + ((ns.take i).map (· + 2)).sum
theorem kAt_succ {k0 : Nat} {ns : List Nat} {i : Nat} (h : i < ns.length) : kAt k0 ns (i + 1) = kAt k0 ns i + (ns[i] + 2) := by
  unfold kAt
  rw [List.take_succ_eq_append_getElem h, List.map_append, List.sum_append]
  simp
  omega
theorem kAt_mono {k0 : Nat} {ns : List Nat} : ∀ {j i : Nat}, i ≤ j → j ≤ ns.length → kAt k0 ns i ≤ kAt k0 ns j
  | 0, i, h, _ => by obtain rfl : i = 0 := by omega
                     exact Nat.le_refl _
  | j + 1, i, h, hj => by
    by_cases e : i = j + 1
    · rw [e]; exact Nat.le_refl _
    · have h1 := kAt_mono (k0 := k0) (ns := ns) (show i ≤ j by omega) (by omega)
      have h2 := kAt_succ (k0 := k0) (ns := ns) (show j < ns.length by omega)
      omega
def marksBr (k0 : Nat) (ns : List Nat) : List Br := (List.range ns.length).map fun i => ⟨markT (kAt k0 ns i), (kAt k0 ns i : Int) + 1, marks (kAt k0 ns i + 2) (ns.getD i 0)⟩
theorem marksBr_length (k0 : Nat) (ns : List Nat) : (marksBr k0 ns).length = ns.length := by simp [marksBr]
theorem marksBr_get (k0 : Nat) (ns : List Nat) (i : Nat) (h : i < (marksBr k0 ns).length) (h' : i < ns.length) : (marksBr k0 ns)[i] = ⟨markT (kAt k0 ns i), (kAt k0 ns i : Int) + 1, marks (kAt k0 ns i + 2) ns[i]⟩ := by
  simp [marksBr, List.getD, h']

set_option maxRecDepth 100000 in
set_option maxHeartbeats 2000000 in
theorem heldBrs (A : Option Addr) (c k0 : Nat) (ns : List Nat) (w : World) (h : RBr w w.heap.size A (marksBr k0 ns)) (hk0 : 0 < k0) (hk : kAt k0 ns ns.length ≤ 1000000) (hl : ns.length ≤ 1000000) :
    Calls Try.prog 95 #[.slice A ns.length c, .int .i64 k0] w fun e w' => e = .returned (.int .i64 (kAt k0 ns ns.length : Nat)) ∧ Below w.heap.size w w' := by
  have H := Lib.hid h
  clear h
  have HK := Lib.hid hk
  clear hk
  go_enter Try.func95, Try.ntmps95
  go_wp2
  go_loopw [1, 5] (fun k i wr => ∃ j K : Nat, i = .int .i64 j ∧ k = .int .i64 K ∧ Hid (K = kAt k0 ns j) ∧ j ≤ ns.length ∧ Hid (Below w.heap.size w wr)) (fun _ i _ => ns.length - (intOf i).toNat)
  case atStart => exact ⟨0, k0, rfl, rfl, by show _ = _; simp [kAt], Nat.zero_le _, Below.refl _ _⟩
  case round =>
    obtain ⟨j, K, rfl, rfl, HE, hj, HB⟩ := hrel
    by_cases hlt : j < ns.length
    · have hjI : (j : Int) < (ns.length : Int) := by omega
      have hlt' : j < (marksBr k0 ns).length := by rw [marksBr_length]; exact hlt
      obtain ⟨b, o, rfl, hb1, Ar, cr, hc1, hi1⟩ := H.out.at_ hlt'
      rw [marksBr_get k0 ns j hlt' hlt, ← HE.out] at hc1 hi1
      have hKN : K + (ns[j] + 2) ≤ 1000000 := by
        have h1 := kAt_succ (k0 := k0) hlt
        have h2 := kAt_mono (k0 := k0) (ns := ns) (show j + 1 ≤ ns.length from hlt) (Nat.le_refl _)
        have h3 := HK.out
        have h4 := HE.out
        omega
      have hK0 : 0 < K := by have := HE.out; unfold kAt at this; omega
      have HN : Hid (∀ n, ns[j] = n → K + (n + 2) = kAt k0 ns (j + 1)) := by
        intro n hn
        rw [kAt_succ hlt, ← HE.out, hn]
      generalize hnj : ns[j] = n at hc1 hi1 hKN
      have HN2 := Lib.hid (HN.out n hnj)
      clear hnj HN
      have HC : Hid (∀ V, Below w.heap.size w V → V.cell? ⟨b, o + j * 3, none⟩ = some (.string (markT K)) ∧ V.cell? ⟨b, o + j * 3 + 1, none⟩ = some (.int .i64 ((K : Int) + 1)) ∧ V.cell? ⟨b, o + j * 3 + 2, none⟩ = some (.slice Ar n cr) ∧ RI V V.heap.size Ar (marks (K + 2) n)) := by
        intro V hb
        have h1 := hc1.keep (hb.block b hb1)
        have h3 := h1.c2
        simp only [marks_length] at h3
        exact ⟨h1.c0, h1.c1, h3, (hi1.below hb).mono hb.size⟩
      clear hc1 hi1
      have hMT := fun w => markText_any K w hK0 (by omega)
      go_upto_region 4 with fail
      have q0 := HB.out.drew
      have hkeep := (HC.out _ q0).1
      go_region_held3 (fun w' => w'.cell? ⟨b, o + j * 3, none⟩ = some (.string (markT K)))
        (first | (with_reducible exact hkeep) | go_keep)
        (first | (go_at_call 112; refine (hMT _).mono ?_; rintro e v1 ⟨rfl, hb⟩; have q1 := q0.trans (hb.mono q0.size); clear hkeep; have hkeep := (HC.out _ q1).1; clear hb))
      all_goals
        have Q1 := Lib.hid q1
        clear hkeep q0 q1
        obtain ⟨_, k1, k2, k3⟩ := HC.out _ Q1.out
        have hne : ((K : Int) + 1 != (K : Int) + 1) = false := by simp
        have hT := heldInts Ar cr _ (K + 2) n v1 k3 (by omega) (by omega)
        go_wp2_with fail
        rw [show (K : Int) + 1 + 1 = ((K + 2 : Nat) : Int) by omega]
        refine hT.mono ?_
        rintro e v2 ⟨rfl, rfl⟩
        have hnn : ¬ ((K + 2 + n : Nat) : Int) < 0 := by omega
        clear hT k1 k2 k3 hne
        go_wp2_with fail
        go_roundw
        case rel => exact ⟨j + 1, K + 2 + n, by go_num, rfl, by show _ = _; have := HN2.out; omega, by omega, Q1.out⟩
        case measure => simp [intOf] <;> omega
    · obtain rfl : j = ns.length := by omega
      go_wp2
      go_ret
      exact ⟨by rw [HE.out]; rfl, HB.out⟩
end Go.Proofs.Ytphkceiafehidaa

namespace Go.Proofs.Ytphkceiafehidaa
open Go.RowKit
set_option linter.unusedVariables false
set_option linter.unusedSimpArgs false

/-- A row of n branches, f in order, each one's list in a row of its own. -/
structure OwnBr (w : World) (base : Nat) (v : Value) (n : Nat) (f : Nat → Br) (vs : Nat → Value) : Prop where
  row : ∃ xs, w.ownsRow base 98 3 v n xs ∧ ∀ j, j < n → xs[j * 3]? = some (.string (f j).name) ∧ xs[j * 3 + 1]? = some (.int .i64 (f j).at_) ∧ xs[j * 3 + 2]? = some (vs j)
  own : ∀ j, j < n → OwnI 2 .i64 w base (vs j) (f j).redo
  ap1 : ∀ j, j < n → ∀ k, (vs j).ownBlock = some k → v.ownBlock ≠ some k
  ap2 : ∀ i j, i < n → j < n → i ≠ j → ∀ k, (vs i).ownBlock = some k → (vs j).ownBlock ≠ some k
def upB (f : Nat → Br) (i : Nat) (x : Br) : Nat → Br := fun j => if j = i then x else f j
section
variable {w w' : World} {base g n c : Nat} {v : Value} {f : Nat → Br} {vs : Nat → Value}
theorem OwnBr.at_ {A : Option Addr} (h : OwnBr w base (.slice A n c) n f vs) {j : Nat} (hj : j < n) : ∃ g, A = some ⟨g, 0, none⟩ ∧ base ≤ g ∧ g < w.heap.size ∧ w.cell? ⟨g, j * 3, none⟩ = some (.string (f j).name) ∧ w.cell? ⟨g, j * 3 + 1, none⟩ = some (.int .i64 (f j).at_) ∧ w.cell? ⟨g, j * 3 + 2, none⟩ = some (vs j) ∧ ∀ i, w.frozen? ⟨g, i, none⟩ = false := by
  obtain ⟨xs, hr, hx⟩ := h.row
  obtain ⟨h0, h1, h2⟩ := hx j hj
  have hr0 := hr
  rcases hr.2 with ⟨_, hn⟩ | ⟨g, cap, cur, hv, hb, hg, _⟩
  · omega
  · simp only [Value.slice.injEq] at hv
    obtain ⟨rfl, _, rfl⟩ := hv
    have hlt := (World.ownsRow.lt hr0 g rfl).2
    exact ⟨g, rfl, hb, hlt, by rw [World.ownsRow.cellAt hr0 (j * 3) (by omega)]; exact h0, by rw [World.ownsRow.cellAt hr0 (j * 3 + 1) (by omega)]; exact h1, by rw [World.ownsRow.cellAt hr0 (j * 3 + 2) (by omega)]; exact h2, fun i => World.ownsRow.frozenAt hr0 i⟩
theorem OwnBr.setName (h : OwnBr w base (.slice (some ⟨g, 0, none⟩) n c) n f vs) {i : Nat} (hi : i < n) (t : ByteArray) : OwnBr (w.setCell ⟨g, i * 3, none⟩ (.string t)) base (.slice (some ⟨g, 0, none⟩) n c) n (upB f i ⟨t, (f i).at_, (f i).redo⟩) vs ∧ w.grownBy (w.setCell ⟨g, i * 3, none⟩ (.string t)) (some g) := by
  obtain ⟨xs, hr, hx⟩ := h.row
  have s := World.ownsRow.stored hr (i * 3) (.string t)
  refine ⟨⟨⟨_, s.1, fun j hj => ?_⟩, fun j hj => ?_, h.ap1, h.ap2⟩, s.2⟩
  · obtain ⟨h0, h1, h2⟩ := hx j hj
    unfold upB
    by_cases e : j = i
    · subst e
      have hl : j * 3 < xs.length := (List.getElem?_eq_some_iff.1 h0).1
      simp [List.getElem?_set, h1, h2, hl]
    · have n0 : ¬ i * 3 = j * 3 := by omega
      have n1 : ¬ i * 3 = j * 3 + 1 := by omega
      have n2 : ¬ i * 3 = j * 3 + 2 := by omega
      simp [List.getElem?_set, h0, h1, h2, n0, n1, n2, e]
  · have hk : OwnI 2 .i64 _ base (vs j) (f j).redo := World.ownsRow.kept (h.own j hj) s.2 (by
      cases e : (vs j).ownBlock with
      | none => exact .inl rfl
      | some k => exact .inr fun e2 => h.ap1 j hj k e (show (Value.slice (some ⟨g, 0, none⟩) n c).ownBlock = some k from e2.symm))
    show OwnI 2 .i64 _ base (vs j) (if j = i then _ else f j : Br).redo
    by_cases e : j = i
    · subst e; rw [if_pos rfl]; exact hk
    · rw [if_neg e]; exact hk
theorem OwnBr.setAt (h : OwnBr w base (.slice (some ⟨g, 0, none⟩) n c) n f vs) {i : Nat} (hi : i < n) (t : Int) : OwnBr (w.setCell ⟨g, i * 3 + 1, none⟩ (.int .i64 t)) base (.slice (some ⟨g, 0, none⟩) n c) n (upB f i ⟨(f i).name, t, (f i).redo⟩) vs ∧ w.grownBy (w.setCell ⟨g, i * 3 + 1, none⟩ (.int .i64 t)) (some g) := by
  obtain ⟨xs, hr, hx⟩ := h.row
  have s := World.ownsRow.stored hr (i * 3 + 1) (.int .i64 t)
  refine ⟨⟨⟨_, s.1, fun j hj => ?_⟩, fun j hj => ?_, h.ap1, h.ap2⟩, s.2⟩
  · obtain ⟨h0, h1, h2⟩ := hx j hj
    unfold upB
    by_cases e : j = i
    · subst e
      have hl : j * 3 + 1 < xs.length := (List.getElem?_eq_some_iff.1 h1).1
      have n0 : ¬ j * 3 + 1 = j * 3 := by omega
      simp [List.getElem?_set, h0, h2, hl]
    · have n0 : ¬ i * 3 + 1 = j * 3 := by omega
      have n1 : ¬ i * 3 = j * 3 := by omega
      have n2 : ¬ i * 3 + 1 = j * 3 + 2 := by omega
      have n3 : ¬ i * 3 = j * 3 + 1 := by omega
      simp [List.getElem?_set, h0, h1, h2, n0, n1, n2, n3, e]
  · have hk : OwnI 2 .i64 _ base (vs j) (f j).redo := World.ownsRow.kept (h.own j hj) s.2 (by
      cases e : (vs j).ownBlock with
      | none => exact .inl rfl
      | some k => exact .inr fun e2 => h.ap1 j hj k e (show (Value.slice (some ⟨g, 0, none⟩) n c).ownBlock = some k from e2.symm))
    show OwnI 2 .i64 _ base (vs j) (if j = i then _ else f j : Br).redo
    by_cases e : j = i
    · subst e; rw [if_pos rfl]; exact hk
    · rw [if_neg e]; exact hk
/-- One branch's list turned. -/
theorem OwnBr.setRedo (h : OwnBr w base v n f vs) {i : Nat} (hi : i < n) {l : List Int} (ho : OwnI 2 .i64 w' base (vs i) l) (hg : w.grownBy w' (vs i).ownBlock) : OwnBr w' base v n (upB f i ⟨(f i).name, (f i).at_, l⟩) vs := by
  obtain ⟨xs, hr, hx⟩ := h.row
  refine ⟨⟨xs, World.ownsRow.kept hr hg ?_, fun j hj => ?_⟩, fun j hj => ?_, h.ap1, h.ap2⟩
  · cases e : v.ownBlock with
    | none => exact .inl rfl
    | some k => exact .inr fun e2 => h.ap1 i hi k e2.symm e
  · unfold upB
    by_cases e : j = i
    · subst e; simpa using hx j hj
    · simpa [e] using hx j hj
  · show OwnI 2 .i64 w' base (vs j) (if j = i then _ else f j : Br).redo
    by_cases e : j = i
    · subst e; rw [if_pos rfl]; exact ho
    · have hk : OwnI 2 .i64 w' base (vs j) (f j).redo := World.ownsRow.kept (h.own j hj) hg (by
        cases e2 : (vs j).ownBlock with
        | none => exact .inl rfl
        | some k => exact .inr fun e3 => h.ap2 i j hi hj (fun e4 => e e4.symm) k e3.symm e2)
      rw [if_neg e]; exact hk
end
end Go.Proofs.Ytphkceiafehidaa

namespace Go.Proofs.Ytphkceiafehidaa
open Go.RowKit
set_option linter.unusedVariables false
set_option linter.unusedSimpArgs false

/-- What may turn: the blocks of p alone. -/
structure Tn (p : Nat → Prop) (w w' : World) : Prop where
  os : w'.os = w.os
  tape : w'.tape = w.tape
  output : w'.output = w.output
  size : w.heap.size ≤ w'.heap.size
  block : ∀ k, k < w.heap.size → ¬ p k → w'.heap[k]? = w.heap[k]?
theorem Tn.refl (p : Nat → Prop) (w : World) : Tn p w w := ⟨rfl, rfl, rfl, Nat.le_refl _, fun _ _ _ => rfl⟩
theorem Tn.more {p : Nat → Prop} {w a b : World} (h : Tn p w a) (k : Below a.heap.size a b) : Tn p w b :=
  ⟨k.os.trans h.os, k.tape.trans h.tape, k.output.trans h.output, Nat.le_trans h.size k.size, fun i hi hp => (k.block i (Nat.lt_of_lt_of_le hi h.size)).trans (h.block i hi hp)⟩
theorem Tn.step {p : Nat → Prop} {w a b : World} {row : Option Nat} (h : Tn p w a) (k : a.grownBy b row) (hp : ∀ i, row = some i → p i) : Tn p w b :=
  ⟨k.os.trans h.os, k.tape.trans h.tape, k.output.trans h.output, Nat.le_trans h.size k.size, fun i hi hn => (k.block i (Nat.lt_of_lt_of_le hi h.size) fun e => hn (hp i e.symm)).trans (h.block i hi hn)⟩
theorem OwnBr.keep {w w' : World} {base n : Nat} {v : Value} {f : Nat → Br} {vs : Nat → Value} (h : OwnBr w base v n f vs) (hb : Below w.heap.size w w') : OwnBr w' base v n f vs := by
  obtain ⟨xs, hr, hx⟩ := h.row
  exact ⟨⟨xs, World.ownsRow.kept hr (below_by hb none) (by cases e : v.ownBlock <;> simp), hx⟩, fun j hj => OwnI.keep (h.own j hj) hb, h.ap1, h.ap2⟩
def mkB (k0 : Nat) (ns : List Nat) (j : Nat) : Br := ⟨markT (kAt k0 ns j), (kAt k0 ns j : Int) + 1, marks (kAt k0 ns j + 2) (ns.getD j 0)⟩

set_option maxRecDepth 100000 in
set_option maxHeartbeats 2000000 in
theorem markBrs (g c base k0 : Nat) (ns : List Nat) (f : Nat → Br) (vs : Nat → Value) (w : World) (h : OwnBr w base (.slice (some ⟨g, 0, none⟩) ns.length c) ns.length f vs) (hns : ∀ j, j < ns.length → (f j).redo.length = ns.getD j 0) (hk0 : 0 < k0) (hk : kAt k0 ns ns.length ≤ 1000000) (hl : ns.length ≤ 1000000) :
    Calls Try.prog 92 #[.slice (some ⟨g, 0, none⟩) ns.length c, .int .i64 k0] w fun e w' => e = .returned (.int .i64 (kAt k0 ns ns.length : Nat)) ∧ ∃ f', OwnBr w' base (.slice (some ⟨g, 0, none⟩) ns.length c) ns.length f' vs ∧ (∀ j, j < ns.length → f' j = mkB k0 ns j) ∧ Tn (fun k => k = g ∨ ∃ j, j < ns.length ∧ (vs j).ownBlock = some k) w w' := by
  have H := Lib.hid h
  have HNS := Lib.hid hns
  have HK := Lib.hid hk
  clear h hns hk
  go_enter Try.func92, Try.ntmps92
  go_wp2
  go_loopw [1, 5] (fun k i wr => ∃ (j K : Nat) (fi : Nat → Br), i = .int .i64 j ∧ k = .int .i64 K ∧ Hid (K = kAt k0 ns j) ∧ j ≤ ns.length ∧ Hid (OwnBr wr base (.slice (some ⟨g, 0, none⟩) ns.length c) ns.length fi vs ∧ (∀ t, t < j → fi t = mkB k0 ns t) ∧ (∀ t, j ≤ t → t < ns.length → fi t = f t) ∧ Tn (fun k => k = g ∨ ∃ j, j < ns.length ∧ (vs j).ownBlock = some k) w wr)) (fun _ i _ => ns.length - (intOf i).toNat)
  case atStart => exact ⟨0, k0, f, rfl, rfl, by show _ = _; simp [kAt], Nat.zero_le _, H.out, fun t h => absurd h (Nat.not_lt_zero _), fun t _ _ => rfl, Tn.refl _ _⟩
  case round =>
    obtain ⟨j, K, fi, rfl, rfl, HE, hj, HI⟩ := hrel
    by_cases hlt : j < ns.length
    · have hjI : (j : Int) < (ns.length : Int) := by omega
      have hKN : K + (ns[j] + 2) ≤ 1000000 := by
        have h1 := kAt_succ (k0 := k0) hlt
        have h2 := kAt_mono (k0 := k0) (ns := ns) (show j + 1 ≤ ns.length from hlt) (Nat.le_refl _)
        have h3 := HK.out
        have h4 := HE.out
        omega
      have hK0 : 0 < K := by have := HE.out; unfold kAt at this; omega
      have hMT := fun w => markText_any K w hK0 (by omega)
      go_wp2_with fail
      refine (hMT _).mono ?_
      rintro e w1 ⟨rfl, hb⟩
      have HO1 := Lib.hid (HI.out.1.keep hb)
      have HT1 := Lib.hid (HI.out.2.2.2.more hb)
      clear hb hMT
      obtain ⟨g', e', hlo, hgl, c0, c1, c2, fz⟩ := HO1.out.at_ hlt
      cases e'
      obtain ⟨Ar, cr, hvs⟩ := (OwnI.form (HO1.out.own j hlt))
      have hfj : (fi j).redo.length = ns.getD j 0 := by rw [HI.out.2.2.1 j (Nat.le_refl _) hlt]; exact HNS.out j hlt
      have hgd : ns.getD j 0 = ns[j] := by simp [List.getD, hlt]
      have H2 := HO1.out.setName hlt (markT K)
      have H3 := H2.1.setAt hlt ((K : Int) + 1)
      have ho3 : OwnI 2 .i64 ((w1.setCell ⟨g, j * 3, none⟩ (.string (markT K))).setCell ⟨g, j * 3 + 1, none⟩ (.int .i64 ((K : Int) + 1))) base (vs j) (fi j).redo := by
        have := H3.1.own j hlt
        simp only [upB, if_true] at this
        exact this
      rw [hvs] at c2 ho3
      have hmi := markInts Ar cr base (K + 2) (fi j).redo _ ho3 (by omega) (by omega)
      have HMI := Lib.hid hmi
      have HH3 := Lib.hid H3.1
      have HT3 := Lib.hid ((HT1.out.step H2.2 (fun i e => .inl (Option.some.inj e).symm)).step H3.2 (fun i e => .inl (Option.some.inj e).symm))
      have HVS := Lib.hid hvs
      have HFJ := Lib.hid (hfj.trans hgd)
      have f0 := fz (j * 3)
      have f1 := fz (j * 3 + 1)
      have hlenb : (fi j).redo.length ≤ 1000000 := by rw [hfj, hgd]; omega
      clear fz hvs hmi ho3 H2 H3 hfj hgd hlo HO1
      go_wp2_with fail
      rw [show (K : Int) + 1 + 1 = ((K + 2 : Nat) : Int) by omega]
      refine HMI.out.mono ?_
      rintro e w4 ⟨rfl, ho4, hg4, _⟩
      have H4 : Hid (OwnBr w4 base (.slice (some ⟨g, 0, none⟩) ns.length c) ns.length (upB (upB (upB fi j ⟨markT K, (fi j).at_, (fi j).redo⟩) j ⟨((upB fi j ⟨markT K, (fi j).at_, (fi j).redo⟩) j).name, (K : Int) + 1, ((upB fi j ⟨markT K, (fi j).at_, (fi j).redo⟩) j).redo⟩) j ⟨((upB (upB fi j ⟨markT K, (fi j).at_, (fi j).redo⟩) j ⟨((upB fi j ⟨markT K, (fi j).at_, (fi j).redo⟩) j).name, (K : Int) + 1, ((upB fi j ⟨markT K, (fi j).at_, (fi j).redo⟩) j).redo⟩) j).name, ((upB (upB fi j ⟨markT K, (fi j).at_, (fi j).redo⟩) j ⟨((upB fi j ⟨markT K, (fi j).at_, (fi j).redo⟩) j).name, (K : Int) + 1, ((upB fi j ⟨markT K, (fi j).at_, (fi j).redo⟩) j).redo⟩) j).at_, marks (K + 2) (fi j).redo.length⟩) vs) :=
        HH3.out.setRedo hlt (by rw [HVS.out]; exact ho4) (by rw [HVS.out]; exact hg4)
      have HT4 := Lib.hid (HT3.out.step hg4 (fun i e => .inr ⟨j, hlt, by rw [HVS.out]; exact e⟩))
      have hk2 : K + 2 + (fi j).redo.length = kAt k0 ns (j + 1) := by rw [kAt_succ hlt, ← HE.out, HFJ.out]; omega
      have HK2 := Lib.hid hk2
      clear ho4 hg4 hk2 HMI HH3 HT3 HT1 c0 c1 c2 f0 f1
      go_wp2_with fail
      go_roundw
      case rel =>
        refine ⟨j + 1, K + 2 + (fi j).redo.length, _, by go_num, rfl, HK2.out, by omega, H4.out, fun t ht => ?_, fun t h1 h2 => ?_, HT4.out⟩
        · by_cases e : t = j
          · subst e
            simp only [upB, if_true]
            unfold mkB
            rw [← HE.out, HFJ.out]
            have : ns.getD t 0 = ns[t] := by simp [List.getD, hlt]
            rw [this]
          · simp only [upB, if_neg e]
            exact HI.out.2.1 t (by omega)
        · have e : ¬ t = j := by omega
          simp only [upB, if_neg e]
          exact HI.out.2.2.1 t (by omega) h2
      case measure => simp [intOf] <;> omega
    · obtain rfl : j = ns.length := by omega
      go_wp2
      go_ret
      exact ⟨by rw [HE.out]; rfl, fi, HI.out.1, HI.out.2.1, HI.out.2.2.2⟩
end Go.Proofs.Ytphkceiafehidaa

namespace Go.Proofs.Ytphkceiafehidaa
open Go.RowKit
set_option linter.unusedVariables false

def nmark (k : Nat) : Nd := ⟨(k : Int), (k : Int) + 1, (k : Int) + 2, (k : Int) + 3, (k : Int) + 4⟩
def marksN (k n : Nat) : List Nd := (List.range n).map fun i => nmark (k + 5 * i)
theorem marksN_length (k n : Nat) : (marksN k n).length = n := by simp [marksN]
theorem marksN_get (k n i : Nat) (h : i < (marksN k n).length) : (marksN k n)[i] = nmark (k + 5 * i) := by simp [marksN]
theorem markedN_step (l : List Nd) (k j : Nat) (hj : j < l.length) : ((marksN k l.length).take j ++ l.drop j).set j (nmark (k + 5 * j)) = (marksN k l.length).take (j + 1) ++ l.drop (j + 1) := by
  have hm : j < (marksN k l.length).length := by rw [marksN_length]; exact hj
  have hl : ((marksN k l.length).take j).length = j := by simp [marksN_length]; omega
  rw [List.set_append_right _ _ (by omega), hl, Nat.sub_self, List.drop_eq_getElem_cons hj, List.set_cons_zero, List.take_succ_eq_append_getElem hm, marksN_get, List.append_assoc]
  rfl

set_option maxRecDepth 100000 in
set_option maxHeartbeats 1000000 in
theorem markNodes (A : Option Addr) (c base k0 : Nat) (l : List Nd) (w : World) (h : OwnN w base (.slice A l.length c) l) (hl : l.length ≤ 1100000) (hk0 : k0 ≤ 1000000000) :
    Calls Try.prog 111 #[.slice A l.length c, .int .i64 k0] w fun e w' => e = .returned (.int .i64 ((k0 + 5 * l.length : Nat) : Int)) ∧ OwnN w' base (.slice A l.length c) (marksN k0 l.length) ∧ w.grownBy w' (Value.slice A l.length c).ownBlock ∧ w'.heap.size = w.heap.size := by
  go_enter Try.func111, Try.ntmps111
  go_wp2
  go_loopw [1, 5] (fun x i wr => ∃ j K : Nat, i = .int .i64 j ∧ x = .int .i64 K ∧ Hid (K = k0 + 5 * j) ∧ j ≤ l.length ∧ OwnN wr base (.slice A l.length c) ((marksN k0 l.length).take j ++ l.drop j) ∧ w.grownBy wr (Value.slice A l.length c).ownBlock ∧ Hid (wr.heap.size = w.heap.size)) (fun _ i _ => l.length - (intOf i).toNat)
  case atStart => exact ⟨0, k0, rfl, rfl, rfl, Nat.zero_le _, by simpa using h, ⟨rfl, rfl, rfl, Nat.le_refl _, fun _ _ _ => rfl⟩, rfl⟩
  case round =>
    obtain ⟨j, K, rfl, rfl, HK, hj, ho, hg, HZ⟩ := hrel
    have hKb : (K : Int) ≤ 2000000000 := by have := HK.out; omega
    by_cases hlt : j < l.length
    · obtain ⟨g, rfl, _, _, hcg, hfg⟩ := ho.at_ (j := j) (by simp [marksN_length]; omega)
      have HS := Lib.hid (ho.store (j := j) (by simp [marksN_length]; omega) (nmark K))
      have hf0 := hfg (j * 5)
      have hf1 := hfg (j * 5 + 1)
      have hf2 := hfg (j * 5 + 2)
      have hf3 := hfg (j * 5 + 3)
      have hf4 := hfg (j * 5 + 4)
      obtain ⟨g0, g1, g2, g3, g4⟩ := hcg
      have HG := Lib.hid hg
      clear ho h hfg hg
      go_wp2
      go_roundw
      case rel => exact ⟨j + 1, K + 5, by go_num, by go_num, (by have := HK.out; show _ = _; omega), by omega, by rw [← markedN_step l k0 j hlt, ← HK.out]; exact HS.out.1, by_trans HG.out HS.out.2, by show (World.setCell _ _ _).heap.size = _; simpa [World.setCell] using HZ.out⟩
      case measure => simp [intOf]; omega
    · have ej : j = l.length := by omega
      subst ej
      have HKE : Hid ((K : Int) = ((k0 + 5 * l.length : Nat) : Int)) := by have := HK.out; show _ = _; omega
      have HO := Lib.hid ho
      have HG := Lib.hid hg
      clear ho hg h
      go_wp2
      go_ret
      exact ⟨ret_int HKE.out, by simpa [marksN_length, List.take_of_length_le] using HO.out, HG.out, HZ.out⟩

set_option maxRecDepth 100000 in
set_option maxHeartbeats 1000000 in
theorem heldNodes (A : Option Addr) (c B k0 n : Nat) (w : World) (h : RN w B A (marksN k0 n)) (hl : n ≤ 1100000) (hk0 : k0 ≤ 1000000000) :
    Calls Try.prog 114 #[.slice A n c, .int .i64 k0] w fun e w' => e = .returned (.int .i64 ((k0 + 5 * n : Nat) : Int)) ∧ w = w' := by
  have H := Lib.hid h
  clear h
  go_enter Try.func114, Try.ntmps114
  go_wp2
  go_loop [1, 5] (fun x i => ∃ j K : Nat, i = .int .i64 j ∧ x = .int .i64 K ∧ Hid (K = k0 + 5 * j) ∧ j ≤ n) (fun _ i => n - (intOf i).toNat)
  case atStart => exact ⟨0, k0, rfl, rfl, rfl, Nat.zero_le _⟩
  case round =>
    obtain ⟨j, K, rfl, rfl, HK, hj⟩ := hrel
    have hKb : (K : Int) ≤ 2000000000 := by have := HK.out; omega
    by_cases hlt : j < n
    · obtain ⟨b, off, rfl, _, hc⟩ := H.out.at_ (j := j) (by rw [marksN_length]; exact hlt)
      rw [marksN_get, ← HK.out] at hc
      obtain ⟨d0, d1, d2, d3, d4⟩ := hc
      simp only [nmark] at d0 d1 d2 d3 d4
      go_wp2
      go_round
      case rel => exact ⟨j + 1, K + 5, by go_num, by go_num, (by have := HK.out; show _ = _; omega), by omega⟩
      case measure => simp [intOf]; omega
    · have ej : j = n := by omega
      subst ej
      have HKE : Hid ((K : Int) = ((k0 + 5 * j : Nat) : Int)) := by have := HK.out; show _ = _; omega
      go_wp2
      go_ret
      exact ⟨ret_int HKE.out, rfl⟩

set_option maxHeartbeats 400000 in
theorem markPool_any (A : Option Addr) (c base k0 : Nat) (l : List Nd) (w : World) (h : OwnN w base (.slice A l.length c) l) (hl : l.length ≤ 1100000) (hk0 : k0 ≤ 1000000000) :
    Calls Try.prog 90 #[.agg #[.slice A l.length c], .int .i64 k0] w fun e w' => e = .returned (.int .i64 ((k0 + 5 * l.length : Nat) : Int)) ∧ OwnN w' base (.slice A l.length c) (marksN k0 l.length) ∧ w.grownBy w' (Value.slice A l.length c).ownBlock := by
  have HT := Lib.hid (markNodes A c base k0 l _ (h.alloc (.cells #[.slice A l.length c] 52)) hl hk0)
  clear h
  have hbw : Below w.heap.size w (w.alloc (.cells #[.slice A l.length c] 52)) := (Below.refl _ _).alloc (Nat.le_refl _) _
  go_enter Try.func90, Try.ntmps90
  go_wp2_with fail
  refine HT.out.mono ?_
  rintro e w1 ⟨rfl, ho, hg, hz⟩
  have HO := Lib.hid ho
  have HG := Lib.hid (by_trans (below_by hbw _) hg)
  clear HT ho hg hz hbw
  go_wp2
  go_ret
  exact ⟨rfl, HO.out, HG.out⟩
set_option maxHeartbeats 400000 in
theorem heldPool_any (A : Option Addr) (c k0 n : Nat) (w : World) (h : RN w w.heap.size A (marksN k0 n)) (hl : n ≤ 1100000) (hk0 : k0 ≤ 1000000000) :
    Calls Try.prog 93 #[.agg #[.slice A n c], .int .i64 k0] w fun e w' => e = .returned (.int .i64 ((k0 + 5 * n : Nat) : Int)) ∧ Below w.heap.size w w' := by
  have hbw : Below w.heap.size w (w.alloc (.cells #[.slice A n c] 52)) := (Below.refl _ _).alloc (Nat.le_refl _) _
  have HT := Lib.hid (heldNodes A c _ k0 n _ (h.below hbw) hl hk0)
  clear h
  go_enter Try.func93, Try.ntmps93
  go_wp2_with fail
  refine HT.out.mono ?_
  rintro e w1 ⟨rfl, rfl⟩
  clear HT
  go_wp2
  go_ret
  exact ⟨rfl, hbw⟩
end Go.Proofs.Ytphkceiafehidaa

namespace Go.Proofs.Ytphkceiafehidaa
open Go.RowKit
set_option linter.unusedVariables false

/-- A Version. -/
structure Ve where
  parent : Int
  other : Int
  root : Int
theorem Ve.eq_iff (a b : Ve) : a = b ↔ a.parent = b.parent ∧ a.other = b.other ∧ a.root = b.root := by
  constructor
  · rintro rfl; exact ⟨rfl, rfl, rfl⟩
  · obtain ⟨nparent, nother, nroot⟩ := a
    obtain ⟨nparent', nother', nroot'⟩ := b
    rintro ⟨h0, h1, h2⟩
    simp only at h0 h1 h2
    subst h0 h1 h2
    rfl
instance : DecidableEq Ve := fun a b => decidable_of_iff _ (Ve.eq_iff a b).symm
instance : Inhabited Ve := ⟨⟨0, 0, 0⟩⟩
def Ve.val (n : Ve) : Value := .agg #[.int .i64 n.parent, .int .i64 n.other, .int .i64 n.root]
def Ve.Fits (n : Ve) : Prop := (Lit.int .i64 n.parent).wf = true ∧ (Lit.int .i64 n.other).wf = true ∧ (Lit.int .i64 n.root).wf = true
/-- The cells from o on hold n. -/
structure VeAt (w : World) (b o : Nat) (n : Ve) : Prop where
  c0 : w.cell? ⟨b, o, none⟩ = some (.int .i64 n.parent)
  c1 : w.cell? ⟨b, o + 1, none⟩ = some (.int .i64 n.other)
  c2 : w.cell? ⟨b, o + 2, none⟩ = some (.int .i64 n.root)
theorem VeAt.parts {w : World} {b o : Nat} {n : Ve} (h : VeAt w b o n) : w.cell? ⟨b, o, none⟩ = some (.int .i64 n.parent) ∧ w.cell? ⟨b, o + 1, none⟩ = some (.int .i64 n.other) ∧ w.cell? ⟨b, o + 2, none⟩ = some (.int .i64 n.root) := ⟨h.c0, h.c1, h.c2⟩
/-- A list that can be read below block B. -/
def RVe (w : World) (B : Nat) (A : Option Addr) (l : List Ve) : Prop := l = [] ∨ ∃ b off, A = some ⟨b, off, none⟩ ∧ b < B ∧ ∀ j (h : j < l.length), VeAt w b (off + j * 3) l[j]
theorem VeAt.keep {w w' : World} {b o : Nat} {n : Ve} (h : VeAt w b o n) (hc : w'.heap[b]? = w.heap[b]?) : VeAt w' b o n :=
  ⟨(World.cell?_of_block (w := w) (a := ⟨b, o, none⟩) hc).trans h.c0, (World.cell?_of_block (w := w) (a := ⟨b, o + 1, none⟩) hc).trans h.c1, (World.cell?_of_block (w := w) (a := ⟨b, o + 2, none⟩) hc).trans h.c2⟩
theorem RVe.keep {w w' : World} {B : Nat} {A : Option Addr} {l : List Ve} (h : RVe w B A l) (hc : ∀ k, k < B → w'.heap[k]? = w.heap[k]?) : RVe w' B A l := by
  rcases h with h | ⟨b, off, rfl, hb, hn⟩
  · exact .inl h
  · exact .inr ⟨b, off, rfl, hb, fun j hj => (hn j hj).keep (hc b hb)⟩
theorem RVe.below {w w' : World} {B : Nat} {A : Option Addr} {l : List Ve} (h : RVe w B A l) (hb : Below B w w') : RVe w' B A l := h.keep fun k hk => hb.block k hk
theorem RVe.mono {w : World} {B B' : Nat} {A : Option Addr} {l : List Ve} (h : RVe w B A l) (hB : B ≤ B') : RVe w B' A l := by
  rcases h with h | ⟨b, off, rfl, hb, hn⟩
  · exact .inl h
  · exact .inr ⟨b, off, rfl, by omega, hn⟩
theorem RVe.still {w w' : World} {B : Nat} {A : Option Addr} {l : List Ve} (h : RVe w B A l) (hs : Still w w') : RVe w' B A l := h.keep fun k _ => by rw [hs.1]
theorem RVe.at_ {w : World} {B j : Nat} {A : Option Addr} {l : List Ve} (h : RVe w B A l) (hj : j < l.length) : ∃ b off, A = some ⟨b, off, none⟩ ∧ b < B ∧ VeAt w b (off + j * 3) l[j] := by
  rcases h with h | ⟨b, off, rfl, hb, hn⟩
  · subst h; simp at hj
  · exact ⟨b, off, rfl, hb, hn j hj⟩

def Ve.cells (n : Ve) : List Value := [.int .i64 n.parent, .int .i64 n.other, .int .i64 n.root]
def zeroVe : Ve := ⟨0, 0, 0⟩
theorem flatVe_len (l : List Ve) : (l.flatMap Ve.cells).length = l.length * 3 := by
  induction l with
  | nil => rfl
  | cons x xs ih => simp only [List.flatMap_cons, List.length_append, ih, List.length_cons]; simp [Ve.cells]; omega
theorem flatVe_get : ∀ (l : List Ve) (j i : Nat) (hj : j < l.length), i < 3 → (l.flatMap Ve.cells)[j * 3 + i]? = (l[j].cells)[i]?
  | [], j, i, hj, _ => by simp at hj
  | x :: xs, 0, i, _, hi => by
    simp only [List.flatMap_cons, Nat.zero_mul, Nat.zero_add, List.getElem_cons_zero]
    rw [List.getElem?_append_left (by simpa [Ve.cells] using hi)]
  | x :: xs, j + 1, i, hj, hi => by
    simp only [List.flatMap_cons, List.getElem_cons_succ]
    have e : (j + 1) * 3 + i = x.cells.length + (j * 3 + i) := by simp [Ve.cells]; omega
    rw [e, List.getElem?_append_right (by omega), Nat.add_sub_cancel_left]
    exact flatVe_get xs j i (by simpa using hj) hi
def setVe (L : List Value) (o : Nat) (x : Ve) : List Value := (((L.set (o) (.int .i64 x.parent)).set (o + 1) (.int .i64 x.other)).set (o + 2) (.int .i64 x.root))
theorem flatVe_set : ∀ (l : List Ve) (j : Nat) (x : Ve), j < l.length → setVe (l.flatMap Ve.cells) (j * 3) x = (l.set j x).flatMap Ve.cells
  | [], j, x, hj => by simp at hj
  | y :: ys, 0, x, _ => by simp [setVe, Ve.cells]
  | y :: ys, j + 1, x, hj => by
    have ih := flatVe_set ys j x (by simpa using hj)
    simp only [List.flatMap_cons, List.set_cons_succ, ← ih]
    have hlen : y.cells.length = 3 := rfl
    unfold setVe
    rw [List.set_append_right _ _ (by omega), List.set_append_right _ _ (by omega), List.set_append_right _ _ (by omega), hlen]
    rw [show (j + 1) * 3 - 3 = j * 3 by omega, show (j + 1) * 3 + 1 - 3 = j * 3 + 1 by omega, show (j + 1) * 3 + 2 - 3 = j * 3 + 2 by omega]
theorem flatVe_zeros (n : Nat) : (madeCells #[.int .i64 0, .int .i64 0, .int .i64 0] (n * 3)).toList = (List.replicate n zeroVe).flatMap Ve.cells := by
  have h1 : (madeCells #[Value.int .i64 0, .int .i64 0, .int .i64 0] (n * 3)).toList = List.replicate (n * 3) (.int .i64 0) := by
    rw [List.eq_replicate_iff]
    refine ⟨by simp [madeCells], fun v hv => ?_⟩
    simp only [madeCells, Array.toList_map, List.mem_map] at hv
    obtain ⟨j, _, rfl⟩ := hv
    have h5 : j % 3 = 0 ∨ j % 3 = 1 ∨ j % 3 = 2 := by omega
    show (#[Value.int .i64 0, .int .i64 0, .int .i64 0] : Array Value)[j % 3]! = _
    rcases h5 with h | h | h <;> rw [h] <;> rfl
  have h2 : (List.replicate n zeroVe).flatMap Ve.cells = List.replicate (n * 3) (.int .i64 0) := by
    rw [List.eq_replicate_iff]
    refine ⟨by rw [flatVe_len]; simp, fun v hv => ?_⟩
    obtain ⟨x, hx, hv⟩ := List.mem_flatMap.1 hv
    rw [List.eq_of_mem_replicate hx] at hv
    simp [Ve.cells, zeroVe] at hv
    exact hv
  rw [h1, h2]

/-- The slice value v owns, among the blocks from base on, a row that reads as the list l. -/
def OwnVe (w : World) (base : Nat) (v : Value) (l : List Ve) : Prop := w.ownsRow base 96 3 v l.length (l.flatMap Ve.cells)
theorem OwnVe.nil (w : World) (base : Nat) : OwnVe w base (.slice none 0 0) [] := World.ownsRow_nil _ _ _ _
theorem OwnVe.alloc {w : World} {base : Nat} {v : Value} {l : List Ve} (h : OwnVe w base v l) (o : Obj) : OwnVe (w.alloc o) base v l := World.ownsRow.alloc h o
theorem OwnVe.drew {w : World} {base : Nat} {v : Value} {l : List Ve} (h : OwnVe w base v l) : OwnVe w.drew base v l := h
theorem OwnVe.kept {w w' : World} {base : Nat} {v : Value} {l : List Ve} {row : Option Nat} (h : OwnVe w base v l) (hg : w.grownBy w' row) (hr : v.ownBlock = none ∨ v.ownBlock ≠ row) : OwnVe w' base v l := World.ownsRow.kept h hg hr
theorem OwnVe.keep {w w' : World} {base : Nat} {v : Value} {l : List Ve} (h : OwnVe w base v l) (hb : Below w.heap.size w w') : OwnVe w' base v l :=
  World.ownsRow.kept h (row := none) ⟨hb.os, hb.tape, hb.output, hb.size, fun k hk _ => hb.block k hk⟩ (by cases v.ownBlock <;> simp)
theorem OwnVe.lower {w : World} {base base' : Nat} {v : Value} {l : List Ve} (hb : base' ≤ base) (h : OwnVe w base v l) : OwnVe w base' v l := World.ownsRow.mono h hb
theorem OwnVe.set_below {w : World} {base : Nat} {v : Value} {l : List Ve} {a : Addr} (ha : a.block < base) (u : Value) (h : OwnVe w base v l) : OwnVe (w.setCell a u) base v l := ownsRow_setCell_below h ha u
theorem OwnVe.len {w : World} {base n c : Nat} {A : Option Addr} {l : List Ve} (h : OwnVe w base (.slice A n c) l) : n = l.length := by
  rcases h.2 with ⟨hv, hn⟩ | ⟨g, cap, cur, hv, _⟩
  · simp at hv; omega
  · simp at hv; omega
theorem OwnVe.form {w : World} {base : Nat} {v : Value} {l : List Ve} (h : OwnVe w base v l) : ∃ A c, v = .slice A l.length c := by
  rcases h.2 with ⟨hv, hn⟩ | ⟨g, cap, cur, hv, _⟩
  · exact ⟨none, 0, by rw [hv, hn]⟩
  · exact ⟨_, _, hv⟩
theorem OwnVe.lt {w : World} {base : Nat} {v : Value} {l : List Ve} (h : OwnVe w base v l) : ∀ k, v.ownBlock = some k → base ≤ k ∧ k < w.heap.size := World.ownsRow.lt h
theorem OwnVe.at_ {w : World} {base n c j : Nat} {A : Option Addr} {l : List Ve} (h : OwnVe w base (.slice A n c) l) (hj : j < l.length) :
    ∃ g, A = some ⟨g, 0, none⟩ ∧ base ≤ g ∧ g < w.heap.size ∧ VeAt w g (j * 3) l[j] ∧ ∀ i, w.frozen? ⟨g, i, none⟩ = false := by
  have hn := h.len
  subst hn
  rcases h.2 with ⟨hv, hn⟩ | ⟨g, cap, cur, hv, hb, hg, _⟩
  · omega
  · simp only [Value.slice.injEq] at hv
    obtain ⟨rfl, _, rfl⟩ := hv
    have hlt := (World.ownsRow.lt h g rfl).2
    have hc : ∀ i, i < 3 → w.cell? ⟨g, j * 3 + i, none⟩ = (l[j].cells)[i]? := fun i hi => by
      rw [World.ownsRow.cellAt h (j * 3 + i) (by omega)]
      exact flatVe_get l j i hj hi
    exact ⟨g, rfl, hb, hlt, ⟨hc 0 (by omega), hc 1 (by omega), hc 2 (by omega)⟩, fun i => World.ownsRow.frozenAt h i⟩
theorem OwnVe.r {w : World} {base n c : Nat} {A : Option Addr} {l : List Ve} (h : OwnVe w base (.slice A n c) l) : RVe w w.heap.size A l := by
  by_cases hl : l = []
  · exact .inl hl
  · have h0 : 0 < l.length := List.length_pos_iff.2 hl
    obtain ⟨g, rfl, _, hg, _⟩ := h.at_ h0
    refine .inr ⟨g, 0, rfl, hg, fun j hj => ?_⟩
    obtain ⟨g', e', _, _, hc, _⟩ := h.at_ hj
    cases e'
    simpa using hc
def putVe (w : World) (g o : Nat) (x : Ve) : World := (((w.setCell ⟨g, o, none⟩ (.int .i64 x.parent)).setCell ⟨g, o + 1, none⟩ (.int .i64 x.other)).setCell ⟨g, o + 2, none⟩ (.int .i64 x.root))
theorem OwnVe.store {w : World} {base g n c j : Nat} {l : List Ve} (h : OwnVe w base (.slice (some ⟨g, 0, none⟩) n c) l) (hj : j < l.length) (x : Ve) :
    OwnVe (putVe w g (j * 3) x) base (.slice (some ⟨g, 0, none⟩) n c) (l.set j x) ∧ w.grownBy (putVe w g (j * 3) x) (some g) := by
  have hn := h.len
  subst hn
  have h0 : w.ownsRow base 96 3 (.slice (some ⟨g, 0, none⟩) l.length c) l.length (l.flatMap Ve.cells) := h
  have s1 := World.ownsRow.stored h0 (j * 3) (.int .i64 x.parent)
  have s2 := World.ownsRow.stored s1.1 (j * 3 + 1) (.int .i64 x.other)
  have s3 := World.ownsRow.stored s2.1 (j * 3 + 2) (.int .i64 x.root)
  have tr : ∀ {a b c : World}, a.grownBy b (some g) → b.grownBy c (some g) → a.grownBy c (some g) := fun h k => ⟨k.os.trans h.os, k.tape.trans h.tape, k.output.trans h.output, Nat.le_trans h.size k.size, fun i hi hne => (k.block i (Nat.lt_of_lt_of_le hi h.size) hne).trans (h.block i hi hne)⟩
  refine ⟨?_, tr (tr s1.2 s2.2) s3.2⟩
  unfold OwnVe putVe
  rw [List.length_set, ← flatVe_set l j x hj]
  exact s3.1

theorem own_zerosVe {w : World} {base g n : Nat} (h : w.ownsRow base 96 3 (.slice (some ⟨g, 0, none⟩) n n) n (madeCells #[.int .i64 0, .int .i64 0, .int .i64 0] (n * 3)).toList) : OwnVe w base (.slice (some ⟨g, 0, none⟩) n n) (List.replicate n zeroVe) := by
  unfold OwnVe
  rw [flatVe_zeros] at h
  simpa using h
theorem copied_stepVe (l : List Ve) (k : Nat) (hk : k < l.length) : (l.take k ++ List.replicate (l.length - k) zeroVe).set k l[k] = l.take (k + 1) ++ List.replicate (l.length - (k + 1)) zeroVe := by
  have hl : (l.take k).length = k := by simp; omega
  have e : l.length - k = (l.length - (k + 1)) + 1 := by omega
  rw [List.set_append_right _ _ (by omega), hl, Nat.sub_self, e, List.replicate_succ, List.set_cons_zero, List.take_succ_eq_append_getElem hk, List.append_assoc]
  rfl
theorem Try.infoVe : (Try.prog.info? 96).map (fun i => (i.zero, i.size, i.bytes)) = some (some (.agg #[.int .i64 0, .int .i64 0, .int .i64 0]), 3, 24) := by kernel_rfl

set_option maxHeartbeats 400000 in
theorem eqVe_any (n : Ve) (w : World) :
    Calls Try.prog 109 #[n.val, n.val] w fun e w' => e = .returned (.bool true) ∧ Below w.heap.size w w' := by
  unfold Ve.val
  go_enter Try.func109, Try.ntmps109
  go_wp2
  go_ret
  exact ⟨rfl, ((Below.refl _ _).alloc (Nat.le_refl _) _).alloc (by simp) _⟩

set_option maxRecDepth 100000 in
set_option maxHeartbeats 400000 in
theorem eqVes (A A' : Option Addr) (c c' : Nat) (l : List Ve) (w : World) (h : RVe w w.heap.size A l) (h' : RVe w w.heap.size A' l) (hl : l.length ≤ 1000000000) :
    Calls Try.prog 87 #[.slice A l.length c, .slice A' l.length c'] w fun e w' => e = .returned (.bool true) ∧ Below w.heap.size w w' := by
  have H := Lib.hid h
  have H' := Lib.hid h'
  clear h h'
  go_enter Try.func87, Try.ntmps87
  go_wp2
  go_loopw [5] (fun i wr => ∃ k : Nat, i = .int .i64 k ∧ k ≤ l.length ∧ Below w.heap.size w wr) (fun i _ => l.length - (intOf i).toNat)
  case atStart => exact ⟨0, rfl, Nat.zero_le _, Below.refl _ _⟩
  case round =>
    obtain ⟨k, rfl, hk, hs⟩ := hrel
    by_cases hlt : k < l.length
    · obtain ⟨b, off, rfl, _, hc⟩ := (H.out.below hs.drew).at_ hlt
      obtain ⟨b', off', rfl, _, hc'⟩ := (H'.out.below hs.drew).at_ hlt
      have HB := Lib.hid hs
      generalize hnk : l[k] = n at hc hc'
      clear hnk hs
      have hT := eqVe_any n
      obtain ⟨nparent, nother, nroot⟩ := n
      unfold Ve.val at hT
      obtain ⟨d0, d1, d2⟩ := hc
      obtain ⟨e0, e1, e2⟩ := hc'
      simp only at d0 d1 d2 e0 e1 e2 hT
      go_wp2_with fail
      go_region_with (go_at_call 109; refine (hT _).mono ?_; rintro e w2 ⟨rfl, hb2⟩; have HB2 := Lib.hid (HB.out.drew.trans (hb2.mono HB.out.size)); clear hb2)
      all_goals
        go_wp2
        go_roundw
        case rel => exact ⟨k + 1, by go_num, by omega, HB2.out⟩
        case measure => simp [intOf]; omega
    · go_wp2
      go_ret
      exact ⟨rfl, hs⟩

def markVe (k : Nat) : Ve := ⟨(k : Int), (k : Int) + 1, (k : Int) + 2⟩
def marksVe (k n : Nat) : List Ve := (List.range n).map fun i => markVe (k + 3 * i)
theorem marksVe_length (k n : Nat) : (marksVe k n).length = n := by simp [marksVe]
theorem marksVe_get (k n i : Nat) (h : i < (marksVe k n).length) : (marksVe k n)[i] = markVe (k + 3 * i) := by simp [marksVe]
theorem markedVe_step (l : List Ve) (k j : Nat) (hj : j < l.length) : ((marksVe k l.length).take j ++ l.drop j).set j (markVe (k + 3 * j)) = (marksVe k l.length).take (j + 1) ++ l.drop (j + 1) := by
  have hm : j < (marksVe k l.length).length := by rw [marksVe_length]; exact hj
  have hl : ((marksVe k l.length).take j).length = j := by simp [marksVe_length]; omega
  rw [List.set_append_right _ _ (by omega), hl, Nat.sub_self, List.drop_eq_getElem_cons hj, List.set_cons_zero, List.take_succ_eq_append_getElem hm, marksVe_get, List.append_assoc]
  rfl

set_option maxRecDepth 100000 in
set_option maxHeartbeats 1000000 in
theorem markVes (A : Option Addr) (c base k0 : Nat) (l : List Ve) (w : World) (h : OwnVe w base (.slice A l.length c) l) (hl : l.length ≤ 1100000) (hk0 : k0 ≤ 1000000000) :
    Calls Try.prog 91 #[.slice A l.length c, .int .i64 k0] w fun e w' => e = .returned (.int .i64 ((k0 + 3 * l.length : Nat) : Int)) ∧ OwnVe w' base (.slice A l.length c) (marksVe k0 l.length) ∧ w.grownBy w' (Value.slice A l.length c).ownBlock ∧ w'.heap.size = w.heap.size := by
  go_enter Try.func91, Try.ntmps91
  go_wp2
  go_loopw [1, 5] (fun x i wr => ∃ j K : Nat, i = .int .i64 j ∧ x = .int .i64 K ∧ Hid (K = k0 + 3 * j) ∧ j ≤ l.length ∧ OwnVe wr base (.slice A l.length c) ((marksVe k0 l.length).take j ++ l.drop j) ∧ w.grownBy wr (Value.slice A l.length c).ownBlock ∧ Hid (wr.heap.size = w.heap.size)) (fun _ i _ => l.length - (intOf i).toNat)
  case atStart => exact ⟨0, k0, rfl, rfl, rfl, Nat.zero_le _, by simpa using h, ⟨rfl, rfl, rfl, Nat.le_refl _, fun _ _ _ => rfl⟩, rfl⟩
  case round =>
    obtain ⟨j, K, rfl, rfl, HK, hj, ho, hg, HZ⟩ := hrel
    have hKb : (K : Int) ≤ 2000000000 := by have := HK.out; omega
    by_cases hlt : j < l.length
    · obtain ⟨g, rfl, _, _, hcg, hfg⟩ := ho.at_ (j := j) (by simp [marksVe_length]; omega)
      have HS := Lib.hid (ho.store (j := j) (by simp [marksVe_length]; omega) (markVe K))
      have hf0 := hfg (j * 3)
      have hf1 := hfg (j * 3 + 1)
      have hf2 := hfg (j * 3 + 2)
      obtain ⟨g0, g1, g2⟩ := hcg
      have HG := Lib.hid hg
      clear ho h hfg hg
      go_wp2
      go_roundw
      case rel => exact ⟨j + 1, K + 3, by go_num, by go_num, (by have := HK.out; show _ = _; omega), by omega, by rw [← markedVe_step l k0 j hlt, ← HK.out]; exact HS.out.1, by_trans HG.out HS.out.2, by show (World.setCell _ _ _).heap.size = _; simpa [World.setCell] using HZ.out⟩
      case measure => simp [intOf]; omega
    · have ej : j = l.length := by omega
      subst ej
      have HKE : Hid ((K : Int) = ((k0 + 3 * l.length : Nat) : Int)) := by have := HK.out; show _ = _; omega
      have HO := Lib.hid ho
      have HG := Lib.hid hg
      clear ho hg h
      go_wp2
      go_ret
      exact ⟨ret_int HKE.out, by simpa [marksVe_length, List.take_of_length_le] using HO.out, HG.out, HZ.out⟩

set_option maxRecDepth 100000 in
set_option maxHeartbeats 1000000 in
theorem heldVes (A : Option Addr) (c B k0 n : Nat) (w : World) (h : RVe w B A (marksVe k0 n)) (hl : n ≤ 1100000) (hk0 : k0 ≤ 1000000000) :
    Calls Try.prog 94 #[.slice A n c, .int .i64 k0] w fun e w' => e = .returned (.int .i64 ((k0 + 3 * n : Nat) : Int)) ∧ w = w' := by
  have H := Lib.hid h
  clear h
  go_enter Try.func94, Try.ntmps94
  go_wp2
  go_loop [1, 5] (fun x i => ∃ j K : Nat, i = .int .i64 j ∧ x = .int .i64 K ∧ Hid (K = k0 + 3 * j) ∧ j ≤ n) (fun _ i => n - (intOf i).toNat)
  case atStart => exact ⟨0, k0, rfl, rfl, rfl, Nat.zero_le _⟩
  case round =>
    obtain ⟨j, K, rfl, rfl, HK, hj⟩ := hrel
    have hKb : (K : Int) ≤ 2000000000 := by have := HK.out; omega
    by_cases hlt : j < n
    · obtain ⟨b, off, rfl, _, hc⟩ := H.out.at_ (j := j) (by rw [marksVe_length]; exact hlt)
      rw [marksVe_get, ← HK.out] at hc
      obtain ⟨d0, d1, d2⟩ := hc
      simp only [markVe] at d0 d1 d2
      go_wp2
      go_round
      case rel => exact ⟨j + 1, K + 3, by go_num, by go_num, (by have := HK.out; show _ = _; omega), by omega⟩
      case measure => simp [intOf]; omega
    · have ej : j = n := by omega
      subst ej
      have HKE : Hid ((K : Int) = ((k0 + 3 * j : Nat) : Int)) := by have := HK.out; show _ = _; omega
      go_wp2
      go_ret
      exact ⟨ret_int HKE.out, rfl⟩

theorem newsVe {w : World} {b : Nat} {x : Ve} (h : VeAt w b 0 x) : ∀ j u, x.cells[j]? = some u → w.cell? ((⟨b, 0, none⟩ : Addr).add j) = some u := by
  have e : ∀ i, (⟨b, 0, none⟩ : Addr).add i = ⟨b, i, none⟩ := fun i => by unfold Addr.add; split <;> simp_all
  intro j u hu
  obtain ⟨hj, rfl⟩ := List.getElem?_eq_some_iff.1 hu
  rw [e]
  obtain ⟨c0, c1, c2⟩ := h
  simp only [Nat.zero_add] at c0 c1 c2
  have h5 : j = 0 ∨ j = 1 ∨ j = 2 := by simp [Ve.cells] at hj; omega
  rcases h5 with rfl | rfl | rfl
  · exact c0
  · exact c1
  · exact c2
/-- One is appended, in a region that draws. -/
theorem step_appendVe {i0 : TypeInfo} (hi : Try.prog.info? 96 = some i0) (hz0 : i0.zero = some (.agg #[.int .i64 0, .int .i64 0, .int .i64 0])) (hz1 : i0.size = 3) (hz2 : i0.bytes = 24)
    {ops : Array Oper} {o : Oper} {a : Act} {K : Act → World → Prop} {Q : Exit → Act → World → Prop} {E : Prop} (hgd : o.guard = none) (s x : Operand)
    (ho : o.op = .call { callee := .builtin .append, args := #[s, x], argTypes := #[53, 53] })
    (base : Nat) (v : Value) (l : List Ve) (n : Ve) (wr : World) (b : Nat) (hown : OwnVe wr base v l) (hs : a.eval s = v) (hx : a.eval x = .slice (some ⟨b, 0, none⟩) 1 1) (hn : VeAt wr b 0 n) (hlen : l.length ≤ 1000000) (hb : base ≤ wr.heap.size)
    (h : ∀ g cap w', OwnVe w' base (.slice (some ⟨g, 0, none⟩) (l.length + 1) cap) (l ++ [n]) → wr.grownBy w' v.ownBlock → (v.ownBlock = some g ∨ g = wr.heap.size) → K (a.put o.dst (.slice (some ⟨g, 0, none⟩) (l.length + 1) cap)) w') :
    if Region.wanted o (yielded ops a.tmps) = true then Oper.wp Try.prog o a wr K Q else E := by
  refine step_append_lies _ hgd s x 53 ho base 96 i0 (.agg #[.int .i64 0, .int .i64 0, .int .i64 0]) 3 24 Try.underlying53 hi hz0 hz1 hz2 rfl (by decide) v l.length _ hs hown ⟨b, 0, none⟩ 1 1 n.cells hx rfl (newsVe hn) ?_ (by decide) ?_ ?_ hb wr.heap.size rfl ?_
  · intro u hu
    simp [Ve.cells] at hu
    rcases hu with rfl | rfl | rfl <;> rfl
  · unfold maxLen; omega
  · omega
  · intro g cap w' hown' hgrow hlies _
    refine h g cap w' ?_ hgrow hlies
    unfold OwnVe
    simpa [List.flatMap_append] using hown'
/-- One is appended. -/
theorem appendVe {i0 : TypeInfo} (hi : Try.prog.info? 96 = some i0) (hz0 : i0.zero = some (.agg #[.int .i64 0, .int .i64 0, .int .i64 0])) (hz1 : i0.size = 3) (hz2 : i0.bytes = 24)
    {ops : Array Oper} {rest : List Oper} {o : Oper} {a : Act} {Q : Exit → Act → World → Prop} (hgd : o.guard = none) (s x : Operand)
    (ho : o.op = .call { callee := .builtin .append, args := #[s, x], argTypes := #[53, 53] })
    (base : Nat) (v : Value) (l : List Ve) (n : Ve) (wr : World) (b : Nat) (hown : OwnVe wr base v l) (hs : a.eval s = v) (hx : a.eval x = .slice (some ⟨b, 0, none⟩) 1 1) (hn : VeAt wr b 0 n) (hlen : l.length ≤ 1000000) (hb : base ≤ wr.heap.size)
    (h : ∀ v' w', OwnVe w' base v' (l ++ [n]) → wr.grownBy w' v.ownBlock → wpList Try.prog ops Q rest (a.put o.dst v') w') :
    wpList Try.prog ops Q (o :: rest) a wr := by
  refine wpList_append_own _ hgd s x 53 ho base 96 i0 (.agg #[.int .i64 0, .int .i64 0, .int .i64 0]) 3 24 Try.underlying53 hi hz0 hz1 hz2 rfl (by decide) v l.length _ hs hown ⟨b, 0, none⟩ 1 1 n.cells hx rfl (newsVe hn) ?_ ?_ ?_ hb ?_
  · intro u hu
    simp [Ve.cells] at hu
    rcases hu with rfl | rfl | rfl <;> rfl
  · unfold maxLen; omega
  · omega
  · intro v' w' hown' hgrow _
    refine h v' w' ?_ hgrow
    unfold OwnVe
    simpa [List.flatMap_append] using hown'
end Go.Proofs.Ytphkceiafehidaa

namespace Go.Proofs.Ytphkceiafehidaa
open Go.RowKit
set_option linter.unusedVariables false
set_option linter.unusedSimpArgs false

/-- Block q holds a history. -/
structure HB4 (w : World) (q : Nat) (side : Int) (vN vV vB : Value) : Prop where
  c0 : w.cell? ⟨q, 0, none⟩ = some (.int .i64 side)
  c1 : w.cell? ⟨q, 1, none⟩ = some vN
  c2 : w.cell? ⟨q, 2, none⟩ = some vV
  c3 : w.cell? ⟨q, 3, none⟩ = some vB
theorem HB4.below {w w' : World} {q B : Nat} {side : Int} {vN vV vB : Value} (h : HB4 w q side vN vV vB) (hb : Below B w w') (hq : q < B) : HB4 w' q side vN vV vB :=
  ⟨(hb.cell (p := ⟨q, 0, none⟩) hq).trans h.c0, (hb.cell (p := ⟨q, 1, none⟩) hq).trans h.c1, (hb.cell (p := ⟨q, 2, none⟩) hq).trans h.c2, (hb.cell (p := ⟨q, 3, none⟩) hq).trans h.c3⟩
/-- The lists of a history can be read. -/
structure RHi (w : World) (An Av Ab : Option Addr) (N : List Nd) (V : List Ve) (B : List Br) : Prop where
  n : RN w w.heap.size An N
  v : RVe w w.heap.size Av V
  b : RBr w w.heap.size Ab B
theorem RHi.below {w w' : World} {An Av Ab : Option Addr} {N : List Nd} {V : List Ve} {B : List Br} (h : RHi w An Av Ab N V B) (hb : Below w.heap.size w w') : RHi w' An Av Ab N V B :=
  ⟨(h.n.below hb).mono hb.size, (h.v.below hb).mono hb.size, (h.b.below hb).mono hb.size⟩

set_option maxRecDepth 100000 in
set_option maxHeartbeats 1000000 in
theorem eqHist_any (side : Int) (An Av Ab An' Av' Ab' : Option Addr) (cn cv cb cn' cv' cb' : Nat) (N : List Nd) (V : List Ve) (B : List Br) (w : World) (h : RHi w An Av Ab N V B) (h' : RHi w An' Av' Ab' N V B) (hN : N.length ≤ 1000000000) (hV : V.length ≤ 1000000000) (hB : B.length ≤ 1000000000) (hr : ∀ n ∈ B, n.redo.length ≤ 1000000000) :
    Calls Try.prog 60 #[.agg #[.int .i64 side, .slice An N.length cn, .slice Av V.length cv, .slice Ab B.length cb], .agg #[.int .i64 side, .slice An' N.length cn', .slice Av' V.length cv', .slice Ab' B.length cb']] w fun e w' => e = .returned (.bool true) ∧ Below w.heap.size w w' := by
  have H := Lib.hid h
  have H' := Lib.hid h'
  have HR := Lib.hid hr
  clear h h' hr
  obtain ⟨W, HW⟩ : ∃ W, W = ((w.alloc (.cells #[.int .i64 side, .slice An N.length cn, .slice Av V.length cv, .slice Ab B.length cb] 56)).alloc (.cells #[.int .i64 side, .slice An' N.length cn', .slice Av' V.length cv', .slice Ab' B.length cb'] 56)) := ⟨_, rfl⟩
  have HB : Hid (Below w.heap.size w W) := by rw [HW]; exact ((Below.refl _ _).alloc (Nat.le_refl _) _).alloc (by simp) _
  have HX : Hid (HB4 W w.heap.size side (.slice An N.length cn) (.slice Av V.length cv) (.slice Ab B.length cb) ∧ HB4 W (w.heap.size + 1) side (.slice An' N.length cn') (.slice Av' V.length cv') (.slice Ab' B.length cb') ∧ w.heap.size + 1 < W.heap.size) := by
    rw [HW]
    exact ⟨⟨by simp [go_sem], by simp [go_sem], by simp [go_sem], by simp [go_sem]⟩, ⟨by simp [go_sem], by simp [go_sem], by simp [go_sem], by simp [go_sem]⟩, by simp⟩
  obtain ⟨⟨a0, a1, a2, a3⟩, ⟨b0, b1, b2, b3⟩, _⟩ := HX.out
  go_enter Try.func60, Try.ntmps60
  go_wp2_with fail
  rw [← HW]
  clear HW a0 a1 a2 a3 b0 b1 b2 b3
  refine (eqPool_any An An' cn cn' N W (H.out.below HB.out).n (H'.out.below HB.out).n hN).mono ?_
  rintro e w1 ⟨rfl, hb⟩
  have HX1 : Hid (HB4 w1 w.heap.size side (.slice An N.length cn) (.slice Av V.length cv) (.slice Ab B.length cb) ∧ HB4 w1 (w.heap.size + 1) side (.slice An' N.length cn') (.slice Av' V.length cv') (.slice Ab' B.length cb') ∧ w.heap.size + 1 < w1.heap.size) := ⟨HX.out.1.below hb (by have := HX.out.2.2; omega), HX.out.2.1.below hb HX.out.2.2, Nat.lt_of_lt_of_le HX.out.2.2 hb.size⟩
  have HB1 := Lib.hid (HB.out.trans (hb.mono HB.out.size))
  clear hb HX HB
  obtain ⟨⟨a0, a1, a2, a3⟩, ⟨b0, b1, b2, b3⟩, _⟩ := HX1.out
  go_wp2_with fail
  refine (eqVes Av Av' cv cv' V w1 (H.out.below HB1.out).v (H'.out.below HB1.out).v hV).mono ?_
  rintro e w2 ⟨rfl, hb⟩
  have HX2 : Hid (HB4 w2 w.heap.size side (.slice An N.length cn) (.slice Av V.length cv) (.slice Ab B.length cb) ∧ HB4 w2 (w.heap.size + 1) side (.slice An' N.length cn') (.slice Av' V.length cv') (.slice Ab' B.length cb')) := ⟨HX1.out.1.below hb (by have := HX1.out.2.2; omega), HX1.out.2.1.below hb HX1.out.2.2⟩
  have HB2 := Lib.hid (HB1.out.trans (hb.mono HB1.out.size))
  clear hb HX1 HB1 a0 a1 a2 a3 b0 b1 b2 b3
  obtain ⟨⟨a0, a1, a2, a3⟩, ⟨b0, b1, b2, b3⟩⟩ := HX2.out
  go_wp2_with fail
  refine (eqBrs Ab Ab' cb cb' B w2 (H.out.below HB2.out).b (H'.out.below HB2.out).b hB HR.out).mono ?_
  rintro e w3 ⟨rfl, hb⟩
  have HB3 := Lib.hid (HB2.out.trans (hb.mono HB2.out.size))
  clear hb HX2 HB2 a0 a1 a2 a3 b0 b1 b2 b3
  go_wp2
  go_ret
  exact ⟨rfl, HB3.out⟩
end Go.Proofs.Ytphkceiafehidaa

namespace Go.Proofs.Ytphkceiafehidaa
open Go.RowKit
set_option linter.unusedVariables false
set_option linter.unusedSimpArgs false

/-- Block q holds an answer that is a history. -/
structure HB6 (w : World) (q : Nat) (side : Int) (vN vV vB vC : Value) (code : Int) : Prop where
  c0 : w.cell? ⟨q, 0, none⟩ = some (.int .i64 side)
  c1 : w.cell? ⟨q, 1, none⟩ = some vN
  c2 : w.cell? ⟨q, 2, none⟩ = some vV
  c3 : w.cell? ⟨q, 3, none⟩ = some vB
  c4 : w.cell? ⟨q, 4, none⟩ = some vC
  c5 : w.cell? ⟨q, 5, none⟩ = some (.int .i64 code)
theorem HB6.below {w w' : World} {q B : Nat} {side code : Int} {vN vV vB vC : Value} (h : HB6 w q side vN vV vB vC code) (hb : Below B w w') (hq : q < B) : HB6 w' q side vN vV vB vC code :=
  ⟨(hb.cell (p := ⟨q, 0, none⟩) hq).trans h.c0, (hb.cell (p := ⟨q, 1, none⟩) hq).trans h.c1, (hb.cell (p := ⟨q, 2, none⟩) hq).trans h.c2, (hb.cell (p := ⟨q, 3, none⟩) hq).trans h.c3, (hb.cell (p := ⟨q, 4, none⟩) hq).trans h.c4, (hb.cell (p := ⟨q, 5, none⟩) hq).trans h.c5⟩

set_option maxRecDepth 100000 in
set_option maxHeartbeats 1000000 in
theorem eqHistOut_any (side code : Int) (An Av Ab Ac An' Av' Ab' Ac' : Option Addr) (cn cv cb cc cn' cv' cb' cc' : Nat) (N : List Nd) (V : List Ve) (B : List Br) (C : List Ch) (w : World) (h : RHi w An Av Ab N V B) (h' : RHi w An' Av' Ab' N V B) (k : RCh w w.heap.size Ac C) (k' : RCh w w.heap.size Ac' C) (hN : N.length ≤ 1000000000) (hV : V.length ≤ 1000000000) (hB : B.length ≤ 1000000000) (hC : C.length ≤ 1000000000) (hr : ∀ n ∈ B, n.redo.length ≤ 1000000000) :
    Calls Try.prog 26 #[.agg #[.int .i64 side, .slice An N.length cn, .slice Av V.length cv, .slice Ab B.length cb, .slice Ac C.length cc, .int .i64 code], .agg #[.int .i64 side, .slice An' N.length cn', .slice Av' V.length cv', .slice Ab' B.length cb', .slice Ac' C.length cc', .int .i64 code]] w fun e w' => e = .returned (.bool true) ∧ Below w.heap.size w w' := by
  have H := Lib.hid h
  have H' := Lib.hid h'
  have K := Lib.hid k
  have K' := Lib.hid k'
  have HR := Lib.hid hr
  clear h h' k k' hr
  obtain ⟨W, HW⟩ : ∃ W, W = ((w.alloc (.cells #[.int .i64 side, .slice An N.length cn, .slice Av V.length cv, .slice Ab B.length cb, .slice Ac C.length cc, .int .i64 code] 59)).alloc (.cells #[.int .i64 side, .slice An' N.length cn', .slice Av' V.length cv', .slice Ab' B.length cb', .slice Ac' C.length cc', .int .i64 code] 59)) := ⟨_, rfl⟩
  have HB : Hid (Below w.heap.size w W) := by rw [HW]; exact ((Below.refl _ _).alloc (Nat.le_refl _) _).alloc (by simp) _
  have HX : Hid (HB6 W (w.heap.size) side (.slice An N.length cn) (.slice Av V.length cv) (.slice Ab B.length cb) (.slice Ac C.length cc) code ∧ HB6 W (w.heap.size + 1) side (.slice An' N.length cn') (.slice Av' V.length cv') (.slice Ab' B.length cb') (.slice Ac' C.length cc') code ∧ w.heap.size + 1 < W.heap.size) := by
    rw [HW]
    exact ⟨⟨by simp [go_sem], by simp [go_sem], by simp [go_sem], by simp [go_sem], by simp [go_sem], by simp [go_sem]⟩, ⟨by simp [go_sem], by simp [go_sem], by simp [go_sem], by simp [go_sem], by simp [go_sem], by simp [go_sem]⟩, by simp⟩
  obtain ⟨⟨a0, a1, a2, a3, a4, a5⟩, ⟨b0, b1, b2, b3, b4, b5⟩, _⟩ := HX.out
  go_enter Try.func26, Try.ntmps26
  go_wp2_with fail
  rw [← HW]
  clear HW a0 a1 a2 a3 a4 a5 b0 b1 b2 b3 b4 b5
  refine (eqHist_any side An Av Ab An' Av' Ab' cn cv cb cn' cv' cb' N V B W (H.out.below HB.out) (H'.out.below HB.out) hN hV hB HR.out).mono ?_
  rintro e w1 ⟨rfl, hb⟩
  have HX1 : Hid (HB6 w1 (w.heap.size) side (.slice An N.length cn) (.slice Av V.length cv) (.slice Ab B.length cb) (.slice Ac C.length cc) code ∧ HB6 w1 (w.heap.size + 1) side (.slice An' N.length cn') (.slice Av' V.length cv') (.slice Ab' B.length cb') (.slice Ac' C.length cc') code ∧ w.heap.size + 1 < w1.heap.size) := ⟨HX.out.1.below hb (by have := HX.out.2.2; omega), HX.out.2.1.below hb HX.out.2.2, Nat.lt_of_lt_of_le HX.out.2.2 hb.size⟩
  have HB1 := Lib.hid (HB.out.trans (hb.mono HB.out.size))
  clear hb HX HB
  obtain ⟨⟨a0, a1, a2, a3, a4, a5⟩, ⟨b0, b1, b2, b3, b4, b5⟩, _⟩ := HX1.out
  go_wp2_with fail
  refine (eqChs Ac Ac' cc cc' C w1 ((K.out.below HB1.out).mono HB1.out.size) ((K'.out.below HB1.out).mono HB1.out.size) hC).mono ?_
  rintro e w2 ⟨rfl, hb⟩
  have HX2 : Hid (HB6 w2 (w.heap.size) side (.slice An N.length cn) (.slice Av V.length cv) (.slice Ab B.length cb) (.slice Ac C.length cc) code ∧ HB6 w2 (w.heap.size + 1) side (.slice An' N.length cn') (.slice Av' V.length cv') (.slice Ab' B.length cb') (.slice Ac' C.length cc') code) := ⟨HX1.out.1.below hb (by have := HX1.out.2.2; omega), HX1.out.2.1.below hb HX1.out.2.2⟩
  have HB2 := Lib.hid (HB1.out.trans (hb.mono HB1.out.size))
  clear hb HX1 HB1 a0 a1 a2 a3 a4 a5 b0 b1 b2 b3 b4 b5
  obtain ⟨⟨a0, a1, a2, a3, a4, a5⟩, ⟨b0, b1, b2, b3, b4, b5⟩⟩ := HX2.out
  go_wp2
  go_ret
  exact ⟨rfl, HB2.out⟩

set_option maxRecDepth 100000 in
set_option maxHeartbeats 1000000 in
theorem heldHist_any (side : Int) (An Av Ab : Option Addr) (cn cv cb k0 n m : Nat) (ns : List Nat) (w : World) (hn : RN w w.heap.size An (marksN k0 n)) (hv : RVe w w.heap.size Av (marksVe (k0 + 5 * n) m)) (hb : RBr w w.heap.size Ab (marksBr (k0 + 5 * n + 3 * m) ns)) (h0 : 0 < k0) (hk : k0 ≤ 1000000) (hnn : n ≤ 1000) (hm : m ≤ 1000) (hl : ns.length ≤ 1000000) (hs : kAt (k0 + 5 * n + 3 * m) ns ns.length ≤ 1000000) :
    Calls Try.prog 64 #[.agg #[.int .i64 side, .slice An n cn, .slice Av m cv, .slice Ab ns.length cb], .int .i64 k0] w fun e w' => e = .returned (.int .i64 (kAt (k0 + 5 * n + 3 * m) ns ns.length : Nat)) ∧ Below w.heap.size w w' := by
  have HN := Lib.hid hn
  have HV := Lib.hid hv
  have HBr := Lib.hid hb
  have HKS := Lib.hid hs
  have hP := fun w h => heldPool_any An cn k0 n w h (by omega) (by omega)
  have hVe := fun B w h => heldVes Av cv B (k0 + 5 * n) m w h (by omega) (by omega)
  have hB := fun w h => heldBrs Ab cb (k0 + 5 * n + 3 * m) ns w h (by omega) hs hl
  clear hn hv hb hs
  have hk1 : k0 + 5 * n ≤ 2000000 := by omega
  have hk2 : k0 + 5 * n + 3 * m ≤ 2000000 := by omega
  generalize k0 + 5 * n + 3 * m = K2 at *
  generalize k0 + 5 * n = K1 at *
  generalize kAt K2 ns ns.length = K3 at *
  have n1 : ¬ (K1 : Int) < 0 := by omega
  have n2 : ¬ (K2 : Int) < 0 := by omega
  have n3 : ¬ (K3 : Int) < 0 := by omega
  obtain ⟨W, HW⟩ : ∃ W, W = (w.alloc (.cells #[.int .i64 side, .slice An n cn, .slice Av m cv, .slice Ab ns.length cb] 56)) := ⟨_, rfl⟩
  have HB : Hid (Below w.heap.size w W) := by rw [HW]; exact (Below.refl _ _).alloc (Nat.le_refl _) _
  have HX : Hid (HB4 W w.heap.size side (.slice An n cn) (.slice Av m cv) (.slice Ab ns.length cb) ∧ w.heap.size < W.heap.size) := by
    rw [HW]
    exact ⟨⟨by simp [go_sem], by simp [go_sem], by simp [go_sem], by simp [go_sem]⟩, by simp⟩
  obtain ⟨⟨a0, a1, a2, a3⟩, _⟩ := HX.out
  go_enter Try.func64, Try.ntmps64
  go_wp2_with fail
  rw [← HW]
  clear HW a0 a1 a2 a3
  refine (hP W ((HN.out.below HB.out).mono HB.out.size)).mono ?_
  rintro e w1 ⟨rfl, hb⟩
  have HX1 : Hid (HB4 w1 w.heap.size side (.slice An n cn) (.slice Av m cv) (.slice Ab ns.length cb) ∧ w.heap.size < w1.heap.size) := ⟨HX.out.1.below hb HX.out.2, Nat.lt_of_lt_of_le HX.out.2 hb.size⟩
  have HB1 := Lib.hid (HB.out.trans (hb.mono HB.out.size))
  clear hb HX HB
  obtain ⟨⟨a0, a1, a2, a3⟩, _⟩ := HX1.out
  go_wp2_with fail
  refine (hVe _ w1 ((HV.out.below HB1.out).mono HB1.out.size)).mono ?_
  rintro e w2 ⟨rfl, rfl⟩
  go_wp2_with fail
  refine (hB w1 ((HBr.out.below HB1.out).mono HB1.out.size)).mono ?_
  rintro e w3 ⟨rfl, hb⟩
  have HB3 := Lib.hid (HB1.out.trans (hb.mono HB1.out.size))
  clear hb a0 a1 a2 a3 HX1 HB1
  go_wp2_with fail
  go_ret
  exact ⟨rfl, HB3.out⟩

set_option maxRecDepth 100000 in
set_option maxHeartbeats 1000000 in
theorem heldHistOut_any (side code : Int) (An Av Ab Ac : Option Addr) (cn cv cb cc k0 n m p : Nat) (ns : List Nat) (w : World) (hn : RN w w.heap.size An (marksN k0 n)) (hv : RVe w w.heap.size Av (marksVe (k0 + 5 * n) m)) (hb : RBr w w.heap.size Ab (marksBr (k0 + 5 * n + 3 * m) ns)) (hc : RCh w w.heap.size Ac (marksCh (kAt (k0 + 5 * n + 3 * m) ns ns.length) p)) (h0 : 0 < k0) (hk : k0 ≤ 1000000) (hnn : n ≤ 1000) (hm : m ≤ 1000) (hl : ns.length ≤ 1000000) (hp : p ≤ 1000000) (hs : kAt (k0 + 5 * n + 3 * m) ns ns.length ≤ 1000000) :
    Calls Try.prog 28 #[.agg #[.int .i64 side, .slice An n cn, .slice Av m cv, .slice Ab ns.length cb, .slice Ac p cc, .int .i64 code], .int .i64 k0] w fun e w' => e = .returned (.int .i64 ((kAt (k0 + 5 * n + 3 * m) ns ns.length + 4 * p : Nat) : Int)) ∧ Below w.heap.size w w' := by
  have HN := Lib.hid hn
  have HV := Lib.hid hv
  have HBr := Lib.hid hb
  have HC := Lib.hid hc
  have hH := fun w hn hv hb => heldHist_any side An Av Ab cn cv cb k0 n m ns w hn hv hb h0 hk hnn hm hl hs
  have hCh := fun B w h => heldChs Ac cc B (kAt (k0 + 5 * n + 3 * m) ns ns.length) p w h (by omega) (by omega)
  clear hn hv hb hc
  generalize k0 + 5 * n + 3 * m = K2 at *
  generalize k0 + 5 * n = K1 at *
  generalize kAt K2 ns ns.length = K3 at *
  have n3 : ¬ (K3 : Int) < 0 := by omega
  have n4 : ¬ ((K3 + 4 * p : Nat) : Int) < 0 := by omega
  obtain ⟨W, HW⟩ : ∃ W, W = (w.alloc (.cells #[.int .i64 side, .slice An n cn, .slice Av m cv, .slice Ab ns.length cb, .slice Ac p cc, .int .i64 code] 59)) := ⟨_, rfl⟩
  have HB : Hid (Below w.heap.size w W) := by rw [HW]; exact (Below.refl _ _).alloc (Nat.le_refl _) _
  have HX : Hid (HB6 W w.heap.size side (.slice An n cn) (.slice Av m cv) (.slice Ab ns.length cb) (.slice Ac p cc) code ∧ w.heap.size < W.heap.size) := by
    rw [HW]
    exact ⟨⟨by simp [go_sem], by simp [go_sem], by simp [go_sem], by simp [go_sem], by simp [go_sem], by simp [go_sem]⟩, by simp⟩
  obtain ⟨⟨a0, a1, a2, a3, a4, a5⟩, _⟩ := HX.out
  go_enter Try.func28, Try.ntmps28
  go_wp2_with fail
  rw [← HW]
  clear HW a0 a1 a2 a3 a4 a5
  refine (hH W ((HN.out.below HB.out).mono HB.out.size) ((HV.out.below HB.out).mono HB.out.size) ((HBr.out.below HB.out).mono HB.out.size)).mono ?_
  rintro e w1 ⟨rfl, hb⟩
  have HX1 : Hid (HB6 w1 w.heap.size side (.slice An n cn) (.slice Av m cv) (.slice Ab ns.length cb) (.slice Ac p cc) code) := HX.out.1.below hb HX.out.2
  have HB1 := Lib.hid (HB.out.trans (hb.mono HB.out.size))
  clear hb HX HB
  obtain ⟨a0, a1, a2, a3, a4, a5⟩ := HX1.out
  go_wp2_with fail
  refine (hCh _ w1 ((HC.out.below HB1.out).mono HB1.out.size)).mono ?_
  rintro e w2 ⟨rfl, rfl⟩
  clear a0 a1 a2 a3 a4 a5 HX1
  go_wp2_with fail
  go_ret
  exact ⟨rfl, HB1.out⟩
end Go.Proofs.Ytphkceiafehidaa

namespace Go.Proofs.Ytphkceiafehidaa
open Go.RowKit
set_option linter.unusedVariables false
set_option linter.unusedSimpArgs false

theorem row_tn {p : Nat → Prop} {w w' : World} {base size n : Nat} {e : TypeId} {v : Value} {xs : List Value} (h : w.ownsRow base e size v n xs) (hT : Tn p w w') (hp : ∀ k, v.ownBlock = some k → ¬ p k) : w'.ownsRow base e size v n xs := by
  refine ⟨h.1, ?_⟩
  rcases h.2 with hn | ⟨g, cap, cur, hv, hb, hg, rest⟩
  · exact .inl hn
  · exact .inr ⟨g, cap, cur, hv, hb, (hT.block g (Array.getElem?_eq_some_iff.1 hg).1 (hp g (by rw [hv]; rfl))).trans hg, rest⟩
theorem Tn.cell {p : Nat → Prop} {w w' : World} {a : Addr} {v : Value} (hT : Tn p w w') (h : w.cell? a = some v) (hl : a.block < w.heap.size) (hp : ¬ p a.block) : w'.cell? a = some v :=
  (World.cell?_of_block (hT.block _ hl hp)).trans h
theorem Tn.of {p : Nat → Prop} {w w' : World} {row : Option Nat} (k : w.grownBy w' row) (hp : ∀ i, row = some i → p i) : Tn p w w' := (Tn.refl p w).step k hp
theorem Tn.mono {p q : Nat → Prop} {w w' : World} (h : Tn p w w') (hpq : ∀ k, p k → q k) : Tn q w w' := ⟨h.os, h.tape, h.output, h.size, fun k hk hn => h.block k hk fun hp => hn (hpq k hp)⟩
theorem Tn.trans {p : Nat → Prop} {a b c : World} (h : Tn p a b) (k : Tn p b c) : Tn p a c :=
  ⟨k.os.trans h.os, k.tape.trans h.tape, k.output.trans h.output, Nat.le_trans h.size k.size, fun i hi hp => (k.block i (Nat.lt_of_lt_of_le hi h.size) hp).trans (h.block i hi hp)⟩
theorem HB4.tn {p : Nat → Prop} {w w' : World} {q : Nat} {side : Int} {vN vV vB : Value} (h : HB4 w q side vN vV vB) (hT : Tn p w w') (hl : q < w.heap.size) (hp : ¬ p q) : HB4 w' q side vN vV vB :=
  ⟨hT.cell h.c0 hl hp, hT.cell h.c1 hl hp, hT.cell h.c2 hl hp, hT.cell h.c3 hl hp⟩
theorem OwnBr.tn {p : Nat → Prop} {w w' : World} {base n : Nat} {v : Value} {f : Nat → Br} {vs : Nat → Value} (h : OwnBr w base v n f vs) (hT : Tn p w w') (hv : ∀ k, v.ownBlock = some k → ¬ p k) (hs : ∀ j, j < n → ∀ k, (vs j).ownBlock = some k → ¬ p k) : OwnBr w' base v n f vs := by
  obtain ⟨xs, hr, hx⟩ := h.row
  exact ⟨⟨xs, row_tn hr hT hv, hx⟩, fun j hj => row_tn (h.own j hj) hT (hs j hj), h.ap1, h.ap2⟩

/-- The lists of a history that a call owns, each in blocks of its own. -/
structure OwnHi (w : World) (base : Nat) (vN vV vB : Value) (N : List Nd) (V : List Ve) (n : Nat) (f : Nat → Br) (vs : Nat → Value) : Prop where
  nd : OwnN w base vN N
  ve : OwnVe w base vV V
  br : OwnBr w base vB n f vs
  nv : ∀ k, vN.ownBlock = some k → vV.ownBlock ≠ some k
  nb : ∀ k, vN.ownBlock = some k → vB.ownBlock ≠ some k ∧ ∀ j, j < n → (vs j).ownBlock ≠ some k
  vb : ∀ k, vV.ownBlock = some k → vB.ownBlock ≠ some k ∧ ∀ j, j < n → (vs j).ownBlock ≠ some k
/-- The blocks of a history's lists. -/
def InHi (vN vV vB : Value) (n : Nat) (vs : Nat → Value) (k : Nat) : Prop := vN.ownBlock = some k ∨ vV.ownBlock = some k ∨ vB.ownBlock = some k ∨ ∃ j, j < n ∧ (vs j).ownBlock = some k
theorem OwnHi.lt {w : World} {base n : Nat} {vN vV vB : Value} {N : List Nd} {V : List Ve} {f : Nat → Br} {vs : Nat → Value} (h : OwnHi w base vN vV vB N V n f vs) {k : Nat} (hk : InHi vN vV vB n vs k) : base ≤ k ∧ k < w.heap.size := by
  rcases hk with e | e | e | ⟨j, hj, e⟩
  · exact World.ownsRow.lt h.nd k e
  · exact World.ownsRow.lt h.ve k e
  · obtain ⟨xs, hr, _⟩ := h.br.row; exact World.ownsRow.lt hr k e
  · exact World.ownsRow.lt (h.br.own j hj) k e
theorem OwnHi.keep {w w' : World} {base n : Nat} {vN vV vB : Value} {N : List Nd} {V : List Ve} {f : Nat → Br} {vs : Nat → Value} (h : OwnHi w base vN vV vB N V n f vs) (hb : Below w.heap.size w w') : OwnHi w' base vN vV vB N V n f vs :=
  ⟨h.nd.keep hb, h.ve.keep hb, h.br.keep hb, h.nv, h.nb, h.vb⟩
theorem OwnHi.setN {w w' : World} {base n : Nat} {vN vV vB : Value} {N N' : List Nd} {V : List Ve} {f : Nat → Br} {vs : Nat → Value} (h : OwnHi w base vN vV vB N V n f vs) (ho : OwnN w' base vN N') (hg : w.grownBy w' vN.ownBlock) : OwnHi w' base vN vV vB N' V n f vs := by
  have hT : Tn (fun k => vN.ownBlock = some k) w w' := Tn.of hg fun i e => e
  exact ⟨ho, row_tn h.ve hT fun k e e2 => h.nv k e2 e, h.br.tn hT (fun k e e2 => (h.nb k e2).1 e) (fun j hj k e e2 => (h.nb k e2).2 j hj e), h.nv, h.nb, h.vb⟩
theorem OwnHi.setV {w w' : World} {base n : Nat} {vN vV vB : Value} {N : List Nd} {V V' : List Ve} {f : Nat → Br} {vs : Nat → Value} (h : OwnHi w base vN vV vB N V n f vs) (ho : OwnVe w' base vV V') (hg : w.grownBy w' vV.ownBlock) : OwnHi w' base vN vV vB N V' n f vs := by
  have hT : Tn (fun k => vV.ownBlock = some k) w w' := Tn.of hg fun i e => e
  exact ⟨row_tn h.nd hT fun k e e2 => h.nv k e e2, ho, h.br.tn hT (fun k e e2 => (h.vb k e2).1 e) (fun j hj k e e2 => (h.vb k e2).2 j hj e), h.nv, h.nb, h.vb⟩
theorem OwnHi.setB {p : Nat → Prop} {w w' : World} {base n : Nat} {vN vV vB : Value} {N : List Nd} {V : List Ve} {f f' : Nat → Br} {vs : Nat → Value} (h : OwnHi w base vN vV vB N V n f vs) (ho : OwnBr w' base vB n f' vs) (hT : Tn p w w') (hp : ∀ k, p k → vB.ownBlock = some k ∨ ∃ j, j < n ∧ (vs j).ownBlock = some k) : OwnHi w' base vN vV vB N V n f' vs := by
  refine ⟨row_tn h.nd hT fun k e e2 => ?_, row_tn h.ve hT fun k e e2 => ?_, ho, h.nv, h.nb, h.vb⟩
  · rcases hp k e2 with e3 | ⟨j, hj, e3⟩
    · exact (h.nb k e).1 e3
    · exact (h.nb k e).2 j hj e3
  · rcases hp k e2 with e3 | ⟨j, hj, e3⟩
    · exact (h.vb k e).1 e3
    · exact (h.vb k e).2 j hj e3

theorem markBrs_any (A : Option Addr) (c base k0 : Nat) (ns : List Nat) (f : Nat → Br) (vs : Nat → Value) (w : World) (h : OwnBr w base (.slice A ns.length c) ns.length f vs) (hns : ∀ j, j < ns.length → (f j).redo.length = ns.getD j 0) (hk0 : 0 < k0) (hk : kAt k0 ns ns.length ≤ 1000000) (hl : ns.length ≤ 1000000) :
    Calls Try.prog 92 #[.slice A ns.length c, .int .i64 k0] w fun e w' => e = .returned (.int .i64 (kAt k0 ns ns.length : Nat)) ∧ ∃ f', OwnBr w' base (.slice A ns.length c) ns.length f' vs ∧ (∀ j, j < ns.length → f' j = mkB k0 ns j) ∧ Tn (fun k => (Value.slice A ns.length c).ownBlock = some k ∨ ∃ j, j < ns.length ∧ (vs j).ownBlock = some k) w w' := by
  by_cases h0 : 0 < ns.length
  · obtain ⟨g, rfl, _⟩ := h.at_ h0
    refine (markBrs g c base k0 ns f vs w h hns hk0 hk hl).mono ?_
    rintro e w' ⟨he, f', ho, hf, hT⟩
    refine ⟨he, f', ho, hf, hT.mono fun k hk => hk.imp (fun e => ?_) id⟩
    subst e; rfl
  · obtain rfl : ns = [] := List.length_eq_zero_iff.1 (by omega)
    have H := Lib.hid h
    clear h hns hk
    go_enter Try.func92, Try.ntmps92
    go_wp2
    go_loopw [1, 5] (fun k i wr => i = .int .i64 0 ∧ k = .int .i64 k0 ∧ wr = w) (fun _ i _ => 0)
    case atStart => exact ⟨rfl, rfl, rfl⟩
    case round =>
      obtain ⟨rfl, rfl, rfl⟩ := hrel
      go_wp2
      go_ret
      exact ⟨by simp [kAt], f, H.out, fun j hj => absurd hj (Nat.not_lt_zero _), Tn.refl _ _⟩

set_option maxHeartbeats 1000000 in
theorem markHist_any (side : Int) (An Av Ab : Option Addr) (cn cv cb base k0 : Nat) (ns : List Nat) (N : List Nd) (V : List Ve) (f : Nat → Br) (vs : Nat → Value) (w : World) (h : OwnHi w base (.slice An N.length cn) (.slice Av V.length cv) (.slice Ab ns.length cb) N V ns.length f vs) (hns : ∀ j, j < ns.length → (f j).redo.length = ns.getD j 0) (h0 : 0 < k0) (hk : k0 ≤ 1000000) (hN : N.length ≤ 1000) (hV : V.length ≤ 1000) (hl : ns.length ≤ 1000000) (hs : kAt (k0 + 5 * N.length + 3 * V.length) ns ns.length ≤ 1000000) :
    Calls Try.prog 62 #[.agg #[.int .i64 side, .slice An N.length cn, .slice Av V.length cv, .slice Ab ns.length cb], .int .i64 k0] w fun e w' => e = .returned (.int .i64 (kAt (k0 + 5 * N.length + 3 * V.length) ns ns.length : Nat)) ∧ ∃ f', OwnHi w' base (.slice An N.length cn) (.slice Av V.length cv) (.slice Ab ns.length cb) (marksN k0 N.length) (marksVe (k0 + 5 * N.length) V.length) ns.length f' vs ∧ (∀ j, j < ns.length → f' j = mkB (k0 + 5 * N.length + 3 * V.length) ns j) ∧ Tn (InHi (.slice An N.length cn) (.slice Av V.length cv) (.slice Ab ns.length cb) ns.length vs) w w' := by
  have HNS := Lib.hid hns
  have hP := fun w h => markPool_any An cn base k0 N w h (by omega) (by omega)
  have hVe := fun w h => markVes Av cv base (k0 + 5 * N.length) V w h (by omega) (by omega)
  have hB := fun w h => markBrs_any Ab cb base (k0 + 5 * N.length + 3 * V.length) ns f vs w h HNS.out (by omega) hs hl
  obtain ⟨W, HW⟩ : ∃ W, W = (w.alloc (.cells #[.int .i64 side, .slice An N.length cn, .slice Av V.length cv, .slice Ab ns.length cb] 56)) := ⟨_, rfl⟩
  have HB : Hid (Below w.heap.size w W) := by rw [HW]; exact (Below.refl _ _).alloc (Nat.le_refl _) _
  have HX : Hid (HB4 W w.heap.size side (.slice An N.length cn) (.slice Av V.length cv) (.slice Ab ns.length cb) ∧ w.heap.size < W.heap.size) := by
    rw [HW]
    exact ⟨⟨by simp [go_sem], by simp [go_sem], by simp [go_sem], by simp [go_sem]⟩, by simp⟩
  have HO := Lib.hid (h.keep HB.out)
  have HQ : Hid (¬ InHi (.slice An N.length cn) (.slice Av V.length cv) (.slice Ab ns.length cb) ns.length vs w.heap.size) := fun e => Nat.lt_irrefl _ (h.lt e).2
  have HT := Lib.hid ((Tn.refl (InHi (.slice An N.length cn) (.slice Av V.length cv) (.slice Ab ns.length cb) ns.length vs) w).more HB.out)
  clear h hns hs
  generalize k0 + 5 * N.length + 3 * V.length = K2 at *
  generalize k0 + 5 * N.length = K1 at *
  obtain ⟨⟨a0, a1, a2, a3⟩, _⟩ := HX.out
  go_enter Try.func62, Try.ntmps62
  go_wp2_with fail
  rw [← HW]
  clear HW HB a0 a1 a2 a3
  refine (hP W HO.out.nd).mono ?_
  rintro e w1 ⟨rfl, ho, hg⟩
  have hT1 : Tn (InHi (.slice An N.length cn) (.slice Av V.length cv) (.slice Ab ns.length cb) ns.length vs) W w1 := Tn.of hg fun i e => .inl e
  have HX1 : Hid (HB4 w1 w.heap.size side (.slice An N.length cn) (.slice Av V.length cv) (.slice Ab ns.length cb) ∧ w.heap.size < w1.heap.size) := ⟨HX.out.1.tn hT1 HX.out.2 HQ.out, Nat.lt_of_lt_of_le HX.out.2 hT1.size⟩
  have HO1 := Lib.hid (HO.out.setN ho hg)
  have HT1 := Lib.hid (HT.out.trans hT1)
  clear HX HO HT ho hg hT1
  obtain ⟨⟨a0, a1, a2, a3⟩, _⟩ := HX1.out
  go_wp2_with fail
  refine (hVe w1 HO1.out.ve).mono ?_
  rintro e w2 ⟨rfl, ho, hg, _⟩
  have hT1 : Tn (InHi (.slice An N.length cn) (.slice Av V.length cv) (.slice Ab ns.length cb) ns.length vs) w1 w2 := Tn.of hg fun i e => .inr (.inl e)
  have HX2 : Hid (HB4 w2 w.heap.size side (.slice An N.length cn) (.slice Av V.length cv) (.slice Ab ns.length cb) ∧ w.heap.size < w2.heap.size) := ⟨HX1.out.1.tn hT1 HX1.out.2 HQ.out, Nat.lt_of_lt_of_le HX1.out.2 hT1.size⟩
  have HO2 := Lib.hid (HO1.out.setV ho hg)
  have HT2 := Lib.hid (HT1.out.trans hT1)
  clear HX1 HO1 HT1 ho hg hT1 a0 a1 a2 a3
  obtain ⟨⟨a0, a1, a2, a3⟩, _⟩ := HX2.out
  go_wp2_with fail
  refine (hB w2 HO2.out.br).mono ?_
  rintro e w3 ⟨rfl, f', ho, hf, hT⟩
  have HO3 := Lib.hid (HO2.out.setB ho hT fun k e => e)
  have HT3 := Lib.hid (HT2.out.trans (hT.mono fun k e => .inr (.inr e)))
  have HF := Lib.hid hf
  clear ho hT hf HX2 HO2 HT2 a0 a1 a2 a3
  go_wp2_with fail
  go_ret
  exact ⟨rfl, f', HO3.out, HF.out, HT3.out⟩
end Go.Proofs.Ytphkceiafehidaa

namespace Go.Proofs.Ytphkceiafehidaa
open Go.RowKit
set_option linter.unusedVariables false
set_option linter.unusedSimpArgs false

theorem OwnHi.tn {p : Nat → Prop} {w w' : World} {base n : Nat} {vN vV vB : Value} {N : List Nd} {V : List Ve} {f : Nat → Br} {vs : Nat → Value} (h : OwnHi w base vN vV vB N V n f vs) (hT : Tn p w w') (hp : ∀ k, InHi vN vV vB n vs k → ¬ p k) : OwnHi w' base vN vV vB N V n f vs :=
  ⟨row_tn h.nd hT fun k e => hp k (.inl e), row_tn h.ve hT fun k e => hp k (.inr (.inl e)), h.br.tn hT (fun k e => hp k (.inr (.inr (.inl e)))) (fun j hj k e => hp k (.inr (.inr (.inr ⟨j, hj, e⟩)))), h.nv, h.nb, h.vb⟩
theorem HB6.tn {p : Nat → Prop} {w w' : World} {q : Nat} {side code : Int} {vN vV vB vC : Value} (h : HB6 w q side vN vV vB vC code) (hT : Tn p w w') (hl : q < w.heap.size) (hp : ¬ p q) : HB6 w' q side vN vV vB vC code :=
  ⟨hT.cell h.c0 hl hp, hT.cell h.c1 hl hp, hT.cell h.c2 hl hp, hT.cell h.c3 hl hp, hT.cell h.c4 hl hp, hT.cell h.c5 hl hp⟩

set_option maxHeartbeats 1000000 in
theorem markHistOut_any (side code : Int) (An Av Ab Ac : Option Addr) (cn cv cb cc base k0 : Nat) (ns : List Nat) (N : List Nd) (V : List Ve) (C : List Ch) (f : Nat → Br) (vs : Nat → Value) (w : World) (h : OwnHi w base (.slice An N.length cn) (.slice Av V.length cv) (.slice Ab ns.length cb) N V ns.length f vs) (hc : OwnCh w base (.slice Ac C.length cc) C) (hap : ∀ k, InHi (.slice An N.length cn) (.slice Av V.length cv) (.slice Ab ns.length cb) ns.length vs k → (Value.slice Ac C.length cc).ownBlock ≠ some k) (hns : ∀ j, j < ns.length → (f j).redo.length = ns.getD j 0) (h0 : 0 < k0) (hk : k0 ≤ 1000000) (hN : N.length ≤ 1000) (hV : V.length ≤ 1000) (hl : ns.length ≤ 1000000) (hC : C.length ≤ 1000000) (hs : kAt (k0 + 5 * N.length + 3 * V.length) ns ns.length ≤ 1000000) :
    Calls Try.prog 27 #[.agg #[.int .i64 side, .slice An N.length cn, .slice Av V.length cv, .slice Ab ns.length cb, .slice Ac C.length cc, .int .i64 code], .int .i64 k0] w fun e w' => e = .returned (.int .i64 (kAt (k0 + 5 * N.length + 3 * V.length) ns ns.length + 4 * C.length : Nat)) ∧ ∃ f', OwnHi w' base (.slice An N.length cn) (.slice Av V.length cv) (.slice Ab ns.length cb) (marksN k0 N.length) (marksVe (k0 + 5 * N.length) V.length) ns.length f' vs ∧ (∀ j, j < ns.length → f' j = mkB (k0 + 5 * N.length + 3 * V.length) ns j) ∧ OwnCh w' base (.slice Ac C.length cc) (marksCh (kAt (k0 + 5 * N.length + 3 * V.length) ns ns.length) C.length) ∧ Tn (fun k => InHi (.slice An N.length cn) (.slice Av V.length cv) (.slice Ab ns.length cb) ns.length vs k ∨ (Value.slice Ac C.length cc).ownBlock = some k) w w' := by
  have HNS := Lib.hid hns
  have HAP := Lib.hid hap
  have hH := fun w h => markHist_any side An Av Ab cn cv cb base k0 ns N V f vs w h HNS.out h0 hk hN hV hl hs
  have hM := fun w h => markChs Ac cc base (kAt (k0 + 5 * N.length + 3 * V.length) ns ns.length) C w h (by omega) (by omega)
  obtain ⟨W, HW⟩ : ∃ W, W = (w.alloc (.cells #[.int .i64 side, .slice An N.length cn, .slice Av V.length cv, .slice Ab ns.length cb, .slice Ac C.length cc, .int .i64 code] 59)) := ⟨_, rfl⟩
  have HB : Hid (Below w.heap.size w W) := by rw [HW]; exact (Below.refl _ _).alloc (Nat.le_refl _) _
  have HX : Hid (HB6 W w.heap.size side (.slice An N.length cn) (.slice Av V.length cv) (.slice Ab ns.length cb) (.slice Ac C.length cc) code ∧ w.heap.size < W.heap.size) := by
    rw [HW]
    exact ⟨⟨by simp [go_sem], by simp [go_sem], by simp [go_sem], by simp [go_sem], by simp [go_sem], by simp [go_sem]⟩, by simp⟩
  have HO := Lib.hid (h.keep HB.out)
  have HC := Lib.hid (hc.keep HB.out)
  have HQ : Hid (¬ (InHi (.slice An N.length cn) (.slice Av V.length cv) (.slice Ab ns.length cb) ns.length vs w.heap.size ∨ (Value.slice Ac C.length cc).ownBlock = some w.heap.size)) := fun e => e.elim (fun e => Nat.lt_irrefl _ (h.lt e).2) (fun e => Nat.lt_irrefl _ (World.ownsRow.lt hc _ e).2)
  have HT := Lib.hid ((Tn.refl (fun k => InHi (.slice An N.length cn) (.slice Av V.length cv) (.slice Ab ns.length cb) ns.length vs k ∨ (Value.slice Ac C.length cc).ownBlock = some k) w).more HB.out)
  clear h hc hns hs hap
  generalize kAt (k0 + 5 * N.length + 3 * V.length) ns ns.length = K3 at *
  obtain ⟨⟨a0, a1, a2, a3, a4, a5⟩, _⟩ := HX.out
  go_enter Try.func27, Try.ntmps27
  go_wp2_with fail
  rw [← HW]
  clear HW HB a0 a1 a2 a3 a4 a5
  refine (hH W HO.out).mono ?_
  rintro e w1 ⟨rfl, f', ho, hf, hT⟩
  have hT1 := Tn.mono (q := fun k => InHi (.slice An N.length cn) (.slice Av V.length cv) (.slice Ab ns.length cb) ns.length vs k ∨ (Value.slice Ac C.length cc).ownBlock = some k) hT fun k e => .inl e
  have HX1 : Hid (HB6 w1 w.heap.size side (.slice An N.length cn) (.slice Av V.length cv) (.slice Ab ns.length cb) (.slice Ac C.length cc) code ∧ w.heap.size < w1.heap.size) := ⟨HX.out.1.tn hT1 HX.out.2 HQ.out, Nat.lt_of_lt_of_le HX.out.2 hT1.size⟩
  have HO1 := Lib.hid ho
  have HF := Lib.hid hf
  have HC1 : Hid (OwnCh w1 base (.slice Ac C.length cc) C) := row_tn HC.out hT fun k e e2 => HAP.out k e2 e
  have HT1 := Lib.hid (HT.out.trans hT1)
  clear HX HO HT HC ho hf hT hT1
  obtain ⟨⟨a0, a1, a2, a3, a4, a5⟩, _⟩ := HX1.out
  go_wp2_with fail
  refine (hM w1 HC1.out).mono ?_
  rintro e w2 ⟨rfl, ho, hg, _⟩
  have hT2 : Tn (fun k => (Value.slice Ac C.length cc).ownBlock = some k) w1 w2 := Tn.of hg fun i e => e
  have HO2 := Lib.hid (HO1.out.tn hT2 fun k e e2 => HAP.out k e e2)
  have HC2 := Lib.hid ho
  have HT2 := Lib.hid (HT1.out.trans (hT2.mono fun k e => .inr e))
  clear HX1 HO1 HT1 HC1 ho hg hT2 a0 a1 a2 a3 a4 a5
  go_wp2_with fail
  go_ret
  exact ⟨rfl, f', HO2.out, HF.out, HC2.out, HT2.out⟩
end Go.Proofs.Ytphkceiafehidaa

namespace Go.Proofs.Ytphkceiafehidaa
open Go.RowKit
set_option linter.unusedVariables false

/-- The branches as a list. -/
def brList (n : Nat) (f : Nat → Br) : List Br := (List.range n).map f
theorem brList_length (n : Nat) (f : Nat → Br) : (brList n f).length = n := by simp [brList]
theorem brList_get (n : Nat) (f : Nat → Br) (i : Nat) (h : i < (brList n f).length) : (brList n f)[i] = f i := by simp [brList]
theorem brList_congr {n : Nat} {f g : Nat → Br} (h : ∀ j, j < n → f j = g j) : brList n f = brList n g :=
  List.map_congr_left fun j hj => h j (List.mem_range.1 hj)
theorem brList_marks (k0 : Nat) (ns : List Nat) : brList ns.length (mkB k0 ns) = marksBr k0 ns := rfl
theorem brList_set {n : Nat} (f : Nat → Br) {i : Nat} (hi : i < n) (x : Br) : brList n (upB f i x) = (brList n f).set i x := by
  refine List.ext_getElem (by simp [brList]) fun j h1 h2 => ?_
  rw [brList_get, List.getElem_set]
  unfold upB
  by_cases e : j = i
  · simp [e]
  · have e' : ¬ i = j := fun x => e x.symm
    simp [e, e', brList]
theorem OwnBr.form {w : World} {base n : Nat} {v : Value} {f : Nat → Br} {vs : Nat → Value} (h : OwnBr w base v n f vs) : ∃ A c, v = .slice A n c := by
  obtain ⟨xs, hr, _⟩ := h.row
  rcases hr.2 with ⟨hv, hn⟩ | ⟨g, cap, cur, hv, _⟩
  · exact ⟨none, 0, by rw [hv, hn]⟩
  · exact ⟨_, _, hv⟩
theorem OwnBr.r {w : World} {base n c : Nat} {A : Option Addr} {f : Nat → Br} {vs : Nat → Value} (h : OwnBr w base (.slice A n c) n f vs) : RBr w w.heap.size A (brList n f) := by
  by_cases hn : 0 < n
  · obtain ⟨g, rfl, _, hg, _⟩ := h.at_ hn
    refine .inr ⟨g, 0, rfl, hg, fun j hj => ?_⟩
    have hj' : j < n := by simpa [brList] using hj
    obtain ⟨g', e', _, _, c0, c1, c2, _⟩ := h.at_ hj'
    cases e'
    obtain ⟨Ar, cr, hv⟩ := OwnI.form (h.own j hj')
    have ho := h.own j hj'
    rw [hv] at c2 ho
    rw [brList_get]
    refine ⟨Ar, cr, ⟨by simpa using c0, by simpa using c1, by simpa using c2⟩, OwnI.ri ho⟩
  · obtain rfl : n = 0 := by omega
    exact .inl rfl
theorem OwnHi.r {w : World} {base n cn cv cb nn nv : Nat} {An Av Ab : Option Addr} {N : List Nd} {V : List Ve} {f : Nat → Br} {vs : Nat → Value} (h : OwnHi w base (.slice An nn cn) (.slice Av nv cv) (.slice Ab n cb) N V n f vs) : RHi w An Av Ab N V (brList n f) :=
  ⟨h.nd.rn, h.ve.r, h.br.r⟩
theorem OwnBr.lower {w : World} {base base' n : Nat} {v : Value} {f : Nat → Br} {vs : Nat → Value} (hb : base' ≤ base) (h : OwnBr w base v n f vs) : OwnBr w base' v n f vs := by
  obtain ⟨xs, hr, hx⟩ := h.row
  exact ⟨⟨xs, World.ownsRow.mono hr hb, hx⟩, fun j hj => World.ownsRow.mono (h.own j hj) hb, h.ap1, h.ap2⟩
theorem OwnHi.lower {w : World} {base base' n : Nat} {vN vV vB : Value} {N : List Nd} {V : List Ve} {f : Nat → Br} {vs : Nat → Value} (hb : base' ≤ base) (h : OwnHi w base vN vV vB N V n f vs) : OwnHi w base' vN vV vB N V n f vs :=
  ⟨h.nd.lower hb, h.ve.lower hb, h.br.lower hb, h.nv, h.nb, h.vb⟩
/-- The history that a call hands back beside a code: nothing. -/
theorem OwnHi.none_ (w : World) (base : Nat) (f : Nat → Br) (vs : Nat → Value) : OwnHi w base (.slice none 0 0) (.slice none 0 0) (.slice none 0 0) [] [] 0 f vs :=
  ⟨OwnN.nil _ _, OwnVe.nil _ _, ⟨⟨[], World.ownsRow_nil _ _ _ _, fun j hj => absurd hj (Nat.not_lt_zero _)⟩, fun j hj => absurd hj (Nat.not_lt_zero _), fun j hj => absurd hj (Nat.not_lt_zero _), fun i j hi => absurd hi (Nat.not_lt_zero _)⟩, (fun k e => nomatch e), (fun k e => nomatch e), (fun k e => nomatch e)⟩
end Go.Proofs.Ytphkceiafehidaa

namespace Go.Proofs.Ytphkceiafehidaa
open Go.RowKit
set_option linter.unusedVariables false

/-- Every block of a history's lists lies from B on, below hi. -/
def LiesHi (vN vV vB : Value) (n : Nat) (vs : Nat → Value) (B hi : Nat) : Prop := ∀ k, InHi vN vV vB n vs k → B ≤ k ∧ k < hi
theorem OwnHi.lies {w : World} {base n : Nat} {vN vV vB : Value} {N : List Nd} {V : List Ve} {f : Nat → Br} {vs : Nat → Value} (h : OwnHi w base vN vV vB N V n f vs) : LiesHi vN vV vB n vs base w.heap.size := fun _ hk => h.lt hk
theorem OwnHi.stay {w w' : World} {B hi n : Nat} {vN vV vB : Value} {N : List Nd} {V : List Ve} {f : Nat → Br} {vs : Nat → Value} (h : OwnHi w B vN vV vB N V n f vs) (hl : LiesHi vN vV vB n vs B hi) (hk : ∀ b, B ≤ b → b < hi → w'.heap[b]? = w.heap[b]?) : OwnHi w' B vN vV vB N V n f vs := by
  obtain ⟨xs, hr, hx⟩ := h.br.row
  exact ⟨ownsRow_at h.nd (fun k e => hl k (.inl e)) hk, ownsRow_at h.ve (fun k e => hl k (.inr (.inl e))) hk, ⟨⟨xs, ownsRow_at hr (fun k e => hl k (.inr (.inr (.inl e)))) hk, hx⟩, fun j hj => ownsRow_at (h.br.own j hj) (fun k e => hl k (.inr (.inr (.inr ⟨j, hj, e⟩)))) hk, h.br.ap1, h.br.ap2⟩, h.nv, h.nb, h.vb⟩
/-- A history's lists. -/
def rwHi (B hi : Nat) (vN vV vB : Value) (N : List Nd) (V : List Ve) (n : Nat) (f : Nat → Br) (vs : Nat → Value) : It := ⟨B, hi, fun w => OwnHi w B vN vV vB N V n f vs ∧ LiesHi vN vV vB n vs B hi, fun w w' hk h => ⟨h.1.stay h.2 hk, h.2⟩⟩
theorem HB6.made (w : World) (side code : Int) (vN vV vB vC : Value) (t : TypeId) : HB6 (w.alloc (.cells #[.int .i64 side, vN, vV, vB, vC, .int .i64 code] t)) w.heap.size side vN vV vB vC code := ⟨by simp [go_sem], by simp [go_sem], by simp [go_sem], by simp [go_sem], by simp [go_sem], by simp [go_sem]⟩
/-- The box of a history that was handed back. -/
def bxHO (b : Nat) (side : Int) (vN vV vB vC : Value) (code : Int) : It := ⟨b, b + 1, fun w => HB6 w b side vN vV vB vC code, fun w w' hk h => by
  have e := hk b (Nat.le_refl _) (Nat.lt_succ_self _)
  exact ⟨(cell_at e).trans h.c0, (cell_at e).trans h.c1, (cell_at e).trans h.c2, (cell_at e).trans h.c3, (cell_at e).trans h.c4, (cell_at e).trans h.c5⟩⟩
theorem RHi.below' {w w' : World} {An Av Ab : Option Addr} {N : List Nd} {V : List Ve} {B : List Br} (h : RHi w An Av Ab N V B) (hb : Below w.heap.size w w') : RHi w' An Av Ab N V B := h.below hb
end Go.Proofs.Ytphkceiafehidaa

namespace Go.Proofs.Ytphkceiafehidaa
open Go.RowKit
set_option linter.unusedVariables false
set_option linter.unusedSimpArgs false

/-- What a call that hands back a history has made: its lists in new blocks, each in its own. -/
def HOut (w w' : World) (side : Int) (N : List Nd) (V : List Ve) (n : Nat) (f : Nat → Br) (C : List Ch) (code : Int) (e : Ending) : Prop :=
  ∃ An cn Av cv Ab cb Ac cc vs, e = .returned (.agg #[.int .i64 side, .slice An N.length cn, .slice Av V.length cv, .slice Ab n cb, .slice Ac C.length cc, .int .i64 code]) ∧ OwnHi w' w.heap.size (.slice An N.length cn) (.slice Av V.length cv) (.slice Ab n cb) N V n f vs ∧ OwnCh w' w.heap.size (.slice Ac C.length cc) C ∧ (∀ k, InHi (.slice An N.length cn) (.slice Av V.length cv) (.slice Ab n cb) n vs k → (Value.slice Ac C.length cc).ownBlock ≠ some k) ∧ Below w.heap.size w w'
set_option maxHeartbeats 400000 in
theorem mHIll_any (code : Int) (f : Nat → Br) (w : World) :
    Calls Try.prog 57 #[.int .i64 code] w fun e w' => HOut w w' 0 [] [] 0 f [] code e := by
  go_enter Try.func57, Try.ntmps57
  go_wp2
  refine bodyPost_ret (v := .agg #[.int .i64 0, .slice none 0 0, .slice none 0 0, .slice none 0 0, .slice none 0 0, .int .i64 code]) (by simp [results, Try.results57, go_sem]) rfl ?_
  refine ⟨none, 0, none, 0, none, 0, none, 0, fun _ => .slice none 0 0, rfl, OwnHi.none_ _ _ _ _, OwnCh.nil _ _, ?_, (Below.refl _ _).alloc (Nat.le_refl _) _⟩
  rintro k _ e
  cases e
end Go.Proofs.Ytphkceiafehidaa

namespace Go.Proofs.Ytphkceiafehidaa
open Go.RowKit
set_option linter.unusedVariables false
set_option linter.unusedSimpArgs false

def newF : Nat → Br := fun _ => ⟨⟨#[109, 97, 105, 110]⟩, 0, []⟩
theorem row_lit {w' : World} {g base size n : Nat} {e : TypeId} {xs : List Value} (hg : w'.heap[g]? = some (.cells xs.toArray e (0, 0))) (hb : base ≤ g) (hn : xs.length = n * size) (hm : n ≤ maxLen) : w'.ownsRow base e size (.slice (some ⟨g, 0, none⟩) n n) n xs :=
  ⟨hn, .inr ⟨g, n, xs.toArray, rfl, hb, hg, Nat.le_refl _, hm, by simpa using hn, by simp [← hn]⟩⟩
theorem four_new (w : World) (o0 o1 o2 o3 : Obj) : ((((w.alloc o0).alloc o1).alloc o2).alloc o3).heap[w.heap.size + 1]? = some o1 ∧ ((((w.alloc o0).alloc o1).alloc o2).alloc o3).heap[w.heap.size + 1 + 1]? = some o2 ∧ ((((w.alloc o0).alloc o1).alloc o2).alloc o3).heap[w.heap.size + 1 + 1 + 1]? = some o3 := by
  have new : ∀ (w : World) (o : Obj) (i : Nat), i = w.heap.size → (w.alloc o).heap[i]? = some o := fun w o i e => by subst e; exact heap_alloc_new w o
  have old : ∀ (w : World) (o : Obj) (i : Nat), i < w.heap.size → (w.alloc o).heap[i]? = w.heap[i]? := fun w o i h => ((Below.refl w.heap.size w).alloc (Nat.le_refl _) o).block i h
  have sz : ∀ (w : World) (o : Obj), (w.alloc o).heap.size = w.heap.size + 1 := fun w o => by simp
  refine ⟨?_, ?_, ?_⟩
  · rw [old _ _ _ (by simp only [sz]; omega), old _ _ _ (by simp only [sz]; omega)]
    exact new _ _ _ (by simp only [sz])
  · rw [old _ _ _ (by simp only [sz]; omega)]
    exact new _ _ _ (by simp only [sz])
  · exact new _ _ _ (by simp only [sz])
/-- A new history's lists, in three blocks. -/
theorem OwnHi.new {w' : World} {b g1 g2 g3 : Nat} {f : Nat → Br} (hf : f 0 = ⟨⟨#[109, 97, 105, 110]⟩, 0, []⟩) (h1 : w'.heap[g1]? = some (.cells #[.int .i64 0, .int .i64 0, .int .i64 0, .int .i64 0, .int .i64 0] 94 (0, 0))) (h2 : w'.heap[g2]? = some (.cells #[.int .i64 (-1), .int .i64 (-1), .int .i64 0] 96 (0, 0))) (h3 : w'.heap[g3]? = some (.cells #[.string ⟨#[109, 97, 105, 110]⟩, .int .i64 0, .slice none 0 0] 98 (0, 0))) (hb : b ≤ g1 ∧ b ≤ g2 ∧ b ≤ g3) (d : g1 ≠ g2 ∧ g1 ≠ g3 ∧ g2 ≠ g3) :
    OwnHi w' b (.slice (some ⟨g1, 0, none⟩) 1 1) (.slice (some ⟨g2, 0, none⟩) 1 1) (.slice (some ⟨g3, 0, none⟩) 1 1) [⟨0, 0, 0, 0, 0⟩] [⟨-1, -1, 0⟩] 1 f (fun _ => .slice none 0 0) := by
  have hm : 1 ≤ maxLen := by simp [maxLen]
  refine ⟨row_lit (xs := [.int .i64 0, .int .i64 0, .int .i64 0, .int .i64 0, .int .i64 0]) h1 hb.1 rfl hm, row_lit (xs := [.int .i64 (-1), .int .i64 (-1), .int .i64 0]) h2 hb.2.1 rfl hm, ⟨⟨_, row_lit (xs := [.string ⟨#[109, 97, 105, 110]⟩, .int .i64 0, .slice none 0 0]) h3 hb.2.2 rfl hm, ?_⟩, ?_, ?_, ?_⟩, ?_, ?_, ?_⟩
  · intro j hj
    obtain rfl : j = 0 := by omega
    rw [hf]; exact ⟨rfl, rfl, rfl⟩
  · intro j hj
    obtain rfl : j = 0 := by omega
    rw [hf]; exact World.ownsRow_nil _ _ _ _
  · intro j hj k e; cases e
  · intro i j hi hj hn; omega
  · intro k e e2; cases e; cases e2; exact d.1 rfl
  · intro k e; cases e; exact ⟨fun e2 => by cases e2; exact d.2.1 rfl, fun j hj e2 => by cases e2⟩
  · intro k e; cases e; exact ⟨fun e2 => by cases e2; exact d.2.2 rfl, fun j hj e2 => by cases e2⟩
set_option maxHeartbeats 1000000 in
theorem mHistNew_ok (side : Int) (hs : sideOk side = true) (w : World) :
    Calls Try.prog 24 #[.int .i64 side] w fun e w' => HOut w w' side [⟨0, 0, 0, 0, 0⟩] [⟨-1, -1, 0⟩] 1 newF [] 0 e := by
  have hS := fun w => mSide_any side w
  rw [hs] at hS
  go_enter Try.func24, Try.ntmps24
  go_wp2_with fail
  refine (hS _).mono ?_
  rintro e w1 ⟨rfl, rfl⟩
  go_wp2
  refine bodyPost_ret (v := .agg #[.int .i64 side, .slice (some ⟨w.heap.size + 1, 0, none⟩) 1 1, .slice (some ⟨w.heap.size + 1 + 1, 0, none⟩) 1 1, .slice (some ⟨w.heap.size + 1 + 1 + 1, 0, none⟩) 1 1, .slice none 0 0, .int .i64 0]) (by simp [results, Try.results24, go_sem]) rfl ?_
  refine ⟨some ⟨w.heap.size + 1, 0, none⟩, 1, some ⟨w.heap.size + 1 + 1, 0, none⟩, 1, some ⟨w.heap.size + 1 + 1 + 1, 0, none⟩, 1, none, 0, fun _ => .slice none 0 0, rfl, OwnHi.new rfl ?_ ?_ ?_ (by omega) (by omega), OwnCh.nil _ _, ?_, ?_⟩
  · exact (four_new _ _ _ _ _).1
  · exact (four_new _ _ _ _ _).2.1
  · exact (four_new _ _ _ _ _).2.2
  · intro k _ e; cases e
  · exact ((((Below.refl _ _).alloc (Nat.le_refl _) _).alloc (by simp) _).alloc (by simp; omega) _).alloc (by simp; omega) _
end Go.Proofs.Ytphkceiafehidaa

namespace Go.Proofs.Ytphkceiafehidaa
open Go.RowKit
set_option linter.unusedVariables false
set_option linter.unusedSimpArgs false

def hS (side : Int) : Int := if sideOk side then side else 0
def hN (side : Int) : List Nd := if sideOk side then [⟨0, 0, 0, 0, 0⟩] else []
def hV (side : Int) : List Ve := if sideOk side then [⟨-1, -1, 0⟩] else []
def hL (side : Int) : List Nat := if sideOk side then [0] else []
def hC (side : Int) : Int := if sideOk side then 0 else 1
set_option maxHeartbeats 400000 in
theorem mHIll0 (code : Int) (w : World) :
    Calls Try.prog 57 #[.int .i64 code] w fun e w' => e = .returned (.agg #[.int .i64 0, .slice none 0 0, .slice none 0 0, .slice none 0 0, .slice none 0 0, .int .i64 code]) ∧ Below w.heap.size w w' := by
  go_enter Try.func57, Try.ntmps57
  go_wp2
  refine bodyPost_ret (v := .agg #[.int .i64 0, .slice none 0 0, .slice none 0 0, .slice none 0 0, .slice none 0 0, .int .i64 code]) (by simp [results, Try.results57, go_sem]) rfl ?_
  exact ⟨rfl, (Below.refl _ _).alloc (Nat.le_refl _) _⟩
theorem HOut.none_ (w w' : World) (f : Nat → Br) (code : Int) (hb : Below w.heap.size w w') : HOut w w' 0 [] [] 0 f [] code (.returned (.agg #[.int .i64 0, .slice none 0 0, .slice none 0 0, .slice none 0 0, .slice none 0 0, .int .i64 code])) := by
  refine ⟨none, 0, none, 0, none, 0, none, 0, fun _ => .slice none 0 0, rfl, OwnHi.none_ _ _ _ _, OwnCh.nil _ _, ?_, hb⟩
  rintro k _ e
  cases e
set_option maxHeartbeats 2000000 in
theorem mHistNew_bad (side : Int) (hs : sideOk side = false) (w : World) :
    Calls Try.prog 24 #[.int .i64 side] w fun e w' => HOut w w' 0 [] [] 0 newF [] 1 e := by
  have hsd := mSide_any side
  rw [hs] at hsd
  clear hs
  go_enter Try.func24, Try.ntmps24
  go_wp2_with fail
  refine (hsd _).mono ?_
  rintro e w1 ⟨rfl, rfl⟩
  go_wp2_with fail
  refine (mHIll0 1 _).mono ?_
  rintro e w1 ⟨rfl, hb⟩
  obtain ⟨hc, hf⟩ := bcell hb
  have hz : w.heap.size < w1.heap.size := by have := hb.size; simp at this; omega
  have HB := Lib.hid (((Below.refl w.heap.size w).alloc (Nat.le_refl _) _).trans (hb.mono (by simp)))
  clear hb
  go_wp2
  refine bodyPost_ret (v := .agg #[.int .i64 0, .slice none 0 0, .slice none 0 0, .slice none 0 0, .slice none 0 0, .int .i64 1]) (by simp [results, Try.results24, go_sem, hc]) rfl ?_
  refine HOut.none_ _ _ _ _ ?_
  repeat (refine Below.setCell ?_ (by dsimp only; omega) _)
  exact HB.out
theorem mHistNew_any (side : Int) (w : World) :
    Calls Try.prog 24 #[.int .i64 side] w fun e w' => HOut w w' (hS side) (hN side) (hV side) (hL side).length newF [] (hC side) e := by
  cases hs : sideOk side
  · have e : hS side = 0 ∧ hN side = [] ∧ hV side = [] ∧ hL side = [] ∧ hC side = 1 := by simp [hS, hN, hV, hL, hC, hs]
    rw [e.1, e.2.1, e.2.2.1, e.2.2.2.1, e.2.2.2.2]
    exact mHistNew_bad side hs w
  · have e : hS side = side ∧ hN side = [⟨0, 0, 0, 0, 0⟩] ∧ hV side = [⟨-1, -1, 0⟩] ∧ hL side = [0] ∧ hC side = 0 := by simp [hS, hN, hV, hL, hC, hs]
    rw [e.1, e.2.1, e.2.2.1, e.2.2.2.1, e.2.2.2.2]
    exact mHistNew_ok side hs w
end Go.Proofs.Ytphkceiafehidaa
