/- Lists of nodes: what can be read, where one stands. -/
import Derived.Test.YtoobkajilbmdhaaGridA
import Derived.BigQuiet
import Derived.BigRegion
namespace Go.Proofs.Ytoobkajilbmdhaa
open Go.RowKit

/-- A node. -/
structure Nd where
  tile : Int
  a : Int
  b : Int
  c : Int
  d : Int
theorem Nd.eq_iff (x y : Nd) : x = y ↔ x.tile = y.tile ∧ x.a = y.a ∧ x.b = y.b ∧ x.c = y.c ∧ x.d = y.d := by
  constructor
  · rintro rfl; exact ⟨rfl, rfl, rfl, rfl, rfl⟩
  · obtain ⟨t, a, b, c, d⟩ := x
    obtain ⟨t', a', b', c', d'⟩ := y
    rintro ⟨h1, h2, h3, h4, h5⟩
    simp only at h1 h2 h3 h4 h5
    subst h1 h2 h3 h4 h5
    rfl
instance : DecidableEq Nd := fun x y => decidable_of_iff _ (Nd.eq_iff x y).symm
def Nd.val (n : Nd) : Value := .agg #[.int .i64 n.tile, .int .i64 n.a, .int .i64 n.b, .int .i64 n.c, .int .i64 n.d]
/-- The cells from p on hold the node n. -/
structure NdAt (w : World) (b o : Nat) (n : Nd) : Prop where
  c0 : w.cell? ⟨b, o, none⟩ = some (.int .i64 n.tile)
  c1 : w.cell? ⟨b, o + 1, none⟩ = some (.int .i64 n.a)
  c2 : w.cell? ⟨b, o + 2, none⟩ = some (.int .i64 n.b)
  c3 : w.cell? ⟨b, o + 3, none⟩ = some (.int .i64 n.c)
  c4 : w.cell? ⟨b, o + 4, none⟩ = some (.int .i64 n.d)
/-- A list of nodes that can be read below block B. -/
def RN (w : World) (B : Nat) (A : Option Addr) (l : List Nd) : Prop := l = [] ∨ ∃ b off, A = some ⟨b, off, none⟩ ∧ b < B ∧ ∀ j (h : j < l.length), NdAt w b (off + j * 5) l[j]
theorem NdAt.keep {w w' : World} {b o : Nat} {n : Nd} (h : NdAt w b o n) (hc : w'.heap[b]? = w.heap[b]?) : NdAt w' b o n :=
  ⟨(World.cell?_of_block (w := w) (a := ⟨b, o, none⟩) hc).trans h.c0, (World.cell?_of_block (w := w) (a := ⟨b, o + 1, none⟩) hc).trans h.c1, (World.cell?_of_block (w := w) (a := ⟨b, o + 2, none⟩) hc).trans h.c2, (World.cell?_of_block (w := w) (a := ⟨b, o + 3, none⟩) hc).trans h.c3, (World.cell?_of_block (w := w) (a := ⟨b, o + 4, none⟩) hc).trans h.c4⟩
theorem RN.keep {w w' : World} {B : Nat} {A : Option Addr} {l : List Nd} (h : RN w B A l) (hc : ∀ k, k < B → w'.heap[k]? = w.heap[k]?) : RN w' B A l := by
  rcases h with h | ⟨b, off, rfl, hb, hn⟩
  · exact .inl h
  · exact .inr ⟨b, off, rfl, hb, fun j hj => (hn j hj).keep (hc b hb)⟩
theorem RN.below {w w' : World} {B : Nat} {A : Option Addr} {l : List Nd} (h : RN w B A l) (hb : Below B w w') : RN w' B A l := h.keep fun k hk => hb.block k hk
theorem RN.mono {w : World} {B B' : Nat} {A : Option Addr} {l : List Nd} (h : RN w B A l) (hB : B ≤ B') : RN w B' A l := by
  rcases h with h | ⟨b, off, rfl, hb, hn⟩
  · exact .inl h
  · exact .inr ⟨b, off, rfl, by omega, hn⟩
theorem RN.still {w w' : World} {B : Nat} {A : Option Addr} {l : List Nd} (h : RN w B A l) (hs : Still w w') : RN w' B A l := h.keep fun k _ => by rw [hs.1]
theorem RN.at_ {w : World} {B j : Nat} {A : Option Addr} {l : List Nd} (h : RN w B A l) (hj : j < l.length) : ∃ b off, A = some ⟨b, off, none⟩ ∧ b < B ∧ NdAt w b (off + j * 5) l[j] := by
  rcases h with h | ⟨b, off, rfl, hb, hn⟩
  · subst h; simp at hj
  · exact ⟨b, off, rfl, hb, hn j hj⟩

/-- Where the node x stands, or -1. -/
def findN (l : List Nd) (x : Nd) : Int := match l.findIdx? (fun y => y == x) with | some k => (k : Int) | none => -1
/-- Two nodes that are other: the first field in which they are. -/
theorem nd_ne {nt na nb nc nd xt xa xb xc xd : Int} (h : ¬ (⟨nt, na, nb, nc, nd⟩ : Nd) = ⟨xt, xa, xb, xc, xd⟩) : ¬ nt = xt ∨ (nt = xt ∧ ¬ na = xa) ∨ (nt = xt ∧ na = xa ∧ ¬ nb = xb) ∨ (nt = xt ∧ na = xa ∧ nb = xb ∧ ¬ nc = xc) ∨ (nt = xt ∧ na = xa ∧ nb = xb ∧ nc = xc ∧ ¬ nd = xd) := by
  rw [Nd.eq_iff] at h
  simp only at h
  omega
theorem findN_at {l : List Nd} {x : Nd} {k : Nat} (hk : k < l.length) (h : ∀ j (hj : j < l.length), j < k → l[j] ≠ x) (he : l[k] = x) : findN l x = k := by
  unfold findN
  have : l.findIdx? (fun y => y == x) = some k := by
    rw [List.findIdx?_eq_some_iff_getElem]
    refine ⟨hk, by simpa using he, fun j hj => ?_⟩
    have := h j (by omega) hj
    simpa using this
  rw [this]
theorem findN_none {l : List Nd} {x : Nd} (h : ∀ j (hj : j < l.length), l[j] ≠ x) : findN l x = -1 := by
  unfold findN
  have : l.findIdx? (fun y => y == x) = none := by
    rw [List.findIdx?_eq_none_iff]
    intro y hy
    obtain ⟨j, hj, rfl⟩ := List.getElem_of_mem hy
    have := h j hj
    simpa using this
  rw [this]
def leafN (n : Nd) : Bool := decide (0 ≤ n.tile)
set_option maxHeartbeats 400000 in
theorem mLeaf_any (n : Nd) (w : World) :
    Calls Try.prog 46 #[n.val] w fun e w' => e = .returned (.bool (leafN n)) ∧ Below w.heap.size w w' := by
  unfold Nd.val
  go_enter Try.func46, Try.ntmps46
  go_wp2
  go_ret
  exact ⟨rfl, (Below.refl _ _).alloc (Nat.le_refl _) _⟩

set_option maxRecDepth 100000 in
set_option maxHeartbeats 400000 in
theorem mFind_any (A : Option Addr) (c : Nat) (l : List Nd) (x : Nd) (w : World) (h : RN w w.heap.size A l) (hl : l.length ≤ 1000000000) :
    Calls Try.prog 52 #[.agg #[.slice A l.length c], x.val] w fun e w' => e = .returned (.int .i64 (findN l x)) ∧ Below w.heap.size w w' := by
  have H := Lib.hid h
  clear h
  obtain ⟨xt, xa, xb, xc, xd⟩ := x
  unfold Nd.val
  go_enter Try.func52, Try.ntmps52
  go_wp2
  have hbw : Below w.heap.size w ((w.alloc (.cells #[.slice A l.length c] 29)).alloc (.cells #[.int .i64 xt, .int .i64 xa, .int .i64 xb, .int .i64 xc, .int .i64 xd] 73)) := ((Below.refl _ _).alloc (Nat.le_refl _) _).alloc (by simp) _
  have hp0 : ((w.alloc (.cells #[.slice A l.length c] 29)).alloc (.cells #[.int .i64 xt, .int .i64 xa, .int .i64 xb, .int .i64 xc, .int .i64 xd] 73)).cell? ⟨w.heap.size, 0, none⟩ = some (.slice A l.length c) := by simp [go_sem]
  have hx0 : NdAt ((w.alloc (.cells #[.slice A l.length c] 29)).alloc (.cells #[.int .i64 xt, .int .i64 xa, .int .i64 xb, .int .i64 xc, .int .i64 xd] 73)) (w.heap.size + 1) 0 ⟨xt, xa, xb, xc, xd⟩ := ⟨by simp [go_sem], by simp [go_sem], by simp [go_sem], by simp [go_sem], by simp [go_sem]⟩
  have HR := Lib.hid (H.out.below hbw)
  have HP := Lib.hid hp0
  have HX := Lib.hid hx0
  clear hp0 hx0
  generalize (w.alloc (.cells #[.slice A l.length c] 29)).alloc (.cells #[.int .i64 xt, .int .i64 xa, .int .i64 xb, .int .i64 xc, .int .i64 xd] 73) = W at *
  go_loopw [5] (fun i wr => ∃ k : Nat, i = .int .i64 k ∧ k ≤ l.length ∧ Still W wr ∧ ∀ j (hj : j < l.length), j < k → l[j] ≠ ⟨xt, xa, xb, xc, xd⟩) (fun i _ => l.length - (intOf i).toNat)
  case atStart => exact ⟨0, rfl, Nat.zero_le _, Still.refl _, fun j _ h => absurd h (Nat.not_lt_zero _)⟩
  case round =>
    obtain ⟨k, rfl, hk, hs, hall⟩ := hrel
    have HA := Lib.hid hall
    have HST := Lib.hid hs
    have hp1 : wr.cell? ⟨w.heap.size, 0, none⟩ = some (.slice A l.length c) := (World.cell?_of_block (w := W) (a := ⟨w.heap.size, 0, none⟩) (by rw [hs.1])).trans HP.out
    obtain ⟨e0, e1, e2, e3, e4⟩ := HX.out.keep (w' := wr) (by rw [hs.1])
    by_cases hlt : k < l.length
    · obtain ⟨b, off, rfl, _, hn⟩ := (HR.out.still hs).at_ hlt
      generalize hnk : l[k] = n at hn
      obtain ⟨nt, na, nb, nc, nd⟩ := n
      obtain ⟨d0, d1, d2, d3, d4⟩ := hn
      clear hs hall
      by_cases hq : (⟨nt, na, nb, nc, nd⟩ : Nd) = ⟨xt, xa, xb, xc, xd⟩
      · have HQ : Hid (l[k] = ⟨xt, xa, xb, xc, xd⟩) := hnk.trans hq
        cases hq
        clear hnk
        go_wp2_with fail
        go_region
        go_wp2
        go_ret
        exact ⟨ret_int (findN_at hlt HA.out HQ.out).symm, (hbw.trans (HST.out.below _)).drew⟩
      · have HQ : Hid (l[k] ≠ ⟨xt, xa, xb, xc, xd⟩) := by
          show _ ≠ _
          rw [hnk]; exact hq
        have h5 := nd_ne hq
        clear hq hnk
        rcases h5 with h5 | ⟨rfl, h5⟩ | ⟨rfl, rfl, h5⟩ | ⟨rfl, rfl, rfl, h5⟩ | ⟨rfl, rfl, rfl, rfl, h5⟩
        all_goals
          go_wp2_with fail
          go_region
          go_wp2
          go_roundw
          case rel => exact ⟨k + 1, by go_num, by omega, HST.out.drew, fun j hj hjk => by
            by_cases e : j = k
            · subst e; exact HQ.out
            · exact HA.out j hj (by omega)⟩
          case measure => simp [intOf]; omega
    · clear hs hall
      go_wp2
      go_ret
      exact ⟨ret_int (findN_none fun j hj => HA.out j hj (by omega)).symm, hbw.trans (HST.out.below _)⟩
end Go.Proofs.Ytoobkajilbmdhaa
