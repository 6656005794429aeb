/- The model's pools: which are right. -/
import Derived.Test.YtphkceiafehidaaNodeM
import Derived.Deep.RegionHeld3
import Derived.Deep.RegionWith
namespace Go.Proofs.Ytphkceiafehidaa
open Go.RowKit

/-- A pool that is right. -/
def poolRight (l : List Nd) : Bool := decide (l.length ≤ 200 ∧ ∀ j (h : j < l.length), nodeOk l j l[j] = true ∧ findN l l[j] = (j : Int))

/-- The pool stands in its box, its nodes can be read. -/
structure PB (w : World) (A : Option Addr) (c : Nat) (l : List Nd) (wr : World) : Prop where
  c0 : wr.cell? ⟨w.heap.size, 0, none⟩ = some (.slice A l.length c)
  ri : RN wr w.heap.size A l
  bel : Below w.heap.size w wr
  siz : w.heap.size < wr.heap.size
theorem PB.below {w : World} {A : Option Addr} {c : Nat} {l : List Nd} {wr wr' : World} (h : PB w A c l wr) (hb : Below wr.heap.size wr wr') : PB w A c l wr' :=
  ⟨(hb.cell (p := ⟨w.heap.size, 0, none⟩) h.siz).trans h.c0, h.ri.below (hb.mono (Nat.le_of_lt h.siz)), h.bel.trans (hb.mono (Nat.le_of_lt h.siz)), Nat.lt_of_lt_of_le h.siz hb.size⟩
theorem PB.rn {w : World} {A : Option Addr} {c : Nat} {l : List Nd} {wr : World} (h : PB w A c l wr) : RN wr wr.heap.size A l := h.ri.mono (Nat.le_of_lt h.siz)
theorem PB.made (w : World) (A : Option Addr) (c : Nat) (l : List Nd) (h : RN w w.heap.size A l) : PB w A c l (w.alloc (.cells #[.slice A l.length c] 52)) :=
  ⟨by simp [go_sem], h.below ((Below.refl _ _).alloc (Nat.le_refl _) _), (Below.refl _ _).alloc (Nat.le_refl _) _, by simp⟩

theorem PB.held {w : World} {b off c k : Nat} {l : List Nd} {wr : World} {nt na nb nc nd : Int} (h : PB w (some ⟨b, off, none⟩) c l wr) (hk : k < l.length) (hn : l[k] = ⟨nt, na, nb, nc, nd⟩) :
    wr.cell? ⟨w.heap.size, 0, none⟩ = some (.slice (some ⟨b, off, none⟩) l.length c) ∧ wr.cell? ⟨b, off + k * 5, none⟩ = some (.int .i64 nt) ∧ wr.cell? ⟨b, off + k * 5 + 1, none⟩ = some (.int .i64 na) ∧ wr.cell? ⟨b, off + k * 5 + 2, none⟩ = some (.int .i64 nb) ∧ wr.cell? ⟨b, off + k * 5 + 3, none⟩ = some (.int .i64 nc) ∧ wr.cell? ⟨b, off + k * 5 + 4, none⟩ = some (.int .i64 nd) := by
  obtain ⟨b', off', he, _, hn'⟩ := h.ri.at_ hk
  simp only [Option.some.injEq, Addr.mk.injEq, and_true] at he
  obtain ⟨rfl, rfl⟩ := he
  rw [hn] at hn'
  exact ⟨h.c0, hn'.c0, hn'.c1, hn'.c2, hn'.c3, hn'.c4⟩

end Go.Proofs.Ytphkceiafehidaa
