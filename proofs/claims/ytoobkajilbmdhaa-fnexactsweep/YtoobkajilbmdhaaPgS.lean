/- The program's shelf: a pool at work, that knows where each of its nodes stands. -/
import Derived.Test.YtoobkajilbmdhaaPutMo
import Derived.Test.YtoobkajilbmdhaaPgQ
import Derived.Lib.SliceRun
namespace Go.Proofs.Ytoobkajilbmdhaa
open Go.RowKit
set_option linter.unusedVariables false

/-- Block B is a map of at most n entries that tells where each node stands. -/
def MapI (w : World) (B n : Nat) (f : Nd → Option Nat) : Prop :=
  ∃ D : DataW Unit, w.ownsMap Try.prog 73 (plainElem Try.prog 2) B n D ∧ ∀ x : Nd, x.Fits → Maps.has D (keyN x) = (f x).isSome ∧ D.atKey (keyN x) (.lit (.int .i64 0)) = .lit (.int .i64 (((f x).getD 0 : Nat) : Int))
theorem MapI.made (w : World) : MapI (w.alloc (.map #[] 0)) w.heap.size 0 (fun _ => none) := ⟨.map [], World.ownsMap_made _ _ _ _, fun x _ => ⟨rfl, rfl⟩⟩
theorem MapI.lt {w : World} {B n : Nat} {f : Nd → Option Nat} (h : MapI w B n f) : B < w.heap.size := by obtain ⟨D, h1, h2⟩ := h; exact h1.lt
theorem MapI.keep {w w' : World} {B n : Nat} {f : Nd → Option Nat} (h : MapI w B n f) (hb : w'.heap[B]? = w.heap[B]?) : MapI w' B n f := by
  obtain ⟨D, ⟨es, clock, hh, F, hs, hD⟩, h2⟩ := h
  exact ⟨D, ⟨es, clock, hb.trans hh, F, hs, hD⟩, h2⟩
theorem zero_int (w : World) : (zeroValue 2).run Try.prog w = .ok (.int .i64 0) w := by kernel_rfl
theorem MapI.fits {w : World} {B n : Nat} {f g : Nd → Option Nat} (h : MapI w B n f) (e : ∀ z, f z = g z) : MapI w B n g := by
  obtain ⟨D, h1, h2⟩ := h
  exact ⟨D, h1, fun x hx => by rw [← e x]; exact h2 x hx⟩
theorem find_snoc {l : List Nd} {x : Nd} (hx : l.findIdx? (fun y => y == x) = none) (z : Nd) : (l ++ [x]).findIdx? (fun y => y == z) = if z = x then some l.length else l.findIdx? (fun y => y == z) := by
  rw [List.findIdx?_append]
  by_cases e : z = x
  · subst e
    rw [hx]
    simp
  · have : (x == z) = false := by simpa using fun h => e h.symm
    simp [e, this]

/-- The shelf in its box. -/
structure SS (base p m : Nat) (v : Value) (l : List Nd) (w : World) : Prop where
  ps : PS base p v l w
  c1 : w.cell? ⟨p, 1, none⟩ = some (.map (some m))
  map : MapI w m l.length (fun x => l.findIdx? (fun y => y == x))
  hm : base ≤ m
  nm : m ≠ p
  nr : v.ownBlock ≠ some m
theorem SS.below {base p m : Nat} {v : Value} {l : List Nd} {w w' : World} (h : SS base p m v l w) (hb : Below w.heap.size w w') : SS base p m v l w' :=
  ⟨h.ps.below hb, (hb.cell (p := ⟨p, 1, none⟩) h.ps.lt).trans h.c1, h.map.keep (hb.block m h.map.lt), h.hm, h.nm, h.nr⟩

end Go.Proofs.Ytoobkajilbmdhaa
