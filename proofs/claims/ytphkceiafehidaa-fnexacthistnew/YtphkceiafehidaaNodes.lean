/- Lists of nodes: what can be read, where one stands. -/
import Derived.Test.YtphkceiafehidaaGridA
import Derived.BigQuiet
import Derived.BigRegion
namespace Go.Proofs.Ytphkceiafehidaa
open Go.RowKit

/-- A node. -/
structure Nd where
  tile : Int
  a : Int
  b : Int
  c : Int
  d : Int
theorem Nd.eq_iff (x y : Nd) : x = y ↔ x.tile = y.tile ∧ x.a = y.a ∧ x.b = y.b ∧ x.c = y.c ∧ x.d = y.d := by
  constructor
  · rintro rfl; exact ⟨rfl, rfl, rfl, rfl, rfl⟩
  · obtain ⟨t, a, b, c, d⟩ := x
    obtain ⟨t', a', b', c', d'⟩ := y
    rintro ⟨h1, h2, h3, h4, h5⟩
    simp only at h1 h2 h3 h4 h5
    subst h1 h2 h3 h4 h5
    rfl
instance : DecidableEq Nd := fun x y => decidable_of_iff _ (Nd.eq_iff x y).symm
def Nd.val (n : Nd) : Value := .agg #[.int .i64 n.tile, .int .i64 n.a, .int .i64 n.b, .int .i64 n.c, .int .i64 n.d]
/-- The cells from p on hold the node n. -/
structure NdAt (w : World) (b o : Nat) (n : Nd) : Prop where
  c0 : w.cell? ⟨b, o, none⟩ = some (.int .i64 n.tile)
  c1 : w.cell? ⟨b, o + 1, none⟩ = some (.int .i64 n.a)
  c2 : w.cell? ⟨b, o + 2, none⟩ = some (.int .i64 n.b)
  c3 : w.cell? ⟨b, o + 3, none⟩ = some (.int .i64 n.c)
  c4 : w.cell? ⟨b, o + 4, none⟩ = some (.int .i64 n.d)
/-- A list of nodes that can be read below block B. -/
def RN (w : World) (B : Nat) (A : Option Addr) (l : List Nd) : Prop := l = [] ∨ ∃ b off, A = some ⟨b, off, none⟩ ∧ b < B ∧ ∀ j (h : j < l.length), NdAt w b (off + j * 5) l[j]
theorem NdAt.keep {w w' : World} {b o : Nat} {n : Nd} (h : NdAt w b o n) (hc : w'.heap[b]? = w.heap[b]?) : NdAt w' b o n :=
  ⟨(World.cell?_of_block (w := w) (a := ⟨b, o, none⟩) hc).trans h.c0, (World.cell?_of_block (w := w) (a := ⟨b, o + 1, none⟩) hc).trans h.c1, (World.cell?_of_block (w := w) (a := ⟨b, o + 2, none⟩) hc).trans h.c2, (World.cell?_of_block (w := w) (a := ⟨b, o + 3, none⟩) hc).trans h.c3, (World.cell?_of_block (w := w) (a := ⟨b, o + 4, none⟩) hc).trans h.c4⟩
theorem RN.keep {w w' : World} {B : Nat} {A : Option Addr} {l : List Nd} (h : RN w B A l) (hc : ∀ k, k < B → w'.heap[k]? = w.heap[k]?) : RN w' B A l := by
  rcases h with h | ⟨b, off, rfl, hb, hn⟩
  · exact .inl h
  · exact .inr ⟨b, off, rfl, hb, fun j hj => (hn j hj).keep (hc b hb)⟩
theorem RN.below {w w' : World} {B : Nat} {A : Option Addr} {l : List Nd} (h : RN w B A l) (hb : Below B w w') : RN w' B A l := h.keep fun k hk => hb.block k hk
theorem RN.mono {w : World} {B B' : Nat} {A : Option Addr} {l : List Nd} (h : RN w B A l) (hB : B ≤ B') : RN w B' A l := by
  rcases h with h | ⟨b, off, rfl, hb, hn⟩
  · exact .inl h
  · exact .inr ⟨b, off, rfl, by omega, hn⟩
theorem RN.still {w w' : World} {B : Nat} {A : Option Addr} {l : List Nd} (h : RN w B A l) (hs : Still w w') : RN w' B A l := h.keep fun k _ => by rw [hs.1]
theorem RN.at_ {w : World} {B j : Nat} {A : Option Addr} {l : List Nd} (h : RN w B A l) (hj : j < l.length) : ∃ b off, A = some ⟨b, off, none⟩ ∧ b < B ∧ NdAt w b (off + j * 5) l[j] := by
  rcases h with h | ⟨b, off, rfl, hb, hn⟩
  · subst h; simp at hj
  · exact ⟨b, off, rfl, hb, hn j hj⟩

/-- Where the node x stands, or -1. -/
def findN (l : List Nd) (x : Nd) : Int := match l.findIdx? (fun y => y == x) with | some k => (k : Int) | none => -1
/-- Two nodes that are other: the first field in which they are. -/
theorem nd_ne {nt na nb nc nd xt xa xb xc xd : Int} (h : ¬ (⟨nt, na, nb, nc, nd⟩ : Nd) = ⟨xt, xa, xb, xc, xd⟩) : ¬ nt = xt ∨ (nt = xt ∧ ¬ na = xa) ∨ (nt = xt ∧ na = xa ∧ ¬ nb = xb) ∨ (nt = xt ∧ na = xa ∧ nb = xb ∧ ¬ nc = xc) ∨ (nt = xt ∧ na = xa ∧ nb = xb ∧ nc = xc ∧ ¬ nd = xd) := by
  rw [Nd.eq_iff] at h
  simp only at h
  omega
theorem findN_at {l : List Nd} {x : Nd} {k : Nat} (hk : k < l.length) (h : ∀ j (hj : j < l.length), j < k → l[j] ≠ x) (he : l[k] = x) : findN l x = k := by
  unfold findN
  have : l.findIdx? (fun y => y == x) = some k := by
    rw [List.findIdx?_eq_some_iff_getElem]
    refine ⟨hk, by simpa using he, fun j hj => ?_⟩
    have := h j (by omega) hj
    simpa using this
  rw [this]
theorem findN_none {l : List Nd} {x : Nd} (h : ∀ j (hj : j < l.length), l[j] ≠ x) : findN l x = -1 := by
  unfold findN
  have : l.findIdx? (fun y => y == x) = none := by
    rw [List.findIdx?_eq_none_iff]
    intro y hy
    obtain ⟨j, hj, rfl⟩ := List.getElem_of_mem hy
    have := h j hj
    simpa using this
  rw [this]
def leafN (n : Nd) : Bool := decide (0 ≤ n.tile)
end Go.Proofs.Ytphkceiafehidaa
