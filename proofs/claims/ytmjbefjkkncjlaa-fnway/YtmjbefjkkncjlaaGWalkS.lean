/- The exact law of SameGrid, walked for any program whose function keeps its contract. -/
import Derived.Test.YtmjbefjkkncjlaaGWalkF
namespace Go.Proofs.Ytmjbefjkkncjlaa
open Go.RowKit

/-- The two maps that came in stand in their boxes. -/
structure PP (w : World) (side side' : Int) (v v' : Value) (wr : World) : Prop where
  p : GB wr w.heap.size side v
  p' : GB wr (w.heap.size + 1) side' v'
  bel : Below w.heap.size w wr
  sz : w.heap.size + 1 < wr.heap.size
theorem PP.below {w : World} {side side' : Int} {v v' : Value} {wr wr' : World} (h : PP w side side' v v' wr) (hb : Below wr.heap.size wr wr') : PP w side side' v v' wr' :=
  ⟨h.p.below hb (by have := h.sz; omega), h.p'.below hb h.sz, h.bel.trans (hb.mono h.bel.size), Nat.lt_of_lt_of_le h.sz hb.size⟩
theorem PP.drew {w : World} {side side' : Int} {v v' : Value} {wr : World} (h : PP w side side' v v' wr) : PP w side side' v v' wr.drew := h.below (Below.refl _ _).drew

theorem RI.below' {w w' : World} {A : Option Addr} {l : List Int} (h : RI w w.heap.size A l) (hb : Below w.heap.size w w') : RI w' w'.heap.size A l := (h.below hb).mono hb.size
def sliceA : Value → Option Addr | .slice A _ _ => A | _ => none
/-- Behind the program's answer: the boxes of both maps that were handed to it as well. -/
structure XX (w : World) (side side' : Int) (v v' vx vy : Value) (bx by' : Nat) (l l' : List Int) (wr : World) : Prop where
  pp : PP w side side' v v' wr
  x : GB wr bx side vx
  y : GB wr by' side' vy
  ox : RI wr wr.heap.size (sliceA vx) l
  oy : RI wr wr.heap.size (sliceA vy) l'
  hx : bx < wr.heap.size
  hy : by' < wr.heap.size
theorem XX.below {w : World} {side side' : Int} {v v' vx vy : Value} {bx by' : Nat} {l l' : List Int} {wr wr' : World} (h : XX w side side' v v' vx vy bx by' l l' wr) (hb : Below wr.heap.size wr wr') : XX w side side' v v' vx vy bx by' l l' wr' :=
  ⟨h.pp.below hb, h.x.below hb h.hx, h.y.below hb h.hy, h.ox.below' hb, h.oy.below' hb, Nat.lt_of_lt_of_le h.hx hb.size, Nat.lt_of_lt_of_le h.hy hb.size⟩
theorem XX.drew {w : World} {side side' : Int} {v v' vx vy : Value} {bx by' : Nat} {l l' : List Int} {wr : World} (h : XX w side side' v v' vx vy bx by' l l' wr) : XX w side side' v v' vx vy bx by' l l' wr.drew := h.below (Below.refl _ _).drew

end Go.Proofs.Ytmjbefjkkncjlaa
