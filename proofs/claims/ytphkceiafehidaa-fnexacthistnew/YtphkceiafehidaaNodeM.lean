/- The model's pools: what a node may be. -/
import Derived.Test.YtphkceiafehidaaNodes
namespace Go.Proofs.Ytphkceiafehidaa
open Go.RowKit

def leafOk (x : Nd) : Bool := tileOk x.tile && x.a == 0 && x.b == 0 && x.c == 0 && x.d == 0
def splitIn (i : Nat) (x : Nd) : Bool := x.tile == -1 && inIs x.a 0 ((i : Int) - 1) && inIs x.b 0 ((i : Int) - 1) && inIs x.c 0 ((i : Int) - 1) && inIs x.d 0 ((i : Int) - 1)
def unlike (l : List Nd) (x : Nd) : Bool := x.a != x.b || x.b != x.c || x.c != x.d || !leafN (l.getD x.a.toNat ⟨0, 0, 0, 0, 0⟩)
/-- A node that may stand at place i of the pool l. -/
def nodeOk (l : List Nd) (i : Nat) (x : Nd) : Bool := if leafN x then leafOk x else splitIn i x && unlike l x

end Go.Proofs.Ytphkceiafehidaa
