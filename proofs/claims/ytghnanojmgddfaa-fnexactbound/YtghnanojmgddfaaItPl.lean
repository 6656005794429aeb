/- Lists of places as the exact laws hold them. -/
import Derived.Test.YtghnanojmgddfaaTbW
namespace Go.Proofs.Ytghnanojmgddfaa
open Go.RowKit
set_option linter.unusedVariables false
def rwQ (B hi : Nat) (v : Value) (l : List Pl) : It := ⟨B, hi, fun w => OwnPl w B v l ∧ Lies v B hi, fun w w' hk h => ⟨ownsRow_at h.1 h.2 hk, h.2⟩⟩
theorem OwnPl.lies {w : World} {base : Nat} {v : Value} {l : List Pl} (h : OwnPl w base v l) : Lies v base w.heap.size := World.ownsRow.lt h
theorem szPls_b (A : Option Addr) (n c : Nat) (left : Int) (w : World) (hn : n ≤ 9223372036854775807) (h0 : 0 ≤ left) (h1 : left ≤ 1048576) :
    Calls Try.prog 76 #[.slice A n c, .int .i64 left] w fun e w' => e = .returned (.int .i64 (if (n : Int) ≤ left then left - n else -1)) ∧ Below w.heap.size w w' := (szPls A n c left w hn h0 h1).mono fun e w' ⟨h, k⟩ => ⟨h, k ▸ Below.refl _ _⟩
theorem toPls_b (A : Option Addr) (c : Nat) (l : List Pl) (w : World) (h : RPl w w.heap.size A l) (hl : l.length ≤ 1000000000) :
    Calls Try.prog 77 #[.slice A l.length c] w fun e w' => ∃ g, e = .returned (.slice (some ⟨g, 0, none⟩) l.length l.length) ∧ OwnPl w' w.heap.size (.slice (some ⟨g, 0, none⟩) l.length l.length) l ∧ Below w.heap.size w w' := (toPls A c l w h hl).mono fun e w' ⟨h1, h2, h3⟩ => ⟨_, h1, h2, h3⟩
end Go.Proofs.Ytghnanojmgddfaa
