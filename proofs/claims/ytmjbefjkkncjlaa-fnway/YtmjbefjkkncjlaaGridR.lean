/- A map out of its text. -/
import Derived.Test.YtmjbefjkkncjlaaGridT
import Derived.Test.YtmjbefjkkncjlaaGridF
import Derived.Deep.RegionLaw
namespace Go.Proofs.Ytmjbefjkkncjlaa
open Go.RowKit

def rdSide (s : ByteArray) : Nat → Nat
  | 0 => 0
  | k + 1 => if byteAt s k = 10 then rdSide s k + 1 else rdSide s k
def rdTiles (s : ByteArray) : Nat → List Int
  | 0 => []
  | k + 1 => if byteAt s k = 10 then rdTiles s k else rdTiles s k ++ [byteAt s k - 48]
theorem rdSide_le (s : ByteArray) (k : Nat) : rdSide s k ≤ k := by
  induction k with
  | zero => simp [rdSide]
  | succ k ih => rw [rdSide]; split <;> omega
theorem rdTiles_le (s : ByteArray) (k : Nat) : (rdTiles s k).length ≤ k := by
  induction k with
  | zero => simp [rdTiles]
  | succ k ih => rw [rdTiles]; split <;> first | (simp; omega) | omega
def readText (s : ByteArray) : ByteArray := strOfNums (textOf (rdSide s s.size) (rdTiles s s.size))
def readOk (s : ByteArray) : Bool := !s.toList.isEmpty && (readText s).toList == s.toList
def readSide (s : ByteArray) : Int := if s.size ≤ 8000 ∧ readOk s = true then (rdSide s s.size : Int) else 0
def readTiles (s : ByteArray) : List Int := if s.size ≤ 8000 ∧ readOk s = true then rdTiles s s.size else []
def readCode (s : ByteArray) : Int := if s.size ≤ 8000 then (if readOk s then 0 else 3) else 2

end Go.Proofs.Ytmjbefjkkncjlaa
