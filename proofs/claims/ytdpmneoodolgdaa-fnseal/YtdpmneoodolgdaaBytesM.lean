/- Texts as lists of bytes. -/
import Derived.Test.YtdpmneoodolgdaaJoin
import Derived.Lib.SmallJoins
import Derived.Lib.Split
namespace Go.Proofs.Ytdpmneoodolgdaa
open Go.RowKit

def IsB (l : List Int) : Prop := ∀ b ∈ l, 0 ≤ b ∧ b < 256
theorem isB_bytesOf (s : ByteArray) : IsB (bytesOf s) := by
  intro b hb
  obtain ⟨x, _, rfl⟩ := List.mem_map.1 hb
  have := UInt8.toNat_lt x
  omega
theorem bytesOf_strOfNums {l : List Int} (h : IsB l) : bytesOf (strOfNums l) = l := by
  unfold bytesOf
  rw [strOfNums_data, List.map_map]
  conv => rhs; rw [← List.map_id l]
  apply List.map_congr_left
  intro b hb
  have := h b hb
  simp
  omega
theorem bytesOf_inj {a b : ByteArray} (h : bytesOf a = bytesOf b) : a = b := by rw [← strOfNums_bytesOf a, ← strOfNums_bytesOf b, h]
theorem bytesOf_append (a b : ByteArray) : bytesOf (a ++ b) = bytesOf a ++ bytesOf b := by
  unfold bytesOf
  rw [Joins.data_append, List.map_append]

theorem bytesOf_getElem (s : ByteArray) (k : Nat) (h : k < s.size) : (bytesOf s)[k]? = some (byteAt s k) := by
  have h' : k < s.data.toList.length := h
  unfold bytesOf byteAt
  rw [List.getElem?_map, List.getElem?_eq_getElem h']
  simp [Array.getD, h]
theorem bytesOf_extract (s : ByteArray) (k : Nat) : bytesOf (s.extract 0 k) = (bytesOf s).take k := by
  unfold bytesOf
  rw [Lib.extract_from_zero, List.map_take]


end Go.Proofs.Ytdpmneoodolgdaa
