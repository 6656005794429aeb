/- PutText of the program and of its model. -/
import Derived.Test.YtdpmneoodolgdaaDoorNum
import Derived.Test.YtdpmneoodolgdaaDoorJoin
namespace Go.Proofs.YtdpmneoodolgdaaDoor
open Go.RowKit

def putTextOf (s : ByteArray) : ByteArray := if s.size ≤ 8000 then putNumOf s.size ++ s else ⟨#[]⟩
theorem putNumOf_size (n : Int) (h0 : -9223372036854775808 ≤ n) (h1 : n ≤ 9223372036854775807) : (putNumOf n).size ≤ 10 := by
  rw [putNumOf, strOfNums_size]
  have := foldZ_range h0 h1
  exact numBytes_ten (by omega)

set_option maxHeartbeats 400000 in
theorem putText_impl (s : ByteArray) (w : World) :
    Calls Tryd.prog 11 #[.string s] w fun e w' => e = .returned (.string (putTextOf s)) ∧ Below w.heap.size w w' := by
  by_cases h : s.size ≤ 8000
  · have HP : Hid (putTextOf s = putNumOf s.size ++ s) := if_pos h
    have hsz := putNumOf_size s.size (by omega) (by omega)
    have hpn := putNum_impl s.size w (by omega) (by omega)
    generalize putNumOf s.size = p at *
    go_enter Tryd.func11, Tryd.ntmps11
    go_wp2_with (first | (go_at_call 7; refine hpn.mono ?_; rintro e w1 ⟨rfl, hb1⟩) | (go_at_call 27; refine (join_two p s _ (by omega)).mono ?_; rintro e w2 ⟨rfl, hb2⟩))
    go_ret
    exact ⟨ret_string HP.out.symm, hb1.trans (hb2.mono hb1.size)⟩
  · have HP : Hid (putTextOf s = ⟨#[]⟩) := if_neg h
    go_enter Tryd.func11, Tryd.ntmps11
    go_wp2_with fail
    go_ret
    exact ⟨ret_string HP.out.symm, Below.refl _ _⟩

set_option maxHeartbeats 400000 in
theorem putText_spec (s : ByteArray) (w : World) :
    Calls Tryd.prog 12 #[.string s] w fun e w' => e = .returned (.string (putTextOf s)) ∧ Below w.heap.size w w' := by
  by_cases h : s.size ≤ 8000
  · have HP : Hid (putTextOf s = putNumOf s.size ++ s) := if_pos h
    have hsz := putNumOf_size s.size (by omega) (by omega)
    have hpn := putNum_spec s.size w (by omega) (by omega)
    generalize putNumOf s.size = p at *
    go_enter Tryd.func12, Tryd.ntmps12
    go_wp2_with (go_at_call 8; refine hpn.mono ?_; rintro e w1 ⟨rfl, hb1⟩)
    go_ret
    exact ⟨ret_string HP.out.symm, hb1⟩
  · have HP : Hid (putTextOf s = ⟨#[]⟩) := if_neg h
    go_enter Tryd.func12, Tryd.ntmps12
    go_wp2_with fail
    go_ret
    exact ⟨ret_string HP.out.symm, Below.refl _ _⟩

end Go.Proofs.YtdpmneoodolgdaaDoor
