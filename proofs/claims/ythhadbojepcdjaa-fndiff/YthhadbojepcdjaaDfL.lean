/- What is other: changes between two maps, taken back, done; a merge of three: the mathematics. -/
import Derived.Test.YthhadbojepcdjaaChL
import Derived.Test.YthhadbojepcdjaaGridA
namespace Go.Proofs.Ythhadbojepcdjaa
open Go.RowKit
set_option linter.unusedVariables false

/-- The change at place k, if there is one. -/
def diffAt (side : Int) (la lb : List Int) (k : Nat) : List Ch := if la.getD k 0 = lb.getD k 0 then [] else [⟨(k : Int) % side, (k : Int) / side, la.getD k 0, lb.getD k 0⟩]
def diffTo (side : Int) (la lb : List Int) : Nat → List Ch
  | 0 => []
  | k + 1 => diffTo side la lb k ++ diffAt side la lb k
theorem diffTo_len (side : Int) (la lb : List Int) (k : Nat) : (diffTo side la lb k).length ≤ k := by
  induction k with
  | zero => simp [diffTo]
  | succ k ih =>
    have : (diffAt side la lb k).length ≤ 1 := by unfold diffAt; split <;> simp
    simp only [diffTo, List.length_append]; omega
/-- Both maps are right, and of one side. -/
def oneSide (sa : Int) (la : List Int) (sb : Int) (lb : List Int) : Bool := gridRight sa la && gridRight sb lb && sa == sb
def diffOf (sa : Int) (la : List Int) (sb : Int) (lb : List Int) : List Ch := if oneSide sa la sb lb then diffTo sa la lb la.length else []
theorem diffOf_len (sa : Int) (la : List Int) (sb : Int) (lb : List Int) : (diffOf sa la sb lb).length ≤ 64 := by
  unfold diffOf
  split
  · next h =>
    simp only [oneSide, Bool.and_eq_true] at h
    exact Nat.le_trans (diffTo_len _ _ _ _) (right_len h.1.1)
  · simp

def Ch.flip (c : Ch) : Ch := ⟨c.x, c.y, c.n, c.o⟩
def invL (l : List Ch) : List Ch := if l.length ≤ 64 then (l.map Ch.flip).reverse else []
theorem invL_len (l : List Ch) : (invL l).length ≤ 64 := by unfold invL; split <;> simp_all
/-- The last k of a list, the last first, each taken back. -/
def invTo (l : List Ch) (k : Nat) : List Ch := ((l.map Ch.flip).reverse).take k
theorem invTo_step (l : List Ch) (k : Nat) (h : k < l.length) : invTo l (k + 1) = invTo l k ++ [(l[l.length - 1 - k]'(by omega)).flip] := by
  unfold invTo
  rw [List.take_succ_eq_append_getElem (by simpa using h), List.getElem_reverse]
  simp
theorem invTo_all (l : List Ch) (h : l.length ≤ 64) : invTo l l.length = invL l := by
  unfold invTo invL
  rw [if_pos h, List.take_of_length_le (by simp)]

/-- Where a change lies. -/
def chAt (side : Int) (c : Ch) : Nat := (c.y * side + c.x).toNat
/-- What one change comes to: 0, or the fault. -/
def doCode (side : Int) (t : List Int) (c : Ch) : Int := if gridIn side c.x c.y && tileOk c.n then (if t.getD (chAt side c) 0 = c.o then 0 else 10) else 8
def doAll (side : Int) : List Ch → List Int → Int × List Int
  | [], t => (0, t)
  | c :: cs, t => if doCode side t c = 0 then doAll side cs (t.set (chAt side c) c.n) else (doCode side t c, [])
/-- What DiffDo answers: code, side, tiles. -/
def doOut (side : Int) (t : List Int) (l : List Ch) : Int × Int × List Int :=
  if l.length ≤ 400 then
    (if gridRight side t && decide (l.length ≤ 64) then ((doAll side l t).1, (if (doAll side l t).1 = 0 then side else 0), (doAll side l t).2) else (1, 0, []))
  else (2, 0, [])
theorem doAll_len (side : Int) : ∀ (l : List Ch) (t : List Int), (doAll side l t).2.length ≤ t.length
  | [], t => Nat.le_refl _
  | c :: cs, t => by
    rw [doAll]
    split
    · exact Nat.le_trans (doAll_len side cs _) (by simp)
    · simp
theorem doOut_len (side : Int) (t : List Int) (l : List Ch) : (doOut side t l).2.2.length ≤ 64 := by
  unfold doOut
  split
  · split
    · next h =>
      rw [Bool.and_eq_true] at h
      exact Nat.le_trans (doAll_len _ _ _) (right_len h.1)
    · simp
  · simp

def mTile (o a b : Int) : Int := if b = o ∨ a = b then a else if a = o then b else a
def mClash (o a b : Int) : Bool := decide (¬ (b = o ∨ a = b) ∧ ¬ a = o)
def mergeAt (lo la lb : List Int) (k : Nat) : Int := mTile (lo.getD k 0) (la.getD k 0) (lb.getD k 0)
def clashAt (side : Int) (lo la lb : List Int) (k : Nat) : List Ch := if mClash (lo.getD k 0) (la.getD k 0) (lb.getD k 0) then [⟨(k : Int) % side, (k : Int) / side, la.getD k 0, lb.getD k 0⟩] else []
def mergeTo (lo la lb : List Int) : Nat → List Int
  | 0 => []
  | k + 1 => mergeTo lo la lb k ++ [mergeAt lo la lb k]
def clashTo (side : Int) (lo la lb : List Int) : Nat → List Ch
  | 0 => []
  | k + 1 => clashTo side lo la lb k ++ clashAt side lo la lb k
theorem mergeTo_len (lo la lb : List Int) (k : Nat) : (mergeTo lo la lb k).length = k := by
  induction k with
  | zero => rfl
  | succ k ih => simp [mergeTo, ih]
theorem clashTo_len (side : Int) (lo la lb : List Int) (k : Nat) : (clashTo side lo la lb k).length ≤ k := by
  induction k with
  | zero => simp [clashTo]
  | succ k ih =>
    have : (clashAt side lo la lb k).length ≤ 1 := by unfold clashAt; split <;> simp
    simp only [clashTo, List.length_append]; omega
def threeRight (so : Int) (lo : List Int) (sa : Int) (la : List Int) (sb : Int) (lb : List Int) : Bool := gridRight so lo && gridRight sa la && gridRight sb lb && sa == so && sb == so
/-- What Merge answers: code, side, tiles, clashes. -/
def mergeOut (so : Int) (lo : List Int) (sa : Int) (la : List Int) (sb : Int) (lb : List Int) : Int × Int × List Int × List Ch :=
  if threeRight so lo sa la sb lb then (0, so, mergeTo lo la lb lo.length, clashTo so lo la lb lo.length) else (1, 0, [], [])
theorem mergeOut_len (so : Int) (lo : List Int) (sa : Int) (la : List Int) (sb : Int) (lb : List Int) : (mergeOut so lo sa la sb lb).2.2.1.length ≤ 64 ∧ (mergeOut so lo sa la sb lb).2.2.2.length ≤ 64 := by
  unfold mergeOut
  split
  · next h =>
    simp only [threeRight, Bool.and_eq_true] at h
    have := right_len h.1.1.1.1
    have h2 := clashTo_len so lo la lb lo.length
    have h1 := mergeTo_len lo la lb lo.length
    simp only
    omega
  · simp
/-- A copy of a, merged up to place k. -/
theorem merge_keep (lo la lb : List Int) (k : Nat) (hk : k < la.length) (h : mergeAt lo la lb k = la[k]) : mergeTo lo la lb k ++ la.drop k = mergeTo lo la lb (k + 1) ++ la.drop (k + 1) := by
  rw [mergeTo, List.append_assoc, h, List.drop_eq_getElem_cons hk]; rfl
theorem merge_set (lo la lb : List Int) (k : Nat) (hk : k < la.length) : (mergeTo lo la lb k ++ la.drop k).set k (mergeAt lo la lb k) = mergeTo lo la lb (k + 1) ++ la.drop (k + 1) := by
  rw [List.set_append_right _ _ (by rw [mergeTo_len]; exact Nat.le_refl _), mergeTo_len, Nat.sub_self, List.drop_eq_getElem_cons hk, List.set_cons_zero, mergeTo, List.append_assoc]; rfl
end Go.Proofs.Ythhadbojepcdjaa
