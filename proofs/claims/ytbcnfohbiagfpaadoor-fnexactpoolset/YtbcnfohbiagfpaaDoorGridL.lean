/- Maps as the exact laws hold them: copied, compared, counted, marked and looked at again. -/
import Derived.Test.YtbcnfohbiagfpaaDoorInts
import Derived.Deep.Onto
namespace Go.Proofs.YtbcnfohbiagfpaaDoor
open Go.RowKit

theorem bcell {W w1 : World} {B : Nat} (hb : Below B W w1) : (∀ b o, b < B → w1.cell? ⟨b, o, none⟩ = W.cell? ⟨b, o, none⟩) ∧ (∀ b o, b < B → w1.frozen? ⟨b, o, none⟩ = W.frozen? ⟨b, o, none⟩) :=
  ⟨fun b o h => hb.cell (p := ⟨b, o, none⟩) h, fun b o h => hb.frozen (p := ⟨b, o, none⟩) h⟩
def gridV (side : Int) (A : Option Addr) (n c : Nat) : Value := .agg #[.int .i64 side, .slice A n c]
def gridOutV (side : Int) (A : Option Addr) (n c : Nat) (code : Int) : Value := .agg #[.int .i64 side, .slice A n c, .int .i64 code]

theorem alloc_size (w : World) (o : Obj) : (w.alloc o).heap.size = w.heap.size + 1 := by simp
theorem OwnI.lower {e : TypeId} {k : IntKind} {w : World} {base base' : Nat} {v : Value} {l : List Int} (hb : base' ≤ base) (h : OwnI e k w base v l) : OwnI e k w base' v l := World.ownsRow.mono h hb
theorem OwnI.set_below {e : TypeId} {k : IntKind} {w : World} {base : Nat} {v : Value} {l : List Int} {a : Addr} (ha : a.block < base) (u : Value) (h : OwnI e k w base v l) : OwnI e k (w.setCell a u) base v l := ownsRow_setCell_below h ha u

def ToGridPost (w : World) (side : Int) (l : List Int) (e : Ending) (w' : World) : Prop :=
  ∃ g, e = .returned (.agg #[.int .i64 side, .slice (some ⟨g, 0, none⟩) l.length l.length]) ∧ OwnI 2 .i64 w' w.heap.size (.slice (some ⟨g, 0, none⟩) l.length l.length) l ∧ Below w.heap.size w w'

set_option maxHeartbeats 400000 in
theorem eqGrid_any (side : Int) (A A' : Option Addr) (c c' : Nat) (l : List Int) (w : World) (h : RI w w.heap.size A l) (h' : RI w w.heap.size A' l) (hl : l.length ≤ 1000000000) :
    Calls Tryd.prog 77 #[.agg #[.int .i64 side, .slice A l.length c], .agg #[.int .i64 side, .slice A' l.length c']] w fun e w' => e = .returned (.bool true) ∧ Below w.heap.size w w' := by
  have H := Lib.hid h
  have H' := Lib.hid h'
  clear h h'
  have hbw : Below w.heap.size w ((w.alloc (.cells #[.int .i64 side, .slice A l.length c] 28)).alloc (.cells #[.int .i64 side, .slice A' l.length c'] 28)) := ((Below.refl _ _).alloc (Nat.le_refl _) _).alloc (by simp) _
  have HT := Lib.hid (eqInts A A' c c' _ l _ (H.out.below hbw) (H'.out.below hbw) hl)
  go_enter Tryd.func77, Tryd.ntmps77
  go_wp2_with fail
  refine HT.out.mono ?_
  rintro e w1 ⟨rfl, hs⟩
  have hb2 : Below w.heap.size w w1 := hbw.trans (hs.below _)
  clear HT H H' hs
  go_wp2
  go_ret
  exact ⟨rfl, hb2⟩

set_option maxHeartbeats 400000 in
theorem eqGridOut_any (side code : Int) (A A' : Option Addr) (c c' : Nat) (l : List Int) (w : World) (h : RI w w.heap.size A l) (h' : RI w w.heap.size A' l) (hl : l.length ≤ 1000000000) :
    Calls Tryd.prog 32 #[.agg #[.int .i64 side, .slice A l.length c, .int .i64 code], .agg #[.int .i64 side, .slice A' l.length c', .int .i64 code]] w fun e w' => e = .returned (.bool true) ∧ Below w.heap.size w w' := by
  have H := Lib.hid h
  have H' := Lib.hid h'
  clear h h'
  have hbw : Below w.heap.size w ((w.alloc (.cells #[.int .i64 side, .slice A l.length c, .int .i64 code] 37)).alloc (.cells #[.int .i64 side, .slice A' l.length c', .int .i64 code] 37)) := ((Below.refl _ _).alloc (Nat.le_refl _) _).alloc (by simp) _
  have HT := Lib.hid (eqGrid_any side A A' c c' l _ ((H.out.below hbw).mono (by simp; omega)) ((H'.out.below hbw).mono (by simp; omega)) hl)
  go_enter Tryd.func32, Tryd.ntmps32
  go_wp2_with fail
  refine HT.out.mono ?_
  rintro e w1 ⟨rfl, hb⟩
  have hb2 : Below w.heap.size w w1 := hbw.trans (hb.mono (by simp; omega))
  obtain ⟨hc, hf⟩ := bcell hb
  clear HT H H' hb
  go_wp2
  go_ret
  exact ⟨rfl, hb2⟩

theorem below_by {w w' : World} (h : Below w.heap.size w w') (row : Option Nat) : w.grownBy w' row := ⟨h.os, h.tape, h.output, h.size, fun k hk _ => h.block k hk⟩
theorem by_trans {a b c : World} {row : Option Nat} (h : a.grownBy b row) (k : b.grownBy c row) : a.grownBy c row := ⟨k.os.trans h.os, k.tape.trans h.tape, k.output.trans h.output, Nat.le_trans h.size k.size, fun i hi hne => (k.block i (Nat.lt_of_lt_of_le hi h.size) hne).trans (h.block i hi hne)⟩

set_option maxHeartbeats 400000 in
theorem markGrid_any (side : Int) (A : Option Addr) (c base k0 : Nat) (l : List Int) (w : World) (h : OwnI 2 .i64 w base (.slice A l.length c) l) (hl : l.length ≤ 1000000000) (hk0 : k0 ≤ 1000000000) :
    Calls Tryd.prog 80 #[.agg #[.int .i64 side, .slice A l.length c], .int .i64 k0] w fun e w' => e = .returned (.int .i64 ((k0 + l.length : Nat) : Int)) ∧ OwnI 2 .i64 w' base (.slice A l.length c) (marks k0 l.length) ∧ w.grownBy w' (Value.slice A l.length c).ownBlock := by
  have HT := Lib.hid (markInts A c base k0 l _ (h.alloc (.cells #[.int .i64 side, .slice A l.length c] 28)) hl hk0)
  clear h
  have hbw : Below w.heap.size w (w.alloc (.cells #[.int .i64 side, .slice A l.length c] 28)) := (Below.refl _ _).alloc (Nat.le_refl _) _
  go_enter Tryd.func80, Tryd.ntmps80
  go_wp2_with fail
  refine HT.out.mono ?_
  rintro e w1 ⟨rfl, ho, hg, hz⟩
  have HO := Lib.hid ho
  have HG := Lib.hid (by_trans (below_by hbw _) hg)
  clear HT ho hg hz hbw
  go_wp2
  go_ret
  exact ⟨rfl, HO.out, HG.out⟩

set_option maxHeartbeats 400000 in
theorem markGridOut_any (side code : Int) (A : Option Addr) (c base k0 : Nat) (l : List Int) (w : World) (h : OwnI 2 .i64 w base (.slice A l.length c) l) (hl : l.length ≤ 1000000000) (hk0 : k0 ≤ 1000000000) :
    Calls Tryd.prog 35 #[.agg #[.int .i64 side, .slice A l.length c, .int .i64 code], .int .i64 k0] w fun e w' => e = .returned (.int .i64 ((k0 + l.length : Nat) : Int)) ∧ OwnI 2 .i64 w' base (.slice A l.length c) (marks k0 l.length) ∧ w.grownBy w' (Value.slice A l.length c).ownBlock := by
  have HT := Lib.hid (markGrid_any side A c base k0 l _ (h.alloc (.cells #[.int .i64 side, .slice A l.length c, .int .i64 code] 37)) hl hk0)
  clear h
  have hbw : Below w.heap.size w (w.alloc (.cells #[.int .i64 side, .slice A l.length c, .int .i64 code] 37)) := (Below.refl _ _).alloc (Nat.le_refl _) _
  go_enter Tryd.func35, Tryd.ntmps35
  go_wp2_with fail
  refine HT.out.mono ?_
  rintro e w1 ⟨rfl, ho, hg⟩
  have HO := Lib.hid ho
  have HG := Lib.hid (by_trans (below_by hbw _) hg)
  clear HT ho hg hbw
  go_wp2
  go_ret
  exact ⟨rfl, HO.out, HG.out⟩

set_option maxHeartbeats 400000 in
theorem heldGrid_any (side : Int) (A : Option Addr) (c k0 n : Nat) (w : World) (h : RI w w.heap.size A (marks k0 n)) (hl : n ≤ 1000000000) (hk0 : k0 ≤ 1000000000) :
    Calls Tryd.prog 81 #[.agg #[.int .i64 side, .slice A n c], .int .i64 k0] w fun e w' => e = .returned (.int .i64 ((k0 + n : Nat) : Int)) ∧ Below w.heap.size w w' := by
  have hbw : Below w.heap.size w (w.alloc (.cells #[.int .i64 side, .slice A n c] 28)) := (Below.refl _ _).alloc (Nat.le_refl _) _
  have HT := Lib.hid (heldInts A c _ k0 n _ (h.below hbw) hl hk0)
  clear h
  go_enter Tryd.func81, Tryd.ntmps81
  go_wp2_with fail
  refine HT.out.mono ?_
  rintro e w1 ⟨rfl, rfl⟩
  clear HT
  go_wp2
  go_ret
  exact ⟨rfl, hbw⟩

set_option maxHeartbeats 400000 in
theorem heldGridOut_any (side code : Int) (A : Option Addr) (c k0 n : Nat) (w : World) (h : RI w w.heap.size A (marks k0 n)) (hl : n ≤ 1000000000) (hk0 : k0 ≤ 1000000000) :
    Calls Tryd.prog 36 #[.agg #[.int .i64 side, .slice A n c, .int .i64 code], .int .i64 k0] w fun e w' => e = .returned (.int .i64 ((k0 + n : Nat) : Int)) ∧ Below w.heap.size w w' := by
  have hbw : Below w.heap.size w (w.alloc (.cells #[.int .i64 side, .slice A n c, .int .i64 code] 37)) := (Below.refl _ _).alloc (Nat.le_refl _) _
  have HT := Lib.hid (heldGrid_any side A c k0 n _ ((h.below hbw).mono (by simp)) hl hk0)
  clear h
  go_enter Tryd.func36, Tryd.ntmps36
  go_wp2_with fail
  refine HT.out.mono ?_
  rintro e w1 ⟨rfl, hb⟩
  have hb2 : Below w.heap.size w w1 := hbw.trans (hb.mono (by simp))
  clear HT hb hbw
  go_wp2
  go_ret
  exact ⟨rfl, hb2⟩
end Go.Proofs.YtbcnfohbiagfpaaDoor
