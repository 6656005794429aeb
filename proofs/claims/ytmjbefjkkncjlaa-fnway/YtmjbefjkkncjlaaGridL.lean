/- Maps as the exact laws hold them: copied, compared, counted, marked and looked at again. -/
import Derived.Test.YtmjbefjkkncjlaaInts
import Derived.Deep.Onto
namespace Go.Proofs.Ytmjbefjkkncjlaa
open Go.RowKit

theorem bcell {W w1 : World} {B : Nat} (hb : Below B W w1) : (∀ b o, b < B → w1.cell? ⟨b, o, none⟩ = W.cell? ⟨b, o, none⟩) ∧ (∀ b o, b < B → w1.frozen? ⟨b, o, none⟩ = W.frozen? ⟨b, o, none⟩) :=
  ⟨fun b o h => hb.cell (p := ⟨b, o, none⟩) h, fun b o h => hb.frozen (p := ⟨b, o, none⟩) h⟩
def gridV (side : Int) (A : Option Addr) (n c : Nat) : Value := .agg #[.int .i64 side, .slice A n c]
def gridOutV (side : Int) (A : Option Addr) (n c : Nat) (code : Int) : Value := .agg #[.int .i64 side, .slice A n c, .int .i64 code]

set_option maxHeartbeats 400000 in
theorem szGrid_any (side left : Int) (A : Option Addr) (n c : Nat) (w : World) (hn : n ≤ 9223372036854775807) (h0 : 0 ≤ left) (h1 : left ≤ 1048576) :
    Calls Try.prog 17 #[.agg #[.int .i64 side, .slice A n c], .int .i64 left] w fun e w' => e = .returned (.int .i64 (if (n : Int) ≤ left then left - n else -1)) ∧ Below w.heap.size w w' := by
  have hs := fun w => szInts A n c left w hn h0 h1
  by_cases h : (n : Int) ≤ left
  · rw [if_pos h] at *
    go_enter Try.func17, Try.ntmps17
    go_wp2_with (go_at_call 45; refine (hs _).mono ?_; rintro e w1 ⟨rfl, rfl⟩)
    go_ret
    exact ⟨rfl, (Below.refl _ _).alloc (Nat.le_refl _) _⟩
  · rw [if_neg h] at *
    go_enter Try.func17, Try.ntmps17
    go_wp2_with (go_at_call 45; refine (hs _).mono ?_; rintro e w1 ⟨rfl, rfl⟩)
    go_ret
    exact ⟨rfl, (Below.refl _ _).alloc (Nat.le_refl _) _⟩

theorem alloc_size (w : World) (o : Obj) : (w.alloc o).heap.size = w.heap.size + 1 := by simp
theorem OwnI.lower {e : TypeId} {k : IntKind} {w : World} {base base' : Nat} {v : Value} {l : List Int} (hb : base' ≤ base) (h : OwnI e k w base v l) : OwnI e k w base' v l := World.ownsRow.mono h hb
theorem OwnI.set_below {e : TypeId} {k : IntKind} {w : World} {base : Nat} {v : Value} {l : List Int} {a : Addr} (ha : a.block < base) (u : Value) (h : OwnI e k w base v l) : OwnI e k (w.setCell a u) base v l := ownsRow_setCell_below h ha u

def ToGridPost (w : World) (side : Int) (l : List Int) (e : Ending) (w' : World) : Prop :=
  ∃ g, e = .returned (.agg #[.int .i64 side, .slice (some ⟨g, 0, none⟩) l.length l.length]) ∧ OwnI 2 .i64 w' w.heap.size (.slice (some ⟨g, 0, none⟩) l.length l.length) l ∧ Below w.heap.size w w'

set_option maxHeartbeats 400000 in
theorem toGrid_any (side : Int) (A : Option Addr) (c : Nat) (l : List Int) (w : World) (h : RI w w.heap.size A l) (hl : l.length ≤ 1000000000) :
    Calls Try.prog 18 #[.agg #[.int .i64 side, .slice A l.length c]] w (ToGridPost w side l) := by
  have H := Lib.hid h
  clear h
  have hbw : Below w.heap.size w (((w.alloc (.cells #[.int .i64 side, .slice A l.length c] 42)).alloc (.cells #[.int .i64 0, .slice none 0 0] 25)).alloc (.cells #[.int .i64 side, .slice none 0 0] 25)) := (((Below.refl _ _).alloc (Nat.le_refl _) _).alloc (by simp) _).alloc (by simp; omega) _
  have HT := Lib.hid (toInts A c l _ ((H.out.below hbw).mono (by simp; omega)) hl)
  go_enter Try.func18, Try.ntmps18
  go_wp2_with fail
  refine HT.out.mono ?_
  rintro e w1 ⟨rfl, ho, hb⟩
  have hb2 : Below w.heap.size w w1 := hbw.trans (hb.mono (by simp; omega))
  have hz : w.heap.size + 1 + 1 < w1.heap.size := by have := hb.size; simp at this; omega
  obtain ⟨hc, hf⟩ := bcell hb
  simp only [alloc_size] at ho
  have HO := Lib.hid ho
  clear ho HT H
  go_wp2
  refine bodyPost_ret (v := .agg #[.int .i64 side, .slice (some ⟨w.heap.size + 1 + 1 + 1, 0, none⟩) l.length l.length]) (by simp [results, Try.results18, go_sem, hc]) rfl ⟨_, rfl, ?_, ?_⟩
  · exact (OwnI.lower (base := w.heap.size + 1 + 1 + 1) (by omega) (OwnI.set_below (by show w.heap.size + 1 < _; omega) _ (OwnI.set_below (by show w.heap.size + 1 < _; omega) _ (OwnI.set_below (by show w.heap.size + 1 + 1 < _; omega) _ HO.out))))
  · exact ((hb2.setCell (by simp; omega) _).setCell (by simp) _).setCell (by simp) _

set_option maxHeartbeats 400000 in
theorem eqGrid_any (side : Int) (A A' : Option Addr) (c c' : Nat) (l : List Int) (w : World) (h : RI w w.heap.size A l) (h' : RI w w.heap.size A' l) (hl : l.length ≤ 1000000000) :
    Calls Try.prog 21 #[.agg #[.int .i64 side, .slice A l.length c], .agg #[.int .i64 side, .slice A' l.length c']] w fun e w' => e = .returned (.bool true) ∧ Below w.heap.size w w' := by
  have H := Lib.hid h
  have H' := Lib.hid h'
  clear h h'
  have hbw : Below w.heap.size w ((w.alloc (.cells #[.int .i64 side, .slice A l.length c] 25)).alloc (.cells #[.int .i64 side, .slice A' l.length c'] 25)) := ((Below.refl _ _).alloc (Nat.le_refl _) _).alloc (by simp) _
  have HT := Lib.hid (eqInts A A' c c' _ l _ (H.out.below hbw) (H'.out.below hbw) hl)
  go_enter Try.func21, Try.ntmps21
  go_wp2_with fail
  refine HT.out.mono ?_
  rintro e w1 ⟨rfl, hs⟩
  have hb2 : Below w.heap.size w w1 := hbw.trans (hs.below _)
  clear HT H H' hs
  go_wp2
  go_ret
  exact ⟨rfl, hb2⟩

theorem below_by {w w' : World} (h : Below w.heap.size w w') (row : Option Nat) : w.grownBy w' row := ⟨h.os, h.tape, h.output, h.size, fun k hk _ => h.block k hk⟩
theorem by_trans {a b c : World} {row : Option Nat} (h : a.grownBy b row) (k : b.grownBy c row) : a.grownBy c row := ⟨k.os.trans h.os, k.tape.trans h.tape, k.output.trans h.output, Nat.le_trans h.size k.size, fun i hi hne => (k.block i (Nat.lt_of_lt_of_le hi h.size) hne).trans (h.block i hi hne)⟩

set_option maxHeartbeats 400000 in
theorem markGrid_any (side : Int) (A : Option Addr) (c base k0 : Nat) (l : List Int) (w : World) (h : OwnI 2 .i64 w base (.slice A l.length c) l) (hl : l.length ≤ 1000000000) (hk0 : k0 ≤ 1000000000) :
    Calls Try.prog 22 #[.agg #[.int .i64 side, .slice A l.length c], .int .i64 k0] w fun e w' => e = .returned (.int .i64 ((k0 + l.length : Nat) : Int)) ∧ OwnI 2 .i64 w' base (.slice A l.length c) (marks k0 l.length) ∧ w.grownBy w' (Value.slice A l.length c).ownBlock := by
  have HT := Lib.hid (markInts A c base k0 l _ (h.alloc (.cells #[.int .i64 side, .slice A l.length c] 25)) hl hk0)
  clear h
  have hbw : Below w.heap.size w (w.alloc (.cells #[.int .i64 side, .slice A l.length c] 25)) := (Below.refl _ _).alloc (Nat.le_refl _) _
  go_enter Try.func22, Try.ntmps22
  go_wp2_with fail
  refine HT.out.mono ?_
  rintro e w1 ⟨rfl, ho, hg, hz⟩
  have HO := Lib.hid ho
  have HG := Lib.hid (by_trans (below_by hbw _) hg)
  clear HT ho hg hz hbw
  go_wp2
  go_ret
  exact ⟨rfl, HO.out, HG.out⟩

end Go.Proofs.Ytmjbefjkkncjlaa
