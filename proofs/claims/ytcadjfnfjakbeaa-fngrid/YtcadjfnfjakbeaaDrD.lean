/- What the law on maps draws: the calls' arguments. -/
import Derived.Test.YtcadjfnfjakbeaaDrG
namespace Go.Proofs.Ytcadjfnfjakbeaa
open Go.RowKit

/-- A drawn map is small, and of small numbers. -/
def Small (side : Int) (l : List Int) : Prop := 0 ≤ side ∧ side ≤ 10 ∧ l.length ≤ 65 ∧ ∀ n ∈ l, -1 ≤ n ∧ n ≤ 10

def NewPost (w : World) (e : Ending) (w' : World) : Prop := ∃ n t : Int, e = .returned (.tuple #[.int .i64 n, .int .i64 t]) ∧ (0 ≤ n ∧ n ≤ 9 ∧ -1 ≤ t ∧ t ≤ 10) ∧ Below w.heap.size w w'
set_option maxRecDepth 100000 in
set_option maxHeartbeats 400000 in
theorem drawNew_any (A : Option Addr) (n c : Nat) (w : World) (hn : n ≤ 1048576) (hin : BytesIn w w.heap.size A n) :
    Calls Try.prog 11 #[.slice A n c] w (NewPost w) := by
  have HS := Lib.hid (source_any A n c w hn hin)
  clear hin
  go_enter Try.func11, Try.ntmps11
  go_wp2_with fail
  refine HS.out.mono ?_
  rintro e w1 ⟨rfl, hs1, hb1⟩
  have H1 := Lib.hid hs1
  clear hs1
  go_wp2_with fail
  refine (src_n w.heap.size 10 w1 H1.out (by omega)).mono ?_
  rintro e w2 ⟨r, rfl, h1, h2, h3, h4, h5, h6⟩
  have h2' := h2 (by omega)
  have H2 : Hid (Drew w1 w.heap.size w2) := ⟨h4, h5⟩
  clear h2 h3 h4 h5 h6
  go_wp2_with fail
  refine (src_tile w.heap.size w2 H2.out.1).mono ?_
  rintro e w3 ⟨t, rfl, ht, hd3⟩
  have H3 : Hid (Drew w1 w.heap.size w3) := H2.out.trans hd3
  have HT := Lib.hid ht
  clear hd3 ht
  go_wp2
  go_ret2
  exact ⟨r, t, rfl, ⟨h1, by omega, HT.out.1, HT.out.2⟩, Drew.bel hb1 H3.out⟩

theorem BytesIn.alloc {w : World} {A : Option Addr} {n : Nat} (h : BytesIn w w.heap.size A n) (o : Obj) : BytesIn (w.alloc o) (w.alloc o).heap.size A n :=
  (h.below fun k hk => Below.heap_alloc w o k hk).mono (by simp)
def DrawnGrid (w : World) (e : Ending) (w' : World) : Prop := ∃ (side : Int) (A : Option Addr) (c : Nat) (l : List Int), e = .returned (.agg #[.int .i64 side, .slice A l.length c]) ∧ Small side l ∧ OwnI 2 .i64 w' w.heap.size (.slice A l.length c) l ∧ Below w.heap.size w w'
set_option maxRecDepth 100000 in
set_option maxHeartbeats 400000 in
theorem drawText_any (A : Option Addr) (n c : Nat) (w : World) (hn : n ≤ 1048576) (hin : BytesIn w w.heap.size A n) :
    Calls Try.prog 12 #[.slice A n c] w (DrawnGrid w) := by
  have HS := Lib.hid (source_any A n c _ hn (hin.alloc (.cells #[.int .i64 0, .slice none 0 0] 25)))
  have HG0 := Lib.hid (GB.made w 0 (.slice none 0 0) 25)
  have HB0 := Lib.hid ((Below.refl w.heap.size w).alloc (Nat.le_refl _) (.cells #[.int .i64 0, .slice none 0 0] 25))
  simp only [alloc_size] at HS
  clear hin
  go_enter Try.func12, Try.ntmps12
  go_wp2_with fail
  refine HS.out.mono ?_
  rintro e w1 ⟨rfl, hs1, hb1⟩
  have H1 := Lib.hid hs1
  have HG1 := Lib.hid (HG0.out.below hb1 (by omega))
  have HB1 := Lib.hid (HB0.out.trans (hb1.mono (by omega)))
  have hz1 := hs1.lt
  clear hs1 hb1
  go_wp2_with fail
  refine (grid_any (w.heap.size + 1) w1 H1.out).mono ?_
  rintro e w2 ⟨side, A2, c2, l2, rfl, hsm, ho2, hd2⟩
  obtain ⟨p0, p1, q0, q1⟩ := HG1.out.drewn hd2 (by omega) (by omega)
  have HB2 := Lib.hid (HB1.out.trans (hd2.below (by omega) (by omega)))
  have HO2 := Lib.hid ho2
  have HSM := Lib.hid hsm
  clear hsm ho2 hd2
  go_wp2
  refine bodyPost_ret (v := .agg #[.int .i64 side, .slice A2 l2.length c2]) (by simp [results, Try.results12, go_sem, p0, p1]) rfl ?_
  exact ⟨side, A2, c2, l2, rfl, HSM.out, OwnI.lower (by omega) (OwnI.set_below (by show w.heap.size < _; omega) _ (OwnI.set_below (by show w.heap.size < _; omega) _ HO2.out)), (HB2.out.setCell (Nat.le_refl _) _).setCell (Nat.le_refl _) _⟩
end Go.Proofs.Ytcadjfnfjakbeaa
