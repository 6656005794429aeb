/- The model's draws: what a source of drawn numbers is in memory, and what each draw may come to. -/
import Derived.Test.YthhadbojepcdjaaOwn
import Derived.RegionTactic
import Derived.BigRegion
import Derived.Deep.QuietTactic
import Derived.BigQuiet
namespace Go.Proofs.Ythhadbojepcdjaa
open Go.RowKit

/-- The n bytes from A on can be read, below block B. -/
def BytesIn (w : World) (B : Nat) (A : Option Addr) (n : Nat) : Prop := n = 0 ∨ ∃ b off, A = some ⟨b, off, none⟩ ∧ b < B ∧ ∀ j, j < n → ∃ v : Nat, v < 256 ∧ w.cell? ⟨b, off + j, none⟩ = some (.int .u8 v)
theorem BytesIn.below {w w' : World} {B : Nat} {A : Option Addr} {n : Nat} (h : BytesIn w B A n) (hc : ∀ k, k < B → w'.heap[k]? = w.heap[k]?) : BytesIn w' B A n := by
  rcases h with h | ⟨b, off, rfl, hb, hv⟩
  · exact .inl h
  · refine .inr ⟨b, off, rfl, hb, fun j hj => ?_⟩
    obtain ⟨v, h1, h2⟩ := hv j hj
    exact ⟨v, h1, (World.cell?_of_block (w := w) (a := ⟨b, off + j, none⟩) (hc b hb)).trans h2⟩

theorem BytesIn.mono {w : World} {B B' : Nat} {A : Option Addr} {n : Nat} (h : BytesIn w B A n) (hB : B ≤ B') : BytesIn w B' A n := by
  rcases h with h | ⟨b, off, rfl, hb, hv⟩
  · exact .inl h
  · exact .inr ⟨b, off, rfl, by omega, hv⟩

/-- Block g is a source. -/
def SrcB (w : World) (g : Nat) : Prop := ∃ (A : Option Addr) (n c p : Nat) (mix size : Int),
  w.heap[g]? = some (.cells #[.slice A n c, .int .i64 p, .int .u64 mix, .int .i64 size] 67 (0, 0)) ∧ p ≤ n ∧ n ≤ 1048576 ∧ 0 ≤ mix ∧ mix ≤ IntKind.u64.max ∧ BytesIn w g A n

theorem SrcB.set1 {w : World} {g : Nat} {A : Option Addr} {n c p : Nat} {mix size : Int} (h : w.heap[g]? = some (.cells #[.slice A n c, .int .i64 p, .int .u64 mix, .int .i64 size] 67 (0, 0))) (x y : Int) :
    ((w.setCell ⟨g, 1, none⟩ (.int .i64 x)).setCell ⟨g, 2, none⟩ (.int .u64 y)).heap[g]? = some (.cells #[.slice A n c, .int .i64 x, .int .u64 y, .int .i64 size] 67 (0, 0)) := by
  have h1 := heap_setCell_same w g 1 _ 67 (.int .i64 x) h
  have h2 := heap_setCell_same _ g 2 _ 67 (.int .u64 y) h1
  simpa using h2

theorem setCell_twice (w : World) (a : Addr) (x y : Value) : (w.setCell a x).setCell a y = w.setCell a y := by
  unfold World.setCell
  congr 1
  apply Array.ext_getElem?
  intro k
  simp only [Array.getElem?_modify]
  by_cases h : a.block = k
  · simp only [h, if_true]
    cases w.heap[k]? with
    | none => rfl
    | some o =>
      cases o <;> simp
      by_cases hs : a.spot.isSome = true <;> simp [hs]
  · simp [h]

def NPost (w : World) (g : Nat) (most : Int) (e : Ending) (w' : World) : Prop :=
  ∃ r : Int, e = .returned (.int .i64 r) ∧ 0 ≤ r ∧ (1 < most → r < most) ∧ (most ≤ 1 → r = 0) ∧ SrcB w' g ∧ w.grownBy w' (some g) ∧ w'.heap.size = w.heap.size

theorem n_range (x most : Int) (h : 1 < most) (hm : most ≤ 9223372036854775807) : 0 ≤ wrap64 ((IntKind.u64.wrap x).tmod most) ∧ wrap64 ((IntKind.u64.wrap x).tmod most) < most := by
  have h0 : 0 ≤ IntKind.u64.wrap x := by rw [IntKind.wrap_u64]; omega
  have h1 := Int.tmod_nonneg most h0
  have h2 := Int.tmod_lt_of_pos (IntKind.u64.wrap x) (show 0 < most by omega)
  rw [wrap64_in (by omega) (by omega)]
  exact ⟨h1, h2⟩
theorem n_close {w : World} {g : Nat} {A : Option Addr} {n c p p' : Nat} {mix size : Int} (hb : w.heap[g]? = some (.cells #[.slice A n c, .int .i64 p, .int .u64 mix, .int .i64 size] 67 (0, 0))) (hp : p' ≤ n) (hn : n ≤ 1048576) (hin : BytesIn w g A n)
    (x mix' most : Int) (h0 : 0 ≤ mix') (h1 : mix' ≤ IntKind.u64.max) (h : 1 < most) (hm : most ≤ 9223372036854775807) :
    NPost w g most (.returned (.int .i64 (wrap64 ((IntKind.u64.wrap x).tmod most)))) ((w.setCell ⟨g, 1, none⟩ (.int .i64 p')).setCell ⟨g, 2, none⟩ (.int .u64 mix')) := by
  have hr := n_range x most h hm
  refine ⟨_, rfl, hr.1, fun _ => hr.2, fun h' => absurd h' (by omega), ⟨A, n, c, p', mix', size, SrcB.set1 hb _ _, hp, hn, h0, h1, hin.below fun k hk => ?_⟩, ⟨rfl, rfl, rfl, by simp, fun k _ hk => ?_⟩, by simp⟩
  · rw [Below.heap_setCell _ _ _ _ (by simp; omega), Below.heap_setCell _ _ _ _ (by simp; omega)]
  · have hne : k ≠ g := fun e => hk (by rw [e])
    rw [Below.heap_setCell _ _ _ _ (by simpa using hne), Below.heap_setCell _ _ _ _ (by simpa using hne)]
theorem setCell_same {w : World} {g : Nat} {A : Option Addr} {n c p : Nat} {mix size : Int} (hb : w.heap[g]? = some (.cells #[.slice A n c, .int .i64 p, .int .u64 mix, .int .i64 size] 67 (0, 0))) : w.setCell ⟨g, 1, none⟩ (.int .i64 p) = w := by
  have e : (w.setCell ⟨g, 1, none⟩ (.int .i64 p)).heap = w.heap := by
    apply Array.ext_getElem?
    intro k
    by_cases hk : k = g
    · subst hk
      rw [heap_setCell_same w k 1 _ 67 _ hb, hb]
      simp
    · exact Below.heap_setCell _ _ _ _ (by simpa using hk)
  show { w with heap := (w.setCell ⟨g, 1, none⟩ (.int .i64 p)).heap } = w
  rw [e]

theorem NPost.drew {w : World} {g : Nat} {most : Int} {e : Ending} {W : World} (h : NPost w g most e W) : NPost w g most e W.drew := by
  obtain ⟨r, h1, h2, h3, h4, ⟨A, n, c, p, mix, size, k1, k2, k3, k4, k5, k6⟩, h6, h7⟩ := h
  exact ⟨r, h1, h2, h3, h4, ⟨A, n, c, p, mix, size, k1, k2, k3, k4, k5, k6.below fun _ _ => rfl⟩, ⟨h6.os, h6.tape, h6.output, h6.size, h6.block⟩, h7⟩
theorem n_end {w : World} {g : Nat} {A : Option Addr} {n c p p' : Nat} {mix size : Int} (hb : w.heap[g]? = some (.cells #[.slice A n c, .int .i64 p, .int .u64 mix, .int .i64 size] 67 (0, 0))) (hp : p' ≤ n) (hn : n ≤ 1048576) (hin : BytesIn w g A n)
    {most : Int} (h : 1 < most) (hm : most ≤ 9223372036854775807) {e : Ending} {W : World} (he : ∃ x, e = .returned (.int .i64 (wrap64 ((IntKind.u64.wrap x).tmod most))))
    (hW : ∃ a b : Int, W = (w.setCell ⟨g, 1, none⟩ (.int .i64 p')).setCell ⟨g, 2, none⟩ (.int .u64 (bits .xor .u64 a b))) : NPost w g most e W := by
  obtain ⟨x, rfl⟩ := he
  obtain ⟨a, b, rfl⟩ := hW
  exact n_close hb hp hn hin x _ most (bits_within _ _ _ _).1 (bits_within _ _ _ _).2 h hm

set_option maxRecDepth 100000 in
set_option maxHeartbeats 1000000 in
theorem src_n (g : Nat) (most : Int) (w : World) (h : SrcB w g) (hm : most ≤ 9223372036854775807) :
    Calls Try.prog 41 #[.pointer (some ⟨g, 0, none⟩), .int .i64 most] w (NPost w g most) := by
  obtain ⟨A, n, c, p, mix, size, hb, hp, hn, hx0, hx1, hin⟩ := h
  have hc0 : w.cell? ⟨g, 0, none⟩ = some (.slice A n c) := by simp [World.cell?, hb]
  have hc1 : w.cell? ⟨g, 1, none⟩ = some (.int .i64 p) := by simp [World.cell?, hb]
  have hc2 : w.cell? ⟨g, 2, none⟩ = some (.int .u64 mix) := by simp [World.cell?, hb]
  have hf1 : w.frozen? ⟨g, 1, none⟩ = false := by simp [World.frozen?, hb]
  have hf2 : w.frozen? ⟨g, 2, none⟩ = false := by simp [World.frozen?, hb]
  have hss : ∀ (W : World) (x y : Value), (W.setCell ⟨g, 2, none⟩ x).setCell ⟨g, 2, none⟩ y = W.setCell ⟨g, 2, none⟩ y := fun W x y => setCell_twice W _ x y
  by_cases hmost : most ≤ 1
  · have HS : Hid (SrcB w g) := ⟨A, n, c, p, mix, size, hb, hp, hn, hx0, hx1, hin⟩
    clear hb hin hx0 hx1 hss
    go_enter Try.func41, Try.ntmps41
    go_wp2
    go_ret
    exact ⟨0, rfl, by omega, fun h => absurd h (by omega), fun _ => rfl, HS.out, ⟨rfl, rfl, rfl, Nat.le_refl _, fun _ _ _ => rfl⟩, rfl⟩
  by_cases hpn : p < n
  · obtain ⟨b, off, rfl, hbg, hv⟩ : ∃ b off, A = some ⟨b, off, none⟩ ∧ b < g ∧ ∀ j, j < n → ∃ v : Nat, v < 256 ∧ w.cell? ⟨b, off + j, none⟩ = some (.int .u8 v) := by
      rcases hin with h | h
      · omega
      · exact h
    obtain ⟨v, hv1, hv2⟩ := hv p hpn
    have HB := Lib.hid hb
    have HV := Lib.hid hv
    have HIN := Lib.hid hin
    have HX0 := Lib.hid hx0
    have HX1 := Lib.hid hx1
    clear hb hv hin hx0 hx1
    have hng : b ≠ g := by omega
    go_enter Try.func41, Try.ntmps41
    go_wp2
    go_region
    go_wp2
    go_region
    go_wp2
    go_region
    go_wp2
    go_region
    go_wp2
    go_region
    go_wp2
    go_ret
    rw [show ((p : Int) + 1) = ((p + 1 : Nat) : Int) from by omega]
    exact (n_end HB.out (by omega) hn HIN.out (by omega) hm ⟨_, rfl⟩ ⟨_, _, rfl⟩).drew.drew.drew.drew.drew
  · have hd : decide (p < n) = false := by simpa using hpn
    have hd2 : decide ((p : Int) < (n : Int)) = false := by simp; omega
    have HB := Lib.hid hb
    have HIN := Lib.hid hin
    clear hb hin hx0 hx1
    go_enter Try.func41, Try.ntmps41
    go_wp2
    go_region
    go_wp2
    go_region
    go_wp2
    go_region
    go_wp2
    go_region
    go_wp2
    go_ret
    exact (n_end (p' := p) HB.out hp hn HIN.out (by omega) hm ⟨_, rfl⟩ ⟨_, _, by rw [setCell_same HB.out]⟩).drew.drew.drew.drew

theorem SrcB.lt {w : World} {g : Nat} (h : SrcB w g) : g < w.heap.size := by
  obtain ⟨A, n, c, p, mix, size, k1, _⟩ := h
  rcases Nat.lt_or_ge g w.heap.size with h | h
  · exact h
  · rw [Array.getElem?_eq_none h] at k1; cases k1
/-- A source stays one where nothing of it, and nothing below it, is turned. -/
theorem SrcB.keep {w w' : World} {g : Nat} (h : SrcB w g) (hc : ∀ k, k ≤ g → w'.heap[k]? = w.heap[k]?) : SrcB w' g := by
  obtain ⟨A, n, c, p, mix, size, k1, k2, k3, k4, k5, k6⟩ := h
  exact ⟨A, n, c, p, mix, size, (hc g (Nat.le_refl _)).trans k1, k2, k3, k4, k5, k6.below fun k hk => hc k (by omega)⟩
theorem SrcB.alloc {w : World} {g : Nat} (h : SrcB w g) (o : Obj) : SrcB (w.alloc o) g := h.keep fun k hk => Below.heap_alloc w o k (by have := h.lt; omega)
/-- What a draw of a source leaves: only the source's own block has turned; there may be new blocks. -/
def Drew (w : World) (g : Nat) (w' : World) : Prop := SrcB w' g ∧ w.grownBy w' (some g)
theorem Drew.trans {w w1 w2 : World} {g : Nat} (h : Drew w g w1) (k : Drew w1 g w2) : Drew w g w2 :=
  ⟨k.1, ⟨k.2.os.trans h.2.os, k.2.tape.trans h.2.tape, k.2.output.trans h.2.output, Nat.le_trans h.2.size k.2.size, fun i hi hne => (k.2.block i (Nat.lt_of_lt_of_le hi h.2.size) hne).trans (h.2.block i hi hne)⟩⟩
theorem Drew.below {w w' : World} {g B : Nat} (h : Drew w g w') (hB : B ≤ g) (hg : g ≤ w.heap.size) : Below B w w' :=
  ⟨h.2.os, h.2.tape, h.2.output, h.2.size, fun k hk => h.2.block k (by omega) (fun e => by cases e; omega)⟩

set_option maxHeartbeats 400000 in
theorem src_one (g : Nat) (of_ : Int) (w : World) (h : SrcB w g) (hm : of_ ≤ 9223372036854775807) :
    Calls Try.prog 40 #[.pointer (some ⟨g, 0, none⟩), .int .i64 of_] w fun e w' => (∃ b : Bool, e = .returned (.bool b)) ∧ Drew w g w' := by
  have hn := src_n g of_ w h hm
  have HN := Lib.hid hn
  clear hn h
  go_enter Try.func40, Try.ntmps40
  go_wp2_with (go_at_call 41; refine HN.out.mono ?_; rintro e w1 ⟨r, rfl, h1, h2, h3, h4, h5, h6⟩)
  go_ret
  exact ⟨⟨_, rfl⟩, h4, h5⟩

end Go.Proofs.Ythhadbojepcdjaa
