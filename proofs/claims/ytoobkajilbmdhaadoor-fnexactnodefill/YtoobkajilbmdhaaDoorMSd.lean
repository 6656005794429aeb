/- Several texts in one: Draw, Draw2, DrT, DrL. -/
import Derived.Test.YtoobkajilbmdhaaDoorOwn
import Derived.RegionTactic
import Derived.BigRegion
import Derived.Deep.QuietTactic
import Derived.BigQuiet
import Derived.Lib.ConvBytes
import Derived.OpenShut
import Derived.Test.YtoobkajilbmdhaaDoorGridF
import Derived.Deep.RegionHeld3
namespace Go.Proofs.YtoobkajilbmdhaaDoor
open Go.RowKit

/-- The n bytes from A on can be read, below block B. -/
def BytesIn (w : World) (B : Nat) (A : Option Addr) (n : Nat) : Prop := n = 0 ∨ ∃ b off, A = some ⟨b, off, none⟩ ∧ b < B ∧ ∀ j, j < n → ∃ v : Nat, v < 256 ∧ w.cell? ⟨b, off + j, none⟩ = some (.int .u8 v)
theorem BytesIn.below {w w' : World} {B : Nat} {A : Option Addr} {n : Nat} (h : BytesIn w B A n) (hc : ∀ k, k < B → w'.heap[k]? = w.heap[k]?) : BytesIn w' B A n := by
  rcases h with h | ⟨b, off, rfl, hb, hv⟩
  · exact .inl h
  · refine .inr ⟨b, off, rfl, hb, fun j hj => ?_⟩
    obtain ⟨v, h1, h2⟩ := hv j hj
    exact ⟨v, h1, (World.cell?_of_block (w := w) (a := ⟨b, off + j, none⟩) (hc b hb)).trans h2⟩

theorem BytesIn.mono {w : World} {B B' : Nat} {A : Option Addr} {n : Nat} (h : BytesIn w B A n) (hB : B ≤ B') : BytesIn w B' A n := by
  rcases h with h | ⟨b, off, rfl, hb, hv⟩
  · exact .inl h
  · exact .inr ⟨b, off, rfl, by omega, hv⟩

/-- Block g is a source. -/
def SrcB (w : World) (g : Nat) : Prop := ∃ (A : Option Addr) (n c p : Nat) (mix size : Int),
  w.heap[g]? = some (.cells #[.slice A n c, .int .i64 p, .int .u64 mix, .int .i64 size] 109 (0, 0)) ∧ p ≤ n ∧ n ≤ 1048576 ∧ 0 ≤ mix ∧ mix ≤ IntKind.u64.max ∧ BytesIn w g A n

theorem SrcB.set1 {w : World} {g : Nat} {A : Option Addr} {n c p : Nat} {mix size : Int} (h : w.heap[g]? = some (.cells #[.slice A n c, .int .i64 p, .int .u64 mix, .int .i64 size] 109 (0, 0))) (x y : Int) :
    ((w.setCell ⟨g, 1, none⟩ (.int .i64 x)).setCell ⟨g, 2, none⟩ (.int .u64 y)).heap[g]? = some (.cells #[.slice A n c, .int .i64 x, .int .u64 y, .int .i64 size] 109 (0, 0)) := by
  have h1 := heap_setCell_same w g 1 _ 109 (.int .i64 x) h
  have h2 := heap_setCell_same _ g 2 _ 109 (.int .u64 y) h1
  simpa using h2

theorem setCell_twice (w : World) (a : Addr) (x y : Value) : (w.setCell a x).setCell a y = w.setCell a y := by
  unfold World.setCell
  congr 1
  apply Array.ext_getElem?
  intro k
  simp only [Array.getElem?_modify]
  by_cases h : a.block = k
  · simp only [h, if_true]
    cases w.heap[k]? with
    | none => rfl
    | some o =>
      cases o <;> simp
      by_cases hs : a.spot.isSome = true <;> simp [hs]
  · simp [h]

def NPost (w : World) (g : Nat) (most : Int) (e : Ending) (w' : World) : Prop :=
  ∃ r : Int, e = .returned (.int .i64 r) ∧ 0 ≤ r ∧ (1 < most → r < most) ∧ (most ≤ 1 → r = 0) ∧ SrcB w' g ∧ w.grownBy w' (some g) ∧ w'.heap.size = w.heap.size

theorem n_range (x most : Int) (h : 1 < most) (hm : most ≤ 9223372036854775807) : 0 ≤ wrap64 ((IntKind.u64.wrap x).tmod most) ∧ wrap64 ((IntKind.u64.wrap x).tmod most) < most := by
  have h0 : 0 ≤ IntKind.u64.wrap x := by rw [IntKind.wrap_u64]; omega
  have h1 := Int.tmod_nonneg most h0
  have h2 := Int.tmod_lt_of_pos (IntKind.u64.wrap x) (show 0 < most by omega)
  rw [wrap64_in (by omega) (by omega)]
  exact ⟨h1, h2⟩
theorem n_close {w : World} {g : Nat} {A : Option Addr} {n c p p' : Nat} {mix size : Int} (hb : w.heap[g]? = some (.cells #[.slice A n c, .int .i64 p, .int .u64 mix, .int .i64 size] 109 (0, 0))) (hp : p' ≤ n) (hn : n ≤ 1048576) (hin : BytesIn w g A n)
    (x mix' most : Int) (h0 : 0 ≤ mix') (h1 : mix' ≤ IntKind.u64.max) (h : 1 < most) (hm : most ≤ 9223372036854775807) :
    NPost w g most (.returned (.int .i64 (wrap64 ((IntKind.u64.wrap x).tmod most)))) ((w.setCell ⟨g, 1, none⟩ (.int .i64 p')).setCell ⟨g, 2, none⟩ (.int .u64 mix')) := by
  have hr := n_range x most h hm
  refine ⟨_, rfl, hr.1, fun _ => hr.2, fun h' => absurd h' (by omega), ⟨A, n, c, p', mix', size, SrcB.set1 hb _ _, hp, hn, h0, h1, hin.below fun k hk => ?_⟩, ⟨rfl, rfl, rfl, by simp, fun k _ hk => ?_⟩, by simp⟩
  · rw [Below.heap_setCell _ _ _ _ (by simp; omega), Below.heap_setCell _ _ _ _ (by simp; omega)]
  · have hne : k ≠ g := fun e => hk (by rw [e])
    rw [Below.heap_setCell _ _ _ _ (by simpa using hne), Below.heap_setCell _ _ _ _ (by simpa using hne)]
theorem setCell_same {w : World} {g : Nat} {A : Option Addr} {n c p : Nat} {mix size : Int} (hb : w.heap[g]? = some (.cells #[.slice A n c, .int .i64 p, .int .u64 mix, .int .i64 size] 109 (0, 0))) : w.setCell ⟨g, 1, none⟩ (.int .i64 p) = w := by
  have e : (w.setCell ⟨g, 1, none⟩ (.int .i64 p)).heap = w.heap := by
    apply Array.ext_getElem?
    intro k
    by_cases hk : k = g
    · subst hk
      rw [heap_setCell_same w k 1 _ 109 _ hb, hb]
      simp
    · exact Below.heap_setCell _ _ _ _ (by simpa using hk)
  show { w with heap := (w.setCell ⟨g, 1, none⟩ (.int .i64 p)).heap } = w
  rw [e]

theorem NPost.drew {w : World} {g : Nat} {most : Int} {e : Ending} {W : World} (h : NPost w g most e W) : NPost w g most e W.drew := by
  obtain ⟨r, h1, h2, h3, h4, ⟨A, n, c, p, mix, size, k1, k2, k3, k4, k5, k6⟩, h6, h7⟩ := h
  exact ⟨r, h1, h2, h3, h4, ⟨A, n, c, p, mix, size, k1, k2, k3, k4, k5, k6.below fun _ _ => rfl⟩, ⟨h6.os, h6.tape, h6.output, h6.size, h6.block⟩, h7⟩
theorem n_end {w : World} {g : Nat} {A : Option Addr} {n c p p' : Nat} {mix size : Int} (hb : w.heap[g]? = some (.cells #[.slice A n c, .int .i64 p, .int .u64 mix, .int .i64 size] 109 (0, 0))) (hp : p' ≤ n) (hn : n ≤ 1048576) (hin : BytesIn w g A n)
    {most : Int} (h : 1 < most) (hm : most ≤ 9223372036854775807) {e : Ending} {W : World} (he : ∃ x, e = .returned (.int .i64 (wrap64 ((IntKind.u64.wrap x).tmod most))))
    (hW : ∃ a b : Int, W = (w.setCell ⟨g, 1, none⟩ (.int .i64 p')).setCell ⟨g, 2, none⟩ (.int .u64 (bits .xor .u64 a b))) : NPost w g most e W := by
  obtain ⟨x, rfl⟩ := he
  obtain ⟨a, b, rfl⟩ := hW
  exact n_close hb hp hn hin x _ most (bits_within _ _ _ _).1 (bits_within _ _ _ _).2 h hm

set_option maxRecDepth 100000 in
set_option maxHeartbeats 1000000 in
theorem src_n (g : Nat) (most : Int) (w : World) (h : SrcB w g) (hm : most ≤ 9223372036854775807) :
    Calls Tryd.prog 47 #[.pointer (some ⟨g, 0, none⟩), .int .i64 most] w (NPost w g most) := by
  obtain ⟨A, n, c, p, mix, size, hb, hp, hn, hx0, hx1, hin⟩ := h
  have hc0 : w.cell? ⟨g, 0, none⟩ = some (.slice A n c) := by simp [World.cell?, hb]
  have hc1 : w.cell? ⟨g, 1, none⟩ = some (.int .i64 p) := by simp [World.cell?, hb]
  have hc2 : w.cell? ⟨g, 2, none⟩ = some (.int .u64 mix) := by simp [World.cell?, hb]
  have hf1 : w.frozen? ⟨g, 1, none⟩ = false := by simp [World.frozen?, hb]
  have hf2 : w.frozen? ⟨g, 2, none⟩ = false := by simp [World.frozen?, hb]
  have hss : ∀ (W : World) (x y : Value), (W.setCell ⟨g, 2, none⟩ x).setCell ⟨g, 2, none⟩ y = W.setCell ⟨g, 2, none⟩ y := fun W x y => setCell_twice W _ x y
  by_cases hmost : most ≤ 1
  · have HS : Hid (SrcB w g) := ⟨A, n, c, p, mix, size, hb, hp, hn, hx0, hx1, hin⟩
    clear hb hin hx0 hx1 hss
    go_enter Tryd.func47, Tryd.ntmps47
    go_wp2
    go_ret
    exact ⟨0, rfl, by omega, fun h => absurd h (by omega), fun _ => rfl, HS.out, ⟨rfl, rfl, rfl, Nat.le_refl _, fun _ _ _ => rfl⟩, rfl⟩
  by_cases hpn : p < n
  · obtain ⟨b, off, rfl, hbg, hv⟩ : ∃ b off, A = some ⟨b, off, none⟩ ∧ b < g ∧ ∀ j, j < n → ∃ v : Nat, v < 256 ∧ w.cell? ⟨b, off + j, none⟩ = some (.int .u8 v) := by
      rcases hin with h | h
      · omega
      · exact h
    obtain ⟨v, hv1, hv2⟩ := hv p hpn
    have HB := Lib.hid hb
    have HV := Lib.hid hv
    have HIN := Lib.hid hin
    have HX0 := Lib.hid hx0
    have HX1 := Lib.hid hx1
    clear hb hv hin hx0 hx1
    have hng : b ≠ g := by omega
    go_enter Tryd.func47, Tryd.ntmps47
    go_wp2
    go_region
    go_wp2
    go_region
    go_wp2
    go_region
    go_wp2
    go_region
    go_wp2
    go_region
    go_wp2
    go_ret
    rw [show ((p : Int) + 1) = ((p + 1 : Nat) : Int) from by omega]
    exact (n_end HB.out (by omega) hn HIN.out (by omega) hm ⟨_, rfl⟩ ⟨_, _, rfl⟩).drew.drew.drew.drew.drew
  · have hd : decide (p < n) = false := by simpa using hpn
    have hd2 : decide ((p : Int) < (n : Int)) = false := by simp; omega
    have HB := Lib.hid hb
    have HIN := Lib.hid hin
    clear hb hin hx0 hx1
    go_enter Tryd.func47, Tryd.ntmps47
    go_wp2
    go_region
    go_wp2
    go_region
    go_wp2
    go_region
    go_wp2
    go_region
    go_wp2
    go_ret
    exact (n_end (p' := p) HB.out hp hn HIN.out (by omega) hm ⟨_, rfl⟩ ⟨_, _, by rw [setCell_same HB.out]⟩).drew.drew.drew.drew

theorem SrcB.lt {w : World} {g : Nat} (h : SrcB w g) : g < w.heap.size := by
  obtain ⟨A, n, c, p, mix, size, k1, _⟩ := h
  rcases Nat.lt_or_ge g w.heap.size with h | h
  · exact h
  · rw [Array.getElem?_eq_none h] at k1; cases k1
/-- A source stays one where nothing of it, and nothing below it, is turned. -/
theorem SrcB.keep {w w' : World} {g : Nat} (h : SrcB w g) (hc : ∀ k, k ≤ g → w'.heap[k]? = w.heap[k]?) : SrcB w' g := by
  obtain ⟨A, n, c, p, mix, size, k1, k2, k3, k4, k5, k6⟩ := h
  exact ⟨A, n, c, p, mix, size, (hc g (Nat.le_refl _)).trans k1, k2, k3, k4, k5, k6.below fun k hk => hc k (by omega)⟩
theorem SrcB.alloc {w : World} {g : Nat} (h : SrcB w g) (o : Obj) : SrcB (w.alloc o) g := h.keep fun k hk => Below.heap_alloc w o k (by have := h.lt; omega)
/-- What a draw of a source leaves: only the source's own block has turned; there may be new blocks. -/
def Drew (w : World) (g : Nat) (w' : World) : Prop := SrcB w' g ∧ w.grownBy w' (some g)
theorem Drew.trans {w w1 w2 : World} {g : Nat} (h : Drew w g w1) (k : Drew w1 g w2) : Drew w g w2 :=
  ⟨k.1, ⟨k.2.os.trans h.2.os, k.2.tape.trans h.2.tape, k.2.output.trans h.2.output, Nat.le_trans h.2.size k.2.size, fun i hi hne => (k.2.block i (Nat.lt_of_lt_of_le hi h.2.size) hne).trans (h.2.block i hi hne)⟩⟩
theorem Drew.below {w w' : World} {g B : Nat} (h : Drew w g w') (hB : B ≤ g) (hg : g ≤ w.heap.size) : Below B w w' :=
  ⟨h.2.os, h.2.tape, h.2.output, h.2.size, fun k hk => h.2.block k (by omega) (fun e => by cases e; omega)⟩

set_option maxHeartbeats 400000 in
theorem src_one (g : Nat) (of_ : Int) (w : World) (h : SrcB w g) (hm : of_ ≤ 9223372036854775807) :
    Calls Tryd.prog 54 #[.pointer (some ⟨g, 0, none⟩), .int .i64 of_] w fun e w' => (∃ b : Bool, e = .returned (.bool b)) ∧ Drew w g w' := by
  have hn := src_n g of_ w h hm
  have HN := Lib.hid hn
  clear hn h
  go_enter Tryd.func54, Tryd.ntmps54
  go_wp2_with (go_at_call 47; refine HN.out.mono ?_; rintro e w1 ⟨r, rfl, h1, h2, h3, h4, h5, h6⟩)
  go_ret
  exact ⟨⟨_, rfl⟩, h4, h5⟩

end Go.Proofs.YtoobkajilbmdhaaDoor

namespace Go.Proofs.YtoobkajilbmdhaaDoor
open Go.RowKit

theorem Drew.refl {w : World} {g : Nat} (h : SrcB w g) : Drew w g w := ⟨h, ⟨rfl, rfl, rfl, Nat.le_refl _, fun _ _ _ => rfl⟩⟩
theorem Drew.alloc {w w' : World} {g : Nat} (h : Drew w g w') (o : Obj) : Drew w g (w'.alloc o) :=
  ⟨h.1.alloc o, ⟨h.2.os, h.2.tape, h.2.output, Nat.le_trans h.2.size (by simp), fun k hk hne => (Below.heap_alloc w' o k (Nat.lt_of_lt_of_le hk h.2.size)).trans (h.2.block k hk hne)⟩⟩
theorem Drew.more {w w1 w2 : World} {g : Nat} (h : Drew w g w1) (hg : g < w.heap.size) (hb : Below w.heap.size w1 w2) : Drew w g w2 :=
  ⟨h.1.keep fun k hk => hb.block k (by omega), ⟨hb.os.trans h.2.os, hb.tape.trans h.2.tape, hb.output.trans h.2.output, Nat.le_trans h.2.size hb.size, fun k hk hne => (hb.block k hk).trans (h.2.block k hk hne)⟩⟩
theorem OwnI.drewn {e : TypeId} {k : IntKind} {w w' : World} {base g : Nat} {v : Value} {l : List Int} (h : OwnI e k w base v l) (hd : Drew w g w') (hg : g < base) : OwnI e k w' base v l := by
  refine World.ownsRow.kept h hd.2 ?_
  cases hv : v.ownBlock with
  | none => exact .inl rfl
  | some b =>
    refine .inr ?_
    have := (World.ownsRow.lt h b hv).1
    intro e
    cases e
    omega

def EdgePost (w : World) (g : Nat) (e : Ending) (w' : World) : Prop := ∃ r : Int, e = .returned (.int .i64 r) ∧ (-9223372036854775808 ≤ r ∧ r ≤ 9223372036854775807) ∧ Drew w g w'
def edges : Array Value := #[.int .i64 0, .int .i64 1, .int .i64 (-1), .int .i64 2, .int .i64 1000, .int .i64 1001, .int .i64 2147483648, .int .i64 2147483647, .int .i64 (-2147483648), .int .i64 4611686018427387904, .int .i64 9223372036854775807, .int .i64 (-9223372036854775808), .int .i64 1000000, .int .i64 1000001]
def EdgeAt (v : Option Value) : Prop := ∃ r : Int, v = some (.int .i64 r) ∧ (-9223372036854775808 ≤ r ∧ r ≤ 9223372036854775807)
theorem edges_at (k : Nat) (h : k < 14) : EdgeAt edges[k]? := by
  unfold EdgeAt edges
  match k, h with
  | 0, _ => exact ⟨_, rfl, by omega⟩
  | 1, _ => exact ⟨_, rfl, by omega⟩
  | 2, _ => exact ⟨_, rfl, by omega⟩
  | 3, _ => exact ⟨_, rfl, by omega⟩
  | 4, _ => exact ⟨_, rfl, by omega⟩
  | 5, _ => exact ⟨_, rfl, by omega⟩
  | 6, _ => exact ⟨_, rfl, by omega⟩
  | 7, _ => exact ⟨_, rfl, by omega⟩
  | 8, _ => exact ⟨_, rfl, by omega⟩
  | 9, _ => exact ⟨_, rfl, by omega⟩
  | 10, _ => exact ⟨_, rfl, by omega⟩
  | 11, _ => exact ⟨_, rfl, by omega⟩
  | 12, _ => exact ⟨_, rfl, by omega⟩
  | 13, _ => exact ⟨_, rfl, by omega⟩

theorem src_mix {w : World} {g : Nat} {A : Option Addr} {n c : Nat} {mix x y : Int} (h : w.heap[g]? = some (.cells #[.slice A n c, .int .i64 x, .int .u64 mix, .int .i64 y] 109 (0, 0))) (z : Int) :
    (w.setCell ⟨g, 2, none⟩ (.int .u64 z)).heap[g]? = some (.cells #[.slice A n c, .int .i64 x, .int .u64 z, .int .i64 y] 109 (0, 0)) := by
  simpa using heap_setCell_same w g 2 _ 109 (.int .u64 z) h
theorem src_size {w : World} {g : Nat} {A : Option Addr} {n c : Nat} {mix x y : Int} (h : w.heap[g]? = some (.cells #[.slice A n c, .int .i64 x, .int .u64 mix, .int .i64 y] 109 (0, 0))) (z : Int) :
    (w.setCell ⟨g, 3, none⟩ (.int .i64 z)).heap[g]? = some (.cells #[.slice A n c, .int .i64 x, .int .u64 mix, .int .i64 z] 109 (0, 0)) := by
  simpa using heap_setCell_same w g 3 _ 109 (.int .i64 z) h

theorem src_fin {w wr : World} {g : Nat} {A : Option Addr} {n c : Nat} {mix y : Int} (h : wr.heap[g]? = some (.cells #[.slice A n c, .int .i64 0, .int .u64 mix, .int .i64 y] 109 (0, 0))) (hn : n ≤ 1048576) (hm : 0 ≤ mix ∧ mix ≤ IntKind.u64.max) (hbw : Below g w wr) (hi : BytesIn w g A n) (z : Int) :
    SrcB (wr.setCell ⟨g, 3, none⟩ (.int .i64 z)) g :=
  ⟨A, n, c, 0, mix, z, src_size h z, Nat.zero_le _, hn, hm.1, hm.2, hi.below fun k hk => by rw [Below.heap_setCell _ _ _ _ (by simp; omega)]; exact hbw.block k hk⟩

set_option maxRecDepth 100000 in
set_option maxHeartbeats 1000000 in
theorem source_any (A : Option Addr) (n c : Nat) (w : World) (hn : n ≤ 1048576) (hin : BytesIn w w.heap.size A n) :
    Calls Tryd.prog 40 #[.slice A n c] w fun e w' => e = .returned (.pointer (some ⟨w.heap.size, 0, none⟩)) ∧ SrcB w' w.heap.size ∧ Below w.heap.size w w' := by
  have HI := Lib.hid hin
  clear hin
  go_enter Tryd.func40, Tryd.ntmps40
  go_wp2
  go_loopw [4] (fun i wr => ∃ (k : Nat) (mix : Int), i = .int .i64 k ∧ k ≤ n ∧ Hid (0 ≤ mix ∧ mix ≤ IntKind.u64.max) ∧ wr.heap[w.heap.size]? = some (.cells #[.slice A n c, .int .i64 0, .int .u64 mix, .int .i64 0] 109 (0, 0)) ∧ Below w.heap.size w wr) (fun i _ => n - (intOf i).toNat)
  case atStart => exact ⟨0, _, rfl, Nat.zero_le _, ⟨by omega, by decide⟩, heap_alloc_new w _, (Below.refl _ _).alloc (Nat.le_refl _) _⟩
  case round =>
    obtain ⟨k, mix, rfl, hk, HM, hb, hbw⟩ := hrel
    have hc2 : wr.cell? ⟨w.heap.size, 2, none⟩ = some (.int .u64 mix) := by simp [World.cell?, hb]
    have hc3 : wr.cell? ⟨w.heap.size, 3, none⟩ = some (.int .i64 0) := by simp [World.cell?, hb]
    have hf2 : wr.frozen? ⟨w.heap.size, 2, none⟩ = false := by simp [World.frozen?, hb]
    have hf3 : wr.frozen? ⟨w.heap.size, 3, none⟩ = false := by simp [World.frozen?, hb]
    have HB := Lib.hid hb
    have hss : ∀ (W : World) (x y : Value), (W.setCell ⟨w.heap.size, 3, none⟩ x).setCell ⟨w.heap.size, 3, none⟩ y = W.setCell ⟨w.heap.size, 3, none⟩ y := fun W x y => setCell_twice W _ x y
    clear hb
    by_cases hlt : k < n
    · by_cases h64 : (k : Int) < 64
      · obtain ⟨b, off, rfl, hbg, hv⟩ : ∃ b off, A = some ⟨b, off, none⟩ ∧ b < w.heap.size ∧ ∀ j, j < n → ∃ v : Nat, v < 256 ∧ w.cell? ⟨b, off + j, none⟩ = some (.int .u8 v) := by
          rcases HI.out with h | h
          · omega
          · exact h
        obtain ⟨v, hv1, hv2⟩ := hv k hlt
        have hv3 : wr.cell? ⟨b, off + k, none⟩ = some (.int .u8 v) := (hbw.cell (p := ⟨b, off + k, none⟩) hbg).trans hv2
        clear hv hv2 hc3 hf3
        go_wp2
        go_region
        go_wp2
        go_roundw
        case rel => exact ⟨k + 1, _, by go_num, by omega, wrap_within .u64 _, src_mix HB.out _, (hbw.setCell (Nat.le_refl _) _).drew⟩
        case measure => simp [intOf]; omega
      · have hd : decide ((k : Int) < 64) = false := by simpa using h64
        go_wp2
        all_goals
          go_ret
          exact ⟨rfl, src_fin HB.out hn HM.out hbw HI.out _, hbw.setCell (Nat.le_refl _) _⟩
    · have hd : decide ((k : Int) < (n : Int)) = false := by simp; omega
      go_wp2
      all_goals
        go_ret
        exact ⟨rfl, src_fin HB.out hn HM.out hbw HI.out _, hbw.setCell (Nat.le_refl _) _⟩

def SomeStr (w : World) (m : Nat) (e : Ending) (w' : World) : Prop := ∃ s : ByteArray, e = .returned (.string s) ∧ s.size ≤ m ∧ Below w.heap.size w w'

theorem strOfNums_sz (l : List Int) : (strOfNums l).size = l.length := strOfNums_size l
theorem Drew.bel {w w1 w2 : World} (hb : Below w.heap.size w w1) (hd : Drew w1 w.heap.size w2) : Below w.heap.size w w2 :=
  hb.trans (hd.below (Nat.le_refl _) hb.size)

/-- What the walk is told of a slice of integers that came in. -/
def IsRow (k : IntKind) (w : World) (a : Option Addr) (len cap : Nat) (zs : List Int) : Prop :=
  (a = none ∧ len = 0 ∧ cap = 0 ∧ zs = []) ∨
  ∃ x, a = some x ∧ len ≤ cap ∧ cap ≤ maxLen ∧ zs.length = cap ∧ (∀ i, i < zs.length → w.cell? (x.add i) = some (.int k (zs.getD i 0))) ∧ ∀ n ∈ zs, (Lit.int k n).wf = true
theorem IsRow.bytes {w : World} {a : Option Addr} {len cap : Nat} {zs : List Int} (h : IsRow .u8 w a len cap zs) : BytesIn w w.heap.size a len := by
  rcases h with ⟨_, rfl, _, _⟩ | ⟨x, rfl, hl, _, hz, hc, hw⟩
  · exact .inl rfl
  · by_cases h0 : len = 0
    · exact .inl h0
    · have h00 := hc 0 (by omega)
      obtain ⟨b, off, spot⟩ := x
      have hs : spot = none := by simpa [Addr.add] using World.cell?_spot h00
      subst hs
      have hb := World.block_lt_of_cell? w _ h00
      refine .inr ⟨b, off, rfl, by simpa [Addr.add] using hb, fun j hj => ?_⟩
      have hj' := hc j (by omega)
      have hmem : zs.getD j 0 ∈ zs := by
        rw [List.getD_eq_getElem?_getD, List.getElem?_eq_getElem (by omega)]; exact List.getElem_mem _
      have hb8 := bounds_u8 (hw _ hmem)
      obtain ⟨v, hv⟩ := Int.eq_ofNat_of_zero_le hb8.1
      refine ⟨v, by omega, ?_⟩
      have e : (⟨b, off, none⟩ : Addr).add j = ⟨b, off + j, none⟩ := by unfold Addr.add; split <;> simp_all
      rw [← e, hj', hv]

/-- '[]byte(s)': a new row that holds the text's bytes. -/
theorem conv_bytes (s : ByteArray) (w : World) : ∃ cap w1, (convert 9 22 (.string s)).run Tryd.prog w = .ok (.slice (some ⟨w.heap.size, 0, none⟩) s.size cap) w1 ∧ s.size ≤ cap ∧ Below w.heap.size w w1 ∧ w1.heap.size = w.heap.size + 1 ∧
    (∀ j, j < s.size → w1.cell? ⟨w.heap.size, j, none⟩ = some (.int .u8 (byteAt s j))) ∧ (∀ j, j < s.size → w1.frozen? ⟨w.heap.size, j, none⟩ = false) := by
  refine ⟨_, _, Lib.run_convert_string_bytes w _ _ 5 s Tryd.underlying9 Tryd.underlying22 Tryd.underlying5, grownCap_ge _ _ _ _, ⟨rfl, rfl, rfl, by rw [Lib.bytesWorld_size]; omega, fun k hk => Lib.bytesWorld_at_old w _ s k hk⟩, Lib.bytesWorld_size _ _ _, fun j hj => ?_, fun j hj => ?_⟩
  · rw [Lib.bytesWorld_cell w _ s j hj]
    unfold byteAt
    simp [List.getD, Array.getD, hj]
  · have h := Lib.bytesWorld_at_new w 5 s
    have hs : s.size ≤ (Lib.bytesCells w 5 s).size := by simp [Lib.bytesCells]
    simp only [World.frozen?, h]
    simp
    omega

end Go.Proofs.YtoobkajilbmdhaaDoor

namespace Go.Proofs.YtoobkajilbmdhaaDoor
open Go.RowKit

/-- A literal row of numbers, one of which is drawn. -/
theorem lit_at {w w1 : World} {g k : Nat} {l : List Int} (hk : k < l.length) (hg : g < w.heap.size) (h : (w.alloc (.cells (l.map (Value.int .i64)).toArray 2)).grownBy w1 (some g)) : w1.cell? ⟨w.heap.size, k, none⟩ = some (.int .i64 l[k]) := by
  refine h.cell (a := ⟨w.heap.size, k, none⟩) (v := .int .i64 l[k]) ?_ ?_
  · rw [cell_of_row (w.alloc (.cells (l.map (Value.int .i64)).toArray 2)) w.heap.size k _ 2 (0, 0) (heap_alloc_new w _)]
    simp [hk]
  · intro e
    have e' : w.heap.size = g := Option.some.inj e
    omega

def TilePost (w : World) (g : Nat) (e : Ending) (w' : World) : Prop := ∃ r : Int, e = .returned (.int .i64 r) ∧ (-1 ≤ r ∧ r ≤ 10) ∧ Drew w g w'

set_option maxRecDepth 100000 in
set_option maxHeartbeats 400000 in
theorem src_tile (g : Nat) (w : World) (h : SrcB w g) :
    Calls Tryd.prog 51 #[.pointer (some ⟨g, 0, none⟩)] w (TilePost w g) := by
  have hlt := h.lt
  have H := Lib.hid h
  clear h
  go_enter Tryd.func51, Tryd.ntmps51
  go_wp2_with fail
  refine (src_one g 20 w H.out (by omega)).mono ?_
  rintro e w1 ⟨⟨b, rfl⟩, hd1⟩
  have H1 := Lib.hid hd1
  have hlt1 : g < w1.heap.size := hd1.1.lt
  clear hd1
  cases b
  · go_wp2_with fail
    have HD := Lib.hid (H1.out.alloc (.cells #[.int .i64 0, .int .i64 0, .int .i64 1, .int .i64 2, .int .i64 9] 2))
    refine (src_n g 5 _ HD.out.1 (by omega)).mono ?_
    rintro e w2 ⟨r, rfl, h1, h2, h3, h4, h5, h6⟩
    have h2' := h2 (by omega)
    obtain ⟨k, rfl⟩ := Int.eq_ofNat_of_zero_le h1
    have hk : k < ([0, 0, 1, 2, 9] : List Int).length := by simp; omega
    have hc := lit_at (l := [0, 0, 1, 2, 9]) hk hlt1 h5
    have HR : Hid (-1 ≤ ([0, 0, 1, 2, 9] : List Int)[k] ∧ ([0, 0, 1, 2, 9] : List Int)[k] ≤ 10) := by
      show _ ∧ _
      have hk5 : k < 5 := by omega
      match k, hk5 with
      | 0, _ => simp
      | 1, _ => simp
      | 2, _ => simp
      | 3, _ => simp
      | 4, _ => simp
    have HE : Hid (Drew w g w2) := HD.out.trans ⟨h4, h5⟩
    generalize ([0, 0, 1, 2, 9] : List Int)[k] = x at *
    clear h2 h3 h4 h5 h6
    go_wp2
    go_ret
    exact ⟨x, rfl, HR.out, HE.out⟩
  · go_wp2_with fail
    have HD := Lib.hid (H1.out.alloc (.cells #[.int .i64 (-1), .int .i64 9, .int .i64 10] 2))
    refine (src_n g 3 _ HD.out.1 (by omega)).mono ?_
    rintro e w2 ⟨r, rfl, h1, h2, h3, h4, h5, h6⟩
    have h2' := h2 (by omega)
    obtain ⟨k, rfl⟩ := Int.eq_ofNat_of_zero_le h1
    have hk : k < ([-1, 9, 10] : List Int).length := by simp; omega
    have hc := lit_at (l := [-1, 9, 10]) hk hlt1 h5
    have HR : Hid (-1 ≤ ([-1, 9, 10] : List Int)[k] ∧ ([-1, 9, 10] : List Int)[k] ≤ 10) := by
      show _ ∧ _
      have hk5 : k < 3 := by omega
      match k, hk5 with
      | 0, _ => simp
      | 1, _ => simp
      | 2, _ => simp
    have HE : Hid (Drew w g w2) := HD.out.trans ⟨h4, h5⟩
    generalize ([-1, 9, 10] : List Int)[k] = x at *
    clear h2 h3 h4 h5 h6
    go_wp2
    go_ret
    exact ⟨x, rfl, HR.out, HE.out⟩
end Go.Proofs.YtoobkajilbmdhaaDoor

namespace Go.Proofs.YtoobkajilbmdhaaDoor
open Go.RowKit

theorem fill_right {side : Int} {l : List Int} {t : Int} (p : Nat → Bool) (hr : gridRight side l = true) (ht : tileOk t = true) : gridRight side (paint p t l) = true := by
  simp only [gridRight, Bool.and_eq_true, beq_iff_eq, List.all_eq_true] at hr ⊢
  refine ⟨⟨hr.1.1, by rw [paint_length]; exact hr.1.2⟩, fun x hx => ?_⟩
  obtain ⟨q, hq, rfl⟩ := List.getElem_of_mem hx
  rw [paint_get]
  split
  · exact ht
  · exact hr.2 _ (List.getElem_mem _)

/-- What holds while a map is drawn on: it stands in its box, the tiles are owned, the source is one. -/
structure LX (w : World) (g base : Nat) (side : Int) (A : Option Addr) (c : Nat) (l : List Int) (wr : World) : Prop where
  inn : GB wr w.heap.size side (.slice A l.length c)
  res : GB wr (w.heap.size + 1) 0 (.slice none 0 0)
  own : OwnI 2 .i64 wr base (.slice A l.length c) l
  drw : Drew w g wr
  siz : g < base ∧ base ≤ w.heap.size ∧ w.heap.size + 1 < wr.heap.size
  apt : ∀ k, (Value.slice A l.length c).ownBlock = some k → k ≠ w.heap.size ∧ k ≠ w.heap.size + 1
theorem GB.drewn {w w' : World} {g b : Nat} {side : Int} {v : Value} (h : GB w b side v) (hd : Drew w g w') (hg : b ≠ g) (hb : b < w.heap.size) : GB w' b side v := by
  have e := hd.2.block b hb (fun e => hg (Option.some.inj e))
  exact ⟨(World.cell?_of_block (w := w) (a := ⟨b, 0, none⟩) e).trans h.c0, (World.cell?_of_block (w := w) (a := ⟨b, 1, none⟩) e).trans h.c1, (World.frozen?_of_block (w := w) (a := ⟨b, 0, none⟩) e).trans h.f0, (World.frozen?_of_block (w := w) (a := ⟨b, 1, none⟩) e).trans h.f1⟩
theorem LX.drew {w wr wr' : World} {g base : Nat} {side : Int} {A : Option Addr} {c : Nat} {l : List Int} (h : LX w g base side A c l wr) (hd : Drew wr g wr') : LX w g base side A c l wr' := by
  obtain ⟨h1, h2, h3⟩ := h.siz
  exact ⟨h.inn.drewn hd (by omega) (by omega), h.res.drewn hd (by omega) (by omega), h.own.drewn hd h1, h.drw.trans hd, ⟨h1, h2, Nat.lt_of_lt_of_le h3 hd.2.size⟩, h.apt⟩
theorem LX.below {w wr wr' : World} {g base : Nat} {side : Int} {A : Option Addr} {c : Nat} {l : List Int} (h : LX w g base side A c l wr) (hb : Below wr.heap.size wr wr') : LX w g base side A c l wr' := by
  obtain ⟨h1, h2, h3⟩ := h.siz
  exact ⟨h.inn.below hb (by omega), h.res.below hb (by omega), h.own.keep hb, h.drw.more (by omega) (hb.mono (by omega)), ⟨h1, h2, Nat.lt_of_lt_of_le h3 hb.size⟩, h.apt⟩
theorem LX.tape {w wr : World} {g base : Nat} {side : Int} {A : Option Addr} {c : Nat} {l : List Int} (h : LX w g base side A c l wr) : LX w g base side A c l wr.drew := h.below (Below.refl _ _).drew
/-- The same, and block o is the box of a map that is to come, with the fields a, v, b. -/
structure LZ (w : World) (g base : Nat) (side : Int) (A : Option Addr) (c : Nat) (l : List Int) (o : Nat) (a : Int) (v : Value) (b : Int) (wr : World) : Prop where
  lx : LX w g base side A c l wr
  c0 : wr.cell? ⟨o, 0, none⟩ = some (.int .i64 a)
  c1 : wr.cell? ⟨o, 1, none⟩ = some v
  c2 : wr.cell? ⟨o, 2, none⟩ = some (.int .i64 b)
  f0 : wr.frozen? ⟨o, 0, none⟩ = false
  f1 : wr.frozen? ⟨o, 1, none⟩ = false
  f2 : wr.frozen? ⟨o, 2, none⟩ = false
  far : w.heap.size + 1 < o ∧ o < wr.heap.size
  low : ∀ b, (Value.slice A l.length c).ownBlock = some b → b < o
section
variable {w wr wr' : World} {g base o c : Nat} {side a b : Int} {A : Option Addr} {l : List Int} {v : Value}
theorem LX.alloc (h : LX w g base side A c l wr) (a b : Int) (v : Value) : LZ w g base side A c l wr.heap.size a v b (wr.alloc (.cells #[.int .i64 a, v, .int .i64 b] 37)) :=
  ⟨h.below ((Below.refl _ _).alloc (Nat.le_refl _) _), by simp [go_sem], by simp [go_sem], by simp [go_sem], by simp [go_sem], by simp [go_sem], by simp [go_sem], ⟨h.siz.2.2, by simp⟩, fun b hb => (World.ownsRow.lt h.own b hb).2⟩
theorem LZ.drew (h : LZ w g base side A c l o a v b wr) (hd : Drew wr g wr') : LZ w g base side A c l o a v b wr' := by
  obtain ⟨h1, h2, h3⟩ := h.lx.siz
  obtain ⟨h4, h5⟩ := h.far
  have e := hd.2.block o h5 (fun e => by have := Option.some.inj e; omega)
  exact ⟨h.lx.drew hd, (World.cell?_of_block (w := wr) (a := ⟨o, 0, none⟩) e).trans h.c0, (World.cell?_of_block (w := wr) (a := ⟨o, 1, none⟩) e).trans h.c1, (World.cell?_of_block (w := wr) (a := ⟨o, 2, none⟩) e).trans h.c2, (World.frozen?_of_block (w := wr) (a := ⟨o, 0, none⟩) e).trans h.f0, (World.frozen?_of_block (w := wr) (a := ⟨o, 1, none⟩) e).trans h.f1, (World.frozen?_of_block (w := wr) (a := ⟨o, 2, none⟩) e).trans h.f2, ⟨h4, Nat.lt_of_lt_of_le h5 hd.2.size⟩, h.low⟩
theorem LZ.below (h : LZ w g base side A c l o a v b wr) (hb : Below wr.heap.size wr wr') : LZ w g base side A c l o a v b wr' := by
  obtain ⟨h4, h5⟩ := h.far
  exact ⟨h.lx.below hb, (hb.cell (p := ⟨o, 0, none⟩) h5).trans h.c0, (hb.cell (p := ⟨o, 1, none⟩) h5).trans h.c1, (hb.cell (p := ⟨o, 2, none⟩) h5).trans h.c2, (hb.frozen (p := ⟨o, 0, none⟩) h5).trans h.f0, (hb.frozen (p := ⟨o, 1, none⟩) h5).trans h.f1, (hb.frozen (p := ⟨o, 2, none⟩) h5).trans h.f2, ⟨h4, Nat.lt_of_lt_of_le h5 hb.size⟩, h.low⟩
theorem OwnI.other {e : TypeId} {k : IntKind} {ad : Addr} (h : OwnI e k wr base v l) (hb : ∀ b, v.ownBlock = some b → b ≠ ad.block) (u : Value) : OwnI e k (wr.setCell ad u) base v l := by
  refine ⟨h.1, ?_⟩
  rcases h.2 with h' | ⟨g', cap, cur, hv, hbg, hg, rest⟩
  · exact .inl h'
  · refine .inr ⟨g', cap, cur, hv, hbg, ?_, rest⟩
    rw [Below.heap_setCell _ _ _ _ (hb g' (by rw [hv]; rfl))]
    exact hg
theorem LX.far {ad : Addr} (h : LX w g base side A c l wr) (hl : ∀ b, (Value.slice A l.length c).ownBlock = some b → b ≠ ad.block) (ho : w.heap.size + 1 < ad.block) (u : Value) : LX w g base side A c l (wr.setCell ad u) := by
  obtain ⟨h1, h2, h3⟩ := h.siz
  refine ⟨h.inn.far (by omega) _, h.res.far (by omega) _, h.own.other hl u, ?_, ⟨h1, h2, by simpa [World.setCell] using h3⟩, h.apt⟩
  exact h.drw.more (by omega) ((Below.refl _ _).setCell (by omega) _)
theorem LZ.put (h : LZ w g base side A c l o a v b wr) (a' b' : Int) (v' : Value) : LZ w g base side A c l o a' v' b' (((wr.setCell ⟨o, 0, none⟩ (.int .i64 a')).setCell ⟨o, 1, none⟩ v').setCell ⟨o, 2, none⟩ (.int .i64 b')) := by
  obtain ⟨h4, h5⟩ := h.far
  have hl : ∀ b, (Value.slice A l.length c).ownBlock = some b → b ≠ o := fun b hb => Nat.ne_of_lt (h.low b hb)
  refine ⟨((h.lx.far hl h4 _).far hl h4 _).far hl h4 _, ?_, ?_, ?_, by simpa using h.f0, by simpa using h.f1, by simpa using h.f2, ⟨h4, by simpa [World.setCell] using h5⟩, h.low⟩
  · rw [World.cell?_setCell_other _ _ _ _ (by simp), World.cell?_setCell_other _ _ _ _ (by simp)]
    exact World.cell?_setCell_same _ _ _ h.c0
  · rw [World.cell?_setCell_other _ _ _ _ (by simp)]
    exact World.cell?_setCell_same _ _ _ ((World.cell?_setCell_other _ _ _ _ (by simp)).trans h.c1)
  · exact World.cell?_setCell_same _ _ _ (((World.cell?_setCell_other _ _ _ _ (by simp))).trans ((World.cell?_setCell_other _ _ _ _ (by simp)).trans h.c2))
end
end Go.Proofs.YtoobkajilbmdhaaDoor
