/- Several texts in one: Draw, Draw2, DrT, DrL, DrM, DrG, DrD, DrE, Dr8, Dr9, Lw8. -/
import Derived.Test.YtmjbefjkkncjlaaOwn
import Derived.RegionTactic
import Derived.BigRegion
import Derived.Deep.QuietTactic
import Derived.BigQuiet
import Derived.Lib.ConvBytes
import Derived.OpenShut
import Derived.Test.YtmjbefjkkncjlaaGridF
import Derived.Deep.RegionHeld3
import Derived.Test.YtmjbefjkkncjlaaWyM
import Derived.Test.YtmjbefjkkncjlaaItems
import Derived.Test.YtmjbefjkkncjlaaWyN
import Derived.Deep.CutRange
namespace Go.Proofs.Ytmjbefjkkncjlaa
open Go.RowKit

/-- The n bytes from A on can be read, below block B. -/
def BytesIn (w : World) (B : Nat) (A : Option Addr) (n : Nat) : Prop := n = 0 ∨ ∃ b off, A = some ⟨b, off, none⟩ ∧ b < B ∧ ∀ j, j < n → ∃ v : Nat, v < 256 ∧ w.cell? ⟨b, off + j, none⟩ = some (.int .u8 v)
theorem BytesIn.below {w w' : World} {B : Nat} {A : Option Addr} {n : Nat} (h : BytesIn w B A n) (hc : ∀ k, k < B → w'.heap[k]? = w.heap[k]?) : BytesIn w' B A n := by
  rcases h with h | ⟨b, off, rfl, hb, hv⟩
  · exact .inl h
  · refine .inr ⟨b, off, rfl, hb, fun j hj => ?_⟩
    obtain ⟨v, h1, h2⟩ := hv j hj
    exact ⟨v, h1, (World.cell?_of_block (w := w) (a := ⟨b, off + j, none⟩) (hc b hb)).trans h2⟩

theorem BytesIn.mono {w : World} {B B' : Nat} {A : Option Addr} {n : Nat} (h : BytesIn w B A n) (hB : B ≤ B') : BytesIn w B' A n := by
  rcases h with h | ⟨b, off, rfl, hb, hv⟩
  · exact .inl h
  · exact .inr ⟨b, off, rfl, by omega, hv⟩

/-- Block g is a source. -/
def SrcB (w : World) (g : Nat) : Prop := ∃ (A : Option Addr) (n c p : Nat) (mix size : Int),
  w.heap[g]? = some (.cells #[.slice A n c, .int .i64 p, .int .u64 mix, .int .i64 size] 81 (0, 0)) ∧ p ≤ n ∧ n ≤ 1048576 ∧ 0 ≤ mix ∧ mix ≤ IntKind.u64.max ∧ BytesIn w g A n

theorem SrcB.set1 {w : World} {g : Nat} {A : Option Addr} {n c p : Nat} {mix size : Int} (h : w.heap[g]? = some (.cells #[.slice A n c, .int .i64 p, .int .u64 mix, .int .i64 size] 81 (0, 0))) (x y : Int) :
    ((w.setCell ⟨g, 1, none⟩ (.int .i64 x)).setCell ⟨g, 2, none⟩ (.int .u64 y)).heap[g]? = some (.cells #[.slice A n c, .int .i64 x, .int .u64 y, .int .i64 size] 81 (0, 0)) := by
  have h1 := heap_setCell_same w g 1 _ 81 (.int .i64 x) h
  have h2 := heap_setCell_same _ g 2 _ 81 (.int .u64 y) h1
  simpa using h2

theorem setCell_twice (w : World) (a : Addr) (x y : Value) : (w.setCell a x).setCell a y = w.setCell a y := by
  unfold World.setCell
  congr 1
  apply Array.ext_getElem?
  intro k
  simp only [Array.getElem?_modify]
  by_cases h : a.block = k
  · simp only [h, if_true]
    cases w.heap[k]? with
    | none => rfl
    | some o =>
      cases o <;> simp
      by_cases hs : a.spot.isSome = true <;> simp [hs]
  · simp [h]

def NPost (w : World) (g : Nat) (most : Int) (e : Ending) (w' : World) : Prop :=
  ∃ r : Int, e = .returned (.int .i64 r) ∧ 0 ≤ r ∧ (1 < most → r < most) ∧ (most ≤ 1 → r = 0) ∧ SrcB w' g ∧ w.grownBy w' (some g) ∧ w'.heap.size = w.heap.size

theorem n_range (x most : Int) (h : 1 < most) (hm : most ≤ 9223372036854775807) : 0 ≤ wrap64 ((IntKind.u64.wrap x).tmod most) ∧ wrap64 ((IntKind.u64.wrap x).tmod most) < most := by
  have h0 : 0 ≤ IntKind.u64.wrap x := by rw [IntKind.wrap_u64]; omega
  have h1 := Int.tmod_nonneg most h0
  have h2 := Int.tmod_lt_of_pos (IntKind.u64.wrap x) (show 0 < most by omega)
  rw [wrap64_in (by omega) (by omega)]
  exact ⟨h1, h2⟩
theorem n_close {w : World} {g : Nat} {A : Option Addr} {n c p p' : Nat} {mix size : Int} (hb : w.heap[g]? = some (.cells #[.slice A n c, .int .i64 p, .int .u64 mix, .int .i64 size] 81 (0, 0))) (hp : p' ≤ n) (hn : n ≤ 1048576) (hin : BytesIn w g A n)
    (x mix' most : Int) (h0 : 0 ≤ mix') (h1 : mix' ≤ IntKind.u64.max) (h : 1 < most) (hm : most ≤ 9223372036854775807) :
    NPost w g most (.returned (.int .i64 (wrap64 ((IntKind.u64.wrap x).tmod most)))) ((w.setCell ⟨g, 1, none⟩ (.int .i64 p')).setCell ⟨g, 2, none⟩ (.int .u64 mix')) := by
  have hr := n_range x most h hm
  refine ⟨_, rfl, hr.1, fun _ => hr.2, fun h' => absurd h' (by omega), ⟨A, n, c, p', mix', size, SrcB.set1 hb _ _, hp, hn, h0, h1, hin.below fun k hk => ?_⟩, ⟨rfl, rfl, rfl, by simp, fun k _ hk => ?_⟩, by simp⟩
  · rw [Below.heap_setCell _ _ _ _ (by simp; omega), Below.heap_setCell _ _ _ _ (by simp; omega)]
  · have hne : k ≠ g := fun e => hk (by rw [e])
    rw [Below.heap_setCell _ _ _ _ (by simpa using hne), Below.heap_setCell _ _ _ _ (by simpa using hne)]
theorem setCell_same {w : World} {g : Nat} {A : Option Addr} {n c p : Nat} {mix size : Int} (hb : w.heap[g]? = some (.cells #[.slice A n c, .int .i64 p, .int .u64 mix, .int .i64 size] 81 (0, 0))) : w.setCell ⟨g, 1, none⟩ (.int .i64 p) = w := by
  have e : (w.setCell ⟨g, 1, none⟩ (.int .i64 p)).heap = w.heap := by
    apply Array.ext_getElem?
    intro k
    by_cases hk : k = g
    · subst hk
      rw [heap_setCell_same w k 1 _ 81 _ hb, hb]
      simp
    · exact Below.heap_setCell _ _ _ _ (by simpa using hk)
  show { w with heap := (w.setCell ⟨g, 1, none⟩ (.int .i64 p)).heap } = w
  rw [e]

theorem NPost.drew {w : World} {g : Nat} {most : Int} {e : Ending} {W : World} (h : NPost w g most e W) : NPost w g most e W.drew := by
  obtain ⟨r, h1, h2, h3, h4, ⟨A, n, c, p, mix, size, k1, k2, k3, k4, k5, k6⟩, h6, h7⟩ := h
  exact ⟨r, h1, h2, h3, h4, ⟨A, n, c, p, mix, size, k1, k2, k3, k4, k5, k6.below fun _ _ => rfl⟩, ⟨h6.os, h6.tape, h6.output, h6.size, h6.block⟩, h7⟩
theorem n_end {w : World} {g : Nat} {A : Option Addr} {n c p p' : Nat} {mix size : Int} (hb : w.heap[g]? = some (.cells #[.slice A n c, .int .i64 p, .int .u64 mix, .int .i64 size] 81 (0, 0))) (hp : p' ≤ n) (hn : n ≤ 1048576) (hin : BytesIn w g A n)
    {most : Int} (h : 1 < most) (hm : most ≤ 9223372036854775807) {e : Ending} {W : World} (he : ∃ x, e = .returned (.int .i64 (wrap64 ((IntKind.u64.wrap x).tmod most))))
    (hW : ∃ a b : Int, W = (w.setCell ⟨g, 1, none⟩ (.int .i64 p')).setCell ⟨g, 2, none⟩ (.int .u64 (bits .xor .u64 a b))) : NPost w g most e W := by
  obtain ⟨x, rfl⟩ := he
  obtain ⟨a, b, rfl⟩ := hW
  exact n_close hb hp hn hin x _ most (bits_within _ _ _ _).1 (bits_within _ _ _ _).2 h hm

set_option maxRecDepth 100000 in
set_option maxHeartbeats 1000000 in
theorem src_n (g : Nat) (most : Int) (w : World) (h : SrcB w g) (hm : most ≤ 9223372036854775807) :
    Calls Try.prog 61 #[.pointer (some ⟨g, 0, none⟩), .int .i64 most] w (NPost w g most) := by
  obtain ⟨A, n, c, p, mix, size, hb, hp, hn, hx0, hx1, hin⟩ := h
  have hc0 : w.cell? ⟨g, 0, none⟩ = some (.slice A n c) := by simp [World.cell?, hb]
  have hc1 : w.cell? ⟨g, 1, none⟩ = some (.int .i64 p) := by simp [World.cell?, hb]
  have hc2 : w.cell? ⟨g, 2, none⟩ = some (.int .u64 mix) := by simp [World.cell?, hb]
  have hf1 : w.frozen? ⟨g, 1, none⟩ = false := by simp [World.frozen?, hb]
  have hf2 : w.frozen? ⟨g, 2, none⟩ = false := by simp [World.frozen?, hb]
  have hss : ∀ (W : World) (x y : Value), (W.setCell ⟨g, 2, none⟩ x).setCell ⟨g, 2, none⟩ y = W.setCell ⟨g, 2, none⟩ y := fun W x y => setCell_twice W _ x y
  by_cases hmost : most ≤ 1
  · have HS : Hid (SrcB w g) := ⟨A, n, c, p, mix, size, hb, hp, hn, hx0, hx1, hin⟩
    clear hb hin hx0 hx1 hss
    go_enter Try.func61, Try.ntmps61
    go_wp2
    go_ret
    exact ⟨0, rfl, by omega, fun h => absurd h (by omega), fun _ => rfl, HS.out, ⟨rfl, rfl, rfl, Nat.le_refl _, fun _ _ _ => rfl⟩, rfl⟩
  by_cases hpn : p < n
  · obtain ⟨b, off, rfl, hbg, hv⟩ : ∃ b off, A = some ⟨b, off, none⟩ ∧ b < g ∧ ∀ j, j < n → ∃ v : Nat, v < 256 ∧ w.cell? ⟨b, off + j, none⟩ = some (.int .u8 v) := by
      rcases hin with h | h
      · omega
      · exact h
    obtain ⟨v, hv1, hv2⟩ := hv p hpn
    have HB := Lib.hid hb
    have HV := Lib.hid hv
    have HIN := Lib.hid hin
    have HX0 := Lib.hid hx0
    have HX1 := Lib.hid hx1
    clear hb hv hin hx0 hx1
    have hng : b ≠ g := by omega
    go_enter Try.func61, Try.ntmps61
    go_wp2
    go_region
    go_wp2
    go_region
    go_wp2
    go_region
    go_wp2
    go_region
    go_wp2
    go_region
    go_wp2
    go_ret
    rw [show ((p : Int) + 1) = ((p + 1 : Nat) : Int) from by omega]
    exact (n_end HB.out (by omega) hn HIN.out (by omega) hm ⟨_, rfl⟩ ⟨_, _, rfl⟩).drew.drew.drew.drew.drew
  · have hd : decide (p < n) = false := by simpa using hpn
    have hd2 : decide ((p : Int) < (n : Int)) = false := by simp; omega
    have HB := Lib.hid hb
    have HIN := Lib.hid hin
    clear hb hin hx0 hx1
    go_enter Try.func61, Try.ntmps61
    go_wp2
    go_region
    go_wp2
    go_region
    go_wp2
    go_region
    go_wp2
    go_region
    go_wp2
    go_ret
    exact (n_end (p' := p) HB.out hp hn HIN.out (by omega) hm ⟨_, rfl⟩ ⟨_, _, by rw [setCell_same HB.out]⟩).drew.drew.drew.drew

theorem SrcB.lt {w : World} {g : Nat} (h : SrcB w g) : g < w.heap.size := by
  obtain ⟨A, n, c, p, mix, size, k1, _⟩ := h
  rcases Nat.lt_or_ge g w.heap.size with h | h
  · exact h
  · rw [Array.getElem?_eq_none h] at k1; cases k1
/-- A source stays one where nothing of it, and nothing below it, is turned. -/
theorem SrcB.keep {w w' : World} {g : Nat} (h : SrcB w g) (hc : ∀ k, k ≤ g → w'.heap[k]? = w.heap[k]?) : SrcB w' g := by
  obtain ⟨A, n, c, p, mix, size, k1, k2, k3, k4, k5, k6⟩ := h
  exact ⟨A, n, c, p, mix, size, (hc g (Nat.le_refl _)).trans k1, k2, k3, k4, k5, k6.below fun k hk => hc k (by omega)⟩
theorem SrcB.alloc {w : World} {g : Nat} (h : SrcB w g) (o : Obj) : SrcB (w.alloc o) g := h.keep fun k hk => Below.heap_alloc w o k (by have := h.lt; omega)
/-- What a draw of a source leaves: only the source's own block has turned; there may be new blocks. -/
def Drew (w : World) (g : Nat) (w' : World) : Prop := SrcB w' g ∧ w.grownBy w' (some g)
theorem Drew.trans {w w1 w2 : World} {g : Nat} (h : Drew w g w1) (k : Drew w1 g w2) : Drew w g w2 :=
  ⟨k.1, ⟨k.2.os.trans h.2.os, k.2.tape.trans h.2.tape, k.2.output.trans h.2.output, Nat.le_trans h.2.size k.2.size, fun i hi hne => (k.2.block i (Nat.lt_of_lt_of_le hi h.2.size) hne).trans (h.2.block i hi hne)⟩⟩
theorem Drew.below {w w' : World} {g B : Nat} (h : Drew w g w') (hB : B ≤ g) (hg : g ≤ w.heap.size) : Below B w w' :=
  ⟨h.2.os, h.2.tape, h.2.output, h.2.size, fun k hk => h.2.block k (by omega) (fun e => by cases e; omega)⟩

set_option maxHeartbeats 400000 in
theorem src_one (g : Nat) (of_ : Int) (w : World) (h : SrcB w g) (hm : of_ ≤ 9223372036854775807) :
    Calls Try.prog 62 #[.pointer (some ⟨g, 0, none⟩), .int .i64 of_] w fun e w' => (∃ b : Bool, e = .returned (.bool b)) ∧ Drew w g w' := by
  have hn := src_n g of_ w h hm
  have HN := Lib.hid hn
  clear hn h
  go_enter Try.func62, Try.ntmps62
  go_wp2_with (go_at_call 61; refine HN.out.mono ?_; rintro e w1 ⟨r, rfl, h1, h2, h3, h4, h5, h6⟩)
  go_ret
  exact ⟨⟨_, rfl⟩, h4, h5⟩

end Go.Proofs.Ytmjbefjkkncjlaa

namespace Go.Proofs.Ytmjbefjkkncjlaa
open Go.RowKit

theorem Drew.refl {w : World} {g : Nat} (h : SrcB w g) : Drew w g w := ⟨h, ⟨rfl, rfl, rfl, Nat.le_refl _, fun _ _ _ => rfl⟩⟩
theorem Drew.alloc {w w' : World} {g : Nat} (h : Drew w g w') (o : Obj) : Drew w g (w'.alloc o) :=
  ⟨h.1.alloc o, ⟨h.2.os, h.2.tape, h.2.output, Nat.le_trans h.2.size (by simp), fun k hk hne => (Below.heap_alloc w' o k (Nat.lt_of_lt_of_le hk h.2.size)).trans (h.2.block k hk hne)⟩⟩
theorem Drew.more {w w1 w2 : World} {g : Nat} (h : Drew w g w1) (hg : g < w.heap.size) (hb : Below w.heap.size w1 w2) : Drew w g w2 :=
  ⟨h.1.keep fun k hk => hb.block k (by omega), ⟨hb.os.trans h.2.os, hb.tape.trans h.2.tape, hb.output.trans h.2.output, Nat.le_trans h.2.size hb.size, fun k hk hne => (hb.block k hk).trans (h.2.block k hk hne)⟩⟩
theorem OwnI.drewn {e : TypeId} {k : IntKind} {w w' : World} {base g : Nat} {v : Value} {l : List Int} (h : OwnI e k w base v l) (hd : Drew w g w') (hg : g < base) : OwnI e k w' base v l := by
  refine World.ownsRow.kept h hd.2 ?_
  cases hv : v.ownBlock with
  | none => exact .inl rfl
  | some b =>
    refine .inr ?_
    have := (World.ownsRow.lt h b hv).1
    intro e
    cases e
    omega

def EdgePost (w : World) (g : Nat) (e : Ending) (w' : World) : Prop := ∃ r : Int, e = .returned (.int .i64 r) ∧ (-9223372036854775808 ≤ r ∧ r ≤ 9223372036854775807) ∧ Drew w g w'
def edges : Array Value := #[.int .i64 0, .int .i64 1, .int .i64 (-1), .int .i64 2, .int .i64 1000, .int .i64 1001, .int .i64 2147483648, .int .i64 2147483647, .int .i64 (-2147483648), .int .i64 4611686018427387904, .int .i64 9223372036854775807, .int .i64 (-9223372036854775808), .int .i64 1000000, .int .i64 1000001]
def EdgeAt (v : Option Value) : Prop := ∃ r : Int, v = some (.int .i64 r) ∧ (-9223372036854775808 ≤ r ∧ r ≤ 9223372036854775807)
theorem edges_at (k : Nat) (h : k < 14) : EdgeAt edges[k]? := by
  unfold EdgeAt edges
  match k, h with
  | 0, _ => exact ⟨_, rfl, by omega⟩
  | 1, _ => exact ⟨_, rfl, by omega⟩
  | 2, _ => exact ⟨_, rfl, by omega⟩
  | 3, _ => exact ⟨_, rfl, by omega⟩
  | 4, _ => exact ⟨_, rfl, by omega⟩
  | 5, _ => exact ⟨_, rfl, by omega⟩
  | 6, _ => exact ⟨_, rfl, by omega⟩
  | 7, _ => exact ⟨_, rfl, by omega⟩
  | 8, _ => exact ⟨_, rfl, by omega⟩
  | 9, _ => exact ⟨_, rfl, by omega⟩
  | 10, _ => exact ⟨_, rfl, by omega⟩
  | 11, _ => exact ⟨_, rfl, by omega⟩
  | 12, _ => exact ⟨_, rfl, by omega⟩
  | 13, _ => exact ⟨_, rfl, by omega⟩

theorem src_mix {w : World} {g : Nat} {A : Option Addr} {n c : Nat} {mix x y : Int} (h : w.heap[g]? = some (.cells #[.slice A n c, .int .i64 x, .int .u64 mix, .int .i64 y] 81 (0, 0))) (z : Int) :
    (w.setCell ⟨g, 2, none⟩ (.int .u64 z)).heap[g]? = some (.cells #[.slice A n c, .int .i64 x, .int .u64 z, .int .i64 y] 81 (0, 0)) := by
  simpa using heap_setCell_same w g 2 _ 81 (.int .u64 z) h
theorem src_size {w : World} {g : Nat} {A : Option Addr} {n c : Nat} {mix x y : Int} (h : w.heap[g]? = some (.cells #[.slice A n c, .int .i64 x, .int .u64 mix, .int .i64 y] 81 (0, 0))) (z : Int) :
    (w.setCell ⟨g, 3, none⟩ (.int .i64 z)).heap[g]? = some (.cells #[.slice A n c, .int .i64 x, .int .u64 mix, .int .i64 z] 81 (0, 0)) := by
  simpa using heap_setCell_same w g 3 _ 81 (.int .i64 z) h

theorem src_fin {w wr : World} {g : Nat} {A : Option Addr} {n c : Nat} {mix y : Int} (h : wr.heap[g]? = some (.cells #[.slice A n c, .int .i64 0, .int .u64 mix, .int .i64 y] 81 (0, 0))) (hn : n ≤ 1048576) (hm : 0 ≤ mix ∧ mix ≤ IntKind.u64.max) (hbw : Below g w wr) (hi : BytesIn w g A n) (z : Int) :
    SrcB (wr.setCell ⟨g, 3, none⟩ (.int .i64 z)) g :=
  ⟨A, n, c, 0, mix, z, src_size h z, Nat.zero_le _, hn, hm.1, hm.2, hi.below fun k hk => by rw [Below.heap_setCell _ _ _ _ (by simp; omega)]; exact hbw.block k hk⟩

set_option maxRecDepth 100000 in
set_option maxHeartbeats 1000000 in
theorem source_any (A : Option Addr) (n c : Nat) (w : World) (hn : n ≤ 1048576) (hin : BytesIn w w.heap.size A n) :
    Calls Try.prog 34 #[.slice A n c] w fun e w' => e = .returned (.pointer (some ⟨w.heap.size, 0, none⟩)) ∧ SrcB w' w.heap.size ∧ Below w.heap.size w w' := by
  have HI := Lib.hid hin
  clear hin
  go_enter Try.func34, Try.ntmps34
  go_wp2
  go_loopw [4] (fun i wr => ∃ (k : Nat) (mix : Int), i = .int .i64 k ∧ k ≤ n ∧ Hid (0 ≤ mix ∧ mix ≤ IntKind.u64.max) ∧ wr.heap[w.heap.size]? = some (.cells #[.slice A n c, .int .i64 0, .int .u64 mix, .int .i64 0] 81 (0, 0)) ∧ Below w.heap.size w wr) (fun i _ => n - (intOf i).toNat)
  case atStart => exact ⟨0, _, rfl, Nat.zero_le _, ⟨by omega, by decide⟩, heap_alloc_new w _, (Below.refl _ _).alloc (Nat.le_refl _) _⟩
  case round =>
    obtain ⟨k, mix, rfl, hk, HM, hb, hbw⟩ := hrel
    have hc2 : wr.cell? ⟨w.heap.size, 2, none⟩ = some (.int .u64 mix) := by simp [World.cell?, hb]
    have hc3 : wr.cell? ⟨w.heap.size, 3, none⟩ = some (.int .i64 0) := by simp [World.cell?, hb]
    have hf2 : wr.frozen? ⟨w.heap.size, 2, none⟩ = false := by simp [World.frozen?, hb]
    have hf3 : wr.frozen? ⟨w.heap.size, 3, none⟩ = false := by simp [World.frozen?, hb]
    have HB := Lib.hid hb
    have hss : ∀ (W : World) (x y : Value), (W.setCell ⟨w.heap.size, 3, none⟩ x).setCell ⟨w.heap.size, 3, none⟩ y = W.setCell ⟨w.heap.size, 3, none⟩ y := fun W x y => setCell_twice W _ x y
    clear hb
    by_cases hlt : k < n
    · by_cases h64 : (k : Int) < 64
      · obtain ⟨b, off, rfl, hbg, hv⟩ : ∃ b off, A = some ⟨b, off, none⟩ ∧ b < w.heap.size ∧ ∀ j, j < n → ∃ v : Nat, v < 256 ∧ w.cell? ⟨b, off + j, none⟩ = some (.int .u8 v) := by
          rcases HI.out with h | h
          · omega
          · exact h
        obtain ⟨v, hv1, hv2⟩ := hv k hlt
        have hv3 : wr.cell? ⟨b, off + k, none⟩ = some (.int .u8 v) := (hbw.cell (p := ⟨b, off + k, none⟩) hbg).trans hv2
        clear hv hv2 hc3 hf3
        go_wp2
        go_region
        go_wp2
        go_roundw
        case rel => exact ⟨k + 1, _, by go_num, by omega, wrap_within .u64 _, src_mix HB.out _, (hbw.setCell (Nat.le_refl _) _).drew⟩
        case measure => simp [intOf]; omega
      · have hd : decide ((k : Int) < 64) = false := by simpa using h64
        go_wp2
        all_goals
          go_ret
          exact ⟨rfl, src_fin HB.out hn HM.out hbw HI.out _, hbw.setCell (Nat.le_refl _) _⟩
    · have hd : decide ((k : Int) < (n : Int)) = false := by simp; omega
      go_wp2
      all_goals
        go_ret
        exact ⟨rfl, src_fin HB.out hn HM.out hbw HI.out _, hbw.setCell (Nat.le_refl _) _⟩

def SomeStr (w : World) (m : Nat) (e : Ending) (w' : World) : Prop := ∃ s : ByteArray, e = .returned (.string s) ∧ s.size ≤ m ∧ Below w.heap.size w w'

theorem strOfNums_sz (l : List Int) : (strOfNums l).size = l.length := strOfNums_size l
theorem Drew.bel {w w1 w2 : World} (hb : Below w.heap.size w w1) (hd : Drew w1 w.heap.size w2) : Below w.heap.size w w2 :=
  hb.trans (hd.below (Nat.le_refl _) hb.size)

/-- What the walk is told of a slice of integers that came in. -/
def IsRow (k : IntKind) (w : World) (a : Option Addr) (len cap : Nat) (zs : List Int) : Prop :=
  (a = none ∧ len = 0 ∧ cap = 0 ∧ zs = []) ∨
  ∃ x, a = some x ∧ len ≤ cap ∧ cap ≤ maxLen ∧ zs.length = cap ∧ (∀ i, i < zs.length → w.cell? (x.add i) = some (.int k (zs.getD i 0))) ∧ ∀ n ∈ zs, (Lit.int k n).wf = true
theorem IsRow.bytes {w : World} {a : Option Addr} {len cap : Nat} {zs : List Int} (h : IsRow .u8 w a len cap zs) : BytesIn w w.heap.size a len := by
  rcases h with ⟨_, rfl, _, _⟩ | ⟨x, rfl, hl, _, hz, hc, hw⟩
  · exact .inl rfl
  · by_cases h0 : len = 0
    · exact .inl h0
    · have h00 := hc 0 (by omega)
      obtain ⟨b, off, spot⟩ := x
      have hs : spot = none := by simpa [Addr.add] using World.cell?_spot h00
      subst hs
      have hb := World.block_lt_of_cell? w _ h00
      refine .inr ⟨b, off, rfl, by simpa [Addr.add] using hb, fun j hj => ?_⟩
      have hj' := hc j (by omega)
      have hmem : zs.getD j 0 ∈ zs := by
        rw [List.getD_eq_getElem?_getD, List.getElem?_eq_getElem (by omega)]; exact List.getElem_mem _
      have hb8 := bounds_u8 (hw _ hmem)
      obtain ⟨v, hv⟩ := Int.eq_ofNat_of_zero_le hb8.1
      refine ⟨v, by omega, ?_⟩
      have e : (⟨b, off, none⟩ : Addr).add j = ⟨b, off + j, none⟩ := by unfold Addr.add; split <;> simp_all
      rw [← e, hj', hv]

/-- '[]byte(s)': a new row that holds the text's bytes. -/
theorem conv_bytes (s : ByteArray) (w : World) : ∃ cap w1, (convert 9 22 (.string s)).run Try.prog w = .ok (.slice (some ⟨w.heap.size, 0, none⟩) s.size cap) w1 ∧ s.size ≤ cap ∧ Below w.heap.size w w1 ∧ w1.heap.size = w.heap.size + 1 ∧
    (∀ j, j < s.size → w1.cell? ⟨w.heap.size, j, none⟩ = some (.int .u8 (byteAt s j))) ∧ (∀ j, j < s.size → w1.frozen? ⟨w.heap.size, j, none⟩ = false) := by
  refine ⟨_, _, Lib.run_convert_string_bytes w _ _ 5 s Try.underlying9 Try.underlying22 Try.underlying5, grownCap_ge _ _ _ _, ⟨rfl, rfl, rfl, by rw [Lib.bytesWorld_size]; omega, fun k hk => Lib.bytesWorld_at_old w _ s k hk⟩, Lib.bytesWorld_size _ _ _, fun j hj => ?_, fun j hj => ?_⟩
  · rw [Lib.bytesWorld_cell w _ s j hj]
    unfold byteAt
    simp [List.getD, Array.getD, hj]
  · have h := Lib.bytesWorld_at_new w 5 s
    have hs : s.size ≤ (Lib.bytesCells w 5 s).size := by simp [Lib.bytesCells]
    simp only [World.frozen?, h]
    simp
    omega

end Go.Proofs.Ytmjbefjkkncjlaa

namespace Go.Proofs.Ytmjbefjkkncjlaa
open Go.RowKit

/-- A literal row of numbers, one of which is drawn. -/
theorem lit_at {w w1 : World} {g k : Nat} {l : List Int} (hk : k < l.length) (hg : g < w.heap.size) (h : (w.alloc (.cells (l.map (Value.int .i64)).toArray 2)).grownBy w1 (some g)) : w1.cell? ⟨w.heap.size, k, none⟩ = some (.int .i64 l[k]) := by
  refine h.cell (a := ⟨w.heap.size, k, none⟩) (v := .int .i64 l[k]) ?_ ?_
  · rw [cell_of_row (w.alloc (.cells (l.map (Value.int .i64)).toArray 2)) w.heap.size k _ 2 (0, 0) (heap_alloc_new w _)]
    simp [hk]
  · intro e
    have e' : w.heap.size = g := Option.some.inj e
    omega

def TilePost (w : World) (g : Nat) (e : Ending) (w' : World) : Prop := ∃ r : Int, e = .returned (.int .i64 r) ∧ (-1 ≤ r ∧ r ≤ 10) ∧ Drew w g w'

set_option maxRecDepth 100000 in
set_option maxHeartbeats 400000 in
theorem src_tile (g : Nat) (w : World) (h : SrcB w g) :
    Calls Try.prog 71 #[.pointer (some ⟨g, 0, none⟩)] w (TilePost w g) := by
  have hlt := h.lt
  have H := Lib.hid h
  clear h
  go_enter Try.func71, Try.ntmps71
  go_wp2_with fail
  refine (src_one g 20 w H.out (by omega)).mono ?_
  rintro e w1 ⟨⟨b, rfl⟩, hd1⟩
  have H1 := Lib.hid hd1
  have hlt1 : g < w1.heap.size := hd1.1.lt
  clear hd1
  cases b
  · go_wp2_with fail
    have HD := Lib.hid (H1.out.alloc (.cells #[.int .i64 0, .int .i64 0, .int .i64 1, .int .i64 2, .int .i64 9] 2))
    refine (src_n g 5 _ HD.out.1 (by omega)).mono ?_
    rintro e w2 ⟨r, rfl, h1, h2, h3, h4, h5, h6⟩
    have h2' := h2 (by omega)
    obtain ⟨k, rfl⟩ := Int.eq_ofNat_of_zero_le h1
    have hk : k < ([0, 0, 1, 2, 9] : List Int).length := by simp; omega
    have hc := lit_at (l := [0, 0, 1, 2, 9]) hk hlt1 h5
    have HR : Hid (-1 ≤ ([0, 0, 1, 2, 9] : List Int)[k] ∧ ([0, 0, 1, 2, 9] : List Int)[k] ≤ 10) := by
      show _ ∧ _
      have hk5 : k < 5 := by omega
      match k, hk5 with
      | 0, _ => simp
      | 1, _ => simp
      | 2, _ => simp
      | 3, _ => simp
      | 4, _ => simp
    have HE : Hid (Drew w g w2) := HD.out.trans ⟨h4, h5⟩
    generalize ([0, 0, 1, 2, 9] : List Int)[k] = x at *
    clear h2 h3 h4 h5 h6
    go_wp2
    go_ret
    exact ⟨x, rfl, HR.out, HE.out⟩
  · go_wp2_with fail
    have HD := Lib.hid (H1.out.alloc (.cells #[.int .i64 (-1), .int .i64 9, .int .i64 10] 2))
    refine (src_n g 3 _ HD.out.1 (by omega)).mono ?_
    rintro e w2 ⟨r, rfl, h1, h2, h3, h4, h5, h6⟩
    have h2' := h2 (by omega)
    obtain ⟨k, rfl⟩ := Int.eq_ofNat_of_zero_le h1
    have hk : k < ([-1, 9, 10] : List Int).length := by simp; omega
    have hc := lit_at (l := [-1, 9, 10]) hk hlt1 h5
    have HR : Hid (-1 ≤ ([-1, 9, 10] : List Int)[k] ∧ ([-1, 9, 10] : List Int)[k] ≤ 10) := by
      show _ ∧ _
      have hk5 : k < 3 := by omega
      match k, hk5 with
      | 0, _ => simp
      | 1, _ => simp
      | 2, _ => simp
    have HE : Hid (Drew w g w2) := HD.out.trans ⟨h4, h5⟩
    generalize ([-1, 9, 10] : List Int)[k] = x at *
    clear h2 h3 h4 h5 h6
    go_wp2
    go_ret
    exact ⟨x, rfl, HR.out, HE.out⟩
end Go.Proofs.Ytmjbefjkkncjlaa

namespace Go.Proofs.Ytmjbefjkkncjlaa
open Go.RowKit

theorem fill_right {side : Int} {l : List Int} {t : Int} (p : Nat → Bool) (hr : gridRight side l = true) (ht : tileOk t = true) : gridRight side (paint p t l) = true := by
  simp only [gridRight, Bool.and_eq_true, beq_iff_eq, List.all_eq_true] at hr ⊢
  refine ⟨⟨hr.1.1, by rw [paint_length]; exact hr.1.2⟩, fun x hx => ?_⟩
  obtain ⟨q, hq, rfl⟩ := List.getElem_of_mem hx
  rw [paint_get]
  split
  · exact ht
  · exact hr.2 _ (List.getElem_mem _)

/-- What holds while a map is drawn on: it stands in its box, the tiles are owned, the source is one. -/
structure LX (w : World) (g base : Nat) (side : Int) (A : Option Addr) (c : Nat) (l : List Int) (wr : World) : Prop where
  inn : GB wr w.heap.size side (.slice A l.length c)
  res : GB wr (w.heap.size + 1) 0 (.slice none 0 0)
  own : OwnI 2 .i64 wr base (.slice A l.length c) l
  drw : Drew w g wr
  siz : g < base ∧ base ≤ w.heap.size ∧ w.heap.size + 1 < wr.heap.size
  apt : ∀ k, (Value.slice A l.length c).ownBlock = some k → k ≠ w.heap.size ∧ k ≠ w.heap.size + 1
theorem GB.drewn {w w' : World} {g b : Nat} {side : Int} {v : Value} (h : GB w b side v) (hd : Drew w g w') (hg : b ≠ g) (hb : b < w.heap.size) : GB w' b side v := by
  have e := hd.2.block b hb (fun e => hg (Option.some.inj e))
  exact ⟨(World.cell?_of_block (w := w) (a := ⟨b, 0, none⟩) e).trans h.c0, (World.cell?_of_block (w := w) (a := ⟨b, 1, none⟩) e).trans h.c1, (World.frozen?_of_block (w := w) (a := ⟨b, 0, none⟩) e).trans h.f0, (World.frozen?_of_block (w := w) (a := ⟨b, 1, none⟩) e).trans h.f1⟩
theorem LX.drew {w wr wr' : World} {g base : Nat} {side : Int} {A : Option Addr} {c : Nat} {l : List Int} (h : LX w g base side A c l wr) (hd : Drew wr g wr') : LX w g base side A c l wr' := by
  obtain ⟨h1, h2, h3⟩ := h.siz
  exact ⟨h.inn.drewn hd (by omega) (by omega), h.res.drewn hd (by omega) (by omega), h.own.drewn hd h1, h.drw.trans hd, ⟨h1, h2, Nat.lt_of_lt_of_le h3 hd.2.size⟩, h.apt⟩
theorem LX.below {w wr wr' : World} {g base : Nat} {side : Int} {A : Option Addr} {c : Nat} {l : List Int} (h : LX w g base side A c l wr) (hb : Below wr.heap.size wr wr') : LX w g base side A c l wr' := by
  obtain ⟨h1, h2, h3⟩ := h.siz
  exact ⟨h.inn.below hb (by omega), h.res.below hb (by omega), h.own.keep hb, h.drw.more (by omega) (hb.mono (by omega)), ⟨h1, h2, Nat.lt_of_lt_of_le h3 hb.size⟩, h.apt⟩
theorem LX.tape {w wr : World} {g base : Nat} {side : Int} {A : Option Addr} {c : Nat} {l : List Int} (h : LX w g base side A c l wr) : LX w g base side A c l wr.drew := h.below (Below.refl _ _).drew
/-- The same, and block o is the box of a map that is to come, with the fields a, v, b. -/
structure LZ (w : World) (g base : Nat) (side : Int) (A : Option Addr) (c : Nat) (l : List Int) (o : Nat) (a : Int) (v : Value) (b : Int) (wr : World) : Prop where
  lx : LX w g base side A c l wr
  c0 : wr.cell? ⟨o, 0, none⟩ = some (.int .i64 a)
  c1 : wr.cell? ⟨o, 1, none⟩ = some v
  c2 : wr.cell? ⟨o, 2, none⟩ = some (.int .i64 b)
  f0 : wr.frozen? ⟨o, 0, none⟩ = false
  f1 : wr.frozen? ⟨o, 1, none⟩ = false
  f2 : wr.frozen? ⟨o, 2, none⟩ = false
  far : w.heap.size + 1 < o ∧ o < wr.heap.size
  low : ∀ b, (Value.slice A l.length c).ownBlock = some b → b < o
section
variable {w wr wr' : World} {g base o c : Nat} {side a b : Int} {A : Option Addr} {l : List Int} {v : Value}
theorem LX.alloc (h : LX w g base side A c l wr) (a b : Int) (v : Value) : LZ w g base side A c l wr.heap.size a v b (wr.alloc (.cells #[.int .i64 a, v, .int .i64 b] 94)) :=
  ⟨h.below ((Below.refl _ _).alloc (Nat.le_refl _) _), by simp [go_sem], by simp [go_sem], by simp [go_sem], by simp [go_sem], by simp [go_sem], by simp [go_sem], ⟨h.siz.2.2, by simp⟩, fun b hb => (World.ownsRow.lt h.own b hb).2⟩
theorem LZ.drew (h : LZ w g base side A c l o a v b wr) (hd : Drew wr g wr') : LZ w g base side A c l o a v b wr' := by
  obtain ⟨h1, h2, h3⟩ := h.lx.siz
  obtain ⟨h4, h5⟩ := h.far
  have e := hd.2.block o h5 (fun e => by have := Option.some.inj e; omega)
  exact ⟨h.lx.drew hd, (World.cell?_of_block (w := wr) (a := ⟨o, 0, none⟩) e).trans h.c0, (World.cell?_of_block (w := wr) (a := ⟨o, 1, none⟩) e).trans h.c1, (World.cell?_of_block (w := wr) (a := ⟨o, 2, none⟩) e).trans h.c2, (World.frozen?_of_block (w := wr) (a := ⟨o, 0, none⟩) e).trans h.f0, (World.frozen?_of_block (w := wr) (a := ⟨o, 1, none⟩) e).trans h.f1, (World.frozen?_of_block (w := wr) (a := ⟨o, 2, none⟩) e).trans h.f2, ⟨h4, Nat.lt_of_lt_of_le h5 hd.2.size⟩, h.low⟩
theorem LZ.below (h : LZ w g base side A c l o a v b wr) (hb : Below wr.heap.size wr wr') : LZ w g base side A c l o a v b wr' := by
  obtain ⟨h4, h5⟩ := h.far
  exact ⟨h.lx.below hb, (hb.cell (p := ⟨o, 0, none⟩) h5).trans h.c0, (hb.cell (p := ⟨o, 1, none⟩) h5).trans h.c1, (hb.cell (p := ⟨o, 2, none⟩) h5).trans h.c2, (hb.frozen (p := ⟨o, 0, none⟩) h5).trans h.f0, (hb.frozen (p := ⟨o, 1, none⟩) h5).trans h.f1, (hb.frozen (p := ⟨o, 2, none⟩) h5).trans h.f2, ⟨h4, Nat.lt_of_lt_of_le h5 hb.size⟩, h.low⟩
theorem OwnI.other {e : TypeId} {k : IntKind} {ad : Addr} (h : OwnI e k wr base v l) (hb : ∀ b, v.ownBlock = some b → b ≠ ad.block) (u : Value) : OwnI e k (wr.setCell ad u) base v l := by
  refine ⟨h.1, ?_⟩
  rcases h.2 with h' | ⟨g', cap, cur, hv, hbg, hg, rest⟩
  · exact .inl h'
  · refine .inr ⟨g', cap, cur, hv, hbg, ?_, rest⟩
    rw [Below.heap_setCell _ _ _ _ (hb g' (by rw [hv]; rfl))]
    exact hg
theorem LX.far {ad : Addr} (h : LX w g base side A c l wr) (hl : ∀ b, (Value.slice A l.length c).ownBlock = some b → b ≠ ad.block) (ho : w.heap.size + 1 < ad.block) (u : Value) : LX w g base side A c l (wr.setCell ad u) := by
  obtain ⟨h1, h2, h3⟩ := h.siz
  refine ⟨h.inn.far (by omega) _, h.res.far (by omega) _, h.own.other hl u, ?_, ⟨h1, h2, by simpa [World.setCell] using h3⟩, h.apt⟩
  exact h.drw.more (by omega) ((Below.refl _ _).setCell (by omega) _)
theorem LZ.put (h : LZ w g base side A c l o a v b wr) (a' b' : Int) (v' : Value) : LZ w g base side A c l o a' v' b' (((wr.setCell ⟨o, 0, none⟩ (.int .i64 a')).setCell ⟨o, 1, none⟩ v').setCell ⟨o, 2, none⟩ (.int .i64 b')) := by
  obtain ⟨h4, h5⟩ := h.far
  have hl : ∀ b, (Value.slice A l.length c).ownBlock = some b → b ≠ o := fun b hb => Nat.ne_of_lt (h.low b hb)
  refine ⟨((h.lx.far hl h4 _).far hl h4 _).far hl h4 _, ?_, ?_, ?_, by simpa using h.f0, by simpa using h.f1, by simpa using h.f2, ⟨h4, by simpa [World.setCell] using h5⟩, h.low⟩
  · rw [World.cell?_setCell_other _ _ _ _ (by simp), World.cell?_setCell_other _ _ _ _ (by simp)]
    exact World.cell?_setCell_same _ _ _ h.c0
  · rw [World.cell?_setCell_other _ _ _ _ (by simp)]
    exact World.cell?_setCell_same _ _ _ ((World.cell?_setCell_other _ _ _ _ (by simp)).trans h.c1)
  · exact World.cell?_setCell_same _ _ _ (((World.cell?_setCell_other _ _ _ _ (by simp))).trans ((World.cell?_setCell_other _ _ _ _ (by simp)).trans h.c2))
end
end Go.Proofs.Ytmjbefjkkncjlaa

namespace Go.Proofs.Ytmjbefjkkncjlaa
open Go.RowKit

section
variable {w wr wr' : World} {g base o c : Nat} {side a b : Int} {A : Option Addr} {l : List Int} {v : Value}
theorem LZ.tape (h : LZ w g base side A c l o a v b wr) : LZ w g base side A c l o a v b wr.drew := h.below (Below.refl _ _).drew
theorem LX.held (h : LX w g base side A c l wr) : wr.cell? ⟨w.heap.size, 0, none⟩ = some (.int .i64 side) ∧ wr.cell? ⟨w.heap.size, 1, none⟩ = some (.slice A l.length c) := ⟨h.inn.c0, h.inn.c1⟩
theorem LX.src (h : LX w g base side A c l wr) : SrcB wr g := h.drw.1
theorem LX.ri (h : LX w g base side A c l wr) : RI wr wr.heap.size A l := h.own.ri
theorem LX.lower {v1 : Value} {l1 : List Int} (h : LX w g base side A c l wr) (ho : OwnI 2 .i64 wr' wr.heap.size v1 l1) : OwnI 2 .i64 wr' base v1 l1 := OwnI.lower (by have := h.siz; omega) ho
theorem LZ.apart {v1 : Value} {l1 : List Int} (h : LZ w g base side A c l o a v b wr) (ho : OwnI 2 .i64 wr' wr.heap.size v1 l1) : ∀ k, v1.ownBlock = some k → k ≠ o := fun k hk => by
  have h1 := (World.ownsRow.lt ho k hk).1
  have h2 := h.far.2
  omega
/-- Behind the draw: the map that was filled stands in its box. -/
structure LF (w : World) (g base : Nat) (side : Int) (A : Option Addr) (c : Nat) (l : List Int) (o : Nat) (a : Int) (A1 : Option Addr) (c1 : Nat) (l1 : List Int) (b : Int) (wr : World) : Prop where
  lz : LZ w g base side A c l o a (.slice A1 l1.length c1) b wr
  own : OwnI 2 .i64 wr base (.slice A1 l1.length c1) l1
  apt : ∀ k, (Value.slice A1 l1.length c1).ownBlock = some k → k ≠ w.heap.size ∧ k ≠ w.heap.size + 1
theorem LX.news {v1 : Value} {l1 : List Int} (h : LX w g base side A c l wr) (ho : OwnI 2 .i64 wr' wr.heap.size v1 l1) : ∀ k, v1.ownBlock = some k → k ≠ w.heap.size ∧ k ≠ w.heap.size + 1 := fun k hk => by
  have h1 := (World.ownsRow.lt ho k hk).1
  have h2 := h.siz
  omega
theorem LF.after {A1 : Option Addr} {c1 : Nat} {l1 : List Int} (h : LX w g base side A c l wr) (ho : OwnI 2 .i64 wr base (.slice A1 l1.length c1) l1) (hp : ∀ k, (Value.slice A1 l1.length c1).ownBlock = some k → k ≠ w.heap.size ∧ k ≠ w.heap.size + 1) (a b : Int) : LF w g base side A c l wr.heap.size a A1 c1 l1 b (wr.alloc (.cells #[.int .i64 a, .slice A1 l1.length c1, .int .i64 b] 94)) :=
  ⟨h.alloc a b _, ho.alloc _, hp⟩
theorem LF.ahead {A1 : Option Addr} {c1 : Nat} {l1 : List Int} {v : Value} {a0 b0 : Int} (h : LZ w g base side A c l o a0 v b0 wr) (ho : OwnI 2 .i64 wr base (.slice A1 l1.length c1) l1) (hn : ∀ k, (Value.slice A1 l1.length c1).ownBlock = some k → k ≠ o) (hp : ∀ k, (Value.slice A1 l1.length c1).ownBlock = some k → k ≠ w.heap.size ∧ k ≠ w.heap.size + 1) (a b : Int) : LF w g base side A c l o a A1 c1 l1 b (((wr.setCell ⟨o, 0, none⟩ (.int .i64 a)).setCell ⟨o, 1, none⟩ (.slice A1 l1.length c1)).setCell ⟨o, 2, none⟩ (.int .i64 b)) :=
  ⟨h.put a b _, ((ho.other hn _).other hn _).other hn _, hp⟩
theorem LF.take {A1 : Option Addr} {c1 : Nat} {l1 : List Int} (h : LF w g base side A c l o side A1 c1 l1 b wr) : LX w g base side A1 c1 l1 ((wr.setCell ⟨w.heap.size, 0, none⟩ (.int .i64 side)).setCell ⟨w.heap.size, 1, none⟩ (.slice A1 l1.length c1)) := by
  obtain ⟨h1, h2, h3⟩ := h.lz.lx.siz
  refine ⟨(h.lz.lx.inn.set0 side).set1 _, (h.lz.lx.res.far (by show w.heap.size ≠ _; omega) _).far (by show w.heap.size ≠ _; omega) _, (h.own.other (fun k hk => (h.apt k hk).1) _).other (fun k hk => (h.apt k hk).1) _, ?_, ⟨h1, h2, by simpa [World.setCell] using h3⟩, h.apt⟩
  have hb : Below w.heap.size wr ((wr.setCell ⟨w.heap.size, 0, none⟩ (.int .i64 side)).setCell ⟨w.heap.size, 1, none⟩ (.slice A1 l1.length c1)) := ((Below.refl _ _).setCell (by simp) _).setCell (by simp) _
  exact h.lz.lx.drw.more (by omega) hb
end

theorem n_le {most r : Int} (h2 : 1 < most → r < most) (h3 : most ≤ 1 → r = 0) (hm : most ≤ 8) : r ≤ 8 := by
  by_cases h : 1 < most
  · have := h2 h
    omega
  · have := h3 (by omega)
    omega
def LaterPost (w : World) (g base : Nat) (side : Int) (e : Ending) (w' : World) : Prop := ∃ (A : Option Addr) (c : Nat) (l : List Int), e = .returned (.agg #[.int .i64 side, .slice A l.length c]) ∧ gridRight side l = true ∧ OwnI 2 .i64 w' base (.slice A l.length c) l ∧ Drew w g w'

set_option maxRecDepth 100000 in
set_option maxHeartbeats 1000000 in
theorem later_any (g base : Nat) (side : Int) (A : Option Addr) (c : Nat) (l : List Int) (w : World) (hs : SrcB w g) (hr : gridRight side l = true) (ho : OwnI 2 .i64 w base (.slice A l.length c) l) (hg : g < base) (hbs : base ≤ w.heap.size) :
    Calls Try.prog 59 #[.pointer (some ⟨g, 0, none⟩), .agg #[.int .i64 side, .slice A l.length c]] w (LaterPost w g base side) := by
  have hb0 : Below w.heap.size w ((w.alloc (.cells #[.int .i64 side, .slice A l.length c] 25)).alloc (.cells #[.int .i64 0, .slice none 0 0] 25)) := ((Below.refl _ _).alloc (Nat.le_refl _) _).alloc (by simp) _
  have HX0 : Hid (LX w g base side A c l ((w.alloc (.cells #[.int .i64 side, .slice A l.length c] 25)).alloc (.cells #[.int .i64 0, .slice none 0 0] 25))) := by
    refine ⟨(GB.made w side (.slice A l.length c) 25).below ((Below.refl _ _).alloc (B := w.heap.size + 1) (by simp) _) (by omega), ?_, (ho.alloc _).alloc _, ((Drew.refl hs).alloc _).alloc _, ⟨hg, hbs, by simp⟩, fun k hk => by have := (World.ownsRow.lt ho k hk).2; omega⟩
    have := GB.made (w.alloc (.cells #[.int .i64 side, .slice A l.length c] 25)) 0 (.slice none 0 0) 25
    rw [alloc_size] at this
    exact this
  have HR0 := Lib.hid hr
  have hsb := side_bound (right_parts hr).1
  clear hs hr ho hb0
  go_enter Try.func59, Try.ntmps59
  go_wp2_with fail
  refine (src_n g 4 _ HX0.out.src (by omega)).mono ?_
  rintro e w1 ⟨k0, rfl, h1, h2, h3, h4, h5, h6⟩
  have h2' := h2 (by omega)
  obtain ⟨k0, rfl⟩ := Int.eq_ofNat_of_zero_le h1
  have HX1 := Lib.hid (HX0.out.drew ⟨h4, h5⟩)
  clear h2 h3 h4 h5 h6
  go_wp2
  go_loopw [5] (fun i wr => ∃ (k : Nat) (B : Option Addr) (d : Nat) (m : List Int), i = .int .i64 k ∧ k ≤ 3 ∧ Hid (gridRight side m = true) ∧ LX w g base side B d m wr) (fun i _ => (intOf i).toNat)
  case atStart => exact ⟨k0, A, c, l, rfl, by omega, HR0, HX1.out⟩
  case round =>
    clear HR0 HX1 HX0
    obtain ⟨k, B, d, m, rfl, hk, HR, hx⟩ := hrel
    have HX := Lib.hid hx
    have h64 := right_len HR.out
    by_cases hpos : 0 < k
    · obtain ⟨p0, p1, q0, q1⟩ := hx.inn
      clear hx
      go_wp2_with fail
      refine (src_n g side _ HX.out.src (by omega)).mono ?_
      rintro e w2 ⟨x, rfl, hx1, hx2, hx3, h4, h5, h6⟩
      have hx4 : x < side := by
        by_cases h : 1 < side
        · exact hx2 h
        · have := hx3 (by omega)
          omega
      have HX2 := Lib.hid (HX.out.drew ⟨h4, h5⟩)
      clear hx2 hx3 h4 h5 h6 p0 p1 q0 q1
      obtain ⟨p0, p1, q0, q1⟩ := HX2.out.inn
      go_wp2_with fail
      refine (src_n g side _ HX2.out.src (by omega)).mono ?_
      rintro e w3 ⟨y, rfl, hy1, hy2, hy3, h4, h5, h6⟩
      have hy4 : y < side := by
        by_cases h : 1 < side
        · exact hy2 h
        · have := hy3 (by omega)
          omega
      have HX3 := Lib.hid (HX2.out.drew ⟨h4, h5⟩)
      clear hy2 hy3 h4 h5 h6 p0 p1 q0 q1
      obtain ⟨p0, p1, q0, q1⟩ := HX3.out.inn
      have e1 : IntKind.i64.wrap (side - x) = side - x := IntWalk.i64_in _ (by omega)
      have e2 : IntKind.i64.wrap (side - y) = side - y := IntWalk.i64_in _ (by omega)
      have hxt : Hid (LX w g base side B d m w3.drew) := HX3.out.tape
      have hx3 := hxt.out
      clear hxt
      go_wp2_with fail
      go_region_held3 (fun w' => w'.cell? ⟨w.heap.size, 0, none⟩ = some (.int .i64 side) ∧ w'.cell? ⟨w.heap.size, 1, none⟩ = some (.slice B m.length d))
        (first
          | go_keep
          | exact hkeep
          | exact ⟨(World.cell?_setCell_other _ _ _ _ (by simp <;> omega)).trans ((World.cell?_setCell_other _ _ _ _ (by simp <;> omega)).trans ((World.cell?_setCell_other _ _ _ _ (by simp <;> omega)).trans hkeep.1)), (World.cell?_setCell_other _ _ _ _ (by simp <;> omega)).trans ((World.cell?_setCell_other _ _ _ _ (by simp <;> omega)).trans ((World.cell?_setCell_other _ _ _ _ (by simp <;> omega)).trans hkeep.2))⟩)
        (first
          | (go_at_call 61; have hthere := hr4; refine (src_n g _ _ (LX.src (by with_reducible exact hx4)) (by omega)).mono ?_; rintro e w5 ⟨r2, rfl, hr1', hr2', hr3', h4', h5', h6'⟩; clear h6'; have hr4' := n_le hr2' hr3' (by omega); have hrw' : IntKind.i64.wrap (1 + r2) = 1 + r2 := IntWalk.i64_in _ (by omega); have hx5 := LX.drew (h := hx4) (hd := ⟨h4', h5'⟩); have hkeep := hx5.held)
          | (go_at_call 61; have hthere := hr4; refine (src_n g _ _ (LX.src (by with_reducible exact hz4.lx)) (by omega)).mono ?_; rintro e w5 ⟨r2, rfl, hr1', hr2', hr3', h4', h5', h6'⟩; clear h6'; have hr4' := n_le hr2' hr3' (by omega); have hrw' : IntKind.i64.wrap (1 + r2) = 1 + r2 := IntWalk.i64_in _ (by omega); have hz5 := LZ.drew (h := hz4) (hd := ⟨h4', h5'⟩); have hkeep := hz5.lx.held)
          | (go_at_call 61; have hthere := hr4; refine (src_n g _ _ (LX.src (by with_reducible exact (LX.alloc hx4 0 0 (.slice none 0 0)).lx)) (by omega)).mono ?_; rintro e w5 ⟨r2, rfl, hr1', hr2', hr3', h4', h5', h6'⟩; clear h6'; have hr4' := n_le hr2' hr3' (by omega); have hrw' : IntKind.i64.wrap (1 + r2) = 1 + r2 := IntWalk.i64_in _ (by omega); have hz5 := LZ.drew (o := w4.heap.size) (h := (LX.alloc hx4 0 0 (.slice none 0 0))) (hd := ⟨h4', h5'⟩); have hkeep := hz5.lx.held)
          | (go_at_call 61; refine (src_n g _ _ (LX.src (by with_reducible exact hx3)) (by omega)).mono ?_; rintro e w4 ⟨r, rfl, hr1, hr2, hr3, h4, h5, h6⟩; clear h6; have hr4 := n_le hr2 hr3 (by omega); have hrw : IntKind.i64.wrap (1 + r) = 1 + r := IntWalk.i64_in _ (by omega); have hx4 := LX.drew (h := hx3) (hd := ⟨h4, h5⟩); have hkeep := hx4.held)
          | (go_at_call 61; refine (src_n g _ _ (LX.src (by with_reducible exact (LX.alloc HX3.out 0 0 (.slice none 0 0)).tape.lx)) (by omega)).mono ?_; rintro e w4 ⟨r, rfl, hr1, hr2, hr3, h4, h5, h6⟩; clear h6; have hr4 := n_le hr2 hr3 (by omega); have hrw : IntKind.i64.wrap (1 + r) = 1 + r := IntWalk.i64_in _ (by omega); have hz4 := LZ.drew (o := w3.heap.size) (h := (LX.alloc HX3.out 0 0 (.slice none 0 0)).tape) (hd := ⟨h4, h5⟩); have hkeep := hz4.lx.held)
          | (go_at_call 71; refine (src_tile g _ (LX.src (by with_reducible exact hx5))).mono ?_; rintro e w6 ⟨t, rfl, ht, hd6⟩; have hx6 := LX.drew (h := hx5) (hd := hd6); have hkeep := hx6.held)
          | (go_at_call 71; refine (src_tile g _ (LX.src (by with_reducible exact hz5.lx))).mono ?_; rintro e w6 ⟨t, rfl, ht, hd6⟩; have hz6 := LZ.drew (h := hz5) (hd := hd6); have hkeep := hz6.lx.held)
          | (go_at_call 71; refine (src_tile g _ (LX.src (by with_reducible exact (LX.alloc hx5 0 0 (.slice none 0 0)).lx))).mono ?_; rintro e w6 ⟨t, rfl, ht, hd6⟩; have hz6 := LZ.drew (o := w5.heap.size) (h := (LX.alloc hx5 0 0 (.slice none 0 0))) (hd := hd6); have hkeep := hz6.lx.held)
          | (go_at_call 70; refine (mFill_any side x y _ _ _ B d m _ (LX.ri (by with_reducible exact hx6)) (by omega) (by omega) (by omega) (by omega) (by omega)).mono ?_; rintro e w7 ⟨A7, c7, rfl, ho7, hb7⟩; have HX7 := Lib.hid (LX.below (h := hx6) hb7); have HO7 := Lib.hid (LX.lower (h := hx6) ho7); have HA7 := Lib.hid (LX.news (h := hx6) ho7); have hkeep := HX7.out.held)
          | (go_at_call 70; refine (mFill_any side x y _ _ _ B d m _ (LX.ri (by with_reducible exact hz6.lx)) (by omega) (by omega) (by omega) (by omega) (by omega)).mono ?_; rintro e w7 ⟨A7, c7, rfl, ho7, hb7⟩; have HZ7 := Lib.hid (LZ.below (h := hz6) hb7); have HL7 := Lib.hid (LZ.apart (h := hz6) ho7); have HO7 := Lib.hid (LX.lower (h := hz6.lx) ho7); have HA7 := Lib.hid (LX.news (h := hz6.lx) ho7); have hkeep := HZ7.out.lx.held; obtain ⟨_, z0, z1, z2, y0, y1, y2, zf, _⟩ := HZ7.out)
          | (go_at_call 70; refine (mFill_any side x y _ _ _ B d m _ (LX.ri (by with_reducible exact (LX.alloc hx6 0 0 (.slice none 0 0)).lx)) (by omega) (by omega) (by omega) (by omega) (by omega)).mono ?_; rintro e w7 ⟨A7, c7, rfl, ho7, hb7⟩; have HZ7 := Lib.hid (LZ.below (o := w6.heap.size) (h := (LX.alloc hx6 0 0 (.slice none 0 0))) hb7); have HL7 := Lib.hid (LZ.apart (o := w6.heap.size) (h := (LX.alloc hx6 0 0 (.slice none 0 0))) ho7); have HO7 := Lib.hid (LX.lower (h := (LX.alloc hx6 0 0 (.slice none 0 0)).lx) ho7); have HA7 := Lib.hid (LX.news (h := (LX.alloc hx6 0 0 (.slice none 0 0)).lx) ho7); have hkeep := HZ7.out.lx.held; obtain ⟨_, z0, z1, z2, y0, y1, y2, zf, _⟩ := HZ7.out))
      -- behind the region
      all_goals first
        | (have HP := Lib.hid (LF.after HX7.out HO7.out HA7.out (fillSide side m x y (1 + r) (1 + r2) t) (fillCode side m x y (1 + r) (1 + r2) t))
           generalize w7.alloc (.cells #[.int .i64 (fillSide side m x y (1 + r) (1 + r2) t), .slice A7 (fillTiles side m x y (1 + r) (1 + r2) t).length c7, .int .i64 (fillCode side m x y (1 + r) (1 + r2) t)] 94) = W at HP ⊢
           generalize w7.heap.size = o at HP ⊢)
        | (have HP := Lib.hid (LF.ahead (o := w3.heap.size) HZ7.out HO7.out HL7.out HA7.out (fillSide side m x y (1 + r) (1 + r2) t) (fillCode side m x y (1 + r) (1 + r2) t))
           generalize ((w7.setCell ⟨w3.heap.size, 0, none⟩ (.int .i64 (fillSide side m x y (1 + r) (1 + r2) t))).setCell ⟨w3.heap.size, 1, none⟩ (.slice A7 (fillTiles side m x y (1 + r) (1 + r2) t).length c7)).setCell ⟨w3.heap.size, 2, none⟩ (.int .i64 (fillCode side m x y (1 + r) (1 + r2) t)) = W at HP ⊢
           clear HZ7 HL7 z0 z1 z2 y0 y1 y2 zf
           generalize w3.heap.size = o at HP ⊢)
        | (have HP := Lib.hid (LF.ahead (o := w4.heap.size) HZ7.out HO7.out HL7.out HA7.out (fillSide side m x y (1 + r) (1 + r2) t) (fillCode side m x y (1 + r) (1 + r2) t))
           generalize ((w7.setCell ⟨w4.heap.size, 0, none⟩ (.int .i64 (fillSide side m x y (1 + r) (1 + r2) t))).setCell ⟨w4.heap.size, 1, none⟩ (.slice A7 (fillTiles side m x y (1 + r) (1 + r2) t).length c7)).setCell ⟨w4.heap.size, 2, none⟩ (.int .i64 (fillCode side m x y (1 + r) (1 + r2) t)) = W at HP ⊢
           clear HZ7 HL7 z0 z1 z2 y0 y1 y2 zf
           generalize w4.heap.size = o at HP ⊢)
        | (have HP := Lib.hid (LF.ahead (o := w5.heap.size) HZ7.out HO7.out HL7.out HA7.out (fillSide side m x y (1 + r) (1 + r2) t) (fillCode side m x y (1 + r) (1 + r2) t))
           generalize ((w7.setCell ⟨w5.heap.size, 0, none⟩ (.int .i64 (fillSide side m x y (1 + r) (1 + r2) t))).setCell ⟨w5.heap.size, 1, none⟩ (.slice A7 (fillTiles side m x y (1 + r) (1 + r2) t).length c7)).setCell ⟨w5.heap.size, 2, none⟩ (.int .i64 (fillCode side m x y (1 + r) (1 + r2) t)) = W at HP ⊢
           clear HZ7 HL7 z0 z1 z2 y0 y1 y2 zf
           generalize w5.heap.size = o at HP ⊢)
        | (have HP := Lib.hid (LF.ahead (o := w6.heap.size) HZ7.out HO7.out HL7.out HA7.out (fillSide side m x y (1 + r) (1 + r2) t) (fillCode side m x y (1 + r) (1 + r2) t))
           generalize ((w7.setCell ⟨w6.heap.size, 0, none⟩ (.int .i64 (fillSide side m x y (1 + r) (1 + r2) t))).setCell ⟨w6.heap.size, 1, none⟩ (.slice A7 (fillTiles side m x y (1 + r) (1 + r2) t).length c7)).setCell ⟨w6.heap.size, 2, none⟩ (.int .i64 (fillCode side m x y (1 + r) (1 + r2) t)) = W at HP ⊢
           clear HZ7 HL7 z0 z1 z2 y0 y1 y2 zf
           generalize w6.heap.size = o at HP ⊢)
      all_goals
        clear p0 p1 q0 q1 HO7 HA7 HX HX2 HX3 hkeep e1 e2
        obtain ⟨⟨_, z0, z1, z2, y0, y1, y2, zf, _⟩, _, _⟩ := HP.out
        obtain ⟨p0, p1, q0, q1⟩ := HP.out.lz.lx.inn
        have ekk : (k : Int) - 1 = ((k - 1 : Nat) : Int) := by omega
        have hkw : IntKind.i64.wrap ((k : Int) - 1) = ((k - 1 : Nat) : Int) := by rw [ekk]; exact IntWalk.i64_in _ (by omega)
        cases hc : (fillOk side m t && fillIn side x y (1 + r) (1 + r2))
        · have hq : (fillCode side m x y (1 + r) (1 + r2) t == 0) = false := by
            rw [Bool.and_eq_false_iff] at hc
            unfold fillCode
            rcases hc with hc | hc
            · rw [hc]; rfl
            · rw [hc]; split <;> rfl
          clear hc
          go_wp2
          go_roundw
          case rel => exact ⟨k - 1, B, d, m, rfl, by omega, HR, HP.out.lz.lx⟩
          case measure => simp [intOf]; omega
        · rw [Bool.and_eq_true] at hc
          obtain ⟨hc1, hc2⟩ := hc
          have eC : fillCode side m x y (1 + r) (1 + r2) t = 0 := by unfold fillCode; rw [hc1, hc2]; rfl
          have eS : fillSide side m x y (1 + r) (1 + r2) t = side := by unfold fillSide; rw [hc1, hc2]; rfl
          have eL : fillTiles side m x y (1 + r) (1 + r2) t = fillL side m x y (1 + r) (1 + r2) t := by unfold fillTiles; rw [hc1, hc2]; rfl
          have HRR : Hid (gridRight side (fillTiles side m x y (1 + r) (1 + r2) t) = true) := by
            show _ = _
            rw [eL]
            rw [fillOk, Bool.and_eq_true] at hc1
            exact fill_right _ hc1.1 hc1.2
          rw [eC] at z2
          rw [eS] at z0
          have hp := HP.out
          rw [eS] at hp
          have HN := Lib.hid hp.take
          clear hp hc1 hc2 eL eC
          go_wp2
          go_roundw
          case rel => exact ⟨k - 1, A7, c7, _, rfl, by omega, HRR, HN.out⟩
          case measure => simp [intOf]; omega
    · have ek : k = 0 := by omega
      subst ek
      obtain ⟨p0, p1, q0, q1⟩ := hx.inn
      obtain ⟨r0, r1, s0, s1⟩ := hx.res
      clear hx
      go_wp2
      refine bodyPost_ret (v := .agg #[.int .i64 side, .slice B m.length d]) (by simp [results, Try.results59, go_sem, r0, r1]) rfl ?_
      have hn : ∀ k, (Value.slice B m.length d).ownBlock = some k → k ≠ w.heap.size + 1 := fun k hk => (HX.out.apt k hk).2
      have hb : Below w.heap.size wr ((wr.setCell ⟨w.heap.size + 1, 0, none⟩ (.int .i64 side)).setCell ⟨w.heap.size + 1, 1, none⟩ (.slice B m.length d)) := ((Below.refl _ _).setCell (by simp) _).setCell (by simp) _
      exact ⟨B, d, m, rfl, HR.out, (HX.out.own.other hn _).other hn _, HX.out.drw.more (by omega) hb⟩
end Go.Proofs.Ytmjbefjkkncjlaa

namespace Go.Proofs.Ytmjbefjkkncjlaa
open Go.RowKit

/-- A map that was drawn: small, of small numbers, in new memory. -/
def GridPost (w : World) (g : Nat) (e : Ending) (w' : World) : Prop := ∃ (side : Int) (A : Option Addr) (c : Nat) (l : List Int), e = .returned (.agg #[.int .i64 side, .slice A l.length c]) ∧ (0 ≤ side ∧ side ≤ 10 ∧ l.length ≤ 65 ∧ ∀ n ∈ l, -1 ≤ n ∧ n ≤ 10) ∧ OwnI 2 .i64 w' w.heap.size (.slice A l.length c) l ∧ Drew w g w'
theorem right_small {side : Int} {l : List Int} (h : gridRight side l = true) : 0 ≤ side ∧ side ≤ 10 ∧ l.length ≤ 65 ∧ ∀ n ∈ l, -1 ≤ n ∧ n ≤ 10 := by
  obtain ⟨hs, _, ht⟩ := right_parts h
  have := side_bound hs
  have := right_len h
  refine ⟨by omega, by omega, by omega, fun n hn => ?_⟩
  obtain ⟨j, hj, rfl⟩ := List.getElem_of_mem hn
  have := ht j hj
  omega
theorem new_right {side : Int} (h : sideOk side = true) : gridRight side (List.replicate (side * side).toNat 0) = true := by
  rcases (sideOk_iff side).1 h with rfl | rfl | rfl | rfl <;> decide

theorem lit_in {w W w1 : World} {g k : Nat} {l : List Int} (hW : W.heap = (w.alloc (.cells (l.map (Value.int .i64)).toArray 2)).heap) (hk : k < l.length) (hg : g < w.heap.size) (h : W.grownBy w1 (some g)) : w1.cell? ⟨w.heap.size, k, none⟩ = some (.int .i64 l[k]) := by
  have hb : w1.heap[w.heap.size]? = (w.alloc (.cells (l.map (Value.int .i64)).toArray 2)).heap[w.heap.size]? := by
    rw [h.block w.heap.size (by rw [hW]; show _ < (w.alloc _).heap.size; simp) (fun e => by have := Option.some.inj e; omega), hW]
  rw [World.cell?_of_block (a := ⟨w.heap.size, k, none⟩) hb, cell_of_row (w.alloc (.cells (l.map (Value.int .i64)).toArray 2)) w.heap.size k _ 2 (0, 0) (heap_alloc_new w _)]
  simp [hk]
theorem lit_arr {k : Nat} (hk : k < ([-1, 10] : List Int).length) : (#[Value.int .i64 (-1), Value.int .i64 10] : Array Value)[k]? = some (.int .i64 ([-1, 10] : List Int)[k]) := by
  have h2 : k < 2 := by simpa using hk
  match k, h2 with
  | 0, _ => rfl
  | 1, _ => rfl
theorem lit_new (w : World) {k : Nat} {l : List Int} (hk : k < l.length) : (w.alloc (.cells (l.map (Value.int .i64)).toArray 2)).cell? ⟨w.heap.size, k, none⟩ = some (.int .i64 l[k]) := by
  rw [cell_of_row (w.alloc (.cells (l.map (Value.int .i64)).toArray 2)) w.heap.size k _ 2 (0, 0) (heap_alloc_new w _)]
  simp [hk]

/-- What holds once the map stands in its box o. -/
structure GX (w : World) (g o : Nat) (side : Int) (A : Option Addr) (c : Nat) (l : List Int) (wr : World) : Prop where
  res : GB wr w.heap.size 0 (.slice none 0 0)
  box : GB wr o side (.slice A l.length c)
  own : OwnI 2 .i64 wr (w.heap.size + 1) (.slice A l.length c) l
  drw : Drew w g wr
  siz : g < w.heap.size ∧ w.heap.size < o ∧ o < wr.heap.size
  tag : ∃ cs, wr.heap[o]? = some (.cells cs 25 (0, 0))
theorem tag_apart {w : World} {base o : Nat} {v : Value} {l : List Int} (h : OwnI 2 .i64 w base v l) (ht : ∃ cs, w.heap[o]? = some (.cells cs 25 (0, 0))) : ∀ k, v.ownBlock = some k → k ≠ o := by
  rintro k hk rfl
  obtain ⟨cs, ht⟩ := ht
  rcases h.2 with ⟨rfl, _⟩ | ⟨g', cap, cur, rfl, _, hg, _⟩
  · cases hk
  · have e : g' = k := Option.some.inj hk
    rw [e, ht] at hg
    have h2 := Obj.cells.inj (Option.some.inj hg)
    exact absurd h2.2.1 (by decide)
section
variable {w wr wr' : World} {g o c : Nat} {side : Int} {A : Option Addr} {l : List Int}
theorem GX.apt (h : GX w g o side A c l wr) : ∀ k, (Value.slice A l.length c).ownBlock = some k → k ≠ o := tag_apart h.own h.tag
theorem GX.drew (h : GX w g o side A c l wr) (hd : Drew wr g wr') : GX w g o side A c l wr' := by
  obtain ⟨h1, h2, h3⟩ := h.siz
  exact ⟨h.res.drewn hd (by omega) (by omega), h.box.drewn hd (by omega) h3, h.own.drewn hd (by omega), h.drw.trans hd, ⟨h1, h2, Nat.lt_of_lt_of_le h3 hd.2.size⟩, by rw [hd.2.block o h3 (fun e => by have := Option.some.inj e; omega)]; exact h.tag⟩
theorem GX.below (h : GX w g o side A c l wr) (hb : Below wr.heap.size wr wr') : GX w g o side A c l wr' := by
  obtain ⟨h1, h2, h3⟩ := h.siz
  exact ⟨h.res.below hb (by omega), h.box.below hb h3, h.own.keep hb, h.drw.more h1 (hb.mono (by omega)), ⟨h1, h2, Nat.lt_of_lt_of_le h3 hb.size⟩, by rw [hb.block o h3]; exact h.tag⟩
theorem GX.fin (h : GX w g o side A c l wr) (hs : 0 ≤ side ∧ side ≤ 10 ∧ l.length ≤ 65 ∧ ∀ n ∈ l, -1 ≤ n ∧ n ≤ 10) :
    GridPost w g (.returned (.agg #[.int .i64 side, .slice A l.length c])) ((wr.setCell ⟨w.heap.size, 0, none⟩ (.int .i64 side)).setCell ⟨w.heap.size, 1, none⟩ (.slice A l.length c)) := by
  have hb : Below w.heap.size wr ((wr.setCell ⟨w.heap.size, 0, none⟩ (.int .i64 side)).setCell ⟨w.heap.size, 1, none⟩ (.slice A l.length c)) := ((Below.refl _ _).setCell (by simp) _).setCell (by simp) _
  exact ⟨side, A, c, l, rfl, hs, OwnI.lower (base := w.heap.size + 1) (by omega) (OwnI.set_below (by show w.heap.size < _; omega) _ (OwnI.set_below (by show w.heap.size < _; omega) _ h.own)), h.drw.more h.siz.1 hb⟩
theorem GX.setSide (h : GX w g o side A c l wr) (s : Int) : GX w g o s A c l (wr.setCell ⟨o, 0, none⟩ (.int .i64 s)) := by
  obtain ⟨h1, h2, h3⟩ := h.siz
  have hb : Below w.heap.size wr (wr.setCell ⟨o, 0, none⟩ (.int .i64 s)) := (Below.refl _ _).setCell (by show w.heap.size ≤ o; omega) _
  exact ⟨h.res.far (by show o ≠ _; omega) _, h.box.set0 s, h.own.other (fun k hk => h.apt k hk) _, h.drw.more h1 hb, ⟨h1, h2, by simpa [World.setCell] using h3⟩, h.tag.elim fun cs e => ⟨_, heap_setCell_same _ _ _ _ _ _ e⟩⟩
theorem GB.grownW {b : Nat} {v : Value} {row : Option Nat} (h : GB wr b side v) (hg : wr.grownBy wr' row) (hb : b < wr.heap.size) (hn : row ≠ some b) : GB wr' b side v := by
  have e := hg.block b hb (Ne.symm hn)
  exact ⟨(World.cell?_of_block (w := wr) (a := ⟨b, 0, none⟩) e).trans h.c0, (World.cell?_of_block (w := wr) (a := ⟨b, 1, none⟩) e).trans h.c1, (World.frozen?_of_block (w := wr) (a := ⟨b, 0, none⟩) e).trans h.f0, (World.frozen?_of_block (w := wr) (a := ⟨b, 1, none⟩) e).trans h.f1⟩
theorem GX.src (h : GX w g o side A c l wr) : SrcB wr g := h.drw.1
theorem GX.setTile {gt : Nat} (h : GX w g o side (some ⟨gt, 0, none⟩) c l wr) (x : Int) : GX w g o side (some ⟨gt, 0, none⟩) c (l.set 0 x) (wr.setCell ⟨gt, 0, none⟩ (.int .i64 x)) := by
  obtain ⟨h1, h2, h3⟩ := h.siz
  have hne : gt ≠ o := h.apt gt rfl
  have hlow := (World.ownsRow.lt h.own gt rfl).1
  have hb : Below w.heap.size wr (wr.setCell ⟨gt, 0, none⟩ (.int .i64 x)) := (Below.refl _ _).setCell (by show w.heap.size ≤ gt; omega) _
  refine ⟨h.res.far (by show gt ≠ _; omega) _, ?_, ?_, h.drw.more h1 hb, ⟨h1, h2, by simpa [World.setCell] using h3⟩, ?_⟩
  · rw [List.length_set]; exact h.box.far hne _
  · rw [List.length_set]; exact (h.own.store x).1
  · rw [Below.heap_setCell _ _ _ _ (by show o ≠ gt; omega)]; exact h.tag
theorem GX.resGrown (h : GX w g o side A c l wr) (hg : wr.grownBy wr' (Value.slice A l.length c).ownBlock) : GB wr' w.heap.size 0 (.slice none 0 0) := h.res.grownW hg (by have := h.siz; omega) (fun e => by have := (World.ownsRow.lt h.own _ e).1; omega)
theorem GX.setTiles {A' : Option Addr} {c' : Nat} {l' : List Int} (h : GX w g o side A c l wr) (hg : wr.grownBy wr' (Value.slice A l.length c).ownBlock) (ho : OwnI 2 .i64 wr' (w.heap.size + 1) (.slice A' l'.length c') l') : GX w g o side A' c' l' (wr'.setCell ⟨o, 1, none⟩ (.slice A' l'.length c')) := by
  obtain ⟨h1, h2, h3⟩ := h.siz
  have hne : (Value.slice A l.length c).ownBlock ≠ some o := fun e => h.apt o e rfl
  have hnr : (Value.slice A l.length c).ownBlock ≠ some w.heap.size := fun e => by have := (World.ownsRow.lt h.own _ e).1; omega
  have hlow : ∀ k, (Value.slice A l.length c).ownBlock = some k → w.heap.size + 1 ≤ k := fun k e => (World.ownsRow.lt h.own _ e).1
  have ht : ∃ cs, wr'.heap[o]? = some (.cells cs 25 (0, 0)) := by rw [hg.block o h3 (Ne.symm hne)]; exact h.tag
  have hb0 : Below w.heap.size wr wr' := ⟨hg.os, hg.tape, hg.output, hg.size, fun k hk => hg.block k (by omega) (fun e => by have := hlow k e.symm; omega)⟩
  have hb : Below w.heap.size wr (wr'.setCell ⟨o, 1, none⟩ (.slice A' l'.length c')) := hb0.setCell (by show w.heap.size ≤ o; omega) _
  exact ⟨((h.res.grownW hg (by omega) hnr).far (by show o ≠ _; omega) _), (h.box.grownW hg h3 hne).set1 _, ho.other (tag_apart ho ht) _, h.drw.more h1 hb, ⟨h1, h2, by have := hg.size; simp [World.setCell]; omega⟩, ht.elim fun cs e => ⟨_, heap_setCell_same _ _ _ _ _ _ e⟩⟩
end
/-- append of one number, and which blocks stay. -/
theorem append_one {P : Program} {t e : TypeId} {k : IntKind} {by_ : Nat} {i : TypeInfo} (ht : P.underlying t = some (.slice e)) (hi : P.info? e = some i) (hz : i.zero = some (.int k 0)) (hsz : i.size = 1) (hby : i.bytes = by_) (h8 : by_ ≤ 8)
    {ops : Array Oper} {rest : List Oper} {o : Oper} {a : Act} {Q : Exit → Act → World → Prop} (hgd : o.guard = none) (s x : Operand)
    (ho : o.op = .call { callee := .builtin .append, args := #[s, x], argTypes := #[t, t] })
    (base : Nat) (v : Value) (l : List Int) (b : Int) (wr : World) (hown : OwnI e k wr base v l) (hs : a.eval s = v)
    (hx : a.eval x = .slice (some ⟨wr.heap.size, 0, none⟩) 1 1) (hlen : l.length < 17000000000000) (hb : base ≤ wr.heap.size)
    (h : ∀ v' w', OwnI e k w' base v' (l ++ [b]) → wr.grownBy w' v.ownBlock → wpList P ops Q rest (a.put o.dst v') w') :
    wpList P ops Q (o :: rest) a (wr.alloc (.cells #[.int k b] e)) := by
  refine wpList_append_own _ hgd s x t ho base e i (.int k 0) 1 by_ ht hi hz hsz hby rfl (by decide) v l.length _ hs (World.ownsRow.alloc hown _) ⟨wr.heap.size, 0, none⟩ 1 1 [.int k b] hx rfl ?_ ?_ ?_ ?_ ?_ ?_
  · exact cell_one_new _ _ _
  · intro u hu; simp at hu; subst hu; rfl
  · unfold maxLen; omega
  · have h1 : (l.length + 1) * by_ ≤ (l.length + 1) * 8 := Nat.mul_le_mul_left _ h8
    omega
  · simp; omega
  · intro v' w' hown' hgrow _
    refine h v' w' ?_ ?_
    · simpa [OwnI] using hown'
    · exact ⟨hgrow.os, hgrow.tape, hgrow.output, Nat.le_trans (by simp) hgrow.size, fun j hj hne => (hgrow.block j (by simp; omega) hne).trans (Below.heap_alloc wr _ j hj)⟩

set_option maxRecDepth 100000 in
set_option maxHeartbeats 1000000 in
theorem grid_any (g : Nat) (w : World) (hs : SrcB w g) :
    Calls Try.prog 35 #[.pointer (some ⟨g, 0, none⟩)] w (GridPost w g) := by
  obtain ⟨i0, hi, hz0, hz1, hz2⟩ := info_parts Try.infoInt
  have hlt := hs.lt
  have H0 := Lib.hid ((Drew.refl hs).alloc (.cells #[.int .i64 0, .slice none 0 0] 25))
  have HG0 := Lib.hid (GB.made w 0 (.slice none 0 0) 25)
  clear hs
  go_enter Try.func35, Try.ntmps35
  go_wp2_with fail
  have HD1 := Lib.hid (H0.out.alloc (.cells #[.int .i64 1, .int .i64 2, .int .i64 4, .int .i64 4, .int .i64 8] 2))
  have HG1 := Lib.hid (HG0.out.below ((Below.refl (w.heap.size + 1) _).alloc (by simp) (.cells #[.int .i64 1, .int .i64 2, .int .i64 4, .int .i64 4, .int .i64 8] 2)) (by omega))
  refine (src_n g 5 _ HD1.out.1 (by omega)).mono ?_
  rintro e w2 ⟨r, rfl, h1, h2, h3, h4, h5, h6⟩
  have h2' := h2 (by omega)
  obtain ⟨k, rfl⟩ := Int.eq_ofNat_of_zero_le h1
  have hk : k < ([1, 2, 4, 4, 8] : List Int).length := by simp; omega
  have hc := lit_at (w := w.alloc (.cells #[.int .i64 0, .slice none 0 0] 25)) (l := [1, 2, 4, 4, 8]) hk (by simp; omega) h5
  rw [alloc_size] at hc
  have HS : Hid (sideOk ([1, 2, 4, 4, 8] : List Int)[k] = true) := by
    show _ = _
    have hk5 : k < 5 := by omega
    match k, hk5 with
    | 0, _ => rfl
    | 1, _ => rfl
    | 2, _ => rfl
    | 3, _ => rfl
    | 4, _ => rfl
  have HD2 : Hid (Drew w g w2) := HD1.out.trans ⟨h4, h5⟩
  have HG2 := Lib.hid (HG1.out.drewn (g := g) ⟨h4, h5⟩ (by omega) (by simp; omega))
  have hz2 : w.heap.size + 1 < w2.heap.size := by have := h5.size; simp at this; omega
  generalize ([1, 2, 4, 4, 8] : List Int)[k] = side at *
  clear h2 h3 h4 h5 h6 HD1 HG1 HG0 H0
  have HR := Lib.hid (new_right HS.out)
  go_wp2_with fail
  refine (mNew_any side 0 w2 HS.out).mono ?_
  rintro e w3 ⟨A3, c3, rfl, ho3, hb3⟩
  generalize (side * side).toNat = n at *
  have HO3 := Lib.hid ho3
  have HD3 := Lib.hid (HD2.out.more hlt (hb3.mono (by omega)))
  have HG3 := Lib.hid (HG2.out.below hb3 (by omega))
  have hz3 : w.heap.size + 1 < w3.heap.size := by have := hb3.size; omega
  clear ho3 hb3
  have hLa := later_any g (w.heap.size + 1) side A3 c3 (List.replicate n 0) w3 HD3.out.1 HR.out (by rw [List.length_replicate]; exact OwnI.lower (by omega) HO3.out) (by omega) (by omega)
  rw [List.length_replicate] at hLa
  go_wp2_with fail
  refine hLa.mono ?_
  rintro e w4 ⟨A4, c4, l4, rfl, hr4, ho4, hd4⟩
  have HR4 := Lib.hid hr4
  have HO4 := Lib.hid ho4
  have HD4 := Lib.hid (HD3.out.trans hd4)
  have HG4 := Lib.hid (HG3.out.drewn hd4 (by omega) (by omega))
  have hz4 : w.heap.size + 1 < w4.heap.size := by have := hd4.2.size; omega
  clear hr4 ho4 hd4 hLa HR HO3
  have hLb := later_any g (w.heap.size + 1) side A4 c4 l4 w4 HD4.out.1 HR4.out HO4.out (by omega) (by omega)
  go_wp2_with fail
  refine hLb.mono ?_
  rintro e w5 ⟨A5, c5, l5, rfl, hr5, ho5, hd5⟩
  have HR5 := Lib.hid hr5
  have HO5 := Lib.hid ho5
  have HD5 := Lib.hid (HD4.out.trans hd5)
  have HG5 := Lib.hid (HG4.out.drewn hd5 (by omega) (by omega))
  have hz5 : w.heap.size + 1 < w5.heap.size := by have := hd5.2.size; omega
  clear hr5 ho5 hd5 hLb HR4 HO4
  go_wp2_with fail
  have HX : Hid (GX w g w5.heap.size side A5 c5 l5 (w5.alloc (.cells #[.int .i64 side, .slice A5 l5.length c5] 25))) := by
    have hb : Below w5.heap.size w5 (w5.alloc (.cells #[.int .i64 side, .slice A5 l5.length c5] 25)) := (Below.refl _ _).alloc (Nat.le_refl _) _
    exact ⟨HG5.out.below hb (by omega), GB.made _ _ _ _, HO5.out.alloc _, HD5.out.alloc _, ⟨hlt, by omega, by simp⟩, ⟨_, heap_alloc_new _ _⟩⟩
  have HSM := Lib.hid (right_small HR5.out)
  have hpos : 0 < l5.length := by
    obtain ⟨hs, hl, _⟩ := right_parts HR5.out
    rcases (sideOk_iff side).1 hs with rfl | rfl | rfl | rfl <;> omega
  have h65 := HSM.out.2.2.1
  have h64 := right_len HR5.out
  generalize w5.alloc (.cells #[.int .i64 side, .slice A5 l5.length c5] 25) = W at *
  generalize w5.heap.size = o at *
  clear HD2 HG2 hz2 HG3 HD3 hz3 HG4 HD4 hz4 HG5 HD5 HO5 hc
  refine (src_one g 15 W HX.out.drw.1 (by omega)).mono ?_
  rintro e w6 ⟨⟨b, rfl⟩, hd6⟩
  have HX6 := Lib.hid (HX.out.drew hd6)
  clear hd6 HX
  cases b
  · obtain ⟨c0, c1, f0, f1⟩ := HX6.out.box
    obtain ⟨p0, p1, q0, q1⟩ := HX6.out.res
    go_wp2
    exact bodyPost_ret (v := .agg #[.int .i64 side, .slice A5 l5.length c5]) (by simp [results, Try.results35, go_sem, p0, p1]) rfl (HX6.out.fin HSM.out)
  · go_wp2_with fail
    refine (src_n g 3 w6 HX6.out.drw.1 (by omega)).mono ?_
    rintro e w7 ⟨r, rfl, h1, h2, h3, h4, h5, h6⟩
    have h2' := h2 (by omega)
    have HX7 := Lib.hid (HX6.out.drew ⟨h4, h5⟩)
    clear h2 h3 h4 h5 h6 HX6
    have hr3 : r = 0 ∨ r = 1 ∨ r = 2 := by omega
    rcases hr3 with rfl | rfl | rfl
    · go_wp2_with fail
      refine (src_n g 10 w7 HX7.out.drw.1 (by omega)).mono ?_
      rintro e w8 ⟨r, rfl, h1', h2, h3, h4, h5, h6⟩
      have h2'' := h2 (by omega)
      have HX8 := Lib.hid (HX7.out.drew ⟨h4, h5⟩)
      clear h2 h3 h4 h5 h6
      obtain ⟨c0, c1, f0, f1⟩ := HX8.out.box
      have HX9 := Lib.hid (HX8.out.setSide r)
      obtain ⟨p0, p1, q0, q1⟩ := HX8.out.res
      have hz8 := HX8.out.siz
      have hne : ¬ w.heap.size = o := by omega
      have hne' : ¬ o = w.heap.size := by omega
      go_wp2
      refine bodyPost_ret (v := .agg #[.int .i64 r, .slice A5 l5.length c5]) (by simp [results, Try.results35, go_sem, HX9.out.res.c0, HX9.out.res.c1]) rfl ?_
      exact HX9.out.fin ⟨h1', by omega, HSM.out.2.2⟩
    · obtain ⟨c0, c1, f0, f1⟩ := HX7.out.box
      obtain ⟨p0, p1, q0, q1⟩ := HX7.out.res
      have hz8 := HX7.out.siz
      go_wp2_with (at_builtin; refine append_one Try.underlying23 hi hz0 hz1 ‹_› (by decide) rfl _ _ rfl (w.heap.size + 1) _ _ 0 w7 HX7.out.own rfl rfl (by omega) (by omega) ?_; intro v' w8 hown8 hg8; obtain ⟨A8, c8, rfl⟩ := hown8.form; have HX9 := Lib.hid (HX7.out.setTiles hg8 hown8); have hbx := HX7.out.box.grownW hg8 hz8.2.2 (fun e => HX7.out.apt o e rfl); clear c0 c1 f0 f1 p0 p1 q0 q1; obtain ⟨c0, c1, f0, f1⟩ := hbx; obtain ⟨p0, p1, q0, q1⟩ := HX7.out.resGrown hg8; have HW8 := Lib.hid hown8; clear hown8 hg8)
      rw [List.length_append, List.length_singleton] at HX9
      have HX10 := HX9.out
      refine bodyPost_ret (v := .agg #[.int .i64 side, .slice A8 (l5.length + 1) c8]) (by simp [results, Try.results35, go_sem, HX10.res.c0, HX10.res.c1]) rfl ?_
      have hfin := HX10.fin ⟨HSM.out.1, HSM.out.2.1, by simp; omega, fun n hn => by
        rcases List.mem_append.1 hn with hn | hn
        · exact HSM.out.2.2.2 n hn
        · simp at hn; omega⟩
      simpa using hfin
    · obtain ⟨gt, eg, _, _, hcg, hfg⟩ := HX7.out.own.at_ hpos
      cases eg
      obtain ⟨c0, c1, f0, f1⟩ := HX7.out.box
      have hz8 := HX7.out.siz
      have HXA := Lib.hid (HX7.out.below ((Below.refl w7.heap.size w7).alloc (Nat.le_refl _) (.cells #[.int .i64 (-1), .int .i64 10] 2)).drew)
      have HXB := Lib.hid (HX7.out.below (Below.refl w7.heap.size w7).drew)
      have HLIT : Hid (∀ q, (h : q < ([-1, 10] : List Int).length) → -1 ≤ ([-1, 10] : List Int)[q] ∧ ([-1, 10] : List Int)[q] ≤ 10) := by
        show ∀ q, _
        intro q h
        have h2 : q < 2 := by simpa using h
        match q, h2 with
        | 0, _ => simp
        | 1, _ => simp
      go_wp2_with fail
      go_region_with
        (first
          | (go_at_call 61; refine (src_n g 2 _ (by with_reducible exact HXA.out.src) (by omega)).mono ?_; rintro e w8 ⟨r, rfl, h1', h2, h3, h4, h5, h6⟩; have h2'' := h2 (by omega); obtain ⟨q, rfl⟩ := Int.eq_ofNat_of_zero_le h1'; have hq : q < ([-1, 10] : List Int).length := (by simp; omega); have hlit := lit_in (W := (w7.alloc (.cells #[.int .i64 (-1), .int .i64 10] 2)).drew) (l := [-1, 10]) rfl hq (by omega) h5; have HXX := Lib.hid (HLIT.out q hq); have HX8 := Lib.hid (HXA.out.drew ⟨h4, h5⟩); have hk60 := HX8.out.box.c0; have hk61 := HX8.out.box.c1; have hz80 := HX8.out.siz.2.2; have hgl := (World.ownsRow.lt HX8.out.own gt rfl).2; obtain ⟨_, eg8, _, _, hcg8, hfg8⟩ := HX8.out.own.at_ hpos; cases eg8; have hgo := HX8.out.apt gt rfl; have hgo' : ¬ o = gt := (fun e => hgo e.symm); generalize ([-1, 10] : List Int)[q] = xx at hlit HXX; have HX9 := Lib.hid (HX8.out.setTile xx); clear h2 h3 h4 h5 h6)
          | (go_at_call 61; refine (src_n g 2 _ (by with_reducible exact HXB.out.src) (by omega)).mono ?_; rintro e w8 ⟨r, rfl, h1', h2, h3, h4, h5, h6⟩; have h2'' := h2 (by omega); obtain ⟨q, rfl⟩ := Int.eq_ofNat_of_zero_le h1'; have hq : q < ([-1, 10] : List Int).length := (by simp; omega); have hlit : (w8.alloc (.cells #[.int .i64 (-1), .int .i64 10] 2)).cell? ⟨w8.heap.size, q, none⟩ = some (.int .i64 ([-1, 10] : List Int)[q]) := lit_new w8 (l := [-1, 10]) hq; have hlit2 : (#[Value.int .i64 (-1), Value.int .i64 10] : Array Value)[q]? = some (.int .i64 ([-1, 10] : List Int)[q]) := lit_arr hq; have HXX := Lib.hid (HLIT.out q hq); have HX8 := Lib.hid (HXB.out.drew ⟨h4, h5⟩); have hk60 := HX8.out.box.c0; have hk61 := HX8.out.box.c1; have hz80 := HX8.out.siz.2.2; have hgl := (World.ownsRow.lt HX8.out.own gt rfl).2; have HX8b := Lib.hid (HX8.out.below ((Below.refl w8.heap.size w8).alloc (Nat.le_refl _) (.cells #[.int .i64 (-1), .int .i64 10] 2))); obtain ⟨_, eg8, _, _, hcg8, hfg8⟩ := HX8b.out.own.at_ hpos; cases eg8; have hgo := HX8.out.apt gt rfl; have hgo' : ¬ o = gt := (fun e => hgo e.symm); generalize ([-1, 10] : List Int)[q] = xx at hlit hlit2 HXX; have HX9 := Lib.hid ((HX8.out.setTile xx).below ((Below.refl _ _).alloc (Nat.le_refl _) (.cells #[.int .i64 (-1), .int .i64 10] 2))); clear h2 h3 h4 h5 h6))
      all_goals first
        | generalize (w8.setCell ⟨gt, 0, none⟩ (.int .i64 xx)).alloc (.cells #[.int .i64 (-1), .int .i64 10] 2) = Wz at HX9 ⊢
        | generalize w8.setCell ⟨gt, 0, none⟩ (.int .i64 xx) = Wz at HX9 ⊢
      all_goals
        clear hlit hk60 hk61 hcg8 hfg8
        obtain ⟨d0, d1, e0, e1⟩ := HX9.out.box
        obtain ⟨p0, p1, q0, q1⟩ := HX9.out.res
        rw [List.length_set] at d1
        go_wp2
        refine bodyPost_ret (v := .agg #[.int .i64 side, .slice (some ⟨gt, 0, none⟩) l5.length c5]) (by simp [results, Try.results35, go_sem, p0, p1]) rfl ?_
        have hfin := HX9.out.fin ⟨HSM.out.1, HSM.out.2.1, by rw [List.length_set]; exact h65, fun n hn => by
          rcases List.mem_or_eq_of_mem_set hn with hn | rfl
          · exact HSM.out.2.2.2 n hn
          · exact HXX.out⟩
        rw [List.length_set] at hfin
        exact hfin
end Go.Proofs.Ytmjbefjkkncjlaa

namespace Go.Proofs.Ytmjbefjkkncjlaa
open Go.RowKit

/-- A drawn map is small, and of small numbers. -/
def Small (side : Int) (l : List Int) : Prop := 0 ≤ side ∧ side ≤ 10 ∧ l.length ≤ 65 ∧ ∀ n ∈ l, -1 ≤ n ∧ n ≤ 10

def NewPost (w : World) (e : Ending) (w' : World) : Prop := ∃ n t : Int, e = .returned (.tuple #[.int .i64 n, .int .i64 t]) ∧ (0 ≤ n ∧ n ≤ 9 ∧ -1 ≤ t ∧ t ≤ 10) ∧ Below w.heap.size w w'
theorem BytesIn.alloc {w : World} {A : Option Addr} {n : Nat} (h : BytesIn w w.heap.size A n) (o : Obj) : BytesIn (w.alloc o) (w.alloc o).heap.size A n :=
  (h.below fun k hk => Below.heap_alloc w o k hk).mono (by simp)
def DrawnGrid (w : World) (e : Ending) (w' : World) : Prop := ∃ (side : Int) (A : Option Addr) (c : Nat) (l : List Int), e = .returned (.agg #[.int .i64 side, .slice A l.length c]) ∧ Small side l ∧ OwnI 2 .i64 w' w.heap.size (.slice A l.length c) l ∧ Below w.heap.size w w'
end Go.Proofs.Ytmjbefjkkncjlaa

namespace Go.Proofs.Ytmjbefjkkncjlaa
open Go.RowKit

/-- What holds while arguments are drawn: the box to hand back, the source in block g, the map in block o. -/
structure DX (w : World) (g o : Nat) (side : Int) (A : Option Addr) (c : Nat) (l : List Int) (wr : World) : Prop where
  res : GB wr w.heap.size 0 (.slice none 0 0)
  box : GB wr o side (.slice A l.length c)
  own : OwnI 2 .i64 wr (g + 1) (.slice A l.length c) l
  src : SrcB wr g
  bel : Below w.heap.size w wr
  siz : w.heap.size < g ∧ g < o ∧ o < wr.heap.size
  low : ∀ k, (Value.slice A l.length c).ownBlock = some k → k < o
section
variable {w wr wr' : World} {g o c : Nat} {side : Int} {A : Option Addr} {l : List Int}
theorem DX.drew (h : DX w g o side A c l wr) (hd : Drew wr g wr') : DX w g o side A c l wr' := by
  obtain ⟨h1, h2, h3⟩ := h.siz
  exact ⟨h.res.drewn hd (by omega) (by omega), h.box.drewn hd (by omega) h3, h.own.drewn hd (by omega), hd.1, h.bel.trans (hd.below (by omega) (by omega)), ⟨h1, h2, Nat.lt_of_lt_of_le h3 hd.2.size⟩, h.low⟩
theorem DX.below (h : DX w g o side A c l wr) (hb : Below wr.heap.size wr wr') : DX w g o side A c l wr' := by
  obtain ⟨h1, h2, h3⟩ := h.siz
  exact ⟨h.res.below hb (by omega), h.box.below hb h3, h.own.keep hb, h.src.keep fun k hk => hb.block k (by omega), h.bel.trans (hb.mono (by omega)), ⟨h1, h2, Nat.lt_of_lt_of_le h3 hb.size⟩, h.low⟩
theorem DX.tape (h : DX w g o side A c l wr) : DX w g o side A c l wr.drew := h.below (Below.refl _ _).drew
theorem DX.held (h : DX w g o side A c l wr) : wr.cell? ⟨o, 0, none⟩ = some (.int .i64 side) ∧ wr.cell? ⟨o, 1, none⟩ = some (.slice A l.length c) := ⟨h.box.c0, h.box.c1⟩
theorem DX.fin (h : DX w g o side A c l wr) : OwnI 2 .i64 ((wr.setCell ⟨w.heap.size, 0, none⟩ (.int .i64 side)).setCell ⟨w.heap.size, 1, none⟩ (.slice A l.length c)) w.heap.size (.slice A l.length c) l ∧ Below w.heap.size w ((wr.setCell ⟨w.heap.size, 0, none⟩ (.int .i64 side)).setCell ⟨w.heap.size, 1, none⟩ (.slice A l.length c)) := by
  obtain ⟨h1, h2, h3⟩ := h.siz
  exact ⟨OwnI.lower (base := g + 1) (by omega) (OwnI.set_below (by show w.heap.size < _; omega) _ (OwnI.set_below (by show w.heap.size < _; omega) _ h.own)), (h.bel.setCell (by simp) _).setCell (by simp) _⟩
end

def TileArgs (w : World) (e : Ending) (w' : World) : Prop := ∃ (side : Int) (A : Option Addr) (c : Nat) (l : List Int) (x y : Int), e = .returned (.tuple #[.agg #[.int .i64 side, .slice A l.length c], .int .i64 x, .int .i64 y]) ∧ Small side l ∧ (-1 ≤ x ∧ x ≤ 4 ∧ -1 ≤ y ∧ y ≤ 4) ∧ OwnI 2 .i64 w' w.heap.size (.slice A l.length c) l ∧ Below w.heap.size w w'
def In64b (n : Int) : Prop := -9223372036854775808 ≤ n ∧ n ≤ 9223372036854775807
def FillArgs (w : World) (e : Ending) (w' : World) : Prop := ∃ (side : Int) (A : Option Addr) (c : Nat) (l : List Int) (x y wd ht t : Int), e = .returned (.tuple #[.agg #[.int .i64 side, .slice A l.length c], .int .i64 x, .int .i64 y, .int .i64 wd, .int .i64 ht, .int .i64 t]) ∧ Small side l ∧ (In64b x ∧ In64b y ∧ In64b wd ∧ In64b ht ∧ In64b t) ∧ OwnI 2 .i64 w' w.heap.size (.slice A l.length c) l ∧ Below w.heap.size w w'
end Go.Proofs.Ytmjbefjkkncjlaa

namespace Go.Proofs.Ytmjbefjkkncjlaa
open Go.RowKit
set_option linter.unusedVariables false
set_option linter.unusedSimpArgs false

theorem mMin8_any (x y : Int) (w : World) : Calls Try.prog 64 #[.int .i64 x, .int .i64 y] w fun e w' => e = .returned (.int .i64 (min x y)) ∧ w = w' := by
  by_cases h : x < y
  · have hm : min x y = x := by omega
    rw [hm]
    go_enter Try.func64, Try.ntmps64
    go_wp2
    go_ret
    exact ⟨rfl, rfl⟩
  · have hm : min x y = y := by omega
    rw [hm]
    go_enter Try.func64, Try.ntmps64
    go_wp2
    go_ret
    exact ⟨rfl, rfl⟩
theorem mMax8_any (x y : Int) (w : World) : Calls Try.prog 63 #[.int .i64 x, .int .i64 y] w fun e w' => e = .returned (.int .i64 (max x y)) ∧ w = w' := by
  by_cases h : x > y
  · have hm : max x y = x := by omega
    rw [hm]
    go_enter Try.func63, Try.ntmps63
    go_wp2
    go_ret
    exact ⟨rfl, rfl⟩
  · have hm : max x y = y := by omega
    rw [hm]
    go_enter Try.func63, Try.ntmps63
    go_wp2
    go_ret
    exact ⟨rfl, rfl⟩
/-- A drawn place. -/
def PlacePost (w : World) (g : Nat) (e : Ending) (w' : World) : Prop := ∃ x y : Int, e = .returned (.agg #[.int .i64 x, .int .i64 y]) ∧ (-1 ≤ x ∧ x ≤ 9 ∧ -1 ≤ y ∧ y ≤ 9) ∧ Drew w g w'

/-- While a place is drawn. -/
structure PX (w : World) (g : Nat) (side : Int) (v : Value) (wr : World) : Prop where
  d : Drew w g wr
  b : GB wr w.heap.size side v
  p : PlB wr (w.heap.size + 1) 0 0
  f0 : wr.frozen? ⟨w.heap.size + 1, 0, none⟩ = false
  f1 : wr.frozen? ⟨w.heap.size + 1, 1, none⟩ = false
  lt : g < w.heap.size
  siz : w.heap.size + 1 < wr.heap.size
theorem PX.made {w : World} {g : Nat} (side : Int) (v : Value) (hs : SrcB w g) : PX w g side v ((w.alloc (.cells #[.int .i64 side, v] 25)).alloc (.cells #[.int .i64 0, .int .i64 0] 27)) :=
  ⟨((Drew.refl hs).alloc _).alloc _, ⟨by simp [go_sem], by simp [go_sem], by simp [go_sem], by simp [go_sem]⟩, ⟨by simp [go_sem], by simp [go_sem]⟩, by simp [go_sem], by simp [go_sem], hs.lt, by simp⟩
theorem PX.drew {w wr wr' : World} {g : Nat} {side : Int} {v : Value} (h : PX w g side v wr) (hd : Drew wr g wr') : PX w g side v wr' := by
  have hl := h.lt
  have hz := h.siz
  have e := hd.2.block (w.heap.size + 1) hz (fun e => by cases e; omega)
  exact ⟨h.d.trans hd, h.b.drewn hd (by omega) (by omega), ⟨(World.cell?_of_block (a := ⟨w.heap.size + 1, 0, none⟩) e).trans h.p.c0, (World.cell?_of_block (a := ⟨w.heap.size + 1, 1, none⟩) e).trans h.p.c1⟩, (World.frozen?_of_block (a := ⟨w.heap.size + 1, 0, none⟩) e).trans h.f0, (World.frozen?_of_block (a := ⟨w.heap.size + 1, 1, none⟩) e).trans h.f1, hl, Nat.lt_of_lt_of_le hz hd.2.size⟩
theorem PX.fin {w wr : World} {g : Nat} {side : Int} {v : Value} (h : PX w g side v wr) (x y : Int) : Drew w g ((wr.setCell ⟨w.heap.size + 1, 0, none⟩ (.int .i64 x)).setCell ⟨w.heap.size + 1, 1, none⟩ (.int .i64 y)) :=
  h.d.more h.lt (((Below.refl w.heap.size wr).setCell (by show w.heap.size ≤ w.heap.size + 1; omega) _).setCell (by show w.heap.size ≤ w.heap.size + 1; omega) _)

set_option maxRecDepth 100000 in
set_option maxHeartbeats 1000000 in
theorem place_any (g : Nat) (side : Int) (A : Option Addr) (n c : Nat) (w : World) (hs : SrcB w g) :
    Calls Try.prog 36 #[.pointer (some ⟨g, 0, none⟩), .agg #[.int .i64 side, .slice A n c]] w (PlacePost w g) := by
  have HX := Lib.hid (PX.made side (.slice A n c) hs)
  clear hs
  go_enter Try.func36, Try.ntmps36
  go_wp2_with fail
  refine (src_one g 12 _ HX.out.d.1 (by omega)).mono ?_
  rintro e w1 ⟨⟨b, rfl⟩, hd⟩
  have HX1 := Lib.hid (HX.out.drew hd)
  clear hd HX
  cases b
  · obtain ⟨g0, g1, _, _⟩ := HX1.out.b
    go_wp2_with fail
    refine (mMin8_any 8 side _).mono ?_
    rintro e w2 ⟨rfl, rfl⟩
    go_wp2_with fail
    refine (mMax8_any 1 (min 8 side) _).mono ?_
    rintro e w2 ⟨rfl, rfl⟩
    have hs1 : 1 ≤ max 1 (min 8 side) ∧ max 1 (min 8 side) ≤ 8 := by omega
    generalize max 1 (min 8 side) = s at *
    go_wp2_with fail
    refine (src_n g s _ HX1.out.d.1 (by omega)).mono ?_
    rintro e w3 ⟨r, rfl, h1, h2, h3, h4, h5, h6⟩
    have HX3 := Lib.hid (HX1.out.drew ⟨h4, h5⟩)
    have hr := n_le h2 h3 hs1.2
    clear h2 h3 h4 h5 h6 HX1 g0 g1
    go_wp2_with fail
    refine (src_n g s _ HX3.out.d.1 (by omega)).mono ?_
    rintro e w4 ⟨r2, rfl, k1, k2, k3, k4, k5, k6⟩
    have HX4 := Lib.hid (HX3.out.drew ⟨k4, k5⟩)
    have hr2 := n_le k2 k3 hs1.2
    clear k2 k3 k4 k5 k6 HX3
    obtain ⟨p0, p1⟩ := HX4.out.p
    have f0 := HX4.out.f0
    have f1 := HX4.out.f1
    go_wp2_with fail
    refine bodyPost_ret (v := .agg #[.int .i64 r, .int .i64 r2]) (by simp [results, Try.results36, go_sem, p0, p1]) rfl ?_
    exact ⟨r, r2, rfl, ⟨by omega, by omega, by omega, by omega⟩, HX4.out.fin _ _⟩
  · go_wp2_with fail
    refine (src_n g 10 _ HX1.out.d.1 (by omega)).mono ?_
    rintro e w3 ⟨r, rfl, h1, h2, h3, h4, h5, h6⟩
    have HX3 := Lib.hid (HX1.out.drew ⟨h4, h5⟩)
    have hr := h2 (by omega)
    have e1 : IntKind.i64.wrap (r - 1) = r - 1 := IntWalk.i64_in _ (by omega)
    clear h2 h3 h4 h5 h6 HX1
    go_wp2_with fail
    refine (src_n g 10 _ HX3.out.d.1 (by omega)).mono ?_
    rintro e w4 ⟨r2, rfl, k1, k2, k3, k4, k5, k6⟩
    have HX4 := Lib.hid (HX3.out.drew ⟨k4, k5⟩)
    have hr2 := k2 (by omega)
    have e2 : IntKind.i64.wrap (r2 - 1) = r2 - 1 := IntWalk.i64_in _ (by omega)
    clear k2 k3 k4 k5 k6 HX3
    obtain ⟨p0, p1⟩ := HX4.out.p
    have f0 := HX4.out.f0
    have f1 := HX4.out.f1
    go_wp2_with fail
    refine bodyPost_ret (v := .agg #[.int .i64 (r - 1), .int .i64 (r2 - 1)]) (by simp [results, Try.results36, go_sem, p0, p1]) rfl ?_
    exact ⟨r - 1, r2 - 1, rfl, ⟨by omega, by omega, by omega, by omega⟩, HX4.out.fin _ _⟩
end Go.Proofs.Ytmjbefjkkncjlaa

namespace Go.Proofs.Ytmjbefjkkncjlaa
open Go.RowKit
set_option linter.unusedVariables false
set_option linter.unusedSimpArgs false

/-- What stands below the source stays; the source, the map's box and its row. -/
structure EX (w W0 : World) (g o : Nat) (side : Int) (A : Option Addr) (c : Nat) (l : List Int) (wr : World) : Prop where
  fr : ∀ k, k < g → wr.heap[k]? = W0.heap[k]?
  box : GB wr o side (.slice A l.length c)
  own : OwnI 2 .i64 wr (g + 1) (.slice A l.length c) l
  src : SrcB wr g
  bel : Below w.heap.size w wr
  siz : w.heap.size < g ∧ g < o ∧ o < wr.heap.size
section
variable {w W0 wr wr' : World} {g o c : Nat} {side : Int} {A : Option Addr} {l : List Int}
theorem EX.drew (h : EX w W0 g o side A c l wr) (hd : Drew wr g wr') : EX w W0 g o side A c l wr' := by
  obtain ⟨h1, h2, h3⟩ := h.siz
  exact ⟨fun k hk => (hd.2.block k (by omega) (fun e => by cases e; omega)).trans (h.fr k hk), h.box.drewn hd (by omega) h3, h.own.drewn hd (by omega), hd.1, h.bel.trans (hd.below (by omega) (by omega)), h1, h2, Nat.lt_of_lt_of_le h3 hd.2.size⟩
theorem EX.below (h : EX w W0 g o side A c l wr) (hb : Below wr.heap.size wr wr') : EX w W0 g o side A c l wr' := by
  obtain ⟨h1, h2, h3⟩ := h.siz
  exact ⟨fun k hk => (hb.block k (by omega)).trans (h.fr k hk), h.box.below hb h3, h.own.keep hb, h.src.keep fun k hk => hb.block k (by omega), h.bel.trans (hb.mono (by omega)), h1, h2, Nat.lt_of_lt_of_le h3 hb.size⟩
end
theorem far2 {v : World} {q k o : Nat} (h : k ≠ q) (x y : Value) : ((v.setCell ⟨q, 0, none⟩ x).setCell ⟨q, 1, none⟩ y).cell? ⟨k, o, none⟩ = v.cell? ⟨k, o, none⟩ :=
  cell_at ((heap_setCell_other _ _ k y h).trans (heap_setCell_other _ _ k x h))
theorem PlB.drewn {w w' : World} {g b : Nat} {x y : Int} (h : PlB w b x y) (hd : Drew w g w') (hg : b ≠ g) (hb : b < w.heap.size) : PlB w' b x y := by
  have e := hd.2.block b hb (fun e => hg (Option.some.inj e))
  exact ⟨(World.cell?_of_block (a := ⟨b, 0, none⟩) e).trans h.c0, (World.cell?_of_block (a := ⟨b, 1, none⟩) e).trans h.c1⟩
def PlIn (x y : Int) : Prop := -1 ≤ x ∧ x ≤ 9 ∧ -1 ≤ y ∧ y ≤ 9

def DistsArgs (w : World) (e : Ending) (w' : World) : Prop := ∃ (side : Int) (A : Option Addr) (c : Nat) (l : List Int) (ax ay : Int), e = .returned (.tuple #[.agg #[.int .i64 side, .slice A l.length c], .agg #[.int .i64 ax, .int .i64 ay]]) ∧ (0 ≤ side ∧ side ≤ 10 ∧ l.length ≤ 65 ∧ ∀ n ∈ l, -1 ≤ n ∧ n ≤ 10) ∧ (PlIn ax ay) ∧ OwnI 2 .i64 w' w.heap.size (.slice A l.length c) l ∧ Below w.heap.size w w'
set_option maxRecDepth 100000 in
set_option maxHeartbeats 1000000 in
theorem drawDists_any (A : Option Addr) (n c : Nat) (w : World) (hn : n ≤ 1048576) (hin : BytesIn w w.heap.size A n) :
    Calls Try.prog 8 #[.slice A n c] w (DistsArgs w) := by
  obtain ⟨W0, HW⟩ : ∃ W0, W0 = ((w.alloc (.cells #[.int .i64 0, .slice none 0 0] 25)).alloc (.cells #[.int .i64 0, .int .i64 0] 27)) := ⟨_, rfl⟩
  have HB0 : Hid (Below w.heap.size w W0) := by rw [HW]; exact bel_T (bel_A _ _) (bel_A _ _)
  have HZ0 : Hid (W0.heap.size = w.heap.size + 1 + 1) := by rw [HW]; show _ = _; simp
  have HR0 : Hid (GB W0 w.heap.size 0 (.slice none 0 0) ∧ PlB W0 (w.heap.size + 1) 0 0 ∧ W0.frozen? ⟨w.heap.size + 1, 0, none⟩ = false ∧ W0.frozen? ⟨w.heap.size + 1, 1, none⟩ = false) := by
    rw [HW]
    exact ⟨⟨by simp [go_sem], by simp [go_sem], by simp [go_sem], by simp [go_sem]⟩, ⟨by simp [go_sem], by simp [go_sem]⟩, by simp [go_sem], by simp [go_sem]⟩
  have HS := Lib.hid (source_any A n c W0 hn ((hin.below fun k hk => HB0.out.block k hk).mono HB0.out.size))
  clear hin
  go_enter Try.func8, Try.ntmps8
  go_upto_region 1 with fail
  rw [← HW]
  clear HW
  go_wp2_with fail
  refine HS.out.mono ?_
  rintro e w1 ⟨rfl, hs1, hb1⟩
  have hsl := hs1.lt
  have HS1 := Lib.hid hs1
  have HF1 : Hid (∀ k, k < W0.heap.size → w1.heap[k]? = W0.heap[k]?) := fun k hk => hb1.block k hk
  have HB1 := Lib.hid (HB0.out.trans (hb1.mono HB0.out.size))
  clear hs1 hb1 HB0 HS
  have HG : Hid (w.heap.size < W0.heap.size ∧ w.heap.size + 1 < W0.heap.size ∧ W0.heap.size < w1.heap.size) := ⟨by have := HZ0.out; omega, by have := HZ0.out; omega, hsl⟩
  clear hsl
  generalize W0.heap.size = g at *
  go_wp2_with fail
  refine (grid_any g w1 HS1.out).mono ?_
  rintro e w2 ⟨side, A2, c2, l2, rfl, hsm, ho2, hd2⟩
  have HX2 : Hid (EX w W0 g w2.heap.size side A2 c2 l2 (w2.alloc (.cells #[.int .i64 side, .slice A2 l2.length c2] 25))) := by
    obtain ⟨q1, q2, q3⟩ := HG.out
    have hb : Below w2.heap.size w2 (w2.alloc (.cells #[.int .i64 side, .slice A2 l2.length c2] 25)) := bel_A _ _
    have hzz := hd2.2.size
    exact ⟨fun k hk => ((hb.block k (by omega)).trans (hd2.2.block k (by omega) (fun e => by cases e; omega))).trans (HF1.out k hk), GB.made _ _ _ _, OwnI.lower (by omega) (ho2.alloc _), hd2.1.alloc _, (HB1.out.trans (hd2.below (by omega) (by omega))).trans (hb.mono (by omega)), by omega, by omega, by simp⟩
  have HSM := Lib.hid hsm
  clear hsm ho2 hd2 HF1 HS1 HB1 HZ0
  go_upto_region 3 with fail
  generalize w2.alloc (.cells #[.int .i64 side, .slice A2 l2.length c2] 25) = W3 at *
  generalize w2.heap.size = o at *
  have HSS : Hid (∀ v, EX w W0 g o side A2 c2 l2 v → v.cell? ⟨o, 0, none⟩ = some (.int .i64 side) ∧ v.cell? ⟨o, 1, none⟩ = some (.slice A2 l2.length c2)) := fun v h => ⟨h.box.c0, h.box.c1⟩
  have q0 := HX2.out.below (bel_D _)
  have hkeep := HSS.out _ q0
  have hn1 : (w.heap.size + 1 < g ∧ g < o) := ⟨HG.out.2.1, HX2.out.siz.2.1⟩
  go_region_held3 (fun w' => w'.cell? ⟨o, 0, none⟩ = some (.int .i64 side) ∧ w'.cell? ⟨o, 1, none⟩ = some (.slice A2 l2.length c2))
    (first | (with_reducible exact hkeep) | with_reducible exact ⟨(far2 (by omega) _ _).trans (hkeep.1), (far2 (by omega) _ _).trans (hkeep.2)⟩ | with_reducible exact ⟨(far2 (by omega) _ _).trans ((far2 (by omega) _ _).trans (hkeep.1)), (far2 (by omega) _ _).trans ((far2 (by omega) _ _).trans (hkeep.2))⟩ | go_keep)
    (first | (go_at_call 36; refine (place_any g side A2 l2.length c2 _ (by with_reducible exact q0.src)).mono ?_; rintro e v1 ⟨ax, ay, rfl, hbx, hd⟩; have q1 := q0.drew hd; have hkeep := HSS.out _ q1; have hr0 : v1.heap[w.heap.size]? = W0.heap[w.heap.size]? := q1.fr _ (by omega); have hr1 : v1.heap[w.heap.size + 1]? = W0.heap[w.heap.size + 1]? := q1.fr _ (by omega); obtain ⟨⟨a0, a1, a2, a3⟩, ⟨b00, b01⟩, b02, b03⟩ := HR0.out; have z00 := (World.cell?_of_block (a := ⟨w.heap.size, 0, none⟩) hr0).trans a0; have z01 := (World.cell?_of_block (a := ⟨w.heap.size, 1, none⟩) hr0).trans a1; have z02 := (World.frozen?_of_block (a := ⟨w.heap.size, 0, none⟩) hr0).trans a2; have z03 := (World.frozen?_of_block (a := ⟨w.heap.size, 1, none⟩) hr0).trans a3; have z10 := (World.cell?_of_block (a := ⟨w.heap.size + 1, 0, none⟩) hr1).trans b00; have z11 := (World.cell?_of_block (a := ⟨w.heap.size + 1, 1, none⟩) hr1).trans b01; have z12 := (World.frozen?_of_block (a := ⟨w.heap.size + 1, 0, none⟩) hr1).trans b02; have z13 := (World.frozen?_of_block (a := ⟨w.heap.size + 1, 1, none⟩) hr1).trans b03; clear hr0 hr1 hd a0 a1 a2 a3 b00 b01 b02 b03))
  all_goals
    have Q1 := Lib.hid q1
    clear hkeep q0 q1
    go_wp2_with fail
    refine bodyPost_ret (v := .tuple #[.agg #[.int .i64 side, .slice A2 l2.length c2], .agg #[.int .i64 ax, .int .i64 ay]]) (by simp [results, Try.results8, go_sem, z00, z01, z10, z11]) rfl ?_
    exact ⟨side, A2, c2, l2, ax, ay, rfl, HSM.out, hbx, OwnI.lower (base := g + 1) (by omega) (OwnI.set_below (by show w.heap.size + 1 < _; omega) _ (OwnI.set_below (by show w.heap.size + 1 < _; omega) _ (OwnI.set_below (by show w.heap.size < _; omega) _ (OwnI.set_below (by show w.heap.size < _; omega) _ Q1.out.own)))), ((((Q1.out.bel.setCell (by show w.heap.size ≤ w.heap.size; omega) _).setCell (by show w.heap.size ≤ w.heap.size; omega) _).setCell (by show w.heap.size ≤ w.heap.size + 1; omega) _).setCell (by show w.heap.size ≤ w.heap.size + 1; omega) _)⟩

def DistArgs (w : World) (e : Ending) (w' : World) : Prop := ∃ (side : Int) (A : Option Addr) (c : Nat) (l : List Int) (ax ay bx b_y : Int), e = .returned (.tuple #[.agg #[.int .i64 side, .slice A l.length c], .agg #[.int .i64 ax, .int .i64 ay], .agg #[.int .i64 bx, .int .i64 b_y]]) ∧ (0 ≤ side ∧ side ≤ 10 ∧ l.length ≤ 65 ∧ ∀ n ∈ l, -1 ≤ n ∧ n ≤ 10) ∧ (PlIn ax ay ∧ PlIn bx b_y) ∧ OwnI 2 .i64 w' w.heap.size (.slice A l.length c) l ∧ Below w.heap.size w w'
set_option maxRecDepth 100000 in
set_option maxHeartbeats 1000000 in
theorem drawDist_any (A : Option Addr) (n c : Nat) (w : World) (hn : n ≤ 1048576) (hin : BytesIn w w.heap.size A n) :
    Calls Try.prog 10 #[.slice A n c] w (DistArgs w) := by
  obtain ⟨W0, HW⟩ : ∃ W0, W0 = (((w.alloc (.cells #[.int .i64 0, .slice none 0 0] 25)).alloc (.cells #[.int .i64 0, .int .i64 0] 27)).alloc (.cells #[.int .i64 0, .int .i64 0] 27)) := ⟨_, rfl⟩
  have HB0 : Hid (Below w.heap.size w W0) := by rw [HW]; exact bel_T (bel_A _ _) (bel_T (bel_A _ _) (bel_A _ _))
  have HZ0 : Hid (W0.heap.size = w.heap.size + 1 + 1 + 1) := by rw [HW]; show _ = _; simp
  have HR0 : Hid (GB W0 w.heap.size 0 (.slice none 0 0) ∧ PlB W0 (w.heap.size + 1) 0 0 ∧ W0.frozen? ⟨w.heap.size + 1, 0, none⟩ = false ∧ W0.frozen? ⟨w.heap.size + 1, 1, none⟩ = false ∧ PlB W0 (w.heap.size + 1 + 1) 0 0 ∧ W0.frozen? ⟨w.heap.size + 1 + 1, 0, none⟩ = false ∧ W0.frozen? ⟨w.heap.size + 1 + 1, 1, none⟩ = false) := by
    rw [HW]
    exact ⟨⟨by simp [go_sem], by simp [go_sem], by simp [go_sem], by simp [go_sem]⟩, ⟨by simp [go_sem], by simp [go_sem]⟩, by simp [go_sem], by simp [go_sem], ⟨by simp [go_sem], by simp [go_sem]⟩, by simp [go_sem], by simp [go_sem]⟩
  have HS := Lib.hid (source_any A n c W0 hn ((hin.below fun k hk => HB0.out.block k hk).mono HB0.out.size))
  clear hin
  go_enter Try.func10, Try.ntmps10
  go_upto_region 1 with fail
  rw [← HW]
  clear HW
  go_wp2_with fail
  refine HS.out.mono ?_
  rintro e w1 ⟨rfl, hs1, hb1⟩
  have hsl := hs1.lt
  have HS1 := Lib.hid hs1
  have HF1 : Hid (∀ k, k < W0.heap.size → w1.heap[k]? = W0.heap[k]?) := fun k hk => hb1.block k hk
  have HB1 := Lib.hid (HB0.out.trans (hb1.mono HB0.out.size))
  clear hs1 hb1 HB0 HS
  have HG : Hid (w.heap.size < W0.heap.size ∧ w.heap.size + 1 + 1 < W0.heap.size ∧ W0.heap.size < w1.heap.size) := ⟨by have := HZ0.out; omega, by have := HZ0.out; omega, hsl⟩
  clear hsl
  generalize W0.heap.size = g at *
  go_wp2_with fail
  refine (grid_any g w1 HS1.out).mono ?_
  rintro e w2 ⟨side, A2, c2, l2, rfl, hsm, ho2, hd2⟩
  have HX2 : Hid (EX w W0 g w2.heap.size side A2 c2 l2 (w2.alloc (.cells #[.int .i64 side, .slice A2 l2.length c2] 25))) := by
    obtain ⟨q1, q2, q3⟩ := HG.out
    have hb : Below w2.heap.size w2 (w2.alloc (.cells #[.int .i64 side, .slice A2 l2.length c2] 25)) := bel_A _ _
    have hzz := hd2.2.size
    exact ⟨fun k hk => ((hb.block k (by omega)).trans (hd2.2.block k (by omega) (fun e => by cases e; omega))).trans (HF1.out k hk), GB.made _ _ _ _, OwnI.lower (by omega) (ho2.alloc _), hd2.1.alloc _, (HB1.out.trans (hd2.below (by omega) (by omega))).trans (hb.mono (by omega)), by omega, by omega, by simp⟩
  have HSM := Lib.hid hsm
  clear hsm ho2 hd2 HF1 HS1 HB1 HZ0
  obtain ⟨c0, c1, _, _⟩ := HX2.out.box
  go_wp2_with fail
  generalize w2.alloc (.cells #[.int .i64 side, .slice A2 l2.length c2] 25) = W at *
  generalize w2.heap.size = o at *
  refine (place_any g side A2 l2.length c2 W HX2.out.src).mono ?_
  rintro e w3 ⟨ax, ay, rfl, hax, hd3⟩
  have HX3 := Lib.hid ((HX2.out.drew hd3).below (bel_A w3 (.cells #[.int .i64 ax, .int .i64 ay] 27)))
  have HP3 := Lib.hid (PlB.made w3 ax ay 27)
  have hz3 := hd3.2.size
  have HZ3 : Hid (g < w3.heap.size ∧ o < w3.heap.size ∧ w3.heap.size < (w3.alloc (.cells #[.int .i64 ax, .int .i64 ay] 27)).heap.size) := by have := HX2.out.siz; exact ⟨by omega, by omega, by simp⟩
  have HAX := Lib.hid hax
  clear hd3 hz3 HX2 c0 c1 hax
  go_upto_region 4 with fail
  generalize w3.alloc (.cells #[.int .i64 ax, .int .i64 ay] 27) = W3 at *
  generalize w3.heap.size = o2 at *
  have HSS : Hid (∀ v, EX w W0 g o side A2 c2 l2 v → PlB v o2 ax ay → v.cell? ⟨o, 0, none⟩ = some (.int .i64 side) ∧ v.cell? ⟨o, 1, none⟩ = some (.slice A2 l2.length c2) ∧ v.cell? ⟨o2, 0, none⟩ = some (.int .i64 ax) ∧ v.cell? ⟨o2, 1, none⟩ = some (.int .i64 ay)) := fun v h hp => ⟨h.box.c0, h.box.c1, hp.c0, hp.c1⟩
  have q0 := HX3.out.below (bel_D _)
  have p0 := HP3.out.below (bel_D W3) HZ3.out.2.2
  have hkeep := HSS.out _ q0 p0
  have hn1 : (w.heap.size + 1 + 1 < g ∧ g < o ∧ g < o2) := ⟨HG.out.2.1, HX3.out.siz.2.1, HZ3.out.1⟩
  go_region_held3 (fun w' => w'.cell? ⟨o, 0, none⟩ = some (.int .i64 side) ∧ w'.cell? ⟨o, 1, none⟩ = some (.slice A2 l2.length c2) ∧ w'.cell? ⟨o2, 0, none⟩ = some (.int .i64 ax) ∧ w'.cell? ⟨o2, 1, none⟩ = some (.int .i64 ay))
    (first | (with_reducible exact hkeep) | with_reducible exact ⟨(far2 (by omega) _ _).trans (hkeep.1), (far2 (by omega) _ _).trans (hkeep.2.1), (far2 (by omega) _ _).trans (hkeep.2.2.1), (far2 (by omega) _ _).trans (hkeep.2.2.2)⟩ | with_reducible exact ⟨(far2 (by omega) _ _).trans ((far2 (by omega) _ _).trans (hkeep.1)), (far2 (by omega) _ _).trans ((far2 (by omega) _ _).trans (hkeep.2.1)), (far2 (by omega) _ _).trans ((far2 (by omega) _ _).trans (hkeep.2.2.1)), (far2 (by omega) _ _).trans ((far2 (by omega) _ _).trans (hkeep.2.2.2))⟩ | with_reducible exact ⟨(far2 (by omega) _ _).trans ((far2 (by omega) _ _).trans ((far2 (by omega) _ _).trans (hkeep.1))), (far2 (by omega) _ _).trans ((far2 (by omega) _ _).trans ((far2 (by omega) _ _).trans (hkeep.2.1))), (far2 (by omega) _ _).trans ((far2 (by omega) _ _).trans ((far2 (by omega) _ _).trans (hkeep.2.2.1))), (far2 (by omega) _ _).trans ((far2 (by omega) _ _).trans ((far2 (by omega) _ _).trans (hkeep.2.2.2)))⟩ | go_keep)
    (first | (go_at_call 36; refine (place_any g side A2 l2.length c2 _ (by with_reducible exact q0.src)).mono ?_; rintro e v1 ⟨bx, b_y, rfl, hbx, hd⟩; have q1 := q0.drew hd; have p1 := p0.drewn hd (by omega) (by have := HZ3.out.2.2; exact this); have hkeep := HSS.out _ q1 p1; have hr0 : v1.heap[w.heap.size]? = W0.heap[w.heap.size]? := q1.fr _ (by omega); have hr1 : v1.heap[w.heap.size + 1]? = W0.heap[w.heap.size + 1]? := q1.fr _ (by omega); have hr2 : v1.heap[w.heap.size + 1 + 1]? = W0.heap[w.heap.size + 1 + 1]? := q1.fr _ (by omega); obtain ⟨⟨a0, a1, a2, a3⟩, ⟨b00, b01⟩, b02, b03, ⟨b10, b11⟩, b12, b13⟩ := HR0.out; have z00 := (World.cell?_of_block (a := ⟨w.heap.size, 0, none⟩) hr0).trans a0; have z01 := (World.cell?_of_block (a := ⟨w.heap.size, 1, none⟩) hr0).trans a1; have z02 := (World.frozen?_of_block (a := ⟨w.heap.size, 0, none⟩) hr0).trans a2; have z03 := (World.frozen?_of_block (a := ⟨w.heap.size, 1, none⟩) hr0).trans a3; have z10 := (World.cell?_of_block (a := ⟨w.heap.size + 1, 0, none⟩) hr1).trans b00; have z11 := (World.cell?_of_block (a := ⟨w.heap.size + 1, 1, none⟩) hr1).trans b01; have z12 := (World.frozen?_of_block (a := ⟨w.heap.size + 1, 0, none⟩) hr1).trans b02; have z13 := (World.frozen?_of_block (a := ⟨w.heap.size + 1, 1, none⟩) hr1).trans b03; have z20 := (World.cell?_of_block (a := ⟨w.heap.size + 1 + 1, 0, none⟩) hr2).trans b10; have z21 := (World.cell?_of_block (a := ⟨w.heap.size + 1 + 1, 1, none⟩) hr2).trans b11; have z22 := (World.frozen?_of_block (a := ⟨w.heap.size + 1 + 1, 0, none⟩) hr2).trans b12; have z23 := (World.frozen?_of_block (a := ⟨w.heap.size + 1 + 1, 1, none⟩) hr2).trans b13; clear hr0 hr1 hr2 hd a0 a1 a2 a3 b00 b01 b02 b03 b10 b11 b12 b13))
  all_goals
    have Q1 := Lib.hid q1
    clear hkeep q0 q1 p0 p1
    go_wp2_with fail
    refine bodyPost_ret (v := .tuple #[.agg #[.int .i64 side, .slice A2 l2.length c2], .agg #[.int .i64 ax, .int .i64 ay], .agg #[.int .i64 bx, .int .i64 b_y]]) (by simp [results, Try.results10, go_sem, z00, z01, z10, z11, z20, z21]) rfl ?_
    exact ⟨side, A2, c2, l2, ax, ay, bx, b_y, rfl, HSM.out, ⟨HAX.out, hbx⟩, OwnI.lower (base := g + 1) (by omega) (OwnI.set_below (by show w.heap.size + 1 + 1 < _; omega) _ (OwnI.set_below (by show w.heap.size + 1 + 1 < _; omega) _ (OwnI.set_below (by show w.heap.size + 1 < _; omega) _ (OwnI.set_below (by show w.heap.size + 1 < _; omega) _ (OwnI.set_below (by show w.heap.size < _; omega) _ (OwnI.set_below (by show w.heap.size < _; omega) _ Q1.out.own)))))), ((((((Q1.out.bel.setCell (by show w.heap.size ≤ w.heap.size; omega) _).setCell (by show w.heap.size ≤ w.heap.size; omega) _).setCell (by show w.heap.size ≤ w.heap.size + 1; omega) _).setCell (by show w.heap.size ≤ w.heap.size + 1; omega) _).setCell (by show w.heap.size ≤ w.heap.size + 1 + 1; omega) _).setCell (by show w.heap.size ≤ w.heap.size + 1 + 1; omega) _)⟩
end Go.Proofs.Ytmjbefjkkncjlaa

namespace Go.Proofs.Ytmjbefjkkncjlaa
open Go.RowKit
set_option linter.unusedVariables false
set_option linter.unusedSimpArgs false

set_option maxRecDepth 100000 in
set_option maxHeartbeats 2000000 in
theorem lwNums_any (A A' : Option Addr) (c c' : Nat) (l : List Int) (w : World) (h : RI w w.heap.size A l) (h' : RI w w.heap.size A' l) (hl : l.length ≤ 1000000000) :
    Calls Try.prog 12 #[.slice A l.length c, .slice A' l.length c'] w fun e w' => e = .returned (.bool true) ∧ Below w.heap.size w w' := by
  have H := Lib.hid h
  have H' := Lib.hid h'
  clear h h'
  go_enter Try.func12, Try.ntmps12
  go_wp2
  go_loopw [5] (fun i wr => ∃ k : Nat, i = .int .i64 k ∧ k ≤ l.length ∧ Hid (Below w.heap.size w wr)) (fun i _ => l.length - (intOf i).toNat)
  case atStart => exact ⟨0, rfl, Nat.zero_le _, Below.refl _ _⟩
  case round =>
    obtain ⟨k, rfl, hk, HB⟩ := hrel
    by_cases hlt : k < l.length
    · obtain ⟨b1, o1, rfl, _, hc1⟩ := (H.out.below HB.out).at_ hlt
      obtain ⟨b2, o2, rfl, _, hc2⟩ := (H'.out.below HB.out).at_ hlt
      have hkI : (k : Int) < (l.length : Int) := by omega
      generalize l[k] = x at hc1 hc2
      go_wp2_with fail
      go_region
      go_wp2
      go_roundw
      case rel => exact ⟨k + 1, by go_num, by omega, HB.out.drew⟩
      case measure => simp [intOf] <;> omega
    · obtain rfl : k = l.length := by omega
      go_wp2
      go_ret
      exact ⟨rfl, HB.out⟩

set_option maxRecDepth 100000 in
set_option maxHeartbeats 2000000 in
theorem lwPlaces_any (A A' : Option Addr) (c c' : Nat) (l : List Pl) (w : World) (h : RPl w w.heap.size A l) (h' : RPl w w.heap.size A' l) (hl : l.length ≤ 1000000000) :
    Calls Try.prog 11 #[.slice A l.length c, .slice A' l.length c'] w fun e w' => e = .returned (.bool true) ∧ Below w.heap.size w w' := by
  have H := Lib.hid h
  have H' := Lib.hid h'
  clear h h'
  go_enter Try.func11, Try.ntmps11
  go_wp2
  go_loopw [5] (fun i wr => ∃ k : Nat, i = .int .i64 k ∧ k ≤ l.length ∧ Hid (Below w.heap.size w wr)) (fun i _ => l.length - (intOf i).toNat)
  case atStart => exact ⟨0, rfl, Nat.zero_le _, Below.refl _ _⟩
  case round =>
    obtain ⟨k, rfl, hk, HB⟩ := hrel
    by_cases hlt : k < l.length
    · obtain ⟨b1, o1, rfl, _, hc1⟩ := (H.out.below HB.out).at_ hlt
      obtain ⟨b2, o2, rfl, _, hc2⟩ := (H'.out.below HB.out).at_ hlt
      have hkI : (k : Int) < (l.length : Int) := by omega
      generalize l[k] = x at hc1 hc2
      obtain ⟨x1, x2⟩ := x
      obtain ⟨c1, c2⟩ := hc1
      obtain ⟨d1, d2⟩ := hc2
      go_wp2_with fail
      go_region
      go_wp2
      go_roundw
      case rel => exact ⟨k + 1, by go_num, by omega, HB.out.drew⟩
      case measure => simp [intOf] <;> omega
    · obtain rfl : k = l.length := by omega
      go_wp2
      go_ret
      exact ⟨rfl, HB.out⟩

set_option maxRecDepth 100000 in
set_option maxHeartbeats 1000000 in
theorem drawWayOf_any (A : Option Addr) (n c : Nat) (w : World) (hn : n ≤ 1048576) (hin : BytesIn w w.heap.size A n) :
    Calls Try.prog 5 #[.slice A n c] w (DistArgs w) := by
  obtain ⟨W0, HW⟩ : ∃ W0, W0 = (((w.alloc (.cells #[.int .i64 0, .slice none 0 0] 25)).alloc (.cells #[.int .i64 0, .int .i64 0] 27)).alloc (.cells #[.int .i64 0, .int .i64 0] 27)) := ⟨_, rfl⟩
  have HB0 : Hid (Below w.heap.size w W0) := by rw [HW]; exact bel_T (bel_A _ _) (bel_T (bel_A _ _) (bel_A _ _))
  have HZ0 : Hid (W0.heap.size = w.heap.size + 1 + 1 + 1) := by rw [HW]; show _ = _; simp
  have HR0 : Hid (GB W0 w.heap.size 0 (.slice none 0 0) ∧ PlB W0 (w.heap.size + 1) 0 0 ∧ W0.frozen? ⟨w.heap.size + 1, 0, none⟩ = false ∧ W0.frozen? ⟨w.heap.size + 1, 1, none⟩ = false ∧ PlB W0 (w.heap.size + 1 + 1) 0 0 ∧ W0.frozen? ⟨w.heap.size + 1 + 1, 0, none⟩ = false ∧ W0.frozen? ⟨w.heap.size + 1 + 1, 1, none⟩ = false) := by
    rw [HW]
    exact ⟨⟨by simp [go_sem], by simp [go_sem], by simp [go_sem], by simp [go_sem]⟩, ⟨by simp [go_sem], by simp [go_sem]⟩, by simp [go_sem], by simp [go_sem], ⟨by simp [go_sem], by simp [go_sem]⟩, by simp [go_sem], by simp [go_sem]⟩
  have HS := Lib.hid (drawDist_any A n c W0 hn ((hin.below fun k hk => HB0.out.block k hk).mono HB0.out.size))
  clear hin
  go_enter Try.func5, Try.ntmps5
  go_upto_region 1 with fail
  rw [← HW]
  clear HW
  go_wp2_with fail
  refine HS.out.mono ?_
  rintro e w1 ⟨side, A2, c2, l2, ax, ay, bx, b_y, rfl, hsm, hin, ho, hb⟩
  have HSM := Lib.hid hsm
  have HIN := Lib.hid hin
  have HO := Lib.hid ho
  have HB1 := Lib.hid (HB0.out.trans (hb.mono HB0.out.size))
  have HZ1 := HZ0.out
  have hr0 := hb.block w.heap.size (by omega)
  have hr1 := hb.block (w.heap.size + 1) (by omega)
  have hr2 := hb.block (w.heap.size + 1 + 1) (by omega)
  obtain ⟨⟨a0, a1, a2, a3⟩, ⟨b00, b01⟩, b02, b03, ⟨b10, b11⟩, b12, b13⟩ := HR0.out
  have z00 := (World.cell?_of_block (a := ⟨w.heap.size, 0, none⟩) hr0).trans a0
  have z01 := (World.cell?_of_block (a := ⟨w.heap.size, 1, none⟩) hr0).trans a1
  have z02 := (World.frozen?_of_block (a := ⟨w.heap.size, 0, none⟩) hr0).trans a2
  have z03 := (World.frozen?_of_block (a := ⟨w.heap.size, 1, none⟩) hr0).trans a3
  have z10 := (World.cell?_of_block (a := ⟨w.heap.size + 1, 0, none⟩) hr1).trans b00
  have z11 := (World.cell?_of_block (a := ⟨w.heap.size + 1, 1, none⟩) hr1).trans b01
  have z12 := (World.frozen?_of_block (a := ⟨w.heap.size + 1, 0, none⟩) hr1).trans b02
  have z13 := (World.frozen?_of_block (a := ⟨w.heap.size + 1, 1, none⟩) hr1).trans b03
  have z20 := (World.cell?_of_block (a := ⟨w.heap.size + 1 + 1, 0, none⟩) hr2).trans b10
  have z21 := (World.cell?_of_block (a := ⟨w.heap.size + 1 + 1, 1, none⟩) hr2).trans b11
  have z22 := (World.frozen?_of_block (a := ⟨w.heap.size + 1 + 1, 0, none⟩) hr2).trans b12
  have z23 := (World.frozen?_of_block (a := ⟨w.heap.size + 1 + 1, 1, none⟩) hr2).trans b13
  clear hr0 hr1 hr2 a0 a1 a2 a3 b00 b01 b02 b03 b10 b11 b12 b13 hsm hin ho hb HZ1
  go_wp2_with fail
  refine bodyPost_ret (v := .tuple #[.agg #[.int .i64 side, .slice A2 l2.length c2], .agg #[.int .i64 ax, .int .i64 ay], .agg #[.int .i64 bx, .int .i64 b_y]]) (by simp [results, Try.results5, go_sem, z00, z01, z10, z11, z20, z21]) rfl ?_
  have hz := HZ0.out
  exact ⟨side, A2, c2, l2, ax, ay, bx, b_y, rfl, HSM.out, HIN.out, OwnI.lower (by omega) (OwnI.set_below (by show w.heap.size + 1 + 1 < W0.heap.size; omega) _ (OwnI.set_below (by show w.heap.size + 1 + 1 < W0.heap.size; omega) _ (OwnI.set_below (by show w.heap.size + 1 < W0.heap.size; omega) _ (OwnI.set_below (by show w.heap.size + 1 < W0.heap.size; omega) _ (OwnI.set_below (by show w.heap.size < W0.heap.size; omega) _ (OwnI.set_below (by show w.heap.size < W0.heap.size; omega) _ HO.out)))))), (((((HB1.out.setCell (by show w.heap.size ≤ w.heap.size; omega) _).setCell (by show w.heap.size ≤ w.heap.size; omega) _).setCell (by show w.heap.size ≤ w.heap.size + 1; omega) _).setCell (by show w.heap.size ≤ w.heap.size + 1; omega) _).setCell (by show w.heap.size ≤ w.heap.size + 1 + 1; omega) _).setCell (by show w.heap.size ≤ w.heap.size + 1 + 1; omega) _⟩
end Go.Proofs.Ytmjbefjkkncjlaa
