/- What stands in memory while the law on maps goes on. -/
import Derived.Test.YtcadjfnfjakbeaaGrM
import Derived.Test.YtcadjfnfjakbeaaLwG
import Derived.Test.YtcadjfnfjakbeaaPgN
import Derived.Test.YtcadjfnfjakbeaaPgE
import Derived.Test.YtcadjfnfjakbeaaDrH
import Derived.Test.YtcadjfnfjakbeaaDrS
namespace Go.Proofs.Ytcadjfnfjakbeaa
open Go.RowKit

/-- Block b holds the fields of a map whose tiles can be read. -/
structure Gd (b : Nat) (side : Int) (A : Option Addr) (c : Nat) (l : List Int) (wr : World) : Prop where
  c0 : wr.cell? ⟨b, 0, none⟩ = some (.int .i64 side)
  c1 : wr.cell? ⟨b, 1, none⟩ = some (.slice A l.length c)
  lt : b < wr.heap.size
  ri : RI wr wr.heap.size A l
structure Ge (b : Nat) (side : Int) (A : Option Addr) (c : Nat) (l : List Int) (code : Int) (wr : World) : Prop where
  c0 : wr.cell? ⟨b, 0, none⟩ = some (.int .i64 side)
  c1 : wr.cell? ⟨b, 1, none⟩ = some (.slice A l.length c)
  c2 : wr.cell? ⟨b, 2, none⟩ = some (.int .i64 code)
  lt : b < wr.heap.size
  ri : RI wr wr.heap.size A l
theorem RI.on {w w' : World} {A : Option Addr} {l : List Int} (h : RI w w.heap.size A l) (hb : Below w.heap.size w w') : RI w' w'.heap.size A l := (h.below hb).mono hb.size
theorem Gd.on {b : Nat} {side : Int} {A : Option Addr} {c : Nat} {l : List Int} {w w' : World} (h : Gd b side A c l w) (hb : Below w.heap.size w w') : Gd b side A c l w' :=
  ⟨(hb.cell (p := ⟨b, 0, none⟩) h.lt).trans h.c0, (hb.cell (p := ⟨b, 1, none⟩) h.lt).trans h.c1, Nat.lt_of_lt_of_le h.lt hb.size, h.ri.on hb⟩
theorem Ge.on {b : Nat} {side : Int} {A : Option Addr} {c : Nat} {l : List Int} {code : Int} {w w' : World} (h : Ge b side A c l code w) (hb : Below w.heap.size w w') : Ge b side A c l code w' :=
  ⟨(hb.cell (p := ⟨b, 0, none⟩) h.lt).trans h.c0, (hb.cell (p := ⟨b, 1, none⟩) h.lt).trans h.c1, (hb.cell (p := ⟨b, 2, none⟩) h.lt).trans h.c2, Nat.lt_of_lt_of_le h.lt hb.size, h.ri.on hb⟩
theorem Gd.made {side : Int} {A : Option Addr} {c : Nat} {l : List Int} {w : World} (t : TypeId) (h : RI w w.heap.size A l) : Gd w.heap.size side A c l (w.alloc (.cells #[.int .i64 side, .slice A l.length c] t)) :=
  ⟨by simp [go_sem], by simp [go_sem], by simp, h.on ((Below.refl _ _).alloc (Nat.le_refl _) _)⟩
theorem Ge.made {side : Int} {A : Option Addr} {c : Nat} {l : List Int} {code : Int} {w : World} (t : TypeId) (h : RI w w.heap.size A l) : Ge w.heap.size side A c l code (w.alloc (.cells #[.int .i64 side, .slice A l.length c, .int .i64 code] t)) :=
  ⟨by simp [go_sem], by simp [go_sem], by simp [go_sem], by simp, h.on ((Below.refl _ _).alloc (Nat.le_refl _) _)⟩
/-- What stays true while only new memory is made. -/
def Kept (P : World → Prop) : Prop := ∀ w w', Below w.heap.size w w' → P w → P w'
theorem Kept.and {P Q : World → Prop} (hp : Kept P) (hq : Kept Q) : Kept fun w => P w ∧ Q w := fun w w' hb h => ⟨hp w w' hb h.1, hq w w' hb h.2⟩
theorem kept_gd (b : Nat) (side : Int) (A : Option Addr) (c : Nat) (l : List Int) : Kept (Gd b side A c l) := fun _ _ hb h => h.on hb
theorem kept_ge (b : Nat) (side : Int) (A : Option Addr) (c : Nat) (l : List Int) (code : Int) : Kept (Ge b side A c l code) := fun _ _ hb h => h.on hb
theorem kept_bytes (A : Option Addr) (n : Nat) : Kept fun w => BytesIn w w.heap.size A n := fun _ _ hb h => (h.below fun k hk => hb.block k hk).mono hb.size
/-- The worlds that come behind w. -/
theorem kept_from (w0 : World) : Kept fun w => w0.heap.size ≤ w.heap.size ∧ Below w0.heap.size w0 w := fun _ _ hb h => ⟨Nat.le_trans h.1 hb.size, h.2.trans (hb.mono h.1)⟩
theorem below_alloc (w : World) (o : Obj) : Below w.heap.size w (w.alloc o) := (Below.refl _ _).alloc (Nat.le_refl _) _

/-- What is known ahead of the comparisons. -/
structure FP (w : World) (A0 A1 : Option Addr) (n0 n1 : Nat) (wr : World) : Prop where
  code : BytesIn wr wr.heap.size A0 n0
  more : BytesIn wr wr.heap.size A1 n1
  from_ : w.heap.size ≤ wr.heap.size ∧ Below w.heap.size w wr
theorem kept_fp (w : World) (A0 A1 : Option Addr) (n0 n1 : Nat) : Kept (FP w A0 A1 n0 n1) := fun _ _ hb h => ⟨kept_bytes _ _ _ _ hb h.code, kept_bytes _ _ _ _ hb h.more, kept_from _ _ _ hb h.from_⟩
theorem small_64 {side : Int} {l : List Int} (h : Small side l) : In64 side ∧ ∀ n ∈ l, In64 n := ⟨by unfold In64; have := h.1; have := h.2.1; omega, fun n hn => by unfold In64; have := h.2.2.2 n hn; omega⟩
theorem field_grid (a b c : Value) (w : World) : (Instr.field 29 (.agg #[a, b, c]) 0).run Try.prog w = .ok (.agg #[a, b]) w := by kernel_rfl
end Go.Proofs.Ytcadjfnfjakbeaa
