/- Sweep's boxes and rows. -/
import Derived.Test.YtoobkajilbmdhaaSwL
import Derived.Test.YtoobkajilbmdhaaPoolM
import Derived.Test.YtoobkajilbmdhaaPoolS
import Derived.Test.YtoobkajilbmdhaaInts
namespace Go.Proofs.Ytoobkajilbmdhaa
open Go.RowKit
set_option linter.unusedVariables false
set_option linter.unusedSimpArgs false

/-- What is handed back: nodes, numbers, a code. -/
def SOut (w : World) (r : Int × List Nd × List Int) (e : Ending) (w' : World) : Prop :=
  ∃ A c A' c', e = .returned (.agg #[.slice A r.2.1.length c, .slice A' r.2.2.length c', .int .i64 r.1]) ∧ OwnN w' w.heap.size (.slice A r.2.1.length c) r.2.1 ∧ OwnI 2 .i64 w' w.heap.size (.slice A' r.2.2.length c') r.2.2 ∧ (∀ k, (Value.slice A r.2.1.length c).ownBlock = some k → (Value.slice A' r.2.2.length c').ownBlock ≠ some k) ∧ Below w.heap.size w w'
/-- Block b holds a SweepOut's fields. -/
structure S3 (w : World) (b : Nat) (v v' : Value) (code : Int) : Prop where
  c0 : w.cell? ⟨b, 0, none⟩ = some v
  c1 : w.cell? ⟨b, 1, none⟩ = some v'
  c2 : w.cell? ⟨b, 2, none⟩ = some (.int .i64 code)
  f0 : w.frozen? ⟨b, 0, none⟩ = false
  f1 : w.frozen? ⟨b, 1, none⟩ = false
  f2 : w.frozen? ⟨b, 2, none⟩ = false
theorem S3.below {w w' : World} {b B : Nat} {v v' : Value} {code : Int} (h : S3 w b v v' code) (hb : Below B w w') (hB : b < B) : S3 w' b v v' code :=
  ⟨(hb.cell (p := ⟨b, 0, none⟩) hB).trans h.c0, (hb.cell (p := ⟨b, 1, none⟩) hB).trans h.c1, (hb.cell (p := ⟨b, 2, none⟩) hB).trans h.c2, (hb.frozen (p := ⟨b, 0, none⟩) hB).trans h.f0, (hb.frozen (p := ⟨b, 1, none⟩) hB).trans h.f1, (hb.frozen (p := ⟨b, 2, none⟩) hB).trans h.f2⟩
theorem S3.made (w : World) (v v' : Value) (code : Int) (t : TypeId) : S3 (w.alloc (.cells #[v, v', .int .i64 code] t)) w.heap.size v v' code :=
  ⟨by simp [go_sem], by simp [go_sem], by simp [go_sem], by simp [go_sem], by simp [go_sem], by simp [go_sem]⟩
theorem S3.set1 {w : World} {b : Nat} {v v' : Value} {code : Int} (h : S3 w b v v' code) (u : Value) : S3 (w.setCell ⟨b, 1, none⟩ u) b v u code :=
  ⟨(World.cell?_setCell_other _ _ _ _ (by simp)).trans h.c0, World.cell?_setCell_same _ _ _ h.c1, (World.cell?_setCell_other _ _ _ _ (by simp)).trans h.c2, by simpa using h.f0, by simpa using h.f1, by simpa using h.f2⟩
/-- Sweep's boxes and rows: the pool's, the roots', the answer's. -/
structure Zw (w : World) (A : Option Addr) (c : Nat) (l : List Nd) (B : Option Addr) (rs : List Int) (wr : World) : Prop where
  p : PB w A c l wr
  z : S3 wr (w.heap.size + 1) (.slice none 0 0) (.slice none 0 0) 0
  ri : RI wr w.heap.size B rs
  siz : w.heap.size + 1 < wr.heap.size
theorem Zw.below {w : World} {A : Option Addr} {c : Nat} {l : List Nd} {B : Option Addr} {rs : List Int} {wr wr' : World} (h : Zw w A c l B rs wr) (hb : Below wr.heap.size wr wr') : Zw w A c l B rs wr' :=
  ⟨h.p.below hb, h.z.below hb h.siz, h.ri.below (hb.mono h.p.bel.size), Nat.lt_of_lt_of_le h.siz hb.size⟩
theorem Zw.made (w : World) (A : Option Addr) (c : Nat) (l : List Nd) (B : Option Addr) (rs : List Int) (h : RN w w.heap.size A l) (h' : RI w w.heap.size B rs) :
    Zw w A c l B rs ((w.alloc (.cells #[.slice A l.length c] 29)).alloc (.cells #[.slice none 0 0, .slice none 0 0, .int .i64 0] 48)) := by
  have hb : Below w.heap.size w ((w.alloc (.cells #[.slice A l.length c] 29)).alloc (.cells #[.slice none 0 0, .slice none 0 0, .int .i64 0] 48)) := ((Below.refl _ _).alloc (Nat.le_refl _) _).alloc (by simp) _
  refine ⟨(PB.made w A c l h).below ((Below.refl _ _).alloc (Nat.le_refl _) _), ?_, h'.below hb, by simp⟩
  have := S3.made (w.alloc (.cells #[.slice A l.length c] 29)) (.slice none 0 0) (.slice none 0 0) 0 48
  rw [alloc_size] at this
  exact this
theorem all_there {l : List Nd} {rs : List Int} (h : rs.all (fun r => thereN l.length r) = true) : rs = (rs.map Int.toNat).map (fun (r : Nat) => (r : Int)) ∧ ∀ r ∈ rs.map Int.toNat, r < l.length := by
  simp only [List.all_eq_true] at h
  have hb : ∀ r ∈ rs, 0 ≤ r ∧ r < l.length := fun r hr => by have := h r hr; simp [thereN, inIs] at this; omega
  refine ⟨?_, fun r hr => ?_⟩
  · rw [List.map_map]
    conv => lhs; rw [← List.map_id rs]
    apply List.map_congr_left
    intro r hr
    have := hb r hr
    simp
    omega
  · obtain ⟨q, hq, rfl⟩ := List.mem_map.1 hr
    have := hb q hq
    omega
end Go.Proofs.Ytoobkajilbmdhaa
