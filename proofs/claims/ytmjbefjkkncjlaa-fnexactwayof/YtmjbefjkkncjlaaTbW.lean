/- Tables as the exact laws hold them: compared, marked, looked at again; an answer in its box, with its rows. -/
import Derived.Test.YtmjbefjkkncjlaaWyX
import Derived.Test.YtmjbefjkkncjlaaWyF
namespace Go.Proofs.Ytmjbefjkkncjlaa
open Go.RowKit
set_option linter.unusedVariables false

/-- Block q holds the fields of tables. -/
structure TB (w : World) (q : Nat) (vM vD : Value) : Prop where
  c0 : w.cell? ⟨q, 0, none⟩ = some vM
  c1 : w.cell? ⟨q, 1, none⟩ = some vD
  f0 : w.frozen? ⟨q, 0, none⟩ = false
  f1 : w.frozen? ⟨q, 1, none⟩ = false
theorem TB.made (w : World) (vM vD : Value) (t : TypeId) : TB (w.alloc (.cells #[vM, vD] t)) w.heap.size vM vD := ⟨by simp [go_sem], by simp [go_sem], by simp [go_sem], by simp [go_sem]⟩
theorem TB.made2 (w : World) (vM vD vM' vD' : Value) (t : TypeId) : TB ((w.alloc (.cells #[vM, vD] t)).alloc (.cells #[vM', vD'] t)) w.heap.size vM vD ∧ TB ((w.alloc (.cells #[vM, vD] t)).alloc (.cells #[vM', vD'] t)) (w.heap.size + 1) vM' vD' :=
  ⟨⟨by simp [go_sem], by simp [go_sem], by simp [go_sem], by simp [go_sem]⟩, ⟨by simp [go_sem], by simp [go_sem], by simp [go_sem], by simp [go_sem]⟩⟩
theorem TB.at_ {w w' : World} {q : Nat} {vM vD : Value} (h : TB w q vM vD) (e : w'.heap[q]? = w.heap[q]?) : TB w' q vM vD := ⟨(cell_at e).trans h.c0, (cell_at e).trans h.c1, (froz_at e).trans h.f0, (froz_at e).trans h.f1⟩
theorem TB.below {w w' : World} {q B : Nat} {vM vD : Value} (h : TB w q vM vD) (hb : Below B w w') (hq : q < B) : TB w' q vM vD := h.at_ (hb.block q hq)
theorem TB.set1 {w : World} {q : Nat} {vM vD : Value} (h : TB w q vM vD) (v : Value) : TB (w.setCell ⟨q, 1, none⟩ v) q vM v := ⟨(World.cell?_setCell_other _ _ _ _ (by simp)).trans h.c0, World.cell?_setCell_same _ _ _ h.c1, by simpa using h.f0, by simpa using h.f1⟩
/-- Where the own blocks of two slices lie, apart. -/
def Apt (vT vC : Value) : Prop := ∀ k, vT.ownBlock = some k → vC.ownBlock ≠ some k

/-- An answer in its box q, with its two rows, all between B and hi. -/
structure TA (w : World) (B hi q : Nat) (vT vC : Value) (T : List Pl) (L : List Int) : Prop where
  m : TB w q vT vC
  oT : OwnPl w B vT T
  oC : OwnI 2 .i64 w B vC L
  lT : Lies vT B hi
  lC : Lies vC B hi
  hq : B ≤ q ∧ q < hi
  aT : vT.ownBlock ≠ some q
  aC : vC.ownBlock ≠ some q
  ap : Apt vT vC
def itT (B hi q : Nat) (vT vC : Value) (T : List Pl) (L : List Int) : It := ⟨B, hi, fun w => TA w B hi q vT vC T L, fun w w' hk h =>
  ⟨h.m.at_ (hk q h.hq.1 h.hq.2), ownsRow_at h.oT h.lT hk, ownsRow_at h.oC h.lC hk, h.lT, h.lC, h.hq, h.aT, h.aC, h.ap⟩⟩
theorem TA.marked {w w' : World} {B hi q : Nat} {vT vC : Value} {T T' : List Pl} {L L' : List Int} (h : TA w B hi q vT vC T L) (hq : w'.heap[q]? = w.heap[q]?) (oT : OwnPl w' B vT T') (oC : OwnI 2 .i64 w' B vC L') : TA w' B hi q vT vC T' L' :=
  ⟨h.m.at_ hq, oT, oC, h.lT, h.lC, h.hq, h.aT, h.aC, h.ap⟩
/-- An answer that is tables. -/
def TOut (w w' : World) (T : List Pl) (L : List Int) (e : Ending) : Prop := ∃ A c D d, e = .returned (.agg #[.slice A T.length c, .slice D L.length d]) ∧ OwnPl w' w.heap.size (.slice A T.length c) T ∧ OwnI 2 .i64 w' w.heap.size (.slice D L.length d) L ∧ Apt (.slice A T.length c) (.slice D L.length d) ∧ Below w.heap.size w w'

/-- Tables baked: of each mark all sums. -/
def bakeOk (side : Int) (l : List Int) (ms : List Pl) : Bool := gridRight side l && decide (ms.length ≤ 4) && ms.all fun p => opn side l p.x p.y
def flatD (D : Nat → List Int) (k : Nat) : List Int := (List.range k).flatMap D
theorem flatD_succ (D : Nat → List Int) (k : Nat) : flatD D (k + 1) = flatD D k ++ D k := by simp [flatD, List.range_succ]
def bakeM (side : Int) (l : List Int) (ms : List Pl) : List Pl := if bakeOk side l ms then ms else []
def bakeD (side : Int) (l : List Int) (ms : List Pl) (D : Nat → List Int) : List Int := if bakeOk side l ms then flatD D ms.length else []
/-- D has the sums of each mark that is open. -/
def IsB (side : Int) (l : List Int) (ms : List Pl) (D : Nat → List Int) : Prop := ∀ i (h : i < ms.length), (gridRight side l && opn side l ms[i].x ms[i].y) = true → GDist side l ms[i].x ms[i].y (D i)
theorem isb_any (side : Int) (l : List Int) (ms : List Pl) : ∃ D, IsB side l ms D :=
  ⟨fun i => if h : i < ms.length then Classical.choose (gdist_any side l ms[i].x ms[i].y) else [], fun i h => by dsimp only; rw [dif_pos h]; exact Classical.choose_spec (gdist_any side l ms[i].x ms[i].y)⟩
theorem flatD_len {side : Int} {l : List Int} {ms : List Pl} {D : Nat → List Int} (hd : IsB side l ms D) (hr : gridRight side l = true) : ∀ k, k ≤ ms.length → (∀ i (h : i < ms.length), i < k → opn side l ms[i].x ms[i].y = true) → (flatD D k).length = k * l.length
  | 0, _, _ => by simp [flatD]
  | k + 1, hk, ho => by
    have h1 := flatD_len hd hr k (by omega) (fun i h hi => ho i h (by omega))
    have h2 := (hd k (by omega) (by rw [hr, ho k (by omega) (by omega)]; rfl)).len
    rw [flatD_succ, List.length_append, h1, h2, Nat.add_mul]
    omega
theorem bakeM_len (side : Int) (l : List Int) (ms : List Pl) : (bakeM side l ms).length ≤ 4 := by
  unfold bakeM
  split
  · next h =>
    simp only [bakeOk, Bool.and_eq_true, decide_eq_true_eq] at h
    exact h.1.2
  · simp
theorem bakeD_len {side : Int} {l : List Int} {ms : List Pl} {D : Nat → List Int} (hd : IsB side l ms D) : (bakeD side l ms D).length ≤ 256 := by
  unfold bakeD
  split
  · next h =>
    simp only [bakeOk, Bool.and_eq_true, decide_eq_true_eq, List.all_eq_true] at h
    rw [flatD_len hd h.1.1 ms.length (Nat.le_refl _) (fun i hi _ => h.2 _ (List.getElem_mem hi))]
    have h1 := right_len h.1.1
    have := Nat.mul_le_mul h.1.2 h1
    omega
  · simp
end Go.Proofs.Ytmjbefjkkncjlaa
