/- Nodes as keys of a map: which are in it, and what stands there. -/
import Derived.Test.YtoobkajilbmdhaaNodes
import Derived.Maps.OwnSet
import Derived.Maps.OwnOps
import Derived.Maps.Views
import Derived.DeepKeys4
namespace Go.Proofs.Ytoobkajilbmdhaa
open Go.RowKit
open Go.Maps (Keyed)
set_option linter.unusedVariables false

theorem laid_out : laidOutB Try.prog = true := by kernel_rfl
theorem row_nd : (73 : TypeId) < Try.prog.types.size := of_decide_eq_true (by kernel_rfl)
theorem wide_nd : (match Try.prog.underlying 73 with | some (.array _ _) | some (.struct _) => true | _ => false) = true := by rw [Try.underlying73]
set_option maxRecDepth 100000 in
theorem law_nd : Keyed Try.prog 73 := Keyed.of_law (deep_law_laid laid_out (m := 2) (by omega) row_nd (by kernel_rfl) wide_nd)

/-- The node's numbers are of 64 bits. -/
def Nd.Fits (n : Nd) : Prop := (Lit.int .i64 n.tile).wf = true ∧ (Lit.int .i64 n.a).wf = true ∧ (Lit.int .i64 n.b).wf = true ∧ (Lit.int .i64 n.c).wf = true ∧ (Lit.int .i64 n.d).wf = true
theorem cells_nd : Try.prog.cellsOf 73 = 5 := by kernel_rfl
theorem cells_int : Try.prog.cellsOf 2 = 1 := by kernel_rfl
theorem size_types : Try.prog.types.size = 108 := by kernel_rfl
theorem keyType_nd : Try.prog.keyType 73 = true := by kernel_rfl
theorem int_lits (d : Nat) (x : Int) (h : (Lit.int .i64 x).wf = true) : Try.prog.keyLits (d + 1) 2 [.int .i64 x] = some [.int .i64 x] := by
  simp only [Program.keyLits, Try.underlying2]
  simp [h]
set_option maxRecDepth 100000 in
theorem nd_lits (d : Nat) (t a b c e : Int) (h0 : (Lit.int .i64 t).wf = true) (h1 : (Lit.int .i64 a).wf = true) (h2 : (Lit.int .i64 b).wf = true) (h3 : (Lit.int .i64 c).wf = true) (h4 : (Lit.int .i64 e).wf = true) :
    Try.prog.keyLits (d + 1 + 1) 73 [.int .i64 t, .int .i64 a, .int .i64 b, .int .i64 c, .int .i64 e] = some [.int .i64 t, .int .i64 a, .int .i64 b, .int .i64 c, .int .i64 e] := by
  rw [Program.keyLits.eq_def]
  simp only [Try.underlying73, cells_nd]
  simp [cells_int, int_lits, h0, h1, h2, h3, h4]
/-- What the node is as a key. -/
def keyN (n : Nd) : Lit := .string (keyBytes [.int .i64 n.tile, .int .i64 n.a, .int .i64 n.b, .int .i64 n.c, .int .i64 n.d])
set_option maxRecDepth 100000 in
theorem keyN_is {n : Nd} (h : n.Fits) : keyOf Try.prog 73 n.val = some (keyN n) := by
  obtain ⟨h0, h1, h2, h3, h4⟩ := h
  have hf : n.val.formed Try.prog 73 = true := by
    unfold Nd.val Value.formed
    rw [Try.underlying73]
    simp [cells_nd]
  have hl := nd_lits (108 - 1) n.tile n.a n.b n.c n.d h0 h1 h2 h3 h4
  unfold keyOf
  rw [Try.underlying73]
  show (if (Try.prog.keyType 73 && n.val.formed Try.prog 73) = true then _ else none) = _
  rw [keyType_nd, hf, size_types]
  show Option.map _ (Try.prog.keyLits (108 - 1 + 1 + 1) 73 [.int .i64 n.tile, .int .i64 n.a, .int .i64 n.b, .int .i64 n.c, .int .i64 n.d]) = _
  rw [hl]
  rfl
theorem val_inj {x y : Nd} (h : x.val = y.val) : x = y := by
  obtain ⟨t, a, b, c, d⟩ := x
  obtain ⟨t', a', b', c', d'⟩ := y
  simp [Nd.val] at h
  obtain ⟨rfl, rfl, rfl, rfl, rfl⟩ := h
  rfl
theorem keyN_ne {x y : Nd} (hx : x.Fits) (hy : y.Fits) (h : x ≠ y) : keyN x ≠ keyN y := fun e => h (val_inj (law_nd.inj (keyN_is hx) (by rw [e]; exact keyN_is hy)))
theorem keyN_key (x : Nd) : WideAt.IsKeyLit (keyN x) := trivial

/-- Block B is a map of at most n entries in which stand just the nodes of S. -/
def MapB (w : World) (B n : Nat) (S : Nd → Bool) : Prop :=
  ∃ D : DataW Unit, w.ownsMap Try.prog 73 (plainElem Try.prog 4) B n D ∧ ∀ x : Nd, x.Fits → D.atKey (keyN x) (.lit (.bool false)) = .lit (.bool (S x))
theorem MapB.made (w : World) : MapB (w.alloc (.map #[] 0)) w.heap.size 0 (fun _ => false) := ⟨.map [], World.ownsMap_made _ _ _ _, fun x _ => rfl⟩
theorem MapB.drew {w : World} {B n : Nat} {S : Nd → Bool} (h : MapB w B n S) : MapB w.drew B n S := by obtain ⟨D, h1, h2⟩ := h; exact ⟨D, h1.drew, h2⟩
theorem MapB.lt {w : World} {B n : Nat} {S : Nd → Bool} (h : MapB w B n S) : B < w.heap.size := by obtain ⟨D, h1, h2⟩ := h; exact h1.lt
theorem MapB.below {w w' : World} {B n : Nat} {S : Nd → Bool} (h : MapB w B n S) (hb : Below w.heap.size w w') : MapB w' B n S := by
  obtain ⟨D, h1, h2⟩ := h
  exact ⟨D, h1.kept (row := none) ⟨hb.os, hb.tape, hb.output, hb.size, fun k hk _ => hb.block k hk⟩ (by simp), h2⟩
theorem zero_bool (w : World) : (zeroValue 4).run Try.prog w = .ok (.bool false) w := by kernel_rfl
theorem MapB.look {w : World} {B n : Nat} {S : Nd → Bool} (h : MapB w B n S) {x : Nd} (hx : x.Fits) :
    (Instr.lookup 81 (.map (some B)) x.val false).run Try.prog w = .ok (.bool (S x)) w := by
  obtain ⟨D, h1, h2⟩ := h
  obtain ⟨v, ps, hrun, hv⟩ := h1.lookup law_nd Try.underlying81 (zero_bool w) (plainElem_bool Try.underlying4 false) (keyN_is hx)
  rw [h2 x hx] at hv
  rw [hrun]
  have : v = .bool (S x) := by
    cases v <;> simp [plainElem, Try.underlying4] at hv
    rw [hv.1]
  rw [this]
theorem MapB.put {w : World} {B n : Nat} {S : Nd → Bool} (h : MapB w B n S) {x : Nd} (hx : x.Fits) (hn : n < maxLen) :
    ∃ w', (Instr.mapUpdate 81 (.map (some B)) x.val (.bool true)).run Try.prog w = .ok () w' ∧ MapB w' B (n + 1) (fun y => y == x || S y) ∧ w.grownBy w' (some B) := by
  obtain ⟨D, h1, h2⟩ := h
  obtain ⟨w', hrun, ho, hg⟩ := h1.update law_nd Try.underlying81 hn (keyN_is hx) (plainElem_bool Try.underlying4 true)
  refine ⟨w', hrun, ⟨_, ho, fun y hy => ?_⟩, hg⟩
  by_cases e : y = x
  · subst e
    rw [Maps.atKey_put_same h1.isMap (keyN_key _)]
    simp
  · rw [Maps.atKey_put_other (keyN_ne hy hx e), h2 y hy]
    simp [e]
/-- The same at the operation. -/
theorem wpList_put_b (w : World) {ops : Array Oper} {rest : List Oper} {o : Oper} {a : Act} {Q : Exit → Act → World → Prop}
    (hg : o.guard = none) (m x v : Operand) (hop : o.op = Op.mapUpdate 81 m x v) {B n : Nat} {S : Nd → Bool} {y : Nd}
    (hm : a.eval m = .map (some B)) (h : MapB w B n S) (hn : n < maxLen) (hx : a.eval x = y.val) (hv : a.eval v = .bool true) (hy : y.Fits)
    (hK : ∀ w', MapB w' B (n + 1) (fun z => z == y || S z) → w.grownBy w' (some B) → wpList Try.prog ops Q rest (a.put o.dst undef) w') :
    wpList Try.prog ops Q (o :: rest) a w := by
  refine wpList_plain hg fun K' hK' => ?_
  obtain ⟨w', hrun, r1, r2⟩ := h.put hy hn
  unfold Oper.wp
  simp [execOp, hop, hm, hx, hv, hrun, Result.andThen]
  exact hK' _ _ (hK w' r1 r2)
end Go.Proofs.Ytoobkajilbmdhaa
