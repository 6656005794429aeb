/- The model's pools: a map is put in. -/
import Derived.Test.YtoobkajilbmdhaaSqM
import Derived.Test.YtoobkajilbmdhaaGridA
import Derived.Test.YtoobkajilbmdhaaGWalk
namespace Go.Proofs.Ytoobkajilbmdhaa
open Go.RowKit
set_option linter.unusedVariables false

/-- How often a side was doubled. -/
def dbl (sn : Nat) : Nat := if sn ≤ 1 then 0 else if sn ≤ 2 then 1 else if sn ≤ 4 then 2 else 3
/-- What PoolPut answers: code, root, nodes. -/
def putP (l : List Nd) (side : Int) (tiles : List Int) : Int × Int × List Nd :=
  if poolRight l && gridRight side tiles then
    let r := msq (tileF side.toNat tiles) (dbl side.toNat) 0 0 l
    if r.1.length ≤ 200 then (0, r.2, r.1) else (9, 0, [])
  else (1, 0, [])
theorem pow_dbl {side : Int} (h : sideOk side = true) : ∃ sn : Nat, side = sn ∧ sn ≤ 8 ∧ 2 ^ dbl sn = sn ∧ dbl sn ≤ 3 := by
  have h1 : side = 1 ∨ side = 2 ∨ side = 4 ∨ side = 8 := by simp [sideOk] at h; omega
  rcases h1 with rfl | rfl | rfl | rfl
  · exact ⟨1, rfl, by omega, rfl, by decide⟩
  · exact ⟨2, rfl, by omega, rfl, by decide⟩
  · exact ⟨4, rfl, by omega, rfl, by decide⟩
  · exact ⟨8, rfl, by omega, rfl, by decide⟩
theorem cnt_le {d : Nat} (h : d ≤ 3) : cnt d ≤ 85 := by
  have : d = 0 ∨ d = 1 ∨ d = 2 ∨ d = 3 := by omega
  rcases this with rfl | rfl | rfl | rfl <;> decide

def pOut (v : Value) (root code : Int) : Value := .agg #[v, .int .i64 root, .int .i64 code]
/-- What is handed back: a pool of its own, a root, a code. -/
def POut (w : World) (r : Int × Int × List Nd) (e : Ending) (w' : World) : Prop :=
  ∃ A c, e = .returned (.agg #[.slice A r.2.2.length c, .int .i64 r.2.1, .int .i64 r.1]) ∧ OwnN w' w.heap.size (.slice A r.2.2.length c) r.2.2 ∧ Below w.heap.size w w'

theorem news_nodes {w : World} {b off : Nat} {l : List Nd} (h : ∀ j (hj : j < l.length), NdAt w b (off + j * 5) l[j]) : ∀ j u, (l.flatMap Nd.cells)[j]? = some u → w.cell? ((⟨b, off, none⟩ : Addr).add j) = some u := by
  have e : ∀ i, (⟨b, off, none⟩ : Addr).add i = ⟨b, off + i, none⟩ := fun i => by unfold Addr.add; split <;> simp_all
  intro j u hu
  have hj : j < (l.flatMap Nd.cells).length := (List.getElem?_eq_some_iff.1 hu).1
  rw [flat_len] at hj
  have hq : j / 5 < l.length := by omega
  have hjj : j = j / 5 * 5 + j % 5 := by omega
  rw [hjj, flat_get l (j / 5) (j % 5) hq (by omega)] at hu
  rw [e, hjj, ← Nat.add_assoc]
  obtain ⟨c0, c1, c2, c3, c4⟩ := h (j / 5) hq
  have h5 : j % 5 = 0 ∨ j % 5 = 1 ∨ j % 5 = 2 ∨ j % 5 = 3 ∨ j % 5 = 4 := by omega
  rcases h5 with h | h | h | h | h <;> rw [h] at hu ⊢ <;> simp [Nd.cells] at hu <;> subst hu
  · exact c0
  · exact c1
  · exact c2
  · exact c3
  · exact c4
/-- All nodes of a list are appended to a row of the call's own. -/
theorem append_nodes {i0 : TypeInfo} (hi : Try.prog.info? 73 = some i0) (hz0 : i0.zero = some (.agg #[.int .i64 0, .int .i64 0, .int .i64 0, .int .i64 0, .int .i64 0])) (hz1 : i0.size = 5) (hz2 : i0.bytes = 40)
    {ops : Array Oper} {rest : List Oper} {o : Oper} {a : Act} {Q : Exit → Act → World → Prop} (hgd : o.guard = none) (s x : Operand)
    (ho : o.op = .call { callee := .builtin .append, args := #[s, x], argTypes := #[27, 27] })
    (base : Nat) (v : Value) (l l' : List Nd) (wr : World) (b off c : Nat) (hown : OwnN wr base v l) (hs : a.eval s = v) (hx : a.eval x = .slice (some ⟨b, off, none⟩) l'.length c) (hn : ∀ j (hj : j < l'.length), NdAt wr b (off + j * 5) l'[j]) (hlen : l.length + l'.length ≤ 1000000) (hb : base ≤ wr.heap.size)
    (h : ∀ v' w', OwnN w' base v' (l ++ l') → wr.grownBy w' v.ownBlock → wpList Try.prog ops Q rest (a.put o.dst v') w') :
    wpList Try.prog ops Q (o :: rest) a wr := by
  refine wpList_append_own _ hgd s x 27 ho base 73 i0 (.agg #[.int .i64 0, .int .i64 0, .int .i64 0, .int .i64 0, .int .i64 0]) 5 40 Try.underlying27 hi hz0 hz1 hz2 rfl (by decide) v l.length _ hs hown ⟨b, off, none⟩ l'.length c (l'.flatMap Nd.cells) hx (flat_len _) (news_nodes hn) ?_ ?_ ?_ hb ?_
  · intro u hu
    obtain ⟨n, _, hu⟩ := List.mem_flatMap.1 hu
    simp [Nd.cells] at hu
    rcases hu with rfl | rfl | rfl | rfl | rfl <;> rfl
  · unfold maxLen; omega
  · omega
  · intro v' w' hown' hgrow _
    refine h v' w' ?_ hgrow
    unfold OwnN
    simpa [List.flatMap_append] using hown'
end Go.Proofs.Ytoobkajilbmdhaa
