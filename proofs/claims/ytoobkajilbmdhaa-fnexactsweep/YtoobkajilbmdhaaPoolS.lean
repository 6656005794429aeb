/- A pool that grows: its box, its row, what else stays. -/
import Derived.Test.YtoobkajilbmdhaaNodeW
import Derived.Test.YtoobkajilbmdhaaSq
import Derived.Deep.RegionLaw
namespace Go.Proofs.Ytoobkajilbmdhaa
open Go.RowKit
set_option linter.unusedVariables false

/-- From w to w' only the blocks p, m and the pool's row may have turned. -/
structure PG (p m : Nat) (v v' : Value) (w w' : World) : Prop where
  os : w'.os = w.os
  tape : w'.tape = w.tape
  output : w'.output = w.output
  size : w.heap.size ≤ w'.heap.size
  block : ∀ k, k < w.heap.size → k ≠ p → k ≠ m → v.ownBlock ≠ some k → w'.heap[k]? = w.heap[k]?
  row : ∀ k, k < w.heap.size → v.ownBlock ≠ some k → v'.ownBlock ≠ some k
theorem PG.refl (p m : Nat) (v : Value) (w : World) : PG p m v v w w := ⟨rfl, rfl, rfl, Nat.le_refl _, fun _ _ _ _ _ => rfl, fun _ _ h => h⟩
theorem PG.trans {p m : Nat} {v v1 v2 : Value} {w w1 w2 : World} (h : PG p m v v1 w w1) (k : PG p m v1 v2 w1 w2) : PG p m v v2 w w2 :=
  ⟨k.os.trans h.os, k.tape.trans h.tape, k.output.trans h.output, Nat.le_trans h.size k.size, fun i hi h1 h2 h3 => (k.block i (Nat.lt_of_lt_of_le hi h.size) h1 h2 (h.row i hi h3)).trans (h.block i hi h1 h2 h3), fun i hi h3 => k.row i (Nat.lt_of_lt_of_le hi h.size) (h.row i hi h3)⟩
theorem PG.below {p m : Nat} {v : Value} {w w' : World} (h : Below w.heap.size w w') : PG p m v v w w' := ⟨h.os, h.tape, h.output, h.size, fun k hk _ _ _ => h.block k hk, fun _ _ h => h⟩
theorem PG.cell {p m : Nat} {v v' : Value} {w w' : World} (h : PG p m v v' w w') {a : Addr} (ha : a.block < w.heap.size) (h1 : a.block ≠ p) (h2 : a.block ≠ m) (h3 : v.ownBlock ≠ some a.block) : w'.cell? a = w.cell? a := World.cell?_of_block (h.block _ ha h1 h2 h3)
/-- Below base nothing has turned. -/
theorem PG.base {p m base : Nat} {v v' : Value} {w w' : World} (h : PG p m v v' w w') (hb : base ≤ w.heap.size) (hp : base ≤ p) (hm : base ≤ m) (hv : ∀ k, v.ownBlock = some k → base ≤ k) : Below base w w' :=
  ⟨h.os, h.tape, h.output, h.size, fun k hk => h.block k (by omega) (by omega) (by omega) fun e => by have := hv k e; omega⟩
theorem PG.grown {p m : Nat} {v : Value} {w w' : World} (h : w.grownBy w' v.ownBlock) (v' : Value) (hr : ∀ k, k < w.heap.size → v.ownBlock ≠ some k → v'.ownBlock ≠ some k) : PG p m v v' w w' :=
  ⟨h.os, h.tape, h.output, h.size, fun k hk _ _ h3 => h.block k hk (fun e => h3 e.symm), hr⟩

/-- The pool stands in box p, its row is its own. -/
structure PS (base p : Nat) (v : Value) (l : List Nd) (w : World) : Prop where
  c0 : w.cell? ⟨p, 0, none⟩ = some v
  f0 : w.frozen? ⟨p, 0, none⟩ = false
  own : OwnN w base v l
  hb : base ≤ p
  lt : p < w.heap.size
  ne : v.ownBlock ≠ some p
theorem PS.below {base p : Nat} {v : Value} {l : List Nd} {w w' : World} (h : PS base p v l w) (hb : Below w.heap.size w w') : PS base p v l w' :=
  ⟨(hb.cell (p := ⟨p, 0, none⟩) h.lt).trans h.c0, (hb.frozen (p := ⟨p, 0, none⟩) h.lt).trans h.f0, h.own.keep hb, h.hb, Nat.lt_of_lt_of_le h.lt hb.size, h.ne⟩
theorem OwnN.form {w : World} {base : Nat} {v : Value} {l : List Nd} (h : OwnN w base v l) : ∃ A c, v = .slice A l.length c := by
  rcases h.2 with ⟨hv, hn⟩ | ⟨g, cap, cur, hv, _⟩
  · exact ⟨none, 0, by rw [hv, hn]⟩
  · exact ⟨_, _, hv⟩
theorem OwnN.lt {w : World} {base : Nat} {v : Value} {l : List Nd} (h : OwnN w base v l) : ∀ k, v.ownBlock = some k → base ≤ k ∧ k < w.heap.size := World.ownsRow.lt h

theorem news_node {w : World} {b : Nat} {x : Nd} (h : NdAt w b 0 x) : ∀ j u, x.cells[j]? = some u → w.cell? ((⟨b, 0, none⟩ : Addr).add j) = some u := by
  have e : ∀ i, (⟨b, 0, none⟩ : Addr).add i = ⟨b, i, none⟩ := fun i => by unfold Addr.add; split <;> simp_all
  intro j u hu
  obtain ⟨hj, rfl⟩ := List.getElem?_eq_some_iff.1 hu
  rw [e]
  obtain ⟨c0, c1, c2, c3, c4⟩ := h
  simp only [Nat.zero_add] at c0 c1 c2 c3 c4
  have h5 : j = 0 ∨ j = 1 ∨ j = 2 ∨ j = 3 ∨ j = 4 := by simp [Nd.cells] at hj; omega
  rcases h5 with rfl | rfl | rfl | rfl | rfl
  · exact c0
  · exact c1
  · exact c2
  · exact c3
  · exact c4
/-- One node is appended, in a region that draws. -/
theorem step_append_node {i0 : TypeInfo} (hi : Try.prog.info? 73 = some i0) (hz0 : i0.zero = some (.agg #[.int .i64 0, .int .i64 0, .int .i64 0, .int .i64 0, .int .i64 0])) (hz1 : i0.size = 5) (hz2 : i0.bytes = 40)
    {ops : Array Oper} {o : Oper} {a : Act} {K : Act → World → Prop} {Q : Exit → Act → World → Prop} {E : Prop} (hgd : o.guard = none) (s x : Operand)
    (ho : o.op = .call { callee := .builtin .append, args := #[s, x], argTypes := #[27, 27] })
    (base : Nat) (v : Value) (l : List Nd) (n : Nd) (wr : World) (b : Nat) (hown : OwnN wr base v l) (hs : a.eval s = v) (hx : a.eval x = .slice (some ⟨b, 0, none⟩) 1 1) (hn : NdAt wr b 0 n) (hlen : l.length ≤ 1000000) (hb : base ≤ wr.heap.size)
    (h : ∀ g cap w', OwnN w' base (.slice (some ⟨g, 0, none⟩) (l.length + 1) cap) (l ++ [n]) → wr.grownBy w' v.ownBlock → (v.ownBlock = some g ∨ g = wr.heap.size) → K (a.put o.dst (.slice (some ⟨g, 0, none⟩) (l.length + 1) cap)) w') :
    if Region.wanted o (yielded ops a.tmps) = true then Oper.wp Try.prog o a wr K Q else E := by
  refine step_append_lies _ hgd s x 27 ho base 73 i0 (.agg #[.int .i64 0, .int .i64 0, .int .i64 0, .int .i64 0, .int .i64 0]) 5 40 Try.underlying27 hi hz0 hz1 hz2 rfl (by decide) v l.length _ hs hown ⟨b, 0, none⟩ 1 1 n.cells hx rfl (news_node hn) ?_ (by decide) ?_ ?_ hb wr.heap.size rfl ?_
  · intro u hu
    simp [Nd.cells] at hu
    rcases hu with rfl | rfl | rfl | rfl | rfl <;> rfl
  · unfold maxLen; omega
  · omega
  · intro g cap w' hown' hgrow hlies _
    refine h g cap w' ?_ hgrow hlies
    unfold OwnN
    simpa [List.flatMap_append] using hown'

theorem grown_set (w : World) (a : Addr) (u : Value) : w.grownBy (w.setCell a u) (some a.block) := ⟨rfl, rfl, rfl, by simp, fun k _ hk => heap_setCell_other w a k u (fun e => hk (by rw [e]))⟩
theorem OwnN.set_far {w : World} {base : Nat} {v : Value} {l : List Nd} {a : Addr} (ha : v.ownBlock ≠ some a.block) (u : Value) (h : OwnN w base v l) : OwnN (w.setCell a u) base v l := World.ownsRow.kept h (grown_set w a u) (.inr ha)
/-- Behind an append its new row is stored into the box. -/
theorem PS.push {base p m g n cap : Nat} {v : Value} {l l' : List Nd} {W w2 : World} (h : PS base p v l W) (ho : OwnN w2 base (.slice (some ⟨g, 0, none⟩) n cap) l') (hg : W.grownBy w2 v.ownBlock) (hl : v.ownBlock = some g ∨ g = W.heap.size) :
    PS base p (.slice (some ⟨g, 0, none⟩) n cap) l' (w2.setCell ⟨p, 0, none⟩ (.slice (some ⟨g, 0, none⟩) n cap)) ∧ PG p m v (.slice (some ⟨g, 0, none⟩) n cap) W (w2.setCell ⟨p, 0, none⟩ (.slice (some ⟨g, 0, none⟩) n cap)) := by
  have hlt := h.lt
  have hgp : g ≠ p := by
    rcases hl with hl | hl
    · intro e; exact h.ne (by rw [hl, e])
    · omega
  have hnr : some p ≠ v.ownBlock := fun e => h.ne e.symm
  have hc := hg.cell h.c0 hnr
  have hf := (World.frozen?_of_block (a := ⟨p, 0, none⟩) (hg.block p hlt hnr)).trans h.f0
  refine ⟨⟨World.cell?_setCell_same _ _ _ hc, by simpa using hf, OwnN.set_far (by simpa [Value.ownBlock] using hgp) _ ho, h.hb, by have := hg.size; simp; omega, by simpa [Value.ownBlock] using hgp⟩, ⟨hg.os, hg.tape, hg.output, by have := hg.size; simp; omega, fun k hk h1 _ h3 => ?_, fun k hk h3 => ?_⟩⟩
  · exact (heap_setCell_other w2 ⟨p, 0, none⟩ k _ (fun e => h1 (by simpa using e))).trans (hg.block k hk (fun e => h3 e.symm))
  · rcases hl with hl | hl
    · intro e; rw [hl] at h3; exact h3 e
    · intro e; simp [Value.ownBlock] at e; omega
end Go.Proofs.Ytoobkajilbmdhaa
