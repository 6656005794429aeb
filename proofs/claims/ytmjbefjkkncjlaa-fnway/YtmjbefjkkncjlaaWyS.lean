/- The program's ways: what stands in memory while least sums are looked for: structures. -/
import Derived.Test.YtmjbefjkkncjlaaWyK
namespace Go.Proofs.Ytmjbefjkkncjlaa
open Go.RowKit
set_option linter.unusedVariables false

/-- A place to which a step leads. -/
abbrev StepTo (side : Int) (l : List Int) (px py : Int) : Type := { q : Pl // opn side l q.x q.y = true ∧ (q.x, q.y) ∈ abt px py }
abbrev stepEnc (side : Int) (l : List Int) (px py : Int) (q : StepTo side l px py) : Array Value := #[.agg #[.int .i64 q.1.x, .int .i64 q.1.y], .int .i64 (cst l (pn side px py) (pn side q.1.x q.1.y))]
/-- What a round keeps: whatever lay below n, but for the blocks of ex. -/
structure KpE (n : Nat) (ex : Nat → Prop) (W W' : World) : Prop where
  size : W.heap.size ≤ W'.heap.size
  block : ∀ k, k < n → k < W.heap.size → ¬ ex k → W'.heap[k]? = W.heap[k]?
theorem kpE_t {n : Nat} {ex : Nat → Prop} {A B C : World} (h : KpE n ex A B) (k : KpE n ex B C) : KpE n ex A C :=
  ⟨Nat.le_trans h.size k.size, fun i h1 h2 h3 => (k.block i h1 (Nat.lt_of_lt_of_le h2 h.size) h3).trans (h.block i h1 h2 h3)⟩
theorem kpE_b {n : Nat} {ex : Nat → Prop} {w : World} (hn : n ≤ w.heap.size) (W : World) (l : Nat) (o o' : Obj) (hl : w.heap.size ≤ l) (h : W.heap[l]? = some o) (_ : o.isCells = false) (_ : o.isWalk = false) : KpE n ex W (W.putObj l o') :=
  ⟨(Trn.put W l o').size, fun k h1 h2 _ => (Trn.put W l o').block k h2 (by omega)⟩
theorem KpE.of_trn {n : Nat} {ex p : Nat → Prop} {W W' : World} (h : Trn p W W') (hp : ∀ k, p k → k < n → ex k) : KpE n ex W W' :=
  ⟨h.size, fun k h1 h2 h3 => h.block k h2 fun e => h3 (hp k e h1)⟩

/-- The boxes that the iterator holds. -/
structure SB (w : World) (bb bg bh : Nat) (side : Int) (A : Option Addr) (c : Nat) (l : List Int) (px py : Int) : Prop where
  row : ∀ j (h : j < (abP px py).length), PlAt w bb (j * 2) (abP px py)[j]
  g0 : w.cell? ⟨bg, 0, none⟩ = some (.int .i64 side)
  g1 : w.cell? ⟨bg, 1, none⟩ = some (.slice A l.length c)
  h0 : w.cell? ⟨bh, 0, none⟩ = some (.int .i64 (l.getD (pn side px py) 0))
theorem SB.keep {w w' : World} {bb bg bh : Nat} {side : Int} {A : Option Addr} {c : Nat} {l : List Int} {px py : Int} (h : SB w bb bg bh side A c l px py) (e1 : w'.heap[bb]? = w.heap[bb]?) (e2 : w'.heap[bg]? = w.heap[bg]?) (e3 : w'.heap[bh]? = w.heap[bh]?) : SB w' bb bg bh side A c l px py :=
  ⟨fun j hj => (h.row j hj).keep e1, (World.cell?_of_block (a := ⟨bg, 0, none⟩) e2).trans h.g0, (World.cell?_of_block (a := ⟨bg, 1, none⟩) e2).trans h.g1, (World.cell?_of_block (a := ⟨bh, 0, none⟩) e3).trans h.h0⟩

/-- A step of book-keeping turns no cells. -/
theorem keepc {W W' : World} {row : Option Nat} (hg : W.grownBy W' row) (hr : ∀ r, row = some r → ∃ o : Obj, W.heap[r]? = some o ∧ o.isCells = false) {k : Nat} (hc : ∃ x : Obj, W.heap[k]? = some x ∧ x.isCells = true) : W'.heap[k]? = W.heap[k]? := by
  obtain ⟨x, hx, hxc⟩ := hc
  refine hg.block k (Array.getElem?_eq_some_iff.1 hx).1 fun e => ?_
  obtain ⟨o, ho, hoc⟩ := hr k e.symm
  rw [hx] at ho
  cases ho
  rw [hxc] at hoc
  cases hoc
theorem Trn.of_grownBy {W W' : World} {row : Option Nat} (hg : W.grownBy W' row) {p : Nat → Prop} (hp : ∀ r, row = some r → p r) : Trn p W W' := ⟨hg.os, hg.tape, hg.output, hg.size, fun k hk hn => hg.block k hk fun e => hn (hp k e.symm)⟩
theorem own_cells {w : World} {base g n c : Nat} {l : List Int} (h : OwnI 2 .i64 w base (.slice (some ⟨g, 0, none⟩) n c) l) : ∃ x : Obj, w.heap[g]? = some x ∧ x.isCells = true := by
  rcases h.2 with ⟨hv, _⟩ | ⟨g', cap', cur, hv, hb, hcur, _⟩
  · simp at hv
  · obtain ⟨rfl, _, _⟩ : g = g' ∧ n = l.length ∧ c = cap' := by simpa using hv
    exact ⟨_, hcur, rfl⟩

theorem ownI_block {w w' : World} {base g n c : Nat} {l : List Int} (h : OwnI 2 .i64 w base (.slice (some ⟨g, 0, none⟩) n c) l) (e : w'.heap[g]? = w.heap[g]?) : OwnI 2 .i64 w' base (.slice (some ⟨g, 0, none⟩) n c) l := by
  refine ⟨h.1, ?_⟩
  rcases h.2 with hn | ⟨g', cap, cur, hv, hb, hgg, rest⟩
  · exact .inl hn
  · have hv2 : g = g' ∧ n = l.length ∧ c = cap := by simpa using hv
    obtain ⟨rfl, _, _⟩ := hv2
    exact .inr ⟨g, cap, cur, hv, hb, e.trans hgg, rest⟩
/-- The boxes of Dists, the row of sums, the queue. -/
structure PS5 (base : Nat) (side : Int) (A : Option Addr) (c : Nat) (l : List Int) (bg bd bo gd cd : Nat) (d : List Int) (b off cap : Nat) (q : List Pl) (W : World) : Prop where
  g : GB W bg side (.slice A l.length c)
  d0 : W.cell? ⟨bd, 0, none⟩ = some (.slice (some ⟨gd, 0, none⟩) d.length cd)
  dd : OwnI 2 .i64 W base (.slice (some ⟨gd, 0, none⟩) d.length cd) d
  qb : QB W base bo b off cap q
  n1 : gd ≠ bo ∧ gd ≠ b
  n2 : bg ≠ gd ∧ bg ≠ bo ∧ bg ≠ b
  n3 : bd ≠ gd ∧ bd ≠ bo ∧ bd ≠ b
section
variable {base : Nat} {side : Int} {A : Option Addr} {c : Nat} {l : List Int} {bg bd bo gd cd : Nat} {d : List Int} {b off cap : Nat} {q : List Pl} {W W' : World}
theorem PS5.cg (h : PS5 base side A c l bg bd bo gd cd d b off cap q W) : ∃ x : Obj, W.heap[bg]? = some x ∧ x.isCells = true := cells_of_cell h.g.c0
theorem PS5.cd_ (h : PS5 base side A c l bg bd bo gd cd d b off cap q W) : ∃ x : Obj, W.heap[bd]? = some x ∧ x.isCells = true := cells_of_cell h.d0
theorem PS5.cr (h : PS5 base side A c l bg bd bo gd cd d b off cap q W) : ∃ x : Obj, W.heap[gd]? = some x ∧ x.isCells = true := own_cells h.dd
theorem PS5.co (h : PS5 base side A c l bg bd bo gd cd d b off cap q W) : ∃ x : Obj, W.heap[bo]? = some x ∧ x.isCells = true := cells_of_cell h.qb.c0
theorem PS5.cells (h : PS5 base side A c l bg bd bo gd cd d b off cap q W) : ∀ k, k = gd ∨ k = bo ∨ k = b → ∃ x : Obj, W.heap[k]? = some x ∧ x.isCells = true := by
  rintro k (rfl | rfl | rfl)
  · exact h.cr
  · exact h.co
  · exact h.qb.cl
theorem PS5.keep (h : PS5 base side A c l bg bd bo gd cd d b off cap q W) {p : Nat → Prop} (ht : Trn p W W') (hp : ∀ k, (∃ x : Obj, W.heap[k]? = some x ∧ x.isCells = true) → k = bg ∨ k = bd ∨ k = gd ∨ k = bo ∨ k = b → ¬ p k) : PS5 base side A c l bg bd bo gd cd d b off cap q W' := by
  have lt : ∀ {k : Nat}, (∃ x : Obj, W.heap[k]? = some x ∧ x.isCells = true) → k < W.heap.size := fun ⟨x, hx, _⟩ => (Array.getElem?_eq_some_iff.1 hx).1
  have e1 := ht.block bg (lt h.cg) (hp _ h.cg (.inl rfl))
  have e2 := ht.block bd (lt h.cd_) (hp _ h.cd_ (.inr (.inl rfl)))
  have e3 := ht.block gd (lt h.cr) (hp _ h.cr (.inr (.inr (.inl rfl))))
  refine ⟨h.g.at5 e1, (World.cell?_of_block (a := ⟨bd, 0, none⟩) e2).trans h.d0, ownI_block h.dd e3, h.qb.keep ht (hp _ h.co (.inr (.inr (.inr (.inl rfl))))) (hp _ h.qb.cl (.inr (.inr (.inr (.inr rfl))))), h.n1, h.n2, h.n3⟩
theorem PS5.below (h : PS5 base side A c l bg bd bo gd cd d b off cap q W) (hb : Below W.heap.size W W') : PS5 base side A c l bg bd bo gd cd d b off cap q W' := h.keep (p := fun _ => False) (Trn.of_below hb) fun _ _ _ => id
theorem PS5.store (h : PS5 base side A c l bg bd bo gd cd d b off cap q W) (j : Nat) (x : Int) : PS5 base side A c l bg bd bo gd cd (d.set j x) b off cap q (W.setCell ⟨gd, j, none⟩ (.int .i64 x)) := by
  have ht := Trn.set W gd j (.int .i64 x)
  have lt : ∀ {k : Nat}, (∃ x : Obj, W.heap[k]? = some x ∧ x.isCells = true) → k < W.heap.size := fun ⟨x, hx, _⟩ => (Array.getElem?_eq_some_iff.1 hx).1
  have e1 := ht.block bg (lt h.cg) h.n2.1
  have e2 := ht.block bd (lt h.cd_) h.n3.1
  refine ⟨h.g.at5 e1, by rw [List.length_set]; exact (World.cell?_of_block (a := ⟨bd, 0, none⟩) e2).trans h.d0, by rw [List.length_set]; exact (h.dd.store (j := j) x).1, h.qb.keep ht (fun e => h.n1.1 e.symm) (fun e => h.n1.2 e.symm), h.n1, h.n2, h.n3⟩
theorem PS5.queue {b2 off2 cap2 : Nat} {q2 : List Pl} (h : PS5 base side A c l bg bd bo gd cd d b off cap q W) (hq : QB W' base bo b2 off2 cap2 q2) (ht : Trn (fun k => k = bo ∨ k = b) W W') (hl : b2 = b ∨ W.heap.size ≤ b2) : PS5 base side A c l bg bd bo gd cd d b2 off2 cap2 q2 W' := by
  have lt : ∀ {k : Nat}, (∃ x : Obj, W.heap[k]? = some x ∧ x.isCells = true) → k < W.heap.size := fun ⟨x, hx, _⟩ => (Array.getElem?_eq_some_iff.1 hx).1
  have l1 := lt h.cg
  have l2 := lt h.cd_
  have l3 := lt h.cr
  have e1 := ht.block bg l1 (fun e => e.elim h.n2.2.1 h.n2.2.2)
  have e2 := ht.block bd l2 (fun e => e.elim h.n3.2.1 h.n3.2.2)
  have e3 := ht.block gd l3 (fun e => e.elim h.n1.1 h.n1.2)
  have ne : ∀ {k : Nat}, k < W.heap.size → k ≠ b → k ≠ b2 := fun hk hn => by
    rcases hl with rfl | hl
    · exact hn
    · omega
  exact ⟨h.g.at5 e1, (World.cell?_of_block (a := ⟨bd, 0, none⟩) e2).trans h.d0, ownI_block h.dd e3, hq, ⟨h.n1.1, ne l3 h.n1.2⟩, ⟨h.n2.1, h.n2.2.1, ne l1 h.n2.2.2⟩, ⟨h.n3.1, h.n3.2.1, ne l2 h.n3.2.2⟩⟩
end
end Go.Proofs.Ytmjbefjkkncjlaa
