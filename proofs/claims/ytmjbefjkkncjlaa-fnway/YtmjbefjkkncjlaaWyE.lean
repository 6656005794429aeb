/- The model's ways: what stands in memory while least sums are looked for. -/
import Derived.Test.YtmjbefjkkncjlaaWyQ
namespace Go.Proofs.Ytmjbefjkkncjlaa
open Go.RowKit
set_option linter.unusedVariables false
set_option linter.unusedSimpArgs false

/-- The map's box, the row of sums, the queue. -/
structure DS (w : World) (side : Int) (A : Option Addr) (c : Nat) (l : List Int) (gd cd : Nat) (d : List Int) (b off cap : Nat) (q : List Pl) (wr : World) : Prop where
  g : GB wr w.heap.size side (.slice A l.length c)
  dd : OwnI 2 .i64 wr (w.heap.size + 1 + 1) (.slice (some ⟨gd, 0, none⟩) d.length cd) d
  qq : QA wr (w.heap.size + 1 + 1) b off cap q
  ne : gd ≠ b
  bel : Below w.heap.size w wr
  siz : w.heap.size + 1 < wr.heap.size
section
variable {w wr wr' : World} {side : Int} {A : Option Addr} {c : Nat} {l : List Int} {gd cd : Nat} {d : List Int} {b off cap : Nat} {q : List Pl}
theorem DS.lo (h : DS w side A c l gd cd d b off cap q wr) : w.heap.size + 1 + 1 ≤ gd ∧ gd < wr.heap.size := World.ownsRow.lt h.dd gd rfl
theorem DS.below (h : DS w side A c l gd cd d b off cap q wr) (hb : Below wr.heap.size wr wr') : DS w side A c l gd cd d b off cap q wr' := by
  have hz := h.siz
  exact ⟨h.g.below hb (by omega), h.dd.keep hb, h.qq.below hb, h.ne, h.bel.trans (hb.mono (by omega)), Nat.lt_of_lt_of_le hz hb.size⟩
theorem DS.tail {p : Pl} (h : DS w side A c l gd cd d b off cap (p :: q) wr) : DS w side A c l gd cd d b (off + 2) (cap - 1) q wr := ⟨h.g, h.dd, h.qq.tail, h.ne, h.bel, h.siz⟩
theorem DS.store (h : DS w side A c l gd cd d b off cap q wr) (j : Nat) (x : Int) : DS w side A c l gd cd (d.set j x) b off cap q (wr.setCell ⟨gd, j, none⟩ (.int .i64 x)) := by
  have hz := h.siz
  have hlo := h.lo
  have hg := setCell_by wr ⟨gd, j, none⟩ (.int .i64 x)
  refine ⟨h.g.at5 (hg.block _ (by omega) fun e => ?_), ?_, h.qq.grown hg fun e => ?_, h.ne, h.bel.setCell (by show _ ≤ gd; omega) _, by simpa using hz⟩
  · have e' : w.heap.size = gd := Option.some.inj e
    omega
  · rw [List.length_set]
    exact (h.dd.store (j := j) x).1
  · exact h.ne (Option.some.inj e)
theorem DS.push {b2 off2 cap2 : Nat} {q2 : List Pl} (h : DS w side A c l gd cd d b off cap q wr) (hq : QA wr' (w.heap.size + 1 + 1) b2 off2 cap2 q2) (hg : wr.grownBy wr' (some b)) (hl : b2 = b ∨ wr.heap.size ≤ b2) : DS w side A c l gd cd d b2 off2 cap2 q2 wr' := by
  have hz := h.siz
  have hlo := h.lo
  have hbl := h.qq.lo
  refine ⟨h.g.at5 (hg.block _ (by omega) fun e => ?_), World.ownsRow.kept h.dd hg (.inr fun e => ?_), hq, ?_, h.bel.grown hg (by omega) (fun k hk => by have := Option.some.inj hk; omega), Nat.lt_of_lt_of_le hz hg.size⟩
  · have e' : w.heap.size = b := Option.some.inj e
    omega
  · exact h.ne (Option.some.inj e)
  · rcases hl with rfl | hl
    · exact h.ne
    · omega
end
/-- And besides the box of the place that is looked at, and the row of those beside it. -/
structure IS (w : World) (side : Int) (A : Option Addr) (c : Nat) (l : List Int) (gd cd : Nat) (d : List Int) (b off cap : Nat) (q : List Pl) (ba : Nat) (ax ay : Int) (A9 : Option Addr) (Ls : List Pl) (wr : World) : Prop where
  ds : DS w side A c l gd cd d b off cap q wr
  pb : PlB wr ba ax ay
  nb : ba ≠ gd ∧ ba ≠ b ∧ ba < wr.heap.size
  row : Ls = [] ∨ ∃ bl, A9 = some ⟨bl, 0, none⟩ ∧ bl ≠ gd ∧ bl ≠ b ∧ bl < wr.heap.size ∧ ∀ j (h : j < Ls.length), PlAt wr bl (j * 2) Ls[j]
section
variable {w wr wr' : World} {side : Int} {A : Option Addr} {c : Nat} {l : List Int} {gd cd : Nat} {d : List Int} {b off cap : Nat} {q : List Pl} {ba : Nat} {ax ay : Int} {A9 : Option Addr} {Ls : List Pl}
theorem IS.kept {d' : List Int} {b2 off2 cap2 : Nat} {q2 : List Pl} (h : IS w side A c l gd cd d b off cap q ba ax ay A9 Ls wr) (hd : DS w side A c l gd cd d' b2 off2 cap2 q2 wr') (hk : ∀ k, k < wr.heap.size → k ≠ gd → k ≠ b → wr'.heap[k]? = wr.heap[k]?) (hz : wr.heap.size ≤ wr'.heap.size) (hl : b2 = b ∨ wr.heap.size ≤ b2) : IS w side A c l gd cd d' b2 off2 cap2 q2 ba ax ay A9 Ls wr' := by
  obtain ⟨n1, n2, n3⟩ := h.nb
  have e := hk ba n3 n1 n2
  refine ⟨hd, ⟨(World.cell?_of_block (a := ⟨ba, 0, none⟩) e).trans h.pb.c0, (World.cell?_of_block (a := ⟨ba, 1, none⟩) e).trans h.pb.c1⟩, ⟨n1, by rcases hl with rfl | hl; exact n2; omega, by omega⟩, ?_⟩
  rcases h.row with hr | ⟨bl, e9, m1, m2, m3, hr⟩
  · exact .inl hr
  · exact .inr ⟨bl, e9, m1, by rcases hl with rfl | hl; exact m2; omega, by omega, fun j hj => (hr j hj).keep (hk bl m3 m1 m2)⟩
theorem IS.below (h : IS w side A c l gd cd d b off cap q ba ax ay A9 Ls wr) (hb : Below wr.heap.size wr wr') : IS w side A c l gd cd d b off cap q ba ax ay A9 Ls wr' :=
  h.kept (h.ds.below hb) (fun k hk _ _ => hb.block k hk) hb.size (.inl rfl)
theorem IS.store (h : IS w side A c l gd cd d b off cap q ba ax ay A9 Ls wr) (j : Nat) (x : Int) : IS w side A c l gd cd (d.set j x) b off cap q ba ax ay A9 Ls (wr.setCell ⟨gd, j, none⟩ (.int .i64 x)) :=
  h.kept (h.ds.store j x) (fun k hk h1 _ => (setCell_by wr ⟨gd, j, none⟩ (.int .i64 x)).block k hk fun e => h1 (Option.some.inj e)) (by simp) (.inl rfl)
theorem IS.push {b2 off2 cap2 : Nat} {q2 : List Pl} (h : IS w side A c l gd cd d b off cap q ba ax ay A9 Ls wr) (hq : QA wr' (w.heap.size + 1 + 1) b2 off2 cap2 q2) (hg : wr.grownBy wr' (some b)) (hl : b2 = b ∨ wr.heap.size ≤ b2) : IS w side A c l gd cd d b2 off2 cap2 q2 ba ax ay A9 Ls wr' :=
  h.kept (h.ds.push hq hg hl) (fun k hk _ h2 => hg.block k hk fun e => h2 (Option.some.inj e)) hg.size hl
theorem IS.at_ (h : IS w side A c l gd cd d b off cap q ba ax ay A9 Ls wr) {i : Nat} (hi : i < Ls.length) : ∃ bl, A9 = some ⟨bl, 0, none⟩ ∧ PlAt wr bl (i * 2) Ls[i] := by
  rcases h.row with hr | ⟨bl, e9, _, _, _, hr⟩
  · rw [hr] at hi
    simp at hi
  · exact ⟨bl, e9, hr i hi⟩
end
/-- What is known of the sums on the way. -/
structure DM (side : Int) (l : List Int) (s a : Nat) (done : Nat → Prop) (d : List Int) (q : List Pl) : Prop where
  on : OnW l.length (Stp side l) (cst l) s a done d (q.map fun p => pn side p.x p.y)
  opn : ∀ p ∈ q, opn side l p.x p.y = true
theorem DM.len {side : Int} {l : List Int} {s a : Nat} {done : Nat → Prop} {d : List Int} {q : List Pl} (h : DM side l s a done d q) (hl : l.length ≤ 64) : q.length ≤ 1000000 := by
  have := h.on.few
  simp only [List.length_map] at this
  have h2 : l.length * l.length ≤ 64 * 64 := Nat.mul_le_mul hl hl
  omega
def lft (side : Int) (l : List Int) (d : List Int) (q : List Pl) : Nat := toDo l.length d (q.map fun p => pn side p.x p.y)
end Go.Proofs.Ytmjbefjkkncjlaa
