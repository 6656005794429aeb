/- What stands in memory while the law on merges goes on. -/
import Derived.Test.YthhadbojepcdjaaMgM
import Derived.Test.YthhadbojepcdjaaMgP
import Derived.Test.YthhadbojepcdjaaDr4
import Derived.Test.YthhadbojepcdjaaLwC
import Derived.Test.YthhadbojepcdjaaLwG
import Derived.Test.YthhadbojepcdjaaDfT
namespace Go.Proofs.Ythhadbojepcdjaa
open Go.RowKit
set_option linter.unusedVariables false

/-- Block b holds the fields of a map whose tiles can be read. -/
structure Gm (b : Nat) (side : Int) (A : Option Addr) (c : Nat) (l : List Int) (wr : World) : Prop where
  c0 : wr.cell? ⟨b, 0, none⟩ = some (.int .i64 side)
  c1 : wr.cell? ⟨b, 1, none⟩ = some (.slice A l.length c)
  lt : b < wr.heap.size
  ri : RI wr wr.heap.size A l
theorem RI.go {w w' : World} {A : Option Addr} {l : List Int} (h : RI w w.heap.size A l) (hb : Below w.heap.size w w') : RI w' w'.heap.size A l := (h.below hb).mono hb.size
theorem RCh.go {w w' : World} {A : Option Addr} {l : List Ch} (h : RCh w w.heap.size A l) (hb : Below w.heap.size w w') : RCh w' w'.heap.size A l := (h.below hb).mono hb.size
theorem Gm.on {b : Nat} {side : Int} {A : Option Addr} {c : Nat} {l : List Int} {w w' : World} (h : Gm b side A c l w) (hb : Below w.heap.size w w') : Gm b side A c l w' :=
  ⟨(hb.cell (p := ⟨b, 0, none⟩) h.lt).trans h.c0, (hb.cell (p := ⟨b, 1, none⟩) h.lt).trans h.c1, Nat.lt_of_lt_of_le h.lt hb.size, h.ri.go hb⟩
theorem Gm.made {side : Int} {A : Option Addr} {c : Nat} {l : List Int} {w : World} (t : TypeId) (h : RI w w.heap.size A l) : Gm w.heap.size side A c l (w.alloc (.cells #[.int .i64 side, .slice A l.length c] t)) :=
  ⟨by simp [go_sem], by simp [go_sem], by simp, h.go ((Below.refl _ _).alloc (Nat.le_refl _) _)⟩
/-- A merge in its box, whose rows can be read. -/
structure Mm (q : Nat) (S C : Int) (A : Option Addr) (c : Nat) (T : List Int) (D : Option Addr) (d : Nat) (L : List Ch) (wr : World) : Prop where
  m : MB wr q S (.slice A T.length c) (.slice D L.length d) C
  lt : q < wr.heap.size
  ri : RI wr wr.heap.size A T
  rc : RCh wr wr.heap.size D L
theorem Mm.on {q : Nat} {S C : Int} {A : Option Addr} {c : Nat} {T : List Int} {D : Option Addr} {d : Nat} {L : List Ch} {w w' : World} (h : Mm q S C A c T D d L w) (hb : Below w.heap.size w w') : Mm q S C A c T D d L w' :=
  ⟨h.m.at_ (hb.block q h.lt), Nat.lt_of_lt_of_le h.lt hb.size, h.ri.go hb, h.rc.go hb⟩
theorem Mm.made {S C : Int} {A : Option Addr} {c : Nat} {T : List Int} {D : Option Addr} {d : Nat} {L : List Ch} {w : World} (t : TypeId) (h : RI w w.heap.size A T) (k : RCh w w.heap.size D L) : Mm w.heap.size S C A c T D d L (w.alloc (.cells #[.int .i64 S, .slice A T.length c, .slice D L.length d, .int .i64 C] t)) :=
  ⟨MB.made _ _ _ _ _ _, by simp, h.go ((Below.refl _ _).alloc (Nat.le_refl _) _), k.go ((Below.refl _ _).alloc (Nat.le_refl _) _)⟩
/-- What stays true while only new memory is made. -/
def Kep (P : World → Prop) : Prop := ∀ w w', Below w.heap.size w w' → P w → P w'
theorem belowA (w : World) (o : Obj) : Below w.heap.size w (w.alloc o) := (Below.refl _ _).alloc (Nat.le_refl _) _
theorem belowD (w : World) : Below w.heap.size w w.drew := (Below.refl _ _).drew
theorem bAnd {a b c : World} (h : Below a.heap.size a b) (k : Below b.heap.size b c) : Below a.heap.size a c := h.trans (k.mono h.size)
/-- An empty box for a merge, made since w0. -/
structure Zb (w0 : World) (q : Nat) (wr : World) : Prop where
  m : MB wr q 0 (.slice none 0 0) (.slice none 0 0) 0
  lt : w0.heap.size ≤ q ∧ q < wr.heap.size
theorem Zb.on {w0 : World} {q : Nat} {w w' : World} (h : Zb w0 q w) (hb : Below w.heap.size w w') : Zb w0 q w' := ⟨h.m.at_ (hb.block q h.lt.2), h.lt.1, Nat.lt_of_lt_of_le h.lt.2 hb.size⟩
theorem Zb.made {w0 w : World} (h : w0.heap.size ≤ w.heap.size) : Zb w0 w.heap.size (w.alloc (.cells #[.int .i64 0, .slice none 0 0, .slice none 0 0, .int .i64 0] 45)) := ⟨MB.made _ _ _ _ _ _, h, by simp⟩
/-- The answer of a merge, to be read. -/
def Own2 (A A' : Option Addr) (lo hi : Nat) : Prop := (∀ a, A = some a → lo ≤ a.block ∧ a.block < hi) ∧ ∀ a, A' = some a → lo ≤ a.block ∧ a.block < hi
def MRead (w w' : World) (r : Int × Int × List Int × List Ch) (e : Ending) : Prop :=
  ∃ A c A' c', e = .returned (.agg #[.int .i64 r.2.1, .slice A r.2.2.1.length c, .slice A' r.2.2.2.length c', .int .i64 r.1]) ∧ RI w' w'.heap.size A r.2.2.1 ∧ RCh w' w'.heap.size A' r.2.2.2 ∧ Own2 A A' w.heap.size w'.heap.size ∧ Below w.heap.size w w'
theorem MOut.rd {w w' : World} {r : Int × Int × List Int × List Ch} {e : Ending} (h : MOut w w' r e) : MRead w w' r e := by
  obtain ⟨A, c, A', c', h1, h2, h3, _, h4⟩ := h
  exact ⟨A, c, A', c', h1, h2.ri, h3.r, ⟨fun a e => World.ownsRow.lt h2 a.block (by subst e; rfl), fun a e => h3.lt a.block (by subst e; rfl)⟩, h4⟩
/-- The four cells of a merge's box are set. -/
abbrev four (w : World) (q : Nat) (S : Int) (vT vC : Value) (C : Int) : World := (((w.setCell ⟨q, 0, none⟩ (.int .i64 S)).setCell ⟨q, 1, none⟩ vT).setCell ⟨q, 2, none⟩ vC).setCell ⟨q, 3, none⟩ (.int .i64 C)
theorem four_size (w : World) (q : Nat) (S : Int) (vT vC : Value) (C : Int) : (four w q S vT vC C).heap.size = w.heap.size := by simp [four]
theorem four_other (w : World) (q k : Nat) (S : Int) (vT vC : Value) (C : Int) (h : k ≠ q) : (four w q S vT vC C).heap[k]? = w.heap[k]? := by
  rw [four, heap_setCell_other _ _ _ _ h, heap_setCell_other _ _ _ _ h, heap_setCell_other _ _ _ _ h, heap_setCell_other _ _ _ _ h]
def Off (A : Option Addr) (q : Nat) : Prop := ∀ a, A = some a → a.block ≠ q
theorem Own2.off_lo {A A' : Option Addr} {lo hi q : Nat} (h : Own2 A A' lo hi) (hq : q < lo) : Off A q ∧ Off A' q := ⟨fun a e => by have := (h.1 a e).1; omega, fun a e => by have := (h.2 a e).1; omega⟩
theorem Own2.off_hi {A A' : Option Addr} {lo hi q : Nat} (h : Own2 A A' lo hi) (hq : hi ≤ q) : Off A q ∧ Off A' q := ⟨fun a e => by have := (h.1 a e).2; omega, fun a e => by have := (h.2 a e).2; omega⟩
theorem Mm.made2 {q : Nat} {S C : Int} {A : Option Addr} {c : Nat} {T : List Int} {D : Option Addr} {d : Nat} {L : List Ch} {w : World} {t : TypeId} (hq : q = w.heap.size) (h : RI w w.heap.size A T) (k : RCh w w.heap.size D L) : Mm q S C A c T D d L (w.alloc (.cells #[.int .i64 S, .slice A T.length c, .slice D L.length d, .int .i64 C] t)) := hq ▸ Mm.made t h k
theorem RI.four {w : World} {A : Option Addr} {l : List Int} (h : RI w w.heap.size A l) {q : Nat} (ho : Off A q) (S : Int) (vT vC : Value) (C : Int) : RI (four w q S vT vC C) (four w q S vT vC C).heap.size A l := by
  rw [four_size]
  rcases h with h | ⟨b, off, rfl, hb, hv⟩
  · exact .inl h
  · exact .inr ⟨b, off, rfl, hb, fun j hj => (World.cell?_of_block (w := w) (a := ⟨b, off + j, none⟩) (four_other w q b S vT vC C (ho _ rfl))).trans (hv j hj)⟩
theorem RCh.four {w : World} {A : Option Addr} {l : List Ch} (h : RCh w w.heap.size A l) {q : Nat} (ho : Off A q) (S : Int) (vT vC : Value) (C : Int) : RCh (four w q S vT vC C) (four w q S vT vC C).heap.size A l := by
  rw [four_size]
  rcases h with h | ⟨b, off, rfl, hb, hv⟩
  · exact .inl h
  · exact .inr ⟨b, off, rfl, hb, fun j hj => (hv j hj).keep (four_other w q b S vT vC C (ho _ rfl))⟩
theorem Zb.four {w0 : World} {p : Nat} {w : World} (h : Zb w0 p w) {q : Nat} (hq : p ≠ q) (S : Int) (vT vC : Value) (C : Int) : Zb w0 p (four w q S vT vC C) := ⟨h.m.at_ (four_other w q p S vT vC C hq), h.lt.1, by rw [four_size]; exact h.lt.2⟩
theorem Mm.four {p : Nat} {S C : Int} {A : Option Addr} {c : Nat} {T : List Int} {D : Option Addr} {d : Nat} {L : List Ch} {w : World} (h : Mm p S C A c T D d L w) {q : Nat} (hq : p ≠ q) (hA : Off A q) (hD : Off D q) (S' : Int) (vT vC : Value) (C' : Int) : Mm p S C A c T D d L (four w q S' vT vC C') :=
  ⟨h.m.at_ (four_other w q p S' vT vC C' hq), by rw [four_size]; exact h.lt, h.ri.four hA _ _ _ _, h.rc.four hD _ _ _ _⟩
theorem Zb.fill {w0 : World} {q : Nat} {w : World} (z : Zb w0 q w) {A D : Option Addr} {T : List Int} {L : List Ch} (hr : RI w w.heap.size A T) (hc : RCh w w.heap.size D L) (hA : Off A q) (hD : Off D q) (S C : Int) (c d : Nat) : Mm q S C A c T D d L (Go.Proofs.Ythhadbojepcdjaa.four w q S (.slice A T.length c) (.slice D L.length d) C) := by
  have m0 : MB (w.setCell ⟨q, 0, none⟩ (.int .i64 S)) q S (.slice none 0 0) (.slice none 0 0) 0 := ⟨World.cell?_setCell_same _ _ _ z.m.c0, (World.cell?_setCell_other _ _ _ _ (by simp)).trans z.m.c1, (World.cell?_setCell_other _ _ _ _ (by simp)).trans z.m.c2, (World.cell?_setCell_other _ _ _ _ (by simp)).trans z.m.c3, by simpa using z.m.f0, by simpa using z.m.f1, by simpa using z.m.f2, by simpa using z.m.f3⟩
  have m2 := (m0.set1 (.slice A T.length c)).set2 (.slice D L.length d)
  exact ⟨⟨(World.cell?_setCell_other _ _ _ _ (by simp)).trans m2.c0, (World.cell?_setCell_other _ _ _ _ (by simp)).trans m2.c1, (World.cell?_setCell_other _ _ _ _ (by simp)).trans m2.c2, World.cell?_setCell_same _ _ _ m2.c3, by simpa using m2.f0, by simpa using m2.f1, by simpa using m2.f2, by simpa using m2.f3⟩, by rw [four_size]; exact z.lt.2, hr.four hA _ _ _ _, hc.four hD _ _ _ _⟩
/-- Two merges, alike, in their boxes. -/
def Pair (P : World → Prop) (S C : Int) (T : List Int) (L : List Ch) (cx cy : Value) (wx : World) : Prop :=
  ∃ (qx qy : Nat) (X : Option Addr) (k : Nat) (D : Option Addr) (d : Nat) (Y : Option Addr) (k' : Nat) (D' : Option Addr) (d' : Nat), cx = .pointer (some ⟨qx, 0, none⟩) ∧ cy = .pointer (some ⟨qy, 0, none⟩) ∧ P wx ∧ Mm qx S C X k T D d L wx ∧ Mm qy S C Y k' T D' d' L wx
section
variable {P : World → Prop} {W v : World} {S C : Int} {T : List Int} {L : List Ch} {X D Y D' : Option Addr} {k d k' d' q q' : Nat} {t : TypeId}
theorem four_keep (HPS : ∀ v q i x, P v → W.heap.size ≤ q → P (v.setCell ⟨q, i, none⟩ x)) (p : P v) (hq : W.heap.size ≤ q) (vT vC : Value) : P (four v q S vT vC C) := HPS _ _ _ _ (HPS _ _ _ _ (HPS _ _ _ _ (HPS _ _ _ _ p hq) hq) hq) hq
theorem pair_a1 (HPA : ∀ v o, P v → P (v.alloc o)) (p : P v) (rx : RI v v.heap.size X T) (rxc : RCh v v.heap.size D L) (ry : RI v v.heap.size Y T) (ryc : RCh v v.heap.size D' L) :
    Pair P S C T L (.pointer (some ⟨v.heap.size, 0, none⟩)) (.pointer (some ⟨v.heap.size + 1, 0, none⟩)) ((v.alloc (.cells #[.int .i64 S, .slice X T.length k, .slice D L.length d, .int .i64 C] t)).alloc (.cells #[.int .i64 S, .slice Y T.length k', .slice D' L.length d', .int .i64 C] t)) :=
  ⟨_, _, X, k, D, d, Y, k', D', d', rfl, rfl, HPA _ _ (HPA _ _ p), (Mm.made t rx rxc).on (belowA _ _), Mm.made2 (by simp) (ry.go (belowA _ _)) (ryc.go (belowA _ _))⟩
theorem pair_a2 (HPA : ∀ v o, P v → P (v.alloc o)) (p : P v) (rx : RI v v.heap.size X T) (rxc : RCh v v.heap.size D L) (ry : RI v v.heap.size Y T) (ryc : RCh v v.heap.size D' L) :
    Pair P S C T L (.pointer (some ⟨v.heap.size + 1, 0, none⟩)) (.pointer (some ⟨v.heap.size, 0, none⟩)) ((v.alloc (.cells #[.int .i64 S, .slice Y T.length k', .slice D' L.length d', .int .i64 C] t)).alloc (.cells #[.int .i64 S, .slice X T.length k, .slice D L.length d, .int .i64 C] t)) :=
  ⟨_, _, X, k, D, d, Y, k', D', d', rfl, rfl, HPA _ _ (HPA _ _ p), Mm.made2 (by simp) (rx.go (belowA _ _)) (rxc.go (belowA _ _)), (Mm.made t ry ryc).on (belowA _ _)⟩
theorem pair_b1 (HPA : ∀ v o, P v → P (v.alloc o)) (HPS : ∀ v q i x, P v → W.heap.size ≤ q → P (v.setCell ⟨q, i, none⟩ x)) (p : P v) (rx : RI v v.heap.size X T) (rxc : RCh v v.heap.size D L) (ry : RI v v.heap.size Y T) (ryc : RCh v v.heap.size D' L) (z : Zb W q v) (f : Off X q ∧ Off D q) (g : Off Y q ∧ Off D' q) :
    Pair P S C T L (.pointer (some ⟨q, 0, none⟩)) (.pointer (some ⟨v.heap.size, 0, none⟩)) ((four v q S (.slice X T.length k) (.slice D L.length d) C).alloc (.cells #[.int .i64 S, .slice Y T.length k', .slice D' L.length d', .int .i64 C] t)) :=
  ⟨_, _, X, k, D, d, Y, k', D', d', rfl, rfl, HPA _ _ (four_keep HPS p z.lt.1 _ _), (z.fill rx rxc f.1 f.2 _ _ _ _).on (belowA _ _), Mm.made2 (four_size _ _ _ _ _ _).symm (ry.four g.1 _ _ _ _) (ryc.four g.2 _ _ _ _)⟩
theorem pair_b2 (HPA : ∀ v o, P v → P (v.alloc o)) (HPS : ∀ v q i x, P v → W.heap.size ≤ q → P (v.setCell ⟨q, i, none⟩ x)) (p : P v) (rx : RI v v.heap.size X T) (rxc : RCh v v.heap.size D L) (ry : RI v v.heap.size Y T) (ryc : RCh v v.heap.size D' L) (z : Zb W q v) (f : Off X q ∧ Off D q) (g : Off Y q ∧ Off D' q) :
    Pair P S C T L (.pointer (some ⟨v.heap.size, 0, none⟩)) (.pointer (some ⟨q, 0, none⟩)) ((four v q S (.slice Y T.length k') (.slice D' L.length d') C).alloc (.cells #[.int .i64 S, .slice X T.length k, .slice D L.length d, .int .i64 C] t)) :=
  ⟨_, _, X, k, D, d, Y, k', D', d', rfl, rfl, HPA _ _ (four_keep HPS p z.lt.1 _ _), Mm.made2 (four_size _ _ _ _ _ _).symm (rx.four f.1 _ _ _ _) (rxc.four f.2 _ _ _ _), (z.fill ry ryc g.1 g.2 _ _ _ _).on (belowA _ _)⟩
theorem pair_c1 (HPS : ∀ v q i x, P v → W.heap.size ≤ q → P (v.setCell ⟨q, i, none⟩ x)) (p : P v) (rx : RI v v.heap.size X T) (rxc : RCh v v.heap.size D L) (ry : RI v v.heap.size Y T) (ryc : RCh v v.heap.size D' L) (z : Zb W q v) (f : Off X q ∧ Off D q) (g : Off Y q ∧ Off D' q) (z' : Zb W q' v) (f' : Off X q' ∧ Off D q') (g' : Off Y q' ∧ Off D' q') (n : q ≠ q') :
    Pair P S C T L (.pointer (some ⟨q, 0, none⟩)) (.pointer (some ⟨q', 0, none⟩)) (four (four v q S (.slice X T.length k) (.slice D L.length d) C) q' S (.slice Y T.length k') (.slice D' L.length d') C) :=
  ⟨_, _, X, k, D, d, Y, k', D', d', rfl, rfl, four_keep HPS (four_keep HPS p z.lt.1 _ _) z'.lt.1 _ _, (z.fill rx rxc f.1 f.2 _ _ _ _).four n f'.1 f'.2 _ _ _ _, (z'.four n.symm _ _ _ _).fill (ry.four g.1 _ _ _ _) (ryc.four g.2 _ _ _ _) g'.1 g'.2 _ _ _ _⟩
theorem pair_c2 (HPS : ∀ v q i x, P v → W.heap.size ≤ q → P (v.setCell ⟨q, i, none⟩ x)) (p : P v) (rx : RI v v.heap.size X T) (rxc : RCh v v.heap.size D L) (ry : RI v v.heap.size Y T) (ryc : RCh v v.heap.size D' L) (z : Zb W q v) (f : Off X q ∧ Off D q) (g : Off Y q ∧ Off D' q) (z' : Zb W q' v) (f' : Off X q' ∧ Off D q') (g' : Off Y q' ∧ Off D' q') (n : q ≠ q') :
    Pair P S C T L (.pointer (some ⟨q, 0, none⟩)) (.pointer (some ⟨q', 0, none⟩)) (four (four v q' S (.slice Y T.length k') (.slice D' L.length d') C) q S (.slice X T.length k) (.slice D L.length d) C) :=
  ⟨_, _, X, k, D, d, Y, k', D', d', rfl, rfl, four_keep HPS (four_keep HPS p z'.lt.1 _ _) z.lt.1 _ _, (z.four n _ _ _ _).fill (rx.four f'.1 _ _ _ _) (rxc.four f'.2 _ _ _ _) f.1 f.2 _ _ _ _, (z'.fill ry ryc g'.1 g'.2 _ _ _ _).four n.symm g.1 g.2 _ _ _ _⟩
end
theorem field_merge (a b c d : Value) (w : World) : (Instr.field 45 (.agg #[a, b, c, d]) 0).run Try.prog w = .ok (.agg #[a, b]) w := by kernel_rfl
/-- What is told of merges that are right. -/
theorem merge_facts {so : Int} {lo : List Int} {sa : Int} {la : List Int} {sb : Int} {lb : List Int} (h : (mergeOut so lo sa la sb lb).1 = 0) :
    (mergeOut so lo sa la so lo).2.1 = sa ∧ (mergeOut so lo sa la so lo).2.2.1 = la ∧ (mergeOut so lo so lo sb lb).2.1 = sb ∧ (mergeOut so lo so lo sb lb).2.2.1 = lb ∧ (mergeOut so lo sa la sa la).2.1 = sa ∧ (mergeOut so lo sa la sa la).2.2.1 = la ∧
    (mergeOut so lo sb lb sa la).2.2.2.length = (mergeOut so lo sa la sb lb).2.2.2.length ∧ ((mergeOut so lo sa la sb lb).2.2.2.length = 0 → (mergeOut so lo sb lb sa la).2.1 = (mergeOut so lo sa la sb lb).2.1 ∧ (mergeOut so lo sb lb sa la).2.2.1 = (mergeOut so lo sa la sb lb).2.2.1) := by
  cases ht : threeRight so lo sa la sb lb
  · simp [mergeOut, ht] at h
  · simp only [threeRight, Bool.and_eq_true, beq_iff_eq] at ht
    obtain ⟨⟨⟨⟨h1, h2⟩, h3⟩, rfl⟩, rfl⟩ := ht
    have e1 := (right_parts h1).2.1
    have e2 := (right_parts h2).2.1
    have e3 := (right_parts h3).2.1
    have t1 : threeRight sb lo sb la sb lo = true := by simp [threeRight, h1, h2]
    have t2 : threeRight sb lo sb lo sb lb = true := by simp [threeRight, h1, h3]
    have t3 : threeRight sb lo sb la sb la = true := by simp [threeRight, h1, h2]
    have t4 : threeRight sb lo sb lb sb la = true := by simp [threeRight, h1, h2, h3]
    have t5 : threeRight sb lo sb la sb lb = true := by simp [threeRight, h1, h2, h3]
    simp only [mergeOut, t1, t2, t3, t4, t5, if_true]
    exact ⟨trivial, merge_left _ _ (by omega), trivial, merge_right _ _ (by omega), trivial, merge_same _ _ (by omega), clash_back _ _ _ _ _, fun h => ⟨trivial, merge_back sb _ _ _ _ h⟩⟩
end Go.Proofs.Ythhadbojepcdjaa
