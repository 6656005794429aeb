/- A queue of places: a row of the call's own that is cut at its head and appended to. -/
import Derived.Test.YtmjbefjkkncjlaaWyO
import Derived.ArgAppend
namespace Go.Proofs.Ytmjbefjkkncjlaa
open Go.RowKit
set_option linter.unusedVariables false
set_option linter.unusedSimpArgs false

/-- The queue, told by its cells: block b, from off on. -/
structure QA (w : World) (base b off cap : Nat) (L : List Pl) : Prop where
  lo : base ≤ b
  lt : b < w.heap.size
  le : L.length ≤ cap
  mx : cap ≤ maxLen
  at_ : ∀ j (h : j < L.length), PlAt w b (off + j * 2) L[j]
  sp : ∀ j, j < (cap - L.length) * 2 → (w.cell? ⟨b, off + L.length * 2 + j, none⟩).isSome = true ∧ w.frozen? ⟨b, off + L.length * 2 + j, none⟩ = false
section
variable {w w' : World} {base b off cap : Nat} {L : List Pl}
theorem QA.kept (h : QA w base b off cap L) (e : w'.heap[b]? = w.heap[b]?) (hz : w.heap.size ≤ w'.heap.size) : QA w' base b off cap L :=
  ⟨h.lo, Nat.lt_of_lt_of_le h.lt hz, h.le, h.mx, fun j hj => (h.at_ j hj).keep e, fun j hj => by
    rw [World.cell?_of_block (a := ⟨b, off + L.length * 2 + j, none⟩) e, World.frozen?_of_block (a := ⟨b, off + L.length * 2 + j, none⟩) e]
    exact h.sp j hj⟩
theorem QA.below (h : QA w base b off cap L) (hb : Below w.heap.size w w') : QA w' base b off cap L := h.kept (hb.block b h.lt) hb.size
theorem QA.grown {row : Option Nat} (h : QA w base b off cap L) (hg : w.grownBy w' row) (hr : row ≠ some b) : QA w' base b off cap L := h.kept (hg.block b h.lt fun e => hr e.symm) hg.size
/-- The first one goes. -/
theorem QA.tail {p : Pl} (h : QA w base b off cap (p :: L)) : QA w base b (off + 2) (cap - 1) L := by
  have hl := h.le
  simp only [List.length_cons] at hl
  refine ⟨h.lo, h.lt, by omega, by have := h.mx; omega, fun j hj => ?_, fun j hj => ?_⟩
  · have := h.at_ (j + 1) (by simpa using hj)
    simp only [List.getElem_cons_succ] at this
    have e : off + (j + 1) * 2 = off + 2 + j * 2 := by omega
    rw [e] at this
    exact this
  · have := h.sp j (by simp only [List.length_cons]; omega)
    simp only [List.length_cons] at this
    have e : off + (L.length + 1) * 2 + j = off + 2 + L.length * 2 + j := by omega
    rw [e] at this
    exact this
end
theorem QA.of_own {w : World} {base g n cap : Nat} {L : List Pl} (h : OwnPl w base (.slice (some ⟨g, 0, none⟩) n cap) L) (hz : g < w.heap.size) : QA w base g 0 cap L := by
  have hn := h.len
  subst hn
  have h0 := h
  rcases h.2 with ⟨hv, _⟩ | ⟨g', cap', cur, hv, hb, hcur, hle, hmx, hsz, htk⟩
  · simp at hv
  · simp only [Value.slice.injEq, Option.some.injEq, Addr.mk.injEq, and_true, true_and] at hv
    obtain ⟨rfl, rfl⟩ := hv
    refine ⟨hb, hz, hle, hmx, fun j hj => ?_, fun j hj => ?_⟩
    · obtain ⟨g2, e2, _, _, hc, _⟩ := h0.at_ hj
      cases e2
      rw [Nat.zero_add]
      exact hc
    · have hj2 : 0 + L.length * 2 + j < cur.size := by rw [hsz]; have : (cap - L.length) * 2 = cap * 2 - L.length * 2 := Nat.sub_mul _ _ _; omega
      constructor
      · simp [World.cell?, hcur]
        omega
      · simp [World.frozen?, hcur]

theorem setCell_by (w : World) (a : Addr) (u : Value) : w.grownBy (w.setCell a u) (some a.block) := ⟨rfl, rfl, rfl, by simp, fun k _ hk => heap_setCell_other w a k u (fun e => hk (by rw [e]))⟩
theorem putPl_by (w : World) (g o : Nat) (x : Pl) : w.grownBy (putPl w g o x) (some g) := by_trans (setCell_by w ⟨g, o, none⟩ _) (setCell_by _ ⟨g, o + 1, none⟩ _)
/-- One is written behind the last. -/
theorem QA.put {w : World} {base b off cap : Nat} {L : List Pl} (h : QA w base b off cap L) (hr : L.length + 1 ≤ cap) (n : Pl) : QA (putPl w b (off + L.length * 2) n) base b off cap (L ++ [n]) := by
  have hlen : (L ++ [n]).length = L.length + 1 := by simp
  obtain ⟨u0, hu0⟩ := Option.isSome_iff_exists.1 (h.sp 0 (by omega)).1
  obtain ⟨u1, hu1⟩ := Option.isSome_iff_exists.1 (h.sp 1 (by omega)).1
  have hfar : ∀ o, o ≠ off + L.length * 2 → o ≠ off + L.length * 2 + 1 → (putPl w b (off + L.length * 2) n).cell? ⟨b, o, none⟩ = w.cell? ⟨b, o, none⟩ := by
    intro o h1 h2
    unfold putPl
    rw [World.cell?_setCell_other _ _ _ _ (by simp [h2] <;> omega), World.cell?_setCell_other _ _ _ _ (by simp [h1] <;> omega)]
  refine ⟨h.lo, by simpa [putPl] using h.lt, by omega, h.mx, fun j hj => ?_, fun j hj => ?_⟩
  · by_cases hjl : j < L.length
    · have hp := h.at_ j hjl
      rw [List.getElem_append_left hjl]
      exact ⟨(hfar _ (by omega) (by omega)).trans hp.c0, (hfar _ (by omega) (by omega)).trans hp.c1⟩
    · obtain rfl : j = L.length := by omega
      rw [List.getElem_append_right (Nat.le_refl _)]
      simp only [Nat.sub_self, List.getElem_cons_zero]
      unfold putPl
      refine ⟨?_, ?_⟩
      · rw [World.cell?_setCell_other _ _ _ _ (by simp)]
        exact World.cell?_setCell_same _ _ _ hu0
      · exact World.cell?_setCell_same _ _ _ ((World.cell?_setCell_other _ _ _ _ (by simp)).trans hu1)
  · rw [hlen] at hj ⊢
    have := h.sp (2 + j) (by omega)
    have e : off + L.length * 2 + (2 + j) = off + (L.length + 1) * 2 + j := by omega
    rw [e] at this
    refine ⟨?_, by simpa [putPl] using this.2⟩
    rw [hfar _ (by omega) (by omega)]
    exact this.1
theorem QA.olds {w : World} {base b off cap : Nat} {L : List Pl} (h : QA w base b off cap L) : ∀ j u, (L.flatMap Pl.cells)[j]? = some u → w.cell? ((⟨b, off, none⟩ : Addr).add j) = some u := by
  intro j u hu
  have e : (⟨b, off, none⟩ : Addr).add j = ⟨b, off + j, none⟩ := by unfold Addr.add; split <;> simp_all
  rw [e]
  have hjl : j < L.length * 2 := by
    have := (List.getElem?_eq_some_iff.1 hu).1
    rw [flatPl_len] at this
    exact this
  have hq : j / 2 < L.length := by omega
  have hg := flatPl_get L (j / 2) (j % 2) hq (by omega)
  have e2 : j / 2 * 2 + j % 2 = j := by omega
  rw [e2, hu] at hg
  have hp := h.at_ (j / 2) hq
  rcases Nat.mod_two_eq_zero_or_one j with h0 | h0
  · rw [h0] at hg
    simp only [Pl.cells, List.getElem?_cons_zero, Option.some.injEq] at hg
    rw [hg, ← hp.c0]
    congr 2
    omega
  · rw [h0] at hg
    simp only [Pl.cells, List.getElem?_cons_succ, List.getElem?_cons_zero, Option.some.injEq] at hg
    rw [hg, ← hp.c1]
    congr 2
    omega

theorem wpList_append_q {i0 : TypeInfo} (hi : Try.prog.info? 27 = some i0) (hz0 : i0.zero = some (.agg #[.int .i64 0, .int .i64 0])) (hz1 : i0.size = 2) (hz2 : i0.bytes = 16)
    {ops : Array Oper} {rest : List Oper} {o : Oper} {a : Act} {Q : Exit → Act → World → Prop} (hgd : o.guard = none) (s x : Operand)
    (ho : o.op = .call { callee := .builtin .append, args := #[s, x], argTypes := #[30, 30] })
    (base b off cap : Nat) (L : List Pl) (n : Pl) (wr : World) (b' : Nat) (hq : QA wr base b off cap L) (hs : a.eval s = .slice (some ⟨b, off, none⟩) L.length cap) (hx : a.eval x = .slice (some ⟨b', 0, none⟩) 1 1) (hn : PlAt wr b' 0 n) (hlen : L.length ≤ 1000000)
    (h : ∀ b2 off2 cap2 w', QA w' base b2 off2 cap2 (L ++ [n]) → wr.grownBy w' (some b) → (b2 = b ∨ wr.heap.size ≤ b2) → wpList Try.prog ops Q rest (a.put o.dst (.slice (some ⟨b2, off2, none⟩) (L ++ [n]).length cap2)) w') :
    wpList Try.prog ops Q (o :: rest) a wr := by
  have hnc : n.cells.length = 1 * i0.size := by rw [hz1]; rfl
  have h1 : ∀ u ∈ n.cells, u.oneCell' = true := by
    intro u hu
    simp [Pl.cells] at hu
    rcases hu with rfl | rfl <;> rfl
  have hL1 : (L ++ [n]).length = L.length + 1 := by simp
  refine wpList_plain hgd fun K hK' => ?_
  by_cases hroom : L.length + 1 ≤ cap
  · have hsp := fun j (hj : j < n.cells.length) => hq.sp j (by have : (2 : Nat) ≤ (cap - L.length) * 2 := by omega
                                                               have : n.cells.length = 2 := rfl
                                                               omega)
    have hrun := run_append_room_cells (P := Try.prog) wr 30 o.type 27 i0 Try.underlying30 hi b off L.length cap ⟨b', 0, none⟩ 1 1 n.cells hnc (newsPl hn) h1 hroom (fun j hj => by rw [hz1]; exact (hsp j hj).1) (fun j hj => by rw [hz1]; exact (hsp j hj).2)
    rw [hz1] at hrun
    unfold Oper.wp
    simp [execOp, ho, resolve, invoke, builtin, hs, hx, hrun, Result.andThen]
    have := h b off cap _ (hq.put hroom n) (putPl_by wr b (off + L.length * 2) n) (.inl rfl)
    rw [hL1] at this
    exact hK' _ _ this
  · obtain ⟨v', w', hrun, r1, r2⟩ := run_append_arg_grows (P := Try.prog) wr 30 o.type 27 i0 _ 2 16 Try.underlying30 hi hz0 hz1 hz2 rfl (by decide) ⟨b, off, none⟩ L.length cap (L.flatMap Pl.cells) (flatPl_len L) hq.olds ⟨b', 0, none⟩ 1 1 n.cells (by rfl) (newsPl hn) (by omega) (by unfold maxLen; omega) (by omega)
    unfold Oper.wp
    simp [execOp, ho, resolve, invoke, builtin, hs, hx, hrun, Result.andThen]
    have ho2 : OwnPl w' wr.heap.size v' (L ++ [n]) := by unfold OwnPl; rw [hL1]; simpa [List.flatMap_append] using r1
    have hgb : wr.grownBy w' (some b) := ⟨r2.os, r2.tape, r2.output, r2.size, fun k hk _ => r2.block k hk (by simp)⟩
    obtain ⟨A2, c2, rfl⟩ := ho2.form
    obtain ⟨g, rfl, hlo, hlt, _, _⟩ := ho2.at_ (j := 0) (by simp)
    have hb0 := hq.lo
    have hb1 := hq.lt
    exact hK' _ _ (h g 0 c2 w' (QA.of_own (ho2.lower (by omega)) hlt) hgb (.inr hlo))
end Go.Proofs.Ytmjbefjkkncjlaa
