/- The program's queue of places in its box: what may turn; put, empty, take. -/
import Derived.Test.YtmjbefjkkncjlaaWyP
import Derived.RangeFuncNested
namespace Go.Proofs.Ytmjbefjkkncjlaa
open Go.RowKit
set_option linter.unusedVariables false
set_option linter.unusedSimpArgs false

/-- Nothing has turned but the blocks of p. -/
structure Trn (p : Nat → Prop) (w w' : World) : Prop where
  os : w'.os = w.os
  tape : w'.tape = w.tape
  output : w'.output = w.output
  size : w.heap.size ≤ w'.heap.size
  block : ∀ k, k < w.heap.size → ¬ p k → w'.heap[k]? = w.heap[k]?
theorem Trn.refl (p : Nat → Prop) (w : World) : Trn p w w := ⟨rfl, rfl, rfl, Nat.le_refl _, fun _ _ _ => rfl⟩
theorem Trn.trans {p q : Nat → Prop} {a b c : World} (h : Trn p a b) (k : Trn q b c) (hq : ∀ k, k < a.heap.size → q k → p k) : Trn p a c :=
  ⟨k.os.trans h.os, k.tape.trans h.tape, k.output.trans h.output, Nat.le_trans h.size k.size, fun i hi hp => (k.block i (Nat.lt_of_lt_of_le hi h.size) (fun e => hp (hq i hi e))).trans (h.block i hi hp)⟩
theorem Trn.mono {p q : Nat → Prop} {w w' : World} (h : Trn p w w') (hq : ∀ k, p k → q k) : Trn q w w' := ⟨h.os, h.tape, h.output, h.size, fun k hk hn => h.block k hk fun e => hn (hq k e)⟩
theorem Trn.of_below {p : Nat → Prop} {w w' : World} (h : Below w.heap.size w w') : Trn p w w' := ⟨h.os, h.tape, h.output, h.size, fun k hk _ => h.block k hk⟩
theorem Trn.set (w : World) (g o : Nat) (u : Value) : Trn (· = g) w (w.setCell ⟨g, o, none⟩ u) := ⟨rfl, rfl, rfl, by simp, fun k _ hk => heap_setCell_other w _ k u hk⟩
theorem Trn.grown {w w' : World} {b : Nat} (h : w.grownBy w' (some b)) : Trn (· = b) w w' := ⟨h.os, h.tape, h.output, h.size, fun k hk hn => h.block k hk fun e => hn (Option.some.inj e)⟩
theorem Trn.below {p : Nat → Prop} {w w' : World} {B : Nat} (h : Trn p w w') (hp : ∀ k, p k → B ≤ k) (hB : B ≤ w.heap.size) : Below B w w' :=
  ⟨h.os, h.tape, h.output, h.size, fun k hk => h.block k (Nat.lt_of_lt_of_le hk hB) fun e => absurd (hp k e) (by omega)⟩
theorem Trn.others {p : Nat → Prop} {w w' : World} (h : Trn p w w') (hc : ∀ k, p k → k < w.heap.size → ∃ o : Obj, w.heap[k]? = some o ∧ o.isCells = true) : KeepsOthers w w' :=
  ⟨h.size, fun k o hk ho => by
    have hlt := (Array.getElem?_eq_some_iff.1 hk).1
    refine (h.block k hlt fun e => ?_).trans hk
    obtain ⟨o', h1, h2⟩ := hc k e hlt
    rw [hk] at h1
    cases h1
    rw [ho] at h2
    cases h2⟩
theorem cells_of_cell {w : World} {b o : Nat} {v : Value} (h : w.cell? ⟨b, o, none⟩ = some v) : ∃ x : Obj, w.heap[b]? = some x ∧ x.isCells = true := by
  unfold World.cell? at h
  cases hb : w.heap[b]? with
  | none => simp [hb] at h
  | some x =>
    cases x <;> simp [hb] at h
    exact ⟨_, rfl, rfl⟩
theorem cells_keep {w w' : World} {b : Nat} (h : ∃ x : Obj, w.heap[b]? = some x ∧ x.isCells = true) (e : w'.heap[b]? = w.heap[b]?) : ∃ x : Obj, w'.heap[b]? = some x ∧ x.isCells = true := by rw [e]; exact h
theorem cells_set {w : World} {b : Nat} (h : ∃ x : Obj, w.heap[b]? = some x ∧ x.isCells = true) (a : Addr) (u : Value) : ∃ x : Obj, (w.setCell a u).heap[b]? = some x ∧ x.isCells = true := by
  obtain ⟨x, hx, hc⟩ := h
  cases x with
  | cells c el f =>
    refine ⟨(if a.block = b then .cells (if a.spot.isSome then c else c.setIfInBounds a.off u) el f else .cells c el f), ?_, by split <;> rfl⟩
    simp only [World.setCell, Array.getElem?_modify, hx]
    split <;> simp
  | _ => cases hc

/-- The queue in its box. -/
structure QB (w : World) (base bo b off cap : Nat) (L : List Pl) : Prop where
  q : QA w base b off cap L
  c0 : w.cell? ⟨bo, 0, none⟩ = some (.slice (some ⟨b, off, none⟩) L.length cap)
  f0 : w.frozen? ⟨bo, 0, none⟩ = false
  ne : bo ≠ b
  lo : base ≤ bo
  cl : ∃ x : Obj, w.heap[b]? = some x ∧ x.isCells = true
section
variable {w w' : World} {base bo b off cap : Nat} {L : List Pl}
theorem QB.lt (h : QB w base bo b off cap L) : bo < w.heap.size := World.block_lt_of_cell? w _ h.c0
theorem QB.keep (h : QB w base bo b off cap L) {p : Nat → Prop} (ht : Trn p w w') (h1 : ¬ p bo) (h2 : ¬ p b) : QB w' base bo b off cap L := by
  have e1 := ht.block bo h.lt h1
  have e2 := ht.block b h.q.lt h2
  exact ⟨h.q.kept e2 ht.size, (World.cell?_of_block (a := ⟨bo, 0, none⟩) e1).trans h.c0, (World.frozen?_of_block (a := ⟨bo, 0, none⟩) e1).trans h.f0, h.ne, h.lo, cells_keep h.cl e2⟩
theorem QB.below (h : QB w base bo b off cap L) (hb : Below w.heap.size w w') : QB w' base bo b off cap L := h.keep (p := fun _ => False) (Trn.of_below hb) id id
theorem QB.cut {off2 cap2 : Nat} {L2 : List Pl} (h : QB w base bo b off cap L) (hq : QA w base b off2 cap2 L2) : QB (w.setCell ⟨bo, 0, none⟩ (.slice (some ⟨b, off2, none⟩) L2.length cap2)) base bo b off2 cap2 L2 :=
  ⟨hq.kept (heap_setCell_other w _ b _ (fun e => h.ne e.symm)) (by simp), World.cell?_setCell_same' _ _ _ (by rw [h.c0]; rfl), by rw [World.frozen?_setCell]; exact h.f0, h.ne, h.lo, cells_set h.cl _ _⟩
theorem QB.put {b2 off2 cap2 : Nat} {n : Pl} (h : QB w base bo b off cap L) (hq : QA w' base b2 off2 cap2 (L ++ [n])) (hg : w.grownBy w' (some b)) (hl : b2 = b ∨ w.heap.size ≤ b2) : QB (w'.setCell ⟨bo, 0, none⟩ (.slice (some ⟨b2, off2, none⟩) (L.length + 1) cap2)) base bo b2 off2 cap2 (L ++ [n]) := by
  have hL1 : (L ++ [n]).length = L.length + 1 := by simp
  rw [← hL1]
  have hlt := h.lt
  have e := hg.block bo hlt (fun e => h.ne (Option.some.inj e))
  have hn : bo ≠ b2 := by
    rcases hl with rfl | hl
    · exact h.ne
    · omega
  exact ⟨hq.kept (heap_setCell_other w' _ b2 _ (fun e => hn e.symm)) (by simp), World.cell?_setCell_same' _ _ _ (by rw [World.cell?_of_block (a := ⟨bo, 0, none⟩) e, h.c0]; rfl), by rw [World.frozen?_setCell, World.frozen?_of_block (a := ⟨bo, 0, none⟩) e]; exact h.f0, hn, h.lo, cells_set (cells_of_cell (hq.at_ 0 (by simp)).c0) _ _⟩
end

theorem step_append_q {i0 : TypeInfo} (hi : Try.prog.info? 27 = some i0) (hz0 : i0.zero = some (.agg #[.int .i64 0, .int .i64 0])) (hz1 : i0.size = 2) (hz2 : i0.bytes = 16)
    {ops : Array Oper} {o : Oper} {a : Act} {K : Act → World → Prop} {Q : Exit → Act → World → Prop} {E : Prop} (hgd : o.guard = none) (s x : Operand)
    (ho : o.op = .call { callee := .builtin .append, args := #[s, x], argTypes := #[30, 30] })
    (base b off cap : Nat) (L : List Pl) (n : Pl) (wr : World) (b' : Nat) (hq : QA wr base b off cap L) (hs : a.eval s = .slice (some ⟨b, off, none⟩) L.length cap) (hx : a.eval x = .slice (some ⟨b', 0, none⟩) 1 1) (hn : PlAt wr b' 0 n) (hlen : L.length ≤ 1000000)
    (h : ∀ b2 off2 cap2 w', QA w' base b2 off2 cap2 (L ++ [n]) → wr.grownBy w' (some b) → (b2 = b ∨ wr.heap.size ≤ b2) → K (a.put o.dst (.slice (some ⟨b2, off2, none⟩) (L.length + 1) cap2)) w') :
    if Region.wanted o (yielded ops a.tmps) = true then Oper.wp Try.prog o a wr K Q else E := by
  rw [if_pos (show Region.wanted o (yielded ops a.tmps) = true by simp [Region.wanted, hgd])]
  have hnc : n.cells.length = 1 * i0.size := by rw [hz1]; rfl
  have h1 : ∀ u ∈ n.cells, u.oneCell' = true := by
    intro u hu
    simp [Pl.cells] at hu
    rcases hu with rfl | rfl <;> rfl
  have hL1 : (L ++ [n]).length = L.length + 1 := by simp
  by_cases hroom : L.length + 1 ≤ cap
  · have hsp := fun j (hj : j < n.cells.length) => hq.sp j (by have : (2 : Nat) ≤ (cap - L.length) * 2 := by omega
                                                               have : n.cells.length = 2 := rfl
                                                               omega)
    have hrun := run_append_room_cells (P := Try.prog) wr 30 o.type 27 i0 Try.underlying30 hi b off L.length cap ⟨b', 0, none⟩ 1 1 n.cells hnc (newsPl hn) h1 hroom (fun j hj => by rw [hz1]; exact (hsp j hj).1) (fun j hj => by rw [hz1]; exact (hsp j hj).2)
    rw [hz1] at hrun
    unfold Oper.wp
    simp [execOp, ho, resolve, invoke, builtin, hs, hx, hrun, Result.andThen]
    have := h b off cap _ (hq.put hroom n) (putPl_by wr b (off + L.length * 2) n) (.inl rfl)
    exact this
  · obtain ⟨v', w', hrun, r1, r2⟩ := run_append_arg_grows (P := Try.prog) wr 30 o.type 27 i0 _ 2 16 Try.underlying30 hi hz0 hz1 hz2 rfl (by decide) ⟨b, off, none⟩ L.length cap (L.flatMap Pl.cells) (flatPl_len L) hq.olds ⟨b', 0, none⟩ 1 1 n.cells (by rfl) (newsPl hn) (by omega) (by unfold maxLen; omega) (by omega)
    unfold Oper.wp
    simp [execOp, ho, resolve, invoke, builtin, hs, hx, hrun, Result.andThen]
    have ho2 : OwnPl w' wr.heap.size v' (L ++ [n]) := by unfold OwnPl; rw [hL1]; simpa [List.flatMap_append] using r1
    have hgb : wr.grownBy w' (some b) := ⟨r2.os, r2.tape, r2.output, r2.size, fun k hk _ => r2.block k hk (by simp)⟩
    obtain ⟨A2, c2, rfl⟩ := ho2.form
    obtain ⟨g, rfl, hlo, hlt, _, _⟩ := ho2.at_ (j := 0) (by simp)
    have hb0 := hq.lo
    have hb1 := hq.lt
    have hfin := h g 0 c2 w' (QA.of_own (ho2.lower (by omega)) hlt) hgb (.inr hlo)
    rw [hL1]
    exact hfin

set_option maxHeartbeats 400000 in
theorem pQEmpty_any {w : World} {bo : Nat} {A : Option Addr} {n c : Nat} (h : w.cell? ⟨bo, 0, none⟩ = some (.slice A n c)) :
    Calls Try.prog 41 #[.pointer (some ⟨bo, 0, none⟩)] w fun e w' => e = .returned (.bool ((n : Int) == 0)) ∧ w = w' := by
  go_enter Try.func41, Try.ntmps41
  go_wp2
  go_ret
  exact ⟨rfl, rfl⟩

set_option maxRecDepth 100000 in
set_option maxHeartbeats 1000000 in
theorem pQTake_any {w : World} {base bo b off cap : Nat} {px py : Int} {L : List Pl} (h : QB w base bo b off cap (⟨px, py⟩ :: L)) (hb : base ≤ w.heap.size) :
    Calls Try.prog 42 #[.pointer (some ⟨bo, 0, none⟩)] w fun e w' => e = .returned (.agg #[.int .i64 px, .int .i64 py]) ∧ ∃ off2 cap2, QB w' base bo b off2 cap2 L ∧ Trn (· = bo) w w' := by
  have c0 := h.c0
  have f0 := h.f0
  have hq0 := h.q.at_ 0 (by simp)
  simp only [List.getElem_cons_zero, Nat.zero_mul, Nat.add_zero] at hq0
  obtain ⟨p0, p1⟩ := hq0
  have hle := h.q.le
  simp only [List.length_cons] at hle p0 p1 c0
  have hqI : (0 : Int) < ((L.length + 1 : Nat) : Int) := by omega
  have hbo := h.lt
  have hbb := h.q.lt
  by_cases hc1 : cap = 1
  · subst hc1
    obtain rfl : L = [] := by cases L; rfl; simp at hle
    have H := Lib.hid h
    clear h hle
    simp only [List.length_nil, Nat.zero_add] at c0 hqI
    go_enter Try.func42, Try.ntmps42
    go_wp2_with fail
    have hq2 : QA w base b off 0 [] := ⟨H.out.q.lo, H.out.q.lt, Nat.le_refl _, Nat.zero_le _, (fun j hj => by simp at hj), (fun j hj => by simp at hj)⟩
    refine bodyPost_ret (v := .agg #[.int .i64 px, .int .i64 py]) (by simp [results, Try.results42, go_sem]) rfl ⟨rfl, off, 0, (H.out.cut hq2).below (bel_T (bel_A _ _) (bel_A _ _)), ?_⟩
    exact (Trn.set w bo 0 _).trans (Trn.of_below (p := fun _ => False) (bel_T (bel_A _ _) (bel_A _ _))) fun k _ e => e.elim
  · have hc2 : ¬ cap - 1 = 0 := by omega
    have H := Lib.hid h
    clear h
    go_enter Try.func42, Try.ntmps42
    go_wp2_with fail
    refine bodyPost_ret (v := .agg #[.int .i64 px, .int .i64 py]) (by simp [results, Try.results42, go_sem]) rfl ⟨rfl, off + 2, cap - 1, (H.out.cut H.out.q.tail).below (bel_T (bel_A _ _) (bel_A _ _)), ?_⟩
    exact (Trn.set w bo 0 _).trans (Trn.of_below (p := fun _ => False) (bel_T (bel_A _ _) (bel_A _ _))) fun k _ e => e.elim

set_option maxRecDepth 100000 in
set_option maxHeartbeats 1000000 in
theorem pQPut_any {w : World} {base bo b off cap : Nat} {L : List Pl} (px py : Int) (h : QB w base bo b off cap L) (hb : base ≤ w.heap.size) (hL : L.length ≤ 1000000) :
    Calls Try.prog 40 #[.pointer (some ⟨bo, 0, none⟩), .agg #[.int .i64 px, .int .i64 py]] w fun e w' => e = .returned (.tuple #[]) ∧ ∃ b2 off2 cap2, QB w' base bo b2 off2 cap2 (L ++ [⟨px, py⟩]) ∧ (b2 = b ∨ w.heap.size ≤ b2) ∧ Trn (fun k => k = bo ∨ k = b) w w' := by
  obtain ⟨i0, hin, hz0, hz1, hz2⟩ := info_parts Try.infoPl
  have c0 := h.c0
  have f0 := h.f0
  have hbo := h.lt
  have hba : Below w.heap.size w ((w.alloc (.cells #[.int .i64 px, .int .i64 py] 27)).alloc (.cells #[.int .i64 px, .int .i64 py] 27)).drew := bel_T (bel_A _ _) (bel_T (bel_A _ _) (bel_D _))
  have HA := Lib.hid (h.below hba)
  have HNA : Hid (PlAt ((w.alloc (.cells #[.int .i64 px, .int .i64 py] 27)).alloc (.cells #[.int .i64 px, .int .i64 py] 27)).drew (w.heap.size + 1) 0 ⟨px, py⟩) := ⟨by simp [go_sem], by simp [go_sem]⟩
  have HT := Lib.hid hba
  have hb1 : ¬ bo = w.heap.size := by omega
  have hb2 : ¬ bo = w.heap.size + 1 := by omega
  clear h hba
  go_enter Try.func40, Try.ntmps40
  go_upto_region 1 with fail
  go_region_law ((refine step_append_q hin hz0 hz1 hz2 (by rfl) _ _ (by rfl) base b off cap L ⟨px, py⟩ _ (w.heap.size + 1) HA.out.q (by rfl) (by rfl) HNA.out hL ?_; intro b2 off2 cap2 w2 hq2 hg2 hl2; have c2 := (World.cell?_of_block (a := ⟨bo, 0, none⟩) (hg2.block bo HA.out.lt (fun e => HA.out.ne (Option.some.inj e)))).trans HA.out.c0; have f2 := (World.frozen?_of_block (a := ⟨bo, 0, none⟩) (hg2.block bo HA.out.lt (fun e => HA.out.ne (Option.some.inj e)))).trans HA.out.f0))
  all_goals
    have HQ2 := Lib.hid hq2
    have HG2 := Lib.hid hg2
    have HL2 := Lib.hid hl2
    clear hq2 hg2 hl2
    go_wp2_with fail
    go_end0
    refine ⟨rfl, b2, off2, cap2, HA.out.put HQ2.out HG2.out HL2.out, ?_, ?_⟩
    · rcases HL2.out with e | e
      · exact .inl e
      · exact .inr (Nat.le_trans HT.out.size e)
    · exact ((Trn.of_below HT.out).trans (Trn.grown HG2.out) fun k _ e => .inr e).trans (Trn.set w2 bo 0 _) fun k _ e => .inl e
end Go.Proofs.Ytmjbefjkkncjlaa
