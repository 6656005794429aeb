/- Several texts in one: WyWm, TbW, WyBm, WyWk, WyWn, WyWo. -/
import Derived.Test.YtmjbefjkkncjlaaWyW
import Derived.Test.YtmjbefjkkncjlaaWyX
import Derived.Test.YtmjbefjkkncjlaaMTb
import Derived.Deep.LoopGhost
import Derived.Deep.CutRange
import Derived.Test.YtmjbefjkkncjlaaWyF
import Derived.Test.YtmjbefjkkncjlaaWyZ
namespace Go.Proofs.Ytmjbefjkkncjlaa
open Go.RowKit
set_option linter.unusedVariables false
set_option linter.unusedSimpArgs false

/-- An answer that is a way. -/
def WOutE (w w' : World) (R : Int × Int × List Pl) (e : Ending) : Prop := WOut w w' R.1 R.2.1 R.2.2 e
/-- The boxes of a map and two places, and of the answer. -/
structure B4 (w : World) (side : Int) (A : Option Addr) (c : Nat) (l : List Int) (x y u v : Int) (wr : World) : Prop where
  b : B3 w side A c l x y u v wr
  r : WB wr (w.heap.size + 1 + 1 + 1) (.slice none 0 0) 0 0
  siz : w.heap.size + 1 + 1 + 1 < wr.heap.size
theorem B4.below {w wr wr' : World} {side : Int} {A : Option Addr} {c : Nat} {l : List Int} {x y u v : Int} (h : B4 w side A c l x y u v wr) (hb : Below wr.heap.size wr wr') : B4 w side A c l x y u v wr' :=
  ⟨h.b.below hb, h.r.at_ (hb.block _ h.siz), Nat.lt_of_lt_of_le h.siz hb.size⟩
theorem B4.made (w : World) (side : Int) (A : Option Addr) (c : Nat) (l : List Int) (x y u v : Int) : B4 w side A c l x y u v ((((w.alloc (.cells #[.int .i64 side, .slice A l.length c] 25)).alloc (.cells #[.int .i64 x, .int .i64 y] 27)).alloc (.cells #[.int .i64 u, .int .i64 v] 27)).alloc (.cells #[.slice none 0 0, .int .i64 0, .int .i64 0] 32)) := by
  refine ⟨(B3.made w side A c l x y u v).below (bel_A _ _), ?_, by simp⟩
  have := WB.made (((w.alloc (.cells #[.int .i64 side, .slice A l.length c] 25)).alloc (.cells #[.int .i64 x, .int .i64 y] 27)).alloc (.cells #[.int .i64 u, .int .i64 v] 27)) (.slice none 0 0) 0 0 32
  simpa using this

set_option maxRecDepth 100000 in
set_option maxHeartbeats 4000000 in
theorem mWayOf_err (side ax ay bx b_y : Int) (A : Option Addr) (c : Nat) (l d0 : List Int) (L : List Pl) (w : World) (h : RI w w.heap.size A l) (hl : l.length ≤ 1000000000) (hd : (gridRight side l && opn side l ax ay) = true → GDist side l ax ay d0) (hne : (wayOut side l ax ay bx b_y d0 L).1 ≠ 0) :
    Calls Try.prog 7 #[.agg #[.int .i64 side, .slice A l.length c], .agg #[.int .i64 ax, .int .i64 ay], .agg #[.int .i64 bx, .int .i64 b_y]] w fun e w' => WOut w w' (wayOut side l ax ay bx b_y d0 L).2.1 (wayOut side l ax ay bx b_y d0 L).1 (wayOut side l ax ay bx b_y d0 L).2.2 e := by
  have HB := Lib.hid (B4.made w side A c l ax ay bx b_y)
  have H := Lib.hid h
  have hR := fun w h => mRight_any side A c l w h hl
  have hDi := fun w h => mDist_any side ax ay bx b_y A c l d0 w h hl hd
  clear h hl
  cases hr : gridRight side l
  · have HE : Hid (wayOut side l ax ay bx b_y d0 L = (1, 0, [])) := by show _ = _; simp [wayOut, hr]
    rw [HE.out]
    rw [hr] at hR
    clear hr hd hne hDi HE
    go_enter Try.func7, Try.ntmps7
    go_wp2_with fail
    refine (hR _ ((H.out.below HB.out.b.bel).mono HB.out.b.bel.size)).mono ?_
    rintro e w1 ⟨rfl, hb1⟩
    have HB1 := Lib.hid (HB.out.below hb1)
    clear hb1 HB
    obtain ⟨r0, r1, r2, q0, q1, q2⟩ := HB1.out.r
    go_wp2_with fail
    refine bodyPost_ret (v := .agg #[.slice none 0 0, .int .i64 0, .int .i64 1]) (by simp [results, Try.results7, go_sem, r0, r1, r2]) rfl ?_
    exact ⟨none, 0, rfl, OwnPl.nil _ _, ((HB1.out.b.bel.setCell (by show w.heap.size ≤ w.heap.size + 1 + 1 + 1; omega) _).setCell (by show w.heap.size ≤ w.heap.size + 1 + 1 + 1; omega) _).setCell (by show w.heap.size ≤ w.heap.size + 1 + 1 + 1; omega) _⟩
  · have hs := (right_parts hr).1
    have hI1 := fun w => mIn_any side ax ay A l.length c w hs
    have hI2 := fun w => mIn_any side bx b_y A l.length c w hs
    rw [hr] at hR
    cases hi : gridIn side ax ay
    · have HE : Hid (wayOut side l ax ay bx b_y d0 L = (8, 0, [])) := by show _ = _; simp [wayOut, hr, hi]
      rw [HE.out]
      rw [hi] at hI1
      clear hr hd hne hDi HE hs hi
      go_enter Try.func7, Try.ntmps7
      go_wp2_with fail
      refine (hR _ ((H.out.below HB.out.b.bel).mono HB.out.b.bel.size)).mono ?_
      rintro e w1 ⟨rfl, hb1⟩
      have HB1 := Lib.hid (HB.out.below hb1)
      clear hb1 HB
      obtain ⟨g0, g1, _, _⟩ := HB1.out.b.g
      obtain ⟨a0, a1⟩ := HB1.out.b.f
      obtain ⟨t0, t1⟩ := HB1.out.b.t
      go_wp2_with fail
      refine (hI1 _).mono ?_
      rintro e w2 ⟨rfl, hb2⟩
      have HB2 := Lib.hid (HB1.out.below hb2)
      clear hb2 HB1 g0 g1 a0 a1 t0 t1
      obtain ⟨r0, r1, r2, q0, q1, q2⟩ := HB2.out.r
      go_wp2_with fail
      refine bodyPost_ret (v := .agg #[.slice none 0 0, .int .i64 0, .int .i64 8]) (by simp [results, Try.results7, go_sem, r0, r1, r2]) rfl ?_
      exact ⟨none, 0, rfl, OwnPl.nil _ _, ((HB2.out.b.bel.setCell (by show w.heap.size ≤ w.heap.size + 1 + 1 + 1; omega) _).setCell (by show w.heap.size ≤ w.heap.size + 1 + 1 + 1; omega) _).setCell (by show w.heap.size ≤ w.heap.size + 1 + 1 + 1; omega) _⟩
    · rw [hi] at hI1
      cases hj : gridIn side bx b_y
      · have HE : Hid (wayOut side l ax ay bx b_y d0 L = (8, 0, [])) := by show _ = _; simp [wayOut, hr, hi, hj]
        rw [HE.out]
        rw [hj] at hI2
        clear hr hd hne hDi HE hs hi hj
        go_enter Try.func7, Try.ntmps7
        go_wp2_with fail
        refine (hR _ ((H.out.below HB.out.b.bel).mono HB.out.b.bel.size)).mono ?_
        rintro e w1 ⟨rfl, hb1⟩
        have HB1 := Lib.hid (HB.out.below hb1)
        clear hb1 HB
        obtain ⟨g0, g1, _, _⟩ := HB1.out.b.g
        obtain ⟨a0, a1⟩ := HB1.out.b.f
        obtain ⟨t0, t1⟩ := HB1.out.b.t
        go_wp2_with fail
        refine (hI1 _).mono ?_
        rintro e w2 ⟨rfl, hb2⟩
        have HB2 := Lib.hid (HB1.out.below hb2)
        clear hb2 HB1 g0 g1 a0 a1 t0 t1
        obtain ⟨g0, g1, _, _⟩ := HB2.out.b.g
        obtain ⟨a0, a1⟩ := HB2.out.b.f
        obtain ⟨t0, t1⟩ := HB2.out.b.t
        go_wp2_with fail
        refine (hI2 _).mono ?_
        rintro e w3 ⟨rfl, hb3⟩
        have HB3 := Lib.hid (HB2.out.below hb3)
        clear hb3 HB2 g0 g1 a0 a1 t0 t1
        obtain ⟨r0, r1, r2, q0, q1, q2⟩ := HB3.out.r
        go_wp2_with fail
        refine bodyPost_ret (v := .agg #[.slice none 0 0, .int .i64 0, .int .i64 8]) (by simp [results, Try.results7, go_sem, r0, r1, r2]) rfl ?_
        exact ⟨none, 0, rfl, OwnPl.nil _ _, ((HB3.out.b.bel.setCell (by show w.heap.size ≤ w.heap.size + 1 + 1 + 1; omega) _).setCell (by show w.heap.size ≤ w.heap.size + 1 + 1 + 1; omega) _).setCell (by show w.heap.size ≤ w.heap.size + 1 + 1 + 1; omega) _⟩
      · rw [hj] at hI2
        by_cases hn : dOne side l ax ay bx b_y d0 < 0
        · have HE : Hid (wayOut side l ax ay bx b_y d0 L = (6, 0, [])) := by show _ = _; simp [wayOut, hr, hi, hj, hn]
          rw [HE.out]
          have hnb : decide (dOne side l ax ay bx b_y d0 < 0) = true := decide_eq_true hn
          clear hr hd hne HE hs hi hj hn
          generalize dOne side l ax ay bx b_y d0 = v at *
          go_enter Try.func7, Try.ntmps7
          go_wp2_with fail
          refine (hR _ ((H.out.below HB.out.b.bel).mono HB.out.b.bel.size)).mono ?_
          rintro e w1 ⟨rfl, hb1⟩
          have HB1 := Lib.hid (HB.out.below hb1)
          clear hb1 HB
          obtain ⟨g0, g1, _, _⟩ := HB1.out.b.g
          obtain ⟨a0, a1⟩ := HB1.out.b.f
          obtain ⟨t0, t1⟩ := HB1.out.b.t
          go_wp2_with fail
          refine (hI1 _).mono ?_
          rintro e w2 ⟨rfl, hb2⟩
          have HB2 := Lib.hid (HB1.out.below hb2)
          clear hb2 HB1 g0 g1 a0 a1 t0 t1
          obtain ⟨g0, g1, _, _⟩ := HB2.out.b.g
          obtain ⟨a0, a1⟩ := HB2.out.b.f
          obtain ⟨t0, t1⟩ := HB2.out.b.t
          go_wp2_with fail
          refine (hI2 _).mono ?_
          rintro e w3 ⟨rfl, hb3⟩
          have HB3 := Lib.hid (HB2.out.below hb3)
          clear hb3 HB2 g0 g1 a0 a1 t0 t1
          obtain ⟨g0, g1, _, _⟩ := HB3.out.b.g
          obtain ⟨a0, a1⟩ := HB3.out.b.f
          obtain ⟨t0, t1⟩ := HB3.out.b.t
          go_wp2_with fail
          refine (hDi _ ((H.out.below HB3.out.b.bel).mono HB3.out.b.bel.size)).mono ?_
          rintro e w4 ⟨rfl, hb4⟩
          have HB4 := Lib.hid (HB3.out.below hb4)
          clear hb4 HB3 g0 g1 a0 a1 t0 t1
          obtain ⟨r0, r1, r2, q0, q1, q2⟩ := HB4.out.r
          go_wp2_with fail
          refine bodyPost_ret (v := .agg #[.slice none 0 0, .int .i64 0, .int .i64 6]) (by simp [results, Try.results7, go_sem, r0, r1, r2]) rfl ?_
          exact ⟨none, 0, rfl, OwnPl.nil _ _, ((HB4.out.b.bel.setCell (by show w.heap.size ≤ w.heap.size + 1 + 1 + 1; omega) _).setCell (by show w.heap.size ≤ w.heap.size + 1 + 1 + 1; omega) _).setCell (by show w.heap.size ≤ w.heap.size + 1 + 1 + 1; omega) _⟩
        · have HE : wayOut side l ax ay bx b_y d0 L = (0, dk d0 (pn side bx b_y), L) := by simp [wayOut, hr, hi, hj, hn]
          rw [HE] at hne
          exact absurd rfl hne
end Go.Proofs.Ytmjbefjkkncjlaa

namespace Go.Proofs.Ytmjbefjkkncjlaa
open Go.RowKit
set_option linter.unusedVariables false

/-- Block q holds the fields of tables. -/
structure TB (w : World) (q : Nat) (vM vD : Value) : Prop where
  c0 : w.cell? ⟨q, 0, none⟩ = some vM
  c1 : w.cell? ⟨q, 1, none⟩ = some vD
  f0 : w.frozen? ⟨q, 0, none⟩ = false
  f1 : w.frozen? ⟨q, 1, none⟩ = false
theorem TB.made (w : World) (vM vD : Value) (t : TypeId) : TB (w.alloc (.cells #[vM, vD] t)) w.heap.size vM vD := ⟨by simp [go_sem], by simp [go_sem], by simp [go_sem], by simp [go_sem]⟩
theorem TB.made2 (w : World) (vM vD vM' vD' : Value) (t : TypeId) : TB ((w.alloc (.cells #[vM, vD] t)).alloc (.cells #[vM', vD'] t)) w.heap.size vM vD ∧ TB ((w.alloc (.cells #[vM, vD] t)).alloc (.cells #[vM', vD'] t)) (w.heap.size + 1) vM' vD' :=
  ⟨⟨by simp [go_sem], by simp [go_sem], by simp [go_sem], by simp [go_sem]⟩, ⟨by simp [go_sem], by simp [go_sem], by simp [go_sem], by simp [go_sem]⟩⟩
theorem TB.at_ {w w' : World} {q : Nat} {vM vD : Value} (h : TB w q vM vD) (e : w'.heap[q]? = w.heap[q]?) : TB w' q vM vD := ⟨(cell_at e).trans h.c0, (cell_at e).trans h.c1, (froz_at e).trans h.f0, (froz_at e).trans h.f1⟩
theorem TB.below {w w' : World} {q B : Nat} {vM vD : Value} (h : TB w q vM vD) (hb : Below B w w') (hq : q < B) : TB w' q vM vD := h.at_ (hb.block q hq)
theorem TB.set1 {w : World} {q : Nat} {vM vD : Value} (h : TB w q vM vD) (v : Value) : TB (w.setCell ⟨q, 1, none⟩ v) q vM v := ⟨(World.cell?_setCell_other _ _ _ _ (by simp)).trans h.c0, World.cell?_setCell_same _ _ _ h.c1, by simpa using h.f0, by simpa using h.f1⟩
/-- Where the own blocks of two slices lie, apart. -/
def Apt (vT vC : Value) : Prop := ∀ k, vT.ownBlock = some k → vC.ownBlock ≠ some k

/-- An answer in its box q, with its two rows, all between B and hi. -/
structure TA (w : World) (B hi q : Nat) (vT vC : Value) (T : List Pl) (L : List Int) : Prop where
  m : TB w q vT vC
  oT : OwnPl w B vT T
  oC : OwnI 2 .i64 w B vC L
  lT : Lies vT B hi
  lC : Lies vC B hi
  hq : B ≤ q ∧ q < hi
  aT : vT.ownBlock ≠ some q
  aC : vC.ownBlock ≠ some q
  ap : Apt vT vC
def itT (B hi q : Nat) (vT vC : Value) (T : List Pl) (L : List Int) : It := ⟨B, hi, fun w => TA w B hi q vT vC T L, fun w w' hk h =>
  ⟨h.m.at_ (hk q h.hq.1 h.hq.2), ownsRow_at h.oT h.lT hk, ownsRow_at h.oC h.lC hk, h.lT, h.lC, h.hq, h.aT, h.aC, h.ap⟩⟩
theorem TA.marked {w w' : World} {B hi q : Nat} {vT vC : Value} {T T' : List Pl} {L L' : List Int} (h : TA w B hi q vT vC T L) (hq : w'.heap[q]? = w.heap[q]?) (oT : OwnPl w' B vT T') (oC : OwnI 2 .i64 w' B vC L') : TA w' B hi q vT vC T' L' :=
  ⟨h.m.at_ hq, oT, oC, h.lT, h.lC, h.hq, h.aT, h.aC, h.ap⟩
/-- An answer that is tables. -/
def TOut (w w' : World) (T : List Pl) (L : List Int) (e : Ending) : Prop := ∃ A c D d, e = .returned (.agg #[.slice A T.length c, .slice D L.length d]) ∧ OwnPl w' w.heap.size (.slice A T.length c) T ∧ OwnI 2 .i64 w' w.heap.size (.slice D L.length d) L ∧ Apt (.slice A T.length c) (.slice D L.length d) ∧ Below w.heap.size w w'

/-- Tables baked: of each mark all sums. -/
def bakeOk (side : Int) (l : List Int) (ms : List Pl) : Bool := gridRight side l && decide (ms.length ≤ 4) && ms.all fun p => opn side l p.x p.y
def flatD (D : Nat → List Int) (k : Nat) : List Int := (List.range k).flatMap D
theorem flatD_succ (D : Nat → List Int) (k : Nat) : flatD D (k + 1) = flatD D k ++ D k := by simp [flatD, List.range_succ]
def bakeM (side : Int) (l : List Int) (ms : List Pl) : List Pl := if bakeOk side l ms then ms else []
def bakeD (side : Int) (l : List Int) (ms : List Pl) (D : Nat → List Int) : List Int := if bakeOk side l ms then flatD D ms.length else []
/-- D has the sums of each mark that is open. -/
def IsB (side : Int) (l : List Int) (ms : List Pl) (D : Nat → List Int) : Prop := ∀ i (h : i < ms.length), (gridRight side l && opn side l ms[i].x ms[i].y) = true → GDist side l ms[i].x ms[i].y (D i)
theorem isb_any (side : Int) (l : List Int) (ms : List Pl) : ∃ D, IsB side l ms D :=
  ⟨fun i => if h : i < ms.length then Classical.choose (gdist_any side l ms[i].x ms[i].y) else [], fun i h => by dsimp only; rw [dif_pos h]; exact Classical.choose_spec (gdist_any side l ms[i].x ms[i].y)⟩
theorem flatD_len {side : Int} {l : List Int} {ms : List Pl} {D : Nat → List Int} (hd : IsB side l ms D) (hr : gridRight side l = true) : ∀ k, k ≤ ms.length → (∀ i (h : i < ms.length), i < k → opn side l ms[i].x ms[i].y = true) → (flatD D k).length = k * l.length
  | 0, _, _ => by simp [flatD]
  | k + 1, hk, ho => by
    have h1 := flatD_len hd hr k (by omega) (fun i h hi => ho i h (by omega))
    have h2 := (hd k (by omega) (by rw [hr, ho k (by omega) (by omega)]; rfl)).len
    rw [flatD_succ, List.length_append, h1, h2, Nat.add_mul]
    omega
theorem bakeM_len (side : Int) (l : List Int) (ms : List Pl) : (bakeM side l ms).length ≤ 4 := by
  unfold bakeM
  split
  · next h =>
    simp only [bakeOk, Bool.and_eq_true, decide_eq_true_eq] at h
    exact h.1.2
  · simp
theorem bakeD_len {side : Int} {l : List Int} {ms : List Pl} {D : Nat → List Int} (hd : IsB side l ms D) : (bakeD side l ms D).length ≤ 256 := by
  unfold bakeD
  split
  · next h =>
    simp only [bakeOk, Bool.and_eq_true, decide_eq_true_eq, List.all_eq_true] at h
    rw [flatD_len hd h.1.1 ms.length (Nat.le_refl _) (fun i hi _ => h.2 _ (List.getElem_mem hi))]
    have h1 := right_len h.1.1
    have := Nat.mul_le_mul h.1.2 h1
    omega
  · simp
end Go.Proofs.Ytmjbefjkkncjlaa

namespace Go.Proofs.Ytmjbefjkkncjlaa
open Go.RowKit
set_option linter.unusedVariables false
set_option linter.unusedSimpArgs false

theorem step_app_ints {i0 : TypeInfo} (hi : Try.prog.info? 2 = some i0) (hz0 : i0.zero = some (.int .i64 0)) (hz1 : i0.size = 1) (hz2 : i0.bytes = 8)
    {ops : Array Oper} {o : Oper} {a : Act} {K : Act → World → Prop} {Q : Exit → Act → World → Prop} {E : Prop} (hgd : o.guard = none) (s x : Operand)
    (ho : o.op = .call { callee := .builtin .append, args := #[s, x], argTypes := #[23, 23] })
    (base : Nat) (v : Value) (l l' : List Int) (wr : World) (b off c : Nat) (hown : OwnI 2 .i64 wr base v l) (hs : a.eval s = v) (hx : a.eval x = .slice (some ⟨b, off, none⟩) l'.length c) (hn : ∀ j (hj : j < l'.length), wr.cell? ⟨b, off + j, none⟩ = some (.int .i64 l'[j])) (h0 : 0 < l'.length) (hlen : l.length + l'.length ≤ 1000000) (hb : base ≤ wr.heap.size)
    (h : ∀ g cap w', OwnI 2 .i64 w' base (.slice (some ⟨g, 0, none⟩) (l.length + l'.length) cap) (l ++ l') → wr.grownBy w' v.ownBlock → (v.ownBlock = some g ∨ g = wr.heap.size) → K (a.put o.dst (.slice (some ⟨g, 0, none⟩) (l.length + l'.length) cap)) w') :
    if Region.wanted o (yielded ops a.tmps) = true then Oper.wp Try.prog o a wr K Q else E := by
  refine step_append_lies _ hgd s x 23 ho base 2 i0 (.int .i64 0) 1 8 Try.underlying23 hi hz0 hz1 hz2 rfl (by decide) v l.length _ hs hown ⟨b, off, none⟩ l'.length c (l'.map (Value.int .i64)) hx (by simp) ?_ ?_ h0 ?_ ?_ hb wr.heap.size rfl ?_
  · intro j u hu
    have hj : j < l'.length := by have := (List.getElem?_eq_some_iff.1 hu).1; simpa using this
    have e : (⟨b, off, none⟩ : Addr).add j = ⟨b, off + j, none⟩ := by unfold Addr.add; split <;> simp_all
    rw [e, hn j hj]
    simpa [hj] using hu
  · intro u hu
    obtain ⟨x, _, rfl⟩ := List.mem_map.1 hu
    rfl
  · unfold maxLen; omega
  · omega
  · intro g cap w' hown' hgrow hlies _
    refine h g cap w' ?_ hgrow hlies
    have e : (l ++ l').length = l.length + l'.length := by simp
    unfold OwnI
    simpa [e] using hown'
theorem append_pls {i0 : TypeInfo} (hi : Try.prog.info? 27 = some i0) (hz0 : i0.zero = some (.agg #[.int .i64 0, .int .i64 0])) (hz1 : i0.size = 2) (hz2 : i0.bytes = 16)
    {ops : Array Oper} {rest : List Oper} {o : Oper} {a : Act} {Q : Exit → Act → World → Prop} (hgd : o.guard = none) (s x : Operand)
    (ho : o.op = .call { callee := .builtin .append, args := #[s, x], argTypes := #[30, 30] })
    (base : Nat) (v : Value) (l l' : List Pl) (wr : World) (b off c : Nat) (hown : OwnPl wr base v l) (hs : a.eval s = v) (hx : a.eval x = .slice (some ⟨b, off, none⟩) l'.length c) (hn : ∀ j (hj : j < l'.length), PlAt wr b (off + j * 2) l'[j]) (hlen : l.length + l'.length ≤ 1000000) (hb : base ≤ wr.heap.size)
    (h : ∀ v' w', OwnPl w' base v' (l ++ l') → wr.grownBy w' v.ownBlock → wpList Try.prog ops Q rest (a.put o.dst v') w') :
    wpList Try.prog ops Q (o :: rest) a wr := by
  refine wpList_append_own _ hgd s x 30 ho base 27 i0 (.agg #[.int .i64 0, .int .i64 0]) 2 16 Try.underlying30 hi hz0 hz1 hz2 rfl (by decide) v l.length _ hs hown ⟨b, off, none⟩ l'.length c (l'.flatMap Pl.cells) hx (flatPl_len _) ?_ ?_ ?_ ?_ hb ?_
  · intro j u hu
    have e : (⟨b, off, none⟩ : Addr).add j = ⟨b, off + j, none⟩ := by unfold Addr.add; split <;> simp_all
    rw [e]
    have hjl : j < l'.length * 2 := by
      have := (List.getElem?_eq_some_iff.1 hu).1
      rw [flatPl_len] at this
      exact this
    have hq : j / 2 < l'.length := by omega
    have hg := flatPl_get l' (j / 2) (j % 2) hq (by omega)
    have e2 : j / 2 * 2 + j % 2 = j := by omega
    rw [e2, hu] at hg
    have hp := hn (j / 2) hq
    rcases Nat.mod_two_eq_zero_or_one j with h0 | h0
    · rw [h0] at hg
      simp only [Pl.cells, List.getElem?_cons_zero, Option.some.injEq] at hg
      have e3 : off + j = off + j / 2 * 2 := by omega
      rw [hg, ← hp.c0, e3]
    · rw [h0] at hg
      simp only [Pl.cells, List.getElem?_cons_succ, List.getElem?_cons_zero, Option.some.injEq] at hg
      have e3 : off + j = off + j / 2 * 2 + 1 := by omega
      rw [hg, ← hp.c1, e3]
  · intro u hu
    obtain ⟨n, _, hu⟩ := List.mem_flatMap.1 hu
    simp [Pl.cells] at hu
    rcases hu with rfl | rfl <;> rfl
  · unfold maxLen; omega
  · omega
  · intro v' w' hown' hgrow _
    refine h v' w' ?_ hgrow
    unfold OwnPl
    simpa [List.flatMap_append] using hown'
/-- While tables are baked: the boxes of the map, of the answer, of what is made; its rows. -/
structure BK (w : World) (side : Int) (A : Option Addr) (c : Nat) (l : List Int) (bo : Nat) (vM vD : Value) (ms : List Pl) (ds : List Int) (wr : World) : Prop where
  g : GB wr w.heap.size side (.slice A l.length c)
  r : TB wr (w.heap.size + 1) (.slice none 0 0) (.slice none 0 0)
  o : TB wr bo vM vD
  oM : OwnPl wr (w.heap.size + 1 + 1) vM ms
  oD : OwnI 2 .i64 wr (w.heap.size + 1 + 1) vD ds
  ap : Apt vM vD
  aM : vM.ownBlock ≠ some bo
  aD : vD.ownBlock ≠ some bo
  bo2 : w.heap.size + 1 + 1 ≤ bo ∧ bo < wr.heap.size
  bel : Below w.heap.size w wr
section
variable {w wr wr' : World} {side : Int} {A : Option Addr} {c : Nat} {l : List Int} {bo : Nat} {vM vD : Value} {ms : List Pl} {ds : List Int}
theorem BK.below (h : BK w side A c l bo vM vD ms ds wr) (hb : Below wr.heap.size wr wr') : BK w side A c l bo vM vD ms ds wr' := by
  obtain ⟨h1, h2⟩ := h.bo2
  exact ⟨h.g.below hb (by omega), h.r.below hb (by omega), h.o.below hb h2, h.oM.keep hb, h.oD.keep hb, h.ap, h.aM, h.aD, ⟨h1, Nat.lt_of_lt_of_le h2 hb.size⟩, h.bel.trans (hb.mono (by omega))⟩
theorem BK.mid (h : BK w side A c l bo vM vD ms ds wr) (hg : wr.grownBy wr' vD.ownBlock) : GB wr' w.heap.size side (.slice A l.length c) ∧ Below w.heap.size w wr' := by
  obtain ⟨h1, h2⟩ := h.bo2
  have lD := World.ownsRow.lt h.oD
  exact ⟨h.g.at5 (hg.block _ (by omega) fun e => by have := (lD _ e.symm).1; omega), h.bel.trans ((Below.refl _ wr).grown hg h.bel.size (fun k e => by have := (lD k e).1; omega))⟩
/-- The row of sums grows, and is stored. -/
theorem BK.push {g cap : Nat} {ds2 : List Int} {n2 : Nat} (h : BK w side A c l bo vM vD ms ds wr) (ho : OwnI 2 .i64 wr' (w.heap.size + 1 + 1) (.slice (some ⟨g, 0, none⟩) n2 cap) ds2) (hg : wr.grownBy wr' vD.ownBlock) (hl : vD.ownBlock = some g ∨ g = wr.heap.size) : BK w side A c l bo vM (.slice (some ⟨g, 0, none⟩) n2 cap) ms ds2 (wr'.setCell ⟨bo, 1, none⟩ (.slice (some ⟨g, 0, none⟩) n2 cap)) := by
  obtain ⟨h1, h2⟩ := h.bo2
  have lD := World.ownsRow.lt h.oD
  have lM := h.oM.lt
  have k : ∀ b, b < w.heap.size + 1 + 1 → wr'.heap[b]? = wr.heap[b]? := fun b hb => hg.block b (by omega) fun e => by have := (lD b e.symm).1; omega
  have kb : wr'.heap[bo]? = wr.heap[bo]? := hg.block bo h2 fun e => h.aD e.symm
  have s : ∀ b, b ≠ bo → (wr'.setCell ⟨bo, 1, none⟩ (.slice (some ⟨g, 0, none⟩) n2 cap)).heap[b]? = wr'.heap[b]? := fun b hb => heap_setCell_other wr' _ b _ hb
  have hgb : g ≠ bo := by
    rcases hl with e | e
    · intro e2; subst e2; exact h.aD e
    · omega
  have hz := hg.size
  have hbb : Below w.heap.size wr wr' := (Below.refl _ wr).grown hg (by omega) (fun k e => by have := (lD k e).1; omega)
  have hlt : w.heap.size ≤ wr.heap.size := h.bel.size
  have oM2 : OwnPl wr' (w.heap.size + 1 + 1) vM ms := h.oM.kept hg (by
    cases e : vM.ownBlock with
    | none => exact .inl rfl
    | some k => exact .inr fun e' => h.ap k e e'.symm)
  refine ⟨(h.g.at5 (k _ (by omega))).at5 (s _ (by omega)), (h.r.at_ (k _ (by omega))).at_ (s _ (by omega)), (h.o.at_ kb).set1 _, ?_, ?_, ?_, h.aM, ?_, ⟨h1, by simpa using Nat.lt_of_lt_of_le h2 hz⟩, (h.bel.trans hbb).setCell (by show _ ≤ bo; omega) _⟩
  · exact oM2.kept (setCell_by wr' ⟨bo, 1, none⟩ _) (.inr h.aM)
  · exact World.ownsRow.kept ho (setCell_by wr' ⟨bo, 1, none⟩ _) (.inr fun e => hgb (Option.some.inj e))
  · intro k hk e
    have e' : k = g := (Option.some.inj e).symm
    subst e'
    rcases hl with h5 | h5
    · exact h.ap k hk h5
    · have := (lM k hk).2; omega
  · intro e
    exact hgb (Option.some.inj e)
end

end Go.Proofs.Ytmjbefjkkncjlaa

namespace Go.Proofs.Ytmjbefjkkncjlaa
open Go.RowKit
set_option linter.unusedVariables false
set_option linter.unusedSimpArgs false

theorem OwnPl.one (w : World) (base : Nat) (x y : Int) (hb : base ≤ w.heap.size) : OwnPl (w.alloc (.cells #[.int .i64 x, .int .i64 y] 27)) base (.slice (some ⟨w.heap.size, 0, none⟩) 1 1) [⟨x, y⟩] := by
  have := World.ownsRow_lit (e := 27) (size := 2) (base := base) w #[.int .i64 x, .int .i64 y] 1 hb (by unfold maxLen; omega) (by rfl)
  simpa [OwnPl, Pl.cells] using this
theorem WB.fill {w : World} {q : Nat} {v : Value} {S C : Int} (h : WB w q v S C) (v' : Value) (S' C' : Int) : WB (((w.setCell ⟨q, 0, none⟩ v').setCell ⟨q, 1, none⟩ (.int .i64 S')).setCell ⟨q, 2, none⟩ (.int .i64 C')) q v' S' C' := by
  obtain ⟨c0, c1, c2, f0, f1, f2⟩ := h
  exact ⟨by simp [go_sem, c0, c1, c2], by simp [go_sem, c0, c1, c2], by simp [go_sem, c0, c1, c2], by simpa using f0, by simpa using f1, by simpa using f2⟩
/-- While the way is told: all boxes, the sums, the places so far. -/
structure W8 (w : World) (side : Int) (A : Option Addr) (c : Nat) (l : List Int) (ax ay bx b_y : Int) (vD : Value) (d : List Int) (bo : Nat) (vP : Value) (P : List Pl) (S : Int) (wr : World) : Prop where
  b : B4 w side A c l ax ay bx b_y wr
  dd : OwnI 2 .i64 wr (w.heap.size + 1 + 1 + 1 + 1) vD d
  o : WB wr bo vP S 0
  oP : OwnPl wr (w.heap.size + 1 + 1 + 1 + 1) vP P
  aD : vD.ownBlock ≠ some bo
  aP : vP.ownBlock ≠ some bo
  bo2 : w.heap.size + 1 + 1 + 1 + 1 ≤ bo ∧ bo < wr.heap.size
section
variable {w W wr wr' u : World} {side : Int} {A : Option Addr} {c : Nat} {l : List Int} {ax ay bx b_y : Int} {vD : Value} {d : List Int} {bo : Nat} {vP : Value} {P : List Pl} {S : Int}
theorem W8.below (h : W8 w side A c l ax ay bx b_y vD d bo vP P S wr) (hb : Below wr.heap.size wr wr') : W8 w side A c l ax ay bx b_y vD d bo vP P S wr' :=
  ⟨h.b.below hb, h.dd.keep hb, h.o.at_ (hb.block _ h.bo2.2), h.oP.keep hb, h.aD, h.aP, ⟨h.bo2.1, Nat.lt_of_lt_of_le h.bo2.2 hb.size⟩⟩
theorem W8.of (h : B4 w side A c l ax ay bx b_y W) (hd : OwnI 2 .i64 W (w.heap.size + 1 + 1 + 1 + 1) vD d) (hb : Below W.heap.size W u) (o : WB u bo vP S 0) (oP : OwnPl u W.heap.size vP P) (hq : W.heap.size ≤ bo ∧ bo < u.heap.size) (aP : vP.ownBlock ≠ some bo) : W8 w side A c l ax ay bx b_y vD d bo vP P S u := by
  have hz := h.siz
  exact ⟨h.below hb, hd.keep hb, o, OwnPl.lower (by omega) oP, fun e => by have := (World.ownsRow.lt hd _ e).2; omega, aP, ⟨by omega, hq.2⟩⟩
theorem W8.last (h : B4 w side A c l ax ay bx b_y W) (hd : OwnI 2 .i64 W (w.heap.size + 1 + 1 + 1 + 1) vD d) (hb : Below W.heap.size W u) (oP : OwnPl u W.heap.size vP P) : W8 w side A c l ax ay bx b_y vD d u.heap.size vP P S (u.alloc (.cells #[vP, .int .i64 S, .int .i64 0] 32)) :=
  W8.of h hd (bel_T hb (bel_A _ _)) (WB.made _ _ _ _ _) (oP.alloc _) ⟨hb.size, by simp⟩ (fun e => by have := (oP.lt _ e).2; omega)
theorem W8.fill (h : B4 w side A c l ax ay bx b_y W) (hd : OwnI 2 .i64 W (w.heap.size + 1 + 1 + 1 + 1) vD d) (hb : Below W.heap.size W u) (o : WB u bo (.slice none 0 0) 0 0) (oP : OwnPl u W.heap.size vP P) (hq : W.heap.size ≤ bo ∧ bo < u.heap.size) (aP : vP.ownBlock ≠ some bo) : W8 w side A c l ax ay bx b_y vD d bo vP P S (((u.setCell ⟨bo, 0, none⟩ vP).setCell ⟨bo, 1, none⟩ (.int .i64 S)).setCell ⟨bo, 2, none⟩ (.int .i64 0)) := by
  have k : ∀ (x : World) (v : Value) (i : Nat), OwnPl x W.heap.size vP P → OwnPl (x.setCell ⟨bo, i, none⟩ v) W.heap.size vP P := fun x v i ho => ho.kept (setCell_by x ⟨bo, i, none⟩ _) (.inr aP)
  exact W8.of h hd (((hb.setCell (by exact hq.1) _).setCell (by exact hq.1) _).setCell (by exact hq.1) _) (o.fill _ _ _) (k _ _ _ (k _ _ _ (k _ _ _ oP))) ⟨hq.1, by simpa using hq.2⟩ aP
end

/-- What is made later is not turned in by what turns one later block alone. -/
theorem B4.kept {w wr wr' : World} {side : Int} {A : Option Addr} {c : Nat} {l : List Int} {x y u v : Int} {q : Nat} (h : B4 w side A c l x y u v wr) (hg : wr.grownBy wr' (some q)) (hq : w.heap.size + 1 + 1 + 1 + 1 ≤ q) : B4 w side A c l x y u v wr' := by
  have hz := h.siz
  have hb : Below (w.heap.size + 1 + 1 + 1 + 1) wr wr' := (Below.refl _ _).grown hg (by omega) (fun k e => by have := Option.some.inj e; omega)
  exact ⟨⟨h.b.g.below hb (by omega), h.b.f.below hb (by omega), h.b.t.below hb (by omega), h.b.bel.trans (hb.mono (by omega)), Nat.lt_of_lt_of_le h.b.siz hb.size⟩, h.r.at_ (hb.block _ (by omega)), Nat.lt_of_lt_of_le hz hb.size⟩
section
variable {w W wr wr' u : World} {side : Int} {A : Option Addr} {c : Nat} {l : List Int} {ax ay bx b_y : Int} {vD : Value} {d : List Int} {bo : Nat} {vP : Value} {P : List Pl} {S : Int}
theorem W8.kept {q : Nat} (h : W8 w side A c l ax ay bx b_y vD d bo vP P S wr) (hg : wr.grownBy wr' (some q)) (hq : w.heap.size + 1 + 1 + 1 + 1 ≤ q) (n1 : q ≠ bo) (n2 : vD.ownBlock ≠ some q) (n3 : vP.ownBlock ≠ some q) : W8 w side A c l ax ay bx b_y vD d bo vP P S wr' :=
  ⟨h.b.kept hg hq, World.ownsRow.kept h.dd hg (.inr n2), h.o.at_ (hg.block _ h.bo2.2 fun e => n1 (Option.some.inj e).symm), h.oP.kept hg (.inr n3), h.aD, h.aP, ⟨h.bo2.1, Nat.lt_of_lt_of_le h.bo2.2 hg.size⟩⟩
/-- The places anew, one more ahead. -/
theorem W8.turn {z : Nat} {v' : Value} {P' : List Pl} (h : W8 w side A c l ax ay bx b_y vD d bo vP P S wr) (hg : wr.grownBy wr' (some z)) (hz : wr.heap.size ≤ z) (ho : OwnPl wr' wr.heap.size v' P') : W8 w side A c l ax ay bx b_y vD d bo v' P' S (wr'.setCell ⟨bo, 0, none⟩ v') := by
  have hb2 := h.bo2
  have l1 := h.b.siz
  have h1 : W8 w side A c l ax ay bx b_y vD d bo vP P S wr' := h.kept hg (by omega) (by omega) (fun e => by have := (World.ownsRow.lt h.dd _ e).2; omega) (fun e => by have := (h.oP.lt _ e).2; omega)
  have hs := setCell_by wr' ⟨bo, 0, none⟩ v'
  have lv := ho.lt
  obtain ⟨c0, c1, c2, f0, f1, f2⟩ := h1.o
  refine ⟨h1.b.kept hs h1.bo2.1, World.ownsRow.kept h1.dd hs (.inr h1.aD), ⟨by simp [go_sem, c0], by simp [go_sem, c1], by simp [go_sem, c2], by simpa using f0, by simpa using f1, by simpa using f2⟩, OwnPl.lower (by omega) (ho.kept hs (.inr fun e => ?_)), h1.aD, fun e => ?_, ⟨h1.bo2.1, by simpa using h1.bo2.2⟩⟩
  · have := (lv _ e).1; simp at this; omega
  · have := (lv _ e).1; omega
end
/-- And the box of the place that one is at. -/
structure W9 (w : World) (side : Int) (A : Option Addr) (c : Nat) (l : List Int) (ax ay bx b_y : Int) (vD : Value) (d : List Int) (bo : Nat) (vP : Value) (P : List Pl) (S : Int) (ba : Nat) (px py : Int) (wr : World) : Prop where
  s : W8 w side A c l ax ay bx b_y vD d bo vP P S wr
  pb : PlB wr ba px py
  f0 : wr.frozen? ⟨ba, 0, none⟩ = false
  f1 : wr.frozen? ⟨ba, 1, none⟩ = false
  n1 : ba ≠ bo
  n2 : vD.ownBlock ≠ some ba
  n3 : vP.ownBlock ≠ some ba
  lo : w.heap.size + 1 + 1 + 1 + 1 ≤ ba ∧ ba < wr.heap.size
section
variable {w W wr wr' u : World} {side : Int} {A : Option Addr} {c : Nat} {l : List Int} {ax ay bx b_y : Int} {vD : Value} {d : List Int} {bo : Nat} {vP : Value} {P : List Pl} {S : Int} {ba : Nat} {px py : Int}
theorem W9.made (h : W8 w side A c l ax ay bx b_y vD d bo vP P S wr) (x y : Int) : W9 w side A c l ax ay bx b_y vD d bo vP P S wr.heap.size x y (wr.alloc (.cells #[.int .i64 x, .int .i64 y] 27)) := by
  have hb2 := h.bo2
  have hz := h.b.siz
  exact ⟨h.below (bel_A _ _), PlB.made _ _ _ _, by simp [go_sem], by simp [go_sem], by omega, fun e => by have := (World.ownsRow.lt h.dd _ e).2; omega, fun e => by have := (h.oP.lt _ e).2; omega, ⟨by omega, by simp⟩⟩
theorem W9.below (h : W9 w side A c l ax ay bx b_y vD d bo vP P S ba px py wr) (hb : Below wr.heap.size wr wr') : W9 w side A c l ax ay bx b_y vD d bo vP P S ba px py wr' :=
  ⟨h.s.below hb, h.pb.below hb h.lo.2, (froz_at (hb.block _ h.lo.2)).trans h.f0, (froz_at (hb.block _ h.lo.2)).trans h.f1, h.n1, h.n2, h.n3, ⟨h.lo.1, Nat.lt_of_lt_of_le h.lo.2 hb.size⟩⟩
theorem W9.go (h : W9 w side A c l ax ay bx b_y vD d bo vP P S ba px py wr) (x y : Int) : W9 w side A c l ax ay bx b_y vD d bo vP P S ba x y ((wr.setCell ⟨ba, 0, none⟩ (.int .i64 x)).setCell ⟨ba, 1, none⟩ (.int .i64 y)) := by
  have s1 := h.s.kept (setCell_by wr ⟨ba, 0, none⟩ (.int .i64 x)) h.lo.1 h.n1 h.n2 h.n3
  have s2 := s1.kept (setCell_by _ ⟨ba, 1, none⟩ (.int .i64 y)) h.lo.1 h.n1 h.n2 h.n3
  have c0 := h.pb.c0
  have c1 := h.pb.c1
  exact ⟨s2, ⟨by simp [go_sem, c0, c1], by simp [go_sem, c0, c1]⟩, by simpa using h.f0, by simpa using h.f1, h.n1, h.n2, h.n3, ⟨h.lo.1, by simpa using h.lo.2⟩⟩
theorem W9.turn {z : Nat} {v' : Value} {P' : List Pl} (h : W9 w side A c l ax ay bx b_y vD d bo vP P S ba px py wr) (hg : wr.grownBy wr' (some z)) (hz : wr.heap.size ≤ z) (ho : OwnPl wr' wr.heap.size v' P') : W9 w side A c l ax ay bx b_y vD d bo v' P' S ba px py (wr'.setCell ⟨bo, 0, none⟩ v') := by
  have hl := h.lo.2
  have e1 := hg.block ba hl (fun e => by have := Option.some.inj e; omega)
  have e2 := (setCell_by wr' ⟨bo, 0, none⟩ v').block ba (Nat.lt_of_lt_of_le hl hg.size) (fun e => h.n1 (Option.some.inj e))
  have e3 := e2.trans e1
  exact ⟨h.s.turn hg hz ho, ⟨(World.cell?_of_block (a := ⟨ba, 0, none⟩) e3).trans h.pb.c0, (World.cell?_of_block (a := ⟨ba, 1, none⟩) e3).trans h.pb.c1⟩, (froz_at e3).trans h.f0, (froz_at e3).trans h.f1, h.n1, h.n2, fun e => by have := (ho.lt _ e).1; omega, ⟨h.lo.1, by simpa using Nat.lt_of_lt_of_le hl hg.size⟩⟩
end
/-- The row of those beside. -/
def RowL (A9 : Option Addr) (Ls : List Pl) (wr : World) : Prop := Ls = [] ∨ ∃ bl, A9 = some ⟨bl, 0, none⟩ ∧ bl < wr.heap.size ∧ ∀ j (h : j < Ls.length), PlAt wr bl (j * 2) Ls[j]
theorem RowL.below {A9 : Option Addr} {Ls : List Pl} {wr wr' : World} (h : RowL A9 Ls wr) (hb : Below wr.heap.size wr wr') : RowL A9 Ls wr' := by
  rcases h with hr | ⟨bl, e9, m3, hr⟩
  · exact .inl hr
  · exact .inr ⟨bl, e9, Nat.lt_of_lt_of_le m3 hb.size, fun j hj => (hr j hj).keep (hb.block bl m3)⟩
theorem RowL.at_ {A9 : Option Addr} {Ls : List Pl} {wr : World} (h : RowL A9 Ls wr) {i : Nat} (hi : i < Ls.length) : ∃ bl, A9 = some ⟨bl, 0, none⟩ ∧ PlAt wr bl (i * 2) Ls[i] := by
  rcases h with hr | ⟨bl, e9, _, hr⟩
  · rw [hr] at hi
    simp at hi
  · exact ⟨bl, e9, hr i hi⟩
theorem RowL.of {A9 : Option Addr} {c9 base : Nat} {Ls : List Pl} {wr : World} (o9 : OwnPl wr base (.slice A9 Ls.length c9) Ls) : RowL A9 Ls wr := by
  by_cases hne : Ls = []
  · exact .inl hne
  · have hpos : 0 < Ls.length := List.length_pos_iff.2 hne
    obtain ⟨bl, e9, hlo, hlt, _, _⟩ := o9.at_ (j := 0) hpos
    refine .inr ⟨bl, e9, hlt, fun j hj => ?_⟩
    obtain ⟨bl2, e10, _, _, hc, _⟩ := o9.at_ (j := j) hj
    rw [e9] at e10
    cases e10
    exact hc
end Go.Proofs.Ytmjbefjkkncjlaa

namespace Go.Proofs.Ytmjbefjkkncjlaa
open Go.RowKit
set_option linter.unusedVariables false
set_option linter.unusedSimpArgs false

set_option maxRecDepth 100000 in
set_option maxHeartbeats 4000000 in
theorem mWayOf_good (side ax ay bx b_y : Int) (A : Option Addr) (c : Nat) (l d0 : List Int) (L : List Pl) (w : World) (h : RI w w.heap.size A l) (hl : l.length ≤ 1000000000) (hr : gridRight side l = true) (hoa : opn side l ax ay = true) (hob : opn side l bx b_y = true) (hv : 0 ≤ dk d0 (pn side bx b_y)) (hd : GDist side l ax ay d0) (hL : WayTo side l d0 ⟨bx, b_y⟩ L) :
    Calls Try.prog 7 #[.agg #[.int .i64 side, .slice A l.length c], .agg #[.int .i64 ax, .int .i64 ay], .agg #[.int .i64 bx, .int .i64 b_y]] w fun e w' => WOut w w' (dk d0 (pn side bx b_y)) 0 L e := by
  have HB := Lib.hid (B4.made w side A c l ax ay bx b_y)
  have H := Lib.hid h
  have hR := fun w h => mRight_any side A c l w h hl
  have hDi := fun w h => mDist_any side ax ay bx b_y A c l d0 w h hl (fun _ => hd)
  have hDs := fun w h => mL05Dists_any side ax ay A c l d0 w h hr hoa hd
  have hs := (right_parts hr).1
  have hi := (opn_parts hr hoa).1
  have hj := (opn_parts hr hob).1
  have hI1 := fun w => mIn_any side ax ay A l.length c w hs
  have hI2 := fun w => mIn_any side bx b_y A l.length c w hs
  have hA := fun w => mAt5_any hr hj A l.length c w
  have hE : dOne side l ax ay bx b_y d0 = dk d0 (pn side bx b_y) := by simp [dOne, hr, hoa, hob]
  rw [hE] at hDi
  rw [hr] at hR
  rw [hi] at hI1
  rw [hj] at hI2
  have hlt : pn side bx b_y < d0.length := by rw [hd.len]; exact (pn_lt hr hj).1
  have HLT := Lib.hid hlt
  have hltI : ((pn side bx b_y : Nat) : Int) < (d0.length : Int) := by omega
  have HDK : Hid (∀ hh : pn side bx b_y < d0.length, dk d0 (pn side bx b_y) = d0[pn side bx b_y]) := fun hh => dk_lt hh
  have HGD := Lib.hid hd
  have HWT := Lib.hid hL
  have HR := Lib.hid hr
  have HOA := Lib.hid hoa
  have HOB := Lib.hid hob
  clear h hl hr hoa hob hd hL hs hi hj hE hlt
  have hnb : decide (dk d0 (pn side bx b_y) < 0) = false := decide_eq_false (by omega)
  generalize hpp : pn side bx b_y = pb at *
  have HPP := Lib.hid hpp
  clear hpp
  generalize hvv : dk d0 pb = S at *
  have HVV := Lib.hid hvv
  clear hvv
  go_enter Try.func7, Try.ntmps7
  go_wp2_with fail
  refine (hR _ ((H.out.below HB.out.b.bel).mono HB.out.b.bel.size)).mono ?_
  rintro e w1 ⟨rfl, hb1⟩
  have HB1 := Lib.hid (HB.out.below hb1)
  clear hb1 HB
  obtain ⟨g0, g1, _, _⟩ := HB1.out.b.g
  obtain ⟨a0, a1⟩ := HB1.out.b.f
  obtain ⟨t0, t1⟩ := HB1.out.b.t
  go_wp2_with fail
  refine (hI1 _).mono ?_
  rintro e w2 ⟨rfl, hb2⟩
  have HB2 := Lib.hid (HB1.out.below hb2)
  clear hb2 HB1 g0 g1 a0 a1 t0 t1
  obtain ⟨g0, g1, _, _⟩ := HB2.out.b.g
  obtain ⟨a0, a1⟩ := HB2.out.b.f
  obtain ⟨t0, t1⟩ := HB2.out.b.t
  go_wp2_with fail
  refine (hI2 _).mono ?_
  rintro e w3 ⟨rfl, hb3⟩
  have HB3 := Lib.hid (HB2.out.below hb3)
  clear hb3 HB2 g0 g1 a0 a1 t0 t1
  obtain ⟨g0, g1, _, _⟩ := HB3.out.b.g
  obtain ⟨a0, a1⟩ := HB3.out.b.f
  obtain ⟨t0, t1⟩ := HB3.out.b.t
  go_wp2_with fail
  refine (hDi _ ((H.out.below HB3.out.b.bel).mono HB3.out.b.bel.size)).mono ?_
  rintro e w4 ⟨rfl, hb4⟩
  have HB4 := Lib.hid (HB3.out.below hb4)
  clear hb4 HB3 g0 g1 a0 a1 t0 t1
  obtain ⟨g0, g1, _, _⟩ := HB4.out.b.g
  obtain ⟨a0, a1⟩ := HB4.out.b.f
  obtain ⟨t0, t1⟩ := HB4.out.b.t
  clear hI1 hI2 hR hDi
  go_wp2_with fail
  refine (hDs _ ((H.out.below HB4.out.b.bel).mono HB4.out.b.bel.size)).mono ?_
  rintro e w5 ⟨AD, cD, rfl, hoD, hb5⟩
  have HB5 := Lib.hid (HB4.out.below hb5)
  obtain ⟨gD, rfl, _, _, _, _⟩ := hoD.at_ HLT.out
  have HOD : Hid (OwnI 2 .i64 w5 (w.heap.size + 1 + 1 + 1 + 1) (.slice (some ⟨gD, 0, none⟩) d0.length cD) d0) := OwnI.lower (by have := HB4.out.siz; omega) hoD
  clear hoD hb5 HB4 g0 g1 a0 a1 t0 t1 hnb hDs
  have HPAR : Hid (∀ wr, Below w5.heap.size w5 wr → wr.cell? ⟨w.heap.size, 0, none⟩ = some (.int .i64 side) ∧ wr.cell? ⟨w.heap.size, 1, none⟩ = some (.slice A l.length c) ∧ wr.cell? ⟨w.heap.size + 1 + 1, 0, none⟩ = some (.int .i64 bx) ∧ wr.cell? ⟨w.heap.size + 1 + 1, 1, none⟩ = some (.int .i64 b_y) ∧ wr.cell? ⟨gD, pb, none⟩ = some (.int .i64 S)) := by
    intro wr hb
    have h := HB5.out.below hb
    refine ⟨h.b.g.c0, h.b.g.c1, h.b.t.c0, h.b.t.c1, ?_⟩
    obtain ⟨g2, e2, _, _, hc, _⟩ := (OwnI.keep HOD.out hb).at_ HLT.out
    cases e2
    rw [HDK.out HLT.out]
    exact hc
  obtain ⟨g0, g1, _, _⟩ := HB5.out.b.g
  obtain ⟨a0, a1⟩ := HB5.out.b.f
  obtain ⟨t0, t1⟩ := HB5.out.b.t
  go_wp2_with fail
  go_cut [8] from 45 to 53 (fun c8 wx => ∃ (bo : Nat) (AP : Option Addr) (cP : Nat), c8 = .pointer (some ⟨bo, 0, none⟩) ∧ W8 w side A c l ax ay bx b_y (.slice (some ⟨gD, 0, none⟩) d0.length cD) d0 bo (.slice AP 1 cP) [⟨bx, b_y⟩] S wx)
  case first =>
    clear g0 g1 a0 a1 t0 t1
    have hB := bel_D w5
    have hk := HPAR.out _ hB
    go_region_held3 (fun w' => w'.cell? ⟨w.heap.size, 0, none⟩ = some (.int .i64 side) ∧ w'.cell? ⟨w.heap.size, 1, none⟩ = some (.slice A l.length c) ∧ w'.cell? ⟨w.heap.size + 1 + 1, 0, none⟩ = some (.int .i64 bx) ∧ w'.cell? ⟨w.heap.size + 1 + 1, 1, none⟩ = some (.int .i64 b_y) ∧ w'.cell? ⟨gD, pb, none⟩ = some (.int .i64 S))
      (first | (with_reducible exact hk) | exact HPAR.out _ (bel_T hB (bel_A _ _)) | exact HPAR.out _ (bel_T (bel_T hB (bel_A _ _)) (bel_A _ _)) | exact HPAR.out _ (bel_T B0 (bel_A _ _)) | exact HPAR.out _ (bel_T (bel_T B0 (bel_A _ _)) (bel_A _ _)) | exact HPAR.out _ (((B0.setCell (by first | (simp; done) | (have := B0.size; simp; omega) | (have := B0.size; show _ ≤ _; omega)) _).setCell (by first | (simp; done) | (have := B0.size; simp; omega) | (have := B0.size; show _ ≤ _; omega)) _).setCell (by first | (simp; done) | (have := B0.size; simp; omega) | (have := B0.size; show _ ≤ _; omega)) _) | exact HPAR.out _ ((((bel_T B0 (bel_A _ _)).setCell (by first | (simp; done) | (have := B0.size; simp; omega) | (have := B0.size; show _ ≤ _; omega)) _).setCell (by first | (simp; done) | (have := B0.size; simp; omega) | (have := B0.size; show _ ≤ _; omega)) _).setCell (by first | (simp; done) | (have := B0.size; simp; omega) | (have := B0.size; show _ ≤ _; omega)) _) | exact HPAR.out _ ((((bel_T (bel_T B0 (bel_A _ _)) (bel_A _ _)).setCell (by first | (simp; done) | (have := B0.size; simp; omega) | (have := B0.size; show _ ≤ _; omega)) _).setCell (by first | (simp; done) | (have := B0.size; simp; omega) | (have := B0.size; show _ ≤ _; omega)) _).setCell (by first | (simp; done) | (have := B0.size; simp; omega) | (have := B0.size; show _ ≤ _; omega)) _) | exact HPAR.out _ (bel_T (((B0.setCell (by first | (simp; done) | (have := B0.size; simp; omega) | (have := B0.size; show _ ≤ _; omega)) _).setCell (by first | (simp; done) | (have := B0.size; simp; omega) | (have := B0.size; show _ ≤ _; omega)) _).setCell (by first | (simp; done) | (have := B0.size; simp; omega) | (have := B0.size; show _ ≤ _; omega)) _) (bel_A _ _)) | go_keep)
      (first
        | (go_at_call 31; refine (hA w5.drew).mono ?_; rintro e v ⟨rfl, hb⟩; have B0 := bel_T hB hb; have hk := HPAR.out _ B0; have s0 := True.intro)
        | (go_at_call 31; refine (hA (w5.drew.alloc (.cells #[.int .i64 bx, .int .i64 b_y] 27))).mono ?_; rintro e v ⟨rfl, hb⟩; have B0 := bel_T (bel_T hB (bel_A _ _)) hb; have hk := HPAR.out _ B0; have hO := OwnPl.keep (OwnPl.one w5.drew w5.heap.size bx b_y (by simp)) hb; have hzv := B0.size)
        | (go_at_call 31; refine (hA (w5.drew.alloc (.cells #[.slice none 0 0, .int .i64 0, .int .i64 0] 32))).mono ?_; rintro e v ⟨rfl, hb⟩; have B0 := bel_T (bel_T hB (bel_A _ _)) hb; have hk := HPAR.out _ B0; have hW : WB v w5.heap.size (.slice none 0 0) 0 0 := WB.at_ (WB.made w5.drew (.slice none 0 0) 0 0 32) (hb.block _ (by simp)); have hqv : w5.heap.size < v.heap.size := Nat.lt_of_lt_of_le (by simp) hb.size; obtain ⟨s0, s1, s2, p0, p1, p2⟩ := hW)
        | (go_at_call 31; refine (hA ((w5.drew.alloc (.cells #[.int .i64 bx, .int .i64 b_y] 27)).alloc (.cells #[.slice none 0 0, .int .i64 0, .int .i64 0] 32))).mono ?_; rintro e v ⟨rfl, hb⟩; have B0 := bel_T (bel_T (bel_T hB (bel_A _ _)) (bel_A _ _)) hb; have hk := HPAR.out _ B0; have hO := OwnPl.keep (OwnPl.alloc (OwnPl.one w5.drew w5.heap.size bx b_y (by simp)) (.cells #[.slice none 0 0, .int .i64 0, .int .i64 0] 32)) hb; have hW : WB v (w5.heap.size + 1) (.slice none 0 0) 0 0 := by { have hW0 := WB.at_ (WB.made (w5.drew.alloc (.cells #[.int .i64 bx, .int .i64 b_y] 27)) (.slice none 0 0) 0 0 32) (hb.block _ (by simp)); simpa using hW0 }; have hqv : w5.heap.size + 1 < v.heap.size := Nat.lt_of_lt_of_le (by simp) hb.size; obtain ⟨s0, s1, s2, p0, p1, p2⟩ := hW)
        | (go_at_call 31; refine (hA ((w5.drew.alloc (.cells #[.slice none 0 0, .int .i64 0, .int .i64 0] 32)).alloc (.cells #[.int .i64 bx, .int .i64 b_y] 27))).mono ?_; rintro e v ⟨rfl, hb⟩; have B0 := bel_T (bel_T (bel_T hB (bel_A _ _)) (bel_A _ _)) hb; have hk := HPAR.out _ B0; have hO := OwnPl.keep (OwnPl.one (w5.drew.alloc (.cells #[.slice none 0 0, .int .i64 0, .int .i64 0] 32)) w5.heap.size bx b_y (by simp)) hb; simp only [alloc_size] at hO; have hW : WB v w5.heap.size (.slice none 0 0) 0 0 := WB.at_ (WB.at_ (WB.made w5.drew (.slice none 0 0) 0 0 32) ((bel_A (w5.drew.alloc (.cells #[.slice none 0 0, .int .i64 0, .int .i64 0] 32)) (.cells #[.int .i64 bx, .int .i64 b_y] 27)).block _ (by simp))) (hb.block _ (by simp; omega)); have hqv : w5.heap.size < v.heap.size := Nat.lt_of_lt_of_le (by simp; omega) hb.size; obtain ⟨s0, s1, s2, p0, p1, p2⟩ := hW))
    all_goals
      clear hk
      go_wp2_with fail
      go_meet
      have hz0 := B0.size
      first
        | (have _c := hzv; clear _c; exact ⟨_, _, _, rfl, W8.last HB5.out HOD.out B0 hO⟩)
        | (have _c := hqv; have _d := hO; clear _c _d; exact ⟨_, _, _, rfl, W8.fill HB5.out HOD.out B0 ⟨s0, s1, s2, p0, p1, p2⟩ hO ⟨by omega, by omega⟩ (by simp [Value.ownBlock])⟩)
        | (have _c := hqv; clear _c; have h9 := OwnPl.one (((v.setCell ⟨w5.heap.size, 0, none⟩ (.slice (some ⟨v.heap.size, 0, none⟩) 1 1)).setCell ⟨w5.heap.size, 1, none⟩ (.int .i64 S)).setCell ⟨w5.heap.size, 2, none⟩ (.int .i64 0)) w5.heap.size bx b_y (by simp; omega); have h8 := W8.of (S := S) HB5.out HOD.out (bel_T (((B0.setCell (show w5.heap.size ≤ (⟨w5.heap.size, 0, none⟩ : Addr).block from Nat.le_refl _) (.slice (some ⟨v.heap.size, 0, none⟩) 1 1)).setCell (show w5.heap.size ≤ (⟨w5.heap.size, 1, none⟩ : Addr).block from Nat.le_refl _) (.int .i64 S)).setCell (show w5.heap.size ≤ (⟨w5.heap.size, 2, none⟩ : Addr).block from Nat.le_refl _) (.int .i64 0)) (bel_A _ (.cells #[.int .i64 bx, .int .i64 b_y] 27))) (WB.at_ (WB.fill ⟨s0, s1, s2, p0, p1, p2⟩ (.slice (some ⟨v.heap.size, 0, none⟩) 1 1) S 0) ((bel_A (((v.setCell ⟨w5.heap.size, 0, none⟩ (.slice (some ⟨v.heap.size, 0, none⟩) 1 1)).setCell ⟨w5.heap.size, 1, none⟩ (.int .i64 S)).setCell ⟨w5.heap.size, 2, none⟩ (.int .i64 0)) (.cells #[.int .i64 bx, .int .i64 b_y] 27)).block _ (by simp; omega))) (by simpa using h9) ⟨Nat.le_refl _, by simp; omega⟩ (by simp [Value.ownBlock]; omega); exact ⟨_, _, _, rfl, h8⟩)
        | (have h8 := W8.last (S := S) HB5.out HOD.out (bel_T B0 (bel_A v (.cells #[.int .i64 bx, .int .i64 b_y] 27))) (OwnPl.one v w5.heap.size bx b_y hz0); rw [alloc_size] at h8; exact ⟨v.heap.size + 1, _, _, rfl, h8⟩)
        | (have h9 := OwnPl.one (v.alloc (.cells #[.slice (some ⟨v.heap.size + 1, 0, none⟩) 1 1, .int .i64 S, .int .i64 0] 32)) w5.heap.size bx b_y (by simp; omega); rw [alloc_size] at h9; have h8 := W8.of (S := S) HB5.out HOD.out (bel_T (bel_T B0 (bel_A v (.cells #[.slice (some ⟨v.heap.size + 1, 0, none⟩) 1 1, .int .i64 S, .int .i64 0] 32))) (bel_A _ (.cells #[.int .i64 bx, .int .i64 b_y] 27))) (WB.at_ (WB.made v _ _ _ _) ((bel_A (v.alloc (.cells #[.slice (some ⟨v.heap.size + 1, 0, none⟩) 1 1, .int .i64 S, .int .i64 0] 32)) (.cells #[.int .i64 bx, .int .i64 b_y] 27)).block _ (by simp))) h9 ⟨hz0, by simp; omega⟩ (by simp [Value.ownBlock]); exact ⟨v.heap.size, _, _, rfl, h8⟩)
  case rest =>
    obtain ⟨bo, AP, cP, rfl, h8⟩ := hcut
    have H8 := Lib.hid h8
    clear h8 HPAR hltI HDK HB5 HOD g0 g1 a0 a1 t0 t1
    obtain ⟨t0, t1⟩ := H8.out.b.b.t
    go_upto_region 10 with fail
    have H9 := Lib.hid (W9.made H8.out bx b_y)
    generalize wc.alloc (.cells #[.int .i64 bx, .int .i64 b_y] 27) = w9 at H9 ⊢
    generalize wc.heap.size = ba at H9 ⊢
    clear H8 t0 t1
    have HSM : Hid (L.length ≤ 65) := (way_small (p := ⟨bx, b_y⟩) HR.out HGD.out HWT.out HOB.out).1
    have HW0 : Hid (∃ L', WayTo side l d0 ⟨bx, b_y⟩ (L' ++ [⟨bx, b_y⟩]) ∧ L = L' ++ [⟨bx, b_y⟩]) := by
      obtain ⟨L', e⟩ := HWT.out.last
      exact ⟨L', by rw [← e]; exact HWT.out, e⟩
    have HS0 : Hid (0 ≤ dk d0 (pn side bx b_y)) := by show _ ≤ _; rw [HPP.out, HVV.out]; exact hv
    have HSRC : Hid (dk d0 (pn side ax ay) = 0) := HGD.out.src.2
    obtain ⟨i0, hin, hz0, hz1, hz2⟩ := info_parts Try.infoPl
    have hs8 := side_bound (right_parts HR.out).1
    clear hv
    go_loopg [] (dk d0 (pn side bx b_y)).toNat (fun K wr => ∃ (px py : Int) (A2 : Option Addr) (c2 : Nat) (P : List Pl), W9 w side A c l ax ay bx b_y (.slice (some ⟨gD, 0, none⟩) d0.length cD) d0 bo (.slice A2 P.length c2) P S ba px py wr ∧ Hid (opn side l px py = true ∧ 0 ≤ dk d0 (pn side px py) ∧ (dk d0 (pn side px py)).toNat ≤ K ∧ (∃ L', WayTo side l d0 ⟨px, py⟩ (L' ++ [⟨px, py⟩]) ∧ L = L' ++ P) ∧ 0 < P.length))
    case atStart => exact ⟨bx, b_y, AP, cP, [⟨bx, b_y⟩], H9.out, HOB.out, HS0.out, Nat.le_refl _, HW0.out, by simp⟩
    case round =>
      obtain ⟨px, py, A2, c2, P, h9, HM⟩ := hrel
      have HK := Lib.hid h9
      clear H9 h9 HW0 HS0
      have HOP : Hid (opn side l px py = true) := HM.out.1
      obtain ⟨p0, p1⟩ := HK.out.pb
      obtain ⟨f0, f1⟩ := HK.out.s.b.b.f
      by_cases hend : px = ax ∧ py = ay
      · obtain ⟨hex, hey⟩ := hend
        subst hex hey
        have HE : Hid (P = L) := by
          show P = L
          obtain ⟨_, _, _, ⟨L', h1, h2⟩, _⟩ := HM.out
          have h3 := h1.stop (by rw [HSRC.out]; exact Int.le_refl _)
          have h4 : L' = [] := by simpa using h3
          rw [h2, h4, List.nil_append]
        obtain ⟨r0, r1, r2, q0, q1, q2⟩ := HK.out.s.b.r
        obtain ⟨o0, o1, o2, _, _, _⟩ := HK.out.s.o
        have hbr : ¬ bo = w.heap.size + 1 + 1 + 1 := by have := HK.out.s.bo2.1; omega
        go_wp2_with fail
        refine bodyPost_ret (v := .agg #[.slice A2 P.length c2, .int .i64 S, .int .i64 0]) (by simp [results, Try.results7, go_sem, r0, r1, r2]) rfl ?_
        rw [← HE.out]
        refine ⟨A2, c2, rfl, ?_, ((HK.out.s.b.b.bel.setCell (by show w.heap.size ≤ w.heap.size + 1 + 1 + 1; omega) _).setCell (by show w.heap.size ≤ w.heap.size + 1 + 1 + 1; omega) _).setCell (by show w.heap.size ≤ w.heap.size + 1 + 1 + 1; omega) _⟩
        refine OwnPl.lower (by omega) (OwnPl.set_below (base := w.heap.size + 1 + 1 + 1 + 1) (by show w.heap.size + 1 + 1 + 1 < _; omega) _ (OwnPl.set_below (by show w.heap.size + 1 + 1 + 1 < _; omega) _ (OwnPl.set_below (by show w.heap.size + 1 + 1 + 1 < _; omega) _ HK.out.s.oP)))
      · have HPOS : Hid (0 < dk d0 (pn side px py)) := by
          show _ < _
          rcases Int.lt_or_eq_of_le HM.out.2.1 with h | h
          · exact h
          · have := zero_src HR.out HGD.out HOA.out (p := ⟨px, py⟩) HM.out.1 h.symm
            injection this with h1 h2
            exact absurd ⟨h1, h2⟩ hend
        have hdf : ¬ px = ax ∨ (px = ax ∧ ¬ py = ay) := by omega
        have hgi := (opn_parts HR.out HOP.out).1
        have hBs := fun w h => mBeside_any side px py A c l w h HR.out hgi
        have hAp := fun A n c w => mAt5_any HR.out hgi A n c w
        have hlp := (pn_lt HR.out hgi).1
        have hlpI : ((pn side px py : Nat) : Int) < (d0.length : Int) := by rw [HGD.out.len]; omega
        go_upto_region 10 with fail
        go_cut [57] from 55 to 100 (fun c57 wx => c57 = .bool true ∧ wx = wr)
        case first =>
          rcases hdf with h5 | ⟨rfl, h5⟩
          all_goals
            go_wp2_with fail
            go_meet
            exact ⟨rfl, rfl⟩
        obtain ⟨rfl, rfl⟩ := hcut
        obtain ⟨p0, p1⟩ := HK.out.pb
        obtain ⟨g0, g1, _, _⟩ := HK.out.s.b.b.g
        go_wp2_with fail
        refine (hBs _ ((H.out.below HK.out.s.b.b.bel).mono HK.out.s.b.b.bel.size)).mono ?_
        rintro e wb ⟨A9, c9, rfl, o9, hb⟩
        have HK5 := Lib.hid (HK.out.below hb)
        have HRW := Lib.hid (RowL.of o9)
        have HIX : Hid (∃ (I : Nat) (hI : I < (bes side l px py).length), prv side l d0 ⟨px, py⟩ = (bes side l px py)[I] ∧ (dk d0 (pn side ((bes side l px py)[I]).x ((bes side l px py)[I]).y) + cst l (pn side ((bes side l px py)[I]).x ((bes side l px py)[I]).y) (pn side px py) == dk d0 (pn side px py)) = true ∧ ∀ j (hj : j < (bes side l px py).length), j < I → (dk d0 (pn side ((bes side l px py)[j]).x ((bes side l px py)[j]).y) + cst l (pn side ((bes side l px py)[j]).x ((bes side l px py)[j]).y) (pn side px py) == dk d0 (pn side px py)) = false) := by
          obtain ⟨h1, h2, h3, h4⟩ := prv_idx HR.out HGD.out (p := ⟨px, py⟩) HOP.out HPOS.out
          exact ⟨_, h1, h2, h3, h4⟩
        have HBM : Hid (∀ t (ht : t < (bes side l px py).length), opn side l ((bes side l px py)[t]).x ((bes side l px py)[t]).y = true ∧ Stp side l (pn side ((bes side l px py)[t]).x ((bes side l px py)[t]).y) (pn side px py)) := by
          intro t ht
          obtain ⟨m1, m2⟩ := bes_mem.1 (List.getElem_mem ht)
          exact ⟨m2, stp_back ⟨px, py, _, _, HOP.out, m2, m1, rfl, rfl⟩⟩
        have hLl : (bes side l px py).length ≤ 4 := by have := besTo_len side l px py 4; exact this
        clear o9 hb HK hBs g0 g1 p0 p1 f0 f1 hend hdf
        generalize hLs : bes side l px py = Ls at *
        clear hLs
        obtain ⟨I, hI, hpe, hok, hno⟩ := HIX.out
        have HPE := Lib.hid hpe
        have HOKI := Lib.hid hok
        have HNOI := Lib.hid hno
        clear hpe hok hno HIX
        go_wp2_with fail
        go_loopg [11] Ls.length (fun K i11 wr => ∃ i : Nat, K = Ls.length - i ∧ i11 = .int .i64 i ∧ i ≤ I ∧ W9 w side A c l ax ay bx b_y (.slice (some ⟨gD, 0, none⟩) d0.length cD) d0 bo (.slice A2 P.length c2) P S ba px py wr ∧ RowL A9 Ls wr)
        case atStart => exact ⟨0, by simp, rfl, Nat.zero_le _, HK5.out, HRW.out⟩
        case round =>
          obtain ⟨i, rfl, rfl, hi', h9, hrw⟩ := hrel
          have HK := Lib.hid h9
          have HRW6 := Lib.hid hrw
          clear HK5 HRW h9 hrw
          have hlt : i < Ls.length := by omega
          have hiI : (i : Int) < (Ls.length : Int) := by omega
          obtain ⟨hou, hst⟩ := HBM.out i hlt
          obtain ⟨bl, e9, hpt⟩ := HRW6.out.at_ hlt
          subst e9
          have HRP : Hid (∀ v, RowL (some ⟨bl, 0, none⟩) Ls v → PlAt v bl (i * 2) Ls[i]) := by
            intro v hh
            obtain ⟨bl2, e10, h10⟩ := hh.at_ hlt
            cases e10
            exact h10
          have HNI : Hid (i < I → (dk d0 (pn side Ls[i].x Ls[i].y) + cst l (pn side Ls[i].x Ls[i].y) (pn side px py) == dk d0 (pn side px py)) = false) := fun h => HNOI.out i hlt h
          have HYI : Hid (i = I → (dk d0 (pn side Ls[i].x Ls[i].y) + cst l (pn side Ls[i].x Ls[i].y) (pn side px py) == dk d0 (pn side px py)) = true ∧ prv side l d0 ⟨px, py⟩ = Ls[i]) := by
            intro h
            subst h
            exact ⟨HOKI.out, HPE.out⟩
          generalize hu : Ls[i] = pu at hou hst hpt HRP HNI HYI
          clear hu
          obtain ⟨ux, uy⟩ := pu
          simp only at hou hst
          have HOU := Lib.hid hou
          have hgu := (opn_parts HR.out hou).1
          have hAu := fun A n c w => mAt5_any HR.out hgu A n c w
          have hSt := fun w h => mStep5_any side ux uy px py A c l w h HR.out hgu hgi
          have hlu := (pn_lt HR.out hgu).1
          have hluI : ((pn side ux uy : Nat) : Int) < (d0.length : Int) := by rw [HGD.out.len]; omega
          have HDP : Hid (∀ (v : World), W9 w side A c l ax ay bx b_y (.slice (some ⟨gD, 0, none⟩) d0.length cD) d0 bo (.slice A2 P.length c2) P S ba px py v → v.cell? ⟨gD, pn side px py, none⟩ = some (.int .i64 (dk d0 (pn side px py))) ∧ v.cell? ⟨gD, pn side ux uy, none⟩ = some (.int .i64 (dk d0 (pn side ux uy)))) := by
            intro v hh
            have e1 := HGD.out.len
            obtain ⟨g1, q1, _, _, hc1, _⟩ := hh.s.dd.at_ (j := pn side px py) (by omega)
            cases q1
            obtain ⟨g2, q2, _, _, hc2, _⟩ := hh.s.dd.at_ (j := pn side ux uy) (by omega)
            cases q2
            rw [dk_lt (by omega), dk_lt (by omega)]
            exact ⟨hc1, hc2⟩
          have hxa := sum_le HR.out HGD.out (p := ⟨ux, uy⟩) hou
          have hxb : -1 ≤ dk d0 (pn side ux uy) := by rcases HGD.out.lab _ hlu with h | h <;> omega
          have hcl := (gr_grid HR.out).low _ _ hst
          have hch := (gr_grid HR.out).high _ _ hst
          have HPRV := Lib.hid (prv_less HR.out HGD.out (p := ⟨px, py⟩) HOP.out HPOS.out)
          have HPRP := Lib.hid (prv_parts HR.out HGD.out (p := ⟨px, py⟩) HOP.out HPOS.out)
          have HXA : Hid (∃ xa, xa = dk d0 (pn side px py)) := ⟨_, rfl⟩
          obtain ⟨xa, hxae⟩ := HXA.out
          obtain ⟨xu, hxue⟩ : ∃ xu, xu = dk d0 (pn side ux uy) := ⟨_, rfl⟩
          obtain ⟨cc, hcce⟩ : ∃ cc, cc = cst l (pn side ux uy) (pn side px py) := ⟨_, rfl⟩
          simp only at hxa
          rw [← hcce] at hcl hch hSt
          rw [← hxue] at hxa hxb
          rw [← hxae, ← hxue] at HDP
          simp only [← hxae, ← hxue, ← hcce] at HNI HYI
          have hwr : IntKind.i64.wrap (xu + cc) = xu + cc := IntWalk.i64_in _ (by omega)
          clear hxae hxue hcce HXA
          have HSI : Hid (∀ w', W9 w side A c l ax ay bx b_y (.slice (some ⟨gD, 0, none⟩) d0.length cD) d0 bo (.slice A2 P.length c2) P S ba px py w' ∧ RowL (some ⟨bl, 0, none⟩) Ls w' → w'.cell? ⟨w.heap.size, 0, none⟩ = some (.int .i64 side) ∧ w'.cell? ⟨w.heap.size, 1, none⟩ = some (.slice A l.length c) ∧ w'.cell? ⟨ba, 0, none⟩ = some (.int .i64 px) ∧ w'.cell? ⟨ba, 1, none⟩ = some (.int .i64 py) ∧ w'.cell? ⟨bl, i * 2, none⟩ = some (.int .i64 ux) ∧ w'.cell? ⟨bl, i * 2 + 1, none⟩ = some (.int .i64 uy) ∧ w'.cell? ⟨gD, pn side px py, none⟩ = some (.int .i64 xa) ∧ w'.cell? ⟨gD, pn side ux uy, none⟩ = some (.int .i64 xu)) := by
            rintro w' ⟨hh, hr9⟩
            have hp := HRP.out _ hr9
            exact ⟨hh.s.b.b.g.c0, hh.s.b.b.g.c1, hh.pb.c0, hh.pb.c1, hp.c0, hp.c1, (HDP.out _ hh).1, (HDP.out _ hh).2⟩
          have HKB : Hid (∀ (v v' : World), W9 w side A c l ax ay bx b_y (.slice (some ⟨gD, 0, none⟩) d0.length cD) d0 bo (.slice A2 P.length c2) P S ba px py v ∧ RowL (some ⟨bl, 0, none⟩) Ls v → Below v.heap.size v v' → W9 w side A c l ax ay bx b_y (.slice (some ⟨gD, 0, none⟩) d0.length cD) d0 bo (.slice A2 P.length c2) P S ba px py v' ∧ RowL (some ⟨bl, 0, none⟩) Ls v') := fun v v' h hb => ⟨h.1.below hb, h.2.below hb⟩
          clear hou hst hpt hlp hlu hgu hgi
          go_upto_region 15 with fail
          go_cut [90] from 61 to 94 (fun c90 wx => c90 = .bool (xu + cc == xa) ∧ W9 w side A c l ax ay bx b_y (.slice (some ⟨gD, 0, none⟩) d0.length cD) d0 bo (.slice A2 P.length c2) P S ba px py wx ∧ RowL (some ⟨bl, 0, none⟩) Ls wx)
          case first =>
            have q0 := HKB.out _ _ ⟨HK.out, HRW6.out⟩ (bel_D _)
            have hkeep := HSI.out _ q0
            go_region_held3 (fun w' => w'.cell? ⟨w.heap.size, 0, none⟩ = some (.int .i64 side) ∧ w'.cell? ⟨w.heap.size, 1, none⟩ = some (.slice A l.length c) ∧ w'.cell? ⟨ba, 0, none⟩ = some (.int .i64 px) ∧ w'.cell? ⟨ba, 1, none⟩ = some (.int .i64 py) ∧ w'.cell? ⟨bl, i * 2, none⟩ = some (.int .i64 ux) ∧ w'.cell? ⟨bl, i * 2 + 1, none⟩ = some (.int .i64 uy) ∧ w'.cell? ⟨gD, pn side px py, none⟩ = some (.int .i64 xa) ∧ w'.cell? ⟨gD, pn side ux uy, none⟩ = some (.int .i64 xu))
              (first | (with_reducible exact hkeep) | go_keep)
              (first
                | (go_at_call 31; have _c := q2; clear _c; refine (hAp _ _ _ v2).mono ?_; rintro e v3 ⟨rfl, hb⟩; clear hkeep; have q3 := HKB.out _ _ q2 hb; have hkeep := HSI.out _ q3; clear hb)
                | (go_at_call 33; have _c := q1; clear _c; refine (hSt v1 ((H.out.below q1.1.s.b.b.bel).mono q1.1.s.b.b.bel.size)).mono ?_; rintro e v2 ⟨rfl, hb⟩; clear hkeep; have q2 := HKB.out _ _ q1 hb; have hkeep := HSI.out _ q2; clear hb)
                | (go_at_call 31; refine (hAu _ _ _ wr.drew).mono ?_; rintro e v1 ⟨rfl, hb⟩; clear hkeep; have q1 := HKB.out _ _ q0 hb; have hkeep := HSI.out _ q1; clear hb))
            all_goals
              have Q2 := Lib.hid q3
              clear hkeep q0 q1 q2 q3
              go_wp2_with fail
              go_meet
              exact ⟨rfl, Q2.out⟩
          obtain ⟨rfl, hq⟩ := hcut
          have HQ := Lib.hid hq
          clear HK HRW6 hq hwr
          generalize wc = w6 at *
          have hp := HRP.out _ HQ.out.2
          obtain ⟨k0, k1⟩ := hp
          by_cases hii : i = I
          · subst hii
            obtain ⟨hyes, hpe⟩ := HYI.out rfl
            have HPE2 := Lib.hid hpe
            rw [hyes]
            clear hyes hpe
            obtain ⟨p0, p1⟩ := HQ.out.1.pb
            have hf0 := HQ.out.1.f0
            have hf1 := HQ.out.1.f1
            go_upto_region 17 with fail
            have H7 := Lib.hid (HQ.out.1.go ux uy)
            generalize (w6.setCell ⟨ba, 0, none⟩ (.int .i64 ux)).setCell ⟨ba, 1, none⟩ (.int .i64 uy) = w7 at H7 ⊢
            clear p0 p1 hf0 hf1 k0 k1 HQ
            obtain ⟨p0, p1⟩ := H7.out.pb
            obtain ⟨o0, o1, o2, n0, n1, n2⟩ := H7.out.s.o
            obtain ⟨bP, hbP, hbP1, hbP2, _, _⟩ := H7.out.s.oP.at_ (j := 0) HM.out.2.2.2.2
            have hbo := H7.out.s.bo2.2
            subst hbP
            have HN7 := Lib.hid (OwnPl.one w7 w7.heap.size ux uy (Nat.le_refl _))
            have HNP : Hid (∀ j (hj : j < P.length), PlAt (w7.alloc (.cells #[.int .i64 ux, .int .i64 uy] 27)) bP (0 + j * 2) P[j]) := by
              intro j hj
              obtain ⟨b2, e2, _, h3, h4, _⟩ := H7.out.s.oP.at_ (j := j) hj
              cases e2
              rw [Nat.zero_add]
              exact h4.keep ((bel_A w7 _).block _ h3)
            have HPL : Hid (P.length ≤ 65) := by
              obtain ⟨_, _, _, ⟨L', _, h2⟩, _⟩ := HM.out
              have := congrArg List.length h2
              have h3 := HSM.out
              simp only [List.length_append] at this
              show _ ≤ _
              omega
            have hbo7 : bo < (w7.alloc (.cells #[.int .i64 ux, .int .i64 uy] 27)).heap.size := by simp; omega
            have HOC : Hid ((w7.alloc (.cells #[.int .i64 ux, .int .i64 uy] 27)).cell? ⟨bo, 0, none⟩ = some (.slice (some ⟨bP, 0, none⟩) P.length c2) ∧ (w7.alloc (.cells #[.int .i64 ux, .int .i64 uy] 27)).frozen? ⟨bo, 0, none⟩ = false) := by
              have e := (bel_A w7 (.cells #[.int .i64 ux, .int .i64 uy] 27)).block bo hbo
              exact ⟨(World.cell?_of_block (a := ⟨bo, 0, none⟩) e).trans o0, (froz_at e).trans n0⟩
            go_wp2_with (at_builtin; refine append_pls hin hz0 hz1 hz2 rfl _ _ rfl w7.heap.size (.slice (some ⟨w7.heap.size, 0, none⟩) 1 1) [⟨ux, uy⟩] P (w7.alloc (.cells #[.int .i64 ux, .int .i64 uy] 27)) bP 0 c2 HN7.out (by simp [Act.eval]) (by simp [Act.eval]) HNP.out (by have := HPL.out; simp; omega) (by simp) ?_; intro v' w8 ho8 hg8; obtain ⟨A3, c3, rfl⟩ := ho8.form; have hne : ¬ bo = w7.heap.size := (by omega); have x0 := (World.cell?_of_block (a := ⟨bo, 0, none⟩) (hg8.block bo hbo7 (fun e => hne (Option.some.inj e)))).trans HOC.out.1; have x1 := (World.frozen?_of_block (a := ⟨bo, 0, none⟩) (hg8.block bo hbo7 (fun e => hne (Option.some.inj e)))).trans HOC.out.2)
            have HG8 : Hid (w7.grownBy w8 (some w7.heap.size)) := by_trans (below_by (bel_A w7 _) _) hg8
            have H8 := Lib.hid (H7.out.turn HG8.out (Nat.le_refl _) ho8)
            clear ho8 hg8 x0 x1 p0 p1 o0 o1 o2 n0 n1 n2
            try go_wp2
            go_roundg (dk d0 (pn side ux uy)).toNat
            case measure =>
              have h1 := HPRV.out
              rw [HPE2.out] at h1
              have h2 := HM.out.2.2.1
              have h3 := HPOS.out
              simp only at h1
              omega
            case rel =>
              obtain ⟨h1, h2, h3, ⟨L', h4, h5⟩, h6⟩ := HM.out
              have h7 := HPRP.out
              obtain ⟨L'', e1, h8⟩ := h4.back HPOS.out
              rw [HPE2.out] at h7 h8
              have e2 := List.append_cancel_right e1
              subst e2
              obtain ⟨L3, e3⟩ := h8.last
              refine ⟨ux, uy, A3, c3, [⟨ux, uy⟩] ++ P, H8.out, h7.1, h7.2.2.1, Nat.le_refl _, ⟨L3, by rw [← e3]; exact h8, ?_⟩, by simp⟩
              rw [h5, e3, List.append_assoc]
          · have hno := HNI.out (by omega)
            rw [hno]
            clear hno
            go_wp2
            go_roundg (Ls.length - (i + 1))
            case measure => omega
            case rel => exact ⟨i + 1, rfl, by go_num, by omega, HQ.out.1, HQ.out.2⟩
end Go.Proofs.Ytmjbefjkkncjlaa

namespace Go.Proofs.Ytmjbefjkkncjlaa
open Go.RowKit
set_option linter.unusedVariables false
set_option linter.unusedSimpArgs false

theorem wayto_any (side : Int) (l : List Int) (ax ay bx b_y : Int) (d : List Int) (hd : (gridRight side l && opn side l ax ay) = true → GDist side l ax ay d) : ∃ L, (gridRight side l && opn side l ax ay && opn side l bx b_y) = true → WayTo side l d ⟨bx, b_y⟩ L := by
  by_cases h : (gridRight side l && opn side l ax ay && opn side l bx b_y) = true
  · have h' := h
    simp only [Bool.and_eq_true] at h'
    obtain ⟨L, hL⟩ := way_any (p := ⟨bx, b_y⟩) h'.1.1 (hd (by simp [h'.1.1, h'.1.2])) h'.2
    exact ⟨L, fun _ => hL⟩
  · exact ⟨[], fun e => absurd e h⟩
theorem wayOut_good {side : Int} {l : List Int} {ax ay bx b_y : Int} {d : List Int} {L : List Pl} (h : (wayOut side l ax ay bx b_y d L).1 = 0) : gridRight side l = true ∧ opn side l ax ay = true ∧ opn side l bx b_y = true ∧ 0 ≤ dk d (pn side bx b_y) ∧ wayOut side l ax ay bx b_y d L = (0, dk d (pn side bx b_y), L) := by
  cases hr : gridRight side l
  · simp [wayOut, hr] at h
  · cases hi : gridIn side ax ay && gridIn side bx b_y
    · simp [wayOut, hr, hi] at h
    · by_cases hn : dOne side l ax ay bx b_y d < 0
      · simp [wayOut, hr, hi, hn] at h
      · have e : wayOut side l ax ay bx b_y d L = (0, dk d (pn side bx b_y), L) := by simp [wayOut, hr, hi, hn]
        cases ho : (gridRight side l && opn side l ax ay && opn side l bx b_y)
        · exact absurd (by simp [dOne, ho]) hn
        · have h' := ho
          simp only [Bool.and_eq_true] at h'
          have e2 : dOne side l ax ay bx b_y d = dk d (pn side bx b_y) := by unfold dOne; rw [ho]; rfl
          rw [e2] at hn
          exact ⟨rfl, h'.1.2, h'.2, by omega, e⟩
theorem mWayOf_any (side ax ay bx b_y : Int) (A : Option Addr) (c : Nat) (l d0 : List Int) (L : List Pl) (w : World) (h : RI w w.heap.size A l) (hl : l.length ≤ 1000000000) (hd : (gridRight side l && opn side l ax ay) = true → GDist side l ax ay d0) (hL : (gridRight side l && opn side l ax ay && opn side l bx b_y) = true → WayTo side l d0 ⟨bx, b_y⟩ L) :
    Calls Try.prog 7 #[.agg #[.int .i64 side, .slice A l.length c], .agg #[.int .i64 ax, .int .i64 ay], .agg #[.int .i64 bx, .int .i64 b_y]] w fun e w' => WOut w w' (wayOut side l ax ay bx b_y d0 L).2.1 (wayOut side l ax ay bx b_y d0 L).1 (wayOut side l ax ay bx b_y d0 L).2.2 e := by
  by_cases hne : (wayOut side l ax ay bx b_y d0 L).1 = 0
  · obtain ⟨hr, ha, hb, hv, e⟩ := wayOut_good hne
    rw [e]
    exact mWayOf_good side ax ay bx b_y A c l d0 L w h hl hr ha hb hv (hd (by simp [hr, ha])) (hL (by simp [hr, ha, hb]))
  · exact mWayOf_err side ax ay bx b_y A c l d0 L w h hl hd hne
/-- How many places, how far. -/
theorem wayOut_small {side : Int} {l : List Int} {ax ay bx b_y : Int} {d : List Int} {L : List Pl} (hd : (gridRight side l && opn side l ax ay) = true → GDist side l ax ay d) (hL : (gridRight side l && opn side l ax ay && opn side l bx b_y) = true → WayTo side l d ⟨bx, b_y⟩ L) : (wayOut side l ax ay bx b_y d L).2.2.length ≤ 65 := by
  by_cases hne : (wayOut side l ax ay bx b_y d L).1 = 0
  · obtain ⟨hr, ha, hb, hv, e⟩ := wayOut_good hne
    rw [e]
    exact (way_small hr (hd (by simp [hr, ha])) (hL (by simp [hr, ha, hb])) hb).1
  · unfold wayOut at hne ⊢
    split
    · simp
    · split
      · simp
      · split
        · simp
        · rename_i h1 h2 h3
          simp [h1, h2, h3] at hne
end Go.Proofs.Ytmjbefjkkncjlaa
