/- The model's ways: what is beside a place. -/
import Derived.Test.YtmjbefjkkncjlaaWyN
import Derived.Deep.AppendLies
namespace Go.Proofs.Ytmjbefjkkncjlaa
open Go.RowKit
set_option linter.unusedVariables false
set_option linter.unusedSimpArgs false

/-- The four places about one. -/
def abP (x y : Int) : List Pl := [⟨x, y - 1⟩, ⟨x - 1, y⟩, ⟨x + 1, y⟩, ⟨x, y + 1⟩]
/-- Those of the first k of them that are open. -/
def besTo (side : Int) (l : List Int) (x y : Int) (k : Nat) : List Pl := ((abP x y).take k).filter (fun p => opn side l p.x p.y)
def bes (side : Int) (l : List Int) (x y : Int) : List Pl := (abP x y).filter (fun p => opn side l p.x p.y)
theorem besTo_step (side : Int) (l : List Int) (x y : Int) (k : Nat) (h : k < (abP x y).length) : besTo side l x y (k + 1) = besTo side l x y k ++ (if opn side l ((abP x y)[k]).x ((abP x y)[k]).y then [(abP x y)[k]] else []) := by
  unfold besTo
  rw [List.take_succ_eq_append_getElem h, List.filter_append]
  congr 1
  simp only [List.filter_cons, List.filter_nil]
theorem besTo_len (side : Int) (l : List Int) (x y : Int) (k : Nat) : (besTo side l x y k).length ≤ 4 := by
  unfold besTo
  refine Nat.le_trans (List.length_filter_le _ _) ?_
  rw [List.length_take]
  exact Nat.min_le_right _ _
theorem bes_mem {side : Int} {l : List Int} {x y : Int} {p : Pl} : p ∈ bes side l x y ↔ (p.x, p.y) ∈ abt x y ∧ opn side l p.x p.y = true := by
  unfold bes abP abt
  rw [List.mem_filter]
  obtain ⟨u, v⟩ := p
  simp only [List.mem_cons, Pl.eq_iff, Prod.mk.injEq, List.not_mem_nil, or_false]

theorem appendPl_l {i0 : TypeInfo} (hi : Try.prog.info? 27 = some i0) (hz0 : i0.zero = some (.agg #[.int .i64 0, .int .i64 0])) (hz1 : i0.size = 2) (hz2 : i0.bytes = 16)
    {ops : Array Oper} {rest : List Oper} {o : Oper} {a : Act} {Q : Exit → Act → World → Prop} (hgd : o.guard = none) (s x : Operand)
    (ho : o.op = .call { callee := .builtin .append, args := #[s, x], argTypes := #[30, 30] })
    (base : Nat) (v : Value) (l : List Pl) (n : Pl) (wr : World) (b : Nat) (hown : OwnPl wr base v l) (hs : a.eval s = v) (hx : a.eval x = .slice (some ⟨b, 0, none⟩) 1 1) (hn : PlAt wr b 0 n) (hlen : l.length ≤ 1000000) (hb : base ≤ wr.heap.size)
    (h : ∀ g cap w', OwnPl w' base (.slice (some ⟨g, 0, none⟩) (l ++ [n]).length cap) (l ++ [n]) → wr.grownBy w' v.ownBlock → (v.ownBlock = some g ∨ g = wr.heap.size) → wpList Try.prog ops Q rest (a.put o.dst (.slice (some ⟨g, 0, none⟩) (l ++ [n]).length cap)) w') :
    wpList Try.prog ops Q (o :: rest) a wr := by
  refine wpList_append_lies _ hgd s x 30 ho base 27 i0 (.agg #[.int .i64 0, .int .i64 0]) 2 16 Try.underlying30 hi hz0 hz1 hz2 rfl (by decide) v l.length _ hs hown ⟨b, 0, none⟩ 1 1 n.cells hx rfl (newsPl hn) ?_ (by decide) ?_ ?_ hb wr.heap.size rfl ?_
  · intro u hu
    simp [Pl.cells] at hu
    rcases hu with rfl | rfl <;> rfl
  · unfold maxLen; omega
  · omega
  · intro g cap w' hown' hgrow hlies _
    have e : (l ++ [n]).length = l.length + 1 := by simp
    have := h g cap w' (by unfold OwnPl; rw [e]; simpa [List.flatMap_append] using hown') hgrow hlies
    rw [e] at this
    exact this
theorem OwnPl.none_lit (w : World) (base : Nat) (hb : base ≤ w.heap.size) : OwnPl (w.alloc (.cells #[] 27)) base (.slice (some ⟨w.heap.size, 0, none⟩) 0 0) [] := by
  have := World.ownsRow_lit (e := 27) (size := 2) (base := base) w #[] 0 hb (by simp) (by simp)
  simpa [OwnPl] using this
theorem GB.at5 {w w' : World} {b : Nat} {side : Int} {v : Value} (h : GB w b side v) (e : w'.heap[b]? = w.heap[b]?) : GB w' b side v :=
  ⟨(World.cell?_of_block (a := ⟨b, 0, none⟩) e).trans h.c0, (World.cell?_of_block (a := ⟨b, 1, none⟩) e).trans h.c1, (World.frozen?_of_block (a := ⟨b, 0, none⟩) e).trans h.f0, (World.frozen?_of_block (a := ⟨b, 1, none⟩) e).trans h.f1⟩

/-- While what is beside a place is gathered. -/
structure BI (w : World) (side : Int) (A : Option Addr) (c : Nat) (l : List Int) (x y : Int) (v : Value) (L : List Pl) (wr : World) : Prop where
  g : GB wr w.heap.size side (.slice A l.length c)
  row : ∀ j (h : j < (abP x y).length), PlAt wr (w.heap.size + 1 + 1 + 1) (j * 2) (abP x y)[j]
  own : OwnPl wr (w.heap.size + 1 + 1) v L
  ap : v.ownBlock ≠ some (w.heap.size + 1 + 1 + 1)
  bel : Below w.heap.size w wr
  siz : w.heap.size + 1 + 1 + 1 < wr.heap.size
section
variable {w wr wr' : World} {side x y : Int} {A : Option Addr} {c : Nat} {l : List Int} {v : Value} {L L' : List Pl}
theorem BI.below (h : BI w side A c l x y v L wr) (hb : Below wr.heap.size wr wr') : BI w side A c l x y v L wr' := by
  have hz := h.siz
  exact ⟨h.g.below hb (by omega), fun j hj => (h.row j hj).keep (hb.block _ hz), h.own.keep hb, h.ap, h.bel.trans (hb.mono (by omega)), Nat.lt_of_lt_of_le hz hb.size⟩
theorem BI.push {g n cap : Nat} (h : BI w side A c l x y v L wr) (ho : OwnPl wr' (w.heap.size + 1 + 1) (.slice (some ⟨g, 0, none⟩) n cap) L') (hg : wr.grownBy wr' v.ownBlock) (hl : v.ownBlock = some g ∨ g = wr.heap.size) : BI w side A c l x y (.slice (some ⟨g, 0, none⟩) n cap) L' wr' := by
  have hz := h.siz
  have hlo := fun k hk => (h.own.lt k hk).1
  refine ⟨h.g.at5 (hg.block _ (by omega) fun e => ?_), fun j hj => (h.row j hj).keep (hg.block _ hz fun e => h.ap e.symm), ho, ?_, h.bel.grown hg (by omega) (fun k hk => by have := hlo k hk; omega), Nat.lt_of_lt_of_le hz hg.size⟩
  · have := hlo _ e.symm
    omega
  · intro e
    simp only [Value.ownBlock, Option.some.injEq] at e
    rcases hl with hl | hl
    · exact h.ap (by rw [hl, e])
    · omega
end

set_option maxRecDepth 100000 in
set_option maxHeartbeats 1000000 in
theorem mBeside_any (side x y : Int) (A : Option Addr) (c : Nat) (l : List Int) (w : World) (h : RI w w.heap.size A l) (hr : gridRight side l = true) (hi : gridIn side x y = true) :
    Calls Try.prog 32 #[.agg #[.int .i64 side, .slice A l.length c], .agg #[.int .i64 x, .int .i64 y]] w fun e w' => ∃ A' c', e = .returned (.slice A' (bes side l x y).length c') ∧ OwnPl w' w.heap.size (.slice A' (bes side l x y).length c') (bes side l x y) ∧ Below w.heap.size w w' := by
  obtain ⟨i0, hin, hz0, hz1, hz2⟩ := info_parts Try.infoPl
  have hOp := fun u v w h => mOpen5_any side u v A c l w h hr
  have hs8 := side_bound (right_parts hr).1
  obtain ⟨x0, x1, y0, y1⟩ := gridIn_iff.1 hi
  have hx8 : x < 8 := by omega
  have hy8 : y < 8 := by omega
  have H := Lib.hid h
  have hlen : (abP x y).length = 4 := rfl
  clear h hr hi x1 y1 hs8
  obtain ⟨W, HW⟩ : ∃ W, W = ((((w.alloc (.cells #[.int .i64 side, .slice A l.length c] 25)).alloc (.cells #[.int .i64 x, .int .i64 y] 27)).alloc (.cells #[] 27)).alloc (.cells #[.int .i64 x, .int .i64 (y - 1), .int .i64 (x - 1), .int .i64 y, .int .i64 (x + 1), .int .i64 y, .int .i64 x, .int .i64 (y + 1)] 27)) := ⟨_, rfl⟩
  have HI0 : Hid (BI w side A c l x y (.slice (some ⟨w.heap.size + 1 + 1, 0, none⟩) 0 0) [] W) := by
    refine ⟨?_, ?_, ?_, by simp [Value.ownBlock], by rw [HW]; exact bel_T (bel_A _ _) (bel_T (bel_A _ _) (bel_T (bel_A _ _) (bel_A _ _))), by rw [HW]; simp⟩
    · rw [HW]; exact ⟨by simp [go_sem], by simp [go_sem], by simp [go_sem], by simp [go_sem]⟩
    · intro j hj
      rw [HW]
      match j, hj with
      | 0, _ => exact ⟨by simp [go_sem, abP], by simp [go_sem, abP]⟩
      | 1, _ => exact ⟨by simp [go_sem, abP], by simp [go_sem, abP]⟩
      | 2, _ => exact ⟨by simp [go_sem, abP], by simp [go_sem, abP]⟩
      | 3, _ => exact ⟨by simp [go_sem, abP], by simp [go_sem, abP]⟩
    · rw [HW]
      have := (OwnPl.none_lit ((w.alloc (.cells #[.int .i64 side, .slice A l.length c] 25)).alloc (.cells #[.int .i64 x, .int .i64 y] 27)) (w.heap.size + 1 + 1) (by simp)).alloc (.cells #[.int .i64 x, .int .i64 (y - 1), .int .i64 (x - 1), .int .i64 y, .int .i64 (x + 1), .int .i64 y, .int .i64 x, .int .i64 (y + 1)] 27)
      simpa using this
  go_enter Try.func32, Try.ntmps32
  go_wp2_with fail
  rw [← HW]
  clear HW
  go_loopw [5, 7] (fun v i wr => ∃ (k : Nat) (A2 : Option Addr) (c2 : Nat), i = .int .i64 k ∧ k ≤ 4 ∧ v = .slice A2 (besTo side l x y k).length c2 ∧ BI w side A c l x y (.slice A2 (besTo side l x y k).length c2) (besTo side l x y k) wr) (fun _ i _ => 4 - (intOf i).toNat)
  case atStart => exact ⟨0, _, _, rfl, Nat.zero_le _, rfl, HI0.out⟩
  case round =>
    obtain ⟨k, A2, c2, rfl, hk, rfl, hbi⟩ := hrel
    have HI := Lib.hid hbi
    clear HI0 hbi
    have hle := besTo_len side l x y k
    by_cases hlt : k < 4
    · have hkl : (k : Int) < 4 := by omega
      have hka : k < (abP x y).length := hlt
      have HST := Lib.hid (besTo_step side l x y k hka)
      have r0 := (HI.out.row k hka)
      generalize hp : (abP x y)[k] = p at r0 HST
      clear hp
      obtain ⟨px, py⟩ := p
      simp only at r0 HST
      have HR0 := Lib.hid r0
      obtain ⟨p0, p1⟩ := r0
      obtain ⟨g0, g1, _, _⟩ := HI.out.g
      have hz := HI.out.siz
      have HId := Lib.hid (HI.out.below (bel_D _))
      have hOp1 := hOp px py _ ((H.out.below HId.out.bel).mono HId.out.bel.size)
      simp only at p0 p1
      cases ho : opn side l px py
      · rw [ho] at hOp1 HST
        clear ho
        go_wp2_with fail
        go_region_held3 (fun w' => w'.cell? ⟨w.heap.size, 0, none⟩ = some (.int .i64 side) ∧ w'.cell? ⟨w.heap.size, 1, none⟩ = some (.slice A l.length c) ∧ w'.cell? ⟨w.heap.size + 1 + 1 + 1, k * 2, none⟩ = some (.int .i64 px) ∧ w'.cell? ⟨w.heap.size + 1 + 1 + 1, k * 2 + 1, none⟩ = some (.int .i64 py))
          (first | (with_reducible exact hkeep) | go_keep)
          (first | (go_at_call 44; refine hOp1.mono ?_; rintro e w3 ⟨rfl, hb3⟩; have HI3 := Lib.hid (HId.out.below hb3); have hr3 := HR0.out.keep ((bel_T (bel_D _) hb3).block _ hz); have hkeep := And.intro HI3.out.g.c0 (And.intro HI3.out.g.c1 (And.intro hr3.c0 hr3.c1)); clear hb3))
        all_goals
          clear hkeep hr3 g0 g1 p0 p1
          go_wp2
          go_roundw
          case rel => exact ⟨k + 1, A2, c2, by go_num, by omega, by rw [HST.out]; simp, by rw [HST.out]; simpa using HI3.out⟩
          case measure => simp [intOf] <;> omega
      · rw [ho] at hOp1 HST
        clear ho
        go_wp2_with fail
        go_region_held3 (fun w' => w'.cell? ⟨w.heap.size, 0, none⟩ = some (.int .i64 side) ∧ w'.cell? ⟨w.heap.size, 1, none⟩ = some (.slice A l.length c) ∧ w'.cell? ⟨w.heap.size + 1 + 1 + 1, k * 2, none⟩ = some (.int .i64 px) ∧ w'.cell? ⟨w.heap.size + 1 + 1 + 1, k * 2 + 1, none⟩ = some (.int .i64 py))
          (first | (with_reducible exact hkeep) | go_keep)
          (first | (go_at_call 44; refine hOp1.mono ?_; rintro e w3 ⟨rfl, hb3⟩; have HI3 := Lib.hid (HId.out.below hb3); have hr3 := HR0.out.keep ((bel_T (bel_D _) hb3).block _ hz); have hkeep := And.intro HI3.out.g.c0 (And.intro HI3.out.g.c1 (And.intro hr3.c0 hr3.c1)); clear hb3))
        all_goals
          have hr4 := Lib.hid hr3
          clear hkeep hr3 g0 g1 p0 p1
          obtain ⟨p0, p1⟩ := hr4.out
          have hz3 := HI3.out.siz
          have HIA := Lib.hid (HI3.out.below (bel_A w3 (.cells #[.int .i64 px, .int .i64 py] 27)))
          have HNA : Hid (PlAt (w3.alloc (.cells #[.int .i64 px, .int .i64 py] 27)) w3.heap.size 0 ⟨px, py⟩) := ⟨by simp [go_sem], by simp [go_sem]⟩
          have hBz : w.heap.size + 1 + 1 ≤ (w3.alloc (.cells #[.int .i64 px, .int .i64 py] 27)).heap.size := by have := HIA.out.siz; omega
          have hle2 : (besTo side l x y k).length ≤ 1000000 := by omega
          simp only at p0 p1
          go_wp2_with (at_builtin; refine appendPl_l hin hz0 hz1 hz2 rfl _ _ rfl (w.heap.size + 1 + 1) (.slice A2 (besTo side l x y k).length c2) (besTo side l x y k) ⟨px, py⟩ _ w3.heap.size HIA.out.own (by simp [Act.eval]) (by simp [Act.eval]) HNA.out hle2 hBz ?_; intro gN capN w4 ho4 hg4 hl4; have HI4 := Lib.hid (HIA.out.push ho4 hg4 hl4); clear ho4 hg4 hl4)
          clear p0 p1
          go_wp2
          go_roundw
          case rel => exact ⟨k + 1, some ⟨gN, 0, none⟩, capN, by go_num, by omega, by rw [HST.out]; simp, by rw [HST.out]; simpa using HI4.out⟩
          case measure => simp [intOf] <;> omega
    · obtain rfl : k = 4 := by omega
      have HE : Hid (besTo side l x y 4 = bes side l x y) := rfl
      go_wp2
      go_ret
      exact ⟨A2, c2, rfl, HI.out.own.lower (by omega), HI.out.bel⟩
end Go.Proofs.Ytmjbefjkkncjlaa
