/- The program's ways: the steps from a place: what the iterator gives. -/
import Derived.Test.YtmjbefjkkncjlaaWyT
import Derived.Sort.CutIn
namespace Go.Proofs.Ytmjbefjkkncjlaa
open Go.RowKit Go.Shelf
set_option linter.unusedVariables false
set_option linter.unusedSimpArgs false
attribute [local go_sem] Oper.semAt_some

theorem index_pl0 (u0 v0 u1 v1 u2 v2 u3 v3 : Int) (w : World) : (Instr.index 90 (.agg #[.int .i64 u0, .int .i64 v0, .int .i64 u1, .int .i64 v1, .int .i64 u2, .int .i64 v2, .int .i64 u3, .int .i64 v3]) (.int .i64 0)).run Try.prog w = .ok (.agg #[.int .i64 u0, .int .i64 v0]) w := by kernel_rfl
theorem index_pl1 (u0 v0 u1 v1 u2 v2 u3 v3 : Int) (w : World) : (Instr.index 90 (.agg #[.int .i64 u0, .int .i64 v0, .int .i64 u1, .int .i64 v1, .int .i64 u2, .int .i64 v2, .int .i64 u3, .int .i64 v3]) (.int .i64 1)).run Try.prog w = .ok (.agg #[.int .i64 u1, .int .i64 v1]) w := by kernel_rfl
theorem index_pl2 (u0 v0 u1 v1 u2 v2 u3 v3 : Int) (w : World) : (Instr.index 90 (.agg #[.int .i64 u0, .int .i64 v0, .int .i64 u1, .int .i64 v1, .int .i64 u2, .int .i64 v2, .int .i64 u3, .int .i64 v3]) (.int .i64 2)).run Try.prog w = .ok (.agg #[.int .i64 u2, .int .i64 v2]) w := by kernel_rfl
theorem index_pl3 (u0 v0 u1 v1 u2 v2 u3 v3 : Int) (w : World) : (Instr.index 90 (.agg #[.int .i64 u0, .int .i64 v0, .int .i64 u1, .int .i64 v1, .int .i64 u2, .int .i64 v2, .int .i64 u3, .int .i64 v3]) (.int .i64 3)).run Try.prog w = .ok (.agg #[.int .i64 u3, .int .i64 v3]) w := by kernel_rfl
theorem besTo_prefix (side : Int) (l : List Int) (x y : Int) (k : Nat) : besTo side l x y k <+: bes side l x y := (List.take_prefix k _).filter _
theorem by_of_below {w w' : World} (h : Below w.heap.size w w') : w.grownBy w' none := ⟨h.os, h.tape, h.output, h.size, fun k hk _ => h.block k hk⟩
theorem abides_below {β : Type} {B : Nat} {J : β → World → Prop} (hJ : AbidesFrom B J) {s : β} {w w' : World} (h : J s w) (hb : Below w.heap.size w w') : J s w' := hJ s w w' none h (by_of_below hb) (fun r e => by cases e)
/-- What the iterator reads. -/
structure IT5 (n₀ : Nat) (bb bg bh bt off : Nat) (side : Int) (c : Nat) (l : List Int) (px py : Int) (W wr : World) : Prop where
  sb : SB wr bb bg bh side (some ⟨bt, off, none⟩) c l px py
  tl : ∀ j (h : j < l.length), wr.cell? ⟨bt, off + j, none⟩ = some (.int .i64 l[j])
  lt : bb < n₀ ∧ bg < n₀ ∧ bh < n₀ ∧ bt < n₀
  siz : n₀ ≤ wr.heap.size
  wsz : W.heap.size ≤ wr.heap.size
theorem IT5.kept {n₀ : Nat} {bb bg bh bt off : Nat} {side : Int} {c : Nat} {l : List Int} {px py : Int} {W wr wr' : World} (h : IT5 n₀ bb bg bh bt off side c l px py W wr) (hz : wr.heap.size ≤ wr'.heap.size) (hk : ∀ k, k = bb ∨ k = bg ∨ k = bh ∨ k = bt → wr'.heap[k]? = wr.heap[k]?) : IT5 n₀ bb bg bh bt off side c l px py W wr' :=
  ⟨h.sb.keep (hk _ (.inl rfl)) (hk _ (.inr (.inl rfl))) (hk _ (.inr (.inr (.inl rfl)))), fun j hj => (World.cell?_of_block (a := ⟨bt, off + j, none⟩) (hk _ (.inr (.inr (.inr rfl))))).trans (h.tl j hj), h.lt, Nat.le_trans h.siz hz, Nat.le_trans h.wsz hz⟩
theorem IT5.below {n₀ : Nat} {bb bg bh bt off : Nat} {side : Int} {c : Nat} {l : List Int} {px py : Int} {W wr wr' : World} (h : IT5 n₀ bb bg bh bt off side c l px py W wr) (hb : Below wr.heap.size wr wr') : IT5 n₀ bb bg bh bt off side c l px py W wr' := by
  obtain ⟨h1, h2, h3, h4⟩ := h.lt
  have hz := h.siz
  exact h.kept hb.size fun k hk => hb.block k (by rcases hk with rfl | rfl | rfl | rfl <;> omega)
theorem IT5.round {n₀ : Nat} {ex : Nat → Prop} {bb bg bh bt off : Nat} {side : Int} {c : Nat} {l : List Int} {px py : Int} {W wr wr' : World} (h : IT5 n₀ bb bg bh bt off side c l px py W wr) (hk : KpE n₀ ex wr wr') (hx : ¬ ex bb ∧ ¬ ex bg ∧ ¬ ex bh ∧ ¬ ex bt) : IT5 n₀ bb bg bh bt off side c l px py W wr' := by
  obtain ⟨h1, h2, h3, h4⟩ := h.lt
  obtain ⟨x1, x2, x3, x4⟩ := hx
  have hz := h.siz
  refine h.kept hk.size fun k hk' => ?_
  rcases hk' with rfl | rfl | rfl | rfl
  · exact hk.block _ h1 (by omega) x1
  · exact hk.block _ h2 (by omega) x2
  · exact hk.block _ h3 (by omega) x3
  · exact hk.block _ h4 (by omega) x4

set_option maxRecDepth 100000 in
set_option maxHeartbeats 2000000 in
theorem pSteps_stops (n : Nat) (hn : 2 ≤ n) (n₀ : Nat) (ex : Nat → Prop) (bb bg bh bt off : Nat) (side : Int) (c : Nat) (l : List Int) (px py : Int) (w : World) (hr : gridRight side l = true) (ho : opn side l px py = true) (hx : ¬ ex bb ∧ ¬ ex bg ∧ ¬ ex bh ∧ ¬ ex bt) (h : IT5 n₀ bb bg bh bt off side c l px py w w) :
    SeqStopsK Fence.wide n Try.prog 67 #[.pointer (some ⟨bb, 0, none⟩), .pointer (some ⟨bg, 0, none⟩), .pointer (some ⟨bh, 0, none⟩)] (stepEnc side l px py) (KpE n₀ ex) (fun xs => xs.map (·.1) = bes side l px py) (fun pre => pre.map (·.1) <+: bes side l px py) 5 w := fun L J Jx W hW hJ hJx hY h0 => by
  have hs8 := side_bound (right_parts hr).1
  have hi := (opn_parts hr ho).1
  have HI0 := Lib.hid (h.below hW)
  have HJ := Lib.hid hJ
  have HJX := Lib.hid hJx
  have HY := Lib.hid hY
  have HH0 := Lib.hid h0
  have HR := Lib.hid hr
  have HX := Lib.hid hx
  obtain ⟨hx0, hx1, hy0, hy1⟩ := gridIn_iff.1 hi
  have hps := (right_parts hr).1
  have HPL : Hid (pn side px py < l.length) := (pn_lt hr hi).1
  have HF : Hid (∀ k (hk : k < (abP px py).length), (In64 (abP px py)[k].x ∧ In64 (abP px py)[k].y) ∧ besTo side l px py (k + 1) = besTo side l px py k ++ (if opn side l ((abP px py)[k]).x ((abP px py)[k]).y then [(abP px py)[k]] else []) ∧ ((abP px py)[k].x, (abP px py)[k].y) ∈ abt px py) := by
    intro k hk
    refine ⟨?_, besTo_step side l px py k hk, ?_⟩
    · match k, hk with
      | 0, _ => exact ⟨by simp [In64, abP]; omega, by simp [In64, abP]; omega⟩
      | 1, _ => exact ⟨by simp [In64, abP]; omega, by simp [In64, abP]; omega⟩
      | 2, _ => exact ⟨by simp [In64, abP]; omega, by simp [In64, abP]; omega⟩
      | 3, _ => exact ⟨by simp [In64, abP]; omega, by simp [In64, abP]; omega⟩
    · match k, hk with
      | 0, _ => simp [abP, abt]
      | 1, _ => simp [abP, abt]
      | 2, _ => simp [abP, abt]
      | 3, _ => simp [abP, abt]
  have hrow := HI0.out.sb.row
  have habl : (abP px py).length = 4 := rfl
  generalize abP px py = P at hrow HF habl
  obtain ⟨⟨u0, v0⟩, ⟨u1, v1⟩, ⟨u2, v2⟩, ⟨u3, v3⟩, rfl⟩ : ∃ p0 p1 p2 p3, P = [p0, p1, p2, p3] := by
    match P, habl with
    | [p0, p1, p2, p3], _ => exact ⟨p0, p1, p2, p3, rfl⟩
  obtain ⟨a0, a1⟩ := hrow 0 (by simp)
  obtain ⟨a2, a3⟩ := hrow 1 (by simp)
  obtain ⟨a4, a5⟩ := hrow 2 (by simp)
  obtain ⟨a6, a7⟩ := hrow 3 (by simp)
  have F0 := Lib.hid (HF.out 0 (by simp))
  have F1 := Lib.hid (HF.out 1 (by simp))
  have F2 := Lib.hid (HF.out 2 (by simp))
  have F3 := Lib.hid (HF.out 3 (by simp))
  simp only [List.getElem_cons_zero, List.getElem_cons_succ, Nat.zero_mul, Nat.one_mul, Nat.reduceMul, Nat.reduceAdd, Nat.zero_add] at a0 a1 a2 a3 a4 a5 a6 a7 F0 F1 F2 F3
  clear HF hrow habl
  clear h hW hJ hJx hY h0 hr ho hx hi
  refine callsIn_of_wp Try.func67 rfl trivial ?_ rfl
  simp only [Try.ntmps67, List.size_toArray, List.length_cons, List.length_nil, Nat.reduceAdd, Nat.reduceSub, Array.replicate_succ, Array.replicate_zero, List.push_toArray, List.append_toArray, List.nil_append, List.cons_append]
  gi_wp2
  clear a0 a1 a2 a3 a4 a5 a6 a7
  gi_loopw [9] (fun i wr => ∃ (k : Nat) (pre : List (StepTo side l px py)), i = .int .i64 k ∧ k ≤ 4 ∧ Hid (pre.map (·.1) = besTo side l px py k) ∧ J pre wr ∧ IT5 n₀ bb bg bh bt off side c l px py w wr ∧ Hid (W.heap.size ≤ wr.heap.size)) (fun i _ => 4 - (intOf i).toNat)
  case atStart => exact ⟨0, [], rfl, Nat.zero_le _, rfl, HH0.out, HI0.out, Nat.le_refl _⟩
  case round =>
    obtain ⟨k, pre, rfl, hk, HPre, hj, hit, HSZ⟩ := hrel
    have HJ1 := Lib.hid hj
    have HIT := Lib.hid hit
    clear hj hit HH0 HI0
    by_cases h4 : k = 4
    · subst h4
      gi_wp2
      go_end0
      exact ⟨⟨_, rfl⟩, .inl ⟨pre, HPre.out, HJ1.out⟩⟩
    · have hk4 : k = 0 ∨ k = 1 ∨ k = 2 ∨ k = 3 := by omega
      clear h4 hk
      rcases hk4 with rfl | rfl | rfl | rfl
      · obtain ⟨ux, hux⟩ : ∃ ux, ux = u0 := ⟨_, rfl⟩
        obtain ⟨uy, huy⟩ : ∃ uy, uy = v0 := ⟨_, rfl⟩
        subst u0 v0
        obtain ⟨⟨hix, hiy⟩, hst, hmem⟩ := F0.out
        have HST := Lib.hid hst
        have HMEM := Lib.hid hmem
        have hlen : pre.length < 5 := by have h1 := congrArg List.length HPre.out; have h2 := besTo_len side l px py 0; simp only [List.length_map] at h1; omega
        have HLEN := Lib.hid hlen
        have hP := fun w => pPlace_any side ux uy w hps hix hiy
        obtain ⟨lt1, lt2, lt3, lt4⟩ := HIT.out.lt
        have hn0 := HIT.out.siz
        have hzg : bg < wr.heap.size := by omega
        have g0 := HIT.out.sb.g0
        have g1 := HIT.out.sb.g1
        have HA := Lib.hid (bel_A wr (.cells #[.int .i64 ux, .int .i64 uy] 27))
        have hix5 := index_pl0 ux uy u1 v1 u2 v2 u3 v3
        clear F0 F1 F2 F3 hst hmem hlen hix hiy lt1 lt2 lt3 lt4 hn0
        cases hin : gridIn side ux uy
        · rw [hin] at hP
          have HNX : Hid (besTo side l px py (0 + 1) = besTo side l px py 0) := by show _ = _; rw [HST.out]; simp [opn, hin]
          clear hin
          gi_wp2_with fail
          refine ⟨trivial, fun _ => by omega, ?_⟩
          refine (callsIn_wide.2 (hP _)).mono ?_
          rintro e w2 ⟨rfl, rfl⟩
          gi_wp2_with fail
          go_roundw
          case rel => exact ⟨0 + 1, pre, by go_num, by omega, HPre.out.trans HNX.out.symm, abides_below HJ.out HJ1.out HA.out, HIT.out.below HA.out, Nat.le_trans HSZ.out HA.out.size⟩
          case measure => simp [intOf] <;> omega
        · rw [hin] at hP
          have hN := fun w => pNum5_any (side := side) (x := ux) (y := uy) (l := l) HR.out hin w
          have hl := (pn_lt HR.out hin).1
          have hlI : ((pn side ux uy : Nat) : Int) < (l.length : Int) := by omega
          have htl := HIT.out.tl _ hl
          have htb := (right_parts HR.out).2.2 _ hl
          have HGD : Hid (l.getD (pn side ux uy) 0 = l[pn side ux uy]) := by show _ = _; simp [List.getD, hl]
          have hph := (right_parts HR.out).2.2 _ HPL.out
          have HGP : Hid (l.getD (pn side px py) 0 = l[pn side px py]'HPL.out) := by show _ = _; simp [List.getD, HPL.out]
          have HC : Hid (cst l (pn side px py) (pn side ux uy) = l[pn side px py]'HPL.out + l[pn side ux uy] + 1) := by show _ = _; unfold cst; rw [HGD.out, HGP.out]; omega
          have HTE0 : Hid (∃ t0, l[pn side ux uy] = t0) := ⟨_, rfl⟩
          obtain ⟨t0, hte⟩ := HTE0.out
          rw [hte] at htl htb HGD HC
          have HTE := Lib.hid hte
          clear hte HTE0
          have HTP0 : Hid (∃ th, l[pn side px py]'HPL.out = th) := ⟨_, rfl⟩
          obtain ⟨th, hthe⟩ := HTP0.out
          rw [hthe] at hph HGP HC
          clear hthe HTP0
          have hw1 : IntKind.i64.wrap (th + t0) = th + t0 := IntWalk.i64_in _ (by omega)
          have hw2 : IntKind.i64.wrap (th + t0 + 1) = th + t0 + 1 := IntWalk.i64_in _ (by omega)
          have HIN := Lib.hid hin
          have HSQ : Hid (∀ w', Below (wr.alloc (.cells #[.int .i64 ux, .int .i64 uy] 27)).heap.size (wr.alloc (.cells #[.int .i64 ux, .int .i64 uy] 27)) w' → w'.cell? ⟨bg, 0, none⟩ = some (.int .i64 side) ∧ w'.cell? ⟨bg, 1, none⟩ = some (.slice (some ⟨bt, off, none⟩) l.length c) ∧ w'.cell? ⟨wr.heap.size, 0, none⟩ = some (.int .i64 ux) ∧ w'.cell? ⟨wr.heap.size, 1, none⟩ = some (.int .i64 uy) ∧ w'.cell? ⟨bt, off + pn side ux uy, none⟩ = some (.int .i64 t0)) := by
            intro w' hb
            have h5 := HIT.out.below (bel_T HA.out hb)
            have h6 := (PlB.made wr ux uy 27).below hb (by simp)
            exact ⟨h5.sb.g0, h5.sb.g1, h6.c0, h6.c1, by have := h5.tl _ hl; rw [HTE.out] at this; exact this⟩
          clear HTE hl htl htb hph hin
          gi_wp2_with fail
          refine ⟨trivial, fun _ => by omega, ?_⟩
          refine (callsIn_wide.2 (hP _)).mono ?_
          rintro e w2 ⟨rfl, rfl⟩
          gi_upto_region 4 with fail
          refine wpIn_wide.2 ?_
          have hkeep := HSQ.out _ (bel_D _)
          go_region_held3 (fun w' => w'.cell? ⟨bg, 0, none⟩ = some (.int .i64 side) ∧ w'.cell? ⟨bg, 1, none⟩ = some (.slice (some ⟨bt, off, none⟩) l.length c) ∧ w'.cell? ⟨wr.heap.size, 0, none⟩ = some (.int .i64 ux) ∧ w'.cell? ⟨wr.heap.size, 1, none⟩ = some (.int .i64 uy) ∧ w'.cell? ⟨bt, off + pn side ux uy, none⟩ = some (.int .i64 t0))
            (first | (with_reducible exact hkeep) | go_keep)
            (first | (go_at_call 39; refine (hN _).mono ?_; rintro e vW ⟨rfl, hb⟩; have hbv := bel_T (bel_D _) hb; clear hkeep; have hkeep := HSQ.out _ hbv; clear hb))
          all_goals
            have HB1 := Lib.hid hbv
            clear hkeep hbv g0 g1
            have HITq := Lib.hid (HIT.out.below (bel_T HA.out HB1.out))
            have HJq := Lib.hid (abides_below HJ.out HJ1.out (bel_T HA.out HB1.out))
            have HSZq : Hid (W.heap.size ≤ vW.heap.size) := Nat.le_trans HSZ.out (bel_T HA.out HB1.out).size
            obtain ⟨p0, p1⟩ := (PlB.made wr ux uy 27).below HB1.out (by simp)
            have h0 := HITq.out.sb.h0
            rw [HGP.out] at h0
            have hopv : opn side l ux uy = (t0 != 9) := by unfold opn; rw [HIN.out, HGD.out, Bool.true_and]
            by_cases h9 : t0 = 9
            · have hq9 : (t0 != 9) = false := by simpa using h9
              have HNX : Hid (besTo side l px py (0 + 1) = besTo side l px py 0) := by show _ = _; rw [HST.out, hopv, hq9]; simp
              clear h9 hopv
              gi_wp2_with fail
              refine ⟨fun _ h => (by cases h), ?_⟩
              gi_wp2_with fail
              go_roundw
              case rel => exact ⟨0 + 1, pre, by go_num, by omega, HPre.out.trans HNX.out.symm, HJq.out, HITq.out, HSZq.out⟩
              case measure => simp [intOf] <;> omega
            · have hq9 : (t0 != 9) = true := by simpa using h9
              have hop : opn side l ux uy = true := hopv.trans hq9
              have HNX : Hid (besTo side l px py (0 + 1) = besTo side l px py 0 ++ [⟨ux, uy⟩]) := by show _ = _; rw [HST.out]; simp [hop]
              obtain ⟨fn, tmps, assign, body, hy, hR⟩ := HY.out pre ⟨⟨ux, uy⟩, hop, HMEM.out⟩ vW HJq.out HLEN.out
              dsimp only [stepEnc] at hy
              rw [HC.out] at hy
              have HNY : Hid ((pre ++ [(⟨⟨ux, uy⟩, hop, HMEM.out⟩ : StepTo side l px py)]).map (·.1) = besTo side l px py (0 + 1)) := by show _ = _; rw [HNX.out, List.map_append, HPre.out]; rfl
              clear h9 hopv
              gi_wp2_with fail
              refine ⟨fun _ => by omega, hR.mono ?_⟩
              rintro e W3 (⟨rfl, hJ3, hk3⟩ | ⟨rfl, hJx3⟩)
              · have HJ3 := Lib.hid hJ3
                have HK3 := Lib.hid hk3
                clear hJ3 hk3 hR hy
                gi_wp2_with fail
                go_roundw
                case rel => exact ⟨0 + 1, _, by go_num, by omega, HNY.out, HJ3.out, HITq.out.round HK3.out HX.out, Nat.le_trans HSZq.out HK3.out.size⟩
                case measure => simp [intOf] <;> omega
              · have HJ3 := Lib.hid hJx3
                clear hJx3 hR hy
                gi_wp2_with fail
                refine bodyPost_ret (results_none rfl _ _ _) rfl ?_
                exact ⟨⟨_, rfl⟩, .inr ⟨_, by rw [HNY.out]; exact besTo_prefix side l px py _, HJ3.out⟩⟩
      · obtain ⟨ux, hux⟩ : ∃ ux, ux = u1 := ⟨_, rfl⟩
        obtain ⟨uy, huy⟩ : ∃ uy, uy = v1 := ⟨_, rfl⟩
        subst u1 v1
        obtain ⟨⟨hix, hiy⟩, hst, hmem⟩ := F1.out
        have HST := Lib.hid hst
        have HMEM := Lib.hid hmem
        have hlen : pre.length < 5 := by have h1 := congrArg List.length HPre.out; have h2 := besTo_len side l px py 1; simp only [List.length_map] at h1; omega
        have HLEN := Lib.hid hlen
        have hP := fun w => pPlace_any side ux uy w hps hix hiy
        obtain ⟨lt1, lt2, lt3, lt4⟩ := HIT.out.lt
        have hn0 := HIT.out.siz
        have hzg : bg < wr.heap.size := by omega
        have g0 := HIT.out.sb.g0
        have g1 := HIT.out.sb.g1
        have HA := Lib.hid (bel_A wr (.cells #[.int .i64 ux, .int .i64 uy] 27))
        have hix5 := index_pl1 u0 v0 ux uy u2 v2 u3 v3
        clear F0 F1 F2 F3 hst hmem hlen hix hiy lt1 lt2 lt3 lt4 hn0
        cases hin : gridIn side ux uy
        · rw [hin] at hP
          have HNX : Hid (besTo side l px py (1 + 1) = besTo side l px py 1) := by show _ = _; rw [HST.out]; simp [opn, hin]
          clear hin
          gi_wp2_with fail
          refine ⟨trivial, fun _ => by omega, ?_⟩
          refine (callsIn_wide.2 (hP _)).mono ?_
          rintro e w2 ⟨rfl, rfl⟩
          gi_wp2_with fail
          go_roundw
          case rel => exact ⟨1 + 1, pre, by go_num, by omega, HPre.out.trans HNX.out.symm, abides_below HJ.out HJ1.out HA.out, HIT.out.below HA.out, Nat.le_trans HSZ.out HA.out.size⟩
          case measure => simp [intOf] <;> omega
        · rw [hin] at hP
          have hN := fun w => pNum5_any (side := side) (x := ux) (y := uy) (l := l) HR.out hin w
          have hl := (pn_lt HR.out hin).1
          have hlI : ((pn side ux uy : Nat) : Int) < (l.length : Int) := by omega
          have htl := HIT.out.tl _ hl
          have htb := (right_parts HR.out).2.2 _ hl
          have HGD : Hid (l.getD (pn side ux uy) 0 = l[pn side ux uy]) := by show _ = _; simp [List.getD, hl]
          have hph := (right_parts HR.out).2.2 _ HPL.out
          have HGP : Hid (l.getD (pn side px py) 0 = l[pn side px py]'HPL.out) := by show _ = _; simp [List.getD, HPL.out]
          have HC : Hid (cst l (pn side px py) (pn side ux uy) = l[pn side px py]'HPL.out + l[pn side ux uy] + 1) := by show _ = _; unfold cst; rw [HGD.out, HGP.out]; omega
          have HTE0 : Hid (∃ t0, l[pn side ux uy] = t0) := ⟨_, rfl⟩
          obtain ⟨t0, hte⟩ := HTE0.out
          rw [hte] at htl htb HGD HC
          have HTE := Lib.hid hte
          clear hte HTE0
          have HTP0 : Hid (∃ th, l[pn side px py]'HPL.out = th) := ⟨_, rfl⟩
          obtain ⟨th, hthe⟩ := HTP0.out
          rw [hthe] at hph HGP HC
          clear hthe HTP0
          have hw1 : IntKind.i64.wrap (th + t0) = th + t0 := IntWalk.i64_in _ (by omega)
          have hw2 : IntKind.i64.wrap (th + t0 + 1) = th + t0 + 1 := IntWalk.i64_in _ (by omega)
          have HIN := Lib.hid hin
          have HSQ : Hid (∀ w', Below (wr.alloc (.cells #[.int .i64 ux, .int .i64 uy] 27)).heap.size (wr.alloc (.cells #[.int .i64 ux, .int .i64 uy] 27)) w' → w'.cell? ⟨bg, 0, none⟩ = some (.int .i64 side) ∧ w'.cell? ⟨bg, 1, none⟩ = some (.slice (some ⟨bt, off, none⟩) l.length c) ∧ w'.cell? ⟨wr.heap.size, 0, none⟩ = some (.int .i64 ux) ∧ w'.cell? ⟨wr.heap.size, 1, none⟩ = some (.int .i64 uy) ∧ w'.cell? ⟨bt, off + pn side ux uy, none⟩ = some (.int .i64 t0)) := by
            intro w' hb
            have h5 := HIT.out.below (bel_T HA.out hb)
            have h6 := (PlB.made wr ux uy 27).below hb (by simp)
            exact ⟨h5.sb.g0, h5.sb.g1, h6.c0, h6.c1, by have := h5.tl _ hl; rw [HTE.out] at this; exact this⟩
          clear HTE hl htl htb hph hin
          gi_wp2_with fail
          refine ⟨trivial, fun _ => by omega, ?_⟩
          refine (callsIn_wide.2 (hP _)).mono ?_
          rintro e w2 ⟨rfl, rfl⟩
          gi_upto_region 4 with fail
          refine wpIn_wide.2 ?_
          have hkeep := HSQ.out _ (bel_D _)
          go_region_held3 (fun w' => w'.cell? ⟨bg, 0, none⟩ = some (.int .i64 side) ∧ w'.cell? ⟨bg, 1, none⟩ = some (.slice (some ⟨bt, off, none⟩) l.length c) ∧ w'.cell? ⟨wr.heap.size, 0, none⟩ = some (.int .i64 ux) ∧ w'.cell? ⟨wr.heap.size, 1, none⟩ = some (.int .i64 uy) ∧ w'.cell? ⟨bt, off + pn side ux uy, none⟩ = some (.int .i64 t0))
            (first | (with_reducible exact hkeep) | go_keep)
            (first | (go_at_call 39; refine (hN _).mono ?_; rintro e vW ⟨rfl, hb⟩; have hbv := bel_T (bel_D _) hb; clear hkeep; have hkeep := HSQ.out _ hbv; clear hb))
          all_goals
            have HB1 := Lib.hid hbv
            clear hkeep hbv g0 g1
            have HITq := Lib.hid (HIT.out.below (bel_T HA.out HB1.out))
            have HJq := Lib.hid (abides_below HJ.out HJ1.out (bel_T HA.out HB1.out))
            have HSZq : Hid (W.heap.size ≤ vW.heap.size) := Nat.le_trans HSZ.out (bel_T HA.out HB1.out).size
            obtain ⟨p0, p1⟩ := (PlB.made wr ux uy 27).below HB1.out (by simp)
            have h0 := HITq.out.sb.h0
            rw [HGP.out] at h0
            have hopv : opn side l ux uy = (t0 != 9) := by unfold opn; rw [HIN.out, HGD.out, Bool.true_and]
            by_cases h9 : t0 = 9
            · have hq9 : (t0 != 9) = false := by simpa using h9
              have HNX : Hid (besTo side l px py (1 + 1) = besTo side l px py 1) := by show _ = _; rw [HST.out, hopv, hq9]; simp
              clear h9 hopv
              gi_wp2_with fail
              refine ⟨fun _ h => (by cases h), ?_⟩
              gi_wp2_with fail
              go_roundw
              case rel => exact ⟨1 + 1, pre, by go_num, by omega, HPre.out.trans HNX.out.symm, HJq.out, HITq.out, HSZq.out⟩
              case measure => simp [intOf] <;> omega
            · have hq9 : (t0 != 9) = true := by simpa using h9
              have hop : opn side l ux uy = true := hopv.trans hq9
              have HNX : Hid (besTo side l px py (1 + 1) = besTo side l px py 1 ++ [⟨ux, uy⟩]) := by show _ = _; rw [HST.out]; simp [hop]
              obtain ⟨fn, tmps, assign, body, hy, hR⟩ := HY.out pre ⟨⟨ux, uy⟩, hop, HMEM.out⟩ vW HJq.out HLEN.out
              dsimp only [stepEnc] at hy
              rw [HC.out] at hy
              have HNY : Hid ((pre ++ [(⟨⟨ux, uy⟩, hop, HMEM.out⟩ : StepTo side l px py)]).map (·.1) = besTo side l px py (1 + 1)) := by show _ = _; rw [HNX.out, List.map_append, HPre.out]; rfl
              clear h9 hopv
              gi_wp2_with fail
              refine ⟨fun _ => by omega, hR.mono ?_⟩
              rintro e W3 (⟨rfl, hJ3, hk3⟩ | ⟨rfl, hJx3⟩)
              · have HJ3 := Lib.hid hJ3
                have HK3 := Lib.hid hk3
                clear hJ3 hk3 hR hy
                gi_wp2_with fail
                go_roundw
                case rel => exact ⟨1 + 1, _, by go_num, by omega, HNY.out, HJ3.out, HITq.out.round HK3.out HX.out, Nat.le_trans HSZq.out HK3.out.size⟩
                case measure => simp [intOf] <;> omega
              · have HJ3 := Lib.hid hJx3
                clear hJx3 hR hy
                gi_wp2_with fail
                refine bodyPost_ret (results_none rfl _ _ _) rfl ?_
                exact ⟨⟨_, rfl⟩, .inr ⟨_, by rw [HNY.out]; exact besTo_prefix side l px py _, HJ3.out⟩⟩
      · obtain ⟨ux, hux⟩ : ∃ ux, ux = u2 := ⟨_, rfl⟩
        obtain ⟨uy, huy⟩ : ∃ uy, uy = v2 := ⟨_, rfl⟩
        subst u2 v2
        obtain ⟨⟨hix, hiy⟩, hst, hmem⟩ := F2.out
        have HST := Lib.hid hst
        have HMEM := Lib.hid hmem
        have hlen : pre.length < 5 := by have h1 := congrArg List.length HPre.out; have h2 := besTo_len side l px py 2; simp only [List.length_map] at h1; omega
        have HLEN := Lib.hid hlen
        have hP := fun w => pPlace_any side ux uy w hps hix hiy
        obtain ⟨lt1, lt2, lt3, lt4⟩ := HIT.out.lt
        have hn0 := HIT.out.siz
        have hzg : bg < wr.heap.size := by omega
        have g0 := HIT.out.sb.g0
        have g1 := HIT.out.sb.g1
        have HA := Lib.hid (bel_A wr (.cells #[.int .i64 ux, .int .i64 uy] 27))
        have hix5 := index_pl2 u0 v0 u1 v1 ux uy u3 v3
        clear F0 F1 F2 F3 hst hmem hlen hix hiy lt1 lt2 lt3 lt4 hn0
        cases hin : gridIn side ux uy
        · rw [hin] at hP
          have HNX : Hid (besTo side l px py (2 + 1) = besTo side l px py 2) := by show _ = _; rw [HST.out]; simp [opn, hin]
          clear hin
          gi_wp2_with fail
          refine ⟨trivial, fun _ => by omega, ?_⟩
          refine (callsIn_wide.2 (hP _)).mono ?_
          rintro e w2 ⟨rfl, rfl⟩
          gi_wp2_with fail
          go_roundw
          case rel => exact ⟨2 + 1, pre, by go_num, by omega, HPre.out.trans HNX.out.symm, abides_below HJ.out HJ1.out HA.out, HIT.out.below HA.out, Nat.le_trans HSZ.out HA.out.size⟩
          case measure => simp [intOf] <;> omega
        · rw [hin] at hP
          have hN := fun w => pNum5_any (side := side) (x := ux) (y := uy) (l := l) HR.out hin w
          have hl := (pn_lt HR.out hin).1
          have hlI : ((pn side ux uy : Nat) : Int) < (l.length : Int) := by omega
          have htl := HIT.out.tl _ hl
          have htb := (right_parts HR.out).2.2 _ hl
          have HGD : Hid (l.getD (pn side ux uy) 0 = l[pn side ux uy]) := by show _ = _; simp [List.getD, hl]
          have hph := (right_parts HR.out).2.2 _ HPL.out
          have HGP : Hid (l.getD (pn side px py) 0 = l[pn side px py]'HPL.out) := by show _ = _; simp [List.getD, HPL.out]
          have HC : Hid (cst l (pn side px py) (pn side ux uy) = l[pn side px py]'HPL.out + l[pn side ux uy] + 1) := by show _ = _; unfold cst; rw [HGD.out, HGP.out]; omega
          have HTE0 : Hid (∃ t0, l[pn side ux uy] = t0) := ⟨_, rfl⟩
          obtain ⟨t0, hte⟩ := HTE0.out
          rw [hte] at htl htb HGD HC
          have HTE := Lib.hid hte
          clear hte HTE0
          have HTP0 : Hid (∃ th, l[pn side px py]'HPL.out = th) := ⟨_, rfl⟩
          obtain ⟨th, hthe⟩ := HTP0.out
          rw [hthe] at hph HGP HC
          clear hthe HTP0
          have hw1 : IntKind.i64.wrap (th + t0) = th + t0 := IntWalk.i64_in _ (by omega)
          have hw2 : IntKind.i64.wrap (th + t0 + 1) = th + t0 + 1 := IntWalk.i64_in _ (by omega)
          have HIN := Lib.hid hin
          have HSQ : Hid (∀ w', Below (wr.alloc (.cells #[.int .i64 ux, .int .i64 uy] 27)).heap.size (wr.alloc (.cells #[.int .i64 ux, .int .i64 uy] 27)) w' → w'.cell? ⟨bg, 0, none⟩ = some (.int .i64 side) ∧ w'.cell? ⟨bg, 1, none⟩ = some (.slice (some ⟨bt, off, none⟩) l.length c) ∧ w'.cell? ⟨wr.heap.size, 0, none⟩ = some (.int .i64 ux) ∧ w'.cell? ⟨wr.heap.size, 1, none⟩ = some (.int .i64 uy) ∧ w'.cell? ⟨bt, off + pn side ux uy, none⟩ = some (.int .i64 t0)) := by
            intro w' hb
            have h5 := HIT.out.below (bel_T HA.out hb)
            have h6 := (PlB.made wr ux uy 27).below hb (by simp)
            exact ⟨h5.sb.g0, h5.sb.g1, h6.c0, h6.c1, by have := h5.tl _ hl; rw [HTE.out] at this; exact this⟩
          clear HTE hl htl htb hph hin
          gi_wp2_with fail
          refine ⟨trivial, fun _ => by omega, ?_⟩
          refine (callsIn_wide.2 (hP _)).mono ?_
          rintro e w2 ⟨rfl, rfl⟩
          gi_upto_region 4 with fail
          refine wpIn_wide.2 ?_
          have hkeep := HSQ.out _ (bel_D _)
          go_region_held3 (fun w' => w'.cell? ⟨bg, 0, none⟩ = some (.int .i64 side) ∧ w'.cell? ⟨bg, 1, none⟩ = some (.slice (some ⟨bt, off, none⟩) l.length c) ∧ w'.cell? ⟨wr.heap.size, 0, none⟩ = some (.int .i64 ux) ∧ w'.cell? ⟨wr.heap.size, 1, none⟩ = some (.int .i64 uy) ∧ w'.cell? ⟨bt, off + pn side ux uy, none⟩ = some (.int .i64 t0))
            (first | (with_reducible exact hkeep) | go_keep)
            (first | (go_at_call 39; refine (hN _).mono ?_; rintro e vW ⟨rfl, hb⟩; have hbv := bel_T (bel_D _) hb; clear hkeep; have hkeep := HSQ.out _ hbv; clear hb))
          all_goals
            have HB1 := Lib.hid hbv
            clear hkeep hbv g0 g1
            have HITq := Lib.hid (HIT.out.below (bel_T HA.out HB1.out))
            have HJq := Lib.hid (abides_below HJ.out HJ1.out (bel_T HA.out HB1.out))
            have HSZq : Hid (W.heap.size ≤ vW.heap.size) := Nat.le_trans HSZ.out (bel_T HA.out HB1.out).size
            obtain ⟨p0, p1⟩ := (PlB.made wr ux uy 27).below HB1.out (by simp)
            have h0 := HITq.out.sb.h0
            rw [HGP.out] at h0
            have hopv : opn side l ux uy = (t0 != 9) := by unfold opn; rw [HIN.out, HGD.out, Bool.true_and]
            by_cases h9 : t0 = 9
            · have hq9 : (t0 != 9) = false := by simpa using h9
              have HNX : Hid (besTo side l px py (2 + 1) = besTo side l px py 2) := by show _ = _; rw [HST.out, hopv, hq9]; simp
              clear h9 hopv
              gi_wp2_with fail
              refine ⟨fun _ h => (by cases h), ?_⟩
              gi_wp2_with fail
              go_roundw
              case rel => exact ⟨2 + 1, pre, by go_num, by omega, HPre.out.trans HNX.out.symm, HJq.out, HITq.out, HSZq.out⟩
              case measure => simp [intOf] <;> omega
            · have hq9 : (t0 != 9) = true := by simpa using h9
              have hop : opn side l ux uy = true := hopv.trans hq9
              have HNX : Hid (besTo side l px py (2 + 1) = besTo side l px py 2 ++ [⟨ux, uy⟩]) := by show _ = _; rw [HST.out]; simp [hop]
              obtain ⟨fn, tmps, assign, body, hy, hR⟩ := HY.out pre ⟨⟨ux, uy⟩, hop, HMEM.out⟩ vW HJq.out HLEN.out
              dsimp only [stepEnc] at hy
              rw [HC.out] at hy
              have HNY : Hid ((pre ++ [(⟨⟨ux, uy⟩, hop, HMEM.out⟩ : StepTo side l px py)]).map (·.1) = besTo side l px py (2 + 1)) := by show _ = _; rw [HNX.out, List.map_append, HPre.out]; rfl
              clear h9 hopv
              gi_wp2_with fail
              refine ⟨fun _ => by omega, hR.mono ?_⟩
              rintro e W3 (⟨rfl, hJ3, hk3⟩ | ⟨rfl, hJx3⟩)
              · have HJ3 := Lib.hid hJ3
                have HK3 := Lib.hid hk3
                clear hJ3 hk3 hR hy
                gi_wp2_with fail
                go_roundw
                case rel => exact ⟨2 + 1, _, by go_num, by omega, HNY.out, HJ3.out, HITq.out.round HK3.out HX.out, Nat.le_trans HSZq.out HK3.out.size⟩
                case measure => simp [intOf] <;> omega
              · have HJ3 := Lib.hid hJx3
                clear hJx3 hR hy
                gi_wp2_with fail
                refine bodyPost_ret (results_none rfl _ _ _) rfl ?_
                exact ⟨⟨_, rfl⟩, .inr ⟨_, by rw [HNY.out]; exact besTo_prefix side l px py _, HJ3.out⟩⟩
      · obtain ⟨ux, hux⟩ : ∃ ux, ux = u3 := ⟨_, rfl⟩
        obtain ⟨uy, huy⟩ : ∃ uy, uy = v3 := ⟨_, rfl⟩
        subst u3 v3
        obtain ⟨⟨hix, hiy⟩, hst, hmem⟩ := F3.out
        have HST := Lib.hid hst
        have HMEM := Lib.hid hmem
        have hlen : pre.length < 5 := by have h1 := congrArg List.length HPre.out; have h2 := besTo_len side l px py 3; simp only [List.length_map] at h1; omega
        have HLEN := Lib.hid hlen
        have hP := fun w => pPlace_any side ux uy w hps hix hiy
        obtain ⟨lt1, lt2, lt3, lt4⟩ := HIT.out.lt
        have hn0 := HIT.out.siz
        have hzg : bg < wr.heap.size := by omega
        have g0 := HIT.out.sb.g0
        have g1 := HIT.out.sb.g1
        have HA := Lib.hid (bel_A wr (.cells #[.int .i64 ux, .int .i64 uy] 27))
        have hix5 := index_pl3 u0 v0 u1 v1 u2 v2 ux uy
        clear F0 F1 F2 F3 hst hmem hlen hix hiy lt1 lt2 lt3 lt4 hn0
        cases hin : gridIn side ux uy
        · rw [hin] at hP
          have HNX : Hid (besTo side l px py (3 + 1) = besTo side l px py 3) := by show _ = _; rw [HST.out]; simp [opn, hin]
          clear hin
          gi_wp2_with fail
          refine ⟨trivial, fun _ => by omega, ?_⟩
          refine (callsIn_wide.2 (hP _)).mono ?_
          rintro e w2 ⟨rfl, rfl⟩
          gi_wp2_with fail
          go_roundw
          case rel => exact ⟨3 + 1, pre, by go_num, by omega, HPre.out.trans HNX.out.symm, abides_below HJ.out HJ1.out HA.out, HIT.out.below HA.out, Nat.le_trans HSZ.out HA.out.size⟩
          case measure => simp [intOf] <;> omega
        · rw [hin] at hP
          have hN := fun w => pNum5_any (side := side) (x := ux) (y := uy) (l := l) HR.out hin w
          have hl := (pn_lt HR.out hin).1
          have hlI : ((pn side ux uy : Nat) : Int) < (l.length : Int) := by omega
          have htl := HIT.out.tl _ hl
          have htb := (right_parts HR.out).2.2 _ hl
          have HGD : Hid (l.getD (pn side ux uy) 0 = l[pn side ux uy]) := by show _ = _; simp [List.getD, hl]
          have hph := (right_parts HR.out).2.2 _ HPL.out
          have HGP : Hid (l.getD (pn side px py) 0 = l[pn side px py]'HPL.out) := by show _ = _; simp [List.getD, HPL.out]
          have HC : Hid (cst l (pn side px py) (pn side ux uy) = l[pn side px py]'HPL.out + l[pn side ux uy] + 1) := by show _ = _; unfold cst; rw [HGD.out, HGP.out]; omega
          have HTE0 : Hid (∃ t0, l[pn side ux uy] = t0) := ⟨_, rfl⟩
          obtain ⟨t0, hte⟩ := HTE0.out
          rw [hte] at htl htb HGD HC
          have HTE := Lib.hid hte
          clear hte HTE0
          have HTP0 : Hid (∃ th, l[pn side px py]'HPL.out = th) := ⟨_, rfl⟩
          obtain ⟨th, hthe⟩ := HTP0.out
          rw [hthe] at hph HGP HC
          clear hthe HTP0
          have hw1 : IntKind.i64.wrap (th + t0) = th + t0 := IntWalk.i64_in _ (by omega)
          have hw2 : IntKind.i64.wrap (th + t0 + 1) = th + t0 + 1 := IntWalk.i64_in _ (by omega)
          have HIN := Lib.hid hin
          have HSQ : Hid (∀ w', Below (wr.alloc (.cells #[.int .i64 ux, .int .i64 uy] 27)).heap.size (wr.alloc (.cells #[.int .i64 ux, .int .i64 uy] 27)) w' → w'.cell? ⟨bg, 0, none⟩ = some (.int .i64 side) ∧ w'.cell? ⟨bg, 1, none⟩ = some (.slice (some ⟨bt, off, none⟩) l.length c) ∧ w'.cell? ⟨wr.heap.size, 0, none⟩ = some (.int .i64 ux) ∧ w'.cell? ⟨wr.heap.size, 1, none⟩ = some (.int .i64 uy) ∧ w'.cell? ⟨bt, off + pn side ux uy, none⟩ = some (.int .i64 t0)) := by
            intro w' hb
            have h5 := HIT.out.below (bel_T HA.out hb)
            have h6 := (PlB.made wr ux uy 27).below hb (by simp)
            exact ⟨h5.sb.g0, h5.sb.g1, h6.c0, h6.c1, by have := h5.tl _ hl; rw [HTE.out] at this; exact this⟩
          clear HTE hl htl htb hph hin
          gi_wp2_with fail
          refine ⟨trivial, fun _ => by omega, ?_⟩
          refine (callsIn_wide.2 (hP _)).mono ?_
          rintro e w2 ⟨rfl, rfl⟩
          gi_upto_region 4 with fail
          refine wpIn_wide.2 ?_
          have hkeep := HSQ.out _ (bel_D _)
          go_region_held3 (fun w' => w'.cell? ⟨bg, 0, none⟩ = some (.int .i64 side) ∧ w'.cell? ⟨bg, 1, none⟩ = some (.slice (some ⟨bt, off, none⟩) l.length c) ∧ w'.cell? ⟨wr.heap.size, 0, none⟩ = some (.int .i64 ux) ∧ w'.cell? ⟨wr.heap.size, 1, none⟩ = some (.int .i64 uy) ∧ w'.cell? ⟨bt, off + pn side ux uy, none⟩ = some (.int .i64 t0))
            (first | (with_reducible exact hkeep) | go_keep)
            (first | (go_at_call 39; refine (hN _).mono ?_; rintro e vW ⟨rfl, hb⟩; have hbv := bel_T (bel_D _) hb; clear hkeep; have hkeep := HSQ.out _ hbv; clear hb))
          all_goals
            have HB1 := Lib.hid hbv
            clear hkeep hbv g0 g1
            have HITq := Lib.hid (HIT.out.below (bel_T HA.out HB1.out))
            have HJq := Lib.hid (abides_below HJ.out HJ1.out (bel_T HA.out HB1.out))
            have HSZq : Hid (W.heap.size ≤ vW.heap.size) := Nat.le_trans HSZ.out (bel_T HA.out HB1.out).size
            obtain ⟨p0, p1⟩ := (PlB.made wr ux uy 27).below HB1.out (by simp)
            have h0 := HITq.out.sb.h0
            rw [HGP.out] at h0
            have hopv : opn side l ux uy = (t0 != 9) := by unfold opn; rw [HIN.out, HGD.out, Bool.true_and]
            by_cases h9 : t0 = 9
            · have hq9 : (t0 != 9) = false := by simpa using h9
              have HNX : Hid (besTo side l px py (3 + 1) = besTo side l px py 3) := by show _ = _; rw [HST.out, hopv, hq9]; simp
              clear h9 hopv
              gi_wp2_with fail
              refine ⟨fun _ h => (by cases h), ?_⟩
              gi_wp2_with fail
              go_roundw
              case rel => exact ⟨3 + 1, pre, by go_num, by omega, HPre.out.trans HNX.out.symm, HJq.out, HITq.out, HSZq.out⟩
              case measure => simp [intOf] <;> omega
            · have hq9 : (t0 != 9) = true := by simpa using h9
              have hop : opn side l ux uy = true := hopv.trans hq9
              have HNX : Hid (besTo side l px py (3 + 1) = besTo side l px py 3 ++ [⟨ux, uy⟩]) := by show _ = _; rw [HST.out]; simp [hop]
              obtain ⟨fn, tmps, assign, body, hy, hR⟩ := HY.out pre ⟨⟨ux, uy⟩, hop, HMEM.out⟩ vW HJq.out HLEN.out
              dsimp only [stepEnc] at hy
              rw [HC.out] at hy
              have HNY : Hid ((pre ++ [(⟨⟨ux, uy⟩, hop, HMEM.out⟩ : StepTo side l px py)]).map (·.1) = besTo side l px py (3 + 1)) := by show _ = _; rw [HNX.out, List.map_append, HPre.out]; rfl
              clear h9 hopv
              gi_wp2_with fail
              refine ⟨fun _ => by omega, hR.mono ?_⟩
              rintro e W3 (⟨rfl, hJ3, hk3⟩ | ⟨rfl, hJx3⟩)
              · have HJ3 := Lib.hid hJ3
                have HK3 := Lib.hid hk3
                clear hJ3 hk3 hR hy
                gi_wp2_with fail
                go_roundw
                case rel => exact ⟨3 + 1, _, by go_num, by omega, HNY.out, HJ3.out, HITq.out.round HK3.out HX.out, Nat.le_trans HSZq.out HK3.out.size⟩
                case measure => simp [intOf] <;> omega
              · have HJ3 := Lib.hid hJx3
                clear hJx3 hR hy
                gi_wp2_with fail
                refine bodyPost_ret (results_none rfl _ _ _) rfl ?_
                exact ⟨⟨_, rfl⟩, .inr ⟨_, by rw [HNY.out]; exact besTo_prefix side l px py _, HJ3.out⟩⟩
end Go.Proofs.Ytmjbefjkkncjlaa
