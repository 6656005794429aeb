/- The program's pools: the shelf is made. -/
import Derived.Test.YtphkceiafehidaaPgY
namespace Go.Proofs.Ytphkceiafehidaa
open Go.RowKit
set_option linter.unusedVariables false

set_option maxHeartbeats 400000 in
theorem pCloneN_any (b off c : Nat) (l : List Nd) (w : World) (hn : NAt w b off l) (hl : l.length ≤ 1000000) :
    Calls Try.prog 102 #[.slice (some ⟨b, off, none⟩) l.length c] w fun e w' => ∃ A' c', e = .returned (.slice A' l.length c') ∧ OwnN w' w.heap.size (.slice A' l.length c') l ∧ Below w.heap.size w w' := by
  obtain ⟨i0, hi, hz0, hz1, hz2⟩ := info_parts Try.infoNode
  have HB := Lib.hid ((Below.refl w.heap.size w).alloc (Nat.le_refl _) (.cells #[] 94))
  have HO := Lib.hid (OwnN.lit0 (w := w) (base := w.heap.size) (Nat.le_refl _))
  have HN := Lib.hid (hn.below HB.out)
  clear hn
  have hq : ∀ (w : World) (a : Option Addr) (n c n' c' : Nat), (binOp .eql 50 (.slice a n c) (.slice none n' c')).run Try.prog w = .ok (.bool a.isNone) w := fun w a n c n' c' => Lib.run_eql_slice_nil w _ _ a n c n' c' Try.underlying50
  go_enter Try.func102, Try.ntmps102
  go_wp2_with (at_builtin; refine append_nodes hi hz0 hz1 hz2 rfl _ _ rfl w.heap.size _ [] l (w.alloc (.cells #[] 94)) b off c HO.out rfl rfl HN.out.2 (by simp; omega) (by simp) ?_; intro v' w1 hown1 hg1)
  go_ret
  rw [List.nil_append] at hown1
  obtain ⟨A', c', rfl⟩ := hown1.form
  exact ⟨A', c', rfl, hown1, HB.out.trans ((Below.refl _ _).grown hg1 (by simp) (fun k hk => by cases hk; exact Nat.le_refl _))⟩

/-- The shelf while it is filled: lm are the nodes that its map knows. -/
structure SK (base p m : Nat) (v : Value) (l lm : List Nd) (w : World) : Prop where
  ps : PS base p v l w
  c1 : w.cell? ⟨p, 1, none⟩ = some (.map (some m))
  map : MapI w m lm.length (fun x => lm.findIdx? (fun y => y == x))
  hm : base ≤ m
  nm : m ≠ p
  nr : v.ownBlock ≠ some m
theorem SK.below {base p m : Nat} {v : Value} {l lm : List Nd} {w w' : World} (h : SK base p m v l lm w) (hb : Below w.heap.size w w') : SK base p m v l lm w' :=
  ⟨h.ps.below hb, (hb.cell (p := ⟨p, 1, none⟩) h.ps.lt).trans h.c1, h.map.keep (hb.block m h.map.lt), h.hm, h.nm, h.nr⟩
theorem not_ahead {l : List Nd} (hr : poolRight l = true) {k : Nat} (hk : k < l.length) : (l.take k).findIdx? (fun y => y == l[k]) = none := by
  have h1 := find_mem hk
  rw [poolRight, decide_eq_true_iff] at hr
  rw [(hr.2 k hk).2] at h1
  simp at h1
  rw [List.findIdx?_eq_none_iff]
  intro y hy
  have : y ≠ l[k] := fun e => h1 (by rw [← e]; exact hy)
  simpa using this

set_option maxRecDepth 100000 in
set_option maxHeartbeats 1000000 in
theorem pShelfOf_any (b off c : Nat) (l : List Nd) (w : World) (hn : NAt w b off l) (hr : poolRight l = true) (hf : ∀ n ∈ l, n.Fits) :
    Calls Try.prog 83 #[.agg #[.slice (some ⟨b, off, none⟩) l.length c]] w fun e w' => ∃ p m v, e = .returned (.pointer (some ⟨p, 0, none⟩)) ∧ SS w.heap.size p m v l w' ∧ Below w.heap.size w w' := by
  have hl := pool_len hr
  have HR := Lib.hid hr
  have HF := Lib.hid hf
  have hb0 : Below w.heap.size w (w.alloc (.cells #[.slice (some ⟨b, off, none⟩) l.length c] 52)) := (Below.refl _ _).alloc (Nat.le_refl _) _
  have hCl := pCloneN_any b off c l (w.alloc (.cells #[.slice (some ⟨b, off, none⟩) l.length c] 52)) (hn.below hb0) (by omega)
  have hmm := @run_makeMap Try.prog
  clear hn hr hf
  go_enter Try.func83, Try.ntmps83
  go_wp2_with fail
  refine hCl.mono ?_
  rintro e w1 ⟨A1, c1, rfl, ho1, hb1⟩
  have HO1 := Lib.hid ho1
  have HB1 := Lib.hid (hb0.trans (hb1.mono hb0.size))
  have hz1 : w.heap.size < w1.heap.size := by have := hb1.size; simp at this; omega
  clear hCl ho1 hb1 hb0
  go_wp2_with fail
  have HO2 : Hid (OwnN w1 w.heap.size (.slice A1 l.length c1) l) := OwnN.lower (by simp) HO1.out
  have hbz : Below w1.heap.size w1 ((w1.alloc (.map #[] 0)).alloc (.cells #[.slice A1 l.length c1, .map (some w1.heap.size)] 130)) := ((Below.refl _ _).alloc (Nat.le_refl _) _).alloc (by simp) _
  have HRW : Hid (∀ k, (Value.slice A1 l.length c1).ownBlock = some k → k < w1.heap.size) := fun k h => (HO2.out.lt k h).2
  have HSK : Hid (SK w.heap.size (w1.heap.size + 1) w1.heap.size (.slice A1 l.length c1) l (l.take 0) ((w1.alloc (.map #[] 0)).alloc (.cells #[.slice A1 l.length c1, .map (some w1.heap.size)] 130))) :=
    SK.mk (PS.mk (by simp [go_sem]) (by simp [go_sem]) (HO2.out.keep hbz) (by omega) (by simp) (fun e => by have := HRW.out _ e; omega)) (by simp [go_sem]) ((MapI.made w1).keep (by rw [Below.heap_alloc _ _ _ (by simp)])) (by omega) (by omega) (fun e => by have := HRW.out _ e; omega)
  have HBZ := Lib.hid (HB1.out.trans (hbz.mono (Nat.le_of_lt hz1)))
  clear HO1 HO2 hbz HB1 HRW
  generalize hP : w1.heap.size + 1 = p at *
  generalize hM : w1.heap.size = m at *
  generalize (w1.alloc (.map #[] 0)).alloc (.cells #[.slice A1 l.length c1, .map (some m)] 130) = W1 at *
  clear hP hM hmm
  go_loopw [17] (fun i wr => ∃ k : Nat, i = .int .i64 k ∧ k ≤ l.length ∧ SK w.heap.size p m (.slice A1 l.length c1) l (l.take k) wr ∧ Below w.heap.size w wr) (fun i _ => l.length - (intOf i).toNat)
  case atStart => exact ⟨0, rfl, Nat.zero_le _, HSK.out, HBZ.out⟩
  case round =>
    obtain ⟨k, rfl, hk, hsk, hb⟩ := hrel
    have HS := Lib.hid hsk
    have HB := Lib.hid hb
    clear HSK HBZ hb
    by_cases hlt : k < l.length
    · obtain ⟨g, rfl, _, hgl, hN, _⟩ := hsk.ps.own.at_ hlt
      have HNA := Lib.hid (not_ahead HR.out hlt)
      have HFk := Lib.hid (HF.out _ (List.getElem_mem hlt))
      have HTK := Lib.hid (List.take_succ_eq_append_getElem hlt)
      have HLK : Hid ((l.take k).length = k) := by show _ = _; simp; omega
      clear hsk
      generalize hnk : l[k] = n at hN HNA HFk HTK
      clear hnk
      obtain ⟨nt, na, nb, nc, nd⟩ := n
      obtain ⟨d0, d1, d2, d3, d4⟩ := hN
      simp only at d0 d1 d2 d3 d4
      have k0 : (0 : Int) ≤ (k : Int) := cast_nn k
      have k1 : (k : Int) < (l.length : Int) := cast_lt hlt
      go_wp2_with fail
      have hba : Below wr.heap.size wr (wr.alloc (.cells #[.int .i64 nt, .int .i64 na, .int .i64 nb, .int .i64 nc, .int .i64 nd] 94)) := (Below.refl _ _).alloc (Nat.le_refl _) _
      have HSW := Lib.hid (HS.out.below hba)
      have HBW := Lib.hid (HB.out.trans (hba.mono HB.out.size))
      have hx0 : NdAt (wr.alloc (.cells #[.int .i64 nt, .int .i64 na, .int .i64 nb, .int .i64 nc, .int .i64 nd] 94)) wr.heap.size 0 ⟨nt, na, nb, nc, nd⟩ := ⟨by simp [go_sem], by simp [go_sem], by simp [go_sem], by simp [go_sem], by simp [go_sem]⟩
      have HX := Lib.hid hx0
      clear hx0 hba d0 d1 d2 d3 d4 HS HB
      generalize wr.alloc (.cells #[.int .i64 nt, .int .i64 na, .int .i64 nb, .int .i64 nc, .int .i64 nd] 94) = W at *
      generalize wr.heap.size = N at *
      obtain ⟨w3, hrun, hm3, hg3⟩ := MapI.put (HSW.out.below (Below.refl _ _).drew).map HFk.out (by rw [HLK.out]; unfold maxLen; omega) (i := k) (by omega)
      unfold Nd.val at hrun
      simp only at hrun
      have HM3 := Lib.hid hm3
      have HG3 : Hid (W.grownBy w3 (some m)) := ⟨hg3.os, hg3.tape, hg3.output, hg3.size, hg3.block⟩
      clear hm3 hg3
      have c0 := HSW.out.ps.c0
      have c1' := HSW.out.c1
      obtain ⟨e0, e1, e2, e3, e4⟩ := HX.out.five
      simp only at e0 e1 e2 e3 e4
      go_region
      clear e0 e1 e2 e3 e4 c0 c1' hrun
      have hpm : p ≠ m := fun e => HSW.out.nm e.symm
      have HS3 : Hid (SK w.heap.size p m (.slice (some ⟨g, 0, none⟩) l.length c1) l (l.take (k + 1)) w3) := by
        have h := HSW.out
        refine SK.mk ⟨HG3.out.cell h.ps.c0 (by simpa using hpm), (World.frozen?_of_block (a := ⟨p, 0, none⟩) (HG3.out.block p h.ps.lt (by simpa using hpm))).trans h.ps.f0, World.ownsRow.kept h.ps.own HG3.out (.inr h.nr), h.ps.hb, Nat.lt_of_lt_of_le h.ps.lt HG3.out.size, h.ps.ne⟩ (HG3.out.cell h.c1 (by simpa using hpm)) ?_ h.hm h.nm h.nr
        rw [HTK.out]
        refine MapI.fits ?_ (fun z => (find_snoc HNA.out z).symm)
        have h9 := HM3.out
        rw [List.length_append, HLK.out]
        rw [HLK.out] at h9
        exact h9
      have HB3 : Hid (Below w.heap.size w w3) := HBW.out.grown HG3.out HBW.out.size (fun j hj => by cases hj; exact HSW.out.hm)
      clear HSW HBW HX HM3 HG3
      go_wp2_with fail
      go_roundw
      case rel => exact ⟨k + 1, by go_num, by omega, HS3.out, HB3.out⟩
      case measure => simp [intOf]; omega
    · have ek : k = l.length := by omega
      subst ek
      rw [List.take_length] at HS
      clear hsk
      go_wp2_with fail
      go_ret
      exact ⟨p, m, _, rfl, ⟨HS.out.ps, HS.out.c1, HS.out.map, HS.out.hm, HS.out.nm, HS.out.nr⟩, HB.out⟩
end Go.Proofs.Ytphkceiafehidaa
