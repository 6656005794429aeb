/- Several texts in one: RevL, RevP, WyA, WyAa. -/
import Derived.Test.YtmjbefjkkncjlaaPlL
import Derived.Test.YtmjbefjkkncjlaaGridL
import Derived.BigRegion
import Derived.Test.YtmjbefjkkncjlaaWyZ
import Derived.Test.YtmjbefjkkncjlaaWyW
import Derived.Deep.AppendLies
import Derived.Deep.LoopGhost
namespace Go.Proofs.Ytmjbefjkkncjlaa
open Go.RowKit
set_option linter.unusedVariables false

/-- The first k and the last k stand where they shall. -/
def rvk (k : Nat) (L : List Pl) : List Pl := (List.range L.length).map fun i => if i < k ∨ L.length ≤ i + k then L.getD (L.length - 1 - i) zeroPl else L.getD i zeroPl
theorem rvk_len (k : Nat) (L : List Pl) : (rvk k L).length = L.length := by simp [rvk]
theorem rvk_get (k : Nat) (L : List Pl) (i : Nat) (h : i < (rvk k L).length) : (rvk k L)[i] = if i < k ∨ L.length ≤ i + k then L.getD (L.length - 1 - i) zeroPl else L.getD i zeroPl := by simp [rvk]
theorem rvk_mid (k : Nat) (L : List Pl) (i : Nat) (h : i < L.length) (h1 : k ≤ i) (h2 : i + k < L.length) (h' : i < (rvk k L).length) : (rvk k L)[i] = L[i] := by
  rw [rvk_get, if_neg (by omega)]
  simp [List.getD, h]
theorem rvk_zero (L : List Pl) : rvk 0 L = L := by
  refine List.ext_getElem (rvk_len 0 L) fun i h1 h2 => ?_
  exact rvk_mid 0 L i h2 (Nat.zero_le _) (by omega) h1
theorem rvk_done (k : Nat) (L : List Pl) (h : L.length ≤ k + k + 1) : rvk k L = L.reverse := by
  refine List.ext_getElem (by rw [rvk_len, List.length_reverse]) fun i h1 h2 => ?_
  rw [rvk_get, List.getElem_reverse]
  have hi : i < L.length := by rw [rvk_len] at h1; exact h1
  by_cases hc : i < k ∨ L.length ≤ i + k
  · rw [if_pos hc]
    have : L.length - 1 - i < L.length := by omega
    simp [List.getD, this]
  · rw [if_neg hc]
    have e : L.length - 1 - i = i := by omega
    simp [List.getD, hi, e]
theorem rvk_step (k : Nat) (L : List Pl) (h : k + k + 1 < L.length) (h1 : k < L.length) (h2 : L.length - 1 - k < L.length) : ((rvk k L).set k L[L.length - 1 - k]).set (L.length - 1 - k) L[k] = rvk (k + 1) L := by
  refine List.ext_getElem (by simp [rvk_len]) fun i g1 g2 => ?_
  have hi : i < L.length := by rw [rvk_len] at g2; exact g2
  rw [List.getElem_set, List.getElem_set, rvk_get, rvk_get]
  by_cases e1 : L.length - 1 - k = i
  · rw [if_pos e1, if_pos (by omega)]
    have e : L.length - 1 - i = k := by omega
    simp [List.getD, e, h1]
  · rw [if_neg e1]
    by_cases e2 : k = i
    · rw [if_pos e2, if_pos (by omega)]
      subst e2
      simp [List.getD, h2]
    · rw [if_neg e2]
      by_cases hc : i < k ∨ L.length ≤ i + k
      · rw [if_pos hc, if_pos (by omega)]
      · rw [if_neg hc, if_neg (by omega)]
end Go.Proofs.Ytmjbefjkkncjlaa

namespace Go.Proofs.Ytmjbefjkkncjlaa
open Go.RowKit
set_option linter.unusedVariables false
set_option linter.unusedSimpArgs false

set_option maxRecDepth 100000 in
set_option maxHeartbeats 2000000 in
theorem pReverse_any (g c base : Nat) (Q : List Pl) (w : World) (h : OwnPl w base (.slice (some ⟨g, 0, none⟩) Q.length c) Q) (hl : Q.length ≤ 1000000) :
    Calls Try.prog 55 #[.slice (some ⟨g, 0, none⟩) Q.length c] w fun e w' => e = .returned (.tuple #[]) ∧ OwnPl w' base (.slice (some ⟨g, 0, none⟩) Q.length c) Q.reverse ∧ w.grownBy w' (some g) := by
  have H := Lib.hid h
  clear h
  go_enter Try.func55, Try.ntmps55
  go_wp2
  go_loopw [2, 3] (fun i j wr => ∃ k : Nat, i = .int .i64 k ∧ j = .int .i64 ((Q.length : Int) - 1 - k) ∧ Hid (k + k ≤ Q.length ∧ OwnPl wr base (.slice (some ⟨g, 0, none⟩) Q.length c) (rvk k Q) ∧ w.grownBy wr (some g))) (fun i _ _ => Q.length - (intOf i).toNat)
  case atStart => exact ⟨0, rfl, by simp, by omega, by rw [rvk_zero]; exact H.out, ⟨rfl, rfl, rfl, Nat.le_refl _, fun _ _ _ => rfl⟩⟩
  case round =>
    obtain ⟨k, rfl, rfl, HH⟩ := hrel
    have hkk := HH.out.1
    by_cases hlt : k + k + 1 < Q.length
    · obtain ⟨m, hm⟩ : ∃ m : Nat, (Q.length : Int) - 1 - k = m := ⟨Q.length - 1 - k, by omega⟩
      rw [hm]
      have hmn : m = Q.length - 1 - k := by omega
      have hk1 : k < Q.length := by omega
      have hm1 : m < Q.length := by omega
      have ek := rvk_mid k Q k hk1 (Nat.le_refl _) (by omega) (by rw [rvk_len]; exact hk1)
      have em := rvk_mid k Q m hm1 (by omega) (by omega) (by rw [rvk_len]; exact hm1)
      obtain ⟨g1, e1, _, _, hck, hfk⟩ := HH.out.2.1.at_ (j := k) (by rw [rvk_len]; exact hk1)
      cases e1
      obtain ⟨g2, e2, _, _, hcm, hfm⟩ := HH.out.2.1.at_ (j := m) (by rw [rvk_len]; exact hm1)
      cases e2
      rw [ek] at hck
      rw [em] at hcm
      have HST : Hid (∀ x y : Pl, Q[k] = x → Q[m] = y → OwnPl (putPl (putPl wr g (k * 2) y) g (m * 2) x) base (.slice (some ⟨g, 0, none⟩) Q.length c) (rvk (k + 1) Q) ∧ w.grownBy (putPl (putPl wr g (k * 2) y) g (m * 2) x) (some g)) := by
        intro x y hx hy
        have h1 := HH.out.2.1.store (j := k) (by rw [rvk_len]; exact hk1) y
        have h2 := h1.1.store (j := m) (by rw [List.length_set, rvk_len]; exact hm1) x
        refine ⟨?_, by_trans HH.out.2.2 (by_trans h1.2 h2.2)⟩
        have h3 := h2.1
        subst hmn
        rw [← hx, ← hy, rvk_step k Q hlt hk1 hm1] at h3
        rw [hx, hy] at h3
        exact h3
      have HMK : Hid (m = Q.length - 1 - k) := hmn
      generalize hqk : Q[k] = x at hck
      generalize hqm : Q[m] = y at hcm
      have HS2 := Lib.hid (HST.out x y hqk hqm)
      unfold putPl at HS2
      have f0 := hfk (k * 2)
      have f1 := hfk (k * 2 + 1)
      have f2 := hfm (m * 2)
      have f3 := hfm (m * 2 + 1)
      obtain ⟨c0, c1⟩ := hck
      obtain ⟨d0, d1⟩ := hcm
      have hkI : (k : Int) < (Q.length : Int) := by omega
      have hmI : (m : Int) < (Q.length : Int) := by omega
      have hkm : (k : Int) < (m : Int) := by omega
      have n0 : ¬ k * 2 = m * 2 := by omega
      have n1 : ¬ k * 2 = m * 2 + 1 := by omega
      have n2 : ¬ k * 2 + 1 = m * 2 := by omega
      have n3 : ¬ k = m := by omega
      have hm0 : (m : Int) ≤ 1000000 := by omega
      clear hqk hqm ek em HST hfk hfm hmn hm hkk
      go_wp2_with fail
      go_region
      go_wp2
      go_roundw
      case rel => exact ⟨k + 1, by go_num, by have := HMK.out; congr 1; omega, by omega, HS2.out.1.drew, by_trans HS2.out.2 (below_by (Below.refl _ _).drew _)⟩
      case measure => simp [intOf]; omega
    · have HR : Hid (OwnPl wr base (.slice (some ⟨g, 0, none⟩) Q.length c) Q.reverse ∧ w.grownBy wr (some g)) := by
        refine ⟨?_, HH.out.2.2⟩
        have := HH.out.2.1
        rw [rvk_done k Q (by omega)] at this
        exact this
      have hge : ¬ (k : Int) < (Q.length : Int) - 1 - k := by omega
      go_wp2_with fail
      go_end0
      exact ⟨rfl, HR.out.1, HR.out.2⟩
end Go.Proofs.Ytmjbefjkkncjlaa

namespace Go.Proofs.Ytmjbefjkkncjlaa
open Go.RowKit Go.Shelf
set_option linter.unusedVariables false
set_option linter.unusedSimpArgs false

theorem OwnPl.one' (w : World) (base : Nat) (x y : Int) (hb : base ≤ w.heap.size) : OwnPl (w.alloc (.cells #[.int .i64 x, .int .i64 y] 27)) base (.slice (some ⟨w.heap.size, 0, none⟩) 1 1) [⟨x, y⟩] := by
  have := World.ownsRow_lit (e := 27) (size := 2) (base := base) w #[.int .i64 x, .int .i64 y] 1 hb (by unfold maxLen; omega) (by rfl)
  simpa [OwnPl, Pl.cells] using this
/-- One is appended, within a round. -/
theorem appendPlIn {F : Fence} {n' : Nat} {i0 : TypeInfo} (hi : Try.prog.info? 27 = some i0) (hz0 : i0.zero = some (.agg #[.int .i64 0, .int .i64 0])) (hz1 : i0.size = 2) (hz2 : i0.bytes = 16)
    {ops : Array Oper} {rest : List Oper} {o : Oper} {a : Act} {Q : Exit → Act → World → Prop} (hgd : o.guard = none) (s x : Operand)
    (ho : o.op = .call { callee := .builtin .append, args := #[s, x], argTypes := #[30, 30] })
    (base : Nat) (v : Value) (l : List Pl) (n : Pl) (wr : World) (b : Nat) (hown : OwnPl wr base v l) (hs : a.eval s = v) (hx : a.eval x = .slice (some ⟨b, 0, none⟩) 1 1) (hn : PlAt wr b 0 n) (hlen : l.length ≤ 1000000) (hb : base ≤ wr.heap.size)
    (h : ∀ g cap w', OwnPl w' base (.slice (some ⟨g, 0, none⟩) (l.length + 1) cap) (l ++ [n]) → wr.grownBy w' v.ownBlock → (v.ownBlock = some g ∨ g = wr.heap.size) → wpListIn F n' Try.prog ops Q rest (a.put o.dst (.slice (some ⟨g, 0, none⟩) (l.length + 1) cap)) w') :
    wpListIn F n' Try.prog ops Q (o :: rest) a wr := by
  refine wpListIn_plain hgd fun K hK => ?_
  obtain ⟨g, cap, w', hr, h2, h3, h4, _⟩ := run_append_lies (P := Try.prog) wr 30 o.type base 27 i0 (.agg #[.int .i64 0, .int .i64 0]) 2 16 Try.underlying30 hi hz0 hz1 hz2 rfl (by decide) v l.length _ hown ⟨b, 0, none⟩ 1 1 n.cells rfl (newsPl hn) (by intro u hu; simp [Pl.cells] at hu; rcases hu with rfl | rfl <;> rfl) (by decide) (by unfold maxLen; omega) (by omega) hb wr.heap.size rfl
  have h5 : OwnPl w' base (.slice (some ⟨g, 0, none⟩) (l.length + 1) cap) (l ++ [n]) := by
    unfold OwnPl
    simpa [List.flatMap_append] using h2
  unfold Oper.wpIn
  refine ⟨?_, ?_⟩
  · simp [Oper.about, ho, resolve, Target.leads, Sem.run_pure]
  · rw [Oper.semAt_plain F _ _ (by rw [ho]; intro c hc'; cases hc')]
    simp [execOp, ho, resolve, invoke, builtin, hs, hx, hr, Result.andThen]
    exact hK _ _ (h g cap w' h5 h3 h4)
theorem findIdx_at {α : Type} {f : α → Bool} {x : α} {t : List α} (hx : f x = true) : ∀ (pre : List α), (∀ y ∈ pre, f y = false) → (pre ++ x :: t).findIdx f = pre.length
  | [], _ => by simp [List.findIdx_cons, hx]
  | y :: pre, h => by
    rw [List.cons_append, List.findIdx_cons, h y (by simp), findIdx_at hx pre fun z hz => h z (by simp [hz])]
    rfl
/-- The first one by which the place is as near as it is. -/
theorem prv_of {side : Int} {l d : List Int} {p x : Pl} {pre : List Pl} (h : pre ++ [x] <+: bes side l p.x p.y) (hn : ∀ y ∈ pre, prvOk side l d p y = false) (hx : prvOk side l d p x = true) : prv side l d p = x := by
  obtain ⟨t, e⟩ := h
  rw [List.append_assoc, List.singleton_append] at e
  unfold prv prvI
  rw [← e, findIdx_at hx pre hn]
  simp [List.getD]
/-- The boxes of wayTo and the row of places. -/
structure WS (w : World) (side : Int) (A : Option Addr) (c : Nat) (l : List Int) (AD : Option Addr) (cD : Nat) (d : List Int) (bl bp g cP : Nat) (Q : List Pl) (px py : Int) (W : World) : Prop where
  gb : GB W w.heap.size side (.slice A l.length c)
  d0 : W.cell? ⟨w.heap.size + 1, 0, none⟩ = some (.slice AD d.length cD)
  c0 : W.cell? ⟨bl, 0, none⟩ = some (.slice (some ⟨g, 0, none⟩) Q.length cP)
  f0 : W.frozen? ⟨bl, 0, none⟩ = false
  oQ : OwnPl W (w.heap.size + 1 + 1) (.slice (some ⟨g, 0, none⟩) Q.length cP) Q
  pb : PlB W bp px py
  q0 : W.frozen? ⟨bp, 0, none⟩ = false
  q1 : W.frozen? ⟨bp, 1, none⟩ = false
  ne : bl ≠ bp ∧ g ≠ bl ∧ g ≠ bp
  lo : w.heap.size + 1 < bl ∧ w.heap.size + 1 < bp
  bel : Below w.heap.size w W
section
variable {w W W' V : World} {side : Int} {A : Option Addr} {c : Nat} {l : List Int} {AD : Option Addr} {cD : Nat} {d : List Int} {bl bp g cP : Nat} {Q : List Pl} {px py : Int}
theorem ownPl_cells {w : World} {base g n c : Nat} {l : List Pl} (h : OwnPl w base (.slice (some ⟨g, 0, none⟩) n c) l) : ∃ x : Obj, w.heap[g]? = some x ∧ x.isCells = true := by
  rcases h.2 with ⟨hv, _⟩ | ⟨g', cap', cur, hv, hb, hcur, _⟩
  · simp at hv
  · simp only [Value.slice.injEq, Option.some.injEq, Addr.mk.injEq] at hv
    obtain ⟨⟨rfl, _⟩, _, _⟩ := hv
    exact ⟨_, hcur, rfl⟩
theorem ownPl_block {w w' : World} {base g n c : Nat} {l : List Pl} (h : OwnPl w base (.slice (some ⟨g, 0, none⟩) n c) l) (e : w'.heap[g]? = w.heap[g]?) : OwnPl w' base (.slice (some ⟨g, 0, none⟩) n c) l := by
  refine ⟨h.1, ?_⟩
  rcases h.2 with hn | ⟨g', cap, cur, hv, hb, hgg, rest⟩
  · exact .inl hn
  · have hv2 := hv
    simp only [Value.slice.injEq, Option.some.injEq, Addr.mk.injEq] at hv2
    obtain ⟨⟨rfl, _⟩, _, _⟩ := hv2
    exact .inr ⟨g, cap, cur, hv, hb, e.trans hgg, rest⟩
theorem WS.cl (h : WS w side A c l AD cD d bl bp g cP Q px py W) : ∀ k, k = bl ∨ k = bp ∨ k = g ∨ k = w.heap.size ∨ k = w.heap.size + 1 → ∃ x : Obj, W.heap[k]? = some x ∧ x.isCells = true := by
  rintro k (rfl | rfl | rfl | rfl | rfl)
  · exact cells_of_cell h.c0
  · exact cells_of_cell h.pb.c0
  · exact ownPl_cells h.oQ
  · exact cells_of_cell h.gb.c0
  · exact cells_of_cell h.d0
theorem WS.ltg (h : WS w side A c l AD cD d bl bp g cP Q px py W) : w.heap.size + 1 + 1 ≤ g ∧ g < W.heap.size := h.oQ.lt g rfl
theorem WS.keep {p : Nat → Prop} (h : WS w side A c l AD cD d bl bp g cP Q px py W) (ht : Trn p W W') (hp : ∀ k, (∃ x : Obj, W.heap[k]? = some x ∧ x.isCells = true) → ¬ p k) (hw : ∀ k, p k → w.heap.size ≤ k) : WS w side A c l AD cD d bl bp g cP Q px py W' := by
  have lt : ∀ {k : Nat}, (∃ x : Obj, W.heap[k]? = some x ∧ x.isCells = true) → k < W.heap.size := fun ⟨x, hx, _⟩ => (Array.getElem?_eq_some_iff.1 hx).1
  have e : ∀ k, k = bl ∨ k = bp ∨ k = g ∨ k = w.heap.size ∨ k = w.heap.size + 1 → W'.heap[k]? = W.heap[k]? := fun k hk => ht.block k (lt (h.cl k hk)) (hp _ (h.cl k hk))
  have e1 := e bl (.inl rfl)
  have e2 := e bp (.inr (.inl rfl))
  exact ⟨h.gb.at5 (e _ (by simp)), (World.cell?_of_block (a := ⟨w.heap.size + 1, 0, none⟩) (e _ (by simp))).trans h.d0, (World.cell?_of_block (a := ⟨bl, 0, none⟩) e1).trans h.c0, (World.frozen?_of_block (a := ⟨bl, 0, none⟩) e1).trans h.f0, ownPl_block h.oQ (e g (by simp)), ⟨(World.cell?_of_block (a := ⟨bp, 0, none⟩) e2).trans h.pb.c0, (World.cell?_of_block (a := ⟨bp, 1, none⟩) e2).trans h.pb.c1⟩, (World.frozen?_of_block (a := ⟨bp, 0, none⟩) e2).trans h.q0, (World.frozen?_of_block (a := ⟨bp, 1, none⟩) e2).trans h.q1, h.ne, h.lo, h.bel.trans (ht.below hw h.bel.size)⟩
theorem WS.below (h : WS w side A c l AD cD d bl bp g cP Q px py W) (hb : Below W.heap.size W W') : WS w side A c l AD cD d bl bp g cP Q px py W' := h.keep (p := fun _ => False) (Trn.of_below hb) (fun _ _ => id) (fun _ => False.elim)
/-- One place more, and on it. -/
theorem WS.step {V2 : World} {g2 c2 : Nat} {ux uy : Int} (h : WS w side A c l AD cD d bl bp g cP Q px py W) (hb : Below W.heap.size W V) (ho : OwnPl V2 (w.heap.size + 1 + 1) (.slice (some ⟨g2, 0, none⟩) (Q.length + 1) c2) (Q ++ [⟨ux, uy⟩])) (hg : V.grownBy V2 (some g)) (hl : g = g2 ∨ g2 = V.heap.size) :
    WS w side A c l AD cD d bl bp g2 c2 (Q ++ [⟨ux, uy⟩]) ux uy (((V2.setCell ⟨bl, 0, none⟩ (.slice (some ⟨g2, 0, none⟩) (Q.length + 1) c2)).setCell ⟨bp, 0, none⟩ (.int .i64 ux)).setCell ⟨bp, 1, none⟩ (.int .i64 uy)) ∧ Trn (fun k => k = bl ∨ k = bp ∨ k = g) W (((V2.setCell ⟨bl, 0, none⟩ (.slice (some ⟨g2, 0, none⟩) (Q.length + 1) c2)).setCell ⟨bp, 0, none⟩ (.int .i64 ux)).setCell ⟨bp, 1, none⟩ (.int .i64 uy)) := by
  have lt : ∀ {k : Nat}, (∃ x : Obj, W.heap[k]? = some x ∧ x.isCells = true) → k < W.heap.size := fun ⟨x, hx, _⟩ => (Array.getElem?_eq_some_iff.1 hx).1
  have l1 := lt (h.cl bl (.inl rfl))
  have l2 := lt (h.cl bp (by simp))
  have l3 := h.ltg
  have l4 := lt (h.cl w.heap.size (by simp))
  have l5 := lt (h.cl (w.heap.size + 1) (by simp))
  have hVz := hb.size
  obtain ⟨n1, n2, n3⟩ := h.ne
  obtain ⟨o1, o2⟩ := h.lo
  have m2 : g2 ≠ bl := by rcases hl with rfl | rfl; exact n2; omega
  have m3 : g2 ≠ bp := by rcases hl with rfl | rfl; exact n3; omega
  have hV : WS w side A c l AD cD d bl bp g cP Q px py V := h.below hb
  have t2 : Trn (fun k => k = bl ∨ k = bp ∨ k = g) V V2 := (Trn.grown hg).mono fun k e => .inr (.inr e)
  have t3 : Trn (fun k => k = bl ∨ k = bp ∨ k = g) V2 (V2.setCell ⟨bl, 0, none⟩ (.slice (some ⟨g2, 0, none⟩) (Q.length + 1) c2)) := (Trn.set V2 bl 0 _).mono fun k e => .inl e
  have t4 : Trn (fun k => k = bl ∨ k = bp ∨ k = g) (V2.setCell ⟨bl, 0, none⟩ (.slice (some ⟨g2, 0, none⟩) (Q.length + 1) c2)) ((V2.setCell ⟨bl, 0, none⟩ (.slice (some ⟨g2, 0, none⟩) (Q.length + 1) c2)).setCell ⟨bp, 0, none⟩ (.int .i64 ux)) := (Trn.set _ bp 0 _).mono fun k e => .inr (.inl e)
  have t5 : Trn (fun k => k = bl ∨ k = bp ∨ k = g) ((V2.setCell ⟨bl, 0, none⟩ (.slice (some ⟨g2, 0, none⟩) (Q.length + 1) c2)).setCell ⟨bp, 0, none⟩ (.int .i64 ux)) (((V2.setCell ⟨bl, 0, none⟩ (.slice (some ⟨g2, 0, none⟩) (Q.length + 1) c2)).setCell ⟨bp, 0, none⟩ (.int .i64 ux)).setCell ⟨bp, 1, none⟩ (.int .i64 uy)) := (Trn.set _ bp 1 _).mono fun k e => .inr (.inl e)
  have tV := ((t2.trans t3 fun _ _ e => e).trans t4 fun _ _ e => e).trans t5 fun _ _ e => e
  have tW : Trn (fun k => k = bl ∨ k = bp ∨ k = g) W (((V2.setCell ⟨bl, 0, none⟩ (.slice (some ⟨g2, 0, none⟩) (Q.length + 1) c2)).setCell ⟨bp, 0, none⟩ (.int .i64 ux)).setCell ⟨bp, 1, none⟩ (.int .i64 uy)) := (Trn.of_below hb).trans tV fun _ _ e => e
  refine ⟨?_, tW⟩
  have e0 := tW.block w.heap.size l4 (by omega)
  have e1 := tW.block (w.heap.size + 1) l5 (by omega)
  have el : (Q ++ [⟨ux, uy⟩] : List Pl).length = Q.length + 1 := by simp
  have x0 : V2.cell? ⟨bl, 0, none⟩ = some (.slice (some ⟨g, 0, none⟩) Q.length cP) := (World.cell?_of_block (a := ⟨bl, 0, none⟩) (hg.block bl (by omega) fun e => n2 (Option.some.inj e).symm)).trans hV.c0
  have x1 : V2.cell? ⟨bp, 0, none⟩ = some (.int .i64 px) := (World.cell?_of_block (a := ⟨bp, 0, none⟩) (hg.block bp (by omega) fun e => n3 (Option.some.inj e).symm)).trans hV.pb.c0
  have x2 : V2.cell? ⟨bp, 1, none⟩ = some (.int .i64 py) := (World.cell?_of_block (a := ⟨bp, 1, none⟩) (hg.block bp (by omega) fun e => n3 (Option.some.inj e).symm)).trans hV.pb.c1
  have y0 : V2.frozen? ⟨bl, 0, none⟩ = false := (World.frozen?_of_block (a := ⟨bl, 0, none⟩) (hg.block bl (by omega) fun e => n2 (Option.some.inj e).symm)).trans hV.f0
  have y1 : V2.frozen? ⟨bp, 0, none⟩ = false := (World.frozen?_of_block (a := ⟨bp, 0, none⟩) (hg.block bp (by omega) fun e => n3 (Option.some.inj e).symm)).trans hV.q0
  have y2 : V2.frozen? ⟨bp, 1, none⟩ = false := (World.frozen?_of_block (a := ⟨bp, 1, none⟩) (hg.block bp (by omega) fun e => n3 (Option.some.inj e).symm)).trans hV.q1
  have n1' : ¬ bp = bl := fun e => n1 e.symm
  refine ⟨h.gb.at5 e0, (World.cell?_of_block (a := ⟨w.heap.size + 1, 0, none⟩) e1).trans h.d0, by rw [el]; simp [go_sem, x0, n1, n1'], by simpa using y0, ?_, ⟨by simp [go_sem, x1, x2, n1, n1'], by simp [go_sem, x1, x2, n1, n1']⟩, by simpa using y1, by simpa using y2, ⟨n1, m2, m3⟩, ⟨o1, o2⟩, h.bel.trans (tW.below (fun k e => by omega) h.bel.size)⟩
  rw [el]
  have k1 := ho.kept (setCell_by V2 ⟨bl, 0, none⟩ (.slice (some ⟨g2, 0, none⟩) (Q.length + 1) c2)) (.inr fun e => m2 (Option.some.inj e))
  have k2 := k1.kept (setCell_by _ ⟨bp, 0, none⟩ (.int .i64 ux)) (.inr fun e => m3 (Option.some.inj e))
  exact k2.kept (setCell_by _ ⟨bp, 1, none⟩ (.int .i64 uy)) (.inr fun e => m3 (Option.some.inj e))
end
/-- Between two steps that are looked at: nothing was found yet. -/
def WI (w9 : World) (side : Int) (l d : List Int) (px py : Int) (pre : List (StepTo side l px py)) (W : World) : Prop := Trn (fun _ => False) w9 W ∧ ∀ y ∈ pre, prvOk side l d ⟨px, py⟩ y.1 = false
theorem WI.own {w9 : World} {side : Int} {l d : List Int} {px py : Int} : OwnFrom w9.heap.size (WI w9 side l d px py) := by
  rintro pre W W' row ⟨h1, h2⟩ hg hr
  exact ⟨h1.trans (Trn.of_grownBy hg (p := fun k => row = some k) fun r e => e) fun k hk e => absurd (hr k e).1 (by omega), h2⟩
/-- One was found. -/
def WX (id : Nat) (w w9 : World) (side : Int) (A : Option Addr) (c : Nat) (l : List Int) (AD : Option Addr) (cD : Nat) (d : List Int) (bl bp g : Nat) (Q : List Pl) (px py : Int) (co : Code) (pre : List (StepTo side l px py)) (W : World) : Prop :=
  co = .exit id ∧ (∃ (pre0 : List (StepTo side l px py)) (x : StepTo side l px py), pre = pre0 ++ [x] ∧ (∀ y ∈ pre0, prvOk side l d ⟨px, py⟩ y.1 = false) ∧ prvOk side l d ⟨px, py⟩ x.1 = true ∧ ∃ g2 c2, WS w side A c l AD cD d bl bp g2 c2 (Q ++ [x.1]) x.1.x x.1.y W) ∧ Trn (fun k => k = bl ∨ k = bp ∨ k = g) w9 W
theorem WX.own {id : Nat} {w w9 : World} {side : Int} {A : Option Addr} {c : Nat} {l : List Int} {AD : Option Addr} {cD : Nat} {d : List Int} {bl bp g : Nat} {Q : List Pl} {px py : Int} (hz : w.heap.size ≤ w9.heap.size) (co : Code) : OwnFrom w9.heap.size (WX id w w9 side A c l AD cD d bl bp g Q px py co) := by
  rintro pre W W' row ⟨h1, ⟨pre0, x, h2, h3, h4, g2, c2, h5⟩, h6⟩ hg hr
  have ht := Trn.of_grownBy hg (p := fun k => row = some k) fun r e => e
  refine ⟨h1, ⟨pre0, x, h2, h3, h4, g2, c2, h5.keep ht (fun k hc e => ?_) fun k e => Nat.le_trans hz (hr k e).1⟩, h6.trans ht fun k hk e => absurd (hr k e).1 (by omega)⟩
  obtain ⟨o, ho, hoc⟩ := (hr k e).2
  obtain ⟨y, hy, hyc⟩ := hc
  rw [hy] at ho
  cases ho
  rw [hyc] at hoc
  cases hoc
end Go.Proofs.Ytmjbefjkkncjlaa

namespace Go.Proofs.Ytmjbefjkkncjlaa
open Go.RowKit Go.Shelf
set_option linter.unusedVariables false
set_option linter.unusedSimpArgs false
attribute [local go_sem] Oper.semAt_some

set_option maxRecDepth 100000 in
set_option maxHeartbeats 4000000 in
theorem pWayTo_any (side ax ay bx b_y : Int) (A : Option Addr) (c : Nat) (l : List Int) (AD : Option Addr) (cD : Nat) (d0 : List Int) (L : List Pl) (w : World) (h : RI w w.heap.size A l) (hD : RI w w.heap.size AD d0) (hr : gridRight side l = true) (hoa : opn side l ax ay = true) (hob : opn side l bx b_y = true) (hd : GDist side l ax ay d0) (hv : 0 ≤ dk d0 (pn side bx b_y)) (hL : WayTo side l d0 ⟨bx, b_y⟩ L) :
    Calls Try.prog 27 #[.agg #[.int .i64 side, .slice A l.length c], .slice AD d0.length cD, .agg #[.int .i64 bx, .int .i64 b_y]] w fun e w' => ∃ A' c', e = .returned (.slice A' L.length c') ∧ OwnPl w' w.heap.size (.slice A' L.length c') L ∧ Below w.heap.size w w' := by
  obtain ⟨i0, hin, hi0, hi1, hi2⟩ := info_parts Try.infoPl
  have HR := Lib.hid hr
  have HGD := Lib.hid hd
  have HOA := Lib.hid hoa
  have hs8 := side_bound (right_parts hr).1
  have hlb := (pn_lt hr (opn_parts hr hob).1).1
  obtain ⟨bt, offt, rfl, hbt, hct⟩ := (show ∃ b off, A = some ⟨b, off, none⟩ ∧ b < w.heap.size ∧ ∀ j (hj : j < l.length), w.cell? ⟨b, off + j, none⟩ = some (.int .i64 l[j]) from by
    rcases h with e0 | hh
    · rw [e0] at hlb; simp at hlb
    · exact hh)
  obtain ⟨bd, offd, rfl, hbd, hcd⟩ := (show ∃ b off, AD = some ⟨b, off, none⟩ ∧ b < w.heap.size ∧ ∀ j (hj : j < d0.length), w.cell? ⟨b, off + j, none⟩ = some (.int .i64 d0[j]) from by
    rcases hD with e0 | hh
    · rw [← hd.len] at hlb; rw [e0] at hlb; simp at hlb
    · exact hh)
  have H := Lib.hid h
  have HBT : Hid (bt < w.heap.size ∧ bd < w.heap.size) := ⟨hbt, hbd⟩
  have HCT := Lib.hid hct
  have HSM : Hid (L.length ≤ 65) := (way_small (p := ⟨bx, b_y⟩) hr hd hL hob).1
  have HW0 : Hid (opn side l bx b_y = true ∧ 0 ≤ dk d0 (pn side bx b_y) ∧ (dk d0 (pn side bx b_y)).toNat ≤ (dk d0 (pn side bx b_y)).toNat ∧ ∃ L', WayTo side l d0 ⟨bx, b_y⟩ (L' ++ [⟨bx, b_y⟩]) ∧ L = L' ++ [(⟨bx, b_y⟩ : Pl)].reverse) := by
    obtain ⟨L', e⟩ := hL.last
    exact ⟨hob, hv, Nat.le_refl _, L', by rw [← e]; exact hL, by simpa using e⟩
  have HDC : Hid (∀ (W : World), Below w.heap.size w W → ∀ j (hj : j < d0.length), W.cell? ⟨bd, offd + j, none⟩ = some (.int .i64 (dk d0 j))) := by
    intro W hb j hj
    rw [dk_lt hj]
    exact (hb.cell (p := ⟨bd, offd + j, none⟩) hbd).trans (hcd j hj)
  obtain ⟨W0, HW⟩ : ∃ W0, W0 = ((((((w.alloc (.cells #[.int .i64 side, .slice (some ⟨bt, offt, none⟩) l.length c] 25)).alloc (.cells #[.slice (some ⟨bd, offd, none⟩) d0.length cD] 23)).alloc (.cells #[.int .i64 bx, .int .i64 b_y] 27)).alloc (.cells #[.int .i64 bx, .int .i64 b_y] 27)).alloc (.cells #[.slice (some ⟨w.heap.size + 1 + 1 + 1, 0, none⟩) 1 1] 30)).alloc (.cells #[.int .i64 bx, .int .i64 b_y] 27)) := ⟨_, rfl⟩
  have HS0 : Hid (WS w side (some ⟨bt, offt, none⟩) c l (some ⟨bd, offd, none⟩) cD d0 (w.heap.size + 1 + 1 + 1 + 1) (w.heap.size + 1 + 1 + 1 + 1 + 1) (w.heap.size + 1 + 1 + 1) 1 [⟨bx, b_y⟩] bx b_y W0) := by
    have hb : Below w.heap.size w W0 := by rw [HW]; exact bel_T (bel_A _ _) (bel_T (bel_A _ _) (bel_T (bel_A _ _) (bel_T (bel_A _ _) (bel_T (bel_A _ _) (bel_A _ _)))))
    refine ⟨by rw [HW]; exact ⟨by simp [go_sem], by simp [go_sem], by simp [go_sem], by simp [go_sem]⟩, by rw [HW]; simp [go_sem], by rw [HW]; simp [go_sem], by rw [HW]; simp [go_sem], ?_, by rw [HW]; exact ⟨by simp [go_sem], by simp [go_sem]⟩, by rw [HW]; simp [go_sem], by rw [HW]; simp [go_sem], ⟨by omega, by omega, by omega⟩, ⟨by omega, by omega⟩, hb⟩
    rw [HW]
    have := OwnPl.one' (((w.alloc (.cells #[.int .i64 side, .slice (some ⟨bt, offt, none⟩) l.length c] 25)).alloc (.cells #[.slice (some ⟨bd, offd, none⟩) d0.length cD] 23)).alloc (.cells #[.int .i64 bx, .int .i64 b_y] 27)) (w.heap.size + 1 + 1) bx b_y (by simp)
    have h2 := (this.alloc (.cells #[.slice (some ⟨w.heap.size + 1 + 1 + 1, 0, none⟩) 1 1] 30)).alloc (.cells #[.int .i64 bx, .int .i64 b_y] 27)
    simpa using h2
  clear h hD hr hoa hob hd hv hL hlb hbt hct hbd hcd
  refine (callsIn_wide (n := 9)).1 ?_
  refine callsIn_of_wp_marks Try.func27 rfl trivial ?_ rfl
  simp only [Try.ntmps27, List.size_toArray, List.length_cons, List.length_nil, Nat.reduceAdd, Nat.reduceSub, Array.replicate_succ, Array.replicate_zero, List.push_toArray, List.append_toArray, List.nil_append, List.cons_append]
  refine wpIn_wide.2 ?_
  go_wp2_with fail
  go_step3
  go_wp2_with fail
  go_step3
  go_wp2_with fail
  rw [← HW]
  clear HW
  obtain ⟨bl, hbl⟩ : ∃ bl, bl = w.heap.size + 1 + 1 + 1 + 1 := ⟨_, rfl⟩
  obtain ⟨bp, hbp⟩ : ∃ bp, bp = w.heap.size + 1 + 1 + 1 + 1 + 1 := ⟨_, rfl⟩
  rw [← hbp, ← hbl] at HS0 ⊢
  generalize w.heap.size + 1 + 1 + 1 = g0 at HS0 ⊢
  clear hbl hbp
  refine wp_loop_ghost_k (fun K a wr => ∃ (y0 y1 y2 y5 y6 y9 y10 y11 y12 y13 y14 y15 y16 y17 y18 y19 y20 y21 y22 y23 y24 y25 y26 y27 y28 y29 y30 y31 y32 y33 y34 y35 y36 y37 y38 y39 y40 y41 y42 y43 y44 y45 y46 y47 y48 y49 y50 y51 : Value) (ds : List Deferred), (∃ (px py : Int) (g cP : Nat) (Q : List Pl), WS w side (some ⟨bt, offt, none⟩) c l (some ⟨bd, offd, none⟩) cD d0 bl bp g cP Q px py wr ∧ Hid (opn side l px py = true ∧ 0 ≤ dk d0 (pn side px py) ∧ (dk d0 (pn side px py)).toNat ≤ K ∧ ∃ L', WayTo side l d0 ⟨px, py⟩ (L' ++ [⟨px, py⟩]) ∧ L = L' ++ Q.reverse) ∧ Hid (Mks w.heap.size ds wr)) ∧ a = { tmps := #[y0, y1, y2, .pointer (some ⟨w.heap.size, 0, none⟩), .pointer (some ⟨w.heap.size + 1, 0, none⟩), y5, y6, .pointer (some ⟨bl, 0, none⟩), .pointer (some ⟨bp, 0, none⟩), y9, y10, y11, y12, y13, y14, y15, y16, y17, y18, y19, y20, y21, y22, y23, y24, y25, y26, y27, y28, y29, y30, y31, y32, y33, y34, y35, y36, y37, y38, y39, y40, y41, y42, y43, y44, y45, y46, y47, y48, y49, y50, y51], defers := ds }) (dk d0 (pn side bx b_y)).toNat ?_ ?_
  · (repeat apply Exists.intro)
    refine ⟨?_, rfl⟩
    exact ⟨bx, b_y, g0, 1, [⟨bx, b_y⟩], HS0.out, HW0.out, Mks.nil _ _⟩
  · intro gk _ wr hinv
    obtain ⟨y0, y1, y2, y5, y6, y9, y10, y11, y12, y13, y14, y15, y16, y17, y18, y19, y20, y21, y22, y23, y24, y25, y26, y27, y28, y29, y30, y31, y32, y33, y34, y35, y36, y37, y38, y39, y40, y41, y42, y43, y44, y45, y46, y47, y48, y49, y50, y51, ds, hinv⟩ := hinv
    obtain ⟨hrel, ha⟩ := hinv
    subst ha
    intro _ _ _ _
    obtain ⟨px, py, g, cP, Q, hws, HM, HMK⟩ := hrel
    have HS := Lib.hid hws
    clear hws HS0 HW0
    have HOP : Hid (opn side l px py = true) := HM.out.1
    have hgi := (opn_parts HR.out HOP.out).1
    have hNp := fun w => pNum5_any (side := side) (x := px) (y := py) (l := l) HR.out hgi w
    have hlp := (pn_lt HR.out hgi).1
    have hlpD : pn side px py < d0.length := by rw [HGD.out.len]; exact hlp
    have hlpI : ((pn side px py : Nat) : Int) < (d0.length : Int) := by omega
    have HLPD := Lib.hid hlpD
    have HST : Hid (∀ W, WS w side (some ⟨bt, offt, none⟩) c l (some ⟨bd, offd, none⟩) cD d0 bl bp g cP Q px py W → W.cell? ⟨w.heap.size, 0, none⟩ = some (.int .i64 side) ∧ W.cell? ⟨w.heap.size + 1, 0, none⟩ = some (.slice (some ⟨bd, offd, none⟩) d0.length cD) ∧ W.cell? ⟨bp, 0, none⟩ = some (.int .i64 px) ∧ W.cell? ⟨bp, 1, none⟩ = some (.int .i64 py) ∧ W.cell? ⟨bd, offd + pn side px py, none⟩ = some (.int .i64 (dk d0 (pn side px py)))) := by
      intro W hh
      exact ⟨hh.gb.c0, hh.d0, hh.pb.c0, hh.pb.c1, HDC.out W hh.bel _ HLPD.out⟩
    clear hlp hlpD hgi
    go_upto_region 3 with fail
    have q0 := HS.out.below (bel_D _)
    have hkeep := HST.out _ q0
    go_region_held3 (fun w' => w'.cell? ⟨w.heap.size, 0, none⟩ = some (.int .i64 side) ∧ w'.cell? ⟨w.heap.size + 1, 0, none⟩ = some (.slice (some ⟨bd, offd, none⟩) d0.length cD) ∧ w'.cell? ⟨bp, 0, none⟩ = some (.int .i64 px) ∧ w'.cell? ⟨bp, 1, none⟩ = some (.int .i64 py) ∧ w'.cell? ⟨bd, offd + pn side px py, none⟩ = some (.int .i64 (dk d0 (pn side px py))))
      (first | (with_reducible exact hkeep) | go_keep)
      (first | (go_at_call 39; refine (hNp _).mono ?_; rintro e v1 ⟨rfl, hb⟩; have q1 := q0.below hb; have hbv := bel_T (bel_D _) hb; clear hkeep; have hkeep := HST.out _ q1; clear hb))
    all_goals
      have HS1 := Lib.hid q1
      have HMK1 : Hid (Mks w.heap.size ds v1) := HMK.out.others ((Trn.of_below (p := fun _ => False) hbv).others fun _ e => e.elim)
      clear hkeep q0 q1 hbv HST HS HMK hlpI
      by_cases hpos : 0 < dk d0 (pn side px py)
      · have HPOS := Lib.hid hpos
        have hgt : decide (dk d0 (pn side px py) > 0) = true := decide_eq_true hpos
        obtain ⟨p0, p1⟩ := HS1.out.pb
        obtain ⟨k0, k1, _, _⟩ := HS1.out.gb
        go_wp2_with fail
        clear hgt hpos p0 p1 k0 k1
        refine (pStepsFrom_any side px py _ c l _ ((H.out.below HS1.out.bel).mono HS1.out.bel.size) HR.out HOP.out).mono ?_
        rintro e w9 ⟨bb, bg, bh, rfl, hsb, ⟨z1, z2⟩, ⟨z3, z4⟩, ⟨z5, z6⟩, hb9⟩
        have HS9 := Lib.hid (HS1.out.below hb9)
        have HMK9 : Hid (Mks w.heap.size ds w9) := HMK1.out.others ((Trn.of_below (p := fun _ => False) hb9).others fun _ e => e.elim)
        have hz9 := HS9.out.bel.size
        have HZ9 := Lib.hid hz9
        have hbt9 := HBT.out.1
        have HIT : Hid (IT5 w9.heap.size bb bg bh bt offt side c l px py w9 w9) := ⟨hsb, fun j hj => (HS9.out.bel.cell (p := ⟨bt, offt + j, none⟩) hbt9).trans (HCT.out j hj), ⟨z2, z4, z6, by omega⟩, Nat.le_refl _, Nat.le_refl _⟩
        clear hsb z1 z2 z3 z4 z5 z6 hb9 hz9 hbt9 HS1 HMK1
        go_wp2_with fail
        refine (wpIn_wide (n := 9)).1 ?_
        refine wpIn_rangeFunc_ownH (F := Fence.wide) (n := 9) rfl (by omega) (gf := 67) (lb := #[.pointer (some ⟨bb, 0, none⟩), .pointer (some ⟨bg, 0, none⟩), .pointer (some ⟨bh, 0, none⟩)]) rfl trivial (enters_of Try.func67 (by kernel_rfl) rfl)
          (pSteps_stops 8 (by omega) w9.heap.size (fun _ => False) bb bg bh bt offt side c l px py w9 HR.out HOP.out ⟨id, id, id, id⟩ HIT.out) kpE_t (kpE_b (Nat.le_refl _)) (Below.refl _ _) (fun _ => rfl)
          (WI w9 side l d0 px py) (WX 1 w w9 side (some ⟨bt, offt, none⟩) c l (some ⟨bd, offd, none⟩) cD d0 bl bp g Q px py) WI.own (fun co => WX.own HZ9.out co) ⟨Trn.refl _ _, fun y hy => by simp at hy⟩
          (fun x a' W => ∃ Bx, w9.heap.size ≤ Bx ∧ PlB W Bx x.1.x x.1.y ∧ ∃ (u0 u1 u2 u5 u6 u11 u12 u13 u14 u15 u16 u17 u18 u19 u20 u21 u22 u23 u24 u25 u26 u27 u28 u29 u30 u31 u32 u33 u34 u35 u36 u37 u38 u39 u40 u41 u42 u43 u44 u45 u46 u47 u48 u49 u50 u51 : Value), a' = { tmps := #[u0, u1, u2, .pointer (some ⟨w.heap.size, 0, none⟩), .pointer (some ⟨w.heap.size + 1, 0, none⟩), u5, u6, .pointer (some ⟨bl, 0, none⟩), .pointer (some ⟨bp, 0, none⟩), .pointer (some ⟨Bx, 0, none⟩), .int .i64 (cst l (pn side px py) (pn side x.1.x x.1.y)), u11, u12, u13, u14, u15, u16, u17, u18, u19, u20, u21, u22, u23, u24, u25, u26, u27, u28, u29, u30, u31, u32, u33, u34, u35, u36, u37, u38, u39, u40, u41, u42, u43, u44, u45, u46, u47, u48, u49, u50, u51], defers := [] })
          ?hAx ?assign ?body ?done ?stop
        case hAx =>
          rintro x a' _ W W' row ⟨Bx, h1, h2, h3⟩ hg hr
          have e1 := keepc hg (fun r e => (hr r e).2) (cells_of_cell h2.c0)
          exact ⟨Bx, h1, ⟨(World.cell?_of_block (a := ⟨Bx, 0, none⟩) e1).trans h2.c0, (World.cell?_of_block (a := ⟨Bx, 1, none⟩) e1).trans h2.c1⟩, h3⟩
        case assign =>
          intro l' pre x W K hi hK
          gi_wp2
          refine hK _ _ ((KeepsOthers.alloc _ _).from _) ((KpE.of_trn (p := fun _ => False) (Trn.of_below (bel_A _ _)) fun _ e => e.elim)) ⟨hi.1.trans (Trn.of_below (bel_A _ _)) (fun _ _ e => e), hi.2⟩ ⟨W.heap.size, hi.1.size, PlB.made W x.1.x x.1.y 27, ?_⟩
          (repeat apply Exists.intro)
          rfl
        case body =>
          rintro Lp pre x a' W hLp hrec ⟨hwt, hno⟩ ⟨Bx, hBx, hpb, u0, u1, u2, u5, u6, u11, u12, u13, u14, u15, u16, u17, u18, u19, u20, u21, u22, u23, u24, u25, u26, u27, u28, u29, u30, u31, u32, u33, u34, u35, u36, u37, u38, u39, u40, u41, u42, u43, u44, u45, u46, u47, u48, u49, u50, u51, rfl⟩ hlen
          obtain ⟨⟨ux, uy⟩, hxx⟩ := x
          have hou := hxx.1
          have hmu := hxx.2
          dsimp only at hpb hou hmu ⊢
          have HWT := Lib.hid hwt
          have HNO := Lib.hid hno
          have hgp := (opn_parts HR.out HOP.out).1
          have hgu := (opn_parts HR.out hou).1
          have hNu := fun w => pNum5_any (side := side) (x := ux) (y := uy) (l := l) HR.out hgu w
          have hlu := (pn_lt HR.out hgu).1
          have hlp := (pn_lt HR.out hgp).1
          have hluD : pn side ux uy < d0.length := by rw [HGD.out.len]; exact hlu
          have hlpD : pn side px py < d0.length := by rw [HGD.out.len]; exact hlp
          have hluI : ((pn side ux uy : Nat) : Int) < (d0.length : Int) := by omega
          have hlpI : ((pn side px py : Nat) : Int) < (d0.length : Int) := by omega
          have HWSW : Hid (WS w side (some ⟨bt, offt, none⟩) c l (some ⟨bd, offd, none⟩) cD d0 bl bp g cP Q px py W) := HS9.out.keep HWT.out (fun _ _ => id) (fun _ => False.elim)
          have hst : Stp side l (pn side px py) (pn side ux uy) := ⟨px, py, ux, uy, HOP.out, hou, hmu, rfl, rfl⟩
          have hcl := (gr_grid HR.out).low _ _ hst
          have hch := (gr_grid HR.out).high _ _ hst
          have hxa := sum_le HR.out HGD.out (p := ⟨ux, uy⟩) hou
          have hxb : -1 ≤ dk d0 (pn side ux uy) := by rcases HGD.out.lab _ hlu with h | h <;> omega
          have HOK : Hid (prvOk side l d0 ⟨px, py⟩ ⟨ux, uy⟩ = (dk d0 (pn side ux uy) + cst l (pn side px py) (pn side ux uy) == dk d0 (pn side px py))) := by
            show _ = _
            unfold prvOk
            rw [cst_back]
          have HDU : Hid (∀ V : World, Below w.heap.size w V → V.cell? ⟨bd, offd + pn side ux uy, none⟩ = some (.int .i64 (dk d0 (pn side ux uy))) ∧ V.cell? ⟨bd, offd + pn side px py, none⟩ = some (.int .i64 (dk d0 (pn side px py)))) := fun V hb => ⟨HDC.out V hb _ hluD, HDC.out V hb _ hlpD⟩
          simp only at hxa
          obtain ⟨xu, hxu⟩ : ∃ xu, xu = dk d0 (pn side ux uy) := ⟨_, rfl⟩
          obtain ⟨xp, hxp⟩ : ∃ xp, xp = dk d0 (pn side px py) := ⟨_, rfl⟩
          obtain ⟨cc, hcc⟩ : ∃ cc, cc = cst l (pn side px py) (pn side ux uy) := ⟨_, rfl⟩
          rw [← hxu] at hxa hxb
          rw [← hcc] at hcl hch ⊢
          rw [← hxu, ← hxp] at HDU
          rw [← hxu, ← hxp, ← hcc] at HOK
          have hwr : IntKind.i64.wrap (xu + cc) = xu + cc := IntWalk.i64_in _ (by omega)
          have HKV : Hid (∀ V : World, Below W.heap.size W V → (V.cell? ⟨w.heap.size, 0, none⟩ = some (.int .i64 side) ∧ V.cell? ⟨w.heap.size + 1, 0, none⟩ = some (.slice (some ⟨bd, offd, none⟩) d0.length cD) ∧ V.cell? ⟨Bx, 0, none⟩ = some (.int .i64 ux) ∧ V.cell? ⟨Bx, 1, none⟩ = some (.int .i64 uy) ∧ V.cell? ⟨bp, 0, none⟩ = some (.int .i64 px) ∧ V.cell? ⟨bp, 1, none⟩ = some (.int .i64 py) ∧ V.cell? ⟨bd, offd + pn side ux uy, none⟩ = some (.int .i64 xu) ∧ V.cell? ⟨bd, offd + pn side px py, none⟩ = some (.int .i64 xp)) ∧ WS w side (some ⟨bt, offt, none⟩) c l (some ⟨bd, offd, none⟩) cD d0 bl bp g cP Q px py V ∧ PlB V Bx ux uy) := by
            intro V hb
            have h1 := HWSW.out.below hb
            have h2 := hpb.below hb (World.block_lt_of_cell? W _ hpb.c0)
            have h3 := HDU.out V h1.bel
            exact ⟨⟨h1.gb.c0, h1.d0, h2.c0, h2.c1, h1.pb.c0, h1.pb.c1, h3.1, h3.2⟩, h1, h2⟩
          obtain ⟨⟨k1, k2, k3, k4, k5, k6, k7, k8⟩, _, _⟩ := HKV.out W (Below.refl _ _)
          have HBX := Lib.hid hBx
          have hmx : Try.prog.follows .mixedOrders = true := by kernel_rfl
          clear hwt hno hou hmu hgp hgu hlu hlp hluD hlpD hst hcl hch hxa hxb hxu hxp hcc hpb hBx
          gi_upto_region 7 with fail
          have hkeep := (HKV.out _ (bel_D W)).1
          clear k1 k2 k3 k4 k5 k6 k7 k8
          refine wpIn_region_heldR (S := (fun w' => w'.cell? ⟨w.heap.size, 0, none⟩ = some (.int .i64 side) ∧ w'.cell? ⟨w.heap.size + 1, 0, none⟩ = some (.slice (some ⟨bd, offd, none⟩) d0.length cD) ∧ w'.cell? ⟨Bx, 0, none⟩ = some (.int .i64 ux) ∧ w'.cell? ⟨Bx, 1, none⟩ = some (.int .i64 uy) ∧ w'.cell? ⟨bp, 0, none⟩ = some (.int .i64 px) ∧ w'.cell? ⟨bp, 1, none⟩ = some (.int .i64 py) ∧ w'.cell? ⟨bd, offd + pn side ux uy, none⟩ = some (.int .i64 xu) ∧ w'.cell? ⟨bd, offd + pn side px py, none⟩ = some (.int .i64 xp))) (by kernel_rfl) (by kernel_rfl) (fun _ _ h => h) hkeep (fun hHeld => ?_)
          refine wpAnyH_take (i := 0) (v := ?_) rfl (by kernel_rfl) (by kernel_rfl) (by kernel_rfl) (fun _ _ _ h => h) (Or.inl ⟨by rfl, ?_⟩) (by assumption) ?_
          rotate_left 1
          · (intro w' hSw; (try dsimp only at hSw); go_simp <;> with_reducible rfl)
          simp only [Act.put, List.getElem_toArray, List.getElem_cons_succ, List.getElem_cons_zero, List.setIfInBounds_toArray, List.set_cons_zero, List.set_cons_succ]
          refine wpAnyH_take (i := 1) (v := ?_) rfl (by kernel_rfl) (by kernel_rfl) (by kernel_rfl) (fun _ _ _ h => h) (Or.inl ⟨by rfl, ?_⟩) (by assumption) ?_
          rotate_left 1
          · (intro w' hSw; (try dsimp only at hSw); go_simp <;> with_reducible rfl)
          simp only [Act.put, List.getElem_toArray, List.getElem_cons_succ, List.getElem_cons_zero, List.setIfInBounds_toArray, List.set_cons_zero, List.set_cons_succ]
          refine wpAnyH_take (i := 2) (v := ?_) rfl (by kernel_rfl) (by kernel_rfl) (by kernel_rfl) (fun _ _ _ h => h) (Or.inl ⟨by rfl, ?_⟩) (by assumption) ?_
          rotate_left 1
          · (intro w' hSw; (try dsimp only at hSw); go_simp <;> with_reducible rfl)
          simp only [Act.put, List.getElem_toArray, List.getElem_cons_succ, List.getElem_cons_zero, List.setIfInBounds_toArray, List.set_cons_zero, List.set_cons_succ]
          refine wpAnyH_take (i := 3) (v := ?_) rfl (by kernel_rfl) (by kernel_rfl) (by kernel_rfl) (fun _ _ _ h => h) (Or.inl ⟨by rfl, ?_⟩) (by assumption) ?_
          rotate_left 1
          · (intro w' hSw; (try dsimp only at hSw); go_simp <;> with_reducible rfl)
          simp only [Act.put, List.getElem_toArray, List.getElem_cons_succ, List.getElem_cons_zero, List.setIfInBounds_toArray, List.set_cons_zero, List.set_cons_succ]
          refine wpAnyH_take (i := 7) (v := ?_) rfl (by kernel_rfl) (by kernel_rfl) (by kernel_rfl) (fun _ _ _ h => h) (Or.inl ⟨by rfl, ?_⟩) (by assumption) ?_
          rotate_left 1
          · (intro w' hSw; (try dsimp only at hSw); go_simp <;> with_reducible rfl)
          simp only [Act.put, List.getElem_toArray, List.getElem_cons_succ, List.getElem_cons_zero, List.setIfInBounds_toArray, List.set_cons_zero, List.set_cons_succ]
          refine wpAnyH_take (i := 9) (v := ?_) rfl (by kernel_rfl) (by kernel_rfl) (by kernel_rfl) (fun _ _ _ h => h) (Or.inl ⟨by rfl, ?_⟩) (by assumption) ?_
          rotate_left 1
          · (intro w' hSw; (try dsimp only at hSw); go_simp <;> with_reducible rfl)
          simp only [Act.put, List.getElem_toArray, List.getElem_cons_succ, List.getElem_cons_zero, List.setIfInBounds_toArray, List.set_cons_zero, List.set_cons_succ]
          refine wpAnyH_take (i := 10) (v := ?_) rfl (by kernel_rfl) (by kernel_rfl) (by kernel_rfl) (fun _ _ _ h => h) (Or.inl ⟨by rfl, ?_⟩) (by assumption) ?_
          rotate_left 1
          · (intro w' hSw; (try dsimp only at hSw); go_simp <;> with_reducible rfl)
          simp only [Act.put, List.getElem_toArray, List.getElem_cons_succ, List.getElem_cons_zero, List.setIfInBounds_toArray, List.set_cons_zero, List.set_cons_succ]
          refine wpAnyH_take (i := 11) (v := ?_) rfl (by kernel_rfl) (by kernel_rfl) (by kernel_rfl) (fun _ _ _ h => h) (Or.inl ⟨by rfl, ?_⟩) (by assumption) ?_
          rotate_left 1
          · (intro w' hSw; (try dsimp only at hSw); go_simp <;> with_reducible rfl)
          simp only [Act.put, List.getElem_toArray, List.getElem_cons_succ, List.getElem_cons_zero, List.setIfInBounds_toArray, List.set_cons_zero, List.set_cons_succ]
          refine wpAnyH_take (i := 12) (v := ?_) rfl (by kernel_rfl) (by kernel_rfl) (by kernel_rfl) (fun _ _ _ h => h) (Or.inl ⟨by rfl, ?_⟩) (by assumption) ?_
          rotate_left 1
          · (intro w' hSw; (try dsimp only at hSw); go_simp <;> with_reducible rfl)
          simp only [Act.put, List.getElem_toArray, List.getElem_cons_succ, List.getElem_cons_zero, List.setIfInBounds_toArray, List.set_cons_zero, List.set_cons_succ]
          refine wpAnyH_ready (rs := [4]) (by kernel_rfl) (by simp) ?_
          refine (AllReadyH.cons rfl (fun K hK => ?_) AllReadyH.nil)
          go_simp
          (go_at_call 39; refine (hNu _).mono ?_; rintro e vA ⟨rfl, hb⟩; have hbA := bel_T (bel_D W) hb; clear hkeep; have hkeep := (HKV.out vA hbA).1; clear hb)
          try go_wp2_with fail
          refine hK.out _ _ ?_ (fun hHeld => ?_)
          · exact hkeep
          clear hK K
          try simp only [Act.put, List.getElem_toArray, List.getElem_cons_succ, List.getElem_cons_zero, List.setIfInBounds_toArray, List.set_cons_zero, List.set_cons_succ]
          refine wpAnyH_take (i := 5) (v := ?_) rfl (by kernel_rfl) (by kernel_rfl) (by kernel_rfl) (fun _ _ _ h => h) (Or.inl ⟨by rfl, ?_⟩) (by assumption) ?_
          rotate_left 1
          · (intro w' hSw; (try dsimp only at hSw); go_simp <;> with_reducible rfl)
          simp only [Act.put, List.getElem_toArray, List.getElem_cons_succ, List.getElem_cons_zero, List.setIfInBounds_toArray, List.set_cons_zero, List.set_cons_succ]
          refine wpAnyH_take (i := 6) (v := ?_) rfl (by kernel_rfl) (by kernel_rfl) (by kernel_rfl) (fun _ _ _ h => h) (Or.inl ⟨by rfl, ?_⟩) (by assumption) ?_
          rotate_left 1
          · (intro w' hSw; (try dsimp only at hSw); go_simp <;> with_reducible rfl)
          simp only [Act.put, List.getElem_toArray, List.getElem_cons_succ, List.getElem_cons_zero, List.setIfInBounds_toArray, List.set_cons_zero, List.set_cons_succ]
          refine wpAnyH_take (i := 8) (v := ?_) rfl (by kernel_rfl) (by kernel_rfl) (by kernel_rfl) (fun _ _ _ h => h) (Or.inl ⟨by rfl, ?_⟩) (by assumption) ?_
          rotate_left 1
          · (intro w' hSw; (try dsimp only at hSw); go_simp <;> with_reducible rfl)
          simp only [Act.put, List.getElem_toArray, List.getElem_cons_succ, List.getElem_cons_zero, List.setIfInBounds_toArray, List.set_cons_zero, List.set_cons_succ]
          refine wpAnyH_ready (rs := [13]) (by kernel_rfl) (by simp) ?_
          refine (AllReadyH.cons rfl (fun K hK => ?_) AllReadyH.nil)
          go_simp
          (go_at_call 39; refine (hNp _).mono ?_; rintro e vB ⟨rfl, hb⟩; have hbB := bel_T hbA hb; clear hkeep; have hkeep := (HKV.out vB hbB).1; clear hb)
          try go_wp2_with fail
          refine hK.out _ _ ?_ (fun hHeld => ?_)
          · exact hkeep
          clear hK K
          try simp only [Act.put, List.getElem_toArray, List.getElem_cons_succ, List.getElem_cons_zero, List.setIfInBounds_toArray, List.set_cons_zero, List.set_cons_succ]
          refine wpAnyH_take (i := 14) (v := ?_) rfl (by kernel_rfl) (by kernel_rfl) (by kernel_rfl) (fun _ _ _ h => h) (Or.inl ⟨by rfl, ?_⟩) (by assumption) ?_
          rotate_left 1
          · (intro w' hSw; (try dsimp only at hSw); go_simp <;> with_reducible rfl)
          simp only [Act.put, List.getElem_toArray, List.getElem_cons_succ, List.getElem_cons_zero, List.setIfInBounds_toArray, List.set_cons_zero, List.set_cons_succ]
          refine wpAnyH_take (i := 15) (v := ?_) rfl (by kernel_rfl) (by kernel_rfl) (by kernel_rfl) (fun _ _ _ h => h) (Or.inl ⟨by rfl, ?_⟩) (by assumption) ?_
          rotate_left 1
          · (intro w' hSw; (try dsimp only at hSw); go_simp <;> with_reducible rfl)
          simp only [Act.put, List.getElem_toArray, List.getElem_cons_succ, List.getElem_cons_zero, List.setIfInBounds_toArray, List.set_cons_zero, List.set_cons_succ]
          refine wpAnyH_take (i := 16) (v := ?_) rfl (by kernel_rfl) (by kernel_rfl) (by kernel_rfl) (fun _ _ _ h => h) (Or.inl ⟨by rfl, ?_⟩) (by assumption) ?_
          rotate_left 1
          · (intro w' hSw; (try dsimp only at hSw); go_simp <;> with_reducible rfl)
          simp only [Act.put, List.getElem_toArray, List.getElem_cons_succ, List.getElem_cons_zero, List.setIfInBounds_toArray, List.set_cons_zero, List.set_cons_succ]
          refine wpAnyH_done (by kernel_rfl) ?_ _
          refine NoPanic.normal ?_
          have HVB := Lib.hid (HKV.out vB hbB).2
          have HBB := Lib.hid hbB
          clear hkeep hbA hbB HKV HWSW hwr
          cases hbb : (xu + cc == xp)
          · rw [hbb] at HOK
            gi_wp2_with fail
            refine ⟨((Trn.of_below (p := fun _ => False) HBB.out).others fun _ e => e.elim).from _, KpE.of_trn (p := fun _ => False) (Trn.of_below HBB.out) (fun _ e => e.elim), HWT.out.trans (Trn.of_below HBB.out) (fun _ _ e => e), fun y hy => ?_⟩
            rcases List.mem_append.1 hy with hy | hy
            · exact HNO.out y hy
            · simp only [List.mem_singleton] at hy
              subst hy
              exact HOK.out
          · rw [hbb] at HOK
            have c0 := HVB.out.1.c0
            obtain ⟨p0, p1⟩ := HVB.out.2
            have hf0 := HVB.out.1.f0
            have hz0 := HVB.out.1.bel.size
            have hql : Q.length ≤ 1000000 := by
              obtain ⟨_, _, _, L', _, h5⟩ := HM.out
              have h1 := congrArg List.length h5
              have h2 := HSM.out
              simp only [List.length_append, List.length_reverse] at h1
              omega
            have HQL := Lib.hid hql
            have hlo := HVB.out.1.lo
            have HOA1 := Lib.hid (HVB.out.1.oQ.alloc (.cells #[.int .i64 ux, .int .i64 uy] 27))
            have HNA : Hid (PlAt (vB.alloc (.cells #[.int .i64 ux, .int .i64 uy] 27)) vB.heap.size 0 ⟨ux, uy⟩) := ⟨by simp [go_sem], by simp [go_sem]⟩
            have HLZ : Hid (w.heap.size + 1 + 1 ≤ (vB.alloc (.cells #[.int .i64 ux, .int .i64 uy] 27)).heap.size) := by
              have h1 := HVB.out.1.ltg
              show _ ≤ _
              simp
              omega
            have HCL : Hid ((∃ y : Obj, (vB.alloc (.cells #[.int .i64 ux, .int .i64 uy] 27)).heap[bl]? = some y) ∧ (vB.alloc (.cells #[.int .i64 ux, .int .i64 uy] 27)).cell? ⟨bl, 0, none⟩ = some (.slice (some ⟨g, 0, none⟩) Q.length cP) ∧ (vB.alloc (.cells #[.int .i64 ux, .int .i64 uy] 27)).frozen? ⟨bl, 0, none⟩ = false ∧ bl < (vB.alloc (.cells #[.int .i64 ux, .int .i64 uy] 27)).heap.size ∧ Bx < (vB.alloc (.cells #[.int .i64 ux, .int .i64 uy] 27)).heap.size) := by
              have h1 := HVB.out.1.below (bel_A vB (.cells #[.int .i64 ux, .int .i64 uy] 27))
              obtain ⟨y, hy, _⟩ := h1.cl bl (.inl rfl)
              exact ⟨⟨y, hy⟩, h1.c0, h1.f0, (Array.getElem?_eq_some_iff.1 hy).1, Nat.lt_of_lt_of_le (World.block_lt_of_cell? vB _ HVB.out.2.c0) (by simp)⟩
            have HGX : Hid (g < Bx) := by
              have h1 := HS9.out.ltg.2
              have h2 := HBX.out
              show _ < _
              omega
            have HBLB : Hid (bl ≠ Bx ∧ bp ≠ Bx) := by
              obtain ⟨y, hy, _⟩ := HS9.out.cl bl (.inl rfl)
              obtain ⟨y2, hy2, _⟩ := HS9.out.cl bp (by simp)
              have h1 := (Array.getElem?_eq_some_iff.1 hy).1
              have h3 := (Array.getElem?_eq_some_iff.1 hy2).1
              have h2 := HBX.out
              exact ⟨by omega, by omega⟩
            clear hql hz0
            gi_upto_region 9 with (gi_at_builtin; refine appendPlIn hin hi0 hi1 hi2 rfl _ _ rfl (w.heap.size + 1 + 1) (.slice (some ⟨g, 0, none⟩) Q.length cP) Q ⟨ux, uy⟩ (vB.alloc (.cells #[.int .i64 ux, .int .i64 uy] 27)) vB.heap.size HOA1.out (by simp [Act.eval]) (by simp [Act.eval]) HNA.out HQL.out HLZ.out ?_; intro g2 c2 V2 ho2 hg2 hl2; have x0 := (World.cell?_of_block (a := ⟨bl, 0, none⟩) (hg2.block bl HCL.out.2.2.2.1 (fun e => HVB.out.1.ne.2.1 (Option.some.inj e).symm))).trans HCL.out.2.1; have x1 := (World.frozen?_of_block (a := ⟨bl, 0, none⟩) (hg2.block bl HCL.out.2.2.2.1 (fun e => HVB.out.1.ne.2.1 (Option.some.inj e).symm))).trans HCL.out.2.2.1)
            have hl3 : g = g2 ∨ g2 = (vB.alloc (.cells #[.int .i64 ux, .int .i64 uy] 27)).heap.size := hl2.imp (fun e => Option.some.inj e) id
            have HSTEP := Lib.hid (HVB.out.1.step (bel_A vB (.cells #[.int .i64 ux, .int .i64 uy] 27)) ho2 hg2 hl3)
            have eB := hg2.block Bx HCL.out.2.2.2.2 (fun e => by have := HGX.out; have e2 : Bx = g := Option.some.inj e; omega)
            have hVA := HVB.out.1.below (bel_A vB (.cells #[.int .i64 ux, .int .i64 uy] 27))
            have hVP := HVB.out.2.below (bel_A vB (.cells #[.int .i64 ux, .int .i64 uy] 27)) (World.block_lt_of_cell? vB _ HVB.out.2.c0)
            have hbpz : bp < (vB.alloc (.cells #[.int .i64 ux, .int .i64 uy] 27)).heap.size := World.block_lt_of_cell? _ _ hVA.pb.c0
            have eP := hg2.block bp hbpz (fun e => hVA.ne.2.2 (Option.some.inj e).symm)
            have z0 := (World.cell?_of_block (a := ⟨Bx, 0, none⟩) eB).trans hVP.c0
            have z1 := (World.cell?_of_block (a := ⟨Bx, 1, none⟩) eB).trans hVP.c1
            have z2 := (World.cell?_of_block (a := ⟨bp, 0, none⟩) eP).trans hVA.pb.c0
            have z3 := (World.cell?_of_block (a := ⟨bp, 1, none⟩) eP).trans hVA.pb.c1
            have z4 := (World.frozen?_of_block (a := ⟨bp, 0, none⟩) eP).trans hVA.q0
            have z5 := (World.frozen?_of_block (a := ⟨bp, 1, none⟩) eP).trans hVA.q1
            obtain ⟨nb1, nb2⟩ := HBLB.out
            have nb3 : ¬ Bx = bl := fun e => nb1 e.symm
            have nb4 := hVA.ne.1
            have nb5 : ¬ bp = bl := fun e => nb4 e.symm
            clear ho2 hg2 hl2 hl3 eB eP hVA hVP hbpz p0 p1 c0 hf0
            gi_wp2_with fail
            refine ⟨(((Trn.of_below (p := fun _ => False) HBB.out).others fun _ e => e.elim).trans (HSTEP.out.2.others fun k e _ => HVB.out.1.cl k (by rcases e with e | e | e <;> simp [e]))).from _, rfl, ⟨pre, ⟨⟨ux, uy⟩, hxx⟩, rfl, HNO.out, HOK.out, g2, c2, HSTEP.out.1⟩, ?_⟩
            exact ((HWT.out.mono fun k e => e.elim).trans (Trn.of_below HBB.out) fun _ _ e => e).trans HSTEP.out.2 fun _ _ e => e
        case done =>
          rintro D xs W hDD hxs ⟨hwt, hno⟩ hdf
          exfalso
          obtain ⟨hik, hpe, hok, _⟩ := prv_idx HR.out HGD.out (p := ⟨px, py⟩) HOP.out HPOS.out
          have hm : (bes side l px py)[prvI side l d0 ⟨px, py⟩] ∈ xs.map (·.1) := by rw [hxs]; exact List.getElem_mem hik
          obtain ⟨x, hx, e⟩ := List.mem_map.1 hm
          have h1 := hno x hx
          rw [e] at h1
          rw [h1] at hok
          cases hok
        case stop =>
          rintro D co pre W hDD hsp ⟨rfl, ⟨pre0, x, rfl, hno, hyes, g2, c2, hws⟩, htr⟩ hdf
          have HPE : Hid (prv side l d0 ⟨px, py⟩ = x.1) := by
            refine prv_of (pre := pre0.map (·.1)) (by simpa using hsp) (fun y hy => ?_) hyes
            obtain ⟨z, hz, rfl⟩ := List.mem_map.1 hy
            exact hno z hz
          obtain ⟨⟨ux, uy⟩, hxx⟩ := x
          have HWS := Lib.hid hws
          have HTR := Lib.hid htr
          have HDF := Lib.hid hdf
          clear hws htr hdf hno hyes hsp
          refine wpIn_wide.2 ?_
          go_wp2_with fail
          go_roundg (dk d0 (pn side ux uy)).toNat
          case measure =>
            have h1 := prv_less HR.out HGD.out (p := ⟨px, py⟩) HOP.out HPOS.out
            rw [HPE.out] at h1
            have h2 := HM.out.2.2.1
            have h3 := HPOS.out
            simp only at h1
            omega
          case rel =>
            obtain ⟨h1, h2, h3, L', h4, h5⟩ := HM.out
            have h7 := prv_parts HR.out HGD.out (p := ⟨px, py⟩) HOP.out HPOS.out
            obtain ⟨L'', e1, h8⟩ := h4.back HPOS.out
            rw [HPE.out] at h7 h8
            have e2 := List.append_cancel_right e1
            subst e2
            obtain ⟨L3, e3⟩ := h8.last
            refine ⟨ux, uy, g2, c2, Q ++ [⟨ux, uy⟩], HWS.out, ⟨h7.1, h7.2.2.1, Nat.le_refl _, L3, by rw [← e3]; exact h8, ?_⟩, ?_⟩
            · rw [h5, e3]
              simp
            · refine HMK9.out.push (HMK9.out.keep fun D' _ hD' => ?_) (Nat.le_trans HZ9.out hDD) hDD HDF.out
              refine (HTR.out.block D' (Array.getElem?_eq_some_iff.1 hD').1 fun e => ?_).trans hD'
              obtain ⟨x, hx, hc⟩ := HS9.out.cl D' (by rcases e with e | e | e <;> simp [e])
              rw [hD'] at hx
              cases hx
              cases hc
      · have HE : Hid (Q.reverse = L) := by
          show Q.reverse = L
          obtain ⟨_, _, _, L', h1, h2⟩ := HM.out
          have h3 := h1.stop (by simp only; omega)
          have h4 : L' = [] := by simpa using h3
          rw [h2, h4, List.nil_append]
        have hgt : decide (dk d0 (pn side px py) > 0) = false := decide_eq_false hpos
        have c0 := HS1.out.c0
        have hql : Q.length ≤ 1000000 := by
          have h1 := congrArg List.length HE.out
          have h2 := HSM.out
          rw [List.length_reverse] at h1
          omega
        have hrv := pReverse_any g cP (w.heap.size + 1 + 1) Q v1 HS1.out.oQ hql
        go_wp2_with fail
        clear hgt hpos c0
        refine hrv.mono ?_
        rintro e wR ⟨rfl, hoR, hgR⟩
        have HOR := Lib.hid hoR
        have HTR : Hid (Trn (· = g) v1 wR) := Trn.grown hgR
        have HMKR : Hid (Mks w.heap.size ds wR) := HMK1.out.others (HTR.out.others fun k e _ => HS1.out.cl k (by simp [e]))
        have c0 : wR.cell? ⟨bl, 0, none⟩ = some (.slice (some ⟨g, 0, none⟩) Q.length cP) := by
          obtain ⟨y, hy, _⟩ := HS1.out.cl bl (.inl rfl)
          exact (World.cell?_of_block (a := ⟨bl, 0, none⟩) (HTR.out.block bl (Array.getElem?_eq_some_iff.1 hy).1 fun e => HS1.out.ne.2.1 e.symm)).trans HS1.out.c0
        clear hoR hgR hrv hql
        go_wp2_with fail
        refine Mks.leaves ds wR HMKR.out fun w' ht => ?_
        refine ⟨_, results_tmp rfl _ _ _, ?_⟩
        have hb : Below w.heap.size w wR := HS1.out.bel.trans (HTR.out.below (fun k e => by have := HS1.out.ltg.1; omega) HS1.out.bel.size)
        refine ⟨some ⟨g, 0, none⟩, cP, ?_, ?_, hb.trans (ht.below (fun k e => e.1) hb.size)⟩
        · rw [← HE.out, List.length_reverse]
          rfl
        · rw [← HE.out, List.length_reverse]
          exact ownPl_block (OwnPl.lower (by omega) HOR.out) (ht.cells (ownPl_cells HOR.out))
end Go.Proofs.Ytmjbefjkkncjlaa
