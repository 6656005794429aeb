/- Merges as the exact laws hold them: compared, marked, looked at again; an answer in its box, with its rows. -/
import Derived.Test.YtjcgelkeegepnaaMgL
import Derived.Test.YtjcgelkeegepnaaItems
import Derived.Deep.CutRange
import Derived.Deep.RegionHeld3
namespace Go.Proofs.Ytjcgelkeegepnaa
open Go.RowKit
set_option linter.unusedVariables false

theorem MB.made2 (w : World) (S C : Int) (vT vC : Value) (S' C' : Int) (vT' vC' : Value) (t : TypeId) : MB ((w.alloc (.cells #[.int .i64 S, vT, vC, .int .i64 C] t)).alloc (.cells #[.int .i64 S', vT', vC', .int .i64 C'] t)) w.heap.size S vT vC C ∧ MB ((w.alloc (.cells #[.int .i64 S, vT, vC, .int .i64 C] t)).alloc (.cells #[.int .i64 S', vT', vC', .int .i64 C'] t)) (w.heap.size + 1) S' vT' vC' C' :=
  ⟨⟨by simp [go_sem], by simp [go_sem], by simp [go_sem], by simp [go_sem], by simp [go_sem], by simp [go_sem], by simp [go_sem], by simp [go_sem]⟩, ⟨by simp [go_sem], by simp [go_sem], by simp [go_sem], by simp [go_sem], by simp [go_sem], by simp [go_sem], by simp [go_sem], by simp [go_sem]⟩⟩

set_option maxHeartbeats 400000 in
theorem eqMergeOut_any (S C : Int) (A A' : Option Addr) (c c' : Nat) (D D' : Option Addr) (d d' : Nat) (T : List Int) (L : List Ch) (w : World) (h : RI w w.heap.size A T) (h' : RI w w.heap.size A' T) (k : RCh w w.heap.size D L) (k' : RCh w w.heap.size D' L) (hT : T.length ≤ 1000000000) (hL : L.length ≤ 1000000000) :
    Calls Try.prog 37 #[.agg #[.int .i64 S, .slice A T.length c, .slice D L.length d, .int .i64 C], .agg #[.int .i64 S, .slice A' T.length c', .slice D' L.length d', .int .i64 C]] w fun e w' => e = .returned (.bool true) ∧ Below w.heap.size w w' := by
  have H := Lib.hid h
  have H' := Lib.hid h'
  have K := Lib.hid k
  have K' := Lib.hid k'
  clear h h' k k'
  have hbw : Below w.heap.size w ((w.alloc (.cells #[.int .i64 S, .slice A T.length c, .slice D L.length d, .int .i64 C] 45)).alloc (.cells #[.int .i64 S, .slice A' T.length c', .slice D' L.length d', .int .i64 C] 45)) := ((Below.refl _ _).alloc (Nat.le_refl _) _).alloc (by simp) _
  have HB := Lib.hid hbw
  have HX := Lib.hid (MB.made2 w S C (.slice A T.length c) (.slice D L.length d) S C (.slice A' T.length c') (.slice D' L.length d') 45)
  have HT := Lib.hid (eqGrid_any S A A' c c' T _ (H.out.below' hbw) (H'.out.below' hbw) hT)
  clear hbw
  go_enter Try.func37, Try.ntmps37
  go_wp2_with fail
  refine HT.out.mono ?_
  rintro e w1 ⟨rfl, hb⟩
  have HB1 := Lib.hid (HB.out.trans (hb.mono HB.out.size))
  have HX1 := Lib.hid (And.intro (HX.out.1.at_ (hb.block _ (by simp; omega))) (HX.out.2.at_ (hb.block _ (by simp))))
  have hz : w.heap.size + 1 < w1.heap.size := by have := hb.size; simp at this; omega
  obtain ⟨⟨x0, x1, x2, x3, _, _, _, _⟩, ⟨y0, y1, y2, y3, _, _, _, _⟩⟩ := HX1.out
  clear HT hb HX
  go_wp2_with fail
  refine (eqChs D D' d d' L w1 (K.out.below' HB1.out) (K'.out.below' HB1.out) hL).mono ?_
  rintro e w2 ⟨rfl, hb2⟩
  have HB2 := Lib.hid (HB1.out.trans (hb2.mono HB1.out.size))
  have HX2 := Lib.hid (And.intro (HX1.out.1.at_ (hb2.block _ (by omega))) (HX1.out.2.at_ (hb2.block _ hz)))
  clear hb2 x0 x1 x2 x3 y0 y1 y2 y3 HX1
  obtain ⟨⟨x0, x1, x2, x3, _, _, _, _⟩, ⟨y0, y1, y2, y3, _, _, _, _⟩⟩ := HX2.out
  go_wp2
  go_ret
  exact ⟨rfl, HB2.out⟩

/-- Where the own blocks of two slices lie, apart. -/
def Apart (vT vC : Value) : Prop := ∀ k, vT.ownBlock = some k → vC.ownBlock ≠ some k

set_option maxHeartbeats 400000 in
theorem markMergeOut_any (S C : Int) (A : Option Addr) (c : Nat) (D : Option Addr) (d base lo hi k0 : Nat) (T : List Int) (L : List Ch) (w : World) (h : OwnI 2 .i64 w base (.slice A T.length c) T) (k : OwnCh w base (.slice D L.length d) L) (ap : Apart (.slice A T.length c) (.slice D L.length d)) (l1 : Lies (.slice A T.length c) lo hi) (l2 : Lies (.slice D L.length d) lo hi) (hhi : hi ≤ w.heap.size) (hT : T.length ≤ 1000000) (hL : L.length ≤ 1000000) (hk0 : k0 ≤ 1000000) :
    Calls Try.prog 38 #[.agg #[.int .i64 S, .slice A T.length c, .slice D L.length d, .int .i64 C], .int .i64 k0] w fun e w' => e = .returned (.int .i64 ((k0 + T.length + 4 * L.length : Nat) : Int)) ∧ OwnI 2 .i64 w' base (.slice A T.length c) (marks k0 T.length) ∧ OwnCh w' base (.slice D L.length d) (marksCh (k0 + T.length) L.length) ∧ Only lo hi w w' ∧ ∀ k, k < w.heap.size → (Value.slice A T.length c).ownBlock ≠ some k → (Value.slice D L.length d).ownBlock ≠ some k → w'.heap[k]? = w.heap[k]? := by
  have HK := Lib.hid (k.alloc (.cells #[.int .i64 S, .slice A T.length c, .slice D L.length d, .int .i64 C] 45))
  have HT := Lib.hid (markGrid_any S A c base k0 T _ (h.alloc (.cells #[.int .i64 S, .slice A T.length c, .slice D L.length d, .int .i64 C] 45)) (by omega) (by omega))
  have HX := Lib.hid (MB.made w S C (.slice A T.length c) (.slice D L.length d) 45)
  have HL1 := Lib.hid l1
  have HL2 := Lib.hid l2
  have HAP := Lib.hid ap
  have HLT := Lib.hid (World.ownsRow.lt h)
  have HO0 : Hid (Only lo hi w (w.alloc (.cells #[.int .i64 S, .slice A T.length c, .slice D L.length d, .int .i64 C] 45))) := by
    have hb : Below w.heap.size w (w.alloc (.cells #[.int .i64 S, .slice A T.length c, .slice D L.length d, .int .i64 C] 45)) := (Below.refl _ _).alloc (Nat.le_refl _) _
    exact ⟨hb.os, hb.tape, hb.output, hb.size, fun k hk _ => hb.block k hk⟩
  clear h k ap l1 l2
  go_enter Try.func38, Try.ntmps38
  go_wp2_with fail
  refine HT.out.mono ?_
  rintro e w1 ⟨rfl, ho, hg⟩
  have hne : (Value.slice A T.length c).ownBlock ≠ some w.heap.size := fun e => by have := (HLT.out _ e).2; omega
  have HX1 := Lib.hid (HX.out.at_ (hg.block w.heap.size (by simp) (Ne.symm hne)))
  have HK1 : Hid (OwnCh w1 base (.slice D L.length d) L) := HK.out.kept hg (by
    cases e : (Value.slice D L.length d).ownBlock with
    | none => exact .inl rfl
    | some k => exact .inr fun e' => HAP.out k e'.symm e)
  have HO1 := Lib.hid (HO0.out.trans (Only.grown hg HL1.out))
  have HKB : Hid (∀ k, k < w.heap.size → (Value.slice A T.length c).ownBlock ≠ some k → w1.heap[k]? = w.heap[k]?) := fun k hk h1 => (hg.block k (by simp; omega) (Ne.symm h1)).trans (((Below.refl w.heap.size w).alloc (Nat.le_refl _) _).block k hk)
  have HOT := Lib.hid ho
  have hz : w.heap.size < w1.heap.size := by have := hg.size; simp at this; omega
  obtain ⟨x0, x1, x2, x3, _, _, _, _⟩ := HX1.out
  clear HT ho hg HX HK HO0 hne
  have HM := Lib.hid (markChs D d base (k0 + T.length) L w1 HK1.out (by omega) (by omega))
  go_wp2_with fail
  refine HM.out.mono ?_
  rintro e w2 ⟨rfl, ho2, hg2, _⟩
  have HO2 := Lib.hid (HO1.out.trans (Only.grown hg2 HL2.out))
  have HKC : Hid (∀ k, k < w.heap.size → (Value.slice A T.length c).ownBlock ≠ some k → (Value.slice D L.length d).ownBlock ≠ some k → w2.heap[k]? = w.heap[k]?) := fun k hk h1 h2 => (hg2.block k (by omega) (Ne.symm h2)).trans (HKB.out k hk h1)
  have HOC := Lib.hid ho2
  have HOT2 : Hid (OwnI 2 .i64 w2 base (.slice A T.length c) (marks k0 T.length)) := World.ownsRow.kept HOT.out hg2 (by
    cases e : (Value.slice A T.length c).ownBlock with
    | none => exact .inl rfl
    | some k => exact .inr fun e' => HAP.out k e e'.symm)
  clear ho2 hg2 x0 x1 x2 x3 HM
  go_wp2
  go_ret
  exact ⟨rfl, HOT2.out, HOC.out, HO2.out, HKC.out⟩

set_option maxHeartbeats 400000 in
theorem heldMergeOut_any (S C : Int) (A : Option Addr) (c : Nat) (D : Option Addr) (d k0 n m : Nat) (w : World) (h : RI w w.heap.size A (marks k0 n)) (k : RCh w w.heap.size D (marksCh (k0 + n) m)) (hn : n ≤ 1000000) (hm : m ≤ 1000000) (hk0 : k0 ≤ 1000000) :
    Calls Try.prog 39 #[.agg #[.int .i64 S, .slice A n c, .slice D m d, .int .i64 C], .int .i64 k0] w fun e w' => e = .returned (.int .i64 ((k0 + n + 4 * m : Nat) : Int)) ∧ Below w.heap.size w w' := by
  have hbw : Below w.heap.size w (w.alloc (.cells #[.int .i64 S, .slice A n c, .slice D m d, .int .i64 C] 45)) := (Below.refl _ _).alloc (Nat.le_refl _) _
  have HT := Lib.hid (heldGrid_any S A c k0 n _ (h.below' hbw) (by omega) (by omega))
  have HX := Lib.hid (MB.made w S C (.slice A n c) (.slice D m d) 45)
  have K := Lib.hid k
  clear h k
  go_enter Try.func39, Try.ntmps39
  go_wp2_with fail
  refine HT.out.mono ?_
  rintro e w1 ⟨rfl, hb⟩
  have HB1 := Lib.hid (hbw.trans (hb.mono hbw.size))
  have HX1 := Lib.hid (HX.out.at_ (hb.block _ (by simp)))
  obtain ⟨x0, x1, x2, x3, _, _, _, _⟩ := HX1.out
  have hlt : (0 : Int) ≤ ((k0 + n : Nat) : Int) := by omega
  clear HT hb HX hbw
  have HM := Lib.hid (heldChs_b D d (k0 + n) m w1 (K.out.below' HB1.out) (by omega) (by omega))
  go_wp2_with fail
  refine HM.out.mono ?_
  rintro e w2 ⟨rfl, hb2⟩
  have HB2 := Lib.hid (HB1.out.trans (hb2.mono HB1.out.size))
  clear hb2 HM
  go_wp2
  go_ret
  exact ⟨rfl, HB2.out⟩

/-- An answer in its box q, with its two rows, all between B and hi. -/
structure MA (w : World) (B hi q : Nat) (S C : Int) (vT vC : Value) (T : List Int) (L : List Ch) : Prop where
  m : MB w q S vT vC C
  oT : OwnI 2 .i64 w B vT T
  oC : OwnCh w B vC L
  lT : Lies vT B hi
  lC : Lies vC B hi
  hq : B ≤ q ∧ q < hi
  aT : vT.ownBlock ≠ some q
  aC : vC.ownBlock ≠ some q
  ap : Apart vT vC
def itM (B hi q : Nat) (S C : Int) (vT vC : Value) (T : List Int) (L : List Ch) : It := ⟨B, hi, fun w => MA w B hi q S C vT vC T L, fun w w' hk h =>
  ⟨h.m.at_ (hk q h.hq.1 h.hq.2), ownsRow_at h.oT h.lT hk, ownsRow_at h.oC h.lC hk, h.lT, h.lC, h.hq, h.aT, h.aC, h.ap⟩⟩
/-- The rows are marked: the box stays. -/
theorem MA.marked {w w' : World} {B hi q : Nat} {S C : Int} {vT vC : Value} {T T' : List Int} {L L' : List Ch} (h : MA w B hi q S C vT vC T L) (hq : w'.heap[q]? = w.heap[q]?) (oT : OwnI 2 .i64 w' B vT T') (oC : OwnCh w' B vC L') : MA w' B hi q S C vT vC T' L' :=
  ⟨h.m.at_ hq, oT, oC, h.lT, h.lC, h.hq, h.aT, h.aC, h.ap⟩
/-- The box is made behind the answer. -/
theorem MA.new {w0 w1 : World} {B : Nat} {S C : Int} {vT vC : Value} {T : List Int} {L : List Ch} (h1 : OwnI 2 .i64 w1 w0.heap.size vT T) (h2 : OwnCh w1 w0.heap.size vC L) (ap : Apart vT vC) (hB : B ≤ w0.heap.size) (hz : w0.heap.size ≤ w1.heap.size) :
    MA (w1.alloc (.cells #[.int .i64 S, vT, vC, .int .i64 C] 45)) B (w1.alloc (.cells #[.int .i64 S, vT, vC, .int .i64 C] 45)).heap.size w1.heap.size S C vT vC T L := by
  have l1 := World.ownsRow.lt h1
  have l2 := h2.lt
  refine ⟨MB.made _ _ _ _ _ _, OwnI.lower hB (h1.alloc _), OwnCh.lower hB (h2.alloc _), fun k hk => ?_, fun k hk => ?_, ⟨by omega, by simp⟩, fun e => ?_, fun e => ?_, ap⟩
  · have := l1 k hk; simp; omega
  · have := l2 k hk; simp; omega
  · have := (l1 _ e).2; omega
  · have := (l2 _ e).2; omega
/-- The box of zeros, made ahead. -/
structure ZM (W0 : World) (q : Nat) (wr : World) : Prop where
  bel : Below W0.heap.size W0 wr
  m : MB wr q 0 (.slice none 0 0) (.slice none 0 0) 0
  hq : W0.heap.size ≤ q ∧ q < wr.heap.size
theorem ZM.below {W0 : World} {q : Nat} {wr wr' : World} (h : ZM W0 q wr) (hb : Below wr.heap.size wr wr') : ZM W0 q wr' := ⟨h.bel.trans (hb.mono h.bel.size), h.m.at_ (hb.block q h.hq.2), h.hq.1, Nat.lt_of_lt_of_le h.hq.2 hb.size⟩
theorem ZM.drew {W0 : World} {q : Nat} {wr : World} (h : ZM W0 q wr) : ZM W0 q wr.drew := h.below (Below.refl _ _).drew
theorem ZM.made {W0 wr : World} (h : Below W0.heap.size W0 wr) : ZM W0 wr.heap.size (wr.alloc (.cells #[.int .i64 0, .slice none 0 0, .slice none 0 0, .int .i64 0] 45)) := ⟨h.alloc h.size _, MB.made _ _ _ _ _ _, h.size, by simp⟩
/-- The answer is stored into the box that was made ahead. -/
theorem ZM.fill {W0 w0 w1 : World} {q : Nat} {S C : Int} {vT vC : Value} {T : List Int} {L : List Ch} (z : ZM W0 q w1) (hq0 : q < w0.heap.size) (hW : W0.heap.size ≤ w0.heap.size) (h1 : OwnI 2 .i64 w1 w0.heap.size vT T) (h2 : OwnCh w1 w0.heap.size vC L) (ap : Apart vT vC) :
    MA ((((w1.setCell ⟨q, 0, none⟩ (.int .i64 S)).setCell ⟨q, 1, none⟩ vT).setCell ⟨q, 2, none⟩ vC).setCell ⟨q, 3, none⟩ (.int .i64 C)) W0.heap.size ((((w1.setCell ⟨q, 0, none⟩ (.int .i64 S)).setCell ⟨q, 1, none⟩ vT).setCell ⟨q, 2, none⟩ vC).setCell ⟨q, 3, none⟩ (.int .i64 C)).heap.size q S C vT vC T L := by
  have l1 := World.ownsRow.lt h1
  have l2 := h2.lt
  have hs : ((((w1.setCell ⟨q, 0, none⟩ (.int .i64 S)).setCell ⟨q, 1, none⟩ vT).setCell ⟨q, 2, none⟩ vC).setCell ⟨q, 3, none⟩ (.int .i64 C)).heap.size = w1.heap.size := by simp
  rw [hs]
  have m0 : MB (w1.setCell ⟨q, 0, none⟩ (.int .i64 S)) q S (.slice none 0 0) (.slice none 0 0) 0 := ⟨World.cell?_setCell_same _ _ _ z.m.c0, (World.cell?_setCell_other _ _ _ _ (by simp)).trans z.m.c1, (World.cell?_setCell_other _ _ _ _ (by simp)).trans z.m.c2, (World.cell?_setCell_other _ _ _ _ (by simp)).trans z.m.c3, by simpa using z.m.f0, by simpa using z.m.f1, by simpa using z.m.f2, by simpa using z.m.f3⟩
  have m2 := (m0.set1 vT).set2 vC
  refine ⟨⟨(World.cell?_setCell_other _ _ _ _ (by simp)).trans m2.c0, (World.cell?_setCell_other _ _ _ _ (by simp)).trans m2.c1, (World.cell?_setCell_other _ _ _ _ (by simp)).trans m2.c2, World.cell?_setCell_same _ _ _ m2.c3, by simpa using m2.f0, by simpa using m2.f1, by simpa using m2.f2, by simpa using m2.f3⟩,
    OwnI.lower hW (OwnI.set_below hq0 _ (OwnI.set_below hq0 _ (OwnI.set_below hq0 _ (OwnI.set_below hq0 _ h1)))), OwnCh.lower hW (OwnCh.set_below hq0 _ (OwnCh.set_below hq0 _ (OwnCh.set_below hq0 _ (OwnCh.set_below hq0 _ h2)))), fun k hk => ?_, fun k hk => ?_, ⟨z.hq.1, by have := z.hq.2; omega⟩, fun e => ?_, fun e => ?_, ap⟩
  · have := l1 k hk; omega
  · have := l2 k hk; omega
  · have := (l1 _ e).1; omega
  · have := (l2 _ e).1; omega
theorem ZM.fill_bel {W0 w1 : World} {q : Nat} (S C : Int) (vT vC : Value) (z : ZM W0 q w1) : Below W0.heap.size W0 ((((w1.setCell ⟨q, 0, none⟩ (.int .i64 S)).setCell ⟨q, 1, none⟩ vT).setCell ⟨q, 2, none⟩ vC).setCell ⟨q, 3, none⟩ (.int .i64 C)) :=
  (((z.bel.setCell z.hq.1 _).setCell z.hq.1 _).setCell z.hq.1 _).setCell z.hq.1 _
end Go.Proofs.Ytjcgelkeegepnaa
