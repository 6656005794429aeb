/- What the law on changes draws. -/
import Derived.Test.YthhadbojepcdjaaDr6
namespace Go.Proofs.Ythhadbojepcdjaa
open Go.RowKit
set_option linter.unusedVariables false

/-- A map and changes, to be read. -/
def ChsArgs (w : World) (e : Ending) (w' : World) : Prop :=
  ∃ (side : Int) (A : Option Addr) (c : Nat) (lt : List Int) (D : Option Addr) (d : Nat) (L : List Ch), e = .returned (.tuple #[.agg #[.int .i64 side, .slice A lt.length c], .slice D L.length d]) ∧ Small3 side lt ∧ (L.length ≤ 65 ∧ ∀ c ∈ L, SmCh c) ∧ RI w' w'.heap.size A lt ∧ RCh w' w'.heap.size D L ∧ Below w.heap.size w w'

set_option maxRecDepth 100000 in
set_option maxHeartbeats 1000000 in
theorem drawDiffDo_any (A : Option Addr) (n c : Nat) (w : World) (hn : n ≤ 1048576) (hin : BytesIn w w.heap.size A n) :
    Calls Try.prog 7 #[.slice A n c] w (ChsArgs w) := by
  have HB0 : Hid (Below w.heap.size w (w.alloc (.cells #[.int .i64 0, .slice none 0 0] 25))) := (Below.refl _ _).alloc (Nat.le_refl _) _
  have HS := Lib.hid (source_any A n c _ hn (bytes_more hin HB0.out))
  have HG0 := Lib.hid (GB.made w 0 (.slice none 0 0) 25)
  simp only [alloc_size] at HS
  clear hin
  go_enter Try.func7, Try.ntmps7
  go_wp2_with fail
  refine HS.out.mono ?_
  rintro e w1 ⟨rfl, hs1, hb1⟩
  have hz1 := hs1.lt
  have HH0 := Lib.hid (HG0.out.below hb1 (by omega))
  have HB1 := Lib.hid (HB0.out.trans (hb1.mono (by omega)))
  have H1 := Lib.hid hs1
  clear hs1 hb1 HG0 HB0 HS
  go_wp2_with fail
  refine (changes_any (w.heap.size + 1) w1 H1.out).mono ?_
  rintro e w2 ⟨side, A2, c2, lt, D, d, L, rfl, h1, h2, o1, o2, hd⟩
  obtain ⟨p0, p1, p2, p3⟩ := HH0.out.drewn hd (by omega) (by omega)
  have HB2 := Lib.hid (HB1.out.trans (hd.below (by omega) (by omega)))
  have HO1 := Lib.hid o1
  have HO2 := Lib.hid o2
  have hz2 : w.heap.size < w2.heap.size := by have := hd.2.size; omega
  clear o1 o2 hd HH0
  go_wp2
  refine bodyPost_ret (v := .tuple #[.agg #[.int .i64 side, .slice A2 lt.length c2], .slice D L.length d]) (by simp [results, Try.results7, go_sem, p0, p1]) rfl ?_
  refine ⟨side, A2, c2, lt, D, d, L, rfl, h1, h2, ?_, ?_, (HB2.out.setCell (by simp) _).setCell (by simp) _⟩
  · exact (OwnI.set_below (base := w1.heap.size) (by show w.heap.size < _; omega) _ (OwnI.set_below (by show w.heap.size < _; omega) _ HO1.out)).ri
  · exact (OwnCh.set_below (base := w1.heap.size) (by show w.heap.size < _; omega) _ (OwnCh.set_below (by show w.heap.size < _; omega) _ HO2.out)).r

set_option maxRecDepth 100000 in
set_option maxHeartbeats 1000000 in
theorem drawInvert_any (A : Option Addr) (n c : Nat) (w : World) (hn : n ≤ 1048576) (hin : BytesIn w w.heap.size A n) :
    Calls Try.prog 8 #[.slice A n c] w fun e w' => ∃ (D : Option Addr) (d : Nat) (L : List Ch), e = .returned (.slice D L.length d) ∧ (L.length ≤ 65 ∧ ∀ c ∈ L, SmCh c) ∧ RCh w' w'.heap.size D L ∧ Below w.heap.size w w' := by
  have HS := Lib.hid (source_any A n c w hn hin)
  clear hin
  go_enter Try.func8, Try.ntmps8
  go_wp2_with fail
  refine HS.out.mono ?_
  rintro e w1 ⟨rfl, hs1, hb1⟩
  have hz1 := hs1.lt
  have HB1 := Lib.hid hb1
  have H1 := Lib.hid hs1
  clear hs1 hb1 HS
  go_wp2_with fail
  refine (changes_any w.heap.size w1 H1.out).mono ?_
  rintro e w2 ⟨side, A2, c2, lt, D, d, L, rfl, h1, h2, o1, o2, hd⟩
  have HB2 := Lib.hid (HB1.out.trans (hd.below (by omega) (by omega)))
  have HB3 := Lib.hid (bAnd HB2.out (belowA w2 (.cells #[.int .i64 side, .slice A2 lt.length c2] 25)))
  have HO2 := Lib.hid (RCh.go o2.r (belowA w2 (.cells #[.int .i64 side, .slice A2 lt.length c2] 25)))
  clear o1 o2 hd
  go_wp2
  go_ret
  exact ⟨D, d, L, rfl, h2, HO2.out, HB3.out⟩

def put2 (w V : World) (so : Int) (vo : Value) (sa : Int) (va : Value) : World := ((((V.setCell ⟨w.heap.size, 0, none⟩ (.int .i64 so)).setCell ⟨w.heap.size, 1, none⟩ vo).setCell ⟨w.heap.size + 1, 0, none⟩ (.int .i64 sa)).setCell ⟨w.heap.size + 1, 1, none⟩ va).drew
theorem put2_own {w V : World} {e : TypeId} {k : IntKind} {base : Nat} {v : Value} {l : List Int} (h : OwnI e k V base v l) (hb : w.heap.size + 1 < base) (so : Int) (vo : Value) (sa : Int) (va : Value) : OwnI e k (put2 w V so vo sa va) base v l :=
  OwnI.drew (OwnI.set_below hb _ (OwnI.set_below hb _ (OwnI.set_below (by show w.heap.size < _; omega) _ (OwnI.set_below (by show w.heap.size < _; omega) _ h))))
theorem put2_below {w V : World} (h : Below w.heap.size w V) (so : Int) (vo : Value) (sa : Int) (va : Value) : Below w.heap.size w (put2 w V so vo sa va) :=
  ((((h.setCell (by show _ ≤ w.heap.size; omega) _).setCell (by show _ ≤ w.heap.size; omega) _).setCell (by show _ ≤ w.heap.size + 1; omega) _).setCell (by show _ ≤ w.heap.size + 1; omega) _).drew
/-- Two maps, to be read. -/
def TwoArgs (w : World) (e : Ending) (w' : World) : Prop :=
  ∃ (sa : Int) (A : Option Addr) (c : Nat) (la : List Int) (sb : Int) (A' : Option Addr) (c' : Nat) (lb : List Int), e = .returned (.tuple #[.agg #[.int .i64 sa, .slice A la.length c], .agg #[.int .i64 sb, .slice A' lb.length c']]) ∧ Small3 sa la ∧ Small3 sb lb ∧ RI w' w'.heap.size A la ∧ RI w' w'.heap.size A' lb ∧ Below w.heap.size w w'

set_option maxRecDepth 100000 in
set_option maxHeartbeats 1000000 in
theorem drawDiffOf_any (A : Option Addr) (n c : Nat) (w : World) (hn : n ≤ 1048576) (hin : BytesIn w w.heap.size A n) :
    Calls Try.prog 5 #[.slice A n c] w (TwoArgs w) := by
  have HB0 : Hid (Below w.heap.size w ((w.alloc (.cells #[.int .i64 0, .slice none 0 0] 25)).alloc (.cells #[.int .i64 0, .slice none 0 0] 25))) := ((Below.refl _ _).alloc (Nat.le_refl _) _).alloc (by simp) _
  have HS := Lib.hid (source_any A n c _ hn (bytes_more hin HB0.out))
  have HG0 : Hid (GB ((w.alloc (.cells #[.int .i64 0, .slice none 0 0] 25)).alloc (.cells #[.int .i64 0, .slice none 0 0] 25)) w.heap.size 0 (.slice none 0 0)) := ⟨by simp [go_sem], by simp [go_sem], by simp [go_sem], by simp [go_sem]⟩
  have HG1 : Hid (GB ((w.alloc (.cells #[.int .i64 0, .slice none 0 0] 25)).alloc (.cells #[.int .i64 0, .slice none 0 0] 25)) (w.heap.size + 1) 0 (.slice none 0 0)) := ⟨by simp [go_sem], by simp [go_sem], by simp [go_sem], by simp [go_sem]⟩
  simp only [alloc_size] at HS
  clear hin
  go_enter Try.func5, Try.ntmps5
  go_wp2_with fail
  refine HS.out.mono ?_
  rintro e w1 ⟨rfl, hs1, hb1⟩
  have hz1 := hs1.lt
  have HH0 := Lib.hid (HG0.out.below hb1 (by omega))
  have HH1 := Lib.hid (HG1.out.below hb1 (by omega))
  have HB1 := Lib.hid (HB0.out.trans (hb1.mono (by omega)))
  have H1 := Lib.hid hs1
  clear hs1 hb1 HG0 HG1 HB0 HS
  go_wp2_with fail
  refine (three_any (w.heap.size + 1 + 1) w1 H1.out).mono ?_
  rintro e w2 ⟨so, Ao, co, lo, sa, Aa, ca, la, sb, Ab, cb, lb, rfl, h1, h2, h3, o1, o2, o3, hd⟩
  have hz2 : w.heap.size + 1 < w2.heap.size := by have := hd.2.size; omega
  have HB2 := Lib.hid (HB1.out.trans (hd.below (by omega) (by omega)))
  have Q0 := HH0.out.drewn hd (by omega) (by omega)
  have Q1 := HH1.out.drewn hd (by omega) (by omega)
  have HBW : Below w2.heap.size w2 (((w2.alloc (.cells #[.int .i64 so, .slice Ao lo.length co] 25)).alloc (.cells #[.int .i64 sa, .slice Aa la.length ca] 25)).alloc (.cells #[.int .i64 sb, .slice Ab lb.length cb] 25)) := bAnd (belowA _ _) (bAnd (belowA _ _) (belowA _ _))
  have G0 := ((GB.made w2 so (.slice Ao lo.length co) 25).below (belowA _ (.cells #[.int .i64 sa, .slice Aa la.length ca] 25)) (by simp)).below (belowA _ (.cells #[.int .i64 sb, .slice Ab lb.length cb] 25)) (by simp; omega)
  have G1 := (GB.made (w2.alloc (.cells #[.int .i64 so, .slice Ao lo.length co] 25)) sa (.slice Aa la.length ca) 25).below (belowA _ (.cells #[.int .i64 sb, .slice Ab lb.length cb] 25)) (by simp)
  rw [alloc_size] at G1
  have P0 := Q0.below HBW (by omega)
  have P1 := Q1.below HBW (by omega)
  have HO1 := Lib.hid (o1.keep HBW)
  have HO2 := Lib.hid (o2.keep HBW)
  have HB3 := Lib.hid (bAnd HB2.out HBW)
  have hzW : w2.heap.size + 1 < (((w2.alloc (.cells #[.int .i64 so, .slice Ao lo.length co] 25)).alloc (.cells #[.int .i64 sa, .slice Aa la.length ca] 25)).alloc (.cells #[.int .i64 sb, .slice Ab lb.length cb] 25)).heap.size := by simp
  clear o1 o2 o3 hd HH0 HH1 Q0 Q1 HBW
  obtain ⟨g0, g1, _, _⟩ := G0
  obtain ⟨k0, k1, _, _⟩ := G1
  obtain ⟨p0, p1, p2, p3⟩ := P0
  obtain ⟨q0, q1, q2, q3⟩ := P1
  go_wp2_with fail
  generalize (((w2.alloc (.cells #[.int .i64 so, .slice Ao lo.length co] 25)).alloc (.cells #[.int .i64 sa, .slice Aa la.length ca] 25)).alloc (.cells #[.int .i64 sb, .slice Ab lb.length cb] 25)) = V at *
  have hy0 : w.heap.size < V.heap.size := by omega
  have hy1 : w.heap.size + 1 < V.heap.size := by omega
  have hy2 : w2.heap.size < V.heap.size := by omega
  have n0 : ¬ w2.heap.size = w.heap.size := by omega
  have n1 : ¬ w2.heap.size + 1 = w.heap.size := by omega
  have n2 : ¬ w2.heap.size = w.heap.size + 1 := by omega
  have n3 : ¬ w2.heap.size + 1 = w.heap.size + 1 := by omega
  go_region
  all_goals
    go_wp2
    refine bodyPost_ret (v := .tuple #[.agg #[.int .i64 so, .slice Ao lo.length co], .agg #[.int .i64 sa, .slice Aa la.length ca]]) (by simp [results, Try.results5, go_sem, p0, p1, q0, q1]) rfl ?_
    refine ⟨so, Ao, co, lo, sa, Aa, ca, la, rfl, h1, h2, ?_, ?_, ?_⟩
    · exact (put2_own (w := w) HO1.out (by omega) _ _ _ _).ri
    · exact (put2_own (w := w) HO2.out (by omega) _ _ _ _).ri
    · exact put2_below HB3.out _ _ _ _
end Go.Proofs.Ythhadbojepcdjaa
