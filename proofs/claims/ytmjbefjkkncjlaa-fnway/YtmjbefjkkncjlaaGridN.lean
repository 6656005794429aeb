/- The model's maps: new ones. -/
import Derived.Test.YtmjbefjkkncjlaaGridM
namespace Go.Proofs.Ytmjbefjkkncjlaa
open Go.RowKit

/-- Block b holds a map's fields: its side and the slice v. -/
structure GB (w : World) (b : Nat) (side : Int) (v : Value) : Prop where
  c0 : w.cell? ⟨b, 0, none⟩ = some (.int .i64 side)
  c1 : w.cell? ⟨b, 1, none⟩ = some v
  f0 : w.frozen? ⟨b, 0, none⟩ = false
  f1 : w.frozen? ⟨b, 1, none⟩ = false
theorem OwnI.form {e : TypeId} {k : IntKind} {w : World} {base : Nat} {v : Value} {l : List Int} (h : OwnI e k w base v l) : ∃ A c, v = .slice A l.length c := by
  rcases h.2 with ⟨hv, hn⟩ | ⟨g, cap, cur, hv, _⟩
  · exact ⟨none, 0, by rw [hv, hn]⟩
  · exact ⟨_, _, hv⟩
theorem GB.below {w w' : World} {b B : Nat} {side : Int} {v : Value} (h : GB w b side v) (hb : Below B w w') (hB : b < B) : GB w' b side v :=
  ⟨(hb.cell (p := ⟨b, 0, none⟩) hB).trans h.c0, (hb.cell (p := ⟨b, 1, none⟩) hB).trans h.c1, (hb.frozen (p := ⟨b, 0, none⟩) hB).trans h.f0, (hb.frozen (p := ⟨b, 1, none⟩) hB).trans h.f1⟩
theorem GB.set1 {w : World} {b : Nat} {side : Int} {v : Value} (h : GB w b side v) (v' : Value) : GB (w.setCell ⟨b, 1, none⟩ v') b side v' :=
  ⟨(World.cell?_setCell_other _ _ _ _ (by simp)).trans h.c0, World.cell?_setCell_same _ _ _ h.c1, by simpa using h.f0, by simpa using h.f1⟩
theorem GB.set0 {w : World} {b : Nat} {side : Int} {v : Value} (h : GB w b side v) (s : Int) : GB (w.setCell ⟨b, 0, none⟩ (.int .i64 s)) b s v :=
  ⟨World.cell?_setCell_same _ _ _ h.c0, (World.cell?_setCell_other _ _ _ _ (by simp)).trans h.c1, by simpa using h.f0, by simpa using h.f1⟩
theorem GB.far {w : World} {b : Nat} {side : Int} {v : Value} (h : GB w b side v) {p : Addr} (hp : p.block ≠ b) (u : Value) : GB (w.setCell p u) b side v :=
  ⟨(World.cell?_setCell_other _ _ _ _ (by rintro rfl; exact hp rfl)).trans h.c0, (World.cell?_setCell_other _ _ _ _ (by rintro rfl; exact hp rfl)).trans h.c1, by simpa using h.f0, by simpa using h.f1⟩
theorem GB.made (w : World) (side : Int) (v : Value) (t : TypeId) : GB (w.alloc (.cells #[.int .i64 side, v] t)) w.heap.size side v :=
  ⟨by simp [go_sem], by simp [go_sem], by simp [go_sem], by simp [go_sem]⟩

set_option maxRecDepth 100000 in
set_option maxHeartbeats 400000 in
theorem mNew_any (side tile : Int) (w : World) (hs : sideOk side = true) :
    Calls Try.prog 60 #[.int .i64 side, .int .i64 tile] w fun e w' => ∃ A c, e = .returned (.agg #[.int .i64 side, .slice A (side * side).toNat c]) ∧ OwnI 2 .i64 w' w.heap.size (.slice A (side * side).toNat c) (List.replicate (side * side).toNat tile) ∧ Below w.heap.size w w' := by
  obtain ⟨i0, hi, hz0, hz1, hz2⟩ := info_parts Try.infoInt
  obtain ⟨n, hn, hn64, hm⟩ : ∃ n : Nat, side * side = n ∧ n ≤ 64 ∧ IntKind.i64.wrap (side * side) = side * side := by
    rcases (sideOk_iff side).1 hs with rfl | rfl | rfl | rfl
    · exact ⟨1, rfl, by decide, by decide⟩
    · exact ⟨4, rfl, by decide, by decide⟩
    · exact ⟨16, rfl, by decide, by decide⟩
    · exact ⟨64, rfl, by decide, by decide⟩
  rw [hn] at hm
  have HN := Lib.hid hn
  clear hs
  go_enter Try.func60, Try.ntmps60
  go_wp2
  have hb0 : Below w.heap.size w ((w.alloc (Obj.cells #[Value.int IntKind.i64 0, Value.slice none 0 0] 25)).alloc
      (Obj.cells #[Value.int IntKind.i64 side, Value.slice none 0 0] 25)) := ((Below.refl _ _).alloc (Nat.le_refl _) _).alloc (by simp) _
  go_loopw [6] (fun i wr => ∃ (k : Nat) (A : Option Addr) (c : Nat), i = .int .i64 k ∧ k ≤ n ∧ GB wr w.heap.size 0 (.slice none 0 0) ∧ GB wr (w.heap.size + 1) side (.slice A k c) ∧ OwnI 2 .i64 wr (w.heap.size + 1 + 1) (.slice A k c) (List.replicate k tile) ∧ Below w.heap.size w wr ∧ w.heap.size + 1 + 1 ≤ wr.heap.size) (fun i _ => n - (intOf i).toNat)
  case atStart => exact ⟨0, none, 0, rfl, Nat.zero_le _, (GB.made _ _ _ _).below ((Below.refl _ _).alloc (B := w.heap.size + 1) (by simp) _) (by omega), by simpa using GB.made (w.alloc (Obj.cells #[Value.int IntKind.i64 0, Value.slice none 0 0] 25)) side (.slice none 0 0) 25, OwnI.nil _ _ _ _, hb0, by simp⟩
  case round =>
    obtain ⟨k, A, c, rfl, hk, hg0, hg1, hown, hb, hsz⟩ := hrel
    obtain ⟨r0, r1, s0, s1⟩ := hg0
    obtain ⟨c0, c1, f0, f1⟩ := hg1
    have HG0 := Lib.hid (GB.mk r0 r1 s0 s1)
    have HG1 := Lib.hid (GB.mk c0 c1 f0 f1)
    have hlen := List.length_replicate (n := k) (a := tile)
    by_cases hlt : k < n
    · go_wp2_with (at_builtin; refine append_int Try.underlying23 hi hz0 hz1 hz2 (by decide) rfl _ _ rfl (w.heap.size + 1 + 1) _ _ tile wr hown rfl rfl (by omega) hsz ?_; intro v' w1 hown1 hb1; obtain ⟨A', c', rfl⟩ := hown1.form; obtain ⟨hc1, hf1⟩ := bcell hb1; have HW1 := Lib.hid hown1; have HB1 := Lib.hid hb1; clear hown1 hb1)
      have el : List.replicate k tile ++ [tile] = List.replicate (k + 1) tile := (List.replicate_succ' ..).symm
      have HW2 := HW1.out
      rw [el, List.length_replicate] at HW2
      go_roundw
      case rel =>
        refine ⟨k + 1, A', c', by go_num, by omega, (HG0.out.below HB1.out (by omega)).far (by simp) _, ?_, OwnI.set_below (by show w.heap.size + 1 < _; omega) _ HW2, (hb.trans (HB1.out.mono (by omega))).setCell (by show w.heap.size ≤ w.heap.size + 1; omega) _, ?_⟩
        · simpa using (HG1.out.below HB1.out (by omega)).set1 (.slice A' (List.replicate k tile ++ [tile]).length c')
        · have := HB1.out.size
          simp [World.setCell]
          omega
      case measure => simp [intOf]; omega
    · have ek : k = n := by omega
      subst ek
      have HOW := Lib.hid hown
      clear hown
      go_wp2
      refine bodyPost_ret (v := .agg #[.int .i64 side, .slice A k c]) (by simp [results, Try.results60, go_sem, r0, r1]) rfl ⟨A, c, ?_, ?_, ?_⟩
      · rw [HN.out]; rfl
      · rw [HN.out]
        exact OwnI.lower (base := w.heap.size + 1 + 1) (by omega) (OwnI.set_below (by show w.heap.size < _; omega) _ (OwnI.set_below (by show w.heap.size < _; omega) _ HOW.out))
      · exact (hb.setCell (by simp) _).setCell (by simp) _

/-- What is handed back: a map and a code; beside a code there is nothing. -/
def GOut (w w' : World) (side : Int) (l : List Int) (code : Int) (e : Ending) : Prop :=
  ∃ A c, e = .returned (.agg #[.int .i64 side, .slice A l.length c, .int .i64 code]) ∧ OwnI 2 .i64 w' w.heap.size (.slice A l.length c) l ∧ Below w.heap.size w w'
def newSide (side tile : Int) : Int := if sideOk side && tileOk tile then side else 0
def newTiles (side tile : Int) : List Int := if sideOk side && tileOk tile then List.replicate (side * side).toNat tile else []
def newCode (side tile : Int) : Int := if sideOk side && tileOk tile then 0 else 1

end Go.Proofs.Ytmjbefjkkncjlaa
