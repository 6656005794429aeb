/- The program's maps: a map out of its text. -/
import Derived.Test.YtcadjfnfjakbeaaPgT
import Derived.Test.YtcadjfnfjakbeaaGWalkR
import Derived.Lib.OthersKept
import Derived.Laws.RangeAny
namespace Go.Proofs.Ytcadjfnfjakbeaa
open Go.RowKit

/-- The first k bytes are digits and ends of rows. -/
def goodTo (s : ByteArray) (k : Nat) : Prop := ∀ j, j < k → byteAt s j = 10 ∨ (48 ≤ byteAt s j ∧ byteAt s j ≤ 57)
theorem goodTo.step {s : ByteArray} {k : Nat} (h : goodTo s k) (hk : byteAt s k = 10 ∨ (48 ≤ byteAt s k ∧ byteAt s k ≤ 57)) : goodTo s (k + 1) := by
  intro j hj
  by_cases e : j = k
  · subst e; exact hk
  · exact h j (by omega)
theorem rdTiles_mem (s : ByteArray) (k j : Nat) (hj : j < k) (h : byteAt s j ≠ 10) : byteAt s j - 48 ∈ rdTiles s k := by
  induction k with
  | zero => omega
  | succ k ih =>
    rw [rdTiles]
    by_cases e : j = k
    · subst e; rw [if_neg h]; simp
    · split
      · exact ih (by omega)
      · exact List.mem_append_left _ (ih (by omega))
theorem bad_wrong {s : ByteArray} (h : ¬ goodTo s s.size) : gridRight (rdSide s s.size) (rdTiles s s.size) = false := by
  rw [← Bool.not_eq_true]
  intro hr
  apply h
  intro j hj
  by_cases e : byteAt s j = 10
  · exact .inl e
  · have hm := rdTiles_mem s s.size j hj e
    simp only [gridRight, Bool.and_eq_true, List.all_eq_true] at hr
    have := (tileOk_iff _).1 (hr.2 _ hm)
    omega
theorem strOfNums_toList (l : List Int) : (strOfNums l).toList.length = l.length := by
  rw [Lib.toList_data, strOfNums_data, List.length_map]
theorem readOk_eq (s : ByteArray) : readOk s = (gridRight (rdSide s s.size) (rdTiles s s.size) && (readText s).toList == s.toList) := by
  unfold readOk readText textOf
  cases hr : gridRight (rdSide s s.size) (rdTiles s s.size)
  · rw [if_neg (by simp)]
    have e : (strOfNums []).toList = [] := List.eq_nil_of_length_eq_zero (by rw [strOfNums_toList]; rfl)
    rw [e]
    cases hs : s.toList <;> simp
  · rw [if_pos rfl, Bool.true_and]
    cases hs : s.toList with
    | cons a t => simp
    | nil =>
      obtain ⟨sn, _, h1, _, hl⟩ := right_nat hr
      have hpos : 0 < (rdTiles s s.size).length := by rw [hl]; exact Nat.mul_pos h1 h1
      rw [show (!([] : List UInt8).isEmpty) = false from rfl, Bool.false_and]
      symm
      rw [← Bool.not_eq_true]
      intro h
      have h2 := congrArg List.length (eq_of_beq h)
      rw [strOfNums_toList] at h2
      obtain ⟨n, hn⟩ : ∃ n, (rdTiles s s.size).length = n + 1 := ⟨_, (Nat.succ_pred_eq_of_pos hpos).symm⟩
      rw [hn, textTo] at h2
      simp at h2
theorem OwnI.iterAt {e : TypeId} {k : IntKind} {w : World} {base : Nat} {v : Value} {l : List Int} (h : OwnI e k w base v l) {b : Nat} (hb : b < base) (s : ByteArray) (p : Nat) : OwnI e k (w.iterAt b s p) base v l := by
  refine ⟨h.1, ?_⟩
  rcases h.2 with h' | ⟨g, cap, cur, hv, hbg, hg, rest⟩
  · exact .inl h'
  · exact .inr ⟨g, cap, cur, hv, hbg, (Lib.iterAt_other w b g s p (by omega)).trans hg, rest⟩

/-- What holds while the text is ranged over: k bytes are taken. -/
structure LG (w : World) (s : ByteArray) (k : Nat) (A : Option Addr) (c : Nat) (wr : World) : Prop where
  res : GB wr w.heap.size 0 (.slice none 0 0)
  map : GB wr (w.heap.size + 1) (rdSide s k) (.slice A (rdTiles s k).length c)
  itr : wr.heap[w.heap.size + 1 + 1]? = some (.stringIter s k)
  own : OwnI 2 .i64 wr (w.heap.size + 1 + 1 + 1) (.slice A (rdTiles s k).length c) (rdTiles s k)
  bel : Below w.heap.size w wr
  siz : w.heap.size + 1 + 1 + 1 ≤ wr.heap.size

/-- What 'next' tells of a text's byte. -/
theorem next_tells (s : ByteArray) (k : Nat) (h : k < s.size) : ∃ (r : Int) (p' : Nat), (∀ (wr : World) (kk : Nat) (ty : TypeId), wr.heap[kk]? = some (.stringIter s k) → (Instr.next (.pointer (some ⟨kk, 0, none⟩)) true ty).run Try.prog wr = .ok (.tuple #[.bool true, .int .i64 k, .int .i32 r]) (wr.iterAt kk s p')) ∧ 0 ≤ r ∧ r ≤ 2147483647 ∧ ((byteAt s k = r ∧ p' = k + 1) ∨ (128 ≤ byteAt s k ∧ 128 ≤ r)) := by
  have hb := byteAt_eq s k h
  by_cases ha : (s[k]'h).toNat < 128
  · exact ⟨(s[k]'h).toNat, k + 1, fun wr kk ty hk => Lib.run_next_ascii_at wr kk s k ty hk h ha, by omega, by omega, .inl ⟨hb, rfl⟩⟩
  · obtain ⟨h1, h2⟩ := decode_high s k h (by omega)
    have h3 := decode_le s k
    exact ⟨(Utf8.decode s k).1, k + (Utf8.decode s k).2, fun wr kk ty hk => Lib.run_next_any_at wr kk s k ty hk h, by omega, by omega, .inr ⟨by omega, by omega⟩⟩

theorem iterPos_of {wr : World} {k p : Nat} {s : ByteArray} (h : wr.heap[k]? = some (.stringIter s p)) : wr.iterPos k = p := by simp [World.iterPos, h]
theorem LG.line {w wr : World} {s : ByteArray} {k : Nat} {A : Option Addr} {c : Nat} (h : LG w s k A c wr) (hb : byteAt s k = 10) :
    LG w s (k + 1) A c ((wr.iterAt (w.heap.size + 1 + 1) s (k + 1)).setCell ⟨w.heap.size + 1, 0, none⟩ (.int .i64 ((rdSide s k : Int) + 1))) := by
  have hz := h.siz
  have hbi : Below (w.heap.size + 1 + 1) wr (wr.iterAt (w.heap.size + 1 + 1) s (k + 1)) := Lib.below_iterAt (Below.refl _ _) (Nat.le_refl _) s (k + 1)
  have e1 : rdSide s (k + 1) = rdSide s k + 1 := by rw [rdSide, if_pos hb]
  have e2 : rdTiles s (k + 1) = rdTiles s k := by rw [rdTiles, if_pos hb]
  refine ⟨(h.res.below hbi (by omega)).far (by show w.heap.size + 1 ≠ _; omega) _, ?_, ?_, ?_, (h.bel.trans (hbi.mono (by omega))).setCell (by show w.heap.size ≤ w.heap.size + 1; omega) _, ?_⟩
  · rw [e1, e2]
    simpa using (h.map.below hbi (by omega)).set0 ((rdSide s k : Int) + 1)
  · rw [Below.heap_setCell _ _ _ _ (by show w.heap.size + 1 + 1 ≠ w.heap.size + 1; omega)]
    exact Lib.iterAt_heap wr _ s k (k + 1) h.itr
  · rw [e2]
    exact OwnI.set_below (by show w.heap.size + 1 < _; omega) _ (h.own.iterAt (by omega) s (k + 1))
  · simpa [World.setCell, Lib.iterAt_size] using hz
theorem LG.digit {w wr w2 : World} {s : ByteArray} {k : Nat} {A A' : Option Addr} {c c' : Nat} (h : LG w s k A c wr) (hb : byteAt s k ≠ 10)
    (ho : OwnI 2 .i64 w2 (w.heap.size + 1 + 1 + 1) (.slice A' (rdTiles s k ++ [byteAt s k - 48]).length c') (rdTiles s k ++ [byteAt s k - 48])) (hbl : Below (w.heap.size + 1 + 1 + 1) (wr.iterAt (w.heap.size + 1 + 1) s (k + 1)) w2) :
    LG w s (k + 1) A' c' (w2.setCell ⟨w.heap.size + 1, 1, none⟩ (.slice A' (rdTiles s k ++ [byteAt s k - 48]).length c')) := by
  have hz := h.siz
  have hbi : Below (w.heap.size + 1 + 1) wr (wr.iterAt (w.heap.size + 1 + 1) s (k + 1)) := Lib.below_iterAt (Below.refl _ _) (Nat.le_refl _) s (k + 1)
  have hb2 := hbi.trans (hbl.mono (by omega))
  have e1 : rdSide s (k + 1) = rdSide s k := by rw [rdSide, if_neg hb]
  have e2 : rdTiles s (k + 1) = rdTiles s k ++ [byteAt s k - 48] := by rw [rdTiles, if_neg hb]
  refine ⟨(h.res.below hb2 (by omega)).far (by show w.heap.size + 1 ≠ _; omega) _, ?_, ?_, ?_, (h.bel.trans (hb2.mono (by omega))).setCell (by show w.heap.size ≤ w.heap.size + 1; omega) _, ?_⟩
  · rw [e1, e2]
    exact (h.map.below hb2 (by omega)).set1 _
  · rw [Below.heap_setCell _ _ _ _ (by show w.heap.size + 1 + 1 ≠ w.heap.size + 1; omega), hbl.block _ (by omega)]
    exact Lib.iterAt_heap wr _ s k (k + 1) h.itr
  · rw [e2]
    exact OwnI.set_below (by show w.heap.size + 1 < _; omega) _ ho
  · have := hbl.size
    rw [Lib.iterAt_size] at this
    simp [World.setCell]; omega

def Loose (w : World) (s : ByteArray) (e : Ending) (w' : World) : Prop := ∃ (S : Int) (L : List Int) (A : Option Addr) (c : Nat), e = .returned (.agg #[.int .i64 S, .slice A L.length c]) ∧ OwnI 2 .i64 w' w.heap.size (.slice A L.length c) L ∧ Below w.heap.size w w' ∧ ((goodTo s s.size ∧ S = (rdSide s s.size : Int) ∧ L = rdTiles s s.size) ∨ (¬ goodTo s s.size ∧ S = 0 ∧ L = []))

set_option maxRecDepth 100000 in
set_option maxHeartbeats 400000 in
theorem pLoose_any (s : ByteArray) (w : World) (hs : s.size ≤ 8000) : Calls Try.prog 61 #[.string s] w fun e w' => Loose w s e w' := by
  obtain ⟨i0, hi, hz0, hz1, hz2⟩ := info_parts Try.infoInt
  go_enter Try.func61, Try.ntmps61
  go_wp2
  go_loopw [5] (fun _ wr => ∃ (k : Nat) (A : Option Addr) (c : Nat), k ≤ s.size ∧ goodTo s k ∧ LG w s k A c wr) (fun _ wr => s.size - wr.iterPos (w.heap.size + 1 + 1))
  case atStart =>
    refine ⟨0, none, 0, Nat.zero_le _, fun j hj => absurd hj (Nat.not_lt_zero _), ?_, ?_, ?_, OwnI.nil _ _ _ _, ?_, ?_⟩
    · have h0 := GB.made w 0 (.slice none 0 0) 25
      have h1 := h0.below ((Below.refl (w.heap.size + 1) _).alloc (by simp) (.cells #[.int .i64 0, .slice none 0 0] 25)) (by omega)
      exact h1.below ((Below.refl (w.heap.size + 1) _).alloc (by simp) (.stringIter s 0)) (by omega)
    · have h0 := GB.made (w.alloc (.cells #[.int .i64 0, .slice none 0 0] 25)) 0 (.slice none 0 0) 25
      rw [alloc_size] at h0
      have h1 := h0.below ((Below.refl (w.heap.size + 1 + 1) _).alloc (by simp) (.stringIter s 0)) (by omega)
      simpa [rdSide, rdTiles, World.iter] using h1
    · have h0 := World.iter_heap ((w.alloc (.cells #[.int .i64 0, .slice none 0 0] 25)).alloc (.cells #[.int .i64 0, .slice none 0 0] 25)) s 0
      simpa using h0
    · exact (((Below.refl _ _).alloc (Nat.le_refl _) _).alloc (by simp) _).alloc (by simp; omega) _
    · simp [World.iter]
  case round =>
    obtain ⟨k, A, c, hk, hgood, hlg⟩ := hrel
    have HG := Lib.hid hgood
    have hrs := rdSide_le s k
    have hrt := rdTiles_le s k
    have hsz := hlg.siz
    have hi2 := hlg.itr
    have HLG := Lib.hid hlg
    by_cases hlt : k < s.size
    · obtain ⟨r, p', hnext, hr0, hr1, hcase⟩ := next_tells s k hlt
      have hnx := fun ty => hnext wr (w.heap.size + 1 + 1) ty hi2
      have hbi : Below (w.heap.size + 1 + 1) wr (wr.iterAt (w.heap.size + 1 + 1) s p') := Lib.below_iterAt (Below.refl _ _) (Nat.le_refl _) s p'
      have HBI := Lib.hid hbi
      have HI2 : Hid ((wr.iterAt (w.heap.size + 1 + 1) s p').heap[w.heap.size + 1 + 1]? = some (.stringIter s p')) := Lib.iterAt_heap wr _ s k p' hi2
      have HO2 := Lib.hid (hlg.own.iterAt (b := w.heap.size + 1 + 1) (by omega) s p')
      have HZ2 : Hid ((wr.iterAt (w.heap.size + 1 + 1) s p').heap.size = wr.heap.size) := Lib.iterAt_size _ _ _ _
      obtain ⟨p0, p1, q0, q1⟩ := hlg.res.below hbi (by omega)
      obtain ⟨c0, c1, f0, f1⟩ := hlg.map.below hbi (by omega)
      have HC := Lib.hid hcase
      clear hlg hbi hcase hnext hgood
      by_cases h10 : r = 10
      · have hq : (r == 10) = true := by simpa using h10
        have hbk : byteAt s k = 10 ∧ p' = k + 1 := by rcases HC.out with h | h <;> omega
        obtain ⟨hbk, rfl⟩ := hbk
        subst h10
        have HN := Lib.hid (HLG.out.line hbk)
        have HGG := Lib.hid (HG.out.step (.inl hbk))
        generalize wr.iterAt (w.heap.size + 1 + 1) s (k + 1) = W at *
        clear HC
        go_wp2
        refine ⟨⟨k + 1, A, c, hlt, HGG.out, HN.out⟩, ?_⟩
        rw [iterPos_of HN.out.itr, iterPos_of HLG.out.itr]
        omega
      · have hq : (r == 10) = false := by simpa using h10
        by_cases h48 : 48 ≤ r
        · by_cases h57 : r ≤ 57
          · have hbk : byteAt s k = r ∧ p' = k + 1 := by rcases HC.out with h | h <;> omega
            obtain ⟨hbk, rfl⟩ := hbk
            have HD := Lib.hid (fun (A' : Option Addr) (c' : Nat) (w2 : World) => HLG.out.digit (A' := A') (c' := c') (w2 := w2) (by omega))
            have HGG := Lib.hid (HG.out.step (.inr (by omega)))
            rw [hbk] at HD
            have hw1 : IntKind.i32.wrap (r - 48) = r - 48 := IntWalk.i32_in _ (by omega)
            have hw2 : IntKind.i64.wrap (r - 48) = r - 48 := IntWalk.i64_in _ (by omega)
            generalize wr.iterAt (w.heap.size + 1 + 1) s (k + 1) = W at *
            clear HC
            have hzW : w.heap.size + 1 + 1 + 1 ≤ W.heap.size := by rw [HZ2.out]; exact hsz
            go_wp2_with (at_builtin; refine append_int Try.underlying23 hi hz0 hz1 hz2 (by decide) rfl _ _ rfl (w.heap.size + 1 + 1 + 1) _ _ (r - 48) W HO2.out rfl rfl (by omega) hzW ?_; intro v' w2 hown2 hb2; obtain ⟨A', c', rfl⟩ := hown2.form; have HW2 := Lib.hid hown2; have HB2 := Lib.hid hb2; obtain ⟨cc0, cc1, ff0, ff1⟩ := (GB.mk c0 c1 f0 f1).below hb2 (by omega); clear hown2 hb2)
            have HN := Lib.hid (HD.out A' c' w2 HW2.out HB2.out)
            simp only [List.length_append, List.length_singleton] at HN
            refine ⟨⟨k + 1, A', c', hlt, HGG.out, HN.out⟩, ?_⟩
            rw [iterPos_of HN.out.itr, iterPos_of HLG.out.itr]
            omega
          · have HBAD : Hid (¬ goodTo s s.size) := by
              show ¬ _
              intro hg
              rcases HC.out with h | h <;> rcases hg k hlt with h' | h' <;> omega
            generalize wr.iterAt (w.heap.size + 1 + 1) s p' = W at *
            have HBW := Lib.hid (HLG.out.bel.trans (HBI.out.mono (by omega)))
            clear HC
            go_wp2
            refine bodyPost_ret (v := .agg #[.int .i64 0, .slice none 0 0]) (by simp [results, Try.results61, go_sem, p0, p1]) rfl ?_
            exact ⟨0, [], none, 0, rfl, OwnI.nil _ _ _ _, (HBW.out.setCell (Nat.le_refl _) _).setCell (Nat.le_refl _) _, .inr ⟨HBAD.out, rfl, rfl⟩⟩
        · have HBAD : Hid (¬ goodTo s s.size) := by
            show ¬ _
            intro hg
            rcases HC.out with h | h <;> rcases hg k hlt with h' | h' <;> omega
          generalize wr.iterAt (w.heap.size + 1 + 1) s p' = W at *
          have HBW := Lib.hid (HLG.out.bel.trans (HBI.out.mono (by omega)))
          clear HC
          go_wp2
          refine bodyPost_ret (v := .agg #[.int .i64 0, .slice none 0 0]) (by simp [results, Try.results61, go_sem, p0, p1]) rfl ?_
          exact ⟨0, [], none, 0, rfl, OwnI.nil _ _ _ _, (HBW.out.setCell (Nat.le_refl _) _).setCell (Nat.le_refl _) _, .inr ⟨HBAD.out, rfl, rfl⟩⟩
    · have hnx : ∀ ty, (Instr.next (.pointer (some ⟨w.heap.size + 1 + 1, 0, none⟩)) true ty).run Try.prog wr = _ := fun ty => Lib.run_next_end_at wr _ s k ty hi2 hlt
      have ek : k = s.size := by omega
      subst ek
      obtain ⟨p0, p1, q0, q1⟩ := hlg.res
      obtain ⟨c0, c1, f0, f1⟩ := hlg.map
      clear hlg hgood
      go_wp2
      refine bodyPost_ret (v := .agg #[.int .i64 (rdSide s s.size), .slice A (rdTiles s s.size).length c]) (by simp [results, Try.results61, go_sem, p0, p1]) rfl ?_
      exact ⟨_, _, A, c, rfl, OwnI.lower (base := w.heap.size + 1 + 1 + 1) (by omega) (OwnI.set_below (by show w.heap.size < _; omega) _ (OwnI.set_below (by show w.heap.size < _; omega) _ HLG.out.own)), (HLG.out.bel.setCell (Nat.le_refl _) _).setCell (Nat.le_refl _) _, .inl ⟨HG.out, rfl, rfl⟩⟩

set_option maxRecDepth 100000 in
set_option maxHeartbeats 400000 in
theorem pRead_any (s : ByteArray) (w : World) : Calls Try.prog 15 #[.string s] w fun e w' => GOut w w' (readSide s) (readTiles s) (readCode s) e := by
  by_cases h8 : s.size ≤ 8000
  · have hbw : Below w.heap.size w (w.alloc (.cells #[.int .i64 0, .slice none 0 0, .int .i64 0] 29)) := (Below.refl _ _).alloc (Nat.le_refl _) _
    have hLo := fun w => pLoose_any s w h8
    go_enter Try.func15, Try.ntmps15
    go_wp2_with fail
    refine (hLo _).mono ?_
    rintro e w1 ⟨S, L, A, c, rfl, ho1, hb1, hor⟩
    have HOR := Lib.hid hor
    have hcap := ho1.cap
    have HGO := Lib.hid ((GO.made w 29).below hb1 (by simp))
    have HB1 := Lib.hid (hbw.trans (hb1.mono hbw.size))
    have HO1 := Lib.hid (ho1.alloc (.cells #[.int .i64 S, .slice A L.length c] 25))
    have hz1 : w.heap.size < w1.heap.size := by have := hb1.size; simp at this; omega
    have hll : L.length ≤ 8000 := by
      rcases hor with ⟨_, _, rfl⟩ | ⟨_, _, rfl⟩
      · exact Nat.le_trans (rdTiles_le s s.size) h8
      · simp
    have HB2 := Lib.hid ((Below.refl w1.heap.size w1).alloc (Nat.le_refl _) (.cells #[.int .i64 S, .slice A L.length c] 25))
    have HGB := Lib.hid (GB.made w1 S (.slice A L.length c) 25)
    have hRt := fun w h => pRight_any S A c L w h (by omega)
    have hTx := fun w h => pText_any S A c L w h (by omega) hcap
    clear hor ho1 hb1 hbw
    have hri := HO1.out.ri
    simp only [alloc_size] at HO1
    have HOK : Hid (gridRight S L = true → S = (rdSide s s.size : Int) ∧ L = rdTiles s s.size) := by
      show _ → _
      intro h
      rcases HOR.out with ⟨_, h1, h2⟩ | ⟨_, rfl, rfl⟩
      · exact ⟨h1, h2⟩
      · exact absurd h (by decide)
    have HNO : Hid (gridRight S L = false → readOk s = false) := by
      show _ → _
      intro h
      rw [readOk_eq]
      rcases HOR.out with ⟨_, rfl, rfl⟩ | ⟨h1, _, _⟩
      · rw [h]; rfl
      · rw [bad_wrong h1]; rfl
    clear HOR
    have HGA := Lib.hid (HGO.out.below HB2.out hz1)
    have HBA := Lib.hid (HB1.out.trans (HB2.out.mono (Nat.le_of_lt hz1)))
    have HZA : Hid (w1.heap.size < (w1.alloc (.cells #[.int .i64 S, .slice A L.length c] 25)).heap.size) := by show _ < _; simp
    clear HGO HB1 HB2
    go_wp2_with fail
    generalize w1.alloc (.cells #[.int .i64 S, .slice A L.length c] 25) = W at *
    cases hr : gridRight S L
    · rw [hr] at hRt
      have HN := Lib.hid (HNO.out hr)
      clear hr HNO HOK
      refine (hRt _ hri).mono ?_
      rintro e w2 ⟨rfl, hb2⟩
      obtain ⟨c0, c1, c2, f0, f1, f2⟩ := HGA.out.below hb2 (Nat.lt_trans hz1 HZA.out)
      obtain ⟨d0, d1, e0, e1⟩ := HGB.out.below hb2 HZA.out
      have HB3 := Lib.hid (HBA.out.trans (hb2.mono HBA.out.size))
      clear hb2
      go_wp2
      refine bodyPost_ret (v := .agg #[.int .i64 0, .slice none 0 0, .int .i64 3]) (by simp [results, Try.results15, go_sem, c0, c1, c2]) rfl ?_
      have e1 : readSide s = 0 := by unfold readSide; rw [if_neg (fun h => by rw [HN.out] at h; cases h.2)]
      have e2 : readTiles s = [] := by unfold readTiles; rw [if_neg (fun h => by rw [HN.out] at h; cases h.2)]
      have e3 : readCode s = 3 := by unfold readCode; rw [if_pos h8, HN.out]; rfl
      rw [e1, e2, e3]
      exact ⟨none, 0, rfl, OwnI.nil _ _ _ _, ((HB3.out.setCell (Nat.le_refl _) _).setCell (Nat.le_refl _) _).setCell (Nat.le_refl _) _⟩
    · rw [hr] at hRt
      obtain ⟨hS, hL⟩ := HOK.out hr
      have HRO : Hid (readOk s = ((strOfNums (textOf S L)).toList == s.toList)) := by
        show _ = _
        rw [readOk_eq, ← hS, ← hL, hr, Bool.true_and, readText, ← hS, ← hL]
      have HS := Lib.hid hS
      have HL := Lib.hid hL
      clear hr HNO HOK hS hL
      refine (hRt _ hri).mono ?_
      rintro e w2 ⟨rfl, hb2⟩
      have HG2 := Lib.hid (HGA.out.below hb2 (Nat.lt_trans hz1 HZA.out))
      have HX2 := Lib.hid (HGB.out.below hb2 HZA.out)
      have HO2 := Lib.hid (HO1.out.keep hb2)
      have HB3 := Lib.hid (HBA.out.trans (hb2.mono HBA.out.size))
      have hz2 : w1.heap.size < w2.heap.size := Nat.lt_of_lt_of_le HZA.out hb2.size
      have hri2 := HO2.out.ri
      clear hb2
      obtain ⟨d0, d1, e0, e1⟩ := HX2.out
      go_wp2_with fail
      refine (hTx _ hri2).mono ?_
      rintro e w3 ⟨rfl, hb3⟩
      obtain ⟨c0, c1, c2, f0, f1, f2⟩ := HG2.out.below hb3 (Nat.lt_trans hz1 hz2)
      clear d0 d1 e0 e1
      obtain ⟨d0, d1, e0, e1⟩ := HX2.out.below hb3 hz2
      have HO3 := Lib.hid (HO2.out.keep hb3)
      have HB4 := Lib.hid (HB3.out.trans (hb3.mono HB3.out.size))
      clear hb3
      cases hq : ((strOfNums (textOf S L)).toList == s.toList)
      · have HQ := Lib.hid hq
        go_wp2
        refine bodyPost_ret (v := .agg #[.int .i64 0, .slice none 0 0, .int .i64 3]) (by simp [results, Try.results15, go_sem, c0, c1, c2]) rfl ?_
        have e1 : readSide s = 0 := by unfold readSide; rw [if_neg (fun h => by rw [HRO.out, HQ.out] at h; cases h.2)]
        have e2 : readTiles s = [] := by unfold readTiles; rw [if_neg (fun h => by rw [HRO.out, HQ.out] at h; cases h.2)]
        have e3 : readCode s = 3 := by unfold readCode; rw [if_pos h8, HRO.out, HQ.out]; rfl
        rw [e1, e2, e3]
        exact ⟨none, 0, rfl, OwnI.nil _ _ _ _, ((HB4.out.setCell (Nat.le_refl _) _).setCell (Nat.le_refl _) _).setCell (Nat.le_refl _) _⟩
      · have HQ := Lib.hid hq
        go_wp2
        refine bodyPost_ret (v := .agg #[.int .i64 S, .slice A L.length c, .int .i64 0]) (by simp [results, Try.results15, go_sem, c0, c1, c2]) rfl ?_
        have e0 : readOk s = true := by rw [HRO.out, HQ.out]
        have e1 : readSide s = S := by unfold readSide; rw [if_pos ⟨h8, e0⟩, HS.out]
        have e2 : readTiles s = L := by unfold readTiles; rw [if_pos ⟨h8, e0⟩, HL.out]
        have e3 : readCode s = 0 := by unfold readCode; rw [if_pos h8, if_pos e0]
        rw [e1, e2, e3]
        exact ⟨A, c, rfl, OwnI.lower (base := w.heap.size + 1) (by omega) (OwnI.set_below (by show w.heap.size < _; omega) _ (OwnI.set_below (by show w.heap.size < _; omega) _ (OwnI.set_below (by show w.heap.size < _; omega) _ HO3.out))), ((HB4.out.setCell (Nat.le_refl _) _).setCell (Nat.le_refl _) _).setCell (Nat.le_refl _) _⟩
  · have HS := Lib.hid h8
    have h8' : (8000 : Int) < s.size := by omega
    go_enter Try.func15, Try.ntmps15
    go_wp2
    refine bodyPost_ret (v := .agg #[.int .i64 0, .slice none 0 0, .int .i64 2]) (by simp [results, Try.results15, go_sem]) rfl ?_
    have e1 : readSide s = 0 := by unfold readSide; rw [if_neg (fun h => HS.out h.1)]
    have e2 : readTiles s = [] := by unfold readTiles; rw [if_neg (fun h => HS.out h.1)]
    have e3 : readCode s = 2 := by unfold readCode; rw [if_neg HS.out]
    rw [e1, e2, e3]
    exact ⟨none, 0, rfl, OwnI.nil _ _ _ _, (Below.refl w.heap.size w).alloc (Nat.le_refl _) _⟩
theorem gridRead_does : GridReadDoes := fun s w _ => pRead_any s w
end Go.Proofs.Ytcadjfnfjakbeaa
