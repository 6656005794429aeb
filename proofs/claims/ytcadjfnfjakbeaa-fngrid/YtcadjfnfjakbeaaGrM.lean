/- What is known of maps and their texts: mathematics alone. -/
import Derived.Test.YtcadjfnfjakbeaaPgR
import Derived.Test.YtcadjfnfjakbeaaPgF
import Derived.Test.YtcadjfnfjakbeaaDrL
namespace Go.Proofs.Ytcadjfnfjakbeaa
open Go.RowKit

theorem byteAt_nums (t : List Int) (j : Nat) (h : j < t.length) (h0 : 0 ≤ t[j] ∧ t[j] ≤ 255) : byteAt (strOfNums t) j = t[j] := by
  unfold byteAt
  have e : (strOfNums t).data.getD j 0 = UInt8.ofNat (t[j]).toNat := by
    simp [strOfNums, Array.getD, h]
  rw [e, UInt8.toNat_ofNat']
  omega
/-- What the text's bytes read as. -/
def tilesOf (t : List Int) : List Int := (t.filter (fun b => !(b == 10))).map (· - 48)
def rowsOf (t : List Int) : Nat := (t.filter (fun b => b == 10)).length
theorem tilesOf_snoc (t : List Int) (b : Int) : tilesOf (t ++ [b]) = if b = 10 then tilesOf t else tilesOf t ++ [b - 48] := by
  by_cases e : b = 10 <;> simp [tilesOf, List.filter_append, e]
theorem rowsOf_snoc (t : List Int) (b : Int) : rowsOf (t ++ [b]) = if b = 10 then rowsOf t + 1 else rowsOf t := by
  by_cases e : b = 10 <;> simp [rowsOf, List.filter_append, e]
theorem rd_take (t : List Int) (hb : ∀ b ∈ t, 0 ≤ b ∧ b ≤ 255) (k : Nat) (hk : k ≤ t.length) : rdTiles (strOfNums t) k = tilesOf (t.take k) ∧ rdSide (strOfNums t) k = rowsOf (t.take k) := by
  induction k with
  | zero => simp [rdTiles, rdSide, tilesOf, rowsOf]
  | succ k ih =>
    obtain ⟨h1, h2⟩ := ih (by omega)
    have hx := byteAt_nums t k (by omega) (hb _ (List.getElem_mem _))
    rw [rdTiles, rdSide, hx, h1, h2, List.take_succ_eq_append_getElem (by omega), tilesOf_snoc, rowsOf_snoc]
    exact ⟨rfl, rfl⟩
theorem rd_all (t : List Int) (hb : ∀ b ∈ t, 0 ≤ b ∧ b ≤ 255) : rdTiles (strOfNums t) (strOfNums t).size = tilesOf t ∧ rdSide (strOfNums t) (strOfNums t).size = rowsOf t := by
  have := rd_take t hb t.length (Nat.le_refl _)
  rwa [List.take_length, ← strOfNums_size t] at this
theorem text_reads (sn : Nat) (l : List Int) (hs : 1 ≤ sn) (ht : ∀ j (hj : j < l.length), 0 ≤ l[j] ∧ l[j] ≤ 9) (k : Nat) (hk : k ≤ l.length) :
    tilesOf (textTo sn l k) = l.take k ∧ rowsOf (textTo sn l k) = k / sn ∧ ∀ b ∈ textTo sn l k, 0 ≤ b ∧ b ≤ 255 := by
  induction k with
  | zero => simp [textTo, tilesOf, rowsOf]
  | succ k ih =>
    obtain ⟨h1, h2, h3⟩ := ih (by omega)
    have hkl : k < l.length := by omega
    have hx := ht k hkl
    have e : l.getD k 0 = l[k] := by simp [List.getD, hkl]
    rw [textTo, e]
    have hne : ¬ (48 + l[k] = 10) := by omega
    have hm : ((k : Nat) : Int) % (sn : Int) = ((k % sn : Nat) : Int) := by simp
    have hdiv : (k + 1) / sn = k / sn + (if k % sn = sn - 1 then 1 else 0) := by
      have h4 := Nat.div_add_mod k sn
      have h5 := Nat.mod_lt k (show 0 < sn by omega)
      split
      · next h6 =>
        have : k + 1 = sn * (k / sn + 1) := by rw [Nat.mul_add, Nat.mul_one]; omega
        rw [this, Nat.mul_div_cancel_left _ (by omega)]
      · next h6 =>
        rw [Nat.add_zero]
        have : k + 1 = sn * (k / sn) + (k % sn + 1) := by omega
        rw [this, Nat.mul_add_div (m := sn) hs, Nat.div_eq_of_lt (show k % sn + 1 < sn by omega), Nat.add_zero]
    refine ⟨?_, ?_, ?_⟩
    · rw [List.take_succ_eq_append_getElem hkl, ← h1]
      split
      · rw [List.append_cons, tilesOf_snoc, if_pos rfl, tilesOf_snoc, if_neg hne]
        congr 2
        omega
      · rw [tilesOf_snoc, if_neg hne]
        congr 2
        omega
    · rw [hdiv, ← h2, hm]
      by_cases h6 : k % sn = sn - 1
      · rw [if_pos h6, if_pos (by omega), List.append_cons, rowsOf_snoc, if_pos rfl, rowsOf_snoc, if_neg hne]
      · rw [if_neg h6, if_neg (by omega), rowsOf_snoc, if_neg hne, Nat.add_zero]
    · intro b hb
      rcases List.mem_append.1 hb with hb | hb
      · exact h3 b hb
      · rcases List.mem_cons.1 hb with rfl | hb
        · omega
        · split at hb
          · simp at hb; omega
          · cases hb

/-- A right map comes back from its text. -/
theorem read_back {side : Int} {l : List Int} (h : gridRight side l = true) : readSide (strOfNums (textOf side l)) = side ∧ readTiles (strOfNums (textOf side l)) = l ∧ readCode (strOfNums (textOf side l)) = 0 := by
  obtain ⟨sn, rfl, h1, h8, hl⟩ := right_nat h
  obtain ⟨_, _, ht⟩ := right_parts h
  obtain ⟨r1, r2, r3⟩ := text_reads sn l h1 ht l.length (Nat.le_refl _)
  have e : textOf sn l = textTo sn l l.length := by unfold textOf; rw [if_pos h]
  have hq : l.length / sn = sn := by rw [hl]; exact Nat.mul_div_cancel_left _ (by omega)
  rw [List.take_length] at r1
  rw [hq] at r2
  obtain ⟨k1, k2⟩ := rd_all _ r3
  rw [r1] at k1
  rw [r2] at k2
  have hsz : (strOfNums (textTo sn l l.length)).size ≤ 8000 := by
    rw [strOfNums_size]
    have := textTo_length sn l l.length
    have := right_len h
    omega
  have hok : readOk (strOfNums (textTo sn l l.length)) = true := by
    rw [readOk_eq, readText, k1, k2, h, e]
    simp
  rw [e]
  refine ⟨?_, ?_, ?_⟩
  · unfold readSide; rw [if_pos ⟨hsz, hok⟩, k2]
  · unfold readTiles; rw [if_pos ⟨hsz, hok⟩, k1]
  · unfold readCode; rw [if_pos hsz, if_pos hok]

/-- Of a text that is read the map has that text. -/
theorem read_text {u : ByteArray} (h : readCode u = 0) : gridRight (readSide u) (readTiles u) = true ∧ ((strOfNums (textOf (readSide u) (readTiles u))).toList == u.toList) = true := by
  unfold readCode at h
  split at h
  · next hs =>
    split at h
    · next hok =>
      have e1 : readSide u = (rdSide u u.size : Int) := by unfold readSide; rw [if_pos ⟨hs, hok⟩]
      have e2 : readTiles u = rdTiles u u.size := by unfold readTiles; rw [if_pos ⟨hs, hok⟩]
      have h2 := hok
      rw [readOk_eq, Bool.and_eq_true] at h2
      rw [e1, e2]
      exact ⟨h2.1, h2.2⟩
    · cases h
  · cases h
theorem new_ok {side tile : Int} (h : newCode side tile = 0) : gridRight (newSide side tile) (newTiles side tile) = true := by
  unfold newCode at h
  split at h
  · next hc =>
    unfold newSide newTiles
    rw [if_pos hc, if_pos hc]
    rw [Bool.and_eq_true] at hc
    have ht := hc.2
    simp only [gridRight, Bool.and_eq_true, beq_iff_eq, List.all_eq_true]
    refine ⟨⟨hc.1, ?_⟩, fun x hx => by rw [List.eq_of_mem_replicate hx]; exact ht⟩
    rw [List.length_replicate]
    rcases (sideOk_iff side).1 hc.1 with rfl | rfl | rfl | rfl <;> decide
  · cases h
theorem fill_ok {side x y w h t : Int} {l : List Int} (hc : fillCode side l x y w h t = 0) : fillOk side l t = true ∧ fillIn side x y w h = true := by
  unfold fillCode at hc
  split at hc
  · next h1 =>
    split at hc
    · next h2 => exact ⟨h1, h2⟩
    · cases hc
  · cases hc
theorem fill_is {side x y w h t : Int} {l : List Int} (hc : fillCode side l x y w h t = 0) : fillSide side l x y w h t = side ∧ fillTiles side l x y w h t = fillL side l x y w h t ∧ gridRight side l = true ∧ gridRight side (fillL side l x y w h t) = true := by
  obtain ⟨h1, h2⟩ := fill_ok hc
  have h3 := h1
  rw [fillOk, Bool.and_eq_true] at h3
  refine ⟨?_, ?_, h3.1, fill_right _ h3.1 h3.2⟩
  · unfold fillSide; rw [h1, h2]; rfl
  · unfold fillTiles; rw [h1, h2]; rfl
/-- What is filled is filled, and nothing else is turned. -/
theorem fill_tile {side x y w h t : Int} {l : List Int} (hr : gridRight side l = true) (hr2 : gridRight side (fillL side l x y w h t) = true) {i j : Int} (hi : 0 ≤ i ∧ i < side) (hj : 0 ≤ j ∧ j < side) :
    tileAt side (fillL side l x y w h t) i j = if x ≤ i ∧ i < x + w ∧ y ≤ j ∧ j < y + h then t else tileAt side l i j := by
  have hin : gridIn side i j = true := gridIn_iff.2 ⟨hi.1, hi.2, hj.1, hj.2⟩
  obtain ⟨q, hq, hql, _, _⟩ := place_bound hr hin
  unfold tileAt
  rw [hr, hr2, hin, Bool.and_self, if_pos rfl, if_pos rfl, hq]
  have hlen : q < (fillL side l x y w h t).length := by rw [fillL, paint_length]; exact hql
  have e1 : (fillL side l x y w h t).getD ((q : Nat) : Int).toNat 0 = (fillL side l x y w h t)[q] := by simp [List.getD, hlen]
  have e2 : l.getD ((q : Nat) : Int).toNat 0 = l[q] := by simp [List.getD, hql]
  rw [e1, e2]
  have e3 : (fillL side l x y w h t)[q] = if inRect side x y w h q then t else l[q] := paint_get _ _ _ _ _
  rw [e3]
  have hs : 0 < side := by omega
  have hm : (q : Int) % side = i := by
    rw [← hq, Int.add_comm, Int.add_mul_emod_self_right, Int.emod_eq_of_lt hi.1 hi.2]
  have hd : (q : Int) / side = j := by
    rw [← hq, Int.add_comm, Int.add_mul_ediv_right _ _ (by omega), Int.ediv_eq_zero_of_lt hi.1 hi.2, Int.zero_add]
  unfold inRect
  rw [hm, hd]
  by_cases hc : x ≤ i ∧ i < x + w ∧ y ≤ j ∧ j < y + h
  · rw [if_pos hc, if_pos (by simpa using hc)]
  · rw [if_neg hc, if_neg (by simpa using hc)]
/-- A text that is not empty is a right map's. -/
theorem text_right {side : Int} {l : List Int} (h : (strOfNums (textOf side l)).toList.isEmpty = false) : gridRight side l = true := by
  cases hr : gridRight side l
  · exfalso
    unfold textOf at h
    rw [hr, Lib.toList_data] at h
    simp [strOfNums] at h
  · rfl
end Go.Proofs.Ytcadjfnfjakbeaa
