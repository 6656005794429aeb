/- What the laws on maps draw: a map. -/
import Derived.Test.YthhadbojepcdjaaDrM
namespace Go.Proofs.Ythhadbojepcdjaa
open Go.RowKit

/-- A map that was drawn: small, of small numbers, in new memory. -/
def GridPost (w : World) (g : Nat) (e : Ending) (w' : World) : Prop := ∃ (side : Int) (A : Option Addr) (c : Nat) (l : List Int), e = .returned (.agg #[.int .i64 side, .slice A l.length c]) ∧ (0 ≤ side ∧ side ≤ 10 ∧ l.length ≤ 65 ∧ ∀ n ∈ l, -1 ≤ n ∧ n ≤ 10) ∧ OwnI 2 .i64 w' w.heap.size (.slice A l.length c) l ∧ Drew w g w'
theorem right_small {side : Int} {l : List Int} (h : gridRight side l = true) : 0 ≤ side ∧ side ≤ 10 ∧ l.length ≤ 65 ∧ ∀ n ∈ l, -1 ≤ n ∧ n ≤ 10 := by
  obtain ⟨hs, _, ht⟩ := right_parts h
  have := side_bound hs
  have := right_len h
  refine ⟨by omega, by omega, by omega, fun n hn => ?_⟩
  obtain ⟨j, hj, rfl⟩ := List.getElem_of_mem hn
  have := ht j hj
  omega
theorem new_right {side : Int} (h : sideOk side = true) : gridRight side (List.replicate (side * side).toNat 0) = true := by
  rcases (sideOk_iff side).1 h with rfl | rfl | rfl | rfl <;> decide

theorem lit_in {w W w1 : World} {g k : Nat} {l : List Int} (hW : W.heap = (w.alloc (.cells (l.map (Value.int .i64)).toArray 2)).heap) (hk : k < l.length) (hg : g < w.heap.size) (h : W.grownBy w1 (some g)) : w1.cell? ⟨w.heap.size, k, none⟩ = some (.int .i64 l[k]) := by
  have hb : w1.heap[w.heap.size]? = (w.alloc (.cells (l.map (Value.int .i64)).toArray 2)).heap[w.heap.size]? := by
    rw [h.block w.heap.size (by rw [hW]; show _ < (w.alloc _).heap.size; simp) (fun e => by have := Option.some.inj e; omega), hW]
  rw [World.cell?_of_block (a := ⟨w.heap.size, k, none⟩) hb, cell_of_row (w.alloc (.cells (l.map (Value.int .i64)).toArray 2)) w.heap.size k _ 2 (0, 0) (heap_alloc_new w _)]
  simp [hk]
theorem lit_arr {k : Nat} (hk : k < ([-1, 10] : List Int).length) : (#[Value.int .i64 (-1), Value.int .i64 10] : Array Value)[k]? = some (.int .i64 ([-1, 10] : List Int)[k]) := by
  have h2 : k < 2 := by simpa using hk
  match k, h2 with
  | 0, _ => rfl
  | 1, _ => rfl
theorem lit_new (w : World) {k : Nat} {l : List Int} (hk : k < l.length) : (w.alloc (.cells (l.map (Value.int .i64)).toArray 2)).cell? ⟨w.heap.size, k, none⟩ = some (.int .i64 l[k]) := by
  rw [cell_of_row (w.alloc (.cells (l.map (Value.int .i64)).toArray 2)) w.heap.size k _ 2 (0, 0) (heap_alloc_new w _)]
  simp [hk]

/-- What holds once the map stands in its box o. -/
structure GX (w : World) (g o : Nat) (side : Int) (A : Option Addr) (c : Nat) (l : List Int) (wr : World) : Prop where
  res : GB wr w.heap.size 0 (.slice none 0 0)
  box : GB wr o side (.slice A l.length c)
  own : OwnI 2 .i64 wr (w.heap.size + 1) (.slice A l.length c) l
  drw : Drew w g wr
  siz : g < w.heap.size ∧ w.heap.size < o ∧ o < wr.heap.size
  tag : ∃ cs, wr.heap[o]? = some (.cells cs 25 (0, 0))
theorem tag_apart {w : World} {base o : Nat} {v : Value} {l : List Int} (h : OwnI 2 .i64 w base v l) (ht : ∃ cs, w.heap[o]? = some (.cells cs 25 (0, 0))) : ∀ k, v.ownBlock = some k → k ≠ o := by
  rintro k hk rfl
  obtain ⟨cs, ht⟩ := ht
  rcases h.2 with ⟨rfl, _⟩ | ⟨g', cap, cur, rfl, _, hg, _⟩
  · cases hk
  · have e : g' = k := Option.some.inj hk
    rw [e, ht] at hg
    have h2 := Obj.cells.inj (Option.some.inj hg)
    exact absurd h2.2.1 (by decide)
section
variable {w wr wr' : World} {g o c : Nat} {side : Int} {A : Option Addr} {l : List Int}
theorem GX.apt (h : GX w g o side A c l wr) : ∀ k, (Value.slice A l.length c).ownBlock = some k → k ≠ o := tag_apart h.own h.tag
theorem GX.drew (h : GX w g o side A c l wr) (hd : Drew wr g wr') : GX w g o side A c l wr' := by
  obtain ⟨h1, h2, h3⟩ := h.siz
  exact ⟨h.res.drewn hd (by omega) (by omega), h.box.drewn hd (by omega) h3, h.own.drewn hd (by omega), h.drw.trans hd, ⟨h1, h2, Nat.lt_of_lt_of_le h3 hd.2.size⟩, by rw [hd.2.block o h3 (fun e => by have := Option.some.inj e; omega)]; exact h.tag⟩
theorem GX.below (h : GX w g o side A c l wr) (hb : Below wr.heap.size wr wr') : GX w g o side A c l wr' := by
  obtain ⟨h1, h2, h3⟩ := h.siz
  exact ⟨h.res.below hb (by omega), h.box.below hb h3, h.own.keep hb, h.drw.more h1 (hb.mono (by omega)), ⟨h1, h2, Nat.lt_of_lt_of_le h3 hb.size⟩, by rw [hb.block o h3]; exact h.tag⟩
theorem GX.fin (h : GX w g o side A c l wr) (hs : 0 ≤ side ∧ side ≤ 10 ∧ l.length ≤ 65 ∧ ∀ n ∈ l, -1 ≤ n ∧ n ≤ 10) :
    GridPost w g (.returned (.agg #[.int .i64 side, .slice A l.length c])) ((wr.setCell ⟨w.heap.size, 0, none⟩ (.int .i64 side)).setCell ⟨w.heap.size, 1, none⟩ (.slice A l.length c)) := by
  have hb : Below w.heap.size wr ((wr.setCell ⟨w.heap.size, 0, none⟩ (.int .i64 side)).setCell ⟨w.heap.size, 1, none⟩ (.slice A l.length c)) := ((Below.refl _ _).setCell (by simp) _).setCell (by simp) _
  exact ⟨side, A, c, l, rfl, hs, OwnI.lower (base := w.heap.size + 1) (by omega) (OwnI.set_below (by show w.heap.size < _; omega) _ (OwnI.set_below (by show w.heap.size < _; omega) _ h.own)), h.drw.more h.siz.1 hb⟩
theorem GX.setSide (h : GX w g o side A c l wr) (s : Int) : GX w g o s A c l (wr.setCell ⟨o, 0, none⟩ (.int .i64 s)) := by
  obtain ⟨h1, h2, h3⟩ := h.siz
  have hb : Below w.heap.size wr (wr.setCell ⟨o, 0, none⟩ (.int .i64 s)) := (Below.refl _ _).setCell (by show w.heap.size ≤ o; omega) _
  exact ⟨h.res.far (by show o ≠ _; omega) _, h.box.set0 s, h.own.other (fun k hk => h.apt k hk) _, h.drw.more h1 hb, ⟨h1, h2, by simpa [World.setCell] using h3⟩, h.tag.elim fun cs e => ⟨_, heap_setCell_same _ _ _ _ _ _ e⟩⟩
theorem GB.grownW {b : Nat} {v : Value} {row : Option Nat} (h : GB wr b side v) (hg : wr.grownBy wr' row) (hb : b < wr.heap.size) (hn : row ≠ some b) : GB wr' b side v := by
  have e := hg.block b hb (Ne.symm hn)
  exact ⟨(World.cell?_of_block (w := wr) (a := ⟨b, 0, none⟩) e).trans h.c0, (World.cell?_of_block (w := wr) (a := ⟨b, 1, none⟩) e).trans h.c1, (World.frozen?_of_block (w := wr) (a := ⟨b, 0, none⟩) e).trans h.f0, (World.frozen?_of_block (w := wr) (a := ⟨b, 1, none⟩) e).trans h.f1⟩
theorem GX.src (h : GX w g o side A c l wr) : SrcB wr g := h.drw.1
theorem GX.setTile {gt : Nat} (h : GX w g o side (some ⟨gt, 0, none⟩) c l wr) (x : Int) : GX w g o side (some ⟨gt, 0, none⟩) c (l.set 0 x) (wr.setCell ⟨gt, 0, none⟩ (.int .i64 x)) := by
  obtain ⟨h1, h2, h3⟩ := h.siz
  have hne : gt ≠ o := h.apt gt rfl
  have hlow := (World.ownsRow.lt h.own gt rfl).1
  have hb : Below w.heap.size wr (wr.setCell ⟨gt, 0, none⟩ (.int .i64 x)) := (Below.refl _ _).setCell (by show w.heap.size ≤ gt; omega) _
  refine ⟨h.res.far (by show gt ≠ _; omega) _, ?_, ?_, h.drw.more h1 hb, ⟨h1, h2, by simpa [World.setCell] using h3⟩, ?_⟩
  · rw [List.length_set]; exact h.box.far hne _
  · rw [List.length_set]; exact (h.own.store x).1
  · rw [Below.heap_setCell _ _ _ _ (by show o ≠ gt; omega)]; exact h.tag
theorem GX.resGrown (h : GX w g o side A c l wr) (hg : wr.grownBy wr' (Value.slice A l.length c).ownBlock) : GB wr' w.heap.size 0 (.slice none 0 0) := h.res.grownW hg (by have := h.siz; omega) (fun e => by have := (World.ownsRow.lt h.own _ e).1; omega)
theorem GX.setTiles {A' : Option Addr} {c' : Nat} {l' : List Int} (h : GX w g o side A c l wr) (hg : wr.grownBy wr' (Value.slice A l.length c).ownBlock) (ho : OwnI 2 .i64 wr' (w.heap.size + 1) (.slice A' l'.length c') l') : GX w g o side A' c' l' (wr'.setCell ⟨o, 1, none⟩ (.slice A' l'.length c')) := by
  obtain ⟨h1, h2, h3⟩ := h.siz
  have hne : (Value.slice A l.length c).ownBlock ≠ some o := fun e => h.apt o e rfl
  have hnr : (Value.slice A l.length c).ownBlock ≠ some w.heap.size := fun e => by have := (World.ownsRow.lt h.own _ e).1; omega
  have hlow : ∀ k, (Value.slice A l.length c).ownBlock = some k → w.heap.size + 1 ≤ k := fun k e => (World.ownsRow.lt h.own _ e).1
  have ht : ∃ cs, wr'.heap[o]? = some (.cells cs 25 (0, 0)) := by rw [hg.block o h3 (Ne.symm hne)]; exact h.tag
  have hb0 : Below w.heap.size wr wr' := ⟨hg.os, hg.tape, hg.output, hg.size, fun k hk => hg.block k (by omega) (fun e => by have := hlow k e.symm; omega)⟩
  have hb : Below w.heap.size wr (wr'.setCell ⟨o, 1, none⟩ (.slice A' l'.length c')) := hb0.setCell (by show w.heap.size ≤ o; omega) _
  exact ⟨((h.res.grownW hg (by omega) hnr).far (by show o ≠ _; omega) _), (h.box.grownW hg h3 hne).set1 _, ho.other (tag_apart ho ht) _, h.drw.more h1 hb, ⟨h1, h2, by have := hg.size; simp [World.setCell]; omega⟩, ht.elim fun cs e => ⟨_, heap_setCell_same _ _ _ _ _ _ e⟩⟩
end
/-- append of one number, and which blocks stay. -/
theorem append_one {P : Program} {t e : TypeId} {k : IntKind} {by_ : Nat} {i : TypeInfo} (ht : P.underlying t = some (.slice e)) (hi : P.info? e = some i) (hz : i.zero = some (.int k 0)) (hsz : i.size = 1) (hby : i.bytes = by_) (h8 : by_ ≤ 8)
    {ops : Array Oper} {rest : List Oper} {o : Oper} {a : Act} {Q : Exit → Act → World → Prop} (hgd : o.guard = none) (s x : Operand)
    (ho : o.op = .call { callee := .builtin .append, args := #[s, x], argTypes := #[t, t] })
    (base : Nat) (v : Value) (l : List Int) (b : Int) (wr : World) (hown : OwnI e k wr base v l) (hs : a.eval s = v)
    (hx : a.eval x = .slice (some ⟨wr.heap.size, 0, none⟩) 1 1) (hlen : l.length < 17000000000000) (hb : base ≤ wr.heap.size)
    (h : ∀ v' w', OwnI e k w' base v' (l ++ [b]) → wr.grownBy w' v.ownBlock → wpList P ops Q rest (a.put o.dst v') w') :
    wpList P ops Q (o :: rest) a (wr.alloc (.cells #[.int k b] e)) := by
  refine wpList_append_own _ hgd s x t ho base e i (.int k 0) 1 by_ ht hi hz hsz hby rfl (by decide) v l.length _ hs (World.ownsRow.alloc hown _) ⟨wr.heap.size, 0, none⟩ 1 1 [.int k b] hx rfl ?_ ?_ ?_ ?_ ?_ ?_
  · exact cell_one_new _ _ _
  · intro u hu; simp at hu; subst hu; rfl
  · unfold maxLen; omega
  · have h1 : (l.length + 1) * by_ ≤ (l.length + 1) * 8 := Nat.mul_le_mul_left _ h8
    omega
  · simp; omega
  · intro v' w' hown' hgrow _
    refine h v' w' ?_ ?_
    · simpa [OwnI] using hown'
    · exact ⟨hgrow.os, hgrow.tape, hgrow.output, Nat.le_trans (by simp) hgrow.size, fun j hj hne => (hgrow.block j (by simp; omega) hne).trans (Below.heap_alloc wr _ j hj)⟩

set_option maxRecDepth 100000 in
set_option maxHeartbeats 1000000 in
theorem grid_any (g : Nat) (w : World) (hs : SrcB w g) :
    Calls Try.prog 37 #[.pointer (some ⟨g, 0, none⟩)] w (GridPost w g) := by
  obtain ⟨i0, hi, hz0, hz1, hz2⟩ := info_parts Try.infoInt
  have hlt := hs.lt
  have H0 := Lib.hid ((Drew.refl hs).alloc (.cells #[.int .i64 0, .slice none 0 0] 25))
  have HG0 := Lib.hid (GB.made w 0 (.slice none 0 0) 25)
  clear hs
  go_enter Try.func37, Try.ntmps37
  go_wp2_with fail
  have HD1 := Lib.hid (H0.out.alloc (.cells #[.int .i64 1, .int .i64 2, .int .i64 4, .int .i64 4, .int .i64 8] 2))
  have HG1 := Lib.hid (HG0.out.below ((Below.refl (w.heap.size + 1) _).alloc (by simp) (.cells #[.int .i64 1, .int .i64 2, .int .i64 4, .int .i64 4, .int .i64 8] 2)) (by omega))
  refine (src_n g 5 _ HD1.out.1 (by omega)).mono ?_
  rintro e w2 ⟨r, rfl, h1, h2, h3, h4, h5, h6⟩
  have h2' := h2 (by omega)
  obtain ⟨k, rfl⟩ := Int.eq_ofNat_of_zero_le h1
  have hk : k < ([1, 2, 4, 4, 8] : List Int).length := by simp; omega
  have hc := lit_at (w := w.alloc (.cells #[.int .i64 0, .slice none 0 0] 25)) (l := [1, 2, 4, 4, 8]) hk (by simp; omega) h5
  rw [alloc_size] at hc
  have HS : Hid (sideOk ([1, 2, 4, 4, 8] : List Int)[k] = true) := by
    show _ = _
    have hk5 : k < 5 := by omega
    match k, hk5 with
    | 0, _ => rfl
    | 1, _ => rfl
    | 2, _ => rfl
    | 3, _ => rfl
    | 4, _ => rfl
  have HD2 : Hid (Drew w g w2) := HD1.out.trans ⟨h4, h5⟩
  have HG2 := Lib.hid (HG1.out.drewn (g := g) ⟨h4, h5⟩ (by omega) (by simp; omega))
  have hz2 : w.heap.size + 1 < w2.heap.size := by have := h5.size; simp at this; omega
  generalize ([1, 2, 4, 4, 8] : List Int)[k] = side at *
  clear h2 h3 h4 h5 h6 HD1 HG1 HG0 H0
  have HR := Lib.hid (new_right HS.out)
  go_wp2_with fail
  refine (mNew_any side 0 w2 HS.out).mono ?_
  rintro e w3 ⟨A3, c3, rfl, ho3, hb3⟩
  generalize (side * side).toNat = n at *
  have HO3 := Lib.hid ho3
  have HD3 := Lib.hid (HD2.out.more hlt (hb3.mono (by omega)))
  have HG3 := Lib.hid (HG2.out.below hb3 (by omega))
  have hz3 : w.heap.size + 1 < w3.heap.size := by have := hb3.size; omega
  clear ho3 hb3
  have hLa := later_any g (w.heap.size + 1) side A3 c3 (List.replicate n 0) w3 HD3.out.1 HR.out (by rw [List.length_replicate]; exact OwnI.lower (by omega) HO3.out) (by omega) (by omega)
  rw [List.length_replicate] at hLa
  go_wp2_with fail
  refine hLa.mono ?_
  rintro e w4 ⟨A4, c4, l4, rfl, hr4, ho4, hd4⟩
  have HR4 := Lib.hid hr4
  have HO4 := Lib.hid ho4
  have HD4 := Lib.hid (HD3.out.trans hd4)
  have HG4 := Lib.hid (HG3.out.drewn hd4 (by omega) (by omega))
  have hz4 : w.heap.size + 1 < w4.heap.size := by have := hd4.2.size; omega
  clear hr4 ho4 hd4 hLa HR HO3
  have hLb := later_any g (w.heap.size + 1) side A4 c4 l4 w4 HD4.out.1 HR4.out HO4.out (by omega) (by omega)
  go_wp2_with fail
  refine hLb.mono ?_
  rintro e w5 ⟨A5, c5, l5, rfl, hr5, ho5, hd5⟩
  have HR5 := Lib.hid hr5
  have HO5 := Lib.hid ho5
  have HD5 := Lib.hid (HD4.out.trans hd5)
  have HG5 := Lib.hid (HG4.out.drewn hd5 (by omega) (by omega))
  have hz5 : w.heap.size + 1 < w5.heap.size := by have := hd5.2.size; omega
  clear hr5 ho5 hd5 hLb HR4 HO4
  go_wp2_with fail
  have HX : Hid (GX w g w5.heap.size side A5 c5 l5 (w5.alloc (.cells #[.int .i64 side, .slice A5 l5.length c5] 25))) := by
    have hb : Below w5.heap.size w5 (w5.alloc (.cells #[.int .i64 side, .slice A5 l5.length c5] 25)) := (Below.refl _ _).alloc (Nat.le_refl _) _
    exact ⟨HG5.out.below hb (by omega), GB.made _ _ _ _, HO5.out.alloc _, HD5.out.alloc _, ⟨hlt, by omega, by simp⟩, ⟨_, heap_alloc_new _ _⟩⟩
  have HSM := Lib.hid (right_small HR5.out)
  have hpos : 0 < l5.length := by
    obtain ⟨hs, hl, _⟩ := right_parts HR5.out
    rcases (sideOk_iff side).1 hs with rfl | rfl | rfl | rfl <;> omega
  have h65 := HSM.out.2.2.1
  have h64 := right_len HR5.out
  generalize w5.alloc (.cells #[.int .i64 side, .slice A5 l5.length c5] 25) = W at *
  generalize w5.heap.size = o at *
  clear HD2 HG2 hz2 HG3 HD3 hz3 HG4 HD4 hz4 HG5 HD5 HO5 hc
  refine (src_one g 15 W HX.out.drw.1 (by omega)).mono ?_
  rintro e w6 ⟨⟨b, rfl⟩, hd6⟩
  have HX6 := Lib.hid (HX.out.drew hd6)
  clear hd6 HX
  cases b
  · obtain ⟨c0, c1, f0, f1⟩ := HX6.out.box
    obtain ⟨p0, p1, q0, q1⟩ := HX6.out.res
    go_wp2
    exact bodyPost_ret (v := .agg #[.int .i64 side, .slice A5 l5.length c5]) (by simp [results, Try.results37, go_sem, p0, p1]) rfl (HX6.out.fin HSM.out)
  · go_wp2_with fail
    refine (src_n g 3 w6 HX6.out.drw.1 (by omega)).mono ?_
    rintro e w7 ⟨r, rfl, h1, h2, h3, h4, h5, h6⟩
    have h2' := h2 (by omega)
    have HX7 := Lib.hid (HX6.out.drew ⟨h4, h5⟩)
    clear h2 h3 h4 h5 h6 HX6
    have hr3 : r = 0 ∨ r = 1 ∨ r = 2 := by omega
    rcases hr3 with rfl | rfl | rfl
    · go_wp2_with fail
      refine (src_n g 10 w7 HX7.out.drw.1 (by omega)).mono ?_
      rintro e w8 ⟨r, rfl, h1', h2, h3, h4, h5, h6⟩
      have h2'' := h2 (by omega)
      have HX8 := Lib.hid (HX7.out.drew ⟨h4, h5⟩)
      clear h2 h3 h4 h5 h6
      obtain ⟨c0, c1, f0, f1⟩ := HX8.out.box
      have HX9 := Lib.hid (HX8.out.setSide r)
      obtain ⟨p0, p1, q0, q1⟩ := HX8.out.res
      have hz8 := HX8.out.siz
      have hne : ¬ w.heap.size = o := by omega
      have hne' : ¬ o = w.heap.size := by omega
      go_wp2
      refine bodyPost_ret (v := .agg #[.int .i64 r, .slice A5 l5.length c5]) (by simp [results, Try.results37, go_sem, HX9.out.res.c0, HX9.out.res.c1]) rfl ?_
      exact HX9.out.fin ⟨h1', by omega, HSM.out.2.2⟩
    · obtain ⟨c0, c1, f0, f1⟩ := HX7.out.box
      obtain ⟨p0, p1, q0, q1⟩ := HX7.out.res
      have hz8 := HX7.out.siz
      go_wp2_with (at_builtin; refine append_one Try.underlying23 hi hz0 hz1 ‹_› (by decide) rfl _ _ rfl (w.heap.size + 1) _ _ 0 w7 HX7.out.own rfl rfl (by omega) (by omega) ?_; intro v' w8 hown8 hg8; obtain ⟨A8, c8, rfl⟩ := hown8.form; have HX9 := Lib.hid (HX7.out.setTiles hg8 hown8); have hbx := HX7.out.box.grownW hg8 hz8.2.2 (fun e => HX7.out.apt o e rfl); clear c0 c1 f0 f1 p0 p1 q0 q1; obtain ⟨c0, c1, f0, f1⟩ := hbx; obtain ⟨p0, p1, q0, q1⟩ := HX7.out.resGrown hg8; have HW8 := Lib.hid hown8; clear hown8 hg8)
      rw [List.length_append, List.length_singleton] at HX9
      have HX10 := HX9.out
      refine bodyPost_ret (v := .agg #[.int .i64 side, .slice A8 (l5.length + 1) c8]) (by simp [results, Try.results37, go_sem, HX10.res.c0, HX10.res.c1]) rfl ?_
      have hfin := HX10.fin ⟨HSM.out.1, HSM.out.2.1, by simp; omega, fun n hn => by
        rcases List.mem_append.1 hn with hn | hn
        · exact HSM.out.2.2.2 n hn
        · simp at hn; omega⟩
      simpa using hfin
    · obtain ⟨gt, eg, _, _, hcg, hfg⟩ := HX7.out.own.at_ hpos
      cases eg
      obtain ⟨c0, c1, f0, f1⟩ := HX7.out.box
      have hz8 := HX7.out.siz
      have HXA := Lib.hid (HX7.out.below ((Below.refl w7.heap.size w7).alloc (Nat.le_refl _) (.cells #[.int .i64 (-1), .int .i64 10] 2)).drew)
      have HXB := Lib.hid (HX7.out.below (Below.refl w7.heap.size w7).drew)
      have HLIT : Hid (∀ q, (h : q < ([-1, 10] : List Int).length) → -1 ≤ ([-1, 10] : List Int)[q] ∧ ([-1, 10] : List Int)[q] ≤ 10) := by
        show ∀ q, _
        intro q h
        have h2 : q < 2 := by simpa using h
        match q, h2 with
        | 0, _ => simp
        | 1, _ => simp
      go_wp2_with fail
      go_region_with
        (first
          | (go_at_call 41; refine (src_n g 2 _ (by with_reducible exact HXA.out.src) (by omega)).mono ?_; rintro e w8 ⟨r, rfl, h1', h2, h3, h4, h5, h6⟩; have h2'' := h2 (by omega); obtain ⟨q, rfl⟩ := Int.eq_ofNat_of_zero_le h1'; have hq : q < ([-1, 10] : List Int).length := (by simp; omega); have hlit := lit_in (W := (w7.alloc (.cells #[.int .i64 (-1), .int .i64 10] 2)).drew) (l := [-1, 10]) rfl hq (by omega) h5; have HXX := Lib.hid (HLIT.out q hq); have HX8 := Lib.hid (HXA.out.drew ⟨h4, h5⟩); have hk60 := HX8.out.box.c0; have hk61 := HX8.out.box.c1; have hz80 := HX8.out.siz.2.2; have hgl := (World.ownsRow.lt HX8.out.own gt rfl).2; obtain ⟨_, eg8, _, _, hcg8, hfg8⟩ := HX8.out.own.at_ hpos; cases eg8; have hgo := HX8.out.apt gt rfl; have hgo' : ¬ o = gt := (fun e => hgo e.symm); generalize ([-1, 10] : List Int)[q] = xx at hlit HXX; have HX9 := Lib.hid (HX8.out.setTile xx); clear h2 h3 h4 h5 h6)
          | (go_at_call 41; refine (src_n g 2 _ (by with_reducible exact HXB.out.src) (by omega)).mono ?_; rintro e w8 ⟨r, rfl, h1', h2, h3, h4, h5, h6⟩; have h2'' := h2 (by omega); obtain ⟨q, rfl⟩ := Int.eq_ofNat_of_zero_le h1'; have hq : q < ([-1, 10] : List Int).length := (by simp; omega); have hlit : (w8.alloc (.cells #[.int .i64 (-1), .int .i64 10] 2)).cell? ⟨w8.heap.size, q, none⟩ = some (.int .i64 ([-1, 10] : List Int)[q]) := lit_new w8 (l := [-1, 10]) hq; have hlit2 : (#[Value.int .i64 (-1), Value.int .i64 10] : Array Value)[q]? = some (.int .i64 ([-1, 10] : List Int)[q]) := lit_arr hq; have HXX := Lib.hid (HLIT.out q hq); have HX8 := Lib.hid (HXB.out.drew ⟨h4, h5⟩); have hk60 := HX8.out.box.c0; have hk61 := HX8.out.box.c1; have hz80 := HX8.out.siz.2.2; have hgl := (World.ownsRow.lt HX8.out.own gt rfl).2; have HX8b := Lib.hid (HX8.out.below ((Below.refl w8.heap.size w8).alloc (Nat.le_refl _) (.cells #[.int .i64 (-1), .int .i64 10] 2))); obtain ⟨_, eg8, _, _, hcg8, hfg8⟩ := HX8b.out.own.at_ hpos; cases eg8; have hgo := HX8.out.apt gt rfl; have hgo' : ¬ o = gt := (fun e => hgo e.symm); generalize ([-1, 10] : List Int)[q] = xx at hlit hlit2 HXX; have HX9 := Lib.hid ((HX8.out.setTile xx).below ((Below.refl _ _).alloc (Nat.le_refl _) (.cells #[.int .i64 (-1), .int .i64 10] 2))); clear h2 h3 h4 h5 h6))
      all_goals first
        | generalize (w8.setCell ⟨gt, 0, none⟩ (.int .i64 xx)).alloc (.cells #[.int .i64 (-1), .int .i64 10] 2) = W9 at HX9 ⊢
        | generalize w8.setCell ⟨gt, 0, none⟩ (.int .i64 xx) = W9 at HX9 ⊢
      all_goals
        clear hlit hk60 hk61 hcg8 hfg8
        obtain ⟨d0, d1, e0, e1⟩ := HX9.out.box
        obtain ⟨p0, p1, q0, q1⟩ := HX9.out.res
        rw [List.length_set] at d1
        go_wp2
        refine bodyPost_ret (v := .agg #[.int .i64 side, .slice (some ⟨gt, 0, none⟩) l5.length c5]) (by simp [results, Try.results37, go_sem, p0, p1]) rfl ?_
        have hfin := HX9.out.fin ⟨HSM.out.1, HSM.out.2.1, by rw [List.length_set]; exact h65, fun n hn => by
          rcases List.mem_or_eq_of_mem_set hn with hn | rfl
          · exact HSM.out.2.2.2 n hn
          · exact HXX.out⟩
        rw [List.length_set] at hfin
        exact hfin
end Go.Proofs.Ythhadbojepcdjaa
