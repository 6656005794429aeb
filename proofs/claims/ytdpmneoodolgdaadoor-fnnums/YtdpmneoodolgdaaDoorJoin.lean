/- joinTexts: its answer is the parts' bytes, one behind the other, in new memory. -/
import Derived.Test.YtdpmneoodolgdaaDoorOwn
import Derived.Lib.BufferWrite
import Derived.Laws.CopyOwn
namespace Go.Proofs.YtdpmneoodolgdaaDoor
open Go.RowKit

def bytesOf (p : ByteArray) : List Int := p.data.toList.map fun b => (b.toNat : Int)
theorem bytesOf_length (p : ByteArray) : (bytesOf p).length = p.size := by unfold bytesOf; rw [List.length_map]; rfl
theorem bytesOf_cells (p : ByteArray) : (bytesOf p).map (Value.int .u8) = Lib.byteCells p.data.toList := by simp [bytesOf, Lib.byteCells, Function.comp_def]
theorem strOfNums_bytesOf (p : ByteArray) : strOfNums (bytesOf p) = p := by
  apply ByteArray.ext
  apply Array.ext'
  rw [strOfNums_data, bytesOf, List.map_map]
  conv => rhs; rw [← List.map_id p.data.toList]
  apply List.map_congr_left
  intro b _
  simp

/-- Block g is, whole, the bytes l. -/
def Row8 (w : World) (g : Nat) (l : List Int) : Prop := w.heap[g]? = some (.cells (l.map (Value.int .u8)).toArray 5 (0, 0))

theorem copy_str {P : Program} {w : World} {ops : Array Oper} {rest : List Oper} {o : Oper} {a : Act} {Q : Exit → Act → World → Prop} (hgd : o.guard = none) (d s : Operand) (dT sT : TypeId)
    (ho : o.op = .call { callee := .builtin .copy, args := #[d, s], argTypes := #[dT, sT] }) (hu : P.underlying dT = some (.slice 5)) (hsz : (P.info? 5).map (·.size) = some 1)
    (g off : Nat) (cur : List Int) (hg : Row8 w g cur) (p : ByteArray)
    (dp : Option Addr) (dLen dCap : Nat) (hd : a.eval d = .slice dp dLen dCap) (hs : a.eval s = .string p)
    (hpos : 0 < p.size → dp = some ⟨g, off, none⟩ ∧ p.size ≤ dLen)
    (hfit : off + p.size ≤ cur.length) (B : Nat) (w0 : World) (hb : Below B w0 w) (hBg : B ≤ g)
    (h : ∀ w', Row8 w' g (splice cur off (bytesOf p)) → Below B w0 w' → wpList P ops Q rest (a.put o.dst (goInt p.size)) w') :
    wpList P ops Q (o :: rest) a w := by
  refine wpList_plain hgd fun K hK => ?_
  by_cases h0 : p.size = 0
  · have hrun := Lib.run_copy_empty_string (P := P) w dT sT o.type 5 dp dLen dCap p hu (by rw [hsz]; rfl) h0
    unfold Oper.wp
    simp [execOp, ho, resolve, invoke, builtin, hd, hs, hrun, Result.andThen]
    refine hK _ _ ?_
    have e : bytesOf p = [] := List.eq_nil_of_length_eq_zero (by rw [bytesOf_length, h0])
    have := h w (by rw [e]; simpa [splice] using hg) hb
    rw [h0] at this
    exact this
  · obtain ⟨rfl, hle⟩ := hpos (by omega)
    have hrun := Lib.run_copy_row_string (P := P) w dT sT o.type 5 g off dLen dCap p (cur.map (Value.int .u8)).toArray 5 hu hsz hg hle (by simpa using hfit)
    unfold Oper.wp
    simp only [execOp, ho, resolve, invoke, builtin, Sem.run_bind, Sem.run_pure, Result.andThen_ok, List.map_toArray, List.map_cons, List.map_nil, hd, hs, hrun]
    refine hK _ _ (h _ ?_ (below_setRow hb hBg _))
    unfold Row8
    rw [setRow_heap w g _ _ 5 _ hg]
    simp [splice, List.map_take, List.map_drop, bytesOf_cells, bytesOf_length]

/-- What the first k parts are, one behind the other. -/
def joinTo (ps : List ByteArray) (k : Nat) : List Int := ((ps.take k).map bytesOf).flatten
theorem joinTo_succ (ps : List ByteArray) (k : Nat) (h : k < ps.length) : joinTo ps (k + 1) = joinTo ps k ++ bytesOf ps[k] := by
  unfold joinTo
  rw [List.take_succ_eq_append_getElem h, List.map_append, List.flatten_append]
  simp only [List.map_cons, List.map_nil, List.flatten_cons, List.flatten_nil, List.append_nil]
theorem joinTo_mono (ps : List ByteArray) (k : Nat) (h : k < ps.length) : (joinTo ps k).length + ps[k].size ≤ (joinTo ps ps.length).length := by
  have e : joinTo ps ps.length = joinTo ps (k + 1) ++ ((ps.drop (k + 1)).map bytesOf).flatten := by
    unfold joinTo
    rw [List.take_length, ← List.flatten_append, ← List.map_append, List.take_append_drop]
  rw [e, joinTo_succ ps k h]
  simp [bytesOf_length]
/-- The row while it is filled. -/
def filled (done : List Int) (n : Nat) : List Int := done ++ List.replicate (n - done.length) 0
theorem filled_nil (n : Nat) : filled [] n = List.replicate n 0 := by simp [filled]
theorem filled_length (done : List Int) (n : Nat) (h : done.length ≤ n) : (filled done n).length = n := by simp [filled]; omega
theorem filled_splice (done p : List Int) (n : Nat) : splice (filled done n) done.length p = filled (done ++ p) n := by
  have e : n - done.length - p.length = n - (done.length + p.length) := by omega
  simp [filled, splice, List.drop_append, e]
theorem filled_full (done : List Int) : filled done done.length = done := by simp [filled]

def joinOf (ps : List ByteArray) : ByteArray := strOfNums (joinTo ps ps.length)

theorem row8_made {w : World} {base g n : Nat} (h : w.ownsRow base 5 1 (.slice (some ⟨g, 0, none⟩) n n) n (madeCells #[Value.int .u8 0] n).toList) : Row8 w g (filled [] n) := by
  rcases h.2 with ⟨h', _⟩ | ⟨g', cap, cur, h', _, hg, _, _, hcs, htake⟩
  · simp at h'
  · simp only [Value.slice.injEq, Option.some.injEq, Addr.mk.injEq, and_true, true_and] at h'
    obtain ⟨rfl, rfl⟩ := h'
    rw [toList_madeCells_one, List.take_of_length_le (by rw [Array.length_toList, hcs]; exact Nat.le_refl _)] at htake
    unfold Row8
    rw [hg, filled_nil, List.map_replicate, ← htake]
theorem row8_own {w : World} {base g : Nat} {l : List Int} (h : Row8 w g l) (hb : base ≤ g) (hm : l.length ≤ maxLen) : OwnI 5 .u8 w base (.slice (some ⟨g, 0, none⟩) l.length l.length) l :=
  ⟨by simp, .inr ⟨g, l.length, _, rfl, hb, h, Nat.le_refl _, hm, by simp, by rw [Nat.mul_one]; exact List.take_of_length_le (by simp)⟩⟩
theorem Tryd.sizeByte : (Tryd.prog.info? 5).map (·.size) = some 1 := by kernel_rfl

set_option maxHeartbeats 400000 in
theorem join_any (ps : List ByteArray) (g0 : Nat) (w : World) (hc : ∀ k (h : k < ps.length), w.cell? ⟨g0, k, none⟩ = some (.string ps[k])) (hn : ps.length ≤ 1000) (hlen : (joinTo ps ps.length).length ≤ 1000000000) :
    Calls Tryd.prog 27 #[.slice (some ⟨g0, 0, none⟩) ps.length ps.length] w fun e w' => e = .returned (.string (joinOf ps)) ∧ Below w.heap.size w w' := by
  obtain ⟨i0, hi, hz0, hz1, hz2⟩ := info_parts Tryd.infoByte
  have HC := Lib.hid hc
  clear hc
  go_enter Tryd.func27, Tryd.ntmps27
  go_wp2
  go_loop [3, 5, 12] (fun s _ i => ∃ k : Nat, k ≤ ps.length ∧ i = .int .i64 k ∧ s = .int .i64 ((joinTo ps k).length : Nat)) (fun _ _ i => ps.length - (intOf i).toNat)
  case atStart => exact ⟨0, Nat.zero_le _, rfl, rfl⟩
  case round =>
    obtain ⟨k, hk, rfl, rfl⟩ := hrel
    by_cases hlt : k < ps.length
    · have hck := HC.out k hlt
      have hm := joinTo_mono ps k hlt
      have HS : Hid ((joinTo ps (k + 1)).length = (joinTo ps k).length + ps[k].size) := by
        show (joinTo ps (k + 1)).length = _
        rw [joinTo_succ ps k hlt, List.length_append, bytesOf_length]
      go_wp2
      go_round
      case rel => exact ⟨k + 1, by omega, by go_num, by rw [HS.out]; go_num⟩
      case measure => simp [intOf]; omega
    · obtain rfl : k = ps.length := by omega
      generalize hN : (joinTo ps ps.length).length = N at *
      have HN := Lib.hid hN
      clear hN
      go_wp2_with (at_make; refine wpList_make_full _ rfl _ _ 22 rfl w.heap.size 5 i0 (.int .u8 0) 1 Tryd.underlying22 hi hz0 hz1 .i64 .i64 _ _ N rfl rfl rfl rfl ?b2 ?b3 (Nat.le_refl _) ?_)
      case b2 => omega
      case b3 => unfold maxLen; omega
      intro w1 hown1 hgrow1
      have hrow1 := row8_made hown1
      have hb1 : Below w.heap.size w w1 := (Below.refl _ _).grown hgrow1 (Nat.le_refl _) (fun k hk => by cases hk)
      clear hown1 hgrow1
      go_wp2
      go_loopw [7, 9, 25] (fun at_ _ i wr => ∃ k : Nat, k ≤ ps.length ∧ i = .int .i64 k ∧ at_ = .int .i64 ((joinTo ps k).length : Nat) ∧ Row8 wr w.heap.size (filled (joinTo ps k) N) ∧ Below w.heap.size w wr) (fun _ _ i _ => ps.length - (intOf i).toNat)
      case atStart => exact ⟨0, Nat.zero_le _, rfl, rfl, hrow1, hb1⟩
      case round =>
        obtain ⟨k, hk, rfl, rfl, hrow, hb⟩ := hrel
        by_cases hlt : k < ps.length
        · have hck0 := HC.out k hlt
          have hck : wr.cell? ⟨g0, k, none⟩ = some (.string ps[k]) := (hb.cell (World.block_lt_of_cell? w _ hck0)).trans hck0
          have hm := joinTo_mono ps k hlt
          rw [HN.out] at hm
          have HJ : Hid (joinTo ps (k + 1) = joinTo ps k ++ bytesOf ps[k]) := joinTo_succ ps k hlt
          generalize hL : (joinTo ps k).length = L at *
          have HL := Lib.hid hL
          have HS : Hid ((joinTo ps (k + 1)).length = L + ps[k].size) := by
            show (joinTo ps (k + 1)).length = _
            rw [HJ.out, List.length_append, bytesOf_length, hL]
          clear hck0 hL
          by_cases hz : N = L
          · subst hz
            go_wp2_with (with_reducible refine copy_str rfl (.tmp 32) (.tmp 33) 22 9 rfl Tryd.underlying22 Tryd.sizeByte w.heap.size N (filled (joinTo ps k) N) hrow ps[k] _ _ _ rfl rfl ?hp ?hf w.heap.size w hb (Nat.le_refl _) ?_)
            case hp => intro h; exfalso; omega
            case hf => rw [filled_length _ _ (by rw [HL.out]; omega)]; omega
            intro w2 hrow2 hb2
            have hrow3 : Row8 w2 w.heap.size (filled (joinTo ps (k + 1)) N) := by
              have e := filled_splice (joinTo ps k) (bytesOf ps[k]) N
              rw [HL.out, ← HJ.out] at e
              rw [← e]
              exact hrow2
            clear hrow2
            go_wp2
            go_roundw
            case rel => exact ⟨k + 1, by omega, by go_num, by rw [HS.out]; go_num, hrow3, hb2⟩
            case measure => simp [intOf]; omega
          · go_wp2_with (with_reducible refine copy_str rfl (.tmp 32) (.tmp 33) 22 9 rfl Tryd.underlying22 Tryd.sizeByte w.heap.size L (filled (joinTo ps k) N) hrow ps[k] _ _ _ rfl rfl ?hp ?hf w.heap.size w hb (Nat.le_refl _) ?_)
            case hp => intro h; omega
            case hf => rw [filled_length _ _ (by rw [HL.out]; omega)]; omega
            intro w2 hrow2 hb2
            have hrow3 : Row8 w2 w.heap.size (filled (joinTo ps (k + 1)) N) := by
              have e := filled_splice (joinTo ps k) (bytesOf ps[k]) N
              rw [HL.out, ← HJ.out] at e
              rw [← e]
              exact hrow2
            clear hrow2
            go_wp2
            go_roundw
            case rel => exact ⟨k + 1, by omega, by go_num, by rw [HS.out]; go_num, hrow3, hb2⟩
            case measure => simp [intOf]; omega
        · obtain rfl : k = ps.length := by omega
          rw [← HN.out, filled_full] at hrow
          have hcv := OwnI.string (row8_own (base := w.heap.size) hrow (Nat.le_refl _) (by unfold maxLen; rw [HN.out]; omega)) Tryd.underlying22 Tryd.underlying5 Tryd.underlying9
          rw [HN.out] at hcv
          go_wp2
          go_ret
          exact ⟨rfl, hb⟩

theorem strOfNums_append (a b : List Int) : strOfNums (a ++ b) = strOfNums a ++ strOfNums b := by
  apply ByteArray.ext
  apply Array.ext'
  rw [strOfNums_data, ByteArray.data_append, Array.toList_append, strOfNums_data, strOfNums_data, List.map_append]
theorem joinOf_one (p : ByteArray) : joinOf [p] = p := by
  have e : joinTo [p] [p].length = bytesOf p := by simp [joinTo]
  rw [joinOf, e, strOfNums_bytesOf]
theorem joinOf_two (p q : ByteArray) : joinOf [p, q] = p ++ q := by
  have e : joinTo [p, q] [p, q].length = bytesOf p ++ bytesOf q := by simp [joinTo]
  rw [joinOf, e, strOfNums_append, strOfNums_bytesOf, strOfNums_bytesOf]

theorem join_one (p : ByteArray) (w : World) (hl : p.size ≤ 1000000000) :
    Calls Tryd.prog 27 #[.slice (some ⟨w.heap.size, 0, none⟩) 1 1] (w.alloc (.cells #[.string p] 9)) fun e w' => e = .returned (.string p) ∧ Below w.heap.size w w' := by
  have h := join_any [p] w.heap.size (w.alloc (.cells #[.string p] 9)) (by
    intro k hk
    match k, hk with
    | 0, _ => simp) (by simp) (by simp [joinTo, bytesOf_length]; omega)
  rw [joinOf_one] at h
  exact h.mono fun e w' ⟨he, hb⟩ => ⟨he, ((Below.refl _ _).alloc (Nat.le_refl _) _).trans (hb.mono (by simp))⟩
theorem join_two (p q : ByteArray) (w : World) (hl : p.size + q.size ≤ 1000000000) :
    Calls Tryd.prog 27 #[.slice (some ⟨w.heap.size, 0, none⟩) 2 2] (w.alloc (.cells #[.string p, .string q] 9)) fun e w' => e = .returned (.string (p ++ q)) ∧ Below w.heap.size w w' := by
  have h := join_any [p, q] w.heap.size (w.alloc (.cells #[.string p, .string q] 9)) (by
    intro k hk
    match k, hk with
    | 0, _ => simp
    | 1, _ => simp) (by simp) (by simp [joinTo, bytesOf_length]; omega)
  rw [joinOf_two] at h
  exact h.mono fun e w' ⟨he, hb⟩ => ⟨he, ((Below.refl _ _).alloc (Nat.le_refl _) _).trans (hb.mono (by simp))⟩

end Go.Proofs.YtdpmneoodolgdaaDoor
