/- The model's draws: drawn bytes, a number at an edge, a new source. -/
import Derived.Test.YthhadbojepcdjaaDraw
import Derived.Lib.ConvBytes
import Derived.OpenShut
namespace Go.Proofs.Ythhadbojepcdjaa
open Go.RowKit

theorem Drew.refl {w : World} {g : Nat} (h : SrcB w g) : Drew w g w := ⟨h, ⟨rfl, rfl, rfl, Nat.le_refl _, fun _ _ _ => rfl⟩⟩
theorem Drew.alloc {w w' : World} {g : Nat} (h : Drew w g w') (o : Obj) : Drew w g (w'.alloc o) :=
  ⟨h.1.alloc o, ⟨h.2.os, h.2.tape, h.2.output, Nat.le_trans h.2.size (by simp), fun k hk hne => (Below.heap_alloc w' o k (Nat.lt_of_lt_of_le hk h.2.size)).trans (h.2.block k hk hne)⟩⟩
theorem Drew.more {w w1 w2 : World} {g : Nat} (h : Drew w g w1) (hg : g < w.heap.size) (hb : Below w.heap.size w1 w2) : Drew w g w2 :=
  ⟨h.1.keep fun k hk => hb.block k (by omega), ⟨hb.os.trans h.2.os, hb.tape.trans h.2.tape, hb.output.trans h.2.output, Nat.le_trans h.2.size hb.size, fun k hk hne => (hb.block k hk).trans (h.2.block k hk hne)⟩⟩
theorem OwnI.drewn {e : TypeId} {k : IntKind} {w w' : World} {base g : Nat} {v : Value} {l : List Int} (h : OwnI e k w base v l) (hd : Drew w g w') (hg : g < base) : OwnI e k w' base v l := by
  refine World.ownsRow.kept h hd.2 ?_
  cases hv : v.ownBlock with
  | none => exact .inl rfl
  | some b =>
    refine .inr ?_
    have := (World.ownsRow.lt h b hv).1
    intro e
    cases e
    omega

def EdgePost (w : World) (g : Nat) (e : Ending) (w' : World) : Prop := ∃ r : Int, e = .returned (.int .i64 r) ∧ (-9223372036854775808 ≤ r ∧ r ≤ 9223372036854775807) ∧ Drew w g w'
def edges : Array Value := #[.int .i64 0, .int .i64 1, .int .i64 (-1), .int .i64 2, .int .i64 1000, .int .i64 1001, .int .i64 2147483648, .int .i64 2147483647, .int .i64 (-2147483648), .int .i64 4611686018427387904, .int .i64 9223372036854775807, .int .i64 (-9223372036854775808), .int .i64 1000000, .int .i64 1000001]
def EdgeAt (v : Option Value) : Prop := ∃ r : Int, v = some (.int .i64 r) ∧ (-9223372036854775808 ≤ r ∧ r ≤ 9223372036854775807)
theorem edges_at (k : Nat) (h : k < 14) : EdgeAt edges[k]? := by
  unfold EdgeAt edges
  match k, h with
  | 0, _ => exact ⟨_, rfl, by omega⟩
  | 1, _ => exact ⟨_, rfl, by omega⟩
  | 2, _ => exact ⟨_, rfl, by omega⟩
  | 3, _ => exact ⟨_, rfl, by omega⟩
  | 4, _ => exact ⟨_, rfl, by omega⟩
  | 5, _ => exact ⟨_, rfl, by omega⟩
  | 6, _ => exact ⟨_, rfl, by omega⟩
  | 7, _ => exact ⟨_, rfl, by omega⟩
  | 8, _ => exact ⟨_, rfl, by omega⟩
  | 9, _ => exact ⟨_, rfl, by omega⟩
  | 10, _ => exact ⟨_, rfl, by omega⟩
  | 11, _ => exact ⟨_, rfl, by omega⟩
  | 12, _ => exact ⟨_, rfl, by omega⟩
  | 13, _ => exact ⟨_, rfl, by omega⟩

theorem src_mix {w : World} {g : Nat} {A : Option Addr} {n c : Nat} {mix x y : Int} (h : w.heap[g]? = some (.cells #[.slice A n c, .int .i64 x, .int .u64 mix, .int .i64 y] 67 (0, 0))) (z : Int) :
    (w.setCell ⟨g, 2, none⟩ (.int .u64 z)).heap[g]? = some (.cells #[.slice A n c, .int .i64 x, .int .u64 z, .int .i64 y] 67 (0, 0)) := by
  simpa using heap_setCell_same w g 2 _ 67 (.int .u64 z) h
theorem src_size {w : World} {g : Nat} {A : Option Addr} {n c : Nat} {mix x y : Int} (h : w.heap[g]? = some (.cells #[.slice A n c, .int .i64 x, .int .u64 mix, .int .i64 y] 67 (0, 0))) (z : Int) :
    (w.setCell ⟨g, 3, none⟩ (.int .i64 z)).heap[g]? = some (.cells #[.slice A n c, .int .i64 x, .int .u64 mix, .int .i64 z] 67 (0, 0)) := by
  simpa using heap_setCell_same w g 3 _ 67 (.int .i64 z) h

theorem src_fin {w wr : World} {g : Nat} {A : Option Addr} {n c : Nat} {mix y : Int} (h : wr.heap[g]? = some (.cells #[.slice A n c, .int .i64 0, .int .u64 mix, .int .i64 y] 67 (0, 0))) (hn : n ≤ 1048576) (hm : 0 ≤ mix ∧ mix ≤ IntKind.u64.max) (hbw : Below g w wr) (hi : BytesIn w g A n) (z : Int) :
    SrcB (wr.setCell ⟨g, 3, none⟩ (.int .i64 z)) g :=
  ⟨A, n, c, 0, mix, z, src_size h z, Nat.zero_le _, hn, hm.1, hm.2, hi.below fun k hk => by rw [Below.heap_setCell _ _ _ _ (by simp; omega)]; exact hbw.block k hk⟩

set_option maxRecDepth 100000 in
set_option maxHeartbeats 1000000 in
theorem source_any (A : Option Addr) (n c : Nat) (w : World) (hn : n ≤ 1048576) (hin : BytesIn w w.heap.size A n) :
    Calls Try.prog 21 #[.slice A n c] w fun e w' => e = .returned (.pointer (some ⟨w.heap.size, 0, none⟩)) ∧ SrcB w' w.heap.size ∧ Below w.heap.size w w' := by
  have HI := Lib.hid hin
  clear hin
  go_enter Try.func21, Try.ntmps21
  go_wp2
  go_loopw [4] (fun i wr => ∃ (k : Nat) (mix : Int), i = .int .i64 k ∧ k ≤ n ∧ Hid (0 ≤ mix ∧ mix ≤ IntKind.u64.max) ∧ wr.heap[w.heap.size]? = some (.cells #[.slice A n c, .int .i64 0, .int .u64 mix, .int .i64 0] 67 (0, 0)) ∧ Below w.heap.size w wr) (fun i _ => n - (intOf i).toNat)
  case atStart => exact ⟨0, _, rfl, Nat.zero_le _, ⟨by omega, by decide⟩, heap_alloc_new w _, (Below.refl _ _).alloc (Nat.le_refl _) _⟩
  case round =>
    obtain ⟨k, mix, rfl, hk, HM, hb, hbw⟩ := hrel
    have hc2 : wr.cell? ⟨w.heap.size, 2, none⟩ = some (.int .u64 mix) := by simp [World.cell?, hb]
    have hc3 : wr.cell? ⟨w.heap.size, 3, none⟩ = some (.int .i64 0) := by simp [World.cell?, hb]
    have hf2 : wr.frozen? ⟨w.heap.size, 2, none⟩ = false := by simp [World.frozen?, hb]
    have hf3 : wr.frozen? ⟨w.heap.size, 3, none⟩ = false := by simp [World.frozen?, hb]
    have HB := Lib.hid hb
    have hss : ∀ (W : World) (x y : Value), (W.setCell ⟨w.heap.size, 3, none⟩ x).setCell ⟨w.heap.size, 3, none⟩ y = W.setCell ⟨w.heap.size, 3, none⟩ y := fun W x y => setCell_twice W _ x y
    clear hb
    by_cases hlt : k < n
    · by_cases h64 : (k : Int) < 64
      · obtain ⟨b, off, rfl, hbg, hv⟩ : ∃ b off, A = some ⟨b, off, none⟩ ∧ b < w.heap.size ∧ ∀ j, j < n → ∃ v : Nat, v < 256 ∧ w.cell? ⟨b, off + j, none⟩ = some (.int .u8 v) := by
          rcases HI.out with h | h
          · omega
          · exact h
        obtain ⟨v, hv1, hv2⟩ := hv k hlt
        have hv3 : wr.cell? ⟨b, off + k, none⟩ = some (.int .u8 v) := (hbw.cell (p := ⟨b, off + k, none⟩) hbg).trans hv2
        clear hv hv2 hc3 hf3
        go_wp2
        go_region
        go_wp2
        go_roundw
        case rel => exact ⟨k + 1, _, by go_num, by omega, wrap_within .u64 _, src_mix HB.out _, (hbw.setCell (Nat.le_refl _) _).drew⟩
        case measure => simp [intOf]; omega
      · have hd : decide ((k : Int) < 64) = false := by simpa using h64
        go_wp2
        all_goals
          go_ret
          exact ⟨rfl, src_fin HB.out hn HM.out hbw HI.out _, hbw.setCell (Nat.le_refl _) _⟩
    · have hd : decide ((k : Int) < (n : Int)) = false := by simp; omega
      go_wp2
      all_goals
        go_ret
        exact ⟨rfl, src_fin HB.out hn HM.out hbw HI.out _, hbw.setCell (Nat.le_refl _) _⟩

def SomeStr (w : World) (m : Nat) (e : Ending) (w' : World) : Prop := ∃ s : ByteArray, e = .returned (.string s) ∧ s.size ≤ m ∧ Below w.heap.size w w'

theorem strOfNums_sz (l : List Int) : (strOfNums l).size = l.length := strOfNums_size l
theorem Drew.bel {w w1 w2 : World} (hb : Below w.heap.size w w1) (hd : Drew w1 w.heap.size w2) : Below w.heap.size w w2 :=
  hb.trans (hd.below (Nat.le_refl _) hb.size)

/-- What the walk is told of a slice of integers that came in. -/
def IsRow (k : IntKind) (w : World) (a : Option Addr) (len cap : Nat) (zs : List Int) : Prop :=
  (a = none ∧ len = 0 ∧ cap = 0 ∧ zs = []) ∨
  ∃ x, a = some x ∧ len ≤ cap ∧ cap ≤ maxLen ∧ zs.length = cap ∧ (∀ i, i < zs.length → w.cell? (x.add i) = some (.int k (zs.getD i 0))) ∧ ∀ n ∈ zs, (Lit.int k n).wf = true
theorem IsRow.bytes {w : World} {a : Option Addr} {len cap : Nat} {zs : List Int} (h : IsRow .u8 w a len cap zs) : BytesIn w w.heap.size a len := by
  rcases h with ⟨_, rfl, _, _⟩ | ⟨x, rfl, hl, _, hz, hc, hw⟩
  · exact .inl rfl
  · by_cases h0 : len = 0
    · exact .inl h0
    · have h00 := hc 0 (by omega)
      obtain ⟨b, off, spot⟩ := x
      have hs : spot = none := by simpa [Addr.add] using World.cell?_spot h00
      subst hs
      have hb := World.block_lt_of_cell? w _ h00
      refine .inr ⟨b, off, rfl, by simpa [Addr.add] using hb, fun j hj => ?_⟩
      have hj' := hc j (by omega)
      have hmem : zs.getD j 0 ∈ zs := by
        rw [List.getD_eq_getElem?_getD, List.getElem?_eq_getElem (by omega)]; exact List.getElem_mem _
      have hb8 := bounds_u8 (hw _ hmem)
      obtain ⟨v, hv⟩ := Int.eq_ofNat_of_zero_le hb8.1
      refine ⟨v, by omega, ?_⟩
      have e : (⟨b, off, none⟩ : Addr).add j = ⟨b, off + j, none⟩ := by unfold Addr.add; split <;> simp_all
      rw [← e, hj', hv]

/-- '[]byte(s)': a new row that holds the text's bytes. -/
theorem conv_bytes (s : ByteArray) (w : World) : ∃ cap w1, (convert 9 22 (.string s)).run Try.prog w = .ok (.slice (some ⟨w.heap.size, 0, none⟩) s.size cap) w1 ∧ s.size ≤ cap ∧ Below w.heap.size w w1 ∧ w1.heap.size = w.heap.size + 1 ∧
    (∀ j, j < s.size → w1.cell? ⟨w.heap.size, j, none⟩ = some (.int .u8 (byteAt s j))) ∧ (∀ j, j < s.size → w1.frozen? ⟨w.heap.size, j, none⟩ = false) := by
  refine ⟨_, _, Lib.run_convert_string_bytes w _ _ 5 s Try.underlying9 Try.underlying22 Try.underlying5, grownCap_ge _ _ _ _, ⟨rfl, rfl, rfl, by rw [Lib.bytesWorld_size]; omega, fun k hk => Lib.bytesWorld_at_old w _ s k hk⟩, Lib.bytesWorld_size _ _ _, fun j hj => ?_, fun j hj => ?_⟩
  · rw [Lib.bytesWorld_cell w _ s j hj]
    unfold byteAt
    simp [List.getD, Array.getD, hj]
  · have h := Lib.bytesWorld_at_new w 5 s
    have hs : s.size ≤ (Lib.bytesCells w 5 s).size := by simp [Lib.bytesCells]
    simp only [World.frozen?, h]
    simp
    omega

end Go.Proofs.Ythhadbojepcdjaa
