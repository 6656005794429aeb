/- Lists of int64 as the exact laws hold them: copied, compared, counted, marked and looked at again. -/
import Derived.Test.YtmjbefjkkncjlaaOwn
import Derived.RegionTactic
import Derived.BigRegion
import Derived.Deep.AppendLies
import Derived.Deep.RegionHeld3
namespace Go.Proofs.Ytmjbefjkkncjlaa
open Go.RowKit

/-- Nothing but the count of draws has turned. -/
def Still (w w' : World) : Prop := w'.heap = w.heap ∧ w'.os = w.os ∧ w'.tape = w.tape ∧ w'.output = w.output
theorem Still.refl (w : World) : Still w w := ⟨rfl, rfl, rfl, rfl⟩
theorem Still.trans {a b c : World} (h : Still a b) (k : Still b c) : Still a c := ⟨k.1.trans h.1, k.2.1.trans h.2.1, k.2.2.1.trans h.2.2.1, k.2.2.2.trans h.2.2.2⟩
theorem Still.drew {a b : World} (h : Still a b) : Still a b.drew := h
theorem Still.below {w w' : World} (h : Still w w') (B : Nat) : Below B w w' := ⟨h.2.1, h.2.2.1, h.2.2.2, by rw [h.1]; exact Nat.le_refl _, fun k _ => by rw [h.1]⟩
theorem Still.size {w w' : World} (h : Still w w') : w'.heap.size = w.heap.size := by rw [h.1]
theorem Still.cell {w w' : World} (h : Still w w') (a : Addr) : w'.cell? a = w.cell? a := World.cell?_of_block (by rw [h.1])

/-- The list l lies from A on, below block B. -/
def RI (w : World) (B : Nat) (A : Option Addr) (l : List Int) : Prop := l = [] ∨ ∃ b off, A = some ⟨b, off, none⟩ ∧ b < B ∧ ∀ j (h : j < l.length), w.cell? ⟨b, off + j, none⟩ = some (.int .i64 l[j])
theorem RI.keep {w w' : World} {B : Nat} {A : Option Addr} {l : List Int} (h : RI w B A l) (hc : ∀ k, k < B → w'.heap[k]? = w.heap[k]?) : RI w' B A l := by
  rcases h with h | ⟨b, off, rfl, hb, hv⟩
  · exact .inl h
  · exact .inr ⟨b, off, rfl, hb, fun j hj => (World.cell?_of_block (w := w) (a := ⟨b, off + j, none⟩) (hc b hb)).trans (hv j hj)⟩
theorem RI.below {w w' : World} {B : Nat} {A : Option Addr} {l : List Int} (h : RI w B A l) (hb : Below B w w') : RI w' B A l := h.keep fun k hk => hb.block k hk
theorem RI.mono {w : World} {B B' : Nat} {A : Option Addr} {l : List Int} (h : RI w B A l) (hB : B ≤ B') : RI w B' A l := by
  rcases h with h | ⟨b, off, rfl, hb, hv⟩
  · exact .inl h
  · exact .inr ⟨b, off, rfl, by omega, hv⟩
theorem RI.still {w w' : World} {B : Nat} {A : Option Addr} {l : List Int} (h : RI w B A l) (hs : Still w w') : RI w' B A l := h.keep fun k _ => by rw [hs.1]
theorem RI.at_ {w : World} {B j : Nat} {A : Option Addr} {l : List Int} (h : RI w B A l) (hj : j < l.length) : ∃ b off, A = some ⟨b, off, none⟩ ∧ b < B ∧ w.cell? ⟨b, off + j, none⟩ = some (.int .i64 l[j]) := by
  rcases h with h | ⟨b, off, rfl, hb, hv⟩
  · subst h; simp at hj
  · exact ⟨b, off, rfl, hb, hv j hj⟩

theorem OwnI.len {e : TypeId} {k : IntKind} {w : World} {base n c : Nat} {A : Option Addr} {l : List Int} (h : OwnI e k w base (.slice A n c) l) : n = l.length := by
  rcases h.2 with ⟨hv, hn⟩ | ⟨g, cap, cur, hv, _⟩
  · simp at hv; omega
  · simp at hv; omega
theorem OwnI.at_ {e : TypeId} {k : IntKind} {w : World} {base n c j : Nat} {A : Option Addr} {l : List Int} (h : OwnI e k w base (.slice A n c) l) (hj : j < l.length) :
    ∃ g, A = some ⟨g, 0, none⟩ ∧ base ≤ g ∧ g < w.heap.size ∧ w.cell? ⟨g, j, none⟩ = some (.int k l[j]) ∧ w.frozen? ⟨g, j, none⟩ = false := by
  have hn := h.len
  subst hn
  rcases h.2 with ⟨hv, hn⟩ | ⟨g, cap, cur, hv, hb, hg, _⟩
  · omega
  · simp only [Value.slice.injEq] at hv
    obtain ⟨rfl, _, rfl⟩ := hv
    have hlt := (World.ownsRow.lt h g rfl).2
    refine ⟨g, rfl, hb, hlt, ?_, World.ownsRow.frozenAt h j⟩
    have := World.ownsRow.cells h (g := g) rfl j (.int k l[j]) (by simp [hj])
    rw [← this]
    unfold Addr.add
    split <;> simp_all
theorem OwnI.ri {e : TypeId} {w : World} {base n c : Nat} {A : Option Addr} {l : List Int} (h : OwnI e .i64 w base (.slice A n c) l) : RI w w.heap.size A l := by
  by_cases hl : l = []
  · exact .inl hl
  · have h0 : 0 < l.length := List.length_pos_iff.2 hl
    obtain ⟨g, rfl, _, hg, _⟩ := h.at_ h0
    refine .inr ⟨g, 0, rfl, hg, fun j hj => ?_⟩
    obtain ⟨g', e', _, _, hc, _⟩ := h.at_ hj
    cases e'
    simpa using hc
theorem OwnI.keep {e : TypeId} {k : IntKind} {w w' : World} {base : Nat} {v : Value} {l : List Int} (h : OwnI e k w base v l) (hb : Below w.heap.size w w') : OwnI e k w' base v l :=
  World.ownsRow.kept h (row := none) ⟨hb.os, hb.tape, hb.output, hb.size, fun k hk _ => hb.block k hk⟩ (by cases v.ownBlock <;> simp)
theorem OwnI.still {e : TypeId} {k : IntKind} {w w' : World} {base : Nat} {v : Value} {l : List Int} (h : OwnI e k w base v l) (hs : Still w w') : OwnI e k w' base v l := h.keep (hs.below _)
theorem OwnI.store {e : TypeId} {k : IntKind} {w : World} {base g n c j : Nat} {l : List Int} (h : OwnI e k w base (.slice (some ⟨g, 0, none⟩) n c) l) (x : Int) :
    OwnI e k (w.setCell ⟨g, j, none⟩ (.int k x)) base (.slice (some ⟨g, 0, none⟩) n c) (l.set j x) ∧ w.grownBy (w.setCell ⟨g, j, none⟩ (.int k x)) (some g) := by
  have hn := h.len
  subst hn
  have := World.ownsRow.stored (h : w.ownsRow base e 1 (.slice (some ⟨g, 0, none⟩) l.length c) l.length (l.map (Value.int k))) j (.int k x)
  refine ⟨?_, this.2⟩
  have h1 := this.1
  unfold OwnI
  simpa [List.map_set] using h1

theorem append_ints {P : Program} {t e : TypeId} {k : IntKind} {by_ : Nat} {i : TypeInfo} (ht : P.underlying t = some (.slice e)) (hi : P.info? e = some i) (hz : i.zero = some (.int k 0)) (hsz : i.size = 1) (hby : i.bytes = by_) (h8 : by_ ≤ 8)
    {ops : Array Oper} {rest : List Oper} {o : Oper} {a : Act} {Q : Exit → Act → World → Prop} (hgd : o.guard = none) (s x : Operand)
    (ho : o.op = .call { callee := .builtin .append, args := #[s, x], argTypes := #[t, t] })
    (base : Nat) (v : Value) (l l' : List Int) (wr : World) (b off c : Nat) (hown : OwnI e k wr base v l) (hs : a.eval s = v)
    (hx : a.eval x = .slice (some ⟨b, off, none⟩) l'.length c) (hc : ∀ j (h : j < l'.length), wr.cell? ⟨b, off + j, none⟩ = some (.int k l'[j])) (hlen : l.length + l'.length < 17000000000000) (hb : base ≤ wr.heap.size)
    (h : ∀ v' w', OwnI e k w' base v' (l ++ l') → Below base wr w' → wpList P ops Q rest (a.put o.dst v') w') :
    wpList P ops Q (o :: rest) a wr := by
  refine wpList_append_own _ hgd s x t ho base e i (.int k 0) 1 by_ ht hi hz hsz hby rfl (by decide) v l.length _ hs hown ⟨b, off, none⟩ l'.length c (l'.map (Value.int k)) hx (by simp) ?_ ?_ ?_ ?_ hb ?_
  · intro j u hu
    simp only [List.getElem?_map, Option.map_eq_some_iff] at hu
    obtain ⟨n, hn, rfl⟩ := hu
    obtain ⟨hj, rfl⟩ := List.getElem?_eq_some_iff.1 hn
    rw [← hc j hj]
    unfold Addr.add
    split <;> simp_all
  · intro u hu
    simp only [List.mem_map] at hu
    obtain ⟨n, _, rfl⟩ := hu
    rfl
  · unfold maxLen; omega
  · have h1 : (l.length + l'.length) * by_ ≤ (l.length + l'.length) * 8 := Nat.mul_le_mul_left _ h8
    omega
  · intro v' w' hown' hgrow _
    refine h v' w' ?_ ?_
    · simpa [OwnI] using hown'
    · exact (Below.refl _ _).grown hgrow hb (fun g hg => (World.ownsRow.lt hown g hg).1)

theorem step_append_ints {P : Program} {t e : TypeId} {k : IntKind} {by_ : Nat} {i : TypeInfo} (ht : P.underlying t = some (.slice e)) (hi : P.info? e = some i) (hz : i.zero = some (.int k 0)) (hsz : i.size = 1) (hby : i.bytes = by_) (h8 : by_ ≤ 8)
    {ops : Array Oper} {o : Oper} {a : Act} {K : Act → World → Prop} {Q : Exit → Act → World → Prop} {E : Prop} (hgd : o.guard = none) (s x : Operand)
    (ho : o.op = .call { callee := .builtin .append, args := #[s, x], argTypes := #[t, t] })
    (base : Nat) (v : Value) (l l' : List Int) (wr : World) (b off c : Nat) (hown : OwnI e k wr base v l) (hs : a.eval s = v)
    (hx : a.eval x = .slice (some ⟨b, off, none⟩) l'.length c) (hc : ∀ j (h : j < l'.length), wr.cell? ⟨b, off + j, none⟩ = some (.int k l'[j])) (h0 : 0 < l'.length) (hlen : l.length + l'.length < 17000000000000) (hb : base ≤ wr.heap.size)
    (h : ∀ g cap w', OwnI e k w' base (.slice (some ⟨g, 0, none⟩) (l.length + l'.length) cap) (l ++ l') → Below base wr w' → K (a.put o.dst (.slice (some ⟨g, 0, none⟩) (l.length + l'.length) cap)) w') :
    if Region.wanted o (yielded ops a.tmps) = true then Oper.wp P o a wr K Q else E := by
  refine step_append_lies _ hgd s x t ho base e i (.int k 0) 1 by_ ht hi hz hsz hby rfl (by decide) v l.length _ hs hown ⟨b, off, none⟩ l'.length c (l'.map (Value.int k)) hx (by simp) ?_ ?_ h0 ?_ ?_ hb wr.heap.size rfl ?_
  · intro j u hu
    simp only [List.getElem?_map, Option.map_eq_some_iff] at hu
    obtain ⟨n, hn, rfl⟩ := hu
    obtain ⟨hj, rfl⟩ := List.getElem?_eq_some_iff.1 hn
    rw [← hc j hj]
    unfold Addr.add
    split <;> simp_all
  · intro u hu
    simp only [List.mem_map] at hu
    obtain ⟨n, _, rfl⟩ := hu
    rfl
  · unfold maxLen; omega
  · have h1 : (l.length + l'.length) * by_ ≤ (l.length + l'.length) * 8 := Nat.mul_le_mul_left _ h8
    omega
  · intro g cap w' hown' hgrow _ _
    refine h g cap w' ?_ ?_
    · simpa [OwnI] using hown'
    · exact (Below.refl _ _).grown hgrow hb (fun g hg => (World.ownsRow.lt hown g hg).1)

theorem Try.infoInt : (Try.prog.info? 2).map (fun i => (i.zero, i.size, i.bytes)) = some (some (.int .i64 0), 1, 8) := by kernel_rfl

set_option maxHeartbeats 400000 in
theorem szInts (A : Option Addr) (n c : Nat) (left : Int) (w : World) (hn : n ≤ 9223372036854775807) (h0 : 0 ≤ left) (h1 : left ≤ 1048576) :
    Calls Try.prog 45 #[.slice A n c, .int .i64 left] w fun e w' => e = .returned (.int .i64 (if (n : Int) ≤ left then left - n else -1)) ∧ w = w' := by
  by_cases h : (n : Int) ≤ left
  · rw [if_pos h]
    go_enter Try.func45, Try.ntmps45
    go_wp2
    go_ret
    exact ⟨rfl, rfl⟩
  · rw [if_neg h]
    go_enter Try.func45, Try.ntmps45
    go_wp2
    go_ret
    exact ⟨rfl, rfl⟩

set_option maxRecDepth 100000 in
set_option maxHeartbeats 400000 in
theorem eqInts (A A' : Option Addr) (c c' B : Nat) (l : List Int) (w : World) (h : RI w B A l) (h' : RI w B A' l) (hl : l.length ≤ 1000000000) :
    Calls Try.prog 48 #[.slice A l.length c, .slice A' l.length c'] w fun e w' => e = .returned (.bool true) ∧ Still w w' := by
  have H := Lib.hid h
  have H' := Lib.hid h'
  clear h h'
  go_enter Try.func48, Try.ntmps48
  go_wp2
  go_loopw [5] (fun i wr => ∃ k : Nat, i = .int .i64 k ∧ k ≤ l.length ∧ Still w wr) (fun i _ => l.length - (intOf i).toNat)
  case atStart => exact ⟨0, rfl, Nat.zero_le _, Still.refl _⟩
  case round =>
    obtain ⟨k, rfl, hk, hs⟩ := hrel
    by_cases hlt : k < l.length
    · obtain ⟨b, off, rfl, _, hc⟩ := (H.out.still hs).at_ hlt
      obtain ⟨b', off', rfl, _, hc'⟩ := (H'.out.still hs).at_ hlt
      go_wp2
      go_region
      go_wp2
      go_roundw
      case rel => exact ⟨k + 1, by go_num, by omega, hs.drew⟩
      case measure => simp [intOf]; omega
    · go_wp2
      go_ret
      exact ⟨rfl, hs⟩

theorem own_zeros {w : World} {base g n : Nat} (h : w.ownsRow base 2 1 (.slice (some ⟨g, 0, none⟩) n n) n (madeCells #[Value.int .i64 0] n).toList) : OwnI 2 .i64 w base (.slice (some ⟨g, 0, none⟩) n n) (List.replicate n 0) := by
  unfold OwnI
  rw [toList_madeCells_one] at h
  simpa using h
theorem copied_step (l : List Int) (k : Nat) (hk : k < l.length) : (l.take k ++ List.replicate (l.length - k) 0).set k l[k] = l.take (k + 1) ++ List.replicate (l.length - (k + 1)) 0 := by
  have hl : (l.take k).length = k := by simp; omega
  have e : l.length - k = (l.length - (k + 1)) + 1 := by omega
  rw [List.set_append_right _ _ (by omega), hl, Nat.sub_self, e, List.replicate_succ, List.set_cons_zero, List.take_succ_eq_append_getElem hk, List.append_assoc]
  rfl

set_option maxRecDepth 100000 in
set_option maxHeartbeats 400000 in
theorem toInts (A : Option Addr) (c : Nat) (l : List Int) (w : World) (h : RI w w.heap.size A l) (hl : l.length ≤ 1000000000) :
    Calls Try.prog 46 #[.slice A l.length c] w fun e w' => e = .returned (.slice (some ⟨w.heap.size, 0, none⟩) l.length l.length) ∧ OwnI 2 .i64 w' w.heap.size (.slice (some ⟨w.heap.size, 0, none⟩) l.length l.length) l ∧ Below w.heap.size w w' := by
  obtain ⟨i0, hi, hz0, hz1, hz2⟩ := info_parts Try.infoInt
  have H := Lib.hid h
  clear h
  go_enter Try.func46, Try.ntmps46
  go_wp2_with (at_make; refine wpList_make_full _ rfl _ _ 23 rfl w.heap.size 2 i0 (.int .i64 0) 1 Try.underlying23 hi hz0 hz1 .i64 .i64 _ _ l.length rfl rfl rfl rfl ?b2 ?b3 (Nat.le_refl _) ?_)
  case b2 => rw [hz2]; omega
  case b3 => unfold maxLen; omega
  intro w1 hown1 hgrow1
  have ho1 := own_zeros hown1
  have hb1 : Below w.heap.size w w1 := (Below.refl _ _).grown hgrow1 (Nat.le_refl _) (fun k hk => by cases hk)
  clear hown1 hgrow1
  go_wp2
  go_loopw [4] (fun i wr => ∃ k : Nat, i = .int .i64 k ∧ k ≤ l.length ∧ OwnI 2 .i64 wr w.heap.size (.slice (some ⟨w.heap.size, 0, none⟩) l.length l.length) (l.take k ++ List.replicate (l.length - k) 0) ∧ Below w.heap.size w wr) (fun i _ => l.length - (intOf i).toNat)
  case atStart => exact ⟨0, rfl, Nat.zero_le _, by simpa using ho1, hb1⟩
  case round =>
    obtain ⟨k, rfl, hk, ho, hb⟩ := hrel
    by_cases hlt : k < l.length
    · obtain ⟨b, off, rfl, _, hc⟩ := (H.out.below hb).at_ hlt
      obtain ⟨g, eg, _, _, hcg, hfg⟩ := ho.at_ (j := k) (by simp; omega)
      cases eg
      have HS := Lib.hid (ho.store (j := k) l[k])
      clear ho
      go_wp2
      go_roundw
      case rel => exact ⟨k + 1, by go_num, by omega, by rw [← copied_step l k hlt]; exact HS.out.1, hb.setCell (Nat.le_refl _) _⟩
      case measure => simp [intOf]; omega
    · go_wp2
      go_ret
      have ek : k = l.length := by omega
      refine ⟨rfl, ?_, hb⟩
      rw [ek] at ho
      simpa using ho

/-- The marks that a list bears: k, k + 1, .. -/
def marks (k n : Nat) : List Int := (List.range n).map fun i => ((k + i : Nat) : Int)
theorem marks_length (k n : Nat) : (marks k n).length = n := by simp [marks]
theorem marks_get (k n i : Nat) (h : i < (marks k n).length) : (marks k n)[i] = ((k + i : Nat) : Int) := by simp [marks]
theorem marked_step (l : List Int) (k j : Nat) (hj : j < l.length) : ((marks k l.length).take j ++ l.drop j).set j ((k + j : Nat) : Int) = (marks k l.length).take (j + 1) ++ l.drop (j + 1) := by
  have hm : j < (marks k l.length).length := by rw [marks_length]; exact hj
  have hl : ((marks k l.length).take j).length = j := by simp [marks_length]; omega
  rw [List.set_append_right _ _ (by omega), hl, Nat.sub_self, List.drop_eq_getElem_cons hj, List.set_cons_zero, List.take_succ_eq_append_getElem hm, marks_get, List.append_assoc]
  rfl

set_option maxRecDepth 100000 in
set_option maxHeartbeats 400000 in
theorem markInts (A : Option Addr) (c base k0 : Nat) (l : List Int) (w : World) (h : OwnI 2 .i64 w base (.slice A l.length c) l) (hl : l.length ≤ 1000000000) (hk0 : k0 ≤ 1000000000) :
    Calls Try.prog 49 #[.slice A l.length c, .int .i64 k0] w fun e w' => e = .returned (.int .i64 ((k0 + l.length : Nat) : Int)) ∧ OwnI 2 .i64 w' base (.slice A l.length c) (marks k0 l.length) ∧ w.grownBy w' (Value.slice A l.length c).ownBlock ∧ w'.heap.size = w.heap.size := by
  go_enter Try.func49, Try.ntmps49
  go_wp2
  go_loopw [1, 5] (fun x i wr => ∃ j : Nat, i = .int .i64 j ∧ x = .int .i64 ((k0 + j : Nat) : Int) ∧ j ≤ l.length ∧ OwnI 2 .i64 wr base (.slice A l.length c) ((marks k0 l.length).take j ++ l.drop j) ∧ w.grownBy wr (Value.slice A l.length c).ownBlock ∧ Hid (wr.heap.size = w.heap.size)) (fun _ i _ => l.length - (intOf i).toNat)
  case atStart => exact ⟨0, rfl, rfl, Nat.zero_le _, by simpa using h, ⟨rfl, rfl, rfl, Nat.le_refl _, fun _ _ _ => rfl⟩, rfl⟩
  case round =>
    obtain ⟨j, rfl, rfl, hj, ho, hg, HZ⟩ := hrel
    by_cases hlt : j < l.length
    · obtain ⟨g, rfl, _, _, hcg, hfg⟩ := ho.at_ (j := j) (by simp [marks_length]; omega)
      have HS := Lib.hid (ho.store (j := j) ((k0 + j : Nat) : Int))
      clear ho h
      go_wp2
      go_roundw
      case rel => exact ⟨j + 1, by go_num, by go_num, by omega, by rw [← marked_step l k0 j hlt]; exact HS.out.1, ⟨HS.out.2.os.trans hg.os, HS.out.2.tape.trans hg.tape, HS.out.2.output.trans hg.output, Nat.le_trans hg.size HS.out.2.size, fun i hi hne => (HS.out.2.block i (Nat.lt_of_lt_of_le hi hg.size) hne).trans (hg.block i hi hne)⟩, by show (wr.setCell _ _).heap.size = _; simpa [World.setCell] using HZ.out⟩
      case measure => simp [intOf]; omega
    · have ej : j = l.length := by omega
      subst ej
      go_wp2
      go_ret
      exact ⟨rfl, by simpa [marks_length, List.take_of_length_le] using ho, hg, HZ.out⟩

end Go.Proofs.Ytmjbefjkkncjlaa
