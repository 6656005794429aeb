/- Lists of int64 as the exact laws hold them: copied, compared, counted, marked and looked at again. -/
import Derived.Test.YtoobkajilbmdhaaDoorOwn
import Derived.RegionTactic
import Derived.BigRegion
import Derived.Deep.AppendLies
import Derived.Deep.RegionHeld3
namespace Go.Proofs.YtoobkajilbmdhaaDoor
open Go.RowKit

/-- Nothing but the count of draws has turned. -/
def Still (w w' : World) : Prop := w'.heap = w.heap ∧ w'.os = w.os ∧ w'.tape = w.tape ∧ w'.output = w.output
theorem Still.refl (w : World) : Still w w := ⟨rfl, rfl, rfl, rfl⟩
theorem Still.trans {a b c : World} (h : Still a b) (k : Still b c) : Still a c := ⟨k.1.trans h.1, k.2.1.trans h.2.1, k.2.2.1.trans h.2.2.1, k.2.2.2.trans h.2.2.2⟩
theorem Still.drew {a b : World} (h : Still a b) : Still a b.drew := h
theorem Still.below {w w' : World} (h : Still w w') (B : Nat) : Below B w w' := ⟨h.2.1, h.2.2.1, h.2.2.2, by rw [h.1]; exact Nat.le_refl _, fun k _ => by rw [h.1]⟩
theorem Still.size {w w' : World} (h : Still w w') : w'.heap.size = w.heap.size := by rw [h.1]
theorem Still.cell {w w' : World} (h : Still w w') (a : Addr) : w'.cell? a = w.cell? a := World.cell?_of_block (by rw [h.1])

/-- The list l lies from A on, below block B. -/
def RI (w : World) (B : Nat) (A : Option Addr) (l : List Int) : Prop := l = [] ∨ ∃ b off, A = some ⟨b, off, none⟩ ∧ b < B ∧ ∀ j (h : j < l.length), w.cell? ⟨b, off + j, none⟩ = some (.int .i64 l[j])
theorem RI.keep {w w' : World} {B : Nat} {A : Option Addr} {l : List Int} (h : RI w B A l) (hc : ∀ k, k < B → w'.heap[k]? = w.heap[k]?) : RI w' B A l := by
  rcases h with h | ⟨b, off, rfl, hb, hv⟩
  · exact .inl h
  · exact .inr ⟨b, off, rfl, hb, fun j hj => (World.cell?_of_block (w := w) (a := ⟨b, off + j, none⟩) (hc b hb)).trans (hv j hj)⟩
theorem RI.below {w w' : World} {B : Nat} {A : Option Addr} {l : List Int} (h : RI w B A l) (hb : Below B w w') : RI w' B A l := h.keep fun k hk => hb.block k hk
theorem RI.mono {w : World} {B B' : Nat} {A : Option Addr} {l : List Int} (h : RI w B A l) (hB : B ≤ B') : RI w B' A l := by
  rcases h with h | ⟨b, off, rfl, hb, hv⟩
  · exact .inl h
  · exact .inr ⟨b, off, rfl, by omega, hv⟩
theorem RI.still {w w' : World} {B : Nat} {A : Option Addr} {l : List Int} (h : RI w B A l) (hs : Still w w') : RI w' B A l := h.keep fun k _ => by rw [hs.1]
theorem RI.at_ {w : World} {B j : Nat} {A : Option Addr} {l : List Int} (h : RI w B A l) (hj : j < l.length) : ∃ b off, A = some ⟨b, off, none⟩ ∧ b < B ∧ w.cell? ⟨b, off + j, none⟩ = some (.int .i64 l[j]) := by
  rcases h with h | ⟨b, off, rfl, hb, hv⟩
  · subst h; simp at hj
  · exact ⟨b, off, rfl, hb, hv j hj⟩

theorem OwnI.len {e : TypeId} {k : IntKind} {w : World} {base n c : Nat} {A : Option Addr} {l : List Int} (h : OwnI e k w base (.slice A n c) l) : n = l.length := by
  rcases h.2 with ⟨hv, hn⟩ | ⟨g, cap, cur, hv, _⟩
  · simp at hv; omega
  · simp at hv; omega
theorem OwnI.at_ {e : TypeId} {k : IntKind} {w : World} {base n c j : Nat} {A : Option Addr} {l : List Int} (h : OwnI e k w base (.slice A n c) l) (hj : j < l.length) :
    ∃ g, A = some ⟨g, 0, none⟩ ∧ base ≤ g ∧ g < w.heap.size ∧ w.cell? ⟨g, j, none⟩ = some (.int k l[j]) ∧ w.frozen? ⟨g, j, none⟩ = false := by
  have hn := h.len
  subst hn
  rcases h.2 with ⟨hv, hn⟩ | ⟨g, cap, cur, hv, hb, hg, _⟩
  · omega
  · simp only [Value.slice.injEq] at hv
    obtain ⟨rfl, _, rfl⟩ := hv
    have hlt := (World.ownsRow.lt h g rfl).2
    refine ⟨g, rfl, hb, hlt, ?_, World.ownsRow.frozenAt h j⟩
    have := World.ownsRow.cells h (g := g) rfl j (.int k l[j]) (by simp [hj])
    rw [← this]
    unfold Addr.add
    split <;> simp_all
theorem OwnI.ri {e : TypeId} {w : World} {base n c : Nat} {A : Option Addr} {l : List Int} (h : OwnI e .i64 w base (.slice A n c) l) : RI w w.heap.size A l := by
  by_cases hl : l = []
  · exact .inl hl
  · have h0 : 0 < l.length := List.length_pos_iff.2 hl
    obtain ⟨g, rfl, _, hg, _⟩ := h.at_ h0
    refine .inr ⟨g, 0, rfl, hg, fun j hj => ?_⟩
    obtain ⟨g', e', _, _, hc, _⟩ := h.at_ hj
    cases e'
    simpa using hc
theorem OwnI.keep {e : TypeId} {k : IntKind} {w w' : World} {base : Nat} {v : Value} {l : List Int} (h : OwnI e k w base v l) (hb : Below w.heap.size w w') : OwnI e k w' base v l :=
  World.ownsRow.kept h (row := none) ⟨hb.os, hb.tape, hb.output, hb.size, fun k hk _ => hb.block k hk⟩ (by cases v.ownBlock <;> simp)
theorem OwnI.still {e : TypeId} {k : IntKind} {w w' : World} {base : Nat} {v : Value} {l : List Int} (h : OwnI e k w base v l) (hs : Still w w') : OwnI e k w' base v l := h.keep (hs.below _)
theorem OwnI.store {e : TypeId} {k : IntKind} {w : World} {base g n c j : Nat} {l : List Int} (h : OwnI e k w base (.slice (some ⟨g, 0, none⟩) n c) l) (x : Int) :
    OwnI e k (w.setCell ⟨g, j, none⟩ (.int k x)) base (.slice (some ⟨g, 0, none⟩) n c) (l.set j x) ∧ w.grownBy (w.setCell ⟨g, j, none⟩ (.int k x)) (some g) := by
  have hn := h.len
  subst hn
  have := World.ownsRow.stored (h : w.ownsRow base e 1 (.slice (some ⟨g, 0, none⟩) l.length c) l.length (l.map (Value.int k))) j (.int k x)
  refine ⟨?_, this.2⟩
  have h1 := this.1
  unfold OwnI
  simpa [List.map_set] using h1

theorem append_ints {P : Program} {t e : TypeId} {k : IntKind} {by_ : Nat} {i : TypeInfo} (ht : P.underlying t = some (.slice e)) (hi : P.info? e = some i) (hz : i.zero = some (.int k 0)) (hsz : i.size = 1) (hby : i.bytes = by_) (h8 : by_ ≤ 8)
    {ops : Array Oper} {rest : List Oper} {o : Oper} {a : Act} {Q : Exit → Act → World → Prop} (hgd : o.guard = none) (s x : Operand)
    (ho : o.op = .call { callee := .builtin .append, args := #[s, x], argTypes := #[t, t] })
    (base : Nat) (v : Value) (l l' : List Int) (wr : World) (b off c : Nat) (hown : OwnI e k wr base v l) (hs : a.eval s = v)
    (hx : a.eval x = .slice (some ⟨b, off, none⟩) l'.length c) (hc : ∀ j (h : j < l'.length), wr.cell? ⟨b, off + j, none⟩ = some (.int k l'[j])) (hlen : l.length + l'.length < 17000000000000) (hb : base ≤ wr.heap.size)
    (h : ∀ v' w', OwnI e k w' base v' (l ++ l') → Below base wr w' → wpList P ops Q rest (a.put o.dst v') w') :
    wpList P ops Q (o :: rest) a wr := by
  refine wpList_append_own _ hgd s x t ho base e i (.int k 0) 1 by_ ht hi hz hsz hby rfl (by decide) v l.length _ hs hown ⟨b, off, none⟩ l'.length c (l'.map (Value.int k)) hx (by simp) ?_ ?_ ?_ ?_ hb ?_
  · intro j u hu
    simp only [List.getElem?_map, Option.map_eq_some_iff] at hu
    obtain ⟨n, hn, rfl⟩ := hu
    obtain ⟨hj, rfl⟩ := List.getElem?_eq_some_iff.1 hn
    rw [← hc j hj]
    unfold Addr.add
    split <;> simp_all
  · intro u hu
    simp only [List.mem_map] at hu
    obtain ⟨n, _, rfl⟩ := hu
    rfl
  · unfold maxLen; omega
  · have h1 : (l.length + l'.length) * by_ ≤ (l.length + l'.length) * 8 := Nat.mul_le_mul_left _ h8
    omega
  · intro v' w' hown' hgrow _
    refine h v' w' ?_ ?_
    · simpa [OwnI] using hown'
    · exact (Below.refl _ _).grown hgrow hb (fun g hg => (World.ownsRow.lt hown g hg).1)

theorem step_append_ints {P : Program} {t e : TypeId} {k : IntKind} {by_ : Nat} {i : TypeInfo} (ht : P.underlying t = some (.slice e)) (hi : P.info? e = some i) (hz : i.zero = some (.int k 0)) (hsz : i.size = 1) (hby : i.bytes = by_) (h8 : by_ ≤ 8)
    {ops : Array Oper} {o : Oper} {a : Act} {K : Act → World → Prop} {Q : Exit → Act → World → Prop} {E : Prop} (hgd : o.guard = none) (s x : Operand)
    (ho : o.op = .call { callee := .builtin .append, args := #[s, x], argTypes := #[t, t] })
    (base : Nat) (v : Value) (l l' : List Int) (wr : World) (b off c : Nat) (hown : OwnI e k wr base v l) (hs : a.eval s = v)
    (hx : a.eval x = .slice (some ⟨b, off, none⟩) l'.length c) (hc : ∀ j (h : j < l'.length), wr.cell? ⟨b, off + j, none⟩ = some (.int k l'[j])) (h0 : 0 < l'.length) (hlen : l.length + l'.length < 17000000000000) (hb : base ≤ wr.heap.size)
    (h : ∀ g cap w', OwnI e k w' base (.slice (some ⟨g, 0, none⟩) (l.length + l'.length) cap) (l ++ l') → Below base wr w' → K (a.put o.dst (.slice (some ⟨g, 0, none⟩) (l.length + l'.length) cap)) w') :
    if Region.wanted o (yielded ops a.tmps) = true then Oper.wp P o a wr K Q else E := by
  refine step_append_lies _ hgd s x t ho base e i (.int k 0) 1 by_ ht hi hz hsz hby rfl (by decide) v l.length _ hs hown ⟨b, off, none⟩ l'.length c (l'.map (Value.int k)) hx (by simp) ?_ ?_ h0 ?_ ?_ hb wr.heap.size rfl ?_
  · intro j u hu
    simp only [List.getElem?_map, Option.map_eq_some_iff] at hu
    obtain ⟨n, hn, rfl⟩ := hu
    obtain ⟨hj, rfl⟩ := List.getElem?_eq_some_iff.1 hn
    rw [← hc j hj]
    unfold Addr.add
    split <;> simp_all
  · intro u hu
    simp only [List.mem_map] at hu
    obtain ⟨n, _, rfl⟩ := hu
    rfl
  · unfold maxLen; omega
  · have h1 : (l.length + l'.length) * by_ ≤ (l.length + l'.length) * 8 := Nat.mul_le_mul_left _ h8
    omega
  · intro g cap w' hown' hgrow _ _
    refine h g cap w' ?_ ?_
    · simpa [OwnI] using hown'
    · exact (Below.refl _ _).grown hgrow hb (fun g hg => (World.ownsRow.lt hown g hg).1)

theorem Tryd.infoInt : (Tryd.prog.info? 2).map (fun i => (i.zero, i.size, i.bytes)) = some (some (.int .i64 0), 1, 8) := by kernel_rfl

theorem own_zeros {w : World} {base g n : Nat} (h : w.ownsRow base 2 1 (.slice (some ⟨g, 0, none⟩) n n) n (madeCells #[Value.int .i64 0] n).toList) : OwnI 2 .i64 w base (.slice (some ⟨g, 0, none⟩) n n) (List.replicate n 0) := by
  unfold OwnI
  rw [toList_madeCells_one] at h
  simpa using h
theorem copied_step (l : List Int) (k : Nat) (hk : k < l.length) : (l.take k ++ List.replicate (l.length - k) 0).set k l[k] = l.take (k + 1) ++ List.replicate (l.length - (k + 1)) 0 := by
  have hl : (l.take k).length = k := by simp; omega
  have e : l.length - k = (l.length - (k + 1)) + 1 := by omega
  rw [List.set_append_right _ _ (by omega), hl, Nat.sub_self, e, List.replicate_succ, List.set_cons_zero, List.take_succ_eq_append_getElem hk, List.append_assoc]
  rfl

/-- The marks that a list bears: k, k + 1, .. -/
def marks (k n : Nat) : List Int := (List.range n).map fun i => ((k + i : Nat) : Int)
theorem marks_length (k n : Nat) : (marks k n).length = n := by simp [marks]
theorem marks_get (k n i : Nat) (h : i < (marks k n).length) : (marks k n)[i] = ((k + i : Nat) : Int) := by simp [marks]
theorem marked_step (l : List Int) (k j : Nat) (hj : j < l.length) : ((marks k l.length).take j ++ l.drop j).set j ((k + j : Nat) : Int) = (marks k l.length).take (j + 1) ++ l.drop (j + 1) := by
  have hm : j < (marks k l.length).length := by rw [marks_length]; exact hj
  have hl : ((marks k l.length).take j).length = j := by simp [marks_length]; omega
  rw [List.set_append_right _ _ (by omega), hl, Nat.sub_self, List.drop_eq_getElem_cons hj, List.set_cons_zero, List.take_succ_eq_append_getElem hm, marks_get, List.append_assoc]
  rfl

end Go.Proofs.YtoobkajilbmdhaaDoor
