/- Things that a law holds, each in blocks of its own: they stay while other blocks turn. -/
import Derived.Test.YtmjbefjkkncjlaaGWalkS
import Derived.Test.YtmjbefjkkncjlaaChL
namespace Go.Proofs.Ytmjbefjkkncjlaa
open Go.RowKit
set_option linter.unusedVariables false

/-- A fact on the memory that hangs on the blocks lo .. hi alone. -/
structure It where
  lo : Nat
  hi : Nat
  P : World → Prop
  keep : ∀ w w' : World, (∀ k, lo ≤ k → k < hi → w'.heap[k]? = w.heap[k]?) → P w → P w'
/-- All of these hold, each in blocks of its own (the last one made stands first), and below w0's memory nothing has turned. -/
structure St (w0 : World) (L : List It) (w : World) : Prop where
  bel : Below w0.heap.size w0 w
  ord : L.Pairwise fun a b => b.hi ≤ a.lo
  lo : ∀ it ∈ L, w0.heap.size ≤ it.lo
  hi : ∀ it ∈ L, it.hi ≤ w.heap.size
  all : ∀ it ∈ L, it.P w
theorem St.start (w : World) : St w [] w := ⟨Below.refl _ _, List.Pairwise.nil, by simp, by simp, by simp⟩
theorem St.below {w0 w w' : World} {L : List It} (h : St w0 L w) (hb : Below w.heap.size w w') : St w0 L w' :=
  ⟨h.bel.trans (hb.mono h.bel.size), h.ord, h.lo, fun it hm => Nat.le_trans (h.hi it hm) hb.size, fun it hm => it.keep w w' (fun k _ hk => hb.block k (Nat.lt_of_lt_of_le hk (h.hi it hm))) (h.all it hm)⟩
theorem St.drew {w0 w : World} {L : List It} (h : St w0 L w) : St w0 L w.drew := h.below (Below.refl _ _).drew
theorem St.push {w0 w w' : World} {L : List It} (h : St w0 L w) (hb : Below w.heap.size w w') (it : It) (h1 : w.heap.size ≤ it.lo) (h2 : it.hi ≤ w'.heap.size) (hp : it.P w') : St w0 (it :: L) w' := by
  have h' := h.below hb
  refine ⟨h'.bel, List.Pairwise.cons (fun b hm => Nat.le_trans (h.hi b hm) h1) h.ord, fun x hx => ?_, fun x hx => ?_, fun x hx => ?_⟩
  · rcases List.mem_cons.1 hx with rfl | hx
    · exact Nat.le_trans h.bel.size h1
    · exact h.lo x hx
  · rcases List.mem_cons.1 hx with rfl | hx
    · exact h2
    · exact h'.hi x hx
  · rcases List.mem_cons.1 hx with rfl | hx
    · exact hp
    · exact h'.all x hx
theorem St.get {w0 w : World} {L : List It} (h : St w0 L w) (i : Nat) {it : It} (hi : L[i]? = some it) : it.P w := h.all it (List.mem_of_getElem? hi)
theorem St.szi {w0 w : World} {L : List It} (h : St w0 L w) (i : Nat) {it : It} (hi : L[i]? = some it) : it.hi ≤ w.heap.size := h.hi it (List.mem_of_getElem? hi)
/-- From w to w' nothing outside of the blocks lo .. hi has turned, but for new ones. -/
structure Only (lo hi : Nat) (w w' : World) : Prop where
  os : w'.os = w.os
  tape : w'.tape = w.tape
  output : w'.output = w.output
  size : w.heap.size ≤ w'.heap.size
  block : ∀ k, k < w.heap.size → k < lo ∨ hi ≤ k → w'.heap[k]? = w.heap[k]?
theorem Only.grown {lo hi : Nat} {w w' : World} {row : Option Nat} (hg : w.grownBy w' row) (hr : ∀ k, row = some k → lo ≤ k ∧ k < hi) : Only lo hi w w' :=
  ⟨hg.os, hg.tape, hg.output, hg.size, fun k hk ho => hg.block k hk fun e => by have := hr k e.symm; omega⟩
theorem Only.trans {lo hi : Nat} {a b c : World} (h : Only lo hi a b) (k : Only lo hi b c) : Only lo hi a c :=
  ⟨k.os.trans h.os, k.tape.trans h.tape, k.output.trans h.output, Nat.le_trans h.size k.size, fun i hi ho => (k.block i (Nat.lt_of_lt_of_le hi h.size) ho).trans (h.block i hi ho)⟩
/-- One thing turns, in its own blocks. -/
theorem St.turn {w0 w w' : World} {L : List It} (h : St w0 L w) (i : Nat) {it : It} (it' : It) (hi : L[i]? = some it) (hl : it'.lo = it.lo) (hh : it'.hi = it.hi) (ho : Only it.lo it.hi w w') (hp : it'.P w') : St w0 (L.set i it') w' := by
  obtain ⟨hil, rfl⟩ := List.getElem?_eq_some_iff.1 hi
  have hmi : L[i] ∈ L := List.getElem_mem hil
  have hpw := List.pairwise_iff_getElem.1 h.ord
  refine ⟨⟨ho.os.trans h.bel.os, ho.tape.trans h.bel.tape, ho.output.trans h.bel.output, Nat.le_trans h.bel.size ho.size, fun k hk => (ho.block k (Nat.lt_of_lt_of_le hk h.bel.size) (.inl (Nat.lt_of_lt_of_le hk (h.lo _ hmi)))).trans (h.bel.block k hk)⟩, ?_, ?_, ?_, ?_⟩
  · rw [List.pairwise_iff_getElem]
    intro a b ha hb hab
    simp only [List.length_set] at ha hb
    rw [List.getElem_set, List.getElem_set]
    by_cases ea : i = a
    · by_cases eb : i = b
      · omega
      · rw [if_pos ea, if_neg eb, hl]
        subst ea
        exact hpw _ _ _ _ hab
    · by_cases eb : i = b
      · rw [if_neg ea, if_pos eb, hh]
        subst eb
        exact hpw _ _ _ _ hab
      · rw [if_neg ea, if_neg eb]
        exact hpw _ _ _ _ hab
  · intro x hx
    rcases List.mem_or_eq_of_mem_set hx with hx | rfl
    · exact h.lo x hx
    · rw [hl]; exact h.lo _ hmi
  · intro x hx
    rcases List.mem_or_eq_of_mem_set hx with hx | rfl
    · exact Nat.le_trans (h.hi x hx) ho.size
    · rw [hh]; exact Nat.le_trans (h.hi _ hmi) ho.size
  · intro x hx
    obtain ⟨j, hj, rfl⟩ := List.getElem_of_mem hx
    simp only [List.length_set] at hj
    rw [List.getElem_set]
    by_cases e : i = j
    · rw [if_pos e]; exact hp
    · rw [if_neg e]
      refine L[j].keep w w' (fun k h1 h2 => ho.block k (Nat.lt_of_lt_of_le h2 (h.hi _ (List.getElem_mem hj))) ?_) (h.all _ (List.getElem_mem hj))
      rcases Nat.lt_or_ge i j with hij | hij
      · left; exact Nat.lt_of_lt_of_le h2 (hpw i j hil hj hij)
      · right; exact Nat.le_trans (hpw j i hj hil (by omega)) h1

theorem ownsRow_at {w w' : World} {base : Nat} {e : TypeId} {size n lo hi : Nat} {v : Value} {xs : List Value} (h : w.ownsRow base e size v n xs) (hl : Lies v lo hi) (hk : ∀ k, lo ≤ k → k < hi → w'.heap[k]? = w.heap[k]?) : w'.ownsRow base e size v n xs := by
  refine ⟨h.1, ?_⟩
  rcases h.2 with hn | ⟨g, cap, cur, rfl, hb, hgg, rest⟩
  · exact .inl hn
  · obtain ⟨h1, h2⟩ := hl g rfl
    exact .inr ⟨g, cap, cur, rfl, hb, (hk g h1 h2).trans hgg, rest⟩
theorem cell_at {w w' : World} {b o : Nat} (h : w'.heap[b]? = w.heap[b]?) : w'.cell? ⟨b, o, none⟩ = w.cell? ⟨b, o, none⟩ := World.cell?_of_block (a := ⟨b, o, none⟩) h
theorem froz_at {w w' : World} {b o : Nat} (h : w'.heap[b]? = w.heap[b]?) : w'.frozen? ⟨b, o, none⟩ = w.frozen? ⟨b, o, none⟩ := World.frozen?_of_block (a := ⟨b, o, none⟩) h
/-- A map's box. -/
def bxG (b : Nat) (side : Int) (v : Value) : It := ⟨b, b + 1, fun w => GB w b side v, fun w w' hk h => by
  have e := hk b (Nat.le_refl _) (Nat.lt_succ_self _)
  exact ⟨(cell_at e).trans h.c0, (cell_at e).trans h.c1, (froz_at e).trans h.f0, (froz_at e).trans h.f1⟩⟩
/-- The box of a map that was handed back. -/
def bxO (b : Nat) (side : Int) (v : Value) (code : Int) : It := ⟨b, b + 1, fun w => GC w b side v code, fun w w' hk h => by
  have e := hk b (Nat.le_refl _) (Nat.lt_succ_self _)
  exact ⟨(cell_at e).trans h.c0, (cell_at e).trans h.c1, (cell_at e).trans h.c2⟩⟩
/-- A row of numbers. -/
def rwI (B hi : Nat) (v : Value) (l : List Int) : It := ⟨B, hi, fun w => OwnI 2 .i64 w B v l ∧ Lies v B hi, fun w w' hk h => ⟨ownsRow_at h.1 h.2 hk, h.2⟩⟩
theorem OwnI.lies {w : World} {base : Nat} {v : Value} {l : List Int} (h : OwnI 2 .i64 w base v l) : Lies v base w.heap.size := World.ownsRow.lt h
theorem RCh.below' {w w' : World} {A : Option Addr} {l : List Ch} (h : RCh w w.heap.size A l) (hb : Below w.heap.size w w') : RCh w' w'.heap.size A l := (h.below hb).mono hb.size
end Go.Proofs.Ytmjbefjkkncjlaa
