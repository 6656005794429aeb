/- Marks that loops over iterators leave among a function's deferred calls: any number of them. -/
import Derived.Test.YtmjbefjkkncjlaaWyR
import Derived.RangeFuncLeaves
namespace Go.Proofs.Ytmjbefjkkncjlaa
open Go.RowKit
set_option linter.unusedVariables false

theorem Trn.put (w : World) (D : Nat) (o : Obj) : Trn (· = D) w (w.putObj D o) := Trn.grown (grownBy_putObj' w D o)
/-- Marks of loops that are over, each in a block of its own from B on. -/
structure Mks (B : Nat) (ds : List Deferred) (w : World) : Prop where
  at_ : ∀ d ∈ ds, ∃ D, d = { target := .collected D, args := #[] } ∧ B ≤ D ∧ w.heap[D]? = some (.deferred (some []))
  nd : ds.Nodup
theorem Mks.nil (B : Nat) (w : World) : Mks B [] w := ⟨by simp, List.nodup_nil⟩
theorem Mks.keep {B : Nat} {ds : List Deferred} {w w' : World} (h : Mks B ds w) (hk : ∀ D, B ≤ D → w.heap[D]? = some (.deferred (some [])) → w'.heap[D]? = some (.deferred (some []))) : Mks B ds w' :=
  ⟨fun d hd => by
    obtain ⟨D, rfl, hB, hD⟩ := h.at_ d hd
    exact ⟨D, rfl, hB, hk D hB hD⟩, h.nd⟩
theorem Mks.others {B : Nat} {ds : List Deferred} {w w' : World} (h : Mks B ds w) (hk : KeepsOthers w w') : Mks B ds w' := h.keep fun D _ hD => hk.same D _ hD rfl
theorem Mks.push {B D : Nat} {ds : List Deferred} {w0 w' : World} (h : Mks B ds w0) (h' : Mks B ds w') (hB : B ≤ D) (hD : w0.heap.size ≤ D) (hd : w'.heap[D]? = some (.deferred (some []))) : Mks B ({ target := .collected D, args := #[] } :: ds) w' := by
  refine ⟨fun d hm => ?_, List.nodup_cons.2 ⟨fun hm => ?_, h.nd⟩⟩
  · rcases List.mem_cons.1 hm with rfl | hm
    · exact ⟨D, rfl, hB, hd⟩
    · exact h'.at_ d hm
  · obtain ⟨D', e, _, hD'⟩ := h.at_ _ hm
    simp only [Deferred.mk.injEq, Target.collected.injEq, and_true] at e
    subst e
    have := (Array.getElem?_eq_some_iff.1 hD').1
    omega
theorem Mks.leaves {F : Fence} {n : Nat} {P : Program} {fn : Func} {tmps : Array Value} {R : Ending → World → Prop} {B : Nat} : ∀ (ds : List Deferred) (w : World), Mks B ds w →
    (∀ w', Trn (fun k => B ≤ k ∧ w.heap[k]? = some (.deferred (some []))) w w' → LeavesInM F n P fn tmps R [] .returning w') → LeavesInM F n P fn tmps R ds .returning w
  | [], w, _, h => h w (Trn.refl _ _)
  | d :: ds, w, hm, h => by
    obtain ⟨D, rfl, hB, hD⟩ := hm.at_ d (by simp)
    have hnd := List.nodup_cons.1 hm.nd
    have ht := Trn.put w D (.deferred none)
    have hne : ∀ k, w.heap[k]? = some (.deferred (some [])) → k ≠ D → (w.putObj D (.deferred none)).heap[k]? = some (.deferred (some [])) := fun k hk hn => (ht.block k (Array.getElem?_eq_some_iff.1 hk).1 hn).trans hk
    refine ⟨by simp, .inl ⟨D, _, rfl, run_takeDeferred hD, Mks.leaves (B := B) ds _ ⟨fun d' hd' => ?_, hnd.2⟩ fun w' ht' => h w' ?_⟩⟩
    · obtain ⟨D', rfl, hB', hD'⟩ := hm.at_ d' (by simp [hd'])
      exact ⟨D', rfl, hB', hne D' hD' fun e => hnd.1 (by rw [← e]; exact hd')⟩
    · refine (ht.mono (q := fun k => B ≤ k ∧ w.heap[k]? = some (.deferred (some []))) fun k e => by subst e; exact ⟨hB, hD⟩).trans ht' fun k hk ⟨h1, h2⟩ => ⟨h1, ?_⟩
      by_cases e : k = D
      · subst e; exact hD
      · rw [← ht.block k hk e]; exact h2
/-- Cells stay where marks are taken. -/
theorem Trn.cells {B : Nat} {w w' : World} (h : Trn (fun k => B ≤ k ∧ w.heap[k]? = some (.deferred (some []))) w w') {b : Nat} (hc : ∃ x : Obj, w.heap[b]? = some x ∧ x.isCells = true) : w'.heap[b]? = w.heap[b]? := by
  obtain ⟨x, hx, hxc⟩ := hc
  refine h.block b (Array.getElem?_eq_some_iff.1 hx).1 fun ⟨_, e⟩ => ?_
  rw [hx] at e
  cases e
  cases hxc
end Go.Proofs.Ytmjbefjkkncjlaa
