/- Rows of integers that a call makes for itself: an append of one number, the text of a row of bytes. -/
import Derived.Test.YtmjbefjkkncjlaaRows
import Derived.Test.YtmjbefjkkncjlaaBase
namespace Go.Proofs.Ytmjbefjkkncjlaa
open Go.RowKit

/-- The slice value v owns, among the blocks from base on, a row of element type e that reads as the numbers l. -/
def OwnI (e : TypeId) (k : IntKind) (w : World) (base : Nat) (v : Value) (l : List Int) : Prop := w.ownsRow base e 1 v l.length (l.map (Value.int k))

theorem OwnI.nil (e : TypeId) (k : IntKind) (w : World) (base : Nat) : OwnI e k w base (.slice none 0 0) [] := World.ownsRow_nil _ _ _ _
theorem OwnI.alloc {e : TypeId} {k : IntKind} {w : World} {base : Nat} {v : Value} {l : List Int} (h : OwnI e k w base v l) (o : Obj) : OwnI e k (w.alloc o) base v l := World.ownsRow.alloc h o
theorem OwnI.drew {e : TypeId} {k : IntKind} {w : World} {base : Nat} {v : Value} {l : List Int} (h : OwnI e k w base v l) : OwnI e k w.drew base v l := h
/-- A literal slice. -/
theorem OwnI.lit {e : TypeId} {k : IntKind} {w : World} {base : Nat} (l : List Int) (hb : base ≤ w.heap.size) (hm : l.length ≤ maxLen) :
    OwnI e k (w.alloc (.cells (l.map (Value.int k)).toArray e)) base (.slice (some ⟨w.heap.size, 0, none⟩) l.length l.length) l := by
  have := World.ownsRow_lit (e := e) (size := 1) (base := base) w (l.map (Value.int k)).toArray l.length hb hm (by simp)
  simpa [OwnI] using this

theorem append_int {P : Program} {t e : TypeId} {k : IntKind} {by_ : Nat} {i : TypeInfo} (ht : P.underlying t = some (.slice e)) (hi : P.info? e = some i) (hz : i.zero = some (.int k 0)) (hsz : i.size = 1) (hby : i.bytes = by_) (h8 : by_ ≤ 8)
    {ops : Array Oper} {rest : List Oper} {o : Oper} {a : Act} {Q : Exit → Act → World → Prop} (hgd : o.guard = none) (s x : Operand)
    (ho : o.op = .call { callee := .builtin .append, args := #[s, x], argTypes := #[t, t] })
    (base : Nat) (v : Value) (l : List Int) (b : Int) (wr : World) (hown : OwnI e k wr base v l) (hs : a.eval s = v)
    (hx : a.eval x = .slice (some ⟨wr.heap.size, 0, none⟩) 1 1) (hlen : l.length < 17000000000000) (hb : base ≤ wr.heap.size)
    (h : ∀ v' w', OwnI e k w' base v' (l ++ [b]) → Below base wr w' → wpList P ops Q rest (a.put o.dst v') w') :
    wpList P ops Q (o :: rest) a (wr.alloc (.cells #[.int k b] e)) := by
  refine wpList_append_own _ hgd s x t ho base e i (.int k 0) 1 by_ ht hi hz hsz hby rfl (by decide) v l.length _ hs (World.ownsRow.alloc hown _) ⟨wr.heap.size, 0, none⟩ 1 1 [.int k b] hx rfl ?_ ?_ ?_ ?_ ?_ ?_
  · exact cell_one_new _ _ _
  · intro u hu; simp at hu; subst hu; rfl
  · unfold maxLen; omega
  · have h1 : (l.length + 1) * by_ ≤ (l.length + 1) * 8 := Nat.mul_le_mul_left _ h8
    omega
  · simp; omega
  · intro v' w' hown' hgrow _
    refine h v' w' ?_ ?_
    · simpa [OwnI] using hown'
    · exact ((Below.refl _ _).alloc hb _).grown hgrow (by simp; omega) (fun g hg => (World.ownsRow.lt hown g hg).1)

theorem OwnI.string {P : Program} {w : World} {base : Nat} {v : Value} {l : List Int} {tb ts e : TypeId} (h : OwnI e .u8 w base v l) (hb : P.underlying tb = some (.slice e)) (he : P.underlying e = some (.int .u8)) (hs : P.underlying ts = some .string) :
    (convert tb ts v).run P w = .ok (.string (strOfNums l)) w := by
  rcases h.2 with ⟨rfl, hn⟩ | ⟨g, cap, cur, rfl, _, hg, _, _, _, htake⟩
  · obtain rfl : l = [] := List.eq_nil_of_length_eq_zero hn
    exact run_convert_bytes_nil w _ _ hb he 0 0 _ hs
  · refine run_convert_bytes_arg w _ _ hb he g 0 l.length cap l rfl (fun i hi => ?_) _ hs
    have := World.ownsRow.cells h (g := g) rfl i (.int .u8 (l.getD i 0)) (by simp [List.getD, hi])
    rw [← this]
    unfold Addr.add
    split <;> simp_all

theorem Try.infoByte : (Try.prog.info? 5).map (fun i => (i.zero, i.size, i.bytes)) = some (some (.int .u8 0), 1, 1) := by kernel_rfl

end Go.Proofs.Ytmjbefjkkncjlaa
