/- The model's pools: a square is put in. -/
import Derived.Test.YtoobkajilbmdhaaAddM
namespace Go.Proofs.Ytoobkajilbmdhaa
open Go.RowKit
set_option linter.unusedVariables false

/-- The tile at a place of a map of side sn. -/
def tileF (sn : Nat) (tiles : List Int) (x y : Nat) : Int := tiles.getD (y * sn + x) 0
/-- How many nodes a square may bring. -/
def cnt : Nat → Nat
  | 0 => 1
  | d + 1 => 4 * cnt d + 1
theorem msq_len (T : Nat → Nat → Int) : ∀ (d x y : Nat) (l : List Nd), (msq T d x y l).1.length ≤ l.length + cnt d
  | 0, x, y, l => addN_len _ _
  | d + 1, x, y, l => by
    rw [msq]
    have h1 := msq_len T d x y l
    have h2 := msq_len T d (x + 2 ^ d) y (msq T d x y l).1
    have h3 := msq_len T d x (y + 2 ^ d) (msq T d (x + 2 ^ d) y (msq T d x y l).1).1
    have h4 := msq_len T d (x + 2 ^ d) (y + 2 ^ d) (msq T d x (y + 2 ^ d) (msq T d (x + 2 ^ d) y (msq T d x y l).1).1).1
    split
    · have := addN_len l (leafOfT (T x y)); simp only [cnt]; omega
    · simp only [cnt]
      refine Nat.le_trans (addN_len _ _) ?_
      omega
/-- The state of a square call: the pool, the map in its box. -/
structure QS (W0 : World) (base p b : Nat) (v0 : Value) (A : Option Addr) (cg sn : Nat) (tiles : List Int) (v : Value) (l : List Nd) (wr : World) : Prop where
  ps : PS base p v l wr
  pg : PG p p v0 v W0 wr
  g0 : wr.cell? ⟨b, 0, none⟩ = some (.int .i64 sn)
  g1 : wr.cell? ⟨b, 1, none⟩ = some (.slice A tiles.length cg)
  ri : RI wr base A tiles
theorem QS.step {W0 : World} {base p b : Nat} {v0 : Value} {A : Option Addr} {cg sn : Nat} {tiles : List Int} {v v' : Value} {l l' : List Nd} {wr wr' : World} (h : QS W0 base p b v0 A cg sn tiles v l wr) (hp : PS base p v' l' wr') (hg : PG p p v v' wr wr') (hb : b < W0.heap.size) (hbp : b ≠ p) (hbv : v0.ownBlock ≠ some b) : QS W0 base p b v0 A cg sn tiles v' l' wr' :=
  have hr := h.pg.row b hb hbv
  have hbw := Nat.lt_of_lt_of_le hb h.pg.size
  ⟨hp, h.pg.trans hg, (hg.cell (a := ⟨b, 0, none⟩) hbw hbp hbp hr).trans h.g0, (hg.cell (a := ⟨b, 1, none⟩) hbw hbp hbp hr).trans h.g1, h.ri.below (hg.base (Nat.le_trans h.ps.hb (Nat.le_of_lt h.ps.lt)) h.ps.hb h.ps.hb (fun k hk => (h.ps.own.lt k hk).1))⟩
theorem tileF_at {sn : Nat} {tiles : List Int} {x y : Nat} (h : y * sn + x < tiles.length) : tileF sn tiles x y = tiles[y * sn + x] := by simp [tileF, List.getD, h]

/-- What a square call tells, if its halves tell f. -/
def sqR (T : Nat → Nat → Int) (n h x y : Nat) (f : Nat → Nat → List Nd → List Nd × Nat) (l : List Nd) : List Nd × Nat :=
  if uniB T x y n then addN l (leafOfT (T x y)) else
  let a := f x y l
  let b := f (x + h) y a.1
  let c := f x (y + h) b.1
  let e := f (x + h) (y + h) c.1
  addN e.1 ⟨-1, a.2, b.2, c.2, e.2⟩
theorem cast_lt2 {a b c : Nat} (h : a + b < c) : (a : Int) + (b : Int) < (c : Int) := by omega
theorem cast_le2 {a b c : Nat} (h : a + b ≤ c) : (a : Int) + (b : Int) ≤ (c : Int) := by omega
theorem cast_one {a : Nat} (h : 1 ≤ a) : (1 : Int) ≤ (a : Int) := by omega
theorem cast_lt3 {a b c : Nat} (h : a < b + c) : (a : Int) < (b : Int) + (c : Int) := by omega
theorem lt_of2 {a b c d : Nat} (h : b + c ≤ d) (k : a < b + c) : a < d := by omega
theorem tdiv2 (h : Nat) : ((2 * h : Nat) : Int).tdiv 2 = (h : Int) := by rw [Int.tdiv_eq_ediv_of_nonneg (by omega)]; omega
theorem place_sq {sn J I : Nat} {tiles : List Int} (hs8 : sn ≤ 8) (htl : tiles.length = sn * sn) (hJ : J < sn) (hI : I < sn) : ∃ q : Nat, J * sn = q ∧ q + I < tiles.length ∧ q + I < 64 ∧ wrap64 ((J : Int) * (sn : Int)) = (q : Int) := by
  have h1 : (J + 1) * sn ≤ sn * sn := Nat.mul_le_mul_right _ hJ
  rw [Nat.add_mul, Nat.one_mul] at h1
  have h2 : sn * sn ≤ 8 * 8 := Nat.mul_le_mul hs8 hs8
  refine ⟨J * sn, rfl, by omega, by omega, ?_⟩
  rw [wrap64_in]
  · simp
  · have : (0 : Int) ≤ (J : Int) * (sn : Int) := Int.mul_nonneg (by omega) (by omega)
    omega
  · have : (J : Int) * (sn : Int) = ((J * sn : Nat) : Int) := by simp
    omega

def RelJ (T : Nat → Nat → Int) (t : Int) (x y n : Nat) (o j : Value) : Prop := ∃ (J : Nat) (bo : Bool), j = .int .i64 J ∧ o = .bool bo ∧ y ≤ J ∧ J ≤ y + n ∧ Hid (bo = true ↔ ∀ j' i', y ≤ j' → j' < J → x ≤ i' → i' < x + n → T i' j' = t)
def RelI (T : Nat → Nat → Int) (t : Int) (x J n : Nat) (bo : Bool) (o i : Value) : Prop := ∃ (I : Nat) (bi : Bool), i = .int .i64 I ∧ o = .bool bi ∧ x ≤ I ∧ I ≤ x + n ∧ Hid (bi = true ↔ bo = true ∧ ∀ i', x ≤ i' → i' < I → T i' J = t)
end Go.Proofs.Ytoobkajilbmdhaa
