/- What holds in the law of PoolPut, behind both answers. -/
import Derived.Test.YtbcnfohbiagfpaaPPW
namespace Go.Proofs.Ytbcnfohbiagfpaa
open Go.RowKit
set_option linter.unusedVariables false

theorem B1.grown {w w' : World} {b : Nat} {v : Value} {row : Option Nat} (h : B1 w b v) (hg : w.grownBy w' row) (hne : row ≠ some b) : B1 w' b v := ⟨hg.cell h.c0 (fun e => hne e.symm)⟩
theorem PO.grown {w w' : World} {b : Nat} {v : Value} {root code : Int} {row : Option Nat} (h : PO w b v root code) (hg : w.grownBy w' row) (hne : row ≠ some b) : PO w' b v root code := ⟨hg.cell h.c0 (fun e => hne e.symm), hg.cell h.c1 (fun e => hne e.symm), hg.cell h.c2 (fun e => hne e.symm)⟩
theorem PO.below {w w' : World} {b : Nat} {v : Value} {root code : Int} (h : PO w b v root code) (hb : Below w.heap.size w w') (hl : b < w.heap.size) : PO w' b v root code := h.keep (hb.block b hl)

/-- Behind both answers: the model's in box q, the pool and the map that were handed to the program (boxes bx, gy), its answer in box bg. -/
structure TS (w : World) (a : Option Addr) (n cap : Nat) (side : Int) (ag : Option Addr) (ng capg : Nat) (lo q h4 bx gy bg : Nat) (V1 Vx Vy V2 : Value) (Rt C : Int) (L lx : List Nd) (ly : List Int) (lg : List Nd) (wr : World) : Prop where
  ar : AR w a n cap side ag ng capg wr
  po : PO wr q V1 Rt C
  pg : PO wr bg V2 Rt C
  x : B1 wr bx Vx
  y : GB wr gy side Vy
  o1 : OwnN wr lo V1 L
  ox : OwnN wr h4 Vx lx
  oy : OwnI 2 .i64 wr (bx + 1) Vy ly
  o2 : OwnN wr (gy + 1) V2 lg
  nq : V1.ownBlock ≠ some q
  i1 : Lies V1 lo h4
  ix : Lies Vx h4 bx
  iy : Lies Vy (bx + 1) gy
  i2 : Lies V2 (gy + 1) bg
  ord : w.heap.size + 1 < lo ∧ lo ≤ q ∧ q < h4 ∧ h4 ≤ bx ∧ bx < gy ∧ gy < bg
  lt : bg < wr.heap.size
section
variable {w : World} {a : Option Addr} {n cap : Nat} {side : Int} {ag : Option Addr} {ng capg : Nat} {lo q h4 bx gy bg : Nat} {V1 Vx Vy V2 : Value} {Rt C : Int} {L lx : List Nd} {ly : List Int} {lg : List Nd} {wr wr' : World}
theorem TS.below (h : TS w a n cap side ag ng capg lo q h4 bx gy bg V1 Vx Vy V2 Rt C L lx ly lg wr) (hb : Below wr.heap.size wr wr') : TS w a n cap side ag ng capg lo q h4 bx gy bg V1 Vx Vy V2 Rt C L lx ly lg wr' := by
  have hr := h.ord
  have hz := h.lt
  exact ⟨h.ar.below hb, h.po.below hb (by omega), h.pg.below hb hz, h.x.below hb (by omega), h.y.below hb (by omega), h.o1.keep hb, h.ox.keep hb, h.oy.keep hb, h.o2.keep hb, h.nq, h.i1, h.ix, h.iy, h.i2, hr, Nat.lt_of_lt_of_le hz hb.size⟩
theorem TS.drew (h : TS w a n cap side ag ng capg lo q h4 bx gy bg V1 Vx Vy V2 Rt C L lx ly lg wr) : TS w a n cap side ag ng capg lo q h4 bx gy bg V1 Vx Vy V2 Rt C L lx ly lg wr.drew := h.below (Below.refl _ _).drew
theorem TS.markX (h : TS w a n cap side ag ng capg lo q h4 bx gy bg V1 Vx Vy V2 Rt C L lx ly lg wr) {lx' : List Nd} (ho : OwnN wr' h4 Vx lx') (hg : wr.grownBy wr' Vx.ownBlock) : TS w a n cap side ag ng capg lo q h4 bx gy bg V1 Vx Vy V2 Rt C L lx' ly lg wr' := by
  have hr := h.ord
  have hz := h.lt
  exact ⟨h.ar.grown hg (fun k hk => by have := (h.ix k hk).1; omega), h.po.grown hg (h.ix.ne (by omega)), h.pg.grown hg (h.ix.ne (by omega)), h.x.grown hg (h.ix.ne (by omega)), h.y.grown hg (by omega) (h.ix.ne (by omega)), World.ownsRow.kept h.o1 hg (h.i1.apart h.ix (by omega)), ho, World.ownsRow.kept h.oy hg (h.iy.apart h.ix (by omega)), World.ownsRow.kept h.o2 hg (h.i2.apart h.ix (by omega)), h.nq, h.i1, h.ix, h.iy, h.i2, hr, Nat.lt_of_lt_of_le hz hg.size⟩
theorem TS.markY (h : TS w a n cap side ag ng capg lo q h4 bx gy bg V1 Vx Vy V2 Rt C L lx ly lg wr) {ly' : List Int} (ho : OwnI 2 .i64 wr' (bx + 1) Vy ly') (hg : wr.grownBy wr' Vy.ownBlock) : TS w a n cap side ag ng capg lo q h4 bx gy bg V1 Vx Vy V2 Rt C L lx ly' lg wr' := by
  have hr := h.ord
  have hz := h.lt
  exact ⟨h.ar.grown hg (fun k hk => by have := (h.iy k hk).1; omega), h.po.grown hg (h.iy.ne (by omega)), h.pg.grown hg (h.iy.ne (by omega)), h.x.grown hg (h.iy.ne (by omega)), h.y.grown hg (by omega) (h.iy.ne (by omega)), World.ownsRow.kept h.o1 hg (h.i1.apart h.iy (by omega)), World.ownsRow.kept h.ox hg (h.ix.apart h.iy (by omega)), ho, World.ownsRow.kept h.o2 hg (h.i2.apart h.iy (by omega)), h.nq, h.i1, h.ix, h.iy, h.i2, hr, Nat.lt_of_lt_of_le hz hg.size⟩
theorem TS.markG (h : TS w a n cap side ag ng capg lo q h4 bx gy bg V1 Vx Vy V2 Rt C L lx ly lg wr) {lg' : List Nd} (ho : OwnN wr' (gy + 1) V2 lg') (hg : wr.grownBy wr' V2.ownBlock) : TS w a n cap side ag ng capg lo q h4 bx gy bg V1 Vx Vy V2 Rt C L lx ly lg' wr' := by
  have hr := h.ord
  have hz := h.lt
  exact ⟨h.ar.grown hg (fun k hk => by have := (h.i2 k hk).1; omega), h.po.grown hg (h.i2.ne (by omega)), h.pg.grown hg (h.i2.ne (by omega)), h.x.grown hg (h.i2.ne (by omega)), h.y.grown hg (by omega) (h.i2.ne (by omega)), World.ownsRow.kept h.o1 hg (h.i1.apart h.i2 (by omega)), World.ownsRow.kept h.ox hg (h.ix.apart h.i2 (by omega)), World.ownsRow.kept h.oy hg (h.iy.apart h.i2 (by omega)), ho, h.nq, h.i1, h.ix, h.iy, h.i2, hr, Nat.lt_of_lt_of_le hz hg.size⟩
end
end Go.Proofs.Ytbcnfohbiagfpaa
