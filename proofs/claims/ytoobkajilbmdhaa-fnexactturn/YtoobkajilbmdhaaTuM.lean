/- The model's turned maps. -/
import Derived.Test.YtoobkajilbmdhaaTuO
import Derived.Test.YtoobkajilbmdhaaGridF
import Derived.BigRegion
namespace Go.Proofs.Ytoobkajilbmdhaa
open Go.RowKit
set_option linter.unusedVariables false
set_option linter.unusedSimpArgs false

/-- The numbers that lead to a place's two indexes: a row's turned one and a row's own. -/
theorem turn_idx {n x y : Nat} (hn : n = 1 ∨ n = 2 ∨ n = 4 ∨ n = 8) (hx : x < n) (hy : y < n) : ∃ p q r T s S : Nat, (T = x * n + (n - 1 - y) ∧ S = y * n + x ∧ T < n * n ∧ S < n * n) ∧
    IntKind.i64.wrap ((x : Int) * (n : Int)) = (p : Int) ∧ IntKind.i64.wrap ((p : Int) + (n : Int)) = (q : Int) ∧ IntKind.i64.wrap ((q : Int) - 1) = (r : Int) ∧ IntKind.i64.wrap ((r : Int) - (y : Int)) = (T : Int) ∧
    IntKind.i64.wrap ((y : Int) * (n : Int)) = (s : Int) ∧ IntKind.i64.wrap ((s : Int) + (x : Int)) = (S : Int) := by
  refine ⟨x * n, x * n + n, x * n + n - 1, x * n + (n - 1 - y), y * n, y * n + x, ?_⟩
  rcases hn with rfl | rfl | rfl | rfl <;>
    refine ⟨⟨rfl, rfl, by omega, by omega⟩, ?_, ?_, ?_, ?_, ?_, ?_⟩ <;>
    (rw [IntWalk.i64_in _ (by omega)]; omega)
theorem flip_idx {n x y : Nat} (hn : n = 1 ∨ n = 2 ∨ n = 4 ∨ n = 8) (hx : x < n) (hy : y < n) : ∃ p q r T S : Nat, (T = y * n + (n - 1 - x) ∧ S = y * n + x ∧ T < n * n ∧ S < n * n) ∧
    IntKind.i64.wrap ((y : Int) * (n : Int)) = (p : Int) ∧ IntKind.i64.wrap ((p : Int) + (n : Int)) = (q : Int) ∧ IntKind.i64.wrap ((q : Int) - 1) = (r : Int) ∧ IntKind.i64.wrap ((r : Int) - (x : Int)) = (T : Int) ∧
    IntKind.i64.wrap ((p : Int) + (x : Int)) = (S : Int) := by
  refine ⟨y * n, y * n + n, y * n + n - 1, y * n + (n - 1 - x), y * n + x, ?_⟩
  rcases hn with rfl | rfl | rfl | rfl <;>
    refine ⟨⟨rfl, rfl, by omega, by omega⟩, ?_, ?_, ?_, ?_, ?_⟩ <;>
    (rw [IntWalk.i64_in _ (by omega)]; omega)
def posT (n : Nat) (p : Nat × Nat) : Nat := p.1 * n + (n - 1 - p.2)
def posF (n : Nat) (p : Nat × Nat) : Nat := p.2 * n + (n - 1 - p.1)
theorem posT_inj {n x y : Nat} (hn : n = 1 ∨ n = 2 ∨ n = 4 ∨ n = 8) (hx : x < n) (hy : y < n) : ∀ x' y', x' < n → y' < n → posT n (x', y') = posT n (x, y) → x' = x ∧ y' = y := by
  intro x' y' hx' hy' h
  simp only [posT] at h
  rcases hn with rfl | rfl | rfl | rfl <;> omega
theorem posF_inj {n x y : Nat} (hn : n = 1 ∨ n = 2 ∨ n = 4 ∨ n = 8) (hx : x < n) (hy : y < n) : ∀ x' y', x' < n → y' < n → posF n (x', y') = posF n (x, y) → x' = x ∧ y' = y := by
  intro x' y' hx' hy' h
  simp only [posF] at h
  rcases hn with rfl | rfl | rfl | rfl <;> omega
theorem put_turned {n : Nat} {t u : List Int} (h : PutTo n (n * n) (posT n) t u) : u = rotL n t :=
  h.done (fun p hp => spinIn hp) fun p hp => by
    obtain ⟨h1, h2⟩ := hp
    simp only [posT, spin]
    rw [show n - 1 - (n - 1 - p.1) = p.1 by omega]
theorem put_flipped {n : Nat} {t u : List Int} (h : PutTo n (n * n) (posF n) t u) : u = flipL n t :=
  h.done (fun p hp => flip_in hp) fun p hp => by
    obtain ⟨h1, h2⟩ := hp
    simp only [posF, flipX]
    rw [show n - 1 - (n - 1 - p.1) = p.1 by omega]
theorem put_row {n y x : Nat} {pos : Nat × Nat → Nat} {t u : List Int} (h : PutTo n (y * n + x) pos t u) (hx : ¬ x < n) (hx2 : x ≤ n) : PutTo n ((y + 1) * n) pos t u := by
  obtain rfl : x = n := by omega
  rw [Nat.add_mul, Nat.one_mul]
  exact h
theorem put_all {n y : Nat} {pos : Nat × Nat → Nat} {t u : List Int} (h : PutTo n (y * n) pos t u) (hy : ¬ y < n) (hy2 : y ≤ n) : PutTo n (n * n) pos t u := by
  obtain rfl : y = n := by omega
  exact h

/-- While a map is turned: its box, its row, the box of what is to be handed back, the copy's box o and row g. -/
structure QI (w : World) (n : Nat) (A : Option Addr) (c m W o g c' : Nat) (t : List Int) (wr : World) (u : List Int) : Prop where
  inn : GB wr w.heap.size n (.slice A m c)
  src : RI wr W A t
  res : GB wr (w.heap.size + 1) 0 (.slice none 0 0)
  cpy : GB wr o n (.slice (some ⟨g, 0, none⟩) m c')
  own : OwnI 2 .i64 wr W (.slice (some ⟨g, 0, none⟩) m c') u
  bel : Below w.heap.size w wr
  siz : w.heap.size + 1 < W ∧ W ≤ o ∧ W ≤ g ∧ g ≠ o ∧ o < wr.heap.size
theorem QI.store {w : World} {n : Nat} {A : Option Addr} {c m W o g c' : Nat} {t : List Int} {wr : World} {u : List Int} (h : QI w n A c m W o g c' t wr u) (j : Nat) (v : Int) : QI w n A c m W o g c' t (wr.setCell ⟨g, j, none⟩ (.int .i64 v)) (u.set j v) := by
  obtain ⟨h1, h2, h3, h4, h5⟩ := h.siz
  exact ⟨h.inn.far (by show g ≠ _; omega) _, h.src.below ((Below.refl _ _).setCell h3 _), h.res.far (by show g ≠ _; omega) _, h.cpy.far (by show g ≠ _; omega) _, (h.own.store v).1, h.bel.setCell (by show w.heap.size ≤ g; omega) _, h1, h2, h3, h4, by simpa [World.setCell] using h5⟩
theorem QI.drew {w : World} {n : Nat} {A : Option Addr} {c m W o g c' : Nat} {t : List Int} {wr : World} {u : List Int} (h : QI w n A c m W o g c' t wr u) : QI w n A c m W o g c' t wr.drew u :=
  by
  obtain ⟨h1, h2, h3, h4, h5⟩ := h.siz
  have hd : Below wr.heap.size wr wr.drew := (Below.refl _ _).drew
  exact ⟨h.inn.below hd (by omega), h.src.below (Below.refl _ _).drew, h.res.below hd (by omega), h.cpy.below hd h5, h.own.drew, h.bel.drew, h.siz⟩
/-- The copy has been made. -/
theorem QI.made {w w1 w2 : World} {n : Nat} {A : Option Addr} {c m g c' : Nat} {t : List Int} (hi : GB w1 w.heap.size n (.slice A m c)) (hr : GB w1 (w.heap.size + 1) 0 (.slice none 0 0)) (hs : RI w1 w1.heap.size A t) (hb : Below w.heap.size w w1) (hz : w.heap.size + 1 < w1.heap.size)
    (ho : OwnI 2 .i64 w2 w1.heap.size (.slice (some ⟨g, 0, none⟩) m c') t) (hb2 : Below w1.heap.size w1 w2) :
    QI w n A c m w1.heap.size w2.heap.size g c' t (w2.alloc (.cells #[.int .i64 n, .slice (some ⟨g, 0, none⟩) m c'] 37)) t := by
  have ha : Below w2.heap.size w2 (w2.alloc (.cells #[.int .i64 n, .slice (some ⟨g, 0, none⟩) m c'] 37)) := (Below.refl _ _).alloc (Nat.le_refl _) _
  have hab := hb2.trans (ha.mono hb2.size)
  have hg := World.ownsRow.lt ho g rfl
  exact ⟨hi.below hab (by omega), hs.below hab, hr.below hab hz, GB.made _ _ _ _, ho.alloc _, hb.trans (hab.mono hb.size), hz, hb2.size, hg.1, Nat.ne_of_lt hg.2, by simp⟩

theorem own_apart {w : World} {base n c : Nat} {A : Option Addr} {l : List Int} {a : Addr} (h : OwnI 2 .i64 w base (.slice A n c) l) (hne : ∀ g, A = some g → g.block ≠ a.block) (u : Value) : OwnI 2 .i64 (w.setCell a u) base (.slice A n c) l :=
  World.ownsRow.kept h (row := some a.block) ⟨rfl, rfl, rfl, by simp, fun k _ hk => heap_setCell_other w a k u (fun e => hk (by rw [e]))⟩ (by
    cases A with
    | none => exact .inl rfl
    | some g =>
      refine .inr fun e => ?_
      have e2 : some g.block = some a.block := e
      exact hne g rfl (Option.some.inj e2))

set_option maxRecDepth 100000 in
set_option maxHeartbeats 1000000 in
theorem mQuarters_any (n k base : Nat) (hn : n = 1 ∨ n = 2 ∨ n = 4 ∨ n = 8) (hk : k ≤ 1000) (A : Option Addr) (c : Nat) (t : List Int) (w : World) (ho : OwnI 2 .i64 w base (.slice A t.length c) t) (hb : base ≤ w.heap.size) (hA : ∀ g, A = some g → g.block < w.heap.size) (hl : t.length = n * n) :
    Calls Try.prog 61 #[.agg #[.int .i64 n, .slice A t.length c], .int .i64 k] w fun e w' => ∃ A' c', e = .returned (.agg #[.int .i64 n, .slice A' t.length c']) ∧ OwnI 2 .i64 w' base (.slice A' t.length c') (rotsL n k t) ∧ Below w.heap.size w w' := by
  have HO0 := Lib.hid ho
  have HLn := Lib.hid hl
  have hn8 : n ≤ 8 := by rcases hn with rfl | rfl | rfl | rfl <;> omega
  have HAP : Hid (∀ g, A = some g → g.block ≠ w.heap.size + 1) := by
    show ∀ g, _
    intro g e
    have := hA g e
    omega
  have h64 : t.length ≤ 64 := by rcases hn with rfl | rfl | rfl | rfl <;> omega
  have h0 : 0 < t.length := by rcases hn with rfl | rfl | rfl | rfl <;> omega
  have HN := Lib.hid hn
  have hW0 : Hid (GB ((w.alloc (.cells #[.int .i64 n, .slice A t.length c] 37)).alloc (.cells #[.int .i64 0, .slice none 0 0] 37)) w.heap.size n (.slice A t.length c) ∧ GB ((w.alloc (.cells #[.int .i64 n, .slice A t.length c] 37)).alloc (.cells #[.int .i64 0, .slice none 0 0] 37)) (w.heap.size + 1) 0 (.slice none 0 0) ∧ Below w.heap.size w ((w.alloc (.cells #[.int .i64 n, .slice A t.length c] 37)).alloc (.cells #[.int .i64 0, .slice none 0 0] 37))) := by
    refine ⟨(GB.made w n (.slice A t.length c) 37).below ((Below.refl _ _).alloc (B := w.heap.size + 1) (by simp) _) (by omega), ?_, ((Below.refl _ _).alloc (Nat.le_refl _) _).alloc (by simp) _⟩
    have := GB.made (w.alloc (.cells #[.int .i64 n, .slice A t.length c] 37)) 0 (.slice none 0 0) 37
    rw [alloc_size] at this
    exact this
  have HOW := Lib.hid ((ho.alloc (.cells #[.int .i64 n, .slice A t.length c] 37)).alloc (.cells #[.int .i64 0, .slice none 0 0] 37))
  clear ho hl hn hA
  go_enter Try.func61, Try.ntmps61
  go_wp2
  go_loopw [1] (fun i wr => ∃ (j : Nat) (A : Option Addr) (c : Nat) (u : List Int), i = .int .i64 j ∧ j ≤ k ∧ GB wr w.heap.size n (.slice A t.length c) ∧ GB wr (w.heap.size + 1) 0 (.slice none 0 0) ∧ OwnI 2 .i64 wr base (.slice A t.length c) u ∧ Below w.heap.size w wr ∧ w.heap.size + 1 < wr.heap.size ∧ Hid (∀ g, A = some g → g.block ≠ w.heap.size + 1) ∧ Hid (u.length = t.length) ∧ Hid (rotsL n j u = rotsL n k t)) (fun i _ => (intOf i).toNat)
  case atStart => exact ⟨k, A, c, t, rfl, Nat.le_refl _, hW0.out.1, hW0.out.2.1, HOW.out, hW0.out.2.2, by simp, HAP, rfl, rfl⟩
  case round =>
    obtain ⟨j, A1, c1, u, rfl, hj, hgb, hgr, how, hbel, hsz, HNE, HU, HR⟩ := hrel
    clear hW0 HOW
    cases j with
    | zero =>
      obtain ⟨g0, g1, f0, f1⟩ := hgb
      obtain ⟨r0, r1, s0, s1⟩ := hgr
      have HW := Lib.hid how
      have HB := Lib.hid hbel
      have HE : Hid (u = rotsL n k t) := HR.out
      clear how hbel
      go_wp2
      refine bodyPost_ret (v := .agg #[.int .i64 n, .slice A1 t.length c1]) (by simp [results, Try.results61, go_sem, r0, r1]) rfl ⟨A1, c1, rfl, ?_, (HB.out.setCell (by simp) _).setCell (by simp) _⟩
      rw [← HE.out]
      exact own_apart (own_apart HW.out HNE.out _) HNE.out _
    | succ j =>
      have HGB := Lib.hid hgb
      have HGR := Lib.hid hgr
      have HB := Lib.hid hbel
      have HRI := Lib.hid how.ri
      have hjp : (0 : Int) < ((j + 1 : Nat) : Int) := by omega
      have hwj : wrap64 (((j + 1 : Nat) : Int) - 1) = (j : Int) := by rw [wrap64_in (by omega) (by omega)]; omega
      obtain ⟨g0, g1, f0, f1⟩ := hgb
      clear hgr hbel how
      generalize hJ : ((j + 1 : Nat) : Int) = J at *
      have HJ := Lib.hid hJ
      clear hJ
      go_wp2_with fail
      have hcp := mCopy_any n A1 c1 u wr HRI.out (by rw [HU.out]; omega) (by rw [HU.out]; omega)
      rw [HU.out] at hcp
      refine hcp.mono ?_
      rintro e w2 ⟨A2, c2, rfl, ho2, hb2⟩
      obtain ⟨g, rfl, hg1, hg2, _⟩ := ho2.at_ (j := 0) (by rw [HU.out]; exact h0)
      have HI0 := Lib.hid (QI.made HGB.out HGR.out HRI.out HB.out hsz ho2 hb2)
      clear ho2 hb2 hcp g0 g1 f0 f1 HGB HGR HB hg1 hg2
      go_wp2
      generalize w2.alloc (.cells #[.int .i64 n, .slice (some ⟨g, 0, none⟩) t.length c2] 37) = w3 at *
      generalize w2.heap.size = o at *
      generalize wr.heap.size = W at *
      have HP0 : Hid (PutTo n 0 (posT n) u u) := PutTo.start (by rw [HU.out, HLn.out])
      go_loopw [6] (fun i wr => ∃ (y : Nat) (v : List Int), i = .int .i64 y ∧ y ≤ n ∧ QI w n A1 c1 t.length W o g c2 u wr v ∧ Hid (PutTo n (y * n) (posT n) u v)) (fun i _ => n - (intOf i).toNat)
      case atStart => exact ⟨0, u, rfl, Nat.zero_le _, HI0.out, by rw [Nat.zero_mul]; exact HP0⟩
      case round =>
        obtain ⟨y, v, rfl, hy, hq, HP⟩ := hrel
        have HQ := Lib.hid hq
        clear HI0 HP0
        obtain ⟨⟨a0, a1, _, _⟩, _, _, ⟨y0, y1, _, _⟩, _, _, z1, z2, z3, z4, z5⟩ := hq
        by_cases hyn : y < n
        · have hyI : (y : Int) < (n : Int) := by omega
          go_wp2
          go_loopw [7] (fun i wr => ∃ (x : Nat) (v : List Int), i = .int .i64 x ∧ x ≤ n ∧ QI w n A1 c1 t.length W o g c2 u wr v ∧ Hid (PutTo n (y * n + x) (posT n) u v)) (fun i _ => n - (intOf i).toNat)
          case atStart => exact ⟨0, v, rfl, Nat.zero_le _, HQ.out, by rw [Nat.add_zero]; exact HP⟩
          case round =>
            obtain ⟨x, v, rfl, hx, hq, HP2⟩ := hrel
            have HQ2 := Lib.hid hq
            clear HQ HP a0 a1 y0 y1
            obtain ⟨⟨a0, a1, _, _⟩, hsrc, _, ⟨y0, y1, _, _⟩, hown, _, _, _, _, _, _⟩ := hq
            by_cases hxn : x < n
            · have hxI : (x : Int) < (n : Int) := by omega
              have HST := Lib.hid (fun hp => HP2.out.step hxn hyn hp (posT_inj HN.out hxn hyn))
              obtain ⟨p, q, r, T, s, S, ⟨eT, eS, hT, hS⟩, m1, m2, m3, m4, m5, m6⟩ := turn_idx HN.out hxn hyn
              have hST : S < u.length := by rw [HU.out, HLn.out]; exact hS
              have hTT : T < v.length := by rw [HP2.out.1]; exact hT
              obtain ⟨b, off, rfl, hbl, hcs⟩ := hsrc.at_ hST
              obtain ⟨g', eg, _, _, hcg, hfg⟩ := hown.at_ hTT
              cases eg
              have HS := Lib.hid (HQ2.out.drew.store T u[S])
              have HST2 : Hid (PutTo n (y * n + (x + 1)) (posT n) u (v.set T u[S])) := by
                have h1 := HST.out (by show posT n (x, y) < n * n; rw [show posT n (x, y) = T from eT.symm]; exact hT)
                rw [show posT n (x, y) = T from eT.symm, ← eS, show u.getD S 0 = u[S] by simp [List.getD, hST]] at h1
                rw [← Nat.add_assoc, ← eS]
                exact h1
              have hSI : (S : Int) < (t.length : Int) := by rw [HLn.out]; omega
              have hTI : (T : Int) < (t.length : Int) := by rw [HLn.out]; omega
              have hS0 : (0 : Int) ≤ (S : Int) := by omega
              have hT0 : (0 : Int) ≤ (T : Int) := by omega
              have hneb : ¬ b = g := by omega
              generalize u[S] = val at *
              clear HST eT eS hT hS hsrc hown HP2
              go_wp2_with fail
              go_region
              go_wp2
              go_roundw
              case rel => exact ⟨x + 1, _, by go_num, by omega, HS.out, HST2⟩
              case measure => simp [intOf]; omega
            · have HR2 := Lib.hid (put_row HP2.out hxn hx)
              clear hsrc hown
              go_wp2
              go_roundw
              case rel => exact ⟨y + 1, v, by go_num, by omega, HQ2.out, HR2⟩
              case measure => simp [intOf]; omega
        · have HV : Hid (v = rotL n u) := put_turned (put_all HP.out hyn hy)
          obtain rfl := HV.out
          go_wp2
          go_roundw
          case rel =>
            have hq := HQ.out
            refine ⟨j, some ⟨g, 0, none⟩, c2, rotL n u, by go_num, by omega, (hq.inn.set0 n).set1 _, (hq.res.far (by show w.heap.size ≠ _; omega) _).far (by show w.heap.size ≠ _; omega) _, OwnI.lower (by omega) (OwnI.set_below (by show w.heap.size < _; omega) _ (OwnI.set_below (by show w.heap.size < _; omega) _ hq.own)), (hq.bel.setCell (by simp) _).setCell (by simp) _, ?_, ?_, ?_, HR⟩
            · have := hq.siz
              simp [World.setCell]
              omega
            · show ∀ g', _
              intro g' e
              cases e
              show g ≠ _
              omega
            · show _ = _
              rw [rotL_len, HLn.out]
          case measure =>
            have := HJ.out
            simp only [intOf, hwj]
            simp
            omega
set_option maxRecDepth 100000 in
set_option maxHeartbeats 1000000 in
theorem mTurned_any (n how : Nat) (hn : n = 1 ∨ n = 2 ∨ n = 4 ∨ n = 8) (hh : how ≤ 7) (A : Option Addr) (c : Nat) (t : List Int) (w : World) (h : RI w w.heap.size A t) (hl : t.length = n * n) :
    Calls Try.prog 42 #[.agg #[.int .i64 n, .slice A t.length c], .int .i64 how] w fun e w' => ∃ A' c', e = .returned (.agg #[.int .i64 n, .slice A' t.length c']) ∧ OwnI 2 .i64 w' w.heap.size (.slice A' t.length c') (turnL n how t) ∧ Below w.heap.size w w' := by
  have hn8 : n ≤ 8 := by rcases hn with rfl | rfl | rfl | rfl <;> omega
  have HLn := Lib.hid hl
  have h64 : t.length ≤ 64 := by rcases hn with rfl | rfl | rfl | rfl <;> omega
  have h0 : 0 < t.length := by rcases hn with rfl | rfl | rfl | rfl <;> omega
  have HN := Lib.hid hn
  have HTI := Lib.hid (turn_is (n := n) (how := how) hl)
  have hW0 : Hid (GB ((w.alloc (.cells #[.int .i64 n, .slice A t.length c] 37)).alloc (.cells #[.int .i64 0, .slice none 0 0] 37)) w.heap.size n (.slice A t.length c) ∧ GB ((w.alloc (.cells #[.int .i64 n, .slice A t.length c] 37)).alloc (.cells #[.int .i64 0, .slice none 0 0] 37)) (w.heap.size + 1) 0 (.slice none 0 0) ∧ Below w.heap.size w ((w.alloc (.cells #[.int .i64 n, .slice A t.length c] 37)).alloc (.cells #[.int .i64 0, .slice none 0 0] 37))) := by
    refine ⟨(GB.made w n (.slice A t.length c) 37).below ((Below.refl _ _).alloc (B := w.heap.size + 1) (by simp) _) (by omega), ?_, ((Below.refl _ _).alloc (Nat.le_refl _) _).alloc (by simp) _⟩
    have := GB.made (w.alloc (.cells #[.int .i64 n, .slice A t.length c] 37)) 0 (.slice none 0 0) 37
    rw [alloc_size] at this
    exact this
  have HRI := Lib.hid ((h.below hW0.out.2.2).mono hW0.out.2.2.size)
  have hsz : w.heap.size + 1 < ((w.alloc (.cells #[.int .i64 n, .slice A t.length c] 37)).alloc (.cells #[.int .i64 0, .slice none 0 0] 37)).heap.size := by simp
  have HSZ := Lib.hid hsz
  clear h hl hn hsz
  obtain ⟨m, hm⟩ : ∃ m, m = how % 4 := ⟨_, rfl⟩
  have hm1 : (how : Int).tmod 4 = (m : Int) := by rw [Int.tmod_eq_emod_of_nonneg (by omega)]; omega
  have hm2 : (how : Int) % 4 = (m : Int) := by omega
  have hm4 : m ≤ 1000 := by omega
  have HM := Lib.hid hm
  clear hm
  go_enter Try.func42, Try.ntmps42
  go_wp2_with fail
  refine (mCopy_any n A c t _ HRI.out (by omega) h0).mono ?_
  rintro e w2 ⟨A2, c2, rfl, ho2, hb2⟩
  obtain ⟨g, rfl, hg1, hg2, _⟩ := ho2.at_ (j := 0) h0
  have HI0 := Lib.hid (QI.made hW0.out.1 hW0.out.2.1 HRI.out hW0.out.2.2 HSZ.out ho2 hb2)
  clear ho2 hb2 hg1 hg2
  generalize ((w.alloc (.cells #[.int .i64 n, .slice A t.length c] 37)).alloc (.cells #[.int .i64 0, .slice none 0 0] 37)).heap.size = W at *
  clear hW0 HRI HSZ
  by_cases h4 : 4 ≤ how
  · have hd : decide ((4 : Int) ≤ (how : Int)) = true := decide_eq_true (by omega)
    have HT2 : Hid (rotsL n m (flipL n t) = turnL n how t) := by
      have := HTI.out
      rw [if_pos h4, ← HM.out] at this
      exact this
    clear h4 HTI
    go_wp2
    generalize w2.alloc (.cells #[.int .i64 n, .slice (some ⟨g, 0, none⟩) t.length c2] 37) = w3 at *
    generalize w2.heap.size = o at *
    have HP0 : Hid (PutTo n 0 (posF n) t t) := PutTo.start HLn.out
    go_loopw [6] (fun i wr => ∃ (y : Nat) (v : List Int), i = .int .i64 y ∧ y ≤ n ∧ QI w n A c t.length W o g c2 t wr v ∧ Hid (PutTo n (y * n) (posF n) t v)) (fun i _ => n - (intOf i).toNat)
    case atStart => exact ⟨0, t, rfl, Nat.zero_le _, HI0.out, by rw [Nat.zero_mul]; exact HP0⟩
    case round =>
      obtain ⟨y, v, rfl, hy, hq, HP⟩ := hrel
      have HQ := Lib.hid hq
      clear HI0 HP0
      obtain ⟨⟨a0, a1, _, _⟩, _, ⟨r0, r1, s0, s1⟩, ⟨y0, y1, _, _⟩, _, _, z1, z2, z3, z4, z5⟩ := hq
      by_cases hyn : y < n
      · have hyI : (y : Int) < (n : Int) := by omega
        clear r0 r1 s0 s1
        go_wp2
        go_loopw [7] (fun i wr => ∃ (x : Nat) (v : List Int), i = .int .i64 x ∧ x ≤ n ∧ QI w n A c t.length W o g c2 t wr v ∧ Hid (PutTo n (y * n + x) (posF n) t v)) (fun i _ => n - (intOf i).toNat)
        case atStart => exact ⟨0, v, rfl, Nat.zero_le _, HQ.out, by rw [Nat.add_zero]; exact HP⟩
        case round =>
          obtain ⟨x, v, rfl, hx, hq, HP2⟩ := hrel
          have HQ2 := Lib.hid hq
          clear HQ HP a0 a1 y0 y1
          obtain ⟨⟨a0, a1, _, _⟩, hsrc, _, ⟨y0, y1, _, _⟩, hown, _, _, _, _, _, _⟩ := hq
          by_cases hxn : x < n
          · have hxI : (x : Int) < (n : Int) := by omega
            have HST := Lib.hid (fun hp => HP2.out.step hxn hyn hp (posF_inj HN.out hxn hyn))
            obtain ⟨p, q, r, T, S, ⟨eT, eS, hT, hS⟩, m1, m2, m3, m4, m5⟩ := flip_idx HN.out hxn hyn
            have hST : S < t.length := by rw [HLn.out]; exact hS
            have hTT : T < v.length := by rw [HP2.out.1]; exact hT
            obtain ⟨b, off, rfl, hbl, hcs⟩ := hsrc.at_ hST
            obtain ⟨g', eg, _, _, hcg, hfg⟩ := hown.at_ hTT
            cases eg
            have HS := Lib.hid (HQ2.out.drew.store T t[S])
            have HST2 : Hid (PutTo n (y * n + (x + 1)) (posF n) t (v.set T t[S])) := by
              have h1 := HST.out (by show posF n (x, y) < n * n; rw [show posF n (x, y) = T from eT.symm]; exact hT)
              rw [show posF n (x, y) = T from eT.symm, ← eS, show t.getD S 0 = t[S] by simp [List.getD, hST]] at h1
              rw [← Nat.add_assoc, ← eS]
              exact h1
            have hSI : (S : Int) < (t.length : Int) := by omega
            have hTI : (T : Int) < (t.length : Int) := by rw [HLn.out]; omega
            have hS0 : (0 : Int) ≤ (S : Int) := by omega
            have hT0 : (0 : Int) ≤ (T : Int) := by omega
            have hneb : ¬ b = g := by omega
            generalize t[S] = val at *
            clear HST eT eS hT hS hsrc hown HP2
            go_wp2_with fail
            go_region
            go_wp2
            go_roundw
            case rel => exact ⟨x + 1, _, by go_num, by omega, HS.out, HST2⟩
            case measure => simp [intOf]; omega
          · have HR2 := Lib.hid (put_row HP2.out hxn hx)
            clear hsrc hown
            go_wp2
            go_roundw
            case rel => exact ⟨y + 1, v, by go_num, by omega, HQ2.out, HR2⟩
            case measure => simp [intOf]; omega
      · have HV : Hid (v = flipL n t) := put_flipped (put_all HP.out hyn hy)
        obtain rfl := HV.out
        have hfl : (flipL n t).length = t.length := by rw [flipL_len, HLn.out]
        have hown := HQ.out.own
        have hlt := World.ownsRow.lt hown g rfl
        rw [← hfl] at hown
        have hK := mQuarters_any n m W HN.out hm4 (some ⟨g, 0, none⟩) c2 (flipL n t) wr hown (by omega) (fun g' e => by cases e; exact hlt.2) (flipL_len n t)
        rw [hfl, HT2.out] at hK
        have HK := Lib.hid hK
        clear hown hlt hK hfl r0 r1 s0 s1
        go_wp2_with fail
        refine HK.out.mono ?_
        rintro e w5 ⟨A5, c5, rfl, ho5, hb5⟩
        have HO5 := Lib.hid ho5
        have HB5 := Lib.hid (HQ.out.bel.trans (hb5.mono HQ.out.bel.size))
        obtain ⟨r0, r1, s0, s1⟩ := HQ.out.res.below hb5 (by omega)
        clear ho5 hb5
        go_wp2
        refine bodyPost_ret (v := .agg #[.int .i64 n, .slice A5 t.length c5]) (by simp [results, Try.results42, go_sem, r0, r1]) rfl ⟨A5, c5, rfl, ?_, (HB5.out.setCell (by simp) _).setCell (by simp) _⟩
        exact OwnI.lower (base := W) (by omega) (OwnI.set_below (by show w.heap.size + 1 < _; omega) _ (OwnI.set_below (by show w.heap.size + 1 < _; omega) _ HO5.out))
  · have hd : decide ((4 : Int) ≤ (how : Int)) = false := decide_eq_false (by omega)
    have HT2 : Hid (rotsL n m t = turnL n how t) := by
      have := HTI.out
      rw [if_neg h4, ← HM.out] at this
      exact this
    clear h4 HTI
    generalize hw3 : w2.alloc (.cells #[.int .i64 n, .slice (some ⟨g, 0, none⟩) t.length c2] 37) = w3 at HI0
    have hown := HI0.out.own
    have hlt := World.ownsRow.lt hown g rfl
    obtain ⟨_, _, _, ⟨y0, y1, _, _⟩, _, _, z1, z2, z3, z4, z5⟩ := HI0.out
    have HK := Lib.hid (mQuarters_any n m W HN.out hm4 (some ⟨g, 0, none⟩) c2 t w3 hown (by omega) (fun g' e => by cases e; exact hlt.2) HLn.out)
    rw [HT2.out] at HK
    have HW3 := Lib.hid hw3
    clear hown hlt y0 y1 hw3
    go_wp2_with fail
    rw [HW3.out]
    refine HK.out.mono ?_
    rintro e w5 ⟨A5, c5, rfl, ho5, hb5⟩
    have HO5 := Lib.hid ho5
    have HB5 := Lib.hid (HI0.out.bel.trans (hb5.mono HI0.out.bel.size))
    obtain ⟨r0, r1, s0, s1⟩ := HI0.out.res.below hb5 (by omega)
    clear ho5 hb5
    go_wp2
    refine bodyPost_ret (v := .agg #[.int .i64 n, .slice A5 t.length c5]) (by simp [results, Try.results42, go_sem, r0, r1]) rfl ⟨A5, c5, rfl, ?_, (HB5.out.setCell (by simp) _).setCell (by simp) _⟩
    exact OwnI.lower (base := W) (by omega) (OwnI.set_below (by show w.heap.size + 1 < _; omega) _ (OwnI.set_below (by show w.heap.size + 1 < _; omega) _ HO5.out))
end Go.Proofs.Ytoobkajilbmdhaa
