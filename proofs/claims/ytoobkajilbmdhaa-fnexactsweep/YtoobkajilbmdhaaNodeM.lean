/- The model's pools: what a node may be. -/
import Derived.Test.YtoobkajilbmdhaaNodes
namespace Go.Proofs.Ytoobkajilbmdhaa
open Go.RowKit

def leafOk (x : Nd) : Bool := tileOk x.tile && x.a == 0 && x.b == 0 && x.c == 0 && x.d == 0
def splitIn (i : Nat) (x : Nd) : Bool := x.tile == -1 && inIs x.a 0 ((i : Int) - 1) && inIs x.b 0 ((i : Int) - 1) && inIs x.c 0 ((i : Int) - 1) && inIs x.d 0 ((i : Int) - 1)
def unlike (l : List Nd) (x : Nd) : Bool := x.a != x.b || x.b != x.c || x.c != x.d || !leafN (l.getD x.a.toNat ⟨0, 0, 0, 0, 0⟩)
/-- A node that may stand at place i of the pool l. -/
def nodeOk (l : List Nd) (i : Nat) (x : Nd) : Bool := if leafN x then leafOk x else splitIn i x && unlike l x

set_option maxRecDepth 100000 in
set_option maxHeartbeats 1000000 in
theorem mNode_any (A : Option Addr) (c : Nat) (l : List Nd) (i : Nat) (w : World) (h : RN w w.heap.size A l) (hl : l.length ≤ 1000000) (hi : i < l.length) :
    Calls Try.prog 51 #[.agg #[.slice A l.length c], .int .i64 i] w fun e w' => e = .returned (.bool (nodeOk l i l[i])) ∧ Below w.heap.size w w' := by
  have H := Lib.hid h
  obtain ⟨b, off, rfl, hbl, hn⟩ := h.at_ hi
  clear h
  generalize hx : l[i] = x at hn
  have HXX := Lib.hid hx
  have hLf := mLeaf_any x
  obtain ⟨t, xa, xb, xc, xd⟩ := x
  obtain ⟨d0, d1, d2, d3, d4⟩ := hn
  unfold Nd.val at hLf
  simp only at d0 d1 d2 d3 d4
  have hbw : Below w.heap.size w ((w.alloc (.cells #[.slice (some ⟨b, off, none⟩) l.length c] 29)).alloc (.cells #[.int .i64 t, .int .i64 xa, .int .i64 xb, .int .i64 xc, .int .i64 xd] 73)) := ((Below.refl _ _).alloc (Nat.le_refl _) _).alloc (by simp) _
  have hp0 : ((w.alloc (.cells #[.slice (some ⟨b, off, none⟩) l.length c] 29)).alloc (.cells #[.int .i64 t, .int .i64 xa, .int .i64 xb, .int .i64 xc, .int .i64 xd] 73)).cell? ⟨w.heap.size, 0, none⟩ = some (.slice (some ⟨b, off, none⟩) l.length c) := by simp [go_sem]
  have hx0 : NdAt ((w.alloc (.cells #[.slice (some ⟨b, off, none⟩) l.length c] 29)).alloc (.cells #[.int .i64 t, .int .i64 xa, .int .i64 xb, .int .i64 xc, .int .i64 xd] 73)) (w.heap.size + 1) 0 ⟨t, xa, xb, xc, xd⟩ := ⟨by simp [go_sem], by simp [go_sem], by simp [go_sem], by simp [go_sem], by simp [go_sem]⟩
  have HB := Lib.hid hbw
  have HP := Lib.hid hp0
  have HX := Lib.hid hx0
  have HZ : Hid (((w.alloc (.cells #[.slice (some ⟨b, off, none⟩) l.length c] 29)).alloc (.cells #[.int .i64 t, .int .i64 xa, .int .i64 xb, .int .i64 xc, .int .i64 xd] 73)).heap.size = w.heap.size + 1 + 1) := by show _ = _; simp
  have ew : IntKind.i64.wrap ((i : Int) - 1) = (i : Int) - 1 := IntWalk.i64_in _ (by omega)
  clear hbw hp0 hx0 hx
  cases hlf : leafN ⟨t, xa, xb, xc, xd⟩
  · rw [hlf] at hLf
    have HLF := Lib.hid hlf
    clear hlf
    cases ht : (t == -1)
    · have hn1 : (t != -1) = true := by rw [bne, ht]; rfl
      have HT := Lib.hid ht
      clear ht
      go_enter Try.func51, Try.ntmps51
      go_wp2_with fail
      refine (hLf _).mono ?_
      rintro e w1 ⟨rfl, hb1⟩
      have HB1 := Lib.hid (HB.out.trans (hb1.mono HB.out.size))
      have hp1 := (hb1.cell (p := ⟨w.heap.size, 0, none⟩) (by rw [HZ.out]; show w.heap.size < _; omega)).trans HP.out
      obtain ⟨e0, e1, e2, e3, e4⟩ := HX.out.keep (hb1.block (w.heap.size + 1) (by rw [HZ.out]; omega))
      simp only [Nat.zero_add] at e0 e1 e2 e3 e4
      clear hb1
      go_wp2
      go_ret
      exact ⟨ret_bool (by simp [nodeOk, splitIn, unlike, HLF.out, HT.out]), HB1.out⟩
    · have hn1 : (t != -1) = false := by rw [bne, ht]; rfl
      have HT := Lib.hid ht
      clear ht
      have hixa := mIs_any xa 0 ((i : Int) - 1)
      cases qxa : inIs xa 0 ((i : Int) - 1)
      · rw [qxa] at hixa
        have HIA := Lib.hid qxa
        clear qxa
        go_enter Try.func51, Try.ntmps51
        go_wp2_with fail
        refine (hLf _).mono ?_
        rintro e w1 ⟨rfl, hb1⟩
        have HB1 := Lib.hid (HB.out.trans (hb1.mono HB.out.size))
        have hp1 := (hb1.cell (p := ⟨w.heap.size, 0, none⟩) (by rw [HZ.out]; show w.heap.size < _; omega)).trans HP.out
        obtain ⟨e0, e1, e2, e3, e4⟩ := HX.out.keep (hb1.block (w.heap.size + 1) (by rw [HZ.out]; omega))
        simp only [Nat.zero_add] at e0 e1 e2 e3 e4
        clear hb1
        go_wp2_with fail
        refine (hixa _).mono ?_
        rintro e w2 ⟨rfl, rfl⟩
        go_wp2
        go_ret
        exact ⟨ret_bool (by simp [nodeOk, splitIn, unlike, HLF.out, HT.out, HIA.out]), HB1.out⟩
      · rw [qxa] at hixa
        have HIA := Lib.hid qxa
        clear qxa
        have hixb := mIs_any xb 0 ((i : Int) - 1)
        cases qxb : inIs xb 0 ((i : Int) - 1)
        · rw [qxb] at hixb
          have HIB := Lib.hid qxb
          clear qxb
          go_enter Try.func51, Try.ntmps51
          go_wp2_with fail
          refine (hLf _).mono ?_
          rintro e w1 ⟨rfl, hb1⟩
          have HB1 := Lib.hid (HB.out.trans (hb1.mono HB.out.size))
          have hp1 := (hb1.cell (p := ⟨w.heap.size, 0, none⟩) (by rw [HZ.out]; show w.heap.size < _; omega)).trans HP.out
          obtain ⟨e0, e1, e2, e3, e4⟩ := HX.out.keep (hb1.block (w.heap.size + 1) (by rw [HZ.out]; omega))
          simp only [Nat.zero_add] at e0 e1 e2 e3 e4
          clear hb1
          go_wp2_with fail
          refine (hixa _).mono ?_
          rintro e w2 ⟨rfl, rfl⟩
          go_wp2_with fail
          refine (hixb _).mono ?_
          rintro e w2 ⟨rfl, rfl⟩
          go_wp2
          go_ret
          exact ⟨ret_bool (by simp [nodeOk, splitIn, unlike, HLF.out, HT.out, HIA.out, HIB.out]), HB1.out⟩
        · rw [qxb] at hixb
          have HIB := Lib.hid qxb
          clear qxb
          have hixc := mIs_any xc 0 ((i : Int) - 1)
          cases qxc : inIs xc 0 ((i : Int) - 1)
          · rw [qxc] at hixc
            have HIC := Lib.hid qxc
            clear qxc
            go_enter Try.func51, Try.ntmps51
            go_wp2_with fail
            refine (hLf _).mono ?_
            rintro e w1 ⟨rfl, hb1⟩
            have HB1 := Lib.hid (HB.out.trans (hb1.mono HB.out.size))
            have hp1 := (hb1.cell (p := ⟨w.heap.size, 0, none⟩) (by rw [HZ.out]; show w.heap.size < _; omega)).trans HP.out
            obtain ⟨e0, e1, e2, e3, e4⟩ := HX.out.keep (hb1.block (w.heap.size + 1) (by rw [HZ.out]; omega))
            simp only [Nat.zero_add] at e0 e1 e2 e3 e4
            clear hb1
            go_wp2_with fail
            refine (hixa _).mono ?_
            rintro e w2 ⟨rfl, rfl⟩
            go_wp2_with fail
            refine (hixb _).mono ?_
            rintro e w2 ⟨rfl, rfl⟩
            go_wp2_with fail
            refine (hixc _).mono ?_
            rintro e w2 ⟨rfl, rfl⟩
            go_wp2
            go_ret
            exact ⟨ret_bool (by simp [nodeOk, splitIn, unlike, HLF.out, HT.out, HIA.out, HIB.out, HIC.out]), HB1.out⟩
          · rw [qxc] at hixc
            have HIC := Lib.hid qxc
            clear qxc
            have hixd := mIs_any xd 0 ((i : Int) - 1)
            cases qxd : inIs xd 0 ((i : Int) - 1)
            · rw [qxd] at hixd
              have HID := Lib.hid qxd
              clear qxd
              go_enter Try.func51, Try.ntmps51
              go_wp2_with fail
              refine (hLf _).mono ?_
              rintro e w1 ⟨rfl, hb1⟩
              have HB1 := Lib.hid (HB.out.trans (hb1.mono HB.out.size))
              have hp1 := (hb1.cell (p := ⟨w.heap.size, 0, none⟩) (by rw [HZ.out]; show w.heap.size < _; omega)).trans HP.out
              obtain ⟨e0, e1, e2, e3, e4⟩ := HX.out.keep (hb1.block (w.heap.size + 1) (by rw [HZ.out]; omega))
              simp only [Nat.zero_add] at e0 e1 e2 e3 e4
              clear hb1
              go_wp2_with fail
              refine (hixa _).mono ?_
              rintro e w2 ⟨rfl, rfl⟩
              go_wp2_with fail
              refine (hixb _).mono ?_
              rintro e w2 ⟨rfl, rfl⟩
              go_wp2_with fail
              refine (hixc _).mono ?_
              rintro e w2 ⟨rfl, rfl⟩
              go_wp2_with fail
              refine (hixd _).mono ?_
              rintro e w2 ⟨rfl, rfl⟩
              go_wp2
              go_ret
              exact ⟨ret_bool (by simp [nodeOk, splitIn, unlike, HLF.out, HT.out, HIA.out, HIB.out, HIC.out, HID.out]), HB1.out⟩
            · rw [qxd] at hixd
              have HID := Lib.hid qxd
              clear qxd
              cases qxaxb : (xa != xb)
              rotate_left
              · have HAB := Lib.hid qxaxb
                go_enter Try.func51, Try.ntmps51
                go_wp2_with fail
                refine (hLf _).mono ?_
                rintro e w1 ⟨rfl, hb1⟩
                have HB1 := Lib.hid (HB.out.trans (hb1.mono HB.out.size))
                have hp1 := (hb1.cell (p := ⟨w.heap.size, 0, none⟩) (by rw [HZ.out]; show w.heap.size < _; omega)).trans HP.out
                obtain ⟨e0, e1, e2, e3, e4⟩ := HX.out.keep (hb1.block (w.heap.size + 1) (by rw [HZ.out]; omega))
                simp only [Nat.zero_add] at e0 e1 e2 e3 e4
                clear hb1
                go_wp2_with fail
                refine (hixa _).mono ?_
                rintro e w2 ⟨rfl, rfl⟩
                go_wp2_with fail
                refine (hixb _).mono ?_
                rintro e w2 ⟨rfl, rfl⟩
                go_wp2_with fail
                refine (hixc _).mono ?_
                rintro e w2 ⟨rfl, rfl⟩
                go_wp2_with fail
                refine (hixd _).mono ?_
                rintro e w2 ⟨rfl, rfl⟩
                go_wp2
                go_ret
                exact ⟨ret_bool (by simp [nodeOk, splitIn, unlike, HLF.out, HT.out, HIA.out, HIB.out, HIC.out, HID.out, HAB.out]), HB1.out⟩
              · have HAB := Lib.hid qxaxb
                cases qxbxc : (xb != xc)
                rotate_left
                · have HBC := Lib.hid qxbxc
                  go_enter Try.func51, Try.ntmps51
                  go_wp2_with fail
                  refine (hLf _).mono ?_
                  rintro e w1 ⟨rfl, hb1⟩
                  have HB1 := Lib.hid (HB.out.trans (hb1.mono HB.out.size))
                  have hp1 := (hb1.cell (p := ⟨w.heap.size, 0, none⟩) (by rw [HZ.out]; show w.heap.size < _; omega)).trans HP.out
                  obtain ⟨e0, e1, e2, e3, e4⟩ := HX.out.keep (hb1.block (w.heap.size + 1) (by rw [HZ.out]; omega))
                  simp only [Nat.zero_add] at e0 e1 e2 e3 e4
                  clear hb1
                  go_wp2_with fail
                  refine (hixa _).mono ?_
                  rintro e w2 ⟨rfl, rfl⟩
                  go_wp2_with fail
                  refine (hixb _).mono ?_
                  rintro e w2 ⟨rfl, rfl⟩
                  go_wp2_with fail
                  refine (hixc _).mono ?_
                  rintro e w2 ⟨rfl, rfl⟩
                  go_wp2_with fail
                  refine (hixd _).mono ?_
                  rintro e w2 ⟨rfl, rfl⟩
                  go_wp2
                  go_ret
                  exact ⟨ret_bool (by simp [nodeOk, splitIn, unlike, HLF.out, HT.out, HIA.out, HIB.out, HIC.out, HID.out, HAB.out, HBC.out]), HB1.out⟩
                · have HBC := Lib.hid qxbxc
                  cases qxcxd : (xc != xd)
                  rotate_left
                  · have HCD := Lib.hid qxcxd
                    go_enter Try.func51, Try.ntmps51
                    go_wp2_with fail
                    refine (hLf _).mono ?_
                    rintro e w1 ⟨rfl, hb1⟩
                    have HB1 := Lib.hid (HB.out.trans (hb1.mono HB.out.size))
                    have hp1 := (hb1.cell (p := ⟨w.heap.size, 0, none⟩) (by rw [HZ.out]; show w.heap.size < _; omega)).trans HP.out
                    obtain ⟨e0, e1, e2, e3, e4⟩ := HX.out.keep (hb1.block (w.heap.size + 1) (by rw [HZ.out]; omega))
                    simp only [Nat.zero_add] at e0 e1 e2 e3 e4
                    clear hb1
                    go_wp2_with fail
                    refine (hixa _).mono ?_
                    rintro e w2 ⟨rfl, rfl⟩
                    go_wp2_with fail
                    refine (hixb _).mono ?_
                    rintro e w2 ⟨rfl, rfl⟩
                    go_wp2_with fail
                    refine (hixc _).mono ?_
                    rintro e w2 ⟨rfl, rfl⟩
                    go_wp2_with fail
                    refine (hixd _).mono ?_
                    rintro e w2 ⟨rfl, rfl⟩
                    go_wp2
                    go_ret
                    exact ⟨ret_bool (by simp [nodeOk, splitIn, unlike, HLF.out, HT.out, HIA.out, HIB.out, HIC.out, HID.out, HAB.out, HBC.out, HCD.out]), HB1.out⟩
                  · have HCD := Lib.hid qxcxd
                    obtain ⟨h1, h2⟩ : 0 ≤ xa ∧ xa ≤ (i : Int) - 1 := by simpa [inIs] using HIA.out
                    obtain ⟨ka, rfl⟩ := Int.eq_ofNat_of_zero_le h1
                    have hka : ka < l.length := by omega
                    obtain ⟨b', off', he, hbl', hna⟩ := H.out.at_ hka
                    simp only [Option.some.injEq, Addr.mk.injEq, and_true] at he
                    obtain ⟨rfl, rfl⟩ := he
                    have hgd : l.getD ka ⟨0, 0, 0, 0, 0⟩ = l[ka] := by simp [List.getD, hka]
                    have HGD := Lib.hid hgd
                    clear hgd
                    generalize l[ka] = z at hna HGD
                    have hLz := mLeaf_any z
                    obtain ⟨zt, za, zb, zc, zd⟩ := z
                    obtain ⟨f0, f1, f2, f3, f4⟩ := hna
                    unfold Nd.val at hLz
                    simp only at f0 f1 f2 f3 f4
                    cases hlz : leafN ⟨zt, za, zb, zc, zd⟩
                    all_goals
                      rw [hlz] at hLz
                      have HLZ := Lib.hid hlz
                      clear hlz
                      go_enter Try.func51, Try.ntmps51
                      go_wp2_with fail
                      refine (hLf _).mono ?_
                      rintro e w1 ⟨rfl, hb1⟩
                      have HB1 := Lib.hid (HB.out.trans (hb1.mono HB.out.size))
                      have hp1 := (hb1.cell (p := ⟨w.heap.size, 0, none⟩) (by rw [HZ.out]; show w.heap.size < _; omega)).trans HP.out
                      obtain ⟨e0, e1, e2, e3, e4⟩ := HX.out.keep (hb1.block (w.heap.size + 1) (by rw [HZ.out]; omega))
                      simp only [Nat.zero_add] at e0 e1 e2 e3 e4
                      clear hb1
                      have g0 := (HB1.out.cell (p := ⟨b, off + ka * 5, none⟩) hbl).trans f0
                      have g1 := (HB1.out.cell (p := ⟨b, off + ka * 5 + 1, none⟩) hbl).trans f1
                      have g2 := (HB1.out.cell (p := ⟨b, off + ka * 5 + 2, none⟩) hbl).trans f2
                      have g3 := (HB1.out.cell (p := ⟨b, off + ka * 5 + 3, none⟩) hbl).trans f3
                      have g4 := (HB1.out.cell (p := ⟨b, off + ka * 5 + 4, none⟩) hbl).trans f4
                      clear f0 f1 f2 f3 f4
                      go_wp2_with fail
                      refine (hixa _).mono ?_
                      rintro e w2 ⟨rfl, rfl⟩
                      go_wp2_with fail
                      refine (hixb _).mono ?_
                      rintro e w2 ⟨rfl, rfl⟩
                      go_wp2_with fail
                      refine (hixc _).mono ?_
                      rintro e w2 ⟨rfl, rfl⟩
                      go_wp2_with fail
                      refine (hixd _).mono ?_
                      rintro e w2 ⟨rfl, rfl⟩
                      go_wp2_with fail
                      refine (hLz _).mono ?_
                      rintro e w3 ⟨rfl, hb3⟩
                      have HB3 := Lib.hid (HB1.out.trans (hb3.mono HB1.out.size))
                      clear hb3
                      go_wp2
                      go_ret
                      exact ⟨ret_bool (by rw [nodeOk, HLF.out, splitIn, unlike]; simp only [Int.toNat_natCast, HGD.out, HLZ.out, HT.out, HIA.out, HIB.out, HIC.out, HID.out, HAB.out, HBC.out, HCD.out]; rfl), HB3.out⟩
  · rw [hlf] at hLf
    have HLF := Lib.hid hlf
    clear hlf
    have hT := mTile_any t
    cases qt : tileOk t
    · rw [qt] at hT
      have HT := Lib.hid qt
      clear qt
      go_enter Try.func51, Try.ntmps51
      go_wp2_with fail
      refine (hLf _).mono ?_
      rintro e w1 ⟨rfl, hb1⟩
      have HB1 := Lib.hid (HB.out.trans (hb1.mono HB.out.size))
      have hp1 := (hb1.cell (p := ⟨w.heap.size, 0, none⟩) (by rw [HZ.out]; show w.heap.size < _; omega)).trans HP.out
      obtain ⟨e0, e1, e2, e3, e4⟩ := HX.out.keep (hb1.block (w.heap.size + 1) (by rw [HZ.out]; omega))
      simp only [Nat.zero_add] at e0 e1 e2 e3 e4
      clear hb1
      go_wp2_with fail
      refine (hT _).mono ?_
      rintro e w2 ⟨rfl, rfl⟩
      go_wp2
      go_ret
      exact ⟨ret_bool (by simp [nodeOk, leafOk, HLF.out, HT.out]), HB1.out⟩
    · rw [qt] at hT
      have HT := Lib.hid qt
      clear qt
      cases zxa : (xa == 0)
      · have HZA := Lib.hid zxa
        go_enter Try.func51, Try.ntmps51
        go_wp2_with fail
        refine (hLf _).mono ?_
        rintro e w1 ⟨rfl, hb1⟩
        have HB1 := Lib.hid (HB.out.trans (hb1.mono HB.out.size))
        have hp1 := (hb1.cell (p := ⟨w.heap.size, 0, none⟩) (by rw [HZ.out]; show w.heap.size < _; omega)).trans HP.out
        obtain ⟨e0, e1, e2, e3, e4⟩ := HX.out.keep (hb1.block (w.heap.size + 1) (by rw [HZ.out]; omega))
        simp only [Nat.zero_add] at e0 e1 e2 e3 e4
        clear hb1
        go_wp2_with fail
        refine (hT _).mono ?_
        rintro e w2 ⟨rfl, rfl⟩
        go_wp2
        go_ret
        exact ⟨ret_bool (by simp [nodeOk, leafOk, HLF.out, HT.out, HZA.out]), HB1.out⟩
      · have HZA := Lib.hid zxa
        cases zxb : (xb == 0)
        · have HZB := Lib.hid zxb
          go_enter Try.func51, Try.ntmps51
          go_wp2_with fail
          refine (hLf _).mono ?_
          rintro e w1 ⟨rfl, hb1⟩
          have HB1 := Lib.hid (HB.out.trans (hb1.mono HB.out.size))
          have hp1 := (hb1.cell (p := ⟨w.heap.size, 0, none⟩) (by rw [HZ.out]; show w.heap.size < _; omega)).trans HP.out
          obtain ⟨e0, e1, e2, e3, e4⟩ := HX.out.keep (hb1.block (w.heap.size + 1) (by rw [HZ.out]; omega))
          simp only [Nat.zero_add] at e0 e1 e2 e3 e4
          clear hb1
          go_wp2_with fail
          refine (hT _).mono ?_
          rintro e w2 ⟨rfl, rfl⟩
          go_wp2
          go_ret
          exact ⟨ret_bool (by simp [nodeOk, leafOk, HLF.out, HT.out, HZA.out, HZB.out]), HB1.out⟩
        · have HZB := Lib.hid zxb
          cases zxc : (xc == 0)
          · have HZC := Lib.hid zxc
            go_enter Try.func51, Try.ntmps51
            go_wp2_with fail
            refine (hLf _).mono ?_
            rintro e w1 ⟨rfl, hb1⟩
            have HB1 := Lib.hid (HB.out.trans (hb1.mono HB.out.size))
            have hp1 := (hb1.cell (p := ⟨w.heap.size, 0, none⟩) (by rw [HZ.out]; show w.heap.size < _; omega)).trans HP.out
            obtain ⟨e0, e1, e2, e3, e4⟩ := HX.out.keep (hb1.block (w.heap.size + 1) (by rw [HZ.out]; omega))
            simp only [Nat.zero_add] at e0 e1 e2 e3 e4
            clear hb1
            go_wp2_with fail
            refine (hT _).mono ?_
            rintro e w2 ⟨rfl, rfl⟩
            go_wp2
            go_ret
            exact ⟨ret_bool (by simp [nodeOk, leafOk, HLF.out, HT.out, HZA.out, HZB.out, HZC.out]), HB1.out⟩
          · have HZC := Lib.hid zxc
            cases zxd : (xd == 0)
            · have HZD := Lib.hid zxd
              go_enter Try.func51, Try.ntmps51
              go_wp2_with fail
              refine (hLf _).mono ?_
              rintro e w1 ⟨rfl, hb1⟩
              have HB1 := Lib.hid (HB.out.trans (hb1.mono HB.out.size))
              have hp1 := (hb1.cell (p := ⟨w.heap.size, 0, none⟩) (by rw [HZ.out]; show w.heap.size < _; omega)).trans HP.out
              obtain ⟨e0, e1, e2, e3, e4⟩ := HX.out.keep (hb1.block (w.heap.size + 1) (by rw [HZ.out]; omega))
              simp only [Nat.zero_add] at e0 e1 e2 e3 e4
              clear hb1
              go_wp2_with fail
              refine (hT _).mono ?_
              rintro e w2 ⟨rfl, rfl⟩
              go_wp2
              go_ret
              exact ⟨ret_bool (by simp [nodeOk, leafOk, HLF.out, HT.out, HZA.out, HZB.out, HZC.out, HZD.out]), HB1.out⟩
            · have HZD := Lib.hid zxd
              go_enter Try.func51, Try.ntmps51
              go_wp2_with fail
              refine (hLf _).mono ?_
              rintro e w1 ⟨rfl, hb1⟩
              have HB1 := Lib.hid (HB.out.trans (hb1.mono HB.out.size))
              have hp1 := (hb1.cell (p := ⟨w.heap.size, 0, none⟩) (by rw [HZ.out]; show w.heap.size < _; omega)).trans HP.out
              obtain ⟨e0, e1, e2, e3, e4⟩ := HX.out.keep (hb1.block (w.heap.size + 1) (by rw [HZ.out]; omega))
              simp only [Nat.zero_add] at e0 e1 e2 e3 e4
              clear hb1
              go_wp2_with fail
              refine (hT _).mono ?_
              rintro e w2 ⟨rfl, rfl⟩
              go_wp2
              go_ret
              exact ⟨ret_bool (by simp [nodeOk, leafOk, HLF.out, HT.out, HZA.out, HZB.out, HZC.out, HZD.out]), HB1.out⟩
end Go.Proofs.Ytoobkajilbmdhaa
