/- FnSeal: for every input the law returns true, and its arguments read as before. No condition beyond the row's own. -/
import Derived.Test.YtdpmneoodolgdaaRows
import Derived.WalkKit
import Derived.ProofKit
import Derived.OpenShut
import Derived.ShutString
import Derived.ChangeOld
import Derived.Below
import Derived.WalkSpells
import Derived.WalkLawsBesides
import Derived.Lib.Hide
import Derived.Test.YtdpmneoodolgdaaDraw3
import Derived.Deep.RegionWith
namespace Go.Proofs.Ytdpmneoodolgdaa.fnSeal
open Go.ChangeShapes Go.WideShapes Go.ChangeAt Go.RowKit
open Go.ChangeMaps (open_string shut_string)
set_option linter.unusedVariables false

theorem own : ownKnob Try.prog.godebug = none := by kernel_rfl
theorem laidOut : laidOutB Try.prog = true := by kernel_rfl

theorem field_code (s : ByteArray) (a c : Int) (w : World) : (Instr.field 27 (.agg #[.string s, .int .i64 a, .int .i64 c]) 2).run Try.prog w = .ok (.int .i64 c) w := by kernel_rfl
theorem crcMore_append (t u : ByteArray) (h : t.size + u.size ≤ 8000) : crcMoreOf (crcMoreOf 0 t) u = crcMoreOf 0 (t ++ u) := by
  have hr := crcOf_range t
  rw [crcMoreOf_in 0 t (by omega) (by omega) (by omega), crcMoreOf_in _ u hr.1 hr.2 (by omega), crcMoreOf_in 0 (t ++ u) (by omega) (by omega) (by simp; omega), crcOf_append]
theorem xor8 (b r : Int) (hb : 0 ≤ b ∧ b ≤ 255) (h0 : 0 ≤ r) (h1 : r < 255) : 0 ≤ bits BinOp.xor IntKind.u8 b (IntKind.u8.wrap (IntKind.i64.wrap (1 + r))) ∧ bits BinOp.xor IntKind.u8 b (IntKind.u8.wrap (IntKind.i64.wrap (1 + r))) < 256 ∧ bits BinOp.xor IntKind.u8 b (IntKind.u8.wrap (IntKind.i64.wrap (1 + r))) ≠ b := by
  have hw := bits_within .xor .u8 b (IntKind.u8.wrap (IntKind.i64.wrap (1 + r)))
  refine ⟨hw.1, by have := hw.2; simp only [show IntKind.u8.max = 255 from rfl] at this; omega, ?_⟩
  obtain ⟨x, rfl⟩ := Int.eq_ofNat_of_zero_le hb.1
  obtain ⟨y, rfl⟩ := Int.eq_ofNat_of_zero_le h0
  have e : IntKind.u8.wrap (IntKind.i64.wrap (1 + (y : Int))) = ((1 + y : Nat) : Int) := by rw [IntKind.wrap_i64, IntKind.wrap_u8]; omega
  rw [e]
  have hx : x ^^^ (1 + y) < 2 ^ 8 := Nat.xor_lt_two_pow (by omega) (by omega)
  have k1 : (BitVec.ofInt 8 (x : Int)).toNat = x := by rw [BitVec.ofInt_natCast, BitVec.toNat_ofNat]; exact Nat.mod_eq_of_lt (by omega)
  have k2 : (BitVec.ofInt 8 ((1 + y : Nat) : Int)).toNat = 1 + y := by rw [BitVec.ofInt_natCast, BitVec.toNat_ofNat]; exact Nat.mod_eq_of_lt (by omega)
  have e2 : bits BinOp.xor IntKind.u8 (x : Int) ((1 + y : Nat) : Int) = ((x ^^^ (1 + y) : Nat) : Int) := by
    show IntKind.u8.wrap ((BitVec.ofInt 8 (x : Int) ^^^ BitVec.ofInt 8 ((1 + y : Nat) : Int)).toNat : Int) = _
    rw [BitVec.toNat_xor, k1, k2, IntKind.wrap_u8]
    omega
  rw [e2]
  intro h
  have h' : x ^^^ (1 + y) = x := by omega
  have := congrArg (fun z => x ^^^ z) h'
  simp only [← Nat.xor_assoc, Nat.xor_self, Nat.zero_xor] at this
  omega
theorem turned_cells (s : ByteArray) (g : Nat) (w : World) (k : Nat) (v : Int) (hc : ∀ j, j < s.size → w.cell? ⟨g, j, none⟩ = some (.int .u8 (byteAt s j))) :
    ∀ j, j < s.size → (w.setCell ⟨g, k, none⟩ (.int .u8 v)).drew.cell? ⟨g, j, none⟩ = some (.int .u8 (((bytesOf s).set k v).getD j 0)) := by
  intro j hj
  show (w.setCell ⟨g, k, none⟩ (.int .u8 v)).cell? ⟨g, j, none⟩ = _
  have hl : j < (bytesOf s).length := by rw [bytesOf_length]; exact hj
  by_cases hjk : j = k
  · subst hjk
    have h := hc j hj
    rw [World.cell?_setCell_same w ⟨g, j, none⟩ _ h]
    rw [List.getD_eq_getElem?_getD, List.getElem?_set_self hl]
    rfl
  · rw [World.cell?_setCell_other w ⟨g, k, none⟩ ⟨g, j, none⟩ _ (by intro e; cases e; exact hjk rfl), hc j hj]
    rw [List.getD_eq_getElem?_getD, List.getElem?_set_ne (by omega), bytesOf_getElem s j hj]
    rfl

theorem four_append_ne (t : ByteArray) (h : t.size ≤ 7996) : (sealOf t).toList.isEmpty = false := by
  have hz := sealOf_size t h
  rw [Lib.toList_data]
  cases hd : (sealOf t).data.toList with
  | nil =>
    have : (sealOf t).size = 0 := by
      have e : (sealOf t).size = (sealOf t).data.toList.length := rfl
      rw [e, hd]; rfl
    omega
  | cons => rfl

set_option maxRecDepth 100000 in
set_option maxHeartbeats 2000000 in
theorem walk (a0 : Option Addr) (len0 cap0 : Nat) (z0 : List Int) (a1 : Option Addr) (len1 cap1 : Nat) (z1 : List Int) (w : World) (w0 : IsRow .u8 w a0 len0 cap0 z0) (w1 : IsRow .u8 w a1 len1 cap1 z1) :
    Calls Try.prog 3 #[.slice a0 len0 cap0, .slice a1 len1 cap1] w fun e w' => e = .returned (.bool true) ∧ Below w.heap.size w w' := by
  have i0 := w0.bytes
  have i1 := w1.bytes
  clear w0 w1
  by_cases h0 : 1048576 < (len0 : Int)
  · clear i0 i1
    go_enter Try.func3, Try.ntmps3
    go_wp2_with fail
    go_ret
    exact ⟨rfl, Below.refl _ _⟩
  by_cases h1 : 1048576 < (len1 : Int)
  · clear i0 i1
    go_enter Try.func3, Try.ntmps3
    go_wp2_with fail
    go_ret
    exact ⟨rfl, Below.refl _ _⟩
  have I0 := Lib.hid i0
  have I1 := Lib.hid i1
  clear i0 i1
  have hd0 : decide (1048576 < (len0 : Int)) = false := by simpa using h0
  have hd1 : decide (1048576 < (len1 : Int)) = false := by simpa using h1
  go_enter Try.func3, Try.ntmps3
  go_wp2_with fail
  refine (drawSeal_any a0 len0 cap0 w (by omega) I0.out).mono ?_
  rintro e w1 ⟨t, rfl, ht, hb1⟩
  go_wp2_with fail
  refine (seal_impl t w1).mono ?_
  rintro e w2 ⟨rfl, hb2⟩
  go_wp2_with fail
  refine (seal_spec t w2).mono ?_
  rintro e w3 ⟨rfl, hb3⟩
  have hb : Below w.heap.size w w3 := hb1.trans ((hb2.mono hb1.size).trans (hb3.mono (Nat.le_trans hb1.size hb2.size)))
  clear hb1 hb2 hb3
  by_cases hsz : t.size ≤ 7996
  · have hne := four_append_ne t hsz
    have hne2 : (!(sealOf t).toList.isEmpty) = true := by rw [hne]; rfl
    have hz := sealOf_size t hsz
    have HZ := Lib.hid hz
    clear hz
    obtain ⟨cap, w4, hcv, hcap, hb4, hs4, hc4, hf4⟩ := conv_bytes (sealOf t) w3
    have hbw4 : Below w.heap.size w w4 := hb.trans (hb4.mono hb.size)
    have J1 : Hid (BytesIn w4 w.heap.size a1 len1) := I1.out.below fun k hk => hbw4.block k hk
    have J1d : Hid (BytesIn w4.drew w.heap.size a1 len1) := J1.out.below fun _ _ => rfl
    have HS4 := Lib.hid hs4
    have HC4 := Lib.hid hc4
    have HF4 := Lib.hid hf4
    clear hs4 hc4 hf4
    go_wp2_with fail
    refine (lwAt_any a1 len1 cap1 0 (sealOf t).size w.heap.size w4 (by omega) J1.out (by omega) (by omega) (by have := HZ.out; omega) (by have := HZ.out; omega)).mono ?_
    rintro e w5 ⟨r, rfl, hr0, hr1, rfl⟩
    obtain ⟨k, rfl⟩ := Int.eq_ofNat_of_zero_le hr0
    have hk : k < (sealOf t).size := by have := hr1 (by have := HZ.out; omega); omega
    have hck := HC4.out k hk
    have hfk := HF4.out k hk
    have HBK : Hid (0 ≤ byteAt (sealOf t) k ∧ byteAt (sealOf t) k ≤ 255) := byteAt_range _ _
    have HBE : Hid ((bytesOf (sealOf t))[k]? = some (byteAt (sealOf t) k)) := bytesOf_getElem _ _ hk
    clear hr0 hr1 hcv
    generalize byteAt (sealOf t) k = b at *
    go_wp2_with fail
    go_region_with (go_at_call 14; refine (lwAt_any a1 len1 cap1 1 255 w.heap.size w4.drew (by omega) J1d.out (by omega) (by omega) (by omega) (by omega)).mono ?_; rintro e w' ⟨r2, rfl, hr20, hr21, rfl⟩)
    all_goals
      have HV := Lib.hid (xor8 b r2 HBK.out hr20 (hr21 (by omega)))
      have hb5 : Below w.heap.size w (w4.setCell ⟨w3.heap.size, k, none⟩ (.int .u8 (bits BinOp.xor IntKind.u8 b (IntKind.u8.wrap (IntKind.i64.wrap (1 + r2)))))).drew := (hbw4.setCell hb.size _).drew
      have HC5 := Lib.hid (turned_cells (sealOf t) w3.heap.size w4 k (bits BinOp.xor IntKind.u8 b (IntKind.u8.wrap (IntKind.i64.wrap (1 + r2)))) HC4.out)
      clear hr20 hr21 hck hfk
      generalize bits BinOp.xor IntKind.u8 b (IntKind.u8.wrap (IntKind.i64.wrap (1 + r2))) = v at *
      have hlt5 : w3.heap.size < (w4.setCell ⟨w3.heap.size, k, none⟩ (.int .u8 v)).drew.heap.size := by have := HS4.out; simp; omega
      generalize (w4.setCell ⟨w3.heap.size, k, none⟩ (.int .u8 v)).drew = w5 at *
      go_wp2_with fail
      refine (unseal_impl (sealOf t) w5 (by unfold maxLen; have := HZ.out; omega)).mono ?_
      rintro e w6 ⟨rfl, hb6⟩
      rw [unseal_seal t hsz]
      unfold textOut
      have hcv6 := run_convert_bytes_arg (P := Try.prog) w6 22 5 Try.underlying22 Try.underlying5 w3.heap.size 0 (sealOf t).size cap ((bytesOf (sealOf t)).set k v) (by rw [List.length_set, bytesOf_length]) (fun j hj => by rw [Nat.zero_add]; exact (hb6.cell (p := ⟨w3.heap.size, j, none⟩) hlt5).trans (HC5.out j hj)) 9 Try.underlying9
      have HT := Lib.hid (unseal_turned t hsz k v (by have := HZ.out; omega) ⟨HV.out.1, HV.out.2.1⟩ (by rw [HBE.out]; exact fun e => HV.out.2.2 (Option.some.inj e).symm))
      have HSS : Hid ((strOfNums ((bytesOf (sealOf t)).set k v)).size ≤ maxLen) := by show _ ≤ maxLen; rw [strOfNums_size, List.length_set, bytesOf_length, HZ.out]; unfold maxLen; omega
      generalize strOfNums ((bytesOf (sealOf t)).set k v) = s' at *
      go_wp2_with fail
      refine (unseal_impl s' w6 HSS.out).mono ?_
      rintro e w7 ⟨rfl, hb7⟩
      rw [HT.out]
      unfold textOut
      have hfld := field_code ⟨#[]⟩ 0 5 w7
      have hbw7 : Below w.heap.size w w7 := (hb5.trans (hb6.mono hb5.size)).trans (hb7.mono (Nat.le_trans hb5.size hb6.size))
      go_wp2_with fail
      refine (drawCrcMore_any a1 len1 cap1 w7 (by omega) ((I1.out.below fun k hk => hbw7.block k hk).mono hbw7.size)).mono ?_
      rintro e w8 ⟨c, u, rfl, hu, hb8⟩
      have hb9 : Below w.heap.size w w8 := hbw7.trans (hb8.mono hbw7.size)
      by_cases htu : (t.size : Int) + (u.size : Int) ≤ 8000
      · have HA := Lib.hid (crcMore_append t u (by omega))
        have HTU := Lib.hid htu
        go_wp2_with fail
        refine (crcMore_implAll c u w8).mono ?_
        rintro e wa ⟨rfl, rfl⟩
        go_wp2_with fail
        refine (crcMore_specAll c u w8).mono ?_
        rintro e wa ⟨rfl, rfl⟩
        go_wp2_with fail
        refine (crc_impl t w8).mono ?_
        rintro e wa ⟨rfl, rfl⟩
        go_wp2_with fail
        refine (crcMore_implAll (crcMoreOf 0 t) u w8).mono ?_
        rintro e wa ⟨rfl, rfl⟩
        go_wp2_with fail
        refine (crc_impl (t ++ u) w8).mono ?_
        rintro e wa ⟨rfl, rfl⟩
        rw [HA.out]
        go_wp2
        go_ret
        exact ⟨rfl, hb9⟩
      · go_wp2_with fail
        go_ret
        exact ⟨rfl, hb9⟩
  · have HE : Hid (sealOf t = ⟨#[]⟩) := if_neg hsz
    rw [HE.out]
    go_wp2_with fail
    refine (drawCrcMore_any a1 len1 cap1 w3 (by omega) ((I1.out.below fun k hk => hb.block k hk).mono hb.size)).mono ?_
    rintro e w8 ⟨c, u, rfl, hu, hb8⟩
    have hb9 : Below w.heap.size w w8 := hb.trans (hb8.mono hb.size)
    by_cases htu : (t.size : Int) + (u.size : Int) ≤ 8000
    · have HA := Lib.hid (crcMore_append t u (by omega))
      have HTU := Lib.hid htu
      go_wp2_with fail
      refine (crcMore_implAll c u w8).mono ?_
      rintro e wa ⟨rfl, rfl⟩
      go_wp2_with fail
      refine (crcMore_specAll c u w8).mono ?_
      rintro e wa ⟨rfl, rfl⟩
      go_wp2_with fail
      refine (crc_impl t w8).mono ?_
      rintro e wa ⟨rfl, rfl⟩
      go_wp2_with fail
      refine (crcMore_implAll (crcMoreOf 0 t) u w8).mono ?_
      rintro e wa ⟨rfl, rfl⟩
      go_wp2_with fail
      refine (crc_impl (t ++ u) w8).mono ?_
      rintro e wa ⟨rfl, rfl⟩
      rw [HA.out]
      go_wp2
      go_ret
      exact ⟨rfl, hb9⟩
    · go_wp2_with fail
      go_ret
      exact ⟨rfl, hb9⟩

set_option maxRecDepth 100000 in
theorem lifted (os : Os) (started : os.Started) (H : Type) (enc : TypeId × Value → H) :
    ReturnsInHanded {} Try.checked os 3 .any (Rows.fnSealSpec.pre6 enc Try.prog Try.f3 Rows.fnSealRow.domain false) (Rows.fnSealSpec.post enc Try.prog Try.f3 false true false false) := by
  refine returnsInHanded_of_change (C := Try.checked) own started (by kernel_rfl) Try.func3
    (ChangeSpec.witness6 (enc := enc) (C := Try.checked) false ⟨#[], #[.slice none 0 0, .slice none 0 0], []⟩ 8 (by kernel_rfl) (by kernel_rfl) (by kernel_rfl) (by kernel_rfl)) ?_
  intro W base args ds gs before hval0 hW hcnd _
  have hval : ∀ (j : Nat) t v, Try.f3.params[j]? = some t → args[j]? = some v → Value.okWide Try.prog W .any base t v := hval0
  have hW' := hW
  obtain ⟨p, q, hA0, hV, rfl, hfz, hnd⟩ := hW
  have hA : DataW.TrodAll enc Try.prog W 0 (fun _ => true) true Try.f3.params.toList args.toList ds p := hA0
  rw [Try.params3] at hA hval
  obtain ⟨v0, vs0, d0, ds0, p0, q0, hargs, rfl, rfl, h0, r0⟩ := trodAll_cons hA
  obtain ⟨v1, vs1, d1, ds1, p1, q1, rfl, rfl, rfl, h1, r1⟩ := trodAll_cons r0
  obtain ⟨rfl, rfl, rfl⟩ := trodAll_nil r1
  obtain rfl : args = #[v0, v1] := by cases args; simp_all
  obtain ⟨rfl, rfl⟩ := trodVars_none hV
  obtain ⟨a0, len0, cap0, rfl⟩ := okWide_slice Try.underlying22 (hval 0 22 v0 rfl rfl)
  have k0 := h0
  have lt0 : ∀ x ∈ p0, x.block < W.heap.size := by obtain ⟨m, hm⟩ := k0; exact DataW.trod_lt m _ _ _ hm
  obtain ⟨z0, w0⟩ : ∃ zs, IsRow .u8 W a0 len0 cap0 zs := by
    obtain ⟨fuel, hf⟩ := h0
    rcases open_ints Try.underlying22 Try.underlying5 (by kernel_rfl) hf with ⟨hcs, _⟩ | ⟨x, l, c, zs, hcs, _, hl, hm, hz, _, hcell, hwz⟩
    · simp [Value.cells] at hcs
      obtain ⟨rfl, rfl, rfl⟩ := hcs
      exact ⟨[], .inl ⟨rfl, rfl, rfl, rfl⟩⟩
    · simp [Value.cells] at hcs
      obtain ⟨rfl, rfl, rfl⟩ := hcs
      exact ⟨zs, .inr ⟨_, rfl, hl, hm, by simpa using hz, hcell, hwz⟩⟩
  obtain ⟨a1, len1, cap1, rfl⟩ := okWide_slice Try.underlying22 (hval 1 22 v1 rfl rfl)
  have k1 := h1
  have lt1 : ∀ x ∈ p1, x.block < W.heap.size := by obtain ⟨m, hm⟩ := k1; exact DataW.trod_lt m _ _ _ hm
  obtain ⟨z1, w1⟩ : ∃ zs, IsRow .u8 W a1 len1 cap1 zs := by
    obtain ⟨fuel, hf⟩ := h1
    rcases open_ints Try.underlying22 Try.underlying5 (by kernel_rfl) hf with ⟨hcs, _⟩ | ⟨x, l, c, zs, hcs, _, hl, hm, hz, _, hcell, hwz⟩
    · simp [Value.cells] at hcs
      obtain ⟨rfl, rfl, rfl⟩ := hcs
      exact ⟨[], .inl ⟨rfl, rfl, rfl, rfl⟩⟩
    · simp [Value.cells] at hcs
      obtain ⟨rfl, rfl, rfl⟩ := hcs
      exact ⟨zs, .inr ⟨_, rfl, hl, hm, by simpa using hz, hcell, hwz⟩⟩
  clear hA0 hval0
  refine (walk a0 len0 cap0 z0 a1 len1 cap1 z1 W w0 w1).mono fun e W' ⟨he, bel⟩ => ?_
  subst he
  exact ⟨_, rfl, _, _, _, [], _, [], hW', trodAll_mk1 (shut_bool Try.underlying4 _), (trodAll_cons_mk (Below.trod laidOut (by kernel_rfl) (of_decide_eq_true (by kernel_rfl)) k0 bel lt0) (trodAll_cons_mk (Below.trod laidOut (by kernel_rfl) (of_decide_eq_true (by kernel_rfl)) k1 bel lt1) trodAll_mk0)), rfl, bel.frame _, fun h => by cases h⟩

theorem over : Rows.fnSealRow.holds Try.pinned (OpenSpec.ofChange Rows.fnSealSpec) :=
  OpenClaim.holds_of_wide 3 Try.f3 rfl rfl rfl rfl rfl rfl rfl ⟨rfl, rfl, rfl, rfl, rfl⟩ rfl rfl rfl rfl rfl (by kernel_rfl) Try.func3 (by kernel_rfl)
    (of_decide_eq_true (by kernel_rfl)) (by unfold Func.isWrapper; first | (rw [if_pos (by decide +kernel)]; kernel_rfl) | (rw [if_neg (by decide +kernel)]; exact ⟨rfl, rfl⟩))
    (fun os started H enc _ => lifted os started H enc)

end Go.Proofs.Ytdpmneoodolgdaa.fnSeal
namespace Go.Proofs.Ytdpmneoodolgdaa
/-- The statement. -/
theorem fnSeal_holds : Rows.FnSealSaid := fnSeal.over
end Go.Proofs.Ytdpmneoodolgdaa
