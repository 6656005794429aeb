/- FnNums: for every input the law returns true, and its arguments read as before; the row lists errors.errorType, and the card ties it to the program's text. No other condition. -/
import Derived.Test.YtdpmneoodolgdaaDoorCards
import Derived.Test.YtdpmneoodolgdaaDoorTie
import Derived.WalkKit
import Derived.ProofKit
import Derived.OpenShut
import Derived.ShutString
import Derived.ChangeOld
import Derived.Below
import Derived.ChangeSame
import Derived.ChangeVars
import Derived.JoinedOf
import Derived.RowKit
import Derived.RowKitTokens
import Derived.LaidLaws
import Derived.LaidHandle
import Derived.Stop.Joined
import Derived.SevenTiedAt
import Derived.Test.YtdpmneoodolgdaaDoorNumM
import Derived.Test.YtdpmneoodolgdaaDoorDraw4
namespace Go.Proofs.YtdpmneoodolgdaaDoor.fnNums
open Go.ChangeShapes Go.WideShapes Go.ChangeAt Go.RowKit
open Go.ChangeMaps (open_string shut_string)
set_option linter.unusedVariables false

theorem own : ownKnob Tryd.prog.godebug = none := by kernel_rfl
theorem laidOut : laidOutB Tryd.prog = true := by kernel_rfl
theorem gErr : Tryd.prog.globalNamed "errors.errorType" = some 0 := by kernel_rfl
theorem rt : (Tryd.prog.cutTypes.find? (·.1 == "internal/reflectlite.rtype")).map (·.2) = some 76 := by kernel_rfl
theorem oneRow : ((List.range 119).filter fun t => Tryd.prog.rowNamed t [101, 114, 114, 111, 114]) = [44] := by kernel_rfl
theorem tsize : Tryd.prog.types.size = 119 := by kernel_rfl
theorem has_of_laid {W : World} (h : laidMetH Tryd.prog Rows.fnNumsRow.laid W) : HasErr W := by
  have h' : laidMet Tryd.prog [] W ∧ handlesMet Tryd.prog Rows.fnNumsRow.laid W := h
  obtain ⟨name, u, ty, e1, e2, e3, e4, e5⟩ := h'.2 _ (List.mem_singleton.2 rfl)
  have en : name = [101, 114, 114, 111, 114] := (Option.some.inj e1).symm
  subst en
  obtain rfl := Option.some.inj (rt.symm.trans e2)
  have hm : ty ∈ (List.range 119).filter fun t => Tryd.prog.rowNamed t [101, 114, 114, 111, 114] := List.mem_filter.2 ⟨List.mem_range.2 (by rw [← tsize]; exact e3), e4⟩
  rw [oneRow] at hm
  obtain rfl := List.mem_singleton.1 hm
  have hh : typeHandle Tryd.prog 44 = .pointer (some ⟨1, 44, none⟩) := by kernel_rfl
  rw [hh] at e5
  simpa [HasErr] using World.var?_cell gErr e5 0

theorem xy_size (p : ByteArray) (h : p.size ≤ 10) : ((⟨#[120, 121]⟩ : ByteArray) ++ p ++ ⟨#[122]⟩).size ≤ maxLen := by
  unfold maxLen
  have e : ((⟨#[120, 121]⟩ : ByteArray) ++ p ++ ⟨#[122]⟩).size = 2 + p.size + 1 := by rw [ByteArray.size_append, ByteArray.size_append]; rfl
  rw [e]; omega
theorem x_size (p : ByteArray) (h : p.size + 1 ≤ 8000) : ((⟨#[120]⟩ : ByteArray) ++ p).size ≤ maxLen := by
  unfold maxLen
  have e : ((⟨#[120]⟩ : ByteArray) ++ p).size = 1 + p.size := by rw [ByteArray.size_append]; rfl
  rw [e]; omega
theorem cut_size (p : ByteArray) (h : p.size ≤ 8010) : (p.extract 0 (p.size - 1)).size ≤ maxLen := by
  unfold maxLen
  rw [ByteArray.size_extract]; omega
theorem text_size (u : ByteArray) (h : u.size ≤ 8000) : 1 ≤ (putTextOf u).size ∧ (putTextOf u).size ≤ 8010 ∧ (putTextOf u).toList.isEmpty = false := by
  have hp : putTextOf u = putNumOf u.size ++ u := if_pos h
  have hl : 1 ≤ (putNumOf u.size).size ∧ (putNumOf u.size).size ≤ 10 := ⟨by rw [putNum_len]; exact numBytes_pos _, putNumOf_size _ (by omega) (by omega)⟩
  have hs : (putTextOf u).size = (putNumOf u.size).size + u.size := by rw [hp]; simp
  refine ⟨by omega, by omega, ?_⟩
  rw [Lib.toList_data]
  cases hd : (putTextOf u).data.toList with
  | nil =>
    have : (putTextOf u).size = 0 := by
      have e : (putTextOf u).size = (putTextOf u).data.toList.length := rfl
      rw [e, hd]; rfl
    omega
  | cons => rfl
theorem field_num (a b c : Int) (w : World) : (Instr.field 26 (.agg #[.int .i64 a, .int .i64 b, .int .i64 c]) 2).run Tryd.prog w = .ok (.int .i64 c) w := by kernel_rfl
theorem field_text (s : ByteArray) (a c : Int) (w : World) : (Instr.field 31 (.agg #[.string s, .int .i64 a, .int .i64 c]) 2).run Tryd.prog w = .ok (.int .i64 c) w := by kernel_rfl
theorem putNum_lens (n : Int) (h0 : -9223372036854775808 ≤ n) (h1 : n ≤ 9223372036854775807) : 1 ≤ (putNumOf n).size ∧ (putNumOf n).size ≤ 10 :=
  ⟨by rw [putNum_len]; exact numBytes_pos _, putNumOf_size n h0 h1⟩
theorem num_back (n : Int) (h0 : -9223372036854775808 ≤ n) (h1 : n ≤ 9223372036854775807) :
    rdOf ((⟨#[120, 121]⟩ : ByteArray) ++ putNumOf n ++ ⟨#[122]⟩) 2 = (n, ((putNumOf n).size : Int) + 2, 0) := by
  have hl := putNum_lens n h0 h1
  have hz : (⟨#[120, 121]⟩ : ByteArray).size = 2 := rfl
  have hz1 : (⟨#[122]⟩ : ByteArray).size = 1 := rfl
  have h := rdOf_put n h0 h1 ⟨#[120, 121]⟩ ⟨#[122]⟩ (by simp [hz, hz1]; omega)
  rw [hz] at h
  have h' : rdOf ((⟨#[120, 121]⟩ : ByteArray) ++ putNumOf n ++ ⟨#[122]⟩) 2 = (n, ((2 + (putNumOf n).size : Nat) : Int), 0) := h
  rw [h']
  congr 2
  omega

set_option maxRecDepth 100000 in
set_option maxHeartbeats 2000000 in
theorem walk (a0 : Option Addr) (len0 cap0 : Nat) (z0 : List Int) (a1 : Option Addr) (len1 cap1 : Nat) (z1 : List Int) (w : World) (w0 : IsRow .u8 w a0 len0 cap0 z0) (w1 : IsRow .u8 w a1 len1 cap1 z1) (hg : HasErr w) :
    Calls Tryd.prog 3 #[.slice a0 len0 cap0, .slice a1 len1 cap1] w fun e w' => e = .returned (.bool true) ∧ Below w.heap.size w w' := by
  have i0 := w0.bytes
  have i1 := w1.bytes
  have HG := Lib.hid hg
  clear w0 w1 hg
  by_cases h0 : 1048576 < (len0 : Int)
  · clear i0 i1
    go_enter Tryd.func3, Tryd.ntmps3
    go_wp2_with fail
    go_ret
    exact ⟨rfl, Below.refl _ _⟩
  by_cases h1 : 1048576 < (len1 : Int)
  · clear i0 i1
    go_enter Tryd.func3, Tryd.ntmps3
    go_wp2_with fail
    go_ret
    exact ⟨rfl, Below.refl _ _⟩
  have I0 := Lib.hid i0
  have I1 := Lib.hid i1
  clear i0 i1
  have hd0 : decide (1048576 < (len0 : Int)) = false := by simpa using h0
  have hd1 : decide (1048576 < (len1 : Int)) = false := by simpa using h1
  go_enter Tryd.func3, Tryd.ntmps3
  go_wp2_with fail
  refine (drawPutNum_any a0 len0 cap0 w (by omega) I0.out).mono ?_
  rintro e w1 ⟨n, rfl, hn, hb1⟩
  have HN := Lib.hid hn
  have HB := Lib.hid (num_back n hn.1 hn.2)
  have HC := Lib.hid (rdOf_cut n hn.1 hn.2)
  have hlen := putNum_lens n hn.1 hn.2
  have hl1 := hlen.1
  have hl2 := hlen.2
  clear hn hlen
  go_wp2_with fail
  refine (putNum_impl n w1 HN.out.1 HN.out.2).mono ?_
  rintro e w2 ⟨rfl, hb2⟩
  go_wp2_with fail
  refine (putNum_spec n w2 HN.out.1 HN.out.2).mono ?_
  rintro e w3 ⟨rfl, hb3⟩
  have hb : Below w.heap.size w w3 := hb1.trans ((hb2.mono hb1.size).trans (hb3.mono (Nat.le_trans hb1.size hb2.size)))
  clear hb1 hb2 hb3
  generalize putNumOf n = p at *
  go_wp2_with fail
  have hcon := getNum_impl ((⟨#[120, 121]⟩ : ByteArray) ++ p ++ ⟨#[122]⟩) 2 w3 (xy_size p hl2) (HG.out.below hb)
  rw [HB.out] at hcon
  unfold numOut at hcon
  refine hcon.mono ?_
  clear hcon
  rintro e w4 ⟨rfl, hb4⟩
  have hbw4 : Below w.heap.size w w4 := hb.trans (hb4.mono hb.size)
  go_wp2_with fail
  have hcon := getNum_impl (p.extract 0 (p.size - 1)) 0 (w4.alloc (.cells #[.int .i64 n, .int .i64 ((p.size : Int) + 2), .int .i64 0] 26)) (cut_size p (by omega)) ((HG.out.below hbw4).alloc _)
  rw [HC.out] at hcon
  unfold numOut at hcon
  refine hcon.mono ?_
  clear hcon
  rintro e w5 ⟨rfl, hb5⟩
  have hfld := field_num 0 0 4 w5
  have hbw5 : Below w.heap.size w w5 := (hbw4.alloc hbw4.size _).trans (hb5.mono (by have := hbw4.size; simp; omega))
  clear hb4 hb5 hbw4 hb
  go_wp2_with fail
  refine (drawPutText_any a1 len1 cap1 w5 (by omega) ((I1.out.below fun k hk => hbw5.block k hk).mono hbw5.size)).mono ?_
  rintro e w6 ⟨u, rfl, hu, hb6⟩
  clear hfld
  go_wp2_with fail
  refine (putText_impl u w6).mono ?_
  rintro e w7 ⟨rfl, hb7⟩
  go_wp2_with fail
  refine (putText_spec u w7).mono ?_
  rintro e w8 ⟨rfl, hb8⟩
  have hbw8 : Below w.heap.size w w8 := ((hbw5.trans (hb6.mono hbw5.size)).trans (hb7.mono (Nat.le_trans hbw5.size hb6.size))).trans (hb8.mono (Nat.le_trans hbw5.size (Nat.le_trans hb6.size hb7.size)))
  clear hb6 hb7 hb8 hbw5
  by_cases hsz : u.size ≤ 8000
  · have hts := text_size u hsz
    have hts1 := hts.1
    have hts2 := hts.2.1
    have hne : (putTextOf u).toList.isEmpty = false := hts.2.2
    clear hts
    by_cases hfit : (putTextOf u).size + 1 ≤ 8000
    · have HP := Lib.hid (gt_put u hsz hfit)
      have HQ := Lib.hid (gt_cut u hsz hfit)
      generalize putTextOf u = q at *
      go_wp2_with fail
      have hcon := getText_impl ((⟨#[120]⟩ : ByteArray) ++ q) 1 w8 (x_size q hfit) (HG.out.below hbw8)
      rw [HP.out] at hcon
      unfold textOut at hcon
      refine hcon.mono ?_
      clear hcon
      rintro e w9 ⟨rfl, hb9⟩
      have hbw9 : Below w.heap.size w w9 := hbw8.trans (hb9.mono hbw8.size)
      go_wp2_with fail
      have hcon := getText_impl (q.extract 0 (q.size - 1)) 0 w9 (cut_size q (by omega)) (HG.out.below hbw9)
      rw [HQ.out] at hcon
      unfold textOut at hcon
      refine hcon.mono ?_
      clear hcon
      rintro e wa ⟨rfl, hba⟩
      have hfld := field_text ⟨#[]⟩ 0 4 wa
      go_wp2
      go_ret
      exact ⟨rfl, hbw9.trans (hba.mono hbw9.size)⟩
    · generalize putTextOf u = q at *
      go_wp2_with fail
      go_ret
      exact ⟨rfl, hbw8⟩
  · have HE : Hid (putTextOf u = ⟨#[]⟩) := if_neg hsz
    rw [HE.out]
    go_wp2_with fail
    refine (putText_spec u w8).mono ?_
    rintro e w9 ⟨rfl, hb9⟩
    rw [HE.out]
    go_wp2
    go_ret
    exact ⟨rfl, hbw8.trans (hb9.mono hbw8.size)⟩

noncomputable def laidWorld (os : Os) : World :=
  let w0 := World.holding Tryd.prog os ⟨#[], #[], []⟩
  { w0 with heap := w0.heap.modify 0 fun
      | .cells _ t frozen => .cells #[.iface 76 (.agg #[.pointer (some ⟨1, 44, none⟩)])] t frozen
      | o => o }
theorem laidWorld_met (os : Os) (args : Array Value) : laidMetH Tryd.prog Rows.fnNumsRow.laid ((laidWorld os).forCall (fun _ _ => 0) ⟨#[], args, []⟩).memory :=
  laidMetH_of_parts (laidMet_nil _ _) (by kernel_rfl)

set_option maxRecDepth 100000 in
theorem lifted (os : Os) (started : os.Started) (H : Type) (enc : TypeId × Value → H) :
    ReturnsInHanded {} Tryd.checked os 3 .any (fun w args => (Rows.fnNumsSpec.pre enc Tryd.prog Tryd.f3 [] false w args ∧ laidMetH Tryd.prog Rows.fnNumsRow.laid w) ∧ sizedMet enc Tryd.prog Tryd.f3 (OpenSpec.ofChange Rows.fnNumsSpec) false w args)
      (Rows.fnNumsSpec.post enc Tryd.prog Tryd.f3 false true false false) := by
  refine returnsInHanded_of_change_and (C := Tryd.checked) (X := fun w _ => laidMetH Tryd.prog Rows.fnNumsRow.laid w) (fun _ _ _ hh h => h.of_heap hh) own started (by kernel_rfl) Tryd.func3
    (ChangeSpec.witness_at (enc := enc) (C := Tryd.checked) (os := os) (X := fun w _ => laidMetH Tryd.prog Rows.fnNumsRow.laid w) false (laidWorld os) #[.slice none 0 0, .slice none 0 0] 8 rfl (by kernel_rfl) (by kernel_rfl) (by kernel_rfl) (by kernel_rfl) (by kernel_rfl) (laidWorld_met os _)) ?_
  intro W base args ds gs before hval0 hW _ _ hL _
  have hval : ∀ (j : Nat) t v, Tryd.f3.params[j]? = some t → args[j]? = some v → Value.okWide Tryd.prog W .any base t v := hval0
  have hW' := hW
  obtain ⟨p, q, hA0, hV, rfl, hfz, hnd⟩ := hW
  have hA : DataW.TrodAll enc Tryd.prog W 0 (fun _ => true) true Tryd.f3.params.toList args.toList ds p := hA0
  rw [Tryd.params3] at hA hval
  obtain ⟨v0, vs0, d0, ds0, p0, q0, hargs, rfl, rfl, h0, r0⟩ := trodAll_cons hA
  obtain ⟨v1, vs1, d1, ds1, p1, q1, rfl, rfl, rfl, h1, r1⟩ := trodAll_cons r0
  obtain ⟨rfl, rfl, rfl⟩ := trodAll_nil r1
  obtain rfl : args = #[v0, v1] := by cases args; simp_all
  obtain ⟨rfl, rfl⟩ := trodVars_none hV
  obtain ⟨a0, len0, cap0, rfl⟩ := okWide_slice Tryd.underlying22 (hval 0 22 v0 rfl rfl)
  have k0 := h0
  have lt0 : ∀ x ∈ p0, x.block < W.heap.size := by obtain ⟨m, hm⟩ := k0; exact DataW.trod_lt m _ _ _ hm
  obtain ⟨z0, w0⟩ : ∃ zs, IsRow .u8 W a0 len0 cap0 zs := by
    obtain ⟨fuel, hf⟩ := h0
    rcases open_ints Tryd.underlying22 Tryd.underlying5 (by kernel_rfl) hf with ⟨hcs, _⟩ | ⟨x, l, c, zs, hcs, _, hl, hm, hz, _, hcell, hwz⟩
    · simp [Value.cells] at hcs
      obtain ⟨rfl, rfl, rfl⟩ := hcs
      exact ⟨[], .inl ⟨rfl, rfl, rfl, rfl⟩⟩
    · simp [Value.cells] at hcs
      obtain ⟨rfl, rfl, rfl⟩ := hcs
      exact ⟨zs, .inr ⟨_, rfl, hl, hm, by simpa using hz, hcell, hwz⟩⟩
  obtain ⟨a1, len1, cap1, rfl⟩ := okWide_slice Tryd.underlying22 (hval 1 22 v1 rfl rfl)
  have k1 := h1
  have lt1 : ∀ x ∈ p1, x.block < W.heap.size := by obtain ⟨m, hm⟩ := k1; exact DataW.trod_lt m _ _ _ hm
  obtain ⟨z1, w1⟩ : ∃ zs, IsRow .u8 W a1 len1 cap1 zs := by
    obtain ⟨fuel, hf⟩ := h1
    rcases open_ints Tryd.underlying22 Tryd.underlying5 (by kernel_rfl) hf with ⟨hcs, _⟩ | ⟨x, l, c, zs, hcs, _, hl, hm, hz, _, hcell, hwz⟩
    · simp [Value.cells] at hcs
      obtain ⟨rfl, rfl, rfl⟩ := hcs
      exact ⟨[], .inl ⟨rfl, rfl, rfl, rfl⟩⟩
    · simp [Value.cells] at hcs
      obtain ⟨rfl, rfl, rfl⟩ := hcs
      exact ⟨zs, .inr ⟨_, rfl, hl, hm, by simpa using hz, hcell, hwz⟩⟩
  refine (walk a0 len0 cap0 z0 a1 len1 cap1 z1 W w0 w1 (has_of_laid hL)).mono fun e W' ⟨he, bel⟩ => ?_
  subst he
  exact ⟨_, rfl, _, _, _, [], _, [], hW', trodAll_mk1 (shut_bool Tryd.underlying4 _), (trodAll_cons_mk (Below.trod laidOut (by kernel_rfl) (of_decide_eq_true (by kernel_rfl)) k0 bel lt0) (trodAll_cons_mk (Below.trod laidOut (by kernel_rfl) (of_decide_eq_true (by kernel_rfl)) k1 bel lt1) trodAll_mk0)), rfl, bel.frame _, fun h => by cases h⟩

theorem over : Rows.FnNumsSaid :=
  OpenClaim.holds_of_wide 3 Tryd.f3 rfl rfl rfl rfl rfl rfl rfl ⟨rfl, rfl, rfl, rfl, rfl⟩ rfl rfl rfl rfl rfl (by kernel_rfl) Tryd.func3 (by kernel_rfl)
    (of_decide_eq_true (by kernel_rfl)) (by unfold Func.isWrapper; rw [if_neg (of_decide_eq_false (by kernel_rfl))]; exact ⟨rfl, rfl⟩)
    (fun os started H enc _ => lifted os started H enc)

theorem plain (f : FuncId) (fn : Func) (hf : Tryd.pinned.checked.prog.funcNamed "loop.example/g00635/laws.FnNums" = some f) (hfn : Tryd.pinned.checked.prog.funcs[f]? = some fn) :
    true = Tryd.pinned.checked.prog.looks [] ∧ ∀ (j : Nat) t, fn.params[j]? = some t → Tryd.pinned.checked.prog.wantsStandIn t = false := by
  obtain rfl : f = 3 := Option.some.inj ((show Tryd.prog.funcNamed "loop.example/g00635/laws.FnNums" = some 3 by kernel_rfl).symm.trans hf) |>.symm
  obtain rfl : fn = Tryd.f3 := (Option.some.inj (Tryd.func3.symm.trans hfn)).symm
  refine ⟨by kernel_rfl, fun j t ht => ?_⟩
  rw [Tryd.params3] at ht
  have hm := Array.mem_of_getElem? ht
  simp only [List.mem_toArray, List.mem_cons, List.not_mem_nil, or_false] at hm
  rcases hm with rfl | rfl
  · exact (show Tryd.prog.wantsStandIn 22 = false by kernel_rfl)
  · exact (show Tryd.prog.wantsStandIn 22 = false by kernel_rfl)

end Go.Proofs.YtdpmneoodolgdaaDoor.fnNums
namespace Go.Proofs.YtdpmneoodolgdaaDoor
/-- The card. -/
theorem fnNums_holds : Rows.FnNumsCardSaid :=
  Claim7.holds_tied_plain_at .later [] _ _ _ _ fnNums.over (fun _ h => by cases h) (by kernel_rfl) (fun _ h => by cases h) fnNums_row_tie rfl ⟨rfl, rfl⟩ (by kernel_rfl) rfl fnNums.plain (by kernel_rfl)
end Go.Proofs.YtdpmneoodolgdaaDoor
