/-
  Of every list of steps: the program tells the code's text as the specification does, and writes into nothing that was there; the tables of strconv and math/bits are as the program's text lays them (the tied card).
-/
import Derived.Test.YtpgnoikfpogmlaaDoorCards
import Derived.Test.YtpgnoikfpogmlaaDoorTie
import Derived.Test.YtpgnoikfpogmlaaDoorShelf
import Derived.Test.YtpgnoikfpogmlaaDoorInts
import Derived.Test.YtpgnoikfpogmlaaDoorOpenFlat
import Derived.Test.YtpgnoikfpogmlaaDoorRecsInstr
import Derived.Test.YtpgnoikfpogmlaaDoorCodeGood
import Derived.Test.YtpgnoikfpogmlaaDoorStepsOf
import Derived.Test.YtpgnoikfpogmlaaDoorTextSpec
import Derived.Test.YtpgnoikfpogmlaaDoorTextStep
import Derived.Test.YtpgnoikfpogmlaaDoorTextCode
import Derived.Test.YtpgnoikfpogmlaaDoorTextImpl
import Derived.Test.YtpgnoikfpogmlaaDoorTextJoin
import Derived.SizedLaws
import Derived.WalkKit
import Derived.ProofKit
import Derived.OpenShut
import Derived.OpenVars
import Derived.ChangeOld
import Derived.Below
import Derived.Deep.DeepHandedRow
import Derived.Lib.LaidTab
import Derived.Lib.SmallJoins
import Derived.Lib.AppendIntMem
import Derived.Stop.LaidErr
namespace Go.Proofs.YtpgnoikfpogmlaaDoor.fnExactCodeText
open Go.ChangeShapes Go.WideShapes Go.ChangeAt Go.RowKit
open Go.Proofs.YtpgnoikfpogmlaaDoor.math Go.Proofs.YtpgnoikfpogmlaaDoor.ints Go.Proofs.YtpgnoikfpogmlaaDoor.walks
set_option linter.unusedVariables false

theorem own : ownKnob Tryd.prog.godebug = none := by kernel_rfl
theorem laidOut : laidOutB Tryd.prog = true := by kernel_rfl
theorem g0 : Tryd.prog.globalNamed "internal/strconv.uint64pow10" = some 1 := by kernel_rfl
abbrev Tab (w : World) : Prop := Lib.TabIs Tryd.prog w "internal/strconv.uint64pow10" .u64 Lib.pow10Tab
theorem itoa_ok {W : World} (ht : Tab W) : ItoaOk W := by
  intro m w hm hb
  refine (Tryd.strconv_Itoa (m : Int) (by omega) (by omega) w (Joins.var_stays g0 ht hb (Nat.le_refl _))).mono ?_
  rintro e w' ⟨rfl, k, os, rfl⟩
  refine ⟨?_, Lib.below_grow _ _ (Nat.le_refl _) k os⟩
  unfold numS Lib.itoa
  rw [if_neg (by omega)]
  rfl
theorem join_ok : JoinOk := by
  refine ⟨fun a c w => Tryd.strings_Join_none a c ⟨#[59]⟩ w, ?_⟩
  intro bk c xs w hx hb h30 hc hl
  exact Tryd.strings_Join bk 0 c xs ⟨#[59]⟩ w hx hb (by omega) hc (Nat.le_trans hl (by omega))
set_option maxHeartbeats 2000000 in
set_option maxRecDepth 100000 in
theorem walk_of (a0 : Option Addr) (len0 cap0 : Nat) (z0 : List Int) (w : World) (hz : Hid (z0.length = len0 * 5)) (hlen : len0 ≤ 1048576) (h : Hid (Ints w a0 z0)) (HT : Hid (ItoaOk w)) (HJ : Hid JoinOk) :
    Calls Tryd.prog 4 #[.slice a0 len0 cap0] w fun e w' => e = .returned (.bool true) ∧ Below w.heap.size w w' := by
  obtain ⟨t, c, HA⟩ : ∃ (t : ByteArray) (c : Bool), Hid (∀ W e W', TextAns z0 len0 W e W' → e = .returned (.tuple #[.string t, .bool c]) ∧ Below W.heap.size W W') := by
    cases hc : codeB z0 len0
    · exact ⟨⟨#[]⟩, false, fun W e W' => by
        rintro ⟨⟨q, _⟩ | ⟨_, rfl⟩, hb⟩
        · rw [hc] at q; cases q
        · exact ⟨rfl, hb⟩⟩
    · exact ⟨textTo z0 len0, true, fun W e W' => by
        rintro ⟨⟨_, rfl⟩ | ⟨q, _⟩, hb⟩
        · exact ⟨rfl, hb⟩
        · rw [hc] at q; cases q⟩
  have hl1 : (len0 : Int) ≤ 1048576 := by omega
  go_enter Tryd.func4, Tryd.ntmps4
  go_wp2_with fail
  refine (Instr_size _ _ _ _ _ (by omega) (by omega) (by omega)).mono ?_
  rw [if_pos hl1]
  rintro e w' ⟨rfl, hw⟩
  rw [hw]
  clear hw w'
  have hleft : 0 ≤ (1048576 : Int) - (len0 : Int) := by omega
  go_wp2_with fail
  refine (Instr_list _ _ _ z0 _ hz hlen h).mono ?_
  rintro e w1 ⟨rfl, hM1, hB1⟩
  have M1 : Hid (Mine w1 w.heap.size (some ⟨w.heap.size, 0, none⟩) z0) := hM1
  have B1 : Hid (Below w.heap.size w w1) := hB1
  clear hM1 hB1
  go_wp2_with fail
  refine (spec_codetext _ _ _ z0 _ hz hlen M1.out.ints).mono ?_
  intro e w2 hA
  obtain ⟨rfl, hB2⟩ := HA.out _ _ _ hA
  have B2 : Hid (Below w.heap.size w w2) := B1.out.trans (hB2.mono B1.out.size)
  clear hB2 hA
  go_wp2_with fail
  refine (Instr_list _ _ _ z0 _ hz hlen (h.out.kept B2.out)).mono ?_
  rintro e w3 ⟨rfl, hM3, hB3⟩
  have M3 : Hid (Mine w3 w2.heap.size (some ⟨w2.heap.size, 0, none⟩) z0) := hM3
  have B3 : Hid (Below w.heap.size w w3) := B2.out.trans (hB3.mono B2.out.size)
  clear hM3 hB3
  go_wp2_with fail
  refine (impl_codetext _ _ _ z0 _ hz hlen M3.out.ints (HT.out.on B3.out) HJ).mono ?_
  intro e w4 hA
  obtain ⟨rfl, hB4⟩ := HA.out _ _ _ hA
  have M4 : Hid (Mine w4 w2.heap.size (some ⟨w2.heap.size, 0, none⟩) z0) := M3.out.kept hB4
  have B4 : Hid (Below w.heap.size w w4) := B3.out.trans (hB4.mono B3.out.size)
  clear hB4 hA
  go_wp2_with fail
  refine (Instr_list _ _ _ z0 _ hz hlen (h.out.kept B4.out)).mono ?_
  rintro e w5 ⟨rfl, hM5, hB5⟩
  have M5 : Hid (Mine w5 w4.heap.size (some ⟨w4.heap.size, 0, none⟩) z0) := hM5
  have M5' : Hid (Mine w5 w2.heap.size (some ⟨w2.heap.size, 0, none⟩) z0) := M4.out.kept hB5
  have B5 : Hid (Below w.heap.size w w5) := B4.out.trans (hB5.mono B4.out.size)
  clear hM5 hB5
  go_wp2_with fail
  refine (Instr_same _ _ _ _ _ z0 _ hz hlen M5'.out.ints M5.out.ints).mono ?_
  rintro e w6 ⟨rfl, hB6⟩
  have B6 : Hid (Below w.heap.size w w6) := B5.out.trans (hB6.mono B5.out.size)
  clear hB6
  go_wp2
  go_ret
  exact ⟨rfl, B6.out⟩
theorem walk (a0 : Option Addr) (len0 cap0 : Nat) (z0 : List Int) (w : World) (w0 : Ints w a0 z0) (n0 : z0.length = len0 * 5) (b0 : len0 ≤ 140737488351232) (ht : Tab w) :
    Calls Tryd.prog 4 #[.slice a0 len0 cap0] w fun e w' => e = .returned (.bool true) ∧ Below w.heap.size w w' := by
  by_cases h1 : len0 ≤ 1048576
  · exact walk_of a0 len0 cap0 z0 w n0 h1 w0 (itoa_ok ht) join_ok
  · have hno : 1048576 < (len0 : Int) := by omega
    clear ht
    go_enter Tryd.func4, Tryd.ntmps4
    go_wp2_with fail
    refine (Instr_size _ _ _ _ _ (by omega) (by omega) (by omega)).mono ?_
    rw [if_neg (by omega)]
    rintro e w' ⟨rfl, rfl⟩
    go_wp2
    go_ret
    exact ⟨rfl, Below.refl _ _⟩
theorem gt0 : (Tryd.prog.globals[1]?).map (·.type) = some 118 := by kernel_rfl
theorem gc0 : Tryd.prog.cellsOf 118 = 20 := by kernel_rfl
theorem table {W : World} (h : laidMetH Tryd.prog Rows.fnExactCodeTextRow.laid W) : Tab W :=
  Lib.tabIs_of_head (rest := []) g0 gt0 Tryd.underlying118 Tryd.underlying53 (by kernel_rfl) gc0 (laidMet.tail (laidMet.tail h))
set_option maxRecDepth 100000 in
theorem contract (H : Type) (enc : TypeId × Value → H) (W : World) (base : Nat) (args : Array Value) (ds gs : List (DataW H)) (before : List MemPlace)
    (hval : ∀ (j : Nat) t v, Tryd.f4.params[j]? = some t → args[j]? = some v → Value.okWide Tryd.prog W .any base t v)
    (hW : DataW.Whole enc Tryd.prog Tryd.f4.params.toList Rows.fnExactCodeTextSpec.vars false W args.toList ds gs before) (hsz0 : (DataW.weightsEach Tryd.prog (Tryd.f4.params.toList ++ (OpenSpec.ofChange Rows.fnExactCodeTextSpec).bare.plain.varTypes Tryd.prog) (ds ++ gs)).all (· ≤ reachBytes) = true) (hL : laidMetH Tryd.prog Rows.fnExactCodeTextRow.laid W) :
    Calls Tryd.prog 4 args W fun e W' => ∃ v, e = .returned v ∧ Rows.fnExactCodeTextSpec.post enc Tryd.prog Tryd.f4 false true false false W args v W' := by
  have hW' := hW
  obtain ⟨p, q, hA0, hV, rfl, hfz, hnd⟩ := hW
  have hA : DataW.TrodAll enc Tryd.prog W 0 (fun _ => true) true Tryd.f4.params.toList args.toList ds p := hA0
  have hsz := hsz0
  rw [Tryd.params4] at hA hval hsz
  obtain ⟨v0, vs0, d0, ds0, p0, q0, hargs, rfl, rfl, h0, r0⟩ := trodAll_cons hA
  obtain ⟨rfl, rfl, rfl⟩ := trodAll_nil r0
  obtain rfl : args = #[v0] := by cases args; simp_all
  obtain ⟨rfl, rfl⟩ := trodVars_none hV
  obtain ⟨a0, len0, cap0, rfl⟩ := okWide_slice Tryd.underlying32 (hval 0 32 v0 rfl rfl)
  have k0 := h0
  have lt0 : ∀ x ∈ p0, x.block < W.heap.size := by obtain ⟨m, hm⟩ := k0; exact DataW.trod_lt m _ _ _ hm
  obtain ⟨z0, w0, n0, b0⟩ : ∃ zs, Ints W a0 zs ∧ zs.length = len0 * 5 ∧ len0 ≤ 140737488351232 := by
    obtain ⟨fuel, hf⟩ := h0
    rcases open_flat Tryd.underlying32 Tryd.underlying63 (show Tryd.prog.cellsOf 63 = 5 by kernel_rfl) rfl (by
      intro i f h
      match i, h with
      | 0, h => obtain rfl := Option.some.inj h; exact ⟨rfl, (show Tryd.prog.cellsOf 3 = 1 by kernel_rfl), Tryd.underlying3⟩
      | 1, h => obtain rfl := Option.some.inj h; exact ⟨rfl, (show Tryd.prog.cellsOf 3 = 1 by kernel_rfl), Tryd.underlying3⟩
      | 2, h => obtain rfl := Option.some.inj h; exact ⟨rfl, (show Tryd.prog.cellsOf 3 = 1 by kernel_rfl), Tryd.underlying3⟩
      | 3, h => obtain rfl := Option.some.inj h; exact ⟨rfl, (show Tryd.prog.cellsOf 3 = 1 by kernel_rfl), Tryd.underlying3⟩
      | 4, h => obtain rfl := Option.some.inj h; exact ⟨rfl, (show Tryd.prog.cellsOf 3 = 1 by kernel_rfl), Tryd.underlying3⟩
      | i + 5, h => simp at h) hf with hcs | ⟨a, l, c, m, D, E, hcs, hl, hm, hlm, hx, hcell⟩
    · simp [Value.cells] at hcs
      obtain ⟨rfl, rfl, rfl⟩ := hcs
      exact ⟨[], .inl rfl, by simp, by omega⟩
    · simp [Value.cells] at hcs
      obtain ⟨rfl, rfl, rfl⟩ := hcs
      obtain ⟨zs, hz, hi⟩ := flat_of (by decide) hlm hcell
      have hs := sized_slice hsz (j := 0) (t := 32) (e := 63) rfl (by rw [show d0 = _ from hx]; rfl) Tryd.underlying32
      rw [show Tryd.prog.bytesOf 63 = 40 by kernel_rfl] at hs
      simp only [List.length_map, List.length_range, reachBytes] at hs
      exact ⟨zs, hi, hz, by omega⟩
  clear hA0
  refine (walk a0 len0 cap0 z0 W w0 n0 b0 (table hL)).mono fun e W' ⟨he, bel⟩ => ?_
  subst he
  exact ⟨_, rfl, _, _, _, [], _, [], hW', trodAll_mk1 (shut_bool Tryd.underlying4 _), (trodAll_cons_mk (Below.trod laidOut (by kernel_rfl) (of_decide_eq_true (by kernel_rfl)) k0 bel lt0) trodAll_mk0), rfl, bel.frame _, fun h => by cases h⟩
/-- A world with the tables laid into their blocks: for the witness. -/
def relaid (w : World) : World :=
  { w with heap := ((w.heap.modify 4 fun
      | .cells _ t frozen => .cells #[.int .u8 0, .int .u8 1, .int .u8 28, .int .u8 2, .int .u8 29, .int .u8 14, .int .u8 24, .int .u8 3, .int .u8 30, .int .u8 22, .int .u8 20, .int .u8 15, .int .u8 25, .int .u8 17, .int .u8 4, .int .u8 8, .int .u8 31, .int .u8 27, .int .u8 13, .int .u8 23, .int .u8 21, .int .u8 19, .int .u8 16, .int .u8 7, .int .u8 26, .int .u8 12, .int .u8 18, .int .u8 6, .int .u8 11, .int .u8 5, .int .u8 10, .int .u8 9] t frozen
      | o => o).modify 5 fun
      | .cells _ t frozen => .cells #[.int .u8 0, .int .u8 1, .int .u8 56, .int .u8 2, .int .u8 57, .int .u8 49, .int .u8 28, .int .u8 3, .int .u8 61, .int .u8 58, .int .u8 42, .int .u8 50, .int .u8 38, .int .u8 29, .int .u8 17, .int .u8 4, .int .u8 62, .int .u8 47, .int .u8 59, .int .u8 36, .int .u8 45, .int .u8 43, .int .u8 51, .int .u8 22, .int .u8 53, .int .u8 39, .int .u8 33, .int .u8 30, .int .u8 24, .int .u8 18, .int .u8 12, .int .u8 5, .int .u8 63, .int .u8 55, .int .u8 48, .int .u8 27, .int .u8 60, .int .u8 41, .int .u8 37, .int .u8 16, .int .u8 46, .int .u8 35, .int .u8 44, .int .u8 21, .int .u8 52, .int .u8 32, .int .u8 23, .int .u8 11, .int .u8 54, .int .u8 26, .int .u8 40, .int .u8 15, .int .u8 34, .int .u8 20, .int .u8 31, .int .u8 10, .int .u8 25, .int .u8 14, .int .u8 19, .int .u8 9, .int .u8 13, .int .u8 8, .int .u8 7, .int .u8 6] t frozen
      | o => o).modify 1 fun
      | .cells _ t frozen => .cells #[.int .u64 1, .int .u64 10, .int .u64 100, .int .u64 1000, .int .u64 10000, .int .u64 100000, .int .u64 1000000, .int .u64 10000000, .int .u64 100000000, .int .u64 1000000000, .int .u64 10000000000, .int .u64 100000000000, .int .u64 1000000000000, .int .u64 10000000000000, .int .u64 100000000000000, .int .u64 1000000000000000, .int .u64 10000000000000000, .int .u64 100000000000000000, .int .u64 1000000000000000000, .int .u64 10000000000000000000] t frozen
      | o => o }
theorem laid_met (os : Os) : laidMet Tryd.prog Rows.fnExactCodeTextRow.laid ((relaid (World.holding Tryd.prog os ⟨#[], #[], []⟩)).forCall (fun _ _ => 0) ⟨#[], #[.slice none 0 0], []⟩).memory :=
  laidMet_of_run' 8 (by kernel_rfl) (by kernel_rfl)
theorem reads (os : Os) {H : Type} (enc : TypeId × Value → H) : ∃ places, DataW.whole enc Tryd.prog ((relaid (World.holding Tryd.prog os ⟨#[], #[], []⟩)).forCall (fun _ _ => 0) ⟨#[], #[.slice none 0 0], []⟩).memory Tryd.f4.params.toList Rows.fnExactCodeTextSpec.vars false #[Value.slice none 0 0].toList 8 = some ([.nil], [], places) :=
  ⟨[], by kernel_rfl⟩
set_option maxRecDepth 100000 in
theorem lifted (os : Os) (started : os.Started) (H : Type) (enc : TypeId × Value → H) (F : Stop.Interp) :
    ReturnsInHanded {} Tryd.checked os 4 .any ((OpenSpec.ofChange Rows.fnExactCodeTextSpec).preRow enc Tryd.prog Tryd.f4 Rows.fnExactCodeTextRow.domain false Rows.fnExactCodeTextRow.laid) (((OpenSpec.ofChange Rows.fnExactCodeTextSpec).at F).post enc Tryd.prog Tryd.f4 false true false false) := by
  obtain ⟨places, hx⟩ := reads os enc
  refine returnsInHanded_of_row (C := Tryd.checked) (s := OpenSpec.ofChange Rows.fnExactCodeTextSpec) own started (by kernel_rfl) Tryd.func4
    (witness_row_at (enc := enc) (C := Tryd.checked) false (relaid (World.holding Tryd.prog os ⟨#[], #[], []⟩)) #[.slice none 0 0] rfl (by kernel_rfl) (by kernel_rfl) (by kernel_rfl)
      (OpenSpec.preRow_of_cond 8 hx (by kernel_rfl) (fun k hk => by cases hk) (by kernel_rfl) (laid_met os))) ?_
  intro W base args ds gs before hval hW _ _ hsz hL _ _
  exact contract H enc W base args ds gs before hval hW hsz hL
theorem said : Rows.FnExactCodeTextSaid :=
  OpenClaim.holds_of_cond 4 Tryd.f4 rfl rfl rfl rfl rfl rfl rfl ⟨rfl, rfl, rfl, rfl, rfl⟩ rfl rfl rfl rfl rfl (by kernel_rfl) Tryd.func4 (by kernel_rfl)
    (of_decide_eq_true (by kernel_rfl)) (by unfold Func.isWrapper; first | (rw [if_pos (by decide +kernel)]; kernel_rfl) | (rw [if_neg (by decide +kernel)]; exact ⟨rfl, rfl⟩))
    (fun os started H enc _ F => by rw [OpenClaim.pre_eq_preRow]; exact lifted os started H enc F)
theorem plain (f : FuncId) (fn : Func) (hf : Tryd.pinned.checked.prog.funcNamed "loop.example/g00350/laws.FnExactCodeText" = some f) (hfn : Tryd.pinned.checked.prog.funcs[f]? = some fn) :
    true = Tryd.pinned.checked.prog.looks [] ∧ ∀ (j : Nat) t, fn.params[j]? = some t → Tryd.pinned.checked.prog.wantsStandIn t = false := by
  obtain rfl : f = 4 := Option.some.inj ((show Tryd.prog.funcNamed "loop.example/g00350/laws.FnExactCodeText" = some 4 by kernel_rfl).symm.trans hf) |>.symm
  obtain rfl : fn = Tryd.f4 := (Option.some.inj (Tryd.func4.symm.trans hfn)).symm
  refine ⟨by kernel_rfl, fun j t ht => ?_⟩
  rw [Tryd.params4] at ht
  obtain rfl : t = 32 := by simpa using Array.mem_of_getElem? ht
  exact (show Tryd.prog.wantsStandIn 32 = false by kernel_rfl)
theorem card : Rows.FnExactCodeTextCardSaid :=
  Claim7.holds_tied_plain_at .later [] _ _ _ _ said (fun _ h => by cases h) (by kernel_rfl) (fun _ h => by cases h) fnExactCodeText_row_tie rfl ⟨rfl, rfl⟩ (by kernel_rfl) rfl plain (by kernel_rfl)
#print axioms card
end Go.Proofs.YtpgnoikfpogmlaaDoor.fnExactCodeText
