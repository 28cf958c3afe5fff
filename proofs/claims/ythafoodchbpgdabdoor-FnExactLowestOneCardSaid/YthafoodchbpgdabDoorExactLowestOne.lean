/-
  At every int the program's LowestOne answers as the specification's LowestOne, both results, where the program's table wordBits holds what its own text lays there (tied by the card).
-/
import Derived.Test.YthafoodchbpgdabDoorCards
import Derived.Test.YthafoodchbpgdabDoorTie
import Derived.Test.YthafoodchbpgdabDoorLoops
import Derived.WalkKit
import Derived.ProofKit
import Derived.OpenShut
import Derived.OpenVars
import Derived.Deep.DeepHandedRow
import Derived.Lib.LaidTab
namespace Go.Proofs.YthafoodchbpgdabDoor.fnExactLowestOne
open Go.ChangeShapes Go.WideShapes Go.ChangeAt Go.RowKit
open Go.Proofs.YthafoodchbpgdabDoor.math Go.Proofs.YthafoodchbpgdabDoor.walks
set_option linter.unusedVariables false

theorem own : ownKnob Tryd.prog.godebug = none := by kernel_rfl
theorem laidOut : laidOutB Tryd.prog = true := by kernel_rfl
theorem gTab : Tryd.prog.globalNamed "loop.example/g00350/impl.wordBits" = some 0 := by kernel_rfl
theorem gTabType : (Tryd.prog.globals[0]?).map (·.type) = some 26 := by kernel_rfl
theorem cells26 : Tryd.prog.cellsOf 26 = 16 := by kernel_rfl
theorem cells3 : Tryd.prog.cellsOf 3 = 1 := by kernel_rfl
theorem rowed : varsRowed Tryd.prog Rows.fnExactLowestOneSpec.vars = true := by kernel_rfl

theorem table {W : World} (h : laidMetH Tryd.prog Rows.fnExactLowestOneRow.laid W) :
    Lib.TabIs Tryd.prog W "loop.example/g00350/impl.wordBits" .i64 [1, 2, 4, 8, 16, 32, 64, 128, 256, 512, 1024, 2048, 4096, 8192, 16384, 32768] :=
  Lib.tabIs_of_head (rest := []) gTab gTabType Tryd.underlying26 Tryd.underlying3 cells3 cells26 h
theorem powers : ∀ k : Nat, k < 16 → ([1, 2, 4, 8, 16, 32, 64, 128, 256, 512, 1024, 2048, 4096, 8192, 16384, 32768] : List Int).getD k 0 = ((2 ^ k : Nat) : Int) := by decide
theorem laid_table {W : World} (h : laidMetH Tryd.prog Rows.fnExactLowestOneRow.laid W) : Hid (Table W) := by
  intro k hk
  have h1 := (table h).cell gTab k (by simpa using hk)
  rw [powers k hk] at h1
  exact h1

theorem walk (a0 : Int) (W : World) (ht : Hid (Table W)) :
    Calls Tryd.prog 4 #[.int .i64 a0] W fun e W' => e = .returned (.bool true) ∧ W' = W := by
  by_cases c : a0 < 0 ∨ 65535 < a0
  · have HC : Hid (a0 < 0 ∨ 65535 < a0) := c
    have HD : Hid (a0 < 0 ∨ 65535 < a0 ∨ a0 = 0) := by show a0 < 0 ∨ 65535 < a0 ∨ a0 = 0; omega
    clear c
    go_enter Tryd.func4, Tryd.ntmps4
    go_wp2_with (first | (go_at_call 7; refine (spec_low_no _ HD.out _).mono ?_; rintro e w' ⟨rfl, rfl⟩) | (go_at_call 8; refine (impl_low_no _ HC.out _).mono ?_; rintro e w' ⟨rfl, rfl⟩))
    go_ret
    exact ⟨rfl, rfl⟩
  obtain ⟨a, rfl⟩ := Int.eq_ofNat_of_zero_le (show 0 ≤ a0 by omega)
  have ha : a ≤ 65535 := by omega
  clear c
  by_cases z : a = 0
  · subst z
    go_enter Tryd.func4, Tryd.ntmps4
    go_wp2_with (first | (go_at_call 7; refine (spec_low_no _ (Or.inr (Or.inr rfl)) _).mono ?_; rintro e w' ⟨rfl, rfl⟩) | (go_at_call 8; refine (impl_low 0 ha _ ht).mono ?_; rintro e w' ⟨hh, rfl⟩; obtain rfl := hh.elim (fun h => (Nat.lt_irrefl 0 h.1).elim) (fun h => h.2)))
    go_ret
    exact ⟨rfl, rfl⟩
  · have hp : 0 < a := by omega
    have HP : Hid (¬ a = 0) := z
    clear z
    go_enter Tryd.func4, Tryd.ntmps4
    go_wp2_with fail
    refine (spec_low a ha hp _).mono ?_
    rintro e w' ⟨j, HJ, rfl, rfl⟩
    have HK : Hid (Low a j) := HJ
    clear HJ
    go_wp2_with fail
    refine (impl_low a ha _ ht).mono ?_
    rintro e w' ⟨hh, rfl⟩
    obtain rfl : e = .returned (.tuple #[.int .i64 (j : Int), .bool true]) := by
      rcases hh with ⟨_, i, hi, he⟩ | ⟨h0, _⟩
      · rw [he, low_one hi HK.out]
      · exact (HP.out h0).elim
    clear hh
    go_wp2
    go_ret
    exact ⟨rfl, rfl⟩

/-- What the walk gives, for every argument and every world that holds the table. -/
theorem contract (H : Type) (enc : TypeId × Value → H) (W : World) (base : Nat) (args : Array Value) (ds gs : List (DataW H)) (before : List MemPlace)
    (hval : ∀ (j : Nat) t v, Tryd.f4.params[j]? = some t → args[j]? = some v → Value.okWide Tryd.prog W .any base t v)
    (hW : DataW.Whole enc Tryd.prog Tryd.f4.params.toList Rows.fnExactLowestOneSpec.vars false W args.toList ds gs before) (hL : laidMetH Tryd.prog Rows.fnExactLowestOneRow.laid W) :
    Calls Tryd.prog 4 args W fun e W' => ∃ v, e = .returned v ∧ Rows.fnExactLowestOneSpec.post enc Tryd.prog Tryd.f4 false true false false W args v W' := by
  have hW' := hW
  obtain ⟨p, q, hA0, hV, rfl, hfz, hnd⟩ := hW
  have hA : DataW.TrodAll enc Tryd.prog W 0 (fun _ => true) true Tryd.f4.params.toList args.toList ds p := hA0
  rw [Tryd.params4] at hA hval
  obtain ⟨v0, vs0, d0, ds0, p0, q0, hargs, rfl, rfl, h0, r0⟩ := trodAll_cons hA
  obtain ⟨rfl, rfl, rfl⟩ := trodAll_nil r0
  obtain rfl : args = #[v0] := by cases args; simp_all
  obtain ⟨a0, rfl, rfl, rfl, w0⟩ := open_int Tryd.underlying3 (hval 0 3 v0 rfl rfl) h0
  obtain ⟨g, t, cs, fuel, g1, pg, rfl, _, _, _, _, _⟩ := trodVars_one hV
  clear hA0
  have e1 : Rows.fnExactLowestOneSpec.fn H ([.lit (.int .i64 a0)] ++ [g1]) = { results := [.lit (.bool true)], args := [.lit (.int .i64 a0)], vars := [g1] } := rfl
  refine (walk a0 W (laid_table hL)).mono fun e W' ⟨he, hw⟩ => ?_
  subst he
  subst hw
  refine ⟨_, rfl, _, _, _, [], [], q, hW', ?_, ?_, ?_, World.keptBut_refl _ _, fun h => by cases h⟩
  · rw [e1]; exact trodAll_cons_mk (shut_bool Tryd.underlying4 _) trodAll_mk0
  · rw [e1]; exact trodAll_cons_mk (shut_int Tryd.underlying3 w0) trodAll_mk0
  · rw [e1]; exact Below.trodVars laidOut (Below.refl _ _) rowed hV

/-- A world with the table laid into its first block: for the witness. -/
def relaid (w : World) : World :=
  { w with heap := w.heap.modify 0 fun
      | .cells _ t frozen => .cells #[.int .i64 1, .int .i64 2, .int .i64 4, .int .i64 8, .int .i64 16, .int .i64 32, .int .i64 64, .int .i64 128, .int .i64 256, .int .i64 512, .int .i64 1024, .int .i64 2048, .int .i64 4096, .int .i64 8192, .int .i64 16384, .int .i64 32768] t frozen
      | o => o }
theorem laid_met (os : Os) : laidMet Tryd.prog Rows.fnExactLowestOneRow.laid ((relaid (World.holding Tryd.prog os ⟨#[], #[], []⟩)).forCall (fun _ _ => 0) ⟨#[], #[.int .i64 0], []⟩).memory :=
  laidMet_of_run' 8 (by kernel_rfl) (by kernel_rfl)
theorem reads (os : Os) {H : Type} (enc : TypeId × Value → H) : ∃ places, DataW.whole enc Tryd.prog ((relaid (World.holding Tryd.prog os ⟨#[], #[], []⟩)).forCall (fun _ _ => 0) ⟨#[], #[.int .i64 0], []⟩).memory Tryd.f4.params.toList Rows.fnExactLowestOneSpec.vars false #[Value.int .i64 0].toList 8 = some ([.lit (.int .i64 0)], [Rows.laid_loop_example_g00350_impl_wordBits], places) :=
  ⟨MemPlace.row ⟨0, 0, none⟩ 16, by kernel_rfl⟩

set_option maxRecDepth 100000 in
theorem lifted (os : Os) (started : os.Started) (H : Type) (enc : TypeId × Value → H) (F : Stop.Interp) :
    ReturnsInHanded {} Tryd.checked os 4 .any ((OpenSpec.ofChange Rows.fnExactLowestOneSpec).preRow enc Tryd.prog Tryd.f4 Rows.fnExactLowestOneRow.domain false Rows.fnExactLowestOneRow.laid) (((OpenSpec.ofChange Rows.fnExactLowestOneSpec).at F).post enc Tryd.prog Tryd.f4 false true false false) := by
  obtain ⟨places, hx⟩ := reads os enc
  refine returnsInHanded_of_row (C := Tryd.checked) (s := OpenSpec.ofChange Rows.fnExactLowestOneSpec) own started (by kernel_rfl) Tryd.func4
    (witness_row_at (enc := enc) (C := Tryd.checked) false (relaid (World.holding Tryd.prog os ⟨#[], #[], []⟩)) #[.int .i64 0] rfl (by kernel_rfl) (by kernel_rfl) (by kernel_rfl)
      (OpenSpec.preRow_of_cond 8 hx (by kernel_rfl) (fun k hk => by cases hk) (by kernel_rfl) (laid_met os))) ?_
  intro W base args ds gs before hval hW _ _ _ hL _ _
  exact contract H enc W base args ds gs before hval hW hL

theorem said : Rows.FnExactLowestOneSaid :=
  OpenClaim.holds_of_cond 4 Tryd.f4 rfl rfl rfl rfl rfl rfl rfl ⟨rfl, rfl, rfl, rfl, rfl⟩ rfl rfl rfl rfl rfl (by kernel_rfl) Tryd.func4 (by kernel_rfl)
    (of_decide_eq_true (by kernel_rfl)) (by unfold Func.isWrapper; first | (rw [if_pos (by decide +kernel)]; kernel_rfl) | (rw [if_neg (by decide +kernel)]; exact ⟨rfl, rfl⟩))
    (fun os started H enc _ F => by rw [OpenClaim.pre_eq_preRow]; exact lifted os started H enc F)

/-- No parameter wants a stand-in; the program's own looks are off. -/
theorem plain (f : FuncId) (fn : Func) (hf : Tryd.pinned.checked.prog.funcNamed "loop.example/g00350/laws.FnExactLowestOne" = some f) (hfn : Tryd.pinned.checked.prog.funcs[f]? = some fn) :
    false = Tryd.pinned.checked.prog.looks [] ∧ ∀ (j : Nat) t, fn.params[j]? = some t → Tryd.pinned.checked.prog.wantsStandIn t = false := by
  obtain rfl : f = 4 := Option.some.inj ((show Tryd.prog.funcNamed "loop.example/g00350/laws.FnExactLowestOne" = some 4 by kernel_rfl).symm.trans hf) |>.symm
  obtain rfl : fn = Tryd.f4 := (Option.some.inj (Tryd.func4.symm.trans hfn)).symm
  refine ⟨by kernel_rfl, fun j t ht => ?_⟩
  rw [Tryd.params4] at ht
  obtain rfl : t = 3 := by simpa using Array.mem_of_getElem? ht
  exact (show Tryd.prog.wantsStandIn 3 = false by kernel_rfl)

theorem card : Rows.FnExactLowestOneCardSaid :=
  Claim7.holds_tied_plain_at .later [] _ _ _ _ said (fun _ h => by cases h) (by kernel_rfl) (fun _ h => by cases h) fnExactLowestOne_row_tie rfl ⟨rfl, rfl⟩ (by kernel_rfl) rfl plain (by kernel_rfl)
#print axioms card
end Go.Proofs.YthafoodchbpgdabDoor.fnExactLowestOne
