/-
  Of every number: the program tells the row of shifts that the specification tells, each time in memory of its own; it writes into nothing that was there.
-/
import Derived.Test.YteogabkfkfaejabRows
import Derived.WalkKit
import Derived.ProofKit
import Derived.OpenShut
import Derived.ShutString
import Derived.ChangeOld
import Derived.Below
import Derived.Carry
import Derived.Test.YteogabkfkfaejabMagMath
import Derived.Test.YteogabkfkfaejabMagGood
import Derived.Test.YteogabkfkfaejabInts
import Derived.Test.YteogabkfkfaejabOwnInts
import Derived.Test.YteogabkfkfaejabMath
import Derived.Test.YteogabkfkfaejabPlanDigMath
import Derived.Test.YteogabkfkfaejabPlanSpec
import Derived.Test.YteogabkfkfaejabPlanImpl
namespace Go.Proofs.Yteogabkfkfaejab.fnExactPlanMul
open Go.ChangeShapes Go.WideShapes Go.ChangeAt Go.RowKit
open Go.ChangeMaps (open_string shut_string)
open Go.Proofs.Yteogabkfkfaejab.math
open Go.Proofs.Yteogabkfkfaejab.walks
open Go.Proofs.Yteogabkfkfaejab.ints
set_option linter.unusedVariables false

theorem own : ownKnob Try.prog.godebug = none := by kernel_rfl
theorem laidOut : laidOutB Try.prog = true := by kernel_rfl

abbrev Tells (f : Nat) (x : Int) (zs : List Int) (o : Bool) : Prop := ∀ W : World, Calls Try.prog f #[.int .i64 x] W fun e W' => ∃ a cap, e = .returned (.tuple #[.slice a zs.length cap, .bool o]) ∧ Mine W' W.heap.size a zs ∧ Below W.heap.size W W'
set_option maxHeartbeats 2000000 in
theorem walk_of (x : Int) (zs : List Int) (len : Nat) (o : Bool) (w : World) (hl : len ≤ 17) (HL : Hid (zs.length = len)) (Hs : Hid (Tells 12 x zs o)) (Hi : Hid (Tells 13 x zs o)) :
    Calls Try.prog 5 #[.int .i64 x] w fun e w' => e = .returned (.bool true) ∧ Below w.heap.size w w' := by
  have hlen : len ≤ 1048576 := by omega
  go_enter Try.func5, Try.ntmps5
  go_wp2_with fail
  refine (Hs.out _).mono ?_
  rintro e w1 ⟨a1, c1, rfl, hM1, hB1⟩
  rw [HL.out]
  have M1 : Hid (Mine w1 w.heap.size a1 zs) := hM1
  have B1 : Hid (Below w.heap.size w w1) := hB1
  clear hM1 hB1
  go_wp2_with fail
  refine (Hi.out _).mono ?_
  rintro e w2 ⟨a2, c2, rfl, hM2, hB2⟩
  rw [HL.out]
  have M2 : Hid (Mine w2 w1.heap.size a2 zs) := hM2
  have B2 : Hid (Below w1.heap.size w1 w2) := hB2
  clear hM2 hB2
  go_wp2_with fail
  refine (eq_ints _ _ _ _ _ zs _ HL hlen M2.out.ints (M1.out.kept B2.out).ints).mono ?_
  rintro e w3 ⟨rfl, hB3⟩
  have B3 : Hid (Below w2.heap.size w2 w3) := hB3
  clear hB3
  go_wp2_with fail
  refine (mark_ints _ _ _ zs _ w1.heap.size HL hlen (M2.out.kept B3.out)).mono ?_
  rintro e w4 ⟨rfl, hM4, hB4, hS4⟩
  have M4 : Hid (Mine w4 w1.heap.size a2 (upFrom 1 len)) := hM4
  have B4 : Hid (Below w1.heap.size w3 w4) := hB4
  have S4 : Hid (w4.heap.size = w3.heap.size) := hS4
  clear hM4 hB4 hS4
  go_wp2_with fail
  refine (held_ints _ _ _ _ hlen M4.out.ints).mono ?_
  rintro e w' ⟨rfl, rfl⟩
  go_wp2_with fail
  refine (Hi.out _).mono ?_
  rintro e w5 ⟨a5, c5, rfl, hM5, hB5⟩
  rw [HL.out]
  have M5 : Hid (Mine w5 _ a5 zs) := hM5
  have B5 : Hid (Below _ _ w5) := hB5
  clear hM5 hB5
  have B13 : Hid (Below w1.heap.size w1 _) := (B2.out.trans (B3.out.mono B2.out.size)).trans B4.out
  go_wp2_with fail
  refine (eq_ints _ _ _ _ _ zs _ HL hlen M5.out.ints ((M1.out.kept B13.out).kept B5.out).ints).mono ?_
  rintro e w6 ⟨rfl, hB6⟩
  have B6 : Hid (Below w5.heap.size w5 w6) := hB6
  clear hB6
  go_wp2_with fail
  refine (held_ints _ _ _ _ hlen ((M4.out.kept B5.out).kept B6.out).ints).mono ?_
  rintro e w' ⟨rfl, rfl⟩
  go_wp2
  go_ret
  refine ⟨rfl, ?_⟩
  have h1 := B1.out.trans (B13.out.mono B1.out.size)
  have h2 := h1.trans (B5.out.mono h1.size)
  exact h2.trans (B6.out.mono h2.size)
theorem walk (a0 : Int) (w0 : (Lit.int .i64 a0).wf = true) (w : World) :
    Calls Try.prog 5 #[.int .i64 a0] w fun e w' => e = .returned (.bool true) ∧ Below w.heap.size w w' := by
  by_cases h0 : 0 ≤ a0
  · by_cases h1 : a0 ≤ 65535
    · exact walk_of a0 (planTo a0 17) _ true w (plan_len a0 17) rfl (fun W => spec_plan a0 W h0 h1) (fun W => impl_plan a0 W h0 h1)
    · refine walk_of a0 [] 0 false w (by omega) rfl (fun W => ?_) (fun W => ?_)
      · refine (spec_plan_no a0 W (inR_gt (by omega))).mono ?_
        rintro e w' ⟨rfl, rfl⟩
        exact ⟨none, 0, rfl, Or.inl rfl, Below.refl _ _⟩
      · refine (impl_plan_no a0 W (Or.inr (by omega))).mono ?_
        rintro e w' ⟨rfl, rfl⟩
        exact ⟨none, 0, rfl, Or.inl rfl, Below.refl _ _⟩
  · refine walk_of a0 [] 0 false w (by omega) rfl (fun W => ?_) (fun W => ?_)
    · refine (spec_plan_no a0 W (inR_lt (by omega))).mono ?_
      rintro e w' ⟨rfl, rfl⟩
      exact ⟨none, 0, rfl, Or.inl rfl, Below.refl _ _⟩
    · refine (impl_plan_no a0 W (Or.inl (by omega))).mono ?_
      rintro e w' ⟨rfl, rfl⟩
      exact ⟨none, 0, rfl, Or.inl rfl, Below.refl _ _⟩

set_option maxRecDepth 100000 in
theorem lifted (os : Os) (started : os.Started) (H : Type) (enc : TypeId × Value → H) :
    ReturnsInHanded {} Try.checked os 5 .any (Rows.fnExactPlanMulSpec.pre6 enc Try.prog Try.f5 Rows.fnExactPlanMulRow.domain false) (Rows.fnExactPlanMulSpec.post enc Try.prog Try.f5 false true false false) := by
  refine returnsInHanded_of_change (C := Try.checked) own started (by kernel_rfl) Try.func5
    (ChangeSpec.witness6 (enc := enc) (C := Try.checked) false ⟨#[], #[.int .i64 0], []⟩ 8 (by kernel_rfl) (by kernel_rfl) (by kernel_rfl) (by kernel_rfl)) ?_
  intro W base args ds gs before hval0 hW hcnd _
  have hval : ∀ (j : Nat) t v, Try.f5.params[j]? = some t → args[j]? = some v → Value.okWide Try.prog W .any base t v := hval0
  have hW' := hW
  obtain ⟨p, q, hA0, hV, rfl, hfz, hnd⟩ := hW
  have hA : DataW.TrodAll enc Try.prog W 0 (fun _ => true) true Try.f5.params.toList args.toList ds p := hA0
  rw [Try.params5] at hA hval
  obtain ⟨v0, vs0, d0, ds0, p0, q0, hargs, rfl, rfl, h0, r0⟩ := trodAll_cons hA
  obtain ⟨rfl, rfl, rfl⟩ := trodAll_nil r0
  obtain rfl : args = #[v0] := by cases args; simp_all
  obtain ⟨rfl, rfl⟩ := trodVars_none hV
  have k0 := h0
  have lt0 : ∀ x ∈ p0, x.block < W.heap.size := by obtain ⟨m, hm⟩ := k0; exact DataW.trod_lt m _ _ _ hm
  obtain ⟨a0, rfl, rfl, rfl, w0⟩ := open_int Try.underlying3 (hval 0 3 v0 rfl rfl) h0
  clear hA0 hval0
  refine (walk a0 w0 W).mono fun e W' ⟨he, bel⟩ => ?_
  subst he
  exact ⟨_, rfl, _, _, _, [], _, [], hW', trodAll_mk1 (shut_bool Try.underlying4 _), (trodAll_cons_mk (Below.trod laidOut (by kernel_rfl) (of_decide_eq_true (by kernel_rfl)) k0 bel lt0) trodAll_mk0), rfl, bel.frame _, fun h => by cases h⟩

theorem over : Rows.fnExactPlanMulRow.holds Try.pinned (OpenSpec.ofChange Rows.fnExactPlanMulSpec) :=
  OpenClaim.holds_of_wide 5 Try.f5 rfl rfl rfl rfl rfl rfl rfl ⟨rfl, rfl, rfl, rfl, rfl⟩ rfl rfl rfl rfl rfl (by kernel_rfl) Try.func5 (by kernel_rfl)
    (of_decide_eq_true (by kernel_rfl)) (by unfold Func.isWrapper; first | (rw [if_pos (by decide +kernel)]; kernel_rfl) | (rw [if_neg (by decide +kernel)]; exact ⟨rfl, rfl⟩))
    (fun os started H enc _ => lifted os started H enc)

theorem proved : Rows.FnExactPlanMulSaid :=
  over
#print axioms proved
end Go.Proofs.Yteogabkfkfaejab.fnExactPlanMul
