/-
  Of every number: the program tells the magic that the specification tells, with the least shift; it writes into nothing that was there.
-/
import Derived.Test.YteogabkfkfaejaaRows
import Derived.WalkKit
import Derived.ProofKit
import Derived.OpenShut
import Derived.ShutString
import Derived.ChangeOld
import Derived.Below
import Derived.Carry
import Derived.Test.YteogabkfkfaejaaMagMath
import Derived.Test.YteogabkfkfaejaaMagGood
import Derived.Test.YteogabkfkfaejaaMagFor
namespace Go.Proofs.Yteogabkfkfaejaa.fnExactMagicFor
open Go.ChangeShapes Go.WideShapes Go.ChangeAt Go.RowKit
open Go.ChangeMaps (open_string shut_string)
open Go.Proofs.Yteogabkfkfaejaa.math
open Go.Proofs.Yteogabkfkfaejaa.walks
set_option linter.unusedVariables false

theorem own : ownKnob Try.prog.godebug = none := by kernel_rfl
theorem laidOut : laidOutB Try.prog = true := by kernel_rfl

theorem eq_same (b m s : Int) (W : World) :
    Calls Try.prog 32 #[.agg #[.int .i64 b, .int .i64 m, .int .i64 s], .agg #[.int .i64 b, .int .i64 m, .int .i64 s]] W fun e W' => e = .returned (.bool true) ∧ Below W.heap.size W W' := by
  go_enter Try.func32, Try.ntmps32
  go_wp2
  go_ret
  exact ⟨rfl, by go_grown⟩
theorem walk_of (a0 b m s : Int) (o : Bool) (w : World) (hs : ∀ W : World, Calls Try.prog 11 #[.int .i64 a0] W fun e W' => e = .returned (.tuple #[.agg #[.int .i64 b, .int .i64 m, .int .i64 s], .bool o]) ∧ Below W.heap.size W W')
    (hi : ∀ W : World, Calls Try.prog 10 #[.int .i64 a0] W fun e W' => e = .returned (.tuple #[.agg #[.int .i64 b, .int .i64 m, .int .i64 s], .bool o]) ∧ Below W.heap.size W W') :
    Calls Try.prog 5 #[.int .i64 a0] w fun e w' => e = .returned (.bool true) ∧ Below w.heap.size w w' := by
  have Hs : Hid (∀ W : World, Calls Try.prog 11 #[.int .i64 a0] W fun e W' => e = .returned (.tuple #[.agg #[.int .i64 b, .int .i64 m, .int .i64 s], .bool o]) ∧ Below W.heap.size W W') := hs
  have Hi : Hid (∀ W : World, Calls Try.prog 10 #[.int .i64 a0] W fun e W' => e = .returned (.tuple #[.agg #[.int .i64 b, .int .i64 m, .int .i64 s], .bool o]) ∧ Below W.heap.size W W') := hi
  clear hs hi
  go_enter Try.func5, Try.ntmps5
  go_wp2_with fail
  refine (Hs.out _).mono ?_
  rintro e w1 ⟨rfl, B1⟩
  have s1 := B1.size
  go_wp2_with fail
  refine (Hi.out _).mono ?_
  rintro e w2 ⟨rfl, B2⟩
  obtain ⟨c2, f2⟩ := bcell B2
  have s2 := B2.size
  have s3 : w1.heap.size < w2.heap.size := by simp at s2; omega
  go_wp2_with fail
  refine (eq_same _ _ _ _).mono ?_
  rintro e w3 ⟨rfl, B3⟩
  go_wp2
  go_ret
  refine ⟨rfl, ?_⟩
  refine Below.trans B1 (Below.trans ?_ (Below.trans (B2.mono ?_) (Below.trans ?_ (B3.mono ?_))))
  all_goals first | go_grown | (simp; omega)
theorem walk (a0 : Int) (w0 : (Lit.int .i64 a0).wf = true) (w : World) :
    Calls Try.prog 5 #[.int .i64 a0] w fun e w' => e = .returned (.bool true) ∧ Below w.heap.size w w' := by
  by_cases h0 : 1 ≤ a0
  · by_cases h1 : a0 ≤ 65535
    · obtain ⟨t, hL⟩ := least_is h0 h1
      exact walk_of a0 _ _ _ _ w (fun W => spec_for a0 t W h0 h1 hL) (fun W => impl_for a0 t W h0 h1 hL)
    · exact walk_of a0 _ _ _ _ w (fun W => spec_for_no a0 W (inR_gt (by omega))) (fun W => impl_for_no a0 W (inR_gt (by omega)))
  · exact walk_of a0 _ _ _ _ w (fun W => spec_for_no a0 W (inR_lt (by omega))) (fun W => impl_for_no a0 W (inR_lt (by omega)))

set_option maxRecDepth 100000 in
theorem lifted (os : Os) (started : os.Started) (H : Type) (enc : TypeId × Value → H) :
    ReturnsInHanded {} Try.checked os 5 .any (Rows.fnExactMagicForSpec.pre6 enc Try.prog Try.f5 Rows.fnExactMagicForRow.domain false) (Rows.fnExactMagicForSpec.post enc Try.prog Try.f5 false true false false) := by
  refine returnsInHanded_of_change (C := Try.checked) own started (by kernel_rfl) Try.func5
    (ChangeSpec.witness6 (enc := enc) (C := Try.checked) false ⟨#[], #[.int .i64 0], []⟩ 8 (by kernel_rfl) (by kernel_rfl) (by kernel_rfl) (by kernel_rfl)) ?_
  intro W base args ds gs before hval0 hW hcnd _
  have hval : ∀ (j : Nat) t v, Try.f5.params[j]? = some t → args[j]? = some v → Value.okWide Try.prog W .any base t v := hval0
  have hW' := hW
  obtain ⟨p, q, hA0, hV, rfl, hfz, hnd⟩ := hW
  have hA : DataW.TrodAll enc Try.prog W 0 (fun _ => true) true Try.f5.params.toList args.toList ds p := hA0
  rw [Try.params5] at hA hval
  obtain ⟨v0, vs0, d0, ds0, p0, q0, hargs, rfl, rfl, h0, r0⟩ := trodAll_cons hA
  obtain ⟨rfl, rfl, rfl⟩ := trodAll_nil r0
  obtain rfl : args = #[v0] := by cases args; simp_all
  obtain ⟨rfl, rfl⟩ := trodVars_none hV
  have k0 := h0
  have lt0 : ∀ x ∈ p0, x.block < W.heap.size := by obtain ⟨m, hm⟩ := k0; exact DataW.trod_lt m _ _ _ hm
  obtain ⟨a0, rfl, rfl, rfl, w0⟩ := open_int Try.underlying3 (hval 0 3 v0 rfl rfl) h0
  clear hA0 hval0
  refine (walk a0 w0 W).mono fun e W' ⟨he, bel⟩ => ?_
  subst he
  exact ⟨_, rfl, _, _, _, [], _, [], hW', trodAll_mk1 (shut_bool Try.underlying4 _), (trodAll_cons_mk (Below.trod laidOut (by kernel_rfl) (of_decide_eq_true (by kernel_rfl)) k0 bel lt0) trodAll_mk0), rfl, bel.frame _, fun h => by cases h⟩

theorem over : Rows.fnExactMagicForRow.holds Try.pinned (OpenSpec.ofChange Rows.fnExactMagicForSpec) :=
  OpenClaim.holds_of_wide 5 Try.f5 rfl rfl rfl rfl rfl rfl rfl ⟨rfl, rfl, rfl, rfl, rfl⟩ rfl rfl rfl rfl rfl (by kernel_rfl) Try.func5 (by kernel_rfl)
    (of_decide_eq_true (by kernel_rfl)) (by unfold Func.isWrapper; first | (rw [if_pos (by decide +kernel)]; kernel_rfl) | (rw [if_neg (by decide +kernel)]; exact ⟨rfl, rfl⟩))
    (fun os started H enc _ => lifted os started H enc)

theorem proved : Rows.FnExactMagicForSaid :=
  over
#print axioms proved
end Go.Proofs.Yteogabkfkfaejaa.fnExactMagicFor
