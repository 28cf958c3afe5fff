/-
  At every two ints the program's SubTagged answers as the specification's SubTagged, all three results; no condition.
-/
import Derived.Test.YthafoodchbpgdabRows
import Derived.WalkKit
import Derived.ProofKit
import Derived.OpenShut
import Derived.ShutString
import Derived.Test.YthafoodchbpgdabMath
import Derived.Test.YthafoodchbpgdabWalks
namespace Go.Proofs.Ythafoodchbpgdab.fnExactSubTagged
open Go.ChangeShapes Go.WideShapes Go.ChangeAt Go.RowKit
open Go.ChangeMaps (open_string shut_string)
open Go.Proofs.Ythafoodchbpgdab.math
open Go.Proofs.Ythafoodchbpgdab.walks
set_option linter.unusedVariables false

theorem own : ownKnob Try.prog.godebug = none := by kernel_rfl

theorem spec_no0 (a0 a1 : Int) (sa : smallB a0 = false) (W : World) :
    Calls Try.prog 6 #[.int .i64 a0, .int .i64 a1] W fun e W' => e = .returned (.tuple #[.int .i64 0, .bool false, .bool false]) ∧ W' = W := by
  go_enter Try.func6, Try.ntmps6
  go_wp2_with (first | (go_at_call 12; refine (spec_two _ _ _).mono ?_; rintro e w' ⟨rfl, rfl⟩))
  go_ret3
  exact ⟨rfl, rfl⟩

theorem spec_no1 (a0 a1 : Int) (sa : smallB a0 = true) (sb : smallB a1 = false) (W : World) :
    Calls Try.prog 6 #[.int .i64 a0, .int .i64 a1] W fun e W' => e = .returned (.tuple #[.int .i64 0, .bool false, .bool false]) ∧ W' = W := by
  go_enter Try.func6, Try.ntmps6
  go_wp2_with (first | (go_at_call 12; refine (spec_two _ _ _).mono ?_; rintro e w' ⟨rfl, rfl⟩))
  go_ret3
  exact ⟨rfl, rfl⟩

theorem spec_yes (a0 a1 : Int) (sa : smallB a0 = true) (sb : smallB a1 = true) (W : World) :
    Calls Try.prog 6 #[.int .i64 a0, .int .i64 a1] W fun e W' => e = .returned (.tuple #[.int .i64 (tagW (unt a0 - unt a1)), .bool (inB (unt a0 - unt a1)), .bool true]) ∧ W' = W := by
  obtain ⟨la, ua, _⟩ := smallB_out sa
  obtain ⟨lb, ub, _⟩ := smallB_out sb
  obtain ⟨fa, xa, ya⟩ := small_form sa
  obtain ⟨fb, xb, yb⟩ := small_form sb
  have pa : -32767 ≤ sgn a0 := by omega
  have qa : sgn a0 ≤ 32767 := by omega
  have pb : -32767 ≤ sgn a1 := by omega
  have qb : sgn a1 ≤ 32767 := by omega
  have FA : Hid (sgn a0 = 2 * unt a0 + 1) := fa
  have FB : Hid (sgn a1 = 2 * unt a1 + 1) := fb
  clear fa fb
  go_enter Try.func6, Try.ntmps6
  go_wp2_with (first | (go_at_call 12; refine (spec_two _ _ _).mono ?_; rintro e w' ⟨rfl, rfl⟩) | (go_at_call 13; refine (spec_tagged _ _).mono ?_; rintro e w' ⟨rfl, rfl⟩))
  go_ret3
  exact ⟨rfl, rfl⟩

theorem impl_no0 (a0 a1 : Int) (sa : smallB a0 = false) (W : World) :
    Calls Try.prog 7 #[.int .i64 a0, .int .i64 a1] W fun e W' => e = .returned (.tuple #[.int .i64 0, .bool false, .bool false]) ∧ W' = W := by
  go_enter Try.func7, Try.ntmps7
  go_wp2_with (first | (go_at_call 14; refine (impl_isSmall _ _).mono ?_; rintro e w' ⟨rfl, rfl⟩) | (go_at_call 16; refine (impl_signedWord _ ?_ ?_ _).mono ?_; omega; omega; rintro e w' ⟨rfl, rfl⟩))
  go_ret3
  exact ⟨rfl, rfl⟩

theorem impl_no1 (a0 a1 : Int) (sa : smallB a0 = true) (sb : smallB a1 = false) (W : World) :
    Calls Try.prog 7 #[.int .i64 a0, .int .i64 a1] W fun e W' => e = .returned (.tuple #[.int .i64 0, .bool false, .bool false]) ∧ W' = W := by
  go_enter Try.func7, Try.ntmps7
  go_wp2_with (first | (go_at_call 14; refine (impl_isSmall _ _).mono ?_; rintro e w' ⟨rfl, rfl⟩) | (go_at_call 16; refine (impl_signedWord _ ?_ ?_ _).mono ?_; omega; omega; rintro e w' ⟨rfl, rfl⟩))
  go_ret3
  exact ⟨rfl, rfl⟩

theorem impl_yes (a0 a1 : Int) (sa : smallB a0 = true) (sb : smallB a1 = true) (W : World) :
    Calls Try.prog 7 #[.int .i64 a0, .int .i64 a1] W fun e W' => e = .returned (.tuple #[.int .i64 (tagW (unt a0 - unt a1)), .bool (inB (unt a0 - unt a1)), .bool true]) ∧ W' = W := by
  obtain ⟨la, ua, _⟩ := smallB_out sa
  obtain ⟨lb, ub, _⟩ := smallB_out sb
  obtain ⟨fa, xa, ya⟩ := small_form sa
  obtain ⟨fb, xb, yb⟩ := small_form sb
  have pa : -32767 ≤ sgn a0 := by omega
  have qa : sgn a0 ≤ 32767 := by omega
  have pb : -32767 ≤ sgn a1 := by omega
  have qb : sgn a1 ≤ 32767 := by omega
  have FA : Hid (sgn a0 = 2 * unt a0 + 1) := fa
  have FB : Hid (sgn a1 = 2 * unt a1 + 1) := fb
  clear fa fb
  go_enter Try.func7, Try.ntmps7
  go_wp2_with (first | (go_at_call 14; refine (impl_isSmall _ _).mono ?_; rintro e w' ⟨rfl, rfl⟩) | (go_at_call 16; refine (impl_signedWord _ ?_ ?_ _).mono ?_; omega; omega; rintro e w' ⟨rfl, rfl⟩) | (go_at_call 15; refine (impl_smallWord (unt a0 - unt a1) _ ?_ ?_ ?_ _).mono ?_; (have h1 := FA.out; have h2 := FB.out; omega); omega; omega; rintro e w' ⟨rfl, rfl⟩))
  go_ret3
  exact ⟨rfl, rfl⟩

theorem walk (a0 : Int) (a1 : Int) (w0 : (Lit.int .i64 a0).wf = true) (w1 : (Lit.int .i64 a1).wf = true) (w : World) :
    Calls Try.prog 3 #[.int .i64 a0, .int .i64 a1] w fun e w' => e = .returned (.bool true) ∧ Grown w w' := by
  cases sa : smallB a0
  · skip
    go_enter Try.func3, Try.ntmps3
    go_wp2_with (first | (go_at_call 6; refine (spec_no0 a0 a1 sa _).mono ?_; rintro e w' ⟨rfl, rfl⟩) | (go_at_call 7; refine (impl_no0 a0 a1 sa _).mono ?_; rintro e w' ⟨rfl, rfl⟩))
    go_ret
    exact ⟨rfl, by repeat (first | exact Grown.refl _ | apply Grown.drew | apply Grown.alloc)⟩
  cases sb : smallB a1
  · skip
    go_enter Try.func3, Try.ntmps3
    go_wp2_with (first | (go_at_call 6; refine (spec_no1 a0 a1 sa sb _).mono ?_; rintro e w' ⟨rfl, rfl⟩) | (go_at_call 7; refine (impl_no1 a0 a1 sa sb _).mono ?_; rintro e w' ⟨rfl, rfl⟩))
    go_ret
    exact ⟨rfl, by repeat (first | exact Grown.refl _ | apply Grown.drew | apply Grown.alloc)⟩
  go_enter Try.func3, Try.ntmps3
  go_wp2_with (first | (go_at_call 6; refine (spec_yes a0 a1 sa sb _).mono ?_; rintro e w' ⟨rfl, rfl⟩) | (go_at_call 7; refine (impl_yes a0 a1 sa sb _).mono ?_; rintro e w' ⟨rfl, rfl⟩))
  go_ret
  exact ⟨rfl, by repeat (first | exact Grown.refl _ | apply Grown.drew | apply Grown.alloc)⟩

set_option maxRecDepth 100000 in
theorem lifted (os : Os) (started : os.Started) (H : Type) (enc : TypeId × Value → H) :
    ReturnsInHanded {} Try.checked os 3 .any (Rows.fnExactSubTaggedSpec.pre6 enc Try.prog Try.f3 Rows.fnExactSubTaggedRow.domain false) (Rows.fnExactSubTaggedSpec.post enc Try.prog Try.f3 false true false false) := by
  refine returnsInHanded_of_change (C := Try.checked) own started (by kernel_rfl) Try.func3
    (ChangeSpec.witness6 (enc := enc) (C := Try.checked) false ⟨#[], #[.int .i64 0, .int .i64 0], []⟩ 8 (by kernel_rfl) (by kernel_rfl) (by kernel_rfl) (by kernel_rfl)) ?_
  intro W base args ds gs before hval0 hW hcnd _
  have hval : ∀ (j : Nat) t v, Try.f3.params[j]? = some t → args[j]? = some v → Value.okWide Try.prog W .any base t v := hval0
  have hW' := hW
  obtain ⟨p, q, hA0, hV, rfl, hfz, hnd⟩ := hW
  have hA : DataW.TrodAll enc Try.prog W 0 (fun _ => true) true Try.f3.params.toList args.toList ds p := hA0
  rw [Try.params3] at hA hval
  obtain ⟨v0, vs0, d0, ds0, p0, q0, hargs, rfl, rfl, h0, r0⟩ := trodAll_cons hA
  obtain ⟨v1, vs1, d1, ds1, p1, q1, rfl, rfl, rfl, h1, r1⟩ := trodAll_cons r0
  obtain ⟨rfl, rfl, rfl⟩ := trodAll_nil r1
  obtain rfl : args = #[v0, v1] := by cases args; simp_all
  obtain ⟨rfl, rfl⟩ := trodVars_none hV
  obtain ⟨a0, rfl, rfl, rfl, w0⟩ := open_int Try.underlying3 (hval 0 3 v0 rfl rfl) h0
  obtain ⟨a1, rfl, rfl, rfl, w1⟩ := open_int Try.underlying3 (hval 1 3 v1 rfl rfl) h1
  clear hA0 hval0
  simp only [List.append_nil] at hW'
  refine (walk a0 a1 w0 w1 W).mono fun e W' ⟨he, hg⟩ => ?_
  subst he
  exact ⟨_, rfl, post_of_same (pa := []) (pv := []) hW' (fun _ _ _ => (trodAll_cons_mk (shut_bool Try.underlying4 _) trodAll_mk0)) (fun sp _ => (trodAll_cons_mk (shut_int Try.underlying3 w0) (trodAll_cons_mk (shut_int Try.underlying3 w1) trodAll_mk0))) (fun _ _ => rfl) rfl
    (hg.frame _) hg.2.1 (ok_one (by kernel_rfl) rfl (okWide_bool_mk Try.underlying4 _))⟩

theorem over : Rows.fnExactSubTaggedRow.holds Try.pinned (OpenSpec.ofChange Rows.fnExactSubTaggedSpec) :=
  OpenClaim.holds_of_wide 3 Try.f3 rfl rfl rfl rfl rfl rfl rfl ⟨rfl, rfl, rfl, rfl, rfl⟩ rfl rfl rfl rfl rfl (by kernel_rfl) Try.func3 (by kernel_rfl)
    (of_decide_eq_true (by kernel_rfl)) (by unfold Func.isWrapper; first | (rw [if_pos (by decide +kernel)]; kernel_rfl) | (rw [if_neg (by decide +kernel)]; exact ⟨rfl, rfl⟩))
    (fun os started H enc _ => lifted os started H enc)

theorem proved : Rows.FnExactSubTaggedSaid :=
  over
#print axioms proved
end Go.Proofs.Ythafoodchbpgdab.fnExactSubTagged
