/-
  Of every flow: the program tells whether it is a good one as the specification does, and writes into nothing that was there.
-/
import Derived.Test.YtfplpabnfhkmlaaRows
import Derived.WalkKit
import Derived.ProofKit
import Derived.OpenShut
import Derived.ShutString
import Derived.ChangeOld
import Derived.Below
import Derived.Carry
import Derived.SizedLaws
import Derived.Test.YtfplpabnfhkmlaaMagMath
import Derived.Test.YtfplpabnfhkmlaaCodeMath
import Derived.Test.YtfplpabnfhkmlaaRunMath
import Derived.Test.YtfplpabnfhkmlaaFlowMath
import Derived.Test.YtfplpabnfhkmlaaInts
import Derived.Test.YtfplpabnfhkmlaaRecsInstr
import Derived.Test.YtfplpabnfhkmlaaFlow
import Derived.Test.YtfplpabnfhkmlaaFlowEq
import Derived.Test.YtfplpabnfhkmlaaFlowSpec
import Derived.Test.YtfplpabnfhkmlaaFlowImpl
import Derived.Test.YtfplpabnfhkmlaaOpenFlow
namespace Go.Proofs.Ytfplpabnfhkmlaa.fnExactGoodFlow
open Go.ChangeShapes Go.WideShapes Go.ChangeAt Go.RowKit
open Go.ChangeMaps (open_string shut_string)
open Go.Proofs.Ytfplpabnfhkmlaa.math
open Go.Proofs.Ytfplpabnfhkmlaa.ints
open Go.Proofs.Ytfplpabnfhkmlaa.walks
set_option linter.unusedVariables false

theorem own : ownKnob Try.prog.godebug = none := by kernel_rfl
theorem laidOut : laidOutB Try.prog = true := by kernel_rfl

set_option maxHeartbeats 4000000 in
theorem walk_of (a0 : Option Addr) (len0 cap0 : Nat) (f0 : Nat → Bv) (w : World) (w0 : Hid (Flow w a0 len0 f0)) (n0 : Hid (∀ k, k < len0 → (f0 k).len ≤ maxLen)) (b0 : len0 ≤ 140737488351232) :
    Calls Try.prog 3 #[.slice a0 len0 cap0] w fun e w' => e = .returned (.bool true) ∧ Below w.heap.size w w' := by
  go_enter Try.func3, Try.ntmps3
  go_wp2_with fail
  refine (flow_size a0 len0 cap0 f0 w b0 (fun k hk => Nat.le_trans (n0.out k hk) (by unfold maxLen; omega)) w0).mono ?_
  rintro e w1 ⟨v, rfl, hv, hB⟩
  have B1 : Hid (Below w.heap.size w w1) := hB
  clear hB
  rcases hv with ⟨hl, h0, hn⟩ | rfl
  rotate_left
  · go_wp2
    go_ret
    exact ⟨rfl, B1.out⟩
  have HL : Hid (∀ k, k < len0 → (f0 k).len ≤ 1048576) := by
    show ∀ k, k < len0 → (f0 k).len ≤ 1048576
    intro k hk
    have := left_len hk (by rw [← hl]; exact h0)
    omega
  clear hl n0
  go_wp2_with fail
  refine (flow_list _ _ _ f0 _ hn HL (w0.out.kept B1.out)).mono ?_
  rintro e w2 ⟨rfl, hF, hB⟩
  have F2 : Hid (Flow w2 (some ⟨w1.heap.size, 0, none⟩) len0 f0) := hF
  have B2 : Hid (Below w.heap.size w w2) := B1.out.trans (hB.mono B1.out.size)
  clear hB hF
  go_wp2_with fail
  refine (spec_flow _ _ _ f0 _ hn HL F2).mono ?_
  rintro e w3 ⟨rfl, hB⟩
  have B3 : Hid (Below w.heap.size w w3) := B2.out.trans (hB.mono B2.out.size)
  clear hB F2
  go_wp2_with fail
  refine (flow_list _ _ _ f0 _ hn HL (w0.out.kept B3.out)).mono ?_
  rintro e w4 ⟨rfl, hF, hB⟩
  have F4 : Hid (Flow w4 (some ⟨w3.heap.size, 0, none⟩) len0 f0) := hF
  have B4 : Hid (Below w.heap.size w w4) := B3.out.trans (hB.mono B3.out.size)
  clear hB hF
  go_wp2_with fail
  refine (impl_flow _ _ _ f0 _ hn HL F4).mono ?_
  rintro e w5 ⟨rfl, hB⟩
  have F5 : Hid (Flow w5 (some ⟨w3.heap.size, 0, none⟩) len0 f0) := F4.out.kept hB
  have B5 : Hid (Below w.heap.size w w5) := B4.out.trans (hB.mono B4.out.size)
  clear hB F4
  go_wp2_with fail
  refine (flow_list _ _ _ f0 _ hn HL (w0.out.kept B5.out)).mono ?_
  rintro e w6 ⟨rfl, hF, hB⟩
  have F6 : Hid (Flow w6 (some ⟨w5.heap.size, 0, none⟩) len0 f0) := hF
  have G6 : Hid (Flow w6 (some ⟨w3.heap.size, 0, none⟩) len0 f0) := F5.out.kept hB
  have B6 : Hid (Below w.heap.size w w6) := B5.out.trans (hB.mono B5.out.size)
  clear hB hF F5
  go_wp2_with fail
  refine (flow_same _ _ _ _ _ f0 _ hn HL G6 F6).mono ?_
  rintro e w7 ⟨rfl, hB⟩
  have B7 : Hid (Below w.heap.size w w7) := B6.out.trans (hB.mono B6.out.size)
  clear hB
  go_wp2
  go_ret
  exact ⟨rfl, B7.out⟩
theorem walk (a0 : Option Addr) (len0 cap0 : Nat) (f0 : Nat → Bv) (w : World) (w0 : Flow w a0 len0 f0) (n0 : ∀ k, k < len0 → (f0 k).len ≤ maxLen) (b0 : len0 ≤ 140737488351232) :
    Calls Try.prog 3 #[.slice a0 len0 cap0] w fun e w' => e = .returned (.bool true) ∧ Below w.heap.size w w' := by
  exact walk_of a0 len0 cap0 f0 w w0 n0 b0

set_option maxRecDepth 100000 in
theorem lifted (os : Os) (started : os.Started) (H : Type) (enc : TypeId × Value → H) :
    ReturnsInHanded {} Try.checked os 3 .any (Rows.fnExactGoodFlowSpec.pre6 enc Try.prog Try.f3 Rows.fnExactGoodFlowRow.domain false) (Rows.fnExactGoodFlowSpec.post enc Try.prog Try.f3 false true false false) := by
  refine returnsInHanded_of_change_sized (C := Try.checked) own started (by kernel_rfl) Try.func3
    (ChangeSpec.witness6 (enc := enc) (C := Try.checked) false ⟨#[], #[.slice none 0 0], []⟩ 8 (by kernel_rfl) (by kernel_rfl) (by kernel_rfl) (by kernel_rfl)) ?_
  intro W base args ds gs before hval0 hW hcnd hsz0 _
  have hval : ∀ (j : Nat) t v, Try.f3.params[j]? = some t → args[j]? = some v → Value.okWide Try.prog W .any base t v := hval0
  have hW' := hW
  obtain ⟨p, q, hA0, hV, rfl, hfz, hnd⟩ := hW
  have hsz : (DataW.weightsEach Try.prog (Try.f3.params.toList ++ Rows.fnExactGoodFlowSpec.plain.varTypes Try.prog) (ds ++ gs)).all (· ≤ reachBytes) = true := hsz0
  have hA : DataW.TrodAll enc Try.prog W 0 (fun _ => true) true Try.f3.params.toList args.toList ds p := hA0
  rw [Try.params3] at hA hval hsz
  obtain ⟨v0, vs0, d0, ds0, p0, q0, hargs, rfl, rfl, h0, r0⟩ := trodAll_cons hA
  obtain ⟨rfl, rfl, rfl⟩ := trodAll_nil r0
  obtain rfl : args = #[v0] := by cases args; simp_all
  obtain ⟨rfl, rfl⟩ := trodVars_none hV
  obtain ⟨a0, len0, cap0, rfl⟩ := okWide_slice Try.underlying22 (hval 0 22 v0 rfl rfl)
  have k0 := h0
  have lt0 : ∀ x ∈ p0, x.block < W.heap.size := by obtain ⟨m, hm⟩ := k0; exact DataW.trod_lt m _ _ _ hm
  obtain ⟨f0, w0, n0, b0⟩ : ∃ f, Flow W a0 len0 f ∧ (∀ k, k < len0 → (f k).len ≤ maxLen) ∧ len0 ≤ 140737488351232 := by
    obtain ⟨fuel, hf⟩ := h0
    rcases open_flow Try.underlying22 Try.underlying62 (show Try.prog.cellsOf 62 = 4 by kernel_rfl) ⟨rfl, (show Try.prog.cellsOf 60 = 1 by kernel_rfl), Try.underlying60⟩ ⟨rfl, (show Try.prog.cellsOf 3 = 1 by kernel_rfl), Try.underlying3⟩ ⟨rfl, (show Try.prog.cellsOf 3 = 1 by kernel_rfl), Try.underlying3⟩ ⟨rfl, (show Try.prog.cellsOf 3 = 1 by kernel_rfl), Try.underlying3⟩ Try.underlying127 (show Try.prog.cellsOf 127 = 5 by kernel_rfl) rfl (by
      intro i f h
      match i, h with
      | 0, h => obtain rfl := Option.some.inj h; exact ⟨rfl, (show Try.prog.cellsOf 3 = 1 by kernel_rfl), Try.underlying3⟩
      | 1, h => obtain rfl := Option.some.inj h; exact ⟨rfl, (show Try.prog.cellsOf 3 = 1 by kernel_rfl), Try.underlying3⟩
      | 2, h => obtain rfl := Option.some.inj h; exact ⟨rfl, (show Try.prog.cellsOf 3 = 1 by kernel_rfl), Try.underlying3⟩
      | 3, h => obtain rfl := Option.some.inj h; exact ⟨rfl, (show Try.prog.cellsOf 3 = 1 by kernel_rfl), Try.underlying3⟩
      | 4, h => obtain rfl := Option.some.inj h; exact ⟨rfl, (show Try.prog.cellsOf 3 = 1 by kernel_rfl), Try.underlying3⟩
      | i + 5, h => simp at h) hf with hcs | ⟨a, l, c, m, D, E, hcs, hl, hm, hlm, hx, hcell⟩
    · simp [Value.cells] at hcs
      obtain ⟨rfl, rfl, rfl⟩ := hcs
      exact ⟨noBs, .inl rfl, fun k hk => by omega, by omega⟩
    · simp [Value.cells] at hcs
      obtain ⟨rfl, rfl, rfl⟩ := hcs
      obtain ⟨f, hf1, hf2⟩ := flow_of hlm hcell
      have hs := sized_slice hsz (j := 0) (t := 22) (e := 62) rfl (by rw [show d0 = _ from hx]; rfl) Try.underlying22
      rw [show Try.prog.bytesOf 62 = 48 by kernel_rfl] at hs
      simp only [List.length_map, List.length_range, reachBytes] at hs
      exact ⟨f, hf1, hf2, by omega⟩
  clear hA0 hval0
  refine (walk a0 len0 cap0 f0 W w0 n0 b0).mono fun e W' ⟨he, bel⟩ => ?_
  subst he
  exact ⟨_, rfl, _, _, _, [], _, [], hW', trodAll_mk1 (shut_bool Try.underlying4 _), (trodAll_cons_mk (Below.trod laidOut (by kernel_rfl) (of_decide_eq_true (by kernel_rfl)) k0 bel lt0) trodAll_mk0), rfl, bel.frame _, fun h => by cases h⟩

theorem over : Rows.fnExactGoodFlowRow.holds Try.pinned (OpenSpec.ofChange Rows.fnExactGoodFlowSpec) :=
  OpenClaim.holds_of_wide 3 Try.f3 rfl rfl rfl rfl rfl rfl rfl ⟨rfl, rfl, rfl, rfl, rfl⟩ rfl rfl rfl rfl rfl (by kernel_rfl) Try.func3 (by kernel_rfl)
    (of_decide_eq_true (by kernel_rfl)) (by unfold Func.isWrapper; first | (rw [if_pos (by decide +kernel)]; kernel_rfl) | (rw [if_neg (by decide +kernel)]; exact ⟨rfl, rfl⟩))
    (fun os started H enc _ => lifted os started H enc)

theorem proved : Rows.FnExactGoodFlowSaid :=
  over
#print axioms proved
end Go.Proofs.Ytfplpabnfhkmlaa.fnExactGoodFlow
