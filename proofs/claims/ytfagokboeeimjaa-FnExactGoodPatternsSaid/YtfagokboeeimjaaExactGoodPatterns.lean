/-
  Of every list of patterns: the program tells whether they are good as the specification does, and writes into nothing that was there.
-/
import Derived.Test.YtfagokboeeimjaaRows
import Derived.WalkKit
import Derived.ProofKit
import Derived.OpenShut
import Derived.ShutString
import Derived.ChangeOld
import Derived.Below
import Derived.Carry
import Derived.SizedLaws
import Derived.Test.YtfagokboeeimjaaMagMath
import Derived.Test.YtfagokboeeimjaaTreeMath
import Derived.Test.YtfagokboeeimjaaInts
import Derived.Test.YtfagokboeeimjaaPats
import Derived.Test.YtfagokboeeimjaaOpenPats
import Derived.Test.YtfagokboeeimjaaPatSpec
import Derived.Test.YtfagokboeeimjaaPatImpl
import Derived.Test.YtfagokboeeimjaaTilesImpl
namespace Go.Proofs.Ytfagokboeeimjaa.fnExactGoodPatterns
open Go.ChangeShapes Go.WideShapes Go.ChangeAt Go.RowKit
open Go.ChangeMaps (open_string shut_string)
open Go.Proofs.Ytfagokboeeimjaa.math
open Go.Proofs.Ytfagokboeeimjaa.ints
open Go.Proofs.Ytfagokboeeimjaa.walks
set_option linter.unusedVariables false

theorem own : ownKnob Try.prog.godebug = none := by kernel_rfl
theorem laidOut : laidOutB Try.prog = true := by kernel_rfl

set_option maxHeartbeats 4000000 in
theorem walk_of (a0 : Option Addr) (len0 cap0 : Nat) (f0 : Nat → Pv) (w : World) (w0 : Hid (Pats w a0 len0 f0)) (n0 : Hid (∀ k, k < len0 → (f0 k).zs.length ≤ maxLen)) (b0 : len0 ≤ 140737488351232) :
    Calls Try.prog 4 #[.slice a0 len0 cap0] w fun e w' => e = .returned (.bool true) ∧ Below w.heap.size w w' := by
  go_enter Try.func4, Try.ntmps4
  go_wp2_with fail
  refine (pats_size a0 len0 cap0 f0 w b0 (fun k hk => Nat.le_trans (n0.out k hk) (by unfold maxLen; omega)) w0).mono ?_
  rintro e w1 ⟨v, rfl, hv, hB⟩
  have B1 : Hid (Below w.heap.size w w1) := hB
  clear hB
  rcases hv with ⟨h0, h1, hn, hl⟩ | rfl
  rotate_left
  · go_wp2
    go_ret
    exact ⟨rfl, B1.out⟩
  have HL : Hid (∀ k, k < len0 → (f0 k).zs.length ≤ 1048576) := hl
  obtain ⟨c, HC⟩ : ∃ c, Hid (patsB f0 len0 = c) := ⟨_, rfl⟩
  clear hl n0
  go_wp2_with fail
  refine (pats_list _ _ _ f0 _ hn HL (w0.out.kept B1.out)).mono ?_
  rintro e w2 ⟨G2, rfl, hF, hB⟩
  have F2 : Hid (Pats w2 (some ⟨w1.heap.size, 0, none⟩) len0 f0) := hF.pats
  have B2 : Hid (Below w.heap.size w w2) := B1.out.trans (hB.mono B1.out.size)
  clear hB hF
  go_wp2_with fail
  refine (spec_pats _ _ _ f0 _ hn HL F2).mono ?_
  rw [HC.out]
  rintro e w3 ⟨rfl, hB⟩
  have B3 : Hid (Below w.heap.size w w3) := B2.out.trans (hB.mono B2.out.size)
  clear hB F2
  go_wp2_with fail
  refine (pats_list _ _ _ f0 _ hn HL (w0.out.kept B3.out)).mono ?_
  rintro e w4 ⟨G4, rfl, hF, hB⟩
  have F4 : Hid (Pats w4 (some ⟨w3.heap.size, 0, none⟩) len0 f0) := hF.pats
  have B4 : Hid (Below w.heap.size w w4) := B3.out.trans (hB.mono B3.out.size)
  clear hB hF
  go_wp2_with fail
  refine (impl_pats _ _ _ f0 _ hn HL F4).mono ?_
  rw [HC.out]
  rintro e w5 ⟨rfl, hB⟩
  have F5 : Hid (Pats w5 (some ⟨w3.heap.size, 0, none⟩) len0 f0) := F4.out.kept hB
  have B5 : Hid (Below w.heap.size w w5) := B4.out.trans (hB.mono B4.out.size)
  clear hB F4
  go_wp2_with fail
  refine (pats_list _ _ _ f0 _ hn HL (w0.out.kept B5.out)).mono ?_
  rintro e w6 ⟨G6, rfl, hF, hB⟩
  have F6 : Hid (Pats w6 (some ⟨w5.heap.size, 0, none⟩) len0 f0) := hF.pats
  have K6 : Hid (Pats w6 (some ⟨w3.heap.size, 0, none⟩) len0 f0) := F5.out.kept hB
  have B6 : Hid (Below w.heap.size w w6) := B5.out.trans (hB.mono B5.out.size)
  clear hB hF F5
  go_wp2_with fail
  refine (pats_same _ _ _ _ _ f0 _ hn HL K6 F6).mono ?_
  rintro e w7 ⟨rfl, hB⟩
  have B7 : Hid (Below w.heap.size w w7) := B6.out.trans (hB.mono B6.out.size)
  clear hB
  go_wp2
  go_ret
  exact ⟨rfl, B7.out⟩
theorem walk (a0 : Option Addr) (len0 cap0 : Nat) (f0 : Nat → Pv) (w : World) (w0 : Pats w a0 len0 f0) (n0 : ∀ k, k < len0 → (f0 k).zs.length ≤ maxLen) (b0 : len0 ≤ 140737488351232) :
    Calls Try.prog 4 #[.slice a0 len0 cap0] w fun e w' => e = .returned (.bool true) ∧ Below w.heap.size w w' := by
  exact walk_of a0 len0 cap0 f0 w w0 n0 b0

set_option maxRecDepth 100000 in
theorem lifted (os : Os) (started : os.Started) (H : Type) (enc : TypeId × Value → H) :
    ReturnsInHanded {} Try.checked os 4 .any (Rows.fnExactGoodPatternsSpec.pre6 enc Try.prog Try.f4 Rows.fnExactGoodPatternsRow.domain false) (Rows.fnExactGoodPatternsSpec.post enc Try.prog Try.f4 false true false false) := by
  refine returnsInHanded_of_change_sized (C := Try.checked) own started (by kernel_rfl) Try.func4
    (ChangeSpec.witness6 (enc := enc) (C := Try.checked) false ⟨#[], #[.slice none 0 0], []⟩ 8 (by kernel_rfl) (by kernel_rfl) (by kernel_rfl) (by kernel_rfl)) ?_
  intro W base args ds gs before hval0 hW hcnd hsz0 _
  have hval : ∀ (j : Nat) t v, Try.f4.params[j]? = some t → args[j]? = some v → Value.okWide Try.prog W .any base t v := hval0
  have hW' := hW
  obtain ⟨p, q, hA0, hV, rfl, hfz, hnd⟩ := hW
  have hsz : (DataW.weightsEach Try.prog (Try.f4.params.toList ++ Rows.fnExactGoodPatternsSpec.plain.varTypes Try.prog) (ds ++ gs)).all (· ≤ reachBytes) = true := hsz0
  have hA : DataW.TrodAll enc Try.prog W 0 (fun _ => true) true Try.f4.params.toList args.toList ds p := hA0
  rw [Try.params4] at hA hval hsz
  obtain ⟨v0, vs0, d0, ds0, p0, q0, hargs, rfl, rfl, h0, r0⟩ := trodAll_cons hA
  obtain ⟨rfl, rfl, rfl⟩ := trodAll_nil r0
  obtain rfl : args = #[v0] := by cases args; simp_all
  obtain ⟨rfl, rfl⟩ := trodVars_none hV
  obtain ⟨a0, len0, cap0, rfl⟩ := okWide_slice Try.underlying26 (hval 0 26 v0 rfl rfl)
  have k0 := h0
  have lt0 : ∀ x ∈ p0, x.block < W.heap.size := by obtain ⟨m, hm⟩ := k0; exact DataW.trod_lt m _ _ _ hm
  obtain ⟨f0, w0, n0, b0⟩ : ∃ f, Pats W a0 len0 f ∧ (∀ k, k < len0 → (f k).zs.length ≤ maxLen) ∧ len0 ≤ 140737488351232 := by
    obtain ⟨fuel, hf⟩ := h0
    rcases open_pats Try.underlying26 Try.underlying34 (show Try.prog.cellsOf 34 = 2 by kernel_rfl) ⟨rfl, (show Try.prog.cellsOf 22 = 1 by kernel_rfl), Try.underlying22⟩ ⟨rfl, (show Try.prog.cellsOf 3 = 1 by kernel_rfl), Try.underlying3⟩ Try.underlying3 (show Try.prog.cellsOf 3 = 1 by kernel_rfl) hf with hcs | ⟨a, l, c, m, D, E, hcs, hl, hm, hlm, hx, hcell⟩
    · simp [Value.cells] at hcs
      obtain ⟨rfl, rfl, rfl⟩ := hcs
      exact ⟨noPs, .inl rfl, fun k hk => by omega, by omega⟩
    · simp [Value.cells] at hcs
      obtain ⟨rfl, rfl, rfl⟩ := hcs
      obtain ⟨f, hf1, hf2⟩ := pats_of hlm hcell
      have hs := sized_slice hsz (j := 0) (t := 26) (e := 34) rfl (by rw [show d0 = _ from hx]; rfl) Try.underlying26
      rw [show Try.prog.bytesOf 34 = 32 by kernel_rfl] at hs
      simp only [List.length_map, List.length_range, reachBytes] at hs
      exact ⟨f, hf1, hf2, by omega⟩
  clear hA0 hval0
  refine (walk a0 len0 cap0 f0 W w0 n0 b0).mono fun e W' ⟨he, bel⟩ => ?_
  subst he
  exact ⟨_, rfl, _, _, _, [], _, [], hW', trodAll_mk1 (shut_bool Try.underlying4 _), (trodAll_cons_mk (Below.trod laidOut (by kernel_rfl) (of_decide_eq_true (by kernel_rfl)) k0 bel lt0) trodAll_mk0), rfl, bel.frame _, fun h => by cases h⟩

theorem over : Rows.fnExactGoodPatternsRow.holds Try.pinned (OpenSpec.ofChange Rows.fnExactGoodPatternsSpec) :=
  OpenClaim.holds_of_wide 4 Try.f4 rfl rfl rfl rfl rfl rfl rfl ⟨rfl, rfl, rfl, rfl, rfl⟩ rfl rfl rfl rfl rfl (by kernel_rfl) Try.func4 (by kernel_rfl)
    (of_decide_eq_true (by kernel_rfl)) (by unfold Func.isWrapper; first | (rw [if_pos (by decide +kernel)]; kernel_rfl) | (rw [if_neg (by decide +kernel)]; exact ⟨rfl, rfl⟩))
    (fun os started H enc _ => lifted os started H enc)

theorem proved : Rows.FnExactGoodPatternsSaid :=
  over
#print axioms proved
end Go.Proofs.Ytfagokboeeimjaa.fnExactGoodPatterns
