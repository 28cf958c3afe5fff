/-
  Of every list of steps: the program tells whether two names have one value as the specification does, and writes into nothing that was there.
-/
import Derived.Test.YthelpbghcmpcgaaRows
import Derived.WalkKit
import Derived.ProofKit
import Derived.OpenShut
import Derived.ShutString
import Derived.ChangeOld
import Derived.Below
import Derived.Carry
import Derived.SizedLaws
import Derived.Test.YthelpbghcmpcgaaOpenFlat
import Derived.Test.YthelpbghcmpcgaaMagMath
import Derived.Test.YthelpbghcmpcgaaCodeMath
import Derived.Test.YthelpbghcmpcgaaInts
import Derived.Test.YthelpbghcmpcgaaRecsInstr
import Derived.Test.YthelpbghcmpcgaaCodeGood
import Derived.Test.YthelpbghcmpcgaaStepsOf
import Derived.Test.YthelpbghcmpcgaaNumKeys
import Derived.Test.YthelpbghcmpcgaaNumRun
import Derived.Test.YthelpbghcmpcgaaNumSame
import Derived.Test.YthelpbghcmpcgaaNumAll
import Derived.Test.YthelpbghcmpcgaaNumTold
namespace Go.Proofs.Ythelpbghcmpcgaa.fnExactSameValue
open Go.ChangeShapes Go.WideShapes Go.ChangeAt Go.RowKit
open Go.ChangeMaps (open_string shut_string)
open Go.Proofs.Ythelpbghcmpcgaa.math
open Go.Proofs.Ythelpbghcmpcgaa.ints
open Go.Proofs.Ythelpbghcmpcgaa.walks
open Go.Proofs.Ythelpbghcmpcgaa.nums
set_option linter.unusedVariables false

theorem own : ownKnob Try.prog.godebug = none := by kernel_rfl
theorem laidOut : laidOutB Try.prog = true := by kernel_rfl

set_option maxHeartbeats 2000000 in
theorem walk_of (a0 : Option Addr) (len0 cap0 : Nat) (z0 : List Int) (a1 a2 : Int) (w : World) (hz : Hid (z0.length = len0 * 5)) (hlen : len0 ≤ 1048576) (h : Hid (Ints w a0 z0)) :
    Calls Try.prog 6 #[.slice a0 len0 cap0, .int .i64 a1, .int .i64 a2] w fun e w' => e = .returned (.bool true) ∧ Below w.heap.size w w' := by
  have hl1 : (len0 : Int) ≤ 1048576 := by omega
  go_enter Try.func6, Try.ntmps6
  go_wp2_with fail
  refine (Instr_size _ _ _ _ _ (by omega) (by omega) (by omega)).mono ?_
  rw [if_pos hl1]
  rintro e w' ⟨rfl, hw⟩
  rw [hw]
  clear hw w'
  have hleft : 0 ≤ (1048576 : Int) - (len0 : Int) := by omega
  go_wp2_with fail
  refine (Instr_list _ _ _ z0 _ hz hlen h).mono ?_
  rintro e w1 ⟨rfl, hM1, hB1⟩
  have M1 : Hid (Mine w1 w.heap.size (some ⟨w.heap.size, 0, none⟩) z0) := hM1
  have B1 : Hid (Below w.heap.size w w1) := hB1
  clear hM1 hB1
  go_wp2_with fail
  refine (spec_same _ _ _ z0 a1 a2 _ hz hlen M1.out.ints).mono ?_
  obtain ⟨c, r, HC⟩ : ∃ (c : Bool) (r : Bool), Hid ((sameOk z0 len0 a1 a2 = true ∧ c = true ∧ r = sameV z0 len0 a1 a2) ∨ (sameOk z0 len0 a1 a2 = false ∧ c = false ∧ r = false)) := by
    cases hc : sameOk z0 len0 a1 a2
    · exact ⟨false, false, Or.inr ⟨rfl, rfl, rfl⟩⟩
    · exact ⟨true, sameV z0 len0 a1 a2, Or.inl ⟨rfl, rfl, rfl⟩⟩
  have HR : Hid (∀ (W W' : World) (e : Ending), SameAns z0 len0 a1 a2 W e W' → e = .returned (.tuple #[.bool r, .bool c]) ∧ Below W.heap.size W W') := by
    show ∀ (W W' : World) (e : Ending), _
    rintro W W' e ⟨h | h, hB⟩
    · rcases HC.out with ⟨_, rfl, rfl⟩ | ⟨k, _⟩
      · exact ⟨h.2, hB⟩
      · rw [h.1] at k; cases k
    · rcases HC.out with ⟨k, _⟩ | ⟨_, rfl, rfl⟩
      · rw [h.1] at k; cases k
      · exact ⟨h.2, hB⟩
  clear HC
  intro e w2 hA
  obtain ⟨rfl, hB2⟩ := HR.out _ _ _ hA
  clear hA
  have B2 : Hid (Below w.heap.size w w2) := B1.out.trans (hB2.mono B1.out.size)
  clear hB2
  go_wp2_with fail
  refine (Instr_list _ _ _ z0 _ hz hlen (h.out.kept B2.out)).mono ?_
  rintro e w3 ⟨rfl, hM3, hB3⟩
  have M3 : Hid (Mine w3 w2.heap.size (some ⟨w2.heap.size, 0, none⟩) z0) := hM3
  have B3 : Hid (Below w.heap.size w w3) := B2.out.trans (hB3.mono B2.out.size)
  clear hM3 hB3
  go_wp2_with fail
  refine (impl_same _ _ _ z0 a1 a2 _ hz hlen M3.out.ints).mono ?_
  intro e w4 hA
  obtain ⟨rfl, hB4⟩ := HR.out _ _ _ hA
  clear hA
  have M4 : Hid (Mine w4 w2.heap.size (some ⟨w2.heap.size, 0, none⟩) z0) := M3.out.kept hB4
  have B4 : Hid (Below w.heap.size w w4) := B3.out.trans (hB4.mono B3.out.size)
  clear hB4
  go_wp2_with fail
  refine (Instr_list _ _ _ z0 _ hz hlen (h.out.kept B4.out)).mono ?_
  rintro e w5 ⟨rfl, hM5, hB5⟩
  have M5 : Hid (Mine w5 w4.heap.size (some ⟨w4.heap.size, 0, none⟩) z0) := hM5
  have M5' : Hid (Mine w5 w2.heap.size (some ⟨w2.heap.size, 0, none⟩) z0) := M4.out.kept hB5
  have B5 : Hid (Below w.heap.size w w5) := B4.out.trans (hB5.mono B4.out.size)
  clear hM5 hB5
  go_wp2_with fail
  refine (Instr_same _ _ _ _ _ z0 _ hz hlen M5'.out.ints M5.out.ints).mono ?_
  rintro e w6 ⟨rfl, hB6⟩
  have B6 : Hid (Below w.heap.size w w6) := B5.out.trans (hB6.mono B5.out.size)
  clear hB6
  go_wp2
  go_ret
  exact ⟨rfl, B6.out⟩
theorem walk (a0 : Option Addr) (len0 cap0 : Nat) (z0 : List Int) (a1 : Int) (w1 : (Lit.int .i64 a1).wf = true) (a2 : Int) (w2 : (Lit.int .i64 a2).wf = true) (w : World) (w0 : Ints w a0 z0) (n0 : z0.length = len0 * 5) (b0 : len0 ≤ 140737488351232) :
    Calls Try.prog 6 #[.slice a0 len0 cap0, .int .i64 a1, .int .i64 a2] w fun e w' => e = .returned (.bool true) ∧ Below w.heap.size w w' := by
  by_cases h1 : len0 ≤ 1048576
  · exact walk_of a0 len0 cap0 z0 a1 a2 w n0 h1 w0
  · have hno : 1048576 < (len0 : Int) := by omega
    go_enter Try.func6, Try.ntmps6
    go_wp2_with fail
    refine (Instr_size _ _ _ _ _ (by omega) (by omega) (by omega)).mono ?_
    rw [if_neg (by omega)]
    rintro e w' ⟨rfl, rfl⟩
    go_wp2
    go_ret
    exact ⟨rfl, Below.refl _ _⟩

set_option maxRecDepth 100000 in
theorem lifted (os : Os) (started : os.Started) (H : Type) (enc : TypeId × Value → H) :
    ReturnsInHanded {} Try.checked os 6 .any (Rows.fnExactSameValueSpec.pre6 enc Try.prog Try.f6 Rows.fnExactSameValueRow.domain false) (Rows.fnExactSameValueSpec.post enc Try.prog Try.f6 false true false false) := by
  refine returnsInHanded_of_change_sized (C := Try.checked) own started (by kernel_rfl) Try.func6
    (ChangeSpec.witness6 (enc := enc) (C := Try.checked) false ⟨#[], #[.slice none 0 0, .int .i64 0, .int .i64 0], []⟩ 8 (by kernel_rfl) (by kernel_rfl) (by kernel_rfl) (by kernel_rfl)) ?_
  intro W base args ds gs before hval0 hW hcnd hsz0 _
  have hval : ∀ (j : Nat) t v, Try.f6.params[j]? = some t → args[j]? = some v → Value.okWide Try.prog W .any base t v := hval0
  have hW' := hW
  obtain ⟨p, q, hA0, hV, rfl, hfz, hnd⟩ := hW
  have hsz : (DataW.weightsEach Try.prog (Try.f6.params.toList ++ Rows.fnExactSameValueSpec.plain.varTypes Try.prog) (ds ++ gs)).all (· ≤ reachBytes) = true := hsz0
  have hA : DataW.TrodAll enc Try.prog W 0 (fun _ => true) true Try.f6.params.toList args.toList ds p := hA0
  rw [Try.params6] at hA hval hsz
  obtain ⟨v0, vs0, d0, ds0, p0, q0, hargs, rfl, rfl, h0, r0⟩ := trodAll_cons hA
  obtain ⟨v1, vs1, d1, ds1, p1, q1, rfl, rfl, rfl, h1, r1⟩ := trodAll_cons r0
  obtain ⟨v2, vs2, d2, ds2, p2, q2, rfl, rfl, rfl, h2, r2⟩ := trodAll_cons r1
  obtain ⟨rfl, rfl, rfl⟩ := trodAll_nil r2
  obtain rfl : args = #[v0, v1, v2] := by cases args; simp_all
  obtain ⟨rfl, rfl⟩ := trodVars_none hV
  obtain ⟨a0, len0, cap0, rfl⟩ := okWide_slice Try.underlying22 (hval 0 22 v0 rfl rfl)
  have k0 := h0
  have lt0 : ∀ x ∈ p0, x.block < W.heap.size := by obtain ⟨m, hm⟩ := k0; exact DataW.trod_lt m _ _ _ hm
  obtain ⟨z0, w0, n0, b0⟩ : ∃ zs, Ints W a0 zs ∧ zs.length = len0 * 5 ∧ len0 ≤ 140737488351232 := by
    obtain ⟨fuel, hf⟩ := h0
    rcases open_flat Try.underlying22 Try.underlying54 (show Try.prog.cellsOf 54 = 5 by kernel_rfl) rfl (by
      intro i f h
      match i, h with
      | 0, h => obtain rfl := Option.some.inj h; exact ⟨rfl, (show Try.prog.cellsOf 3 = 1 by kernel_rfl), Try.underlying3⟩
      | 1, h => obtain rfl := Option.some.inj h; exact ⟨rfl, (show Try.prog.cellsOf 3 = 1 by kernel_rfl), Try.underlying3⟩
      | 2, h => obtain rfl := Option.some.inj h; exact ⟨rfl, (show Try.prog.cellsOf 3 = 1 by kernel_rfl), Try.underlying3⟩
      | 3, h => obtain rfl := Option.some.inj h; exact ⟨rfl, (show Try.prog.cellsOf 3 = 1 by kernel_rfl), Try.underlying3⟩
      | 4, h => obtain rfl := Option.some.inj h; exact ⟨rfl, (show Try.prog.cellsOf 3 = 1 by kernel_rfl), Try.underlying3⟩
      | i + 5, h => simp at h) hf with hcs | ⟨a, l, c, m, D, E, hcs, hl, hm, hlm, hx, hcell⟩
    · simp [Value.cells] at hcs
      obtain ⟨rfl, rfl, rfl⟩ := hcs
      exact ⟨[], .inl rfl, by simp, by omega⟩
    · simp [Value.cells] at hcs
      obtain ⟨rfl, rfl, rfl⟩ := hcs
      obtain ⟨zs, hz, hi⟩ := flat_of (by decide) hlm hcell
      have hs := sized_slice hsz (j := 0) (t := 22) (e := 54) rfl (by rw [show d0 = _ from hx]; rfl) Try.underlying22
      rw [show Try.prog.bytesOf 54 = 40 by kernel_rfl] at hs
      simp only [List.length_map, List.length_range, reachBytes] at hs
      exact ⟨zs, hi, hz, by omega⟩
  have k1 := h1
  have lt1 : ∀ x ∈ p1, x.block < W.heap.size := by obtain ⟨m, hm⟩ := k1; exact DataW.trod_lt m _ _ _ hm
  obtain ⟨a1, rfl, rfl, rfl, w1⟩ := open_int Try.underlying3 (hval 1 3 v1 rfl rfl) h1
  have k2 := h2
  have lt2 : ∀ x ∈ p2, x.block < W.heap.size := by obtain ⟨m, hm⟩ := k2; exact DataW.trod_lt m _ _ _ hm
  obtain ⟨a2, rfl, rfl, rfl, w2⟩ := open_int Try.underlying3 (hval 2 3 v2 rfl rfl) h2
  clear hA0 hval0
  refine (walk a0 len0 cap0 z0 a1 w1 a2 w2 W w0 n0 b0).mono fun e W' ⟨he, bel⟩ => ?_
  subst he
  exact ⟨_, rfl, _, _, _, [], _, [], hW', trodAll_mk1 (shut_bool Try.underlying4 _), (trodAll_cons_mk (Below.trod laidOut (by kernel_rfl) (of_decide_eq_true (by kernel_rfl)) k0 bel lt0) (trodAll_cons_mk (Below.trod laidOut (by kernel_rfl) (of_decide_eq_true (by kernel_rfl)) k1 bel lt1) (trodAll_cons_mk (Below.trod laidOut (by kernel_rfl) (of_decide_eq_true (by kernel_rfl)) k2 bel lt2) trodAll_mk0))), rfl, bel.frame _, fun h => by cases h⟩

theorem over : Rows.fnExactSameValueRow.holds Try.pinned (OpenSpec.ofChange Rows.fnExactSameValueSpec) :=
  OpenClaim.holds_of_wide 6 Try.f6 rfl rfl rfl rfl rfl rfl rfl ⟨rfl, rfl, rfl, rfl, rfl⟩ rfl rfl rfl rfl rfl (by kernel_rfl) Try.func6 (by kernel_rfl)
    (of_decide_eq_true (by kernel_rfl)) (by unfold Func.isWrapper; first | (rw [if_pos (by decide +kernel)]; kernel_rfl) | (rw [if_neg (by decide +kernel)]; exact ⟨rfl, rfl⟩))
    (fun os started H enc _ => lifted os started H enc)

theorem proved : Rows.FnExactSameValueSaid :=
  over
#print axioms proved
end Go.Proofs.Ythelpbghcmpcgaa.fnExactSameValue
