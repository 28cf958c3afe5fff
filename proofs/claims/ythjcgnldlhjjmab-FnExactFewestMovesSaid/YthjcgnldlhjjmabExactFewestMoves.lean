/-
  Of every list of moves: the program tells the fewest moves as the specification does, and writes into nothing that was there.
-/
import Derived.Test.YthjcgnldlhjjmabRows
import Derived.WalkKit
import Derived.ProofKit
import Derived.OpenShut
import Derived.ShutString
import Derived.ChangeOld
import Derived.Below
import Derived.Carry
import Derived.SizedLaws
import Derived.Test.YthjcgnldlhjjmabOpenFlat
import Derived.Test.YthjcgnldlhjjmabMagMath
import Derived.Test.YthjcgnldlhjjmabMoveMath
import Derived.Test.YthjcgnldlhjjmabRingMath
import Derived.Test.YthjcgnldlhjjmabRowMath
import Derived.Test.YthjcgnldlhjjmabLeftMath
import Derived.Test.YthjcgnldlhjjmabInts
import Derived.Test.YthjcgnldlhjjmabOwnMoves
import Derived.Test.YthjcgnldlhjjmabRecsMove
import Derived.Test.YthjcgnldlhjjmabMoveBase
import Derived.Test.YthjcgnldlhjjmabGoodSpec
import Derived.Test.YthjcgnldlhjjmabSources
import Derived.Test.YthjcgnldlhjjmabRingSpec
import Derived.Test.YthjcgnldlhjjmabRingsSpec
import Derived.Test.YthjcgnldlhjjmabRowsImpl
import Derived.Test.YthjcgnldlhjjmabLaySpec
import Derived.Test.YthjcgnldlhjjmabLayMovesS
import Derived.Test.YthjcgnldlhjjmabLayImpl
import Derived.Test.YthjcgnldlhjjmabFewImpl
namespace Go.Proofs.Ythjcgnldlhjjmab.fnExactFewestMoves
open Go.ChangeShapes Go.WideShapes Go.ChangeAt Go.RowKit
open Go.ChangeMaps (open_string shut_string)
open Go.Proofs.Ythjcgnldlhjjmab.math
open Go.Proofs.Ythjcgnldlhjjmab.ints
open Go.Proofs.Ythjcgnldlhjjmab.walks
set_option linter.unusedVariables false

theorem own : ownKnob Try.prog.godebug = none := by kernel_rfl
theorem laidOut : laidOutB Try.prog = true := by kernel_rfl

set_option maxHeartbeats 4000000 in
theorem walk_of (a0 : Option Addr) (len0 cap0 : Nat) (z0 : List Int) (w : World) (hz : Hid (z0.length = len0 * 2)) (hlen : len0 ≤ 1048576) (h : Hid (Ints w a0 z0)) :
    Calls Try.prog 3 #[.slice a0 len0 cap0] w fun e w' => e = .returned (.bool true) ∧ Below w.heap.size w w' := by
  have hl1 : (len0 : Int) ≤ 1048576 := by omega
  have hmx : len0 ≤ maxLen := Nat.le_trans hlen (by unfold maxLen; omega)
  obtain ⟨c, HC⟩ : ∃ c, Hid (movesB z0 len0 = c) := ⟨_, rfl⟩
  obtain ⟨d, HD⟩ : ∃ d : Int, Hid ((if movesB z0 len0 = true then (((laidL z0 len0).length / 2 : Nat) : Int) else 0) = d) := ⟨_, rfl⟩
  go_enter Try.func3, Try.ntmps3
  go_wp2_with fail
  refine (Move_size _ _ _ _ _ (by omega) (by omega) (by omega)).mono ?_
  rw [if_pos hl1]
  rintro e w' ⟨rfl, hw⟩
  rw [hw]
  clear hw w'
  have hleft : 0 ≤ (1048576 : Int) - (len0 : Int) := by omega
  go_wp2_with fail
  refine (Move_list _ _ _ z0 _ hz hlen h).mono ?_
  rintro e w1 ⟨rfl, hM1, hB1⟩
  have M1 : Hid (Mine w1 w.heap.size (some ⟨w.heap.size, 0, none⟩) z0) := hM1
  have B1 : Hid (Below w.heap.size w w1) := hB1
  clear hM1 hB1
  go_wp2_with fail
  refine (spec_fewest _ _ _ z0 _ hz hlen (Nat.le_refl _) hmx M1.out.ints).mono ?_
  rw [HD.out, HC.out]
  rintro e w2 ⟨rfl, hB2⟩
  have B2 : Hid (Below w.heap.size w w2) := B1.out.trans (hB2.mono B1.out.size)
  clear hB2
  go_wp2_with fail
  refine (Move_list _ _ _ z0 _ hz hlen (h.out.kept B2.out)).mono ?_
  rintro e w3 ⟨rfl, hM3, hB3⟩
  have M3 : Hid (Mine w3 w2.heap.size (some ⟨w2.heap.size, 0, none⟩) z0) := hM3
  have B3 : Hid (Below w.heap.size w w3) := B2.out.trans (hB3.mono B2.out.size)
  clear hM3 hB3
  go_wp2_with fail
  refine (impl_fewest _ _ _ z0 _ hz hlen M3.out.ints).mono ?_
  rw [HD.out, HC.out]
  rintro e w4 ⟨rfl, hB4⟩
  have M4 : Hid (Mine w4 w2.heap.size (some ⟨w2.heap.size, 0, none⟩) z0) := M3.out.kept hB4
  have B4 : Hid (Below w.heap.size w w4) := B3.out.trans (hB4.mono B3.out.size)
  clear hB4
  go_wp2_with fail
  refine (Move_list _ _ _ z0 _ hz hlen (h.out.kept B4.out)).mono ?_
  rintro e w5 ⟨rfl, hM5, hB5⟩
  have M5 : Hid (Mine w5 w4.heap.size (some ⟨w4.heap.size, 0, none⟩) z0) := hM5
  have M5b : Hid (Mine w5 w2.heap.size (some ⟨w2.heap.size, 0, none⟩) z0) := M4.out.kept hB5
  have B5 : Hid (Below w.heap.size w w5) := B4.out.trans (hB5.mono B4.out.size)
  clear hM5 hB5
  go_wp2_with fail
  refine (Move_same _ _ _ _ _ z0 _ hz hlen M5b.out.ints M5.out.ints).mono ?_
  rintro e w6 ⟨rfl, hB6⟩
  have B6 : Hid (Below w.heap.size w w6) := B5.out.trans (hB6.mono B5.out.size)
  clear hB6
  go_wp2
  go_ret
  exact ⟨rfl, B6.out⟩
theorem walk (a0 : Option Addr) (len0 cap0 : Nat) (z0 : List Int) (w : World) (w0 : Ints w a0 z0) (n0 : z0.length = len0 * 2) (b0 : len0 ≤ 140737488351232) :
    Calls Try.prog 3 #[.slice a0 len0 cap0] w fun e w' => e = .returned (.bool true) ∧ Below w.heap.size w w' := by
  by_cases h1 : len0 ≤ 1048576
  · exact walk_of a0 len0 cap0 z0 w n0 h1 w0
  · have hno : 1048576 < (len0 : Int) := by omega
    go_enter Try.func3, Try.ntmps3
    go_wp2_with fail
    refine (Move_size _ _ _ _ _ (by omega) (by omega) (by omega)).mono ?_
    rw [if_neg (by omega)]
    rintro e w' ⟨rfl, rfl⟩
    go_wp2
    go_ret
    exact ⟨rfl, Below.refl _ _⟩

set_option maxRecDepth 100000 in
theorem lifted (os : Os) (started : os.Started) (H : Type) (enc : TypeId × Value → H) :
    ReturnsInHanded {} Try.checked os 3 .any (Rows.fnExactFewestMovesSpec.pre6 enc Try.prog Try.f3 Rows.fnExactFewestMovesRow.domain false) (Rows.fnExactFewestMovesSpec.post enc Try.prog Try.f3 false true false false) := by
  refine returnsInHanded_of_change_sized (C := Try.checked) own started (by kernel_rfl) Try.func3
    (ChangeSpec.witness6 (enc := enc) (C := Try.checked) false ⟨#[], #[.slice none 0 0], []⟩ 8 (by kernel_rfl) (by kernel_rfl) (by kernel_rfl) (by kernel_rfl)) ?_
  intro W base args ds gs before hval0 hW hcnd hsz0 _
  have hval : ∀ (j : Nat) t v, Try.f3.params[j]? = some t → args[j]? = some v → Value.okWide Try.prog W .any base t v := hval0
  have hW' := hW
  obtain ⟨p, q, hA0, hV, rfl, hfz, hnd⟩ := hW
  have hsz : (DataW.weightsEach Try.prog (Try.f3.params.toList ++ Rows.fnExactFewestMovesSpec.plain.varTypes Try.prog) (ds ++ gs)).all (· ≤ reachBytes) = true := hsz0
  have hA : DataW.TrodAll enc Try.prog W 0 (fun _ => true) true Try.f3.params.toList args.toList ds p := hA0
  rw [Try.params3] at hA hval hsz
  obtain ⟨v0, vs0, d0, ds0, p0, q0, hargs, rfl, rfl, h0, r0⟩ := trodAll_cons hA
  obtain ⟨rfl, rfl, rfl⟩ := trodAll_nil r0
  obtain rfl : args = #[v0] := by cases args; simp_all
  obtain ⟨rfl, rfl⟩ := trodVars_none hV
  obtain ⟨a0, len0, cap0, rfl⟩ := okWide_slice Try.underlying22 (hval 0 22 v0 rfl rfl)
  have k0 := h0
  have lt0 : ∀ x ∈ p0, x.block < W.heap.size := by obtain ⟨m, hm⟩ := k0; exact DataW.trod_lt m _ _ _ hm
  obtain ⟨z0, w0, n0, b0⟩ : ∃ zs, Ints W a0 zs ∧ zs.length = len0 * 2 ∧ len0 ≤ 140737488351232 := by
    obtain ⟨fuel, hf⟩ := h0
    rcases open_flat Try.underlying22 Try.underlying35 (show Try.prog.cellsOf 35 = 2 by kernel_rfl) rfl (by
      intro i f h
      match i, h with
      | 0, h => obtain rfl := Option.some.inj h; exact ⟨rfl, (show Try.prog.cellsOf 3 = 1 by kernel_rfl), Try.underlying3⟩
      | 1, h => obtain rfl := Option.some.inj h; exact ⟨rfl, (show Try.prog.cellsOf 3 = 1 by kernel_rfl), Try.underlying3⟩
      | i + 2, h => simp at h) hf with hcs | ⟨a, l, c, m, D, E, hcs, hl, hm, hlm, hx, hcell⟩
    · simp [Value.cells] at hcs
      obtain ⟨rfl, rfl, rfl⟩ := hcs
      exact ⟨[], .inl rfl, by simp, by omega⟩
    · simp [Value.cells] at hcs
      obtain ⟨rfl, rfl, rfl⟩ := hcs
      obtain ⟨zs, hz, hi⟩ := flat_of (by decide) hlm hcell
      have hs := sized_slice hsz (j := 0) (t := 22) (e := 35) rfl (by rw [show d0 = _ from hx]; rfl) Try.underlying22
      rw [show Try.prog.bytesOf 35 = 16 by kernel_rfl] at hs
      simp only [List.length_map, List.length_range, reachBytes] at hs
      exact ⟨zs, hi, hz, by omega⟩
  clear hA0 hval0
  refine (walk a0 len0 cap0 z0 W w0 n0 b0).mono fun e W' ⟨he, bel⟩ => ?_
  subst he
  exact ⟨_, rfl, _, _, _, [], _, [], hW', trodAll_mk1 (shut_bool Try.underlying4 _), (trodAll_cons_mk (Below.trod laidOut (by kernel_rfl) (of_decide_eq_true (by kernel_rfl)) k0 bel lt0) trodAll_mk0), rfl, bel.frame _, fun h => by cases h⟩

theorem over : Rows.fnExactFewestMovesRow.holds Try.pinned (OpenSpec.ofChange Rows.fnExactFewestMovesSpec) :=
  OpenClaim.holds_of_wide 3 Try.f3 rfl rfl rfl rfl rfl rfl rfl ⟨rfl, rfl, rfl, rfl, rfl⟩ rfl rfl rfl rfl rfl (by kernel_rfl) Try.func3 (by kernel_rfl)
    (of_decide_eq_true (by kernel_rfl)) (by unfold Func.isWrapper; first | (rw [if_pos (by decide +kernel)]; kernel_rfl) | (rw [if_neg (by decide +kernel)]; exact ⟨rfl, rfl⟩))
    (fun os started H enc _ => lifted os started H enc)

theorem proved : Rows.FnExactFewestMovesSaid :=
  over
#print axioms proved
end Go.Proofs.Ythjcgnldlhjjmab.fnExactFewestMoves
