/-
  Of every list of tasks and every number of units: the program tells the least time as the specification does, and writes into nothing that was there.
-/
import Derived.Test.YtbnddgdembmooaaRows
import Derived.WalkKit
import Derived.ProofKit
import Derived.OpenShut
import Derived.ShutString
import Derived.ChangeOld
import Derived.Below
import Derived.Carry
import Derived.SizedLaws
import Derived.Test.YtbnddgdembmooaaMagMath
import Derived.Test.YtbnddgdembmooaaTaskMath
import Derived.Test.YtbnddgdembmooaaRankMath
import Derived.Test.YtbnddgdembmooaaInts
import Derived.Test.YtbnddgdembmooaaPats
import Derived.Test.YtbnddgdembmooaaOpenPats
import Derived.Test.YtbnddgdembmooaaTaskSpec
import Derived.Test.YtbnddgdembmooaaTaskImpl
import Derived.Test.YtbnddgdembmooaaRankSpec
import Derived.Test.YtbnddgdembmooaaRankImpl
import Derived.Test.YtbnddgdembmooaaWorkAll
import Derived.Test.YtbnddgdembmooaaLeastAll
namespace Go.Proofs.Ytbnddgdembmooaa.fnExactLeastTime
open Go.ChangeShapes Go.WideShapes Go.ChangeAt Go.RowKit
open Go.ChangeMaps (open_string shut_string)
open Go.Proofs.Ytbnddgdembmooaa.math
open Go.Proofs.Ytbnddgdembmooaa.ints
open Go.Proofs.Ytbnddgdembmooaa.walks
set_option linter.unusedVariables false

theorem own : ownKnob Try.prog.godebug = none := by kernel_rfl
theorem laidOut : laidOutB Try.prog = true := by kernel_rfl

set_option maxHeartbeats 8000000 in
theorem walk_of (a0 : Option Addr) (len0 cap0 : Nat) (f : Nat → Pv) (u : Int) (w : World) (hp : Hid (Pats w a0 len0 f)) (n1 : Hid (∀ k, k < len0 → (f k).zs.length ≤ maxLen)) (b1 : len0 ≤ 140737488351232) :
    Calls Try.prog 8 #[.slice a0 len0 cap0, .int .i64 u] w fun e w' => e = .returned (.bool true) ∧ Below w.heap.size w w' := by
  go_enter Try.func8, Try.ntmps8
  go_wp2_with fail
  refine (pats_size a0 len0 cap0 f w b1 (fun k hk => Nat.le_trans (n1.out k hk) (by unfold maxLen; omega)) hp).mono ?_
  rintro e w1 ⟨v, rfl, hv, hB⟩
  have B1 : Hid (Below w.heap.size w w1) := hB
  clear hB
  rcases hv with ⟨v0, v1, hn, hl⟩ | rfl
  rotate_left
  · go_wp2
    go_ret
    exact ⟨rfl, B1.out⟩
  have HL : Hid (∀ k, k < len0 → (f k).zs.length ≤ 1048576) := hl
  clear hl n1
  obtain ⟨p0, hp0⟩ : ∃ p, Hid (leastV f len0 u = p) := ⟨_, rfl⟩
  have q0 : (p0 != p0) = false := by simp
  obtain ⟨p1, hp1⟩ : ∃ p, Hid (leastB f len0 u = p) := ⟨_, rfl⟩
  have q1 : (p1 != p1) = false := by cases p1 <;> rfl
  go_wp2_with fail
  refine (pats_list _ _ _ f _ hn HL (hp.out.kept B1.out)).mono ?_
  rintro e w2 ⟨G2, rfl, hF, hB⟩
  have B2 : Hid (Below w.heap.size w w2) := B1.out.trans (hB.mono B1.out.size)
  have A0_2 : Hid (Pats w2 (some ⟨w1.heap.size, 0, none⟩) len0 f) := hF.pats
  clear hF hB
  go_wp2_with fail
  refine (spec_least _ _ _ f _ _ hn HL A0_2).mono ?_
  rw [hp0.out, hp1.out]
  rintro e w3 ⟨rfl, hB⟩
  have B3 : Hid (Below w.heap.size w w3) := B2.out.trans (hB.mono B2.out.size)
  have A0_3 : Hid (Pats w3 (some ⟨w1.heap.size, 0, none⟩) len0 f) := A0_2.out.kept hB
  clear hB
  go_wp2_with fail
  refine (pats_list _ _ _ f _ hn HL (hp.out.kept B3.out)).mono ?_
  rintro e w4 ⟨G4, rfl, hF, hB⟩
  have B4 : Hid (Below w.heap.size w w4) := B3.out.trans (hB.mono B3.out.size)
  have X0_4 : Hid (MineP w4 w3.heap.size w4.heap.size len0 f G4) := hF
  have hx0a : w3.heap.size < w4.heap.size := hF.lt
  clear hF hB
  go_wp2_with fail
  refine (impl_least _ _ _ f _ _ hn HL X0_4.out.pats).mono ?_
  rw [hp0.out, hp1.out]
  rintro e w5 ⟨rfl, hB⟩
  have B5 : Hid (Below w.heap.size w w5) := B4.out.trans (hB.mono B4.out.size)
  have X0_5 : Hid (MineP w5 w3.heap.size w4.heap.size len0 f G4) := X0_4.out.kept hB
  clear hB
  go_wp2_with fail
  refine (pats_list _ _ _ f _ hn HL (hp.out.kept B5.out)).mono ?_
  rintro e w6 ⟨G6, rfl, hF, hB⟩
  have B6 : Hid (Below w.heap.size w w6) := B5.out.trans (hB.mono B5.out.size)
  have X0_6 : Hid (MineP w6 w3.heap.size w4.heap.size len0 f G4) := X0_5.out.kept hB
  have Z_6 : Hid (Pats w6 (some ⟨w5.heap.size, 0, none⟩) len0 f) := hF.pats
  clear hF hB
  go_wp2_with fail
  refine (pats_same _ _ _ _ _ f _ hn HL X0_6.out.pats Z_6).mono ?_
  rintro e w7 ⟨rfl, hB⟩
  have B7 : Hid (Below w.heap.size w w7) := B6.out.trans (hB.mono B6.out.size)
  have X0_7 : Hid (MineP w7 w3.heap.size w4.heap.size len0 f G4) := X0_6.out.kept hB
  clear hB
  go_wp2
  go_ret
  exact ⟨rfl, B7.out⟩
theorem walk (a0 : Option Addr) (len0 cap0 : Nat) (f0 : Nat → Pv) (a1 : Int) (w1 : (Lit.int .i64 a1).wf = true) (w : World) (w0 : Pats w a0 len0 f0) (n0 : ∀ k, k < len0 → (f0 k).zs.length ≤ maxLen) (b0 : len0 ≤ 140737488351232) :
    Calls Try.prog 8 #[.slice a0 len0 cap0, .int .i64 a1] w fun e w' => e = .returned (.bool true) ∧ Below w.heap.size w w' := by
  exact walk_of a0 len0 cap0 f0 a1 w w0 n0 b0

set_option maxRecDepth 100000 in
theorem lifted (os : Os) (started : os.Started) (H : Type) (enc : TypeId × Value → H) :
    ReturnsInHanded {} Try.checked os 8 .any (Rows.fnExactLeastTimeSpec.pre6 enc Try.prog Try.f8 Rows.fnExactLeastTimeRow.domain false) (Rows.fnExactLeastTimeSpec.post enc Try.prog Try.f8 false true false false) := by
  refine returnsInHanded_of_change_sized (C := Try.checked) own started (by kernel_rfl) Try.func8
    (ChangeSpec.witness6 (enc := enc) (C := Try.checked) false ⟨#[], #[.slice none 0 0, .int .i64 0], []⟩ 8 (by kernel_rfl) (by kernel_rfl) (by kernel_rfl) (by kernel_rfl)) ?_
  intro W base args ds gs before hval0 hW hcnd hsz0 _
  have hval : ∀ (j : Nat) t v, Try.f8.params[j]? = some t → args[j]? = some v → Value.okWide Try.prog W .any base t v := hval0
  have hW' := hW
  obtain ⟨p, q, hA0, hV, rfl, hfz, hnd⟩ := hW
  have hsz : (DataW.weightsEach Try.prog (Try.f8.params.toList ++ Rows.fnExactLeastTimeSpec.plain.varTypes Try.prog) (ds ++ gs)).all (· ≤ reachBytes) = true := hsz0
  have hA : DataW.TrodAll enc Try.prog W 0 (fun _ => true) true Try.f8.params.toList args.toList ds p := hA0
  rw [Try.params8] at hA hval hsz
  obtain ⟨v0, vs0, d0, ds0, p0, q0, hargs, rfl, rfl, h0, r0⟩ := trodAll_cons hA
  obtain ⟨v1, vs1, d1, ds1, p1, q1, rfl, rfl, rfl, h1, r1⟩ := trodAll_cons r0
  obtain ⟨rfl, rfl, rfl⟩ := trodAll_nil r1
  obtain rfl : args = #[v0, v1] := by cases args; simp_all
  obtain ⟨rfl, rfl⟩ := trodVars_none hV
  obtain ⟨a0, len0, cap0, rfl⟩ := okWide_slice Try.underlying22 (hval 0 22 v0 rfl rfl)
  have k0 := h0
  have lt0 : ∀ x ∈ p0, x.block < W.heap.size := by obtain ⟨m, hm⟩ := k0; exact DataW.trod_lt m _ _ _ hm
  obtain ⟨f0, w0, n0, b0⟩ : ∃ f, Pats W a0 len0 f ∧ (∀ k, k < len0 → (f k).zs.length ≤ maxLen) ∧ len0 ≤ 140737488351232 := by
    obtain ⟨fuel, hf⟩ := h0
    rcases open_pats Try.underlying22 Try.underlying45 (show Try.prog.cellsOf 45 = 2 by kernel_rfl) ⟨rfl, (show Try.prog.cellsOf 29 = 1 by kernel_rfl), Try.underlying29⟩ ⟨rfl, (show Try.prog.cellsOf 3 = 1 by kernel_rfl), Try.underlying3⟩ Try.underlying3 (show Try.prog.cellsOf 3 = 1 by kernel_rfl) hf with hcs | ⟨a, l, c, m, D, E, hcs, hl, hm, hlm, hx, hcell⟩
    · simp [Value.cells] at hcs
      obtain ⟨rfl, rfl, rfl⟩ := hcs
      exact ⟨noPs, .inl rfl, fun k hk => by omega, by omega⟩
    · simp [Value.cells] at hcs
      obtain ⟨rfl, rfl, rfl⟩ := hcs
      obtain ⟨f, hf1, hf2⟩ := pats_of hlm hcell
      have hs := sized_slice hsz (j := 0) (t := 22) (e := 45) rfl (by rw [show d0 = _ from hx]; rfl) Try.underlying22
      rw [show Try.prog.bytesOf 45 = 32 by kernel_rfl] at hs
      simp only [List.length_map, List.length_range, reachBytes] at hs
      exact ⟨f, hf1, hf2, by omega⟩
  have k1 := h1
  have lt1 : ∀ x ∈ p1, x.block < W.heap.size := by obtain ⟨m, hm⟩ := k1; exact DataW.trod_lt m _ _ _ hm
  obtain ⟨a1, rfl, rfl, rfl, w1⟩ := open_int Try.underlying3 (hval 1 3 v1 rfl rfl) h1
  clear hA0 hval0
  refine (walk a0 len0 cap0 f0 a1 w1 W w0 n0 b0).mono fun e W' ⟨he, bel⟩ => ?_
  subst he
  exact ⟨_, rfl, _, _, _, [], _, [], hW', trodAll_mk1 (shut_bool Try.underlying4 _), (trodAll_cons_mk (Below.trod laidOut (by kernel_rfl) (of_decide_eq_true (by kernel_rfl)) k0 bel lt0) (trodAll_cons_mk (Below.trod laidOut (by kernel_rfl) (of_decide_eq_true (by kernel_rfl)) k1 bel lt1) trodAll_mk0)), rfl, bel.frame _, fun h => by cases h⟩

theorem over : Rows.fnExactLeastTimeRow.holds Try.pinned (OpenSpec.ofChange Rows.fnExactLeastTimeSpec) :=
  OpenClaim.holds_of_wide 8 Try.f8 rfl rfl rfl rfl rfl rfl rfl ⟨rfl, rfl, rfl, rfl, rfl⟩ rfl rfl rfl rfl rfl (by kernel_rfl) Try.func8 (by kernel_rfl)
    (of_decide_eq_true (by kernel_rfl)) (by unfold Func.isWrapper; first | (rw [if_pos (by decide +kernel)]; kernel_rfl) | (rw [if_neg (by decide +kernel)]; exact ⟨rfl, rfl⟩))
    (fun os started H enc _ => lifted os started H enc)

theorem proved : Rows.FnExactLeastTimeSaid :=
  over
#print axioms proved
end Go.Proofs.Ytbnddgdembmooaa.fnExactLeastTime
