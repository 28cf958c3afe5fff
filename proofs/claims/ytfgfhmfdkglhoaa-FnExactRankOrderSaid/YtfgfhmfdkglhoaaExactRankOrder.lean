/-
  Of every list of tasks: the program orders them by their ranks as the specification does, in new memory, and writes into nothing that was there.
-/
import Derived.Test.YtfgfhmfdkglhoaaRows
import Derived.WalkKit
import Derived.ProofKit
import Derived.OpenShut
import Derived.ShutString
import Derived.ChangeOld
import Derived.Below
import Derived.Carry
import Derived.SizedLaws
import Derived.Test.YtfgfhmfdkglhoaaMagMath
import Derived.Test.YtfgfhmfdkglhoaaTaskMath
import Derived.Test.YtfgfhmfdkglhoaaRankMath
import Derived.Test.YtfgfhmfdkglhoaaInts
import Derived.Test.YtfgfhmfdkglhoaaPats
import Derived.Test.YtfgfhmfdkglhoaaOpenPats
import Derived.Test.YtfgfhmfdkglhoaaTaskSpec
import Derived.Test.YtfgfhmfdkglhoaaTaskImpl
import Derived.Test.YtfgfhmfdkglhoaaOrderMath
import Derived.Test.YtfgfhmfdkglhoaaRankSpec
import Derived.Test.YtfgfhmfdkglhoaaRankImpl
import Derived.Test.YtfgfhmfdkglhoaaOrderSpec
import Derived.Test.YtfgfhmfdkglhoaaSortImpl
import Derived.Test.YtfgfhmfdkglhoaaOrderImpl
import Derived.Test.YtfgfhmfdkglhoaaMarks
import Derived.Test.YtfgfhmfdkglhoaaTaskMark
namespace Go.Proofs.Ytfgfhmfdkglhoaa.fnExactRankOrder
open Go.ChangeShapes Go.WideShapes Go.ChangeAt Go.RowKit
open Go.ChangeMaps (open_string shut_string)
open Go.Proofs.Ytfgfhmfdkglhoaa.math
open Go.Proofs.Ytfgfhmfdkglhoaa.ints
open Go.Proofs.Ytfgfhmfdkglhoaa.walks
set_option linter.unusedVariables false

theorem own : ownKnob Try.prog.godebug = none := by kernel_rfl
theorem laidOut : laidOutB Try.prog = true := by kernel_rfl

set_option maxHeartbeats 8000000 in
theorem walk_of (a0 : Option Addr) (len0 cap0 : Nat) (f : Nat → Pv) (w : World) (hp : Hid (Pats w a0 len0 f)) (n1 : Hid (∀ k, k < len0 → (f k).zs.length ≤ maxLen)) (b1 : len0 ≤ 140737488351232) :
    Calls Try.prog 4 #[.slice a0 len0 cap0] w fun e w' => e = .returned (.bool true) ∧ Below w.heap.size w w' := by
  go_enter Try.func4, Try.ntmps4
  go_wp2_with fail
  refine (pats_size a0 len0 cap0 f w b1 (fun k hk => Nat.le_trans (n1.out k hk) (by unfold maxLen; omega)) hp).mono ?_
  rintro e w1 ⟨v, rfl, hv, hB⟩
  have B1 : Hid (Below w.heap.size w w1) := hB
  clear hB
  rcases hv with ⟨v0, v1, hn, hl⟩ | rfl
  rotate_left
  · go_wp2
    go_ret
    exact ⟨rfl, B1.out⟩
  have HL : Hid (∀ k, k < len0 → (f k).zs.length ≤ 1048576) := hl
  clear hl n1
  obtain ⟨p0, hp0⟩ : ∃ p, Hid (tasksB f len0 = p) := ⟨_, rfl⟩
  have q0 : (p0 != p0) = false := by cases p0 <;> rfl
  have hzl := orZ_len f len0
  obtain ⟨z, hzz⟩ : ∃ z, Hid (orZ f len0 = z) := ⟨_, rfl⟩
  rw [hzz.out] at hzl
  obtain ⟨L, hLL⟩ : ∃ L, Hid (z.length = L) := ⟨_, rfl⟩
  rw [hLL.out] at hzl
  have hLI : (L : Int) ≤ 1048576 := by omega
  have hLI0 : (0 : Int) ≤ (L : Int) := Int.natCast_nonneg _
  go_wp2_with fail
  refine (pats_list _ _ _ f _ hn HL (hp.out.kept B1.out)).mono ?_
  rintro e w2 ⟨G2, rfl, hF, hB⟩
  have B2 : Hid (Below w.heap.size w w2) := B1.out.trans (hB.mono B1.out.size)
  have A0_2 : Hid (Pats w2 (some ⟨w1.heap.size, 0, none⟩) len0 f) := hF.pats
  clear hF hB
  go_wp2_with fail
  refine ((spec_order _ _ _ f _ hn HL A0_2).mono (fun e W' hh => ord_told hh)).mono ?_
  rw [hp0.out, hzz.out, hLL.out]
  rintro e w3 ⟨sa, sc, rfl, hM, hB⟩
  have B3 : Hid (Below w.heap.size w w3) := B2.out.trans (hB.mono B2.out.size)
  have A0_3 : Hid (Pats w3 (some ⟨w1.heap.size, 0, none⟩) len0 f) := A0_2.out.kept hB
  have WI : Hid (Ints w3 sa z) := hM.ints
  have C3 : Hid (Below w3.heap.size w3 w3) := Below.refl _ _
  clear hM hB
  go_wp2_with fail
  refine (pats_list _ _ _ f _ hn HL (hp.out.kept B3.out)).mono ?_
  rintro e w4 ⟨G4, rfl, hF, hB⟩
  have B4 : Hid (Below w.heap.size w w4) := B3.out.trans (hB.mono B3.out.size)
  have C4 : Hid (Below w3.heap.size w3 w4) := C3.out.trans (hB.mono C3.out.size)
  have X0_4 : Hid (MineP w4 w3.heap.size w4.heap.size len0 f G4) := hF
  have hx0a : w3.heap.size < w4.heap.size := hF.lt
  clear hF hB
  go_wp2_with fail
  refine ((impl_order _ _ _ f _ hn HL X0_4.out.pats).mono (fun e W' hh => ord_told hh)).mono ?_
  rw [hp0.out, hzz.out, hLL.out]
  rintro e w5 ⟨ga, gc, rfl, hM, hB⟩
  have B5 : Hid (Below w.heap.size w w5) := B4.out.trans (hB.mono B4.out.size)
  have C5 : Hid (Below w3.heap.size w3 w5) := C4.out.trans (hB.mono C4.out.size)
  have X0_5 : Hid (MineP w5 w3.heap.size w4.heap.size len0 f G4) := X0_4.out.kept hB
  have G_5 : Hid (Mine w5 w4.heap.size ga z) := hM
  clear hM hB
  go_wp2_with fail
  refine (eq_ints _ _ _ _ _ z _ hLL hzl G_5.out.ints (WI.out.kept C5.out)).mono ?_
  rintro e w6 ⟨rfl, hB⟩
  have B6 : Hid (Below w.heap.size w w6) := B5.out.trans (hB.mono B5.out.size)
  have C6 : Hid (Below w3.heap.size w3 w6) := C5.out.trans (hB.mono C5.out.size)
  have X0_6 : Hid (MineP w6 w3.heap.size w4.heap.size len0 f G4) := X0_5.out.kept hB
  have G_6 : Hid (Mine w6 w4.heap.size ga z) := G_5.out.kept hB
  clear hB
  go_wp2_with fail
  refine (pats_list _ _ _ f _ hn HL (hp.out.kept B6.out)).mono ?_
  rintro e w7 ⟨G7, rfl, hF, hB⟩
  have B7 : Hid (Below w.heap.size w w7) := B6.out.trans (hB.mono B6.out.size)
  have C7 : Hid (Below w3.heap.size w3 w7) := C6.out.trans (hB.mono C6.out.size)
  have X0_7 : Hid (MineP w7 w3.heap.size w4.heap.size len0 f G4) := X0_6.out.kept hB
  have G_7 : Hid (Mine w7 w4.heap.size ga z) := G_6.out.kept hB
  have Z_7 : Hid (Pats w7 (some ⟨w6.heap.size, 0, none⟩) len0 f) := hF.pats
  clear hF hB
  go_wp2_with fail
  refine (pats_same _ _ _ _ _ f _ hn HL X0_7.out.pats Z_7).mono ?_
  rintro e w8 ⟨rfl, hB⟩
  have B8 : Hid (Below w.heap.size w w8) := B7.out.trans (hB.mono B7.out.size)
  have C8 : Hid (Below w3.heap.size w3 w8) := C7.out.trans (hB.mono C7.out.size)
  have X0_8 : Hid (MineP w8 w3.heap.size w4.heap.size len0 f G4) := X0_7.out.kept hB
  have G_8 : Hid (Mine w8 w4.heap.size ga z) := G_7.out.kept hB
  clear hB
  go_wp2_with fail
  refine (pats_mark 1 (by omega) (by omega) w3.heap.size w4.heap.size len0 _ (fun k => (f k).zs.length) G4 w8 hn HL hx0a X0_8.out.mark).mono ?_
  rintro e w9 ⟨s0, rfl, hs0, hs1, hO⟩
  have hB := hO.below
  have B9 : Hid (Below w.heap.size w w9) := B8.out.trans (hB.mono B3.out.size)
  have C9 : Hid (Below w3.heap.size w3 w9) := C8.out.trans (hB.mono C3.out.size)
  have G_9 : Hid (Mine w9 w4.heap.size ga z) := hO.mine (by omega) G_8.out
  clear hB hO
  go_wp2_with fail
  refine (eq_ints _ _ _ _ _ z _ hLL hzl G_9.out.ints (WI.out.kept C9.out)).mono ?_
  rintro e w10 ⟨rfl, hB⟩
  have B10 : Hid (Below w.heap.size w w10) := B9.out.trans (hB.mono B9.out.size)
  have C10 : Hid (Below w3.heap.size w3 w10) := C9.out.trans (hB.mono C9.out.size)
  have G_10 : Hid (Mine w10 w4.heap.size ga z) := G_9.out.kept hB
  clear hB
  go_wp2_with fail
  refine (mark_from 1 (by omega) (by omega) _ _ _ z _ w4.heap.size hLL hzl G_10).mono ?_
  rintro e w11 ⟨rfl, hM, ho⟩
  have hB := ho.below
  have B11 : Hid (Below w.heap.size w w11) := B10.out.trans (hB.mono B4.out.size)
  have U_11 : Hid (Ints w11 ga (upFrom 1 L)) := hM.ints
  have C11 : Hid (Below w3.heap.size w3 w11) := C10.out.trans (hB.mono C4.out.size)
  clear hM hB ho
  go_wp2_with fail
  refine (held_ints _ _ _ _ hzl U_11).mono ?_
  rintro e w12 ⟨rfl, hw⟩
  have hB : Below w11.heap.size w11 w12 := by rw [hw]; exact Below.refl _ _
  have B12 : Hid (Below w.heap.size w w12) := B11.out.trans (hB.mono B11.out.size)
  have C12 : Hid (Below w3.heap.size w3 w12) := C11.out.trans (hB.mono C11.out.size)
  have U_12 : Hid (Ints w12 ga (upFrom 1 L)) := U_11.out.kept hB
  clear hB hw
  go_wp2_with fail
  refine (pats_list _ _ _ f _ hn HL (hp.out.kept B12.out)).mono ?_
  rintro e w13 ⟨G13, rfl, hF, hB⟩
  have B13 : Hid (Below w.heap.size w w13) := B12.out.trans (hB.mono B12.out.size)
  have C13 : Hid (Below w3.heap.size w3 w13) := C12.out.trans (hB.mono C12.out.size)
  have U_13 : Hid (Ints w13 ga (upFrom 1 L)) := U_12.out.kept hB
  have C0_13 : Hid (Pats w13 (some ⟨w12.heap.size, 0, none⟩) len0 f) := hF.pats
  clear hF hB
  go_wp2_with fail
  refine ((impl_order _ _ _ f _ hn HL C0_13).mono (fun e W' hh => ord_told hh)).mono ?_
  rw [hp0.out, hzz.out, hLL.out]
  rintro e w14 ⟨ha, hc, rfl, hM, hB⟩
  have B14 : Hid (Below w.heap.size w w14) := B13.out.trans (hB.mono B13.out.size)
  have C14 : Hid (Below w3.heap.size w3 w14) := C13.out.trans (hB.mono C13.out.size)
  have U_14 : Hid (Ints w14 ga (upFrom 1 L)) := U_13.out.kept hB
  have C0_14 : Hid (Pats w14 (some ⟨w12.heap.size, 0, none⟩) len0 f) := C0_13.out.kept hB
  have H_14 : Hid (Ints w14 ha z) := hM.ints
  clear hM hB
  go_wp2_with fail
  refine (eq_ints _ _ _ _ _ z _ hLL hzl H_14 (WI.out.kept C14.out)).mono ?_
  rintro e w15 ⟨rfl, hB⟩
  have B15 : Hid (Below w.heap.size w w15) := B14.out.trans (hB.mono B14.out.size)
  have C15 : Hid (Below w3.heap.size w3 w15) := C14.out.trans (hB.mono C14.out.size)
  have U_15 : Hid (Ints w15 ga (upFrom 1 L)) := U_14.out.kept hB
  have C0_15 : Hid (Pats w15 (some ⟨w12.heap.size, 0, none⟩) len0 f) := C0_14.out.kept hB
  have H_15 : Hid (Ints w15 ha z) := H_14.out.kept hB
  clear hB
  go_wp2_with fail
  refine (held_ints _ _ _ _ hzl U_15).mono ?_
  rintro e w16 ⟨rfl, hw⟩
  have hB : Below w15.heap.size w15 w16 := by rw [hw]; exact Below.refl _ _
  have B16 : Hid (Below w.heap.size w w16) := B15.out.trans (hB.mono B15.out.size)
  have C16 : Hid (Below w3.heap.size w3 w16) := C15.out.trans (hB.mono C15.out.size)
  have U_16 : Hid (Ints w16 ga (upFrom 1 L)) := U_15.out.kept hB
  clear hB hw
  go_wp2
  go_ret
  exact ⟨rfl, B16.out⟩
theorem walk (a0 : Option Addr) (len0 cap0 : Nat) (f0 : Nat → Pv) (w : World) (w0 : Pats w a0 len0 f0) (n0 : ∀ k, k < len0 → (f0 k).zs.length ≤ maxLen) (b0 : len0 ≤ 140737488351232) :
    Calls Try.prog 4 #[.slice a0 len0 cap0] w fun e w' => e = .returned (.bool true) ∧ Below w.heap.size w w' := by
  exact walk_of a0 len0 cap0 f0 w w0 n0 b0

set_option maxRecDepth 100000 in
theorem lifted (os : Os) (started : os.Started) (H : Type) (enc : TypeId × Value → H) :
    ReturnsInHanded {} Try.checked os 4 .any (Rows.fnExactRankOrderSpec.pre6 enc Try.prog Try.f4 Rows.fnExactRankOrderRow.domain false) (Rows.fnExactRankOrderSpec.post enc Try.prog Try.f4 false true false false) := by
  refine returnsInHanded_of_change_sized (C := Try.checked) own started (by kernel_rfl) Try.func4
    (ChangeSpec.witness6 (enc := enc) (C := Try.checked) false ⟨#[], #[.slice none 0 0], []⟩ 8 (by kernel_rfl) (by kernel_rfl) (by kernel_rfl) (by kernel_rfl)) ?_
  intro W base args ds gs before hval0 hW hcnd hsz0 _
  have hval : ∀ (j : Nat) t v, Try.f4.params[j]? = some t → args[j]? = some v → Value.okWide Try.prog W .any base t v := hval0
  have hW' := hW
  obtain ⟨p, q, hA0, hV, rfl, hfz, hnd⟩ := hW
  have hsz : (DataW.weightsEach Try.prog (Try.f4.params.toList ++ Rows.fnExactRankOrderSpec.plain.varTypes Try.prog) (ds ++ gs)).all (· ≤ reachBytes) = true := hsz0
  have hA : DataW.TrodAll enc Try.prog W 0 (fun _ => true) true Try.f4.params.toList args.toList ds p := hA0
  rw [Try.params4] at hA hval hsz
  obtain ⟨v0, vs0, d0, ds0, p0, q0, hargs, rfl, rfl, h0, r0⟩ := trodAll_cons hA
  obtain ⟨rfl, rfl, rfl⟩ := trodAll_nil r0
  obtain rfl : args = #[v0] := by cases args; simp_all
  obtain ⟨rfl, rfl⟩ := trodVars_none hV
  obtain ⟨a0, len0, cap0, rfl⟩ := okWide_slice Try.underlying22 (hval 0 22 v0 rfl rfl)
  have k0 := h0
  have lt0 : ∀ x ∈ p0, x.block < W.heap.size := by obtain ⟨m, hm⟩ := k0; exact DataW.trod_lt m _ _ _ hm
  obtain ⟨f0, w0, n0, b0⟩ : ∃ f, Pats W a0 len0 f ∧ (∀ k, k < len0 → (f k).zs.length ≤ maxLen) ∧ len0 ≤ 140737488351232 := by
    obtain ⟨fuel, hf⟩ := h0
    rcases open_pats Try.underlying22 Try.underlying40 (show Try.prog.cellsOf 40 = 2 by kernel_rfl) ⟨rfl, (show Try.prog.cellsOf 23 = 1 by kernel_rfl), Try.underlying23⟩ ⟨rfl, (show Try.prog.cellsOf 3 = 1 by kernel_rfl), Try.underlying3⟩ Try.underlying3 (show Try.prog.cellsOf 3 = 1 by kernel_rfl) hf with hcs | ⟨a, l, c, m, D, E, hcs, hl, hm, hlm, hx, hcell⟩
    · simp [Value.cells] at hcs
      obtain ⟨rfl, rfl, rfl⟩ := hcs
      exact ⟨noPs, .inl rfl, fun k hk => by omega, by omega⟩
    · simp [Value.cells] at hcs
      obtain ⟨rfl, rfl, rfl⟩ := hcs
      obtain ⟨f, hf1, hf2⟩ := pats_of hlm hcell
      have hs := sized_slice hsz (j := 0) (t := 22) (e := 40) rfl (by rw [show d0 = _ from hx]; rfl) Try.underlying22
      rw [show Try.prog.bytesOf 40 = 32 by kernel_rfl] at hs
      simp only [List.length_map, List.length_range, reachBytes] at hs
      exact ⟨f, hf1, hf2, by omega⟩
  clear hA0 hval0
  refine (walk a0 len0 cap0 f0 W w0 n0 b0).mono fun e W' ⟨he, bel⟩ => ?_
  subst he
  exact ⟨_, rfl, _, _, _, [], _, [], hW', trodAll_mk1 (shut_bool Try.underlying4 _), (trodAll_cons_mk (Below.trod laidOut (by kernel_rfl) (of_decide_eq_true (by kernel_rfl)) k0 bel lt0) trodAll_mk0), rfl, bel.frame _, fun h => by cases h⟩

theorem over : Rows.fnExactRankOrderRow.holds Try.pinned (OpenSpec.ofChange Rows.fnExactRankOrderSpec) :=
  OpenClaim.holds_of_wide 4 Try.f4 rfl rfl rfl rfl rfl rfl rfl ⟨rfl, rfl, rfl, rfl, rfl⟩ rfl rfl rfl rfl rfl (by kernel_rfl) Try.func4 (by kernel_rfl)
    (of_decide_eq_true (by kernel_rfl)) (by unfold Func.isWrapper; first | (rw [if_pos (by decide +kernel)]; kernel_rfl) | (rw [if_neg (by decide +kernel)]; exact ⟨rfl, rfl⟩))
    (fun os started H enc _ => lifted os started H enc)

theorem proved : Rows.FnExactRankOrderSaid :=
  over
#print axioms proved
end Go.Proofs.Ytfgfhmfdkglhoaa.fnExactRankOrder
