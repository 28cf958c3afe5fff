/-
  Of every list and every number: the program does what the row tells as the specification does, and writes into nothing that was there.
-/
import Derived.Test.YteogabkfkfaejabRows
import Derived.WalkKit
import Derived.ProofKit
import Derived.OpenShut
import Derived.ShutString
import Derived.ChangeOld
import Derived.Below
import Derived.Carry
import Derived.Test.YteogabkfkfaejabMagMath
import Derived.Test.YteogabkfkfaejabMagGood
import Derived.Test.YteogabkfkfaejabInts
import Derived.Test.YteogabkfkfaejabPlanMath
import Derived.Test.YteogabkfkfaejabDoPlan
namespace Go.Proofs.Yteogabkfkfaejab.fnExactDoPlan
open Go.ChangeShapes Go.WideShapes Go.ChangeAt Go.RowKit
open Go.ChangeMaps (open_string shut_string)
open Go.Proofs.Yteogabkfkfaejab.math
open Go.Proofs.Yteogabkfkfaejab.walks
open Go.Proofs.Yteogabkfkfaejab.ints
set_option linter.unusedVariables false

theorem own : ownKnob Try.prog.godebug = none := by kernel_rfl
theorem laidOut : laidOutB Try.prog = true := by kernel_rfl

/-- What is known of a slice of integers that came in: it is nil, or leads to a row of cells, the numbers zs, each fitting its kind. -/
def IsRow (k : IntKind) (w : World) (a : Option Addr) (len cap : Nat) (zs : List Int) : Prop :=
  (a = none ∧ len = 0 ∧ cap = 0 ∧ zs = []) ∨
  ∃ x, a = some x ∧ len ≤ cap ∧ cap ≤ maxLen ∧ zs.length = cap ∧ (∀ i, i < zs.length → w.cell? (x.add i) = some (.int k (zs.getD i 0))) ∧ ∀ n ∈ zs, (Lit.int k n).wf = true

theorem ints_of {w : World} {a : Option Addr} {len cap : Nat} {zs : List Int} (h : IsRow .i64 w a len cap zs) : ∃ ys : List Int, ys.length = len ∧ Ints w a ys := by
  rcases h with ⟨_, rfl, _, _⟩ | ⟨x, rfl, hl, hm, hz, hcell, hwz⟩
  · exact ⟨[], rfl, Or.inl rfl⟩
  · obtain ⟨b, off, spot⟩ := x
    refine ⟨zs.take len, by simp; omega, ?_⟩
    by_cases h0 : len = 0
    · left; rw [h0]; simp
    · have hc := hcell 0 (by omega)
      have hspot : spot = none := by simpa [Addr.add] using World.cell?_spot hc
      subst hspot
      have hb : b < w.heap.size := by simpa [Addr.add] using World.block_lt_of_cell? w _ hc
      refine Or.inr ⟨b, off, rfl, hb, fun i hi => ?_⟩
      simp at hi
      have ha : (⟨b, off, none⟩ : Addr).add i = ⟨b, off + i, none⟩ := by
        unfold Addr.add
        split
        · rename_i h; subst h; rfl
        · rfl
      have hc1 := hcell i (by omega)
      rw [ha] at hc1
      rw [hc1]
      have hi2 : i < len := by omega
      have e : (zs.take len).getD i 0 = zs.getD i 0 := by simp [List.getD, hi2]
      rw [e]
set_option maxRecDepth 100000 in
set_option maxHeartbeats 2000000 in
theorem walk (a0 : Option Addr) (len0 cap0 : Nat) (z0 : List Int) (a1 : Int) (w1 : (Lit.int .i64 a1).wf = true) (w : World) (w0 : IsRow .i64 w a0 len0 cap0 z0) :
    Calls Try.prog 6 #[.slice a0 len0 cap0, .int .i64 a1] w fun e w' => e = .returned (.bool true) ∧ Below w.heap.size w w' := by
  by_cases hbig : 1048576 < len0
  · have hb1 : (1048576 : Int) < (len0 : Int) := by omega
    have hm0 : len0 ≤ 9223372036854775807 := by
      rcases w0 with ⟨_, rfl, _, _⟩ | ⟨x, _, hl, hm, _⟩
      · omega
      · unfold maxLen at hm; omega
    clear hbig w0 w1
    go_enter Try.func6, Try.ntmps6
    go_wp2
    go_ret
    exact ⟨rfl, Below.refl _ _⟩
  have hs1 : (len0 : Int) ≤ 1048576 := by omega
  have hlen : len0 ≤ 1048576 := by omega
  obtain ⟨ys, hy, hI⟩ := ints_of w0
  obtain ⟨o, v, hs, hi⟩ := both_do a0 len0 cap0 ys a1 w hlen hy
  have Hs : Hid (∀ (a : Option Addr) (cap : Nat) (W : World), Ints W a ys → Calls Try.prog 17 #[.slice a len0 cap, .int .i64 a1] W fun e W' => e = .returned (.tuple #[.int .i64 v, .bool o]) ∧ W' = W) := hs
  have Hi : Hid (∀ (a : Option Addr) (cap : Nat) (W : World), Ints W a ys → Calls Try.prog 19 #[.slice a len0 cap, .int .i64 a1] W fun e W' => e = .returned (.tuple #[.int .i64 v, .bool o]) ∧ W' = W) := hi
  have HY : Hid (ys.length = len0) := hy
  have HI : Hid (Ints w a0 ys) := hI
  clear hbig w0 w1 hs hi hy hI
  go_enter Try.func6, Try.ntmps6
  go_wp2_with fail
  refine (to_ints _ _ _ ys _ HY hlen HI).mono ?_
  rintro e w1 ⟨rfl, hM1, hB1⟩
  have M1 : Hid (Mine w1 w.heap.size (some ⟨w.heap.size, 0, none⟩) ys) := hM1
  have B1 : Hid (Below w.heap.size w w1) := hB1
  clear hM1 hB1
  go_wp2_with fail
  refine (Hs.out _ _ _ M1.out.ints).mono ?_
  rintro e w' ⟨rfl, rfl⟩
  go_wp2_with fail
  refine (to_ints _ _ _ ys _ HY hlen (HI.out.kept B1.out)).mono ?_
  rintro e w2 ⟨rfl, hM2, hB2⟩
  have M2 : Hid (Mine w2 _ _ ys) := hM2
  have B2 : Hid (Below _ _ w2) := hB2
  clear hM2 hB2
  go_wp2_with fail
  refine (Hi.out _ _ _ M2.out.ints).mono ?_
  rintro e w' ⟨rfl, rfl⟩
  go_wp2_with fail
  have B3 : Hid (Below w.heap.size w _) := B1.out.trans (B2.out.mono B1.out.size)
  refine (to_ints _ _ _ ys _ HY hlen (HI.out.kept B3.out)).mono ?_
  rintro e w3 ⟨rfl, hM3, hB3⟩
  have M3 : Hid (Mine w3 _ _ ys) := hM3
  have B4 : Hid (Below _ _ w3) := hB3
  clear hM3 hB3
  go_wp2_with fail
  refine (eq_ints _ _ _ _ _ ys _ HY hlen (M2.out.kept B4.out).ints M3.out.ints).mono ?_
  rintro e w4 ⟨rfl, hB5⟩
  have B5 : Hid (Below _ _ w4) := hB5
  clear hB5
  go_wp2
  go_ret
  exact ⟨rfl, (B3.out.trans (B4.out.mono B3.out.size)).trans (B5.out.mono (B3.out.trans (B4.out.mono B3.out.size)).size)⟩

set_option maxRecDepth 100000 in
theorem lifted (os : Os) (started : os.Started) (H : Type) (enc : TypeId × Value → H) :
    ReturnsInHanded {} Try.checked os 6 .any (Rows.fnExactDoPlanSpec.pre6 enc Try.prog Try.f6 Rows.fnExactDoPlanRow.domain false) (Rows.fnExactDoPlanSpec.post enc Try.prog Try.f6 false true false false) := by
  refine returnsInHanded_of_change (C := Try.checked) own started (by kernel_rfl) Try.func6
    (ChangeSpec.witness6 (enc := enc) (C := Try.checked) false ⟨#[], #[.slice none 0 0, .int .i64 0], []⟩ 8 (by kernel_rfl) (by kernel_rfl) (by kernel_rfl) (by kernel_rfl)) ?_
  intro W base args ds gs before hval0 hW hcnd _
  have hval : ∀ (j : Nat) t v, Try.f6.params[j]? = some t → args[j]? = some v → Value.okWide Try.prog W .any base t v := hval0
  have hW' := hW
  obtain ⟨p, q, hA0, hV, rfl, hfz, hnd⟩ := hW
  have hA : DataW.TrodAll enc Try.prog W 0 (fun _ => true) true Try.f6.params.toList args.toList ds p := hA0
  rw [Try.params6] at hA hval
  obtain ⟨v0, vs0, d0, ds0, p0, q0, hargs, rfl, rfl, h0, r0⟩ := trodAll_cons hA
  obtain ⟨v1, vs1, d1, ds1, p1, q1, rfl, rfl, rfl, h1, r1⟩ := trodAll_cons r0
  obtain ⟨rfl, rfl, rfl⟩ := trodAll_nil r1
  obtain rfl : args = #[v0, v1] := by cases args; simp_all
  obtain ⟨rfl, rfl⟩ := trodVars_none hV
  obtain ⟨a0, len0, cap0, rfl⟩ := okWide_slice Try.underlying32 (hval 0 32 v0 rfl rfl)
  have k0 := h0
  have lt0 : ∀ x ∈ p0, x.block < W.heap.size := by obtain ⟨m, hm⟩ := k0; exact DataW.trod_lt m _ _ _ hm
  obtain ⟨z0, w0⟩ : ∃ zs, IsRow .i64 W a0 len0 cap0 zs := by
    obtain ⟨fuel, hf⟩ := h0
    rcases open_ints Try.underlying32 Try.underlying3 (by kernel_rfl) hf with ⟨hcs, _⟩ | ⟨x, l, c, zs, hcs, _, hl, hm, hz, _, hcell, hwz⟩
    · simp [Value.cells] at hcs
      obtain ⟨rfl, rfl, rfl⟩ := hcs
      exact ⟨[], .inl ⟨rfl, rfl, rfl, rfl⟩⟩
    · simp [Value.cells] at hcs
      obtain ⟨rfl, rfl, rfl⟩ := hcs
      exact ⟨zs, .inr ⟨_, rfl, hl, hm, by simpa using hz, hcell, hwz⟩⟩
  have k1 := h1
  have lt1 : ∀ x ∈ p1, x.block < W.heap.size := by obtain ⟨m, hm⟩ := k1; exact DataW.trod_lt m _ _ _ hm
  obtain ⟨a1, rfl, rfl, rfl, w1⟩ := open_int Try.underlying3 (hval 1 3 v1 rfl rfl) h1
  clear hA0 hval0
  refine (walk a0 len0 cap0 z0 a1 w1 W w0).mono fun e W' ⟨he, bel⟩ => ?_
  subst he
  exact ⟨_, rfl, _, _, _, [], _, [], hW', trodAll_mk1 (shut_bool Try.underlying4 _), (trodAll_cons_mk (Below.trod laidOut (by kernel_rfl) (of_decide_eq_true (by kernel_rfl)) k0 bel lt0) (trodAll_cons_mk (Below.trod laidOut (by kernel_rfl) (of_decide_eq_true (by kernel_rfl)) k1 bel lt1) trodAll_mk0)), rfl, bel.frame _, fun h => by cases h⟩

theorem over : Rows.fnExactDoPlanRow.holds Try.pinned (OpenSpec.ofChange Rows.fnExactDoPlanSpec) :=
  OpenClaim.holds_of_wide 6 Try.f6 rfl rfl rfl rfl rfl rfl rfl ⟨rfl, rfl, rfl, rfl, rfl⟩ rfl rfl rfl rfl rfl (by kernel_rfl) Try.func6 (by kernel_rfl)
    (of_decide_eq_true (by kernel_rfl)) (by unfold Func.isWrapper; first | (rw [if_pos (by decide +kernel)]; kernel_rfl) | (rw [if_neg (by decide +kernel)]; exact ⟨rfl, rfl⟩))
    (fun os started H enc _ => lifted os started H enc)

theorem proved : Rows.FnExactDoPlanSaid :=
  over
#print axioms proved
end Go.Proofs.Yteogabkfkfaejab.fnExactDoPlan
