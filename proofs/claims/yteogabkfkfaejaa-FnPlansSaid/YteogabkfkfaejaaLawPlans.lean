/-
  Whatever bytes are handed in: of the number drawn the program's row of shifts is the specification's, multiplies rightly and has no two digits side by side; of the list drawn the program does what the specification does; the bytes read as before.
-/
import Derived.Test.YteogabkfkfaejaaRows
import Derived.WalkKit
import Derived.ProofKit
import Derived.OpenShut
import Derived.ShutString
import Derived.ChangeOld
import Derived.Below
import Derived.Carry
import Derived.SizedLaws
import Derived.Test.YteogabkfkfaejaaMagMath
import Derived.Test.YteogabkfkfaejaaMagGood
import Derived.Test.YteogabkfkfaejaaInts
import Derived.Test.YteogabkfkfaejaaOwnInts
import Derived.Test.YteogabkfkfaejaaMath
import Derived.Test.YteogabkfkfaejaaPlanMath
import Derived.Test.YteogabkfkfaejaaPlanDigMath
import Derived.Test.YteogabkfkfaejaaPlanRight
import Derived.Test.YteogabkfkfaejaaPlanSpec
import Derived.Test.YteogabkfkfaejaaPlanImpl
import Derived.Test.YteogabkfkfaejaaDoPlan
import Derived.Test.YteogabkfkfaejaaCur
import Derived.Test.YteogabkfkfaejaaMagDraw
namespace Go.Proofs.Yteogabkfkfaejaa.fnPlans
open Go.ChangeShapes Go.WideShapes Go.ChangeAt Go.RowKit
open Go.ChangeMaps (open_string shut_string)
open Go.Proofs.Yteogabkfkfaejaa.math
open Go.Proofs.Yteogabkfkfaejaa.walks
open Go.Proofs.Yteogabkfkfaejaa.ints
open Go.Proofs.Yteogabkfkfaejaa.cur
set_option linter.unusedVariables false

theorem own : ownKnob Try.prog.godebug = none := by kernel_rfl
theorem laidOut : laidOutB Try.prog = true := by kernel_rfl

/-- What is known of a slice of integers that came in: it is nil, or leads to a row of cells, the numbers zs, each fitting its kind. -/
def IsRow (k : IntKind) (w : World) (a : Option Addr) (len cap : Nat) (zs : List Int) : Prop :=
  (a = none ∧ len = 0 ∧ cap = 0 ∧ zs = []) ∨
  ∃ x, a = some x ∧ len ≤ cap ∧ cap ≤ maxLen ∧ zs.length = cap ∧ (∀ i, i < zs.length → w.cell? (x.add i) = some (.int k (zs.getD i 0))) ∧ ∀ n ∈ zs, (Lit.int k n).wf = true

theorem src_of {w : World} {a : Option Addr} {len cap : Nat} {zs : List Int} (h : IsRow .u8 w a len cap zs) : Src w.heap.size a len w := by
  rcases h with ⟨_, rfl, _, _⟩ | ⟨x, rfl, hl, hm, hz, hcell, hwz⟩
  · exact Or.inl rfl
  · obtain ⟨b, off, spot⟩ := x
    by_cases h0 : len = 0
    · exact Or.inl h0
    · have hc := hcell 0 (by omega)
      have hspot : spot = none := by simpa [Addr.add] using World.cell?_spot hc
      subst hspot
      have hb : b < w.heap.size := by simpa [Addr.add] using World.block_lt_of_cell? w _ hc
      refine Or.inr ⟨b, off, rfl, hb, hb, fun i hi => ?_⟩
      have hi' : i < zs.length := by omega
      have e : zs.getD i 0 = zs[i] := by simp [List.getD, hi']
      have hbd := bounds_u8 (hwz zs[i] (List.getElem_mem hi'))
      have ha : (⟨b, off, none⟩ : Addr).add i = ⟨b, off + i, none⟩ := by
        unfold Addr.add
        split
        · rename_i h; subst h; rfl
        · rfl
      have hc1 := hcell i hi'
      rw [e, ha] at hc1
      exact ⟨zs[i], by omega, by omega, hc1⟩
theorem src_kept {w w' : World} {a : Option Addr} {len : Nat} (h : Src w.heap.size a len w) (hb : Below w.heap.size w w') : Src w'.heap.size a len w' := by
  rcases h with h | ⟨x, off, rfl, hx, hs, hc⟩
  · exact Or.inl h
  · refine Or.inr ⟨x, off, rfl, Nat.lt_of_lt_of_le hx hb.size, Nat.lt_of_lt_of_le hs hb.size, fun i hi => ?_⟩
    obtain ⟨z, z0, z1, hz⟩ := hc i hi
    exact ⟨z, z0, z1, (hb.cell (p := ⟨x, off + i, none⟩) hx).trans hz⟩

set_option maxRecDepth 100000 in
set_option maxHeartbeats 20000000 in
theorem walk (a0 : Option Addr) (len0 cap0 : Nat) (z0 : List Int) (a1 : Option Addr) (len1 cap1 : Nat) (z1 : List Int) (w : World) (w0 : IsRow .u8 w a0 len0 cap0 z0) (b0 : len0 ≤ 140737488351232) (w1 : IsRow .u8 w a1 len1 cap1 z1) (b1 : len1 ≤ 140737488351232) :
    Calls Try.prog 4 #[.slice a0 len0 cap0, .slice a1 len1 cap1] w fun e w' => e = .returned (.bool true) ∧ Below w.heap.size w w' := by
  by_cases hbig : 1048576 < len0 + len1
  · have hb1 : (1048576 : Int) < (len0 : Int) + (len1 : Int) := by omega
    clear hbig w0 w1
    go_enter Try.func4, Try.ntmps4
    go_wp2
    go_ret
    exact ⟨rfl, Below.refl _ _⟩
  have hs1 : (len0 : Int) + (len1 : Int) ≤ 1048576 := by omega
  have hlen0 : len0 ≤ 1048576 := by omega
  have hlen1 : len1 ≤ 1048576 := by omega
  have C0 : Hid (Src w.heap.size a0 len0 w) := src_of w0
  have C1 : Hid (Src w.heap.size a1 len1 w) := src_of w1
  clear hbig w0 w1 b0 b1
  go_enter Try.func4, Try.ntmps4
  go_wp2_with fail
  refine (drawPlan_any C0.out hlen0).mono ?_
  rintro e w2 ⟨r, r0, r1, rfl, hB⟩
  have B2 : Hid (Below w.heap.size w w2) := hB
  clear hB
  by_cases hr : r ≤ 65535
  · go_wp2_with fail
    refine (impl_plan r _ r0 hr).mono ?_
    rintro e w3 ⟨a3, c3, rfl, hM3, hB3⟩
    have M3 : Hid (Mine w3 w2.heap.size a3 (planTo r 17)) := hM3
    have B3 : Hid (Below w.heap.size w w3) := B2.out.trans (hB3.mono B2.out.size)
    clear hM3 hB3
    go_wp2_with fail
    refine (spec_plan r _ r0 hr).mono ?_
    rintro e w4 ⟨a4, c4, rfl, hM4, hB4⟩
    have M4 : Hid (Mine w4 w3.heap.size a4 (planTo r 17)) := hM4
    have M3' : Hid (Mine w4 w2.heap.size a3 (planTo r 17)) := M3.out.kept hB4
    have B4 : Hid (Below w.heap.size w w4) := B3.out.trans (hB4.mono B3.out.size)
    clear hM4 hB4 M3
    obtain ⟨len, HL, hl9⟩ : ∃ len : Nat, Hid ((planTo r 17).length = len) ∧ len ≤ 9 := ⟨_, rfl, by have := (plan_nine r 17).1; omega⟩
    rw [HL.out]
    go_wp2_with fail
    refine (same_ints _ _ _ _ _ (planTo r 17) _ HL (by omega) M3'.out.ints M4.out.ints).mono ?_
    rintro e w5 ⟨rfl, hB5⟩
    have M5 : Hid (Mine w5 w2.heap.size a3 (planTo r 17)) := M3'.out.kept hB5
    have B5 : Hid (Below w.heap.size w w5) := B4.out.trans (hB5.mono B4.out.size)
    clear hB5 M3' M4
    go_wp2_with fail
    refine (number_any _ (src_kept C1.out B5.out) hlen1).mono ?_
    rintro e w' ⟨m, m0, m1, rfl, rfl⟩
    go_wp2_with fail
    have n0 : -65535 ≤ m % 131071 - 65535 := by omega
    have n1 : m % 131071 - 65535 ≤ 65535 := by omega
    generalize m % 131071 - 65535 = n at n0 n1 ⊢
    have hgood : Hid (∀ i, i < len → shB ((planTo r 17).getD i 0) = true) := by
      show ∀ i, i < len → _
      rw [← HL.out]; exact plan_good r
    refine (impl_do_good _ len _ (planTo r 17) n _ (by omega) n0 n1 HL M5.out.ints hgood).mono ?_
    rintro e w'' ⟨rfl, rfl⟩
    have hsum : sumN n (planTo r 17) len = r * n := by rw [← HL.out]; exact plan_right r0 hr
    rw [hsum]
    obtain ⟨q0, q1⟩ : -4294836225 ≤ r * n ∧ r * n ≤ 4294836225 := by
      have h1 := Int.mul_nonneg r0 (show 0 ≤ 65535 - n by omega)
      have h2 := Int.mul_nonneg r0 (show 0 ≤ 65535 + n by omega)
      rw [Int.mul_sub] at h1
      rw [Int.mul_add] at h2
      omega
    clear hsum hgood r0 r1 hr n0 n1 hs1 hlen0 C0 B2 B3 B4
    try clear m0 m1
    go_wp2_with fail
    clear q0 q1
    go_loop [13] (fun vi => ∃ j : Nat, (j + 1 ≤ len ∨ j = 0) ∧ vi = .int .i64 ((j : Int) + 1)) (fun vi => 20 - (intOf vi).toNat)
    case atStart => exact ⟨0, Or.inr rfl, rfl⟩
    case round =>
      obtain ⟨j, hj, rfl⟩ := hrel
      by_cases hlt : j + 1 < len
      · obtain ⟨bb, off, ha, hc⟩ := M5.out.ints.at (Below.refl _ _) (k := j) (by have := HL.out; omega)
        obtain ⟨bb', off', ha', hc'⟩ := M5.out.ints.at (Below.refl _ _) (k := j + 1) (by have := HL.out; omega)
        subst ha
        simp only [Option.some.injEq, Addr.mk.injEq] at ha'
        obtain ⟨e1, e2, _⟩ := ha'
        subst e1 e2
        have hap := plan_apart r 17 j (by have := HL.out; omega)
        have hx1 := plan_mem r 17 _ (getD_mem (zs := planTo r 17) (i := j) (by have := HL.out; omega))
        have hy1 := plan_mem r 17 _ (getD_mem (zs := planTo r 17) (i := j + 1) (by have := HL.out; omega))
        generalize (planTo r 17).getD j 0 = x at hc hap hx1
        generalize (planTo r 17).getD (j + 1) 0 = y at hc' hap hy1
        unfold absI at hap hx1 hy1
        have hlt' : (j : Int) + 1 < (len : Int) := by omega
        clear hj hlt
        have HAP : Hid (((x < 0 ∧ y < 0 ∧ -x + 2 ≤ -y) ∨ (x < 0 ∧ 0 ≤ y ∧ -x + 2 ≤ y) ∨ (0 ≤ x ∧ y < 0 ∧ x + 2 ≤ -y) ∨ (0 ≤ x ∧ 0 ≤ y ∧ x + 2 ≤ y))) := by
          show _ ∨ _ ∨ _ ∨ _
          by_cases sx : x < 0 <;> by_cases sy : y < 0 <;> simp only [sx, sy, if_true, if_false] at hap hx1 hy1 <;> omega
        have x2 : -17 ≤ x := by by_cases sx : x < 0 <;> simp only [sx, if_true, if_false] at hx1 <;> omega
        have x3 : x ≤ 17 := by by_cases sx : x < 0 <;> simp only [sx, if_true, if_false] at hx1 <;> omega
        have y2 : -17 ≤ y := by by_cases sy : y < 0 <;> simp only [sy, if_true, if_false] at hy1 <;> omega
        have y3 : y ≤ 17 := by by_cases sy : y < 0 <;> simp only [sy, if_true, if_false] at hy1 <;> omega
        clear hap hx1 hy1
        rcases HAP.out with ⟨s0, s1, s2⟩ | ⟨s0, s1, s2⟩ | ⟨s0, s1, s2⟩ | ⟨s0, s1, s2⟩
        all_goals
          go_wp2
          go_round
          case rel => exact ⟨j + 1, Or.inl (by omega), by go_num⟩
          case measure => simp [intOf]; omega
      · have hge : (len : Int) ≤ (j : Int) + 1 := by omega
        clear hj hlt
        go_wp2_with fail
        refine (drawDo_any (src_kept C1.out B5.out) hlen1).mono ?_
        rintro e w8 ⟨zs, a8, c8, n8, hz20, rfl, hI8, hB8⟩
        obtain ⟨o, v, hs, hi⟩ := both_do a8 zs.length c8 zs n8 w8 (by omega) rfl
        obtain ⟨l8, HL8⟩ : ∃ l8 : Nat, Hid (zs.length = l8) := ⟨_, rfl⟩
        rw [HL8.out] at hs hi ⊢
        have Hs : Hid (∀ (a : Option Addr) (cap : Nat) (W : World), Ints W a zs → Calls Try.prog 31 #[.slice a l8 cap, .int .i64 n8] W fun e W' => e = .returned (.tuple #[.int .i64 v, .bool o]) ∧ W' = W) := hs
        have Hi : Hid (∀ (a : Option Addr) (cap : Nat) (W : World), Ints W a zs → Calls Try.prog 29 #[.slice a l8 cap, .int .i64 n8] W fun e W' => e = .returned (.tuple #[.int .i64 v, .bool o]) ∧ W' = W) := hi
        have I8 : Hid (Ints w8 a8 zs) := hI8
        have B8 : Hid (Below w.heap.size w w8) := B5.out.trans (hB8.mono B5.out.size)
        clear hs hi hI8 hB8
        go_wp2_with fail
        refine (Hi.out _ _ _ I8.out).mono ?_
        rintro e w' ⟨rfl, rfl⟩
        go_wp2_with fail
        refine (Hs.out _ _ _ I8.out).mono ?_
        rintro e w' ⟨rfl, rfl⟩
        go_wp2
        go_ret
        exact ⟨by simp, B8.out⟩
  · go_wp2_with fail
    refine (impl_plan_no r _ (Or.inr (by omega))).mono ?_
    rintro e w' ⟨rfl, rfl⟩
    go_wp2_with fail
    refine (spec_plan_no r _ (inR_gt (by omega))).mono ?_
    rintro e w' ⟨rfl, rfl⟩
    go_wp2_with fail
    refine (same_ints none none 0 0 0 [] _ rfl (by omega) (Or.inl rfl) (Or.inl rfl)).mono ?_
    rintro e w5 ⟨rfl, hB5⟩
    have B5 : Hid (Below w.heap.size w w5) := B2.out.trans (hB5.mono B2.out.size)
    clear hB5
    go_wp2_with fail
    refine (drawDo_any (src_kept C1.out B5.out) hlen1).mono ?_
    rintro e w8 ⟨zs, a8, c8, n8, hz20, rfl, hI8, hB8⟩
    obtain ⟨o, v, hs, hi⟩ := both_do a8 zs.length c8 zs n8 w8 (by omega) rfl
    obtain ⟨l8, HL8⟩ : ∃ l8 : Nat, Hid (zs.length = l8) := ⟨_, rfl⟩
    rw [HL8.out] at hs hi ⊢
    have Hs : Hid (∀ (a : Option Addr) (cap : Nat) (W : World), Ints W a zs → Calls Try.prog 31 #[.slice a l8 cap, .int .i64 n8] W fun e W' => e = .returned (.tuple #[.int .i64 v, .bool o]) ∧ W' = W) := hs
    have Hi : Hid (∀ (a : Option Addr) (cap : Nat) (W : World), Ints W a zs → Calls Try.prog 29 #[.slice a l8 cap, .int .i64 n8] W fun e W' => e = .returned (.tuple #[.int .i64 v, .bool o]) ∧ W' = W) := hi
    have I8 : Hid (Ints w8 a8 zs) := hI8
    have B8 : Hid (Below w.heap.size w w8) := B5.out.trans (hB8.mono B5.out.size)
    clear hs hi hI8 hB8
    go_wp2_with fail
    refine (Hi.out _ _ _ I8.out).mono ?_
    rintro e w' ⟨rfl, rfl⟩
    go_wp2_with fail
    refine (Hs.out _ _ _ I8.out).mono ?_
    rintro e w' ⟨rfl, rfl⟩
    go_wp2
    go_ret
    exact ⟨by simp, B8.out⟩

set_option maxRecDepth 100000 in
theorem lifted (os : Os) (started : os.Started) (H : Type) (enc : TypeId × Value → H) :
    ReturnsInHanded {} Try.checked os 4 .any (Rows.fnPlansSpec.pre6 enc Try.prog Try.f4 Rows.fnPlansRow.domain false) (Rows.fnPlansSpec.post enc Try.prog Try.f4 false true false false) := by
  refine returnsInHanded_of_change_sized (C := Try.checked) own started (by kernel_rfl) Try.func4
    (ChangeSpec.witness6 (enc := enc) (C := Try.checked) false ⟨#[], #[.slice none 0 0, .slice none 0 0], []⟩ 8 (by kernel_rfl) (by kernel_rfl) (by kernel_rfl) (by kernel_rfl)) ?_
  intro W base args ds gs before hval0 hW hcnd hsz0 _
  have hval : ∀ (j : Nat) t v, Try.f4.params[j]? = some t → args[j]? = some v → Value.okWide Try.prog W .any base t v := hval0
  have hW' := hW
  obtain ⟨p, q, hA0, hV, rfl, hfz, hnd⟩ := hW
  have hsz : (DataW.weightsEach Try.prog (Try.f4.params.toList ++ Rows.fnPlansSpec.plain.varTypes Try.prog) (ds ++ gs)).all (· ≤ reachBytes) = true := hsz0
  have hA : DataW.TrodAll enc Try.prog W 0 (fun _ => true) true Try.f4.params.toList args.toList ds p := hA0
  rw [Try.params4] at hA hval hsz
  obtain ⟨v0, vs0, d0, ds0, p0, q0, hargs, rfl, rfl, h0, r0⟩ := trodAll_cons hA
  obtain ⟨v1, vs1, d1, ds1, p1, q1, rfl, rfl, rfl, h1, r1⟩ := trodAll_cons r0
  obtain ⟨rfl, rfl, rfl⟩ := trodAll_nil r1
  obtain rfl : args = #[v0, v1] := by cases args; simp_all
  obtain ⟨rfl, rfl⟩ := trodVars_none hV
  obtain ⟨a0, len0, cap0, rfl⟩ := okWide_slice Try.underlying22 (hval 0 22 v0 rfl rfl)
  have k0 := h0
  have lt0 : ∀ x ∈ p0, x.block < W.heap.size := by obtain ⟨m, hm⟩ := k0; exact DataW.trod_lt m _ _ _ hm
  obtain ⟨z0, w0, b0⟩ : ∃ zs, IsRow .u8 W a0 len0 cap0 zs ∧ len0 ≤ 140737488351232 := by
    obtain ⟨fuel, hf⟩ := h0
    rcases open_ints Try.underlying22 Try.underlying5 (by kernel_rfl) hf with ⟨hcs, _⟩ | ⟨x, l, c, zs, hcs, _, hl, hm, hz, hx, hcell, hwz⟩
    · simp [Value.cells] at hcs
      obtain ⟨rfl, rfl, rfl⟩ := hcs
      exact ⟨[], .inl ⟨rfl, rfl, rfl, rfl⟩, by omega⟩
    · simp [Value.cells] at hcs
      obtain ⟨rfl, rfl, rfl⟩ := hcs
      have hz' : zs.length = cap0 := by simpa using hz
      have hd : d0 = .slice (lits .u8 (zs.take len0)) (lits .u8 (zs.drop len0)) := congrArg Prod.fst hx
      have hs := sized_slice hsz (j := 0) (t := 22) (e := 5) rfl (by rw [hd]; rfl) Try.underlying22
      rw [show Try.prog.bytesOf 5 = 1 by kernel_rfl] at hs
      simp only [lits, List.length_map, List.length_take, List.length_drop, reachBytes] at hs
      exact ⟨zs, .inr ⟨_, rfl, hl, hm, hz', hcell, hwz⟩, by omega⟩
  obtain ⟨a1, len1, cap1, rfl⟩ := okWide_slice Try.underlying22 (hval 1 22 v1 rfl rfl)
  have k1 := h1
  have lt1 : ∀ x ∈ p1, x.block < W.heap.size := by obtain ⟨m, hm⟩ := k1; exact DataW.trod_lt m _ _ _ hm
  obtain ⟨z1, w1, b1⟩ : ∃ zs, IsRow .u8 W a1 len1 cap1 zs ∧ len1 ≤ 140737488351232 := by
    obtain ⟨fuel, hf⟩ := h1
    rcases open_ints Try.underlying22 Try.underlying5 (by kernel_rfl) hf with ⟨hcs, _⟩ | ⟨x, l, c, zs, hcs, _, hl, hm, hz, hx, hcell, hwz⟩
    · simp [Value.cells] at hcs
      obtain ⟨rfl, rfl, rfl⟩ := hcs
      exact ⟨[], .inl ⟨rfl, rfl, rfl, rfl⟩, by omega⟩
    · simp [Value.cells] at hcs
      obtain ⟨rfl, rfl, rfl⟩ := hcs
      have hz' : zs.length = cap1 := by simpa using hz
      have hd : d1 = .slice (lits .u8 (zs.take len1)) (lits .u8 (zs.drop len1)) := congrArg Prod.fst hx
      have hs := sized_slice hsz (j := 1) (t := 22) (e := 5) rfl (by rw [hd]; rfl) Try.underlying22
      rw [show Try.prog.bytesOf 5 = 1 by kernel_rfl] at hs
      simp only [lits, List.length_map, List.length_take, List.length_drop, reachBytes] at hs
      exact ⟨zs, .inr ⟨_, rfl, hl, hm, hz', hcell, hwz⟩, by omega⟩
  clear hA0 hval0
  refine (walk a0 len0 cap0 z0 a1 len1 cap1 z1 W w0 b0 w1 b1).mono fun e W' ⟨he, bel⟩ => ?_
  subst he
  exact ⟨_, rfl, _, _, _, [], _, [], hW', trodAll_mk1 (shut_bool Try.underlying4 _), (trodAll_cons_mk (Below.trod laidOut (by kernel_rfl) (of_decide_eq_true (by kernel_rfl)) k0 bel lt0) (trodAll_cons_mk (Below.trod laidOut (by kernel_rfl) (of_decide_eq_true (by kernel_rfl)) k1 bel lt1) trodAll_mk0)), rfl, bel.frame _, fun h => by cases h⟩

theorem over : Rows.fnPlansRow.holds Try.pinned (OpenSpec.ofChange Rows.fnPlansSpec) :=
  OpenClaim.holds_of_wide 4 Try.f4 rfl rfl rfl rfl rfl rfl rfl ⟨rfl, rfl, rfl, rfl, rfl⟩ rfl rfl rfl rfl rfl (by kernel_rfl) Try.func4 (by kernel_rfl)
    (of_decide_eq_true (by kernel_rfl)) (by unfold Func.isWrapper; first | (rw [if_pos (by decide +kernel)]; kernel_rfl) | (rw [if_neg (by decide +kernel)]; exact ⟨rfl, rfl⟩))
    (fun os started H enc _ => lifted os started H enc)

theorem proved : Rows.FnPlansSaid :=
  over
#print axioms proved
end Go.Proofs.Yteogabkfkfaejaa.fnPlans
