/-
  What DoPlan answers, of the program and of the specification, at every list and every number; they write nothing.
-/
import Derived.Test.YteogabkfkfaejaaProg
import Derived.Test.YteogabkfkfaejaaMagMath
import Derived.Test.YteogabkfkfaejaaMagGood
import Derived.Test.YteogabkfkfaejaaPlanMath
import Derived.Test.YteogabkfkfaejaaInts
import Derived.WalkKit
import Derived.WalkSpells
import Derived.Below
import Derived.Handy
namespace Go.Proofs.Yteogabkfkfaejaa.walks
open Go.RowKit Go.Proofs.Yteogabkfkfaejaa.math Go.Proofs.Yteogabkfkfaejaa.ints
set_option linter.unusedVariables false

theorem num_at {w : World} {p : Addr} {x : Int} (h : w.cell? p = some (.int .i64 x)) : ∃ z : Int, w.cell? p = some (.int .i64 z) ∧ Hid (z = x) := ⟨_, h, rfl⟩

theorem spec_do_long (a : Option Addr) (len cap : Nat) (zs : List Int) (n : Int) (W : World) (h : 20 < len) (hm : len ≤ 9223372036854775807) : Calls Try.prog 31 #[.slice a len cap, .int .i64 n] W fun e W' => e = .returned (.tuple #[.int .i64 0, .bool false]) ∧ W' = W := by
  go_enter Try.func31, Try.ntmps31
  go_wp2_with (go_at_call 38; refine (spec_in _ _ _ _).mono ?_; rintro e w' ⟨rfl, rfl⟩)
  go_ret2
  exact ⟨rfl, rfl⟩
theorem spec_do_out (a : Option Addr) (len cap : Nat) (zs : List Int) (n : Int) (W : World) (h : len ≤ 20) (hn : inR n (-65535) 65535 = false) : Calls Try.prog 31 #[.slice a len cap, .int .i64 n] W fun e W' => e = .returned (.tuple #[.int .i64 0, .bool false]) ∧ W' = W := by
  go_enter Try.func31, Try.ntmps31
  go_wp2_with (go_at_call 38; refine (spec_in _ _ _ _).mono ?_; rintro e w' ⟨rfl, rfl⟩)
  go_ret2
  exact ⟨rfl, rfl⟩

set_option maxHeartbeats 2000000 in
theorem spec_do (a : Option Addr) (len cap : Nat) (zs : List Int) (n : Int) (W : World) (o : Bool) (v : Int) (hl : len ≤ 20) (n0 : -65535 ≤ n) (n1 : n ≤ 65535) (hz : Hid (zs.length = len)) (h : Hid (Ints W a zs))
    (hY : Hid ((∀ i, i < len → shB (zs.getD i 0) = true) → o = true ∧ v = sumN n zs len)) (hN : Hid ((∃ i, i < len ∧ shB (zs.getD i 0) = false) → o = false ∧ v = 0)) :
    Calls Try.prog 31 #[.slice a len cap, .int .i64 n] W fun e W' => e = .returned (.tuple #[.int .i64 v, .bool o]) ∧ W' = W := by
  have hin : inR n (-65535) 65535 = true := inR_mk n0 n1
  go_enter Try.func31, Try.ntmps31
  go_wp2_with (go_at_call 38; refine (spec_in _ _ _ _).mono ?_; rintro e w' ⟨rfl, rfl⟩)
  go_loop [6, 19] (fun vs vi => ∃ k : Nat, ∃ s : Int, k ≤ len ∧ vi = .int .i64 k ∧ vs = .int .i64 s ∧ -687184281600 ≤ s ∧ s ≤ 687184281600 ∧ Hid (s = sumN n zs k) ∧ Hid (∀ i, i < k → shB (zs.getD i 0) = true)) (fun _ vi => len - (intOf vi).toNat)
  case atStart => exact ⟨0, 0, Nat.zero_le _, rfl, rfl, by omega, by omega, rfl, fun i hi => by omega⟩
  case round =>
    obtain ⟨k, s, hk, rfl, rfl, s0, s1, HS, HG⟩ := hrel
    by_cases hlt : k < len
    · skip
      obtain ⟨b, off, ha, hc⟩ := h.out.at (Below.refl _ _) (k := k) (by have := hz.out; omega)
      subst ha
      obtain ⟨z, hzk, HZ⟩ := num_at hc
      clear hc
      cases hg : shB z
      · have HV : Hid (o = false ∧ v = 0) := hN.out ⟨k, hlt, by rw [← HZ.out]; exact hg⟩
        have i0 : inR z 1 20 = false := by rcases sh_no hg with h | h | h; exact inR_lt (by omega); exact inR_lt (by omega); exact inR_gt h
        have i1 : inR z (-20) (-1) = false := by rcases sh_no hg with h | h | h; exact inR_lt h; exact inR_gt (by omega); exact inR_gt (by omega)
        go_wp2_with (go_at_call 38; refine (spec_in _ _ _ _).mono ?_; rintro e w' ⟨rfl, rfl⟩)
        go_ret2
        exact ⟨by rw [HV.out.1, HV.out.2]; rfl, rfl⟩
      · have HG' : Hid (∀ i, i < k + 1 → shB (zs.getD i 0) = true) := by
          show ∀ i, i < k + 1 → _
          intro i hi
          by_cases e : i = k
          · rw [e, ← HZ.out]; exact hg
          · exact HG.out i (by omega)
        rcases sh_out hg with ⟨g0, g1⟩ | ⟨g0, g1⟩
        · obtain ⟨p0, p1⟩ := pow19 (y := z.toNat - 1) (by omega)
          obtain ⟨q0, q1⟩ := mul_sym n0 n1 p0 p1
          have HN : Hid (s + n * 2 ^ (z.toNat - 1) = sumN n zs (k + 1)) := by
            show s + n * 2 ^ (z.toNat - 1) = sumN n zs k + shV n (zs.getD k 0)
            rw [← HS.out, ← HZ.out]; unfold shV; rw [if_neg (by omega)]
          have hbd := sum_bd (zs := zs) n0 n1 (k + 1) HG'.out
          have hb0 : -687184281600 ≤ s + n * 2 ^ (z.toNat - 1) := by have := HN.out; omega
          have hb1 : s + n * 2 ^ (z.toNat - 1) ≤ 687184281600 := by have := HN.out; omega
          clear hbd
          have i0 : inR z 1 20 = true := inR_mk g0 g1
          go_wp2_with (go_at_call 38; refine (spec_in _ _ _ _).mono ?_; rintro e w' ⟨rfl, rfl⟩)
          go_round
          case rel => exact ⟨k + 1, _, by omega, by go_num, rfl, hb0, hb1, HN, HG'⟩
          case measure => simp [intOf]; omega
        · obtain ⟨p0, p1⟩ := pow19 (y := (-z).toNat - 1) (by omega)
          obtain ⟨q0, q1⟩ := mul_sym n0 n1 p0 p1
          have HN : Hid (s - n * 2 ^ ((-z).toNat - 1) = sumN n zs (k + 1)) := by
            show s - n * 2 ^ ((-z).toNat - 1) = sumN n zs k + shV n (zs.getD k 0)
            rw [← HS.out, ← HZ.out]; unfold shV; rw [if_pos (by omega)]; omega
          have hbd := sum_bd (zs := zs) n0 n1 (k + 1) HG'.out
          have hb0 : -687184281600 ≤ s - n * 2 ^ ((-z).toNat - 1) := by have := HN.out; omega
          have hb1 : s - n * 2 ^ ((-z).toNat - 1) ≤ 687184281600 := by have := HN.out; omega
          clear hbd
          have i0 : inR z 1 20 = false := inR_lt (by omega)
          have i1 : inR z (-20) (-1) = true := inR_mk g0 g1
          go_wp2_with (go_at_call 38; refine (spec_in _ _ _ _).mono ?_; rintro e w' ⟨rfl, rfl⟩)
          go_round
          case rel => exact ⟨k + 1, _, by omega, by go_num, rfl, hb0, hb1, HN, HG'⟩
          case measure => simp [intOf]; omega
    · have HE : Hid (k = len) := by show k = len; omega
      have HV : Hid (o = true ∧ v = sumN n zs len) := hY.out (by rw [← HE.out]; exact HG.out)
      go_wp2
      go_ret2
      exact ⟨by rw [HV.out.1, HV.out.2, ← HE.out, ← HS.out]; rfl, rfl⟩

theorem impl_isplan_long (a : Option Addr) (len cap : Nat) (W : World) (h : 20 < len) (hm : len ≤ 9223372036854775807) : Calls Try.prog 48 #[.slice a len cap] W fun e W' => e = .returned (.bool false) ∧ W' = W := by
  go_enter Try.func48, Try.ntmps48
  go_wp2
  go_ret
  exact ⟨rfl, rfl⟩
set_option maxHeartbeats 2000000 in
theorem impl_isplan (a : Option Addr) (len cap : Nat) (zs : List Int) (W : World) (o : Bool) (hl : len ≤ 20) (hz : Hid (zs.length = len)) (h : Hid (Ints W a zs))
    (hY : Hid ((∀ i, i < len → shB (zs.getD i 0) = true) → o = true)) (hN : Hid ((∃ i, i < len ∧ shB (zs.getD i 0) = false) → o = false)) :
    Calls Try.prog 48 #[.slice a len cap] W fun e W' => e = .returned (.bool o) ∧ W' = W := by
  go_enter Try.func48, Try.ntmps48
  go_wp2
  go_loop [10] (fun vi => ∃ k : Nat, k ≤ len ∧ vi = .int .i64 k ∧ Hid (∀ i, i < k → shB (zs.getD i 0) = true)) (fun vi => len - (intOf vi).toNat)
  case atStart => exact ⟨0, Nat.zero_le _, rfl, fun i hi => by omega⟩
  case round =>
    obtain ⟨k, hk, rfl, HG⟩ := hrel
    by_cases hlt : k < len
    · skip
      obtain ⟨b, off, ha, hc⟩ := h.out.at (Below.refl _ _) (k := k) (by have := hz.out; omega)
      subst ha
      obtain ⟨z, hzk, HZ⟩ := num_at hc
      clear hc
      cases hg : shB z
      · have HV : Hid (o = false) := hN.out ⟨k, hlt, by rw [← HZ.out]; exact hg⟩
        rcases sh_no hg with g | g | g
        · have d : decide (z = 0) = false := decide_eq_false (by omega)
          go_wp2
          go_ret
          exact ⟨by rw [HV.out]; rfl, rfl⟩
        · subst g
          go_wp2
          go_ret
          exact ⟨by rw [HV.out]; rfl, rfl⟩
        · have d : decide (z = 0) = false := decide_eq_false (by omega)
          go_wp2
          go_ret
          exact ⟨by rw [HV.out]; rfl, rfl⟩
      · have HG' : Hid (∀ i, i < k + 1 → shB (zs.getD i 0) = true) := by
          show ∀ i, i < k + 1 → _
          intro i hi
          by_cases e : i = k
          · rw [e, ← HZ.out]; exact hg
          · exact HG.out i (by omega)
        have g2 : -20 ≤ z := by rcases sh_out hg with g | g <;> omega
        have g3 : z ≤ 20 := by rcases sh_out hg with g | g <;> omega
        have d : decide (z = 0) = false := decide_eq_false (by rcases sh_out hg with g | g <;> omega)
        have dz : (z == 0) = false := by have := of_decide_eq_false d; simpa using this
        have d1 : decide (z < -20) = false := decide_eq_false (by omega)
        have d2 : decide (20 < z) = false := decide_eq_false (by omega)
        clear d
        go_wp2
        go_round
        case rel => exact ⟨k + 1, by omega, by go_num, HG'⟩
        case measure => simp [intOf]; omega
    · have HV : Hid (o = true) := hY.out (by rw [show len = k by omega]; exact HG.out)
      go_wp2
      go_ret
      exact ⟨by rw [HV.out]; rfl, rfl⟩

set_option maxHeartbeats 2000000 in
theorem impl_sum (a : Option Addr) (len cap : Nat) (zs : List Int) (n : Int) (W : World) (hl : len ≤ 20) (n0 : -65535 ≤ n) (n1 : n ≤ 65535) (hz : Hid (zs.length = len)) (h : Hid (Ints W a zs)) (hA : Hid (∀ i, i < len → shB (zs.getD i 0) = true)) :
    Calls Try.prog 49 #[.int .i64 n, .slice a len cap] W fun e W' => e = .returned (.int .i64 (sumN n zs len)) ∧ W' = W := by
  go_enter Try.func49, Try.ntmps49
  go_wp2
  go_loop [5, 10] (fun vs vi => ∃ k : Nat, ∃ s : Int, k ≤ len ∧ vi = .int .i64 k ∧ vs = .int .i64 s ∧ -687184281600 ≤ s ∧ s ≤ 687184281600 ∧ Hid (s = sumN n zs k) ∧ Hid (∀ i, i < k → shB (zs.getD i 0) = true)) (fun _ vi => len - (intOf vi).toNat)
  case atStart => exact ⟨0, 0, Nat.zero_le _, rfl, rfl, by omega, by omega, rfl, fun i hi => by omega⟩
  case round =>
    obtain ⟨k, s, hk, rfl, rfl, s0, s1, HS, HG⟩ := hrel
    by_cases hlt : k < len
    · skip
      obtain ⟨b, off, ha, hc⟩ := h.out.at (Below.refl _ _) (k := k) (by have := hz.out; omega)
      subst ha
      obtain ⟨z, hzk, HZ⟩ := num_at hc
      clear hc
      have hg : shB z = true := by rw [HZ.out]; exact hA.out k hlt
      have HG' : Hid (∀ i, i < k + 1 → shB (zs.getD i 0) = true) := fun i hi => hA.out i (by omega)
      rcases sh_out hg with ⟨g0, g1⟩ | ⟨g0, g1⟩
      · obtain ⟨p0, p1⟩ := pow19 (y := z.toNat - 1) (by omega)
        obtain ⟨q0, q1⟩ := mul_sym n0 n1 p0 p1
        have HN : Hid (s + n * 2 ^ (z.toNat - 1) = sumN n zs (k + 1)) := by
          show s + n * 2 ^ (z.toNat - 1) = sumN n zs k + shV n (zs.getD k 0)
          rw [← HS.out, ← HZ.out]; unfold shV; rw [if_neg (by omega)]
        have hbd := sum_bd (zs := zs) n0 n1 (k + 1) HG'.out
        have hb0 : -687184281600 ≤ s + n * 2 ^ (z.toNat - 1) := by have := HN.out; omega
        have hb1 : s + n * 2 ^ (z.toNat - 1) ≤ 687184281600 := by have := HN.out; omega
        clear hbd
        go_wp2
        go_round
        case rel => exact ⟨k + 1, _, by omega, by go_num, rfl, hb0, hb1, HN, HG'⟩
        case measure => simp [intOf]; omega
      · obtain ⟨p0, p1⟩ := pow19 (y := (-z).toNat - 1) (by omega)
        obtain ⟨q0, q1⟩ := mul_sym n0 n1 p0 p1
        have HN : Hid (s - n * 2 ^ ((-z).toNat - 1) = sumN n zs (k + 1)) := by
          show s - n * 2 ^ ((-z).toNat - 1) = sumN n zs k + shV n (zs.getD k 0)
          rw [← HS.out, ← HZ.out]; unfold shV; rw [if_pos (by omega)]; omega
        have hbd := sum_bd (zs := zs) n0 n1 (k + 1) HG'.out
        have hb0 : -687184281600 ≤ s - n * 2 ^ ((-z).toNat - 1) := by have := HN.out; omega
        have hb1 : s - n * 2 ^ ((-z).toNat - 1) ≤ 687184281600 := by have := HN.out; omega
        clear hbd
        go_wp2
        go_round
        case rel => exact ⟨k + 1, _, by omega, by go_num, rfl, hb0, hb1, HN, HG'⟩
        case measure => simp [intOf]; omega
    · have HE : Hid (k = len) := by show k = len; omega
      go_wp2
      go_ret
      exact ⟨by rw [← HE.out, ← HS.out]; rfl, rfl⟩

theorem impl_do_long (a : Option Addr) (len cap : Nat) (zs : List Int) (n : Int) (W : World) (h : 20 < len) (hm : len ≤ 9223372036854775807) : Calls Try.prog 29 #[.slice a len cap, .int .i64 n] W fun e W' => e = .returned (.tuple #[.int .i64 0, .bool false]) ∧ W' = W := by
  by_cases n0 : n < -65535
  · go_enter Try.func29, Try.ntmps29
    go_wp2
    go_ret2
    exact ⟨rfl, rfl⟩
  by_cases n1 : 65535 < n
  · go_enter Try.func29, Try.ntmps29
    go_wp2
    go_ret2
    exact ⟨rfl, rfl⟩
  go_enter Try.func29, Try.ntmps29
  go_wp2_with (go_at_call 48; refine (impl_isplan_long _ _ _ _ h hm).mono ?_; rintro e w' ⟨rfl, rfl⟩)
  go_ret2
  exact ⟨rfl, rfl⟩
theorem impl_do_out (a : Option Addr) (len cap : Nat) (zs : List Int) (n : Int) (W : World) (hn : n < -65535 ∨ 65535 < n) : Calls Try.prog 29 #[.slice a len cap, .int .i64 n] W fun e W' => e = .returned (.tuple #[.int .i64 0, .bool false]) ∧ W' = W := by
  rcases hn with hn | hn
  · go_enter Try.func29, Try.ntmps29
    go_wp2
    go_ret2
    exact ⟨rfl, rfl⟩
  · have n0 : ¬ n < -65535 := by omega
    go_enter Try.func29, Try.ntmps29
    go_wp2
    go_ret2
    exact ⟨rfl, rfl⟩
theorem impl_do_bad (a : Option Addr) (len cap : Nat) (zs : List Int) (n : Int) (W : World) (hl : len ≤ 20) (n0 : -65535 ≤ n) (n1 : n ≤ 65535) (hz : Hid (zs.length = len)) (h : Hid (Ints W a zs)) (hb : Hid (∃ i, i < len ∧ shB (zs.getD i 0) = false)) : Calls Try.prog 29 #[.slice a len cap, .int .i64 n] W fun e W' => e = .returned (.tuple #[.int .i64 0, .bool false]) ∧ W' = W := by
  have hY : Hid ((∀ i, i < len → shB (zs.getD i 0) = true) → false = true) := fun hA => by
    obtain ⟨i, hi, e⟩ := hb.out
    rw [hA i hi] at e; exact e.symm
  have hN : Hid ((∃ i, i < len ∧ shB (zs.getD i 0) = false) → false = false) := fun _ => rfl
  go_enter Try.func29, Try.ntmps29
  go_wp2_with (go_at_call 48; refine (impl_isplan _ _ _ zs _ false hl hz h hY hN).mono ?_; rintro e w' ⟨rfl, rfl⟩)
  go_ret2
  exact ⟨rfl, rfl⟩
theorem impl_do_good (a : Option Addr) (len cap : Nat) (zs : List Int) (n : Int) (W : World) (hl : len ≤ 20) (n0 : -65535 ≤ n) (n1 : n ≤ 65535) (hz : Hid (zs.length = len)) (h : Hid (Ints W a zs)) (hA : Hid (∀ i, i < len → shB (zs.getD i 0) = true)) :
    Calls Try.prog 29 #[.slice a len cap, .int .i64 n] W fun e W' => e = .returned (.tuple #[.int .i64 (sumN n zs len), .bool true]) ∧ W' = W := by
  have hY : Hid ((∀ i, i < len → shB (zs.getD i 0) = true) → true = true) := fun _ => rfl
  have hN : Hid ((∃ i, i < len ∧ shB (zs.getD i 0) = false) → true = false) := fun ⟨i, hi, e⟩ => by rw [hA.out i hi] at e; exact e
  go_enter Try.func29, Try.ntmps29
  go_wp2_with (first | (go_at_call 48; refine (impl_isplan _ _ _ zs _ true hl hz h hY hN).mono ?_; rintro e w' ⟨rfl, rfl⟩) | (go_at_call 49; refine (impl_sum _ _ _ zs _ _ hl n0 n1 hz h hA).mono ?_; rintro e w' ⟨rfl, rfl⟩))
  go_ret2
  exact ⟨rfl, rfl⟩

/-- What DoPlan answers at every list: both alike. -/
theorem both_do (a : Option Addr) (len cap : Nat) (zs : List Int) (n : Int) (W : World) (hm : len ≤ 1048576) (hz : zs.length = len) : ∃ (o : Bool) (v : Int),
    (∀ (a : Option Addr) (cap : Nat) (W : World), Ints W a zs → Calls Try.prog 31 #[.slice a len cap, .int .i64 n] W fun e W' => e = .returned (.tuple #[.int .i64 v, .bool o]) ∧ W' = W) ∧
    (∀ (a : Option Addr) (cap : Nat) (W : World), Ints W a zs → Calls Try.prog 29 #[.slice a len cap, .int .i64 n] W fun e W' => e = .returned (.tuple #[.int .i64 v, .bool o]) ∧ W' = W) := by
  by_cases hl : len ≤ 20
  rotate_left
  · exact ⟨false, 0, fun a cap W _ => spec_do_long a len cap zs n W (by omega) (by omega), fun a cap W _ => impl_do_long a len cap zs n W (by omega) (by omega)⟩
  by_cases n0 : -65535 ≤ n
  rotate_left
  · exact ⟨false, 0, fun a cap W _ => spec_do_out a len cap zs n W hl (inR_lt (by omega)), fun a cap W _ => impl_do_out a len cap zs n W (Or.inl (by omega))⟩
  by_cases n1 : n ≤ 65535
  rotate_left
  · exact ⟨false, 0, fun a cap W _ => spec_do_out a len cap zs n W hl (inR_gt (by omega)), fun a cap W _ => impl_do_out a len cap zs n W (Or.inr (by omega))⟩
  by_cases hA : ∀ i, i < len → shB (zs.getD i 0) = true
  · refine ⟨true, sumN n zs len, fun a cap W h => spec_do a len cap zs n W true _ hl n0 n1 hz h (fun _ => ⟨rfl, rfl⟩) (fun ⟨i, hi, e⟩ => by rw [hA i hi] at e; cases e), fun a cap W h => impl_do_good a len cap zs n W hl n0 n1 hz h hA⟩
  · have hb : ∃ i, i < len ∧ shB (zs.getD i 0) = false := by
      apply Classical.byContradiction; intro hc
      apply hA; intro i hi
      cases e : shB (zs.getD i 0)
      · exact (hc ⟨i, hi, e⟩).elim
      · rfl
    refine ⟨false, 0, fun a cap W h => spec_do a len cap zs n W false 0 hl n0 n1 hz h (fun hA' => (hA hA').elim) (fun _ => ⟨rfl, rfl⟩), fun a cap W h => impl_do_bad a len cap zs n W hl n0 n1 hz h hb⟩
end Go.Proofs.Yteogabkfkfaejaa.walks
