/-
  What toMagic and GoodMagic answer, of the program and of the specification, at every magic; they make new memory alone.
-/
import Derived.Test.YthfakhkoagdcjaaProg
import Derived.Test.YthfakhkoagdcjaaMagMath
import Derived.WalkKit
import Derived.WalkSpells
import Derived.Below
namespace Go.Proofs.Ythfakhkoagdcjaa.walks
open Go.RowKit Go.Proofs.Ythfakhkoagdcjaa.math

theorem bcell {W w1 : World} (hb : Below W.heap.size W w1) : (∀ b o, b < W.heap.size → w1.cell? ⟨b, o, none⟩ = W.cell? ⟨b, o, none⟩) ∧ (∀ b o, b < W.heap.size → w1.frozen? ⟨b, o, none⟩ = W.frozen? ⟨b, o, none⟩) :=
  ⟨fun b o h => hb.cell (p := ⟨b, o, none⟩) h, fun b o h => hb.frozen (p := ⟨b, o, none⟩) h⟩

theorem spec_in (n lo hi : Int) (W : World) : Calls Try.prog 24 #[.int .i64 n, .int .i64 lo, .int .i64 hi] W fun e W' => e = .returned (.bool (inR n lo hi)) ∧ W' = W := by
  by_cases h0 : lo ≤ n
  rotate_left
  · have k0 : n < lo := by omega
    have d0 : decide (lo ≤ n) = false := decide_eq_false h0
    rw [inR_lt k0]
    clear h0
    go_enter Try.func24, Try.ntmps24
    go_wp2
    go_ret
    exact ⟨rfl, rfl⟩
  by_cases h1 : n ≤ hi
  rotate_left
  · have k1 : hi < n := by omega
    have d1 : decide (n ≤ hi) = false := decide_eq_false h1
    rw [inR_gt k1]
    clear h1
    go_enter Try.func24, Try.ntmps24
    go_wp2
    go_ret
    exact ⟨rfl, rfl⟩
  rw [inR_mk h0 h1]
  have d1 : decide (n ≤ hi) = true := decide_eq_true h1
  have d0 : decide (lo ≤ n) = true := decide_eq_true h0
  go_enter Try.func24, Try.ntmps24
  go_wp2
  go_ret
  exact ⟨rfl, rfl⟩
-- fi

theorem impl_word (n : Int) (W : World) : Calls Try.prog 25 #[.int .i64 n] W fun e W' => e = .returned (.bool (inR n 0 65535)) ∧ W' = W := by
  by_cases h0 : 0 ≤ n
  rotate_left
  · have k0 : n < 0 := by omega
    have d0 : decide (0 ≤ n) = false := decide_eq_false h0
    rw [inR_lt k0]
    clear h0
    go_enter Try.func25, Try.ntmps25
    go_wp2
    go_ret
    exact ⟨rfl, rfl⟩
  by_cases h1 : n ≤ 65535
  rotate_left
  · have k1 : 65535 < n := by omega
    have d1 : decide (n ≤ 65535) = false := decide_eq_false h1
    rw [inR_gt k1]
    clear h1
    go_enter Try.func25, Try.ntmps25
    go_wp2
    go_ret
    exact ⟨rfl, rfl⟩
  rw [inR_mk h0 h1]
  have d1 : decide (n ≤ 65535) = true := decide_eq_true h1
  have d0 : decide (0 ≤ n) = true := decide_eq_true h0
  go_enter Try.func25, Try.ntmps25
  go_wp2
  go_ret
  exact ⟨rfl, rfl⟩

theorem impl_divisor (n : Int) (W : World) : Calls Try.prog 21 #[.int .i64 n] W fun e W' => e = .returned (.bool (inR n 1 65535)) ∧ W' = W := by
  by_cases h0 : 1 ≤ n
  rotate_left
  · have k0 : n < 1 := by omega
    have d0 : decide (1 ≤ n) = false := decide_eq_false h0
    rw [inR_lt k0]
    clear h0
    go_enter Try.func21, Try.ntmps21
    go_wp2
    go_ret
    exact ⟨rfl, rfl⟩
  by_cases h1 : n ≤ 65535
  rotate_left
  · have k1 : 65535 < n := by omega
    have d1 : decide (n ≤ 65535) = false := decide_eq_false h1
    rw [inR_gt k1]
    clear h1
    go_enter Try.func21, Try.ntmps21
    go_wp2
    go_ret
    exact ⟨rfl, rfl⟩
  rw [inR_mk h0 h1]
  have d1 : decide (n ≤ 65535) = true := decide_eq_true h1
  have d0 : decide (1 ≤ n) = true := decide_eq_true h0
  go_enter Try.func21, Try.ntmps21
  go_wp2
  go_ret
  exact ⟨rfl, rfl⟩

theorem impl_good (b m s : Int) (W : World) :
    Calls Try.prog 10 #[.agg #[.int .i64 b, .int .i64 m, .int .i64 s]] W fun e W' => e = .returned (.bool (goodB b m s)) ∧ W' = W.alloc (.cells #[.int .i64 b, .int .i64 m, .int .i64 s] 25) := by
  by_cases h0 : 1 ≤ b
  rotate_left
  · have n0 : b < 1 := by omega
    have d0 : decide (1 ≤ b) = false := decide_eq_false h0
    clear h0
    rw [show goodB b m s = false from decide_eq_false (by omega)]
    go_enter Try.func10, Try.ntmps10
    go_wp2
    go_ret
    exact ⟨rfl, rfl⟩
  by_cases h1 : b ≤ 65535
  rotate_left
  · have n1 : 65535 < b := by omega
    have d1 : decide (b ≤ 65535) = false := decide_eq_false h1
    clear h1
    rw [show goodB b m s = false from decide_eq_false (by omega)]
    go_enter Try.func10, Try.ntmps10
    go_wp2
    go_ret
    exact ⟨rfl, rfl⟩
  by_cases h2 : 0 ≤ m
  rotate_left
  · have n2 : m < 0 := by omega
    have d2 : decide (0 ≤ m) = false := decide_eq_false h2
    clear h2
    rw [show goodB b m s = false from decide_eq_false (by omega)]
    go_enter Try.func10, Try.ntmps10
    go_wp2
    go_ret
    exact ⟨rfl, rfl⟩
  by_cases h3 : m ≤ 131071
  rotate_left
  · have n3 : 131071 < m := by omega
    have d3 : decide (m ≤ 131071) = false := decide_eq_false h3
    clear h3
    rw [show goodB b m s = false from decide_eq_false (by omega)]
    go_enter Try.func10, Try.ntmps10
    go_wp2
    go_ret
    exact ⟨rfl, rfl⟩
  by_cases h4 : 0 ≤ s
  rotate_left
  · have n4 : s < 0 := by omega
    have d4 : decide (0 ≤ s) = false := decide_eq_false h4
    clear h4
    rw [show goodB b m s = false from decide_eq_false (by omega)]
    go_enter Try.func10, Try.ntmps10
    go_wp2
    go_ret
    exact ⟨rfl, rfl⟩
  by_cases h5 : s ≤ 32
  rotate_left
  · have n5 : 32 < s := by omega
    have d5 : decide (s ≤ 32) = false := decide_eq_false h5
    clear h5
    rw [show goodB b m s = false from decide_eq_false (by omega)]
    go_enter Try.func10, Try.ntmps10
    go_wp2
    go_ret
    exact ⟨rfl, rfl⟩
  rw [show goodB b m s = true from decide_eq_true (by omega)]
  go_enter Try.func10, Try.ntmps10
  go_wp2
  go_ret
  exact ⟨rfl, rfl⟩
theorem impl_good_b (b m s : Int) (W : World) :
    Calls Try.prog 10 #[.agg #[.int .i64 b, .int .i64 m, .int .i64 s]] W fun e W' => e = .returned (.bool (goodB b m s)) ∧ Below W.heap.size W W' := by
  refine (impl_good b m s W).mono ?_
  rintro e w' ⟨rfl, rfl⟩
  exact ⟨rfl, (Below.refl _ _).alloc (Nat.le_refl _) _⟩

theorem spec_good (b m s : Int) (W : World) :
    Calls Try.prog 17 #[.agg #[.int .i64 b, .int .i64 m, .int .i64 s]] W fun e W' => e = .returned (.bool (goodB b m s)) ∧ W' = W.alloc (.cells #[.int .i64 b, .int .i64 m, .int .i64 s] 25) := by
  by_cases h0 : 1 ≤ b
  rotate_left
  · have n0 : b < 1 := by omega
    have d0 : decide (1 ≤ b) = false := decide_eq_false h0
    clear h0
    rw [show goodB b m s = false from decide_eq_false (by omega)]
    go_enter Try.func17, Try.ntmps17
    go_wp2
    go_ret
    exact ⟨rfl, rfl⟩
  by_cases h1 : b ≤ 65535
  rotate_left
  · have n1 : 65535 < b := by omega
    have d1 : decide (b ≤ 65535) = false := decide_eq_false h1
    clear h1
    rw [show goodB b m s = false from decide_eq_false (by omega)]
    go_enter Try.func17, Try.ntmps17
    go_wp2
    go_ret
    exact ⟨rfl, rfl⟩
  by_cases h2 : 0 ≤ m
  rotate_left
  · have n2 : m < 0 := by omega
    have d2 : decide (0 ≤ m) = false := decide_eq_false h2
    clear h2
    rw [show goodB b m s = false from decide_eq_false (by omega)]
    go_enter Try.func17, Try.ntmps17
    go_wp2
    go_ret
    exact ⟨rfl, rfl⟩
  by_cases h3 : m ≤ 131071
  rotate_left
  · have n3 : 131071 < m := by omega
    have d3 : decide (m ≤ 131071) = false := decide_eq_false h3
    clear h3
    rw [show goodB b m s = false from decide_eq_false (by omega)]
    go_enter Try.func17, Try.ntmps17
    go_wp2
    go_ret
    exact ⟨rfl, rfl⟩
  by_cases h4 : 0 ≤ s
  rotate_left
  · have n4 : s < 0 := by omega
    have d4 : decide (0 ≤ s) = false := decide_eq_false h4
    clear h4
    rw [show goodB b m s = false from decide_eq_false (by omega)]
    go_enter Try.func17, Try.ntmps17
    go_wp2
    go_ret
    exact ⟨rfl, rfl⟩
  by_cases h5 : s ≤ 32
  rotate_left
  · have n5 : 32 < s := by omega
    have d5 : decide (s ≤ 32) = false := decide_eq_false h5
    clear h5
    rw [show goodB b m s = false from decide_eq_false (by omega)]
    go_enter Try.func17, Try.ntmps17
    go_wp2
    go_ret
    exact ⟨rfl, rfl⟩
  rw [show goodB b m s = true from decide_eq_true (by omega)]
  go_enter Try.func17, Try.ntmps17
  go_wp2
  go_ret
  exact ⟨rfl, rfl⟩
theorem spec_good_b (b m s : Int) (W : World) :
    Calls Try.prog 17 #[.agg #[.int .i64 b, .int .i64 m, .int .i64 s]] W fun e W' => e = .returned (.bool (goodB b m s)) ∧ Below W.heap.size W W' := by
  refine (spec_good b m s W).mono ?_
  rintro e w' ⟨rfl, rfl⟩
  exact ⟨rfl, (Below.refl _ _).alloc (Nat.le_refl _) _⟩
end Go.Proofs.Ythfakhkoagdcjaa.walks
