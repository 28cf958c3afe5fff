/-
  What IsRight answers, of the program and of the specification, at every magic; they make new memory alone.
-/
import Derived.Test.YthfakhkoagdcjaaProg
import Derived.Test.YthfakhkoagdcjaaMagMath
import Derived.Test.YthfakhkoagdcjaaMagGood
import Derived.Test.YthfakhkoagdcjaaMagDivs
import Derived.WalkKit
import Derived.WalkSpells
import Derived.Below
import Derived.Handy
import Derived.Deep.RegionWith
namespace Go.Proofs.Ythfakhkoagdcjaa.walks
open Go.RowKit Go.Proofs.Ythfakhkoagdcjaa.math

/-- That all numbers are divided rightly; or that one is not. -/
def Right (b m s : Int) : Prop := ∀ n : Int, 0 ≤ n → n ≤ 65535 → divW m s n = n / b
theorem step_same {n b q r : Int} (hb : 1 ≤ b) (hq : q = n / b) (hr : r = n % b) (h : r + 1 ≠ b) : q = (n + 1) / b ∧ r + 1 = (n + 1) % b := by
  have h1 := Int.mul_ediv_add_emod n b
  have h2 := Int.emod_nonneg n (show b ≠ 0 by omega)
  have h3 := Int.emod_lt_of_pos n (show 0 < b by omega)
  have e : n + 1 = (r + 1) + b * q := by rw [hq, hr]; omega
  rw [e]
  constructor
  · rw [Int.add_mul_ediv_left _ _ (show b ≠ 0 by omega), Int.ediv_eq_zero_of_lt (by omega) (by omega)]; omega
  · rw [Int.add_mul_emod_self_left, Int.emod_eq_of_lt (by omega) (by omega)]
theorem step_next {n b q r : Int} (hb : 1 ≤ b) (hq : q = n / b) (hr : r = n % b) (h : r + 1 = b) : q + 1 = (n + 1) / b ∧ 0 = (n + 1) % b := by
  have h1 := Int.mul_ediv_add_emod n b
  have e : n + 1 = 0 + b * (q + 1) := by rw [Int.mul_add, hq]; omega
  rw [e]
  constructor
  · rw [Int.add_mul_ediv_left _ _ (show b ≠ 0 by omega), Int.zero_ediv]; omega
  · rw [Int.add_mul_emod_self_left, Int.zero_emod]

theorem impl_right_no (b m s : Int) (W : World) (hg : goodB b m s = false) :
    Calls Try.prog 18 #[.agg #[.int .i64 b, .int .i64 m, .int .i64 s]] W fun e W' => e = .returned (.tuple #[.bool false, .bool false]) ∧ Below W.heap.size W W' := by
  go_enter Try.func18, Try.ntmps18
  go_wp2_with (go_at_call 10; refine (impl_good _ _ _ _).mono ?_; rintro e w' ⟨rfl, rfl⟩)
  go_ret2
  exact ⟨rfl, by go_grown⟩
theorem spec_right_no (b m s : Int) (W : World) (hg : goodB b m s = false) :
    Calls Try.prog 19 #[.agg #[.int .i64 b, .int .i64 m, .int .i64 s]] W fun e W' => e = .returned (.tuple #[.bool false, .bool false]) ∧ Below W.heap.size W W' := by
  go_enter Try.func19, Try.ntmps19
  go_wp2_with (go_at_call 17; refine (spec_good _ _ _ _).mono ?_; rintro e w' ⟨rfl, rfl⟩)
  go_ret2
  exact ⟨rfl, by go_grown⟩

set_option maxHeartbeats 2000000 in
theorem impl_right_yes (b m s : Int) (o : Bool) (W : World) (hg : goodB b m s = true) (hR : Hid (o = true → Right b m s)) (hN : Hid (o = false → ∃ k : Int, 0 ≤ k ∧ k ≤ 65535 ∧ divW m s k ≠ k / b)) :
    Calls Try.prog 18 #[.agg #[.int .i64 b, .int .i64 m, .int .i64 s]] W fun e W' => e = .returned (.tuple #[.bool o, .bool true]) ∧ Below W.heap.size W W' := by
  obtain ⟨b0, b1, m0, m1, s0, s1⟩ := good_out hg
  go_enter Try.func18, Try.ntmps18
  go_wp2_with (go_at_call 10; refine (impl_good _ _ _ _).mono ?_; rintro e w' ⟨rfl, rfl⟩)
  go_loopw [4, 5, 6] (fun vq vr vi wr => ∃ n q r : Int, 0 ≤ n ∧ n ≤ 65536 ∧ 0 ≤ q ∧ q ≤ 65536 ∧ 0 ≤ r ∧ r < b ∧ vi = .int .i64 n ∧ vq = .int .i64 q ∧ vr = .int .i64 r ∧ Hid (q = n / b) ∧ Hid (r = n % b) ∧ Hid (∀ j : Int, 0 ≤ j → j < n → divW m s j = j / b) ∧
    wr.cell? ⟨W.heap.size, 0, none⟩ = some (.int .i64 b) ∧ wr.cell? ⟨W.heap.size, 1, none⟩ = some (.int .i64 m) ∧ wr.cell? ⟨W.heap.size, 2, none⟩ = some (.int .i64 s) ∧ Hid (Below W.heap.size W wr)) (fun _ _ vi _ => (65537 - intOf vi).toNat)
  case atStart =>
    refine ⟨0, 0, 0, by omega, by omega, by omega, by omega, by omega, by omega, rfl, rfl, rfl, ?_, ?_, ?_, ?_, ?_, ?_, ?_⟩
    · show (0 : Int) = 0 / b; simp
    · show (0 : Int) = 0 % b; simp
    · show ∀ j : Int, 0 ≤ j → j < 0 → divW m s j = j / b
      intro j h0 h1; omega
    all_goals first | go_cell | (show Below _ _ _; go_grown)
  case round =>
    obtain ⟨n, q, r, n0, n1, q0, q1, r0, r1, rfl, rfl, rfl, HQ, HR, HJ, c0, c1, c2, HB⟩ := hrel
    have hz : W.heap.size < wr.heap.size := World.block_lt_of_cell? wr _ c0
    by_cases hn : n ≤ 65535
    · have hdb := mag_div (s := s) n0 hn m0 m1
      by_cases he : divW m s n = q
      · have HE : Hid (divW m s n = n / b) := by show divW m s n = n / b; rw [he]; exact HQ.out
        have HJ' : Hid (∀ j : Int, 0 ≤ j → j < n + 1 → divW m s j = j / b) := by
          show ∀ j : Int, 0 ≤ j → j < n + 1 → divW m s j = j / b
          intro j h0 h1
          by_cases e : j = n
          · rw [e]; exact HE.out
          · exact HJ.out j h0 (by omega)
        have q2 : q ≤ 65535 := by
          have := HQ.out
          have : n / b ≤ n := Int.ediv_le_self _ n0
          omega
        by_cases hl : r + 1 = b
        · have HS : Hid (q + 1 = (n + 1) / b ∧ 0 = (n + 1) % b) := step_next b0 HQ.out HR.out hl
          go_wp2_with (go_at_call 26; refine (impl_shifted _ _ _ _ _ m0 m1 s0 s1 n0 hn).mono ?_; rintro e w' ⟨rfl, rfl⟩)
          go_roundw
          case rel =>
            refine ⟨n + 1, q + 1, 0, by omega, by omega, by omega, by omega, by omega, by omega, rfl, rfl, rfl, HS.out.1, HS.out.2, HJ', ?_, ?_, ?_, ?_⟩
            all_goals first | go_cell | (show Below _ _ _; refine Below.trans HB.out ?_; go_grown)
          case measure => simp [intOf]; omega
        · have HS : Hid (q = (n + 1) / b ∧ r + 1 = (n + 1) % b) := step_same b0 HQ.out HR.out hl
          have hl' : r + 1 < b := by omega
          have dl : decide (r + 1 = b) = false := decide_eq_false hl
          go_wp2_with (go_at_call 26; refine (impl_shifted _ _ _ _ _ m0 m1 s0 s1 n0 hn).mono ?_; rintro e w' ⟨rfl, rfl⟩)
          go_roundw
          case rel =>
            refine ⟨n + 1, q, r + 1, by omega, by omega, by omega, by omega, by omega, by omega, rfl, rfl, rfl, HS.out.1, HS.out.2, HJ', ?_, ?_, ?_, ?_⟩
            all_goals first | go_cell | (show Below _ _ _; refine Below.trans HB.out ?_; go_grown)
          case measure => simp [intOf]; omega
      · have HO : Hid (o = false) := by
          show o = false
          cases h : o
          · rfl
          · exact (he (by rw [hR.out h n n0 hn, HQ.out])).elim
        have de : decide (divW m s n = q) = false := decide_eq_false he
        go_wp2_with (go_at_call 26; refine (impl_shifted _ _ _ _ _ m0 m1 s0 s1 n0 hn).mono ?_; rintro e w' ⟨rfl, rfl⟩)
        go_ret2
        refine ⟨by rw [HO.out]; rfl, ?_⟩
        refine Below.trans HB.out ?_
        go_grown
    · have HO : Hid (o = true) := by
        show o = true
        cases h : o
        · obtain ⟨k, k0, k1, hk⟩ := hN.out h
          exact (hk (HJ.out k k0 (by omega))).elim
        · rfl
      have hn' : 65535 < n := by omega
      clear hn
      go_wp2
      go_ret2
      exact ⟨by rw [HO.out]; rfl, HB.out⟩

set_option maxHeartbeats 2000000 in
theorem spec_right_yes (b m s : Int) (o : Bool) (W : World) (hg : goodB b m s = true) (hR : Hid (o = true → Right b m s)) (hN : Hid (o = false → ∃ k : Int, 0 ≤ k ∧ k ≤ 65535 ∧ divW m s k ≠ k / b)) :
    Calls Try.prog 19 #[.agg #[.int .i64 b, .int .i64 m, .int .i64 s]] W fun e W' => e = .returned (.tuple #[.bool o, .bool true]) ∧ Below W.heap.size W W' := by
  obtain ⟨b0, b1, m0, m1, s0, s1⟩ := good_out hg
  go_enter Try.func19, Try.ntmps19
  go_wp2_with (go_at_call 17; refine (spec_good _ _ _ _).mono ?_; rintro e w' ⟨rfl, rfl⟩)
  go_loopw [4] (fun vi wr => ∃ n : Int, 0 ≤ n ∧ n ≤ 65536 ∧ vi = .int .i64 n ∧ Hid (∀ j : Int, 0 ≤ j → j < n → divW m s j = j / b) ∧
    wr.cell? ⟨W.heap.size, 0, none⟩ = some (.int .i64 b) ∧ wr.cell? ⟨W.heap.size, 1, none⟩ = some (.int .i64 m) ∧ wr.cell? ⟨W.heap.size, 2, none⟩ = some (.int .i64 s) ∧ Hid (Below W.heap.size W wr)) (fun vi _ => (65537 - intOf vi).toNat)
  case atStart =>
    refine ⟨0, by omega, by omega, rfl, ?_, ?_, ?_, ?_, ?_⟩
    · show ∀ j : Int, 0 ≤ j → j < 0 → divW m s j = j / b
      intro j h0 h1; omega
    all_goals first | go_cell | (show Below _ _ _; go_grown)
  case round =>
    obtain ⟨n, n0, n1, rfl, HJ, c0, c1, c2, HB⟩ := hrel
    have hz : W.heap.size < wr.heap.size := World.block_lt_of_cell? wr _ c0
    by_cases hn : n ≤ 65535
    · have hdb := mag_div (s := s) n0 hn m0 m1
      by_cases he : divW m s n = n / b
      · have HJ' : Hid (∀ j : Int, 0 ≤ j → j < n + 1 → divW m s j = j / b) := by
          show ∀ j : Int, 0 ≤ j → j < n + 1 → divW m s j = j / b
          intro j h0 h1
          by_cases e : j = n
          · rw [e]; exact he
          · exact HJ.out j h0 (by omega)
        go_wp2_with fail
        go_region_with (go_at_call 29; refine (spec_shifted _ _ _ _ _ m0 m1 s0 s1 n0 hn).mono ?_; rintro e w' ⟨rfl, rfl⟩)
        all_goals
          go_wp2
          go_roundw
          case rel =>
            refine ⟨n + 1, by omega, by omega, rfl, HJ', ?_, ?_, ?_, ?_⟩
            all_goals first | go_cell | (show Below _ _ _; refine Below.trans HB.out ?_; go_grown)
          case measure => simp [intOf]; omega
      · have HO : Hid (o = false) := by
          show o = false
          cases h : o
          · rfl
          · exact (he (hR.out h n n0 hn)).elim
        have de : decide (divW m s n = n / b) = false := decide_eq_false he
        go_wp2_with fail
        go_region_with (go_at_call 29; refine (spec_shifted _ _ _ _ _ m0 m1 s0 s1 n0 hn).mono ?_; rintro e w' ⟨rfl, rfl⟩)
        all_goals
          go_wp2
          go_ret2
          refine ⟨by rw [HO.out]; rfl, ?_⟩
          refine Below.trans HB.out ?_
          go_grown
    · have HO : Hid (o = true) := by
        show o = true
        cases h : o
        · obtain ⟨k, k0, k1, hk⟩ := hN.out h
          exact (hk (HJ.out k k0 (by omega))).elim
        · rfl
      have hn' : 65535 < n := by omega
      clear hn
      go_wp2
      go_ret2
      exact ⟨by rw [HO.out]; rfl, HB.out⟩
end Go.Proofs.Ythfakhkoagdcjaa.walks
