/-
  What the specification's draws of a divisor and of a row of shifts answer; they write nothing that was there.
-/
import Derived.Test.YthfakhkoagdcjaaCur
import Derived.Test.YthfakhkoagdcjaaMagMath
import Derived.Test.YthfakhkoagdcjaaMagGood
import Derived.Test.YthfakhkoagdcjaaInts
import Derived.Test.YthfakhkoagdcjaaOwnInts
import Derived.Handy
namespace Go.Proofs.Ythfakhkoagdcjaa.cur
open Go.RowKit Go.Proofs.Ythfakhkoagdcjaa.math Go.Proofs.Ythfakhkoagdcjaa.ints Go.Proofs.Ythfakhkoagdcjaa.walks

theorem grown_of_below {w w' : World} (h : Below w.heap.size w w') (row : Option Nat) : w.grownBy w' row := ⟨h.os, h.tape, h.output, h.size, fun k hk _ => h.block k hk⟩
theorem mul_draw {r q : Int} (a : 0 ≤ r) (b : r ≤ 255) (c : 0 ≤ q) (d : q ≤ 255) : 0 ≤ r * (1 + q) ∧ r * (1 + q) ≤ 65280 := by
  have h1 := Int.mul_nonneg a (show 0 ≤ 1 + q by omega)
  have h2 := Int.mul_nonneg (show 0 ≤ 255 - r by omega) (show 0 ≤ 1 + q by omega)
  rw [Int.sub_mul] at h2
  omega

set_option maxHeartbeats 400000 in
theorem divisor_any {b len cap n : Nat} {a : Option Addr} {w : World} (h : Cur b a len cap n w) (hlen : len ≤ 1048576) (hn : n ≤ 1099511627700) :
    Calls Try.prog 20 #[.pointer (some ⟨b, 0, none⟩)] w (Step b a len cap n 6 w 0 65536) := by
  have H : Hid (Cur b a len cap n w) := h
  clear h
  go_enter Try.func20, Try.ntmps20
  go_wp2_with fail
  refine (one_any 3 H.out hlen (by omega) (by omega)).mono ?_
  rintro e w1 ⟨y, rfl, HC, HG⟩
  have H1 : Hid (Cur b a len cap (n + 2) w1) := HC
  have G1 : Hid (w.grownBy w1 (some b)) := HG
  clear HC HG H
  cases y
  · go_wp2_with fail
    refine (pick_any 256 H1.out hlen (by omega) (by omega)).mono ?_
    rintro e w2 ⟨r, r0, r1, rfl, HC, HG⟩
    have H2 : Hid (Cur b a len cap (n + 2 + 2) w2) := HC
    have G2 : Hid (w.grownBy w2 (some b)) := grown_trans G1.out HG
    clear HC HG H1 G1
    go_wp2_with fail
    refine (pick_any 256 H2.out hlen (by omega) (by omega)).mono ?_
    rintro e w3 ⟨q, q0, q1, rfl, HC, HG⟩
    have H3 : Hid (Cur b a len cap (n + 2 + 2 + 2) w3) := HC
    have G3 : Hid (w.grownBy w3 (some b)) := grown_trans G2.out HG
    clear HC HG H2 G2
    obtain ⟨m0, m1⟩ := mul_draw r0 (by omega) q0 (by omega)
    go_wp2
    go_ret
    exact ⟨_, by omega, by omega, rfl, H3.out.up (by omega), G3.out⟩
  · go_wp2_with fail
    have L : Hid (Listed b w1.heap.size 10 0 65536 (w1.alloc (.cells #[.int .i64 0, .int .i64 1, .int .i64 2, .int .i64 3, .int .i64 5, .int .i64 7, .int .i64 641, .int .i64 32768, .int .i64 65535, .int .i64 65536] 3))) :=
      listed_new H1.out 3 [0, 1, 2, 3, 5, 7, 641, 32768, 65535, 65536] (by decide)
    refine (among_any (H1.out.alloc _) L.out (by omega) (by omega) hlen (by omega)).mono ?_
    rintro e w2 ⟨r, r0, r1, rfl, HC, HG⟩
    have H2 : Hid (Cur b a len cap (n + 2 + 2) w2) := HC
    have G2 : Hid (w.grownBy w2 (some b)) := grown_trans (grown_alloc G1.out _) HG
    clear HC HG H1 G1 L
    go_wp2
    go_ret
    exact ⟨_, r0, r1, rfl, H2.out.up (by omega), G2.out⟩

theorem drawMagic_any {len cap : Nat} {a : Option Addr} {w : World} (hc : Src w.heap.size a len w) (hlen : len ≤ 1048576) :
    Calls Try.prog 4 #[.slice a len cap] w fun e w' => ∃ r : Int, 0 ≤ r ∧ r ≤ 65536 ∧ e = .returned (.int .i64 r) ∧ Below w.heap.size w w' := by
  have HCode : Hid (Src w.heap.size a len w) := hc
  clear hc
  go_enter Try.func4, Try.ntmps4
  go_wp2_with fail
  refine (divisor_any (cur_new _ HCode.out) hlen (by omega)).mono ?_
  rintro e w1 ⟨r, r0, r1, rfl, HC, HG⟩
  have G1 : Hid (Below w.heap.size w w1) := below_of_grown ((Below.refl _ _).alloc (Nat.le_refl _) _) (by simp) HG
  clear HC HG
  go_wp2
  go_ret
  exact ⟨r, r0, r1, rfl, G1.out⟩

set_option maxRecDepth 100000 in
theorem number_any {len cap : Nat} {a : Option Addr} {w : World} (b : Nat) (hc : Src b a len w) (hlen : len ≤ 1048576) :
    Calls Try.prog 7 #[.slice a len cap] w fun e w' => ∃ r : Int, 0 ≤ r ∧ r ≤ 1000002 ∧ e = .returned (.int .i64 r) ∧ w' = w := by
  have HC : Hid (Src b a len w) := hc
  clear hc
  go_enter Try.func7, Try.ntmps7
  go_wp2
  go_loop [3, 8] (fun vn vi => ∃ (k : Nat) (x : Int), k ≤ len ∧ vi = .int .i64 k ∧ vn = .int .i64 x ∧ 0 ≤ x ∧ x ≤ 1000002) (fun _ vi => len - (intOf vi).toNat)
  case atStart => exact ⟨0, 0, Nat.zero_le _, rfl, rfl, by omega, by omega⟩
  case round =>
    obtain ⟨k, x, hk, rfl, rfl, x0, x1⟩ := hrel
    by_cases hlt : k < len
    · obtain ⟨bb, off, z, ha, z0, z1, hz⟩ : ∃ bb off z, a = some ⟨bb, off, none⟩ ∧ (0 : Int) ≤ z ∧ z ≤ 255 ∧ w.cell? ⟨bb, off + k, none⟩ = some (.int .u8 z) := by
        rcases HC.out with h | ⟨bb, off, rfl, _, _, h⟩
        · omega
        · obtain ⟨z, z0, z1, hz⟩ := h k hlt
          exact ⟨bb, off, z, rfl, z0, z1, hz⟩
      subst ha
      go_wp2
      go_round
      case rel => exact ⟨k + 1, _, by omega, by go_num, rfl, by omega, by omega⟩
      case measure => simp [intOf]; omega
    · go_wp2
      go_ret
      exact ⟨x, x0, x1, rfl, rfl⟩


end Go.Proofs.Ythfakhkoagdcjaa.cur
