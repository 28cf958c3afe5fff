/-
  What the specification's draws of a divisor and of a row of shifts answer; they write nothing that was there.
-/
import Derived.Test.YteogabkfkfaejaaCur
import Derived.Test.YteogabkfkfaejaaMagMath
import Derived.Test.YteogabkfkfaejaaMagGood
import Derived.Test.YteogabkfkfaejaaInts
import Derived.Test.YteogabkfkfaejaaOwnInts
import Derived.Test.YteogabkfkfaejaaPlanSpec
import Derived.Handy
namespace Go.Proofs.Yteogabkfkfaejaa.cur
open Go.RowKit Go.Proofs.Yteogabkfkfaejaa.math Go.Proofs.Yteogabkfkfaejaa.ints Go.Proofs.Yteogabkfkfaejaa.walks

theorem grown_of_below {w w' : World} (h : Below w.heap.size w w') (row : Option Nat) : w.grownBy w' row := ⟨h.os, h.tape, h.output, h.size, fun k hk _ => h.block k hk⟩
theorem mul_draw {r q : Int} (a : 0 ≤ r) (b : r ≤ 255) (c : 0 ≤ q) (d : q ≤ 255) : 0 ≤ r * (1 + q) ∧ r * (1 + q) ≤ 65280 := by
  have h1 := Int.mul_nonneg a (show 0 ≤ 1 + q by omega)
  have h2 := Int.mul_nonneg (show 0 ≤ 255 - r by omega) (show 0 ≤ 1 + q by omega)
  rw [Int.sub_mul] at h2
  omega

set_option maxHeartbeats 400000 in
theorem divisor_any {b len cap n : Nat} {a : Option Addr} {w : World} (h : Cur b a len cap n w) (hlen : len ≤ 1048576) (hn : n ≤ 1099511627700) :
    Calls Try.prog 34 #[.pointer (some ⟨b, 0, none⟩)] w (Step b a len cap n 6 w 0 65536) := by
  have H : Hid (Cur b a len cap n w) := h
  clear h
  go_enter Try.func34, Try.ntmps34
  go_wp2_with fail
  refine (one_any 3 H.out hlen (by omega) (by omega)).mono ?_
  rintro e w1 ⟨y, rfl, HC, HG⟩
  have H1 : Hid (Cur b a len cap (n + 2) w1) := HC
  have G1 : Hid (w.grownBy w1 (some b)) := HG
  clear HC HG H
  cases y
  · go_wp2_with fail
    refine (pick_any 256 H1.out hlen (by omega) (by omega)).mono ?_
    rintro e w2 ⟨r, r0, r1, rfl, HC, HG⟩
    have H2 : Hid (Cur b a len cap (n + 2 + 2) w2) := HC
    have G2 : Hid (w.grownBy w2 (some b)) := grown_trans G1.out HG
    clear HC HG H1 G1
    go_wp2_with fail
    refine (pick_any 256 H2.out hlen (by omega) (by omega)).mono ?_
    rintro e w3 ⟨q, q0, q1, rfl, HC, HG⟩
    have H3 : Hid (Cur b a len cap (n + 2 + 2 + 2) w3) := HC
    have G3 : Hid (w.grownBy w3 (some b)) := grown_trans G2.out HG
    clear HC HG H2 G2
    obtain ⟨m0, m1⟩ := mul_draw r0 (by omega) q0 (by omega)
    go_wp2
    go_ret
    exact ⟨_, by omega, by omega, rfl, H3.out.up (by omega), G3.out⟩
  · go_wp2_with fail
    have L : Hid (Listed b w1.heap.size 10 0 65536 (w1.alloc (.cells #[.int .i64 0, .int .i64 1, .int .i64 2, .int .i64 3, .int .i64 5, .int .i64 7, .int .i64 641, .int .i64 32768, .int .i64 65535, .int .i64 65536] 3))) :=
      listed_new H1.out 3 [0, 1, 2, 3, 5, 7, 641, 32768, 65535, 65536] (by decide)
    refine (among_any (H1.out.alloc _) L.out (by omega) (by omega) hlen (by omega)).mono ?_
    rintro e w2 ⟨r, r0, r1, rfl, HC, HG⟩
    have H2 : Hid (Cur b a len cap (n + 2 + 2) w2) := HC
    have G2 : Hid (w.grownBy w2 (some b)) := grown_trans (grown_alloc G1.out _) HG
    clear HC HG H1 G1 L
    go_wp2
    go_ret
    exact ⟨_, r0, r1, rfl, H2.out.up (by omega), G2.out⟩

theorem drawMagic_any {len cap : Nat} {a : Option Addr} {w : World} (hc : Src w.heap.size a len w) (hlen : len ≤ 1048576) :
    Calls Try.prog 9 #[.slice a len cap] w fun e w' => ∃ r : Int, 0 ≤ r ∧ r ≤ 65536 ∧ e = .returned (.int .i64 r) ∧ Below w.heap.size w w' := by
  have HCode : Hid (Src w.heap.size a len w) := hc
  clear hc
  go_enter Try.func9, Try.ntmps9
  go_wp2_with fail
  refine (divisor_any (cur_new _ HCode.out) hlen (by omega)).mono ?_
  rintro e w1 ⟨r, r0, r1, rfl, HC, HG⟩
  have G1 : Hid (Below w.heap.size w w1) := below_of_grown ((Below.refl _ _).alloc (Nat.le_refl _) _) (by simp) HG
  clear HC HG
  go_wp2
  go_ret
  exact ⟨r, r0, r1, rfl, G1.out⟩
theorem drawPlan_any {len cap : Nat} {a : Option Addr} {w : World} (hc : Src w.heap.size a len w) (hlen : len ≤ 1048576) :
    Calls Try.prog 25 #[.slice a len cap] w fun e w' => ∃ r : Int, 0 ≤ r ∧ r ≤ 65536 ∧ e = .returned (.int .i64 r) ∧ Below w.heap.size w w' := by
  have HCode : Hid (Src w.heap.size a len w) := hc
  clear hc
  go_enter Try.func25, Try.ntmps25
  go_wp2_with fail
  refine (drawMagic_any HCode.out hlen).mono ?_
  rintro e w1 ⟨r, r0, r1, rfl, hB⟩
  have G1 : Hid (Below w.heap.size w w1) := hB
  clear hB
  go_wp2
  go_ret
  exact ⟨r, r0, r1, rfl, G1.out⟩

set_option maxRecDepth 100000 in
theorem number_any {len cap : Nat} {a : Option Addr} {w : World} (b : Nat) (hc : Src b a len w) (hlen : len ≤ 1048576) :
    Calls Try.prog 12 #[.slice a len cap] w fun e w' => ∃ r : Int, 0 ≤ r ∧ r ≤ 1000002 ∧ e = .returned (.int .i64 r) ∧ w' = w := by
  have HC : Hid (Src b a len w) := hc
  clear hc
  go_enter Try.func12, Try.ntmps12
  go_wp2
  go_loop [3, 8] (fun vn vi => ∃ (k : Nat) (x : Int), k ≤ len ∧ vi = .int .i64 k ∧ vn = .int .i64 x ∧ 0 ≤ x ∧ x ≤ 1000002) (fun _ vi => len - (intOf vi).toNat)
  case atStart => exact ⟨0, 0, Nat.zero_le _, rfl, rfl, by omega, by omega⟩
  case round =>
    obtain ⟨k, x, hk, rfl, rfl, x0, x1⟩ := hrel
    by_cases hlt : k < len
    · obtain ⟨bb, off, z, ha, z0, z1, hz⟩ : ∃ bb off z, a = some ⟨bb, off, none⟩ ∧ (0 : Int) ≤ z ∧ z ≤ 255 ∧ w.cell? ⟨bb, off + k, none⟩ = some (.int .u8 z) := by
        rcases HC.out with h | ⟨bb, off, rfl, _, _, h⟩
        · omega
        · obtain ⟨z, z0, z1, hz⟩ := h k hlt
          exact ⟨bb, off, z, rfl, z0, z1, hz⟩
      subst ha
      go_wp2
      go_round
      case rel => exact ⟨k + 1, _, by omega, by go_num, rfl, by omega, by omega⟩
      case measure => simp [intOf]; omega
    · go_wp2
      go_ret
      exact ⟨x, x0, x1, rfl, rfl⟩

theorem same_ints (a a' : Option Addr) (len cap cap' : Nat) (zs : List Int) (W : World) (hz : Hid (zs.length = len)) (hlen : len ≤ 1048576) (h : Hid (Ints W a zs)) (h' : Hid (Ints W a' zs)) :
    Calls Try.prog 28 #[.slice a len cap, .slice a' len cap'] W fun e W' => e = .returned (.bool true) ∧ Below W.heap.size W W' := by
  go_enter Try.func28, Try.ntmps28
  go_wp2
  go_loopw [13] (fun vi wr => ∃ k : Nat, k ≤ len ∧ vi = .int .i64 k ∧ Hid (Below W.heap.size W wr)) (fun vi _ => len - (intOf vi).toNat)
  case atStart => exact ⟨0, Nat.zero_le _, rfl, Below.refl _ _⟩
  case round =>
    obtain ⟨k, hk, rfl, HB⟩ := hrel
    by_cases hlt : k < len
    · obtain ⟨b, off, ha, hc⟩ := h.out.at HB.out (k := k) (by have := hz.out; omega)
      obtain ⟨b', off', ha', hc'⟩ := h'.out.at HB.out (k := k) (by have := hz.out; omega)
      subst ha ha'
      go_wp2
      go_region
      go_wp2
      go_roundw
      case rel => exact ⟨k + 1, by omega, by go_num, HB.out.drew⟩
      case measure => simp [intOf]; omega
    · go_wp2
      go_ret
      exact ⟨rfl, HB.out⟩

theorem mine_grown {w w' : World} {B b : Nat} {a : Option Addr} {zs : List Int} (h : Mine w B a zs) (hb : b < B) (hg : w.grownBy w' (some b)) : Ints w' a zs := by
  rcases h with h | ⟨g, off, rfl, h0, hlt, hc⟩
  · exact Or.inl h
  · exact Or.inr ⟨g, off, rfl, Nat.lt_of_lt_of_le hlt hg.size, fun i hi => hg.cell (hc i hi).1 (by simp; omega)⟩
theorem two_ints (w : World) (x y : Int) (t : TypeId) (B : Nat) (hB : B ≤ w.heap.size) : Mine (w.alloc (.cells #[.int .i64 x, .int .i64 y] t)) B (some ⟨w.heap.size, 0, none⟩) [x, y] := by
  refine Or.inr ⟨w.heap.size, 0, rfl, hB, by simp, fun i hi => ?_⟩
  match i, hi with
  | 0, _ => simp
  | 1, _ => simp
/-- The last draw: one of eight numbers; the list stays. -/
abbrev Done (w : World) (e : Ending) (w' : World) : Prop := ∃ (zs : List Int) (a : Option Addr) (c : Nat) (n : Int), zs.length ≤ 20 ∧ e = .returned (.tuple #[.slice a zs.length c, .int .i64 n]) ∧ Ints w' a zs ∧ Below w.heap.size w w'
set_option maxHeartbeats 2000000 in
theorem drawDo_any {len cap : Nat} {a : Option Addr} {w : World} (hc : Src w.heap.size a len w) (hlen : len ≤ 1048576) :
    Calls Try.prog 30 #[.slice a len cap] w (Done w) := by
  have HCode : Hid (Src w.heap.size a len w) := hc
  clear hc
  go_enter Try.func30, Try.ntmps30
  go_wp2_with fail
  refine (divisor_any (cur_new _ HCode.out) hlen (by omega)).mono ?_
  rintro e w1 ⟨r, r0, r1, rfl, HC, HG⟩
  have H1 : Hid (Cur w.heap.size a len cap (0 + 6) w1) := HC
  have G1 : Hid (Below w.heap.size w w1) := below_of_grown ((Below.refl _ _).alloc (Nat.le_refl _) _) (by simp) HG
  have z1 : w.heap.size < w1.heap.size := by have := HG.size; simp at this; omega
  clear HC HG
  by_cases hr : r ≤ 65535
  · go_wp2_with fail
    refine (spec_plan r _ r0 hr).mono ?_
    rintro e w2 ⟨a2, c2, rfl, hM2, hB2⟩
    have H2 : Hid (Cur w.heap.size a len cap (0 + 6) w2) := H1.out.far (grown_of_below hB2 _)
    have M2 : Hid (Mine w2 w1.heap.size a2 (planTo r 17)) := hM2
    have G2 : Hid (Below w.heap.size w w2) := G1.out.trans (hB2.mono (by omega))
    have z2 : w.heap.size < w2.heap.size := by have := hB2.size; omega
    clear hM2 hB2 H1 G1
    have hpl := plan_len r 17
    go_wp2_with fail
    refine (one_any 6 H2.out hlen (by omega) (by omega)).mono ?_
    rintro e w3 ⟨y, rfl, HC, HG⟩
    have H3 : Hid (Cur w.heap.size a len cap (0 + 6 + 2) w3) := HC
    have G3 : Hid (w2.grownBy w3 (some w.heap.size)) := HG
    have B3 : Hid (Below w.heap.size w w3) := below_of_grown G2.out (by omega) HG
    have z3 : w.heap.size < w3.heap.size := by have := HG.size; omega
    clear HC HG H2
    cases y
    · go_wp2_with fail
      have L : Hid (Listed w.heap.size w3.heap.size 8 (-65536) 65536 (w3.alloc (.cells #[.int .i64 (-65536), .int .i64 (-65535), .int .i64 (-7), .int .i64 0, .int .i64 1, .int .i64 12345, .int .i64 65535, .int .i64 65536] 3))) :=
        listed_new H3.out 3 [-65536, -65535, -7, 0, 1, 12345, 65535, 65536] (by decide)
      refine (among_any (H3.out.alloc _) L.out (by omega) (by omega) hlen (by omega)).mono ?_
      rintro e w4 ⟨q, q0, q1, rfl, HC, HG⟩
      have G4 : Hid (w2.grownBy w4 (some w.heap.size)) := grown_trans (grown_alloc G3.out _) HG
      have B4 : Hid (Below w.heap.size w w4) := below_of_grown G2.out (by omega) G4.out
      clear HC HG H3 L
      go_wp2
      go_ret2
      exact ⟨planTo r 17, a2, c2, q, by omega, rfl, mine_grown M2.out z1 G4.out, B4.out⟩
    · go_wp2_with fail
      refine (pick_any 42 H3.out hlen (by omega) (by omega)).mono ?_
      rintro e w4 ⟨p, p0, p1, rfl, HC, HG⟩
      have H4 : Hid (Cur w.heap.size a len cap (0 + 6 + 2 + 2) w4) := HC
      have B4 : Hid (Below w.heap.size w w4) := below_of_grown B3.out (by omega) HG
      have z4 : w.heap.size < w4.heap.size := by have := HG.size; omega
      clear HC HG H3
      go_wp2_with fail
      have e1 : (w4.alloc (.cells #[.int .i64 (p - 20), .int .i64 3] 3)).heap.size = w4.heap.size + 1 := by simp
      have L : Hid (Listed w.heap.size (w4.heap.size + 1) 8 (-65536) 65536 ((w4.alloc (.cells #[.int .i64 (p - 20), .int .i64 3] 3)).alloc (.cells #[.int .i64 (-65536), .int .i64 (-65535), .int .i64 (-7), .int .i64 0, .int .i64 1, .int .i64 12345, .int .i64 65535, .int .i64 65536] 3))) := by
        have h := listed_new (lo := -65536) (hi := 65536) (H4.out.alloc (.cells #[.int .i64 (p - 20), .int .i64 3] 3)) 3 [-65536, -65535, -7, 0, 1, 12345, 65535, 65536] (by decide)
        rw [e1] at h
        exact h
      refine (among_any ((H4.out.alloc _).alloc _) L.out (by omega) (by omega) hlen (by omega)).mono ?_
      rintro e w5 ⟨q, q0, q1, rfl, HC, HG⟩
      have M5 : Hid (Ints w5 (some ⟨w4.heap.size, 0, none⟩) [p - 20, 3]) := mine_grown (two_ints w4 (p - 20) 3 3 w4.heap.size (Nat.le_refl _)) z4 (grown_trans (grown_alloc (grown_refl _ _) _) HG)
      have B5 : Hid (Below w.heap.size w w5) := below_of_grown B4.out (by omega) (grown_trans (grown_alloc (grown_alloc (grown_refl _ _) _) _) HG)
      clear HC HG H4 L e1
      go_wp2
      go_ret2
      exact ⟨[p - 20, 3], _, 2, q, by simp, rfl, M5.out, B5.out⟩
  · go_wp2_with fail
    refine (spec_plan_no r _ (inR_gt (by omega))).mono ?_
    rintro e w' ⟨rfl, rfl⟩
    go_wp2_with fail
    refine (pick_any 42 H1.out hlen (by omega) (by omega)).mono ?_
    rintro e w4 ⟨p, p0, p1, rfl, HC, HG⟩
    have H4 : Hid (Cur w.heap.size a len cap (0 + 6 + 2) w4) := HC
    have B4 : Hid (Below w.heap.size w w4) := below_of_grown G1.out (by omega) HG
    have z4 : w.heap.size < w4.heap.size := by have := HG.size; omega
    clear HC HG H1
    go_wp2_with fail
    have e1 : (w4.alloc (.cells #[.int .i64 (p - 20), .int .i64 3] 3)).heap.size = w4.heap.size + 1 := by simp
    have L : Hid (Listed w.heap.size (w4.heap.size + 1) 8 (-65536) 65536 ((w4.alloc (.cells #[.int .i64 (p - 20), .int .i64 3] 3)).alloc (.cells #[.int .i64 (-65536), .int .i64 (-65535), .int .i64 (-7), .int .i64 0, .int .i64 1, .int .i64 12345, .int .i64 65535, .int .i64 65536] 3))) := by
      have h := listed_new (lo := -65536) (hi := 65536) (H4.out.alloc (.cells #[.int .i64 (p - 20), .int .i64 3] 3)) 3 [-65536, -65535, -7, 0, 1, 12345, 65535, 65536] (by decide)
      rw [e1] at h
      exact h
    refine (among_any ((H4.out.alloc _).alloc _) L.out (by omega) (by omega) hlen (by omega)).mono ?_
    rintro e w5 ⟨q, q0, q1, rfl, HC, HG⟩
    have M5 : Hid (Ints w5 (some ⟨w4.heap.size, 0, none⟩) [p - 20, 3]) := mine_grown (two_ints w4 (p - 20) 3 3 w4.heap.size (Nat.le_refl _)) z4 (grown_trans (grown_alloc (grown_refl _ _) _) HG)
    have B5 : Hid (Below w.heap.size w w5) := below_of_grown B4.out (by omega) (grown_trans (grown_alloc (grown_alloc (grown_refl _ _) _) _) HG)
    clear HC HG H4 L e1
    go_wp2
    go_ret2
    exact ⟨[p - 20, 3], _, 2, q, by simp, rfl, M5.out, B5.out⟩
end Go.Proofs.Yteogabkfkfaejaa.cur
