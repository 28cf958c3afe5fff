/-
  What the specification's l1In, l11Blocks, l1Has, GoodEdges and IsLayout answer.
-/
import Derived.Test.YtemlhhogcdgofaaProg
import Derived.Test.YtemlhhogcdgofaaMagMath
import Derived.Test.YtemlhhogcdgofaaEdgeMath
import Derived.Test.YtemlhhogcdgofaaInts
import Derived.WalkKit
import Derived.WalkSpells
import Derived.Below
import Derived.Handy
import Derived.Deep.QuietTactic
import Derived.BigQuiet
namespace Go.Proofs.Ytemlhhogcdgofaa.walks
open Go.RowKit Go.Proofs.Ytemlhhogcdgofaa.math Go.Proofs.Ytemlhhogcdgofaa.ints
set_option linter.unusedVariables false
set_option maxRecDepth 100000

theorem belowN {B : Nat} {W w : World} (h : Below B W w) : ∀ q, Below B W (w.drewN q)
  | 0 => h
  | q + 1 => (belowN h q).drew
theorem spec_in (n lo hi : Int) (W : World) : Calls Try.prog 35 #[.int .i64 n, .int .i64 lo, .int .i64 hi] W fun e W' => e = .returned (.bool (inR n lo hi)) ∧ W' = W := by
  by_cases h0 : lo ≤ n
  rotate_left
  · have k0 : n < lo := by omega
    have d0 : decide (lo ≤ n) = false := decide_eq_false h0
    rw [inR_lt k0]
    clear h0
    go_enter Try.func35, Try.ntmps35
    go_wp2
    go_ret
    exact ⟨rfl, rfl⟩
  by_cases h1 : n ≤ hi
  rotate_left
  · have k1 : hi < n := by omega
    have d1 : decide (n ≤ hi) = false := decide_eq_false (by omega)
    rw [inR_gt k1]
    clear h1
    go_enter Try.func35, Try.ntmps35
    go_wp2
    go_ret
    exact ⟨rfl, rfl⟩
  rw [inR_mk h0 h1]
  have d1 : decide (n ≤ hi) = true := decide_eq_true (by omega)
  have d0 : decide (lo ≤ n) = true := decide_eq_true h0
  go_enter Try.func35, Try.ntmps35
  go_wp2
  go_ret
  exact ⟨rfl, rfl⟩
theorem in_quiet {n lo hi : Int} {b : Bool} (h : inR n lo hi = b) (W : World) : Calls Try.prog 35 #[.int .i64 n, .int .i64 lo, .int .i64 hi] W fun e W' => e = .returned (.bool b) ∧ W' = W := by
  have := spec_in n lo hi W
  rw [h] at this
  exact this
theorem spec_blocks {u : Int} {b : Bool} (h : inR u 1 8 = b) (W : World) : Calls Try.prog 36 #[.int .i64 u] W fun e W' => e = .returned (.bool b) ∧ W' = W := by
  go_enter Try.func36, Try.ntmps36
  go_wp2_with (go_at_call 35; refine (in_quiet h _).mono ?_; rintro e w' ⟨rfl, hw⟩; rw [hw]; clear hw w')
  go_ret
  exact ⟨rfl, rfl⟩
theorem spec_has (a : Option Addr) (len cap : Nat) (x : Int) (zs : List Int) (W : World) (hz : len ≤ zs.length) (hlen : len ≤ 1048576) (h : Hid (Ints W a zs)) :
    Calls Try.prog 29 #[.slice a len cap, .int .i64 x] W fun e W' => e = .returned (.bool (hasTo zs x len)) ∧ W' = W := by
  go_enter Try.func29, Try.ntmps29
  go_wp2
  go_loop [9] (fun vi => ∃ k : Nat, k ≤ len ∧ vi = .int .i64 (k : Int) ∧ Hid (hasTo zs x k = false)) (fun vi => len - (intOf vi).toNat)
  case atStart => exact ⟨0, Nat.zero_le _, rfl, rfl⟩
  case round =>
    obtain ⟨k, hk, rfl, HF⟩ := hrel
    by_cases hlt : k < len
    rotate_left
    · have HE : Hid (hasTo zs x len = false) := by show _ = _; rw [show len = k by omega]; exact HF.out
      go_wp2
      go_ret
      exact ⟨by rw [HE.out]; rfl, rfl⟩
    have hltI : (k : Int) < (len : Int) := by omega
    obtain ⟨b, off, ha, hc⟩ := h.out.at (Below.refl _ _) (k := k) (by omega)
    subst ha
    by_cases e : zs.getD k 0 = x
    · have HE : Hid (hasTo zs x len = true) := (hasTo_iff _).2 ⟨k, hlt, e⟩
      rw [e] at hc
      clear e
      go_wp2
      go_ret
      exact ⟨by rw [HE.out]; rfl, rfl⟩
    · have HN : Hid (hasTo zs x (k + 1) = false) := by
        show _ = _
        simp only [hasTo, HF.out, decide_eq_false e, Bool.or_self]
      obtain ⟨z, hzz⟩ : ∃ z, Hid (zs.getD k 0 = z) := ⟨_, rfl⟩
      rw [hzz.out] at hc e
      have e1 : (z == x) = false := by simpa using e
      have e2 : decide (z = x) = false := decide_eq_false e
      go_wp2
      go_round
      case rel => exact ⟨k + 1, by omega, by go_num, HN⟩
      case measure => simp [intOf]; omega
theorem has_quiet {a : Option Addr} {len cap : Nat} {x : Int} {zs : List Int} {b : Bool} (W : World) (hz : len ≤ zs.length) (hlen : len ≤ 1048576) (h : Ints W a zs) (hb : hasTo zs x len = b) :
    Calls Try.prog 29 #[.slice a len cap, .int .i64 x] W fun e W' => e = .returned (.bool b) ∧ W' = W := by
  have := spec_has a len cap x zs W hz hlen h
  rw [hb] at this
  exact this
set_option maxHeartbeats 4000000 in
theorem spec_islay (a : Option Addr) (len cap : Nat) (u : Int) (zs : List Int) (W : World) (hz : Hid (zs.length = len)) (hlen : len ≤ 1048576) (hcap : len ≤ cap) (hcm : cap ≤ 1048576) (h : Hid (Ints W a zs)) :
    Calls Try.prog 20 #[.int .i64 u, .slice a len cap] W fun e W' => e = .returned (.bool (layB zs u)) ∧ W' = W := by
  cases hu : inR u 1 8
  · have HE : Hid (layB zs u = false) := lay_u hu
    go_enter Try.func20, Try.ntmps20
    go_wp2_with (go_at_call 36; refine (spec_blocks hu _).mono ?_; rintro e w' ⟨rfl, hw⟩; rw [hw]; clear hw w')
    go_ret
    exact ⟨by rw [HE.out]; rfl, rfl⟩
  have hub := inR_out hu
  by_cases hl : (len : Int) = u
  rotate_left
  · have HE : Hid (layB zs u = false) := lay_ord (order_len (by rw [hz.out]; exact hl))
    have e1 : ((len : Int) != u) = true := by simpa using hl
    have e2 : ((len : Int) == u) = false := by simpa using hl
    have e3 : decide ((len : Int) = u) = false := decide_eq_false hl
    go_enter Try.func20, Try.ntmps20
    go_wp2_with (go_at_call 36; refine (spec_blocks hu _).mono ?_; rintro e w' ⟨rfl, hw⟩; rw [hw]; clear hw w')
    go_ret
    exact ⟨by rw [HE.out]; rfl, rfl⟩
  subst hl
  have hl0 : 0 < len := by omega
  obtain ⟨b, off, ha, hc⟩ := h.out.at (Below.refl _ _) (k := 0) (by rw [hz.out]; exact hl0)
  have hl0I : (0 : Int) < (len : Int) := by omega
  rw [Nat.add_zero] at hc
  by_cases hf : zs.getD 0 0 = 0
  rotate_left
  · have HE : Hid (layB zs (len : Int) = false) := lay_first hf
    obtain ⟨x, hx⟩ : ∃ x, Hid (zs.getD 0 0 = x) := ⟨_, rfl⟩
    rw [hx.out] at hc hf
    have e1 : (x != 0) = true := by simpa using hf
    have e2 : (x == 0) = false := by simpa using hf
    have e3 : decide (x = 0) = false := decide_eq_false hf
    subst ha
    go_enter Try.func20, Try.ntmps20
    go_wp2_with (go_at_call 36; refine (spec_blocks hu _).mono ?_; rintro e w' ⟨rfl, hw⟩; rw [hw]; clear hw w')
    go_ret
    exact ⟨by rw [HE.out]; rfl, rfl⟩
  have HF : Hid (zs.getD 0 0 = 0) := hf
  rw [hf] at hc
  clear hf
  have ha' : Hid (a = some ⟨b, off, none⟩) := ha
  subst ha
  go_enter Try.func20, Try.ntmps20
  go_wp2_with (go_at_call 36; refine (spec_blocks hu _).mono ?_; rintro e w' ⟨rfl, hw⟩; rw [hw]; clear hw w')
  clear hc
  go_loop [24] (fun vi => ∃ k : Nat, k ≤ len ∧ vi = .int .i64 (k : Int) ∧ Hid (∀ i, i < k → OrdOk zs (len : Int) i)) (fun vi => len - (intOf vi).toNat)
  case atStart => exact ⟨0, Nat.zero_le _, rfl, fun i hi => by omega⟩
  case round =>
    obtain ⟨k, hk, rfl, HG⟩ := hrel
    by_cases hlt : k < len
    rotate_left
    · have HE : Hid (layB zs (len : Int) = true) := lay_yes hu (order_yes (by rw [hz.out]) (fun i hi => HG.out i (by rw [hz.out] at hi; omega))) HF.out
      go_wp2
      go_ret
      exact ⟨by rw [HE.out]; rfl, rfl⟩
    have hltI : (k : Int) < (len : Int) := by omega
    have hkc : k ≤ cap := by omega
    have hkcI : (k : Int) ≤ (cap : Int) := by omega
    obtain ⟨b', off', ha, hc⟩ := h.out.at (Below.refl _ _) (k := k) (by rw [hz.out]; exact hlt)
    obtain ⟨rfl, rfl⟩ : b = b' ∧ off = off' := by simpa using ha
    have HNO : Hid ((zs.getD k 0 < 0 ∨ (len : Int) ≤ zs.getD k 0 ∨ hasTo zs (zs.getD k 0) k = true) → layB zs (len : Int) = false) := fun q => lay_ord (order_bad (k := k) (by rw [hz.out]; exact hlt) (fun r => by
      obtain ⟨r0, r1, r2⟩ := r
      rcases q with q | q | q
      · omega
      · omega
      · rw [q] at r2; cases r2))
    have HYES : Hid (0 ≤ zs.getD k 0 → zs.getD k 0 < (len : Int) → hasTo zs (zs.getD k 0) k = false → ∀ i, i < k + 1 → OrdOk zs (len : Int) i) := fun q0 q1 q2 i hi => by
      by_cases e : i = k
      · subst e; exact ⟨q0, q1, q2⟩
      · exact HG.out i (by omega)
    obtain ⟨x, hx⟩ : ∃ x, Hid (zs.getD k 0 = x) := ⟨_, rfl⟩
    rw [hx.out] at hc HNO HYES
    by_cases x0 : x < 0
    · have HE : Hid (layB zs (len : Int) = false) := HNO.out (Or.inl x0)
      have d0 : decide (x < 0) = true := decide_eq_true x0
      go_wp2
      go_ret
      exact ⟨by rw [HE.out]; rfl, rfl⟩
    have x0' : 0 ≤ x := by omega
    have d0 : decide (x < 0) = false := decide_eq_false x0
    clear x0
    by_cases x1 : (len : Int) ≤ x
    · have HE : Hid (layB zs (len : Int) = false) := HNO.out (Or.inr (Or.inl x1))
      have d1 : decide (x ≥ (len : Int)) = true := decide_eq_true x1
      go_wp2
      go_ret
      exact ⟨by rw [HE.out]; rfl, rfl⟩
    have x1' : x < (len : Int) := by omega
    have d1 : decide (x ≥ (len : Int)) = false := decide_eq_false x1
    clear x1
    have hkz : k ≤ zs.length := by rw [hz.out]; exact hk
    have HKZ : Hid (k ≤ zs.length) := hkz
    clear hkz
    cases hh : hasTo zs x k
    · have HN : Hid (∀ i, i < k + 1 → OrdOk zs (len : Int) i) := HYES.out x0' x1' hh
      go_wp2_with (go_at_call 29; refine (has_quiet _ HKZ.out (by omega) h.out hh).mono ?_; rintro e w' ⟨rfl, hw⟩; rw [hw]; clear hw w')
      go_round
      case rel => exact ⟨k + 1, by omega, by go_num, HN⟩
      case measure => simp [intOf]; omega
    · have HE : Hid (layB zs (len : Int) = false) := HNO.out (Or.inr (Or.inr hh))
      go_wp2_with (go_at_call 29; refine (has_quiet _ HKZ.out (by omega) h.out hh).mono ?_; rintro e w' ⟨rfl, hw⟩; rw [hw]; clear hw w')
      go_ret
      exact ⟨by rw [HE.out]; rfl, rfl⟩
end Go.Proofs.Ytemlhhogcdgofaa.walks
