/-
  Places and words: what the small tests of both sides answer, at every int and every list.
-/
import Derived.Test.YthjcgnldlhjjmaaProg
import Derived.Test.YthjcgnldlhjjmaaMagMath
import Derived.Test.YthjcgnldlhjjmaaMoveMath
import Derived.Test.YthjcgnldlhjjmaaInts
import Derived.WalkKit
import Derived.WalkSpells
import Derived.Below
import Derived.Handy
namespace Go.Proofs.Ythjcgnldlhjjmaa.walks
open Go.RowKit Go.Proofs.Ythjcgnldlhjjmaa.math Go.Proofs.Ythjcgnldlhjjmaa.ints
set_option linter.unusedVariables false

theorem bcell {W w1 : World} (hb : Below W.heap.size W w1) : (∀ b o, b < W.heap.size → w1.cell? ⟨b, o, none⟩ = W.cell? ⟨b, o, none⟩) ∧ (∀ b o, b < W.heap.size → w1.frozen? ⟨b, o, none⟩ = W.frozen? ⟨b, o, none⟩) :=
  ⟨fun b o h => hb.cell (p := ⟨b, o, none⟩) h, fun b o h => hb.frozen (p := ⟨b, o, none⟩) h⟩

theorem spec_in (n lo hi : Int) (W : World) : Calls Try.prog 39 #[.int .i64 n, .int .i64 lo, .int .i64 hi] W fun e W' => e = .returned (.bool (inR n lo hi)) ∧ W' = W := by
  by_cases h0 : lo ≤ n
  rotate_left
  · have k0 : n < lo := by omega
    have d0 : decide (lo ≤ n) = false := decide_eq_false h0
    rw [inR_lt k0]
    clear h0
    go_enter Try.func39, Try.ntmps39
    go_wp2
    go_ret
    exact ⟨rfl, rfl⟩
  by_cases h1 : n ≤ hi
  rotate_left
  · have k1 : hi < n := by omega
    have d1 : decide (n ≤ hi) = false := decide_eq_false (by omega)
    rw [inR_gt k1]
    clear h1
    go_enter Try.func39, Try.ntmps39
    go_wp2
    go_ret
    exact ⟨rfl, rfl⟩
  rw [inR_mk h0 h1]
  have d1 : decide (n ≤ hi) = true := decide_eq_true (by omega)
  have d0 : decide (lo ≤ n) = true := decide_eq_true h0
  go_enter Try.func39, Try.ntmps39
  go_wp2
  go_ret
  exact ⟨rfl, rfl⟩
theorem impl_word (n : Int) (W : World) : Calls Try.prog 57 #[.int .i64 n] W fun e W' => e = .returned (.bool (inR n 0 65535)) ∧ W' = W := by
  by_cases h0 : 0 ≤ n
  rotate_left
  · have k0 : n < 0 := by omega
    have d0 : decide (0 ≤ n) = false := decide_eq_false h0
    rw [inR_lt k0]
    clear h0
    go_enter Try.func57, Try.ntmps57
    go_wp2
    go_ret
    exact ⟨rfl, rfl⟩
  by_cases h1 : n ≤ 65535
  rotate_left
  · have k1 : 65535 < n := by omega
    have d1 : decide (n ≤ 65535) = false := decide_eq_false (by omega)
    rw [inR_gt k1]
    clear h1
    go_enter Try.func57, Try.ntmps57
    go_wp2
    go_ret
    exact ⟨rfl, rfl⟩
  rw [inR_mk h0 h1]
  have d1 : decide (n ≤ 65535) = true := decide_eq_true (by omega)
  have d0 : decide (0 ≤ n) = true := decide_eq_true h0
  go_enter Try.func57, Try.ntmps57
  go_wp2
  go_ret
  exact ⟨rfl, rfl⟩
theorem impl_place (n : Int) (W : World) : Calls Try.prog 47 #[.int .i64 n] W fun e W' => e = .returned (.bool (inR n 0 9)) ∧ W' = W := by
  by_cases h0 : 0 ≤ n
  rotate_left
  · have k0 : n < 0 := by omega
    have d0 : decide (0 ≤ n) = false := decide_eq_false h0
    rw [inR_lt k0]
    clear h0
    go_enter Try.func47, Try.ntmps47
    go_wp2
    go_ret
    exact ⟨rfl, rfl⟩
  by_cases h1 : n ≤ 9
  rotate_left
  · have k1 : 9 < n := by omega
    have d1 : decide (n < 10) = false := decide_eq_false (by omega)
    rw [inR_gt k1]
    clear h1
    go_enter Try.func47, Try.ntmps47
    go_wp2
    go_ret
    exact ⟨rfl, rfl⟩
  rw [inR_mk h0 h1]
  have d1 : decide (n < 10) = true := decide_eq_true (by omega)
  have d0 : decide (0 ≤ n) = true := decide_eq_true h0
  go_enter Try.func47, Try.ntmps47
  go_wp2
  go_ret
  exact ⟨rfl, rfl⟩
theorem spec_word (n : Int) (W : World) : Calls Try.prog 48 #[.int .i64 n] W fun e W' => e = .returned (.bool (inR n 0 65535)) ∧ W' = W := by
  go_enter Try.func48, Try.ntmps48
  go_wp2_with (go_at_call 39; refine (spec_in _ _ _ _).mono ?_; rintro e w' ⟨rfl, rfl⟩)
  go_ret
  exact ⟨rfl, rfl⟩
theorem spec_place (n : Int) (W : World) : Calls Try.prog 33 #[.int .i64 n] W fun e W' => e = .returned (.bool (inR n 0 9)) ∧ W' = W := by
  go_enter Try.func33, Try.ntmps33
  go_wp2_with (go_at_call 39; refine (spec_in _ _ _ _).mono ?_; rintro e w' ⟨rfl, rfl⟩)
  go_ret
  exact ⟨rfl, rfl⟩
theorem inR_10 {n : Int} (h : inR n 0 9 = false) : inR n 0 10 = decide (n = 10) := by
  by_cases e : n = 10
  · subst e; rfl
  · rw [decide_eq_false e]
    apply decide_eq_false
    rintro ⟨a, b⟩
    rw [inR_mk a (by omega)] at h; cases h
theorem impl_spare (n : Int) (W : World) : Calls Try.prog 50 #[.int .i64 n] W fun e W' => e = .returned (.bool (inR n 0 10)) ∧ W' = W := by
  cases h : inR n 0 9
  · have HE : Hid (inR n 0 10 = decide (n = 10)) := inR_10 h
    by_cases e : n = 10
    · subst e
      go_enter Try.func50, Try.ntmps50
      go_wp2_with (go_at_call 47; refine (impl_place _ _).mono ?_; rw [h]; rintro e w' ⟨rfl, rfl⟩)
      go_ret
      exact ⟨rfl, rfl⟩
    · have d : (n == 10) = false := by simpa using e
      have d' : decide (n = 10) = false := decide_eq_false e
      rw [HE.out, d']
      go_enter Try.func50, Try.ntmps50
      go_wp2_with (go_at_call 47; refine (impl_place _ _).mono ?_; rw [h]; rintro e w' ⟨rfl, rfl⟩)
      go_ret
      exact ⟨rfl, rfl⟩
  · have h10 : inR n 0 10 = true := by have := inR_out h; exact inR_mk this.1 (by omega)
    rw [h10]
    go_enter Try.func50, Try.ntmps50
    go_wp2_with (go_at_call 47; refine (impl_place _ _).mono ?_; rw [h]; rintro e w' ⟨rfl, rfl⟩)
    go_ret
    exact ⟨rfl, rfl⟩
theorem impl_wordsN (a : Option Addr) (len cap m : Nat) (ws : List Int) (W : World) (hz : Hid (ws.length = len)) (hlen : len ≤ 1048576) (hm : m ≤ 1048576) (h : Hid (Ints W a ws)) :
    Calls Try.prog 49 #[.slice a len cap, .int .i64 m] W fun e W' => e = .returned (.bool (wordsN m ws)) ∧ W' = W := by
  by_cases h8 : len = m
  rotate_left
  · have HE : Hid (wordsN m ws = false) := wordsN_no (by rw [hz.out]; exact h8)
    have q8 : ((len : Int) == (m : Int)) = false := by simp; omega
    have q9 : decide ((len : Int) = (m : Int)) = false := decide_eq_false (by omega)
    go_enter Try.func49, Try.ntmps49
    go_wp2
    go_ret
    exact ⟨by rw [HE.out]; rfl, rfl⟩
  subst h8
  go_enter Try.func49, Try.ntmps49
  go_wp2
  go_loop [13] (fun vi => ∃ k : Nat, k ≤ len ∧ vi = .int .i64 k ∧ Hid (∀ j, j < k → inR (ws.getD j 0) 0 65535 = true)) (fun vi => len - (intOf vi).toNat)
  case atStart => exact ⟨0, Nat.zero_le _, rfl, fun j hj => by omega⟩
  case round =>
    obtain ⟨k, hk, rfl, HG⟩ := hrel
    by_cases hlt : k < len
    · obtain ⟨b, off, ha, hc⟩ := h.out.at (Below.refl _ _) (k := k) (by have := hz.out; omega)
      subst ha
      obtain ⟨x, hx, HX⟩ : ∃ x : Int, W.cell? ⟨b, off + k, none⟩ = some (.int .i64 x) ∧ Hid (x = ws.getD k 0) := ⟨_, hc, rfl⟩
      clear hc
      cases hg : inR x 0 65535
      · have HE : Hid (wordsN len ws = false) := wordsN_bad (i := k) (by have := hz.out; omega) (by rw [← HX.out]; exact hg)
        go_wp2_with (go_at_call 57; refine (impl_word _ _).mono ?_; rintro e w' ⟨rfl, rfl⟩)
        go_ret
        exact ⟨by rw [HE.out]; rfl, rfl⟩
      · have HG' : Hid (∀ j, j < k + 1 → inR (ws.getD j 0) 0 65535 = true) := by
          show ∀ j, j < k + 1 → _
          intro j hj
          by_cases e : j = k
          · rw [e, ← HX.out]; exact hg
          · exact HG.out j (by omega)
        go_wp2_with (go_at_call 57; refine (impl_word _ _).mono ?_; rintro e w' ⟨rfl, hw⟩; rw [hw]; clear hw w')
        go_round
        case rel => exact ⟨k + 1, by omega, by go_num, HG'⟩
        case measure => simp [intOf]; omega
    · have HE : Hid (wordsN len ws = true) := wordsN_mk hz.out (fun i hi => HG.out i (by have := hz.out; omega))
      go_wp2
      go_ret
      exact ⟨by rw [HE.out]; rfl, rfl⟩
theorem spec_words8 (a : Option Addr) (len cap : Nat) (ws : List Int) (W : World) (hz : Hid (ws.length = len)) (hlen : len ≤ 1048576) (h : Hid (Ints W a ws)) :
    Calls Try.prog 37 #[.slice a len cap] W fun e W' => e = .returned (.bool (wordsN 11 ws)) ∧ W' = W := by
  go_enter Try.func37, Try.ntmps37
  go_wp2
  go_loop [7] (fun vi => ∃ k : Nat, k ≤ len ∧ vi = .int .i64 k ∧ Hid (∀ j, j < k → inR (ws.getD j 0) 0 65535 = true)) (fun vi => len - (intOf vi).toNat)
  case atStart => exact ⟨0, Nat.zero_le _, rfl, fun j hj => by omega⟩
  case round =>
    obtain ⟨k, hk, rfl, HG⟩ := hrel
    by_cases hlt : k < len
    · obtain ⟨b, off, ha, hc⟩ := h.out.at (Below.refl _ _) (k := k) (by have := hz.out; omega)
      subst ha
      obtain ⟨x, hx, HX⟩ : ∃ x : Int, W.cell? ⟨b, off + k, none⟩ = some (.int .i64 x) ∧ Hid (x = ws.getD k 0) := ⟨_, hc, rfl⟩
      clear hc
      cases hg : inR x 0 65535
      · have HE : Hid (wordsN 11 ws = false) := wordsN_bad (i := k) (by have := hz.out; omega) (by rw [← HX.out]; exact hg)
        go_wp2_with (go_at_call 48; refine (spec_word _ _).mono ?_; rintro e w' ⟨rfl, rfl⟩)
        go_ret
        exact ⟨by rw [HE.out]; rfl, rfl⟩
      · have HG' : Hid (∀ j, j < k + 1 → inR (ws.getD j 0) 0 65535 = true) := by
          show ∀ j, j < k + 1 → _
          intro j hj
          by_cases e : j = k
          · rw [e, ← HX.out]; exact hg
          · exact HG.out j (by omega)
        go_wp2_with (go_at_call 48; refine (spec_word _ _).mono ?_; rintro e w' ⟨rfl, hw⟩; rw [hw]; clear hw w')
        go_round
        case rel => exact ⟨k + 1, by omega, by go_num, HG'⟩
        case measure => simp [intOf]; omega
    · have HG' : Hid (∀ i, i < ws.length → inR (ws.getD i 0) 0 65535 = true) := fun i hi => HG.out i (by have := hz.out; omega)
      by_cases h11 : len = 11
      · have HE : Hid (wordsN 11 ws = true) := wordsN_mk (by rw [hz.out]; exact h11) HG'.out
        subst h11
        go_wp2
        go_ret
        exact ⟨by rw [HE.out]; rfl, rfl⟩
      · have HE : Hid (wordsN 11 ws = false) := wordsN_no (by rw [hz.out]; exact h11)
        have q8 : ((len : Int) == 11) = false := by simp; omega
        have q9 : decide ((len : Int) = 11) = false := decide_eq_false (by omega)
        go_wp2
        go_ret
        exact ⟨by rw [HE.out]; rfl, rfl⟩
end Go.Proofs.Ythjcgnldlhjjmaa.walks
