/-
  What the specification's l9Arity, l9End, GoodTree and l9Pattern answer, at every list.
-/
import Derived.Test.YtapbfoooflpejaaProg
import Derived.Test.YtapbfoooflpejaaTreeMath
import Derived.Test.YtapbfoooflpejaaInts
import Derived.WalkKit
import Derived.WalkSpells
import Derived.Below
import Derived.Handy
namespace Go.Proofs.Ytapbfoooflpejaa.walks
open Go.RowKit Go.Proofs.Ytapbfoooflpejaa.math Go.Proofs.Ytapbfoooflpejaa.ints
set_option linter.unusedVariables false

/-- What l9Arity answers. -/
def arI (k : Int) : Int := if k = 0 ∨ k = 1 ∨ k = 2 then 0 else if k = 5 then 1 else if k = 3 ∨ k = 4 then 2 else -1
theorem arK_some {any : Bool} {k : Int} {m : Nat} (h : arK any k = some m) : arI k = (m : Int) ∧ m ≤ 2 ∧ (any = true ∨ k ≠ 0) := by
  unfold arK at h
  unfold arI
  split at h
  · rename_i e; cases any <;> simp at h; subst h e; simp
  · rename_i e0
    split at h
    · rename_i e; simp at h; subst h; rw [if_pos (by omega)]; simp [e0]
    · rename_i e1
      rw [if_neg (by omega)]
      split at h
      · rename_i e; simp at h; subst h; rw [if_pos e]; simp [e0]
      · rename_i e2
        rw [if_neg e2]
        split at h
        · rename_i e; simp at h; subst h; rw [if_pos e]; simp [e0]
        · cases h
theorem arK_none {any : Bool} {k : Int} (h : arK any k = none) : (arI k = -1 ∧ k ≠ 0) ∨ (k = 0 ∧ any = false ∧ arI k = 0) := by
  unfold arK at h
  unfold arI
  split at h
  · rename_i e; cases any <;> simp at h; subst e; simp
  · rename_i e0
    split at h
    · cases h
    · split at h
      · cases h
      · split at h
        · cases h
        · rename_i e1 e2 e3
          rw [if_neg (by omega), if_neg e2, if_neg e3]
          exact Or.inl ⟨rfl, e0⟩
theorem spec_arity (k : Int) (W : World) : Calls Try.prog 44 #[.int .i64 k] W fun e W' => e = .returned (.int .i64 (arI k)) ∧ W' = W := by
  unfold arI
  by_cases e : k = 0 ∨ k = 1 ∨ k = 2
  · rw [if_pos e]
    rcases e with rfl | rfl | rfl
    all_goals
      go_enter Try.func44, Try.ntmps44
      go_wp2
      go_ret
      exact ⟨rfl, rfl⟩
  rw [if_neg e]
  by_cases e5 : k = 5
  · subst e5
    go_enter Try.func44, Try.ntmps44
    go_wp2
    go_ret
    exact ⟨rfl, rfl⟩
  rw [if_neg e5]
  by_cases e3 : k = 3 ∨ k = 4
  · rw [if_pos e3]
    rcases e3 with rfl | rfl
    all_goals
      go_enter Try.func44, Try.ntmps44
      go_wp2
      go_ret
      exact ⟨rfl, rfl⟩
  rw [if_neg e3]
  have d0 : (k == 0) = false := by simp; omega
  have d1 : (k == 1) = false := by simp; omega
  have d2 : (k == 2) = false := by simp; omega
  have d3 : (k == 3) = false := by simp; omega
  have d4 : (k == 4) = false := by simp; omega
  have d5 : (k == 5) = false := by simp; omega
  have n0 : ¬ k = 0 := by omega
  have n1 : ¬ k = 1 := by omega
  have n2 : ¬ k = 2 := by omega
  have n3 : ¬ k = 3 := by omega
  have n4 : ¬ k = 4 := by omega
  clear e e3
  go_enter Try.func44, Try.ntmps44
  go_wp2
  go_ret
  exact ⟨rfl, rfl⟩

set_option maxHeartbeats 2000000 in
theorem spec_end (a : Option Addr) (len cap at0 : Nat) (any : Bool) (zs : List Int) (W : World) (hz : Hid (zs.length = len)) (hlen : len ≤ 1048576) (hat : at0 ≤ len) (h : Hid (Ints W a zs)) :
    Calls Try.prog 34 #[.slice a len cap, .int .i64 (at0 : Int), .bool any] W fun e W' => e = .returned (.int .i64 (endT any zs at0 : Int)) ∧ W' = W := by
  go_enter Try.func34, Try.ntmps34
  go_wp2_with fail
  go_loop [1, 7] (fun vi vo => ∃ i n : Nat, at0 ≤ i ∧ i ≤ len ∧ n ≤ i - at0 + 1 ∧ vi = .int .i64 (i : Int) ∧ vo = .int .i64 (n : Int) ∧ Hid (skipL any (zs.drop at0) 1 = (skipL any (zs.drop i) n).map (· + (i - at0)))) (fun vi _ => len + 1 - (intOf vi).toNat)
  case atStart => exact ⟨at0, 1, Nat.le_refl _, hat, by omega, rfl, rfl, by show _ = _; cases skipL any (zs.drop at0) 1 <;> simp⟩
  case round =>
    obtain ⟨i, n, hi0, hi1, hn, rfl, rfl, HS⟩ := hrel
    by_cases hn1 : n = 0
    · have HE : Hid (endT any zs at0 = i) := by
        show endT any zs at0 = i
        unfold endT
        rw [HS.out, hn1, skip_zero]
        simp
        omega
      have hnI : (n : Int) ≤ 0 := by omega
      clear hn1
      go_wp2_with fail
      go_ret
      exact ⟨by rw [HE.out]; rfl, rfl⟩
    obtain ⟨n, rfl⟩ : ∃ m, n = m + 1 := ⟨n - 1, by omega⟩
    clear hn1
    have hn0 : (0 : Int) < ((n + 1 : Nat) : Int) := by omega
    by_cases hlt : i < len
    rotate_left
    · have HE : Hid (endT any zs at0 = 0) := by
        show endT any zs at0 = 0
        have e : zs.drop i = [] := List.drop_eq_nil_of_le (by have := hz.out; omega)
        unfold endT
        rw [HS.out, e, skip_nil]
        rfl
      have hge : (len : Int) ≤ (i : Int) := by omega
      clear hlt
      go_wp2_with fail
      go_ret
      exact ⟨by rw [HE.out]; rfl, rfl⟩
    have hltI : (i : Int) < (len : Int) := by omega
    obtain ⟨b, off, ha, hc⟩ := h.out.at (Below.refl _ _) (k := i) (by have := hz.out; omega)
    subst ha
    have HD : Hid (zs.drop i = zs.getD i 0 :: zs.drop (i + 1)) := drop_at (by have := hz.out; omega)
    obtain ⟨k, hk⟩ : ∃ k, Hid (zs.getD i 0 = k) := ⟨_, rfl⟩
    rw [hk.out] at hc
    cases hA : arK any k with
    | none =>
      have HE : Hid (endT any zs at0 = 0) := by
        show endT any zs at0 = 0
        unfold endT
        rw [HS.out, HD.out, skip_cons_none (by rw [hk.out]; exact hA)]
        rfl
      rcases arK_none hA with ⟨e, e0⟩ | ⟨rfl, rfl, e⟩
      · go_wp2_with (go_at_call 44; refine (spec_arity _ _).mono ?_; rw [e]; rintro e w' ⟨rfl, rfl⟩)
        go_ret
        exact ⟨by rw [HE.out]; rfl, rfl⟩
      · go_wp2_with (go_at_call 44; refine (spec_arity _ _).mono ?_; rw [e]; rintro e w' ⟨rfl, rfl⟩)
        go_ret
        exact ⟨by rw [HE.out]; rfl, rfl⟩
    | some m =>
      obtain ⟨e, hm, ho⟩ := arK_some hA
      have HS' : Hid (skipL any (zs.drop at0) 1 = (skipL any (zs.drop (i + 1)) (n + m)).map (· + (i + 1 - at0))) := by
        show _ = _
        rw [HS.out, HD.out, skip_cons_some (by rw [hk.out]; exact hA)]
        cases skipL any (zs.drop (i + 1)) (n + m) with
        | none => rfl
        | some x => simp; omega
      have hmI : (0 : Int) ≤ (m : Int) := by omega
      have hm2 : (m : Int) ≤ 2 := by omega
      have hnI : (n : Int) ≤ 1048578 := by omega
      rcases ho with rfl | e0
      · by_cases e0 : k = 0
        · subst e0
          go_wp2_with (go_at_call 44; refine (spec_arity _ _).mono ?_; rw [e]; rintro e w' ⟨rfl, rfl⟩)
          go_round
          case rel => exact ⟨i + 1, n + m, by omega, by omega, by omega, by go_num, by go_num, HS'⟩
          case measure => simp [intOf]; omega
        · have d0 : (k == 0) = false := by simpa using e0
          go_wp2_with (go_at_call 44; refine (spec_arity _ _).mono ?_; rw [e]; rintro e w' ⟨rfl, rfl⟩)
          go_round
          case rel => exact ⟨i + 1, n + m, by omega, by omega, by omega, by go_num, by go_num, HS'⟩
          case measure => simp [intOf]; omega
      · have d0 : (k == 0) = false := by simpa using e0
        go_wp2_with (go_at_call 44; refine (spec_arity _ _).mono ?_; rw [e]; rintro e w' ⟨rfl, rfl⟩)
        go_round
        case rel => exact ⟨i + 1, n + m, by omega, by omega, by omega, by go_num, by go_num, HS'⟩
        case measure => simp [intOf]; omega
end Go.Proofs.Ytapbfoooflpejaa.walks
