/-
  What the program's isRisingBelow and GoodTasks answer.
-/
import Derived.Test.YtfgfhmfdkglhoaaProg
import Derived.Test.YtfgfhmfdkglhoaaMagMath
import Derived.Test.YtfgfhmfdkglhoaaTaskMath
import Derived.Test.YtfgfhmfdkglhoaaTaskSpec
import Derived.Test.YtfgfhmfdkglhoaaInts
import Derived.Test.YtfgfhmfdkglhoaaPats
import Derived.WalkKit
import Derived.WalkSpells
import Derived.Below
import Derived.Handy
import Derived.Deep.QuietTactic
import Derived.BigQuiet
namespace Go.Proofs.Ytfgfhmfdkglhoaa.walks
open Go.RowKit Go.Proofs.Ytfgfhmfdkglhoaa.math Go.Proofs.Ytfgfhmfdkglhoaa.ints
set_option linter.unusedVariables false
set_option maxRecDepth 100000

theorem impl_between (lo n hi : Int) (W : World) : Calls Try.prog 40 #[.int .i64 lo, .int .i64 n, .int .i64 hi] W fun e W' => e = .returned (.bool (inR n lo hi)) ∧ W' = W := by
  by_cases h0 : lo ≤ n
  rotate_left
  · have k0 : n < lo := by omega
    have d0 : decide (lo ≤ n) = false := decide_eq_false h0
    rw [inR_lt k0]
    clear h0
    go_enter Try.func40, Try.ntmps40
    go_wp2
    go_ret
    exact ⟨rfl, rfl⟩
  by_cases h1 : n ≤ hi
  rotate_left
  · have k1 : hi < n := by omega
    have d1 : decide (n ≤ hi) = false := decide_eq_false (by omega)
    rw [inR_gt k1]
    clear h1
    go_enter Try.func40, Try.ntmps40
    go_wp2
    go_ret
    exact ⟨rfl, rfl⟩
  rw [inR_mk h0 h1]
  have d1 : decide (n ≤ hi) = true := decide_eq_true (by omega)
  have d0 : decide (lo ≤ n) = true := decide_eq_true h0
  go_enter Try.func40, Try.ntmps40
  go_wp2
  go_ret
  exact ⟨rfl, rfl⟩
theorem between_quiet {n lo hi : Int} {b : Bool} (h : inR n lo hi = b) (W : World) : Calls Try.prog 40 #[.int .i64 lo, .int .i64 n, .int .i64 hi] W fun e W' => e = .returned (.bool b) ∧ W' = W := by
  have := impl_between lo n hi W
  rw [h] at this
  exact this
set_option maxHeartbeats 1000000 in
theorem impl_rising (a : Option Addr) (len cap : Nat) (e : Int) (zs : List Int) (W : World) (hz : Hid (zs.length = len)) (hlen : len ≤ 1048576) (he0 : 0 ≤ e) (he : e ≤ 1048576) (h : Hid (Ints W a zs)) :
    Calls Try.prog 41 #[.slice a len cap, .int .i64 e] W fun r W' => r = .returned (.bool (riseB zs e)) ∧ W' = W := by
  go_enter Try.func41, Try.ntmps41
  go_wp2
  go_loop [5, 10] (fun vl vi => ∃ k : Nat, k ≤ len ∧ vi = .int .i64 (k : Int) ∧ vl = .int .i64 (nextL zs k) ∧ Hid (RiseTo zs e k)) (fun _ vi => len - (intOf vi).toNat)
  case atStart => exact ⟨0, Nat.zero_le _, rfl, rfl, rise_nil _ _⟩
  case round =>
    obtain ⟨k, hk, rfl, rfl, HR⟩ := hrel
    by_cases hlt : k < len
    rotate_left
    · have HT : Hid (riseB zs e = true) := rise_yes (by rw [hz.out, show len = k by omega]; exact HR.out)
      go_wp2
      go_ret
      exact ⟨by rw [HT.out]; rfl, rfl⟩
    have hltI : (k : Int) < (len : Int) := by omega
    obtain ⟨b, off, ha, hc⟩ := h.out.at (Below.refl _ _) (k := k) (by rw [hz.out]; exact hlt)
    subst ha
    have HNO : Hid ((zs.getD k 0 < 0 ∨ e ≤ zs.getD k 0 ∨ (0 < k ∧ zs.getD k 0 ≤ zs.getD (k - 1) 0)) → riseB zs e = false) := fun q => rise_no (by rw [hz.out]; exact hlt) q
    have HNX : Hid (0 ≤ zs.getD k 0 → zs.getD k 0 < e → (0 < k → zs.getD (k - 1) 0 < zs.getD k 0) → RiseTo zs e (k + 1)) := fun q0 q1 q2 => rise_next HR.out q0 q1 q2
    have HNL : Hid (nextL zs (k + 1) = zs.getD k 0 + 1) := nextL_succ _ _
    have n0 := nextL_nonneg HR.out
    have HNP : Hid (0 < k → nextL zs k = zs.getD (k - 1) 0 + 1) := nextL_pos
    have HNQ : Hid (k = 0 → nextL zs k = 0) := fun q => by rw [q]; rfl
    obtain ⟨z, hzz⟩ : ∃ z, Hid (zs.getD k 0 = z) := ⟨_, rfl⟩
    rw [hzz.out] at hc HNO HNX HNL
    obtain ⟨l, hll⟩ : ∃ l, Hid (nextL zs k = l) := ⟨_, rfl⟩
    rw [hll.out] at n0 HNP HNQ ⊢
    by_cases q0 : z < l
    · have HT : Hid (riseB zs e = false) := by
        refine HNO.out ?_
        by_cases k0 : k = 0
        · have := HNQ.out k0; exact Or.inl (by omega)
        · have := HNP.out (by omega); exact Or.inr (Or.inr ⟨by omega, by omega⟩)
      have d0 : decide (z < l) = true := decide_eq_true q0
      go_wp2
      go_ret
      exact ⟨by rw [HT.out]; rfl, rfl⟩
    have q0' : l ≤ z := by omega
    have d0 : decide (z < l) = false := decide_eq_false q0
    clear q0
    by_cases q1 : e ≤ z
    · have HT : Hid (riseB zs e = false) := HNO.out (Or.inr (Or.inl q1))
      have d1 : decide (z ≥ e) = true := decide_eq_true q1
      go_wp2
      go_ret
      exact ⟨by rw [HT.out]; rfl, rfl⟩
    have q1' : z < e := by omega
    have d1 : decide (z ≥ e) = false := decide_eq_false q1
    clear q1
    have HN : Hid (RiseTo zs e (k + 1)) := HNX.out (by omega) q1' (fun k0 => by have := HNP.out k0; omega)
    go_wp2
    go_round
    case rel => exact ⟨k + 1, by omega, by go_num, by rw [HNL.out], HN⟩
    case measure => simp [intOf]; omega
theorem rising_quiet {a : Option Addr} {len cap : Nat} {e : Int} {zs : List Int} {b : Bool} (W : World) (hz : Hid (zs.length = len)) (hlen : len ≤ 1048576) (he0 : 0 ≤ e) (he : e ≤ 1048576) (h : Ints W a zs) (hb : riseB zs e = b) :
    Calls Try.prog 41 #[.slice a len cap, .int .i64 e] W fun r W' => r = .returned (.bool b) ∧ W' = W := by
  have := impl_rising a len cap e zs W hz hlen he0 he h
  rw [hb] at this
  exact this
set_option maxHeartbeats 4000000 in
theorem impl_tasks (a : Option Addr) (n cap : Nat) (f : Nat → Pv) (W : World) (hn : n ≤ 1048576) (hlen : Hid (∀ k, k < n → (f k).zs.length ≤ 1048576)) (h : Hid (Pats W a n f)) :
    Calls Try.prog 24 #[.slice a n cap] W fun e W' => e = .returned (.bool (tasksB f n)) ∧ Below W.heap.size W W' := by
  by_cases hm : 12 < n
  · have HE : Hid (tasksB f n = false) := tasks_many hm
    have hmI : (12 : Int) < (n : Int) := by omega
    go_enter Try.func24, Try.ntmps24
    go_wp2
    go_ret
    exact ⟨by rw [HE.out]; rfl, Below.refl _ _⟩
  have hm' : n ≤ 12 := by omega
  have hmI : (n : Int) ≤ 12 := by omega
  clear hm
  go_enter Try.func24, Try.ntmps24
  go_wp2
  go_loopw [10] (fun vi wr => ∃ k : Nat, k ≤ n ∧ vi = .int .i64 k ∧ Hid (∀ j, j < k → taskB (f j) j = true) ∧ Hid (Below W.heap.size W wr)) (fun vi _ => n - (intOf vi).toNat)
  case atStart => exact ⟨0, Nat.zero_le _, rfl, fun j hj => by omega, Below.refl _ _⟩
  case round =>
    obtain ⟨k, hk, rfl, HG, HB⟩ := hrel
    by_cases hlt : k < n
    rotate_left
    · have HE : Hid (tasksB f n = true) := tasks_yes hm' (fun j hj => HG.out j (by omega))
      go_wp2
      go_ret
      exact ⟨by rw [HE.out]; rfl, HB.out⟩
    obtain ⟨b, off, ca, cc, ha, hb, c0, c1, hI⟩ := pat_at h.out HB.out hlt
    subst ha
    have HI : Hid (Ints wr ca (f k).zs) := hI
    have HL := hlen.out k hlt
    clear hI
    have hbw : b < wr.heap.size := by have := HB.out.size; omega
    obtain ⟨p, hpE⟩ : ∃ p, Hid (f k = p) := ⟨_, rfl⟩
    have HBAD : Hid (taskB p k = false → tasksB f n = false) := fun q => tasks_bad hlt (by rw [hpE.out]; exact q)
    have HOK : Hid (taskB p k = true → ∀ j, j < k + 1 → taskB (f j) j = true) := fun q i hi => by
      by_cases e : i = k
      · rw [e, hpE.out]; exact q
      · exact HG.out i (by omega)
    rw [hpE.out] at c0 c1 HI HL
    obtain ⟨L, HZ⟩ : ∃ L, Hid (p.zs.length = L) := ⟨_, rfl⟩
    rw [HZ.out] at c0 HL
    have HX : Hid (Below W.heap.size W (wr.alloc (.cells #[.int .i64 p.c, .slice ca L cc] 46))) := HB.out.alloc HB.out.size _
    have HIX : Hid (Ints (wr.alloc (.cells #[.int .i64 p.c, .slice ca L cc] 46)) ca p.zs) := HI.out.kept (by repeat (first | exact Below.refl _ _ | refine Below.drew ?_ | refine Below.setCell ?_ (by simp; try omega) _ | refine Below.alloc ?_ (by simp; try omega) _))
    have hkI : (k : Int) ≤ 1048576 := by omega
    cases hp : inR p.c 1 20
    · have HE : Hid (tasksB f n = false) := HBAD.out (task_long hp)
      go_wp2_with (go_at_call 40; refine (between_quiet hp _).mono ?_; rintro e w' ⟨rfl, hw⟩; rw [hw]; clear hw w')
      go_ret
      exact ⟨by rw [HE.out]; rfl, HX.out⟩
    cases hr : riseB p.zs (k : Int)
    · have HE : Hid (tasksB f n = false) := HBAD.out (task_rise hr)
      go_wp2_with (first | (go_at_call 40; refine (between_quiet hp _).mono ?_; rintro e w' ⟨rfl, hw⟩; rw [hw]; clear hw w') | (go_at_call 41; refine (rising_quiet _ HZ HL (by omega) hkI HIX.out hr).mono ?_; rintro e w' ⟨rfl, hw⟩; rw [hw]; clear hw w'))
      go_ret
      exact ⟨by rw [HE.out]; rfl, HX.out⟩
    · have HG' := HOK.out (task_yes hp hr)
      have HG2 : Hid (∀ j, j < k + 1 → taskB (f j) j = true) := HG'
      clear HG'
      go_wp2_with (first | (go_at_call 40; refine (between_quiet hp _).mono ?_; rintro e w' ⟨rfl, hw⟩; rw [hw]; clear hw w') | (go_at_call 41; refine (rising_quiet _ HZ HL (by omega) hkI HIX.out hr).mono ?_; rintro e w' ⟨rfl, hw⟩; rw [hw]; clear hw w'))
      go_roundw
      case rel => exact ⟨k + 1, by omega, by go_num, HG2, HX⟩
      case measure => simp [intOf]; omega
end Go.Proofs.Ytfgfhmfdkglhoaa.walks
