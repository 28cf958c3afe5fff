/-
  What the specification's GoodTasks and WorkOf answer.
-/
import Derived.Test.YtfgfhmfdkglhoaaProg
import Derived.Test.YtfgfhmfdkglhoaaMagMath
import Derived.Test.YtfgfhmfdkglhoaaTaskMath
import Derived.Test.YtfgfhmfdkglhoaaInts
import Derived.Test.YtfgfhmfdkglhoaaPats
import Derived.WalkKit
import Derived.WalkSpells
import Derived.Below
import Derived.Handy
import Derived.Deep.QuietTactic
import Derived.BigQuiet
namespace Go.Proofs.Ytfgfhmfdkglhoaa.walks
open Go.RowKit Go.Proofs.Ytfgfhmfdkglhoaa.math Go.Proofs.Ytfgfhmfdkglhoaa.ints
set_option linter.unusedVariables false
set_option maxRecDepth 100000

theorem belowN {B : Nat} {W w : World} (h : Below B W w) : ∀ q, Below B W (w.drewN q)
  | 0 => h
  | q + 1 => (belowN h q).drew
theorem spec_in (n lo hi : Int) (W : World) : Calls Try.prog 38 #[.int .i64 n, .int .i64 lo, .int .i64 hi] W fun e W' => e = .returned (.bool (inR n lo hi)) ∧ W' = W := by
  by_cases h0 : lo ≤ n
  rotate_left
  · have k0 : n < lo := by omega
    have d0 : decide (lo ≤ n) = false := decide_eq_false h0
    rw [inR_lt k0]
    clear h0
    go_enter Try.func38, Try.ntmps38
    go_wp2
    go_ret
    exact ⟨rfl, rfl⟩
  by_cases h1 : n ≤ hi
  rotate_left
  · have k1 : hi < n := by omega
    have d1 : decide (n ≤ hi) = false := decide_eq_false (by omega)
    rw [inR_gt k1]
    clear h1
    go_enter Try.func38, Try.ntmps38
    go_wp2
    go_ret
    exact ⟨rfl, rfl⟩
  rw [inR_mk h0 h1]
  have d1 : decide (n ≤ hi) = true := decide_eq_true (by omega)
  have d0 : decide (lo ≤ n) = true := decide_eq_true h0
  go_enter Try.func38, Try.ntmps38
  go_wp2
  go_ret
  exact ⟨rfl, rfl⟩
theorem in_quiet {n lo hi : Int} {b : Bool} (h : inR n lo hi = b) (W : World) : Calls Try.prog 38 #[.int .i64 n, .int .i64 lo, .int .i64 hi] W fun e W' => e = .returned (.bool b) ∧ W' = W := by
  have := spec_in n lo hi W
  rw [h] at this
  exact this
set_option maxHeartbeats 4000000 in
theorem spec_tasks (a : Option Addr) (n cap : Nat) (f : Nat → Pv) (W : World) (hn : n ≤ 1048576) (hlen : Hid (∀ k, k < n → (f k).zs.length ≤ 1048576)) (h : Hid (Pats W a n f)) :
    Calls Try.prog 18 #[.slice a n cap] W fun e W' => e = .returned (.bool (tasksB f n)) ∧ Below W.heap.size W W' := by
  go_enter Try.func18, Try.ntmps18
  go_wp2
  go_loopw [9] (fun vi wr => ∃ k : Nat, k ≤ n ∧ vi = .int .i64 k ∧ Hid (∀ j, j < k → taskB (f j) j = true) ∧ Hid (Below W.heap.size W wr)) (fun vi _ => n - (intOf vi).toNat)
  case atStart => exact ⟨0, Nat.zero_le _, rfl, fun j hj => by omega, Below.refl _ _⟩
  case round =>
    obtain ⟨k, hk, rfl, HG, HB⟩ := hrel
    by_cases hlt : k < n
    rotate_left
    · have HE : Hid (∀ c, decide (n ≤ 12) = c → tasksB f n = c) := by
        show ∀ c, _ → _
        rintro c rfl
        have hkn : k = n := by omega
        by_cases q : n ≤ 12
        · rw [decide_eq_true q]; exact tasks_yes q (fun j hj => HG.out j (by omega))
        · rw [decide_eq_false q]; exact tasks_many (by omega)
      by_cases q : n ≤ 12
      · have dq : decide ((n : Int) ≤ 12) = true := decide_eq_true (by omega)
        go_wp2
        go_ret
        exact ⟨by rw [HE.out true (decide_eq_true q)]; rfl, HB.out⟩
      · have dq : decide ((n : Int) ≤ 12) = false := decide_eq_false (by omega)
        have q' : (12 : Int) < (n : Int) := by omega
        have HQ : Hid (decide (n ≤ 12) = false) := decide_eq_false q
        clear q
        go_wp2
        go_ret
        exact ⟨by rw [HE.out false HQ.out]; rfl, HB.out⟩
    obtain ⟨b, off, ca, cc, ha, hb, c0, c1, hI⟩ := pat_at h.out HB.out hlt
    subst ha
    have HI : Hid (Ints wr ca (f k).zs) := hI
    have HL := hlen.out k hlt
    clear hI
    have hbw : b < wr.heap.size := by have := HB.out.size; omega
    cases hp : inR (f k).c 1 20
    · have HE : Hid (tasksB f n = false) := tasks_bad hlt (task_long hp)
      go_wp2_with (go_at_call 38; refine (in_quiet hp _).mono ?_; rintro e w' ⟨rfl, hw⟩; rw [hw]; clear hw w')
      go_ret
      exact ⟨by rw [HE.out]; rfl, by first | exact HB.out | exact HB.out.alloc HB.out.size _⟩
    obtain ⟨p, hpE⟩ : ∃ p, Hid (f k = p) := ⟨_, rfl⟩
    rw [hpE.out] at hp c0 c1 HI HL
    obtain ⟨L, HZ⟩ : ∃ L, Hid (p.zs.length = L) := ⟨_, rfl⟩
    rw [HZ.out] at c0 HL
    go_wp2_with (go_at_call 38; refine (in_quiet hp _).mono ?_; rintro e w' ⟨rfl, hw⟩; rw [hw]; clear hw w')
    obtain ⟨X, hX⟩ : ∃ X, Hid (wr.alloc (.cells #[.int .i64 p.c, .slice ca L cc] 46) = X) := ⟨_, rfl⟩
    have HX : Hid (Below wr.heap.size wr X) := by show Below _ _ _; rw [← hX.out]; repeat (first | exact Below.refl _ _ | refine Below.drew ?_ | refine Below.setCell ?_ (by simp; try omega) _ | refine Below.alloc ?_ (by simp; try omega) _)
    have hXs : X.heap.size = wr.heap.size + 1 := by rw [← hX.out]; simp
    have p1 : X.cell? ⟨wr.heap.size, 1, none⟩ = some (.slice ca L cc) := by rw [← hX.out]; go_simp
    rw [hX.out]
    have HIX : Hid (Ints X ca p.zs) := HI.out.kept HX.out
    clear c0 c1 HI hX
    obtain ⟨wo, hwo⟩ : ∃ wo, wo = wr := ⟨_, rfl⟩
    subst hwo
    go_loopw [21] (fun vj wi => ∃ j : Nat, j ≤ L ∧ vj = .int .i64 j ∧ Hid (RiseTo p.zs (k : Int) j) ∧ Hid (Below X.heap.size X wi)) (fun vj _ => L - (intOf vj).toNat)
    case atStart => exact ⟨0, Nat.zero_le _, rfl, rise_nil _ _, Below.refl _ _⟩
    case round =>
      obtain ⟨j, hj, rfl, HR, HB2⟩ := hrel
      have HB3 : Hid (Below W.heap.size W wr) := HB.out.trans ((HX.out.trans (HB2.out.mono (by omega))).mono HB.out.size)
      have hxs := HB2.out.size
      have hwo : wo.heap.size < wr.heap.size := by omega
      have p1 : wr.cell? ⟨wo.heap.size, 1, none⟩ = some (.slice ca L cc) := (HB2.out.cell (p := ⟨wo.heap.size, 1, none⟩) (by show wo.heap.size < _; omega)).trans p1
      by_cases hjl : j < L
      rotate_left
      · have HT : Hid (taskB p k = true) := task_yes hp (rise_yes (by rw [HZ.out, show L = j by omega]; exact HR.out))
        have HG' : Hid (∀ j, j < k + 1 → taskB (f j) j = true) := by
          show ∀ j, _ → _
          intro i hi
          by_cases e : i = k
          · rw [e, hpE.out]; exact HT.out
          · exact HG.out i (by omega)
        go_wp2
        go_roundw
        case rel => exact ⟨k + 1, by omega, by go_num, HG', HB3⟩
        case measure => simp [intOf]; omega
      have hjL : (j : Int) < (L : Int) := by omega
      obtain ⟨b', off', ha, hc⟩ := HIX.out.at HB2.out (k := j) (by rw [HZ.out]; exact hjl)
      subst ha
      have HNO : Hid ((p.zs.getD j 0 < 0 ∨ (k : Int) ≤ p.zs.getD j 0 ∨ (0 < j ∧ p.zs.getD j 0 ≤ p.zs.getD (j - 1) 0)) → tasksB f n = false) := fun q => tasks_bad hlt (task_rise (by rw [hpE.out]; exact rise_no (by rw [HZ.out]; exact hjl) q))
      have HNX : Hid (0 ≤ p.zs.getD j 0 → p.zs.getD j 0 < (k : Int) → (0 < j → p.zs.getD (j - 1) 0 < p.zs.getD j 0) → RiseTo p.zs (k : Int) (j + 1)) := fun q0 q1 q2 => rise_next HR.out q0 q1 q2
      obtain ⟨z, hz⟩ : ∃ z, Hid (p.zs.getD j 0 = z) := ⟨_, rfl⟩
      rw [hz.out] at hc HNO HNX
      by_cases z0 : z < 0
      · have HE : Hid (tasksB f n = false) := HNO.out (Or.inl z0)
        have d0 : decide (z < 0) = true := decide_eq_true z0
        go_wp2
        go_ret
        exact ⟨by rw [HE.out]; rfl, HB3.out⟩
      have z0' : 0 ≤ z := by omega
      have d0 : decide (z < 0) = false := decide_eq_false z0
      clear z0
      by_cases z1 : (k : Int) ≤ z
      · have HE : Hid (tasksB f n = false) := HNO.out (Or.inr (Or.inl z1))
        have d1 : decide (z ≥ (k : Int)) = true := decide_eq_true z1
        go_wp2
        go_ret
        exact ⟨by rw [HE.out]; rfl, HB3.out⟩
      have z1' : z < (k : Int) := by omega
      have d1 : decide (z ≥ (k : Int)) = false := decide_eq_false z1
      clear z1
      by_cases j0 : j = 0
      · have HN : Hid (RiseTo p.zs (k : Int) (j + 1)) := HNX.out z0' z1' (fun q => by omega)
        have d2 : decide ((j : Int) > 0) = false := decide_eq_false (by omega)
        have d3 : decide (0 < j) = false := decide_eq_false (by omega)
        have d4 : (j : Int) ≤ 0 := by omega
        clear j0
        go_wp2
        go_roundw
        case rel => exact ⟨j + 1, by omega, by go_num, HN, HB2.out⟩
        case measure => simp [intOf]; omega
      have j0' : 0 < j := by omega
      have j0I : (0 : Int) < (j : Int) := by omega
      have d2 : decide ((j : Int) > 0) = true := decide_eq_true j0I
      have d3 : decide (0 < j) = true := decide_eq_true j0'
      clear j0
      obtain ⟨b2, off2, ha, hc2⟩ := HIX.out.at HB2.out (k := j - 1) (by rw [HZ.out]; omega)
      obtain ⟨rfl, rfl⟩ : b' = b2 ∧ off' = off2 := by simpa using ha
      obtain ⟨y, hy⟩ : ∃ y, Hid (p.zs.getD (j - 1) 0 = y) := ⟨_, rfl⟩
      rw [hy.out] at hc2 HNO HNX
      obtain ⟨i, rfl⟩ : ∃ i, j = i + 1 := ⟨j - 1, by omega⟩
      have ei : ((i + 1 : Nat) : Int) - 1 = (i : Int) := by omega
      have ei2 : (i : Int) + 1 - 1 = (i : Int) := by omega
      rw [Nat.add_sub_cancel] at hc2
      have ej : (i : Int) + 1 < (L : Int) := by omega
      by_cases z2 : z ≤ y
      · have HE : Hid (tasksB f n = false) := HNO.out (Or.inr (Or.inr ⟨j0', z2⟩))
        have d4 : decide (y ≥ z) = true := decide_eq_true z2
        go_wp2
        go_ret
        exact ⟨by rw [HE.out]; rfl, HB3.out⟩
      · have z2' : y < z := by omega
        have d4 : decide (y ≥ z) = false := decide_eq_false z2
        have HN : Hid (RiseTo p.zs (k : Int) (i + 1 + 1)) := HNX.out z0' z1' (fun q => z2')
        clear z2
        go_wp2
        go_roundw
        case rel => exact ⟨i + 1 + 1, by omega, by go_num, HN, HB2.out⟩
        case measure => simp [intOf]; omega
end Go.Proofs.Ytfgfhmfdkglhoaa.walks
