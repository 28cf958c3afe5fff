/-
  What WorkOf, RanksOf, LongestChain and LeastTime answer, of the specification and of the program.
-/
import Derived.Test.YtbnddgdembmooaaProg
import Derived.Test.YtbnddgdembmooaaMagMath
import Derived.Test.YtbnddgdembmooaaTaskMath
import Derived.Test.YtbnddgdembmooaaRankMath
import Derived.Test.YtbnddgdembmooaaTaskSpec
import Derived.Test.YtbnddgdembmooaaTaskImpl
import Derived.Test.YtbnddgdembmooaaRankSpec
import Derived.Test.YtbnddgdembmooaaRankImpl
import Derived.Test.YtbnddgdembmooaaInts
import Derived.Test.YtbnddgdembmooaaPats
import Derived.WalkKit
import Derived.WalkSpells
import Derived.Below
import Derived.Handy
import Derived.Deep.OwnRows
namespace Go.Proofs.Ytbnddgdembmooaa.walks
open Go.RowKit Go.Proofs.Ytbnddgdembmooaa.math Go.Proofs.Ytbnddgdembmooaa.ints
set_option linter.unusedVariables false
set_option maxRecDepth 100000

def workV (f : Nat → Pv) (n : Nat) : Int := if tasksB f n then workTo f n else 0
def chainV (f : Nat → Pv) (n : Nat) : Int := if tasksB f n then maxTo (rankV f n) n else 0
def rkZ (f : Nat → Pv) (n : Nat) : List Int := if tasksB f n then ranksL f n else []
theorem rkZ_len (f : Nat → Pv) (n : Nat) : (rkZ f n).length ≤ 1048576 := by
  unfold rkZ
  cases q : tasksB f n with
  | false => simp
  | true => have := (tasks_out q).1; simp [ranksL_len]; omega
/-- What RanksOf answers. -/
def RankAns (f : Nat → Pv) (n : Nat) (W : World) (e : Ending) (W' : World) : Prop := ∃ a c, e = .returned (.tuple #[.slice a (rkZ f n).length c, .bool (tasksB f n)]) ∧ Mine W' W.heap.size a (rkZ f n) ∧ Below W.heap.size W W'
theorem rank_told {f : Nat → Pv} {n : Nat} {W W' : World} {e : Ending} (h : RankAns f n W e W') : ∃ a c, e = .returned (.tuple #[.slice a (rkZ f n).length c, .bool (tasksB f n)]) ∧ Mine W' W.heap.size a (rkZ f n) ∧ Below W.heap.size W W' := h
def leastV (f : Nat → Pv) (n : Nat) (u : Int) : Int := if tasksB f n && inR u 1 4 then max (maxTo (rankV f n) n) ((workTo f n + u - 1).tdiv u) else 0
set_option maxHeartbeats 2000000 in
theorem spec_work (a : Option Addr) (n cap : Nat) (f : Nat → Pv) (W : World) (hn : n ≤ 1048576) (hlen : Hid (∀ k, k < n → (f k).zs.length ≤ 1048576)) (h : Hid (Pats W a n f)) :
    Calls Try.prog 25 #[.slice a n cap] W fun e W' => e = .returned (.tuple #[.int .i64 (workV f n), .bool (tasksB f n)]) ∧ Below W.heap.size W W' := by
  cases hg : tasksB f n
  · have HV : Hid (workV f n = 0) := by show _ = _; unfold workV; rw [hg]; rfl
    rw [HV.out]
    go_enter Try.func25, Try.ntmps25
    go_wp2_with fail
    refine (spec_tasks _ _ _ f _ hn hlen h).mono ?_
    rw [hg]
    rintro e w1 ⟨rfl, hB⟩
    have HB : Hid (Below W.heap.size W w1) := hB
    clear hB
    go_wp2
    go_ret2
    exact ⟨rfl, HB.out⟩
  have HV : Hid (workV f n = workTo f n) := by show _ = _; unfold workV; rw [hg]; rfl
  rw [HV.out]
  obtain ⟨hn12, hgd⟩ := tasks_out hg
  have HG : Hid (∀ k, k < n → taskB (f k) k = true) := hgd
  clear hgd
  go_enter Try.func25, Try.ntmps25
  go_wp2_with fail
  refine (spec_tasks _ _ _ f _ hn hlen h).mono ?_
  rw [hg]
  rintro e w1 ⟨rfl, hB⟩
  have HB1 : Hid (Below W.heap.size W w1) := hB
  clear hB
  go_wp2
  go_loopw [4, 12] (fun vs vi wr => ∃ (k : Nat) (s : Int), k ≤ n ∧ vi = .int .i64 k ∧ vs = .int .i64 s ∧ Hid (s = workTo f k) ∧ 0 ≤ s ∧ s ≤ 20 * (k : Int) ∧ Hid (Below W.heap.size W wr)) (fun _ vi _ => n - (intOf vi).toNat)
  case atStart => exact ⟨0, 0, Nat.zero_le _, rfl, rfl, rfl, by omega, by omega, HB1⟩
  case round =>
    obtain ⟨k, s, hk, rfl, rfl, HS, s0, s1, HB⟩ := hrel
    by_cases hlt : k < n
    · obtain ⟨b, off, ca, cc, ha, hb, c0, c1, _⟩ := pat_at h.out HB.out hlt
      subst ha
      have ht := task_out (HG.out k hlt)
      have HN : Hid (workTo f (k + 1) = s + (f k).c) := by show _ = _; rw [HS.out]; rfl
      obtain ⟨c, hc⟩ : ∃ c, Hid ((f k).c = c) := ⟨_, rfl⟩
      rw [hc.out] at c1 HN ht
      obtain ⟨t0, t1, _⟩ := ht
      have hbw : b < wr.heap.size := by have := HB.out.size; omega
      go_wp2
      go_roundw
      case rel => exact ⟨k + 1, s + c, by omega, by go_num, rfl, HN.out.symm, by omega, by omega, HB.out.alloc HB.out.size _⟩
      case measure => simp [intOf]; omega
    · have HE : Hid (s = workTo f n) := by show _ = _; rw [HS.out, show k = n by omega]
      go_wp2
      go_ret2
      exact ⟨by rw [← HE.out]; rfl, HB.out⟩
set_option maxHeartbeats 2000000 in
theorem impl_work (a : Option Addr) (n cap : Nat) (f : Nat → Pv) (W : World) (hn : n ≤ 1048576) (hlen : Hid (∀ k, k < n → (f k).zs.length ≤ 1048576)) (h : Hid (Pats W a n f)) :
    Calls Try.prog 26 #[.slice a n cap] W fun e W' => e = .returned (.tuple #[.int .i64 (workV f n), .bool (tasksB f n)]) ∧ Below W.heap.size W W' := by
  cases hg : tasksB f n
  · have HV : Hid (workV f n = 0) := by show _ = _; unfold workV; rw [hg]; rfl
    rw [HV.out]
    go_enter Try.func26, Try.ntmps26
    go_wp2_with fail
    refine (impl_tasks _ _ _ f _ hn hlen h).mono ?_
    rw [hg]
    rintro e w1 ⟨rfl, hB⟩
    have HB : Hid (Below W.heap.size W w1) := hB
    clear hB
    go_wp2
    go_ret2
    exact ⟨rfl, HB.out⟩
  have HV : Hid (workV f n = workTo f n) := by show _ = _; unfold workV; rw [hg]; rfl
  rw [HV.out]
  obtain ⟨hn12, hgd⟩ := tasks_out hg
  have HG : Hid (∀ k, k < n → taskB (f k) k = true) := hgd
  clear hgd
  go_enter Try.func26, Try.ntmps26
  go_wp2_with fail
  refine (impl_tasks _ _ _ f _ hn hlen h).mono ?_
  rw [hg]
  rintro e w1 ⟨rfl, hB⟩
  have HB1 : Hid (Below W.heap.size W w1) := hB
  clear hB
  go_wp2
  go_loopw [4, 12] (fun vs vi wr => ∃ (k : Nat) (s : Int), k ≤ n ∧ vi = .int .i64 k ∧ vs = .int .i64 s ∧ Hid (s = workTo f k) ∧ 0 ≤ s ∧ s ≤ 20 * (k : Int) ∧ Hid (Below W.heap.size W wr)) (fun _ vi _ => n - (intOf vi).toNat)
  case atStart => exact ⟨0, 0, Nat.zero_le _, rfl, rfl, rfl, by omega, by omega, HB1⟩
  case round =>
    obtain ⟨k, s, hk, rfl, rfl, HS, s0, s1, HB⟩ := hrel
    by_cases hlt : k < n
    · obtain ⟨b, off, ca, cc, ha, hb, c0, c1, _⟩ := pat_at h.out HB.out hlt
      subst ha
      have ht := task_out (HG.out k hlt)
      have HN : Hid (workTo f (k + 1) = s + (f k).c) := by show _ = _; rw [HS.out]; rfl
      obtain ⟨c, hc⟩ : ∃ c, Hid ((f k).c = c) := ⟨_, rfl⟩
      rw [hc.out] at c1 HN ht
      obtain ⟨t0, t1, _⟩ := ht
      have hbw : b < wr.heap.size := by have := HB.out.size; omega
      go_wp2
      go_roundw
      case rel => exact ⟨k + 1, s + c, by omega, by go_num, rfl, HN.out.symm, by omega, by omega, HB.out.alloc HB.out.size _⟩
      case measure => simp [intOf]; omega
    · have HE : Hid (s = workTo f n) := by show _ = _; rw [HS.out, show k = n by omega]
      go_wp2
      go_ret2
      exact ⟨by rw [← HE.out]; rfl, HB.out⟩
set_option maxHeartbeats 2000000 in
theorem spec_ranksof (a : Option Addr) (n cap : Nat) (f : Nat → Pv) (W : World) (hn : n ≤ 1048576) (hlen : Hid (∀ k, k < n → (f k).zs.length ≤ 1048576)) (h : Hid (Pats W a n f)) :
    Calls Try.prog 20 #[.slice a n cap] W fun e W' => RankAns f n W e W' := by
  cases hg : tasksB f n
  · have HV : Hid (rkZ f n = []) := by show _ = _; unfold rkZ; rw [hg]; rfl
    go_enter Try.func20, Try.ntmps20
    go_wp2_with fail
    refine (spec_tasks _ _ _ f _ hn hlen h).mono ?_
    rw [hg]
    rintro e w1 ⟨rfl, hB⟩
    have HB : Hid (Below W.heap.size W w1) := hB
    clear hB
    go_wp2
    go_ret2
    exact ⟨none, 0, by rw [HV.out, hg]; rfl, by rw [HV.out]; exact Or.inl rfl, HB.out⟩
  have HV : Hid (rkZ f n = ranksL f n) := by show _ = _; unfold rkZ; rw [hg]; rfl
  obtain ⟨hn12, hgd⟩ := tasks_out hg
  have HG : Hid (∀ k, k < n → taskB (f k) k = true) := hgd
  clear hgd
  go_enter Try.func20, Try.ntmps20
  go_wp2_with fail
  refine (spec_tasks _ _ _ f _ hn hlen h).mono ?_
  rw [hg]
  rintro e w1 ⟨rfl, hB⟩
  have HB1 : Hid (Below W.heap.size W w1) := hB
  clear hB
  go_wp2_with fail
  refine (spec_ranks _ _ _ f _ hn12 HG hlen (h.out.kept HB1.out)).mono ?_
  rintro e w2 ⟨rfl, hR, hB⟩
  have HB2 : Hid (Below W.heap.size W w2) := HB1.out.trans (hB.mono HB1.out.size)
  have HR : Hid (w2.rowIs w1.heap.size 3 n (fun i => .int .i64 (rankV f n i))) := hR
  clear hB hR
  go_wp2
  go_ret2
  refine ⟨some ⟨w1.heap.size, 0, none⟩, n, by rw [HV.out, ranksL_len, hg]; rfl, ?_, HB2.out⟩
  rw [HV.out]
  exact mine_row (HR.out.congr (fun i hi => by rw [ranksL_at hi])) (ranksL_len f n) HB1.out.size
set_option maxHeartbeats 2000000 in
theorem impl_ranksof (a : Option Addr) (n cap : Nat) (f : Nat → Pv) (W : World) (hn : n ≤ 1048576) (hlen : Hid (∀ k, k < n → (f k).zs.length ≤ 1048576)) (h : Hid (Pats W a n f)) :
    Calls Try.prog 21 #[.slice a n cap] W fun e W' => RankAns f n W e W' := by
  cases hg : tasksB f n
  · have HV : Hid (rkZ f n = []) := by show _ = _; unfold rkZ; rw [hg]; rfl
    go_enter Try.func21, Try.ntmps21
    go_wp2_with fail
    refine (impl_tasks _ _ _ f _ hn hlen h).mono ?_
    rw [hg]
    rintro e w1 ⟨rfl, hB⟩
    have HB : Hid (Below W.heap.size W w1) := hB
    clear hB
    go_wp2
    go_ret2
    exact ⟨none, 0, by rw [HV.out, hg]; rfl, by rw [HV.out]; exact Or.inl rfl, HB.out⟩
  have HV : Hid (rkZ f n = ranksL f n) := by show _ = _; unfold rkZ; rw [hg]; rfl
  obtain ⟨hn12, hgd⟩ := tasks_out hg
  have HG : Hid (∀ k, k < n → taskB (f k) k = true) := hgd
  clear hgd
  go_enter Try.func21, Try.ntmps21
  go_wp2_with fail
  refine (impl_tasks _ _ _ f _ hn hlen h).mono ?_
  rw [hg]
  rintro e w1 ⟨rfl, hB⟩
  have HB1 : Hid (Below W.heap.size W w1) := hB
  clear hB
  go_wp2_with fail
  refine (impl_ranks _ _ _ f _ hn12 HG hlen (h.out.kept HB1.out)).mono ?_
  rintro e w2 ⟨rfl, hR, hB⟩
  have HB2 : Hid (Below W.heap.size W w2) := HB1.out.trans (hB.mono HB1.out.size)
  have HR : Hid (w2.rowIs w1.heap.size 3 n (fun i => .int .i64 (rankV f n i))) := hR
  clear hB hR
  go_wp2
  go_ret2
  refine ⟨some ⟨w1.heap.size, 0, none⟩, n, by rw [HV.out, ranksL_len, hg]; rfl, ?_, HB2.out⟩
  rw [HV.out]
  exact mine_row (HR.out.congr (fun i hi => by rw [ranksL_at hi])) (ranksL_len f n) HB1.out.size
set_option maxHeartbeats 2000000 in
theorem spec_chain (a : Option Addr) (n cap : Nat) (f : Nat → Pv) (W : World) (hn : n ≤ 12) (hg : Hid (∀ k, k < n → taskB (f k) k = true)) (hlen : Hid (∀ k, k < n → (f k).zs.length ≤ 1048576)) (h : Hid (Pats W a n f)) :
    Calls Try.prog 41 #[.slice a n cap] W fun e W' => e = .returned (.int .i64 (maxTo (rankV f n) n)) ∧ Below W.heap.size W W' := by
  have hbd : Hid (∀ i, 0 ≤ rankV f n i ∧ rankV f n i ≤ 240) := rank_bound hg.out hn
  go_enter Try.func41, Try.ntmps41
  go_wp2_with fail
  refine (spec_ranks _ _ _ f _ hn hg hlen h).mono ?_
  rintro e w1 ⟨rfl, hR, hB⟩
  have HB : Hid (Below W.heap.size W w1) := hB
  have HR : Hid (w1.rowIs W.heap.size 3 n (fun i => .int .i64 (rankV f n i))) := hR
  clear hB hR
  go_wp2
  go_loop [3, 9] (fun vv vk => ∃ (k : Nat) (v : Int), k ≤ n ∧ vk = .int .i64 (k : Int) ∧ vv = .int .i64 v ∧ Hid (v = maxTo (rankV f n) k) ∧ 0 ≤ v ∧ v ≤ 240) (fun _ vk => n - (intOf vk).toNat)
  case atStart => exact ⟨0, 0, Nat.zero_le _, rfl, rfl, rfl, by omega, by omega⟩
  case round =>
    obtain ⟨k, v, hk, rfl, rfl, HV, v0, v1⟩ := hrel
    by_cases hlt : k < n
    rotate_left
    · have HE : Hid (v = maxTo (rankV f n) n) := by show _ = _; rw [HV.out, show k = n by omega]
      go_wp2
      go_ret
      exact ⟨by rw [← HE.out]; rfl, HB.out⟩
    have hltI : (k : Int) < (n : Int) := by omega
    have dk := HR.out.cell hlt
    have hbk := hbd.out k
    have HN : Hid (maxTo (rankV f n) (k + 1) = max v (rankV f n k)) := by show _ = _; rw [HV.out]; rfl
    obtain ⟨rk, hrk⟩ : ∃ rk, Hid (rankV f n k = rk) := ⟨_, rfl⟩
    rw [hrk.out] at dk hbk HN
    obtain ⟨hb0, hb1⟩ := hbk
    have hm0 : 0 ≤ max v rk := by omega
    have hm1 : max v rk ≤ 240 := by omega
    rcases Int.lt_trichotomy v rk with hv | hv | hv
    · have HN2 : Hid (maxTo (rankV f n) (k + 1) = rk) := by show _ = _; rw [HN.out]; omega
      have hv1 : v ≤ rk := by omega
      clear HN
      go_wp2
      all_goals
        go_round
        case rel => exact ⟨k + 1, rk, by omega, by go_num, rfl, HN2.out.symm, hb0, hb1⟩
        case measure => simp [intOf]; omega
    · subst hv
      have HN2 : Hid (maxTo (rankV f n) (k + 1) = v) := by show _ = _; rw [HN.out]; omega
      clear HN
      go_wp2
      all_goals
        go_round
        case rel => exact ⟨k + 1, v, by omega, by go_num, rfl, HN2.out.symm, v0, v1⟩
        case measure => simp [intOf]; omega
    · have HN2 : Hid (maxTo (rankV f n) (k + 1) = v) := by show _ = _; rw [HN.out]; omega
      have hv1 : rk ≤ v := by omega
      clear HN
      go_wp2
      all_goals
        go_round
        case rel => exact ⟨k + 1, v, by omega, by go_num, rfl, HN2.out.symm, v0, v1⟩
        case measure => simp [intOf]; omega
set_option maxHeartbeats 2000000 in
theorem spec_longest (a : Option Addr) (n cap : Nat) (f : Nat → Pv) (W : World) (hn : n ≤ 1048576) (hlen : Hid (∀ k, k < n → (f k).zs.length ≤ 1048576)) (h : Hid (Pats W a n f)) :
    Calls Try.prog 18 #[.slice a n cap] W fun e W' => e = .returned (.tuple #[.int .i64 (chainV f n), .bool (tasksB f n)]) ∧ Below W.heap.size W W' := by
  cases hg : tasksB f n
  · have HV : Hid (chainV f n = 0) := by show _ = _; unfold chainV; rw [hg]; rfl
    rw [HV.out]
    go_enter Try.func18, Try.ntmps18
    go_wp2_with fail
    refine (spec_tasks _ _ _ f _ hn hlen h).mono ?_
    rw [hg]
    rintro e w1 ⟨rfl, hB⟩
    have HB : Hid (Below W.heap.size W w1) := hB
    clear hB
    go_wp2
    go_ret2
    exact ⟨rfl, HB.out⟩
  have HV : Hid (chainV f n = maxTo (rankV f n) n) := by show _ = _; unfold chainV; rw [hg]; rfl
  rw [HV.out]
  obtain ⟨hn12, hgd⟩ := tasks_out hg
  have HG : Hid (∀ k, k < n → taskB (f k) k = true) := hgd
  clear hgd
  go_enter Try.func18, Try.ntmps18
  go_wp2_with fail
  refine (spec_tasks _ _ _ f _ hn hlen h).mono ?_
  rw [hg]
  rintro e w0 ⟨rfl, hB⟩
  have HB0 : Hid (Below W.heap.size W w0) := hB
  clear hB
  obtain ⟨mx, hmx⟩ : ∃ mx, Hid (maxTo (rankV f n) n = mx) := ⟨_, rfl⟩
  go_wp2_with fail
  refine (spec_chain _ _ _ f _ hn12 HG hlen (h.out.kept HB0.out)).mono ?_
  rw [hmx.out]
  rintro e w2 ⟨rfl, hB⟩
  have HB2 : Hid (Below W.heap.size W w2) := HB0.out.trans (hB.mono HB0.out.size)
  clear hB
  go_wp2
  go_ret2
  exact ⟨by rw [hmx.out]; rfl, HB2.out⟩
set_option maxHeartbeats 2000000 in
theorem impl_longest (a : Option Addr) (n cap : Nat) (f : Nat → Pv) (W : World) (hn : n ≤ 1048576) (hlen : Hid (∀ k, k < n → (f k).zs.length ≤ 1048576)) (h : Hid (Pats W a n f)) :
    Calls Try.prog 19 #[.slice a n cap] W fun e W' => e = .returned (.tuple #[.int .i64 (chainV f n), .bool (tasksB f n)]) ∧ Below W.heap.size W W' := by
  cases hg : tasksB f n
  · have HV : Hid (chainV f n = 0) := by show _ = _; unfold chainV; rw [hg]; rfl
    rw [HV.out]
    go_enter Try.func19, Try.ntmps19
    go_wp2_with fail
    refine (impl_tasks _ _ _ f _ hn hlen h).mono ?_
    rw [hg]
    rintro e w1 ⟨rfl, hB⟩
    have HB : Hid (Below W.heap.size W w1) := hB
    clear hB
    go_wp2
    go_ret2
    exact ⟨rfl, HB.out⟩
  have HV : Hid (chainV f n = maxTo (rankV f n) n) := by show _ = _; unfold chainV; rw [hg]; rfl
  rw [HV.out]
  obtain ⟨hn12, hgd⟩ := tasks_out hg
  have HG : Hid (∀ k, k < n → taskB (f k) k = true) := hgd
  clear hgd
  go_enter Try.func19, Try.ntmps19
  go_wp2_with fail
  refine (impl_tasks _ _ _ f _ hn hlen h).mono ?_
  rw [hg]
  rintro e w0 ⟨rfl, hB⟩
  have HB0 : Hid (Below W.heap.size W w0) := hB
  clear hB
  have hbd : Hid (∀ i, 0 ≤ rankV f n i ∧ rankV f n i ≤ 240) := rank_bound HG.out hn12
  go_wp2_with fail
  refine (impl_ranks _ _ _ f _ hn12 HG hlen (h.out.kept HB0.out)).mono ?_
  rintro e w1 ⟨rfl, hR, hB⟩
  have HB : Hid (Below W.heap.size W w1) := HB0.out.trans (hB.mono HB0.out.size)
  have HR : Hid (w1.rowIs w0.heap.size 3 n (fun i => .int .i64 (rankV f n i))) := hR
  clear hB hR
  go_wp2
  go_loop [4, 13] (fun vv vk => ∃ (k : Nat) (v : Int), k ≤ n ∧ vk = .int .i64 (k : Int) ∧ vv = .int .i64 v ∧ Hid (v = maxTo (rankV f n) k) ∧ 0 ≤ v ∧ v ≤ 240) (fun _ vk => n - (intOf vk).toNat)
  case atStart => exact ⟨0, 0, Nat.zero_le _, rfl, rfl, rfl, by omega, by omega⟩
  case round =>
    obtain ⟨k, v, hk, rfl, rfl, HV, v0, v1⟩ := hrel
    by_cases hlt : k < n
    rotate_left
    · have HE : Hid (v = maxTo (rankV f n) n) := by show _ = _; rw [HV.out, show k = n by omega]
      go_wp2
      go_ret2
      exact ⟨by rw [← HE.out]; rfl, HB.out⟩
    have hltI : (k : Int) < (n : Int) := by omega
    have dk := HR.out.cell hlt
    have hbk := hbd.out k
    have HN : Hid (maxTo (rankV f n) (k + 1) = max v (rankV f n k)) := by show _ = _; rw [HV.out]; rfl
    obtain ⟨rk, hrk⟩ : ∃ rk, Hid (rankV f n k = rk) := ⟨_, rfl⟩
    rw [hrk.out] at dk hbk HN
    obtain ⟨hb0, hb1⟩ := hbk
    have hm0 : 0 ≤ max v rk := by omega
    have hm1 : max v rk ≤ 240 := by omega
    rcases Int.lt_trichotomy v rk with hv | hv | hv
    · have HN2 : Hid (maxTo (rankV f n) (k + 1) = rk) := by show _ = _; rw [HN.out]; omega
      have hv1 : v ≤ rk := by omega
      clear HN
      go_wp2
      all_goals
        go_round
        case rel => exact ⟨k + 1, rk, by omega, by go_num, rfl, HN2.out.symm, hb0, hb1⟩
        case measure => simp [intOf]; omega
    · subst hv
      have HN2 : Hid (maxTo (rankV f n) (k + 1) = v) := by show _ = _; rw [HN.out]; omega
      clear HN
      go_wp2
      all_goals
        go_round
        case rel => exact ⟨k + 1, v, by omega, by go_num, rfl, HN2.out.symm, v0, v1⟩
        case measure => simp [intOf]; omega
    · have HN2 : Hid (maxTo (rankV f n) (k + 1) = v) := by show _ = _; rw [HN.out]; omega
      have hv1 : rk ≤ v := by omega
      clear HN
      go_wp2
      all_goals
        go_round
        case rel => exact ⟨k + 1, v, by omega, by go_num, rfl, HN2.out.symm, v0, v1⟩
        case measure => simp [intOf]; omega
theorem spec_units (u : Int) (W : World) : Calls Try.prog 35 #[.int .i64 u] W fun e W' => e = .returned (.bool (inR u 1 4)) ∧ W' = W := by
  go_enter Try.func35, Try.ntmps35
  go_wp2_with (go_at_call 30; refine (spec_in _ _ _ _).mono ?_; rintro e w' ⟨rfl, hw⟩; rw [hw]; clear hw w')
  go_ret
  exact ⟨rfl, rfl⟩
theorem impl_units (u : Int) (W : World) : Calls Try.prog 37 #[.int .i64 u] W fun e W' => e = .returned (.bool (inR u 1 4)) ∧ W' = W := by
  go_enter Try.func37, Try.ntmps37
  go_wp2_with (go_at_call 32; refine (impl_between _ _ _ _).mono ?_; rintro e w' ⟨rfl, hw⟩; rw [hw]; clear hw w')
  go_ret
  exact ⟨rfl, rfl⟩
theorem units_spec {u : Int} {b : Bool} (h : inR u 1 4 = b) (W : World) : Calls Try.prog 35 #[.int .i64 u] W fun e W' => e = .returned (.bool b) ∧ W' = W := by
  have := spec_units u W
  rw [h] at this
  exact this
theorem units_impl {u : Int} {b : Bool} (h : inR u 1 4 = b) (W : World) : Calls Try.prog 37 #[.int .i64 u] W fun e W' => e = .returned (.bool b) ∧ W' = W := by
  have := impl_units u W
  rw [h] at this
  exact this
end Go.Proofs.Ytbnddgdembmooaa.walks
