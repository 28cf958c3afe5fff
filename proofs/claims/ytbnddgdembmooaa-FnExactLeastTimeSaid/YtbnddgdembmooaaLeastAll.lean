/-
  What LeastTime answers, of the specification and of the program.
-/
import Derived.Test.YtbnddgdembmooaaProg
import Derived.Test.YtbnddgdembmooaaMagMath
import Derived.Test.YtbnddgdembmooaaTaskMath
import Derived.Test.YtbnddgdembmooaaRankMath
import Derived.Test.YtbnddgdembmooaaWorkAll
import Derived.Test.YtbnddgdembmooaaInts
import Derived.Test.YtbnddgdembmooaaPats
import Derived.WalkKit
import Derived.WalkSpells
import Derived.Below
import Derived.Handy
namespace Go.Proofs.Ytbnddgdembmooaa.walks
open Go.RowKit Go.Proofs.Ytbnddgdembmooaa.math Go.Proofs.Ytbnddgdembmooaa.ints
set_option linter.unusedVariables false
set_option maxRecDepth 100000

def leastB (f : Nat → Pv) (n : Nat) (u : Int) : Bool := tasksB f n && inR u 1 4
/-- What LeastTime answers. -/
def LeastAns (f : Nat → Pv) (n : Nat) (u : Int) (W : World) (e : Ending) (W' : World) : Prop := e = .returned (.tuple #[.int .i64 (leastV f n u), .bool (leastB f n u)]) ∧ Below W.heap.size W W'
theorem least_no {f : Nat → Pv} {n : Nat} {u : Int} (h : leastB f n u = false) : leastV f n u = 0 := by
  unfold leastV
  unfold leastB at h
  rw [h]; rfl
theorem least_yes {f : Nat → Pv} {n : Nat} {u : Int} (h : leastB f n u = true) : leastV f n u = max (maxTo (rankV f n) n) ((workTo f n + u - 1).tdiv u) := by
  unfold leastV
  unfold leastB at h
  rw [h]; rfl
theorem chain_yes {f : Nat → Pv} {n : Nat} (h : tasksB f n = true) : chainV f n = maxTo (rankV f n) n := by unfold chainV; rw [h]; rfl
theorem work_yes {f : Nat → Pv} {n : Nat} (h : tasksB f n = true) : workV f n = workTo f n := by unfold workV; rw [h]; rfl
set_option maxHeartbeats 4000000 in
theorem spec_least_ans (a : Option Addr) (n cap : Nat) (f : Nat → Pv) (u : Int) (W : World) (hn : n ≤ 1048576) (hlen : Hid (∀ k, k < n → (f k).zs.length ≤ 1048576)) (h : Hid (Pats W a n f)) :
    Calls Try.prog 27 #[.slice a n cap, .int .i64 u] W fun e W' => LeastAns f n u W e W' := by
  cases hg : tasksB f n
  · have HB : Hid (leastB f n u = false) := by show _ = _; unfold leastB; rw [hg]; rfl
    have HV : Hid (leastV f n u = 0) := least_no HB.out
    obtain ⟨v, hv⟩ : ∃ v, Hid (workV f n = v) := ⟨_, rfl⟩
    go_enter Try.func27, Try.ntmps27
    go_wp2_with fail
    refine (spec_work _ _ _ f _ hn hlen h).mono ?_
    rw [hg, hv.out]
    rintro e w1 ⟨rfl, hB⟩
    have HB1 : Hid (Below W.heap.size W w1) := hB
    clear hB
    go_wp2
    go_ret2
    exact ⟨by rw [HV.out, HB.out]; rfl, HB1.out⟩
  cases hu : inR u 1 4
  · have HB : Hid (leastB f n u = false) := by show _ = _; unfold leastB; rw [hg, hu]; rfl
    have HV : Hid (leastV f n u = 0) := least_no HB.out
    obtain ⟨v, hv⟩ : ∃ v, Hid (workV f n = v) := ⟨_, rfl⟩
    go_enter Try.func27, Try.ntmps27
    go_wp2_with fail
    refine (spec_work _ _ _ f _ hn hlen h).mono ?_
    rw [hg, hv.out]
    rintro e w1 ⟨rfl, hB⟩
    have HB1 : Hid (Below W.heap.size W w1) := hB
    clear hB
    go_wp2_with (go_at_call 35; refine (units_spec hu _).mono ?_; rintro e w' ⟨rfl, hw⟩; rw [hw]; clear hw w')
    go_ret2
    exact ⟨by rw [HV.out, HB.out]; rfl, HB1.out⟩
  have HB : Hid (leastB f n u = true) := by show _ = _; unfold leastB; rw [hg, hu]; rfl
  have HV : Hid (leastV f n u = max (maxTo (rankV f n) n) ((workTo f n + u - 1).tdiv u)) := least_yes HB.out
  obtain ⟨hn12, hgd⟩ := tasks_out hg
  have HG : Hid (∀ k, k < n → taskB (f k) k = true) := hgd
  have hw := work_le hgd n (Nat.le_refl _)
  have HW : Hid (workV f n = workTo f n) := work_yes hg
  clear hgd
  obtain ⟨wk, hwk⟩ : ∃ wk, Hid (workTo f n = wk) := ⟨_, rfl⟩
  obtain ⟨ch, hch⟩ : ∃ ch, Hid (maxTo (rankV f n) n = ch) := ⟨_, rfl⟩
  rw [hwk.out] at hw HW HV
  rw [hch.out] at HV
  obtain ⟨w0, w1⟩ := hw
  obtain ⟨u0, u1⟩ := inR_out hu
  have une : ¬ u = 0 := by omega
  have hnI : (n : Int) ≤ 12 := by omega
  obtain ⟨d, hd⟩ : ∃ d, Hid ((wk + u - 1).tdiv u = d) := ⟨_, rfl⟩
  rw [hd.out] at HV
  have hdv := hd.out
  have d0 : 0 ≤ d := by rw [← hd.out]; exact Int.tdiv_nonneg (by omega) (by omega)
  have d1 : d ≤ 1000 := by
    rw [← hd.out]
    have := Int.tdiv_le_self u (show 0 ≤ wk + u - 1 by omega)
    omega
  by_cases hc : d < ch
  · have HE : Hid (leastV f n u = ch) := by show _ = _; rw [HV.out]; omega
    clear HV
    go_enter Try.func27, Try.ntmps27
    go_wp2_with fail
    refine (spec_work _ _ _ f _ hn hlen h).mono ?_
    rw [hg, HW.out]
    rintro e w1 ⟨rfl, hB⟩
    have HB1 : Hid (Below W.heap.size W w1) := hB
    clear hB
    go_wp2_with (first | (go_at_call 35; refine (units_spec hu _).mono ?_; rintro e w' ⟨rfl, hw⟩; rw [hw]; clear hw w') | fail)
    refine (spec_chain _ _ _ f _ hn12 HG hlen (h.out.kept HB1.out)).mono ?_
    rw [hch.out]
    rintro e w2 ⟨rfl, hB⟩
    have HB2 : Hid (Below W.heap.size W w2) := HB1.out.trans (hB.mono HB1.out.size)
    clear hB
    go_wp2
    go_ret2
    exact ⟨by rw [HE.out, HB.out]; rfl, HB2.out⟩
  · have hc' : ch ≤ d := by omega
    have HE : Hid (leastV f n u = d) := by show _ = _; rw [HV.out]; omega
    clear HV hc
    go_enter Try.func27, Try.ntmps27
    go_wp2_with fail
    refine (spec_work _ _ _ f _ hn hlen h).mono ?_
    rw [hg, HW.out]
    rintro e w1 ⟨rfl, hB⟩
    have HB1 : Hid (Below W.heap.size W w1) := hB
    clear hB
    go_wp2_with (first | (go_at_call 35; refine (units_spec hu _).mono ?_; rintro e w' ⟨rfl, hw⟩; rw [hw]; clear hw w') | fail)
    refine (spec_chain _ _ _ f _ hn12 HG hlen (h.out.kept HB1.out)).mono ?_
    rw [hch.out]
    rintro e w2 ⟨rfl, hB⟩
    have HB2 : Hid (Below W.heap.size W w2) := HB1.out.trans (hB.mono HB1.out.size)
    clear hB
    go_wp2
    go_ret2
    exact ⟨by rw [HE.out, HB.out]; rfl, HB2.out⟩
set_option maxHeartbeats 4000000 in
theorem impl_least_ans (a : Option Addr) (n cap : Nat) (f : Nat → Pv) (u : Int) (W : World) (hn : n ≤ 1048576) (hlen : Hid (∀ k, k < n → (f k).zs.length ≤ 1048576)) (h : Hid (Pats W a n f)) :
    Calls Try.prog 28 #[.slice a n cap, .int .i64 u] W fun e W' => LeastAns f n u W e W' := by
  obtain ⟨v, hv⟩ : ∃ v, Hid (workV f n = v) := ⟨_, rfl⟩
  obtain ⟨c, hc0⟩ : ∃ c, Hid (chainV f n = c) := ⟨_, rfl⟩
  cases hg : tasksB f n
  · have HB : Hid (leastB f n u = false) := by show _ = _; unfold leastB; rw [hg]; rfl
    have HV : Hid (leastV f n u = 0) := least_no HB.out
    go_enter Try.func28, Try.ntmps28
    go_wp2_with fail
    refine (impl_longest _ _ _ f _ hn hlen h).mono ?_
    rw [hg, hc0.out]
    rintro e w1 ⟨rfl, hB⟩
    have HB1 : Hid (Below W.heap.size W w1) := hB
    clear hB
    go_wp2_with fail
    refine (impl_work _ _ _ f _ hn hlen (h.out.kept HB1.out)).mono ?_
    rw [hg, hv.out]
    rintro e w2 ⟨rfl, hB⟩
    have HB2 : Hid (Below W.heap.size W w2) := HB1.out.trans (hB.mono HB1.out.size)
    clear hB
    go_wp2
    go_ret2
    exact ⟨by rw [HV.out, HB.out]; rfl, HB2.out⟩
  cases hu : inR u 1 4
  · have HB : Hid (leastB f n u = false) := by show _ = _; unfold leastB; rw [hg, hu]; rfl
    have HV : Hid (leastV f n u = 0) := least_no HB.out
    go_enter Try.func28, Try.ntmps28
    go_wp2_with fail
    refine (impl_longest _ _ _ f _ hn hlen h).mono ?_
    rw [hg, hc0.out]
    rintro e w1 ⟨rfl, hB⟩
    have HB1 : Hid (Below W.heap.size W w1) := hB
    clear hB
    go_wp2_with fail
    refine (impl_work _ _ _ f _ hn hlen (h.out.kept HB1.out)).mono ?_
    rw [hg, hv.out]
    rintro e w2 ⟨rfl, hB⟩
    have HB2 : Hid (Below W.heap.size W w2) := HB1.out.trans (hB.mono HB1.out.size)
    clear hB
    go_wp2_with (go_at_call 37; refine (units_impl hu _).mono ?_; rintro e w' ⟨rfl, hw⟩; rw [hw]; clear hw w')
    go_ret2
    exact ⟨by rw [HV.out, HB.out]; rfl, HB2.out⟩
  have HB : Hid (leastB f n u = true) := by show _ = _; unfold leastB; rw [hg, hu]; rfl
  have HV : Hid (leastV f n u = max (maxTo (rankV f n) n) ((workTo f n + u - 1).tdiv u)) := least_yes HB.out
  obtain ⟨hn12, hgd⟩ := tasks_out hg
  have hw := work_le hgd n (Nat.le_refl _)
  rw [← work_yes hg, hv.out] at hw HV
  rw [← chain_yes hg, hc0.out] at HV
  clear hgd
  obtain ⟨w0, w1⟩ := hw
  obtain ⟨u0, u1⟩ := inR_out hu
  have une : ¬ u = 0 := by omega
  have hnI : (n : Int) ≤ 12 := by omega
  obtain ⟨d, hd⟩ : ∃ d, Hid ((v + u - 1).tdiv u = d) := ⟨_, rfl⟩
  rw [hd.out] at HV
  have hdv := hd.out
  have d0 : 0 ≤ d := by rw [← hd.out]; exact Int.tdiv_nonneg (by omega) (by omega)
  have d1 : d ≤ 1000 := by
    rw [← hd.out]
    have := Int.tdiv_le_self u (show 0 ≤ v + u - 1 by omega)
    omega
  rcases Int.lt_trichotomy d c with hc | hc | hc
  · have HE : Hid (leastV f n u = c) := by show _ = _; rw [HV.out]; omega
    have hc2 : d ≤ c := by omega
    clear HV
    go_enter Try.func28, Try.ntmps28
    go_wp2_with fail
    refine (impl_longest _ _ _ f _ hn hlen h).mono ?_
    rw [hg, hc0.out]
    rintro e w1 ⟨rfl, hB⟩
    have HB1 : Hid (Below W.heap.size W w1) := hB
    clear hB
    go_wp2_with fail
    refine (impl_work _ _ _ f _ hn hlen (h.out.kept HB1.out)).mono ?_
    rw [hg, hv.out]
    rintro e w2 ⟨rfl, hB⟩
    have HB2 : Hid (Below W.heap.size W w2) := HB1.out.trans (hB.mono HB1.out.size)
    clear hB
    go_wp2_with (go_at_call 37; refine (units_impl hu _).mono ?_; rintro e w' ⟨rfl, hw⟩; rw [hw]; clear hw w')
    all_goals
      go_ret2
      exact ⟨by rw [HE.out, HB.out]; rfl, HB2.out⟩
  · subst hc
    have HE : Hid (leastV f n u = d) := by show _ = _; rw [HV.out]; omega
    clear HV
    go_enter Try.func28, Try.ntmps28
    go_wp2_with fail
    refine (impl_longest _ _ _ f _ hn hlen h).mono ?_
    rw [hg, hc0.out]
    rintro e w1 ⟨rfl, hB⟩
    have HB1 : Hid (Below W.heap.size W w1) := hB
    clear hB
    go_wp2_with fail
    refine (impl_work _ _ _ f _ hn hlen (h.out.kept HB1.out)).mono ?_
    rw [hg, hv.out]
    rintro e w2 ⟨rfl, hB⟩
    have HB2 : Hid (Below W.heap.size W w2) := HB1.out.trans (hB.mono HB1.out.size)
    clear hB
    go_wp2_with (go_at_call 37; refine (units_impl hu _).mono ?_; rintro e w' ⟨rfl, hw⟩; rw [hw]; clear hw w')
    all_goals
      go_ret2
      exact ⟨by rw [HE.out, HB.out]; rfl, HB2.out⟩
  · have HE : Hid (leastV f n u = d) := by show _ = _; rw [HV.out]; omega
    have hc2 : c ≤ d := by omega
    clear HV
    go_enter Try.func28, Try.ntmps28
    go_wp2_with fail
    refine (impl_longest _ _ _ f _ hn hlen h).mono ?_
    rw [hg, hc0.out]
    rintro e w1 ⟨rfl, hB⟩
    have HB1 : Hid (Below W.heap.size W w1) := hB
    clear hB
    go_wp2_with fail
    refine (impl_work _ _ _ f _ hn hlen (h.out.kept HB1.out)).mono ?_
    rw [hg, hv.out]
    rintro e w2 ⟨rfl, hB⟩
    have HB2 : Hid (Below W.heap.size W w2) := HB1.out.trans (hB.mono HB1.out.size)
    clear hB
    go_wp2_with (go_at_call 37; refine (units_impl hu _).mono ?_; rintro e w' ⟨rfl, hw⟩; rw [hw]; clear hw w')
    all_goals
      go_ret2
      exact ⟨by rw [HE.out, HB.out]; rfl, HB2.out⟩
theorem spec_least (a : Option Addr) (n cap : Nat) (f : Nat → Pv) (u : Int) (W : World) (hn : n ≤ 1048576) (hlen : Hid (∀ k, k < n → (f k).zs.length ≤ 1048576)) (h : Hid (Pats W a n f)) :
    Calls Try.prog 27 #[.slice a n cap, .int .i64 u] W fun e W' => e = .returned (.tuple #[.int .i64 (leastV f n u), .bool (leastB f n u)]) ∧ Below W.heap.size W W' := spec_least_ans a n cap f u W hn hlen h
theorem impl_least (a : Option Addr) (n cap : Nat) (f : Nat → Pv) (u : Int) (W : World) (hn : n ≤ 1048576) (hlen : Hid (∀ k, k < n → (f k).zs.length ≤ 1048576)) (h : Hid (Pats W a n f)) :
    Calls Try.prog 28 #[.slice a n cap, .int .i64 u] W fun e W' => e = .returned (.tuple #[.int .i64 (leastV f n u), .bool (leastB f n u)]) ∧ Below W.heap.size W W' := impl_least_ans a n cap f u W hn hlen h
end Go.Proofs.Ytbnddgdembmooaa.walks
