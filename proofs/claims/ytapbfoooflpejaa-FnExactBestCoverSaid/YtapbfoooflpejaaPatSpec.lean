/-
  What the specification's l9Pattern and GoodPatterns answer.
-/
import Derived.Test.YtapbfoooflpejaaProg
import Derived.Test.YtapbfoooflpejaaMagMath
import Derived.Test.YtapbfoooflpejaaTreeMath
import Derived.Test.YtapbfoooflpejaaTreeBase
import Derived.Test.YtapbfoooflpejaaTreeSpec
import Derived.Test.YtapbfoooflpejaaInts
import Derived.Test.YtapbfoooflpejaaPats
import Derived.WalkKit
import Derived.WalkSpells
import Derived.Below
import Derived.Handy
import Derived.Deep.QuietTactic
import Derived.BigQuiet
namespace Go.Proofs.Ytapbfoooflpejaa.walks
open Go.RowKit Go.Proofs.Ytapbfoooflpejaa.math Go.Proofs.Ytapbfoooflpejaa.ints
set_option linter.unusedVariables false
set_option maxRecDepth 100000

theorem belowN {B : Nat} {W w : World} (h : Below B W w) : ∀ q, Below B W (w.drewN q)
  | 0 => h
  | q + 1 => (belowN h q).drew
theorem in_quiet {n lo hi : Int} {b : Bool} (h : inR n lo hi = b) (W : World) : Calls Try.prog 33 #[.int .i64 n, .int .i64 lo, .int .i64 hi] W fun e W' => e = .returned (.bool b) ∧ W' = W := by
  have := spec_in n lo hi W
  rw [h] at this
  exact this
theorem pat_false_len {zs : List Int} {c : Int} (h : zs.length = 0 ∨ 10 < zs.length) : patB zs c = false := by
  unfold patB
  rcases h with h | h
  · have : wholeB true zs = false := by unfold wholeB; rw [decide_eq_false (show ¬ 0 < zs.length by omega)]; rfl
    rw [this]; simp
  · rw [decide_eq_false (show ¬ zs.length ≤ 10 by omega)]; rfl
theorem pat_false_any {zs : List Int} {c : Int} (h : zs.getD 0 0 = 0) : patB zs c = false := by unfold patB; rw [decide_eq_true h]; simp
theorem pat_false_whole {zs : List Int} {c : Int} (h : wholeB true zs = false) : patB zs c = false := by unfold patB; rw [h]; simp
theorem pat_false_cost {zs : List Int} {c : Int} (h : inR c 1 100 = false) : patB zs c = false := by
  unfold patB
  have : (decide (1 ≤ c) && decide (c ≤ 100)) = false := by
    unfold inR at h
    have := of_decide_eq_false h
    by_cases q : 1 ≤ c
    · rw [decide_eq_false (show ¬ c ≤ 100 by omega)]; simp
    · rw [decide_eq_false q]; rfl
  rw [this]; simp
theorem pat_true {zs : List Int} {c : Int} (h1 : zs.length ≤ 10) (h2 : zs.getD 0 0 ≠ 0) (h3 : wholeB true zs = true) (h4 : inR c 1 100 = true) : patB zs c = true := by
  unfold patB
  have := inR_out h4
  rw [decide_eq_true h1, decide_eq_false h2, h3, decide_eq_true this.1, decide_eq_true this.2]; rfl
theorem pat_out {zs : List Int} {c : Int} (h : patB zs c = true) : zs.length ≤ 10 ∧ zs.getD 0 0 ≠ 0 ∧ wholeB true zs = true ∧ 1 ≤ c ∧ c ≤ 100 := by
  unfold patB at h
  simp only [Bool.and_eq_true, decide_eq_true_eq, Bool.not_eq_true', decide_eq_false_iff_not] at h
  exact ⟨h.1.1.1, h.2, h.1.2, h.1.1.2⟩
set_option maxHeartbeats 2000000 in
theorem spec_pat (ca : Option Addr) (len cc : Nat) (t : Int) (zs : List Int) (W : World) (hz : Hid (zs.length = len)) (hlen : len ≤ 1048576) (h : Hid (Ints W ca zs)) :
    Calls Try.prog 35 #[.agg #[.slice ca len cc, .int .i64 t]] W fun e W' => e = .returned (.bool (patB zs t)) ∧ Below W.heap.size W W' := by
  by_cases h1 : len = 0 ∨ 10 < len
  · have HE : Hid (patB zs t = false) := pat_false_len (by rw [hz.out]; exact h1)
    have e : inR (len : Int) 1 10 = false := by
      rcases h1 with e | e
      · exact inR_lt (by omega)
      · exact inR_gt (by omega)
    go_enter Try.func35, Try.ntmps35
    go_wp2_with fail
    go_quiet (first | (go_at_call 33; with_reducible exact Calls.quiet_of_same (in_quiet e _)))
    all_goals
      go_wp2
      go_ret
      exact ⟨by rw [HE.out]; rfl, belowN (by repeat (first | exact Below.refl _ _ | refine Below.drew ?_ | refine Below.setCell ?_ (by simp; try omega) _ | refine Below.alloc ?_ (by simp; try omega) _)) _⟩
  have hl0 : 0 < len := by omega
  have hl0I : 0 < (len : Int) := by omega
  have hl10 : len ≤ 10 := by omega
  have e : inR (len : Int) 1 10 = true := inR_mk (by omega) (by omega)
  clear h1
  obtain ⟨b, off, ha, hb, hc⟩ : ∃ b off, ca = some ⟨b, off, none⟩ ∧ b < W.heap.size ∧ W.cell? ⟨b, off, none⟩ = some (.int .i64 (zs.getD 0 0)) := by
    rcases h.out with h | ⟨b, off, rfl, hb, hc⟩
    · have := hz.out; rw [h] at this; simp at this; omega
    · exact ⟨b, off, rfl, hb, by simpa using hc 0 (by have := hz.out; omega)⟩
  subst ha
  obtain ⟨k, hk⟩ : ∃ k, Hid (zs.getD 0 0 = k) := ⟨_, rfl⟩
  rw [hk.out] at hc
  by_cases k0 : k = 0
  · have HE : Hid (patB zs t = false) := pat_false_any (by rw [hk.out]; exact k0)
    subst k0
    go_enter Try.func35, Try.ntmps35
    go_wp2_with fail
    go_quiet (first | (go_at_call 33; with_reducible exact Calls.quiet_of_same (in_quiet e _)))
    all_goals
      go_wp2
      go_ret
      exact ⟨by rw [HE.out]; rfl, belowN (by repeat (first | exact Below.refl _ _ | refine Below.drew ?_ | refine Below.setCell ?_ (by simp; try omega) _ | refine Below.alloc ?_ (by simp; try omega) _)) _⟩
  have d0 : (k == 0) = false := by simpa using k0
  have d0' : decide (k = 0) = false := decide_eq_false k0
  have d0n : (k != 0) = true := by simpa using k0
  obtain ⟨x, hx⟩ : ∃ x, Hid (endT true zs 0 = x) := ⟨_, rfl⟩
  have HW : Hid (wholeB true zs = decide (x = len)) := by
    show _ = _
    have := hz.out
    rw [← end_whole (by omega), hx.out, this]
  have HB1 : Hid (Ints (W.alloc (.cells #[.slice (some ⟨b, off, none⟩) len cc, .int .i64 t] 50)) (some ⟨b, off, none⟩) zs) := h.out.kept (by repeat (first | exact Below.refl _ _ | refine Below.drew ?_ | refine Below.setCell ?_ (by simp; try omega) _ | refine Below.alloc ?_ (by simp; try omega) _))
  have CE : Hid (∀ q, Calls Try.prog 34 #[.slice (some ⟨b, off, none⟩) len cc, .int .i64 0, .bool true] ((W.alloc (.cells #[.slice (some ⟨b, off, none⟩) len cc, .int .i64 t] 50)).drewN q) fun e w' => e = .returned (.int .i64 (x : Int)) ∧ w' = (W.alloc (.cells #[.slice (some ⟨b, off, none⟩) len cc, .int .i64 t] 50)).drewN q) := fun q => by
    have := spec_end (some ⟨b, off, none⟩) len cc 0 true zs ((W.alloc (.cells #[.slice (some ⟨b, off, none⟩) len cc, .int .i64 t] 50)).drewN q) hz hlen (by omega) (HB1.out.kept (belowN (Below.refl _ _) q))
    rw [hx.out] at this
    exact this
  by_cases hq : x = len
  rotate_left
  · have HE : Hid (patB zs t = false) := pat_false_whole (by rw [HW.out]; exact decide_eq_false hq)
    have d2 : ((x : Int) == (len : Int)) = false := by simp; omega
    have d3 : decide ((x : Int) = (len : Int)) = false := decide_eq_false (by omega)
    go_enter Try.func35, Try.ntmps35
    go_wp2_with fail
    go_quiet (first | (go_at_call 33; with_reducible exact Calls.quiet_of_same (in_quiet e _)) | (go_at_call 34; refine Calls.quiet_of_same (CE.out _)))
    all_goals
      go_wp2
      go_ret
      exact ⟨by rw [HE.out]; rfl, belowN (by repeat (first | exact Below.refl _ _ | refine Below.drew ?_ | refine Below.setCell ?_ (by simp; try omega) _ | refine Below.alloc ?_ (by simp; try omega) _)) _⟩
  subst hq
  cases hcst : inR t 1 100
  · have HE : Hid (patB zs t = false) := pat_false_cost hcst
    go_enter Try.func35, Try.ntmps35
    go_wp2_with fail
    go_quiet (first | (go_at_call 33; with_reducible exact Calls.quiet_of_same (in_quiet e _)) | (go_at_call 33; with_reducible exact Calls.quiet_of_same (in_quiet hcst _)) | (go_at_call 34; refine Calls.quiet_of_same (CE.out _)))
    all_goals
      go_wp2
      go_ret
      exact ⟨by rw [HE.out]; rfl, belowN (by repeat (first | exact Below.refl _ _ | refine Below.drew ?_ | refine Below.setCell ?_ (by simp; try omega) _ | refine Below.alloc ?_ (by simp; try omega) _)) _⟩
  · have HE : Hid (patB zs t = true) := pat_true (by rw [hz.out]; omega) (by rw [hk.out]; exact k0) (by rw [HW.out]; simp) hcst
    go_enter Try.func35, Try.ntmps35
    go_wp2_with fail
    go_quiet (first | (go_at_call 33; with_reducible exact Calls.quiet_of_same (in_quiet e _)) | (go_at_call 33; with_reducible exact Calls.quiet_of_same (in_quiet hcst _)) | (go_at_call 34; refine Calls.quiet_of_same (CE.out _)))
    all_goals
      go_wp2
      go_ret
      exact ⟨by rw [HE.out]; rfl, belowN (by repeat (first | exact Below.refl _ _ | refine Below.drew ?_ | refine Below.setCell ?_ (by simp; try omega) _ | refine Below.alloc ?_ (by simp; try omega) _)) _⟩
/-- All of them are good, and they are not too many. -/
def patsB (f : Nat → Pv) (n : Nat) : Bool := decide (n ≤ 12 ∧ ∀ k, k < n → patB (f k).zs (f k).c = true)
theorem pats_bad {f : Nat → Pv} {n k : Nat} (hk : k < n) (h : patB (f k).zs (f k).c = false) : patsB f n = false := decide_eq_false (fun q => by rw [q.2 k hk] at h; cases h)
set_option maxHeartbeats 2000000 in
theorem spec_pats (a : Option Addr) (n cap : Nat) (f : Nat → Pv) (W : World) (hn : n ≤ 1048576) (hlen : Hid (∀ k, k < n → (f k).zs.length ≤ 1048576)) (h : Hid (Pats W a n f)) :
    Calls Try.prog 21 #[.slice a n cap] W fun e W' => e = .returned (.bool (patsB f n)) ∧ Below W.heap.size W W' := by
  go_enter Try.func21, Try.ntmps21
  go_wp2
  go_loopw [7] (fun vi wr => ∃ k : Nat, k ≤ n ∧ vi = .int .i64 k ∧ Hid (∀ j, j < k → patB (f j).zs (f j).c = true) ∧ Hid (Below W.heap.size W wr)) (fun vi _ => n - (intOf vi).toNat)
  case atStart => exact ⟨0, Nat.zero_le _, rfl, fun j hj => by omega, Below.refl _ _⟩
  case round =>
    obtain ⟨k, hk, rfl, HG, HB⟩ := hrel
    by_cases hlt : k < n
    · obtain ⟨b, off, ca, cc, ha, hb, c0, c1, hI⟩ := pat_at h.out HB.out hlt
      subst ha
      have HI : Hid (Ints wr ca (f k).zs) := hI
      have HL := hlen.out k hlt
      clear hI
      have hbw : b < wr.heap.size := by have := HB.out.size; omega
      cases hp : patB (f k).zs (f k).c
      · have HE : Hid (patsB f n = false) := pats_bad hlt hp
        go_wp2_with fail
        refine (spec_pat _ _ _ _ (f k).zs _ rfl HL (HI.out.kept (by repeat (first | exact Below.refl _ _ | refine Below.drew ?_ | refine Below.setCell ?_ (by simp; try omega) _ | refine Below.alloc ?_ (by simp; try omega) _)))).mono ?_
        rw [hp]
        rintro e w1 ⟨rfl, hB1⟩
        have HB1 : Hid (Below W.heap.size W w1) := bel2P (by first | exact HB.out | exact HB.out.alloc HB.out.size _) hB1
        clear hB1
        go_wp2
        go_ret
        exact ⟨by rw [HE.out]; rfl, HB1.out⟩
      · have HG' : Hid (∀ j, j < k + 1 → patB (f j).zs (f j).c = true) := by
          show ∀ j, _ → _
          intro j hj
          by_cases e : j = k
          · rw [e]; exact hp
          · exact HG.out j (by omega)
        go_wp2_with fail
        refine (spec_pat _ _ _ _ (f k).zs _ rfl HL (HI.out.kept (by repeat (first | exact Below.refl _ _ | refine Below.drew ?_ | refine Below.setCell ?_ (by simp; try omega) _ | refine Below.alloc ?_ (by simp; try omega) _)))).mono ?_
        rw [hp]
        rintro e w1 ⟨rfl, hB1⟩
        have HB1 : Hid (Below W.heap.size W w1) := bel2P (by first | exact HB.out | exact HB.out.alloc HB.out.size _) hB1
        clear hB1
        go_wp2
        go_roundw
        case rel => exact ⟨k + 1, by omega, by go_num, HG', HB1⟩
        case measure => simp [intOf]; omega
    · have HE : Hid (patsB f n = decide (n ≤ 12)) := by
        show _ = _
        have hkn : k = n := by omega
        unfold patsB
        by_cases q : n ≤ 12
        · rw [decide_eq_true q]; exact decide_eq_true ⟨q, fun j hj => HG.out j (by omega)⟩
        · rw [decide_eq_false q]; exact decide_eq_false (fun y => q y.1)
      by_cases q : n ≤ 12
      · have dq : decide ((n : Int) ≤ 12) = true := decide_eq_true (by omega)
        go_wp2
        go_ret
        exact ⟨by rw [HE.out, decide_eq_true q]; rfl, HB.out⟩
      · have dq : decide ((n : Int) ≤ 12) = false := decide_eq_false (by omega)
        have q' : (12 : Int) < (n : Int) := by omega
        have HQ : Hid (decide (n ≤ 12) = false) := decide_eq_false q
        clear q
        go_wp2
        go_ret
        exact ⟨by rw [HE.out, HQ.out]; rfl, HB.out⟩
end Go.Proofs.Ytapbfoooflpejaa.walks
