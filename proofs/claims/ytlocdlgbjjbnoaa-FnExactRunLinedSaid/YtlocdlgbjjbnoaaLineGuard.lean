/-
  Which guard both sides tell for a step and a code.
-/
import Derived.Test.YtlocdlgbjjbnoaaProg
import Derived.Test.YtlocdlgbjjbnoaaMagMath
import Derived.Test.YtlocdlgbjjbnoaaInts
import Derived.Test.YtlocdlgbjjbnoaaDeep
import Derived.Test.YtlocdlgbjjbnoaaDeepRow
import Derived.Test.YtlocdlgbjjbnoaaLineMath
import Derived.Test.YtlocdlgbjjbnoaaLineStep
import Derived.Test.YtlocdlgbjjbnoaaLineGd
import Derived.Test.YtlocdlgbjjbnoaaLineGood
import Derived.Deep.DeepFit
import Derived.Deep.DeepCutAuto
import Derived.WalkKit
import Derived.WalkSpells
import Derived.Below
import Derived.Handy
namespace Go.Proofs.Ytlocdlgbjjbnoaa.walks
open Go.RowKit Go.Proofs.Ytlocdlgbjjbnoaa.math Go.Proofs.Ytlocdlgbjjbnoaa.ints Go.Proofs.Ytlocdlgbjjbnoaa.deep
set_option linter.unusedVariables false
set_option maxRecDepth 100000

set_option maxHeartbeats 4000000 in
theorem spec_firstg (a : Option Addr) (n cap : Nat) (ga : Option Addr) (g gc : Nat) (gs : List Int) (at' code : Int) (W : World) (hn : n ≤ 1048576) (hgz : Hid (gs.length = g * 4)) (hg : g ≤ 1048576) (hgs : Hid (Ints W ga gs)) (R : Int) (HP : Hid (firstG (zf gs) g at' code = R)) :
    Calls Try.prog 43 #[.agg #[.slice a n cap, .slice ga g gc], .int .i64 at', .int .i64 code] W fun e W' => e = .returned (.int .i64 R) ∧ Below W.heap.size W W' := by
  go_enter Try.func43, Try.ntmps43
  go_wp2
  go_loopw [12] (fun vi wr => ∃ k : Nat, k ≤ g ∧ vi = .int .i64 k ∧ Hid (∀ j, j < k → takesAt (zf gs) at' code j = false) ∧ Hid (wr.rowIs W.heap.size 37 2 (rowF [.slice a n cap, .slice ga g gc])) ∧ Hid (Below W.heap.size W wr)) (fun vi _ => g - (intOf vi).toNat)
  case atStart => exact ⟨0, Nat.zero_le _, rfl, fun j hj => by omega, row_of W #[.slice a n cap, .slice ga g gc] _, by show Below _ _ _; go_grown⟩
  case round =>
    obtain ⟨k, hk, rfl, HG, HR, HB⟩ := hrel
    obtain ⟨r0, r1, rl0⟩ := cellsL HR
    by_cases hlt : k < g
    rotate_left
    · have HE : Hid (R = -1) := by show _ = _; rw [← HP.out]; exact firstP_no (fun j hj => HG.out j (by omega))
      go_wp2
      go_ret
      exact ⟨by rw [HE.out]; rfl, HB.out⟩
    have hltI : (k : Int) < (g : Int) := by omega
    obtain ⟨b, o, ha, hb, c0, c1, c2, c3⟩ := lguard_at hgs.out hgz.out HB.out hlt
    subst ha
    have hbw : b < wr.heap.size := by have := HB.out.size; omega
    have HYES : Hid (takesB (gfr (zf gs) k) (gto (zf gs) k) (gkd (zf gs) k) at' code = true → R = (k : Int)) := fun q => by rw [← HP.out]; exact firstP_at q HG.out hlt
    have HNX : Hid (takesB (gfr (zf gs) k) (gto (zf gs) k) (gkd (zf gs) k) at' code = false → ∀ j, j < k + 1 → takesAt (zf gs) at' code j = false) := fun q j hj => by
      by_cases e : j = k
      · subst e; exact q
      · exact HG.out j (by omega)
    generalize gfr (zf gs) k = f at c0 HYES HNX
    generalize gto (zf gs) k = t at c1 HYES HNX
    generalize gkd (zf gs) k = k' at c2 HYES HNX
    generalize gat (zf gs) k = x at c3
    obtain ⟨X, hX⟩ : ∃ X, Hid (wr.alloc (.cells #[.int .i64 f, .int .i64 t, .int .i64 k', .int .i64 x] 93) = X) := ⟨_, rfl⟩
    have HX : Hid (Below wr.heap.size wr X) := by show Below _ _ _; rw [← hX.out]; go_grown
    have HXB : Hid (Below W.heap.size W X) := HB.out.trans (HX.out.mono HB.out.size)
    have HRX : Hid (X.rowIs W.heap.size 37 2 (rowF [.slice a n cap, .slice (some ⟨b, o, none⟩) g gc])) := HR.out.of_block (HX.out.block _ rl0)
    clear HG
    by_cases h1 : f ≤ at'
    rotate_left
    · have d1 : decide (f ≤ at') = false := decide_eq_false h1
      have d1' : decide (at' ≥ f) = false := decide_eq_false h1
      have HN := HNX.out (by unfold takesB; simp [d1])
      clear HYES HNX
      go_wp2_with fail
      rw [hX.out]
      go_roundw
      case rel => exact ⟨k + 1, by omega, by go_num, HN, HRX, HXB⟩
      case measure => simp [intOf]; omega
    have d1 : decide (f ≤ at') = true := decide_eq_true h1
    have d1' : decide (at' ≥ f) = true := decide_eq_true h1
    by_cases h2 : at' < t
    rotate_left
    · have d2 : decide (at' < t) = false := decide_eq_false h2
      have HN := HNX.out (by unfold takesB; simp [d2])
      clear HYES HNX
      go_wp2_with fail
      rw [hX.out]
      go_roundw
      case rel => exact ⟨k + 1, by omega, by go_num, HN, HRX, HXB⟩
      case measure => simp [intOf]; omega
    have d2 : decide (at' < t) = true := decide_eq_true h2
    by_cases h3 : k' = 0
    · subst h3
      have HE : Hid (R = (k : Int)) := HYES.out (by unfold takesB; simp [h1, h2])
      clear HYES HNX
      have hk0 : (if (k : Int) < 0 then (0 : Int) else (k : Int)) = (k : Int) := if_neg (by omega)
      have hk1 : decide (0 ≤ (k : Int)) = true := decide_eq_true (by omega)
      go_wp2_with fail
      go_ret
      exact ⟨by rw [HE.out]; rfl, by rw [hX.out]; exact HXB.out⟩
    have d3 : (k' == 0) = false := by simpa using h3
    have d3' : decide (k' = 0) = false := decide_eq_false h3
    by_cases h4 : k' = code
    · subst h4
      have HE : Hid (R = (k : Int)) := HYES.out (by unfold takesB; simp [h1, h2])
      clear HYES HNX
      have hk0 : (if (k : Int) < 0 then (0 : Int) else (k : Int)) = (k : Int) := if_neg (by omega)
      have hk1 : decide (0 ≤ (k : Int)) = true := decide_eq_true (by omega)
      go_wp2_with fail
      go_ret
      exact ⟨by rw [HE.out]; rfl, by rw [hX.out]; exact HXB.out⟩
    have d4 : (k' == code) = false := by simpa using h4
    have d4' : decide (k' = code) = false := decide_eq_false h4
    have HN := HNX.out (by unfold takesB; simp [h3, h4])
    clear HYES HNX
    go_wp2_with fail
    rw [hX.out]
    go_roundw
    case rel => exact ⟨k + 1, by omega, by go_num, HN, HRX, HXB⟩
    case measure => simp [intOf]; omega
set_option maxHeartbeats 4000000 in
theorem impl_firstg (a : Option Addr) (n cap : Nat) (ga : Option Addr) (g gc : Nat) (gs : List Int) (at' code : Int) (W : World) (hn : n ≤ 1048576) (hgz : Hid (gs.length = g * 4)) (hg : g ≤ 1048576) (hgs : Hid (Ints W ga gs)) (R : Int) (HP : Hid (firstG (zf gs) g at' code = R)) (V : Int) (B : Bool) (HV : Hid ((if R < 0 then 0 else R) = V)) (HB0 : Hid (decide (0 ≤ R) = B)) :
    Calls Try.prog 84 #[.agg #[.slice a n cap, .slice ga g gc], .int .i64 at', .int .i64 code] W fun e W' => e = .returned (.tuple #[.int .i64 V, .bool B]) ∧ Below W.heap.size W W' := by
  go_enter Try.func84, Try.ntmps84
  go_wp2
  go_loopw [13] (fun vi wr => ∃ k : Nat, k ≤ g ∧ vi = .int .i64 k ∧ Hid (∀ j, j < k → takesAt (zf gs) at' code j = false) ∧ Hid (wr.rowIs W.heap.size 37 2 (rowF [.slice a n cap, .slice ga g gc])) ∧ Hid (Below W.heap.size W wr)) (fun vi _ => g - (intOf vi).toNat)
  case atStart => exact ⟨0, Nat.zero_le _, rfl, fun j hj => by omega, row_of W #[.slice a n cap, .slice ga g gc] _, by show Below _ _ _; go_grown⟩
  case round =>
    obtain ⟨k, hk, rfl, HG, HR, HB⟩ := hrel
    obtain ⟨r0, r1, rl0⟩ := cellsL HR
    by_cases hlt : k < g
    rotate_left
    · have HE : Hid (R = -1) := by show _ = _; rw [← HP.out]; exact firstP_no (fun j hj => HG.out j (by omega))
      go_wp2
      go_ret2
      exact ⟨by rw [← HV.out, ← HB0.out, HE.out]; rfl, HB.out⟩
    have hltI : (k : Int) < (g : Int) := by omega
    obtain ⟨b, o, ha, hb, c0, c1, c2, c3⟩ := lguard_at hgs.out hgz.out HB.out hlt
    subst ha
    have hbw : b < wr.heap.size := by have := HB.out.size; omega
    have HYES : Hid (takesB (gfr (zf gs) k) (gto (zf gs) k) (gkd (zf gs) k) at' code = true → R = (k : Int)) := fun q => by rw [← HP.out]; exact firstP_at q HG.out hlt
    have HNX : Hid (takesB (gfr (zf gs) k) (gto (zf gs) k) (gkd (zf gs) k) at' code = false → ∀ j, j < k + 1 → takesAt (zf gs) at' code j = false) := fun q j hj => by
      by_cases e : j = k
      · subst e; exact q
      · exact HG.out j (by omega)
    generalize gfr (zf gs) k = f at c0 HYES HNX
    generalize gto (zf gs) k = t at c1 HYES HNX
    generalize gkd (zf gs) k = k' at c2 HYES HNX
    generalize gat (zf gs) k = x at c3
    obtain ⟨X, hX⟩ : ∃ X, Hid (wr.alloc (.cells #[.int .i64 f, .int .i64 t, .int .i64 k', .int .i64 x] 93) = X) := ⟨_, rfl⟩
    have HX : Hid (Below wr.heap.size wr X) := by show Below _ _ _; rw [← hX.out]; go_grown
    have HXB : Hid (Below W.heap.size W X) := HB.out.trans (HX.out.mono HB.out.size)
    have HRX : Hid (X.rowIs W.heap.size 37 2 (rowF [.slice a n cap, .slice (some ⟨b, o, none⟩) g gc])) := HR.out.of_block (HX.out.block _ rl0)
    clear HG
    by_cases h1 : f ≤ at'
    rotate_left
    · have d1 : decide (f ≤ at') = false := decide_eq_false h1
      have d1' : decide (at' ≥ f) = false := decide_eq_false h1
      have HN := HNX.out (by unfold takesB; simp [d1])
      clear HYES HNX
      go_wp2_with (go_at_call 83; go_fit (impl_catch16 hcat _); rintro e w' ⟨rfl, hw⟩; rw [hw]; clear hw w')
      rw [hX.out]
      go_roundw
      case rel => exact ⟨k + 1, by omega, by go_num, HN, HRX, HXB⟩
      case measure => simp [intOf]; omega
    have d1 : decide (f ≤ at') = true := decide_eq_true h1
    have d1' : decide (at' ≥ f) = true := decide_eq_true h1
    by_cases h2 : at' < t
    rotate_left
    · have d2 : decide (at' < t) = false := decide_eq_false h2
      have HN := HNX.out (by unfold takesB; simp [d2])
      clear HYES HNX
      go_wp2_with (go_at_call 83; go_fit (impl_catch16 hcat _); rintro e w' ⟨rfl, hw⟩; rw [hw]; clear hw w')
      rw [hX.out]
      go_roundw
      case rel => exact ⟨k + 1, by omega, by go_num, HN, HRX, HXB⟩
      case measure => simp [intOf]; omega
    have d2 : decide (at' < t) = true := decide_eq_true h2
    by_cases h3 : k' = 0
    · subst h3
      have hcat : (decide ((0 : Int) = 0) || decide ((0 : Int) = code)) = true := by simp
      have HE : Hid (R = (k : Int)) := HYES.out (by unfold takesB; simp [h1, h2])
      clear HYES HNX
      have hk0 : (if (k : Int) < 0 then (0 : Int) else (k : Int)) = (k : Int) := if_neg (by omega)
      have hk1 : decide (0 ≤ (k : Int)) = true := decide_eq_true (by omega)
      go_wp2_with (go_at_call 83; go_fit (impl_catch16 hcat _); rintro e w' ⟨rfl, hw⟩; rw [hw]; clear hw w')
      go_ret2
      exact ⟨by rw [← HV.out, ← HB0.out, HE.out, hk0, hk1]; rfl, by rw [hX.out]; exact HXB.out⟩
    have d3 : (k' == 0) = false := by simpa using h3
    have d3' : decide (k' = 0) = false := decide_eq_false h3
    by_cases h4 : k' = code
    · subst h4
      have hcat : (decide (k' = 0) || decide (k' = k')) = true := by simp
      have HE : Hid (R = (k : Int)) := HYES.out (by unfold takesB; simp [h1, h2])
      clear HYES HNX
      have hk0 : (if (k : Int) < 0 then (0 : Int) else (k : Int)) = (k : Int) := if_neg (by omega)
      have hk1 : decide (0 ≤ (k : Int)) = true := decide_eq_true (by omega)
      go_wp2_with (go_at_call 83; go_fit (impl_catch16 hcat _); rintro e w' ⟨rfl, hw⟩; rw [hw]; clear hw w')
      go_ret2
      exact ⟨by rw [← HV.out, ← HB0.out, HE.out, hk0, hk1]; rfl, by rw [hX.out]; exact HXB.out⟩
    have d4 : (k' == code) = false := by simpa using h4
    have d4' : decide (k' = code) = false := decide_eq_false h4
    have hcat : (decide (k' = 0) || decide (k' = code)) = false := by rw [d3', d4']; rfl
    have HN := HNX.out (by unfold takesB; simp [h3, h4])
    clear HYES HNX
    go_wp2_with (go_at_call 83; go_fit (impl_catch16 hcat _); rintro e w' ⟨rfl, hw⟩; rw [hw]; clear hw w')
    rw [hX.out]
    go_roundw
    case rel => exact ⟨k + 1, by omega, by go_num, HN, HRX, HXB⟩
    case measure => simp [intOf]; omega
theorem ga_no {zs : Nat → Int} {n : Nat} {gs : Nat → Int} {g : Nat} {at' code : Int} (h : okGA zs n gs g at' code = false) : gaB zs n gs g at' code = false ∧ gaV zs n gs g at' code = 0 := by
  have e : gaB zs n gs g at' code = false := by unfold gaB; rw [h]; rfl
  exact ⟨e, by unfold gaV; rw [e]; rfl⟩
theorem ga_yes {zs : Nat → Int} {n : Nat} {gs : Nat → Int} {g : Nat} {at' code : Int} (h : okGA zs n gs g at' code = true) : gaB zs n gs g at' code = decide (0 ≤ firstG gs g at' code) ∧ gaV zs n gs g at' code = (if firstG gs g at' code < 0 then 0 else firstG gs g at' code) := by
  have e : gaB zs n gs g at' code = decide (0 ≤ firstG gs g at' code) := by unfold gaB; rw [h, Bool.true_and]
  refine ⟨e, ?_⟩
  unfold gaV; rw [e]
  by_cases q : 0 ≤ firstG gs g at' code
  · rw [if_pos (decide_eq_true q), if_neg (by omega)]
  · rw [if_neg (by simpa using q), if_pos (by omega)]
end Go.Proofs.Ytlocdlgbjjbnoaa.walks
