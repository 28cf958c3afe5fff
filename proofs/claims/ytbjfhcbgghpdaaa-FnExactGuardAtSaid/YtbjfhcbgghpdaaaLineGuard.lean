/-
  Which guard both sides tell for a step and a code.
-/
import Derived.Test.YtbjfhcbgghpdaaaProg
import Derived.Test.YtbjfhcbgghpdaaaMagMath
import Derived.Test.YtbjfhcbgghpdaaaInts
import Derived.Test.YtbjfhcbgghpdaaaDeep
import Derived.Test.YtbjfhcbgghpdaaaDeepRow
import Derived.Test.YtbjfhcbgghpdaaaLineMath
import Derived.Test.YtbjfhcbgghpdaaaLineStep
import Derived.Test.YtbjfhcbgghpdaaaLineGd
import Derived.Test.YtbjfhcbgghpdaaaLineGood
import Derived.Deep.DeepFit
import Derived.Deep.DeepCutAuto
import Derived.WalkKit
import Derived.WalkSpells
import Derived.Below
import Derived.Handy
namespace Go.Proofs.Ytbjfhcbgghpdaaa.walks
open Go.RowKit Go.Proofs.Ytbjfhcbgghpdaaa.math Go.Proofs.Ytbjfhcbgghpdaaa.ints Go.Proofs.Ytbjfhcbgghpdaaa.deep
set_option linter.unusedVariables false
set_option maxRecDepth 100000

set_option maxHeartbeats 4000000 in
theorem spec_firstg (a : Option Addr) (n cap : Nat) (ga : Option Addr) (g gc : Nat) (gs : List Int) (at' code : Int) (W : World) (hn : n ≤ 1048576) (hgz : Hid (gs.length = g * 4)) (hg : g ≤ 1048576) (hgs : Hid (Ints W ga gs)) (R : Int) (HP : Hid (firstG (zf gs) g at' code = R)) :
    Calls Try.prog 39 #[.agg #[.slice a n cap, .slice ga g gc], .int .i64 at', .int .i64 code] W fun e W' => e = .returned (.int .i64 R) ∧ Below W.heap.size W W' := by
  go_enter Try.func39, Try.ntmps39
  go_wp2
  go_loopw [12] (fun vi wr => ∃ k : Nat, k ≤ g ∧ vi = .int .i64 k ∧ Hid (∀ j, j < k → takesAt (zf gs) at' code j = false) ∧ Hid (wr.rowIs W.heap.size 38 2 (rowF [.slice a n cap, .slice ga g gc])) ∧ Hid (Below W.heap.size W wr)) (fun vi _ => g - (intOf vi).toNat)
  case atStart => exact ⟨0, Nat.zero_le _, rfl, fun j hj => by omega, row_of W #[.slice a n cap, .slice ga g gc] _, by show Below _ _ _; go_grown⟩
  case round =>
    obtain ⟨k, hk, rfl, HG, HR, HB⟩ := hrel
    obtain ⟨r0, r1, rl0⟩ := cellsL HR
    by_cases hlt : k < g
    rotate_left
    · have HE : Hid (R = -1) := by show _ = _; rw [← HP.out]; exact firstP_no (fun j hj => HG.out j (by omega))
      go_wp2
      go_ret
      exact ⟨by rw [HE.out]; rfl, HB.out⟩
    have hltI : (k : Int) < (g : Int) := by omega
    obtain ⟨b, o, ha, hb, c0, c1, c2, c3⟩ := lguard_at hgs.out hgz.out HB.out hlt
    subst ha
    have hbw : b < wr.heap.size := by have := HB.out.size; omega
    have HYES : Hid (takesB (gfr (zf gs) k) (gto (zf gs) k) (gkd (zf gs) k) at' code = true → R = (k : Int)) := fun q => by rw [← HP.out]; exact firstP_at q HG.out hlt
    have HNX : Hid (takesB (gfr (zf gs) k) (gto (zf gs) k) (gkd (zf gs) k) at' code = false → ∀ j, j < k + 1 → takesAt (zf gs) at' code j = false) := fun q j hj => by
      by_cases e : j = k
      · subst e; exact q
      · exact HG.out j (by omega)
    generalize gfr (zf gs) k = f at c0 HYES HNX
    generalize gto (zf gs) k = t at c1 HYES HNX
    generalize gkd (zf gs) k = k' at c2 HYES HNX
    generalize gat (zf gs) k = x at c3
    obtain ⟨X, hX⟩ : ∃ X, Hid (wr.alloc (.cells #[.int .i64 f, .int .i64 t, .int .i64 k', .int .i64 x] 72) = X) := ⟨_, rfl⟩
    have HX : Hid (Below wr.heap.size wr X) := by show Below _ _ _; rw [← hX.out]; go_grown
    have HXB : Hid (Below W.heap.size W X) := HB.out.trans (HX.out.mono HB.out.size)
    have HRX : Hid (X.rowIs W.heap.size 38 2 (rowF [.slice a n cap, .slice (some ⟨b, o, none⟩) g gc])) := HR.out.of_block (HX.out.block _ rl0)
    clear HG
    by_cases h1 : f ≤ at'
    rotate_left
    · have d1 : decide (f ≤ at') = false := decide_eq_false h1
      have d1' : decide (at' ≥ f) = false := decide_eq_false h1
      have HN := HNX.out (by unfold takesB; simp [d1])
      clear HYES HNX
      go_wp2_with fail
      rw [hX.out]
      go_roundw
      case rel => exact ⟨k + 1, by omega, by go_num, HN, HRX, HXB⟩
      case measure => simp [intOf]; omega
    have d1 : decide (f ≤ at') = true := decide_eq_true h1
    have d1' : decide (at' ≥ f) = true := decide_eq_true h1
    by_cases h2 : at' < t
    rotate_left
    · have d2 : decide (at' < t) = false := decide_eq_false h2
      have HN := HNX.out (by unfold takesB; simp [d2])
      clear HYES HNX
      go_wp2_with fail
      rw [hX.out]
      go_roundw
      case rel => exact ⟨k + 1, by omega, by go_num, HN, HRX, HXB⟩
      case measure => simp [intOf]; omega
    have d2 : decide (at' < t) = true := decide_eq_true h2
    by_cases h3 : k' = 0
    · subst h3
      have HE : Hid (R = (k : Int)) := HYES.out (by unfold takesB; simp [h1, h2])
      clear HYES HNX
      have hk0 : (if (k : Int) < 0 then (0 : Int) else (k : Int)) = (k : Int) := if_neg (by omega)
      have hk1 : decide (0 ≤ (k : Int)) = true := decide_eq_true (by omega)
      go_wp2_with fail
      go_ret
      exact ⟨by rw [HE.out]; rfl, by rw [hX.out]; exact HXB.out⟩
    have d3 : (k' == 0) = false := by simpa using h3
    have d3' : decide (k' = 0) = false := decide_eq_false h3
    by_cases h4 : k' = code
    · subst h4
      have HE : Hid (R = (k : Int)) := HYES.out (by unfold takesB; simp [h1, h2])
      clear HYES HNX
      have hk0 : (if (k : Int) < 0 then (0 : Int) else (k : Int)) = (k : Int) := if_neg (by omega)
      have hk1 : decide (0 ≤ (k : Int)) = true := decide_eq_true (by omega)
      go_wp2_with fail
      go_ret
      exact ⟨by rw [HE.out]; rfl, by rw [hX.out]; exact HXB.out⟩
    have d4 : (k' == code) = false := by simpa using h4
    have d4' : decide (k' = code) = false := decide_eq_false h4
    have HN := HNX.out (by unfold takesB; simp [h3, h4])
    clear HYES HNX
    go_wp2_with fail
    rw [hX.out]
    go_roundw
    case rel => exact ⟨k + 1, by omega, by go_num, HN, HRX, HXB⟩
    case measure => simp [intOf]; omega
set_option maxHeartbeats 4000000 in
theorem impl_firstg (a : Option Addr) (n cap : Nat) (ga : Option Addr) (g gc : Nat) (gs : List Int) (at' code : Int) (W : World) (hn : n ≤ 1048576) (hgz : Hid (gs.length = g * 4)) (hg : g ≤ 1048576) (hgs : Hid (Ints W ga gs)) (R : Int) (HP : Hid (firstG (zf gs) g at' code = R)) (V : Int) (B : Bool) (HV : Hid ((if R < 0 then 0 else R) = V)) (HB0 : Hid (decide (0 ≤ R) = B)) :
    Calls Try.prog 42 #[.agg #[.slice a n cap, .slice ga g gc], .int .i64 at', .int .i64 code] W fun e W' => e = .returned (.tuple #[.int .i64 V, .bool B]) ∧ Below W.heap.size W W' := by
  go_enter Try.func42, Try.ntmps42
  go_wp2
  go_loopw [13] (fun vi wr => ∃ k : Nat, k ≤ g ∧ vi = .int .i64 k ∧ Hid (∀ j, j < k → takesAt (zf gs) at' code j = false) ∧ Hid (wr.rowIs W.heap.size 38 2 (rowF [.slice a n cap, .slice ga g gc])) ∧ Hid (Below W.heap.size W wr)) (fun vi _ => g - (intOf vi).toNat)
  case atStart => exact ⟨0, Nat.zero_le _, rfl, fun j hj => by omega, row_of W #[.slice a n cap, .slice ga g gc] _, by show Below _ _ _; go_grown⟩
  case round =>
    obtain ⟨k, hk, rfl, HG, HR, HB⟩ := hrel
    obtain ⟨r0, r1, rl0⟩ := cellsL HR
    by_cases hlt : k < g
    rotate_left
    · have HE : Hid (R = -1) := by show _ = _; rw [← HP.out]; exact firstP_no (fun j hj => HG.out j (by omega))
      go_wp2
      go_ret2
      exact ⟨by rw [← HV.out, ← HB0.out, HE.out]; rfl, HB.out⟩
    have hltI : (k : Int) < (g : Int) := by omega
    obtain ⟨b, o, ha, hb, c0, c1, c2, c3⟩ := lguard_at hgs.out hgz.out HB.out hlt
    subst ha
    have hbw : b < wr.heap.size := by have := HB.out.size; omega
    have HYES : Hid (takesB (gfr (zf gs) k) (gto (zf gs) k) (gkd (zf gs) k) at' code = true → R = (k : Int)) := fun q => by rw [← HP.out]; exact firstP_at q HG.out hlt
    have HNX : Hid (takesB (gfr (zf gs) k) (gto (zf gs) k) (gkd (zf gs) k) at' code = false → ∀ j, j < k + 1 → takesAt (zf gs) at' code j = false) := fun q j hj => by
      by_cases e : j = k
      · subst e; exact q
      · exact HG.out j (by omega)
    generalize gfr (zf gs) k = f at c0 HYES HNX
    generalize gto (zf gs) k = t at c1 HYES HNX
    generalize gkd (zf gs) k = k' at c2 HYES HNX
    generalize gat (zf gs) k = x at c3
    obtain ⟨X, hX⟩ : ∃ X, Hid (wr.alloc (.cells #[.int .i64 f, .int .i64 t, .int .i64 k', .int .i64 x] 72) = X) := ⟨_, rfl⟩
    have HX : Hid (Below wr.heap.size wr X) := by show Below _ _ _; rw [← hX.out]; go_grown
    have HXB : Hid (Below W.heap.size W X) := HB.out.trans (HX.out.mono HB.out.size)
    have HRX : Hid (X.rowIs W.heap.size 38 2 (rowF [.slice a n cap, .slice (some ⟨b, o, none⟩) g gc])) := HR.out.of_block (HX.out.block _ rl0)
    clear HG
    by_cases h1 : f ≤ at'
    rotate_left
    · have d1 : decide (f ≤ at') = false := decide_eq_false h1
      have d1' : decide (at' ≥ f) = false := decide_eq_false h1
      have HN := HNX.out (by unfold takesB; simp [d1])
      clear HYES HNX
      go_wp2_with (go_at_call 56; go_fit (impl_catch16 hcat _); rintro e w' ⟨rfl, hw⟩; rw [hw]; clear hw w')
      rw [hX.out]
      go_roundw
      case rel => exact ⟨k + 1, by omega, by go_num, HN, HRX, HXB⟩
      case measure => simp [intOf]; omega
    have d1 : decide (f ≤ at') = true := decide_eq_true h1
    have d1' : decide (at' ≥ f) = true := decide_eq_true h1
    by_cases h2 : at' < t
    rotate_left
    · have d2 : decide (at' < t) = false := decide_eq_false h2
      have HN := HNX.out (by unfold takesB; simp [d2])
      clear HYES HNX
      go_wp2_with (go_at_call 56; go_fit (impl_catch16 hcat _); rintro e w' ⟨rfl, hw⟩; rw [hw]; clear hw w')
      rw [hX.out]
      go_roundw
      case rel => exact ⟨k + 1, by omega, by go_num, HN, HRX, HXB⟩
      case measure => simp [intOf]; omega
    have d2 : decide (at' < t) = true := decide_eq_true h2
    by_cases h3 : k' = 0
    · subst h3
      have hcat : (decide ((0 : Int) = 0) || decide ((0 : Int) = code)) = true := by simp
      have HE : Hid (R = (k : Int)) := HYES.out (by unfold takesB; simp [h1, h2])
      clear HYES HNX
      have hk0 : (if (k : Int) < 0 then (0 : Int) else (k : Int)) = (k : Int) := if_neg (by omega)
      have hk1 : decide (0 ≤ (k : Int)) = true := decide_eq_true (by omega)
      go_wp2_with (go_at_call 56; go_fit (impl_catch16 hcat _); rintro e w' ⟨rfl, hw⟩; rw [hw]; clear hw w')
      go_ret2
      exact ⟨by rw [← HV.out, ← HB0.out, HE.out, hk0, hk1]; rfl, by rw [hX.out]; exact HXB.out⟩
    have d3 : (k' == 0) = false := by simpa using h3
    have d3' : decide (k' = 0) = false := decide_eq_false h3
    by_cases h4 : k' = code
    · subst h4
      have hcat : (decide (k' = 0) || decide (k' = k')) = true := by simp
      have HE : Hid (R = (k : Int)) := HYES.out (by unfold takesB; simp [h1, h2])
      clear HYES HNX
      have hk0 : (if (k : Int) < 0 then (0 : Int) else (k : Int)) = (k : Int) := if_neg (by omega)
      have hk1 : decide (0 ≤ (k : Int)) = true := decide_eq_true (by omega)
      go_wp2_with (go_at_call 56; go_fit (impl_catch16 hcat _); rintro e w' ⟨rfl, hw⟩; rw [hw]; clear hw w')
      go_ret2
      exact ⟨by rw [← HV.out, ← HB0.out, HE.out, hk0, hk1]; rfl, by rw [hX.out]; exact HXB.out⟩
    have d4 : (k' == code) = false := by simpa using h4
    have d4' : decide (k' = code) = false := decide_eq_false h4
    have hcat : (decide (k' = 0) || decide (k' = code)) = false := by rw [d3', d4']; rfl
    have HN := HNX.out (by unfold takesB; simp [h3, h4])
    clear HYES HNX
    go_wp2_with (go_at_call 56; go_fit (impl_catch16 hcat _); rintro e w' ⟨rfl, hw⟩; rw [hw]; clear hw w')
    rw [hX.out]
    go_roundw
    case rel => exact ⟨k + 1, by omega, by go_num, HN, HRX, HXB⟩
    case measure => simp [intOf]; omega
theorem ga_no {zs : Nat → Int} {n : Nat} {gs : Nat → Int} {g : Nat} {at' code : Int} (h : okGA zs n gs g at' code = false) : gaB zs n gs g at' code = false ∧ gaV zs n gs g at' code = 0 := by
  have e : gaB zs n gs g at' code = false := by unfold gaB; rw [h]; rfl
  exact ⟨e, by unfold gaV; rw [e]; rfl⟩
theorem ga_yes {zs : Nat → Int} {n : Nat} {gs : Nat → Int} {g : Nat} {at' code : Int} (h : okGA zs n gs g at' code = true) : gaB zs n gs g at' code = decide (0 ≤ firstG gs g at' code) ∧ gaV zs n gs g at' code = (if firstG gs g at' code < 0 then 0 else firstG gs g at' code) := by
  have e : gaB zs n gs g at' code = decide (0 ≤ firstG gs g at' code) := by unfold gaB; rw [h, Bool.true_and]
  refine ⟨e, ?_⟩
  unfold gaV; rw [e]
  by_cases q : 0 ≤ firstG gs g at' code
  · rw [if_pos (decide_eq_true q), if_neg (by omega)]
  · rw [if_neg (by simpa using q), if_pos (by omega)]
set_option maxHeartbeats 4000000 in
theorem spec_guardat (a : Option Addr) (n cap : Nat) (ga : Option Addr) (g gc : Nat) (zs gs : List Int) (at' code : Int) (W : World) (hz : Hid (zs.length = n * 3)) (hn : n ≤ 1048576) (h : Hid (Ints W a zs)) (hgz : Hid (gs.length = g * 4)) (hg : g ≤ 1048576) (hgs : Hid (Ints W ga gs)) :
    Calls Try.prog 17 #[.agg #[.slice a n cap, .slice ga g gc], .int .i64 at', .int .i64 code] W fun e W' => e = .returned (.tuple #[.int .i64 (gaV (zf zs) n (zf gs) g at' code), .bool (gaB (zf zs) n (zf gs) g at' code)]) ∧ Below W.heap.size W W' := by
  obtain ⟨X, hX⟩ : ∃ X, Hid (W.alloc (.cells #[.slice a n cap, .slice ga g gc] 38) = X) := ⟨_, rfl⟩
  have HX : Hid (Below W.heap.size W X) := by show Below _ _ _; rw [← hX.out]; go_grown
  have R0 : Hid (X.rowIs W.heap.size 38 2 (rowF [.slice a n cap, .slice ga g gc])) := by rw [← hX.out]; exact row_of W #[.slice a n cap, .slice ga g gc] _
  obtain ⟨r0, r1, rl0⟩ := cellsL R0
  have HS1 := HX.out.size
  have hl := spec_lined a n cap ga g gc zs gs X hz hn (h.out.kept HX.out) hgz hg (hgs.out.kept HX.out)
  cases hline : linedB (zf zs) n (zf gs) g
  · obtain ⟨e1, e2⟩ := ga_no (at' := at') (code := code) (show okGA (zf zs) n (zf gs) g at' code = false by unfold okGA; rw [hline]; rfl)
    rw [e1, e2]
    rw [hline] at hl
    clear e1 e2
    go_enter Try.func17, Try.ntmps17
    go_upto_region 1 with fail
    rw [hX.out]
    clear hX
    go_wp2_with (go_at_call 13; refine hl.mono ?_; rintro e w1 ⟨rfl, hB⟩; obtain ⟨K0, K1⟩ := keepL HX R0 hB; clear hB hl r0 r1 rl0 HX R0; have HX := K0; have R0 := K1; clear K0 K1; obtain ⟨r0, r1, rl0⟩ := cellsL R0)
    go_ret2
    exact ⟨rfl, HX.out⟩
  rw [hline] at hl
  by_cases h0 : at' < 0
  · have d0 : decide (at' < 0) = true := decide_eq_true h0
    obtain ⟨e1, e2⟩ := ga_no (show okGA (zf zs) n (zf gs) g at' code = false by unfold okGA; rw [inR_lt h0]; simp)
    rw [e1, e2]
    clear e1 e2
    go_enter Try.func17, Try.ntmps17
    go_upto_region 1 with fail
    rw [hX.out]
    clear hX
    go_wp2_with (first | (go_at_call 13; refine hl.mono ?_; rintro e w1 ⟨rfl, hB⟩; obtain ⟨K0, K1⟩ := keepL HX R0 hB; clear hB hl r0 r1 rl0 HX R0; have HX := K0; have R0 := K1; clear K0 K1; obtain ⟨r0, r1, rl0⟩ := cellsL R0) | (go_at_call 32; go_fit (range16 hco _); rintro e w' ⟨rfl, hw⟩; rw [hw]; clear hw w'))
    go_ret2
    exact ⟨rfl, HX.out⟩
  have d0 : decide (at' < 0) = false := decide_eq_false h0
  by_cases h1 : (n : Int) ≤ at'
  · have d1 : decide (at' ≥ (n : Int)) = true := decide_eq_true h1
    have d1' : decide ((n : Int) ≤ at') = true := decide_eq_true h1
    obtain ⟨e1, e2⟩ := ga_no (show okGA (zf zs) n (zf gs) g at' code = false by unfold okGA; rw [inR_gt (show (n : Int) - 1 < at' by omega)]; simp)
    rw [e1, e2]
    clear e1 e2
    go_enter Try.func17, Try.ntmps17
    go_upto_region 1 with fail
    rw [hX.out]
    clear hX
    go_wp2_with (first | (go_at_call 13; refine hl.mono ?_; rintro e w1 ⟨rfl, hB⟩; obtain ⟨K0, K1⟩ := keepL HX R0 hB; clear hB hl r0 r1 rl0 HX R0; have HX := K0; have R0 := K1; clear K0 K1; obtain ⟨r0, r1, rl0⟩ := cellsL R0) | (go_at_call 32; go_fit (range16 hco _); rintro e w' ⟨rfl, hw⟩; rw [hw]; clear hw w'))
    go_ret2
    exact ⟨rfl, HX.out⟩
  have d1 : decide (at' ≥ (n : Int)) = false := decide_eq_false h1
  have d1' : decide ((n : Int) ≤ at') = false := decide_eq_false h1
  have hin : inR at' 0 ((n : Int) - 1) = true := inR_mk (by omega) (by omega)
  cases hco : inR code 1 9
  · skip
    obtain ⟨e1, e2⟩ := ga_no (show okGA (zf zs) n (zf gs) g at' code = false by unfold okGA; rw [hco]; simp)
    rw [e1, e2]
    clear e1 e2
    go_enter Try.func17, Try.ntmps17
    go_upto_region 1 with fail
    rw [hX.out]
    clear hX
    go_wp2_with (first | (go_at_call 13; refine hl.mono ?_; rintro e w1 ⟨rfl, hB⟩; obtain ⟨K0, K1⟩ := keepL HX R0 hB; clear hB hl r0 r1 rl0 HX R0; have HX := K0; have R0 := K1; clear K0 K1; obtain ⟨r0, r1, rl0⟩ := cellsL R0) | (go_at_call 32; go_fit (range16 hco _); rintro e w' ⟨rfl, hw⟩; rw [hw]; clear hw w'))
    go_ret2
    exact ⟨rfl, HX.out⟩
  obtain ⟨e1, e2⟩ := ga_yes (show okGA (zf zs) n (zf gs) g at' code = true by unfold okGA; rw [hline, hin, hco]; rfl)
  rw [e1, e2]
  clear e1 e2
  obtain ⟨R, HP⟩ : ∃ R, Hid (firstG (zf gs) g at' code = R) := ⟨_, rfl⟩
  rw [HP.out]
  by_cases hR : R < 0
  · have g0 : decide (R < 0) = true := decide_eq_true hR
    have g1 : decide (0 ≤ R) = false := decide_eq_false (by omega)
    rw [if_pos hR, g1]
    clear g1
    go_enter Try.func17, Try.ntmps17
    go_upto_region 1 with fail
    rw [hX.out]
    clear hX
    go_upto_region 3 with (first | (go_at_call 13; refine hl.mono ?_; rintro e w1 ⟨rfl, hB⟩; obtain ⟨K0, K1⟩ := keepL HX R0 hB; clear hB hl r0 r1 rl0 HX R0; have HX := K0; have R0 := K1; clear K0 K1; obtain ⟨r0, r1, rl0⟩ := cellsL R0) | (go_at_call 32; go_fit (range16 hco _); rintro e w' ⟨rfl, hw⟩; rw [hw]; clear hw w'))
    have hf := spec_firstg a n cap ga g gc gs at' code _ hn hgz hg (hgs.out.kept HX.out) R HP
    go_wp2_with (go_at_call 39; refine hf.mono ?_; rintro e w1 ⟨rfl, hB⟩; obtain ⟨K0, K1⟩ := keepL HX R0 hB; clear hB)
    go_ret2
    exact ⟨rfl, K0.out⟩
  · have g0 : decide (R < 0) = false := decide_eq_false hR
    have g1 : decide (0 ≤ R) = true := decide_eq_true (by omega)
    rw [if_neg hR, g1]
    clear g1
    go_enter Try.func17, Try.ntmps17
    go_upto_region 1 with fail
    rw [hX.out]
    clear hX
    go_upto_region 3 with (first | (go_at_call 13; refine hl.mono ?_; rintro e w1 ⟨rfl, hB⟩; obtain ⟨K0, K1⟩ := keepL HX R0 hB; clear hB hl r0 r1 rl0 HX R0; have HX := K0; have R0 := K1; clear K0 K1; obtain ⟨r0, r1, rl0⟩ := cellsL R0) | (go_at_call 32; go_fit (range16 hco _); rintro e w' ⟨rfl, hw⟩; rw [hw]; clear hw w'))
    have hf := spec_firstg a n cap ga g gc gs at' code _ hn hgz hg (hgs.out.kept HX.out) R HP
    go_wp2_with (go_at_call 39; refine hf.mono ?_; rintro e w1 ⟨rfl, hB⟩; obtain ⟨K0, K1⟩ := keepL HX R0 hB; clear hB)
    go_ret2
    exact ⟨rfl, K0.out⟩
set_option maxHeartbeats 4000000 in
theorem impl_guardat (a : Option Addr) (n cap : Nat) (ga : Option Addr) (g gc : Nat) (zs gs : List Int) (at' code : Int) (W : World) (hz : Hid (zs.length = n * 3)) (hn : n ≤ 1048576) (h : Hid (Ints W a zs)) (hgz : Hid (gs.length = g * 4)) (hg : g ≤ 1048576) (hgs : Hid (Ints W ga gs)) :
    Calls Try.prog 18 #[.agg #[.slice a n cap, .slice ga g gc], .int .i64 at', .int .i64 code] W fun e W' => e = .returned (.tuple #[.int .i64 (gaV (zf zs) n (zf gs) g at' code), .bool (gaB (zf zs) n (zf gs) g at' code)]) ∧ Below W.heap.size W W' := by
  obtain ⟨X, hX⟩ : ∃ X, Hid (W.alloc (.cells #[.slice a n cap, .slice ga g gc] 38) = X) := ⟨_, rfl⟩
  have HX : Hid (Below W.heap.size W X) := by show Below _ _ _; rw [← hX.out]; go_grown
  have R0 : Hid (X.rowIs W.heap.size 38 2 (rowF [.slice a n cap, .slice ga g gc])) := by rw [← hX.out]; exact row_of W #[.slice a n cap, .slice ga g gc] _
  obtain ⟨r0, r1, rl0⟩ := cellsL R0
  have HS1 := HX.out.size
  have hl := impl_lined a n cap ga g gc zs gs X hz hn (h.out.kept HX.out) hgz hg (hgs.out.kept HX.out)
  cases hline : linedB (zf zs) n (zf gs) g
  · obtain ⟨e1, e2⟩ := ga_no (at' := at') (code := code) (show okGA (zf zs) n (zf gs) g at' code = false by unfold okGA; rw [hline]; rfl)
    rw [e1, e2]
    rw [hline] at hl
    clear e1 e2
    go_enter Try.func18, Try.ntmps18
    go_upto_region 1 with fail
    rw [hX.out]
    clear hX
    go_wp2_with (go_at_call 15; refine hl.mono ?_; rintro e w1 ⟨rfl, hB⟩; obtain ⟨K0, K1⟩ := keepL HX R0 hB; clear hB hl r0 r1 rl0 HX R0; have HX := K0; have R0 := K1; clear K0 K1; obtain ⟨r0, r1, rl0⟩ := cellsL R0)
    go_ret2
    exact ⟨rfl, HX.out⟩
  rw [hline] at hl
  have hn1 : (n : Int) - 1 < 2 ^ 62 := by omega
  cases hin : inR at' 0 ((n : Int) - 1)
  · skip
    obtain ⟨e1, e2⟩ := ga_no (show okGA (zf zs) n (zf gs) g at' code = false by unfold okGA; rw [hin]; simp)
    rw [e1, e2]
    clear e1 e2
    go_enter Try.func18, Try.ntmps18
    go_upto_region 1 with fail
    rw [hX.out]
    clear hX
    go_wp2_with (first | (go_at_call 15; refine hl.mono ?_; rintro e w1 ⟨rfl, hB⟩; obtain ⟨K0, K1⟩ := keepL HX R0 hB; clear hB hl r0 r1 rl0 HX R0; have HX := K0; have R0 := K1; clear K0 K1; obtain ⟨r0, r1, rl0⟩ := cellsL R0) | (go_at_call 41; refine (impl_code16 hco _).mono ?_; rintro e w' ⟨rfl, hw⟩; rw [hw]; clear hw w') | (go_at_call 40; refine (btw16 hin _).mono ?_; rintro e w' ⟨rfl, hw⟩; rw [hw]; clear hw w'))
    go_ret2
    exact ⟨rfl, HX.out⟩
  cases hco : inR code 1 9
  · skip
    obtain ⟨e1, e2⟩ := ga_no (show okGA (zf zs) n (zf gs) g at' code = false by unfold okGA; rw [hco]; simp)
    rw [e1, e2]
    clear e1 e2
    go_enter Try.func18, Try.ntmps18
    go_upto_region 1 with fail
    rw [hX.out]
    clear hX
    go_wp2_with (first | (go_at_call 15; refine hl.mono ?_; rintro e w1 ⟨rfl, hB⟩; obtain ⟨K0, K1⟩ := keepL HX R0 hB; clear hB hl r0 r1 rl0 HX R0; have HX := K0; have R0 := K1; clear K0 K1; obtain ⟨r0, r1, rl0⟩ := cellsL R0) | (go_at_call 41; refine (impl_code16 hco _).mono ?_; rintro e w' ⟨rfl, hw⟩; rw [hw]; clear hw w') | (go_at_call 40; refine (btw16 hin _).mono ?_; rintro e w' ⟨rfl, hw⟩; rw [hw]; clear hw w'))
    go_ret2
    exact ⟨rfl, HX.out⟩
  obtain ⟨e1, e2⟩ := ga_yes (show okGA (zf zs) n (zf gs) g at' code = true by unfold okGA; rw [hline, hin, hco]; rfl)
  rw [e1, e2]
  clear e1 e2
  obtain ⟨R, HP⟩ : ∃ R, Hid (firstG (zf gs) g at' code = R) := ⟨_, rfl⟩
  rw [HP.out]
  obtain ⟨V, HV⟩ : ∃ V, Hid ((if R < 0 then 0 else R) = V) := ⟨_, rfl⟩
  obtain ⟨B, HB0⟩ : ∃ B, Hid (decide (0 ≤ R) = B) := ⟨_, rfl⟩
  rw [HV.out, HB0.out]
  go_enter Try.func18, Try.ntmps18
  go_upto_region 1 with fail
  rw [hX.out]
  clear hX
  go_upto_region 3 with (first | (go_at_call 15; refine hl.mono ?_; rintro e w1 ⟨rfl, hB⟩; obtain ⟨K0, K1⟩ := keepL HX R0 hB; clear hB hl r0 r1 rl0 HX R0; have HX := K0; have R0 := K1; clear K0 K1; obtain ⟨r0, r1, rl0⟩ := cellsL R0) | (go_at_call 41; refine (impl_code16 hco _).mono ?_; rintro e w' ⟨rfl, hw⟩; rw [hw]; clear hw w') | (go_at_call 40; refine (btw16 hin _).mono ?_; rintro e w' ⟨rfl, hw⟩; rw [hw]; clear hw w'))
  have hf := impl_firstg a n cap ga g gc gs at' code _ hn hgz hg (hgs.out.kept HX.out) R HP V B HV HB0
  go_wp2_with (go_at_call 42; refine hf.mono ?_; rintro e w1 ⟨rfl, hB⟩; obtain ⟨K0, K1⟩ := keepL HX R0 hB; clear hB)
  go_ret2
  exact ⟨rfl, K0.out⟩
end Go.Proofs.Ytbjfhcbgghpdaaa.walks
