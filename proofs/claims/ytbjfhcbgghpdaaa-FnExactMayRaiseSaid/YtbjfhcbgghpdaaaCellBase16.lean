/-
  What l16Cell, l16Arity, isTreeCell, partsUnder, oneIf answer.
-/
import Derived.Test.YtbjfhcbgghpdaaaProg
import Derived.Test.YtbjfhcbgghpdaaaMagMath
import Derived.Test.YtbjfhcbgghpdaaaInts
import Derived.Test.YtbjfhcbgghpdaaaDeep
import Derived.Test.YtbjfhcbgghpdaaaDeepRow
import Derived.Test.YtbjfhcbgghpdaaaTreeMath16
import Derived.Test.YtbjfhcbgghpdaaaLineMath
import Derived.Test.YtbjfhcbgghpdaaaLineStep
import Derived.Deep.RegionWith
import Derived.Deep.RegionHeld3
import Derived.Deep.DeepFit
import Derived.Deep.DeepCutAuto
import Derived.WalkKit
import Derived.WalkSpells
import Derived.Below
import Derived.Handy
import Derived.OwnWalk
namespace Go.Proofs.Ytbjfhcbgghpdaaa.walks
open Go.RowKit Go.Proofs.Ytbjfhcbgghpdaaa.math Go.Proofs.Ytbjfhcbgghpdaaa.ints Go.Proofs.Ytbjfhcbgghpdaaa.deep
set_option linter.unusedVariables false
set_option maxRecDepth 100000

def arV (k : Int) : Int := if k = 1 ∨ k = 2 then 0 else if k = 3 ∨ k = 4 ∨ k = 5 then 2 else if k = 6 then 1 else -1
theorem arV_ok {k : Int} (h1 : 1 ≤ k) (h2 : k ≤ 6) : arV k = (arX k : Int) := by
  rcases (show k = 1 ∨ k = 2 ∨ k = 3 ∨ k = 4 ∨ k = 5 ∨ k = 6 by omega) with rfl | rfl | rfl | rfl | rfl | rfl <;> rfl
theorem arX_bad {k : Int} (h : k < 1 ∨ 6 < k) : arX k = 0 := by unfold arX; rw [if_neg (by omega), if_neg (by omega)]
theorem spec_arity (k : Int) (W : World) : Calls Try.prog 61 #[.int .i64 k] W fun e W' => e = .returned (.int .i64 (arV k)) ∧ W' = W := by
  by_cases h1 : k = 1
  · subst h1
    rw [show arV 1 = 0 by rfl]
    go_enter Try.func61, Try.ntmps61
    go_wp2
    go_ret
    exact ⟨rfl, rfl⟩
  by_cases h2 : k = 2
  · subst h2
    rw [show arV 2 = 0 by rfl]
    go_enter Try.func61, Try.ntmps61
    go_wp2
    go_ret
    exact ⟨rfl, rfl⟩
  by_cases h3 : k = 3
  · subst h3
    rw [show arV 3 = 2 by rfl]
    go_enter Try.func61, Try.ntmps61
    go_wp2
    go_ret
    exact ⟨rfl, rfl⟩
  by_cases h4 : k = 4
  · subst h4
    rw [show arV 4 = 2 by rfl]
    go_enter Try.func61, Try.ntmps61
    go_wp2
    go_ret
    exact ⟨rfl, rfl⟩
  by_cases h5 : k = 5
  · subst h5
    rw [show arV 5 = 2 by rfl]
    go_enter Try.func61, Try.ntmps61
    go_wp2
    go_ret
    exact ⟨rfl, rfl⟩
  by_cases h6 : k = 6
  · subst h6
    rw [show arV 6 = 1 by rfl]
    go_enter Try.func61, Try.ntmps61
    go_wp2
    go_ret
    exact ⟨rfl, rfl⟩
  have e1 : (k == 1) = false := by simpa using h1
  have f1 : decide (k = 1) = false := decide_eq_false h1
  have e2 : (k == 2) = false := by simpa using h2
  have f2 : decide (k = 2) = false := decide_eq_false h2
  have e3 : (k == 3) = false := by simpa using h3
  have f3 : decide (k = 3) = false := decide_eq_false h3
  have e4 : (k == 4) = false := by simpa using h4
  have f4 : decide (k = 4) = false := decide_eq_false h4
  have e5 : (k == 5) = false := by simpa using h5
  have f5 : decide (k = 5) = false := decide_eq_false h5
  have e6 : (k == 6) = false := by simpa using h6
  have f6 : decide (k = 6) = false := decide_eq_false h6
  rw [show arV k = -1 by unfold arV; rw [if_neg (by omega), if_neg (by omega), if_neg (by omega)]]
  go_enter Try.func61, Try.ntmps61
  go_wp2
  go_ret
  exact ⟨rfl, rfl⟩
theorem impl_parts (k : Int) (W : World) : Calls Try.prog 64 #[.int .i64 k] W fun e W' => e = .returned (.int .i64 (arX k : Int)) ∧ W' = W := by
  by_cases h3 : k = 3
  · subst h3
    rw [show ((arX 3 : Nat) : Int) = 2 by rfl]
    go_enter Try.func64, Try.ntmps64
    go_wp2
    go_ret
    exact ⟨rfl, rfl⟩
  by_cases h4 : k = 4
  · subst h4
    rw [show ((arX 4 : Nat) : Int) = 2 by rfl]
    go_enter Try.func64, Try.ntmps64
    go_wp2
    go_ret
    exact ⟨rfl, rfl⟩
  by_cases h5 : k = 5
  · subst h5
    rw [show ((arX 5 : Nat) : Int) = 2 by rfl]
    go_enter Try.func64, Try.ntmps64
    go_wp2
    go_ret
    exact ⟨rfl, rfl⟩
  by_cases h6 : k = 6
  · subst h6
    rw [show ((arX 6 : Nat) : Int) = 1 by rfl]
    go_enter Try.func64, Try.ntmps64
    go_wp2
    go_ret
    exact ⟨rfl, rfl⟩
  have e3 : (k == 3) = false := by simpa using h3
  have f3 : decide (k = 3) = false := decide_eq_false h3
  have e4 : (k == 4) = false := by simpa using h4
  have f4 : decide (k = 4) = false := decide_eq_false h4
  have e5 : (k == 5) = false := by simpa using h5
  have f5 : decide (k = 5) = false := decide_eq_false h5
  have e6 : (k == 6) = false := by simpa using h6
  have f6 : decide (k = 6) = false := decide_eq_false h6
  rw [show ((arX k : Nat) : Int) = 0 by unfold arX; rw [if_neg (by omega), if_neg (by omega)]; rfl]
  go_enter Try.func64, Try.ntmps64
  go_wp2
  go_ret
  exact ⟨rfl, rfl⟩
theorem impl_oneif (b : Bool) (W : World) : Calls Try.prog 63 #[.bool b] W fun e W' => e = .returned (.int .i64 (if b then 1 else 0)) ∧ W' = W := by
  cases b
  · rw [show (if false = true then (1 : Int) else 0) = 0 from rfl]
    go_enter Try.func63, Try.ntmps63
    go_wp2
    go_ret
    exact ⟨rfl, rfl⟩
  · rw [show (if true = true then (1 : Int) else 0) = 1 from rfl]
    go_enter Try.func63, Try.ntmps63
    go_wp2
    go_ret
    exact ⟨rfl, rfl⟩
set_option maxHeartbeats 1000000 in
theorem spec_cell16 (k n : Int) (W : World) : Calls Try.prog 60 #[.agg #[.int .i64 k, .int .i64 n]] W fun e W' => e = .returned (.bool (cellX k n)) ∧ Below W.heap.size W W' := by
  by_cases h1 : k = 1
  · subst h1
    rw [show cellX 1 n = inR n 0 99 from rfl]
    cases h : inR n 0 99
    · skip
      go_enter Try.func60, Try.ntmps60
      go_wp2_with (go_at_call 32; go_fit (range16 h _); rintro e w' ⟨rfl, hw⟩; rw [hw]; clear hw w')
      go_ret
      exact ⟨rfl, by go_grown⟩
    · skip
      go_enter Try.func60, Try.ntmps60
      go_wp2_with (go_at_call 32; go_fit (range16 h _); rintro e w' ⟨rfl, hw⟩; rw [hw]; clear hw w')
      go_ret
      exact ⟨rfl, by go_grown⟩
  by_cases h2 : k = 2
  · subst h2
    rw [show cellX 2 n = inR n 1 9 from rfl]
    cases h : inR n 1 9
    · skip
      go_enter Try.func60, Try.ntmps60
      go_wp2_with (go_at_call 32; go_fit (range16 h _); rintro e w' ⟨rfl, hw⟩; rw [hw]; clear hw w')
      go_ret
      exact ⟨rfl, by go_grown⟩
    · skip
      go_enter Try.func60, Try.ntmps60
      go_wp2_with (go_at_call 32; go_fit (range16 h _); rintro e w' ⟨rfl, hw⟩; rw [hw]; clear hw w')
      go_ret
      exact ⟨rfl, by go_grown⟩
  by_cases h4 : k = 4
  · subst h4
    rw [show cellX 4 n = inR n 0 9 from rfl]
    cases h : inR n 0 9
    · skip
      go_enter Try.func60, Try.ntmps60
      go_wp2_with (go_at_call 32; go_fit (range16 h _); rintro e w' ⟨rfl, hw⟩; rw [hw]; clear hw w')
      go_ret
      exact ⟨rfl, by go_grown⟩
    · skip
      go_enter Try.func60, Try.ntmps60
      go_wp2_with (go_at_call 32; go_fit (range16 h _); rintro e w' ⟨rfl, hw⟩; rw [hw]; clear hw w')
      go_ret
      exact ⟨rfl, by go_grown⟩
  by_cases h6 : k = 6
  · subst h6
    rw [show cellX 6 n = inR n 0 5 from rfl]
    cases h : inR n 0 5
    · skip
      go_enter Try.func60, Try.ntmps60
      go_wp2_with (go_at_call 32; go_fit (range16 h _); rintro e w' ⟨rfl, hw⟩; rw [hw]; clear hw w')
      go_ret
      exact ⟨rfl, by go_grown⟩
    · skip
      go_enter Try.func60, Try.ntmps60
      go_wp2_with (go_at_call 32; go_fit (range16 h _); rintro e w' ⟨rfl, hw⟩; rw [hw]; clear hw w')
      go_ret
      exact ⟨rfl, by go_grown⟩
  by_cases h3 : k = 3
  · subst h3
    rw [show cellX 3 n = decide (n = 0) from rfl]
    by_cases hn : n = 0
    · subst hn
      rw [show decide ((0 : Int) = 0) = true from rfl]
      go_enter Try.func60, Try.ntmps60
      go_wp2_with (go_at_call 61; refine (spec_arity _ _).mono ?_; rw [show arV 3 = 2 from rfl]; rintro e w' ⟨rfl, hw⟩; rw [hw]; clear hw w')
      go_ret
      exact ⟨rfl, by go_grown⟩
    · have d1 : (n == 0) = false := by simpa using hn
      have d2 : decide (n = 0) = false := decide_eq_false hn
      rw [d2]
      go_enter Try.func60, Try.ntmps60
      go_wp2_with (go_at_call 61; refine (spec_arity _ _).mono ?_; rw [show arV 3 = 2 from rfl]; rintro e w' ⟨rfl, hw⟩; rw [hw]; clear hw w')
      go_ret
      exact ⟨rfl, by go_grown⟩
  by_cases h5 : k = 5
  · subst h5
    rw [show cellX 5 n = decide (n = 0) from rfl]
    by_cases hn : n = 0
    · subst hn
      rw [show decide ((0 : Int) = 0) = true from rfl]
      go_enter Try.func60, Try.ntmps60
      go_wp2_with (go_at_call 61; refine (spec_arity _ _).mono ?_; rw [show arV 5 = 2 from rfl]; rintro e w' ⟨rfl, hw⟩; rw [hw]; clear hw w')
      go_ret
      exact ⟨rfl, by go_grown⟩
    · have d1 : (n == 0) = false := by simpa using hn
      have d2 : decide (n = 0) = false := decide_eq_false hn
      rw [d2]
      go_enter Try.func60, Try.ntmps60
      go_wp2_with (go_at_call 61; refine (spec_arity _ _).mono ?_; rw [show arV 5 = 2 from rfl]; rintro e w' ⟨rfl, hw⟩; rw [hw]; clear hw w')
      go_ret
      exact ⟨rfl, by go_grown⟩
  have e1 : (k == 1) = false := by simpa using h1
  have f1 : decide (k = 1) = false := decide_eq_false h1
  have e2 : (k == 2) = false := by simpa using h2
  have f2 : decide (k = 2) = false := decide_eq_false h2
  have e3 : (k == 3) = false := by simpa using h3
  have f3 : decide (k = 3) = false := decide_eq_false h3
  have e4 : (k == 4) = false := by simpa using h4
  have f4 : decide (k = 4) = false := decide_eq_false h4
  have e5 : (k == 5) = false := by simpa using h5
  have f5 : decide (k = 5) = false := decide_eq_false h5
  have e6 : (k == 6) = false := by simpa using h6
  have f6 : decide (k = 6) = false := decide_eq_false h6
  rw [cellX_else h1 h2 h3 h4 h5 h6]
  have hA : arV k = -1 := by unfold arV; rw [if_neg (by omega), if_neg (by omega), if_neg (by omega)]
  by_cases hn : n = 0
  · subst hn
    go_enter Try.func60, Try.ntmps60
    go_wp2_with (go_at_call 61; refine (spec_arity _ _).mono ?_; rw [hA]; rintro e w' ⟨rfl, hw⟩; rw [hw]; clear hw w')
    go_ret
    exact ⟨rfl, by go_grown⟩
  · have d1 : (n == 0) = false := by simpa using hn
    have d2 : decide (n = 0) = false := decide_eq_false hn
    go_enter Try.func60, Try.ntmps60
    go_wp2_with (go_at_call 61; refine (spec_arity _ _).mono ?_; rw [hA]; rintro e w' ⟨rfl, hw⟩; rw [hw]; clear hw w')
    go_ret
    exact ⟨rfl, by go_grown⟩
set_option maxHeartbeats 1000000 in
theorem impl_cell16 (k n : Int) (W : World) : Calls Try.prog 62 #[.agg #[.int .i64 k, .int .i64 n]] W fun e W' => e = .returned (.bool (cellX k n)) ∧ Below W.heap.size W W' := by
  by_cases h1 : k = 1
  · subst h1
    rw [show cellX 1 n = inR n 0 99 from rfl]
    cases h : inR n 0 99
    · skip
      go_enter Try.func62, Try.ntmps62
      go_wp2_with (first | (go_at_call 40; go_fit (btw16 h _); rintro e w' ⟨rfl, hw⟩; rw [hw]; clear hw w') | (go_at_call 41; go_fit (impl_code16 h _); rintro e w' ⟨rfl, hw⟩; rw [hw]; clear hw w') | (go_at_call 53; go_fit (impl_any16 h _); rintro e w' ⟨rfl, hw⟩; rw [hw]; clear hw w'))
      go_ret
      exact ⟨rfl, by go_grown⟩
    · skip
      go_enter Try.func62, Try.ntmps62
      go_wp2_with (first | (go_at_call 40; go_fit (btw16 h _); rintro e w' ⟨rfl, hw⟩; rw [hw]; clear hw w') | (go_at_call 41; go_fit (impl_code16 h _); rintro e w' ⟨rfl, hw⟩; rw [hw]; clear hw w') | (go_at_call 53; go_fit (impl_any16 h _); rintro e w' ⟨rfl, hw⟩; rw [hw]; clear hw w'))
      go_ret
      exact ⟨rfl, by go_grown⟩
  by_cases h2 : k = 2
  · subst h2
    rw [show cellX 2 n = inR n 1 9 from rfl]
    cases h : inR n 1 9
    · skip
      go_enter Try.func62, Try.ntmps62
      go_wp2_with (first | (go_at_call 40; go_fit (btw16 h _); rintro e w' ⟨rfl, hw⟩; rw [hw]; clear hw w') | (go_at_call 41; go_fit (impl_code16 h _); rintro e w' ⟨rfl, hw⟩; rw [hw]; clear hw w') | (go_at_call 53; go_fit (impl_any16 h _); rintro e w' ⟨rfl, hw⟩; rw [hw]; clear hw w'))
      go_ret
      exact ⟨rfl, by go_grown⟩
    · skip
      go_enter Try.func62, Try.ntmps62
      go_wp2_with (first | (go_at_call 40; go_fit (btw16 h _); rintro e w' ⟨rfl, hw⟩; rw [hw]; clear hw w') | (go_at_call 41; go_fit (impl_code16 h _); rintro e w' ⟨rfl, hw⟩; rw [hw]; clear hw w') | (go_at_call 53; go_fit (impl_any16 h _); rintro e w' ⟨rfl, hw⟩; rw [hw]; clear hw w'))
      go_ret
      exact ⟨rfl, by go_grown⟩
  by_cases h4 : k = 4
  · subst h4
    rw [show cellX 4 n = inR n 0 9 from rfl]
    cases h : inR n 0 9
    · skip
      go_enter Try.func62, Try.ntmps62
      go_wp2_with (first | (go_at_call 40; go_fit (btw16 h _); rintro e w' ⟨rfl, hw⟩; rw [hw]; clear hw w') | (go_at_call 41; go_fit (impl_code16 h _); rintro e w' ⟨rfl, hw⟩; rw [hw]; clear hw w') | (go_at_call 53; go_fit (impl_any16 h _); rintro e w' ⟨rfl, hw⟩; rw [hw]; clear hw w'))
      go_ret
      exact ⟨rfl, by go_grown⟩
    · skip
      go_enter Try.func62, Try.ntmps62
      go_wp2_with (first | (go_at_call 40; go_fit (btw16 h _); rintro e w' ⟨rfl, hw⟩; rw [hw]; clear hw w') | (go_at_call 41; go_fit (impl_code16 h _); rintro e w' ⟨rfl, hw⟩; rw [hw]; clear hw w') | (go_at_call 53; go_fit (impl_any16 h _); rintro e w' ⟨rfl, hw⟩; rw [hw]; clear hw w'))
      go_ret
      exact ⟨rfl, by go_grown⟩
  by_cases h6 : k = 6
  · subst h6
    rw [show cellX 6 n = inR n 0 5 from rfl]
    cases h : inR n 0 5
    · skip
      go_enter Try.func62, Try.ntmps62
      go_wp2_with (first | (go_at_call 40; go_fit (btw16 h _); rintro e w' ⟨rfl, hw⟩; rw [hw]; clear hw w') | (go_at_call 41; go_fit (impl_code16 h _); rintro e w' ⟨rfl, hw⟩; rw [hw]; clear hw w') | (go_at_call 53; go_fit (impl_any16 h _); rintro e w' ⟨rfl, hw⟩; rw [hw]; clear hw w'))
      go_ret
      exact ⟨rfl, by go_grown⟩
    · skip
      go_enter Try.func62, Try.ntmps62
      go_wp2_with (first | (go_at_call 40; go_fit (btw16 h _); rintro e w' ⟨rfl, hw⟩; rw [hw]; clear hw w') | (go_at_call 41; go_fit (impl_code16 h _); rintro e w' ⟨rfl, hw⟩; rw [hw]; clear hw w') | (go_at_call 53; go_fit (impl_any16 h _); rintro e w' ⟨rfl, hw⟩; rw [hw]; clear hw w'))
      go_ret
      exact ⟨rfl, by go_grown⟩
  by_cases h3 : k = 3
  · subst h3
    rw [show cellX 3 n = decide (n = 0) from rfl]
    by_cases hn : n = 0
    · subst hn
      rw [show decide ((0 : Int) = 0) = true from rfl]
      go_enter Try.func62, Try.ntmps62
      go_wp2_with fail
      go_ret
      exact ⟨rfl, by go_grown⟩
    · have d1 : (n == 0) = false := by simpa using hn
      have d2 : decide (n = 0) = false := decide_eq_false hn
      rw [d2]
      go_enter Try.func62, Try.ntmps62
      go_wp2_with fail
      go_ret
      exact ⟨rfl, by go_grown⟩
  by_cases h5 : k = 5
  · subst h5
    rw [show cellX 5 n = decide (n = 0) from rfl]
    by_cases hn : n = 0
    · subst hn
      rw [show decide ((0 : Int) = 0) = true from rfl]
      go_enter Try.func62, Try.ntmps62
      go_wp2_with fail
      go_ret
      exact ⟨rfl, by go_grown⟩
    · have d1 : (n == 0) = false := by simpa using hn
      have d2 : decide (n = 0) = false := decide_eq_false hn
      rw [d2]
      go_enter Try.func62, Try.ntmps62
      go_wp2_with fail
      go_ret
      exact ⟨rfl, by go_grown⟩
  have e1 : (k == 1) = false := by simpa using h1
  have f1 : decide (k = 1) = false := decide_eq_false h1
  have e2 : (k == 2) = false := by simpa using h2
  have f2 : decide (k = 2) = false := decide_eq_false h2
  have e3 : (k == 3) = false := by simpa using h3
  have f3 : decide (k = 3) = false := decide_eq_false h3
  have e4 : (k == 4) = false := by simpa using h4
  have f4 : decide (k = 4) = false := decide_eq_false h4
  have e5 : (k == 5) = false := by simpa using h5
  have f5 : decide (k = 5) = false := decide_eq_false h5
  have e6 : (k == 6) = false := by simpa using h6
  have f6 : decide (k = 6) = false := decide_eq_false h6
  rw [cellX_else h1 h2 h3 h4 h5 h6]
  go_enter Try.func62, Try.ntmps62
  go_wp2_with fail
  go_ret
  exact ⟨rfl, by go_grown⟩
end Go.Proofs.Ytbjfhcbgghpdaaa.walks
