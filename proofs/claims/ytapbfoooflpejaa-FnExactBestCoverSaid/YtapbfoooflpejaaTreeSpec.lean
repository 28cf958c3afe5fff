/-
  What the specification's GoodTree, l9Pattern and GoodPatterns answer.
-/
import Derived.Test.YtapbfoooflpejaaProg
import Derived.Test.YtapbfoooflpejaaMagMath
import Derived.Test.YtapbfoooflpejaaTreeMath
import Derived.Test.YtapbfoooflpejaaTreeBase
import Derived.Test.YtapbfoooflpejaaInts
import Derived.Test.YtapbfoooflpejaaPats
import Derived.WalkKit
import Derived.WalkSpells
import Derived.Below
import Derived.Handy
namespace Go.Proofs.Ytapbfoooflpejaa.walks
open Go.RowKit Go.Proofs.Ytapbfoooflpejaa.math Go.Proofs.Ytapbfoooflpejaa.ints
set_option linter.unusedVariables false

theorem spec_in (n lo hi : Int) (W : World) : Calls Try.prog 33 #[.int .i64 n, .int .i64 lo, .int .i64 hi] W fun e W' => e = .returned (.bool (inR n lo hi)) ∧ W' = W := by
  by_cases h0 : n < lo
  · have e : inR n lo hi = false := inR_lt h0
    rw [e]
    go_enter Try.func33, Try.ntmps33
    go_wp2
    go_ret
    exact ⟨rfl, rfl⟩
  have h0' : lo ≤ n := by omega
  clear h0
  by_cases h1 : hi < n
  · have e : inR n lo hi = false := inR_gt h1
    rw [e]
    have d : decide (n ≤ hi) = false := decide_eq_false (by omega)
    go_enter Try.func33, Try.ntmps33
    go_wp2
    go_ret
    exact ⟨rfl, rfl⟩
  have h1' : n ≤ hi := by omega
  have e : inR n lo hi = true := inR_mk h0' h1'
  rw [e]
  have d : decide (n ≤ hi) = true := decide_eq_true h1'
  clear h1
  go_enter Try.func33, Try.ntmps33
  go_wp2
  go_ret
  exact ⟨rfl, rfl⟩
theorem tree_false_long {zs : List Int} (h : 40 < zs.length) : treeB zs = false := by unfold treeB; rw [decide_eq_false (by omega)]; rfl
theorem tree_false_nil {zs : List Int} (h : zs.length = 0) : treeB zs = false := by unfold treeB wholeB; rw [decide_eq_false (show ¬ 0 < zs.length by omega)]; simp
theorem tree_eq {zs : List Int} (h : zs.length ≤ 40) : treeB zs = wholeB false zs := by unfold treeB; rw [decide_eq_true h]; rfl
theorem spec_tree (a : Option Addr) (len cap : Nat) (zs : List Int) (W : World) (hz : Hid (zs.length = len)) (hlen : len ≤ 1048576) (h : Hid (Ints W a zs)) :
    Calls Try.prog 20 #[.slice a len cap] W fun e W' => e = .returned (.bool (treeB zs)) ∧ W' = W := by
  by_cases h1 : len = 0 ∨ 40 < len
  · have HE : Hid (treeB zs = false) := by
      rcases h1 with e | e
      · exact tree_false_nil (by rw [hz.out]; exact e)
      · exact tree_false_long (by rw [hz.out]; exact e)
    have e : inR (len : Int) 1 40 = false := by
      rcases h1 with e | e
      · exact inR_lt (by omega)
      · exact inR_gt (by omega)
    go_enter Try.func20, Try.ntmps20
    go_wp2_with (go_at_call 33; refine (spec_in _ _ _ _).mono ?_; rw [e]; rintro e w' ⟨rfl, rfl⟩)
    go_ret
    exact ⟨by rw [HE.out]; rfl, rfl⟩
  have e : inR (len : Int) 1 40 = true := inR_mk (by omega) (by omega)
  have HE : Hid (treeB zs = decide (endT false zs 0 = len)) := by
    show _ = _
    have := hz.out
    rw [tree_eq (by omega), ← end_whole (by omega), this]
  obtain ⟨x, hx⟩ : ∃ x, Hid (endT false zs 0 = x) := ⟨_, rfl⟩
  rw [HE.out, hx.out]
  by_cases hq : x = len
  · subst hq
    have d1 : decide (x = x) = true := by simp
    rw [d1]
    go_enter Try.func20, Try.ntmps20
    go_wp2_with (first
      | (go_at_call 33; refine (spec_in _ _ _ _).mono ?_; rw [e]; rintro e w' ⟨rfl, rfl⟩)
      | (go_at_call 34; refine (spec_end _ _ _ 0 false zs _ hz hlen (by omega) h).mono ?_; rw [hx.out]; rintro e w' ⟨rfl, rfl⟩))
    go_ret
    exact ⟨rfl, rfl⟩
  · have d1 : decide (x = len) = false := decide_eq_false hq
    have d2 : ((x : Int) == (len : Int)) = false := by simp; omega
    have d3 : decide ((x : Int) = (len : Int)) = false := decide_eq_false (by omega)
    rw [d1]
    go_enter Try.func20, Try.ntmps20
    go_wp2_with (first
      | (go_at_call 33; refine (spec_in _ _ _ _).mono ?_; rw [e]; rintro e w' ⟨rfl, rfl⟩)
      | (go_at_call 34; refine (spec_end _ _ _ 0 false zs _ hz hlen (by omega) h).mono ?_; rw [hx.out]; rintro e w' ⟨rfl, rfl⟩))
    go_ret
    exact ⟨rfl, rfl⟩
end Go.Proofs.Ytapbfoooflpejaa.walks
