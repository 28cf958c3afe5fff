/-
  What the function by which IsCover chooses answers: the next piece's pattern, if the piece is good there; it counts the piece.
-/
import Derived.Test.YtfagokboeeimjaaProg
import Derived.Test.YtfagokboeeimjaaMagMath
import Derived.Test.YtfagokboeeimjaaCoverMath
import Derived.Test.YtfagokboeeimjaaPatImpl
import Derived.Test.YtfagokboeeimjaaInts
import Derived.WalkKit
import Derived.WalkSpells
import Derived.Below
import Derived.Handy
import Derived.Deep.QuietTactic
import Derived.BigQuiet
namespace Go.Proofs.Ytfagokboeeimjaa.walks
open Go.RowKit Go.Proofs.Ytfagokboeeimjaa.math Go.Proofs.Ytfagokboeeimjaa.ints
set_option linter.unusedVariables false
set_option maxRecDepth 100000

/-- The piece is good at the place. -/
def pickB (n len i : Nat) (x y a : Int) : Bool := decide (i < len) && (decide (x = a) && inR y 0 ((n : Int) - 1))
set_option maxHeartbeats 2000000 in
theorem impl_choose (n len i pb po pc tbx pbx lbx : Nat) (pa la : Option Addr) (lc : Nat) (z : List Int) (at0 : Int) (W : World) (hn : n ≤ 1048576) (hlen : len ≤ 1048576) (hi : i ≤ len) (ct : W.cell? ⟨tbx, 0, none⟩ = some (.int .i64 (i : Int))) (zt : W.frozen? ⟨tbx, 0, none⟩ = false) (cp : W.cell? ⟨pbx, 0, none⟩ = some (.slice pa len pc)) (cl : W.cell? ⟨lbx, 0, none⟩ = some (.slice la n lc)) (hne1 : pbx ≠ tbx) (hne2 : lbx ≠ tbx) (hne3 : pb ≠ tbx) (hpa : Hid (0 < len → pa = some ⟨pb, po, none⟩)) (hc : Hid (∀ q, q < len * 2 → W.cell? ⟨pb, po + q, none⟩ = some (.int .i64 (z.getD q 0)))) :
    Calls Try.prog 58 #[.int .i64 at0, .pointer (some ⟨tbx, 0, none⟩), .pointer (some ⟨pbx, 0, none⟩), .pointer (some ⟨lbx, 0, none⟩)] W fun e W' => (pickB n len i (z.getD (i * 2) 0) (z.getD (i * 2 + 1) 0) at0 = false ∧ e = .returned (.tuple #[.int .i64 0, .bool false]) ∧ Below W.heap.size W W') ∨ (pickB n len i (z.getD (i * 2) 0) (z.getD (i * 2 + 1) 0) at0 = true ∧ e = .returned (.tuple #[.int .i64 (z.getD (i * 2 + 1) 0), .bool true]) ∧ ∃ q, W' = (W.setCell ⟨tbx, 0, none⟩ (.int .i64 (((i + 1 : Nat)) : Int))).drewN q) := by
  by_cases hil : i = len
  · have HE : Hid (pickB n len i (z.getD (i * 2) 0) (z.getD (i * 2 + 1) 0) at0 = false) := by show _ = _; unfold pickB; rw [decide_eq_false (by omega)]; rfl
    subst hil
    have e1 : ((i : Int) == (i : Int)) = true := by simp
    go_enter Try.func58, Try.ntmps58
    go_wp2_with fail
    go_quiet (fail)
    all_goals
      go_wp2
      go_ret2
      exact Or.inl ⟨HE.out, rfl, belowN (Below.refl _ _) _⟩
  have hilt : i < len := by omega
  obtain rfl := hpa.out (by omega)
  have cx := hc.out (i * 2) (by omega)
  have cy := hc.out (i * 2 + 1) (by omega)
  rw [← Nat.add_assoc] at cy
  obtain ⟨x, hx⟩ : ∃ x, Hid (z.getD (i * 2) 0 = x) := ⟨_, rfl⟩
  obtain ⟨y, hy⟩ : ∃ y, Hid (z.getD (i * 2 + 1) 0 = y) := ⟨_, rfl⟩
  rw [hx.out] at cx
  rw [hy.out] at cy
  rw [hx.out, hy.out]
  have e1 : ((i : Int) == (len : Int)) = false := by simp; omega
  have e2 : decide ((i : Int) = (len : Int)) = false := decide_eq_false (by omega)
  have e3 : ¬ (i : Int) = (len : Int) := by omega
  have hiI : (i : Int) < (len : Int) := by omega
  by_cases hxa : x = at0
  rotate_left
  · have HE : Hid (pickB n len i x y at0 = false) := by show _ = _; unfold pickB; rw [decide_eq_false hxa]; simp
    have d1 : (x != at0) = true := by simpa using hxa
    have d2 : (x == at0) = false := by simpa using hxa
    clear hil
    go_enter Try.func58, Try.ntmps58
    go_wp2_with fail
    go_quiet (fail)
    all_goals
      go_wp2
      go_ret2
      exact Or.inl ⟨HE.out, rfl, belowN (Below.refl _ _) _⟩
  subst hxa
  have d1 : (x != x) = false := by simp
  obtain ⟨bb, hbb⟩ : ∃ bb, inR y 0 ((n : Int) - 1) = bb := ⟨_, rfl⟩
  have HPB : Hid (pickB n len i x y x = bb) := by show _ = _; unfold pickB; rw [decide_eq_true hilt, hbb]; simp
  rw [HPB.out]
  clear hil
  cases bb
  · go_enter Try.func58, Try.ntmps58
    go_wp2_with fail
    go_quiet (first | (go_at_call 59; with_reducible exact Calls.quiet_of_same (between_quiet hbb _)))
    all_goals
      go_wp2
      go_ret2
      exact Or.inl ⟨by first | rfl | trivial, rfl, belowN (Below.refl _ _) _⟩
  · have HC : Hid (∀ q, q < len * 2 → W.cell? ⟨pb, po + q, none⟩ = some (.int .i64 (z.getD q 0))) := hc
    have w1 : (i : Int) + 1 - 1 = (i : Int) := by omega
    go_enter Try.func58, Try.ntmps58
    go_wp2_with fail
    go_quiet (first | (go_at_call 59; with_reducible exact Calls.quiet_of_same (between_quiet hbb _)))
    go_wp2_with fail
    go_ret2
    refine Or.inr ⟨by first | rfl | trivial, rfl, nq, ?_⟩
    have e : (((i + 1 : Nat)) : Int) = (i : Int) + 1 := by omega
    rw [e]
    rfl
end Go.Proofs.Ytfagokboeeimjaa.walks
