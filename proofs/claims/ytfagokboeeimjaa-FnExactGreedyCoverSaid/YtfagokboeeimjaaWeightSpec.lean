/-
  What the specification's l9Weight answers.
-/
import Derived.Test.YtfagokboeeimjaaProg
import Derived.Test.YtfagokboeeimjaaGreedyMath
import Derived.Test.YtfagokboeeimjaaCoverSpec
namespace Go.Proofs.Ytfagokboeeimjaa.walks
open Go.RowKit Go.Proofs.Ytfagokboeeimjaa.math Go.Proofs.Ytfagokboeeimjaa.ints
set_option linter.unusedVariables false
set_option maxRecDepth 100000

set_option maxHeartbeats 2000000 in
theorem spec_weight (ca : Option Addr) (len cc : Nat) (c : Int) (p : List Int) (W : World) (hzp : Hid (p.length = len)) (hlp : len ≤ 10) (hp : Hid (Ints W ca p)) :
    Calls Try.prog 60 #[.agg #[.slice ca len cc, .int .i64 c]] W fun e W' => e = .returned (.int .i64 (namedTo p p.length : Int)) ∧ Below W.heap.size W W' := by
  go_enter Try.func60, Try.ntmps60
  go_wp2_with fail
  obtain ⟨X, hX⟩ : ∃ X, Hid (W.alloc (.cells #[.slice ca len cc, .int .i64 c] 38) = X) := ⟨_, rfl⟩
  have HX : Hid (Below W.heap.size W X) := by show Below _ _ _; rw [← hX.out]; repeat (first | exact Below.refl _ _ | refine Below.drew ?_ | refine Below.setCell ?_ (by simp; try omega) _ | refine Below.alloc ?_ (by simp; try omega) _)
  have HP : Hid (Ints X ca p) := hp.out.kept HX.out
  rw [hX.out]
  clear hX
  go_loopw [3, 9] (fun vn vi wr => ∃ (j m : Nat), j ≤ len ∧ vi = .int .i64 (j : Int) ∧ vn = .int .i64 (m : Int) ∧ Hid (m = namedTo p j) ∧ m ≤ j ∧ Hid (wr = X)) (fun _ vi _ => len - (intOf vi).toNat)
  case atStart => exact ⟨0, 0, Nat.zero_le _, rfl, rfl, rfl, Nat.le_refl _, rfl⟩
  case round =>
    obtain ⟨j, m, hj, rfl, rfl, HC, hm, HW⟩ := hrel
    obtain rfl := HW.out
    by_cases hlt : j < len
    · obtain ⟨b, off, hca, cx⟩ := HP.out.at (Below.refl _ _) (k := j) (by rw [hzp.out]; exact hlt)
      subst hca
      obtain ⟨x, hx⟩ : ∃ x, Hid (p.getD j 0 = x) := ⟨_, rfl⟩
      rw [hx.out] at cx
      have hltI : (j : Int) < (len : Int) := by omega
      by_cases h0 : x = 0
      · have HN : Hid (m = namedTo p (j + 1)) := by show _ = _; simp only [namedTo]; rw [hx.out, if_pos h0, ← HC.out]; rfl
        subst h0
        go_wp2
        go_roundw
        case rel => exact ⟨j + 1, m, by omega, by go_num, rfl, HN, by omega, by first | exact trivial | exact (rfl : X = X)⟩
        case measure => simp [intOf]; omega
      · have HN : Hid (m + 1 = namedTo p (j + 1)) := by show _ = _; simp only [namedTo]; rw [hx.out, if_neg h0, ← HC.out]
        have d0 : (x != 0) = true := by simp [h0]
        go_wp2
        go_roundw
        case rel => exact ⟨j + 1, m + 1, by omega, by go_num, by go_num, HN, by omega, by first | exact trivial | exact (rfl : X = X)⟩
        case measure => simp [intOf]; omega
    · have HE : Hid (namedTo p p.length = m) := by show _ = _; rw [hzp.out, show len = j by omega, ← HC.out]
      go_wp2
      go_ret
      exact ⟨by rw [HE.out]; rfl, HX.out⟩
end Go.Proofs.Ytfagokboeeimjaa.walks
