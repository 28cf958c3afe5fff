/-
  What the program's FitsAt answers; it makes new memory alone.
-/
import Derived.Test.YtapbfoooflpejaaProg
import Derived.Test.YtapbfoooflpejaaFitsAt9
namespace Go.Proofs.Ytapbfoooflpejaa.walks
open Go.RowKit Go.Proofs.Ytapbfoooflpejaa.math Go.Proofs.Ytapbfoooflpejaa.ints
set_option linter.unusedVariables false
set_option maxRecDepth 100000

/-- What kindTreeOf left of a good tree. -/
theorem tree_in {W w : World} {a : Option Addr} {t : List Int} {cap g : Nat} (ht : treeB t = true) (h : Ints W a t) (hcap : t.length ≤ cap) (hcm : cap ≤ maxLen) (hb : Below W.heap.size W w) (hr : w.rowIs g 3 t.length (fun i => .int .i64 (szT false t i : Int))) : ∃ tb to, a = some ⟨tb, to, none⟩ ∧ TreeIn w t tb to cap g 0 t.length := by
  unfold treeB at ht
  simp at ht
  have hl := (whole_iff.1 ht.2).1
  rcases h with h | ⟨b, off, rfl, hlt, hc⟩
  · rw [h] at hl; simp at hl
  · refine ⟨b, off, rfl, ht.2, ht.1, hcap, hcm, Nat.le_refl _, by unfold maxLen; omega, Nat.lt_of_lt_of_le hlt hb.size, hr.lt, fun i hi => (hb.cell (p := ⟨b, off + i, none⟩) hlt).trans (hc i hi), fun i hi => ?_⟩
    rw [Nat.zero_add]
    exact hr.cell hi
theorem impl_has (x : Value) (a2 : Option Addr) (l2 c2 : Nat) (a : Option Addr) (len cap : Nat) (at0 : Int) (W : World) (hlen : len ≤ 1048576) : Calls Try.prog 31 #[.agg #[.slice a len cap, .slice a2 l2 c2], .int .i64 at0] W fun e W' => e = .returned (.bool (inR at0 0 ((len : Int) - 1))) ∧ Below W.heap.size W W' := by
  go_enter Try.func31, Try.ntmps31
  go_wp2_with (go_at_call 43; refine (impl_between _ _ _ _).mono ?_; rintro e w' ⟨rfl, hw⟩; rw [hw]; clear hw w')
  go_ret
  exact ⟨rfl, by repeat (first | exact Below.refl _ _ | refine Below.drew ?_ | refine Below.setCell ?_ (by simp; try omega) _ | refine Below.alloc ?_ (by simp; try omega) _)⟩
end Go.Proofs.Ytapbfoooflpejaa.walks
