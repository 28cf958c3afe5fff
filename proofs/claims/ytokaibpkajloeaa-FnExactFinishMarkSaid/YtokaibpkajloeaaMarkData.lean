/-
  A marker's data: shapes and sizes.
-/
import Derived.Test.YtokaibpkajloeaaDeep
import Derived.Test.YtokaibpkajloeaaDeepRow
import Derived.Test.YtokaibpkajloeaaDeepM
import Derived.Test.YtokaibpkajloeaaMarkMath
namespace Go.Proofs.Ytokaibpkajloeaa.math
open Go.Proofs.Ytokaibpkajloeaa.deep
set_option linter.unusedVariables false

theorem cell_fits (s : Mst) (n : Nat) : Fits shCellS (.l n 3 (cellD s)) := by
  refine ⟨rfl, fun i hi => ?_⟩
  unfold cellD
  rcases (show i % 3 = 0 ∨ i % 3 = 1 ∨ i % 3 = 2 by omega) with q | q | q
  · rw [q, if_pos rfl]
    exact ⟨rfl, fun j hj => trivial⟩
  · rw [q, if_neg (by decide), if_pos rfl]
    trivial
  · rw [q, if_neg (by decide), if_neg (by decide)]
    trivial
theorem root_fits (s : Mst) (n : Nat) : Fits shI (.l n 1 (rootD s)) := ⟨rfl, fun i hi => trivial⟩
theorem cell_size (s : Mst) {n : Nat} (h : n ≤ 10) : szD (.l n 3 (cellD s)) ≤ 100000 := by
  have q : sumTo (fun i => szD (cellD s i)) (n * 3) ≤ sumTo (fun _ => 2) (n * 3) := sumTo_le _ (fun i hi => by
    unfold cellD
    split
    · show 2 + sumTo (fun j => szD (Dv.n _)) (2 * 1) ≤ 2
      simp [sumTo, szD]
    · split
      · show 0 ≤ 2; omega
      · show 0 ≤ 2; omega)
  rw [sumTo_const] at q
  show n + _ ≤ _
  omega
theorem root_size (s : Mst) : szD (.l 2 1 (rootD s)) ≤ 100000 := by
  show 2 + sumTo (fun j => szD (rootD s j)) (2 * 1) ≤ 100000
  simp [sumTo, szD, rootD]
end Go.Proofs.Ytokaibpkajloeaa.math
