/-
  Lists of cells are lists of numbers.
-/
import Derived.Test.YtbjfhcbgghpdaaaProg
import Derived.Test.YtbjfhcbgghpdaaaInts
import Derived.Test.YtbjfhcbgghpdaaaDeep
import Derived.Test.YtbjfhcbgghpdaaaDeepRow
import Derived.Test.YtbjfhcbgghpdaaaDeepX
namespace Go.Proofs.Ytbjfhcbgghpdaaa.deep
open Go.RowKit Go.Proofs.Ytbjfhcbgghpdaaa.ints
set_option linter.unusedVariables false

theorem fits_X2 {n : Nat} {cs : Nat → Dv} (h : Fits shXCellS (.l n 2 cs)) (i : Nat) (hi : i < n * 2) : ∃ x, cs i = .n x := by
  have hk : i / 2 < n := by omega
  have e : i / 2 * 2 + i % 2 = i := by omega
  have hc : i % 2 < 2 := Nat.mod_lt _ (by decide)
  have q := h.cell hk hc
  rw [e] at q
  generalize i % 2 = c at q hc
  match c, hc, q with
  | 0, _, q => exact q.int
  | 1, _, q => exact q.int
end Go.Proofs.Ytbjfhcbgghpdaaa.deep
