/-
  Lists of steps and of guards are lists of numbers.
-/
import Derived.Test.YtlocdlgbjjbnoaaProg
import Derived.Test.YtlocdlgbjjbnoaaInts
import Derived.Test.YtlocdlgbjjbnoaaDeep
import Derived.Test.YtlocdlgbjjbnoaaDeepRow
import Derived.Test.YtlocdlgbjjbnoaaDeepL
namespace Go.Proofs.Ytlocdlgbjjbnoaa.deep
open Go.RowKit Go.Proofs.Ytlocdlgbjjbnoaa.ints
set_option linter.unusedVariables false

theorem fits_L3 {n : Nat} {cs : Nat → Dv} (h : Fits shLStepS (.l n 3 cs)) (i : Nat) (hi : i < n * 3) : ∃ x, cs i = .n x := by
  have hk : i / 3 < n := by omega
  have e : i / 3 * 3 + i % 3 = i := by omega
  have hc : i % 3 < 3 := Nat.mod_lt _ (by decide)
  have q := h.cell hk hc
  rw [e] at q
  generalize i % 3 = c at q hc
  match c, hc, q with
  | 0, _, q => exact q.int
  | 1, _, q => exact q.int
  | 2, _, q => exact q.int
theorem fits_G4 {n : Nat} {cs : Nat → Dv} (h : Fits shGuardS (.l n 4 cs)) (i : Nat) (hi : i < n * 4) : ∃ x, cs i = .n x := by
  have hk : i / 4 < n := by omega
  have e : i / 4 * 4 + i % 4 = i := by omega
  have hc : i % 4 < 4 := Nat.mod_lt _ (by decide)
  have q := h.cell hk hc
  rw [e] at q
  generalize i % 4 = c at q hc
  match c, hc, q with
  | 0, _, q => exact q.int
  | 1, _, q => exact q.int
  | 2, _, q => exact q.int
  | 3, _, q => exact q.int
end Go.Proofs.Ytlocdlgbjjbnoaa.deep
