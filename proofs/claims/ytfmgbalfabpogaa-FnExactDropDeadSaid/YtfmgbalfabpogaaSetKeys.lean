/-
  The keys of a set's datum, sorted: its members, rising.
-/
import Derived.Test.YtfmgbalfabpogaaSetMath
import Derived.Lib.SlKeysI
namespace Go.Proofs.Ytfmgbalfabpogaa.math
open Go Go.Maps
set_option linter.unusedVariables false

theorem sd_keys (f : Nat → Bool) : intKeys (setD f) = listS f := by
  unfold setD setE listS
  show List.map (fun (p : Lit × DataW Unit) => intOf p.1) (List.map _ _) = _
  rw [List.map_map]
  rfl
theorem sorted_keys {f : Nat → Bool} {ss : List Int} (h : ss.Perm (intKeys (setD f))) : ss.mergeSort (fun x y => decide (x ≤ y)) = listS f := by
  rw [sd_keys] at h
  have := mergeSort_of_perm_i h
  refine Eq.trans this ?_
  exact List.mergeSort_of_pairwise (listS_sorted f)
end Go.Proofs.Ytfmgbalfabpogaa.math
