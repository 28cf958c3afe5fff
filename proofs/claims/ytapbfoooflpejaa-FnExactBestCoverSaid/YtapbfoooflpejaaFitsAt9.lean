/-
  What FitsAt answers on both sides; they make new memory alone.
-/
import Derived.Test.YtapbfoooflpejaaProg
import Derived.Test.YtapbfoooflpejaaMagMath
import Derived.Test.YtapbfoooflpejaaTreeMath
import Derived.Test.YtapbfoooflpejaaFitMath
import Derived.Test.YtapbfoooflpejaaFitSpec
import Derived.Test.YtapbfoooflpejaaHolesImpl
import Derived.Test.YtapbfoooflpejaaTreeSpec
import Derived.Test.YtapbfoooflpejaaTreeImpl
import Derived.Test.YtapbfoooflpejaaPatSpec
import Derived.Test.YtapbfoooflpejaaPatImpl
import Derived.Test.YtapbfoooflpejaaTilesImpl
import Derived.Test.YtapbfoooflpejaaInts
import Derived.Test.YtapbfoooflpejaaOwnInts
import Derived.WalkKit
import Derived.WalkSpells
import Derived.Below
import Derived.Handy
import Derived.Laws.EntriesVeiled
namespace Go.Proofs.Ytapbfoooflpejaa.walks
open Go.RowKit Go.Proofs.Ytapbfoooflpejaa.math Go.Proofs.Ytapbfoooflpejaa.ints
set_option linter.unusedVariables false
set_option maxRecDepth 100000

/-- The place is one of the tree's. -/
def placeB (t : List Int) (at0 : Int) : Bool := inR at0 0 ((t.length : Int) - 1)
def FitsGood (t p : List Int) (c at0 : Int) : Bool := treeB t && placeB t at0 && patB p c
/-- What FitsAt answers. -/
structure FitsR where
  fits : Bool
  hs : List Nat
  good : Bool
def fitsR (t p : List Int) (c at0 : Int) : FitsR := if FitsGood t p c at0 then (match fitL t p at0.toNat with | none => ⟨false, [], true⟩ | some hs => ⟨true, hs, true⟩) else ⟨false, [], false⟩
def FitsAns (r : FitsR) (W : World) (e : Ending) (W' : World) : Prop := ∃ a cp, e = .returned (.tuple #[.bool r.fits, .slice a r.hs.length cp, .bool r.good]) ∧ r.hs.length ≤ 10 ∧ Mine W' W.heap.size a (asI r.hs) ∧ Below W.heap.size W W'
theorem fits_bad {t p : List Int} {c at0 : Int} (h : FitsGood t p c at0 = false) : fitsR t p c at0 = ⟨false, [], false⟩ := by unfold fitsR; rw [h]; rfl
theorem fits_no {t p : List Int} {c at0 : Int} (h : FitsGood t p c at0 = true) (hf : fitL t p at0.toNat = none) : fitsR t p c at0 = ⟨false, [], true⟩ := by unfold fitsR; rw [h, hf]; rfl
theorem fits_yes {t p : List Int} {c at0 : Int} {hs : List Nat} (h : FitsGood t p c at0 = true) (hf : fitL t p at0.toNat = some hs) : fitsR t p c at0 = ⟨true, hs, true⟩ := by unfold fitsR; rw [h, hf]; rfl
theorem mine_nil9 (W : World) (B : Nat) (a : Option Addr) : Mine W B a (asI []) := Or.inl rfl
theorem fit_len {t p : List Int} {at0 : Nat} {hs : List Nat} (hf : fitL t p at0 = some hs) : hs.length ≤ p.length := by
  induction p generalizing at0 hs with
  | nil => simp [fitL] at hf; subst hf; simp
  | cons k ks ih =>
    simp only [fitL] at hf
    split at hf
    · cases q : fitL t ks (at0 + szT false t at0) with
      | none => rw [q] at hf; cases hf
      | some hs' =>
        rw [q] at hf
        simp at hf
        subst hf
        have := ih q
        simp
        exact this
    · split at hf
      · have := ih hf
        simp
        omega
      · cases hf
end Go.Proofs.Ytapbfoooflpejaa.walks
