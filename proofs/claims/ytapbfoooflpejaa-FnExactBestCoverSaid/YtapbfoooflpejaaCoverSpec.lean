/-
  What the specification's l9Cover answers; it makes new memory alone.
-/
import Derived.Test.YtapbfoooflpejaaProg
import Derived.Test.YtapbfoooflpejaaMagMath
import Derived.Test.YtapbfoooflpejaaTreeMath
import Derived.Test.YtapbfoooflpejaaFitMath
import Derived.Test.YtapbfoooflpejaaCoverMath
import Derived.Test.YtapbfoooflpejaaFitSpec
import Derived.Test.YtapbfoooflpejaaTreeSpec
import Derived.Test.YtapbfoooflpejaaPatSpec
import Derived.Test.YtapbfoooflpejaaInts
import Derived.Test.YtapbfoooflpejaaOwnInts
import Derived.Test.YtapbfoooflpejaaPats
import Derived.WalkKit
import Derived.WalkSpells
import Derived.Below
import Derived.Handy
import Derived.Deep.QuietTactic
import Derived.BigQuiet
import Derived.Deep.RegionHeld3
namespace Go.Proofs.Ytapbfoooflpejaa.walks
open Go.RowKit Go.Proofs.Ytapbfoooflpejaa.math Go.Proofs.Ytapbfoooflpejaa.ints
set_option linter.unusedVariables false
set_option maxRecDepth 100000

/-- A tree, patterns and pieces in memory. -/
structure CovM (W : World) (ta : Option Addr) (t : List Int) (la : Option Addr) (n : Nat) (f : Nat → Pv) (pb po len : Nat) (z : List Int) : Prop where
  tree : Ints W ta t
  pats : Pats W la n f
  lt : 0 < len → pb < W.heap.size
  cell : ∀ q, q < len * 2 → W.cell? ⟨pb, po + q, none⟩ = some (.int .i64 (z.getD q 0))
theorem CovM.kept {W W' : World} {ta : Option Addr} {t : List Int} {la : Option Addr} {n : Nat} {f : Nat → Pv} {pb po len : Nat} {z : List Int} (h : CovM W ta t la n f pb po len z) (hb : Below W.heap.size W W') : CovM W' ta t la n f pb po len z :=
  ⟨h.tree.kept hb, h.pats.kept hb, fun h0 => Nat.lt_of_lt_of_le (h.lt h0) hb.size, fun q hq => (hb.cell (p := ⟨pb, po + q, none⟩) (h.lt (by omega))).trans (h.cell q hq)⟩
theorem piece_no1 {t : List Int} {f : Nat → Pv} {n a : Nat} {x y : Int} (h : x ≠ (a : Int)) : pieceO t f n x y a = none := by unfold pieceO; rw [if_neg (fun q => h q.1)]
theorem piece_no2 {t : List Int} {f : Nat → Pv} {n a : Nat} {x y : Int} (h : y < 0) : pieceO t f n x y a = none := by unfold pieceO; rw [if_neg (fun q => by omega)]
theorem piece_no3 {t : List Int} {f : Nat → Pv} {n a : Nat} {x y : Int} (h : (n : Int) ≤ y) : pieceO t f n x y a = none := by unfold pieceO; rw [if_neg (fun q => by omega)]
theorem piece_yes {t : List Int} {f : Nat → Pv} {n a : Nat} {y : Nat} (h : y < n) : pieceO t f n (a : Int) (y : Int) a = fitL t (f y).zs a := by unfold pieceO; rw [if_pos ⟨rfl, by omega, by omega⟩]; rfl
theorem covN_none (i : Nat) : covN none i = 0 := rfl
theorem fit_lenS {t p : List Int} {at0 : Nat} {hs : List Nat} (hf : fitL t p at0 = some hs) : hs.length ≤ p.length := by
  induction p generalizing at0 hs with
  | nil => simp [fitL] at hf; subst hf; simp
  | cons k ks ih =>
    simp only [fitL] at hf
    split at hf
    · cases q : fitL t ks (at0 + szT false t at0) with
      | none => rw [q] at hf; cases hf
      | some hs' =>
        rw [q] at hf
        simp at hf
        subst hf
        have := ih q
        simp
        exact this
    · split at hf
      · have := ih hf
        simp
        omega
      · cases hf
end Go.Proofs.Ytapbfoooflpejaa.walks
