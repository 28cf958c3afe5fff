/-
  What the specification's NamesSet answers, at every list of steps.
-/
import Derived.Test.YtfmgbalfabpogaaProg
import Derived.Test.YtfmgbalfabpogaaMagMath
import Derived.Test.YtfmgbalfabpogaaCodeMath
import Derived.Test.YtfmgbalfabpogaaRunMath
import Derived.Test.YtfmgbalfabpogaaNamesMath
import Derived.Test.YtfmgbalfabpogaaInts
import Derived.Test.YtfmgbalfabpogaaOwnInts
import Derived.Test.YtfmgbalfabpogaaRecsInstr
import Derived.Test.YtfmgbalfabpogaaCodeGood
import Derived.Test.YtfmgbalfabpogaaPutSpec
import Derived.WalkKit
import Derived.WalkSpells
import Derived.Below
import Derived.Handy
namespace Go.Proofs.Ytfmgbalfabpogaa.walks
open Go.RowKit Go.Proofs.Ytfmgbalfabpogaa.math Go.Proofs.Ytfmgbalfabpogaa.ints
set_option linter.unusedVariables false

theorem spec_put (v : Value) (zs : List Int) (n : Int) (W : World) (h : LRow W v zs) (hl : zs.length ≤ 1000) : Calls Try.prog 54 #[v, .int .i64 n] W fun e W' => PutAns W (putL zs n) e W' := by
  rcases h with ⟨rfl, rfl⟩ | ⟨b, off, cap, rfl, hc, hb, hx⟩
  · exact put_nil n W
  · exact put_some b off cap zs.length (putK zs n) zs n W rfl hc hl hb rfl hx
theorem rising_congr {f g : Nat → Bool} : ∀ k, (∀ i, i < k → f i = g i) → risingTo f k = risingTo g k
  | 0, _ => rfl
  | k + 1, h => by
    simp only [risingTo]
    rw [rising_congr k (fun i hi => h i (by omega)), h k (by omega)]
/-- What NamesSet and NamesNeeded answer, the names being f's. -/
def NamesAns (c : Bool) (ns : List Int) (W : World) (e : Ending) (W' : World) : Prop :=
  (c = true ∧ (∃ v, e = .returned (.tuple #[v, .bool true]) ∧ LRow W' v ns) ∧ Below W.heap.size W W') ∨ (c = false ∧ e = .returned (.tuple #[.slice none 0 0, .bool false]) ∧ Below W.heap.size W W')
theorem set_out {zs : List Int} {k : Nat} (h : zs.getD (k * 5) 0 = 8) : risingTo (setTo zs (k + 1)) 8 = risingTo (setTo zs k) 8 :=
  rising_congr 8 (fun i _ => by unfold setTo; rw [h]; simp <;> cases k <;> rfl)
theorem set_put {zs : List Int} {k dn : Nat} (h : zs.getD (k * 5) 0 ≠ 8) (hd : zs.getD (k * 5 + 1) 0 = (dn : Int)) (h8 : dn < 8) : putL (risingTo (setTo zs k) 8) (dn : Int) = risingTo (setTo zs (k + 1)) 8 := by
  rw [put_rising _ h8]
  refine rising_congr 8 (fun i _ => ?_)
  have e : (zs.getD (k * 5) 0 == 8) = false := by simpa using h
  show _ = (setTo zs k i || (!(zs.getD (k * 5) 0 == 8) && i == (zs.getD (k * 5 + 1) 0).toNat))
  rw [e, hd]
  simp
theorem good_dst {o d a b n : Int} (h : goodI o d a b n = true) (h8 : o ≠ 8) : 0 ≤ d ∧ d ≤ 7 := by
  rcases good_cases h with ⟨_, e, _⟩ | ⟨_, e, _⟩ | ⟨e, _⟩ | ⟨_, e, _⟩
  · exact e
  · exact e
  · exact absurd e h8
  · exact e
end Go.Proofs.Ytfmgbalfabpogaa.walks
