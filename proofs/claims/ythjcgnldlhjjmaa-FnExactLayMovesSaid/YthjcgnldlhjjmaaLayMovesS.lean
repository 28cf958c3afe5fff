/-
  What the specification's LayMoves and FewestMoves answer, at all moves; they make new memory alone.
-/
import Derived.Test.YthjcgnldlhjjmaaProg
import Derived.Test.YthjcgnldlhjjmaaLeftMath
import Derived.Test.YthjcgnldlhjjmaaInts
import Derived.Test.YthjcgnldlhjjmaaOwnMoves
import Derived.Test.YthjcgnldlhjjmaaRecsMove
import Derived.Test.YthjcgnldlhjjmaaGoodSpec
import Derived.Test.YthjcgnldlhjjmaaRingsSpec
import Derived.Test.YthjcgnldlhjjmaaLaySpec
import Derived.WalkKit
import Derived.WalkSpells
import Derived.Below
import Derived.Handy
namespace Go.Proofs.Ythjcgnldlhjjmaa.walks
open Go.RowKit Go.Proofs.Ythjcgnldlhjjmaa.math Go.Proofs.Ythjcgnldlhjjmaa.ints
set_option linter.unusedVariables false
set_option maxRecDepth 100000

/-- What LayMoves answers. -/
def LaysAns (zs : List Int) (len : Nat) (W : World) (e : Ending) (W' : World) : Prop :=
  Below W.heap.size W W' ∧ ((movesB zs len = true ∧ ∃ v m, e = .returned (.tuple #[v, .bool true]) ∧ OwnM W' W.heap.size v m (laidL zs len)) ∨ (movesB zs len = false ∧ e = .returned (.tuple #[.slice none 0 0, .bool false])))
set_option maxHeartbeats 1000000 in
theorem spec_laymoves (a : Option Addr) (len cap : Nat) (zs : List Int) (W : World) (hz : Hid (zs.length = len * 2)) (hlen : len ≤ 1048576) (hcap : len ≤ cap) (hcm : cap ≤ maxLen) (h : Hid (Ints W a zs)) :
    Calls Try.prog 23 #[.slice a len cap] W (LaysAns zs len W) := by
  go_enter Try.func23, Try.ntmps23
  go_wp2_with fail
  refine (spec_good8 _ _ _ zs _ hz hlen hcap hcm h).mono ?_
  cases hm : movesB zs len
  · rintro e w1 ⟨rfl, hB⟩
    have HB : Hid (Below W.heap.size W w1) := hB
    have HM : Hid (movesB zs len = false) := hm
    clear hB hm
    go_wp2
    go_ret2
    exact ⟨HB.out, Or.inr ⟨HM.out, rfl⟩⟩
  · rintro e w1 ⟨rfl, hB⟩
    have HB : Hid (Below W.heap.size W w1) := hB
    have HM : Hid (movesB zs len = true) := hm
    obtain ⟨h10, hg⟩ := moves_out hm
    have HG : Hid (GoodM zs len) := hg
    clear hB hm hg
    go_wp2_with fail
    refine (spec_lay _ _ _ zs _ hz h10 HG (h.out.kept HB.out)).mono ?_
    rintro e w2 ⟨v, m, rfl, hO, hB⟩
    have HA : Hid (LaysAns zs len W (.returned (.tuple #[v, .bool true])) w2) := ⟨HB.out.trans (hB.mono HB.out.size), Or.inl ⟨HM.out, v, m, rfl, hO.low HB.out.size⟩⟩
    clear hO hB
    go_wp2
    go_ret2
    exact HA.out
end Go.Proofs.Ythjcgnldlhjjmaa.walks
