/-
  What the specification's LayMoves and FewestMoves answer, at all moves; they make new memory alone.
-/
import Derived.Test.YthjcgnldlhjjmabProg
import Derived.Test.YthjcgnldlhjjmabLeftMath
import Derived.Test.YthjcgnldlhjjmabInts
import Derived.Test.YthjcgnldlhjjmabOwnMoves
import Derived.Test.YthjcgnldlhjjmabRecsMove
import Derived.Test.YthjcgnldlhjjmabGoodSpec
import Derived.Test.YthjcgnldlhjjmabRingsSpec
import Derived.Test.YthjcgnldlhjjmabLaySpec
import Derived.WalkKit
import Derived.WalkSpells
import Derived.Below
import Derived.Handy
namespace Go.Proofs.Ythjcgnldlhjjmab.walks
open Go.RowKit Go.Proofs.Ythjcgnldlhjjmab.math Go.Proofs.Ythjcgnldlhjjmab.ints
set_option linter.unusedVariables false
set_option maxRecDepth 100000

/-- What LayMoves answers. -/
def LaysAns (zs : List Int) (len : Nat) (W : World) (e : Ending) (W' : World) : Prop :=
  Below W.heap.size W W' ∧ ((movesB zs len = true ∧ ∃ v m, e = .returned (.tuple #[v, .bool true]) ∧ OwnM W' W.heap.size v m (laidL zs len)) ∨ (movesB zs len = false ∧ e = .returned (.tuple #[.slice none 0 0, .bool false])))
/-- What FewestMoves answers. -/
def FewAns (zs : List Int) (len : Nat) (W : World) (e : Ending) (W' : World) : Prop :=
  e = .returned (.tuple #[.int .i64 (if movesB zs len = true then ((laidL zs len).length / 2 : Nat) else 0), .bool (movesB zs len)]) ∧ Below W.heap.size W W'
set_option maxHeartbeats 1000000 in
theorem spec_few (a : Option Addr) (len cap : Nat) (zs : List Int) (W : World) (hz : Hid (zs.length = len * 2)) (hlen : len ≤ 1048576) (hcap : len ≤ cap) (hcm : cap ≤ maxLen) (h : Hid (Ints W a zs)) :
    Calls Try.prog 5 #[.slice a len cap] W (FewAns zs len W) := by
  go_enter Try.func5, Try.ntmps5
  go_wp2_with fail
  refine (spec_good8 _ _ _ zs _ hz hlen hcap hcm h).mono ?_
  cases hm : movesB zs len
  · rintro e w1 ⟨rfl, hB⟩
    have HB : Hid (Below W.heap.size W w1) := hB
    have HM : Hid (movesB zs len = false) := hm
    clear hB hm
    have HA : Hid (FewAns zs len W (.returned (.tuple #[.int .i64 0, .bool false])) w1) := ⟨by rw [HM.out]; rfl, HB.out⟩
    go_wp2
    go_ret2
    exact HA.out
  · rintro e w1 ⟨rfl, hB⟩
    have HB : Hid (Below W.heap.size W w1) := hB
    have HM : Hid (movesB zs len = true) := hm
    obtain ⟨h10, hg⟩ := moves_out hm
    have HG : Hid (GoodM zs len) := hg
    clear hB hm hg
    go_wp2_with fail
    refine (spec_lay _ _ _ zs _ hz h10 HG (h.out.kept HB.out)).mono ?_
    rintro e w2 ⟨v, m, rfl, hO, hB⟩
    obtain ⟨va, vc, hv, _, _, _⟩ := hO.mine
    subst hv
    have HL : Hid ((laidL zs len).length / 2 = m) := by have := hO.len; show _ = _; omega
    have HB2 : Hid (Below W.heap.size W w2) := HB.out.trans (hB.mono HB.out.size)
    clear hO hB
    have HA : Hid (FewAns zs len W (.returned (.tuple #[.int .i64 (m : Int), .bool true])) w2) := ⟨by rw [HM.out, if_pos rfl, HL.out], HB2.out⟩
    go_wp2
    go_ret2
    exact HA.out
theorem spec_fewest (a : Option Addr) (len cap : Nat) (zs : List Int) (W : World) (hz : Hid (zs.length = len * 2)) (hlen : len ≤ 1048576) (hcap : len ≤ cap) (hcm : cap ≤ maxLen) (h : Hid (Ints W a zs)) :
    Calls Try.prog 5 #[.slice a len cap] W fun e W' => e = .returned (.tuple #[.int .i64 (if movesB zs len = true then ((laidL zs len).length / 2 : Nat) else 0), .bool (movesB zs len)]) ∧ Below W.heap.size W W' :=
  (spec_few a len cap zs W hz hlen hcap hcm h).mono fun _ _ q => q
end Go.Proofs.Ythjcgnldlhjjmab.walks
