/-
  What the program's FewestMoves answers, at all moves; it makes new memory alone.
-/
import Derived.Test.YthjcgnldlhjjmabProg
import Derived.Test.YthjcgnldlhjjmabInts
import Derived.Test.YthjcgnldlhjjmabOwnMoves
import Derived.Test.YthjcgnldlhjjmabGoodSpec
import Derived.Test.YthjcgnldlhjjmabLayMovesS
import Derived.Test.YthjcgnldlhjjmabLayImpl
import Derived.WalkKit
import Derived.WalkSpells
import Derived.Below
import Derived.Handy
namespace Go.Proofs.Ythjcgnldlhjjmab.walks
open Go.RowKit Go.Proofs.Ythjcgnldlhjjmab.math Go.Proofs.Ythjcgnldlhjjmab.ints
set_option linter.unusedVariables false
set_option maxRecDepth 100000

set_option maxHeartbeats 1000000 in
theorem impl_few (a : Option Addr) (len cap : Nat) (zs : List Int) (W : World) (hz : Hid (zs.length = len * 2)) (hlen : len ≤ 1048576) (h : Hid (Ints W a zs)) :
    Calls Try.prog 7 #[.slice a len cap] W (FewAns zs len W) := by
  go_enter Try.func7, Try.ntmps7
  go_wp2_with fail
  refine (impl_laymoves _ _ _ zs _ hz hlen h).mono ?_
  rintro e w1 ⟨hB, (⟨hm, v, m, rfl, hO⟩ | ⟨hm, rfl⟩)⟩
  · obtain ⟨va, vc, hv, _, _, _⟩ := hO.mine
    subst hv
    have HM : Hid (movesB zs len = true) := hm
    have HL : Hid ((laidL zs len).length / 2 = m) := by have := hO.len; show _ = _; omega
    have HB : Hid (Below W.heap.size W w1) := hB
    clear hO hB hm
    have HA : Hid (FewAns zs len W (.returned (.tuple #[.int .i64 (m : Int), .bool true])) w1) := ⟨by rw [HM.out, if_pos rfl, HL.out], HB.out⟩
    go_wp2
    go_ret2
    exact HA.out
  · have HM : Hid (movesB zs len = false) := hm
    have HB : Hid (Below W.heap.size W w1) := hB
    clear hB hm
    have HA : Hid (FewAns zs len W (.returned (.tuple #[.int .i64 0, .bool false])) w1) := ⟨by rw [HM.out]; rfl, HB.out⟩
    go_wp2
    go_ret2
    exact HA.out
theorem impl_fewest (a : Option Addr) (len cap : Nat) (zs : List Int) (W : World) (hz : Hid (zs.length = len * 2)) (hlen : len ≤ 1048576) (h : Hid (Ints W a zs)) :
    Calls Try.prog 7 #[.slice a len cap] W fun e W' => e = .returned (.tuple #[.int .i64 (if movesB zs len = true then ((laidL zs len).length / 2 : Nat) else 0), .bool (movesB zs len)]) ∧ Below W.heap.size W W' :=
  (impl_few a len cap zs W hz hlen h).mono fun _ _ q => q
end Go.Proofs.Ythjcgnldlhjjmab.walks
