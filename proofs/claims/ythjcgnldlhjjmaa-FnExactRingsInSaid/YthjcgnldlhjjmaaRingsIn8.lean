/-
  What the program's RingsIn answers, at all moves; it makes new memory alone.
-/
import Derived.Test.YthjcgnldlhjjmaaProg
import Derived.Test.YthjcgnldlhjjmaaRowMath
import Derived.Test.YthjcgnldlhjjmaaInts
import Derived.Test.YthjcgnldlhjjmaaOwnLists
import Derived.Test.YthjcgnldlhjjmaaOwnMoves
import Derived.Test.YthjcgnldlhjjmaaArrs
import Derived.Test.YthjcgnldlhjjmaaSources
import Derived.Test.YthjcgnldlhjjmaaRowsImpl
import Derived.Test.YthjcgnldlhjjmaaRingsSpec
import Derived.Test.YthjcgnldlhjjmaaRingsImpl
import Derived.WalkKit
import Derived.WalkSpells
import Derived.Below
import Derived.Handy
namespace Go.Proofs.Ythjcgnldlhjjmaa.walks
open Go.RowKit Go.Proofs.Ythjcgnldlhjjmaa.math Go.Proofs.Ythjcgnldlhjjmaa.ints Go.Proofs.Ythjcgnldlhjjmaa.lists
set_option linter.unusedVariables false
set_option maxRecDepth 100000

set_option maxHeartbeats 2000000 in
theorem impl_ringsin (a : Option Addr) (len cap : Nat) (zs : List Int) (W : World) (hz : Hid (zs.length = len * 2)) (hlen : len ≤ 1048576) (h : Hid (Ints W a zs)) :
    Calls Try.prog 27 #[.slice a len cap] W (SpecR (movesB zs len) (rowS zs len 10) W) := by
  go_enter Try.func27, Try.ntmps27
  go_wp2_with fail
  refine (impl_rows _ _ _ zs _ hz hlen h).mono ?_
  rintro e w1 ⟨hB, hm⟩
  have HB1 : Hid (Below W.heap.size W w1) := hB
  clear hB
  rcases hm with ⟨hm, c1, v, m, hc1, _, rfl⟩ | ⟨hm, c1, hc1, rfl⟩
  rotate_left
  · have HM : Hid (movesB zs len = false) := hm
    have HC1 : Hid (IsArr c1 10 (fun _ => 0)) := hc1
    clear hm hc1
    go_wp2_with (first
      | (refine wpList_store_row rfl 52 _ _ rfl w1.heap.size c1 rfl rfl 52 #[.int .i64 0, .int .i64 0, .int .i64 0, .int .i64 0, .int .i64 0, .int .i64 0, .int .i64 0, .int .i64 0, .int .i64 0, .int .i64 0] (heap_alloc_last w1 _) (src_info HC1.out) HC1.out.size.symm HC1.out.one ?_; rw [World.setRow_alloc_new])
      | go_in)
    go_ret2
    exact ⟨HB1.out.alloc HB1.out.size _, Or.inr ⟨HM.out, rfl⟩⟩
  have HM : Hid (movesB zs len = true) := hm
  have HG : Hid (GoodM zs len) := (moves_out hm).2
  have HC1 : Hid (IsArr c1 10 (fun i => rowS zs len 10 (i : Int))) := hc1
  have HB2 : Hid (Below W.heap.size W (w1.alloc (.cells c1 52))) := HB1.out.alloc HB1.out.size _
  clear hm hc1
  go_wp2_with (first
    | (refine wpList_store_row rfl 52 _ _ rfl w1.heap.size c1 rfl rfl 52 #[.int .i64 0, .int .i64 0, .int .i64 0, .int .i64 0, .int .i64 0, .int .i64 0, .int .i64 0, .int .i64 0, .int .i64 0, .int .i64 0] (heap_alloc_last w1 _) (src_info HC1.out) HC1.out.size.symm HC1.out.one ?_; rw [World.setRow_alloc_new])
    | (refine wpList_load_row rfl 52 _ rfl w1.heap.size rfl 52 c1 (0, 0) _ (heap_alloc_last w1 _) Try.underlying52 rfl (src_info HC1.out) ?_)
    | (go_at_call 43; refine park9 ?_))
  unfold Hid
  refine (impl_rings c1 (rowS zs len 10) _ HC1 (row_inv HG.out 10).cl (row_inv HG.out 10).pl (fin_wait HG.out)).mono ?_
  rintro e w2 ⟨u, X, rfl, hO, hB⟩
  have HA : Hid (SpecR (movesB zs len) (rowS zs len 10) W (.returned (.tuple #[u, .bool true])) w2) := ⟨HB2.out.trans (hB.mono HB2.out.size), Or.inl ⟨HM.out, u, X, rfl, ownL_low hO HB2.out.size⟩⟩
  clear hO hB
  go_wp2
  go_ret2
  exact HA.out
end Go.Proofs.Ythjcgnldlhjjmaa.walks
