/-
  What the program's MayRaise answers.
-/
import Derived.Test.YtbjfhcbgghpdaaaProg
import Derived.Test.YtbjfhcbgghpdaaaMagMath
import Derived.Test.YtbjfhcbgghpdaaaInts
import Derived.Test.YtbjfhcbgghpdaaaOwnInts
import Derived.Test.YtbjfhcbgghpdaaaDeep
import Derived.Test.YtbjfhcbgghpdaaaDeepRow
import Derived.Test.YtbjfhcbgghpdaaaNamesMath
import Derived.Test.YtbjfhcbgghpdaaaTreeMath16
import Derived.Test.YtbjfhcbgghpdaaaMayMath16
import Derived.Test.YtbjfhcbgghpdaaaLineMath
import Derived.Test.YtbjfhcbgghpdaaaLineStep
import Derived.Test.YtbjfhcbgghpdaaaDeepGrow
import Derived.Test.YtbjfhcbgghpdaaaOwnMath
import Derived.Test.YtbjfhcbgghpdaaaPutSpec
import Derived.Test.YtbjfhcbgghpdaaaTreeMem16
import Derived.Test.YtbjfhcbgghpdaaaCellBase16
import Derived.Test.YtbjfhcbgghpdaaaReadSpec16
import Derived.Test.YtbjfhcbgghpdaaaTreeSpec16
import Derived.Test.YtbjfhcbgghpdaaaFromImpl16
import Derived.Test.YtbjfhcbgghpdaaaCodeTree16
import Derived.Test.YtbjfhcbgghpdaaaMarksB16
import Derived.Test.YtbjfhcbgghpdaaaMaySpec16
import Derived.Test.YtbjfhcbgghpdaaaMayImpl16
import Derived.Deep.RegionWith
import Derived.Deep.RegionHeld3
import Derived.WalkKit
import Derived.WalkSpells
import Derived.Below
import Derived.Handy
import Derived.OwnWalk
import Derived.ChangeKeysEq
import Derived.Laws.StructEq
import Derived.Deep.OwnRows
import Derived.Deep.WholeRow
import Derived.Laws.Rows
import Derived.Laws.Tables
import Derived.Laws.CopyOwn
import Derived.Laws.ResultCell
import Derived.Deep.DeepFit
import Derived.Deep.DeepCutAuto
namespace Go.Proofs.Ytbjfhcbgghpdaaa.walks
open Go.RowKit Go.Proofs.Ytbjfhcbgghpdaaa.math Go.Proofs.Ytbjfhcbgghpdaaa.ints Go.Proofs.Ytbjfhcbgghpdaaa.deep
set_option linter.unusedVariables false
set_option maxRecDepth 100000

set_option linter.unusedSimpArgs false

theorem own_low_16 {w : World} {B B' : Nat} {v : Value} {zs : List Int} (h : Own w B v zs) (hB : B' ≤ B) : Own w B' v zs := by
  refine ⟨h.1, ?_⟩
  rcases h.2 with q | ⟨g, cap, cur, e, hg, r⟩
  · exact Or.inl q
  · exact Or.inr ⟨g, cap, cur, e, Nat.le_trans hB hg, r⟩
def MRIm (W : World) (R : Option XT) (e : Ending) (W' : World) : Prop := ∃ v, e = .returned (.tuple #[v, .bool R.isSome]) ∧ Own W' W.heap.size v (mayL R) ∧ Below W.heap.size W W'
theorem mayL_few (R : Option XT) : (mayL R).length ≤ 10 := by
  cases R with
  | none => exact Nat.zero_le _
  | some t => exact rising_len _ _
set_option maxHeartbeats 4000000 in
theorem impl_mayraise (a : Option Addr) (len cap : Nat) (zs : List Int) (W : World) (hz : Hid (zs.length = len * 2)) (hc1 : len ≤ cap) (hc2 : cap ≤ 1048576) (h : Hid (Ints W a zs)) (R : Option XT) (HR : Hid (treeX (kdX zs) (nnX zs) len = R)) :
    Calls Try.prog 20 #[.slice a len cap] W fun e W' => MRIm W R e W' := by
  have ht := impl_tree a len cap zs W hz hc1 hc2 h R HR
  cases hr : R with
  | none =>
    rw [hr] at ht
    go_enter Try.func20, Try.ntmps20
    go_wp2_with (go_at_call 27; refine ht.mono ?_; rintro e w2 ⟨hB, k, n, la, l, lc, rfl, hh⟩; have HB : Hid (Below W.heap.size W w2) := hB; clear hB hh)
    go_ret2
    exact ⟨_, rfl, own_nil _ _, HB.out.alloc HB.out.size _⟩
  | some t =>
    have hw : WfX t := treeX_wf (HR.out.trans hr)
    rw [hr] at ht
    go_enter Try.func20, Try.ntmps20
    go_upto_region 2 with (go_at_call 27; refine ht.mono ?_; rintro e w2 ⟨hB, k, n, la, l, lc, rfl, hh⟩; obtain ⟨rfl, rfl, rfl, F, hO, hF⟩ := hh t rfl; have HB : Hid (Below W.heap.size W w2) := hB; have HO : Hid (Holds w2 false (kidsD t) (.slice la t.kids.length lc)) := hO.holds; clear hB hh hO hF)
    obtain ⟨Y, hY⟩ : ∃ Y, Hid (w2.alloc (.cells #[.int .i64 t.kind, .int .i64 t.num, .slice la t.kids.length lc] 62) = Y) := ⟨_, rfl⟩
    have HY : Hid (Below w2.heap.size w2 Y) := by show Below _ _ _; rw [← hY.out]; exact (Below.refl _ _).alloc (Nat.le_refl _) _
    have RY : Hid (Y.rowIs w2.heap.size 62 3 (rowF [.int .i64 t.kind, .int .i64 t.num, .slice la t.kids.length lc])) := by rw [← hY.out]; exact row_of w2 _ _
    have hm := impl_maym t hw Y la lc (HO.out.kept HY.out)
    have HBY : Hid (Below W.heap.size W Y) := HB.out.trans (HY.out.mono HB.out.size)
    rw [hY.out]
    clear hY
    have y0 : Y.cell? ⟨w2.heap.size, 0, none⟩ = some (.int .i64 t.kind) := RY.out.cell (i := 0) (by decide)
    have y1 : Y.cell? ⟨w2.heap.size, 1, none⟩ = some (.int .i64 t.num) := RY.out.cell (i := 1) (by decide)
    have y2 : Y.cell? ⟨w2.heap.size, 2, none⟩ = some (.slice la t.kids.length lc) := RY.out.cell (i := 2) (by decide)
    have yl := RY.out.lt
    go_wp2_with (first
      | (go_at_call 44; refine hm.mono ?_; rintro e w4 ⟨c, hc, rfl, hB⟩; have HC : Hid (IsB c (mayX t)) := hc; have B4 : Hid (Below Y.heap.size Y w4) := hB; clear hB hc)
      | (go_at_call 45; refine (impl_rising16 c (mayX t) w4 HC).mono ?_; rintro e w5 ⟨v5, rfl, hO, hB⟩; have O5 : Hid (Own w5 w4.heap.size v5 (risingTo (mayX t) 10)) := hO; have B5 : Hid (Below w4.heap.size w4 w5) := hB; clear hO hB)
      | go_in)
    go_ret2
    have HB4 := HBY.out.trans (B4.out.mono HBY.out.size)
    exact ⟨_, rfl, own_low_16 O5.out HB4.size, HB4.trans (B5.out.mono HB4.size)⟩
end Go.Proofs.Ytbjfhcbgghpdaaa.walks
