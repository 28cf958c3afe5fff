/-
  What the program's noneWaits, sourcesOf and GoodMoves answer, at every list; they make new memory alone.
-/
import Derived.Test.YthjcgnldlhjjmabProg
import Derived.Test.YthjcgnldlhjjmabMoveMath
import Derived.Test.YthjcgnldlhjjmabMoveBase
import Derived.Test.YthjcgnldlhjjmabInts
import Derived.Test.YthjcgnldlhjjmabArrs
import Derived.Test.YthjcgnldlhjjmabRecsMove
import Derived.Test.YthjcgnldlhjjmabGoodSpec
import Derived.WalkKit
import Derived.WalkSpells
import Derived.Below
import Derived.Handy
import Derived.Deep.RegionWith
namespace Go.Proofs.Ythjcgnldlhjjmab.walks
open Go.RowKit Go.Proofs.Ythjcgnldlhjjmab.math Go.Proofs.Ythjcgnldlhjjmab.ints
set_option linter.unusedVariables false

theorem src_info {c : Array Value} {f : Nat → Int} (h : IsArr c 10 f) : (Try.prog.info? 45).map (·.size) = some c.size := by
  rw [h.size]; kernel_rfl
set_option maxHeartbeats 4000000 in
theorem impl_none (W : World) : Calls Try.prog 28 #[] W fun e W' => ∃ c, IsArr c 10 (fun i => (i : Int)) ∧ e = .returned (.agg c) ∧ Below W.heap.size W W' := by
  go_enter Try.func28, Try.ntmps28
  go_wp2
  go_loopw [3] (fun vi wr => ∃ j : Nat, j ≤ 10 ∧ vi = .int .i64 j ∧ Hid (wr.rowIs (W.heap.size + 1) 45 10 (fun i => .int .i64 (if i < j then (i : Int) else 0))) ∧ Hid (wr.rowIs W.heap.size 45 10 (fun i => .int .i64 0)) ∧ Hid (Below W.heap.size W wr)) (fun vi _ => 20 - (intOf vi).toNat)
  case atStart =>
    refine ⟨0, by omega, rfl, ?_, ?_, ?_⟩
    · have h := zeros10 (W.alloc (.cells #[.int .i64 0, .int .i64 0, .int .i64 0, .int .i64 0, .int .i64 0, .int .i64 0, .int .i64 0, .int .i64 0, .int .i64 0, .int .i64 0] 45)) 45
      rw [show (W.alloc (.cells #[.int .i64 0, .int .i64 0, .int .i64 0, .int .i64 0, .int .i64 0, .int .i64 0, .int .i64 0, .int .i64 0, .int .i64 0, .int .i64 0] 45)).heap.size = W.heap.size + 1 by simp] at h
      exact h.congr (fun i hi => by rw [if_neg (by omega)])
    · exact (zeros10 W 45).alloc _
    · show Below _ _ _
      go_grown
  case round =>
    obtain ⟨j, hj, rfl, HR, HZ, HB⟩ := hrel
    by_cases hlt : j < 10
    · have c0 := HR.out.cell (i := j) hlt
      have f0 := HR.out.frozen j
      go_wp2
      go_roundw
      case rel =>
        refine ⟨j + 1, by omega, by go_num, ?_, ?_, ?_⟩
        · refine World.rowIs.congr (World.rowIs.set HR.out j (.int .i64 j)) ?_
          intro i hi
          by_cases e : i = j
          · subst e; simp
          · simp only [if_neg e]
            by_cases e2 : i < j
            · rw [if_pos e2, if_pos (by omega)]
            · rw [if_neg e2, if_neg (by omega)]
        · exact World.rowIs.setOther HZ.out (by show W.heap.size ≠ W.heap.size + 1; omega) _
        · exact HB.out.setCell (by show W.heap.size ≤ W.heap.size + 1; omega) _
      case measure => simp [intOf]; omega
    · obtain ⟨c, hc, hg⟩ := row_arr (f := fun i => (i : Int)) (HR.out.congr (fun i hi => by rw [if_pos (by omega)]))
      obtain ⟨c0, hc0, hg0⟩ := row_arr (f := fun _ => 0) HZ.out
      have HC : Hid (IsArr c 10 (fun i => (i : Int))) := hc
      have HC0 : Hid (IsArr c0 10 (fun _ => 0)) := hc0
      have HG : Hid (wr.heap[W.heap.size + 1]? = some (.cells c 45 (0, 0))) := hg
      have HG0 : Hid (wr.heap[W.heap.size]? = some (.cells c0 45 (0, 0))) := hg0
      clear HR HZ hc hc0 hg hg0
      go_wp2_with (first
        | (refine wpList_load_row rfl 45 _ rfl (W.heap.size + 1) rfl 45 c (0, 0) _ HG.out Try.underlying45 rfl (src_info HC.out) ?_)
        | (refine wpList_store_row rfl 45 _ _ rfl W.heap.size c rfl rfl 45 c0 HG0.out (src_info HC.out) (HC0.out.size.trans HC.out.size.symm) HC.out.one ?_)
        | go_in)
      refine bodyPost_ret (v := .agg c) ?_ rfl ⟨c, HC.out, rfl, below_setRow HB.out (Nat.le_refl _) _⟩
      exact results_cell_row rfl _ _ W.heap.size 45 c (0, 0) _ rfl (setRow_heap _ _ _ _ _ _ HG0.out) Try.underlying45 rfl (src_info HC.out)

/-- What sourcesOf answers. -/
def SrcAns (zs : List Int) (len : Nat) (W : World) (e : Ending) (W' : World) : Prop :=
  Below W.heap.size W W' ∧ ((movesB zs len = true ∧ ∃ c, IsArr c 10 (fun i => srcTo zs len (i : Int)) ∧ e = .returned (.tuple #[.agg c, .bool true])) ∨ (movesB zs len = false ∧ ∃ c, IsArr c 10 (fun _ => 0) ∧ e = .returned (.tuple #[.agg c, .bool false])))
set_option maxHeartbeats 4000000 in
theorem impl_sources (a : Option Addr) (len cap : Nat) (zs : List Int) (W : World) (hz : Hid (zs.length = len * 2)) (hlen : len ≤ 1048576) (h : Hid (Ints W a zs)) :
    Calls Try.prog 22 #[.slice a len cap] W (SrcAns zs len W) := by
  have hzr : Hid (IsArr (Array.replicate 10 (.int .i64 0)) 10 (fun _ => 0)) := arr_zero 10
  by_cases h10 : len ≤ 10
  rotate_left
  · have HE : Hid (movesB zs len = false) := moves_long (by omega)
    have hl : (10 : Int) < (len : Int) := by omega
    clear h10
    obtain ⟨c0, hc0, hg0⟩ := row_arr (f := fun _ => 0) (zeros10 W 45)
    go_enter Try.func22, Try.ntmps22
    go_wp2_with (first
      | (refine wpList_store_row rfl 45 _ _ rfl W.heap.size (Array.replicate 10 (.int .i64 0)) rfl rfl 45 c0 hg0 (src_info hzr.out) (hc0.size.trans hzr.out.size.symm) hzr.out.one ?_)
      | go_in)
    refine bodyPost_ret (v := .tuple #[.agg (Array.replicate 10 (.int .i64 0)), .bool false]) ?_ rfl ⟨below_setRow (by go_grown) (Nat.le_refl _) _, Or.inr ⟨HE.out, _, hzr.out, rfl⟩⟩
    exact results_row2 rfl _ _ W.heap.size 45 _ (0, 0) _ rfl (setRow_heap _ _ _ _ _ _ hg0) Try.underlying45 rfl (src_info hzr.out) _ rfl
  have hl10 : (len : Int) ≤ 10 := by omega
  have hz1 : Hid ((W.alloc (.cells #[.int .i64 0, .int .i64 0, .int .i64 0, .int .i64 0, .int .i64 0, .int .i64 0, .int .i64 0, .int .i64 0, .int .i64 0, .int .i64 0] 45)).rowIs W.heap.size 45 10 (fun i => .int .i64 0)) := zeros10 W _
  go_enter Try.func22, Try.ntmps22
  go_wp2_with fail
  refine (impl_none _).mono ?_
  rintro e w1 ⟨c1, hc1, rfl, hB1⟩
  have HC1 : Hid (IsArr c1 10 (fun i => (i : Int))) := hc1
  have HZ1 : Hid (w1.rowIs W.heap.size 45 10 (fun i => .int .i64 0)) := hz1.out.of_block (hB1.block _ (by simp))
  have hs1 : W.heap.size < w1.heap.size := HZ1.out.lt
  have HB1 : Hid (Below W.heap.size W w1) := Below.trans (by go_grown) (hB1.mono (by simp))
  clear hB1 hc1 hz1
  go_wp2_with (first
    | (refine wpList_store_row rfl 45 _ _ rfl w1.heap.size c1 rfl rfl 45 #[.int .i64 0, .int .i64 0, .int .i64 0, .int .i64 0, .int .i64 0, .int .i64 0, .int .i64 0, .int .i64 0, .int .i64 0, .int .i64 0] (heap_alloc_last w1 _) (src_info HC1.out) HC1.out.size.symm HC1.out.one ?_; rw [World.setRow_alloc_new])
    | go_in)
  go_loopw [15] (fun vi wr => ∃ k : Nat, k ≤ len ∧ vi = .int .i64 k ∧ Hid (GoodM zs k) ∧ Hid (wr.rowIs w1.heap.size 45 10 (fun i => .int .i64 (srcTo zs k (i : Int)))) ∧ Hid (wr.rowIs (w1.heap.size + 1) 62 10 (fun i => .bool (takTo zs k (i : Int)))) ∧ Hid (wr.rowIs W.heap.size 45 10 (fun i => .int .i64 0)) ∧ Hid (Below W.heap.size W wr)) (fun vi _ => 20 - (intOf vi).toNat)
  case atStart =>
    refine ⟨0, Nat.zero_le _, rfl, fun j hj => by omega, (arr_new HC1.out).alloc _, ?_, (HZ1.out.alloc _).alloc _, (HB1.out.alloc HB1.out.size _).alloc (by simp; omega) _⟩
    have h := falses10 (w1.alloc (.cells c1 45)) 62
    rw [show (w1.alloc (.cells c1 45)).heap.size = w1.heap.size + 1 by simp] at h
    exact h
  case round =>
    obtain ⟨k, hk, rfl, HG, HF, HT, HZ, HB⟩ := hrel
    clear HC1 HZ1 HB1
    have hsz : w1.heap.size + 1 < wr.heap.size := HT.out.lt
    by_cases hlt : k < len
    · obtain ⟨b, off, x, y, ha, hb, m0, m1, HX, HY⟩ := move_at h.out hz.out HB.out hlt
      subst ha
      have HB2 : Hid (Below W.heap.size W (wr.alloc (.cells #[.int .i64 x, .int .i64 y] 33))) := HB.out.alloc HB.out.size _
      have HZ2 : Hid ((wr.alloc (.cells #[.int .i64 x, .int .i64 y] 33)).rowIs W.heap.size 45 10 (fun i => .int .i64 0)) := HZ.out.alloc _
      obtain ⟨c0, hc0, hg0⟩ := row_arr (f := fun _ => 0) HZ2.out
      have HC0 : Hid (IsArr c0 10 (fun _ => 0)) := hc0
      have HG0 : Hid ((wr.alloc (.cells #[.int .i64 x, .int .i64 y] 33)).heap[W.heap.size]? = some (.cells c0 45 (0, 0))) := hg0
      clear hc0 hg0
      have hbw : b < wr.heap.size := by omega
      cases hx : inR x 0 9
      · have HE : Hid (movesB zs len = false) := moves_fr hlt (by rw [HX.out]; exact hx)
        go_wp2_with (first
          | (go_at_call 29; refine (impl_place _ _).mono ?_; rw [hx]; rintro e w' ⟨rfl, rfl⟩)
          | (refine wpList_store_row rfl 45 _ _ rfl W.heap.size (Array.replicate 10 (.int .i64 0)) rfl rfl 45 c0 HG0.out (src_info hzr.out) (HC0.out.size.trans hzr.out.size.symm) hzr.out.one ?_)
          | go_in)
        refine bodyPost_ret (v := .tuple #[.agg (Array.replicate 10 (.int .i64 0)), .bool false]) ?_ rfl ⟨below_setRow HB2.out (Nat.le_refl _) _, Or.inr ⟨HE.out, _, hzr.out, rfl⟩⟩
        exact results_row2 rfl _ _ W.heap.size 45 _ (0, 0) _ rfl (setRow_heap _ _ _ _ _ _ HG0.out) Try.underlying45 rfl (src_info hzr.out) _ rfl
      cases hy : inR y 0 9
      · have HE : Hid (movesB zs len = false) := moves_to hlt (by rw [HY.out]; exact hy)
        go_wp2_with (first
          | (go_at_call 29; refine (impl_place _ _).mono ?_; (first | rw [hx] | rw [hy]); rintro e w' ⟨rfl, rfl⟩)
          | (refine wpList_store_row rfl 45 _ _ rfl W.heap.size (Array.replicate 10 (.int .i64 0)) rfl rfl 45 c0 HG0.out (src_info hzr.out) (HC0.out.size.trans hzr.out.size.symm) hzr.out.one ?_)
          | go_in)
        refine bodyPost_ret (v := .tuple #[.agg (Array.replicate 10 (.int .i64 0)), .bool false]) ?_ rfl ⟨below_setRow HB2.out (Nat.le_refl _) _, Or.inr ⟨HE.out, _, hzr.out, rfl⟩⟩
        exact results_row2 rfl _ _ W.heap.size 45 _ (0, 0) _ rfl (setRow_heap _ _ _ _ _ _ HG0.out) Try.underlying45 rfl (src_info hzr.out) _ rfl
      obtain ⟨y0, y1⟩ := inR_out hy
      obtain ⟨j, rfl⟩ : ∃ j : Nat, y = (j : Int) := ⟨y.toNat, by omega⟩
      have hj : j < 10 := by omega
      have hj' : (j : Int) < 10 := by omega
      have hs2 : w1.heap.size < wr.heap.size := by omega
      have t0 := HT.out.cell hj
      have t1 := HT.out.frozen j
      have s0 := HF.out.cell hj
      have s1 := HF.out.frozen j
      cases htk : takTo zs k (j : Int)
      rotate_left
      · obtain ⟨i, hi, he⟩ := tak_yes htk
        have HE : Hid (movesB zs len = false) := moves_two hi hlt (by rw [he, HY.out])
        rw [htk] at t0
        go_wp2_with (first
          | (go_at_call 29; refine (impl_place _ _).mono ?_; (first | rw [hx] | rw [hy]); rintro e w' ⟨rfl, rfl⟩)
          | (refine wpList_store_row rfl 45 _ _ rfl W.heap.size (Array.replicate 10 (.int .i64 0)) rfl rfl 45 c0 HG0.out (src_info hzr.out) (HC0.out.size.trans hzr.out.size.symm) hzr.out.one ?_)
          | go_in)
        refine bodyPost_ret (v := .tuple #[.agg (Array.replicate 10 (.int .i64 0)), .bool false]) ?_ rfl ⟨below_setRow HB2.out (Nat.le_refl _) _, Or.inr ⟨HE.out, _, hzr.out, rfl⟩⟩
        exact results_row2 rfl _ _ W.heap.size 45 _ (0, 0) _ rfl (setRow_heap _ _ _ _ _ _ HG0.out) Try.underlying45 rfl (src_info hzr.out) _ rfl
      have HG' : Hid (GoodM zs (k + 1)) := good_step HG.out (by rw [HX.out]; exact hx) (by rw [HY.out]; exact hy) (fun i hi => by rw [HY.out]; exact tak_no htk i hi)
      rw [htk] at t0
      obtain ⟨s, hs⟩ : ∃ s, Hid (srcTo zs k (j : Int) = s) := ⟨_, rfl⟩
      rw [hs.out] at s0
      clear HC0 HG0
      go_wp2_with (go_at_call 29; refine (impl_place _ _).mono ?_; (first | rw [hx] | rw [hy]); rintro e w' ⟨rfl, rfl⟩)
      go_region
      all_goals
        go_wp2
        go_roundw
        case rel =>
          refine ⟨k + 1, by omega, by go_num, HG', ?_, ?_, ?_, ?_⟩
          · refine World.rowIs.congr (((HF.out.set j (.int .i64 x)).setOther (by show w1.heap.size ≠ w1.heap.size + 1; omega) _).alloc _) ?_
            intro i hi
            show (if i = j then Value.int .i64 x else _) = Value.int .i64 (if (i : Int) = toM zs k then frM zs k else srcTo zs k (i : Int))
            rw [HY.out, HX.out]
            by_cases e : i = j
            · rw [if_pos e, if_pos (by omega)]
            · rw [if_neg e, if_neg (by omega)]
          · refine World.rowIs.congr (((HT.out.setOther (by show w1.heap.size + 1 ≠ w1.heap.size; omega) _).set j (.bool true)).alloc _) ?_
            intro i hi
            show (if i = j then Value.bool true else _) = Value.bool (if (i : Int) = toM zs k then true else takTo zs k (i : Int))
            rw [HY.out]
            by_cases e : i = j
            · rw [if_pos e, if_pos (by omega)]
            · rw [if_neg e, if_neg (by omega)]
          · exact ((HZ.out.setOther (by show W.heap.size ≠ w1.heap.size; omega) _).setOther (by show W.heap.size ≠ w1.heap.size + 1; omega) _).alloc _
          · exact (((HB.out.setCell (by show W.heap.size ≤ w1.heap.size; omega) _).setCell (by show W.heap.size ≤ w1.heap.size + 1; omega) _).alloc (by simp; omega) _).drew
        case measure => simp [intOf]; omega
    · have HM : Hid (movesB zs len = true) := moves_mk h10 (by rw [show len = k by omega]; exact HG.out)
      have hkl : k = len := by omega
      subst hkl
      obtain ⟨c, hc, hg⟩ := row_arr HF.out
      obtain ⟨c0, hc0, hg0⟩ := row_arr (f := fun _ => 0) HZ.out
      have HC : Hid (IsArr c 10 (fun i => srcTo zs k (i : Int))) := hc
      have HC0 : Hid (IsArr c0 10 (fun _ => 0)) := hc0
      have HGF : Hid (wr.heap[w1.heap.size]? = some (.cells c 45 (0, 0))) := hg
      have HG0 : Hid (wr.heap[W.heap.size]? = some (.cells c0 45 (0, 0))) := hg0
      clear HF HZ HT hc hc0 hg hg0
      go_wp2_with (first
        | (refine wpList_load_row rfl 45 _ rfl w1.heap.size rfl 45 c (0, 0) _ HGF.out Try.underlying45 rfl (src_info HC.out) ?_)
        | (refine wpList_store_row rfl 45 _ _ rfl W.heap.size c rfl rfl 45 c0 HG0.out (src_info HC.out) (HC0.out.size.trans HC.out.size.symm) HC.out.one ?_)
        | go_in)
      refine bodyPost_ret (v := .tuple #[.agg c, .bool true]) ?_ rfl ⟨below_setRow HB.out (Nat.le_refl _) _, Or.inl ⟨HM.out, c, HC.out, rfl⟩⟩
      exact results_row2 rfl _ _ W.heap.size 45 c (0, 0) _ rfl (setRow_heap _ _ _ _ _ _ HG0.out) Try.underlying45 rfl (src_info HC.out) _ rfl
end Go.Proofs.Ythjcgnldlhjjmab.walks
