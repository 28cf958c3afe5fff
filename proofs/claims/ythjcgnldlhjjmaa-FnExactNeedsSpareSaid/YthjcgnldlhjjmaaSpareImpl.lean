/-
  What the program's NeedsSpare answers, at every list; it makes new memory alone.
-/
import Derived.Test.YthjcgnldlhjjmaaProg
import Derived.Test.YthjcgnldlhjjmaaMoveMath
import Derived.Test.YthjcgnldlhjjmaaRowMath
import Derived.Test.YthjcgnldlhjjmaaInts
import Derived.Test.YthjcgnldlhjjmaaArrs
import Derived.Test.YthjcgnldlhjjmaaOwnMoves
import Derived.Test.YthjcgnldlhjjmaaRecsMove
import Derived.Test.YthjcgnldlhjjmaaSources
import Derived.Test.YthjcgnldlhjjmaaRowsImpl
import Derived.WalkKit
import Derived.WalkSpells
import Derived.Below
import Derived.Handy
import Derived.ChangeKeysEq
import Derived.Laws.StructEq
import Derived.Deep.RegionHeld3
import Derived.Deep.MidRow
import Derived.Deep.DeepCutAuto
namespace Go.Proofs.Ythjcgnldlhjjmaa.walks
open Go.RowKit Go.Proofs.Ythjcgnldlhjjmaa.math Go.Proofs.Ythjcgnldlhjjmaa.ints
set_option linter.unusedVariables false
set_option maxRecDepth 100000

theorem part_arr {c : Array Value} {n : Nat} {f : Nat → Int} (h : IsArr c n f) {i : Nat} (hi : i < n) (w : World) : (part 3 c i).run Try.prog w = .ok (.int .i64 (f i)) w := by
  have he : Try.prog.underlying 3 = some (.int .i64) := Try.underlying3
  simp [part, isAgg, Sem.run_bind, run_underlying he, h.get i hi]
theorem eq_items {c d : Array Value} {n D : Nat} {f g : Nat → Int} (hc : IsArr c n f) (hd : IsArr d n g) (w : World) : ∀ is : List Nat, (∀ i ∈ is, i < n) → (Op.eqItems (D + 1) 3 1 c d is).run Try.prog w = .ok (is.all (fun i => decide (f i = g i))) w
  | [], _ => by simp [Op.eqItems]
  | i :: is, h => by
    have hi := h i (by simp)
    have he : Try.prog.underlying 3 = some (.int .i64) := Try.underlying3
    simp only [Op.eqItems, Nat.mul_one, Sem.run_bind, part_arr hc hi, part_arr hd hi, Result.andThen_ok, run_equalIn_int w D 3 .i64 .i64 (f i) (g i) he]
    by_cases e : f i = g i
    · simp only [e, beq_self_eq_true, Bool.not_true, Bool.false_eq_true, if_false, List.all_cons, decide_true, Bool.true_and]
      exact eq_items hc hd w is (fun j hj => h j (by simp [hj]))
    · simp [e]
theorem eqIn_src {c d : Array Value} {f g : Nat → Int} (hc : IsArr c 10 f) (hd : IsArr d 10 g) (w : World) : (Op.equalIn 10000 52 (.agg c) (.agg d)).run Try.prog w = .ok ((List.range 10).all (fun i => decide (f i = g i))) w := by
  obtain ⟨i, hi⟩ : ∃ i, Try.prog.info? 3 = some i := by
    cases h : Try.prog.info? 3 with
    | none => have : (Try.prog.info? 3).isSome = true := by kernel_rfl
              rw [h] at this; cases this
    | some i => exact ⟨i, rfl⟩
  rw [run_equalIn_array w 9999 c d Try.underlying52 hi]
  rw [show Try.prog.cellsOf 3 = 1 by kernel_rfl, eq_items (D := 9998) hc hd w _ (fun i hi => by simpa using hi)]
theorem eqG_src (x y : Operand) (xs ys : Array Value) (w : World) : (eqGuard .neq 52 x y (.agg xs) (.agg ys)).run Try.prog w = .ok () w := run_eqGuard_agg w _ _ _ _ _ _ (by kernel_rfl)
theorem keep_call {W w w' : World} {g : Nat} {cs : List Value} (h : w.rangeAt g 0 cs) (hB : Below W.heap.size W w) (hg : g < w.heap.size) (hb : Below w.heap.size w w') : w'.rangeAt g 0 cs ∧ Below W.heap.size W w' ∧ g < w'.heap.size :=
  ⟨fun j v hv => (hb.cell (p := ⟨g, 0 + j, none⟩) hg).trans (h j v hv), hB.trans (hb.mono hB.size), Nat.lt_of_lt_of_le hg hb.size⟩
theorem range_kept {w w' : World} {g : Nat} {cs : List Value} (h : w.rangeAt g 0 cs) (hg : g < w.heap.size) (hb : Below w.heap.size w w') : w'.rangeAt g 0 cs := fun j v hv => (hb.cell (p := ⟨g, 0 + j, none⟩) hg).trans (h j v hv)
set_option maxHeartbeats 4000000 in
theorem impl_spare8 (a : Option Addr) (len cap : Nat) (zs : List Int) (W : World) (hz : Hid (zs.length = len * 2)) (hlen : len ≤ 1048576) (h : Hid (Ints W a zs)) :
    Calls Try.prog 32 #[.slice a len cap] W fun e W' => e = .returned (.tuple #[.bool (movesB zs len && decide (0 < (ringsTo (intM zs len) 10).length)), .bool (movesB zs len)]) ∧ Below W.heap.size W W' := by
  go_enter Try.func32, Try.ntmps32
  go_wp2_with fail
  refine (impl_rows _ _ _ zs _ hz hlen h).mono ?_
  rintro e w1 ⟨hB, hm⟩
  have HB1 : Hid (Below W.heap.size W w1) := hB
  clear hB
  rcases hm with ⟨hm, c1, v, m, hc1, _, rfl⟩ | ⟨hm, c1, hc1, rfl⟩
  rotate_left
  · have HM : Hid (movesB zs len = false) := hm
    have HC1 : Hid (IsArr c1 10 (fun _ => 0)) := hc1
    clear hm hc1
    go_wp2_with (first
      | (refine wpList_store_row rfl 52 _ _ rfl w1.heap.size c1 rfl rfl 52 #[.int .i64 0, .int .i64 0, .int .i64 0, .int .i64 0, .int .i64 0, .int .i64 0, .int .i64 0, .int .i64 0, .int .i64 0, .int .i64 0] (heap_alloc_last w1 _) (src_info HC1.out) HC1.out.size.symm HC1.out.one ?_; rw [World.setRow_alloc_new])
      | go_in)
    go_ret2
    exact ⟨by rw [HM.out]; rfl, HB1.out.alloc HB1.out.size _⟩
  have HM : Hid (movesB zs len = true) := hm
  have HS : Hid ((!(List.range 10).all (fun i => decide (rowS zs len 10 (i : Int) = (i : Int)))) = decide (0 < (ringsTo (intM zs len) 10).length)) := spare_eq (moves_out hm).2
  obtain ⟨o, ho⟩ : ∃ o, Hid ((List.range 10).all (fun i => decide (rowS zs len 10 (i : Int) = (i : Int))) = o) := ⟨_, rfl⟩
  rw [ho.out] at HS
  have hg := fun x y xs ys w => eqG_src x y xs ys w
  have HC1 : Hid (IsArr c1 10 (fun i => rowS zs len 10 (i : Int))) := hc1
  have HB2 : Hid (Below W.heap.size W (w1.alloc (.cells c1 52))) := HB1.out.alloc HB1.out.size _
  have hu := Try.underlying52
  have hcl : c1.toList.length = 10 := by simpa using HC1.out.size
  have hi2 : (Try.prog.info? 52).map (·.size) = some c1.toList.length := by rw [hcl]; kernel_rfl
  have q1 : (w1.alloc (.cells c1 52)).rangeAt w1.heap.size 0 c1.toList := range_arr HC1.out (heap_alloc_last w1 _)
  have hsz : w1.heap.size < (w1.alloc (.cells c1 52)).heap.size := by simp
  clear hm hc1 hcl
  go_upto_region 4 with (first
    | (refine wpList_store_row rfl 52 _ _ rfl w1.heap.size c1 rfl rfl 52 #[.int .i64 0, .int .i64 0, .int .i64 0, .int .i64 0, .int .i64 0, .int .i64 0, .int .i64 0, .int .i64 0, .int .i64 0, .int .i64 0] (heap_alloc_last w1 _) (src_info HC1.out) HC1.out.size.symm HC1.out.one ?_; rw [World.setRow_alloc_new])
    | go_in)
  obtain ⟨W3, hW3⟩ : ∃ W3, Hid (w1.alloc (.cells c1 52) = W3) := ⟨_, rfl⟩
  rw [hW3.out] at q1 HB2 hsz ⊢
  obtain ⟨cs, hcs⟩ : ∃ cs, Hid (c1.toList = cs) := ⟨_, rfl⟩
  rw [hcs.out] at q1 hi2
  have HCS : Hid (IsArr cs.toArray 10 (fun i => rowS zs len 10 (i : Int))) := by
    rw [← hcs.out]; show IsArr _ _ _; simpa using HC1.out
  go_region_held3 (fun w' => w'.rangeAt w1.heap.size 0 cs ∧ Below W.heap.size W w' ∧ w1.heap.size < w'.heap.size) (first | (exact ⟨q1, HB2.out.drew, hsz⟩) | (go_split_ands; exact keep_call (by assumption) (by assumption) (by assumption) (by assumption)) | go_keep_ranges) (first | (go_at_call 46; refine (impl_none _).mono ?_; rintro e w4 ⟨d, hd, rfl, hB⟩; have hq : ∀ w, (Op.equalIn 10000 52 (.agg cs.toArray) (.agg d)).run Try.prog w = .ok o w := (fun w => (eqIn_src HCS.out hd w).trans (by rw [ho.out]))))
  all_goals
    go_wp2
    go_ret2
    exact ⟨by rw [HM.out, ← HS.out]; rfl, HB2.out.drew.trans (hB.mono HB2.out.size)⟩
end Go.Proofs.Ythjcgnldlhjjmaa.walks
