/-
  What the program's PlanMul answers, at every int: the row that the digits tell, in new memory.
-/
import Derived.Test.YteogabkfkfaejaaProg
import Derived.Test.YteogabkfkfaejaaMagMath
import Derived.Test.YteogabkfkfaejaaMagGood
import Derived.Test.YteogabkfkfaejaaInts
import Derived.Test.YteogabkfkfaejaaOwnInts
import Derived.Test.YteogabkfkfaejaaPlanDigMath
import Derived.WalkKit
import Derived.WalkSpells
import Derived.Below
import Derived.Handy
import Derived.Laws.Rows
import Derived.Laws.Tables
import Derived.Laws.CopyOwn
import Derived.Deep.WholeRow
namespace Go.Proofs.Yteogabkfkfaejaa.walks
open Go.RowKit Go.Proofs.Yteogabkfkfaejaa.math Go.Proofs.Yteogabkfkfaejaa.ints
set_option linter.unusedVariables false

theorem row_zero (W : World) (t : TypeId) : (W.alloc (.cells #[.int .i64 0, .int .i64 0, .int .i64 0, .int .i64 0, .int .i64 0, .int .i64 0, .int .i64 0, .int .i64 0, .int .i64 0, .int .i64 0, .int .i64 0, .int .i64 0, .int .i64 0, .int .i64 0, .int .i64 0, .int .i64 0, .int .i64 0] t)).rowIs W.heap.size t 17 (fun _ => .int .i64 0) := by
  refine World.rowIs_alloc W (Array.replicate 17 (.int .i64 0)) t _ (fun i hi => ?_)
  simp at hi
  simp [hi]

set_option maxHeartbeats 4000000 in
theorem impl_digits (b : Int) (W : World) (h0 : 0 ≤ b) (h1 : b ≤ 65535) : Calls Try.prog 46 #[.int .i64 b] W fun e W' => ∃ c : Array Value, c.size = 17 ∧ (∀ i, i < 17 → c[i]? = some (.int .i64 (dg (stN b i)))) ∧ e = .returned (.agg c) ∧ Below W.heap.size W W' := by
  go_enter Try.func46, Try.ntmps46
  go_wp2
  go_loopw [0, 4] (fun vb vi wr => ∃ (j : Nat) (x : Int), j ≤ 17 ∧ vb = .int .i64 x ∧ Hid (x = stN b j) ∧ 0 ≤ x ∧ x ≤ 65536 ∧ vi = .int .i64 j ∧ Hid (wr.rowIs (W.heap.size + 1) 61 17 (fun i => .int .i64 (if i < j then dg (stN b i) else 0))) ∧ Hid (wr.rowIs W.heap.size 61 17 (fun i => .int .i64 0)) ∧ Hid (Below W.heap.size W wr)) (fun _ vi _ => 20 - (intOf vi).toNat)
  case atStart =>
    refine ⟨0, b, by omega, rfl, rfl, h0, by omega, rfl, ?_, ?_, ?_⟩
    · have h := row_zero (W.alloc (.cells #[.int .i64 0, .int .i64 0, .int .i64 0, .int .i64 0, .int .i64 0, .int .i64 0, .int .i64 0, .int .i64 0, .int .i64 0, .int .i64 0, .int .i64 0, .int .i64 0, .int .i64 0, .int .i64 0, .int .i64 0, .int .i64 0, .int .i64 0] 61)) 61
      rw [show (W.alloc (.cells #[.int .i64 0, .int .i64 0, .int .i64 0, .int .i64 0, .int .i64 0, .int .i64 0, .int .i64 0, .int .i64 0, .int .i64 0, .int .i64 0, .int .i64 0, .int .i64 0, .int .i64 0, .int .i64 0, .int .i64 0, .int .i64 0, .int .i64 0] 61)).heap.size = W.heap.size + 1 by simp] at h
      exact h.congr (fun i hi => by rw [if_neg (by omega)])
    · exact (row_zero W 61).alloc _
    · show Below _ _ _
      go_grown
  case round =>
    obtain ⟨j, x, hj, rfl, HX, x0, x1, rfl, HR, HZ, HB⟩ := hrel
    by_cases hx : 0 < x
    · have hj' : j ≤ 16 := by
        apply Classical.byContradiction; intro hc
        have := HX.out
        rw [show j = 17 by omega, st_last h0 h1] at this
        omega
      have ha1 := and_one x
      have ha3 := and_three x
      have c0 := HR.out.cell (i := j) (by omega)
      have f0 := HR.out.frozen j
      rcases (show x % 2 = 0 ∨ x % 4 = 1 ∨ x % 4 = 3 by omega) with hm | hm | hm
      · have HN : Hid (x / 2 = stN b (j + 1)) := by
          show x / 2 = (stN b j - dg (stN b j)) / 2
          rw [← HX.out, dg_even hm]; omega
        have HV : Hid (dg (stN b j) = 0) := by show dg (stN b j) = 0; rw [← HX.out]; exact dg_even hm
        rw [hm] at ha1
        clear hm ha3
        go_wp2
        go_roundw
        case rel =>
          refine ⟨j + 1, x / 2, by omega, rfl, HN, by omega, by omega, by go_num, ?_, HZ, HB⟩
          refine World.rowIs.congr HR.out ?_
          intro i hi
          by_cases e : i = j
          · subst e; simp only [if_neg (show ¬ i < i by omega), if_pos (show i < i + 1 by omega)]; rw [HV.out]
          · by_cases e2 : i < j
            · simp only [if_pos e2, if_pos (show i < j + 1 by omega)]
            · simp only [if_neg e2, if_neg (show ¬ i < j + 1 by omega)]
        case measure => simp [intOf]; omega
      · skip
        have HN : Hid ((x - 1) / 2 = stN b (j + 1)) := by
          show (x - 1) / 2 = (stN b j - dg (stN b j)) / 2
          rw [← HX.out, dg_one hm]
        have HV : Hid (1 = dg (stN b j)) := by show 1 = dg (stN b j); rw [← HX.out, dg_one hm]
        rw [show x % 2 = 1 by omega] at ha1
        rw [hm] at ha3
        clear hm
        go_wp2
        go_roundw
        case rel =>
          refine ⟨j + 1, (x - 1) / 2, by omega, rfl, HN, by omega, by omega, by go_num, ?_, ?_, ?_⟩
          · refine World.rowIs.congr (World.rowIs.set HR.out j (.int .i64 1)) ?_
            intro i hi
            by_cases e : i = j
            · subst e; simp only [if_pos, if_pos (show i < i + 1 by omega)]; rw [HV.out]
            · simp only [if_neg e]
              by_cases e2 : i < j
              · rw [if_pos e2, if_pos (by omega)]
              · rw [if_neg e2, if_neg (by omega)]
          · exact World.rowIs.setOther HZ.out (by show W.heap.size ≠ W.heap.size + 1; omega) _
          · exact HB.out.setCell (by show W.heap.size ≤ W.heap.size + 1; omega) _
        case measure => simp [intOf]; omega
      · skip
        have HN : Hid ((x + 1) / 2 = stN b (j + 1)) := by
          show (x + 1) / 2 = (stN b j - dg (stN b j)) / 2
          rw [← HX.out, dg_three hm]; omega
        have HV : Hid ((-1) = dg (stN b j)) := by show (-1) = dg (stN b j); rw [← HX.out, dg_three hm]
        rw [show x % 2 = 1 by omega] at ha1
        rw [hm] at ha3
        clear hm
        go_wp2
        go_roundw
        case rel =>
          refine ⟨j + 1, (x + 1) / 2, by omega, rfl, HN, by omega, by omega, by go_num, ?_, ?_, ?_⟩
          · refine World.rowIs.congr (World.rowIs.set HR.out j (.int .i64 (-1))) ?_
            intro i hi
            by_cases e : i = j
            · subst e; simp only [if_pos, if_pos (show i < i + 1 by omega)]; rw [HV.out]
            · simp only [if_neg e]
              by_cases e2 : i < j
              · rw [if_pos e2, if_pos (by omega)]
              · rw [if_neg e2, if_neg (by omega)]
          · exact World.rowIs.setOther HZ.out (by show W.heap.size ≠ W.heap.size + 1; omega) _
          · exact HB.out.setCell (by show W.heap.size ≤ W.heap.size + 1; omega) _
        case measure => simp [intOf]; omega
    · have hx0 : x = 0 := by omega
      subst hx0
      have hR : wr.rowIs (W.heap.size + 1) 61 17 (fun i => .int .i64 (dg (stN b i))) := by
        refine World.rowIs.congr HR.out ?_
        intro i hi
        by_cases e : i < j
        · simp only [if_pos e]
        · simp only [if_neg e]
          have h := (st_zero HX.out.symm (i - j)).1
          rw [show j + (i - j) = i by omega] at h
          rw [h]; rfl
      obtain ⟨c, hg, hcs, hci⟩ := hR
      obtain ⟨c0, hg0, hcs0, hci0⟩ := HZ.out
      have HCI : Hid (∀ i, i < 17 → c[i]? = some (.int .i64 (dg (stN b i)))) := hci
      have HG : Hid (wr.heap[W.heap.size + 1]? = some (.cells c 61 (0, 0))) := hg
      have HG0 : Hid (wr.heap[W.heap.size]? = some (.cells c0 61 (0, 0))) := hg0
      have HCS : Hid (c.size = 17) := hcs
      have HCS0 : Hid (c0.size = 17) := hcs0
      clear HR HZ hci hci0 hg hg0 hcs hcs0
      have h1c : Hid (c.all (·.oneCell') = true) := by
        show c.all (·.oneCell') = true
        rw [Array.all_eq_true]
        intro i hi
        have := HCI.out i (by have := HCS.out; omega)
        rw [Array.getElem?_eq_getElem hi] at this
        rw [Option.some.inj this]; rfl
      have hin : Hid ((Try.prog.info? 61).map (·.size) = some c.size) := by
        show (Try.prog.info? 61).map (·.size) = some c.size
        rw [HCS.out]; kernel_rfl
      go_wp2_with (first
        | (refine wpList_load_row rfl 61 _ rfl (W.heap.size + 1) rfl 61 c (0, 0) _ HG.out Try.underlying61 rfl hin.out ?_)
        | (refine wpList_store_row rfl 61 _ _ rfl W.heap.size c rfl rfl 61 c0 HG0.out hin.out (HCS0.out.trans HCS.out.symm) h1c.out ?_)
        | go_in)
      refine bodyPost_ret (v := .agg c) ?_ rfl ⟨c, HCS.out, HCI.out, rfl, below_setRow HB.out (Nat.le_refl _) _⟩
      exact results_cell_row rfl _ _ W.heap.size 61 c (0, 0) _ rfl (setRow_heap _ _ _ _ _ _ HG0.out) Try.underlying61 rfl hin.out

set_option maxHeartbeats 2000000 in
theorem impl_places (a : Option Addr) (cap : Nat) (b : Int) (ds : List Int) (W : World) (hl : Hid (ds.length = 17)) (hI : Hid (Ints W a ds)) (hD : Hid (∀ i, i < 17 → ds.getD i 0 = dg (stN b i))) :
    Calls Try.prog 47 #[.slice a 17 cap] W fun e W' => ∃ a' cap', e = .returned (.slice a' (planTo b 17).length cap') ∧ Mine W' W.heap.size a' (planTo b 17) ∧ Below W.heap.size W W' := by
  obtain ⟨i0, hi, hz0, hz1, hz2⟩ := info_parts row_info
  go_enter Try.func47, Try.ntmps47
  go_wp2
  go_loopw [3, 8] (fun vo vi wr => ∃ j : Nat, j ≤ 17 ∧ vi = .int .i64 j ∧ Hid (Own wr W.heap.size vo (planTo b j)) ∧ Hid (Below W.heap.size W wr) ∧ W.heap.size ≤ wr.heap.size) (fun _ vi _ => 20 - (intOf vi).toNat)
  case atStart => exact ⟨0, by omega, rfl, own_nil _ _, Below.refl _ _, Nat.le_refl _⟩
  case round =>
    obtain ⟨j, hj, rfl, HO, HB, hsz⟩ := hrel
    by_cases hlt : j < 17
    · obtain ⟨bb, off, ha, hc⟩ := hI.out.at HB.out (k := j) (by have := hl.out; omega)
      subst ha
      rw [hD.out j hlt] at hc
      obtain ⟨d0, d1⟩ := dg_bd (stN b j)
      have hpl := plan_len b j
      obtain ⟨d, hdc, HDD⟩ : ∃ d : Int, wr.cell? ⟨bb, off + j, none⟩ = some (.int .i64 d) ∧ Hid (d = dg (stN b j)) := ⟨_, hc, rfl⟩
      rw [← HDD.out] at d0 d1
      clear hc
      by_cases hd : d = 0
      · have HP : Hid (planTo b (j + 1) = planTo b j) := plan_even (by rw [← HDD.out]; exact hd)
        subst hd
        go_wp2
        go_roundw
        case rel => exact ⟨j + 1, by omega, by go_num, by rw [HP.out]; exact HO, HB, hsz⟩
        case measure => simp [intOf]; omega
      · have HP : Hid (planTo b (j + 1) = planTo b j ++ [d * ((j : Int) + 1)]) := by
          have := plan_odd (b := b) (k := j) (by rw [← HDD.out]; exact hd)
          rw [← HDD.out] at this
          exact this
        have dz : (d == 0) = false := by simpa using hd
        have m0 : -17 ≤ d * ((j : Int) + 1) := by rcases (show d = 1 ∨ d = -1 by omega) with h | h <;> rw [h] <;> omega
        have m1 : d * ((j : Int) + 1) ≤ 17 := by rcases (show d = 1 ∨ d = -1 by omega) with h | h <;> rw [h] <;> omega
        go_wp2_with (first
          | (at_builtin; refine wpList_append_own _ rfl _ _ 36 rfl W.heap.size 3 i0 (.int .i64 0) 1 8 Try.underlying36 hi hz0 hz1 hz2 rfl (by decide) _ _ _ rfl (World.ownsRow.alloc HO.out _) ⟨wr.heap.size, 0, none⟩ 1 1 [.int .i64 (d * ((j : Int) + 1))] rfl rfl ?c1 ?c2 ?c3 ?c4 ?c5 ?_)
          | go_in)
        case c1 => exact new_one _ _ _
        case c2 => exact one_of _
        case c3 => unfold maxLen; omega
        case c4 => omega
        case c5 => simp; omega
        · intro v' w1 hown' hgrow _
          obtain ⟨o1, o2, o3⟩ := Own.snoc HO.out hsz HB.out hown' hgrow
          have HO1 : Hid (Own w1 W.heap.size v' (planTo b j ++ [d * ((j : Int) + 1)])) := o1
          have HB1 : Hid (Below W.heap.size W w1) := o2
          clear hown' hgrow o1 o2
          go_wp2
          go_roundw
          case rel => exact ⟨j + 1, by omega, by go_num, by rw [HP.out]; exact HO1, HB1, o3⟩
          case measure => simp [intOf]; omega
    · have HE : Hid (j = 17) := by show j = 17; omega
      go_wp2
      go_ret
      rw [HE.out] at HO
      obtain ⟨a', cap', e, hM⟩ := HO.out.mine
      subst e
      exact ⟨a', cap', rfl, hM, HB.out⟩

theorem impl_plan_no (b : Int) (W : World) (h : b < 0 ∨ 65535 < b) : Calls Try.prog 26 #[.int .i64 b] W fun e W' => e = .returned (.tuple #[.slice none 0 0, .bool false]) ∧ W' = W := by
  rcases h with h | h
  · go_enter Try.func26, Try.ntmps26
    go_wp2
    go_ret2
    exact ⟨rfl, rfl⟩
  · have h' : decide (b < 0) = false := decide_eq_false (by omega)
    go_enter Try.func26, Try.ntmps26
    go_wp2
    go_ret2
    exact ⟨rfl, rfl⟩
set_option maxHeartbeats 2000000 in
theorem impl_plan (b : Int) (W : World) (h0 : 0 ≤ b) (h1 : b ≤ 65535) : Calls Try.prog 26 #[.int .i64 b] W fun e W' => ∃ a cap, e = .returned (.tuple #[.slice a (planTo b 17).length cap, .bool true]) ∧ Mine W' W.heap.size a (planTo b 17) ∧ Below W.heap.size W W' := by
  go_enter Try.func26, Try.ntmps26
  go_wp2_with fail
  refine (impl_digits b _ h0 h1).mono ?_
  rintro e w1 ⟨c, hcs, hci, rfl, hB1⟩
  have B1 : Hid (Below W.heap.size W w1) := hB1
  have HCS : Hid (c.size = 17) := hcs
  have HCI : Hid (∀ i, i < 17 → c[i]? = some (.int .i64 (dg (stN b i)))) := hci
  clear hB1 hcs hci
  have h1c : Hid (c.all (·.oneCell') = true) := by
    show c.all (·.oneCell') = true
    rw [Array.all_eq_true]
    intro i hi
    have := HCI.out i (by have := HCS.out; omega)
    rw [Array.getElem?_eq_getElem hi] at this
    rw [Option.some.inj this]; rfl
  have hin : Hid ((Try.prog.info? 61).map (·.size) = some c.size) := by
    show (Try.prog.info? 61).map (·.size) = some c.size
    rw [HCS.out]; kernel_rfl
  obtain ⟨ds, HL, HD⟩ : ∃ ds : List Int, Hid (ds.length = 17) ∧ Hid (∀ i, i < 17 → ds.getD i 0 = dg (stN b i)) := by
    refine ⟨(List.range 17).map (fun i => dg (stN b i)), ?_, ?_⟩
    · show List.length _ = 17
      simp
    · show ∀ i, i < 17 → _
      intro i hi
      simp [List.getD, hi]
  have HI : Hid (Ints (w1.alloc (.cells c 61)) (some ⟨w1.heap.size, 0, none⟩) ds) := by
    refine Or.inr ⟨w1.heap.size, 0, rfl, by simp, fun i hi => ?_⟩
    have hi' : i < 17 := by have := HL.out; omega
    have hr := World.rowIs_alloc w1 c 61 (fun i => .int .i64 (dg (stN b i))) (fun i hi => HCI.out i (by have := HCS.out; omega))
    rw [Nat.zero_add, hr.cell (by rw [HCS.out]; exact hi'), HD.out i hi']
  go_wp2_with (first
    | (refine wpList_store_row rfl 61 _ _ rfl w1.heap.size c rfl rfl 61 #[.int .i64 0, .int .i64 0, .int .i64 0, .int .i64 0, .int .i64 0, .int .i64 0, .int .i64 0, .int .i64 0, .int .i64 0, .int .i64 0, .int .i64 0, .int .i64 0, .int .i64 0, .int .i64 0, .int .i64 0, .int .i64 0, .int .i64 0] (heap_alloc_last w1 _) hin.out HCS.out.symm h1c.out ?_; rw [World.setRow_alloc_new])
    | (go_at_call 47; refine (impl_places _ _ b ds _ HL HI HD).mono ?_; rintro e w2 ⟨a', cap', rfl, hM, hB2⟩)
    | go_in)
  go_ret2
  have hs := B1.out.size
  have hB3 : Below W.heap.size W w2 := (B1.out.alloc hs _).trans (hB2.mono (by simp; omega))
  refine ⟨a', cap', rfl, ?_, hB3⟩
  rcases hM with h | ⟨g, off, e1, e2, e3, e4⟩
  · exact Or.inl h
  · exact Or.inr ⟨g, off, e1, by simp at e2; omega, e3, e4⟩
end Go.Proofs.Yteogabkfkfaejaa.walks
