/-
  What the program's newMarkRun makes.
-/
import Derived.Test.YtokaibpkajloeaaProg
import Derived.Test.YtokaibpkajloeaaInts
import Derived.Test.YtokaibpkajloeaaDeep
import Derived.Test.YtokaibpkajloeaaDeepRow
import Derived.Test.YtokaibpkajloeaaMarkMath
import Derived.Test.YtokaibpkajloeaaMarkRun
import Derived.Test.YtokaibpkajloeaaRepeatCells
import Derived.Test.YtokaibpkajloeaaHasIn
import Derived.WalkKit
import Derived.WalkSpells
import Derived.Below
import Derived.Handy
import Derived.OwnWalk
import Derived.Laws.MakeOwn
import Derived.Deep.OwnRows
import Derived.Deep.RegionWith
import Derived.Deep.DeepCutAuto
namespace Go.Proofs.Ytokaibpkajloeaa.walks
open Go.RowKit Go.Proofs.Ytokaibpkajloeaa.math Go.Proofs.Ytokaibpkajloeaa.ints Go.Proofs.Ytokaibpkajloeaa.deep
set_option linter.unusedVariables false
set_option maxRecDepth 100000

theorem betweenM {n lo hi : Int} {b : Bool} (h : decide (lo ≤ n ∧ n ≤ hi) = b) (W : World) : Calls Try.prog 71 #[.int .i64 lo, .int .i64 n, .int .i64 hi] W fun e W' => e = .returned (.bool b) ∧ W' = W := by
  subst h
  by_cases h0 : lo ≤ n
  rotate_left
  · have k0 : n < lo := by omega
    have d0 : decide (lo ≤ n) = false := decide_eq_false h0
    rw [decide_eq_false (show ¬ (lo ≤ n ∧ n ≤ hi) by omega)]
    clear h0
    go_enter Try.func71, Try.ntmps71
    go_wp2
    go_ret
    exact ⟨rfl, rfl⟩
  by_cases h1 : n ≤ hi
  rotate_left
  · have k1 : hi < n := by omega
    have d1 : decide (n ≤ hi) = false := decide_eq_false (by omega)
    rw [decide_eq_false (show ¬ (lo ≤ n ∧ n ≤ hi) by omega)]
    clear h1
    go_enter Try.func71, Try.ntmps71
    go_wp2
    go_ret
    exact ⟨rfl, rfl⟩
  rw [decide_eq_true (show lo ≤ n ∧ n ≤ hi from ⟨h0, h1⟩)]
  have d1 : decide (n ≤ hi) = true := decide_eq_true (by omega)
  have d0 : decide (lo ≤ n) = true := decide_eq_true h0
  go_enter Try.func71, Try.ntmps71
  go_wp2
  go_ret
  exact ⟨rfl, rfl⟩
theorem impl_count (n : Int) (W : World) : Calls Try.prog 54 #[.int .i64 n] W fun e W' => e = .returned (.bool (decide (2 ≤ n ∧ n ≤ 10))) ∧ W' = W := by
  have hb := betweenM (n := n) (lo := 2) (hi := 10) rfl W
  generalize decide (2 ≤ n ∧ n ≤ 10) = b at hb ⊢
  go_enter Try.func54, Try.ntmps54
  go_wp2_with fail
  refine hb.mono ?_
  rintro e w' ⟨rfl, hw⟩
  rw [hw]
  clear hw w'
  go_wp2
  go_ret
  exact ⟨rfl, rfl⟩
theorem impl_noends (W : World) : Calls Try.prog 56 #[] W fun e W' => e = .returned (.agg #[.int .i64 (-1), .int .i64 (-1)]) ∧ W' = W.alloc (.cells #[.int .i64 (-1), .int .i64 (-1)] 72) := by
  go_enter Try.func56, Try.ntmps56
  go_wp2
  refine bodyPost_ret (v := .agg #[.int .i64 (-1), .int .i64 (-1)]) (by simp only [results, Try.results56]; go_simp) rfl ?_
  exact ⟨rfl, rfl⟩
theorem row_at {Y : World} {c : Array Value} {t : TypeId} {g : Nat} (e : g = Y.heap.size) : (Y.alloc (.cells c t)).rowIs g t c.size (rowF c.toList) := by
  subst e
  exact row_of Y c t
theorem row_drew {w : World} {g n : Nat} {T : TypeId} {f : Nat → Value} (h : w.rowIs g T n f) : w.drew.rowIs g T n f := h
theorem row_same {w : World} {g g' n : Nat} {T : TypeId} {f : Nat → Value} (h : w.rowIs g T n f) (e : g' = g) : w.rowIs g' T n f := e ▸ h
def NewMid (W X : World) (n : Nat) (v : Value) : Prop := ∃ rp cp op, v = .pointer (some ⟨rp, 0, none⟩) ∧ RunM X W.heap.size rp cp op n n n bareS ∧ Below W.heap.size W X
theorem new_mid {W X : World} {n rp cp op : Nat} (hr : X.rowIs rp 74 5 (rowF [.slice (some ⟨cp, 0, none⟩) n n, .slice (some ⟨op, 0, none⟩) n n, .int .i64 (-1), .int .i64 (-1), .bool false])) (hc : X.rowIs cp 78 (n * 3) freeC) (ho : X.rowIs op 3 n (fun _ => .int .i64 0)) (low : W.heap.size ≤ rp ∧ W.heap.size ≤ cp ∧ W.heap.size ≤ op) (dif : rp ≠ cp ∧ rp ≠ op ∧ cp ≠ op) (hb : Below W.heap.size W X) : NewMid W X n (.pointer (some ⟨rp, 0, none⟩)) := by
  refine ⟨rp, cp, op, rfl, ⟨hr, (CellsAt.of_row hc (Nat.le_refl _)).congr (fun i hi => ?_), CellsAt.of_row ho (Nat.le_refl _), low, dif⟩, hb⟩
  unfold freeC cellV bareS
  rfl
/-- A new marker at work. -/
def NewRunTo (n : Int) (W : World) (e : Ending) (W' : World) : Prop := (¬ (2 ≤ n ∧ n ≤ 10) ∧ e = .returned (.tuple #[.pointer none, .bool false]) ∧ Below W.heap.size W W') ∨ ∃ (k rp cp op : Nat), n = (k : Int) ∧ 2 ≤ k ∧ k ≤ 10 ∧ e = .returned (.tuple #[.pointer (some ⟨rp, 0, none⟩), .bool true]) ∧ RunM W' W.heap.size rp cp op k k k newS ∧ Below W.heap.size W W'
set_option maxHeartbeats 8000000 in
theorem impl_newrun (n : Int) (W : World) : Calls Try.prog 31 #[.int .i64 n] W fun e W' => NewRunTo n W e W' := by
  have hcount := impl_count n
  by_cases hn : 2 ≤ n ∧ n ≤ 10
  rotate_left
  · rw [decide_eq_false hn] at hcount
    have HA : Hid (NewRunTo n W (.returned (.tuple #[.pointer none, .bool false])) W) := Or.inl ⟨hn, rfl, Below.refl _ _⟩
    clear hn
    go_enter Try.func31, Try.ntmps31
    go_wp2_with (go_at_call 54; refine (hcount _).mono ?_; rintro e w' ⟨rfl, hw⟩; rw [hw]; clear hw w')
    go_ret2
    exact HA.out
  rw [decide_eq_true hn] at hcount
  obtain ⟨c, rfl⟩ : ∃ c : Nat, n = (c : Int) := ⟨n.toNat, by omega⟩
  have hc0 : 1 ≤ c := by omega
  have hc : c ≤ 12 := by omega
  have hc10 : c ≤ 10 := by omega
  have hc2 : 2 ≤ c := by omega
  obtain ⟨M, HM⟩ : ∃ M, Hid (madeCells #[.int .i64 0] c = M) := ⟨_, rfl⟩
  have hmk : ∀ w : World, (Instr.makeSlice 23 (.int .i64 (c : Int)) (.int .i64 (c : Int))).run Try.prog w = .ok (.slice (some ⟨w.heap.size, 0, none⟩) c c) (w.alloc (.cells M 3)) := by
    obtain ⟨i0, hi, hz0, hz1, hz2⟩ := parts_of (P := Try.prog) (e := 3) (z := .int .i64 0) (a := 1) (b := 8) (by kernel_rfl)
    intro w
    have hr := run_make (P := Try.prog) w 23 3 i0 _ Try.underlying23 hi hz0 .i64 .i64 (c : Int) (c : Int) (by omega) (Int.le_refl _) (by rw [hz2]; omega) (by omega)
    simp only [Int.toNat_natCast] at hr
    rw [hr, hz1, ← HM.out, Nat.mul_one]; rfl
  have HMR : Hid (∀ (Y : World) (g : Nat), g = Y.heap.size → (Y.alloc (.cells M 3)).rowIs g 3 c (fun _ => .int .i64 0)) := fun Y g e => by
    subst e
    have hs : M.size = c := by rw [← HM.out]; simp [madeCells]
    have hl : M.toList = List.replicate c (.int .i64 0) := by rw [← HM.out]; exact toList_madeCells_one _ _
    have q := row_of Y M 3
    rw [hs, hl] at q
    refine q.congr (fun i hi => ?_)
    unfold rowF
    simp [List.getD, hi]
  clear HM
  go_enter Try.func31, Try.ntmps31
  go_upto_region 3 with (go_at_call 54; refine (hcount _).mono ?_; rintro e w' ⟨rfl, hw⟩; rw [hw]; clear hw w')
  clear hcount hn
  go_cut [4] (fun v4 wx => NewMid W wx c v4)
  case first =>
    go_region_with (first
      | (go_at_call 56; refine (impl_noends _).mono ?_; rintro e w' ⟨rfl, hw⟩; rw [hw]; clear hw w')
      | (go_at_call 55; refine (impl_repeatC _ c hc0 hc _ (by
          intro i hi
          match i, hi with
          | 0, _ => go_simp; rfl
          | 1, _ => go_simp; rfl
          | 2, _ => go_simp; rfl) (by simp)).mono ?_; rintro e w5 ⟨rfl, hR5, hB5⟩; have HR5 : Hid (w5.rowIs _ 78 (c * 3) freeC) := hR5; have HB5 : Hid (Below _ _ w5) := hB5; clear hR5 hB5))
    all_goals go_wp2_with fail
    all_goals go_meet
    all_goals
      have s5 := HB5.out.size
      simp at s5
      have s6 : W.heap.size ≤ w5.heap.size := by omega
      have s7 := HR5.out.lt
      simp at s7
      refine new_mid (row_at (by simp)) (by first | exact row_same (((HR5.out.alloc _).alloc _).alloc _) (by simp) | exact row_same ((HR5.out.alloc _).alloc _) (by simp)) ?_ ?_ ?_ ?_
      · repeat (first | exact HMR.out _ _ (by simp) | exact row_drew (HMR.out _ _ (by simp)) | refine World.rowIs.alloc ?_ _ | refine World.rowIs.of_block ?_ (HB5.out.block _ (by first | (simp; done) | (simp; omega))))
      · refine ⟨?_, ?_, ?_⟩ <;> omega
      · refine ⟨?_, ?_, ?_⟩ <;> omega
      · repeat (first | exact Below.refl _ _ | refine Below.alloc ?_ (by first | omega | (simp; done) | (simp; omega)) _ | refine Below.trans ?_ (HB5.out.mono (by first | (simp; done) | (simp; omega))) | refine Below.drew ?_)
  case rest =>
    obtain ⟨rp, cp, op, rfl, hR, hB⟩ := hcut
    have HR : Hid (RunM wc W.heap.size rp cp op c c c bareS) := hR
    have HB : Hid (Below W.heap.size W wc) := hB
    have ht := impl_take W.heap.size rp cp op c c c bareS 0 wc hc10 hR (by decide)
    rw [take_bare hc0] at ht
    clear hR hB HMR hmk
    go_wp2_with fail
    refine ht.mono ?_
    rintro e w4 ⟨⟨rfl, hR4⟩, hO4⟩
    have HA : Hid (NewRunTo (c : Int) W (.returned (.tuple #[.pointer (some ⟨rp, 0, none⟩), .bool true])) w4) := Or.inr ⟨c, rp, cp, op, rfl, hc2, hc10, rfl, hR4, HB.out.trans (hO4.below HB.out.size (fun x hx => by
      have := HR.out.low
      rcases hx with q | q | q <;> omega))⟩
    clear hR4 hO4 ht
    go_wp2
    go_ret2
    exact HA.out
end Go.Proofs.Ytokaibpkajloeaa.walks
