/-
  What the program's goodStep answers at steps of the kind that sets a number, whatever their other numbers: the step behind its interface, and whether it is good; it makes new memory alone.
-/
import Derived.Test.YtemlhhogcdgofaaStepImpl
import Derived.Deep.RegionHeld3
namespace Go.Proofs.Ytemlhhogcdgofaa.walks
open Go.RowKit Go.Proofs.Ytemlhhogcdgofaa.math Go.Proofs.Ytemlhhogcdgofaa.ints
set_option linter.unusedVariables false

set_option maxHeartbeats 2000000 in
theorem good_c_0 (d a b n : Int) (W : World) (h : a ≠ 0) : Calls Try.prog 50 #[.agg #[.int .i64 1, .int .i64 d, .int .i64 a, .int .i64 b, .int .i64 n]] W fun e W' => e = .returned (.tuple #[stepV 1 d a b n, .bool false]) ∧ Below W.heap.size W W' := by
  have z0 : inR 0 0 7 = true := rfl
  have z1 : inR 0 0 65535 = true := rfl
  have e1 : (a == 0) = false := by simpa using h
  have e2 : (0 == a) = false := by simpa using (fun e => h e.symm)
  have e3 : decide (a = 0) = false := decide_eq_false h
  have e4 : decide (0 = a) = false := decide_eq_false (fun e => h e.symm)
  clear h
  go_enter Try.func50, Try.ntmps50
  go_wp2_with (go_at_call 55; refine (impl_stepOf_1 _ _ _ _ _).mono ?_; rintro e w' ⟨rfl, hw⟩; rw [show stepV 1 d a b n = .iface 89 (.agg #[.int .i64 d, .int .i64 n]) from rfl]; obtain ⟨⟨c0, c1, c2, c3, c4⟩, hl, hB⟩ := box_new _ _ _ _ _ _ _ _ _ hw; clear hw)
  first | (go_region_with (first | (go_at_call 73; refine (impl_instr_c _ _ _).mono ?_; rintro e w' ⟨rfl, hb⟩; obtain ⟨⟨k0, k1, k2, k3, k4⟩, kl, kB⟩ := box_drew (W := W) hb c0 c1 c2 c3 c4 hl hB; clear hb c0 c1 c2 c3 c4) | (go_at_call 39; refine (impl_name _ _).mono ?_; rintro e w' ⟨rfl, rfl⟩) | (go_at_call 56; refine (impl_word _ _).mono ?_; rintro e w' ⟨rfl, rfl⟩))) | fail
  all_goals go_wp2
  all_goals go_ret2
  all_goals exact ⟨by first | rfl | (rw [show stepV 1 d a b n = .iface 89 (.agg #[.int .i64 d, .int .i64 n]) from rfl]; rfl), kB⟩
set_option maxHeartbeats 2000000 in
theorem good_c_1 (d b n : Int) (W : World) (h : b ≠ 0) : Calls Try.prog 50 #[.agg #[.int .i64 1, .int .i64 d, .int .i64 0, .int .i64 b, .int .i64 n]] W fun e W' => e = .returned (.tuple #[stepV 1 d 0 b n, .bool false]) ∧ Below W.heap.size W W' := by
  have z0 : inR 0 0 7 = true := rfl
  have z1 : inR 0 0 65535 = true := rfl
  have e1 : (b == 0) = false := by simpa using h
  have e2 : (0 == b) = false := by simpa using (fun e => h e.symm)
  have e3 : decide (b = 0) = false := decide_eq_false h
  have e4 : decide (0 = b) = false := decide_eq_false (fun e => h e.symm)
  clear h
  go_enter Try.func50, Try.ntmps50
  go_wp2_with (go_at_call 55; refine (impl_stepOf_1 _ _ _ _ _).mono ?_; rintro e w' ⟨rfl, hw⟩; rw [show stepV 1 d 0 b n = .iface 89 (.agg #[.int .i64 d, .int .i64 n]) from rfl]; obtain ⟨⟨c0, c1, c2, c3, c4⟩, hl, hB⟩ := box_new _ _ _ _ _ _ _ _ _ hw; clear hw)
  first | (go_region_with (first | (go_at_call 73; refine (impl_instr_c _ _ _).mono ?_; rintro e w' ⟨rfl, hb⟩; obtain ⟨⟨k0, k1, k2, k3, k4⟩, kl, kB⟩ := box_drew (W := W) hb c0 c1 c2 c3 c4 hl hB; clear hb c0 c1 c2 c3 c4) | (go_at_call 39; refine (impl_name _ _).mono ?_; rintro e w' ⟨rfl, rfl⟩) | (go_at_call 56; refine (impl_word _ _).mono ?_; rintro e w' ⟨rfl, rfl⟩))) | fail
  all_goals go_wp2
  all_goals go_ret2
  all_goals exact ⟨by first | rfl | (rw [show stepV 1 d 0 b n = .iface 89 (.agg #[.int .i64 d, .int .i64 n]) from rfl]; rfl), kB⟩
set_option maxHeartbeats 2000000 in
theorem good_c_2 (d n : Int) (W : World) (fd : inR d 0 7 = false) : Calls Try.prog 50 #[.agg #[.int .i64 1, .int .i64 d, .int .i64 0, .int .i64 0, .int .i64 n]] W fun e W' => e = .returned (.tuple #[stepV 1 d 0 0 n, .bool false]) ∧ Below W.heap.size W W' := by
  have z0 : inR 0 0 7 = true := rfl
  have z1 : inR 0 0 65535 = true := rfl
  go_enter Try.func50, Try.ntmps50
  go_wp2_with (go_at_call 55; refine (impl_stepOf_1 _ _ _ _ _).mono ?_; rintro e w' ⟨rfl, hw⟩; rw [show stepV 1 d 0 0 n = .iface 89 (.agg #[.int .i64 d, .int .i64 n]) from rfl]; obtain ⟨⟨c0, c1, c2, c3, c4⟩, hl, hB⟩ := box_new _ _ _ _ _ _ _ _ _ hw; clear hw)
  first | (go_region_with (first | (go_at_call 73; refine (impl_instr_c _ _ _).mono ?_; rintro e w' ⟨rfl, hb⟩; obtain ⟨⟨k0, k1, k2, k3, k4⟩, kl, kB⟩ := box_drew (W := W) hb c0 c1 c2 c3 c4 hl hB; clear hb c0 c1 c2 c3 c4) | (go_at_call 39; refine (impl_name _ _).mono ?_; rintro e w' ⟨rfl, rfl⟩) | (go_at_call 56; refine (impl_word _ _).mono ?_; rintro e w' ⟨rfl, rfl⟩))) | fail
  all_goals go_wp2
  all_goals go_ret2
  all_goals exact ⟨by first | rfl | (rw [show stepV 1 d 0 0 n = .iface 89 (.agg #[.int .i64 d, .int .i64 n]) from rfl]; rfl), kB⟩
set_option maxHeartbeats 2000000 in
theorem good_c_3 (d n : Int) (W : World) (fd : inR d 0 7 = true) (fn : inR n 0 65535 = false) : Calls Try.prog 50 #[.agg #[.int .i64 1, .int .i64 d, .int .i64 0, .int .i64 0, .int .i64 n]] W fun e W' => e = .returned (.tuple #[stepV 1 d 0 0 n, .bool false]) ∧ Below W.heap.size W W' := by
  have z0 : inR 0 0 7 = true := rfl
  have z1 : inR 0 0 65535 = true := rfl
  go_enter Try.func50, Try.ntmps50
  go_wp2_with (go_at_call 55; refine (impl_stepOf_1 _ _ _ _ _).mono ?_; rintro e w' ⟨rfl, hw⟩; rw [show stepV 1 d 0 0 n = .iface 89 (.agg #[.int .i64 d, .int .i64 n]) from rfl]; obtain ⟨⟨c0, c1, c2, c3, c4⟩, hl, hB⟩ := box_new _ _ _ _ _ _ _ _ _ hw; clear hw)
  go_region_held3 (fun w' => (w'.cell? ⟨W.heap.size, 0, none⟩ = some (.int .i64 1) ∧ w'.cell? ⟨W.heap.size, 1, none⟩ = some (.int .i64 d) ∧ w'.cell? ⟨W.heap.size, 2, none⟩ = some (.int .i64 0) ∧ w'.cell? ⟨W.heap.size, 3, none⟩ = some (.int .i64 0) ∧ w'.cell? ⟨W.heap.size, 4, none⟩ = some (.int .i64 n)) ∧ W.heap.size < w'.heap.size ∧ Below W.heap.size W w')
    (first | exact ⟨⟨c0, c1, c2, c3, c4⟩, hl, hB.drew⟩ | assumption | exact box_kept (by assumption) hb)
    (first | (go_at_call 73; refine (impl_instr_c _ _ _).mono ?_; rintro e w' ⟨rfl, hb⟩) | (go_at_call 39; refine (impl_name _ _).mono ?_; rintro e w' ⟨rfl, rfl⟩) | (go_at_call 56; refine (impl_word _ _).mono ?_; rintro e w' ⟨rfl, rfl⟩))
  rename_i hh
  go_wp2
  go_ret2
  exact ⟨by first | rfl | (rw [show stepV 1 d 0 0 n = .iface 89 (.agg #[.int .i64 d, .int .i64 n]) from rfl]; rfl), hh.2.2⟩
set_option maxHeartbeats 2000000 in
theorem good_c_4 (d n : Int) (W : World) (fd : inR d 0 7 = true) (fn : inR n 0 65535 = true) : Calls Try.prog 50 #[.agg #[.int .i64 1, .int .i64 d, .int .i64 0, .int .i64 0, .int .i64 n]] W fun e W' => e = .returned (.tuple #[stepV 1 d 0 0 n, .bool true]) ∧ Below W.heap.size W W' := by
  have z0 : inR 0 0 7 = true := rfl
  have z1 : inR 0 0 65535 = true := rfl
  go_enter Try.func50, Try.ntmps50
  go_wp2_with (go_at_call 55; refine (impl_stepOf_1 _ _ _ _ _).mono ?_; rintro e w' ⟨rfl, hw⟩; rw [show stepV 1 d 0 0 n = .iface 89 (.agg #[.int .i64 d, .int .i64 n]) from rfl]; obtain ⟨⟨c0, c1, c2, c3, c4⟩, hl, hB⟩ := box_new _ _ _ _ _ _ _ _ _ hw; clear hw)
  go_region_held3 (fun w' => (w'.cell? ⟨W.heap.size, 0, none⟩ = some (.int .i64 1) ∧ w'.cell? ⟨W.heap.size, 1, none⟩ = some (.int .i64 d) ∧ w'.cell? ⟨W.heap.size, 2, none⟩ = some (.int .i64 0) ∧ w'.cell? ⟨W.heap.size, 3, none⟩ = some (.int .i64 0) ∧ w'.cell? ⟨W.heap.size, 4, none⟩ = some (.int .i64 n)) ∧ W.heap.size < w'.heap.size ∧ Below W.heap.size W w')
    (first | exact ⟨⟨c0, c1, c2, c3, c4⟩, hl, hB.drew⟩ | assumption | exact box_kept (by assumption) hb)
    (first | (go_at_call 73; refine (impl_instr_c _ _ _).mono ?_; rintro e w' ⟨rfl, hb⟩) | (go_at_call 39; refine (impl_name _ _).mono ?_; rintro e w' ⟨rfl, rfl⟩) | (go_at_call 56; refine (impl_word _ _).mono ?_; rintro e w' ⟨rfl, rfl⟩))
  rename_i hh
  go_wp2
  go_ret2
  exact ⟨by first | rfl | (rw [show stepV 1 d 0 0 n = .iface 89 (.agg #[.int .i64 d, .int .i64 n]) from rfl]; rfl), hh.2.2⟩
end Go.Proofs.Ytemlhhogcdgofaa.walks
