/-
  What the program makes of a step: the value behind the interface that stepOf tells, what comes back of it by instr, and what goodStep answers, at every five numbers; they make new memory alone.
-/
import Derived.Test.YtemlhhogcdgofaaProg
import Derived.Test.YtemlhhogcdgofaaMagMath
import Derived.Test.YtemlhhogcdgofaaCodeMath
import Derived.Test.YtemlhhogcdgofaaInts
import Derived.WalkKit
import Derived.WalkSpells
import Derived.Below
import Derived.Handy
import Derived.Deep.RegionWith
import Derived.Deep.RegionHeld3
namespace Go.Proofs.Ytemlhhogcdgofaa.walks
open Go.RowKit Go.Proofs.Ytemlhhogcdgofaa.math Go.Proofs.Ytemlhhogcdgofaa.ints
set_option linter.unusedVariables false

/-- The step of these numbers, behind the interface. -/
def stepV (o d a b n : Int) : Value :=
  if o = 1 then .iface 89 (.agg #[.int .i64 d, .int .i64 n]) else if o = 2 then .iface 91 (.agg #[.int .i64 d, .int .i64 a]) else if o = 8 then .iface 95 (.agg #[.int .i64 a]) else .iface 93 (.agg #[.int .i64 o, .int .i64 d, .int .i64 a, .int .i64 b])
def stepX (o d a b n : Int) : Value := if inR o 1 8 then stepV o d a b n else .nilIface

theorem impl_stepOf_1 (d a b n : Int) (W : World) : Calls Try.prog 55 #[.agg #[.int .i64 1, .int .i64 d, .int .i64 a, .int .i64 b, .int .i64 n]] W fun e W' => e = .returned (.tuple #[stepV 1 d a b n, .bool true]) ∧ W' = W.alloc (.cells #[.int .i64 1, .int .i64 d, .int .i64 a, .int .i64 b, .int .i64 n] 74) := by
  go_enter Try.func55, Try.ntmps55
  go_wp2
  go_ret2
  exact ⟨rfl, rfl⟩
theorem impl_stepOf_2 (d a b n : Int) (W : World) : Calls Try.prog 55 #[.agg #[.int .i64 2, .int .i64 d, .int .i64 a, .int .i64 b, .int .i64 n]] W fun e W' => e = .returned (.tuple #[stepV 2 d a b n, .bool true]) ∧ W' = W.alloc (.cells #[.int .i64 2, .int .i64 d, .int .i64 a, .int .i64 b, .int .i64 n] 74) := by
  go_enter Try.func55, Try.ntmps55
  go_wp2
  go_ret2
  exact ⟨rfl, rfl⟩
theorem impl_stepOf_3 (d a b n : Int) (W : World) : Calls Try.prog 55 #[.agg #[.int .i64 3, .int .i64 d, .int .i64 a, .int .i64 b, .int .i64 n]] W fun e W' => e = .returned (.tuple #[stepV 3 d a b n, .bool true]) ∧ W' = W.alloc (.cells #[.int .i64 3, .int .i64 d, .int .i64 a, .int .i64 b, .int .i64 n] 74) := by
  go_enter Try.func55, Try.ntmps55
  go_wp2
  go_ret2
  exact ⟨rfl, rfl⟩
theorem impl_stepOf_4 (d a b n : Int) (W : World) : Calls Try.prog 55 #[.agg #[.int .i64 4, .int .i64 d, .int .i64 a, .int .i64 b, .int .i64 n]] W fun e W' => e = .returned (.tuple #[stepV 4 d a b n, .bool true]) ∧ W' = W.alloc (.cells #[.int .i64 4, .int .i64 d, .int .i64 a, .int .i64 b, .int .i64 n] 74) := by
  go_enter Try.func55, Try.ntmps55
  go_wp2
  go_ret2
  exact ⟨rfl, rfl⟩
theorem impl_stepOf_5 (d a b n : Int) (W : World) : Calls Try.prog 55 #[.agg #[.int .i64 5, .int .i64 d, .int .i64 a, .int .i64 b, .int .i64 n]] W fun e W' => e = .returned (.tuple #[stepV 5 d a b n, .bool true]) ∧ W' = W.alloc (.cells #[.int .i64 5, .int .i64 d, .int .i64 a, .int .i64 b, .int .i64 n] 74) := by
  go_enter Try.func55, Try.ntmps55
  go_wp2
  go_ret2
  exact ⟨rfl, rfl⟩
theorem impl_stepOf_6 (d a b n : Int) (W : World) : Calls Try.prog 55 #[.agg #[.int .i64 6, .int .i64 d, .int .i64 a, .int .i64 b, .int .i64 n]] W fun e W' => e = .returned (.tuple #[stepV 6 d a b n, .bool true]) ∧ W' = W.alloc (.cells #[.int .i64 6, .int .i64 d, .int .i64 a, .int .i64 b, .int .i64 n] 74) := by
  go_enter Try.func55, Try.ntmps55
  go_wp2
  go_ret2
  exact ⟨rfl, rfl⟩
theorem impl_stepOf_7 (d a b n : Int) (W : World) : Calls Try.prog 55 #[.agg #[.int .i64 7, .int .i64 d, .int .i64 a, .int .i64 b, .int .i64 n]] W fun e W' => e = .returned (.tuple #[stepV 7 d a b n, .bool true]) ∧ W' = W.alloc (.cells #[.int .i64 7, .int .i64 d, .int .i64 a, .int .i64 b, .int .i64 n] 74) := by
  go_enter Try.func55, Try.ntmps55
  go_wp2
  go_ret2
  exact ⟨rfl, rfl⟩
theorem impl_stepOf_8 (d a b n : Int) (W : World) : Calls Try.prog 55 #[.agg #[.int .i64 8, .int .i64 d, .int .i64 a, .int .i64 b, .int .i64 n]] W fun e W' => e = .returned (.tuple #[stepV 8 d a b n, .bool true]) ∧ W' = W.alloc (.cells #[.int .i64 8, .int .i64 d, .int .i64 a, .int .i64 b, .int .i64 n] 74) := by
  go_enter Try.func55, Try.ntmps55
  go_wp2
  go_ret2
  exact ⟨rfl, rfl⟩
theorem impl_stepOf_no (o d a b n : Int) (W : World) (h : inR o 1 8 = false) : Calls Try.prog 55 #[.agg #[.int .i64 o, .int .i64 d, .int .i64 a, .int .i64 b, .int .i64 n]] W fun e W' => e = .returned (.tuple #[.nilIface, .bool false]) ∧ W' = W.alloc (.cells #[.int .i64 o, .int .i64 d, .int .i64 a, .int .i64 b, .int .i64 n] 74) := by
  have h' : o < 1 ∨ 8 < o := by
    rcases Int.lt_or_le o 1 with k | k
    · exact Or.inl k
    · rcases Int.lt_or_le 8 o with k2 | k2
      · exact Or.inr k2
      · rw [inR_mk k k2] at h; cases h
  clear h
  have s1 : (o == 1) = false := by simp; omega
  have s2 : (o == 2) = false := by simp; omega
  have s3 : (o == 3) = false := by simp; omega
  have s4 : (o == 4) = false := by simp; omega
  have s5 : (o == 5) = false := by simp; omega
  have s6 : (o == 6) = false := by simp; omega
  have s7 : (o == 7) = false := by simp; omega
  have s8 : (o == 8) = false := by simp; omega
  clear h'
  go_enter Try.func55, Try.ntmps55
  go_wp2
  go_ret2
  exact ⟨rfl, rfl⟩

theorem impl_instr_c (d n : Int) (W : World) : Calls Try.prog 73 #[.agg #[.int .i64 d, .int .i64 n]] W fun e W' => e = .returned (.agg #[.int .i64 1, .int .i64 d, .int .i64 0, .int .i64 0, .int .i64 n]) ∧ Below W.heap.size W W' := by
  go_enter Try.func73, Try.ntmps73
  go_wp2
  refine bodyPost_ret (v := .agg #[.int .i64 1, .int .i64 d, .int .i64 0, .int .i64 0, .int .i64 n]) (by simp [results, Try.results73, go_sem]) rfl ⟨rfl, by go_grown⟩
theorem impl_instr_y (d a : Int) (W : World) : Calls Try.prog 74 #[.agg #[.int .i64 d, .int .i64 a]] W fun e W' => e = .returned (.agg #[.int .i64 2, .int .i64 d, .int .i64 a, .int .i64 0, .int .i64 0]) ∧ Below W.heap.size W W' := by
  go_enter Try.func74, Try.ntmps74
  go_wp2
  refine bodyPost_ret (v := .agg #[.int .i64 2, .int .i64 d, .int .i64 a, .int .i64 0, .int .i64 0]) (by simp [results, Try.results74, go_sem]) rfl ⟨rfl, by go_grown⟩
theorem impl_instr_p (o d a b : Int) (W : World) : Calls Try.prog 75 #[.agg #[.int .i64 o, .int .i64 d, .int .i64 a, .int .i64 b]] W fun e W' => e = .returned (.agg #[.int .i64 o, .int .i64 d, .int .i64 a, .int .i64 b, .int .i64 0]) ∧ Below W.heap.size W W' := by
  go_enter Try.func75, Try.ntmps75
  go_wp2
  refine bodyPost_ret (v := .agg #[.int .i64 o, .int .i64 d, .int .i64 a, .int .i64 b, .int .i64 0]) (by simp [results, Try.results75, go_sem]) rfl ⟨rfl, by go_grown⟩
theorem impl_instr_t (a : Int) (W : World) : Calls Try.prog 76 #[.agg #[.int .i64 a]] W fun e W' => e = .returned (.agg #[.int .i64 8, .int .i64 0, .int .i64 a, .int .i64 0, .int .i64 0]) ∧ Below W.heap.size W W' := by
  go_enter Try.func76, Try.ntmps76
  go_wp2
  refine bodyPost_ret (v := .agg #[.int .i64 8, .int .i64 0, .int .i64 a, .int .i64 0, .int .i64 0]) (by simp [results, Try.results76, go_sem]) rfl ⟨rfl, by go_grown⟩
theorem stepV_p {o d a b n : Int} (o3 : 3 ≤ o) (o7 : o ≤ 7) : stepV o d a b n = .iface 93 (.agg #[.int .i64 o, .int .i64 d, .int .i64 a, .int .i64 b]) := by
  unfold stepV
  rw [if_neg (by omega), if_neg (by omega), if_neg (by omega)]
theorem impl_stepOf_p (o d a b n : Int) (W : World) (o3 : 3 ≤ o) (o7 : o ≤ 7) : Calls Try.prog 55 #[.agg #[.int .i64 o, .int .i64 d, .int .i64 a, .int .i64 b, .int .i64 n]] W fun e W' => e = .returned (.tuple #[stepV o d a b n, .bool true]) ∧ W' = W.alloc (.cells #[.int .i64 o, .int .i64 d, .int .i64 a, .int .i64 b, .int .i64 n] 74) := by
  obtain rfl | rfl | rfl | rfl | rfl : o = 3 ∨ o = 4 ∨ o = 5 ∨ o = 6 ∨ o = 7 := by omega
  · exact impl_stepOf_3 d a b n W
  · exact impl_stepOf_4 d a b n W
  · exact impl_stepOf_5 d a b n W
  · exact impl_stepOf_6 d a b n W
  · exact impl_stepOf_7 d a b n W
theorem impl_name (n : Int) (W : World) : Calls Try.prog 39 #[.int .i64 n] W fun e W' => e = .returned (.bool (inR n 0 7)) ∧ W' = W := by
  by_cases h0 : 0 ≤ n
  rotate_left
  · have k0 : n < 0 := by omega
    have d0 : decide (0 ≤ n) = false := decide_eq_false h0
    rw [inR_lt k0]
    clear h0
    go_enter Try.func39, Try.ntmps39
    go_wp2
    go_ret
    exact ⟨rfl, rfl⟩
  have d0 : decide (0 ≤ n) = true := decide_eq_true h0
  by_cases h1 : n < 8
  rotate_left
  · have k1 : 8 ≤ n := by omega
    have d1 : decide (n < 8) = false := decide_eq_false h1
    rw [inR_gt (by omega)]
    clear h1
    go_enter Try.func39, Try.ntmps39
    go_wp2
    go_ret
    exact ⟨rfl, rfl⟩
  rw [inR_mk h0 (by omega)]
  have d1 : decide (n < 8) = true := decide_eq_true h1
  go_enter Try.func39, Try.ntmps39
  go_wp2
  go_ret
  exact ⟨rfl, rfl⟩
theorem impl_word (n : Int) (W : World) : Calls Try.prog 56 #[.int .i64 n] W fun e W' => e = .returned (.bool (inR n 0 65535)) ∧ W' = W := by
  by_cases h0 : 0 ≤ n
  rotate_left
  · have k0 : n < 0 := by omega
    have d0 : decide (0 ≤ n) = false := decide_eq_false h0
    rw [inR_lt k0]
    clear h0
    go_enter Try.func56, Try.ntmps56
    go_wp2
    go_ret
    exact ⟨rfl, rfl⟩
  have d0 : decide (0 ≤ n) = true := decide_eq_true h0
  by_cases h1 : n ≤ 65535
  rotate_left
  · have k1 : 65535 < n := by omega
    have d1 : decide (n ≤ 65535) = false := decide_eq_false h1
    rw [inR_gt k1]
    clear h1
    go_enter Try.func56, Try.ntmps56
    go_wp2
    go_ret
    exact ⟨rfl, rfl⟩
  rw [inR_mk h0 h1]
  have d1 : decide (n ≤ 65535) = true := decide_eq_true h1
  go_enter Try.func56, Try.ntmps56
  go_wp2
  go_ret
  exact ⟨rfl, rfl⟩
theorem box_kept {W w w' : World} {g : Nat} {o d a b n : Int} (h : (w.cell? ⟨g, 0, none⟩ = some (.int .i64 o) ∧ w.cell? ⟨g, 1, none⟩ = some (.int .i64 d) ∧ w.cell? ⟨g, 2, none⟩ = some (.int .i64 a) ∧ w.cell? ⟨g, 3, none⟩ = some (.int .i64 b) ∧ w.cell? ⟨g, 4, none⟩ = some (.int .i64 n)) ∧ g < w.heap.size ∧ Below W.heap.size W w) (hb : Below w.heap.size w w') :
    (w'.cell? ⟨g, 0, none⟩ = some (.int .i64 o) ∧ w'.cell? ⟨g, 1, none⟩ = some (.int .i64 d) ∧ w'.cell? ⟨g, 2, none⟩ = some (.int .i64 a) ∧ w'.cell? ⟨g, 3, none⟩ = some (.int .i64 b) ∧ w'.cell? ⟨g, 4, none⟩ = some (.int .i64 n)) ∧ g < w'.heap.size ∧ Below W.heap.size W w' := by
  obtain ⟨⟨h0, h1, h2, h3, h4⟩, hg, hB⟩ := h
  have k : ∀ i, w'.cell? ⟨g, i, none⟩ = w.cell? ⟨g, i, none⟩ := fun i => hb.cell (p := ⟨g, i, none⟩) hg
  exact ⟨⟨(k 0).trans h0, (k 1).trans h1, (k 2).trans h2, (k 3).trans h3, (k 4).trans h4⟩, Nat.lt_of_lt_of_le hg hb.size, hB.trans (hb.mono hB.size)⟩
theorem box_new (W : World) (o d a b n : Int) (t t' : TypeId) : ∀ w' : World, w' = (W.alloc (.cells #[.int .i64 o, .int .i64 d, .int .i64 a, .int .i64 b, .int .i64 n] t)).alloc (.cells #[.int .i64 o, .int .i64 d, .int .i64 a, .int .i64 b, .int .i64 n] t') →
    (w'.cell? ⟨W.heap.size, 0, none⟩ = some (.int .i64 o) ∧ w'.cell? ⟨W.heap.size, 1, none⟩ = some (.int .i64 d) ∧ w'.cell? ⟨W.heap.size, 2, none⟩ = some (.int .i64 a) ∧ w'.cell? ⟨W.heap.size, 3, none⟩ = some (.int .i64 b) ∧ w'.cell? ⟨W.heap.size, 4, none⟩ = some (.int .i64 n)) ∧ W.heap.size < w'.heap.size ∧ Below W.heap.size W w' := by
  rintro w' rfl
  refine ⟨⟨?_, ?_, ?_, ?_, ?_⟩, ?_, ?_⟩
  all_goals first | (simp [World.cell?_alloc_old]; done) | go_grown
theorem box_drew {W w w' : World} {g : Nat} {o d a b n : Int} (hb : Below w.drew.heap.size w.drew w') (h0 : w.cell? ⟨g, 0, none⟩ = some (.int .i64 o)) (h1 : w.cell? ⟨g, 1, none⟩ = some (.int .i64 d)) (h2 : w.cell? ⟨g, 2, none⟩ = some (.int .i64 a)) (h3 : w.cell? ⟨g, 3, none⟩ = some (.int .i64 b)) (h4 : w.cell? ⟨g, 4, none⟩ = some (.int .i64 n)) (hg : g < w.heap.size) (hB : Below W.heap.size W w) :
    (w'.cell? ⟨g, 0, none⟩ = some (.int .i64 o) ∧ w'.cell? ⟨g, 1, none⟩ = some (.int .i64 d) ∧ w'.cell? ⟨g, 2, none⟩ = some (.int .i64 a) ∧ w'.cell? ⟨g, 3, none⟩ = some (.int .i64 b) ∧ w'.cell? ⟨g, 4, none⟩ = some (.int .i64 n)) ∧ g < w'.heap.size ∧ Below W.heap.size W w' :=
  box_kept (w := w.drew) ⟨⟨h0, h1, h2, h3, h4⟩, hg, hB.drew⟩ hb
end Go.Proofs.Ytemlhhogcdgofaa.walks
