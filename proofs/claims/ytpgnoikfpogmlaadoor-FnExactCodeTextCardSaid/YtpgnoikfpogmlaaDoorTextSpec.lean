/-
  What the specification's l3Letter, l3Sign and l1Num answer: the letter of a name, the sign of a step of two words, the decimal digits of a word.
-/
import Derived.Test.YtpgnoikfpogmlaaDoorProg
import Derived.Test.YtpgnoikfpogmlaaDoorMagMath
import Derived.Lib.ItoaNum
import Derived.WalkKit
import Derived.WalkSpells
import Derived.Below
import Derived.Handy
import Derived.Laws.BytesString
import Derived.Deep.RegionWith
namespace Go.Proofs.YtpgnoikfpogmlaaDoor.walks
open Go.RowKit Go.Proofs.YtpgnoikfpogmlaaDoor.math
set_option linter.unusedVariables false

/-- A name's letter; a sign. -/
def letterS (n : Int) : ByteArray := ⟨#[UInt8.ofNat (97 + n.toNat)]⟩
def signS (o : Int) : ByteArray := if o = 3 then ⟨#[43]⟩ else if o = 4 then ⟨#[45]⟩ else if o = 5 then ⟨#[42]⟩ else if o = 6 then ⟨#[60]⟩ else ⟨#[126]⟩
theorem conv_one (w : World) (x : Int) (t : TypeId) : (convert 22 9 (.slice (some ⟨w.heap.size, 0, none⟩) 1 1)).run Tryd.prog (w.alloc (.cells #[.int .u8 x] t)) = .ok (.string ⟨#[UInt8.ofNat x.toNat]⟩) (w.alloc (.cells #[.int .u8 x] t)) := by
  rw [run_convert_bytes_string _ _ _ 5 _ _ _ Tryd.underlying22 Tryd.underlying5 Tryd.underlying9, run_bytesToString _ _ 1 1 [x]]
  · rfl
  · simp [loadCells, loadCellsFrom, go_sem]
theorem conv_at (w : World) (b : Nat) (x : Int) (h : w.cell? ⟨b, 0, none⟩ = some (.int .u8 x)) : (convert 22 9 (.slice (some ⟨b, 0, none⟩) 1 1)).run Tryd.prog w = .ok (.string ⟨#[UInt8.ofNat x.toNat]⟩) w := by
  rw [run_convert_bytes_string _ _ _ 5 _ _ _ Tryd.underlying22 Tryd.underlying5 Tryd.underlying9, run_bytesToString _ _ 1 1 [x]]
  · rfl
  · simp [loadCells, loadCellsFrom, h, go_sem]
theorem kept_cells {W w1 : World} (hb : Below W.heap.size W w1) : ∀ b o, b < W.heap.size → w1.cell? ⟨b, o, none⟩ = W.cell? ⟨b, o, none⟩ := fun b o h => hb.cell (p := ⟨b, o, none⟩) h
theorem num_below1 {W w' : World} {o : Obj} (hb : Below W.drew.heap.size W.drew w') : Below W.heap.size W (w'.alloc o) := by
  have h1 : Below W.heap.size W w' := ((Below.refl W.heap.size W).drew).trans hb
  exact h1.alloc h1.size o
theorem num_below2 {W w' : World} {o : Obj} (hb : Below (W.drew.alloc o).heap.size (W.drew.alloc o) w') : Below W.heap.size W w' :=
  have h2 : Below W.heap.size W (W.drew.alloc o) := ((Below.refl W.heap.size W).drew).alloc (Nat.le_refl _) o
  h2.trans (hb.mono h2.size)
set_option maxRecDepth 100000 in
theorem spec_letter (n : Int) (W : World) (h0 : 0 ≤ n) (h7 : n ≤ 7) : Calls Tryd.prog 38 #[.int .i64 n] W fun e W' => e = .returned (.string (letterS n)) ∧ Below W.heap.size W W' := by
  obtain rfl | rfl | rfl | rfl | rfl | rfl | rfl | rfl : n = 0 ∨ n = 1 ∨ n = 2 ∨ n = 3 ∨ n = 4 ∨ n = 5 ∨ n = 6 ∨ n = 7 := by omega
  all_goals
    have qv := conv_one
    go_enter Tryd.func38, Tryd.ntmps38
    go_wp2
    go_ret
    exact ⟨rfl, by go_grown⟩
set_option maxRecDepth 100000 in
theorem spec_sign (o : Int) (W : World) (h3 : 3 ≤ o) (h7 : o ≤ 7) : Calls Tryd.prog 40 #[.int .i64 o] W fun e W' => e = .returned (.string (signS o)) ∧ W' = W := by
  obtain rfl | rfl | rfl | rfl | rfl : o = 3 ∨ o = 4 ∨ o = 5 ∨ o = 6 ∨ o = 7 := by omega
  all_goals
    go_enter Tryd.func40, Tryd.ntmps40
    go_wp2
    go_ret
    exact ⟨rfl, rfl⟩
set_option maxRecDepth 100000 in
theorem impl_letter (n : Int) (W : World) (h0 : 0 ≤ n) (h7 : n ≤ 7) : Calls Tryd.prog 31 #[.int .i64 n] W fun e W' => e = .returned (.string (letterS n)) ∧ W' = W := by
  obtain rfl | rfl | rfl | rfl | rfl | rfl | rfl | rfl : n = 0 ∨ n = 1 ∨ n = 2 ∨ n = 3 ∨ n = 4 ∨ n = 5 ∨ n = 6 ∨ n = 7 := by omega
  all_goals
    go_enter Tryd.func31, Tryd.ntmps31
    go_wp2
    go_ret
    exact ⟨rfl, rfl⟩
set_option maxRecDepth 100000 in
theorem impl_sign (o : Int) (W : World) (h3 : 3 ≤ o) (h7 : o ≤ 7) : Calls Tryd.prog 33 #[.int .i64 o] W fun e W' => e = .returned (.string (signS o)) ∧ W' = W := by
  obtain rfl | rfl | rfl | rfl | rfl : o = 3 ∨ o = 4 ∨ o = 5 ∨ o = 6 ∨ o = 7 := by omega
  all_goals
    go_enter Tryd.func33, Tryd.ntmps33
    go_wp2
    go_ret
    exact ⟨by kernel_rfl, rfl⟩
/-- The decimal digits of a number. -/
def numS (n : Nat) : ByteArray := ⟨(Lib.decDigits n).toArray⟩
theorem numS_small {n : Nat} (h : n < 10) : numS n = ⟨#[UInt8.ofNat (48 + n)]⟩ := by
  unfold numS
  rw [Lib.decDigits, dif_pos h]
theorem numS_more {n : Nat} (h : ¬ n < 10) : numS n = numS (n / 10) ++ ⟨#[UInt8.ofNat (48 + n % 10)]⟩ := by
  unfold numS
  conv => lhs; rw [Lib.decDigits, dif_neg h]
  apply ByteArray.ext
  simp
theorem numS_len : ∀ (k n : Nat), n < 10 ^ (k + 1) → (numS n).size ≤ k + 1
  | 0, n, h => by rw [numS_small (by simpa using h)]; exact Nat.le_refl _
  | k + 1, n, h => by
    by_cases h10 : n < 10
    · rw [numS_small h10]; show 1 ≤ _; omega
    · rw [numS_more h10]
      have := numS_len k (n / 10) (by rw [Nat.pow_succ] at h; exact Nat.div_lt_of_lt_mul (by omega))
      rw [ByteArray.size_append]
      show (numS (n / 10)).size + 1 ≤ _
      omega
set_option maxRecDepth 100000 in
theorem spec_num_small (n : Nat) (W : World) (h : n < 10) : Calls Tryd.prog 39 #[.int .i64 (n : Int)] W fun e W' => e = .returned (.string (numS n)) ∧ Below W.heap.size W W' := by
  rw [numS_small h]
  obtain rfl | rfl | rfl | rfl | rfl | rfl | rfl | rfl | rfl | rfl : n = 0 ∨ n = 1 ∨ n = 2 ∨ n = 3 ∨ n = 4 ∨ n = 5 ∨ n = 6 ∨ n = 7 ∨ n = 8 ∨ n = 9 := by omega
  all_goals
    have qv := conv_one
    go_enter Tryd.func39, Tryd.ntmps39
    go_wp2
    go_ret
    exact ⟨rfl, by go_grown⟩
theorem wrap_q {q : Nat} (h : q ≤ 6553) : IntKind.i64.wrap (q : Int) = (q : Int) := by
  unfold IntKind.wrap
  simp [IntKind.signed, IntKind.bits]
  omega
theorem byte_r {r : Nat} (h : r < 10) : (wrap64 (48 + (r : Int)) % 256).toNat = 48 + r := by
  have e : wrap64 (48 + (r : Int)) = 48 + (r : Int) := by unfold wrap64; omega
  rw [e]
  omega
set_option maxHeartbeats 1000000 in
set_option maxRecDepth 100000 in
theorem spec_num_more (n q r : Nat) (sq : ByteArray) (W : World) (hn : (10 : Int) ≤ (n : Int)) (hb : n ≤ 65535) (hq : Int.tdiv (n : Int) 10 = (q : Int)) (hr : Int.tmod (n : Int) 10 = (r : Int)) (HQ : Hid (q ≤ 6553)) (HR : Hid (r < 10)) (hs : sq.size ≤ 10)
    (ih : Hid (∀ W : World, Calls Tryd.prog 39 #[.int .i64 (q : Int)] W fun e W' => e = .returned (.string sq) ∧ Below W.heap.size W W')) :
    Calls Tryd.prog 39 #[.int .i64 (n : Int)] W fun e W' => e = .returned (.string (sq ++ ⟨#[UInt8.ofNat (48 + r)]⟩)) ∧ Below W.heap.size W W' := by
  have qv := conv_at
  go_enter Tryd.func39, Tryd.ntmps39
  go_wp2
  first | (go_region_with (first | (go_at_call 39; rw [wrap_q HQ.out]; refine (ih.out _).mono ?_; rintro e w' ⟨rfl, hb'⟩; have k1 := kept_cells hb'))) | fail
  all_goals go_wp2
  all_goals go_ret
  all_goals
    refine ⟨?_, ?_⟩
    · show Ending.returned (Value.string (sq ++ ⟨#[UInt8.ofNat (wrap64 (48 + (r : Int)) % 256).toNat]⟩)) = _
      rw [byte_r HR.out]
    · first | exact num_below1 hb' | exact num_below2 hb'
theorem spec_num : ∀ (k n : Nat) (W : World), n < 10 ^ (k + 1) → n ≤ 65535 → Calls Tryd.prog 39 #[.int .i64 (n : Int)] W fun e W' => e = .returned (.string (numS n)) ∧ Below W.heap.size W W'
  | 0, n, W, h, _ => spec_num_small n W (by simpa using h)
  | k + 1, n, W, h, hb => by
    by_cases h10 : n < 10
    · exact spec_num_small n W h10
    · rw [numS_more h10]
      have hlt : n / 10 < 10 ^ (k + 1) := by rw [Nat.pow_succ] at h; exact Nat.div_lt_of_lt_mul (by omega)
      have h5 : n / 10 < 10 ^ (3 + 1) := by omega
      exact spec_num_more n (n / 10) (n % 10) (numS (n / 10)) W (by omega) hb (by simp) (by rw [Int.tmod_eq_emod_of_nonneg (by omega)]; omega) (by show n / 10 ≤ 6553; omega) (by show n % 10 < 10; omega) (Nat.le_trans (numS_len 3 (n / 10) h5) (by omega)) (fun W => spec_num k (n / 10) W hlt (by omega))
end Go.Proofs.YtpgnoikfpogmlaaDoor.walks
