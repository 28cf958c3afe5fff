/-
  What the program's markSet, rising and NamesSet answer: the names that are set, rising, in memory of their own.
-/
import Derived.Test.YtfejfbafoaiidaaProg
import Derived.Test.YtfejfbafoaiidaaMagMath
import Derived.Test.YtfejfbafoaiidaaCodeMath
import Derived.Test.YtfejfbafoaiidaaRunMath
import Derived.Test.YtfejfbafoaiidaaNamesMath
import Derived.Test.YtfejfbafoaiidaaInts
import Derived.Test.YtfejfbafoaiidaaOwnInts
import Derived.Test.YtfejfbafoaiidaaRecsInstr
import Derived.Test.YtfejfbafoaiidaaStepImpl
import Derived.Test.YtfejfbafoaiidaaStepKinds
import Derived.Test.YtfejfbafoaiidaaStepsOf
import Derived.Test.YtfejfbafoaiidaaSetBy
import Derived.WalkKit
import Derived.WalkSpells
import Derived.Below
import Derived.Handy
import Derived.Deep.OwnRows
namespace Go.Proofs.Ytfejfbafoaiidaa.walks
open Go.RowKit Go.Proofs.Ytfejfbafoaiidaa.math Go.Proofs.Ytfejfbafoaiidaa.ints
set_option linter.unusedVariables false
set_option maxRecDepth 100000

set_option maxHeartbeats 1000000 in
theorem mark_yes (o d a b n : Int) (j : Nat) (g : Nat) (W : World) (c0 : Value) (hgd : goodI o d a b n = true) (h8 : o ≠ 8) (hd : d = (j : Int)) (hj8 : (j : Int) < 8) (hg : g < W.heap.size) (e0 : W.cell? ⟨g, j, none⟩ = some c0) (f0 : W.frozen? ⟨g, j, none⟩ = false) :
    Calls Try.prog 26 #[.pointer (some ⟨g, 0, none⟩), stepV o d a b n] W fun e W' => e = .returned (.tuple #[]) ∧ ∃ x, W' = (W.alloc x).setCell ⟨g, j, none⟩ (.bool true) := by
  have C := impl_setby o d a b n W hgd h8
  generalize stepV o d a b n = sv at C ⊢
  subst hd
  clear hgd h8
  go_enter Try.func26, Try.ntmps26
  go_wp2_with fail
  refine C.mono ?_
  clear C
  rintro e w' ⟨rfl, x, rfl⟩
  have e1 : (W.alloc x).cell? ⟨g, j, none⟩ = some c0 := (((Below.refl W.heap.size W).alloc (Nat.le_refl _) x).cell (p := ⟨g, j, none⟩) hg).trans e0
  have f1 : (W.alloc x).frozen? ⟨g, j, none⟩ = false := (((Below.refl W.heap.size W).alloc (Nat.le_refl _) x).frozen (p := ⟨g, j, none⟩) hg).trans f0
  have hg1 : g < (W.alloc x).heap.size := by simp; omega
  obtain ⟨w1, hw1⟩ : ∃ w1, Hid (W.alloc x = w1) := ⟨_, rfl⟩
  rw [hw1.out] at e1 f1 hg1 ⊢
  clear e0 f0 hg
  go_wp2
  exact bodyPost_end (v := .tuple #[]) (by simp [results, Try.results26, go_sem]) rfl ⟨rfl, x, by rw [hw1.out]⟩
theorem mark_no (d a b n : Int) (v : Value) (W : World) :
    Calls Try.prog 26 #[v, stepV 8 d a b n] W fun e W' => e = .returned (.tuple #[]) ∧ W' = W := by
  go_enter Try.func26, Try.ntmps26
  go_wp2_with fail
  refine (impl_setno _ _ _ _ _).mono ?_
  rintro e w' ⟨rfl, rfl⟩
  go_wp2
  exact bodyPost_end (v := .tuple #[]) (by simp [results, Try.results26, go_sem]) rfl ⟨rfl, rfl⟩
/-- The block g holds a mark for each name. -/
def Marked (w : World) (g : Nat) (f : Nat → Bool) : Prop := w.rowIs g 58 8 (fun i => .bool (f i))
theorem marked_set {W : World} {g B j : Nat} {f : Nat → Bool} (h : Marked W g f) (hB : B ≤ g) (hj : j < 8) (o : Obj) : Marked ((W.setCell ⟨g, j, none⟩ (.bool true)).alloc o).drew g (fun i => f i || i == j) ∧ Below B W ((W.setCell ⟨g, j, none⟩ (.bool true)).alloc o).drew := by
  have hl := h.lt
  refine ⟨?_, (((Below.refl B W).setCell hB _).alloc (by simp [World.setCell]; omega) o).drew⟩
  refine World.rowIs.drew (World.rowIs.alloc ((h.set j (.bool true)).congr ?_) o)
  intro i hi
  by_cases e : i = j
  · subst e; simp
  · simp [e]
theorem impl_markAny (o d a b n : Int) (g B : Nat) (f : Nat → Bool) (W : World) (hg : goodI o d a b n = true) (hB : B ≤ g) (h : Marked W g f) :
    Calls Try.prog 26 #[.pointer (some ⟨g, 0, none⟩), stepV o d a b n] W fun e W' => e = .returned (.tuple #[]) ∧ Marked W' g (fun i => f i || (!(o == 8) && i == d.toNat)) ∧ Below B W W' ∧ W.grownBy W' (some g) := by
  have hl := h.lt
  by_cases h8 : o = 8
  · subst h8
    refine (mark_no d a b n _ W).mono ?_
    rintro e w' ⟨rfl, rfl⟩
    exact ⟨rfl, by simpa using h, Below.refl _ _, ⟨rfl, rfl, rfl, Nat.le_refl _, fun _ _ _ => rfl⟩⟩
  · obtain ⟨d0, d7⟩ : 0 ≤ d ∧ d ≤ 7 := by
      rcases good_cases hg with ⟨_, q, _⟩ | ⟨_, q, _⟩ | ⟨q, _⟩ | ⟨_, q, _⟩
      · exact q
      · exact q
      · exact absurd q h8
      · exact q
    obtain ⟨dn, rfl⟩ := Int.eq_ofNat_of_zero_le d0
    refine (mark_yes o dn a b n dn g W _ hg h8 rfl (by omega) hl (h.cell (by omega)) (h.frozen dn)).mono ?_
    rintro e w' ⟨rfl, x, rfl⟩
    have e8 : (o == 8) = false := by simpa using h8
    refine ⟨rfl, ?_, ((Below.refl B W).alloc (by omega) x).setCell hB _, ?_⟩
    · refine ((World.rowIs.alloc h x).set dn (.bool true)).congr ?_
      intro i hi
      rw [e8]
      by_cases e : i = dn
      · subst e; simp
      · simp [e]
    · have g1 : W.grownBy (W.alloc x) (some g) := World.grownBy_alloc W x (some g)
      have g2 : (W.alloc x).grownBy ((W.alloc x).setCell ⟨g, dn, none⟩ (.bool true)) (some g) := ⟨rfl, rfl, rfl, by simp [World.setCell], fun k hk hne => Below.heap_setCell _ _ _ _ (by simpa using hne)⟩
      exact g1.trans g2
theorem impl_mark (o d a b n : Int) (g B : Nat) (f : Nat → Bool) (W : World) (hg : goodI o d a b n = true) (hB : B ≤ g) (h : Marked W g f) :
    Calls Try.prog 26 #[.pointer (some ⟨g, 0, none⟩), stepV o d a b n] W fun e W' => e = .returned (.tuple #[]) ∧ Marked W' g (fun i => f i || (!(o == 8) && i == d.toNat)) ∧ Below B W W' :=
  (impl_markAny o d a b n g B f W hg hB h).mono fun e w' ⟨h1, h2, h3, _⟩ => ⟨h1, h2, h3⟩
/-- What rising leaves. -/
def RisAns (W : World) (zs : List Int) (e : Ending) (W' : World) : Prop := ∃ v, e = .returned v ∧ Own W' W.heap.size v zs ∧ Below W.heap.size W W'
theorem ris_yes {f : Nat → Bool} {k : Nat} (h : f k = true) : risingTo f (k + 1) = risingTo f k ++ [(k : Int)] := by simp [risingTo, h]
theorem ris_no {f : Nat → Bool} {k : Nat} (h : f k = false) : risingTo f (k + 1) = risingTo f k := by simp [risingTo, h]
theorem idx0 : ∀ (b0 b1 b2 b3 b4 b5 b6 b7 : Bool) (w : World), (Instr.index 58 (.agg #[.bool b0, .bool b1, .bool b2, .bool b3, .bool b4, .bool b5, .bool b6, .bool b7]) (.int .i64 0)).run Try.prog w = .ok (.bool b0) w := fun _ _ _ _ _ _ _ _ _ => by kernel_rfl
theorem idx1 : ∀ (b0 b1 b2 b3 b4 b5 b6 b7 : Bool) (w : World), (Instr.index 58 (.agg #[.bool b0, .bool b1, .bool b2, .bool b3, .bool b4, .bool b5, .bool b6, .bool b7]) (.int .i64 1)).run Try.prog w = .ok (.bool b1) w := fun _ _ _ _ _ _ _ _ _ => by kernel_rfl
theorem idx2 : ∀ (b0 b1 b2 b3 b4 b5 b6 b7 : Bool) (w : World), (Instr.index 58 (.agg #[.bool b0, .bool b1, .bool b2, .bool b3, .bool b4, .bool b5, .bool b6, .bool b7]) (.int .i64 2)).run Try.prog w = .ok (.bool b2) w := fun _ _ _ _ _ _ _ _ _ => by kernel_rfl
theorem idx3 : ∀ (b0 b1 b2 b3 b4 b5 b6 b7 : Bool) (w : World), (Instr.index 58 (.agg #[.bool b0, .bool b1, .bool b2, .bool b3, .bool b4, .bool b5, .bool b6, .bool b7]) (.int .i64 3)).run Try.prog w = .ok (.bool b3) w := fun _ _ _ _ _ _ _ _ _ => by kernel_rfl
theorem idx4 : ∀ (b0 b1 b2 b3 b4 b5 b6 b7 : Bool) (w : World), (Instr.index 58 (.agg #[.bool b0, .bool b1, .bool b2, .bool b3, .bool b4, .bool b5, .bool b6, .bool b7]) (.int .i64 4)).run Try.prog w = .ok (.bool b4) w := fun _ _ _ _ _ _ _ _ _ => by kernel_rfl
theorem idx5 : ∀ (b0 b1 b2 b3 b4 b5 b6 b7 : Bool) (w : World), (Instr.index 58 (.agg #[.bool b0, .bool b1, .bool b2, .bool b3, .bool b4, .bool b5, .bool b6, .bool b7]) (.int .i64 5)).run Try.prog w = .ok (.bool b5) w := fun _ _ _ _ _ _ _ _ _ => by kernel_rfl
theorem idx6 : ∀ (b0 b1 b2 b3 b4 b5 b6 b7 : Bool) (w : World), (Instr.index 58 (.agg #[.bool b0, .bool b1, .bool b2, .bool b3, .bool b4, .bool b5, .bool b6, .bool b7]) (.int .i64 6)).run Try.prog w = .ok (.bool b6) w := fun _ _ _ _ _ _ _ _ _ => by kernel_rfl
theorem idx7 : ∀ (b0 b1 b2 b3 b4 b5 b6 b7 : Bool) (w : World), (Instr.index 58 (.agg #[.bool b0, .bool b1, .bool b2, .bool b3, .bool b4, .bool b5, .bool b6, .bool b7]) (.int .i64 7)).run Try.prog w = .ok (.bool b7) w := fun _ _ _ _ _ _ _ _ _ => by kernel_rfl
set_option maxHeartbeats 8000000 in
theorem impl_rising (f : Nat → Bool) (W : World) : Calls Try.prog 27 #[.agg #[.bool (f 0), .bool (f 1), .bool (f 2), .bool (f 3), .bool (f 4), .bool (f 5), .bool (f 6), .bool (f 7)]] W fun e W' => RisAns W (risingTo f 8) e W' := by
  obtain ⟨i0, hi, hz0, hz1, hz2⟩ := info_parts row_info
  go_enter Try.func27, Try.ntmps27
  go_wp2
  go_loopw [3, 7] (fun vt vi wr => ∃ k : Nat, k ≤ 8 ∧ vi = .int .i64 k ∧ Hid (Own wr W.heap.size vt (risingTo f k)) ∧ Hid (Below W.heap.size W wr)) (fun _ vi _ => 8 - (intOf vi).toNat)
  case atStart => exact ⟨0, Nat.zero_le _, rfl, own_nil _ _, by show Below _ _ _; go_grown⟩
  case round =>
    obtain ⟨k, hk, rfl, HO, HB⟩ := hrel
    have hsz := HB.out.size
    have HL : Hid ((risingTo f k).length ≤ k) := rising_len f k
    by_cases hlt : k < 8
    · obtain rfl | rfl | rfl | rfl | rfl | rfl | rfl | rfl : k = 0 ∨ k = 1 ∨ k = 2 ∨ k = 3 ∨ k = 4 ∨ k = 5 ∨ k = 6 ∨ k = 7 := by omega
      · rw [show ((0 : Nat) : Int) = (0 : Int) from rfl]
        have qx := idx0
        cases hf : f 0
        · have HE : Hid (risingTo f 1 = risingTo f 0) := ris_no hf
          go_wp2
          go_roundw
          case rel => exact ⟨1, by omega, by go_num, by rw [HE.out]; exact HO.out, HB⟩
          case measure => simp [intOf]
        · have HE : Hid (risingTo f 1 = risingTo f 0 ++ [(0 : Int)]) := ris_yes hf
          go_wp2_with (first
            | (at_builtin; refine wpList_append_own _ rfl _ _ 24 rfl W.heap.size 3 i0 (.int .i64 0) 1 8 Try.underlying24 hi hz0 hz1 hz2 rfl (by decide) _ _ _ rfl (World.ownsRow.alloc HO.out _) ⟨wr.heap.size, 0, none⟩ 1 1 [.int .i64 0] rfl rfl (new_one wr 0 _) (one_of 0) (by have := HL.out; unfold maxLen; omega) (by have := HL.out; omega) (by simp; omega) ?_)
            | go_in)
          intro v' w1 hown' hgrow _
          obtain ⟨q0, q1, q2⟩ := Own.snoc HO.out hsz HB.out hown' hgrow
          have Q0 : Hid (Own w1 W.heap.size v' (risingTo f 0 ++ [(0 : Int)])) := q0
          have Q1 : Hid (Below W.heap.size W w1) := q1
          clear hown' hgrow q0 q1 q2
          go_wp2
          go_roundw
          case rel => exact ⟨1, by omega, by go_num, by rw [HE.out]; exact Q0, Q1⟩
          case measure => simp [intOf]
      · rw [show ((1 : Nat) : Int) = (1 : Int) from rfl]
        have qx := idx1
        cases hf : f 1
        · have HE : Hid (risingTo f 2 = risingTo f 1) := ris_no hf
          go_wp2
          go_roundw
          case rel => exact ⟨2, by omega, by go_num, by rw [HE.out]; exact HO.out, HB⟩
          case measure => simp [intOf]
        · have HE : Hid (risingTo f 2 = risingTo f 1 ++ [(1 : Int)]) := ris_yes hf
          go_wp2_with (first
            | (at_builtin; refine wpList_append_own _ rfl _ _ 24 rfl W.heap.size 3 i0 (.int .i64 0) 1 8 Try.underlying24 hi hz0 hz1 hz2 rfl (by decide) _ _ _ rfl (World.ownsRow.alloc HO.out _) ⟨wr.heap.size, 0, none⟩ 1 1 [.int .i64 1] rfl rfl (new_one wr 1 _) (one_of 1) (by have := HL.out; unfold maxLen; omega) (by have := HL.out; omega) (by simp; omega) ?_)
            | go_in)
          intro v' w1 hown' hgrow _
          obtain ⟨q0, q1, q2⟩ := Own.snoc HO.out hsz HB.out hown' hgrow
          have Q0 : Hid (Own w1 W.heap.size v' (risingTo f 1 ++ [(1 : Int)])) := q0
          have Q1 : Hid (Below W.heap.size W w1) := q1
          clear hown' hgrow q0 q1 q2
          go_wp2
          go_roundw
          case rel => exact ⟨2, by omega, by go_num, by rw [HE.out]; exact Q0, Q1⟩
          case measure => simp [intOf]
      · rw [show ((2 : Nat) : Int) = (2 : Int) from rfl]
        have qx := idx2
        cases hf : f 2
        · have HE : Hid (risingTo f 3 = risingTo f 2) := ris_no hf
          go_wp2
          go_roundw
          case rel => exact ⟨3, by omega, by go_num, by rw [HE.out]; exact HO.out, HB⟩
          case measure => simp [intOf]
        · have HE : Hid (risingTo f 3 = risingTo f 2 ++ [(2 : Int)]) := ris_yes hf
          go_wp2_with (first
            | (at_builtin; refine wpList_append_own _ rfl _ _ 24 rfl W.heap.size 3 i0 (.int .i64 0) 1 8 Try.underlying24 hi hz0 hz1 hz2 rfl (by decide) _ _ _ rfl (World.ownsRow.alloc HO.out _) ⟨wr.heap.size, 0, none⟩ 1 1 [.int .i64 2] rfl rfl (new_one wr 2 _) (one_of 2) (by have := HL.out; unfold maxLen; omega) (by have := HL.out; omega) (by simp; omega) ?_)
            | go_in)
          intro v' w1 hown' hgrow _
          obtain ⟨q0, q1, q2⟩ := Own.snoc HO.out hsz HB.out hown' hgrow
          have Q0 : Hid (Own w1 W.heap.size v' (risingTo f 2 ++ [(2 : Int)])) := q0
          have Q1 : Hid (Below W.heap.size W w1) := q1
          clear hown' hgrow q0 q1 q2
          go_wp2
          go_roundw
          case rel => exact ⟨3, by omega, by go_num, by rw [HE.out]; exact Q0, Q1⟩
          case measure => simp [intOf]
      · rw [show ((3 : Nat) : Int) = (3 : Int) from rfl]
        have qx := idx3
        cases hf : f 3
        · have HE : Hid (risingTo f 4 = risingTo f 3) := ris_no hf
          go_wp2
          go_roundw
          case rel => exact ⟨4, by omega, by go_num, by rw [HE.out]; exact HO.out, HB⟩
          case measure => simp [intOf]
        · have HE : Hid (risingTo f 4 = risingTo f 3 ++ [(3 : Int)]) := ris_yes hf
          go_wp2_with (first
            | (at_builtin; refine wpList_append_own _ rfl _ _ 24 rfl W.heap.size 3 i0 (.int .i64 0) 1 8 Try.underlying24 hi hz0 hz1 hz2 rfl (by decide) _ _ _ rfl (World.ownsRow.alloc HO.out _) ⟨wr.heap.size, 0, none⟩ 1 1 [.int .i64 3] rfl rfl (new_one wr 3 _) (one_of 3) (by have := HL.out; unfold maxLen; omega) (by have := HL.out; omega) (by simp; omega) ?_)
            | go_in)
          intro v' w1 hown' hgrow _
          obtain ⟨q0, q1, q2⟩ := Own.snoc HO.out hsz HB.out hown' hgrow
          have Q0 : Hid (Own w1 W.heap.size v' (risingTo f 3 ++ [(3 : Int)])) := q0
          have Q1 : Hid (Below W.heap.size W w1) := q1
          clear hown' hgrow q0 q1 q2
          go_wp2
          go_roundw
          case rel => exact ⟨4, by omega, by go_num, by rw [HE.out]; exact Q0, Q1⟩
          case measure => simp [intOf]
      · rw [show ((4 : Nat) : Int) = (4 : Int) from rfl]
        have qx := idx4
        cases hf : f 4
        · have HE : Hid (risingTo f 5 = risingTo f 4) := ris_no hf
          go_wp2
          go_roundw
          case rel => exact ⟨5, by omega, by go_num, by rw [HE.out]; exact HO.out, HB⟩
          case measure => simp [intOf]
        · have HE : Hid (risingTo f 5 = risingTo f 4 ++ [(4 : Int)]) := ris_yes hf
          go_wp2_with (first
            | (at_builtin; refine wpList_append_own _ rfl _ _ 24 rfl W.heap.size 3 i0 (.int .i64 0) 1 8 Try.underlying24 hi hz0 hz1 hz2 rfl (by decide) _ _ _ rfl (World.ownsRow.alloc HO.out _) ⟨wr.heap.size, 0, none⟩ 1 1 [.int .i64 4] rfl rfl (new_one wr 4 _) (one_of 4) (by have := HL.out; unfold maxLen; omega) (by have := HL.out; omega) (by simp; omega) ?_)
            | go_in)
          intro v' w1 hown' hgrow _
          obtain ⟨q0, q1, q2⟩ := Own.snoc HO.out hsz HB.out hown' hgrow
          have Q0 : Hid (Own w1 W.heap.size v' (risingTo f 4 ++ [(4 : Int)])) := q0
          have Q1 : Hid (Below W.heap.size W w1) := q1
          clear hown' hgrow q0 q1 q2
          go_wp2
          go_roundw
          case rel => exact ⟨5, by omega, by go_num, by rw [HE.out]; exact Q0, Q1⟩
          case measure => simp [intOf]
      · rw [show ((5 : Nat) : Int) = (5 : Int) from rfl]
        have qx := idx5
        cases hf : f 5
        · have HE : Hid (risingTo f 6 = risingTo f 5) := ris_no hf
          go_wp2
          go_roundw
          case rel => exact ⟨6, by omega, by go_num, by rw [HE.out]; exact HO.out, HB⟩
          case measure => simp [intOf]
        · have HE : Hid (risingTo f 6 = risingTo f 5 ++ [(5 : Int)]) := ris_yes hf
          go_wp2_with (first
            | (at_builtin; refine wpList_append_own _ rfl _ _ 24 rfl W.heap.size 3 i0 (.int .i64 0) 1 8 Try.underlying24 hi hz0 hz1 hz2 rfl (by decide) _ _ _ rfl (World.ownsRow.alloc HO.out _) ⟨wr.heap.size, 0, none⟩ 1 1 [.int .i64 5] rfl rfl (new_one wr 5 _) (one_of 5) (by have := HL.out; unfold maxLen; omega) (by have := HL.out; omega) (by simp; omega) ?_)
            | go_in)
          intro v' w1 hown' hgrow _
          obtain ⟨q0, q1, q2⟩ := Own.snoc HO.out hsz HB.out hown' hgrow
          have Q0 : Hid (Own w1 W.heap.size v' (risingTo f 5 ++ [(5 : Int)])) := q0
          have Q1 : Hid (Below W.heap.size W w1) := q1
          clear hown' hgrow q0 q1 q2
          go_wp2
          go_roundw
          case rel => exact ⟨6, by omega, by go_num, by rw [HE.out]; exact Q0, Q1⟩
          case measure => simp [intOf]
      · rw [show ((6 : Nat) : Int) = (6 : Int) from rfl]
        have qx := idx6
        cases hf : f 6
        · have HE : Hid (risingTo f 7 = risingTo f 6) := ris_no hf
          go_wp2
          go_roundw
          case rel => exact ⟨7, by omega, by go_num, by rw [HE.out]; exact HO.out, HB⟩
          case measure => simp [intOf]
        · have HE : Hid (risingTo f 7 = risingTo f 6 ++ [(6 : Int)]) := ris_yes hf
          go_wp2_with (first
            | (at_builtin; refine wpList_append_own _ rfl _ _ 24 rfl W.heap.size 3 i0 (.int .i64 0) 1 8 Try.underlying24 hi hz0 hz1 hz2 rfl (by decide) _ _ _ rfl (World.ownsRow.alloc HO.out _) ⟨wr.heap.size, 0, none⟩ 1 1 [.int .i64 6] rfl rfl (new_one wr 6 _) (one_of 6) (by have := HL.out; unfold maxLen; omega) (by have := HL.out; omega) (by simp; omega) ?_)
            | go_in)
          intro v' w1 hown' hgrow _
          obtain ⟨q0, q1, q2⟩ := Own.snoc HO.out hsz HB.out hown' hgrow
          have Q0 : Hid (Own w1 W.heap.size v' (risingTo f 6 ++ [(6 : Int)])) := q0
          have Q1 : Hid (Below W.heap.size W w1) := q1
          clear hown' hgrow q0 q1 q2
          go_wp2
          go_roundw
          case rel => exact ⟨7, by omega, by go_num, by rw [HE.out]; exact Q0, Q1⟩
          case measure => simp [intOf]
      · rw [show ((7 : Nat) : Int) = (7 : Int) from rfl]
        have qx := idx7
        cases hf : f 7
        · have HE : Hid (risingTo f 8 = risingTo f 7) := ris_no hf
          go_wp2
          go_roundw
          case rel => exact ⟨8, by omega, by go_num, by rw [HE.out]; exact HO.out, HB⟩
          case measure => simp [intOf]
        · have HE : Hid (risingTo f 8 = risingTo f 7 ++ [(7 : Int)]) := ris_yes hf
          go_wp2_with (first
            | (at_builtin; refine wpList_append_own _ rfl _ _ 24 rfl W.heap.size 3 i0 (.int .i64 0) 1 8 Try.underlying24 hi hz0 hz1 hz2 rfl (by decide) _ _ _ rfl (World.ownsRow.alloc HO.out _) ⟨wr.heap.size, 0, none⟩ 1 1 [.int .i64 7] rfl rfl (new_one wr 7 _) (one_of 7) (by have := HL.out; unfold maxLen; omega) (by have := HL.out; omega) (by simp; omega) ?_)
            | go_in)
          intro v' w1 hown' hgrow _
          obtain ⟨q0, q1, q2⟩ := Own.snoc HO.out hsz HB.out hown' hgrow
          have Q0 : Hid (Own w1 W.heap.size v' (risingTo f 7 ++ [(7 : Int)])) := q0
          have Q1 : Hid (Below W.heap.size W w1) := q1
          clear hown' hgrow q0 q1 q2
          go_wp2
          go_roundw
          case rel => exact ⟨8, by omega, by go_num, by rw [HE.out]; exact Q0, Q1⟩
          case measure => simp [intOf]
    · have HE : Hid (k = 8) := by show k = 8; omega
      go_wp2
      go_ret
      rw [HE.out] at HO
      exact ⟨_, rfl, HO.out, HB.out⟩
/-- What NamesSet and NamesNeeded answer. -/
def NamesTold (c : Bool) (ns : List Int) (W : World) (e : Ending) (W' : World) : Prop :=
  (c = true ∧ (∃ a cap, e = .returned (.tuple #[.slice a ns.length cap, .bool true]) ∧ Mine W' W.heap.size a ns) ∧ Below W.heap.size W W') ∨ (c = false ∧ e = .returned (.tuple #[.slice none 0 0, .bool false]) ∧ Below W.heap.size W W')
theorem marked_new (W : World) : Marked (W.alloc (.cells #[.bool false, .bool false, .bool false, .bool false, .bool false, .bool false, .bool false, .bool false] 58)) W.heap.size (fun _ => false) :=
  World.rowIs_alloc W _ _ _ (fun i hi => by
    match i, hi with
    | 0, _ => rfl
    | 1, _ => rfl
    | 2, _ => rfl
    | 3, _ => rfl
    | 4, _ => rfl
    | 5, _ => rfl
    | 6, _ => rfl
    | 7, _ => rfl
    | i + 8, h => simp at h; omega)
theorem mine_low {w : World} {B B' : Nat} {a : Option Addr} {zs : List Int} (h : Mine w B a zs) (hB : B' ≤ B) : Mine w B' a zs := by
  rcases h with h | ⟨b, off, e, h0, r⟩
  · exact Or.inl h
  · exact Or.inr ⟨b, off, e, Nat.le_trans hB h0, r⟩
set_option maxHeartbeats 2000000 in
theorem impl_set (a : Option Addr) (len cap : Nat) (zs : List Int) (W : World) (hz : Hid (zs.length = len * 5)) (hlen : len ≤ 1048576) (h : Hid (Ints W a zs)) :
    Calls Try.prog 12 #[.slice a len cap] W fun e W' => NamesTold (codeB zs len) (risingTo (setTo zs len) 8) W e W' := by
  go_enter Try.func12, Try.ntmps12
  go_wp2_with fail
  refine (impl_steps a len cap zs W hz hlen h).mono ?_
  rintro e w1 ⟨⟨hc, a', c', rfl, hS⟩ | ⟨hc, rfl⟩, hb⟩
  rotate_left
  · have HA : Hid (NamesTold (codeB zs len) (risingTo (setTo zs len) 8) W (.returned (.tuple #[.slice none 0 0, .bool false])) w1) := Or.inr ⟨hc, rfl, hb⟩
    clear hb hc
    go_wp2
    go_ret2
    exact HA.out
  have HS : Hid (Steps w1 a' zs len) := hS
  have HB : Hid (Below W.heap.size W w1) := hb
  have HC : Hid (codeB zs len = true) := hc
  clear hS hb hc
  go_wp2
  go_loopw [18] (fun vi wr => ∃ k : Nat, k ≤ len ∧ vi = .int .i64 k ∧ Hid (Marked wr w1.heap.size (setTo zs k)) ∧ Hid (Below w1.heap.size w1 wr)) (fun vi _ => len - (intOf vi).toNat)
  case atStart => exact ⟨0, Nat.zero_le _, rfl, marked_new w1, by show Below _ _ _; go_grown⟩
  case round =>
    obtain ⟨k, hk, rfl, HM, HK⟩ := hrel
    by_cases hlt : k < len
    · obtain ⟨sb, rfl, hsb, hsc⟩ : ∃ b, a' = some ⟨b, 0, none⟩ ∧ b < w1.heap.size ∧ ∀ i, i < len → w1.cell? ⟨b, i, none⟩ = some (stepAt zs i) := by
        rcases HS.out with e | e
        · omega
        · exact e
      obtain ⟨sv, hsv, HV⟩ : ∃ sv, wr.cell? ⟨sb, k, none⟩ = some sv ∧ Hid (sv = stepAt zs k) := ⟨_, (HK.out.cell (p := ⟨sb, k, none⟩) hsb).trans (hsc k hlt), rfl⟩
      clear hsc
      have HG : Hid (stepB zs k = true) := (code_out HC.out).2 k hlt
      go_wp2_with (go_at_call 26; rw [HV.out]; refine (impl_mark _ _ _ _ _ _ w1.heap.size _ _ HG.out (Nat.le_refl _) HM.out).mono ?_; rintro e w' ⟨rfl, hM', hB'⟩; have HM' : Hid (Marked w' w1.heap.size (setTo zs (k + 1))) := hM'; have HK' : Hid (Below w1.heap.size w1 w') := HK.out.trans hB'; clear hM' hB')
      go_roundw
      case rel => exact ⟨k + 1, by omega, by go_num, HM', HK'⟩
      case measure => simp [intOf]; omega
    · have HE : Hid (k = len) := by show k = len; omega
      have m0 := HM.out.cell (i := 0) (by omega)
      have m1 := HM.out.cell (i := 1) (by omega)
      have m2 := HM.out.cell (i := 2) (by omega)
      have m3 := HM.out.cell (i := 3) (by omega)
      have m4 := HM.out.cell (i := 4) (by omega)
      have m5 := HM.out.cell (i := 5) (by omega)
      have m6 := HM.out.cell (i := 6) (by omega)
      have m7 := HM.out.cell (i := 7) (by omega)
      have HB' : Hid (Below W.heap.size W wr) := HB.out.trans (HK.out.mono HB.out.size)
      go_wp2_with (go_at_call 27; refine (impl_rising (setTo zs k) _).mono ?_; rintro e w' ⟨v, rfl, hO', hb'⟩; obtain ⟨ra, rc, rfl, hM'⟩ := hO'.mine; have HA : Hid (NamesTold (codeB zs len) (risingTo (setTo zs len) 8) W (.returned (.tuple #[.slice ra (risingTo (setTo zs k) 8).length rc, .bool true])) w') := (by show NamesTold _ _ _ _ _; rw [← HE.out]; exact Or.inl ⟨HE.out ▸ HC.out, ⟨ra, rc, rfl, mine_low hM' HB'.out.size⟩, HB'.out.trans (hb'.mono HB'.out.size)⟩); clear hO' hb' hM')
      go_ret2
      exact HA.out
end Go.Proofs.Ytfejfbafoaiidaa.walks
