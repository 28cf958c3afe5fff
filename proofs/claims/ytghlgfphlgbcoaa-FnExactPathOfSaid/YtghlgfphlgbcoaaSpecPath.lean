/-
  What the specification's PathOf and RunFlow answer, at every flow, every list of words and every fuel.
-/
import Derived.Test.YtghlgfphlgbcoaaProg
import Derived.Test.YtghlgfphlgbcoaaFlow
import Derived.Test.YtghlgfphlgbcoaaFlowEq
import Derived.Test.YtghlgfphlgbcoaaFlowRun
import Derived.Test.YtghlgfphlgbcoaaFlowSpec
import Derived.Test.YtghlgfphlgbcoaaSpecFlow
import Derived.Test.YtghlgfphlgbcoaaCodeRun
import Derived.WalkKit
import Derived.WalkSpells
import Derived.Below
import Derived.Handy
namespace Go.Proofs.Ytghlgfphlgbcoaa.walks
open Go.RowKit Go.Proofs.Ytghlgfphlgbcoaa.math Go.Proofs.Ytghlgfphlgbcoaa.ints
set_option linter.unusedVariables false

def okRun (f : Nat → Bv) (n : Nat) (ws : List Int) (fuel : Int) : Bool := flowB f n && wordsB ws && inR fuel 0 300
set_option maxRecDepth 100000 in
set_option maxHeartbeats 4000000 in
theorem spec_pathof (a v : Option Addr) (n cap lv cv : Nat) (fuel : Int) (f : Nat → Bv) (ws : List Int) (W : World) (hn : n ≤ 1048576) (hlen : Hid (∀ k, k < n → (f k).len ≤ 1048576)) (h : Hid (Flow W a n f)) (hz : Hid (ws.length = lv)) (hlv : lv ≤ 1048576) (h' : Hid (Ints W v ws)) :
    Calls Try.prog 37 #[.slice a n cap, .slice v lv cv, .int .i64 fuel] W fun e W' => (okRun f n ws fuel = true ∧ ∃ k g d, Stands f ws fuel.toNat k ∧ e = .returned (.tuple #[.slice g k d, .bool true]) ∧ Ints W' g (flowTo f ws k).path ∧ Below W.heap.size W W') ∨ (okRun f n ws fuel = false ∧ e = .returned (.tuple #[.slice none 0 0, .bool false]) ∧ Below W.heap.size W W') := by
  cases hf : flowB f n
  · go_enter Try.func37, Try.ntmps37
    go_wp2_with (first | (go_at_call 43; refine (spec_flow _ _ _ f _ hn hlen h).mono ?_; rw [hf]; rintro e w1 ⟨rfl, hb⟩; have HB : Hid (Below W.heap.size W w1) := hb; clear hb))
    go_ret2
    exact Or.inr ⟨by simp [okRun, hf], rfl, HB.out⟩
  have HF : Hid (flowB f n = true) := hf
  cases hw : wordsB ws
  · go_enter Try.func37, Try.ntmps37
    go_wp2_with (first | (go_at_call 43; refine (spec_flow _ _ _ f _ hn hlen h).mono ?_; rw [hf]; rintro e w1 ⟨rfl, hb⟩; have HB : Hid (Below W.heap.size W w1) := hb; clear hb) | (go_at_call 45; refine (spec_words _ _ _ ws _ hz hlv (h'.out.kept HB.out)).mono ?_; rw [hw]; rintro e w' ⟨rfl, hw'⟩; rw [hw']; clear hw' w'))
    go_ret2
    exact Or.inr ⟨by simp [okRun, hw], rfl, HB.out⟩
  have HW : Hid (wordsB ws = true) := hw
  cases hi : inR fuel 0 300
  · go_enter Try.func37, Try.ntmps37
    go_wp2_with (first | (go_at_call 43; refine (spec_flow _ _ _ f _ hn hlen h).mono ?_; rw [hf]; rintro e w1 ⟨rfl, hb⟩; have HB : Hid (Below W.heap.size W w1) := hb; clear hb) | (go_at_call 45; refine (spec_words _ _ _ ws _ hz hlv (h'.out.kept HB.out)).mono ?_; rw [hw]; rintro e w' ⟨rfl, hw'⟩; rw [hw']; clear hw' w') | (go_at_call 44; refine (spec_in _ _ _ _).mono ?_; rw [hi]; rintro e w' ⟨rfl, hw'⟩; rw [hw']; clear hw' w'))
    go_ret2
    exact Or.inr ⟨by simp [okRun, hi], rfl, HB.out⟩
  obtain ⟨f0, f1⟩ := inR_out hi
  obtain ⟨fu, rfl⟩ := Int.eq_ofNat_of_zero_le f0
  obtain rfl : lv = 8 := by rw [← hz.out]; exact (words_out hw).1
  go_enter Try.func37, Try.ntmps37
  go_wp2_with (first | (go_at_call 43; refine (spec_flow _ _ _ f _ hn hlen h).mono ?_; rw [hf]; rintro e w1 ⟨rfl, hb⟩; have HB : Hid (Below W.heap.size W w1) := hb; clear hb) | (go_at_call 45; refine (spec_words _ _ _ ws _ hz hlv (h'.out.kept HB.out)).mono ?_; rw [hw]; rintro e w' ⟨rfl, hw'⟩; rw [hw']; clear hw' w') | (go_at_call 44; refine (spec_in _ _ _ _).mono ?_; rw [hi]; rintro e w' ⟨rfl, hw'⟩; rw [hw']; clear hw' w') | (go_at_call 46; refine (spec_l5run _ _ _ _ _ _ f ws _ HF HW (by omega) (h.out.kept HB.out) (h'.out.kept HB.out)).mono ?_; rintro e w2 ⟨k, ta, tc, wa, wc, pa, pc, hS, rfl, i1, i2, i3, hb⟩; have HS : Hid (Stands f ws fu k) := hS; have I1 : Hid (Ints w2 ta (flowTo f ws k).told) := i1; have I2 : Hid (Ints w2 wa (flowTo f ws k).ws) := i2; have I3 : Hid (Ints w2 pa (flowTo f ws k).path) := i3; have HB2 : Hid (Below W.heap.size W w2) := bel2' HB.out hb; clear hS i1 i2 i3 hb))
  go_ret2
  exact Or.inl ⟨by simp [okRun, HF.out, HW.out, hi], k, pa, pc, HS.out, rfl, I3.out, HB2.out⟩
set_option maxRecDepth 100000 in
set_option maxHeartbeats 4000000 in
theorem spec_runflow (a v : Option Addr) (n cap lv cv : Nat) (fuel : Int) (f : Nat → Bv) (ws : List Int) (W : World) (hn : n ≤ 1048576) (hlen : Hid (∀ k, k < n → (f k).len ≤ 1048576)) (h : Hid (Flow W a n f)) (hz : Hid (ws.length = lv)) (hlv : lv ≤ 1048576) (h' : Hid (Ints W v ws)) :
    Calls Try.prog 35 #[.slice a n cap, .slice v lv cv, .int .i64 fuel] W fun e W' => (okRun f n ws fuel = true ∧ ∃ k, Stands f ws fuel.toNat k ∧ (((flowTo f ws k).next < 0 ∧ ∃ g d g' d', e = .returned (.tuple #[.slice g (flowTo f ws k).told.length d, .slice g' 8 d', .int .i64 (k : Int), .bool true]) ∧ Ints W' g (flowTo f ws k).told ∧ Ints W' g' (flowTo f ws k).ws) ∨ (0 ≤ (flowTo f ws k).next ∧ e = .returned (.tuple #[.slice none 0 0, .slice none 0 0, .int .i64 0, .bool false]))) ∧ Below W.heap.size W W') ∨ (okRun f n ws fuel = false ∧ e = .returned (.tuple #[.slice none 0 0, .slice none 0 0, .int .i64 0, .bool false]) ∧ Below W.heap.size W W') := by
  cases hf : flowB f n
  · go_enter Try.func35, Try.ntmps35
    go_wp2_with (first | (go_at_call 43; refine (spec_flow _ _ _ f _ hn hlen h).mono ?_; rw [hf]; rintro e w1 ⟨rfl, hb⟩; have HB : Hid (Below W.heap.size W w1) := hb; clear hb))
    refine bodyPost_ret (v := .tuple #[.slice none 0 0, .slice none 0 0, .int .i64 0, .bool false]) (by simp [results, Try.results35, go_sem]) rfl ?_
    exact Or.inr ⟨by simp [okRun, hf], rfl, HB.out⟩
  have HF : Hid (flowB f n = true) := hf
  cases hw : wordsB ws
  · go_enter Try.func35, Try.ntmps35
    go_wp2_with (first | (go_at_call 43; refine (spec_flow _ _ _ f _ hn hlen h).mono ?_; rw [hf]; rintro e w1 ⟨rfl, hb⟩; have HB : Hid (Below W.heap.size W w1) := hb; clear hb) | (go_at_call 45; refine (spec_words _ _ _ ws _ hz hlv (h'.out.kept HB.out)).mono ?_; rw [hw]; rintro e w' ⟨rfl, hw'⟩; rw [hw']; clear hw' w'))
    refine bodyPost_ret (v := .tuple #[.slice none 0 0, .slice none 0 0, .int .i64 0, .bool false]) (by simp [results, Try.results35, go_sem]) rfl ?_
    exact Or.inr ⟨by simp [okRun, hw], rfl, HB.out⟩
  have HW : Hid (wordsB ws = true) := hw
  cases hi : inR fuel 0 300
  · go_enter Try.func35, Try.ntmps35
    go_wp2_with (first | (go_at_call 43; refine (spec_flow _ _ _ f _ hn hlen h).mono ?_; rw [hf]; rintro e w1 ⟨rfl, hb⟩; have HB : Hid (Below W.heap.size W w1) := hb; clear hb) | (go_at_call 45; refine (spec_words _ _ _ ws _ hz hlv (h'.out.kept HB.out)).mono ?_; rw [hw]; rintro e w' ⟨rfl, hw'⟩; rw [hw']; clear hw' w') | (go_at_call 44; refine (spec_in _ _ _ _).mono ?_; rw [hi]; rintro e w' ⟨rfl, hw'⟩; rw [hw']; clear hw' w'))
    refine bodyPost_ret (v := .tuple #[.slice none 0 0, .slice none 0 0, .int .i64 0, .bool false]) (by simp [results, Try.results35, go_sem]) rfl ?_
    exact Or.inr ⟨by simp [okRun, hi], rfl, HB.out⟩
  obtain ⟨f0, f1⟩ := inR_out hi
  obtain ⟨fu, rfl⟩ := Int.eq_ofNat_of_zero_le f0
  obtain rfl : lv = 8 := by rw [← hz.out]; exact (words_out hw).1
  go_enter Try.func35, Try.ntmps35
  go_wp2_with (first | (go_at_call 43; refine (spec_flow _ _ _ f _ hn hlen h).mono ?_; rw [hf]; rintro e w1 ⟨rfl, hb⟩; have HB : Hid (Below W.heap.size W w1) := hb; clear hb) | (go_at_call 45; refine (spec_words _ _ _ ws _ hz hlv (h'.out.kept HB.out)).mono ?_; rw [hw]; rintro e w' ⟨rfl, hw'⟩; rw [hw']; clear hw' w') | (go_at_call 44; refine (spec_in _ _ _ _).mono ?_; rw [hi]; rintro e w' ⟨rfl, hw'⟩; rw [hw']; clear hw' w'))
  refine (spec_l5run _ _ _ _ _ _ f ws _ HF HW (by omega) (h.out.kept HB.out) (h'.out.kept HB.out)).mono ?_
  rintro e w2 ⟨k, ta, tc, wa, wc, pa, pc, hS, rfl, i1, i2, i3, hb⟩
  have HS : Hid (Stands f ws fu k) := hS
  have I1 : Hid (Ints w2 ta (flowTo f ws k).told) := i1
  have I2 : Hid (Ints w2 wa (flowTo f ws k).ws) := i2
  have HB2 : Hid (Below W.heap.size W w2) := bel2' HB.out hb
  clear hS i1 i2 i3 hb
  obtain ⟨tl, ETL⟩ : ∃ tl, Hid (tl = (flowTo f ws k).told.length) := ⟨_, rfl⟩
  rw [← ETL.out]
  by_cases hx : (flowTo f ws k).next < 0
  · rw [decide_eq_true hx]
    have HX : Hid ((flowTo f ws k).next < 0) := hx
    clear hx
    go_wp2
    refine bodyPost_ret (v := .tuple #[.slice ta tl tc, .slice wa 8 wc, .int .i64 (k : Int), .bool true]) (by simp [results, Try.results35, go_sem]) rfl ?_
    exact Or.inl ⟨by simp [okRun, HF.out, HW.out, hi], k, HS.out, Or.inl ⟨HX.out, ta, tc, wa, wc, by rw [ETL.out], I1.out, I2.out⟩, HB2.out⟩
  · rw [decide_eq_false hx]
    have HX : Hid (0 ≤ (flowTo f ws k).next) := by show 0 ≤ _; omega
    clear hx
    go_wp2
    refine bodyPost_ret (v := .tuple #[.slice none 0 0, .slice none 0 0, .int .i64 0, .bool false]) (by simp [results, Try.results35, go_sem]) rfl ?_
    exact Or.inl ⟨by simp [okRun, HF.out, HW.out, hi], k, HS.out, Or.inr ⟨HX.out, rfl⟩, HB2.out⟩
end Go.Proofs.Ytghlgfphlgbcoaa.walks
