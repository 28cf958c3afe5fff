/-
  What the program's PathOf and RunFlow answer: lists in memory of their own.
-/
import Derived.Test.YtghlgfphlgbcoaaProg
import Derived.Test.YtghlgfphlgbcoaaRunOf
import Derived.WalkKit
import Derived.WalkSpells
import Derived.Below
import Derived.Handy
import Derived.Laws.Cover3
namespace Go.Proofs.Ytghlgfphlgbcoaa.walks
open Go.RowKit Go.Proofs.Ytghlgfphlgbcoaa.math Go.Proofs.Ytghlgfphlgbcoaa.ints
set_option linter.unusedVariables false
set_option linter.unusedSimpArgs false

/-- What RunFlow answers. -/
def RunFlowAns (f : Nat → Bv) (n : Nat) (ws : List Int) (fuel : Int) (W : World) (e : Ending) (W' : World) : Prop :=
  (okRun f n ws fuel = true ∧ ∃ k, Stands f ws fuel.toNat k ∧ (((flowTo f ws k).next < 0 ∧ ∃ g d g' d', e = .returned (.tuple #[.slice g (flowTo f ws k).told.length d, .slice g' 8 d', .int .i64 (k : Int), .bool true]) ∧ Mine W' W.heap.size g (flowTo f ws k).told ∧ Mine W' W.heap.size g' (flowTo f ws k).ws ∧ (∀ b o b' o', g = some ⟨b, o, none⟩ → g' = some ⟨b', o', none⟩ → b ≠ b')) ∨ (0 ≤ (flowTo f ws k).next ∧ e = .returned (.tuple #[.slice none 0 0, .slice none 0 0, .int .i64 0, .bool false]))) ∧ Below W.heap.size W W') ∨ (okRun f n ws fuel = false ∧ e = .returned (.tuple #[.slice none 0 0, .slice none 0 0, .int .i64 0, .bool false]) ∧ Below W.heap.size W W')
set_option maxRecDepth 100000 in
set_option maxHeartbeats 4000000 in
theorem impl_pathof (a v : Option Addr) (n cap lv cv : Nat) (fuel : Int) (f : Nat → Bv) (ws : List Int) (W : World) (hn : n ≤ 1048576) (hlen : Hid (∀ k, k < n → (f k).len ≤ 1048576)) (h : Hid (Flow W a n f)) (hz : Hid (ws.length = lv)) (hlv : lv ≤ 1048576) (h' : Hid (Ints W v ws)) :
    Calls Try.prog 38 #[.slice a n cap, .slice v lv cv, .int .i64 fuel] W fun e W' => (okRun f n ws fuel = true ∧ ∃ k g d, Stands f ws fuel.toNat k ∧ e = .returned (.tuple #[.slice g k d, .bool true]) ∧ Mine W' W.heap.size g (flowTo f ws k).path ∧ Below W.heap.size W W') ∨ (okRun f n ws fuel = false ∧ e = .returned (.tuple #[.slice none 0 0, .bool false]) ∧ Below W.heap.size W W') := by
  go_enter Try.func38, Try.ntmps38
  go_wp2_with fail
  refine (impl_runof a v n cap lv cv f ws fuel W hn hlen h hz hlv h').mono ?_
  rintro e w1 (⟨ho, B, g, k, vt, vp, rfl, hst, hB, hF, hb⟩ | ⟨ho, rfl, hb⟩)
  · obtain ⟨pa, pc, hvp, hM⟩ := hF.path.mine
    rw [path_len] at hvp
    subst hvp
    have hp := hF.c9
    have HQ : Hid (okRun f n ws fuel = true ∧ Stands f ws fuel.toNat k ∧ Mine w1 W.heap.size pa (flowTo f ws k).path ∧ Below W.heap.size W w1) := ⟨ho, hst, mine_low hM hB, hb⟩
    have hgl := hF.run.gl
    clear ho hst hM hb hF hB
    go_wp2
    go_ret2
    exact Or.inl ⟨HQ.out.1, k, pa, pc, HQ.out.2.1, rfl, HQ.out.2.2.1, HQ.out.2.2.2⟩
  · have HQ : Hid (okRun f n ws fuel = false ∧ Below W.heap.size W w1) := ⟨ho, hb⟩
    clear ho hb
    go_wp2
    go_ret2
    exact Or.inr ⟨HQ.out.1, rfl, HQ.out.2⟩
set_option maxRecDepth 100000 in
set_option maxHeartbeats 4000000 in
theorem impl_runflow (a v : Option Addr) (n cap lv cv : Nat) (fuel : Int) (f : Nat → Bv) (ws : List Int) (W : World) (hn : n ≤ 1048576) (hlen : Hid (∀ k, k < n → (f k).len ≤ 1048576)) (h : Hid (Flow W a n f)) (hz : Hid (ws.length = lv)) (hlv : lv ≤ 1048576) (h' : Hid (Ints W v ws)) :
    Calls Try.prog 36 #[.slice a n cap, .slice v lv cv, .int .i64 fuel] W fun e W' => RunFlowAns f n ws fuel W e W' := by
  go_enter Try.func36, Try.ntmps36
  go_wp2_with fail
  refine (impl_runof a v n cap lv cv f ws fuel W hn hlen h hz hlv h').mono ?_
  rintro e w1 (⟨ho, B, g, k, vt, vp, rfl, hst, hB, hF, hb⟩ | ⟨ho, rfl, hb⟩)
  · have ho' := ho
    simp only [okRun, Bool.and_eq_true] at ho'
    obtain ⟨⟨hf, hw⟩, _⟩ := ho'
    obtain ⟨i1, i2, _⟩ := flow_inv hf hw k hst.1
    obtain ⟨pa, pc, hvp, _⟩ := hF.path.mine
    rw [path_len] at hvp
    subst hvp
    obtain ⟨ta, tc, hvt, hM⟩ := hF.run.own.mine
    obtain ⟨x, hx, EX⟩ : ∃ x : Int, w1.cell? ⟨g, 10, none⟩ = some (.int .i64 x) ∧ Hid (x = (flowTo f ws k).next) := ⟨_, hF.c10, rfl⟩
    rw [← EX.out] at i2
    have HW : Hid (Mine w1 W.heap.size (some ⟨g, 0, none⟩) (flowTo f ws k).ws) := by
      refine Or.inr ⟨g, 0, rfl, Nat.le_trans hB hF.run.gB, hF.run.gl, fun i hi => ?_⟩
      have h8 := (words_out i1).1
      rw [h8] at hi
      exact ⟨by simpa using hF.run.word i hi, by simpa using hF.run.free i (by omega)⟩
    have HN : Hid (∀ b o b' o', ta = some ⟨b, o, none⟩ → some (⟨g, 0, none⟩ : Addr) = some ⟨b', o', none⟩ → b ≠ b') := by
      rintro b o b' o' e1 e2 rfl
      simp only [Option.some.injEq, Addr.mk.injEq] at e2
      obtain ⟨e2, _⟩ := e2
      subst e1
      apply hF.run.ne
      rw [hvt, ← e2]
      rfl
    obtain ⟨tl, ETL⟩ : ∃ tl, Hid (tl = (flowTo f ws k).told.length) := ⟨_, rfl⟩
    rw [← ETL.out] at hvt
    subst hvt
    have hp := hF.c9
    have ht := hF.run.tell
    have hgl := hF.run.gl
    have HQ : Hid (okRun f n ws fuel = true ∧ Stands f ws fuel.toNat k ∧ Mine w1 W.heap.size ta (flowTo f ws k).told ∧ Below W.heap.size W w1) := ⟨ho, hst, mine_low hM hB, hb⟩
    clear ho hst hM hb hF hB hf hw i1
    by_cases hx1 : x = -1
    · subst hx1
      have HA : Hid (∀ T c, w1.drew = T → RunFlowAns f n ws fuel W (.returned (.tuple #[.slice ta tl tc, .slice (some ⟨g, 0, none⟩) 8 c, .int .i64 (k : Int), .bool true])) T) := by
        show ∀ T c, _
        rintro T c rfl
        exact Or.inl ⟨HQ.out.1, _, HQ.out.2.1, Or.inl ⟨by rw [← EX.out]; omega, ta, tc, _, c, by rw [ETL.out], HQ.out.2.2.1.kept (Below.drew (Below.refl _ _)), HW.out.kept (Below.drew (Below.refl _ _)), HN.out⟩, HQ.out.2.2.2.drew⟩
      go_wp2
      first | go_region | fail
      all_goals go_wp2
      all_goals refine bodyPost_ret (v := .tuple #[.slice ta tl tc, .slice (some ⟨g, 0, none⟩) 8 _, .int .i64 (k : Int), .bool true]) (by simp [results, Try.results36, go_sem]; try rfl) rfl ?_
      all_goals exact HA.out _ _ rfl
    · have hx0 : 0 ≤ x := by omega
      go_wp2
      refine bodyPost_ret (v := .tuple #[.slice none 0 0, .slice none 0 0, .int .i64 0, .bool false]) (by simp [results, Try.results36, go_sem]) rfl ?_
      exact Or.inl ⟨HQ.out.1, k, HQ.out.2.1, Or.inr ⟨by rw [← EX.out]; exact hx0, rfl⟩, HQ.out.2.2.2⟩
  · have HQ : Hid (okRun f n ws fuel = false ∧ Below W.heap.size W w1) := ⟨ho, hb⟩
    clear ho hb
    go_wp2
    refine bodyPost_ret (v := .tuple #[.slice none 0 0, .slice none 0 0, .int .i64 0, .bool false]) (by simp [results, Try.results36, go_sem]) rfl ?_
    exact Or.inr ⟨HQ.out.1, rfl, HQ.out.2⟩
end Go.Proofs.Ytghlgfphlgbcoaa.walks
