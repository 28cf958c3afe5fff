/-
  What the program's PathOf and RunFlow answer: lists in memory of their own.
-/
import Derived.Test.YtgknofbkdgbokaaProg
import Derived.Test.YtgknofbkdgbokaaRunOf
import Derived.WalkKit
import Derived.WalkSpells
import Derived.Below
import Derived.Handy
import Derived.Laws.Cover3
namespace Go.Proofs.Ytgknofbkdgbokaa.walks
open Go.RowKit Go.Proofs.Ytgknofbkdgbokaa.math Go.Proofs.Ytgknofbkdgbokaa.ints
set_option linter.unusedVariables false
set_option linter.unusedSimpArgs false

/-- What RunFlow answers. -/
def RunFlowAns (f : Nat → Bv) (n : Nat) (ws : List Int) (fuel : Int) (W : World) (e : Ending) (W' : World) : Prop :=
  (okRun f n ws fuel = true ∧ ∃ k, Stands f ws fuel.toNat k ∧ (((flowTo f ws k).next < 0 ∧ ∃ g d g' d', e = .returned (.tuple #[.slice g (flowTo f ws k).told.length d, .slice g' 8 d', .int .i64 (k : Int), .bool true]) ∧ Mine W' W.heap.size g (flowTo f ws k).told ∧ Mine W' W.heap.size g' (flowTo f ws k).ws ∧ (∀ b o b' o', g = some ⟨b, o, none⟩ → g' = some ⟨b', o', none⟩ → b ≠ b')) ∨ (0 ≤ (flowTo f ws k).next ∧ e = .returned (.tuple #[.slice none 0 0, .slice none 0 0, .int .i64 0, .bool false]))) ∧ Below W.heap.size W W') ∨ (okRun f n ws fuel = false ∧ e = .returned (.tuple #[.slice none 0 0, .slice none 0 0, .int .i64 0, .bool false]) ∧ Below W.heap.size W W')
set_option maxRecDepth 100000 in
set_option maxHeartbeats 4000000 in
theorem impl_pathof (a v : Option Addr) (n cap lv cv : Nat) (fuel : Int) (f : Nat → Bv) (ws : List Int) (W : World) (hn : n ≤ 1048576) (hlen : Hid (∀ k, k < n → (f k).len ≤ 1048576)) (h : Hid (Flow W a n f)) (hz : Hid (ws.length = lv)) (hlv : lv ≤ 1048576) (h' : Hid (Ints W v ws)) :
    Calls Try.prog 33 #[.slice a n cap, .slice v lv cv, .int .i64 fuel] W fun e W' => (okRun f n ws fuel = true ∧ ∃ k g d, Stands f ws fuel.toNat k ∧ e = .returned (.tuple #[.slice g k d, .bool true]) ∧ Mine W' W.heap.size g (flowTo f ws k).path ∧ Below W.heap.size W W') ∨ (okRun f n ws fuel = false ∧ e = .returned (.tuple #[.slice none 0 0, .bool false]) ∧ Below W.heap.size W W') := by
  go_enter Try.func33, Try.ntmps33
  go_wp2_with fail
  refine (impl_runof a v n cap lv cv f ws fuel W hn hlen h hz hlv h').mono ?_
  rintro e w1 (⟨ho, B, g, k, vt, vp, rfl, hst, hB, hF, hb⟩ | ⟨ho, rfl, hb⟩)
  · obtain ⟨pa, pc, hvp, hM⟩ := hF.path.mine
    rw [path_len] at hvp
    subst hvp
    have hp := hF.c9
    have HQ : Hid (okRun f n ws fuel = true ∧ Stands f ws fuel.toNat k ∧ Mine w1 W.heap.size pa (flowTo f ws k).path ∧ Below W.heap.size W w1) := ⟨ho, hst, mine_low hM hB, hb⟩
    have hgl := hF.run.gl
    clear ho hst hM hb hF hB
    go_wp2
    go_ret2
    exact Or.inl ⟨HQ.out.1, k, pa, pc, HQ.out.2.1, rfl, HQ.out.2.2.1, HQ.out.2.2.2⟩
  · have HQ : Hid (okRun f n ws fuel = false ∧ Below W.heap.size W w1) := ⟨ho, hb⟩
    clear ho hb
    go_wp2
    go_ret2
    exact Or.inr ⟨HQ.out.1, rfl, HQ.out.2⟩
end Go.Proofs.Ytgknofbkdgbokaa.walks
