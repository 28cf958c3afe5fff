/-
  Marks on a list of Move.
-/
import Derived.Test.YthjcgnldlhjjmaaMarks
import Derived.Test.YthjcgnldlhjjmaaRecsMove
import Derived.WalkKit
import Derived.WalkSpells
import Derived.Below
import Derived.Handy
namespace Go.Proofs.Ythjcgnldlhjjmaa.ints
open Go.RowKit
set_option linter.unusedVariables false

theorem Move_mark2 (a : Option Addr) (len cap : Nat) (zs : List Int) (W : World) (B : Nat) (hz : Hid (zs.length = len * 2)) (hlen : len ≤ 1048576) (h : Hid (Mine W B a zs)) :
    Calls Try.prog 18 #[.slice a len cap, .int .i64 1] W fun e W' => e = .returned (.int .i64 ((len : Int) * 2 + 1)) ∧ Mine W' B a (upFrom 1 (len * 2)) ∧ Only W W' B a len := by
  by_cases hl0 : len = 0
  · subst hl0
    go_enter Try.func18, Try.ntmps18
    go_wp2
    go_loop [1, 5] (fun vk vi => vi = .int .i64 0 ∧ vk = .int .i64 1) (fun _ vi => 1)
    case atStart => exact ⟨rfl, rfl⟩
    case round =>
      obtain ⟨rfl, rfl⟩ := hrel
      go_wp2
      go_ret
      exact ⟨rfl, Or.inl rfl, Only.refl _ _ _ _⟩
  obtain ⟨b, off, ha, hBb, hbl, HC⟩ : ∃ b off, a = some ⟨b, off, none⟩ ∧ B ≤ b ∧ b < W.heap.size ∧ Hid (∀ i, i < zs.length → W.cell? ⟨b, off + i, none⟩ = some (.int .i64 (zs.getD i 0)) ∧ W.frozen? ⟨b, off + i, none⟩ = false) := by
    rcases h.out with h | h
    · have := hz.out; rw [h] at this; simp at this; omega
    · exact h
  subst ha
  go_enter Try.func18, Try.ntmps18
  go_wp2
  go_loopw [1, 5] (fun vk vi wr => ∃ k : Nat, k ≤ len ∧ vi = .int .i64 k ∧ vk = .int .i64 ((k : Int) * 2 + 1) ∧ Hid (MoveCells wr b off (len * 2) (fun i => if i < k * 2 then (1 : Int) + (i : Int) else zs.getD i 0)) ∧ Hid (W.grownBy wr (some b)) ∧ Hid (wr.heap.size = W.heap.size)) (fun _ vi _ => len - (intOf vi).toNat)
  case atStart =>
    refine ⟨0, Nat.zero_le _, rfl, rfl, ?_, grow_refl' _ _, rfl⟩
    show MoveCells _ _ _ _ _
    intro i hi
    simpa using HC.out i (by have := hz.out; omega)
  case round =>
    obtain ⟨k, hk, rfl, rfl, HR, HB, HS⟩ := hrel
    by_cases hlt : k < len
    · skip
      obtain ⟨d0, f0⟩ := HR.out (k * 2) (by omega)
      obtain ⟨d1, f1⟩ := HR.out (k * 2 + 1) (by omega)
      rw [← Nat.add_assoc] at d1 f1
      go_wp2
      go_roundw
      case rel =>
        refine ⟨k + 1, by omega, by go_num, ?_, ?_, ?_, ?_⟩
        · congr 1; omega
        · refine MoveCells.congr (((HR.out).set (k * 2) (by omega) ((k : Int) * 2 + 1)).set (k * 2 + 1) (by omega) ((k : Int) * 2 + 1 + 1)) ?_
          intro j hj
          rcases (show j = k * 2 ∨ j = k * 2 + 1 ∨ j < k * 2 ∨ (k + 1) * 2 ≤ j by omega) with rfl | rfl | h | h
          · rw [if_pos (show k * 2 < (k + 1) * 2 by omega)]; simp; omega
          · rw [if_pos (show k * 2 + 1 < (k + 1) * 2 by omega)]; simp; omega
          · rw [if_pos (show j < (k + 1) * 2 by omega), if_neg (show ¬ j = k * 2 + 1 by omega), if_neg (show ¬ j = k * 2 by omega), if_pos h]
          · rw [if_neg (show ¬ j < (k + 1) * 2 by omega), if_neg (show ¬ j = k * 2 + 1 by omega), if_neg (show ¬ j = k * 2 by omega), if_neg (show ¬ j < k * 2 by omega)]
        · exact (grow_set' (grow_set' HB.out _ _) _ _)
        · show (World.setCell _ _ _).heap.size = W.heap.size
          rw [← HS.out]; simp [World.setCell]
      case measure => simp [intOf]; omega
    · have HE : Hid (k = len) := by show k = len; omega
      go_wp2
      go_ret
      refine ⟨by rw [HE.out]; rfl, Or.inr ⟨b, off, rfl, hBb, by have := HS.out; omega, ?_⟩, HS.out, Or.inr ⟨by omega, b, off, rfl, hBb, HB.out⟩⟩
      intro i hi
      rw [upFrom_len] at hi
      obtain ⟨e0, e1⟩ := HR.out i hi
      refine ⟨?_, e1⟩
      rw [e0]
      show some (Value.int .i64 (if i < k * 2 then (1 : Int) + (i : Int) else zs.getD i 0)) = _
      rw [if_pos (by rw [HE.out]; exact hi), upFrom_at (len * 2) 1 i hi]
end Go.Proofs.Ythjcgnldlhjjmaa.ints
