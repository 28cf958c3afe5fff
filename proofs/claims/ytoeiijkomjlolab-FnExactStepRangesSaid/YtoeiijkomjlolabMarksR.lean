/-
  The laws number a list of ranges, and hold it against these numbers, from any number on.
-/
import Derived.Test.YtoeiijkomjlolabProg
import Derived.Test.YtoeiijkomjlolabRanges
import Derived.Test.YtoeiijkomjlolabMarks
import Derived.WalkKit
import Derived.WalkSpells
import Derived.Below
import Derived.Handy
import Derived.Deep.OwnRows
namespace Go.Proofs.Ytoeiijkomjlolab.walks
open Go.RowKit Go.Proofs.Ytoeiijkomjlolab.math Go.Proofs.Ytoeiijkomjlolab.ints
set_option linter.unusedVariables false

/-- What the facts are numbered with. -/
def markG (s : Int) (i : Nat) : Rv := ⟨Int.tmod (s + (i : Int) * 3) 3 == 0, s + (i : Int) * 3 + 1, s + (i : Int) * 3 + 1 + 1⟩
theorem mark_t {s : Int} (h : 0 ≤ s) (k : Nat) : (markG s k).e = (s % 3 == 0) := by
  show (Int.tmod (s + (k : Int) * 3) 3 == 0) = _
  rw [Int.tmod_eq_emod_of_nonneg (by omega), show (s + (k : Int) * 3) % 3 = s % 3 by omega]
set_option maxRecDepth 100000 in
set_option maxHeartbeats 2000000 in
theorem heldF_from (s : Int) (hs0 : 0 ≤ s) (hs1 : s ≤ 16777216) (a : Option Addr) (len cap : Nat) (W : World) (hlen : len ≤ 1048576) (h : Hid (Facts W a len (markG s))) :
    Calls Try.prog 29 #[.slice a len cap, .int .i64 s] W fun e W' => e = .returned (.int .i64 (s + (len : Int) * 3)) ∧ W' = W := by
  go_enter Try.func29, Try.ntmps29
  go_wp2
  go_loop [1, 5] (fun vk vi => ∃ k : Nat, k ≤ len ∧ vi = .int .i64 k ∧ vk = .int .i64 (s + (k : Int) * 3)) (fun _ vi => len - (intOf vi).toNat)
  case atStart => exact ⟨0, Nat.zero_le _, rfl, by simp⟩
  case round =>
    obtain ⟨k, hk, rfl, rfl⟩ := hrel
    by_cases hlt : k < len
    · obtain ⟨b, off, ha, hb, c0, c1, c2⟩ := fact_at h.out (Below.refl _ _) hlt
      subst ha
      simp only [markG] at c0 c1 c2
      go_wp2
      go_round
      case rel => exact ⟨k + 1, by omega, by go_num, by congr 1; omega⟩
      case measure => simp [intOf]; omega
    · have HE : Hid (k = len) := by show k = len; omega
      go_wp2
      go_ret
      exact ⟨by rw [HE.out]; rfl, rfl⟩
theorem Only.factsNew {W W' : World} {B B' x o n : Nat} {a' : Option Addr} {g : Nat → Rv} {len : Nat} (h : Only W W' B (some ⟨x, o, none⟩) len) (hx : 0 < len → x < B') (hi : MineF W B' a' n g) : MineF W' B' a' n g := by
  rcases h.2 with rfl | ⟨h0, b, off, e, hB, hg⟩
  · exact hi
  · simp only [Option.some.injEq, Addr.mk.injEq] at e
    obtain ⟨rfl, _⟩ := e
    have hx' := hx h0
    rcases hi with hi | ⟨b', off', e', h0', hl, hc⟩
    · exact Or.inl hi
    · have hb : some b' ≠ some x := by simp; omega
      exact Or.inr ⟨b', off', e', h0', Nat.lt_of_lt_of_le hl hg.size, fun i hi => ⟨hg.cell (hc i hi).1 (by simpa using hb), (World.frozen?_of_block (hg.block b' hl hb)).trans (hc i hi).2⟩⟩
theorem mineF_lt {W : World} {B x o n : Nat} {g : Nat → Rv} (h : MineF W B (some ⟨x, o, none⟩) n g) (h0 : 0 < n) : x < W.heap.size := by
  rcases h with e | ⟨b, off, e, _, hl, _⟩
  · omega
  · simp only [Option.some.injEq, Addr.mk.injEq] at e
    obtain ⟨rfl, _⟩ := e
    exact hl
set_option maxRecDepth 100000 in
set_option maxHeartbeats 4000000 in
theorem markF_from (s : Int) (hs0 : 0 ≤ s) (hs1 : s ≤ 16777216) (a : Option Addr) (len cap : Nat) (g : Nat → Rv) (W : World) (B : Nat) (hlen : len ≤ 1048576) (h : Hid (MineF W B a len g)) :
    Calls Try.prog 28 #[.slice a len cap, .int .i64 s] W fun e W' => e = .returned (.int .i64 (s + (len : Int) * 3)) ∧ MineF W' B a len (markG s) ∧ Only W W' B a len := by
  by_cases hl0 : len = 0
  · subst hl0
    go_enter Try.func28, Try.ntmps28
    go_wp2
    go_loop [1, 5] (fun vk vi => vi = .int .i64 0 ∧ vk = .int .i64 s) (fun _ vi => 1)
    case atStart => exact ⟨rfl, rfl⟩
    case round =>
      obtain ⟨rfl, rfl⟩ := hrel
      go_wp2
      go_ret
      exact ⟨by simp, Or.inl rfl, Only.refl _ _ _ _⟩
  obtain ⟨b, off, ha, hBb, hbl, HC⟩ : ∃ b off, a = some ⟨b, off, none⟩ ∧ B ≤ b ∧ b < W.heap.size ∧ Hid (∀ i, i < len * 3 → W.cell? ⟨b, off + i, none⟩ = some (cellG g i) ∧ W.frozen? ⟨b, off + i, none⟩ = false) := by
    rcases h.out with h | h
    · omega
    · exact h
  subst ha
  go_enter Try.func28, Try.ntmps28
  go_wp2
  go_loopw [1, 5] (fun vk vi wr => ∃ k : Nat, k ≤ len ∧ vi = .int .i64 k ∧ vk = .int .i64 (s + (k : Int) * 3) ∧ Hid (∀ i, i < len * 3 → wr.cell? ⟨b, off + i, none⟩ = some (cellG (fun j => if j < k then markG s j else g j) i) ∧ wr.frozen? ⟨b, off + i, none⟩ = false) ∧ Hid (W.grownBy wr (some b)) ∧ Hid (wr.heap.size = W.heap.size)) (fun _ vi _ => len - (intOf vi).toNat)
  case atStart =>
    refine ⟨0, Nat.zero_le _, rfl, by simp, ?_, grow_refl' _ _, rfl⟩
    show ∀ i, i < len * 3 → _
    intro i hi
    simpa using HC.out i hi
  case round =>
    obtain ⟨k, hk, rfl, rfl, HR, HB, HS⟩ := hrel
    by_cases hlt : k < len
    · obtain ⟨d0, f0⟩ := HR.out (k * 3) (by omega)
      obtain ⟨d1, f1⟩ := HR.out (k * 3 + 1) (by omega)
      obtain ⟨d2, f2⟩ := HR.out (k * 3 + 2) (by omega)
      rw [← Nat.add_assoc] at d1 f1 d2 f2
      rw [cellG_0] at d0
      rw [cellG_1] at d1
      rw [cellG_2] at d2
      go_wp2
      go_roundw
      case rel =>
        refine ⟨k + 1, by omega, by go_num, by congr 1; omega, ?_, ?_, ?_⟩
        · show ∀ i, i < len * 3 → _
          intro i hi
          obtain ⟨e0, e1⟩ := HR.out i hi
          refine ⟨?_, by simpa using e1⟩
          have hu : cellG (fun j => if j < k + 1 then markG s j else g j) i = cellG (upd (fun j => if j < k then markG s j else g j) k (markG s k)) i := by
            refine cellG_far ?_
            show (if i / 3 < k + 1 then markG s (i / 3) else g (i / 3)) = _
            by_cases e : i / 3 = k
            · rw [e, upd_same, if_pos (by omega)]
            · rw [upd_other _ _ e]
              by_cases e2 : i / 3 < k
              · rw [if_pos e2, if_pos (by omega)]
              · rw [if_neg e2, if_neg (by omega)]
          rw [hu, cellG_upd]
          by_cases h2 : i = k * 3 + 2
          · subst h2
            rw [if_pos rfl, ← Nat.add_assoc, World.cell?_setCell_same _ _ _ ((World.cell?_setCell_other _ _ _ _ (by simp; try omega)).trans ((World.cell?_setCell_other _ _ _ _ (by simp; try omega)).trans d2))]
            rfl
          rw [if_neg h2, World.cell?_setCell_other _ _ _ _ (by simp; try omega)]
          by_cases h1 : i = k * 3 + 1
          · subst h1
            rw [if_pos rfl, ← Nat.add_assoc, World.cell?_setCell_same _ _ _ ((World.cell?_setCell_other _ _ _ _ (by simp; try omega)).trans d1)]
            rfl
          rw [if_neg h1, World.cell?_setCell_other _ _ _ _ (by simp; try omega)]
          by_cases h0 : i = k * 3
          · subst h0
            rw [if_pos rfl, World.cell?_setCell_same _ _ _ d0, mark_t hs0]
          rw [if_neg h0, World.cell?_setCell_other _ _ _ _ (by simp; try omega), e0]
        · exact grow_set' (grow_set' (grow_set' HB.out _ _) _ _) _ _
        · show (World.setCell _ _ _).heap.size = W.heap.size
          rw [← HS.out]; simp [World.setCell]
      case measure => simp [intOf]; omega
    · have HE : Hid (k = len) := by show k = len; omega
      go_wp2
      go_ret
      refine ⟨by rw [HE.out]; rfl, Or.inr ⟨b, off, rfl, hBb, by have := HS.out; omega, ?_⟩, HS.out, Or.inr ⟨by omega, b, off, rfl, hBb, HB.out⟩⟩
      intro i hi
      obtain ⟨e0, e1⟩ := HR.out i hi
      refine ⟨?_, e1⟩
      rw [e0]
      exact congrArg some (cellG_far (by show (if i / 3 < k then markG s (i / 3) else g (i / 3)) = _; rw [if_pos (by have := HE.out; omega)]))
end Go.Proofs.Ytoeiijkomjlolab.walks
