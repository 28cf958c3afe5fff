/-
  The laws' marks, from any number on: what they write is the list's own block alone.
-/
import Derived.Test.YtlocdlgbjjbnoaaProg
import Derived.Test.YtlocdlgbjjbnoaaInts
import Derived.WalkKit
import Derived.WalkSpells
import Derived.Below
import Derived.Handy
namespace Go.Proofs.Ytlocdlgbjjbnoaa.ints
open Go.RowKit
set_option linter.unusedVariables false

/-- Nothing has turned but the block of the list at a, which lies from B on. -/
def Only (W W' : World) (B : Nat) (a : Option Addr) (len : Nat) : Prop := W'.heap.size = W.heap.size ∧ (W' = W ∨ 0 < len ∧ ∃ b off, a = some ⟨b, off, none⟩ ∧ B ≤ b ∧ W.grownBy W' (some b))
theorem Only.refl (W : World) (B : Nat) (a : Option Addr) (len : Nat) : Only W W B a len := ⟨rfl, Or.inl rfl⟩
theorem Only.below {W W' : World} {B : Nat} {a : Option Addr} {len : Nat} (h : Only W W' B a len) : Below B W W' := by
  rcases h.2 with rfl | ⟨_, b, off, _, hB, hg⟩
  · exact Below.refl _ _
  · exact ⟨hg.os, hg.tape, hg.output, hg.size, fun k hk => by
      by_cases e : k < W.heap.size
      · exact hg.block k e (by simp; omega)
      · rw [Array.getElem?_eq_none (by have := h.1; omega), Array.getElem?_eq_none (by omega)]⟩
/-- Two lists do not lie in one block. -/
def Apart (a a' : Option Addr) : Prop := ∀ b o b' o', a = some ⟨b, o, none⟩ → a' = some ⟨b', o', none⟩ → b ≠ b'
theorem Apart.symm {a a' : Option Addr} (h : Apart a a') : Apart a' a := fun b o b' o' e e' q => h b' o' b o e' e q.symm
theorem Only.ints {W W' : World} {B : Nat} {a a' : Option Addr} {zs : List Int} {len : Nat} (h : Only W W' B a len) (hi : Ints W a' zs) (hne : Apart a a') : Ints W' a' zs := by
  rcases h.2 with rfl | ⟨_, b, off, e, hB, hg⟩
  · exact hi
  · rcases hi with hi | ⟨b', off', e', hl, hc⟩
    · exact Or.inl hi
    · exact Or.inr ⟨b', off', e', Nat.lt_of_lt_of_le hl hg.size, fun i hi => hg.cell (hc i hi) (by simpa using fun q => hne _ _ _ _ e e' q.symm)⟩
theorem Only.mine {W W' : World} {B B' : Nat} {a a' : Option Addr} {zs : List Int} {len : Nat} (h : Only W W' B a len) (hi : Mine W B' a' zs) (hne : Apart a a') : Mine W' B' a' zs := by
  rcases h.2 with rfl | ⟨_, b, off, e, hB, hg⟩
  · exact hi
  · rcases hi with hi | ⟨b', off', e', h0, hl, hc⟩
    · exact Or.inl hi
    · have hb : some b' ≠ some b := by simpa using fun q => hne _ _ _ _ e e' q.symm
      exact Or.inr ⟨b', off', e', h0, Nat.lt_of_lt_of_le hl hg.size, fun i hi => ⟨hg.cell (hc i hi).1 (by simpa using hb), (World.frozen?_of_block (hg.block b' hl hb)).trans (hc i hi).2⟩⟩
theorem Only.new {W W' : World} {B B' x o : Nat} {a' : Option Addr} {zs : List Int} {len : Nat} (h : Only W W' B (some ⟨x, o, none⟩) len) (hx : 0 < len → x < B') (hi : Mine W B' a' zs) : Mine W' B' a' zs := by
  rcases h.2 with rfl | ⟨h0, b, off, e, hB, hg⟩
  · exact hi
  · simp only [Option.some.injEq, Addr.mk.injEq] at e
    obtain ⟨rfl, _⟩ := e
    have hx' := hx h0
    rcases hi with hi | ⟨b', off', e', h0', hl, hc⟩
    · exact Or.inl hi
    · have hb : some b' ≠ some x := by simp; omega
      exact Or.inr ⟨b', off', e', h0', Nat.lt_of_lt_of_le hl hg.size, fun i hi => ⟨hg.cell (hc i hi).1 (by simpa using hb), (World.frozen?_of_block (hg.block b' hl hb)).trans (hc i hi).2⟩⟩
theorem mine_lt {W : World} {B x o : Nat} {zs : List Int} (h : Mine W B (some ⟨x, o, none⟩) zs) (h0 : 0 < zs.length) : x < W.heap.size := by
  rcases h with e | ⟨b, off, e, _, hl, _⟩
  · rw [e] at h0; simp at h0
  · simp only [Option.some.injEq, Addr.mk.injEq] at e
    obtain ⟨rfl, _⟩ := e
    exact hl
theorem grow_refl' (w : World) (row : Option Nat) : w.grownBy w row := ⟨rfl, rfl, rfl, Nat.le_refl _, fun _ _ _ => rfl⟩
theorem grow_set' {w w' : World} {g : Nat} (h : w.grownBy w' (some g)) (i : Nat) (v : Value) : w.grownBy (w'.setCell ⟨g, i, none⟩ v) (some g) :=
  ⟨h.os, h.tape, h.output, by simpa [World.setCell] using h.size, fun k hk hne => (Below.heap_setCell _ _ _ _ (by simpa using hne)).trans (h.block k hk hne)⟩
theorem held_from (s : Int) (hs0 : 0 ≤ s) (hs1 : s ≤ 16777216) (a : Option Addr) (len cap : Nat) (W : World) (hlen : len ≤ 1048576) (h : Hid (Ints W a (upFrom s len))) :
    Calls Try.prog 14 #[.slice a len cap, .int .i64 s] W fun e W' => e = .returned (.int .i64 (s + (len : Int))) ∧ W' = W := by
  go_enter Try.func14, Try.ntmps14
  go_wp2
  go_loop [1, 5] (fun vk vi => ∃ k : Nat, k ≤ len ∧ vi = .int .i64 k ∧ vk = .int .i64 (s + (k : Int))) (fun _ vi => len - (intOf vi).toNat)
  case atStart => exact ⟨0, Nat.zero_le _, rfl, by simp⟩
  case round =>
    obtain ⟨k, hk, rfl, rfl⟩ := hrel
    by_cases hlt : k < len
    · obtain ⟨b, off, ha, hc⟩ := h.out.at (Below.refl _ _) (k := k) (by rw [upFrom_len]; exact hlt)
      subst ha
      rw [upFrom_at len s k hlt] at hc
      go_wp2
      go_round
      case rel => exact ⟨k + 1, by omega, by go_num, by go_num⟩
      case measure => simp [intOf]; omega
    · have HE : Hid (k = len) := by show k = len; omega
      go_wp2
      go_ret
      exact ⟨by rw [HE.out]; rfl, rfl⟩
theorem mark_from (s : Int) (hs0 : 0 ≤ s) (hs1 : s ≤ 100000000000000) (a : Option Addr) (len cap : Nat) (zs : List Int) (W : World) (B : Nat) (hz : Hid (zs.length = len)) (hlen : len ≤ 1048576) (h : Hid (Mine W B a zs)) :
    Calls Try.prog 13 #[.slice a len cap, .int .i64 s] W fun e W' => e = .returned (.int .i64 (s + (len : Int))) ∧ Mine W' B a (upFrom s len) ∧ Only W W' B a len := by
  by_cases hl0 : len = 0
  · subst hl0
    go_enter Try.func13, Try.ntmps13
    go_wp2
    go_loop [1, 5] (fun vk vi => vi = .int .i64 0 ∧ vk = .int .i64 s) (fun _ vi => 1)
    case atStart => exact ⟨rfl, rfl⟩
    case round =>
      obtain ⟨rfl, rfl⟩ := hrel
      go_wp2
      go_ret
      exact ⟨by simp, Or.inl rfl, Only.refl _ _ _ _⟩
  obtain ⟨b, off, ha, hBb, hbl, HC⟩ : ∃ b off, a = some ⟨b, off, none⟩ ∧ B ≤ b ∧ b < W.heap.size ∧ Hid (∀ i, i < zs.length → W.cell? ⟨b, off + i, none⟩ = some (.int .i64 (zs.getD i 0)) ∧ W.frozen? ⟨b, off + i, none⟩ = false) := by
    rcases h.out with h | h
    · have := hz.out; rw [h] at this; simp at this; omega
    · exact h
  subst ha
  go_enter Try.func13, Try.ntmps13
  go_wp2
  go_loopw [1, 5] (fun vk vi wr => ∃ k : Nat, k ≤ len ∧ vi = .int .i64 k ∧ vk = .int .i64 (s + (k : Int)) ∧ Hid (∀ i, i < len → wr.cell? ⟨b, off + i, none⟩ = some (.int .i64 (if i < k then s + (i : Int) else zs.getD i 0)) ∧ wr.frozen? ⟨b, off + i, none⟩ = false) ∧ Hid (W.grownBy wr (some b)) ∧ Hid (wr.heap.size = W.heap.size)) (fun _ vi _ => len - (intOf vi).toNat)
  case atStart =>
    refine ⟨0, Nat.zero_le _, rfl, by simp, ?_, grow_refl' _ _, rfl⟩
    show ∀ i, i < len → _
    intro i hi
    simpa using HC.out i (by have := hz.out; omega)
  case round =>
    obtain ⟨k, hk, rfl, rfl, HR, HB, HS⟩ := hrel
    by_cases hlt : k < len
    · obtain ⟨d0, d1⟩ := HR.out k hlt
      go_wp2
      go_roundw
      case rel =>
        refine ⟨k + 1, by omega, by go_num, by go_num, ?_, ?_, ?_⟩
        · show ∀ i, i < len → _
          intro i hi
          obtain ⟨e0, e1⟩ := HR.out i hi
          refine ⟨?_, by simpa using e1⟩
          by_cases e : i = k
          · subst e
            rw [World.cell?_setCell_same _ _ _ d0, if_pos (by omega)]
          · rw [World.cell?_setCell_other _ _ _ _ (by simp; try omega), e0]
            by_cases e2 : i < k
            · rw [if_pos e2, if_pos (by omega)]
            · rw [if_neg e2, if_neg (by omega)]
        · exact grow_set' HB.out _ _
        · show (World.setCell _ _ _).heap.size = W.heap.size
          rw [← HS.out]; simp [World.setCell]
      case measure => simp [intOf]; omega
    · have HE : Hid (k = len) := by show k = len; omega
      go_wp2
      go_ret
      refine ⟨by rw [HE.out]; rfl, Or.inr ⟨b, off, rfl, hBb, by have := HS.out; omega, ?_⟩, HS.out, Or.inr ⟨by omega, b, off, rfl, hBb, HB.out⟩⟩
      intro i hi
      rw [upFrom_len] at hi
      obtain ⟨e0, e1⟩ := HR.out i hi
      refine ⟨?_, e1⟩
      rw [e0, if_pos (by have := HE.out; omega), upFrom_at len s i hi]
end Go.Proofs.Ytlocdlgbjjbnoaa.ints
