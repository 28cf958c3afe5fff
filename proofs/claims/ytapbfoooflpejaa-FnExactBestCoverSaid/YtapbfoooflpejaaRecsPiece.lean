/-
  What the laws' own helpers on lists of Piece do, at every list: they copy it, hold it against another one, number it, and hold it against these numbers.
-/
import Derived.Test.YtapbfoooflpejaaProg
import Derived.Test.YtapbfoooflpejaaInts
import Derived.WalkKit
import Derived.WalkSpells
import Derived.Below
import Derived.Handy
import Derived.Deep.OwnRows
import Derived.Deep.RegionWith
import Derived.Laws.MakeOwn
namespace Go.Proofs.Ytapbfoooflpejaa.ints
open Go.RowKit
set_option linter.unusedVariables false

/-- The n cells from off on in block b hold the numbers f i, and none is barred. -/
def PieceCells (w : World) (b off n : Nat) (f : Nat → Int) : Prop := ∀ i, i < n → w.cell? ⟨b, off + i, none⟩ = some (.int .i64 (f i)) ∧ w.frozen? ⟨b, off + i, none⟩ = false
theorem PieceCells.set {w : World} {b off n : Nat} {f : Nat → Int} (h : PieceCells w b off n f) (j : Nat) (hj : j < n) (x : Int) : PieceCells (w.setCell ⟨b, off + j, none⟩ (.int .i64 x)) b off n (fun i => if i = j then x else f i) := by
  intro i hi
  obtain ⟨e0, e1⟩ := h i hi
  refine ⟨?_, by simpa using e1⟩
  by_cases e : i = j
  · subst e
    rw [World.cell?_setCell_same _ _ _ e0]; simp
  · rw [World.cell?_setCell_other _ _ _ _ (by simp; try omega), e0]; simp [e]
theorem PieceCells.congr {w : World} {b off n : Nat} {f g : Nat → Int} (h : PieceCells w b off n f) (e : ∀ i, i < n → f i = g i) : PieceCells w b off n g := by
  intro i hi
  rw [← e i hi]; exact h i hi
theorem Piece_info : (Try.prog.info? 67).map (fun i => (i.zero, i.size, i.bytes)) = some (some (.agg #[.int .i64 0, .int .i64 0]), 2, 16) := by kernel_rfl
theorem Piece_made (n i : Nat) (hi : i < n) : (madeCells #[.int .i64 0, .int .i64 0] n)[i]? = some (.int .i64 0) := by
  have h : i % 2 < 2 := Nat.mod_lt _ (by decide)
  simp only [madeCells, Array.getElem?_map, Array.getElem?_range, hi, if_true, Option.map_some]
  generalize i % 2 = j at h
  congr 1
  match j, h with
  | 0, _ => rfl
  | 1, _ => rfl
  | j + 2, h => omega
theorem Piece_eq (x0 x1 : Int) (W : World) : Calls Try.prog 29 #[.agg #[.int .i64 x0, .int .i64 x1], .agg #[.int .i64 x0, .int .i64 x1]] W fun e W' => e = .returned (.bool true) ∧ W' = (W.alloc (.cells #[.int .i64 x0, .int .i64 x1] 67)).alloc (.cells #[.int .i64 x0, .int .i64 x1] 67) := by
  go_enter Try.func29, Try.ntmps29
  go_wp2
  go_ret
  exact ⟨rfl, rfl⟩
/-- The 2 numbers of one element. -/
theorem Piece_at {W wr : World} {a : Option Addr} {zs : List Int} {len k : Nat} (h : Ints W a zs) (hz : zs.length = len * 2) (hB : Below W.heap.size W wr) (hk : k < len) : ∃ b off, a = some ⟨b, off, none⟩ ∧ b < W.heap.size ∧ wr.cell? ⟨b, off + k * 2, none⟩ = some (.int .i64 (zs.getD (k * 2) 0)) ∧ wr.cell? ⟨b, off + k * 2 + 1, none⟩ = some (.int .i64 (zs.getD (k * 2 + 1) 0)) := by
  rcases h with h | ⟨b, off, rfl, hb, hc⟩
  · rw [h] at hz; simp at hz; omega
  · have g : ∀ j, j < len * 2 → wr.cell? ⟨b, off + j, none⟩ = some (.int .i64 (zs.getD j 0)) := fun j hj => (hB.cell (p := ⟨b, off + j, none⟩) hb).trans (hc j (by omega))
    refine ⟨b, off, rfl, hb, ?_, ?_⟩
    · exact g (k * 2) (by omega)
    · exact g (k * 2 + 1) (by omega)


set_option maxHeartbeats 2000000 in
theorem Piece_same (a a' : Option Addr) (len cap cap' : Nat) (zs : List Int) (W : World) (hz : Hid (zs.length = len * 2)) (hlen : len ≤ 1048576) (h : Hid (Ints W a zs)) (h' : Hid (Ints W a' zs)) :
    Calls Try.prog 10 #[.slice a len cap, .slice a' len cap'] W fun e W' => e = .returned (.bool true) ∧ Below W.heap.size W W' := by
  go_enter Try.func10, Try.ntmps10
  go_wp2
  go_loopw [5] (fun vi wr => ∃ k : Nat, k ≤ len ∧ vi = .int .i64 k ∧ Hid (Below W.heap.size W wr)) (fun vi _ => len - (intOf vi).toNat)
  case atStart => exact ⟨0, Nat.zero_le _, rfl, Below.refl _ _⟩
  case round =>
    obtain ⟨k, hk, rfl, HB⟩ := hrel
    by_cases hlt : k < len
    · obtain ⟨b, off, ha, hb, c0, c1⟩ := Piece_at h.out hz.out HB.out hlt
      obtain ⟨b', off', ha', hb', e0, e1⟩ := Piece_at h'.out hz.out HB.out hlt
      subst ha ha'
      go_wp2_with fail
      go_region_with (go_at_call 29; refine (Piece_eq _ _ _).mono ?_; rintro e w' ⟨rfl, rfl⟩)
      all_goals
        go_wp2
        go_roundw
        case rel =>
          refine ⟨k + 1, by omega, by go_num, ?_⟩
          have hs := HB.out.size
          show Below _ _ _
          refine Below.trans HB.out ?_
          go_grown
        case measure => simp [intOf]; omega
    · go_wp2
      go_ret
      exact ⟨rfl, HB.out⟩

set_option maxHeartbeats 2000000 in
theorem Piece_mark (a : Option Addr) (len cap : Nat) (zs : List Int) (W : World) (B : Nat) (hz : Hid (zs.length = len * 2)) (hlen : len ≤ 1048576) (h : Hid (Mine W B a zs)) :
    Calls Try.prog 15 #[.slice a len cap, .int .i64 1] W fun e W' => e = .returned (.int .i64 ((len : Int) * 2 + 1)) ∧ Mine W' B a (upFrom 1 (len * 2)) ∧ Below B W W' ∧ W'.heap.size = W.heap.size := by
  by_cases hl0 : len = 0
  · subst hl0
    go_enter Try.func15, Try.ntmps15
    go_wp2
    go_loop [1, 5] (fun vk vi => vi = .int .i64 0 ∧ vk = .int .i64 1) (fun _ vi => 1)
    case atStart => exact ⟨rfl, rfl⟩
    case round =>
      obtain ⟨rfl, rfl⟩ := hrel
      go_wp2
      go_ret
      exact ⟨rfl, Or.inl rfl, Below.refl _ _, rfl⟩
  obtain ⟨b, off, ha, hBb, hbl, HC⟩ : ∃ b off, a = some ⟨b, off, none⟩ ∧ B ≤ b ∧ b < W.heap.size ∧ Hid (∀ i, i < zs.length → W.cell? ⟨b, off + i, none⟩ = some (.int .i64 (zs.getD i 0)) ∧ W.frozen? ⟨b, off + i, none⟩ = false) := by
    rcases h.out with h | h
    · have := hz.out; rw [h] at this; simp at this; omega
    · exact h
  subst ha
  go_enter Try.func15, Try.ntmps15
  go_wp2
  go_loopw [1, 5] (fun vk vi wr => ∃ k : Nat, k ≤ len ∧ vi = .int .i64 k ∧ vk = .int .i64 ((k : Int) * 2 + 1) ∧ Hid (PieceCells wr b off (len * 2) (fun i => if i < k * 2 then (1 : Int) + (i : Int) else zs.getD i 0)) ∧ Hid (Below B W wr) ∧ Hid (wr.heap.size = W.heap.size)) (fun _ vi _ => len - (intOf vi).toNat)
  case atStart =>
    refine ⟨0, Nat.zero_le _, rfl, rfl, ?_, Below.refl _ _, rfl⟩
    show PieceCells _ _ _ _ _
    intro i hi
    simpa using HC.out i (by have := hz.out; omega)
  case round =>
    obtain ⟨k, hk, rfl, rfl, HR, HB, HS⟩ := hrel
    by_cases hlt : k < len
    · skip
      obtain ⟨d0, f0⟩ := HR.out (k * 2) (by omega)
      obtain ⟨d1, f1⟩ := HR.out (k * 2 + 1) (by omega)
      rw [← Nat.add_assoc] at d1 f1
      go_wp2
      go_roundw
      case rel =>
        refine ⟨k + 1, by omega, by go_num, ?_, ?_, ?_, ?_⟩
        · congr 1; omega
        · refine PieceCells.congr (((HR.out).set (k * 2) (by omega) ((k : Int) * 2 + 1)).set (k * 2 + 1) (by omega) ((k : Int) * 2 + 1 + 1)) ?_
          intro j hj
          rcases (show j = k * 2 ∨ j = k * 2 + 1 ∨ j < k * 2 ∨ (k + 1) * 2 ≤ j by omega) with rfl | rfl | h | h
          · rw [if_pos (show k * 2 < (k + 1) * 2 by omega)]; simp; omega
          · rw [if_pos (show k * 2 + 1 < (k + 1) * 2 by omega)]; simp; omega
          · rw [if_pos (show j < (k + 1) * 2 by omega), if_neg (show ¬ j = k * 2 + 1 by omega), if_neg (show ¬ j = k * 2 by omega), if_pos h]
          · rw [if_neg (show ¬ j < (k + 1) * 2 by omega), if_neg (show ¬ j = k * 2 + 1 by omega), if_neg (show ¬ j = k * 2 by omega), if_neg (show ¬ j < k * 2 by omega)]
        · exact ((HB.out).setCell hBb _).setCell hBb _
        · show (World.setCell _ _ _).heap.size = W.heap.size
          rw [← HS.out]; simp [World.setCell]
      case measure => simp [intOf]; omega
    · have HE : Hid (k = len) := by show k = len; omega
      go_wp2
      go_ret
      refine ⟨by rw [HE.out]; rfl, Or.inr ⟨b, off, rfl, hBb, by have := HS.out; omega, ?_⟩, HB.out, HS.out⟩
      intro i hi
      rw [upFrom_len] at hi
      obtain ⟨e0, e1⟩ := HR.out i hi
      refine ⟨?_, e1⟩
      rw [e0]
      show some (Value.int .i64 (if i < k * 2 then (1 : Int) + (i : Int) else zs.getD i 0)) = _
      rw [if_pos (by rw [HE.out]; exact hi), upFrom_at (len * 2) 1 i hi]
set_option maxHeartbeats 2000000 in
theorem Piece_held (a : Option Addr) (len cap : Nat) (W : World) (hlen : len ≤ 1048576) (h : Hid (Ints W a (upFrom 1 (len * 2)))) :
    Calls Try.prog 16 #[.slice a len cap, .int .i64 1] W fun e W' => e = .returned (.int .i64 ((len : Int) * 2 + 1)) ∧ W' = W := by
  go_enter Try.func16, Try.ntmps16
  go_wp2
  go_loop [1, 5] (fun vk vi => ∃ k : Nat, k ≤ len ∧ vi = .int .i64 k ∧ vk = .int .i64 ((k : Int) * 2 + 1)) (fun _ vi => len - (intOf vi).toNat)
  case atStart => exact ⟨0, Nat.zero_le _, rfl, rfl⟩
  case round =>
    obtain ⟨k, hk, rfl, rfl⟩ := hrel
    by_cases hlt : k < len
    · obtain ⟨b, off, ha, hb, c0, c1⟩ := Piece_at h.out (upFrom_len _ _) (Below.refl _ _) hlt
      subst ha
      rw [upFrom_at (len * 2) 1 (k * 2) (by omega), show (1 : Int) + ((k * 2 : Nat) : Int) = (k : Int) * 2 + 1 by omega] at c0
      rw [upFrom_at (len * 2) 1 (k * 2 + 1) (by omega), show (1 : Int) + ((k * 2 + 1 : Nat) : Int) = (k : Int) * 2 + 1 + 1 by omega] at c1
      go_wp2
      go_round
      case rel => exact ⟨k + 1, by omega, by go_num, by congr 1; omega⟩
      case measure => simp [intOf]; omega
    · have HE : Hid (k = len) := by show k = len; omega
      go_wp2
      go_ret
      exact ⟨by rw [HE.out]; rfl, rfl⟩
end Go.Proofs.Ytapbfoooflpejaa.ints
