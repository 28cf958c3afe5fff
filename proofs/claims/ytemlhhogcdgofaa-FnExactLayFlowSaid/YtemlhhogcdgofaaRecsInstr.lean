/-
  What the laws' own helpers on lists of Instr do, at every list: they copy it, hold it against another one, number it, and hold it against these numbers.
-/
import Derived.Test.YtemlhhogcdgofaaProg
import Derived.Test.YtemlhhogcdgofaaInts
import Derived.WalkKit
import Derived.WalkSpells
import Derived.Below
import Derived.Handy
import Derived.Deep.OwnRows
import Derived.Deep.RegionWith
import Derived.Laws.MakeOwn
namespace Go.Proofs.Ytemlhhogcdgofaa.ints
open Go.RowKit
set_option linter.unusedVariables false

/-- The n cells from off on in block b hold the numbers f i, and none is barred. -/
def InstrCells (w : World) (b off n : Nat) (f : Nat → Int) : Prop := ∀ i, i < n → w.cell? ⟨b, off + i, none⟩ = some (.int .i64 (f i)) ∧ w.frozen? ⟨b, off + i, none⟩ = false
theorem InstrCells.set {w : World} {b off n : Nat} {f : Nat → Int} (h : InstrCells w b off n f) (j : Nat) (hj : j < n) (x : Int) : InstrCells (w.setCell ⟨b, off + j, none⟩ (.int .i64 x)) b off n (fun i => if i = j then x else f i) := by
  intro i hi
  obtain ⟨e0, e1⟩ := h i hi
  refine ⟨?_, by simpa using e1⟩
  by_cases e : i = j
  · subst e
    rw [World.cell?_setCell_same _ _ _ e0]; simp
  · rw [World.cell?_setCell_other _ _ _ _ (by simp; try omega), e0]; simp [e]
theorem InstrCells.congr {w : World} {b off n : Nat} {f g : Nat → Int} (h : InstrCells w b off n f) (e : ∀ i, i < n → f i = g i) : InstrCells w b off n g := by
  intro i hi
  rw [← e i hi]; exact h i hi
theorem Instr_info : (Try.prog.info? 74).map (fun i => (i.zero, i.size, i.bytes)) = some (some (.agg #[.int .i64 0, .int .i64 0, .int .i64 0, .int .i64 0, .int .i64 0]), 5, 40) := by kernel_rfl
theorem Instr_made (n i : Nat) (hi : i < n) : (madeCells #[.int .i64 0, .int .i64 0, .int .i64 0, .int .i64 0, .int .i64 0] n)[i]? = some (.int .i64 0) := by
  have h : i % 5 < 5 := Nat.mod_lt _ (by decide)
  simp only [madeCells, Array.getElem?_map, Array.getElem?_range, hi, if_true, Option.map_some]
  generalize i % 5 = j at h
  congr 1
  match j, h with
  | 0, _ => rfl
  | 1, _ => rfl
  | 2, _ => rfl
  | 3, _ => rfl
  | 4, _ => rfl
  | j + 5, h => omega
theorem Instr_to (x0 x1 x2 x3 x4 : Int) (W : World) : Calls Try.prog 49 #[.agg #[.int .i64 x0, .int .i64 x1, .int .i64 x2, .int .i64 x3, .int .i64 x4]] W fun e W' => e = .returned (.agg #[.int .i64 x0, .int .i64 x1, .int .i64 x2, .int .i64 x3, .int .i64 x4]) ∧ Below W.heap.size W W' := by
  go_enter Try.func49, Try.ntmps49
  go_wp2
  refine bodyPost_ret (v := .agg #[.int .i64 x0, .int .i64 x1, .int .i64 x2, .int .i64 x3, .int .i64 x4]) (by simp [results, Try.results49, go_sem]) rfl ⟨rfl, by go_grown⟩
theorem Instr_eq (x0 x1 x2 x3 x4 : Int) (W : World) : Calls Try.prog 52 #[.agg #[.int .i64 x0, .int .i64 x1, .int .i64 x2, .int .i64 x3, .int .i64 x4], .agg #[.int .i64 x0, .int .i64 x1, .int .i64 x2, .int .i64 x3, .int .i64 x4]] W fun e W' => e = .returned (.bool true) ∧ W' = (W.alloc (.cells #[.int .i64 x0, .int .i64 x1, .int .i64 x2, .int .i64 x3, .int .i64 x4] 74)).alloc (.cells #[.int .i64 x0, .int .i64 x1, .int .i64 x2, .int .i64 x3, .int .i64 x4] 74) := by
  go_enter Try.func52, Try.ntmps52
  go_wp2
  go_ret
  exact ⟨rfl, rfl⟩
/-- The 5 numbers of one element. -/
theorem Instr_at {W wr : World} {a : Option Addr} {zs : List Int} {len k : Nat} (h : Ints W a zs) (hz : zs.length = len * 5) (hB : Below W.heap.size W wr) (hk : k < len) : ∃ b off, a = some ⟨b, off, none⟩ ∧ b < W.heap.size ∧ wr.cell? ⟨b, off + k * 5, none⟩ = some (.int .i64 (zs.getD (k * 5) 0)) ∧ wr.cell? ⟨b, off + k * 5 + 1, none⟩ = some (.int .i64 (zs.getD (k * 5 + 1) 0)) ∧ wr.cell? ⟨b, off + k * 5 + 2, none⟩ = some (.int .i64 (zs.getD (k * 5 + 2) 0)) ∧ wr.cell? ⟨b, off + k * 5 + 3, none⟩ = some (.int .i64 (zs.getD (k * 5 + 3) 0)) ∧ wr.cell? ⟨b, off + k * 5 + 4, none⟩ = some (.int .i64 (zs.getD (k * 5 + 4) 0)) := by
  rcases h with h | ⟨b, off, rfl, hb, hc⟩
  · rw [h] at hz; simp at hz; omega
  · have g : ∀ j, j < len * 5 → wr.cell? ⟨b, off + j, none⟩ = some (.int .i64 (zs.getD j 0)) := fun j hj => (hB.cell (p := ⟨b, off + j, none⟩) hb).trans (hc j (by omega))
    refine ⟨b, off, rfl, hb, ?_, ?_, ?_, ?_, ?_⟩
    · exact g (k * 5) (by omega)
    · exact g (k * 5 + 1) (by omega)
    · exact g (k * 5 + 2) (by omega)
    · exact g (k * 5 + 3) (by omega)
    · exact g (k * 5 + 4) (by omega)

set_option maxRecDepth 100000 in
set_option maxHeartbeats 1000000 in
theorem Instr_list (a : Option Addr) (len cap : Nat) (zs : List Int) (W : World) (hz : Hid (zs.length = len * 5)) (hlen : len ≤ 1048576) (h : Hid (Ints W a zs)) :
    Calls Try.prog 37 #[.slice a len cap] W fun e W' => e = .returned (.slice (some ⟨W.heap.size, 0, none⟩) len len) ∧ Mine W' W.heap.size (some ⟨W.heap.size, 0, none⟩) zs ∧ Below W.heap.size W W' := by
  obtain ⟨i0, hi, hz0, hz1, hz2⟩ := info_parts Instr_info
  have hmk : ∀ w : World, (Instr.makeSlice 44 (.int .i64 (len : Int)) (.int .i64 (len : Int))).run Try.prog w = .ok (.slice (some ⟨w.heap.size, 0, none⟩) len len) (w.alloc (.cells (madeCells #[.int .i64 0, .int .i64 0, .int .i64 0, .int .i64 0, .int .i64 0] (len * 5)) 74)) := by
    intro w
    have hr := run_make (P := Try.prog) w 44 74 i0 _ Try.underlying44 hi hz0 .i64 .i64 (len : Int) (len : Int) (by omega) (Int.le_refl _) (by rw [hz2]; omega) (by omega)
    simp only [Int.toNat_natCast] at hr
    rw [hr, hz1]; rfl
  clear hi hz0 hz1 hz2
  go_enter Try.func37, Try.ntmps37
  go_wp2
  clear hmk
  go_loopw [4] (fun vi wr => ∃ k : Nat, k ≤ len ∧ vi = .int .i64 k ∧ Hid (wr.rowIs W.heap.size 74 (len * 5) (fun j => .int .i64 (if j < k * 5 then zs.getD j 0 else 0))) ∧ Hid (Below W.heap.size W wr)) (fun vi _ => len - (intOf vi).toNat)
  case atStart =>
    refine ⟨0, Nat.zero_le _, rfl, ?_, ?_⟩
    · have h := World.rowIs_alloc W (madeCells #[.int .i64 0, .int .i64 0, .int .i64 0, .int .i64 0, .int .i64 0] (len * 5)) 74 (fun _ => .int .i64 0) (fun i hi => Instr_made _ i (by rw [size_madeCells] at hi; exact hi))
      rw [size_madeCells] at h
      exact h.congr (fun i hi => by rw [if_neg (by omega)])
    · show Below _ _ _
      go_grown
  case round =>
    obtain ⟨k, hk, rfl, HC, HB⟩ := hrel
    by_cases hlt : k < len
    · obtain ⟨b, off, ha, hb, c0, c1, c2, c3, c4⟩ := Instr_at h.out hz.out HB.out hlt
      subst ha
      have hbs : W.heap.size < wr.heap.size := HC.out.lt
      go_wp2_with fail
      refine (Instr_to _ _ _ _ _ _).mono ?_
      rintro e w1 ⟨rfl, hB1⟩
      have HC1 : Hid (w1.rowIs W.heap.size 74 (len * 5) (fun j => .int .i64 (if j < k * 5 then zs.getD j 0 else 0))) := HC.out.of_block (hB1.block _ hbs)
      have HB1 : Hid (Below W.heap.size W w1) := HB.out.trans (hB1.mono (by omega))
      clear hB1
      have d0 := HC1.out.cell (i := k * 5) (by omega)
      have f0 := HC1.out.frozen (k * 5)
      have d1 := HC1.out.cell (i := k * 5 + 1) (by omega)
      have f1 := HC1.out.frozen (k * 5 + 1)
      have d2 := HC1.out.cell (i := k * 5 + 2) (by omega)
      have f2 := HC1.out.frozen (k * 5 + 2)
      have d3 := HC1.out.cell (i := k * 5 + 3) (by omega)
      have f3 := HC1.out.frozen (k * 5 + 3)
      have d4 := HC1.out.cell (i := k * 5 + 4) (by omega)
      have f4 := HC1.out.frozen (k * 5 + 4)
      go_wp2
      go_roundw
      case rel =>
        refine ⟨k + 1, by omega, by go_num, ?_, ?_⟩
        · refine World.rowIs.congr ((((((HC1.out).set (k * 5) (.int .i64 (zs.getD (k * 5) 0))).set (k * 5 + 1) (.int .i64 (zs.getD (k * 5 + 1) 0))).set (k * 5 + 2) (.int .i64 (zs.getD (k * 5 + 2) 0))).set (k * 5 + 3) (.int .i64 (zs.getD (k * 5 + 3) 0))).set (k * 5 + 4) (.int .i64 (zs.getD (k * 5 + 4) 0))) ?_
          intro j hj
          rcases (show j = k * 5 ∨ j = k * 5 + 1 ∨ j = k * 5 + 2 ∨ j = k * 5 + 3 ∨ j = k * 5 + 4 ∨ j < k * 5 ∨ (k + 1) * 5 ≤ j by omega) with rfl | rfl | rfl | rfl | rfl | h | h
          · rw [if_pos (show k * 5 < (k + 1) * 5 by omega)]; simp
          · rw [if_pos (show k * 5 + 1 < (k + 1) * 5 by omega)]; simp
          · rw [if_pos (show k * 5 + 2 < (k + 1) * 5 by omega)]; simp
          · rw [if_pos (show k * 5 + 3 < (k + 1) * 5 by omega)]; simp
          · rw [if_pos (show k * 5 + 4 < (k + 1) * 5 by omega)]; simp
          · rw [if_pos (show j < (k + 1) * 5 by omega), if_pos h, if_neg (show ¬ j = k * 5 + 4 by omega), if_neg (show ¬ j = k * 5 + 3 by omega), if_neg (show ¬ j = k * 5 + 2 by omega), if_neg (show ¬ j = k * 5 + 1 by omega), if_neg (show ¬ j = k * 5 by omega)]
          · rw [if_neg (show ¬ j < (k + 1) * 5 by omega), if_neg (show ¬ j < k * 5 by omega), if_neg (show ¬ j = k * 5 + 4 by omega), if_neg (show ¬ j = k * 5 + 3 by omega), if_neg (show ¬ j = k * 5 + 2 by omega), if_neg (show ¬ j = k * 5 + 1 by omega), if_neg (show ¬ j = k * 5 by omega)]
        · show Below _ _ _
          refine Below.trans HB1.out ?_
          go_grown
      case measure => simp [intOf]; omega
    · go_wp2
      go_ret
      refine ⟨rfl, ?_, HB.out⟩
      refine Or.inr ⟨W.heap.size, 0, rfl, Nat.le_refl _, HC.out.lt, fun i hi => ?_⟩
      have hi' : i < len * 5 := by have := hz.out; omega
      refine ⟨?_, by simpa using HC.out.frozen i⟩
      rw [Nat.zero_add, HC.out.cell hi', if_pos (by have : k = len := by omega
                                                    rw [this]; exact hi')]

theorem Instr_size (a : Option Addr) (len cap : Nat) (l : Int) (W : World) (h0 : 0 ≤ l) (h1 : l ≤ 1048576) (hm : len ≤ 140737488351232) :
    Calls Try.prog 32 #[.slice a len cap, .int .i64 l] W fun e W' => e = .returned (.int .i64 (if (len : Int) ≤ l then l - (len : Int) else -1)) ∧ W' = W := by
  by_cases h : (len : Int) ≤ l
  · rw [if_pos h]
    go_enter Try.func32, Try.ntmps32
    go_wp2
    go_ret
    exact ⟨rfl, rfl⟩
  · rw [if_neg h]
    have h' : l < (len : Int) := by omega
    clear h
    go_enter Try.func32, Try.ntmps32
    go_wp2
    go_ret
    exact ⟨rfl, rfl⟩
set_option maxHeartbeats 2000000 in
theorem Instr_same (a a' : Option Addr) (len cap cap' : Nat) (zs : List Int) (W : World) (hz : Hid (zs.length = len * 5)) (hlen : len ≤ 1048576) (h : Hid (Ints W a zs)) (h' : Hid (Ints W a' zs)) :
    Calls Try.prog 45 #[.slice a len cap, .slice a' len cap'] W fun e W' => e = .returned (.bool true) ∧ Below W.heap.size W W' := by
  go_enter Try.func45, Try.ntmps45
  go_wp2
  go_loopw [5] (fun vi wr => ∃ k : Nat, k ≤ len ∧ vi = .int .i64 k ∧ Hid (Below W.heap.size W wr)) (fun vi _ => len - (intOf vi).toNat)
  case atStart => exact ⟨0, Nat.zero_le _, rfl, Below.refl _ _⟩
  case round =>
    obtain ⟨k, hk, rfl, HB⟩ := hrel
    by_cases hlt : k < len
    · obtain ⟨b, off, ha, hb, c0, c1, c2, c3, c4⟩ := Instr_at h.out hz.out HB.out hlt
      obtain ⟨b', off', ha', hb', e0, e1, e2, e3, e4⟩ := Instr_at h'.out hz.out HB.out hlt
      subst ha ha'
      go_wp2_with fail
      go_region_with (go_at_call 52; refine (Instr_eq _ _ _ _ _ _).mono ?_; rintro e w' ⟨rfl, rfl⟩)
      all_goals
        go_wp2
        go_roundw
        case rel =>
          refine ⟨k + 1, by omega, by go_num, ?_⟩
          have hs := HB.out.size
          show Below _ _ _
          refine Below.trans HB.out ?_
          go_grown
        case measure => simp [intOf]; omega
    · go_wp2
      go_ret
      exact ⟨rfl, HB.out⟩

set_option maxHeartbeats 2000000 in
theorem Instr_mark (a : Option Addr) (len cap : Nat) (zs : List Int) (W : World) (B : Nat) (hz : Hid (zs.length = len * 5)) (hlen : len ≤ 1048576) (h : Hid (Mine W B a zs)) :
    Calls Try.prog 27 #[.slice a len cap, .int .i64 1] W fun e W' => e = .returned (.int .i64 ((len : Int) * 5 + 1)) ∧ Mine W' B a (upFrom 1 (len * 5)) ∧ Below B W W' ∧ W'.heap.size = W.heap.size := by
  by_cases hl0 : len = 0
  · subst hl0
    go_enter Try.func27, Try.ntmps27
    go_wp2
    go_loop [1, 5] (fun vk vi => vi = .int .i64 0 ∧ vk = .int .i64 1) (fun _ vi => 1)
    case atStart => exact ⟨rfl, rfl⟩
    case round =>
      obtain ⟨rfl, rfl⟩ := hrel
      go_wp2
      go_ret
      exact ⟨rfl, Or.inl rfl, Below.refl _ _, rfl⟩
  obtain ⟨b, off, ha, hBb, hbl, HC⟩ : ∃ b off, a = some ⟨b, off, none⟩ ∧ B ≤ b ∧ b < W.heap.size ∧ Hid (∀ i, i < zs.length → W.cell? ⟨b, off + i, none⟩ = some (.int .i64 (zs.getD i 0)) ∧ W.frozen? ⟨b, off + i, none⟩ = false) := by
    rcases h.out with h | h
    · have := hz.out; rw [h] at this; simp at this; omega
    · exact h
  subst ha
  go_enter Try.func27, Try.ntmps27
  go_wp2
  go_loopw [1, 5] (fun vk vi wr => ∃ k : Nat, k ≤ len ∧ vi = .int .i64 k ∧ vk = .int .i64 ((k : Int) * 5 + 1) ∧ Hid (InstrCells wr b off (len * 5) (fun i => if i < k * 5 then (1 : Int) + (i : Int) else zs.getD i 0)) ∧ Hid (Below B W wr) ∧ Hid (wr.heap.size = W.heap.size)) (fun _ vi _ => len - (intOf vi).toNat)
  case atStart =>
    refine ⟨0, Nat.zero_le _, rfl, rfl, ?_, Below.refl _ _, rfl⟩
    show InstrCells _ _ _ _ _
    intro i hi
    simpa using HC.out i (by have := hz.out; omega)
  case round =>
    obtain ⟨k, hk, rfl, rfl, HR, HB, HS⟩ := hrel
    by_cases hlt : k < len
    · skip
      obtain ⟨d0, f0⟩ := HR.out (k * 5) (by omega)
      obtain ⟨d1, f1⟩ := HR.out (k * 5 + 1) (by omega)
      obtain ⟨d2, f2⟩ := HR.out (k * 5 + 2) (by omega)
      obtain ⟨d3, f3⟩ := HR.out (k * 5 + 3) (by omega)
      obtain ⟨d4, f4⟩ := HR.out (k * 5 + 4) (by omega)
      rw [← Nat.add_assoc] at d1 f1
      rw [← Nat.add_assoc] at d2 f2
      rw [← Nat.add_assoc] at d3 f3
      rw [← Nat.add_assoc] at d4 f4
      go_wp2
      go_roundw
      case rel =>
        refine ⟨k + 1, by omega, by go_num, ?_, ?_, ?_, ?_⟩
        · congr 1; omega
        · refine InstrCells.congr ((((((HR.out).set (k * 5) (by omega) ((k : Int) * 5 + 1)).set (k * 5 + 1) (by omega) ((k : Int) * 5 + 1 + 1)).set (k * 5 + 2) (by omega) ((k : Int) * 5 + 1 + 1 + 1)).set (k * 5 + 3) (by omega) ((k : Int) * 5 + 1 + 1 + 1 + 1)).set (k * 5 + 4) (by omega) ((k : Int) * 5 + 1 + 1 + 1 + 1 + 1)) ?_
          intro j hj
          rcases (show j = k * 5 ∨ j = k * 5 + 1 ∨ j = k * 5 + 2 ∨ j = k * 5 + 3 ∨ j = k * 5 + 4 ∨ j < k * 5 ∨ (k + 1) * 5 ≤ j by omega) with rfl | rfl | rfl | rfl | rfl | h | h
          · rw [if_pos (show k * 5 < (k + 1) * 5 by omega)]; simp; omega
          · rw [if_pos (show k * 5 + 1 < (k + 1) * 5 by omega)]; simp; omega
          · rw [if_pos (show k * 5 + 2 < (k + 1) * 5 by omega)]; simp; omega
          · rw [if_pos (show k * 5 + 3 < (k + 1) * 5 by omega)]; simp; omega
          · rw [if_pos (show k * 5 + 4 < (k + 1) * 5 by omega)]; simp; omega
          · rw [if_pos (show j < (k + 1) * 5 by omega), if_neg (show ¬ j = k * 5 + 4 by omega), if_neg (show ¬ j = k * 5 + 3 by omega), if_neg (show ¬ j = k * 5 + 2 by omega), if_neg (show ¬ j = k * 5 + 1 by omega), if_neg (show ¬ j = k * 5 by omega), if_pos h]
          · rw [if_neg (show ¬ j < (k + 1) * 5 by omega), if_neg (show ¬ j = k * 5 + 4 by omega), if_neg (show ¬ j = k * 5 + 3 by omega), if_neg (show ¬ j = k * 5 + 2 by omega), if_neg (show ¬ j = k * 5 + 1 by omega), if_neg (show ¬ j = k * 5 by omega), if_neg (show ¬ j < k * 5 by omega)]
        · exact (((((HB.out).setCell hBb _).setCell hBb _).setCell hBb _).setCell hBb _).setCell hBb _
        · show (World.setCell _ _ _).heap.size = W.heap.size
          rw [← HS.out]; simp [World.setCell]
      case measure => simp [intOf]; omega
    · have HE : Hid (k = len) := by show k = len; omega
      go_wp2
      go_ret
      refine ⟨by rw [HE.out]; rfl, Or.inr ⟨b, off, rfl, hBb, by have := HS.out; omega, ?_⟩, HB.out, HS.out⟩
      intro i hi
      rw [upFrom_len] at hi
      obtain ⟨e0, e1⟩ := HR.out i hi
      refine ⟨?_, e1⟩
      rw [e0]
      show some (Value.int .i64 (if i < k * 5 then (1 : Int) + (i : Int) else zs.getD i 0)) = _
      rw [if_pos (by rw [HE.out]; exact hi), upFrom_at (len * 5) 1 i hi]
set_option maxHeartbeats 2000000 in
theorem Instr_held (a : Option Addr) (len cap : Nat) (W : World) (hlen : len ≤ 1048576) (h : Hid (Ints W a (upFrom 1 (len * 5)))) :
    Calls Try.prog 28 #[.slice a len cap, .int .i64 1] W fun e W' => e = .returned (.int .i64 ((len : Int) * 5 + 1)) ∧ W' = W := by
  go_enter Try.func28, Try.ntmps28
  go_wp2
  go_loop [1, 5] (fun vk vi => ∃ k : Nat, k ≤ len ∧ vi = .int .i64 k ∧ vk = .int .i64 ((k : Int) * 5 + 1)) (fun _ vi => len - (intOf vi).toNat)
  case atStart => exact ⟨0, Nat.zero_le _, rfl, rfl⟩
  case round =>
    obtain ⟨k, hk, rfl, rfl⟩ := hrel
    by_cases hlt : k < len
    · obtain ⟨b, off, ha, hb, c0, c1, c2, c3, c4⟩ := Instr_at h.out (upFrom_len _ _) (Below.refl _ _) hlt
      subst ha
      rw [upFrom_at (len * 5) 1 (k * 5) (by omega), show (1 : Int) + ((k * 5 : Nat) : Int) = (k : Int) * 5 + 1 by omega] at c0
      rw [upFrom_at (len * 5) 1 (k * 5 + 1) (by omega), show (1 : Int) + ((k * 5 + 1 : Nat) : Int) = (k : Int) * 5 + 1 + 1 by omega] at c1
      rw [upFrom_at (len * 5) 1 (k * 5 + 2) (by omega), show (1 : Int) + ((k * 5 + 2 : Nat) : Int) = (k : Int) * 5 + 1 + 1 + 1 by omega] at c2
      rw [upFrom_at (len * 5) 1 (k * 5 + 3) (by omega), show (1 : Int) + ((k * 5 + 3 : Nat) : Int) = (k : Int) * 5 + 1 + 1 + 1 + 1 by omega] at c3
      rw [upFrom_at (len * 5) 1 (k * 5 + 4) (by omega), show (1 : Int) + ((k * 5 + 4 : Nat) : Int) = (k : Int) * 5 + 1 + 1 + 1 + 1 + 1 by omega] at c4
      go_wp2
      go_round
      case rel => exact ⟨k + 1, by omega, by go_num, by congr 1; omega⟩
      case measure => simp [intOf]; omega
    · have HE : Hid (k = len) := by show k = len; omega
      go_wp2
      go_ret
      exact ⟨by rw [HE.out]; rfl, rfl⟩
end Go.Proofs.Ytemlhhogcdgofaa.ints
