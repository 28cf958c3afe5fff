/-
  Of every flow: the program tells the steps of each block that do nothing as the specification does, each time in memory of its own; it writes into nothing that was there.
-/
import Derived.Test.YtfmgbalfabpogaaProg
import Derived.Test.YtfmgbalfabpogaaInts
import Derived.Test.YtfmgbalfabpogaaRecsInstr
import Derived.Test.YtfmgbalfabpogaaMarks
import Derived.Test.YtfmgbalfabpogaaFlow
import Derived.WalkKit
import Derived.WalkSpells
import Derived.Below
import Derived.Handy
import Derived.Deep.OwnRows
import Derived.Deep.RegionWith
import Derived.Laws.MakeOwn
import Derived.Test.YtfmgbalfabpogaaLiveSpec
import Derived.Deep.RegionHeld3
import Derived.Deep.LoopGhost
import Derived.Deep.CutBlock
import Derived.Test.YtfmgbalfabpogaaNeedsRound
import Derived.Test.YtfmgbalfabpogaaFlowBlocks
import Derived.Shelf.SlIterI.Nil
import Derived.Shelf.SortM.Plain
import Derived.Shelf.SortM.SortNone
import Derived.Test.YtfmgbalfabpogaaShelf
import Derived.Test.YtfmgbalfabpogaaSetKeys
import Derived.Test.YtfmgbalfabpogaaSetOps
import Derived.Test.YtfmgbalfabpogaaSetRise
import Derived.Test.YtfmgbalfabpogaaNeedsAt
import Derived.Test.YtfmgbalfabpogaaOwnInts
import Derived.OwnWalk
import Derived.Test.YtfmgbalfabpogaaBackMath
import Derived.Test.YtfmgbalfabpogaaNamesMath
import Derived.Test.YtfmgbalfabpogaaMagMath
import Derived.Laws.AppendOwnNone
import Derived.Test.YtfmgbalfabpogaaPutSpec
import Derived.RangeFuncNested
import Derived.RangeFuncBound
import Derived.RangeFuncCalls
import Derived.RangeFuncLeaves
import Derived.Shelf.Abstract
import Derived.OwnWalkIn
import Derived.TacticsInMore
import Derived.LoopNIn
import Derived.LoopIn
import Derived.Test.YtfmgbalfabpogaaStepsOf
import Derived.Test.YtfmgbalfabpogaaBackward
import Derived.Test.YtfmgbalfabpogaaBackwardB
import Derived.Maps.OwnIn
import Derived.Test.YtfmgbalfabpogaaBackOps
import Derived.Test.YtfmgbalfabpogaaRows
import Derived.ProofKit
import Derived.OpenShut
import Derived.ShutString
import Derived.ChangeOld
import Derived.Carry
import Derived.SizedLaws
import Derived.Test.YtfmgbalfabpogaaCodeMath
import Derived.Test.YtfmgbalfabpogaaRunMath
import Derived.Test.YtfmgbalfabpogaaFlowMath
import Derived.Test.YtfmgbalfabpogaaFlowEq
import Derived.Test.YtfmgbalfabpogaaLiveMath
import Derived.Test.YtfmgbalfabpogaaOpenFlow
namespace Go.Proofs.Ytfmgbalfabpogaa.walks
open Go.RowKit Go.Proofs.Ytfmgbalfabpogaa.math Go.Proofs.Ytfmgbalfabpogaa.ints
set_option linter.unusedVariables false

/-- Where the steps of a copy lie. -/
def aOf (G : Nat → Nat) (f : Nat → Bv) : Nat → Option Addr × Nat := fun k => (some ⟨G k, 0, none⟩, (f k).len)
def updN (G : Nat → Nat) (k g : Nat) : Nat → Nat := fun i => if i = k then g else G i
theorem updN_same (G : Nat → Nat) (k g : Nat) : updN G k g k = g := if_pos rfl
theorem updN_other (G : Nat → Nat) {k i : Nat} (g : Nat) (h : i ≠ k) : updN G k g i = G i := if_neg h
theorem aOf_upd (G : Nat → Nat) (f : Nat → Bv) (k g : Nat) : updA (aOf G f) k (some ⟨g, 0, none⟩, (f k).len) = aOf (updN G k g) f := by
  funext i
  by_cases e : i = k
  · subst e; rw [updA_same]; simp [aOf, updN_same]
  · rw [updA_other _ _ e]; simp [aOf, updN_other _ _ e]
/-- A copy of a flow: its list in block b, its steps in blocks behind it, below E. -/
structure MineB (w : World) (b E n : Nat) (f : Nat → Bv) (G : Nat → Nat) : Prop where
  lt : b < w.heap.size
  cell : ∀ i, i < n * 4 → w.cell? ⟨b, i, none⟩ = some (cellB (aOf G f) f i) ∧ w.frozen? ⟨b, i, none⟩ = false
  code : ∀ k, k < n → Mine w (b + 1) (some ⟨G k, 0, none⟩) (f k).zs ∧ (f k).zs.length = (f k).len * 5
  ne : ∀ k, k < n → b < G k
  hi : ∀ k, k < n → 0 < (f k).len → G k < E
  ap : ∀ j k, j < n → k < n → j ≠ k → 0 < (f j).len → 0 < (f k).len → G j ≠ G k
theorem MineB.flow {w : World} {b E n : Nat} {f : Nat → Bv} {G : Nat → Nat} (h : MineB w b E n f G) : Flow w (some ⟨b, 0, none⟩) n f :=
  Or.inr ⟨b, 0, aOf G f, rfl, h.lt, fun i hi => by rw [Nat.zero_add]; exact (h.cell i hi).1, fun k hk => ⟨(h.code k hk).1.ints, (h.code k hk).2⟩⟩
theorem MineB.kept {w w' : World} {b E n : Nat} {f : Nat → Bv} {G : Nat → Nat} (h : MineB w b E n f G) (hb : Below w.heap.size w w') : MineB w' b E n f G :=
  ⟨Nat.lt_of_lt_of_le h.lt hb.size, fun i hi => ⟨(hb.cell (p := ⟨b, i, none⟩) h.lt).trans (h.cell i hi).1, (hb.frozen (p := ⟨b, i, none⟩) h.lt).trans (h.cell i hi).2⟩, fun k hk => ⟨(h.code k hk).1.kept hb, (h.code k hk).2⟩, h.ne, h.hi, h.ap⟩
/-- What may be marked: a list of blocks in block b, steps in blocks behind it. -/
structure MarkB (w : World) (b E n : Nat) (l : Nat → Nat) (G : Nat → Nat) : Prop where
  lt : b < w.heap.size
  cell : ∀ k, k < n → w.cell? ⟨b, k * 4, none⟩ = some (.slice (some ⟨G k, 0, none⟩) (l k) (l k))
  num : ∀ k j, k < n → 1 ≤ j → j ≤ 3 → (∃ v, w.cell? ⟨b, k * 4 + j, none⟩ = some v) ∧ w.frozen? ⟨b, k * 4 + j, none⟩ = false
  code : ∀ k, k < n → ∃ zs : List Int, zs.length = l k * 5 ∧ Mine w (b + 1) (some ⟨G k, 0, none⟩) zs
  ne : ∀ k, k < n → b < G k
  hi : ∀ k, k < n → 0 < l k → G k < E
  ap : ∀ j k, j < n → k < n → j ≠ k → 0 < l j → 0 < l k → G j ≠ G k
theorem MineB.mark {w : World} {b E n : Nat} {f : Nat → Bv} {G : Nat → Nat} (h : MineB w b E n f G) : MarkB w b E n (fun k => (f k).len) G :=
  ⟨h.lt, fun k hk => by rw [(h.cell (k * 4) (by omega)).1, cellB_0]; rfl, fun k j hk h1 h3 => ⟨⟨_, (h.cell (k * 4 + j) (by omega)).1⟩, (h.cell (k * 4 + j) (by omega)).2⟩, fun k hk => ⟨(f k).zs, (h.code k hk).2, (h.code k hk).1⟩, h.ne, h.hi, h.ap⟩
/-- Nothing has turned but blocks from b up to E. -/
structure OnlyB (W W' : World) (b E : Nat) : Prop where
  os : W'.os = W.os
  tape : W'.tape = W.tape
  output : W'.output = W.output
  size : W'.heap.size = W.heap.size
  block : ∀ k, k < W.heap.size → (k < b ∨ E ≤ k) → W'.heap[k]? = W.heap[k]?
theorem OnlyB.refl (W : World) (b E : Nat) : OnlyB W W b E := ⟨rfl, rfl, rfl, rfl, fun _ _ _ => rfl⟩
theorem OnlyB.below {W W' : World} {b E : Nat} (h : OnlyB W W' b E) : Below b W W' :=
  ⟨h.os, h.tape, h.output, Nat.le_of_eq h.size.symm, fun k hk => by
    by_cases e : k < W.heap.size
    · exact h.block k e (Or.inl hk)
    · rw [Array.getElem?_eq_none (by have := h.size; omega), Array.getElem?_eq_none (by omega)]⟩
theorem OnlyB.mine {W W' : World} {b E B : Nat} {a : Option Addr} {zs : List Int} (h : OnlyB W W' b E) (hE : E ≤ B) (hi : Mine W B a zs) : Mine W' B a zs := by
  rcases hi with hi | ⟨b', off', e', h0, hl, hc⟩
  · exact Or.inl hi
  · have hb := h.block b' hl (Or.inr (by omega))
    exact Or.inr ⟨b', off', e', h0, by rw [h.size]; exact hl, fun i hi => ⟨(World.cell?_of_block hb).trans (hc i hi).1, (World.frozen?_of_block hb).trans (hc i hi).2⟩⟩
theorem OnlyB.set {W W' : World} {b E i : Nat} {v : Value} (h : OnlyB W W' b E) (hE : b < E) : OnlyB W (W'.setCell ⟨b, i, none⟩ v) b E :=
  ⟨h.os, h.tape, h.output, by simpa [World.setCell] using h.size, fun k hk ho => (Below.heap_setCell _ _ _ _ (by simp; omega)).trans (h.block k hk ho)⟩
theorem OnlyB.only {W W' W'' : World} {b E g len : Nat} (h : OnlyB W W' b E) (hg : b < g) (hE : 0 < len → g < E) (ho : Only W' W'' (b + 1) (some ⟨g, 0, none⟩) len) : OnlyB W W'' b E := by
  rcases ho.2 with rfl | ⟨h0, b', off, e, hB, hgr⟩
  · exact h
  · simp only [Option.some.injEq, Addr.mk.injEq] at e
    obtain ⟨rfl, _⟩ := e
    have := hE h0
    exact ⟨hgr.os.trans h.os, hgr.tape.trans h.tape, hgr.output.trans h.output, ho.1.trans h.size, fun k hk hx => (hgr.block k (by rw [h.size]; exact hk) (by simp; omega)).trans (h.block k hk hx)⟩
theorem MarkB.only {W W' : World} {b E n k : Nat} {l G : Nat → Nat} (h : MarkB W b E n l G) (hk : k < n) (ho : Only W W' (b + 1) (some ⟨G k, 0, none⟩) (l k)) {zs : List Int} (hz : zs.length = l k * 5) (hm : Mine W' (b + 1) (some ⟨G k, 0, none⟩) zs) : MarkB W' b E n l G := by
  rcases ho.2 with rfl | ⟨h0, b', off, e, hB, hgr⟩
  · exact h
  · simp only [Option.some.injEq, Addr.mk.injEq] at e
    obtain ⟨rfl, _⟩ := e
    have hb := h.ne k hk
    have hs := ho.1
    have hq := hgr.block b h.lt (by simp; omega)
    refine ⟨by rw [hs]; exact h.lt, fun j hj => (World.cell?_of_block hq).trans (h.cell j hj), fun j i hj h1 h3 => ?_, fun j hj => ?_, h.ne, h.hi, h.ap⟩
    · obtain ⟨⟨v, hv⟩, hf⟩ := h.num j i hj h1 h3
      exact ⟨⟨v, (World.cell?_of_block hq).trans hv⟩, (World.frozen?_of_block hq).trans hf⟩
    · by_cases e : j = k
      · subst e; exact ⟨zs, hz, hm⟩
      · obtain ⟨ys, hy, hM⟩ := h.code j hj
        by_cases l0 : 0 < l j
        · exact ⟨ys, hy, Only.mine ho hM (fun b1 o1 b2 o2 e1 e2 => by
            simp only [Option.some.injEq, Addr.mk.injEq] at e1 e2
            have := h.ap k j hk hj (fun q => e q.symm) h0 l0
            omega)⟩
        · exact ⟨ys, hy, Or.inl (List.length_eq_zero_iff.mp (by omega))⟩
theorem MarkB.set {W : World} {b E n k i : Nat} {l G : Nat → Nat} {v : Value} (h : MarkB W b E n l G) (hk : k < n) (h1 : 1 ≤ i) (h3 : i ≤ 3) : MarkB (W.setCell ⟨b, k * 4 + i, none⟩ v) b E n l G := by
  refine ⟨by simpa [World.setCell] using h.lt, fun j hj => ?_, fun j i' hj h1' h3' => ⟨?_, by simpa using (h.num j i' hj h1' h3').2⟩, fun j hj => ?_, h.ne, h.hi, h.ap⟩
  · rw [World.cell?_setCell_other _ _ _ _ (by simp; try omega)]; exact h.cell j hj
  · obtain ⟨⟨u, hu⟩, _⟩ := h.num j i' hj h1' h3'
    by_cases e : k * 4 + i = j * 4 + i'
    · rw [e, World.cell?_setCell_same _ _ _ hu]; exact ⟨_, rfl⟩
    · rw [World.cell?_setCell_other _ _ _ _ (by simp; try omega)]; exact ⟨u, hu⟩
  · obtain ⟨zs, hz, hM⟩ := h.code j hj
    exact ⟨zs, hz, mine_far (by have := h.ne j hj; omega) hM⟩
theorem Instr_markFrom (s : Int) (hs0 : 0 ≤ s) (hs1 : s ≤ 100000000000000) (a : Option Addr) (len cap : Nat) (zs : List Int) (W : World) (B : Nat) (hz : Hid (zs.length = len * 5)) (hlen : len ≤ 1048576) (h : Hid (Mine W B a zs)) :
    Calls Try.prog 27 #[.slice a len cap, .int .i64 s] W fun e W' => e = .returned (.int .i64 (s + (len : Int) * 5)) ∧ Mine W' B a (upFrom s (len * 5)) ∧ Only W W' B a len := by
  by_cases hl0 : len = 0
  · subst hl0
    go_enter Try.func27, Try.ntmps27
    go_wp2
    go_loop [1, 5] (fun vk vi => vi = .int .i64 0 ∧ vk = .int .i64 s) (fun _ vi => 1)
    case atStart => exact ⟨rfl, rfl⟩
    case round =>
      obtain ⟨rfl, rfl⟩ := hrel
      go_wp2
      go_ret
      exact ⟨by simp, Or.inl rfl, Only.refl _ _ _ _⟩
  obtain ⟨b, off, ha, hBb, hbl, HC⟩ : ∃ b off, a = some ⟨b, off, none⟩ ∧ B ≤ b ∧ b < W.heap.size ∧ Hid (∀ i, i < zs.length → W.cell? ⟨b, off + i, none⟩ = some (.int .i64 (zs.getD i 0)) ∧ W.frozen? ⟨b, off + i, none⟩ = false) := by
    rcases h.out with h | h
    · have := hz.out; rw [h] at this; simp at this; omega
    · exact h
  subst ha
  go_enter Try.func27, Try.ntmps27
  go_wp2
  go_loopw [1, 5] (fun vk vi wr => ∃ k : Nat, k ≤ len ∧ vi = .int .i64 k ∧ vk = .int .i64 (s + (k : Int) * 5) ∧ Hid (InstrCells wr b off (len * 5) (fun i => if i < k * 5 then s + (i : Int) else zs.getD i 0)) ∧ Hid (W.grownBy wr (some b)) ∧ Hid (wr.heap.size = W.heap.size)) (fun _ vi _ => len - (intOf vi).toNat)
  case atStart =>
    refine ⟨0, Nat.zero_le _, rfl, by simp, ?_, grow_refl' _ _, rfl⟩
    show InstrCells _ _ _ _ _
    intro i hi
    simpa using HC.out i (by have := hz.out; omega)
  case round =>
    obtain ⟨k, hk, rfl, rfl, HR, HB, HS⟩ := hrel
    by_cases hlt : k < len
    · have hkI : (k : Int) < 1048576 := by omega
      obtain ⟨d0, f0⟩ := HR.out (k * 5) (by omega)
      obtain ⟨d1, f1⟩ := HR.out (k * 5 + 1) (by omega)
      obtain ⟨d2, f2⟩ := HR.out (k * 5 + 2) (by omega)
      obtain ⟨d3, f3⟩ := HR.out (k * 5 + 3) (by omega)
      obtain ⟨d4, f4⟩ := HR.out (k * 5 + 4) (by omega)
      rw [← Nat.add_assoc] at d1 f1
      rw [← Nat.add_assoc] at d2 f2
      rw [← Nat.add_assoc] at d3 f3
      rw [← Nat.add_assoc] at d4 f4
      go_wp2
      go_roundw
      case rel =>
        refine ⟨k + 1, by omega, by go_num, ?_, ?_, ?_, ?_⟩
        · congr 1; omega
        · refine InstrCells.congr ((((((HR.out).set (k * 5) (by omega) (s + (k : Int) * 5)).set (k * 5 + 1) (by omega) (s + (k : Int) * 5 + 1)).set (k * 5 + 2) (by omega) (s + (k : Int) * 5 + 1 + 1)).set (k * 5 + 3) (by omega) (s + (k : Int) * 5 + 1 + 1 + 1)).set (k * 5 + 4) (by omega) (s + (k : Int) * 5 + 1 + 1 + 1 + 1)) ?_
          intro j hj
          rcases (show j = k * 5 ∨ j = k * 5 + 1 ∨ j = k * 5 + 2 ∨ j = k * 5 + 3 ∨ j = k * 5 + 4 ∨ j < k * 5 ∨ (k + 1) * 5 ≤ j by omega) with rfl | rfl | rfl | rfl | rfl | h | h
          · rw [if_pos (show k * 5 < (k + 1) * 5 by omega)]; simp
          · rw [if_pos (show k * 5 + 1 < (k + 1) * 5 by omega)]; simp; omega
          · rw [if_pos (show k * 5 + 2 < (k + 1) * 5 by omega)]; simp; omega
          · rw [if_pos (show k * 5 + 3 < (k + 1) * 5 by omega)]; simp; omega
          · rw [if_pos (show k * 5 + 4 < (k + 1) * 5 by omega)]; simp; omega
          · rw [if_pos (show j < (k + 1) * 5 by omega), if_neg (show ¬ j = k * 5 + 4 by omega), if_neg (show ¬ j = k * 5 + 3 by omega), if_neg (show ¬ j = k * 5 + 2 by omega), if_neg (show ¬ j = k * 5 + 1 by omega), if_neg (show ¬ j = k * 5 by omega), if_pos h]
          · rw [if_neg (show ¬ j < (k + 1) * 5 by omega), if_neg (show ¬ j = k * 5 + 4 by omega), if_neg (show ¬ j = k * 5 + 3 by omega), if_neg (show ¬ j = k * 5 + 2 by omega), if_neg (show ¬ j = k * 5 + 1 by omega), if_neg (show ¬ j = k * 5 by omega), if_neg (show ¬ j < k * 5 by omega)]
        · exact grow_set' (grow_set' (grow_set' (grow_set' (grow_set' HB.out _ _) _ _) _ _) _ _) _ _
        · show (World.setCell _ _ _).heap.size = W.heap.size
          rw [← HS.out]; simp [World.setCell]
      case measure => simp [intOf]; omega
    · have HE : Hid (k = len) := by show k = len; omega
      go_wp2
      go_ret
      refine ⟨by rw [HE.out]; rfl, Or.inr ⟨b, off, rfl, hBb, by have := HS.out; omega, ?_⟩, HS.out, Or.inr ⟨by omega, b, off, rfl, hBb, HB.out⟩⟩
      intro i hi
      rw [upFrom_len] at hi
      obtain ⟨e0, e1⟩ := HR.out i hi
      refine ⟨?_, e1⟩
      rw [e0]
      show some (Value.int .i64 (if i < k * 5 then s + (i : Int) else zs.getD i 0)) = _
      rw [if_pos (by rw [HE.out]; exact hi), upFrom_at (len * 5) s i hi]
set_option maxRecDepth 100000 in
set_option maxHeartbeats 4000000 in
theorem flow_list2 (a : Option Addr) (n cap : Nat) (f : Nat → Bv) (W : World) (hn : n ≤ 1048576) (hlen : Hid (∀ k, k < n → (f k).len ≤ 1048576)) (h : Hid (Flow W a n f)) :
    Calls Try.prog 7 #[.slice a n cap] W fun e W' => ∃ G, e = .returned (.slice (some ⟨W.heap.size, 0, none⟩) n n) ∧ MineB W' W.heap.size W'.heap.size n f G ∧ Below W.heap.size W W' := by
  obtain ⟨i0, hi, hz0, hz1, hz2⟩ := info_parts block_info
  have hmk : ∀ w : World, (Instr.makeSlice 24 (.int .i64 (n : Int)) (.int .i64 (n : Int))).run Try.prog w = .ok (.slice (some ⟨w.heap.size, 0, none⟩) n n) (w.alloc (.cells (madeCells #[.slice none 0 0, .int .i64 0, .int .i64 0, .int .i64 0] (n * 4)) 44)) := by
    intro w
    have hr := run_make (P := Try.prog) w 24 44 i0 _ Try.underlying24 hi hz0 .i64 .i64 (n : Int) (n : Int) (by omega) (Int.le_refl _) (by rw [hz2]; omega) (by omega)
    simp only [Int.toNat_natCast] at hr
    rw [hr, hz1]; rfl
  clear hi hz0 hz1 hz2
  go_enter Try.func7, Try.ntmps7
  go_wp2
  clear hmk
  go_loopw [4] (fun vi wr => ∃ (k : Nat) (G : Nat → Nat), k ≤ n ∧ vi = .int .i64 k ∧ Hid (RowB wr W.heap.size n k (aOf G f) f) ∧ Hid (∀ j, j < k → Mine wr (W.heap.size + 1) (some ⟨G j, 0, none⟩) (f j).zs ∧ W.heap.size < G j ∧ (0 < (f j).len → G j < wr.heap.size)) ∧ Hid (∀ i j, i < k → j < k → i ≠ j → 0 < (f i).len → 0 < (f j).len → G i ≠ G j) ∧ Hid (Below W.heap.size W wr)) (fun vi _ => n - (intOf vi).toNat)
  case atStart =>
    refine ⟨0, fun _ => 0, Nat.zero_le _, rfl, ?_, fun j hj => by omega, fun i j hi => by omega, ?_⟩
    · have h := World.rowIs_alloc W (madeCells #[.slice none 0 0, .int .i64 0, .int .i64 0, .int .i64 0] (n * 4)) 44 (cellB noA noBs) (fun i hi => block_made _ i (by rw [size_madeCells] at hi; exact hi))
      rw [size_madeCells] at h
      exact World.rowIs.congr h (fun i hi => by rw [if_neg (by omega)])
    · show Below _ _ _
      go_grown
  case round =>
    obtain ⟨k, G, hk, rfl, HC, HJ, HA, HB⟩ := hrel
    by_cases hlt : k < n
    · obtain ⟨b, off, ca, cc, ha, hb, c0, c1, c2, c3, hI, hZ⟩ := flow_at h.out HB.out hlt
      subst ha
      have hbs : W.heap.size < wr.heap.size := World.rowIs.lt HC.out
      have HI : Hid (Ints wr ca (f k).zs) := hI
      have HZ : Hid ((f k).zs.length = (f k).len * 5) := hZ
      have HL := hlen.out k hlt
      clear hI hZ
      go_wp2_with fail
      refine (to_block _ _ _ _ _ _ (f k).zs _ HZ HL HI).mono ?_
      rintro e w1 ⟨g, rfl, hgW, hM, hB1⟩
      have HC1 : Hid (RowB w1 W.heap.size n k (aOf G f) f) := World.rowIs.of_block HC.out (hB1.block _ hbs)
      have HB1 : Hid (Below W.heap.size W w1) := HB.out.trans (hB1.mono (by omega))
      have HM : Hid (Mine w1 (W.heap.size + 1) (some ⟨g, 0, none⟩) (f k).zs) := mine_down hM (by omega)
      have HJ1 : Hid (∀ j, j < k → Mine w1 (W.heap.size + 1) (some ⟨G j, 0, none⟩) (f j).zs ∧ W.heap.size < G j ∧ (0 < (f j).len → G j < w1.heap.size ∧ G j < g)) := fun j hj => ⟨(HJ.out j hj).1.kept hB1, (HJ.out j hj).2.1, fun q => ⟨Nat.lt_of_lt_of_le ((HJ.out j hj).2.2 q) hB1.size, Nat.lt_of_lt_of_le ((HJ.out j hj).2.2 q) hgW⟩⟩
      have HGL : Hid (0 < (f k).len → g < w1.heap.size) := fun q => mine_lt hM (by have := HZ.out; omega)
      have hgb : W.heap.size < g := by omega
      clear hB1 hM HC HB HJ
      obtain ⟨d0, q0⟩ : (∃ v, w1.cell? ⟨W.heap.size, k * 4, none⟩ = some v) ∧ w1.frozen? ⟨W.heap.size, k * 4, none⟩ = false := ⟨⟨_, World.rowIs.cell HC1.out (i := k * 4) (by omega)⟩, World.rowIs.frozen HC1.out (k * 4)⟩
      obtain ⟨d1, q1⟩ : (∃ v, w1.cell? ⟨W.heap.size, k * 4 + 1, none⟩ = some v) ∧ w1.frozen? ⟨W.heap.size, k * 4 + 1, none⟩ = false := ⟨⟨_, World.rowIs.cell HC1.out (i := k * 4 + 1) (by omega)⟩, World.rowIs.frozen HC1.out (k * 4 + 1)⟩
      obtain ⟨d2, q2⟩ : (∃ v, w1.cell? ⟨W.heap.size, k * 4 + 2, none⟩ = some v) ∧ w1.frozen? ⟨W.heap.size, k * 4 + 2, none⟩ = false := ⟨⟨_, World.rowIs.cell HC1.out (i := k * 4 + 2) (by omega)⟩, World.rowIs.frozen HC1.out (k * 4 + 2)⟩
      obtain ⟨d3, q3⟩ : (∃ v, w1.cell? ⟨W.heap.size, k * 4 + 3, none⟩ = some v) ∧ w1.frozen? ⟨W.heap.size, k * 4 + 3, none⟩ = false := ⟨⟨_, World.rowIs.cell HC1.out (i := k * 4 + 3) (by omega)⟩, World.rowIs.frozen HC1.out (k * 4 + 3)⟩
      obtain ⟨v0, d0⟩ := d0
      obtain ⟨v1, d1⟩ := d1
      obtain ⟨v2, d2⟩ := d2
      obtain ⟨v3, d3⟩ := d3
      go_wp2
      go_roundw
      case rel =>
        refine ⟨k + 1, updN G k g, by omega, by go_num, ?_, ?_, ?_, ?_⟩
        · rw [← aOf_upd]; exact HC1.out.set _ _
        · show ∀ j, j < k + 1 → _
          intro j hj
          by_cases e : j = k
          · subst e
            rw [updN_same]
            exact ⟨by iterate 4 refine mine_far (by omega) ?_
                      exact HM.out, hgb, fun q => by simpa [World.setCell] using HGL.out q⟩
          · rw [updN_other _ _ e]
            obtain ⟨p1, p2, p3⟩ := HJ1.out j (by omega)
            exact ⟨by iterate 4 refine mine_far (by omega) ?_
                      exact p1, p2, fun q => by simpa [World.setCell] using (p3 q).1⟩
        · show ∀ i j, i < k + 1 → j < k + 1 → i ≠ j → _
          intro i j hi hj hne l1 l2
          by_cases e : i = k
          · subst e
            rw [updN_same, updN_other _ _ (Ne.symm hne)]
            have := ((HJ1.out j (by omega)).2.2 l2).2
            omega
          · by_cases e' : j = k
            · subst e'
              rw [updN_same, updN_other _ _ hne]
              have := ((HJ1.out i (by omega)).2.2 l1).2
              omega
            · rw [updN_other _ _ e, updN_other _ _ e']
              exact HA.out i j (by omega) (by omega) hne l1 l2
        · show Below _ _ _
          refine Below.trans HB1.out ?_
          go_grown
      case measure => simp [intOf]; omega
    · have HE : Hid (k = n) := by show k = n; omega
      go_wp2
      go_ret
      refine ⟨G, rfl, ⟨World.rowIs.lt HC.out, fun i hi => ⟨?_, World.rowIs.frozen HC.out i⟩, fun j hj => ⟨(HJ.out j (by have := HE.out; omega)).1, ?_⟩, fun j hj => (HJ.out j (by have := HE.out; omega)).2.1, fun j hj q => (HJ.out j (by have := HE.out; omega)).2.2 q, fun i j hi hj => HA.out i j (by have := HE.out; omega) (by have := HE.out; omega)⟩, HB.out⟩
      · rw [World.rowIs.cell HC.out hi, if_pos (by have := HE.out; omega)]
      · obtain ⟨_, _, _, _, _, _, _, _, _, _, _, hZ⟩ := flow_at h.out HB.out hj
        exact hZ
set_option maxRecDepth 100000 in
set_option maxHeartbeats 4000000 in
theorem flow_mark (b E n cap : Nat) (l G : Nat → Nat) (W : World) (hn : n ≤ 1048576) (hlen : Hid (∀ k, k < n → l k ≤ 1048576)) (hbE : b < E) (h : Hid (MarkB W b E n l G)) :
    Calls Try.prog 10 #[.slice (some ⟨b, 0, none⟩) n cap, .int .i64 1] W fun e W' => ∃ s : Int, e = .returned (.int .i64 s) ∧ 0 ≤ s ∧ s ≤ 10000000000000 ∧ OnlyB W W' b E := by
  go_enter Try.func10, Try.ntmps10
  go_wp2
  go_loopw [1, 5] (fun vk vi wr => ∃ (k : Nat) (s : Int), k ≤ n ∧ vi = .int .i64 k ∧ vk = .int .i64 s ∧ 0 ≤ s ∧ s ≤ 1 + (k : Int) * 5242883 ∧ Hid (MarkB wr b E n l G) ∧ Hid (OnlyB W wr b E)) (fun _ vi _ => n - (intOf vi).toNat)
  case atStart => exact ⟨0, 1, Nat.zero_le _, rfl, rfl, by omega, by omega, h, OnlyB.refl _ _ _⟩
  case round =>
    obtain ⟨k, s, hk, rfl, rfl, hs0, hs1, HM, HO⟩ := hrel
    by_cases hlt : k < n
    · have hkI : (k : Int) < 1048576 := by omega
      have hs2 : s ≤ 10000000000000 := by omega
      have HL := hlen.out k hlt
      have c0 := HM.out.cell k hlt
      obtain ⟨zs, hz, hm⟩ := HM.out.code k hlt
      have HZ : Hid (zs.length = l k * 5) := hz
      have HMM : Hid (Mine wr (b + 1) (some ⟨G k, 0, none⟩) zs) := hm
      clear hz hm
      go_wp2_with fail
      refine (Instr_markFrom s hs0 (by omega) _ _ _ zs _ (b + 1) HZ HL HMM).mono ?_
      rintro e w1 ⟨rfl, hm, ho⟩
      have HM1 : Hid (MarkB w1 b E n l G) := HM.out.only hlt ho (upFrom_len _ _) hm
      have HO1 : Hid (OnlyB W w1 b E) := HO.out.only (HM.out.ne k hlt) (HM.out.hi k hlt) ho
      have c0 := HM1.out.cell k hlt
      obtain ⟨⟨v1, d1⟩, f1⟩ := HM1.out.num k 1 hlt (by omega) (by omega)
      obtain ⟨⟨v2, d2⟩, f2⟩ := HM1.out.num k 2 hlt (by omega) (by omega)
      obtain ⟨⟨v3, d3⟩, f3⟩ := HM1.out.num k 3 hlt (by omega) (by omega)
      have hs3 : s + (l k : Int) * 5 ≤ 100000000000000 := by omega
      have hs4 : 0 ≤ s + (l k : Int) * 5 := by omega
      have HLI : (l k : Int) ≤ 1048576 := by omega
      clear HM HO hm ho
      obtain ⟨s', ES⟩ : ∃ s', Hid (s' = s + (l k : Int) * 5) := ⟨_, rfl⟩
      have hs5 : s' ≤ s + 5242880 := by have := ES.out; omega
      rw [← ES.out] at hs3 hs4 ⊢
      go_wp2
      go_roundw
      case rel =>
        refine ⟨k + 1, s' + 1 + 1 + 1, by omega, by go_num, rfl, by omega, by omega, ?_, ?_⟩
        · exact ((HM1.out.set hlt (i := 1) (by omega) (by omega)).set hlt (i := 2) (by omega) (by omega)).set hlt (i := 3) (by omega) (by omega)
        · exact ((HO1.out.set hbE).set hbE).set hbE
      case measure => simp [intOf]; omega
    · go_wp2
      go_ret
      exact ⟨s, rfl, hs0, by omega, HO.out⟩
end Go.Proofs.Ytfmgbalfabpogaa.walks

namespace Go.Proofs.Ytfmgbalfabpogaa.ints
open Go.RowKit
set_option linter.unusedVariables false

/-- A list of lists. -/
def Lists (w : World) (a : Option Addr) (n : Nat) (Z : Nat → List Int) : Prop :=
  n = 0 ∨ ∃ b, a = some ⟨b, 0, none⟩ ∧ b < w.heap.size ∧ ∀ k, k < n → ∃ c d, w.cell? ⟨b, k, none⟩ = some (.slice c (Z k).length d) ∧ Ints w c (Z k)
theorem Lists.kept {w w' : World} {a : Option Addr} {n : Nat} {Z : Nat → List Int} (h : Lists w a n Z) (hb : Below w.heap.size w w') : Lists w' a n Z := by
  rcases h with h | ⟨b, e, hl, hc⟩
  · exact Or.inl h
  · refine Or.inr ⟨b, e, Nat.lt_of_lt_of_le hl hb.size, fun k hk => ?_⟩
    obtain ⟨c, d, q, hi⟩ := hc k hk
    exact ⟨c, d, (hb.cell (p := ⟨b, k, none⟩) hl).trans q, hi.kept hb⟩
theorem Lists.at {W wr : World} {a : Option Addr} {n k : Nat} {Z : Nat → List Int} (h : Lists W a n Z) (hb : Below W.heap.size W wr) (hk : k < n) : ∃ b c d, a = some ⟨b, 0, none⟩ ∧ wr.cell? ⟨b, k, none⟩ = some (.slice c (Z k).length d) ∧ Ints wr c (Z k) := by
  rcases h.kept hb with h | ⟨b, e, hl, hc⟩
  · omega
  · obtain ⟨c, d, q, hi⟩ := hc k hk
    exact ⟨b, c, d, e, q, hi⟩
/-- .. all of it in memory from B on, each list in a block of its own, no cell barred. -/
structure MineL (w : World) (B : Nat) (a : Option Addr) (n : Nat) (Z : Nat → List Int) (C : Nat → Option Addr × Nat) : Prop where
  top : n = 0 ∨ ∃ b, a = some ⟨b, 0, none⟩ ∧ B ≤ b ∧ b < w.heap.size ∧ (∀ k, k < n → w.cell? ⟨b, k, none⟩ = some (.slice (C k).1 (Z k).length (C k).2)) ∧ ∀ k, k < n → 0 < (Z k).length → ∀ b' o, (C k).1 = some ⟨b', o, none⟩ → b' ≠ b
  row : ∀ k, k < n → Mine w B (C k).1 (Z k)
  ap : ∀ j k, j < n → k < n → j ≠ k → 0 < (Z j).length → 0 < (Z k).length → Apart (C j).1 (C k).1
theorem MineL.lists {w : World} {B : Nat} {a : Option Addr} {n : Nat} {Z : Nat → List Int} {C : Nat → Option Addr × Nat} (h : MineL w B a n Z C) : Lists w a n Z := by
  rcases h.top with q | ⟨b, e, _, hl, hc, _⟩
  · exact Or.inl q
  · exact Or.inr ⟨b, e, hl, fun k hk => ⟨_, _, hc k hk, (h.row k hk).ints⟩⟩
theorem MineL.kept {w w' : World} {B : Nat} {a : Option Addr} {n : Nat} {Z : Nat → List Int} {C : Nat → Option Addr × Nat} (h : MineL w B a n Z C) (hb : Below w.heap.size w w') : MineL w' B a n Z C := by
  refine ⟨?_, fun k hk => (h.row k hk).kept hb, h.ap⟩
  rcases h.top with q | ⟨b, e, h0, hl, hc, hn⟩
  · exact Or.inl q
  · exact Or.inr ⟨b, e, h0, Nat.lt_of_lt_of_le hl hb.size, fun k hk => (hb.cell (p := ⟨b, k, none⟩) hl).trans (hc k hk), hn⟩
theorem MineL.congr {w : World} {B : Nat} {a : Option Addr} {n : Nat} {Z Z' : Nat → List Int} {C : Nat → Option Addr × Nat} (h : MineL w B a n Z C) (e : ∀ k, k < n → Z k = Z' k) : MineL w B a n Z' C := by
  refine ⟨?_, fun k hk => by rw [← e k hk]; exact h.row k hk, fun j k hj hk hne h1 h2 => h.ap j k hj hk hne (by rw [e j hj]; exact h1) (by rw [e k hk]; exact h2)⟩
  rcases h.top with q | ⟨b, e', h0, hl, hc, hn⟩
  · exact Or.inl q
  · exact Or.inr ⟨b, e', h0, hl, fun k hk => by rw [← e k hk]; exact hc k hk, fun k hk h1 => hn k hk (by rw [e k hk]; exact h1)⟩
/-- One of its lists has been marked. -/
theorem MineL.put {w w' : World} {B : Nat} {a : Option Addr} {n k : Nat} {Z : Nat → List Int} {C : Nat → Option Addr × Nat} {zs : List Int} (h : MineL w B a n Z C) (hk : k < n) (hz : zs.length = (Z k).length) (hm : Mine w' B (C k).1 zs) (ho : Only w w' B (C k).1 (Z k).length) : MineL w' B a n (fun j => if j = k then zs else Z j) C := by
  have hlen : ∀ j, (if j = k then zs else Z j).length = (Z j).length := fun j => by
    by_cases e : j = k
    · subst e; rw [if_pos rfl]; exact hz
    · rw [if_neg e]
  refine ⟨?_, fun j hj => ?_, fun i j hi hj hne h1 h2 => h.ap i j hi hj hne (by rw [← hlen i]; exact h1) (by rw [← hlen j]; exact h2)⟩
  · rcases h.top with q | ⟨b, e, h0, hl, hc, hn⟩
    · exact Or.inl q
    · refine Or.inr ⟨b, e, h0, by rw [ho.1]; exact hl, fun j hj => ?_, fun j hj h1 => hn j hj (by rw [← hlen j]; exact h1)⟩
      rw [hlen j, ← hc j hj]
      rcases ho.2 with q | ⟨l0, b', off, e', _, hg⟩
      · rw [q]
      · exact World.cell?_of_block (hg.block b hl (by simpa using fun q => hn k hk l0 b' off e' q.symm))
  · by_cases e : j = k
    · subst e; simp only [if_true]; exact hm
    · simp only [if_neg e]
      by_cases l0 : 0 < (Z j).length
      · rcases ho.2 with q | ⟨l1, _⟩
        · rw [q]; exact h.row j hj
        · exact ho.mine (h.row j hj) (h.ap k j hk hj (fun q => e q.symm) l1 l0)
      · exact Or.inl (List.length_eq_zero_iff.1 (by omega))
/-- How many numbers stand ahead of the k-th list. -/
def offs (l : Nat → Nat) : Nat → Nat
  | 0 => 0
  | k + 1 => offs l k + l k
theorem offs_le (l : Nat → Nat) (m : Nat) : ∀ n, (∀ k, k < n → l k ≤ m) → offs l n ≤ n * m
  | 0, _ => by simp [offs]
  | n + 1, h => by
    have h1 := offs_le l m n (fun k hk => h k (by omega))
    have h2 := h n (by omega)
    simp only [offs, Nat.add_mul, Nat.one_mul]
    omega
/-- The marks of the k-th list. -/
def marksL (l : Nat → Nat) (k : Nat) : List Int := upFrom (1 + (offs l k : Int)) (l k)
set_option maxHeartbeats 2000000 in
set_option maxRecDepth 100000 in
theorem eq_lists (a a' : Option Addr) (n cap cap' : Nat) (Z : Nat → List Int) (W : World) (hn : n ≤ 1048576) (hlen : Hid (∀ k, k < n → (Z k).length ≤ 1048576)) (h : Hid (Lists W a n Z)) (h' : Hid (Lists W a' n Z)) :
    Calls Try.prog 14 #[.slice a n cap, .slice a' n cap'] W fun e W' => e = .returned (.bool true) ∧ Below W.heap.size W W' := by
  go_enter Try.func14, Try.ntmps14
  go_wp2
  go_loopw [5] (fun vi wr => ∃ k : Nat, k ≤ n ∧ vi = .int .i64 k ∧ Hid (Below W.heap.size W wr)) (fun vi _ => n - (intOf vi).toNat)
  case atStart => exact ⟨0, Nat.zero_le _, rfl, Below.refl _ _⟩
  case round =>
    obtain ⟨k, hk, rfl, HB⟩ := hrel
    by_cases hlt : k < n
    · obtain ⟨b, c, d, ha, q, hI⟩ := h.out.at HB.out hlt
      obtain ⟨b', c', d', ha', q', hI'⟩ := h'.out.at HB.out hlt
      subst ha ha'
      have HI : Hid (Ints wr c (Z k)) := hI
      have HI' : Hid (Ints wr c' (Z k)) := hI'
      have HL := hlen.out k hlt
      have HD : Hid (Below wr.heap.size wr wr.drew) := (Below.refl _ _).drew
      clear hI hI'
      go_wp2_with fail
      go_region_with (go_at_call 30; refine (eq_ints _ _ _ _ _ (Z k) _ (show Hid _ from rfl) HL (HI.out.kept HD.out) (HI'.out.kept HD.out)).mono ?_; rintro e w' ⟨rfl, hb⟩; have HX : Hid (Below W.heap.size W w') := HB.out.drew.trans (hb.mono HB.out.drew.size); clear hb)
      all_goals
        go_wp2
        go_roundw
        case rel => exact ⟨k + 1, by omega, by go_num, HX.out⟩
        case measure => simp [intOf]; omega
    · go_wp2
      go_ret
      exact ⟨rfl, HB.out⟩
set_option maxHeartbeats 2000000 in
set_option maxRecDepth 100000 in
theorem held_lists (a : Option Addr) (n cap : Nat) (l : Nat → Nat) (W : World) (hn : n ≤ 10) (hlen : Hid (∀ k, k < n → l k ≤ 1048576)) (h : Hid (Lists W a n (marksL l))) :
    Calls Try.prog 16 #[.slice a n cap, .int .i64 1] W fun e W' => e = .returned (.int .i64 (1 + (offs l n : Int))) ∧ W' = W := by
  go_enter Try.func16, Try.ntmps16
  go_wp2
  go_loop [1, 5] (fun vk vi => ∃ k : Nat, k ≤ n ∧ vi = .int .i64 k ∧ vk = .int .i64 (1 + (offs l k : Int))) (fun _ vi => n - (intOf vi).toNat)
  case atStart => exact ⟨0, Nat.zero_le _, rfl, rfl⟩
  case round =>
    obtain ⟨k, hk, rfl, rfl⟩ := hrel
    by_cases hlt : k < n
    · obtain ⟨b, c, d, ha, q, hI⟩ := h.out.at (Below.refl _ _) hlt
      subst ha
      have ho := offs_le l 1048576 k (fun j hj => hlen.out j (by omega))
      have HL := hlen.out k hlt
      have HO : Hid ((offs l (k + 1) : Int) = (offs l k : Int) + (l k : Int)) := by show ((offs l (k + 1) : Nat) : Int) = _; simp [offs]
      rw [show (marksL l k).length = l k from upFrom_len _ _] at q
      have HI : Hid (Ints W c (upFrom (1 + (offs l k : Int)) (l k))) := hI
      clear hI
      obtain ⟨s, hs⟩ : ∃ s : Int, Hid (1 + (offs l k : Int) = s) := ⟨_, rfl⟩
      have hs0 : 0 ≤ s := by have := hs.out; omega
      have hs1 : s ≤ 10485761 := by have := hs.out; omega
      rw [hs.out] at HI ⊢
      have hl0 : (0 : Int) ≤ (l k : Int) := Int.natCast_nonneg _
      have hl1 : (l k : Int) ≤ 1048576 := by omega
      clear ho
      go_wp2_with (go_at_call 32; refine (held_from s hs0 (by omega) _ _ _ _ HL HI).mono ?_; rintro e w' ⟨rfl, hw⟩; rw [hw]; clear hw w')
      go_round
      case rel => exact ⟨k + 1, by omega, by go_num, by rw [HO.out, ← hs.out]; congr 1; omega⟩
      case measure => simp [intOf]; omega
    · have HE : Hid (k = n) := by show k = n; omega
      go_wp2
      go_ret
      exact ⟨by rw [HE.out]; rfl, rfl⟩
set_option maxHeartbeats 2000000 in
set_option maxRecDepth 100000 in
theorem mark_lists (a : Option Addr) (n cap : Nat) (l : Nat → Nat) (Z : Nat → List Int) (C : Nat → Option Addr × Nat) (W : World) (B : Nat) (hn : n ≤ 10) (hz : Hid (∀ k, k < n → (Z k).length = l k)) (hlen : Hid (∀ k, k < n → l k ≤ 1048576)) (h : Hid (MineL W B a n Z C)) :
    Calls Try.prog 15 #[.slice a n cap, .int .i64 1] W fun e W' => e = .returned (.int .i64 (1 + (offs l n : Int))) ∧ MineL W' B a n (marksL l) C ∧ Below B W W' := by
  go_enter Try.func15, Try.ntmps15
  go_wp2
  go_loopw [1, 5] (fun vk vi wr => ∃ k : Nat, k ≤ n ∧ vi = .int .i64 k ∧ vk = .int .i64 (1 + (offs l k : Int)) ∧ Hid (MineL wr B a n (fun j => if j < k then marksL l j else Z j) C) ∧ Hid (Below B W wr)) (fun _ vi _ => n - (intOf vi).toNat)
  case atStart => exact ⟨0, Nat.zero_le _, rfl, rfl, h.out.congr (fun k _ => by rw [if_neg (by omega)]), Below.refl _ _⟩
  case round =>
    obtain ⟨k, hk, rfl, rfl, HM, HB⟩ := hrel
    by_cases hlt : k < n
    · obtain ⟨b, ha, q⟩ : ∃ b, a = some ⟨b, 0, none⟩ ∧ wr.cell? ⟨b, k, none⟩ = some (.slice (C k).1 (l k) (C k).2) := by
        rcases HM.out.top with q | ⟨b, e, _, _, hc, _⟩
        · omega
        · have := hc k hlt
          rw [if_neg (by omega), hz.out k hlt] at this
          exact ⟨b, e, this⟩
      subst ha
      have ho := offs_le l 1048576 k (fun j hj => hlen.out j (by omega))
      have HL := hlen.out k hlt
      have HO : Hid ((offs l (k + 1) : Int) = (offs l k : Int) + (l k : Int)) := by show ((offs l (k + 1) : Nat) : Int) = _; simp [offs]
      have HR : Hid (Mine wr B (C k).1 (Z k)) := by
        have := HM.out.row k hlt
        simp only [if_neg (show ¬ k < k by omega)] at this
        exact this
      have HZ : Hid ((Z k).length = l k) := hz.out k hlt
      obtain ⟨s, hs⟩ : ∃ s : Int, Hid (1 + (offs l k : Int) = s) := ⟨_, rfl⟩
      have hs0 : 0 ≤ s := by have := hs.out; omega
      have hs1 : s ≤ 10485761 := by have := hs.out; omega
      rw [hs.out] at ⊢
      have hl0 : (0 : Int) ≤ (l k : Int) := Int.natCast_nonneg _
      have hl1 : (l k : Int) ≤ 1048576 := by omega
      clear ho
      go_wp2_with fail
      refine (mark_from s hs0 (by omega) _ _ _ (Z k) _ B HZ HL HR).mono ?_
      rintro e w1 ⟨rfl, hm, hO⟩
      have HM1 : Hid (MineL w1 B (some ⟨b, 0, none⟩) n (fun j => if j < k + 1 then marksL l j else Z j) C) := by
        have e1 : (if k < k then marksL l k else Z k) = Z k := if_neg (by omega)
        refine (HM.out.put hlt (zs := upFrom s (l k)) (by rw [upFrom_len, e1, HZ.out]) hm (by rw [e1, HZ.out]; exact hO)).congr (fun j hj => ?_)
        by_cases e : j = k
        · subst e
          rw [if_pos rfl, if_pos (by omega)]
          unfold marksL
          rw [hs.out]
        · rw [if_neg e]
          by_cases e2 : j < k
          · rw [if_pos e2, if_pos (by omega)]
          · rw [if_neg e2, if_neg (by omega)]
      have HB1 : Hid (Below B W w1) := HB.out.trans hO.below
      clear hm hO HM HB
      go_wp2
      go_roundw
      case rel => exact ⟨k + 1, by omega, by go_num, by rw [HO.out, ← hs.out]; congr 1; omega, HM1, HB1⟩
      case measure => simp [intOf]; omega
    · have HE : Hid (k = n) := by show k = n; omega
      go_wp2
      go_ret
      exact ⟨by rw [HE.out]; rfl, HM.out.congr (fun j hj => by rw [if_pos (by have := HE.out; omega)]), HB.out⟩
end Go.Proofs.Ytfmgbalfabpogaa.ints

namespace Go.Proofs.Ytfmgbalfabpogaa.walks
open Go.RowKit Go.Proofs.Ytfmgbalfabpogaa.math Go.Proofs.Ytfmgbalfabpogaa.ints
set_option linter.unusedVariables false
set_option maxRecDepth 100000

theorem lists_info : (Try.prog.info? 48).map (fun i => (i.zero, i.size, i.bytes)) = some (some (.slice none 0 0), 1, 24) := by kernel_rfl
def updV (V : Nat → Value) (k : Nat) (v : Value) : Nat → Value := fun j => if j = k then v else V j
theorem InL.set {w : World} {ib n k : Nat} {V : Nat → Value} {s : Ls} {v : Value} {x : Nat → Bool} (h : InL w ib n V s) (hk : k < n) (hv : LRow w v (risingTo x 8)) : InL (w.setCell ⟨ib, k, none⟩ v) ib n (updV V k v) (updL s k x) := by
  have hc := (h.cell k hk).1
  have hy := lrow_slice (h.row k hk)
  refine ⟨by simpa [World.setCell] using h.lt, fun j hj => ?_, fun j hj => ?_⟩
  · by_cases e : j = k
    · subst e
      refine ⟨?_, by simpa using (h.cell j hj).2⟩
      rw [World.cell?_setCell_same _ _ _ hc]
      simp [updV]
    · refine ⟨?_, by simpa using (h.cell j hj).2⟩
      rw [World.cell?_setCell_other _ _ _ _ (by simp; try exact fun q => e (Eq.symm q)), (h.cell j hj).1]
      simp [updV, e]
  · by_cases e : j = k
    · subst e
      rw [updL_same]
      simp only [updV, if_pos]
      exact hv.set hc hy
    · rw [updL_other _ _ e]
      simp only [updV, if_neg e]
      exact (h.row j hj).set hc hy
/-- What l7All answers. -/
def AllAns (p : Bool) (f : Nat → Bv) (n : Nat) (W : World) (e : Ending) (W' : World) : Prop :=
  ∃ ib V s, e = .returned (.slice (some ⟨ib, 0, none⟩) n n) ∧ InL W' ib n V s ∧ FixL p f n s ∧ Below W.heap.size W W'
theorem made_in (W : World) (n : Nat) : InL (W.alloc (.cells (madeCells #[.slice none 0 0] n) 48)) W.heap.size n (fun _ => .slice none 0 0) (fun _ _ => false) := by
  have h := World.rowIs_made W (.slice none 0 0) n 48
  exact ⟨h.lt, fun k hk => ⟨h.cell hk, h.frozen k⟩, fun k hk => Or.inl ⟨rfl, rfl⟩⟩
theorem box_kept7 {w w' : World} {g : Nat} {v0 v1 v2 v3 : Value} (hb : Below w.heap.size w w') (hg : g < w.heap.size) (h : w.cell? ⟨g, 0, none⟩ = some v0 ∧ w.cell? ⟨g, 1, none⟩ = some v1 ∧ w.cell? ⟨g, 2, none⟩ = some v2 ∧ w.cell? ⟨g, 3, none⟩ = some v3) : w'.cell? ⟨g, 0, none⟩ = some v0 ∧ w'.cell? ⟨g, 1, none⟩ = some v1 ∧ w'.cell? ⟨g, 2, none⟩ = some v2 ∧ w'.cell? ⟨g, 3, none⟩ = some v3 :=
  ⟨(hb.cell (p := ⟨g, 0, none⟩) hg).trans h.1, (hb.cell (p := ⟨g, 1, none⟩) hg).trans h.2.1, (hb.cell (p := ⟨g, 2, none⟩) hg).trans h.2.2.1, (hb.cell (p := ⟨g, 3, none⟩) hg).trans h.2.2.2⟩
set_option maxHeartbeats 16000000 in
theorem spec_all7 (a : Option Addr) (n cap : Nat) (f : Nat → Bv) (p : Bool) (W : World) (hf : Hid (flowB f n = true)) (hlen : Hid (∀ k, k < n → (f k).len ≤ 1048576)) (h : Hid (Flow W a n f)) :
    Calls Try.prog 37 #[.slice a n cap, .bool p] W fun e W' => AllAns p f n W e W' := by
  have hn8 : n ≤ 8 := (flow_out hf.out).1.2
  have hn8I : (n : Int) ≤ 8 := by omega
  have hmk := run_make_row' (P := Try.prog) 31 48 (.slice none 0 0) 24 Try.underlying31 lists_info rfl .i64 .i64 n (by omega) (by omega)
  go_enter Try.func37, Try.ntmps37
  go_wp2
  clear hmk
  have HI0 : Hid (InL (W.alloc (.cells (madeCells #[.slice none 0 0] n) 48)) W.heap.size n (fun _ => .slice none 0 0) (fun _ _ => false)) := made_in W n
  have HB0 : Hid (Below W.heap.size W (W.alloc (.cells (madeCells #[.slice none 0 0] n) 48))) := (Below.refl _ _).alloc (Nat.le_refl _) _
  obtain ⟨ib, hib⟩ : ∃ ib, Hid (W.heap.size = ib) := ⟨_, rfl⟩
  obtain ⟨X, hX⟩ : ∃ X, Hid (W.alloc (.cells (madeCells #[.slice none 0 0] n) 48) = X) := ⟨_, rfl⟩
  rw [hX.out] at HI0 HB0 ⊢
  rw [hib.out] at HI0 ⊢
  go_loopg [] 65 (fun gk wr => ∃ (V : Nat → Value) (s : Ls), sumL s n + gk = 65 ∧ Hid (InL wr ib n V s) ∧ Hid (UpL p f n s) ∧ Hid (Below W.heap.size W wr))
  case atStart => exact ⟨_, _, (by have : sumL (fun _ _ => false) n = 0 := sum_none n; omega), HI0, up_none _ _ _, HB0⟩
  case round =>
    obtain ⟨V0, s0, hsum, HI1, HU1, HB1⟩ := hrel
    go_wp2
    go_loopw [6, 15] (fun vc vi wr => ∃ (k : Nat) (c : Bool) (V : Nat → Value) (s : Ls), k ≤ n ∧ vi = .int .i64 k ∧ vc = .bool c ∧ Hid (InL wr ib n V s) ∧ Hid (RndL p f n s0 s (fun j => j < k) c) ∧ Hid (Below W.heap.size W wr)) (fun _ vi _ => n - (intOf vi).toNat)
    case atStart => exact ⟨0, false, V0, s0, Nat.zero_le _, rfl, rfl, HI1, rnd_start HU1.out _ (fun k _ q => by omega), HB1⟩
    case round =>
      obtain ⟨k, c, V, s, hk, rfl, rfl, HI, HR, HB⟩ := hrel
      by_cases hlt : k < n
      · obtain ⟨b, off, ca, cc, ha, hb, c0, c1, c2, c3, hI, hZ⟩ := flow_at h.out HB.out hlt
        subst ha
        have hblk := (flow_out hf.out).2 k hlt
        simp only [blockB, Bool.and_eq_true] at hblk
        have HC : Hid (∀ j, j < (f k).len → stepB (f k).zs j = true) := (code_out hblk.1.1.1).2
        have ht := inR_out hblk.1.1.2
        have hth := inR_out hblk.1.2
        have hel := inR_out hblk.2
        have HZ : Hid ((f k).zs.length = (f k).len * 5) := hZ
        have HCI : Hid (Ints wr ca (f k).zs) := hI
        have hll := hlen.out k hlt
        have HAD : Hid (aheadL p f s k = backK p (f k).zs (f k).len (behindL (f k) s) (f k).len) := rfl
        have HBD : Hid (∀ i, behindL (f k) s i = ((nextL s (f k).th i || nextL s (f k).el i) || (!((f k).th == (f k).el) && i == (f k).t.toNat))) := fun i => rfl
        have hbs := HB.out.size
        obtain ⟨bz, hbz⟩ : ∃ bz, Hid (behindL (f k) s = bz) := ⟨_, rfl⟩
        obtain ⟨x, hx⟩ : ∃ x, Hid (aheadL p f s k = x) := ⟨_, rfl⟩
        have HCK : Hid (backK p (f k).zs (f k).len bz (f k).len = x) := by show _ = _; rw [← hx.out, ← hbz.out]; rfl
        generalize (f k).zs = zs at HZ HCI HC HCK HAD
        generalize (f k).len = len at c0 HZ HC hll HCK HAD
        generalize (f k).t = t at c1 ht HBD
        generalize (f k).th = th at c2 hth HBD
        generalize (f k).el = el at c3 hel HBD
        have HBR : Hid (risingTo (fun i => (nextL s th i || nextL s el i) || (!(th == el) && i == t.toNat)) 8 = risingTo bz 8) := by
          show _ = _
          rw [← hbz.out]
          exact rising_congr 8 (fun i _ => (HBD.out i).symm)
        have Ht : Hid (0 ≤ t ∧ t ≤ 7) := ht
        have Hth : Hid (th < (n : Int)) := by show th < _; omega
        have Hel : Hid (el < (n : Int)) := by show el < _; omega
        clear hI hZ hblk ht hth hel HAD HBD
        obtain ⟨ka, kc, hkv, _⟩ := (HI.out.row k hlt).ints
        have ck := (HI.out.cell k hlt).1
        have cf := (HI.out.cell k hlt).2
        rw [hkv] at ck
        go_upto_region 6 with fail
        have HBA : Hid (Below wr.heap.size wr (wr.alloc (.cells #[.slice ca len cc, .int .i64 t, .int .i64 th, .int .i64 el] 44))) := (Below.refl _ _).alloc (Nat.le_refl _) _
        have S0 : (wr.alloc (.cells #[.slice ca len cc, .int .i64 t, .int .i64 th, .int .i64 el] 44)).cell? ⟨wr.heap.size, 0, none⟩ = some (.slice ca len cc) ∧ (wr.alloc (.cells #[.slice ca len cc, .int .i64 t, .int .i64 th, .int .i64 el] 44)).cell? ⟨wr.heap.size, 1, none⟩ = some (.int .i64 t) ∧ (wr.alloc (.cells #[.slice ca len cc, .int .i64 t, .int .i64 th, .int .i64 el] 44)).cell? ⟨wr.heap.size, 2, none⟩ = some (.int .i64 th) ∧ (wr.alloc (.cells #[.slice ca len cc, .int .i64 t, .int .i64 th, .int .i64 el] 44)).cell? ⟨wr.heap.size, 3, none⟩ = some (.int .i64 el) := by simp
        have hgl : wr.heap.size < (wr.alloc (.cells #[.slice ca len cc, .int .i64 t, .int .i64 th, .int .i64 el] 44)).heap.size := by simp
        obtain ⟨W1, hW1⟩ : ∃ W1, Hid (wr.alloc (.cells #[.slice ca len cc, .int .i64 t, .int .i64 th, .int .i64 el] 44) = W1) := ⟨_, rfl⟩
        rw [hW1.out] at HBA S0 hgl ⊢
        have HI1' : Hid (InL W1 ib n V s) := HI.out.kept HBA.out
        have HC1 : Hid (Ints W1 ca zs) := HCI.out.kept HBA.out
        have HBW1 : Hid (Below W.heap.size W W1) := HB.out.trans (HBA.out.mono hbs)
        obtain ⟨gx, hgx⟩ : ∃ gx, Hid (wr.heap.size = gx) := ⟨_, rfl⟩
        rw [hgx.out] at S0 hgl ⊢
        have SD : W1.drew.cell? ⟨gx, 0, none⟩ = some (.slice ca len cc) ∧ W1.drew.cell? ⟨gx, 1, none⟩ = some (.int .i64 t) ∧ W1.drew.cell? ⟨gx, 2, none⟩ = some (.int .i64 th) ∧ W1.drew.cell? ⟨gx, 3, none⟩ = some (.int .i64 el) := S0
        clear c0 c1 c2 c3 ck cf
        go_region_held3 (fun w' => w'.cell? ⟨gx, 0, none⟩ = some (.slice ca len cc) ∧ w'.cell? ⟨gx, 1, none⟩ = some (.int .i64 t) ∧ w'.cell? ⟨gx, 2, none⟩ = some (.int .i64 th) ∧ w'.cell? ⟨gx, 3, none⟩ = some (.int .i64 el))
          (first | assumption | exact SD | exact S5 | exact S6 | go_keep)
          (first | (go_at_call 39; refine (spec_behind7 ca len cc t th el ib n n V s _ hn8 Ht.out Hth.out Hel.out (HI1'.out.kept (Below.refl _ W1).drew)).mono ?_; rw [HBR.out]; rintro e w5 ⟨v5, rfl, hL5, hB5⟩; have S5 := box_kept7 hB5 hgl SD) | (go_at_call 53; refine (spec_code7 _ _ _ zs p _ bz _ HZ hll HC ((HC1.out.kept (Below.refl _ W1).drew).kept hB5) hL5).mono ?_; rw [HCK.out]; rintro e w6 ⟨v6, rfl, hL6, hB6⟩; have S6 := box_kept7 hB6 (Nat.lt_of_lt_of_le hgl hB5.size) S5))
        have B6 : Below W1.heap.size W1 w6 := (Below.refl _ W1).drew.trans (hB5.trans (hB6.mono hB5.size))
        have HI6 : Hid (InL w6 ib n V s) := HI1'.out.kept B6
        have HL6 : Hid (LRow w6 v6 (risingTo x 8)) := hL6
        have HB6 : Hid (Below W.heap.size W w6) := HBW1.out.trans (B6.mono HBW1.out.size)
        obtain ⟨va, vc, hv6, _⟩ := hL6.ints
        have ck : w6.cell? ⟨ib, k, none⟩ = some (.slice ka (risingTo (s k) 8).length kc) := by rw [← hkv]; exact (HI6.out.cell k hlt).1
        have cf := (HI6.out.cell k hlt).2
        have hkI : (k : Int) < (n : Int) := by omega
        have HX8 : Hid (cntL x ≤ 8) := cnt_8 _
        have HS8 : Hid (cntL (s k) ≤ 8) := cnt_8 _
        obtain ⟨m1, hm1⟩ : ∃ m1, (risingTo x 8).length = m1 := ⟨_, rfl⟩
        obtain ⟨m2, hm2⟩ : ∃ m2, (risingTo (s k) 8).length = m2 := ⟨_, rfl⟩
        have HM1 : Hid (cntL x = m1) := hm1
        have HM2 : Hid (cntL (s k) = m2) := hm2
        rw [hm1] at hv6
        rw [hm2] at ck hkv
        have hle : m2 ≤ m1 := by rw [← HM1.out, ← HM2.out, ← hx.out]; exact cnt_le (HR.out.up.up k hlt)
        have HIS : Hid (InL (w6.setCell ⟨ib, k, none⟩ v6) ib n (updV V k v6) (updL s k x)) := HI6.out.set hlt HL6.out
        have hibW : W.heap.size ≤ ib := by have := hib.out; omega
        have HBS : Hid (Below W.heap.size W (w6.setCell ⟨ib, k, none⟩ v6)) := HB6.out.setCell (p := ⟨ib, k, none⟩) hibW _
        have HRM : Hid (m2 < m1 → RndL p f n s0 (updL s k x) (fun j => j < k + 1) true) := fun q => by rw [← hx.out]; exact rnd_more hf.out HR.out hlt (by rw [hx.out, HM1.out, HM2.out]; exact q) _
        have HRS : Hid (m1 = m2 → RndL p f n s0 (updL s k x) (fun j => j < k + 1) c) := fun q => by
          rw [← hx.out]
          exact rnd_still hf.out HR.out hlt (by rw [hx.out, HM1.out, HM2.out]; omega) (step_still hf.out HR.out.up hlt (by rw [hx.out, HM1.out, HM2.out]; omega)).2 (fun j hj q => by omega)
        subst hv6
        clear hL5 hL6 hB5 hB6 B6 S0 SD S5 S6 hm1 hm2 hgl
        cases c
        · by_cases hmm : m1 = m2
          · have HRR := HRS.out hmm
            have HRF : Hid (RndL p f n s0 (updL s k x) (fun j => j < k + 1) false) := HRR
            subst hmm
            clear HRR HRS HRM hle
            go_wp2
            go_roundw
            case rel => exact ⟨k + 1, false, _, _, by omega, by go_num, rfl, HIS, HRF, HBS⟩
            case measure => simp [intOf]; omega
          · have HRF : Hid (RndL p f n s0 (updL s k x) (fun j => j < k + 1) true) := HRM.out (by omega)
            have e1 : ((m1 : Int) == (m2 : Int)) = false := by simp; omega
            have e2 : decide ((m1 : Int) = (m2 : Int)) = false := decide_eq_false (by omega)
            have e3 : decide (m1 = m2) = false := decide_eq_false hmm
            have e4 : (m1 == m2) = false := by simpa using hmm
            clear HRS HRM hle hmm
            go_wp2
            go_roundw
            case rel => exact ⟨k + 1, true, _, _, by omega, by go_num, by simp [bne, e1], HIS, HRF, HBS⟩
            case measure => simp [intOf]; omega
        · have HRF : Hid (RndL p f n s0 (updL s k x) (fun j => j < k + 1) true) := by
            by_cases q : m1 = m2
            · exact HRS.out q
            · exact HRM.out (by omega)
          clear HRS HRM hle
          go_wp2
          go_roundw
          case rel => exact ⟨k + 1, true, _, _, by omega, by go_num, rfl, HIS, HRF, HBS⟩
          case measure => simp [intOf]; omega
      · have hkn : k = n := by omega
        subst hkn
        clear hlt
        cases c
        · have HA : Hid (AllAns p f k W (.returned (.slice (some ⟨ib, 0, none⟩) k k)) wr) := ⟨ib, V, s, rfl, HI.out, rnd_fix hf.out HR.out (fun j hj => hj), HB.out⟩
          go_wp2
          go_ret
          exact HA.out
        · have hmore := HR.out.yes rfl
          have hcap := sum_64 hf.out s
          have HU2 : Hid (UpL p f k s) := HR.out.up
          go_wp2
          go_roundg (65 - sumL s k)
          case rel => exact ⟨V, s, by omega, HI, HU2, HB⟩
          case measure => omega
/-- The lists, one of each block. -/
def LivesAns (p : Bool) (f : Nat → Bv) (n : Nat) (W : World) (e : Ending) (W' : World) : Prop :=
  ((flowB f n = true ∧ ∃ ib V s, e = .returned (.tuple #[.slice (some ⟨ib, 0, none⟩) n n, .bool true]) ∧ InL W' ib n V s ∧ FixL p f n s) ∨ (flowB f n = false ∧ e = .returned (.tuple #[.slice none 0 0, .bool false]))) ∧ Below W.heap.size W W'
end Go.Proofs.Ytfmgbalfabpogaa.walks

namespace Go.Proofs.Ytfmgbalfabpogaa.walks
open Go.RowKit Go.Proofs.Ytfmgbalfabpogaa.math Go.Proofs.Ytfmgbalfabpogaa.ints
set_option linter.unusedVariables false
set_option maxRecDepth 100000

/-- What needsOf answers. -/
def NeedsAns (p : Bool) (f : Nat → Bv) (n : Nat) (W : World) (e : Ending) (W' : World) : Prop :=
  ((flowB f n = true ∧ ∃ nb bb cap M s, e = .returned (.tuple #[.pointer (some ⟨nb, 0, none⟩), .bool true]) ∧ NeedsAt W' nb bb n cap M s ∧ FixL p f n s ∧ ∃ A S, BlocksAt W' bb n A S f) ∨ (flowB f n = false ∧ e = .returned (.tuple #[.pointer none, .bool false]))) ∧ Below W.heap.size W W'
theorem needs_made (W : World) (bb n cap : Nat) : NeedsAt (W.alloc (.cells #[.slice (some ⟨bb, 0, none⟩) n cap, .map none, .map none, .map none, .map none, .map none, .map none, .map none, .map none] 77)) W.heap.size bb n cap (fun _ => none) (fun _ _ => false) := by
  refine ⟨by simp, by simp, fun k hk => ?_, fun k _ => Or.inl ⟨rfl, fun _ _ => rfl⟩⟩
  rcases k with _ | _ | _ | _ | _ | _ | _ | _ | k
  all_goals first | omega | exact ⟨by simp, by simp⟩
theorem grow_below {W w w' : World} {mb : Nat} (h : Below W.heap.size W w) (k : w.grownBy w' (some mb)) (hm : W.heap.size ≤ mb) : Below W.heap.size W w' :=
  ⟨k.os.trans h.os, k.tape.trans h.tape, k.output.trans h.output, Nat.le_trans h.size k.size, fun i hi => (k.block i (Nat.lt_of_lt_of_le hi h.size) (by simp; omega)).trans (h.block i hi)⟩

set_option maxHeartbeats 4000000 in
theorem impl_needs_s (a : Option Addr) (n cap : Nat) (f : Nat → Bv) (W : World) (hn : n ≤ 1048576) (hlen : Hid (∀ k, k < n → (f k).len ≤ 1048576)) (h : Hid (Flow W a n f)) :
    Calls Try.prog 22 #[.slice a n cap, .func (.func 23) #[] #[]] W fun e W' => NeedsAns false f n W e W' := by
  go_enter Try.func22, Try.ntmps22
  go_wp2_with fail
  refine (impl_blocks2 a n cap f W hn hlen h).mono ?_
  rintro e w1 ⟨(⟨hf, bb, bc, A, S, rfl, hbl, hbc, hst⟩ | ⟨hf, rfl⟩), hB1⟩
  · have HF : Hid (flowB f n = true) := hf
    have HB1 : Hid (BlocksAt w1 bb n A S f) := ⟨hbl, hbc, hst⟩
    have HBe : Hid (Below W.heap.size W w1) := hB1
    have hsz := hB1.size
    clear hf hbc hst hB1
    go_wp2
    have HBA : Hid (Below w1.heap.size w1 (w1.alloc (.cells #[.slice (some ⟨bb, 0, none⟩) n bc, .map none, .map none, .map none, .map none, .map none, .map none, .map none, .map none] 77))) := (Below.refl _ _).alloc (Nat.le_refl _) _
    have HN0 : Hid (NeedsAt (w1.alloc (.cells #[.slice (some ⟨bb, 0, none⟩) n bc, .map none, .map none, .map none, .map none, .map none, .map none, .map none, .map none] 77)) w1.heap.size bb n bc (fun _ => none) (fun _ _ => false)) := needs_made w1 bb n bc
    obtain ⟨X, hX⟩ : ∃ X, Hid ((w1.alloc (.cells #[.slice (some ⟨bb, 0, none⟩) n bc, .map none, .map none, .map none, .map none, .map none, .map none, .map none, .map none] 77)) = X) := ⟨_, rfl⟩
    rw [hX.out] at HBA HN0 ⊢
    have HBk0 : Hid (BlocksAt X bb n A S f) := HB1.out.kept HBA.out
    have HBX : Hid (Below W.heap.size W X) := HBe.out.trans (HBA.out.mono hsz)
    obtain ⟨nb, hnb⟩ : ∃ nb, Hid (w1.heap.size = nb) := ⟨_, rfl⟩
    rw [hnb.out] at HN0 ⊢
    have hnbW : W.heap.size ≤ nb := by rw [← hnb.out]; exact hsz
    have hn1 : 1 ≤ n := (flow_out HF.out).1.1
    clear hbl
    go_loopg [] 65 (fun gk wr => ∃ (M : Nat → Option Nat) (s : Ls), sumL s n + gk = 65 ∧ Hid (NeedsAt wr nb bb n bc M s) ∧ Hid (UpL false f n s) ∧ Hid (BlocksAt wr bb n A S f) ∧ Hid (Below W.heap.size W wr))
    case atStart => exact ⟨_, _, (by have : sumL (fun _ _ => false) n = 0 := sum_none n; omega), HN0, up_none _ _ _, HBk0, HBX⟩
    case round =>
      obtain ⟨M0, s0, hsum, HN, HU, HBk, HB⟩ := hrel
      go_wp2_with fail
      refine (impl_round_s nb bb n bc A S f M0 s0 _ HF HBk HN HU).mono ?_
      rintro e w2 ⟨c, M, s, rfl, hN, hR, hG⟩
      have HBk2 : Hid (BlocksAt w2 bb n A S f) := (HBk.out.far HN.out (by omega) hG).1
      have HB2 : Hid (Below W.heap.size W w2) := grow_below HB.out hG hnbW
      have HN2 : Hid (NeedsAt w2 nb bb n bc M s) := hN
      have HR2 : Hid (RndL false f n s0 s (fun _ => True) c) := hR
      clear hN hR hG
      cases c
      · have HA : Hid (NeedsAns false f n W (.returned (.tuple #[.pointer (some ⟨nb, 0, none⟩), .bool true])) w2) := ⟨Or.inl ⟨HF.out, nb, bb, bc, M, s, rfl, HN2.out, rnd_fix HF.out HR2.out (fun _ _ => trivial), A, S, HBk2.out⟩, HB2.out⟩
        go_wp2
        go_ret2
        exact HA.out
      · have hmore := HR2.out.yes rfl
        have hcap := sum_64 HF.out s
        have HU2 : Hid (UpL false f n s) := HR2.out.up
        go_wp2
        go_roundg (65 - sumL s n)
        case rel => exact ⟨M, s, by omega, HN2, HU2, HBk2, HB2⟩
        case measure => omega
  · have HA : Hid (NeedsAns false f n W (.returned (.tuple #[.pointer none, .bool false])) w1) := ⟨Or.inr ⟨hf, rfl⟩, hB1⟩
    clear hf hB1
    go_wp2
    go_ret2
    exact HA.out

set_option maxHeartbeats 4000000 in
theorem impl_needs_p (a : Option Addr) (n cap : Nat) (f : Nat → Bv) (W : World) (hn : n ≤ 1048576) (hlen : Hid (∀ k, k < n → (f k).len ≤ 1048576)) (h : Hid (Flow W a n f)) :
    Calls Try.prog 22 #[.slice a n cap, .func (.func 44) #[] #[]] W fun e W' => NeedsAns true f n W e W' := by
  go_enter Try.func22, Try.ntmps22
  go_wp2_with fail
  refine (impl_blocks2 a n cap f W hn hlen h).mono ?_
  rintro e w1 ⟨(⟨hf, bb, bc, A, S, rfl, hbl, hbc, hst⟩ | ⟨hf, rfl⟩), hB1⟩
  · have HF : Hid (flowB f n = true) := hf
    have HB1 : Hid (BlocksAt w1 bb n A S f) := ⟨hbl, hbc, hst⟩
    have HBe : Hid (Below W.heap.size W w1) := hB1
    have hsz := hB1.size
    clear hf hbc hst hB1
    go_wp2
    have HBA : Hid (Below w1.heap.size w1 (w1.alloc (.cells #[.slice (some ⟨bb, 0, none⟩) n bc, .map none, .map none, .map none, .map none, .map none, .map none, .map none, .map none] 77))) := (Below.refl _ _).alloc (Nat.le_refl _) _
    have HN0 : Hid (NeedsAt (w1.alloc (.cells #[.slice (some ⟨bb, 0, none⟩) n bc, .map none, .map none, .map none, .map none, .map none, .map none, .map none, .map none] 77)) w1.heap.size bb n bc (fun _ => none) (fun _ _ => false)) := needs_made w1 bb n bc
    obtain ⟨X, hX⟩ : ∃ X, Hid ((w1.alloc (.cells #[.slice (some ⟨bb, 0, none⟩) n bc, .map none, .map none, .map none, .map none, .map none, .map none, .map none, .map none] 77)) = X) := ⟨_, rfl⟩
    rw [hX.out] at HBA HN0 ⊢
    have HBk0 : Hid (BlocksAt X bb n A S f) := HB1.out.kept HBA.out
    have HBX : Hid (Below W.heap.size W X) := HBe.out.trans (HBA.out.mono hsz)
    obtain ⟨nb, hnb⟩ : ∃ nb, Hid (w1.heap.size = nb) := ⟨_, rfl⟩
    rw [hnb.out] at HN0 ⊢
    have hnbW : W.heap.size ≤ nb := by rw [← hnb.out]; exact hsz
    have hn1 : 1 ≤ n := (flow_out HF.out).1.1
    clear hbl
    go_loopg [] 65 (fun gk wr => ∃ (M : Nat → Option Nat) (s : Ls), sumL s n + gk = 65 ∧ Hid (NeedsAt wr nb bb n bc M s) ∧ Hid (UpL true f n s) ∧ Hid (BlocksAt wr bb n A S f) ∧ Hid (Below W.heap.size W wr))
    case atStart => exact ⟨_, _, (by have : sumL (fun _ _ => false) n = 0 := sum_none n; omega), HN0, up_none _ _ _, HBk0, HBX⟩
    case round =>
      obtain ⟨M0, s0, hsum, HN, HU, HBk, HB⟩ := hrel
      go_wp2_with fail
      refine (impl_round_p nb bb n bc A S f M0 s0 _ HF HBk HN HU).mono ?_
      rintro e w2 ⟨c, M, s, rfl, hN, hR, hG⟩
      have HBk2 : Hid (BlocksAt w2 bb n A S f) := (HBk.out.far HN.out (by omega) hG).1
      have HB2 : Hid (Below W.heap.size W w2) := grow_below HB.out hG hnbW
      have HN2 : Hid (NeedsAt w2 nb bb n bc M s) := hN
      have HR2 : Hid (RndL true f n s0 s (fun _ => True) c) := hR
      clear hN hR hG
      cases c
      · have HA : Hid (NeedsAns true f n W (.returned (.tuple #[.pointer (some ⟨nb, 0, none⟩), .bool true])) w2) := ⟨Or.inl ⟨HF.out, nb, bb, bc, M, s, rfl, HN2.out, rnd_fix HF.out HR2.out (fun _ _ => trivial), A, S, HBk2.out⟩, HB2.out⟩
        go_wp2
        go_ret2
        exact HA.out
      · have hmore := HR2.out.yes rfl
        have hcap := sum_64 HF.out s
        have HU2 : Hid (UpL true f n s) := HR2.out.up
        go_wp2
        go_roundg (65 - sumL s n)
        case rel => exact ⟨M, s, by omega, HN2, HU2, HBk2, HB2⟩
        case measure => omega
  · have HA : Hid (NeedsAns true f n W (.returned (.tuple #[.pointer none, .bool false])) w1) := ⟨Or.inr ⟨hf, rfl⟩, hB1⟩
    clear hf hB1
    go_wp2
    go_ret2
    exact HA.out
end Go.Proofs.Ytfmgbalfabpogaa.walks

namespace Go.Proofs.Ytfmgbalfabpogaa.walks
open Go.RowKit Go.Maps Go.Sort Go.Shelf Go.Proofs.Ytfmgbalfabpogaa.math Go.Proofs.Ytfmgbalfabpogaa.ints
set_option linter.unusedVariables false

set_option maxHeartbeats 1000000 in
theorem impl_rise_nil (w : World) :
    Calls Try.prog 29 #[.map none] w fun e w' => RiseAns [] w e w' := by
  refine (callsIn_wide (n := 6)).1 ?_
  have hseq : SeqGives Fence.wide 2 Try.prog 68 #[.pointer (some ⟨w.heap.size, 0, none⟩)] encZ (fun ss : List Int => ss = []) 0 (w.alloc (.cells #[.map none] 56)) :=
    AnyZI.keys_gives_nil (ρ := Try.keysA_ren) { Try.keysA with } Fence.wide _ trivial rfl w.heap.size _ (by simp) (by simp)
  have cK : ∀ mb W, CallsIn Fence.wide 5 Try.prog 51 #[.map mb] W fun e w' => e = .returned (.func (.func 68) #[] #[.pointer (some ⟨W.heap.size, 0, none⟩)]) ∧ w' = W.alloc (.cells #[.map mb] 56) := fun mb W => AnyZI.keys_in Try.keysA Fence.wide 5 trivial rfl mb W
  have cS := AnyZI.sorted_in Try.sortedA Fence.wide 5 trivial trivial trivial trivial rfl (by omega) (sorts_at _) (enters_of Try.func67 (by kernel_rfl) rfl) 68 #[.pointer (some ⟨w.heap.size, 0, none⟩)] trivial (enters_of Try.func68 (by kernel_rfl) rfl) _ _ (by unfold maxLen; omega) (by omega) _ hseq
  change CallsIn _ _ Try.prog 50 _ _ _ at cS
  have hfK : Fence.wide.fn 51 := trivial
  have hfS : Fence.wide.fn 50 := trivial
  refine callsIn_of_wp Try.func29 rfl trivial ?_ rfl
  simp only [Try.ntmps29, List.size_toArray, List.length_cons, List.length_nil, Nat.reduceAdd, Nat.reduceSub, Array.replicate_succ, Array.replicate_zero, List.push_toArray, List.append_toArray, List.nil_append, List.cons_append]
  gi_wp2_with (first
    | (gi_at_call 51; refine (cK _ _).mono ?_; rintro e w' ⟨rfl, rfl⟩)
    | (gi_at_call 50; refine cS.mono ?_; rintro e w' ⟨v, ss, rfl, hS, hrow, hnil, hb⟩))
  go_ret
  refine ⟨v, rfl, ?_, ((Below.refl _ w).alloc (Nat.le_refl _) _).trans (hb.mono (by simp))⟩
  subst hS
  unfold Go.Proofs.Ytfmgbalfabpogaa.ints.Own
  have := ownsRow_base_a hrow (by simp : w.heap.size ≤ _)
  rw [List.mergeSort_nil] at this
  exact this
theorem impl_rise_or (m : Option Nat) (x : Nat → Bool) (w : World) (hs : SetOr w m x) (hx : ∀ i, 8 ≤ i → x i = false) :
    Calls Try.prog 29 #[.map m] w fun e w' => RiseAns (risingTo x 8) w e w' := by
  rcases hs with ⟨rfl, hz⟩ | ⟨b, rfl, hs⟩
  · have q : x = fun _ => false := funext fun i => by
      by_cases hi : i < 64
      · exact hz i hi
      · exact hx i (by omega)
    rw [q]
    exact impl_rise_nil w
  · have := impl_rise b x w hs
    rw [listS_names hx] at this
    exact this
end Go.Proofs.Ytfmgbalfabpogaa.walks

namespace Go.Proofs.Ytfmgbalfabpogaa.walks
open Go.RowKit Go.Proofs.Ytfmgbalfabpogaa.math Go.Proofs.Ytfmgbalfabpogaa.ints
set_option linter.unusedVariables false
set_option maxRecDepth 100000

theorem lists_info7 : (Try.prog.info? 48).map (fun i => (i.zero, i.size, i.bytes)) = some (some (.slice none 0 0), 1, 24) := by kernel_rfl
theorem info_parts7 {e : TypeId} {z : Value} {a b : Nat} (h : (Try.prog.info? e).map (fun i => (i.zero, i.size, i.bytes)) = some (some z, a, b)) : ∃ i, Try.prog.info? e = some i ∧ i.zero = some z ∧ i.size = a ∧ i.bytes = b := by
  cases hi : Try.prog.info? e with
  | none => rw [hi] at h; cases h
  | some i =>
    rw [hi] at h
    simp at h
    exact ⟨i, rfl, h.1, h.2.1, h.2.2⟩
/-- The value v owns k lists, each in a block of its own, from B on. -/
structure OwnL (w : World) (B : Nat) (v : Value) (k : Nat) (Z : Nat → List Int) (X : Nat → Value) : Prop where
  row : w.ownsRow B 48 1 v k ((List.range k).map X)
  own : ∀ j, j < k → Go.Proofs.Ytfmgbalfabpogaa.ints.Own w B (X j) (Z j)
  ap : ∀ i j, i < k → j < k → i ≠ j → (X i).ownBlock = none ∨ (X i).ownBlock ≠ (X j).ownBlock
theorem ownL_nil (w : World) (B : Nat) (Z : Nat → List Int) (X : Nat → Value) : OwnL w B (.slice none 0 0) 0 Z X := ⟨World.ownsRow_nil _ _ _ _, fun j hj => by omega, fun i j hi => by omega⟩
/-- A row of lists and a list of ints don't lie in one block. -/
theorem rows_apart {w : World} {B B' : Nat} {v u : Value} {k : Nat} {xs : List Value} {zs : List Int} (h : w.ownsRow B 48 1 v k xs) (g : Go.Proofs.Ytfmgbalfabpogaa.ints.Own w B' u zs) : u.ownBlock = none ∨ u.ownBlock ≠ v.ownBlock := by
  rcases g.2 with ⟨rfl, _⟩ | ⟨b, c, cur, rfl, _, hb, _⟩
  · exact Or.inl rfl
  · refine Or.inr fun e => ?_
    rcases h.2 with ⟨rfl, _⟩ | ⟨b', c', cur', rfl, _, hb', _⟩
    · cases e
    · simp [Value.ownBlock] at e
      subst e
      rw [hb] at hb'
      simp at hb'
theorem OwnL.grow {w w' : World} {B : Nat} {v : Value} {k : Nat} {Z : Nat → List Int} {X : Nat → Value} (h : OwnL w B v k Z X) (hb : Below w.heap.size w w') : OwnL w' B v k Z X :=
  ⟨h.row.kept (row := none) ⟨hb.os, hb.tape, hb.output, hb.size, fun i hi _ => hb.block i hi⟩ (by
    cases q : v.ownBlock with
    | none => exact Or.inl rfl
    | some g => exact Or.inr (by simp)), fun j hj => World.ownsRow.kept (h.own j hj) (row := none) ⟨hb.os, hb.tape, hb.output, hb.size, fun i hi _ => hb.block i hi⟩ (by
    cases q : (X j).ownBlock with
    | none => exact Or.inl rfl
    | some g => exact Or.inr (by simp)), h.ap⟩
def addrOf : Value → Option Addr × Nat
  | .slice a _ c => (a, c)
  | _ => (none, 0)
theorem OwnL.mine {w : World} {B : Nat} {v : Value} {k : Nat} {Z : Nat → List Int} {X : Nat → Value} (h : OwnL w B v k Z X) : ∃ a c, v = .slice a k c ∧ MineL w B a k Z (fun j => addrOf (X j)) := by
  have hx : ∀ j, j < k → ∃ a c, X j = .slice a (Z j).length c ∧ Mine w B a (Z j) := fun j hj => (h.own j hj).mine
  have hm : ∀ j, j < k → Mine w B (addrOf (X j)).1 (Z j) := fun j hj => by
    obtain ⟨a, c, e, hm⟩ := hx j hj
    rw [e]; exact hm
  have hap : ∀ i j, i < k → j < k → i ≠ j → 0 < (Z i).length → 0 < (Z j).length → Apart (addrOf (X i)).1 (addrOf (X j)).1 := by
    intro i j hi hj hne _ _ b o b' o' e e' q
    obtain ⟨a, c, e1, _⟩ := hx i hi
    obtain ⟨a', c', e2, _⟩ := hx j hj
    rw [e1] at e
    rw [e2] at e'
    simp only [addrOf] at e e'
    subst e e' q
    have := h.ap i j hi hj hne
    rw [e1, e2] at this
    simp [Value.ownBlock] at this
  rcases h.row.2 with ⟨rfl, hk⟩ | ⟨g, cap, cur, rfl, hg, hw, _, _, _, _⟩
  · subst hk
    exact ⟨none, 0, rfl, Or.inl rfl, hm, hap⟩
  · refine ⟨some ⟨g, 0, none⟩, cap, rfl, Or.inr ⟨g, rfl, hg, (h.row.lt g rfl).2, fun j hj => ?_, fun j hj _ b' o e q => ?_⟩, hm, hap⟩
    · obtain ⟨a, c, e, _⟩ := hx j hj
      rw [h.row.cellAt j (by omega)]
      simp [hj, e, addrOf]
    · subst q
      obtain ⟨a, c, e1, _⟩ := hx j hj
      rw [e1] at e
      simp only [addrOf] at e
      subst e
      have := rows_apart h.row (h.own j hj)
      rw [e1] at this
      simp [Value.ownBlock] at this
def updX (X : Nat → Value) (k : Nat) (v : Value) : Nat → Value := fun j => if j = k then v else X j
theorem range_upd (X : Nat → Value) (k : Nat) (v : Value) : (List.range (k + 1)).map (updX X k v) = (List.range k).map X ++ [v] := by
  rw [List.range_succ, List.map_append]
  congr 1
  · refine List.map_congr_left fun j hj => ?_
    have : j < k := by simpa using hj
    simp [updX, Nat.ne_of_lt this]
  · simp [updX]
theorem new_cell (w : World) (v : Value) (t : TypeId) : ∀ (j : Nat) (u : Value), [v][j]? = some u → (w.alloc (.cells #[v] t)).cell? ((⟨w.heap.size, 0, none⟩ : Addr).add j) = some u := by
  intro j u hj
  match j, hj with
  | 0, hj => simp at hj; subst hj; simp [Addr.add]
/-- One list more. -/
theorem OwnL.snoc {w0 w1 w2 : World} {B B1 : Nat} {v v' u : Value} {k : Nat} {Z : Nat → List Int} {X : Nat → Value} (h : OwnL w0 B v k Z X) (hB : B ≤ w0.heap.size) (hb : Below w0.heap.size w0 w1) (hu : Go.Proofs.Ytfmgbalfabpogaa.ints.Own w1 w0.heap.size u (Z k)) {t : TypeId}
    (h2 : w2.ownsRow B 48 1 v' (k + 1) ((List.range k).map X ++ [u])) (hg : (w1.alloc (.cells #[u] t)).grownBy w2 v.ownBlock) : OwnL w2 B v' (k + 1) Z (updX X k u) := by
  have hw1 := h.grow hb
  refine ⟨by rw [range_upd]; exact h2, fun j hj => ?_, fun i j hi hj hne => ?_⟩
  · by_cases e : j = k
    · subst e
      simp only [updX, if_true]
      have q := rows_apart hw1.row hu
      exact World.ownsRow.kept (World.ownsRow.alloc (ownsRow_base_a hu hB) _) hg q
    · simp only [updX, if_neg e]
      have q := rows_apart hw1.row (hw1.own j (by omega))
      exact World.ownsRow.kept (World.ownsRow.alloc (hw1.own j (by omega)) _) hg q
  · have far : ∀ i, i < k → (X i).ownBlock = none ∨ (X i).ownBlock ≠ u.ownBlock := fun i hi => by
      cases q : (X i).ownBlock with
      | none => exact Or.inl rfl
      | some g =>
        refine Or.inr fun e => ?_
        have h1 := (World.ownsRow.lt (h.own i hi) g q).2
        have h3 := (World.ownsRow.lt hu g e.symm).1
        omega
    by_cases e : i = k
    · subst e
      simp only [updX, if_true, if_neg (Ne.symm hne)]
      rcases far j (by omega) with q | q
      · rw [q]
        cases u.ownBlock with
        | none => exact Or.inl rfl
        | some g => exact Or.inr (by simp)
      · exact Or.inr (Ne.symm q)
    · simp only [updX, if_neg e]
      by_cases e' : j = k
      · subst e'; simp only [if_true]; exact far i (by omega)
      · simp only [if_neg e']; exact h.ap i j (by omega) (by omega) hne
theorem lists_low {w : World} {B B' : Nat} {a : Option Addr} {n : Nat} {Z : Nat → List Int} {C : Nat → Option Addr × Nat} (h : MineL w B a n Z C) (hB : B' ≤ B) : MineL w B' a n Z C := by
  refine ⟨?_, fun k hk => ?_, h.ap⟩
  · rcases h.top with q | ⟨b, e, h0, hl, hc, hn⟩
    · exact Or.inl q
    · exact Or.inr ⟨b, e, Nat.le_trans hB h0, hl, hc, hn⟩
  · rcases h.row k hk with q | ⟨b, o, e, h0, hl, hc⟩
    · exact Or.inl q
    · exact Or.inr ⟨b, o, e, Nat.le_trans hB h0, hl, hc⟩
/-- What the program's StrongLive and PlainLive answer. -/
def LiveAns (p : Bool) (f : Nat → Bv) (n : Nat) (W : World) (e : Ending) (W' : World) : Prop :=
  ((flowB f n = true ∧ ∃ a c C s, e = .returned (.tuple #[.slice a n c, .bool true]) ∧ MineL W' W.heap.size a n (fun k => risingTo (s k) 8) C ∧ FixL p f n s) ∨ (flowB f n = false ∧ e = .returned (.tuple #[.slice none 0 0, .bool false]))) ∧ Below W.heap.size W W'

end Go.Proofs.Ytfmgbalfabpogaa.walks

namespace Go.Proofs.Ytfmgbalfabpogaa.math
set_option linter.unusedVariables false

/-- The dead ones among the last m steps. -/
def deadK (zs : List Int) (len : Nat) (f : Nat → Bool) : Nat → Nat → Bool
  | 0 => fun _ => false
  | m + 1 => fun i => deadK zs len f m i || (i == len - 1 - m && deadB (zs.getD ((len - 1 - m) * 5) 0) (zs.getD ((len - 1 - m) * 5 + 1) 0) (backK false zs len f m))
theorem deadK_next {zs : List Int} {len q : Nat} {f : Nat → Bool} (h : q < len) : deadK zs len f (len - q) = fun i => deadK zs len f (len - (q + 1)) i || (i == q && deadB (zs.getD (q * 5) 0) (zs.getD (q * 5 + 1) 0) (backK false zs len f (len - (q + 1)))) := by
  have e : len - q = (len - (q + 1)) + 1 := by omega
  rw [e]
  funext i
  show (_ || (i == len - 1 - (len - (q + 1)) && deadB (zs.getD ((len - 1 - (len - (q + 1))) * 5) 0) (zs.getD ((len - 1 - (len - (q + 1))) * 5 + 1) 0) _)) = _
  rw [show len - 1 - (len - (q + 1)) = q by omega]
theorem deadK_low {zs : List Int} {len : Nat} {f : Nat → Bool} : ∀ m, m ≤ len → ∀ i, i < len - m → deadK zs len f m i = false
  | 0, _, i, _ => rfl
  | m + 1, hm, i, hi => by
    show (_ || (i == len - 1 - m && _)) = false
    rw [deadK_low m (by omega) i (by omega), show (i == len - 1 - m) = false by simp; omega]
    rfl
theorem deadK_hi {zs : List Int} {len : Nat} {f : Nat → Bool} : ∀ m, m ≤ len → ∀ i, len ≤ i → deadK zs len f m i = false
  | 0, _, i, _ => rfl
  | m + 1, hm, i, hi => by
    show (_ || (i == len - 1 - m && _)) = false
    rw [deadK_hi m (by omega) i hi, show (i == len - 1 - m) = false by simp; omega]
    rfl
theorem putL_front {l : List Int} {n : Int} (h : ∀ x ∈ l, n < x) : putL l n = n :: l := by
  have hk : putK l n = 0 := by
    unfold putK
    cases l with
    | nil => rfl
    | cons x l =>
      have := h x (by simp)
      simp [List.takeWhile, show ¬ x < n by omega]
  unfold putL
  rw [hk]
  cases l with
  | nil => simp
  | cons x l =>
    have := h x (by simp)
    simp
    intro e
    omega
theorem put_front {x : Nat → Bool} {q : Nat} (h : ∀ i, i < q + 1 → x i = false) (hq : q < 64) : putL (risingTo x 64) (q : Int) = risingTo (fun i => x i || i == q) 64 := by
  have hx : ∀ y ∈ risingTo x 64, (q : Int) < y := fun y hy => by
    obtain ⟨i, _, hi, rfl⟩ := (mem_rising x y 64).1 hy
    by_cases e : i < q + 1
    · rw [h i e] at hi; cases hi
    · omega
  rw [putL_front hx]
  refine sorted_same (List.pairwise_cons.2 ⟨hx, rising_sorted x 64⟩) (rising_sorted _ 64) (fun y => ?_)
  rw [List.mem_cons, mem_rising, mem_rising]
  constructor
  · rintro (rfl | ⟨i, hi, hx, rfl⟩)
    · exact ⟨q, hq, by simp, rfl⟩
    · exact ⟨i, hi, by simp [hx], rfl⟩
  · rintro ⟨i, hi, hx, rfl⟩
    simp only [Bool.or_eq_true, beq_iff_eq] at hx
    rcases hx with hx | rfl
    · exact Or.inr ⟨i, hi, hx, rfl⟩
    · exact Or.inl rfl
/-- The step that is looked at, dead. -/
theorem dead_yes {zs : List Int} {len q : Nat} {f : Nat → Bool} (h : q < len) (hl : len ≤ 64) (hd : deadB (zs.getD (q * 5) 0) (zs.getD (q * 5 + 1) 0) (backK false zs len f (len - (q + 1))) = true) : putL (risingTo (deadK zs len f (len - (q + 1))) 64) (q : Int) = risingTo (deadK zs len f (len - q)) 64 := by
  rw [put_front (fun i hi => deadK_low _ (by omega) i (by omega)) (by omega), deadK_next h]
  exact congrArg (fun g => risingTo g 64) (funext fun i => by rw [hd]; simp)
theorem dead_no {zs : List Int} {len q : Nat} {f : Nat → Bool} (h : q < len) (hd : deadB (zs.getD (q * 5) 0) (zs.getD (q * 5 + 1) 0) (backK false zs len f (len - (q + 1))) = false) : deadK zs len f (len - (q + 1)) = deadK zs len f (len - q) := by
  rw [deadK_next h]
  funext i
  rw [hd]; simp
theorem rising_none : ∀ k, risingTo (fun _ => false) k = []
  | 0 => rfl
  | k + 1 => by
    show risingTo (fun _ => false) k ++ (if false then _ else []) = []
    rw [rising_none k]; rfl
end Go.Proofs.Ytfmgbalfabpogaa.math

namespace Go.Proofs.Ytfmgbalfabpogaa.walks
open Go.RowKit Go.Proofs.Ytfmgbalfabpogaa.math Go.Proofs.Ytfmgbalfabpogaa.ints
set_option linter.unusedVariables false

/-- What put leaves. -/
def PutOwn (W : World) (zs : List Int) (e : Ending) (W' : World) : Prop := ∃ v', e = .returned v' ∧ ints.Own W' W.heap.size v' zs ∧ Below W.heap.size W W'
set_option maxHeartbeats 2000000 in
theorem put_nilO (n : Int) (W : World) : Calls Try.prog 54 #[.slice none 0 0, .int .i64 n] W fun e W' => PutOwn W [n] e W' := by
  obtain ⟨i0, hi, hz0, hz1, hz2⟩ := info_parts row_info
  go_enter Try.func54, Try.ntmps54
  go_wp2
  go_loop [5] (fun v => v = .int .i64 0) (fun _ => 1)
  case atStart => rfl
  case round =>
    subst hrel
    go_wp2_with (first
      | (at_builtin; refine wpList_append_own_none rfl _ _ 48 rfl W.heap.size 3 i0 1 Try.underlying48 hi _ 0 [] rfl (World.ownsRow_nil _ _ _ _) rfl ?_)
      | (at_builtin; refine wpList_append_own _ rfl _ _ 48 rfl W.heap.size 3 i0 (.int .i64 0) 1 8 Try.underlying48 hi hz0 hz1 hz2 rfl (by decide) _ 0 [] rfl (World.ownsRow_nil _ _ _ _) ⟨W.heap.size, 0, none⟩ 1 1 [.int .i64 n] rfl rfl (new_one W n _) (one_of n) (by unfold maxLen; omega) (by omega) (by simp) ?_)
      | go_in)
    intro v1 w1 hown hgrow _
    have hO : ints.Own w1 W.heap.size v1 [n] := by unfold ints.Own; simpa using hown
    have hB : Below W.heap.size W w1 := ((Below.refl W.heap.size W).alloc (Nat.le_refl _) _).grown hgrow (by simp) (fun k hk => by simp [Value.ownBlock] at hk)
    obtain ⟨a1, c1, rfl, _⟩ := hO.mine
    have HO : Hid (ints.Own w1 W.heap.size (.slice a1 [n].length c1) [n]) := hO
    have HB : Hid (Below W.heap.size W w1) := hB
    clear hown hgrow hO hB
    simp only [List.length_singleton] at HO ⊢
    go_wp2_with (first
      | (at_builtin; refine wpList_append_own_none rfl _ _ 48 rfl W.heap.size 3 i0 1 Try.underlying48 hi _ 1 [.int .i64 n] rfl HO.out rfl ?_)
      | go_in)
    go_ret
    exact ⟨_, rfl, HO.out, HB.out⟩
theorem third_partO {W w2 w3 : World} {v2 v3 : Value} {zs : List Int} {k len : Nat} {n : Int} (hz : zs.length = len) (hk : k ≤ len) (HP : putL zs n = ((zs.drop 0).take k ++ [n]) ++ (zs.drop k).take (zs.length - k)) (HO : Hid (w2.ownsRow W.heap.size 3 1 v2 (k + 1) (List.take k (List.map (Value.int .i64) zs) ++ [.int .i64 n]))) (HB : Hid (Below W.heap.size W w2))
    (hown : w3.ownsRow W.heap.size 3 1 v3 (k + 1 + (len - k)) (List.take k (List.map (Value.int .i64) zs) ++ .int .i64 n :: List.take (len - k) (List.drop k (List.map (Value.int .i64) zs)))) (hgrow : w2.grownBy w3 v2.ownBlock) : PutOwn W (putL zs n) (.returned v3) w3 := by
  have hl : (putL zs n).length = k + 1 + (len - k) := by rw [HP]; simp; omega
  have hO : ints.Own w3 W.heap.size v3 (putL zs n) := by
    unfold ints.Own
    rw [hl, HP, hz]
    simpa [List.map_take, List.map_drop] using hown
  exact ⟨v3, rfl, hO, HB.out.grown hgrow HB.out.size (fun j hj => (World.ownsRow.lt HO.out j hj).1)⟩
theorem third_endO {W w2 w3 : World} {v2 v3 : Value} {zs : List Int} {k : Nat} {n : Int} (hz : zs.length = k) (HP : putL zs n = ((zs.drop 0).take k ++ [n]) ++ (zs.drop k).take (zs.length - k)) (HO : Hid (w2.ownsRow W.heap.size 3 1 v2 (k + 1) (List.take k (List.map (Value.int .i64) zs) ++ [.int .i64 n]))) (HB : Hid (Below W.heap.size W w2))
    (hown : w3.ownsRow W.heap.size 3 1 v3 (k + 1) (List.take k (List.map (Value.int .i64) zs) ++ [.int .i64 n])) (hgrow : w2.grownBy w3 v2.ownBlock) : PutOwn W (putL zs n) (.returned v3) w3 := by
  have hl : (putL zs n).length = k + 1 := by rw [HP]; simp; omega
  have hO : ints.Own w3 W.heap.size v3 (putL zs n) := by
    unfold ints.Own
    rw [hl, HP, hz]
    simpa [List.map_take, List.map_drop] using hown
  exact ⟨v3, rfl, hO, HB.out.grown hgrow HB.out.size (fun j hj => (World.ownsRow.lt HO.out j hj).1)⟩
set_option maxRecDepth 100000 in
set_option maxHeartbeats 4000000 in
theorem put_someO (b off cap len K : Nat) (zs : List Int) (n : Int) (W : World) (hz : Hid (zs.length = len)) (hcap : len ≤ cap) (hlen : len ≤ 1000) (hb : b < W.heap.size) (hK : Hid (putK zs n = K)) (hno : Hid (∀ k, k < zs.length → zs.getD k 0 ≠ n)) (hc : Hid (∀ i, i < zs.length → W.cell? ⟨b, off + i, none⟩ = some (.int .i64 (zs.getD i 0)))) :
    Calls Try.prog 54 #[.slice (some ⟨b, off, none⟩) len cap, .int .i64 n] W fun e W' => PutOwn W (putL zs n) e W' := by
  obtain ⟨i0, hi, hz0, hz1, hz2⟩ := info_parts row_info
  have hKl : K ≤ len := by rw [← hK.out, ← hz.out]; exact putK_le _ _
  have hKi : (K : Int) ≤ (len : Int) := by omega
  have hKc : (K : Int) ≤ (cap : Int) := by omega
  have hK0 : (0 : Int) ≤ (K : Int) := Int.natCast_nonneg _
  go_enter Try.func54, Try.ntmps54
  go_wp2
  go_loop [5] (fun v => ∃ k : Nat, k ≤ K ∧ v = .int .i64 k) (fun v => K - (intOf v).toNat)
  case atStart => exact ⟨0, Nat.zero_le _, rfl⟩
  case round =>
    obtain ⟨k, hk, rfl⟩ := hrel
    by_cases hlt : k < K
    · have h0 : 0 < len := by omega
      have hcell := hc.out k (by have := hz.out; omega)
      have hlo : zs.getD k 0 < n := putK_lt zs n k (by rw [hK.out]; exact hlt)
      generalize zs.getD k 0 = x at hcell hlo
      have hx : decide (x < n) = true := decide_eq_true hlo
      go_wp2
      go_round
      case rel => exact ⟨k + 1, by omega, by go_num⟩
      case measure => simp [intOf]; omega
    have hkK : k = K := by omega
    subst hkK
    clear hlt hk
    by_cases hend : k < len
    · have h0 : 0 < len := by omega
      have hcell := hc.out k (by have := hz.out; omega)
      have hge : n ≤ zs.getD k 0 := by
        have := putK_ge zs n (by rw [hK.out, hz.out]; exact hend)
        rw [hK.out] at this; exact this
      by_cases heq : zs.getD k 0 = n
      · exact absurd heq (hno.out k (by have := hz.out; omega))
      · have HP : Hid (putL zs n = ((zs.drop 0).take k ++ [n]) ++ (zs.drop k).take (zs.length - k)) := by
          have := putL_len (zs := zs) (n := n) (fun _ => by rw [hK.out]; exact heq)
          rw [hK.out] at this
          exact this
        generalize zs.getD k 0 = x at hcell hge heq
        have d1 : decide (x < n) = false := decide_eq_false (by omega)
        have d2 : (x == n) = false := by simpa using heq
        have d3 : decide (x = n) = false := decide_eq_false heq
        clear heq
        go_wp2_with (first
          | (at_builtin; refine wpList_append_own _ rfl _ _ 48 rfl W.heap.size 3 i0 (.int .i64 0) 1 8 Try.underlying48 hi hz0 hz1 hz2 rfl (by decide) _ 0 [] rfl (World.ownsRow_nil _ _ _ _) ⟨b, off, none⟩ k cap (((zs.drop 0).take k).map (Value.int .i64)) rfl ?c1 (part_news 0 k (by have := hz.out; omega) hc.out) (map_one _) (by unfold maxLen; omega) (by omega) (Nat.le_refl _) ?_)
          | go_in)
        case c1 => have := hz.out; first | omega | (simp; omega)
        intro v1 w1 hown hgrow _
        obtain ⟨HO, HB⟩ := first_part (hz := hz.out) (hk := hKl) hown hgrow
        clear hown hgrow
        go_wp2_with (first
          | (at_builtin; refine wpList_append_own _ rfl _ _ 48 rfl W.heap.size 3 i0 (.int .i64 0) 1 8 Try.underlying48 hi hz0 hz1 hz2 rfl (by decide) _ k (List.take k (List.map (Value.int .i64) zs)) rfl (World.ownsRow.alloc HO.out _) ⟨w1.heap.size, 0, none⟩ 1 1 [.int .i64 n] rfl rfl (new_one w1 n _) (one_of n) (by unfold maxLen; omega) (by omega) (by have := HB.out.size; simp; omega) ?_)
          | go_in)
        intro v2 w2 hown hgrow _
        obtain ⟨HO2, HB2⟩ := second_part HO HB hown hgrow
        have HC2 : Hid (∀ i, i < zs.length → w2.cell? ⟨b, off + i, none⟩ = some (.int .i64 (zs.getD i 0))) := fun i hi => (HB2.out.cell (p := ⟨b, off + i, none⟩) hb).trans (hc.out i hi)
        clear hown hgrow
        go_wp2_with (first
          | (at_builtin; refine wpList_append_own _ rfl _ _ 48 rfl W.heap.size 3 i0 (.int .i64 0) 1 8 Try.underlying48 hi hz0 hz1 hz2 rfl (by decide) v2 (k + 1) (List.take k (List.map (Value.int .i64) zs) ++ [.int .i64 n]) rfl HO2.out ⟨b, off + k, none⟩ (len - k) (cap - k) (((zs.drop k).take (len - k)).map (Value.int .i64)) rfl ?c2 (part_news k (len - k) (by have := hz.out; omega) HC2.out) (map_one _) (by unfold maxLen; omega) (by omega) HB2.out.size ?_)
          | go_in)
        case c2 => have := hz.out; first | omega | (simp; omega)
        intro v3 w3 hown hgrow _
        have HA : Hid (PutOwn W (putL zs n) (.returned v3) w3) := third_partO hz.out hKl HP.out HO2 HB2 hown hgrow
        clear hown hgrow
        go_wp2
        go_ret
        exact HA.out
    · have hkl : k = len := by omega
      have HP : Hid (putL zs n = ((zs.drop 0).take k ++ [n]) ++ (zs.drop k).take (zs.length - k)) := by
        have := putL_len (zs := zs) (n := n) (fun h => absurd h (by rw [hK.out, hz.out]; omega))
        rw [hK.out] at this
        exact this
      clear hend
      subst hkl
      rcases Nat.lt_or_ge k cap with hck | hck
      · have hck1 : ¬ cap = k := by omega
        go_wp2_with (first
          | (at_builtin; refine wpList_append_own _ rfl _ _ 48 rfl W.heap.size 3 i0 (.int .i64 0) 1 8 Try.underlying48 hi hz0 hz1 hz2 rfl (by decide) _ 0 [] rfl (World.ownsRow_nil _ _ _ _) ⟨b, off, none⟩ k cap (((zs.drop 0).take k).map (Value.int .i64)) rfl ?c5 (part_news 0 k (by have := hz.out; omega) hc.out) (map_one _) (by unfold maxLen; omega) (by omega) (Nat.le_refl _) ?_)
          | go_in)
        case c5 => have := hz.out; first | omega | (simp; omega)
        intro v1 w1 hown hgrow _
        obtain ⟨HO, HB⟩ := first_part (hz := hz.out) (hk := hKl) hown hgrow
        clear hown hgrow
        go_wp2_with (first
          | (at_builtin; refine wpList_append_own _ rfl _ _ 48 rfl W.heap.size 3 i0 (.int .i64 0) 1 8 Try.underlying48 hi hz0 hz1 hz2 rfl (by decide) _ k (List.take k (List.map (Value.int .i64) zs)) rfl (World.ownsRow.alloc HO.out _) ⟨w1.heap.size, 0, none⟩ 1 1 [.int .i64 n] rfl rfl (new_one w1 n _) (one_of n) (by unfold maxLen; omega) (by omega) (by have := HB.out.size; simp; omega) ?_)
          | go_in)
        intro v2 w2 hown hgrow _
        obtain ⟨HO2, HB2⟩ := second_part HO HB hown hgrow
        have HC2 : Hid (∀ i, i < zs.length → w2.cell? ⟨b, off + i, none⟩ = some (.int .i64 (zs.getD i 0))) := fun i hi => (HB2.out.cell (p := ⟨b, off + i, none⟩) hb).trans (hc.out i hi)
        clear hown hgrow
        go_wp2_with (first
          | (at_builtin; refine wpList_append_own _ rfl _ _ 48 rfl W.heap.size 3 i0 (.int .i64 0) 1 8 Try.underlying48 hi hz0 hz1 hz2 rfl (by decide) v2 (k + 1) (List.take k (List.map (Value.int .i64) zs) ++ [.int .i64 n]) rfl HO2.out ⟨b, off + k, none⟩ 0 _ [] rfl rfl (fun j u h => by simp at h) (fun u h => by simp at h) (by unfold maxLen; omega) (by omega) HB2.out.size ?_)
          | go_in)
        intro v3 w3 hown hgrow _
        have HA : Hid (PutOwn W (putL zs n) (.returned v3) w3) := third_endO hz.out HP.out HO2 HB2 hown hgrow
        clear hown hgrow
        go_wp2
        go_ret
        exact HA.out
      · have hck2 : k = cap := by omega
        subst hck2
        clear hck
        go_wp2_with (first
          | (at_builtin; refine wpList_append_own _ rfl _ _ 48 rfl W.heap.size 3 i0 (.int .i64 0) 1 8 Try.underlying48 hi hz0 hz1 hz2 rfl (by decide) _ 0 [] rfl (World.ownsRow_nil _ _ _ _) ⟨b, off, none⟩ k k (((zs.drop 0).take k).map (Value.int .i64)) rfl ?c6 (part_news 0 k (by have := hz.out; omega) hc.out) (map_one _) (by unfold maxLen; omega) (by omega) (Nat.le_refl _) ?_)
          | go_in)
        case c6 => have := hz.out; first | omega | (simp; omega)
        intro v1 w1 hown hgrow _
        obtain ⟨HO, HB⟩ := first_part (hz := hz.out) (hk := hKl) hown hgrow
        clear hown hgrow
        go_wp2_with (first
          | (at_builtin; refine wpList_append_own _ rfl _ _ 48 rfl W.heap.size 3 i0 (.int .i64 0) 1 8 Try.underlying48 hi hz0 hz1 hz2 rfl (by decide) _ k (List.take k (List.map (Value.int .i64) zs)) rfl (World.ownsRow.alloc HO.out _) ⟨w1.heap.size, 0, none⟩ 1 1 [.int .i64 n] rfl rfl (new_one w1 n _) (one_of n) (by unfold maxLen; omega) (by omega) (by have := HB.out.size; simp; omega) ?_)
          | go_in)
        intro v2 w2 hown hgrow _
        obtain ⟨HO2, HB2⟩ := second_part HO HB hown hgrow
        have HC2 : Hid (∀ i, i < zs.length → w2.cell? ⟨b, off + i, none⟩ = some (.int .i64 (zs.getD i 0))) := fun i hi => (HB2.out.cell (p := ⟨b, off + i, none⟩) hb).trans (hc.out i hi)
        clear hown hgrow
        go_wp2_with (first
          | (at_builtin; refine wpList_append_own _ rfl _ _ 48 rfl W.heap.size 3 i0 (.int .i64 0) 1 8 Try.underlying48 hi hz0 hz1 hz2 rfl (by decide) v2 (k + 1) (List.take k (List.map (Value.int .i64) zs) ++ [.int .i64 n]) rfl HO2.out ⟨b, off, none⟩ 0 _ [] rfl rfl (fun j u h => by simp at h) (fun u h => by simp at h) (by unfold maxLen; omega) (by omega) HB2.out.size ?_)
          | go_in)
        intro v3 w3 hown hgrow _
        have HA : Hid (PutOwn W (putL zs n) (.returned v3) w3) := third_endO hz.out HP.out HO2 HB2 hown hgrow
        clear hown hgrow
        go_wp2
        go_ret
        exact HA.out
theorem spec_put_own (v : Value) (zs : List Int) (n : Int) (W : World) (h : LRow W v zs) (hl : zs.length ≤ 1000) (hno : ∀ k, k < zs.length → zs.getD k 0 ≠ n) : Calls Try.prog 54 #[v, .int .i64 n] W fun e W' => PutOwn W (putL zs n) e W' := by
  rcases h with ⟨rfl, rfl⟩ | ⟨b, off, cap, rfl, hc, hb, hx⟩
  · exact put_nilO n W
  · exact put_someO b off cap zs.length (putK zs n) zs n W rfl hc hl hb rfl hno hx
end Go.Proofs.Ytfmgbalfabpogaa.walks

namespace Go.Proofs.Ytfmgbalfabpogaa.walks
open Go.RowKit Go.Proofs.Ytfmgbalfabpogaa.math Go.Proofs.Ytfmgbalfabpogaa.ints
set_option linter.unusedVariables false
set_option maxRecDepth 100000

theorem own_kept {w w' : World} {B : Nat} {v : Value} {zs : List Int} (h : ints.Own w B v zs) (hb : Below w.heap.size w w') : ints.Own w' B v zs :=
  World.ownsRow.kept h (row := none) ⟨hb.os, hb.tape, hb.output, hb.size, fun i hi _ => hb.block i hi⟩ (by
    cases q : v.ownBlock with
    | none => exact Or.inl rfl
    | some g => exact Or.inr (by simp))
theorem own_low {w : World} {B B' : Nat} {v : Value} {zs : List Int} (h : ints.Own w B v zs) (hB : B' ≤ B) : ints.Own w B' v zs :=
  ⟨h.1, h.2.imp id (fun ⟨g, cap, cur, e, hb, r⟩ => ⟨g, cap, cur, e, Nat.le_trans hB hb, r⟩)⟩
theorem dead_far {zs : List Int} {len q : Nat} {f : Nat → Bool} (h : q < len) : ∀ k, k < (risingTo (deadK zs len f (len - (q + 1))) 64).length → (risingTo (deadK zs len f (len - (q + 1))) 64).getD k 0 ≠ (q : Int) := by
  intro k hk e
  have hm : (q : Int) ∈ risingTo (deadK zs len f (len - (q + 1))) 64 := by
    rw [← e, List.getD_eq_getElem?_getD, List.getElem?_eq_getElem hk]
    simp
  obtain ⟨i, _, hi, e2⟩ := (mem_rising _ _ 64).1 hm
  have : i = q := by omega
  subst this
  rw [deadK_low _ (by omega) i (by omega)] at hi
  cases hi
theorem dst_small8 {o d a b n : Int} (hg : goodI o d a b n = true) (h8 : o ≠ 8) : 0 ≤ d ∧ d ≤ 7 := by
  rcases good_cases hg with ⟨_, q, _⟩ | ⟨_, q, _⟩ | ⟨q, _⟩ | ⟨_, q, _⟩
  all_goals first | exact q | omega
theorem below_loads {w w' : World} {g : Nat} {v : Value} (hb : Below w.heap.size w w') (hg : g < w.heap.size) (h : w.cell? ⟨g, 0, none⟩ = some v) : w'.cell? ⟨g, 0, none⟩ = some v := (hb.cell (p := ⟨g, 0, none⟩) hg).trans h
set_option maxHeartbeats 4000000 in
theorem spec_dead7 (ca : Option Addr) (len cc : Nat) (t th el : Int) (zs : List Int) (v : Value) (f : Nat → Bool) (W : World) (hz : Hid (zs.length = len * 5)) (hlen : len ≤ 30) (hG : Hid (∀ k, k < len → stepB zs k = true)) (h : Hid (Ints W ca zs)) (hL : LRow W v (risingTo f 8)) :
    Calls Try.prog 38 #[.agg #[.slice ca len cc, .int .i64 t, .int .i64 th, .int .i64 el], v] W fun e W' => PutOwn W (risingTo (deadK zs len f len) 64) e W' := by
  have HL0 : Hid (LRow W v (risingTo f 8)) := hL
  clear hL
  go_enter Try.func38, Try.ntmps38
  go_wp2
  have c00 : (W.alloc (.cells #[.slice ca len cc, .int .i64 t, .int .i64 th, .int .i64 el] 44)).cell? ⟨W.heap.size, 0, none⟩ = some (.slice ca len cc) := by simp
  have hg0 : W.heap.size < (W.alloc (.cells #[.slice ca len cc, .int .i64 t, .int .i64 th, .int .i64 el] 44)).heap.size := by simp
  have HBA : Hid (Below W.heap.size W (W.alloc (.cells #[.slice ca len cc, .int .i64 t, .int .i64 th, .int .i64 el] 44))) := (Below.refl _ _).alloc (Nat.le_refl _) _
  obtain ⟨X, hX⟩ : ∃ X, Hid ((W.alloc (.cells #[.slice ca len cc, .int .i64 t, .int .i64 th, .int .i64 el] 44)) = X) := ⟨_, rfl⟩
  rw [hX.out] at c00 hg0 HBA ⊢
  obtain ⟨gx, hgx⟩ : ∃ gx, Hid (W.heap.size = gx) := ⟨_, rfl⟩
  rw [hgx.out] at c00 hg0 ⊢
  go_loopw [5, 6, 7] (fun vo vl vi wr => ∃ i : Nat, i ≤ len ∧ vi = .int .i64 ((i : Int) - 1) ∧ gx < wr.heap.size ∧ wr.cell? ⟨gx, 0, none⟩ = some (.slice ca len cc) ∧ Hid (ints.Own wr W.heap.size vo (risingTo (deadK zs len f (len - i)) 64)) ∧ Hid (LRow wr vl (risingTo (backK false zs len f (len - i)) 8)) ∧ Hid (Below W.heap.size W wr)) (fun _ _ vi _ => ((intOf vi) + 1).toNat)
  case atStart => exact ⟨len, Nat.le_refl _, rfl, hg0, c00, by show ints.Own _ _ _ _; rw [Nat.sub_self, show risingTo (deadK zs len f 0) 64 = [] from rising_none 64]; exact own_nil _ _, by show LRow _ _ _; rw [Nat.sub_self]; exact HL0.out.kept HBA.out, HBA⟩
  case round =>
    obtain ⟨i, hi, rfl, hgw, cg, HD, HL, HB⟩ := hrel
    clear c00 hg0
    rcases i with _ | q
    · have HR : Hid (∀ v, ints.Own wr W.heap.size v (risingTo (deadK zs len f (len - 0)) 64) → PutOwn W (risingTo (deadK zs len f len) 64) (.returned v) wr) := fun v hv => ⟨v, rfl, hv, HB.out⟩
      have HR' := HR.out _ HD.out
      have HR2 : Hid (PutOwn W (risingTo (deadK zs len f len) 64) (.returned _) wr) := HR'
      clear HR'
      go_wp2
      go_ret
      exact HR2.out
    · have hq : ((q + 1 : Nat) : Int) - 1 = (q : Int) := by omega
      rw [hq]
      have hql : q < len := by omega
      have hqI : (q : Int) < (len : Int) := by omega
      obtain ⟨b, o', ha, hb, c0, c1, c2, c3, c4⟩ := Instr_at h.out hz.out HB.out hql
      subst ha
      have HBK : Hid (backK false zs len f (len - q) = backAt false (zs.getD (q * 5) 0) (zs.getD (q * 5 + 1) 0) (zs.getD (q * 5 + 2) 0) (zs.getD (q * 5 + 3) 0) (backK false zs len f (len - (q + 1)))) := backK_next hql
      have HY : Hid (deadB (zs.getD (q * 5) 0) (zs.getD (q * 5 + 1) 0) (backK false zs len f (len - (q + 1))) = true → putL (risingTo (deadK zs len f (len - (q + 1))) 64) (q : Int) = risingTo (deadK zs len f (len - q)) 64) := dead_yes hql (by omega)
      have HNO : Hid (deadB (zs.getD (q * 5) 0) (zs.getD (q * 5 + 1) 0) (backK false zs len f (len - (q + 1))) = false → deadK zs len f (len - (q + 1)) = deadK zs len f (len - q)) := dead_no hql
      have hg := hG.out q hql
      unfold stepB at hg
      have hbs := HB.out.size
      generalize zs.getD (q * 5) 0 = o at c0 hg HBK HY HNO
      generalize zs.getD (q * 5 + 1) 0 = d at c1 hg HBK HY HNO
      generalize zs.getD (q * 5 + 2) 0 = x at c2 hg HBK
      generalize zs.getD (q * 5 + 3) 0 = y at c3 hg HBK
      generalize zs.getD (q * 5 + 4) 0 = n at c4 hg
      have Hg : Hid (goodI o d x y n = true) := hg
      obtain ⟨fb, hfb⟩ : ∃ fb, Hid (backK false zs len f (len - (q + 1)) = fb) := ⟨_, rfl⟩
      rw [hfb.out] at HBK HY HNO HL
      have HBX : Hid (Below wr.heap.size wr (wr.alloc (.cells #[.int .i64 o, .int .i64 d, .int .i64 x, .int .i64 y, .int .i64 n] 46))) := (Below.refl _ _).alloc (Nat.le_refl _) _
      obtain ⟨X2, hX2⟩ : ∃ X2, Hid ((wr.alloc (.cells #[.int .i64 o, .int .i64 d, .int .i64 x, .int .i64 y, .int .i64 n] 46)) = X2) := ⟨_, rfl⟩
      have k0 : X2.cell? ⟨wr.heap.size, 0, none⟩ = some (.int .i64 o) := by rw [← hX2.out]; simp
      have k1 : X2.cell? ⟨wr.heap.size, 1, none⟩ = some (.int .i64 d) := by rw [← hX2.out]; simp
      have k2 : X2.cell? ⟨wr.heap.size, 2, none⟩ = some (.int .i64 x) := by rw [← hX2.out]; simp
      have k3 : X2.cell? ⟨wr.heap.size, 3, none⟩ = some (.int .i64 y) := by rw [← hX2.out]; simp
      have k4 : X2.cell? ⟨wr.heap.size, 4, none⟩ = some (.int .i64 n) := by rw [← hX2.out]; simp
      have hX2s : wr.heap.size < X2.heap.size := by rw [← hX2.out]; simp
      rw [hX2.out] at HBX
      have HD2 : Hid (ints.Own X2 W.heap.size _ (risingTo (deadK zs len f (len - (q + 1))) 64)) := own_kept HD.out HBX.out
      have HFar : Hid (∀ k, k < (risingTo (deadK zs len f (len - (q + 1))) 64).length → (risingTo (deadK zs len f (len - (q + 1))) 64).getD k 0 ≠ (q : Int)) := dead_far hql
      have HL2 : Hid (LRow X2 _ (risingTo fb 8)) := HL.out.kept HBX.out
      have HB2 : Hid (Below W.heap.size W X2) := HB.out.trans (HBX.out.mono hbs)
      have cg2 := below_loads HBX.out hgw cg
      have hgw2 : gx < X2.heap.size := Nat.lt_of_lt_of_le hgw HBX.out.size
      obtain ⟨va, vc, hv, hvI⟩ := HL2.out.ints
      have HVI : Hid (Ints X2 va (risingTo fb 8)) := hvI
      subst hv
      clear hg hq hvI HD HL HB

      by_cases h8 : o = 8
      · subst h8
        have HN : Hid (deadK zs len f (len - (q + 1)) = deadK zs len f (len - q)) := HNO.out rfl
        rw [HN.out] at HD2
        clear HY HNO
        go_upto_region 7 with fail
        rw [hX2.out]
        go_wp2_with fail
        refine (spec_back7 _ _ _ _ _ false _ fb _ Hg.out HL2.out).mono ?_
        rw [← HBK.out]
        rintro e w9 ⟨v9, rfl, hL9, hB9⟩
        have HL9 : Hid (LRow w9 v9 (risingTo (backK false zs len f (len - q)) 8)) := hL9
        have HD9 : Hid (ints.Own w9 W.heap.size _ (risingTo (deadK zs len f (len - q)) 64)) := own_kept HD2.out hB9
        have HB9 : Hid (Below W.heap.size W w9) := HB2.out.trans (hB9.mono HB2.out.size)
        have cg9 := below_loads hB9 hgw2 cg2
        have hgw9 : gx < w9.heap.size := Nat.lt_of_lt_of_le hgw2 hB9.size
        clear hL9 hB9
        go_wp2
        go_roundw
        case rel => exact ⟨q, by omega, by go_num, hgw9, cg9, HD9, HL9, HB9⟩
        case measure => simp [intOf]
      · obtain ⟨hd0, hd7⟩ := dst_small8 Hg.out h8
        obtain ⟨dn, rfl⟩ : ∃ dn : Nat, d = (dn : Int) := ⟨d.toNat, by omega⟩
        have hd8 : dn < 8 := by omega
        have s1 : (o == 8) = false := by simpa using h8
        have s2 : decide (o = 8) = false := decide_eq_false h8
        have HDB : Hid (deadB o (dn : Int) fb = !fb dn) := by show deadB _ _ _ = _; unfold deadB; rw [s1]; simp
        have s3 : (o != 8) = true := by simp [bne, s1]
        have s4 : decide (o ≠ 8) = true := decide_eq_true h8
        clear h8 hd0 hd7
        go_upto_region 7 with fail
        rw [hX2.out]
        cases hfd : fb dn
        · have HH : Hid (hasB (risingTo fb 8) (dn : Int) = false) := (has_set _ hd8).trans hfd
          have HP : Hid (putL (risingTo (deadK zs len f (len - (q + 1))) 64) (q : Int) = risingTo (deadK zs len f (len - q)) 64) := HY.out (by rw [HDB.out, hfd]; rfl)
          clear HY HNO
          go_wp2_with fail
          refine (spec_has _ _ _ (risingTo fb 8) _ _ rfl (rise_big _) HVI).mono ?_
          rw [HH.out]
          rintro e w' ⟨rfl, hw⟩
          rw [hw]
          clear hw w'
          go_wp2_with fail
          refine (spec_put_own _ (risingTo (deadK zs len f (len - (q + 1))) 64) (q : Int) _ (LRow.of_own HD2.out) (Nat.le_trans (rising_len _ _) (by omega)) HFar.out).mono ?_
          rw [HP.out]
          rintro e w3 ⟨v3, rfl, hD3, hB3⟩
          have HD3 : Hid (ints.Own w3 W.heap.size v3 (risingTo (deadK zs len f (len - q)) 64)) := own_low hD3 HB2.out.size
          have HL3 : Hid (LRow w3 (.slice va (risingTo fb 8).length vc) (risingTo fb 8)) := HL2.out.kept hB3
          have HB3 : Hid (Below W.heap.size W w3) := HB2.out.trans (hB3.mono HB2.out.size)
          have cg3 := below_loads hB3 hgw2 cg2
          have hgw3 : gx < w3.heap.size := Nat.lt_of_lt_of_le hgw2 hB3.size
          have k0 := (hB3.cell (p := ⟨wr.heap.size, 0, none⟩) hX2s).trans k0
          have k1 := (hB3.cell (p := ⟨wr.heap.size, 1, none⟩) hX2s).trans k1
          have k2 := (hB3.cell (p := ⟨wr.heap.size, 2, none⟩) hX2s).trans k2
          have k3 := (hB3.cell (p := ⟨wr.heap.size, 3, none⟩) hX2s).trans k3
          have k4 := (hB3.cell (p := ⟨wr.heap.size, 4, none⟩) hX2s).trans k4
          clear hD3 hB3
          go_wp2_with fail
          refine (spec_back7 _ _ _ _ _ false _ fb _ Hg.out HL3.out).mono ?_
          rw [← HBK.out]
          rintro e w9 ⟨v9, rfl, hL9, hB9⟩
          have HL9 : Hid (LRow w9 v9 (risingTo (backK false zs len f (len - q)) 8)) := hL9
          have HD9 : Hid (ints.Own w9 W.heap.size _ (risingTo (deadK zs len f (len - q)) 64)) := own_kept HD3.out hB9
          have HB9 : Hid (Below W.heap.size W w9) := HB3.out.trans (hB9.mono HB3.out.size)
          have cg9 := below_loads hB9 hgw3 cg3
          have hgw9 : gx < w9.heap.size := Nat.lt_of_lt_of_le hgw3 hB9.size
          clear hL9 hB9
          go_wp2
          go_roundw
          case rel => exact ⟨q, by omega, by go_num, hgw9, cg9, HD9, HL9, HB9⟩
          case measure => simp [intOf]
        · have HH : Hid (hasB (risingTo fb 8) (dn : Int) = true) := (has_set _ hd8).trans hfd
          have HN : Hid (deadK zs len f (len - (q + 1)) = deadK zs len f (len - q)) := HNO.out (by rw [HDB.out, hfd]; rfl)
          rw [HN.out] at HD2
          clear HY HNO
          go_wp2_with fail
          refine (spec_has _ _ _ (risingTo fb 8) _ _ rfl (rise_big _) HVI).mono ?_
          rw [HH.out]
          rintro e w' ⟨rfl, hw⟩
          rw [hw]
          clear hw w'
          go_wp2_with fail
          refine (spec_back7 _ _ _ _ _ false _ fb _ Hg.out HL2.out).mono ?_
          rw [← HBK.out]
          rintro e w9 ⟨v9, rfl, hL9, hB9⟩
          have HL9 : Hid (LRow w9 v9 (risingTo (backK false zs len f (len - q)) 8)) := hL9
          have HD9 : Hid (ints.Own w9 W.heap.size _ (risingTo (deadK zs len f (len - q)) 64)) := own_kept HD2.out hB9
          have HB9 : Hid (Below W.heap.size W w9) := HB2.out.trans (hB9.mono HB2.out.size)
          have cg9 := below_loads hB9 hgw2 cg2
          have hgw9 : gx < w9.heap.size := Nat.lt_of_lt_of_le hgw2 hB9.size
          clear hL9 hB9
          go_wp2
          go_roundw
          case rel => exact ⟨q, by omega, by go_num, hgw9, cg9, HD9, HL9, HB9⟩
          case measure => simp [intOf]

end Go.Proofs.Ytfmgbalfabpogaa.walks

namespace Go.Proofs.Ytfmgbalfabpogaa.walks
open Go.RowKit Go.Shelf Go.Proofs.Ytfmgbalfabpogaa.math Go.Proofs.Ytfmgbalfabpogaa.ints
set_option linter.unusedVariables false
attribute [local go_sem] Oper.semAt_some

set_option maxRecDepth 100000 in
set_option maxHeartbeats 2000000 in
theorem backwardT1_in (F : Fence) (n : Nat) (hf : F.fn 64) (hro : F.round = none) (hn : 1 ≤ n) (l Bs n₀ mb db : Nat) (a : Option Addr) (len cap : Nat) (zs : List Int) (hlen : len ≤ 1048576) (hBs : Bs < n₀) (hBm : Bs ≠ mb) (hBd : Bs ≠ db) (J Jx : List (Fin len) → World → Prop)
    (hY : ∀ pre x W, J pre W → pre.length < len → YieldAt F (n - 1) Try.prog l #[.int .i64 (x.val : Int), stepAt zs x.val] W fun e W' =>
      (e = .returned (.bool true) ∧ J (pre ++ [x]) W' ∧ KeepTwo n₀ mb db W W') ∨ (e = .returned (.bool false) ∧ Jx (pre ++ [x]) W'))
    (W : World) (hc : W.cell? ⟨Bs, 0, none⟩ = some (.slice a len cap)) (hS : Hid (Steps W a zs len)) (hab : Hid (∀ b o, a = some ⟨b, o, none⟩ → 0 < len → b < n₀ ∧ b ≠ mb ∧ b ≠ db)) (h0 : J [] W) :
    CallsIn F n Try.prog 64 #[.func (.yield l) #[] #[], .pointer (some ⟨Bs, 0, none⟩)] W fun e W' => (∃ v, e = .returned v) ∧
      ((∃ ys, ys = downTo len len ∧ J ys W') ∨ (∃ pre, True ∧ Jx pre W')) := by
  refine callsIn_of_wp Try.func64 rfl hf ?_ hro
  simp only [Try.ntmps64, List.size_toArray, List.length_cons, List.length_nil, Nat.reduceAdd, Nat.reduceSub, Array.replicate_succ, Array.replicate_zero, List.push_toArray, List.append_toArray, List.nil_append, List.cons_append]
  gi_wp2
  gi_loopw [3] (fun vi wr => ∃ m : Nat, m ≤ len ∧ vi = .int .i64 ((m : Int) - 1) ∧ Hid (J (downTo len (len - m)) wr) ∧ Hid (KeepTwo n₀ mb db W wr)) (fun vi _ => ((Go.RowKit.intOf vi) + 1).toNat)
  case atStart => exact ⟨len, Nat.le_refl _, rfl, by show J _ _; rw [Nat.sub_self]; exact h0, KeepTwo.refl _ _ _ _⟩
  case round =>
    obtain ⟨m, hm, rfl, HJ, HK⟩ := hrel
    rcases m with _ | q
    · gi_wp2
      go_end0
      exact ⟨⟨_, rfl⟩, .inl ⟨_, rfl, HJ.out⟩⟩
    · have hq : ((q + 1 : Nat) : Int) - 1 = (q : Int) := by omega
      rw [hq]
      have hql : q < len := by omega
      have hqI : (q : Int) < (len : Int) := by omega
      obtain ⟨sb, rfl, hsb, hsc⟩ : ∃ b, a = some ⟨b, 0, none⟩ ∧ b < W.heap.size ∧ ∀ i, i < len → W.cell? ⟨b, i, none⟩ = some (stepAt zs i) := by
        rcases hS.out with e | e
        · omega
        · exact e
      obtain ⟨hb1, hb2, hb3⟩ := hab.out sb 0 rfl (by omega)
      have k0 : wr.cell? ⟨Bs, 0, none⟩ = some (.slice (some ⟨sb, 0, none⟩) len cap) := (HK.out.cell (p := ⟨Bs, 0, none⟩) hBs hBm hBd).trans hc
      have k1 : wr.cell? ⟨sb, q, none⟩ = some (stepAt zs q) := (HK.out.cell (p := ⟨sb, q, none⟩) hb1 hb2 hb3).trans (hsc q hql)
      have HN : Hid (downTo len (len - q) = downTo len (len - (q + 1)) ++ [⟨q, hql⟩]) := downTo_next hql
      obtain ⟨fn, tmps, assign, body, hy, hR⟩ := hY _ ⟨q, hql⟩ wr HJ.out (Nat.lt_of_le_of_lt (downTo_len _ _) (by omega))
      dsimp only at hy
      rw [← HN.out] at hR
      clear hq hsc hc hm
      generalize stepAt zs q = sv at hy k1
      gi_wp2
      refine hR.mono ?_
      rintro e W3 (⟨rfl, hJ3, hk3⟩ | ⟨rfl, hJx3⟩)
      · have HJ3 : Hid (J (downTo len (len - q)) W3) := hJ3
        have HK3 : Hid (KeepTwo n₀ mb db W W3) := keepTwo_t HK.out hk3
        clear hJ3 hk3
        gi_wp2
        go_roundw
        case rel => exact ⟨q, by omega, by simp, HJ3, HK3⟩
        case measure => simp [Go.RowKit.intOf]
      · gi_wp2
        refine bodyPost_ret (results_none rfl _ _ _) rfl ?_
        exact ⟨⟨_, rfl⟩, .inr ⟨_, trivial, hJx3⟩⟩
theorem backwardT_stops (F : Fence) (n : Nat) (hf : F.fn 64) (hro : F.round = none) (hn : 1 ≤ n) (Bs n₀ mb db : Nat) (a : Option Addr) (len cap : Nat) (zs : List Int) (hlen : len ≤ 1048576) (w : World) (hn₀ : n₀ ≤ w.heap.size) (hBs : Bs < n₀) (hBm : Bs ≠ mb) (hBd : Bs ≠ db)
    (hc : w.cell? ⟨Bs, 0, none⟩ = some (.slice a len cap)) (hS : Steps w a zs len) (hab : ∀ b o, a = some ⟨b, o, none⟩ → 0 < len → b < n₀ ∧ b ≠ mb ∧ b ≠ db) :
    SeqStopsK F n Try.prog 64 #[.pointer (some ⟨Bs, 0, none⟩)] (fun x : Fin len => #[Value.int .i64 (x.val : Int), stepAt zs x.val]) (KeepTwo n₀ mb db) (fun ys => ys = downTo len len) (fun _ => True) len w := fun l J Jx W hW _ _ hY h0 =>
  backwardT1_in F n hf hro hn l Bs n₀ mb db a len cap zs hlen hBs hBm hBd J Jx hY W ((hW.cell (p := ⟨Bs, 0, none⟩) (Nat.lt_of_lt_of_le hBs hn₀)).trans hc) (hS.kept hW) hab h0
end Go.Proofs.Ytfmgbalfabpogaa.walks

namespace Go.Proofs.Ytfmgbalfabpogaa.walks
open Go.RowKit Go.Shelf Go.Proofs.Ytfmgbalfabpogaa.math Go.Proofs.Ytfmgbalfabpogaa.ints
set_option linter.unusedVariables false
set_option maxRecDepth 100000
attribute [local go_sem] Oper.semAt_some

theorem keepTwo_b2 {n₀ na nc : Nat} {w : World} (hn : n₀ ≤ w.heap.size) (W : World) (l : Nat) (o o' : Obj) (hl : w.heap.size ≤ l) (h : W.heap[l]? = some o) (_ : o.isCells = false) (_ : o.isWalk = false) : KeepTwo n₀ na nc W (W.putObj l o') :=
  ⟨(grownBy_putObj' W l o').size, fun k hk _ _ => (grownBy_putObj' W l o').block k (by have := (Array.getElem?_eq_some_iff.1 h).1; omega) (fun e => by cases e; omega)⟩
/-- What is needed and what is dead, behind one step more. -/
def deadF (zs : List Int) {len : Nat} (st : (Nat → Bool) × (Nat → Bool)) (i : Fin len) : (Nat → Bool) × (Nat → Bool) := (stepBack false zs i.val st.1, fun j => st.2 j || (j == i.val && deadB (zs.getD (i.val * 5) 0) (zs.getD (i.val * 5 + 1) 0) st.1))
def stP (zs : List Int) {len : Nat} (f : Nat → Bool) (pre : List (Fin len)) : (Nat → Bool) × (Nat → Bool) := pre.foldl (deadF zs) (f, fun _ => false)
theorem stP_snoc (zs : List Int) {len : Nat} (f : Nat → Bool) (pre : List (Fin len)) (x : Fin len) : stP zs f (pre ++ [x]) = deadF zs (stP zs f pre) x := by simp [stP]
theorem stP_all (zs : List Int) (len : Nat) (f : Nat → Bool) : ∀ m, m ≤ len → stP zs f (downTo len m) = (backK false zs len f m, deadK zs len f m)
  | 0, _ => rfl
  | m + 1, hm => by
    have e := downTo_next (len := len) (q := len - (m + 1)) (by omega)
    rw [show len - (len - (m + 1)) = m + 1 by omega, show len - (len - (m + 1) + 1) = m by omega] at e
    rw [e, stP_snoc, stP_all zs len f m (by omega)]
    have e1 : len - (m + 1) = len - 1 - m := by omega
    unfold deadF
    show (stepBack false zs (len - (m + 1)) _, fun j => deadK zs len f m j || (j == len - (m + 1) && deadB (zs.getD ((len - (m + 1)) * 5) 0) (zs.getD ((len - (m + 1)) * 5 + 1) 0) (backK false zs len f m))) = _
    rw [e1]
    rfl
/-- Nothing has turned but two blocks. -/
structure Two (mb db : Nat) (A B : World) : Prop where
  os : B.os = A.os
  tape : B.tape = A.tape
  output : B.output = A.output
  size : A.heap.size ≤ B.heap.size
  block : ∀ k, k < A.heap.size → k ≠ mb → k ≠ db → B.heap[k]? = A.heap[k]?
theorem Two.trans {mb db : Nat} {A B C : World} (h : Two mb db A B) (k : Two mb db B C) : Two mb db A C := ⟨k.os.trans h.os, k.tape.trans h.tape, k.output.trans h.output, Nat.le_trans h.size k.size, fun i hi h1 h2 => (k.block i (Nat.lt_of_lt_of_le hi h.size) h1 h2).trans (h.block i hi h1 h2)⟩
theorem Two.grown {mb db : Nat} {A B : World} {row : Option Nat} (h : A.grownBy B row) (hr : ∀ r, row = some r → r = mb ∨ r = db) : Two mb db A B := ⟨h.os, h.tape, h.output, h.size, fun k hk h1 h2 => h.block k hk (fun e => by rcases hr k e.symm with q | q <;> omega)⟩
theorem Two.from {mb db n₀ : Nat} {A B : World} (h : Two mb db A B) (h1 : mb < n₀) (h2 : db < n₀) : KeepsFrom n₀ A B := ⟨h.size, fun k o hk ho _ => (h.block k (Array.getElem?_eq_some_iff.1 ho).1 (by omega) (by omega)).trans ho⟩
theorem Two.keep {mb db n₀ : Nat} {A B : World} (h : Two mb db A B) (hn : n₀ ≤ A.heap.size) : KeepTwo n₀ mb db A B := ⟨h.size, fun k hk h1 h2 => h.block k (by omega) h1 h2⟩
theorem Two.cell {mb db : Nat} {A B : World} {p : Addr} {v : Value} (h : Two mb db A B) (hc : A.cell? p = some v) (hp : p.block < A.heap.size) (h1 : p.block ≠ mb) (h2 : p.block ≠ db) : B.cell? p = some v := (World.cell?_of_block (h.block _ hp h1 h2)).trans hc
theorem Two.below {mb db n₀ : Nat} {W A B : World} (h : Two mb db A B) (hb : Below n₀ W A) (hn : n₀ ≤ A.heap.size) (h1 : n₀ ≤ mb) (h2 : n₀ ≤ db) : Below n₀ W B := ⟨h.os.trans hb.os, h.tape.trans hb.tape, h.output.trans hb.output, Nat.le_trans hb.size h.size, fun k hk => (h.block k (by omega) (by omega) (by omega)).trans (hb.block k hk)⟩
set_option maxHeartbeats 8000000 in
theorem impl_deadin (nb bb n cap k : Nat) (A S : Nat → Option Addr × Nat) (f : Nat → Bv) (M : Nat → Option Nat) (s : Ls) (W : World) (hf : Hid (flowB f n = true)) (hk : k < n) (hb : Hid (BlocksAt W bb n A S f)) (h : Hid (NeedsAt W nb bb n cap M s)) :
    Calls Try.prog 25 #[.pointer (some ⟨nb, 0, none⟩), .int .i64 (k : Int)] W fun e W' => BehindAns (deadK (f k).zs (f k).len (behindL (f k) s) (f k).len) W e W' := by
  have hmm := @run_makeMap Try.prog
  have hn8 : n ≤ 8 := (flow_out hf.out).1.2
  have hkI : (k : Int) < (n : Int) := by omega
  have hst : ∀ j, j < (f k).len → stepB (f k).zs j = true := by
    have hblk := (flow_out hf.out).2 k hk
    simp only [blockB, Bool.and_eq_true] at hblk
    exact (code_out hblk.1.1.1).2
  have hll : (f k).len ≤ 30 := by
    have hblk := (flow_out hf.out).2 k hk
    simp only [blockB, Bool.and_eq_true] at hblk
    exact (code_out hblk.1.1.1).1
  have HST : Hid (∀ j, j < (f k).len → stepB (f k).zs j = true) := hst
  have HBW1 : Hid (Below W.heap.size W (W.alloc (.map #[] 0))) := (Below.refl _ _).alloc (Nat.le_refl _) _
  have CB := impl_behind nb bb n cap k A S f M s (W.alloc (.map #[] 0)) hf hk (hb.out.kept HBW1.out) (h.out.kept HBW1.out)
  obtain ⟨bz, hbz⟩ : ∃ bz, Hid (behindL (f k) s = bz) := ⟨_, rfl⟩
  rw [hbz.out] at CB ⊢
  have c4 : W.cell? ⟨bb, k * 5 + 4, none⟩ = some (.slice (S k).1 (f k).len (S k).2) := by rw [hb.out.cell _ (by omega), cell5_4]
  have d0 := h.out.blk
  have hnl := h.out.lt
  have hbl := hb.out.lt
  have HStp : Hid (Steps W (S k).1 (f k).zs (f k).len) := hb.out.step k hk
  have HSM : Hid (SetIs (W.alloc (.map #[] 0)) W.heap.size (fun _ => false)) := set_made W
  generalize (f k).zs = zs at HST HStp ⊢
  generalize (f k).len = len at c4 HST HStp hll ⊢
  generalize (S k).1 = sa at c4 HStp
  generalize (S k).2 = sc at c4
  clear hst
  refine (callsIn_wide (n := 6)).1 ?_
  have f2 : Fence.wide.fn 47 := trivial
  have f4 : Fence.wide.fn 46 := trivial
  refine callsIn_of_wp_marks Try.func25 rfl trivial ?_ rfl
  simp only [Try.ntmps25, List.size_toArray, List.length_cons, List.length_nil, Nat.reduceAdd, Nat.reduceSub, Array.replicate_succ, Array.replicate_zero, List.push_toArray, List.append_toArray, List.nil_append, List.cons_append]
  gi_wp2_with fail
  refine (callsIn_wide.2 CB).mono ?_
  rintro e w3 ⟨mb, rfl, hmb, hS3, hB3⟩
  have hmbl := hS3.lt
  have HB3 : Hid (Below W.heap.size W w3) := HBW1.out.trans (hB3.mono HBW1.out.size)
  have HS3 : Hid (SetIs w3 mb bz) := hS3
  have HSM3 : Hid (SetIs w3 W.heap.size (fun _ => false)) := HSM.out.kept hB3
  have h3s := hB3.size
  have hmb' : W.heap.size + 1 ≤ mb := by simpa using hmb
  have h3s' : W.heap.size + 1 ≤ w3.heap.size := by simpa using h3s
  have d3 := (HB3.out.cell (p := ⟨nb, 0, none⟩) hnl).trans d0
  have c43 := (HB3.out.cell (p := ⟨bb, k * 5 + 4, none⟩) hbl).trans c4
  have HX2 : Hid (Below w3.heap.size w3 ((w3.alloc (.cells #[.map (some W.heap.size)] 56)).alloc (.cells #[.map (some mb)] 56))) := ((Below.refl _ w3).alloc (Nat.le_refl _) _).alloc (by simp) _
  have d4 := (HX2.out.cell (p := ⟨nb, 0, none⟩) (by show nb < _; omega)).trans d3
  have c44 := (HX2.out.cell (p := ⟨bb, k * 5 + 4, none⟩) (by show bb < _; omega)).trans c43
  clear CB hB3 hS3 d0 c4 hmm h3s hmb
  gi_wp2_with (gi_at_call 47; refine (backward_in Fence.wide _ trivial rfl _ _ _ _).mono ?_; rintro e w' ⟨rfl, rfl⟩)
  have bD := ((Boxed.new w3 56 (.map (some W.heap.size))).alloc (.cells #[.map (some mb)] 56)).alloc (.cells #[.slice sa len sc] 85)
  have bM := (Boxed.new (w3.alloc (.cells #[.map (some W.heap.size)] 56)) 56 (.map (some mb))).alloc (.cells #[.slice sa len sc] 85)
  have bI := Boxed.new ((w3.alloc (.cells #[.map (some W.heap.size)] 56)).alloc (.cells #[.map (some mb)] 56)) 85 (.slice sa len sc)
  simp only [World.size_alloc] at bM bI
  have HX3 : Below w3.heap.size w3 (((w3.alloc (.cells #[.map (some W.heap.size)] 56)).alloc (.cells #[.map (some mb)] 56)).alloc (.cells #[.slice sa len sc] 85)) := HX2.out.alloc (by simp; omega) _
  obtain ⟨X, hX⟩ : ∃ X, Hid ((((w3.alloc (.cells #[.map (some W.heap.size)] 56)).alloc (.cells #[.map (some mb)] 56)).alloc (.cells #[.slice sa len sc] 85)) = X) := ⟨_, rfl⟩
  have hXs : X.heap.size = w3.heap.size + 1 + 1 + 1 := by rw [← hX.out]; simp
  rw [hX.out] at bD bM bI HX3 ⊢
  have HBX : Hid (Below W.heap.size W X) := HB3.out.trans (HX3.mono (by omega))
  have hdb : W.heap.size < w3.heap.size := by omega
  have hab : ∀ b o, sa = some ⟨b, o, none⟩ → 0 < len → b < X.heap.size ∧ b ≠ mb ∧ b ≠ W.heap.size := by
    intro b o e h0
    rcases HStp.out with q | ⟨b', e', hl, _⟩
    · omega
    · rw [e] at e'
      simp only [Option.some.injEq, Addr.mk.injEq] at e'
      obtain ⟨rfl, rfl, _⟩ := e'
      exact ⟨by omega, by omega, by omega⟩
  clear d3 d4 c43 c44 HX2
  refine wpIn_rangeFunc_ownG rfl (by omega) (gf := 64) (lb := #[.pointer (some ⟨w3.heap.size + 1 + 1, 0, none⟩)]) rfl trivial (enters_of Try.func64 (by kernel_rfl) rfl)
    (backwardT_stops Fence.wide 5 trivial rfl (by omega) (w3.heap.size + 1 + 1) X.heap.size mb W.heap.size sa len sc zs (by omega) X (Nat.le_refl _) (by omega) (by omega) (by omega) bI.cell (HStp.out.kept HBX.out) hab) keepTwo_t (keepTwo_b2 (Nat.le_refl _)) (Below.refl _ _) (fun _ => rfl)
    (fun pre W1 => (((SetIs W1 mb (stP zs bz pre).1 ∧ SetIs W1 W.heap.size (stP zs bz pre).2) ∧ W1.cell? ⟨w3.heap.size, 0, none⟩ = some (.map (some W.heap.size)) ∧ W1.cell? ⟨w3.heap.size + 1, 0, none⟩ = some (.map (some mb))) ∧ X.heap.size ≤ W1.heap.size) ∧ Below W.heap.size W W1)
    (fun _ _ _ => False)
    (OwnFrom.and (fun s A B row hs hg hr => ⟨⟨⟨hs.1.1.1.far hg (fun e => by have := (hr _ e.symm).1; omega), hs.1.1.2.far hg (fun e => by have := (hr _ e.symm).1; omega)⟩, cell_kept hs.1.2.1 hg (fun r e => (hr r e).2), cell_kept hs.1.2.2 hg (fun r e => (hr r e).2)⟩, Nat.le_trans hs.2 hg.size⟩) (ownFrom_below (Nat.le_refl _) (by omega)))
    (fun _ _ _ _ _ hs _ _ => hs)
    ⟨⟨⟨⟨HS3.out.kept HX3, HSM3.out.kept HX3⟩, bD.cell, bM.cell⟩, Nat.le_refl _⟩, HBX.out⟩
    (fun x => { tmps := #[.pointer (some ⟨nb, 0, none⟩), .int .i64 (k : Int), undef, undef, .map none, .pointer (some ⟨w3.heap.size, 0, none⟩), .pointer (some ⟨w3.heap.size + 1, 0, none⟩), .int .i64 (x.val : Int), stepAt zs x.val, .map (some W.heap.size), .pointer (some ⟨nb, 0, none⟩), .int .i64 (k : Int), .map (some mb), .pointer (some ⟨nb, 0, none⟩), .pointer (some ⟨nb, 0, none⟩), .pointer (some ⟨nb, 0, none⟩), .slice (some ⟨bb, 0, none⟩) n cap, .int .i64 (k : Int), .pointer (some ⟨bb, k * 5, none⟩), .pointer (some ⟨bb, k * 5 + 4, none⟩), .slice sa len sc, .func (.func 64) #[] #[.pointer (some ⟨w3.heap.size + 1 + 1, 0, none⟩)], .int .i64 (x.val : Int), stepAt zs x.val, undef, undef, undef, undef, undef, undef, undef, undef, undef, undef, undef], defers := [] }) ?assign ?body ?done ?stop
  case assign =>
    intro l x W1 K hK
    generalize stepAt zs x.val = sv at hK ⊢
    gi_wp2
    exact hK
  case body =>
    rintro l pre x W1 ⟨⟨⟨⟨hs, hd⟩, cD, cM⟩, hsz⟩, hB⟩ _
    have hstx : stepB zs x.val = true := HST.out x.val x.isLt
    have hx30 : x.val < 30 := by have := x.isLt; omega
    obtain ⟨g1, hg1⟩ : ∃ g1, Hid ((stP zs bz pre).1 = g1) := ⟨_, rfl⟩
    obtain ⟨g2, hg2⟩ : ∃ g2, Hid ((stP zs bz pre).2 = g2) := ⟨_, rfl⟩
    rw [hg1.out] at hs
    rw [hg2.out] at hd
    have CD := impl_dead _ _ _ _ _ mb g1 W1 hstx hs
    have C2 := fun w hw => impl_strong _ _ _ _ _ mb g1 w hstx hw
    change Calls _ _ #[stepAt zs x.val, .map (some mb)] _ _ at CD
    change ∀ w, _ → Calls _ _ #[.map (some mb), stepAt zs x.val] _ _ at C2
    have HP1 : Hid (∀ w', SetIs w' mb (stepBack false zs x.val g1) → SetIs w' mb (stP zs bz (pre ++ [x])).1) := fun w' q => by rw [stP_snoc]; show SetIs _ _ (stepBack false zs x.val (stP zs bz pre).1); rw [hg1.out]; exact q
    have HP2 : Hid (∀ w', SetIs w' W.heap.size (fun j => g2 j || (j == x.val && deadB (zs.getD (x.val * 5) 0) (zs.getD (x.val * 5 + 1) 0) g1)) → SetIs w' W.heap.size (stP zs bz (pre ++ [x])).2) := fun w' q => by rw [stP_snoc]; unfold deadF; rw [hg1.out, hg2.out]; exact q
    obtain ⟨c, hc⟩ : ∃ c, Hid (deadB (zs.getD (x.val * 5) 0) (zs.getD (x.val * 5 + 1) 0) g1 = c) := ⟨_, rfl⟩
    rw [hc.out] at CD HP2
    have HS1 : Hid (SetIs W1 mb g1) := hs
    have HD1 : Hid (SetIs W1 W.heap.size g2) := hd
    have HB1 : Hid (Below W.heap.size W W1) := hB
    have f5 : Fence.wide.fn 43 := trivial
    have f6 : Fence.wide.fn 23 := trivial
    have f7 : Fence.wide.fn 48 := trivial
    generalize stepAt zs x.val = sv at CD C2 ⊢
    clear hs hd hB hc
    gi_wp2_with fail
    refine (CallsIn.inRound l (callsIn_wide.2 CD)).mono ?_
    rintro e w5 ⟨rfl, hB5⟩
    have T5 : Two mb W.heap.size W1 w5 := Two.grown (row := none) (below_grown hB5 none) (fun r e => by cases e)
    have h5s := hB5.size
    have HS5 : Hid (SetIs w5 mb g1) := HS1.out.kept hB5
    have HD5 : Hid (SetIs w5 W.heap.size g2) := HD1.out.kept hB5
    have cD5 := T5.cell cD (by show w3.heap.size < _; omega) (by show w3.heap.size ≠ _; omega) (by show w3.heap.size ≠ _; omega)
    have cM5 := T5.cell cM (by show w3.heap.size + 1 < _; omega) (by show w3.heap.size + 1 ≠ _; omega) (by show w3.heap.size + 1 ≠ _; omega)
    have HT5 : Hid (Two mb W.heap.size W1 w5) := T5
    clear CD hB5 T5 cD cM
    cases c
    · gi_wp2_with fail
      refine (CallsIn.inRound l (callsIn_wide.2 (C2 _ HS5))).mono ?_
      rintro e w7 ⟨rfl, hS7, hG7⟩
      have T7 : Two mb W.heap.size W1 w7 := HT5.out.trans (Two.grown hG7 (fun r e => by cases e; exact Or.inl rfl))
      have T57 : Two mb W.heap.size w5 w7 := Two.grown hG7 (fun r e => by cases e; exact Or.inl rfl)
      have cD7 := T57.cell cD5 (by show w3.heap.size < _; omega) (by show w3.heap.size ≠ _; omega) (by show w3.heap.size ≠ _; omega)
      have cM7 := T57.cell cM5 (by show w3.heap.size + 1 < _; omega) (by show w3.heap.size + 1 ≠ _; omega) (by show w3.heap.size + 1 ≠ _; omega)
      have HD7 : SetIs w7 W.heap.size g2 := HD5.out.far hG7 (by simp; omega)
      gi_wp2
      exact ⟨T7.from (by omega) (by omega), T7.keep (by omega), ⟨⟨⟨HP1.out _ hS7, HP2.out _ (HD7.same (fun i _ => by simp))⟩, cD7, cM7⟩, Nat.le_trans hsz T7.size⟩, T7.below HB1.out (by omega) (by omega) (Nat.le_refl _)⟩
    · have HBA : Hid (Below w5.heap.size w5 (w5.alloc (.cells #[.int .i64 (x.val : Int)] 3))) := (Below.refl _ _).alloc (Nat.le_refl _) _
      have HI5 : Hid (Ints (w5.alloc (.cells #[.int .i64 (x.val : Int)] 3)) (some ⟨w5.heap.size, 0, none⟩) [(x.val : Int)]) := Or.inr ⟨w5.heap.size, 0, rfl, by simp, fun i hi => by
        have : i = 0 := by simpa using hi
        subst this
        simp⟩
      have HU5 : Hid (∀ j, j < 1 → 0 ≤ [(x.val : Int)].getD j 0 ∧ [(x.val : Int)].getD j 0 < 64) := fun j hj => by
        have : j = 0 := by omega
        subst this
        exact ⟨Int.natCast_nonneg _, by show (x.val : Int) < 64; omega⟩
      have CA := impl_add W.heap.size g2 (some ⟨w5.heap.size, 0, none⟩) 1 1 [(x.val : Int)] (w5.alloc (.cells #[.int .i64 (x.val : Int)] 3)) rfl (by omega) HI5 HU5 (HD5.out.kept HBA.out)
      gi_wp2_with fail
      refine (CallsIn.inRound l (callsIn_wide.2 CA)).mono ?_
      rintro e w6 ⟨rfl, hS6, hG6⟩
      clear CA
      have T56 : Two mb W.heap.size w5 w6 := (Two.grown (row := none) (below_grown HBA.out none) (fun r e => by cases e)).trans (Two.grown hG6 (fun r e => by cases e; exact Or.inr rfl))
      have HS6 : Hid (SetIs w6 mb g1) := (HS5.out.kept HBA.out).far hG6 (by simp; omega)
      have cD6 := T56.cell cD5 (by show w3.heap.size < _; omega) (by show w3.heap.size ≠ _; omega) (by show w3.heap.size ≠ _; omega)
      have cM6 := T56.cell cM5 (by show w3.heap.size + 1 < _; omega) (by show w3.heap.size + 1 ≠ _; omega) (by show w3.heap.size + 1 ≠ _; omega)
      have HD6 : Hid (SetIs w6 W.heap.size (addS g2 [(x.val : Int)])) := hS6
      have HT6 : Hid (Two mb W.heap.size W1 w6) := HT5.out.trans T56
      have h6s := T56.size
      clear hS6 hG6 cD5 cM5 T56
      gi_wp2_with fail
      refine (CallsIn.inRound l (callsIn_wide.2 (C2 _ HS6))).mono ?_
      rintro e w7 ⟨rfl, hS7, hG7⟩
      have T67 : Two mb W.heap.size w6 w7 := Two.grown hG7 (fun r e => by cases e; exact Or.inl rfl)
      have T7 : Two mb W.heap.size W1 w7 := HT6.out.trans T67
      have cD7 := T67.cell cD6 (by show w3.heap.size < _; omega) (by show w3.heap.size ≠ _; omega) (by show w3.heap.size ≠ _; omega)
      have cM7 := T67.cell cM6 (by show w3.heap.size + 1 < _; omega) (by show w3.heap.size + 1 ≠ _; omega) (by show w3.heap.size + 1 ≠ _; omega)
      have HD7 : SetIs w7 W.heap.size (addS g2 [(x.val : Int)]) := HD6.out.far hG7 (by simp; omega)
      gi_wp2
      exact ⟨T7.from (by omega) (by omega), T7.keep (by omega), ⟨⟨⟨HP1.out _ hS7, HP2.out _ (HD7.same (fun i _ => by
        unfold addS
        rw [Bool.and_true]
        congr 1
        by_cases q : i = x.val
        · subst q; simp
        · have q2 : ¬ (i : Int) = (x.val : Int) := by omega
          simp [q, q2]))⟩, cD7, cM7⟩, Nat.le_trans hsz T7.size⟩, T7.below HB1.out (by omega) (by omega) (Nat.le_refl _)⟩
  case done =>
    rintro D ys W1 hD rfl ⟨⟨⟨⟨hs, hd⟩, cD, cM⟩, hsz⟩, hB⟩ hK
    rw [stP_all zs len bz len (Nat.le_refl _)] at hd
    have HD1 : Hid (SetIs W1 W.heap.size (deadK zs len bz len)) := hd
    have HB1 : Hid (Below W.heap.size W W1) := hB
    clear hs hd hB
    gi_wp2
    refine ⟨by simp, .inl ⟨_, _, rfl, run_takeDeferred hK, ?_⟩⟩
    have hG := grownBy_putObj' W1 D (.deferred none)
    refine ⟨_, results_one rfl _ _ _, W.heap.size, rfl, Nat.le_refl _, HD1.out.far hG (by simp; omega), HB1.out.grown hG (by omega) (fun r e => by cases e; omega)⟩
  case stop =>
    rintro D c pre W _ _ h _
    exact h.elim

end Go.Proofs.Ytfmgbalfabpogaa.walks

namespace Go.Proofs.Ytfmgbalfabpogaa.walks
open Go.RowKit Go.Proofs.Ytfmgbalfabpogaa.math Go.Proofs.Ytfmgbalfabpogaa.ints
set_option linter.unusedVariables false
set_option maxRecDepth 100000

/-- The numbers of the dead steps of a block, rising. -/
def deadL (f : Nat → Bv) (s : Ls) (k : Nat) : List Int := risingTo (deadK (f k).zs (f k).len (behindL (f k) s) (f k).len) 64
def DeadAtAns (f : Nat → Bv) (n : Nat) (W : World) (e : Ending) (W' : World) : Prop :=
  ((flowB f n = true ∧ ∃ a c C s, e = .returned (.tuple #[.slice a n c, .bool true]) ∧ MineL W' W.heap.size a n (deadL f s) C ∧ FixL false f n s) ∨ (flowB f n = false ∧ e = .returned (.tuple #[.slice none 0 0, .bool false]))) ∧ Below W.heap.size W W'
set_option maxHeartbeats 4000000 in
theorem impl_deadat (a : Option Addr) (n cap : Nat) (f : Nat → Bv) (W : World) (hn : n ≤ 1048576) (hlen : Hid (∀ k, k < n → (f k).len ≤ 1048576)) (h : Hid (Flow W a n f)) :
    Calls Try.prog 13 #[.slice a n cap] W fun e W' => DeadAtAns f n W e W' := by
  obtain ⟨i0, hi, hz0, hz1, hz2⟩ := info_parts7 lists_info7
  have hnI : (n : Int) ≤ 1048576 := by omega
  go_enter Try.func13, Try.ntmps13
  go_wp2_with fail
  refine (impl_needs_s a n cap f W hn hlen h).mono ?_
  rintro e w1 ⟨(⟨hf, nb, bb, bc, M, s, rfl, hN, hF, A, S, hBk⟩ | ⟨hf, rfl⟩), hB1⟩
  rotate_left
  · have HA : Hid (DeadAtAns f n W (.returned (.tuple #[.slice none 0 0, .bool false])) w1) := ⟨Or.inr ⟨hf, rfl⟩, hB1⟩
    clear hf hB1
    go_wp2
    go_ret2
    exact HA.out
  have HF : Hid (flowB f n = true) := hf
  have HN : Hid (NeedsAt w1 nb bb n bc M s) := hN
  have HX : Hid (FixL false f n s) := hF
  have HBk : Hid (BlocksAt w1 bb n A S f) := hBk
  have HB1 : Hid (Below W.heap.size W w1) := hB1
  have hn8 : n ≤ 8 := (flow_out hf).1.2
  have hn8I : (n : Int) ≤ 8 := by omega
  clear hf hN hF hB1 hBk
  go_wp2
  go_loopw [6, 17] (fun vl vi wr => ∃ (k : Nat) (X : Nat → Value) (v : Value), k ≤ n ∧ vi = .int .i64 k ∧ v = vl ∧ Hid (OwnL wr w1.heap.size v k (deadL f s) X) ∧ Hid (Below w1.heap.size w1 wr)) (fun _ vi _ => n - (intOf vi).toNat)
  case atStart => exact ⟨0, fun _ => .slice none 0 0, _, Nat.zero_le _, rfl, rfl, ownL_nil _ _ _ _, Below.refl _ _⟩
  case round =>
    obtain ⟨k, X, v, hk, rfl, rfl, HO, HB⟩ := hrel
    by_cases hlt : k < n
    · have hWs := HB.out.size
      have HNr : Hid (NeedsAt wr nb bb n bc M s) := HN.out.kept HB.out
      have HBr : Hid (BlocksAt wr bb n A S f) := HBk.out.kept HB.out
      go_wp2_with fail
      refine (impl_deadin nb bb n bc k A S f M s _ HF hlt HBr HNr).mono ?_
      rintro e w2 ⟨db, rfl, hdb, hS2, hB2⟩
      have HO2 : Hid (OwnL w2 w1.heap.size v k (deadL f s) X) := HO.out.grow hB2
      have HB2 : Hid (Below w1.heap.size w1 w2) := HB.out.trans (hB2.mono hWs)
      have HR := impl_rise db _ w2 hS2
      rw [listS_rising] at HR
      change Calls _ _ _ _ fun e w' => RiseAns (deadL f s k) w2 e w' at HR
      have h2s := HB2.out.size
      clear hS2 hB2 hdb HO HB
      go_wp2_with fail
      refine HR.mono ?_
      rintro e w3 ⟨u, rfl, hu, hB3⟩
      clear HR
      obtain ⟨ua, uc, hue, _⟩ := hu.mine
      obtain ⟨ul, hul⟩ : ∃ ul, Hid ((deadL f s k).length = ul) := ⟨_, rfl⟩
      rw [hul.out] at hue
      subst hue
      have HU : Hid (Go.Proofs.Ytfmgbalfabpogaa.ints.Own w3 w2.heap.size (.slice ua ul uc) (deadL f s k)) := hu
      have HB3 : Hid (Below w2.heap.size w2 w3) := hB3
      have HO3 : Hid (OwnL w3 w1.heap.size v k (deadL f s) X) := HO2.out.grow hB3
      have HW3 : Hid (Below w1.heap.size w1 w3) := HB2.out.trans (hB3.mono h2s)
      have hW3s := HW3.out.size
      clear hu hB3
      go_wp2_with (first
        | (at_builtin; refine wpList_append_own _ rfl _ _ 31 rfl w1.heap.size 48 i0 (.slice none 0 0) 1 24 Try.underlying31 hi hz0 hz1 hz2 rfl (by decide) _ k ((List.range k).map X) rfl (World.ownsRow.alloc HO3.out.row _) ⟨w3.heap.size, 0, none⟩ 1 1 [.slice ua ul uc] rfl rfl (new_cell w3 _ _) (by intro q hq; simp at hq; subst hq; rfl) (by unfold maxLen; omega) (by omega) (by simp; omega) ?_)
        | fail)
      intro v4 w4 hown hgrow _
      have HO4 : Hid (OwnL w4 w1.heap.size v4 (k + 1) (deadL f s) (updX X k (.slice ua ul uc))) := HO2.out.snoc (B1 := 0) h2s HB3.out HU.out hown hgrow
      have HB4 : Hid (Below w1.heap.size w1 w4) := (HW3.out.alloc hW3s _).grown hgrow (by simp; omega) (fun j hj => (World.ownsRow.lt HO3.out.row j hj).1)
      clear hown hgrow
      go_wp2
      go_roundw
      case rel => exact ⟨k + 1, _, _, by omega, by go_num, rfl, HO4, HB4⟩
      case measure => simp [intOf]; omega
    · have HE : Hid (k = n) := by show k = n; omega
      obtain ⟨ra, rc, rfl, hM⟩ := HO.out.mine
      have HA : Hid (DeadAtAns f n W (.returned (.tuple #[.slice ra k rc, .bool true])) wr) := ⟨Or.inl ⟨HF.out, ra, rc, _, s, by rw [HE.out], by rw [← HE.out]; exact lists_low hM HB1.out.size, HX.out⟩, HB1.out.trans (HB.out.mono HB1.out.size)⟩
      clear hM
      go_wp2
      go_ret2
      exact HA.out

end Go.Proofs.Ytfmgbalfabpogaa.walks

namespace Go.Proofs.Ytfmgbalfabpogaa.walks
open Go.RowKit Go.Proofs.Ytfmgbalfabpogaa.math Go.Proofs.Ytfmgbalfabpogaa.ints
set_option linter.unusedVariables false
set_option maxRecDepth 100000

theorem step_append_own7 {P : Program} (w : World) {ops : Array Oper} {o : Oper} {a : Act} {K : Act → World → Prop} {Q : Exit → Act → World → Prop} {E : Prop} (hgd : o.guard = none) (s x : Operand) (t : TypeId)
    (ho : o.op = .call { callee := .builtin .append, args := #[s, x], argTypes := #[t, t] })
    (base : Nat) (e : TypeId) (i : TypeInfo) (z : Value) (size bytes : Nat) (ht : P.underlying t = some (.slice e)) (hi : P.info? e = some i) (hz : i.zero = some z)
    (hsize : i.size = size) (hby : i.bytes = bytes) (hzs : z.cells.size = size) (hsz : 0 < size)
    (v : Value) (n : Nat) (xs : List Value) (hs : a.eval s = v) (hown : w.ownsRow base e size v n xs)
    (ad : Addr) (m c : Nat) (news : List Value) (hx : a.eval x = .slice (some ad) m c) (hl : news.length = m * size) (hnews : ∀ j u, news[j]? = some u → w.cell? (ad.add j) = some u) (h1 : ∀ u ∈ news, u.oneCell' = true)
    (h63 : n + m ≤ maxLen) (hbytes : (n + m) * bytes ≤ 140737488355328) (hbase : base ≤ w.heap.size)
    (h : ∀ v' w', w'.ownsRow base e size v' (n + m) (xs ++ news) → w.grownBy w' v.ownBlock → (v' = .slice none 0 0 ↔ v = .slice none 0 0 ∧ m = 0) → K (a.put o.dst v') w') :
    if Region.wanted o (yielded ops a.tmps) = true then Oper.wp P o a w K Q else E := by
  have hw : Region.wanted o (yielded ops a.tmps) = true := by simp [Region.wanted, hgd]
  rw [if_pos hw]
  exact wp_append_own w s x t ho base e i z size bytes ht hi hz hsize hby hzs hsz v n xs hs hown ad m c news hx hl hnews h1 h63 hbytes hbase h
theorem one_slice (a : Option Addr) (l c : Nat) : ∀ u ∈ [Value.slice a l c], u.oneCell' = true := by intro q hq; simp at hq; subst hq; rfl
theorem grown_box {w w' : World} {g : Nat} {row : Option Nat} {v0 v1 v2 v3 : Value} (hg : w.grownBy w' row) (hr : ∀ j, row = some j → j < g) (h : w.cell? ⟨g, 0, none⟩ = some v0 ∧ w.cell? ⟨g, 1, none⟩ = some v1 ∧ w.cell? ⟨g, 2, none⟩ = some v2 ∧ w.cell? ⟨g, 3, none⟩ = some v3) (hl : g < w.heap.size) : w'.cell? ⟨g, 0, none⟩ = some v0 ∧ w'.cell? ⟨g, 1, none⟩ = some v1 ∧ w'.cell? ⟨g, 2, none⟩ = some v2 ∧ w'.cell? ⟨g, 3, none⟩ = some v3 := by
  have hne : some g ≠ row := fun e => by have := hr g e.symm; omega
  exact ⟨hg.cell h.1 (by simpa using hne), hg.cell h.2.1 (by simpa using hne), hg.cell h.2.2.1 (by simpa using hne), hg.cell h.2.2.2 (by simpa using hne)⟩
def DeadsAns (f : Nat → Bv) (n : Nat) (W : World) (e : Ending) (W' : World) : Prop := ∃ a c C s, e = .returned (.slice a n c) ∧ MineL W' W.heap.size a n (deadL f s) C ∧ FixL false f n s ∧ Below W.heap.size W W'
set_option maxHeartbeats 8000000 in
theorem spec_deadat7 (a : Option Addr) (n cap : Nat) (f : Nat → Bv) (W : World) (hf : Hid (flowB f n = true)) (hlen : Hid (∀ k, k < n → (f k).len ≤ 1048576)) (h : Hid (Flow W a n f)) :
    Calls Try.prog 19 #[.slice a n cap] W fun e W' => DeadsAns f n W e W' := by
  obtain ⟨i0, hi, hz0, hz1, hz2⟩ := info_parts7 lists_info7
  have hn8 : n ≤ 8 := (flow_out hf.out).1.2
  have hn8I : (n : Int) ≤ 8 := by omega
  go_enter Try.func19, Try.ntmps19
  go_wp2_with fail
  refine (spec_all7 a n cap f false W hf hlen h).mono ?_
  rintro e w1 ⟨ib, V, s, rfl, hI1, hF1, hB1⟩
  have HI : Hid (InL w1 ib n V s) := hI1
  have HX : Hid (FixL false f n s) := hF1
  have HB1 : Hid (Below W.heap.size W w1) := hB1
  have hw1 := hB1.size
  clear hI1 hF1 hB1
  go_wp2
  go_loopw [4, 11] (fun vl vi wr => ∃ (k : Nat) (X : Nat → Value) (v : Value), k ≤ n ∧ vi = .int .i64 k ∧ v = vl ∧ Hid (OwnL wr w1.heap.size v k (deadL f s) X) ∧ Hid (Below w1.heap.size w1 wr)) (fun _ vi _ => n - (intOf vi).toNat)
  case atStart => exact ⟨0, fun _ => .slice none 0 0, _, Nat.zero_le _, rfl, rfl, ownL_nil _ _ _ _, Below.refl _ _⟩
  case round =>
    obtain ⟨k, X, v, hk, rfl, rfl, HO, HBr⟩ := hrel
    have HB : Hid (Below W.heap.size W wr) := HB1.out.trans (HBr.out.mono hw1)
    by_cases hlt : k < n
    · obtain ⟨b, off, ca, cc, ha, hb, c0, c1, c2, c3, hI, hZ⟩ := flow_at h.out HB.out hlt
      subst ha
      have hblk := (flow_out hf.out).2 k hlt
      simp only [blockB, Bool.and_eq_true] at hblk
      have HC : Hid (∀ j, j < (f k).len → stepB (f k).zs j = true) := (code_out hblk.1.1.1).2
      have hl30 : (f k).len ≤ 30 := (code_out hblk.1.1.1).1
      have ht := inR_out hblk.1.1.2
      have hth := inR_out hblk.1.2
      have hel := inR_out hblk.2
      have HZ : Hid ((f k).zs.length = (f k).len * 5) := hZ
      have HCI : Hid (Ints wr ca (f k).zs) := hI
      have HBD : Hid (∀ i, behindL (f k) s i = ((nextL s (f k).th i || nextL s (f k).el i) || (!((f k).th == (f k).el) && i == (f k).t.toNat))) := fun i => rfl
      have hbs := HBr.out.size
      obtain ⟨bz, hbz⟩ : ∃ bz, Hid (behindL (f k) s = bz) := ⟨_, rfl⟩
      have HDL : Hid (deadL f s k = risingTo (deadK (f k).zs (f k).len bz (f k).len) 64) := by show _ = _; rw [← hbz.out]; rfl
      generalize (f k).zs = zs at HZ HCI HC HDL
      generalize (f k).len = len at c0 HZ HC hl30 HDL
      generalize (f k).t = t at c1 ht HBD
      generalize (f k).th = th at c2 hth HBD
      generalize (f k).el = el at c3 hel HBD
      have HBR : Hid (risingTo (fun i => (nextL s th i || nextL s el i) || (!(th == el) && i == t.toNat)) 8 = risingTo bz 8) := by
        show _ = _
        rw [← hbz.out]
        exact rising_congr 8 (fun i _ => (HBD.out i).symm)
      have Ht : Hid (0 ≤ t ∧ t ≤ 7) := ht
      have Hth : Hid (th < (n : Int)) := by show th < _; omega
      have Hel : Hid (el < (n : Int)) := by show el < _; omega
      clear hI hZ hblk ht hth hel HBD
      go_upto_region 6 with fail
      have HBA : Hid (Below wr.heap.size wr (wr.alloc (.cells #[.slice ca len cc, .int .i64 t, .int .i64 th, .int .i64 el] 44))) := (Below.refl _ _).alloc (Nat.le_refl _) _
      have S0 : (wr.alloc (.cells #[.slice ca len cc, .int .i64 t, .int .i64 th, .int .i64 el] 44)).cell? ⟨wr.heap.size, 0, none⟩ = some (.slice ca len cc) ∧ (wr.alloc (.cells #[.slice ca len cc, .int .i64 t, .int .i64 th, .int .i64 el] 44)).cell? ⟨wr.heap.size, 1, none⟩ = some (.int .i64 t) ∧ (wr.alloc (.cells #[.slice ca len cc, .int .i64 t, .int .i64 th, .int .i64 el] 44)).cell? ⟨wr.heap.size, 2, none⟩ = some (.int .i64 th) ∧ (wr.alloc (.cells #[.slice ca len cc, .int .i64 t, .int .i64 th, .int .i64 el] 44)).cell? ⟨wr.heap.size, 3, none⟩ = some (.int .i64 el) := by simp
      have hgl : wr.heap.size < (wr.alloc (.cells #[.slice ca len cc, .int .i64 t, .int .i64 th, .int .i64 el] 44)).heap.size := by simp
      obtain ⟨W1, hW1⟩ : ∃ W1, Hid (wr.alloc (.cells #[.slice ca len cc, .int .i64 t, .int .i64 th, .int .i64 el] 44) = W1) := ⟨_, rfl⟩
      rw [hW1.out] at HBA S0 hgl ⊢
      have HI1 : Hid (InL W1 ib n V s) := (HI.out.kept HBr.out).kept HBA.out
      have HC1 : Hid (Ints W1 ca zs) := HCI.out.kept HBA.out
      have HO1 : Hid (OwnL W1 w1.heap.size v k (deadL f s) X) := HO.out.grow HBA.out
      have HBW1 : Hid (Below w1.heap.size w1 W1) := HBr.out.trans (HBA.out.mono hbs)
      have hW1s := HBW1.out.size
      have HVB : Hid (∀ j, v.ownBlock = some j → j < wr.heap.size) := fun j hj => (World.ownsRow.lt HO.out.row j hj).2
      obtain ⟨gx, hgx⟩ : ∃ gx, Hid (wr.heap.size = gx) := ⟨_, rfl⟩
      rw [hgx.out] at S0 hgl HVB ⊢
      have SD : W1.drew.cell? ⟨gx, 0, none⟩ = some (.slice ca len cc) ∧ W1.drew.cell? ⟨gx, 1, none⟩ = some (.int .i64 t) ∧ W1.drew.cell? ⟨gx, 2, none⟩ = some (.int .i64 th) ∧ W1.drew.cell? ⟨gx, 3, none⟩ = some (.int .i64 el) := S0
      have hmax : k + 1 ≤ maxLen := by unfold maxLen; omega
      have hby : (k + 1) * 24 ≤ 140737488355328 := by omega
      clear c0 c1 c2 c3
      go_region_held3 (fun w' => w'.cell? ⟨gx, 0, none⟩ = some (.slice ca len cc) ∧ w'.cell? ⟨gx, 1, none⟩ = some (.int .i64 t) ∧ w'.cell? ⟨gx, 2, none⟩ = some (.int .i64 th) ∧ w'.cell? ⟨gx, 3, none⟩ = some (.int .i64 el))
        (first | with_reducible exact SD | with_reducible exact S5 | with_reducible exact S6 | with_reducible exact S6a | with_reducible exact S7 | go_keep)
        (first
          | (go_at_call 39; refine (spec_behind7 ca len cc t th el ib n n V s _ hn8 Ht.out Hth.out Hel.out (HI1.out.kept (Below.refl _ W1).drew)).mono ?_; rw [HBR.out]; rintro e w5 ⟨v5, rfl, hL5, hB5⟩; have S5 := box_kept7 hB5 hgl SD)
          | (go_at_call 38; refine (spec_dead7 ca len cc t th el zs _ bz _ HZ hl30 HC ((HC1.out.kept (Below.refl _ W1).drew).kept hB5) hL5).mono ?_; rw [← HDL.out]; rintro e w6 ⟨v6, rfl, hO6, hB6⟩; have S6 := box_kept7 hB6 (Nat.lt_of_lt_of_le hgl hB5.size) S5; obtain ⟨ua, uc, hue, hMu⟩ := hO6.mine; obtain ⟨ul, hul⟩ : ∃ ul, Hid ((deadL f s k).length = ul) := ⟨_, rfl⟩; rw [hul.out] at hue; subst hue; have BD6 : Below W1.heap.size W1 w6 := (Below.refl _ W1).drew.trans (hB5.trans (hB6.mono hB5.size)); have HU6 : Hid (ints.Own w6 w5.heap.size (.slice ua ul uc) (deadL f s k)) := hO6; have HB56 : Hid (Below w5.heap.size w5 w6) := hB6; have HBD6 : Hid (Below W1.heap.size W1 w6) := BD6; have HOS : Hid ((w6.alloc (.cells #[.slice ua ul uc] 48)).ownsRow w1.heap.size 48 1 v k ((List.range k).map X)) := World.ownsRow.alloc (HO1.out.grow BD6).row _; have hs15 := hB5.size; have hs16 := BD6.size; have hb6 := Nat.le_trans (Nat.le_trans hW1s hs16) ((Below.refl w6.heap.size w6).alloc (Nat.le_refl _) (.cells #[.slice ua ul uc] 48)).size; have hg6 := Nat.lt_of_lt_of_le (Nat.lt_of_lt_of_le hgl hs16) ((Below.refl w6.heap.size w6).alloc (Nat.le_refl _) (.cells #[.slice ua ul uc] 48)).size; have S6a := box_kept7 ((Below.refl _ w6).alloc (Nat.le_refl _) (.cells #[.slice ua ul uc] 48)) (Nat.lt_of_lt_of_le hgl hs16) S6; clear hO6 hMu hL5)
          | (refine step_append_own7 _ (by rfl) _ _ 31 (by rfl) w1.heap.size 48 i0 (.slice none 0 0) 1 24 Try.underlying31 hi hz0 hz1 hz2 rfl (by decide) v k ((List.range k).map X) (by rfl) HOS.out ⟨w6.heap.size, 0, none⟩ 1 1 [.slice ua ul uc] (by rfl) rfl (new_cell w6 _ _) (one_slice _ _ _) hmax hby hb6 ?_; intro v7 w7 hown7 hgrow7 hnil7; have S7 := grown_box hgrow7 (HVB.out) S6a hg6; have HG7 : Hid ((w6.alloc (.cells #[.slice ua ul uc] 48)).grownBy w7 v.ownBlock) := hgrow7; have HW7 : Hid (w7.ownsRow w1.heap.size 48 1 v7 (k + 1) ((List.range k).map X ++ [.slice ua ul uc])) := hown7; clear hown7 hgrow7 hnil7))
      have HO7 : Hid (OwnL w7 w1.heap.size v7 (k + 1) (deadL f s) (updX X k (.slice ua ul uc))) := HO1.out.snoc (B1 := 0) hW1s HBD6.out (ownsRow_base_a HU6.out hs15) HW7.out HG7.out
      have HB7 : Hid (Below w1.heap.size w1 w7) := ((HBW1.out.trans (HBD6.out.mono hW1s)).alloc (Nat.le_trans hW1s hs16) _).grown HG7.out (by simp; omega) (fun j hj => (World.ownsRow.lt HO.out.row j hj).1)
      clear HW7 HG7 HOS HU6 HB56 HBD6 S5 S6 S6a S7 SD S0 hs15 hs16 hb6 hg6 hmax hby
      go_wp2
      go_roundw
      case rel => exact ⟨k + 1, _, v7, by omega, by go_num, rfl, HO7, HB7⟩
      case measure => simp [intOf]; omega
    · have HE : Hid (k = n) := by show k = n; omega
      obtain ⟨ra, rc, rfl, hM⟩ := HO.out.mine
      have HA : Hid (DeadsAns f n W (.returned (.slice ra k rc)) wr) := ⟨ra, rc, _, s, by rw [HE.out], by rw [← HE.out]; exact lists_low hM hw1, HX.out, HB.out⟩
      clear hM
      go_wp2
      go_ret
      exact HA.out

set_option maxHeartbeats 2000000 in
theorem spec_deadat (a : Option Addr) (n cap : Nat) (f : Nat → Bv) (W : World) (hn : n ≤ 1048576) (hlen : Hid (∀ k, k < n → (f k).len ≤ 1048576)) (h : Hid (Flow W a n f)) :
    Calls Try.prog 12 #[.slice a n cap] W fun e W' => DeadAtAns f n W e W' := by
  cases hf : flowB f n
  · have HF : Hid (flowB f n = false) := hf
    go_enter Try.func12, Try.ntmps12
    go_wp2_with fail
    refine (spec_flow _ _ _ f _ hn hlen h).mono ?_
    rw [hf]
    rintro e w1 ⟨rfl, hB⟩
    have HR : Hid (DeadAtAns f n W (.returned (.tuple #[.slice none 0 0, .bool false])) w1) := ⟨Or.inr ⟨hf, rfl⟩, hB⟩
    clear hB hf
    go_wp2
    go_ret2
    exact HR.out
  · have HF : Hid (flowB f n = true) := hf
    go_enter Try.func12, Try.ntmps12
    go_wp2_with fail
    refine (spec_flow _ _ _ f _ hn hlen h).mono ?_
    rw [hf]
    rintro e w1 ⟨rfl, hB⟩
    have HB : Hid (Below W.heap.size W w1) := hB
    have h1 : Hid (Flow w1 a n f) := h.out.kept hB
    clear hB hf
    go_wp2_with fail
    refine (spec_deadat7 _ _ _ f _ HF hlen h1).mono ?_
    rintro e w2 ⟨ra, rc, C, s, rfl, hM, hX, hB2⟩
    have HR : Hid (DeadAtAns f n W (.returned (.tuple #[.slice ra n rc, .bool true])) w2) := ⟨Or.inl ⟨HF.out, ra, rc, C, s, rfl, lists_low hM HB.out.size, hX⟩, HB.out.trans (hB2.mono HB.out.size)⟩
    clear hM hX hB2
    go_wp2
    go_ret2
    exact HR.out
end Go.Proofs.Ytfmgbalfabpogaa.walks

namespace Go.Proofs.Ytfmgbalfabpogaa.fnExactDeadAt
open Go.ChangeShapes Go.WideShapes Go.ChangeAt Go.RowKit
open Go.ChangeMaps (open_string shut_string)
open Go.Proofs.Ytfmgbalfabpogaa.math
open Go.Proofs.Ytfmgbalfabpogaa.ints
open Go.Proofs.Ytfmgbalfabpogaa.walks
set_option linter.unusedVariables false

theorem own : ownKnob Try.prog.godebug = none := by kernel_rfl
theorem laidOut : laidOutB Try.prog = true := by kernel_rfl

theorem onlyB_lists {W W' : World} {b E B : Nat} {a : Option Addr} {n : Nat} {Z : Nat → List Int} {C : Nat → Option Addr × Nat} (h : OnlyB W W' b E) (hE : E ≤ B) (hi : MineL W B a n Z C) : MineL W' B a n Z C := by
  refine ⟨?_, fun k hk => h.mine hE (hi.row k hk), hi.ap⟩
  rcases hi.top with q | ⟨g, e, h0, hl, hc, hn⟩
  · exact Or.inl q
  · exact Or.inr ⟨g, e, h0, by rw [h.size]; exact hl, fun k hk => (World.cell?_of_block (h.block g hl (Or.inr (by omega)))).trans (hc k hk), hn⟩
theorem fix_from {p : Bool} {f : Nat → Bv} {n : Nat} (hf : flowB f n = true) : ∀ (m : Nat) (s : Ls), UpL p f n s → 65 ≤ sumL s n + m → ∃ t, FixL p f n t
  | 0, s, _, h => by have := sum_64 hf s; omega
  | m + 1, s, hu, h => by
    by_cases q : ∃ k, k < n ∧ cntL (s k) < cntL (aheadL p f s k)
    · obtain ⟨k, hk, q⟩ := q
      have h2 := sumL_less (upd_le hu hk) hk (by rw [updL_same]; exact q)
      exact fix_from hf m _ (up_step hf hu hk) (by omega)
    · exact ⟨s, hu, fun k hk i => (step_still hf hu hk (Nat.le_of_not_lt fun r => q ⟨k, hk, r⟩)).1 i⟩
theorem lists_of {w : World} {ib n : Nat} {V : Nat → Value} {s s' : Ls} (h : InL w ib n V s) (e : SameL n s s') : Lists w (some ⟨ib, 0, none⟩) n (fun k => risingTo (s' k) 8) := by
  refine Or.inr ⟨ib, rfl, h.lt, fun k hk => ?_⟩
  have e1 : risingTo (s k) 8 = risingTo (s' k) 8 := rising_congr 8 (fun i _ => e k hk i)
  obtain ⟨a, c, q, hi⟩ := (h.row k hk).ints
  exact ⟨a, c, by rw [(h.cell k hk).1, q, e1], by show Ints w a (risingTo (s' k) 8); rw [← e1]; exact hi⟩
theorem dead_same {n k : Nat} {f : Nat → Bv} {s s' : Ls} (hf : flowB f n = true) (hk : k < n) (h : SameL n s s') : deadL f s k = deadL f s' k := by
  have hb := (flow_out hf).2 k hk
  simp only [blockB, Bool.and_eq_true] at hb
  have h1 := inR_out hb.1.2
  have h2 := inR_out hb.2
  have e : behindL (f k) s = behindL (f k) s' := by
    funext i
    cases q : behindL (f k) s i
    · cases q' : behindL (f k) s' i
      · rfl
      · rw [behind_mono h.symm.le (by omega) (by omega) q'] at q; cases q
    · exact (behind_mono h.le (by omega) (by omega) q).symm
  unfold deadL
  rw [e]
def SpecTells (len0 : Nat) (f : Nat → Bv) (Z : Nat → List Int) (t : Nat) (c : Bool) : Prop := ∀ (W : World) (a0 : Option Addr) (cap0 : Nat), len0 ≤ 1048576 → (∀ k, k < len0 → (f k).len ≤ 1048576) → Flow W a0 len0 f → Calls Try.prog 12 #[.slice a0 len0 cap0] W fun e W' => ∃ g d, e = .returned (.tuple #[.slice g t d, .bool c]) ∧ Lists W' g t Z ∧ Below W.heap.size W W'
def ImplTells (len0 : Nat) (f : Nat → Bv) (Z : Nat → List Int) (t : Nat) (c : Bool) : Prop := ∀ (W : World) (a0 : Option Addr) (cap0 : Nat), len0 ≤ 1048576 → (∀ k, k < len0 → (f k).len ≤ 1048576) → Flow W a0 len0 f → Calls Try.prog 13 #[.slice a0 len0 cap0] W fun e W' => ∃ g d C, e = .returned (.tuple #[.slice g t d, .bool c]) ∧ MineL W' W.heap.size g t Z C ∧ Below W.heap.size W W'
set_option maxHeartbeats 16000000 in
set_option maxRecDepth 100000 in
theorem walk_of (a0 : Option Addr) (cap0 : Nat) (len0 : Nat) (f : Nat → Bv) (Z : Nat → List Int) (t : Nat) (c : Bool) (w : World) (w0 : Hid (Flow w a0 len0 f)) (n0 : Hid (∀ k, k < len0 → (f k).len ≤ maxLen)) (b0 : len0 ≤ 140737488351232) (ht : t ≤ 8) (hz : Hid (∀ k, k < t → (Z k).length ≤ 1048576)) (Hs : Hid (SpecTells len0 f Z t c)) (Hi : Hid (ImplTells len0 f Z t c)) :
    Calls Try.prog 4 #[.slice a0 len0 cap0] w fun e w' => e = .returned (.bool true) ∧ Below w.heap.size w w' := by
  have hT : (t : Int) ≤ 8 := by omega
  have hU : (0 : Int) ≤ (t : Int) := Int.natCast_nonneg _
  have htb : t ≤ 1048576 := by omega
  have hof := offs_le (fun k => (Z k).length) 1048576 t hz.out
  obtain ⟨q, hq⟩ : ∃ q, Hid (offs (fun k => (Z k).length) t = q) := ⟨_, rfl⟩
  have hq1 : (q : Int) ≤ 8388608 := by rw [hq.out] at hof; omega
  have hq0 : (0 : Int) ≤ (q : Int) := Int.natCast_nonneg _
  clear hof
  go_enter Try.func4, Try.ntmps4
  go_wp2_with fail
  refine (flow_size a0 len0 cap0 f w b0 (fun k hk => Nat.le_trans (n0.out k hk) (by unfold maxLen; omega)) w0).mono ?_
  rintro e w1 ⟨v, rfl, hv, hB⟩
  have BW1 : Hid (Below w.heap.size w w1) := hB
  clear hB
  rcases hv with ⟨hl, hv0, hn⟩ | rfl
  rotate_left
  · go_wp2
    go_ret
    exact ⟨rfl, BW1.out⟩
  have HL : Hid (∀ k, k < len0 → (f k).len ≤ 1048576) := by
    show ∀ k, k < len0 → (f k).len ≤ 1048576
    intro k hk
    have := left_len hk (by rw [← hl]; exact hv0)
    omega
  clear hl n0
  have hL0 : (len0 : Int) ≤ 1048576 := by omega
  go_wp2_with fail
  refine (flow_list2 _ _ _ f _ hn HL (w0.out.kept BW1.out)).mono ?_
  rintro e w2 ⟨A0g, rfl, hM, hB⟩
  have A0_2 : Hid (MineB w2 w1.heap.size w2.heap.size len0 f A0g) := hM
  have BW2 : Hid (Below w.heap.size w w2) := BW1.out.trans (hB.mono BW1.out.size)
  clear hM hB
  go_wp2_with fail
  refine (Hs.out _ _ _ hn HL.out A0_2.out.flow).mono ?_
  rintro e w3 ⟨sa, sc, rfl, hS, hB⟩
  have S0 : Hid (Lists w3 sa t Z) := hS
  have BW3 : Hid (Below w.heap.size w w3) := BW2.out.trans (hB.mono BW2.out.size)
  clear hB hS
  go_wp2_with fail
  refine (flow_list2 _ _ _ f _ hn HL (w0.out.kept BW3.out)).mono ?_
  rintro e w4 ⟨X0g, rfl, hM, hB⟩
  have X0_4 : Hid (MineB w4 w3.heap.size w4.heap.size len0 f X0g) := hM
  have BW4 : Hid (Below w.heap.size w w4) := BW3.out.trans (hB.mono BW3.out.size)
  have BS4 : Hid (Below w3.heap.size w3 w4) := hB
  have SZ4 : Hid (w3.heap.size ≤ w4.heap.size) := hB.size
  have HX0 : Hid (w3.heap.size < w4.heap.size) := hM.lt
  clear hM hB
  go_wp2_with fail
  refine (Hi.out _ _ _ hn HL.out X0_4.out.flow).mono ?_
  rintro e w5 ⟨ga, gc, gC, rfl, hM, hB⟩
  have G_5 : Hid (MineL w5 w4.heap.size ga t Z gC) := hM
  have BW5 : Hid (Below w.heap.size w w5) := BW4.out.trans (hB.mono BW4.out.size)
  have BS5 : Hid (Below w3.heap.size w3 w5) := BS4.out.trans (hB.mono BS4.out.size)
  have SZ5 : Hid (w4.heap.size ≤ w5.heap.size) := hB.size
  have X0_5 : Hid (MineB w5 w3.heap.size w4.heap.size len0 f X0g) := X0_4.out.kept hB
  clear hB hM
  go_wp2_with fail
  refine (eq_lists _ _ _ _ _ Z _ htb hz G_5.out.lists (S0.out.kept BS5.out)).mono ?_
  rintro e w6 ⟨rfl, hB⟩
  have BW6 : Hid (Below w.heap.size w w6) := BW5.out.trans (hB.mono BW5.out.size)
  have BS6 : Hid (Below w3.heap.size w3 w6) := BS5.out.trans (hB.mono BS5.out.size)
  have SZ6 : Hid (w5.heap.size ≤ w6.heap.size) := hB.size
  have X0_6 : Hid (MineB w6 w3.heap.size w4.heap.size len0 f X0g) := X0_5.out.kept hB
  have G_6 : Hid (MineL w6 w4.heap.size ga t Z gC) := G_5.out.kept hB
  clear hB
  go_wp2_with fail
  refine (flow_list2 _ _ _ f _ hn HL (w0.out.kept BW6.out)).mono ?_
  rintro e w7 ⟨Z0g, rfl, hM, hB⟩
  have Z0_7 : Hid (MineB w7 w6.heap.size w7.heap.size len0 f Z0g) := hM
  have BW7 : Hid (Below w.heap.size w w7) := BW6.out.trans (hB.mono BW6.out.size)
  have BS7 : Hid (Below w3.heap.size w3 w7) := BS6.out.trans (hB.mono BS6.out.size)
  have SZ7 : Hid (w6.heap.size ≤ w7.heap.size) := hB.size
  have X0_7 : Hid (MineB w7 w3.heap.size w4.heap.size len0 f X0g) := X0_6.out.kept hB
  have G_7 : Hid (MineL w7 w4.heap.size ga t Z gC) := G_6.out.kept hB
  clear hM hB
  go_wp2_with fail
  refine (flow_same _ _ _ _ _ f _ hn HL X0_7.out.flow Z0_7.out.flow).mono ?_
  rintro e w8 ⟨rfl, hB⟩
  have BW8 : Hid (Below w.heap.size w w8) := BW7.out.trans (hB.mono BW7.out.size)
  have BS8 : Hid (Below w3.heap.size w3 w8) := BS7.out.trans (hB.mono BS7.out.size)
  have SZ8 : Hid (w7.heap.size ≤ w8.heap.size) := hB.size
  have X0_8 : Hid (MineB w8 w3.heap.size w4.heap.size len0 f X0g) := X0_7.out.kept hB
  have G_8 : Hid (MineL w8 w4.heap.size ga t Z gC) := G_7.out.kept hB
  have Z0_8 : Hid (MineB w8 w6.heap.size w7.heap.size len0 f Z0g) := Z0_7.out.kept hB
  clear hB
  go_wp2_with fail
  refine (flow_mark _ _ _ _ _ _ _ hn HL HX0.out X0_8.out.mark).mono ?_
  rintro e w9 ⟨s, rfl, hs0, hs1, hO⟩
  have BW9 : Hid (Below w.heap.size w w9) := BW8.out.trans (hO.below.mono BW3.out.size)
  have BS9 : Hid (Below w3.heap.size w3 w9) := BS8.out.trans (hO.below.mono (Nat.le_refl _))
  have G_9 : Hid (MineL w9 w4.heap.size ga t Z gC) := onlyB_lists hO (by  omega) G_8.out
  clear hO
  go_wp2_with fail
  refine (eq_lists _ _ _ _ _ Z _ htb hz G_9.out.lists (S0.out.kept BS9.out)).mono ?_
  rintro e w10 ⟨rfl, hB⟩
  have BW10 : Hid (Below w.heap.size w w10) := BW9.out.trans (hB.mono BW9.out.size)
  have BS10 : Hid (Below w3.heap.size w3 w10) := BS9.out.trans (hB.mono BS9.out.size)
  have SZ10 : Hid (w9.heap.size ≤ w10.heap.size) := hB.size
  have G_10 : Hid (MineL w10 w4.heap.size ga t Z gC) := G_9.out.kept hB
  clear hB
  go_wp2_with fail
  refine (mark_lists _ _ _ (fun k => (Z k).length) Z _ _ _ (by omega) (fun _ _ => rfl) hz G_10).mono ?_
  rintro e w11 ⟨rfl, hM, hO⟩
  rw [hq.out]
  have BW11 : Hid (Below w.heap.size w w11) := BW10.out.trans (hO.mono BW4.out.size)
  have BS11 : Hid (Below w3.heap.size w3 w11) := BS10.out.trans (hO.mono BS4.out.size)
  have G_11 : Hid (MineL w11 w4.heap.size ga t (marksL (fun k => (Z k).length)) gC) := hM
  clear hM hO
  go_wp2_with fail
  refine (held_lists _ _ _ (fun k => (Z k).length) _ (by omega) hz G_11.out.lists).mono ?_
  rintro e w' ⟨rfl, hw⟩
  rw [hw, hq.out]
  clear hw w'
  go_wp2_with fail
  refine (flow_list2 _ _ _ f _ hn HL (w0.out.kept BW11.out)).mono ?_
  rintro e w12 ⟨A0g, rfl, hM, hB⟩
  have A0_12 : Hid (MineB w12 w11.heap.size w12.heap.size len0 f A0g) := hM
  have BW12 : Hid (Below w.heap.size w w12) := BW11.out.trans (hB.mono BW11.out.size)
  have BS12 : Hid (Below w3.heap.size w3 w12) := BS11.out.trans (hB.mono BS11.out.size)
  have SZ12 : Hid (w11.heap.size ≤ w12.heap.size) := hB.size
  have G_12 : Hid (MineL w12 w4.heap.size ga t (marksL (fun k => (Z k).length)) gC) := G_11.out.kept hB
  clear hM hB
  go_wp2_with fail
  refine (Hi.out _ _ _ hn HL.out A0_12.out.flow).mono ?_
  rintro e w13 ⟨ha, hc, hC, rfl, hM, hB⟩
  have H_13 : Hid (MineL w13 w12.heap.size ha t Z hC) := hM
  have BW13 : Hid (Below w.heap.size w w13) := BW12.out.trans (hB.mono BW12.out.size)
  have BS13 : Hid (Below w3.heap.size w3 w13) := BS12.out.trans (hB.mono BS12.out.size)
  have SZ13 : Hid (w12.heap.size ≤ w13.heap.size) := hB.size
  have G_13 : Hid (MineL w13 w4.heap.size ga t (marksL (fun k => (Z k).length)) gC) := G_12.out.kept hB
  have A0_13 : Hid (MineB w13 w11.heap.size w12.heap.size len0 f A0g) := A0_12.out.kept hB
  clear hB hM
  go_wp2_with fail
  refine (eq_lists _ _ _ _ _ Z _ htb hz H_13.out.lists (S0.out.kept BS13.out)).mono ?_
  rintro e w14 ⟨rfl, hB⟩
  have BW14 : Hid (Below w.heap.size w w14) := BW13.out.trans (hB.mono BW13.out.size)
  have BS14 : Hid (Below w3.heap.size w3 w14) := BS13.out.trans (hB.mono BS13.out.size)
  have SZ14 : Hid (w13.heap.size ≤ w14.heap.size) := hB.size
  have G_14 : Hid (MineL w14 w4.heap.size ga t (marksL (fun k => (Z k).length)) gC) := G_13.out.kept hB
  have H_14 : Hid (MineL w14 w12.heap.size ha t Z hC) := H_13.out.kept hB
  clear hB
  go_wp2_with fail
  refine (held_lists _ _ _ (fun k => (Z k).length) _ (by omega) hz G_14.out.lists).mono ?_
  rintro e w' ⟨rfl, hw⟩
  rw [hw, hq.out]
  clear hw w'
  go_wp2
  go_ret
  exact ⟨rfl, BW14.out⟩
set_option maxRecDepth 100000 in
theorem walk (a0 : Option Addr) (len0 cap0 : Nat) (f0 : Nat → Bv) (w : World) (w0 : Flow w a0 len0 f0) (n0 : ∀ k, k < len0 → (f0 k).len ≤ maxLen) (b0 : len0 ≤ 140737488351232) :
    Calls Try.prog 4 #[.slice a0 len0 cap0] w fun e w' => e = .returned (.bool true) ∧ Below w.heap.size w w' := by
  cases ho : flowB f0 len0
  · refine walk_of a0 cap0 len0 f0 (fun _ => []) 0 false w w0 n0 b0 (by omega) (fun _ hk => by omega) ?_ ?_
    · intro W a c hn HL hA
      refine (spec_deadat a len0 c f0 W hn HL hA).mono ?_
      rintro e W' ⟨(⟨h, _⟩ | ⟨_, rfl⟩), hB⟩
      · rw [ho] at h; cases h
      · exact ⟨none, 0, rfl, Or.inl rfl, hB⟩
    · intro W a c hn HL hA
      refine (impl_deadat a len0 c f0 W hn HL hA).mono ?_
      rintro e W' ⟨(⟨h, _⟩ | ⟨_, rfl⟩), hB⟩
      · rw [ho] at h; cases h
      · exact ⟨none, 0, fun _ => (none, 0), rfl, ⟨Or.inl rfl, fun k hk => by omega, fun j k hj => by omega⟩, hB⟩
  · obtain ⟨s, hs⟩ := fix_from (p := false) ho 65 _ (up_none _ _ _) (by omega)
    refine walk_of a0 cap0 len0 f0 (deadL f0 s) len0 true w w0 n0 b0 (flow_out ho).1.2 (fun k _ => Nat.le_trans (rising_len _ 64) (by decide)) ?_ ?_
    · intro W a c hn HL hA
      refine (spec_deadat a len0 c f0 W hn HL hA).mono ?_
      rintro e W' ⟨(⟨_, ra, rc, C, s', rfl, hM, hF⟩ | ⟨h, _⟩), hB⟩
      · exact ⟨ra, rc, rfl, (hM.congr (fun k hk => dead_same ho hk (fix_one hF hs))).lists, hB⟩
      · rw [ho] at h; cases h
    · intro W a c hn HL hA
      refine (impl_deadat a len0 c f0 W hn HL hA).mono ?_
      rintro e W' ⟨(⟨_, ra, rc, C, s', rfl, hM, hF⟩ | ⟨h, _⟩), hB⟩
      · exact ⟨ra, rc, C, rfl, hM.congr (fun k hk => dead_same ho hk (fix_one hF hs)), hB⟩
      · rw [ho] at h; cases h

set_option maxRecDepth 100000 in
set_option maxHeartbeats 4000000 in
theorem lifted (os : Os) (started : os.Started) (H : Type) (enc : TypeId × Value → H) :
    ReturnsInHanded {} Try.checked os 4 .any (Rows.fnExactDeadAtSpec.pre6 enc Try.prog Try.f4 Rows.fnExactDeadAtRow.domain false) (Rows.fnExactDeadAtSpec.post enc Try.prog Try.f4 false true false false) := by
  refine returnsInHanded_of_change_sized (C := Try.checked) own started (by kernel_rfl) Try.func4
    (ChangeSpec.witness6 (enc := enc) (C := Try.checked) false ⟨#[], #[.slice none 0 0], []⟩ 8 (by kernel_rfl) (by kernel_rfl) (by kernel_rfl) (by kernel_rfl)) ?_
  intro W base args ds gs before hval0 hW hcnd hsz0 _
  have hval : ∀ (j : Nat) t v, Try.f4.params[j]? = some t → args[j]? = some v → Value.okWide Try.prog W .any base t v := hval0
  have hW' := hW
  obtain ⟨p, q, hA0, hV, rfl, hfz, hnd⟩ := hW
  have hsz : (DataW.weightsEach Try.prog (Try.f4.params.toList ++ Rows.fnExactDeadAtSpec.plain.varTypes Try.prog) (ds ++ gs)).all (· ≤ reachBytes) = true := hsz0
  have hA : DataW.TrodAll enc Try.prog W 0 (fun _ => true) true Try.f4.params.toList args.toList ds p := hA0
  rw [Try.params4] at hA hval hsz
  obtain ⟨v0, vs0, d0, ds0, p0, q0, hargs, rfl, rfl, h0, r0⟩ := trodAll_cons hA
  obtain ⟨rfl, rfl, rfl⟩ := trodAll_nil r0
  obtain rfl : args = #[v0] := by cases args; simp_all
  obtain ⟨rfl, rfl⟩ := trodVars_none hV
  obtain ⟨a0, len0, cap0, rfl⟩ := okWide_slice Try.underlying22 (hval 0 22 v0 rfl rfl)
  have k0 := h0
  have lt0 : ∀ x ∈ p0, x.block < W.heap.size := by obtain ⟨m, hm⟩ := k0; exact DataW.trod_lt m _ _ _ hm
  obtain ⟨f0, w0, n0, b0⟩ : ∃ f, Flow W a0 len0 f ∧ (∀ k, k < len0 → (f k).len ≤ maxLen) ∧ len0 ≤ 140737488351232 := by
    obtain ⟨fuel, hf⟩ := h0
    rcases open_flow Try.underlying22 Try.underlying39 (show Try.prog.cellsOf 39 = 4 by kernel_rfl) ⟨rfl, (show Try.prog.cellsOf 37 = 1 by kernel_rfl), Try.underlying37⟩ ⟨rfl, (show Try.prog.cellsOf 3 = 1 by kernel_rfl), Try.underlying3⟩ ⟨rfl, (show Try.prog.cellsOf 3 = 1 by kernel_rfl), Try.underlying3⟩ ⟨rfl, (show Try.prog.cellsOf 3 = 1 by kernel_rfl), Try.underlying3⟩ Try.underlying100 (show Try.prog.cellsOf 100 = 5 by kernel_rfl) rfl (by
      intro i f h
      match i, h with
      | 0, h => obtain rfl := Option.some.inj h; exact ⟨rfl, (show Try.prog.cellsOf 3 = 1 by kernel_rfl), Try.underlying3⟩
      | 1, h => obtain rfl := Option.some.inj h; exact ⟨rfl, (show Try.prog.cellsOf 3 = 1 by kernel_rfl), Try.underlying3⟩
      | 2, h => obtain rfl := Option.some.inj h; exact ⟨rfl, (show Try.prog.cellsOf 3 = 1 by kernel_rfl), Try.underlying3⟩
      | 3, h => obtain rfl := Option.some.inj h; exact ⟨rfl, (show Try.prog.cellsOf 3 = 1 by kernel_rfl), Try.underlying3⟩
      | 4, h => obtain rfl := Option.some.inj h; exact ⟨rfl, (show Try.prog.cellsOf 3 = 1 by kernel_rfl), Try.underlying3⟩
      | i + 5, h => simp at h) hf with hcs | ⟨a, l, c, m, D, E, hcs, hl, hm, hlm, hx, hcell⟩
    · simp [Value.cells] at hcs
      obtain ⟨rfl, rfl, rfl⟩ := hcs
      exact ⟨noBs, .inl rfl, fun k hk => by omega, by omega⟩
    · simp [Value.cells] at hcs
      obtain ⟨rfl, rfl, rfl⟩ := hcs
      obtain ⟨f, hf1, hf2⟩ := flow_of hlm hcell
      have hs := sized_slice hsz (j := 0) (t := 22) (e := 39) rfl (by rw [show d0 = _ from hx]; rfl) Try.underlying22
      rw [show Try.prog.bytesOf 39 = 48 by kernel_rfl] at hs
      simp only [List.length_map, List.length_range, reachBytes] at hs
      exact ⟨f, hf1, hf2, by omega⟩
  clear hA0 hval0
  refine (walk a0 len0 cap0 f0 W w0 n0 b0).mono fun e W' ⟨he, bel⟩ => ?_
  subst he
  exact ⟨_, rfl, _, _, _, [], _, [], hW', trodAll_mk1 (shut_bool Try.underlying4 _), (trodAll_cons_mk (Below.trod laidOut (by kernel_rfl) (of_decide_eq_true (by kernel_rfl)) k0 bel lt0) trodAll_mk0), rfl, bel.frame _, fun h => by cases h⟩

theorem over : Rows.fnExactDeadAtRow.holds Try.pinned (OpenSpec.ofChange Rows.fnExactDeadAtSpec) :=
  OpenClaim.holds_of_wide 4 Try.f4 rfl rfl rfl rfl rfl rfl rfl ⟨rfl, rfl, rfl, rfl, rfl⟩ rfl rfl rfl rfl rfl (by kernel_rfl) Try.func4 (by kernel_rfl)
    (of_decide_eq_true (by kernel_rfl)) (by unfold Func.isWrapper; first | (rw [if_pos (by decide +kernel)]; kernel_rfl) | (rw [if_neg (by decide +kernel)]; exact ⟨rfl, rfl⟩))
    (fun os started H enc _ => lifted os started H enc)

theorem proved : Rows.FnExactDeadAtSaid :=
  over
#print axioms proved
end Go.Proofs.Ytfmgbalfabpogaa.fnExactDeadAt
