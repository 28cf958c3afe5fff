/-
  Copies of flows in memory of their own, and the laws' marks on them: what the marks write is the copy alone.
-/
import Derived.Test.YtghlgfphlgbcoaaProg
import Derived.Test.YtghlgfphlgbcoaaInts
import Derived.Test.YtghlgfphlgbcoaaRecsInstr
import Derived.Test.YtghlgfphlgbcoaaMarks
import Derived.Test.YtghlgfphlgbcoaaFlow
import Derived.WalkKit
import Derived.WalkSpells
import Derived.Below
import Derived.Handy
import Derived.Deep.OwnRows
import Derived.Deep.RegionWith
import Derived.Laws.MakeOwn
namespace Go.Proofs.Ytghlgfphlgbcoaa.walks
open Go.RowKit Go.Proofs.Ytghlgfphlgbcoaa.math Go.Proofs.Ytghlgfphlgbcoaa.ints
set_option linter.unusedVariables false

/-- Where the steps of a copy lie. -/
def aOf (G : Nat → Nat) (f : Nat → Bv) : Nat → Option Addr × Nat := fun k => (some ⟨G k, 0, none⟩, (f k).len)
def updN (G : Nat → Nat) (k g : Nat) : Nat → Nat := fun i => if i = k then g else G i
theorem updN_same (G : Nat → Nat) (k g : Nat) : updN G k g k = g := if_pos rfl
theorem updN_other (G : Nat → Nat) {k i : Nat} (g : Nat) (h : i ≠ k) : updN G k g i = G i := if_neg h
theorem aOf_upd (G : Nat → Nat) (f : Nat → Bv) (k g : Nat) : updA (aOf G f) k (some ⟨g, 0, none⟩, (f k).len) = aOf (updN G k g) f := by
  funext i
  by_cases e : i = k
  · subst e; rw [updA_same]; simp [aOf, updN_same]
  · rw [updA_other _ _ e]; simp [aOf, updN_other _ _ e]
/-- A copy of a flow: its list in block b, its steps in blocks behind it, below E. -/
structure MineB (w : World) (b E n : Nat) (f : Nat → Bv) (G : Nat → Nat) : Prop where
  lt : b < w.heap.size
  cell : ∀ i, i < n * 4 → w.cell? ⟨b, i, none⟩ = some (cellB (aOf G f) f i) ∧ w.frozen? ⟨b, i, none⟩ = false
  code : ∀ k, k < n → Mine w (b + 1) (some ⟨G k, 0, none⟩) (f k).zs ∧ (f k).zs.length = (f k).len * 5
  ne : ∀ k, k < n → b < G k
  hi : ∀ k, k < n → 0 < (f k).len → G k < E
  ap : ∀ j k, j < n → k < n → j ≠ k → 0 < (f j).len → 0 < (f k).len → G j ≠ G k
theorem MineB.flow {w : World} {b E n : Nat} {f : Nat → Bv} {G : Nat → Nat} (h : MineB w b E n f G) : Flow w (some ⟨b, 0, none⟩) n f :=
  Or.inr ⟨b, 0, aOf G f, rfl, h.lt, fun i hi => by rw [Nat.zero_add]; exact (h.cell i hi).1, fun k hk => ⟨(h.code k hk).1.ints, (h.code k hk).2⟩⟩
theorem MineB.kept {w w' : World} {b E n : Nat} {f : Nat → Bv} {G : Nat → Nat} (h : MineB w b E n f G) (hb : Below w.heap.size w w') : MineB w' b E n f G :=
  ⟨Nat.lt_of_lt_of_le h.lt hb.size, fun i hi => ⟨(hb.cell (p := ⟨b, i, none⟩) h.lt).trans (h.cell i hi).1, (hb.frozen (p := ⟨b, i, none⟩) h.lt).trans (h.cell i hi).2⟩, fun k hk => ⟨(h.code k hk).1.kept hb, (h.code k hk).2⟩, h.ne, h.hi, h.ap⟩
/-- What may be marked: a list of blocks in block b, steps in blocks behind it. -/
structure MarkB (w : World) (b E n : Nat) (l : Nat → Nat) (G : Nat → Nat) : Prop where
  lt : b < w.heap.size
  cell : ∀ k, k < n → w.cell? ⟨b, k * 4, none⟩ = some (.slice (some ⟨G k, 0, none⟩) (l k) (l k))
  num : ∀ k j, k < n → 1 ≤ j → j ≤ 3 → (∃ v, w.cell? ⟨b, k * 4 + j, none⟩ = some v) ∧ w.frozen? ⟨b, k * 4 + j, none⟩ = false
  code : ∀ k, k < n → ∃ zs : List Int, zs.length = l k * 5 ∧ Mine w (b + 1) (some ⟨G k, 0, none⟩) zs
  ne : ∀ k, k < n → b < G k
  hi : ∀ k, k < n → 0 < l k → G k < E
  ap : ∀ j k, j < n → k < n → j ≠ k → 0 < l j → 0 < l k → G j ≠ G k
theorem MineB.mark {w : World} {b E n : Nat} {f : Nat → Bv} {G : Nat → Nat} (h : MineB w b E n f G) : MarkB w b E n (fun k => (f k).len) G :=
  ⟨h.lt, fun k hk => by rw [(h.cell (k * 4) (by omega)).1, cellB_0]; rfl, fun k j hk h1 h3 => ⟨⟨_, (h.cell (k * 4 + j) (by omega)).1⟩, (h.cell (k * 4 + j) (by omega)).2⟩, fun k hk => ⟨(f k).zs, (h.code k hk).2, (h.code k hk).1⟩, h.ne, h.hi, h.ap⟩
/-- Nothing has turned but blocks from b up to E. -/
structure OnlyB (W W' : World) (b E : Nat) : Prop where
  os : W'.os = W.os
  tape : W'.tape = W.tape
  output : W'.output = W.output
  size : W'.heap.size = W.heap.size
  block : ∀ k, k < W.heap.size → (k < b ∨ E ≤ k) → W'.heap[k]? = W.heap[k]?
theorem OnlyB.refl (W : World) (b E : Nat) : OnlyB W W b E := ⟨rfl, rfl, rfl, rfl, fun _ _ _ => rfl⟩
theorem OnlyB.below {W W' : World} {b E : Nat} (h : OnlyB W W' b E) : Below b W W' :=
  ⟨h.os, h.tape, h.output, Nat.le_of_eq h.size.symm, fun k hk => by
    by_cases e : k < W.heap.size
    · exact h.block k e (Or.inl hk)
    · rw [Array.getElem?_eq_none (by have := h.size; omega), Array.getElem?_eq_none (by omega)]⟩
theorem OnlyB.mine {W W' : World} {b E B : Nat} {a : Option Addr} {zs : List Int} (h : OnlyB W W' b E) (hE : E ≤ B) (hi : Mine W B a zs) : Mine W' B a zs := by
  rcases hi with hi | ⟨b', off', e', h0, hl, hc⟩
  · exact Or.inl hi
  · have hb := h.block b' hl (Or.inr (by omega))
    exact Or.inr ⟨b', off', e', h0, by rw [h.size]; exact hl, fun i hi => ⟨(World.cell?_of_block hb).trans (hc i hi).1, (World.frozen?_of_block hb).trans (hc i hi).2⟩⟩
theorem OnlyB.set {W W' : World} {b E i : Nat} {v : Value} (h : OnlyB W W' b E) (hE : b < E) : OnlyB W (W'.setCell ⟨b, i, none⟩ v) b E :=
  ⟨h.os, h.tape, h.output, by simpa [World.setCell] using h.size, fun k hk ho => (Below.heap_setCell _ _ _ _ (by simp; omega)).trans (h.block k hk ho)⟩
theorem OnlyB.only {W W' W'' : World} {b E g len : Nat} (h : OnlyB W W' b E) (hg : b < g) (hE : 0 < len → g < E) (ho : Only W' W'' (b + 1) (some ⟨g, 0, none⟩) len) : OnlyB W W'' b E := by
  rcases ho.2 with rfl | ⟨h0, b', off, e, hB, hgr⟩
  · exact h
  · simp only [Option.some.injEq, Addr.mk.injEq] at e
    obtain ⟨rfl, _⟩ := e
    have := hE h0
    exact ⟨hgr.os.trans h.os, hgr.tape.trans h.tape, hgr.output.trans h.output, ho.1.trans h.size, fun k hk hx => (hgr.block k (by rw [h.size]; exact hk) (by simp; omega)).trans (h.block k hk hx)⟩
theorem MarkB.only {W W' : World} {b E n k : Nat} {l G : Nat → Nat} (h : MarkB W b E n l G) (hk : k < n) (ho : Only W W' (b + 1) (some ⟨G k, 0, none⟩) (l k)) {zs : List Int} (hz : zs.length = l k * 5) (hm : Mine W' (b + 1) (some ⟨G k, 0, none⟩) zs) : MarkB W' b E n l G := by
  rcases ho.2 with rfl | ⟨h0, b', off, e, hB, hgr⟩
  · exact h
  · simp only [Option.some.injEq, Addr.mk.injEq] at e
    obtain ⟨rfl, _⟩ := e
    have hb := h.ne k hk
    have hs := ho.1
    have hq := hgr.block b h.lt (by simp; omega)
    refine ⟨by rw [hs]; exact h.lt, fun j hj => (World.cell?_of_block hq).trans (h.cell j hj), fun j i hj h1 h3 => ?_, fun j hj => ?_, h.ne, h.hi, h.ap⟩
    · obtain ⟨⟨v, hv⟩, hf⟩ := h.num j i hj h1 h3
      exact ⟨⟨v, (World.cell?_of_block hq).trans hv⟩, (World.frozen?_of_block hq).trans hf⟩
    · by_cases e : j = k
      · subst e; exact ⟨zs, hz, hm⟩
      · obtain ⟨ys, hy, hM⟩ := h.code j hj
        by_cases l0 : 0 < l j
        · exact ⟨ys, hy, Only.mine ho hM (fun b1 o1 b2 o2 e1 e2 => by
            simp only [Option.some.injEq, Addr.mk.injEq] at e1 e2
            have := h.ap k j hk hj (fun q => e q.symm) h0 l0
            omega)⟩
        · exact ⟨ys, hy, Or.inl (List.length_eq_zero_iff.mp (by omega))⟩
theorem MarkB.set {W : World} {b E n k i : Nat} {l G : Nat → Nat} {v : Value} (h : MarkB W b E n l G) (hk : k < n) (h1 : 1 ≤ i) (h3 : i ≤ 3) : MarkB (W.setCell ⟨b, k * 4 + i, none⟩ v) b E n l G := by
  refine ⟨by simpa [World.setCell] using h.lt, fun j hj => ?_, fun j i' hj h1' h3' => ⟨?_, by simpa using (h.num j i' hj h1' h3').2⟩, fun j hj => ?_, h.ne, h.hi, h.ap⟩
  · rw [World.cell?_setCell_other _ _ _ _ (by simp; try omega)]; exact h.cell j hj
  · obtain ⟨⟨u, hu⟩, _⟩ := h.num j i' hj h1' h3'
    by_cases e : k * 4 + i = j * 4 + i'
    · rw [e, World.cell?_setCell_same _ _ _ hu]; exact ⟨_, rfl⟩
    · rw [World.cell?_setCell_other _ _ _ _ (by simp; try omega)]; exact ⟨u, hu⟩
  · obtain ⟨zs, hz, hM⟩ := h.code j hj
    exact ⟨zs, hz, mine_far (by have := h.ne j hj; omega) hM⟩
theorem Instr_markFrom (s : Int) (hs0 : 0 ≤ s) (hs1 : s ≤ 100000000000000) (a : Option Addr) (len cap : Nat) (zs : List Int) (W : World) (B : Nat) (hz : Hid (zs.length = len * 5)) (hlen : len ≤ 1048576) (h : Hid (Mine W B a zs)) :
    Calls Try.prog 33 #[.slice a len cap, .int .i64 s] W fun e W' => e = .returned (.int .i64 (s + (len : Int) * 5)) ∧ Mine W' B a (upFrom s (len * 5)) ∧ Only W W' B a len := by
  by_cases hl0 : len = 0
  · subst hl0
    go_enter Try.func33, Try.ntmps33
    go_wp2
    go_loop [1, 5] (fun vk vi => vi = .int .i64 0 ∧ vk = .int .i64 s) (fun _ vi => 1)
    case atStart => exact ⟨rfl, rfl⟩
    case round =>
      obtain ⟨rfl, rfl⟩ := hrel
      go_wp2
      go_ret
      exact ⟨by simp, Or.inl rfl, Only.refl _ _ _ _⟩
  obtain ⟨b, off, ha, hBb, hbl, HC⟩ : ∃ b off, a = some ⟨b, off, none⟩ ∧ B ≤ b ∧ b < W.heap.size ∧ Hid (∀ i, i < zs.length → W.cell? ⟨b, off + i, none⟩ = some (.int .i64 (zs.getD i 0)) ∧ W.frozen? ⟨b, off + i, none⟩ = false) := by
    rcases h.out with h | h
    · have := hz.out; rw [h] at this; simp at this; omega
    · exact h
  subst ha
  go_enter Try.func33, Try.ntmps33
  go_wp2
  go_loopw [1, 5] (fun vk vi wr => ∃ k : Nat, k ≤ len ∧ vi = .int .i64 k ∧ vk = .int .i64 (s + (k : Int) * 5) ∧ Hid (InstrCells wr b off (len * 5) (fun i => if i < k * 5 then s + (i : Int) else zs.getD i 0)) ∧ Hid (W.grownBy wr (some b)) ∧ Hid (wr.heap.size = W.heap.size)) (fun _ vi _ => len - (intOf vi).toNat)
  case atStart =>
    refine ⟨0, Nat.zero_le _, rfl, by simp, ?_, grow_refl' _ _, rfl⟩
    show InstrCells _ _ _ _ _
    intro i hi
    simpa using HC.out i (by have := hz.out; omega)
  case round =>
    obtain ⟨k, hk, rfl, rfl, HR, HB, HS⟩ := hrel
    by_cases hlt : k < len
    · have hkI : (k : Int) < 1048576 := by omega
      obtain ⟨d0, f0⟩ := HR.out (k * 5) (by omega)
      obtain ⟨d1, f1⟩ := HR.out (k * 5 + 1) (by omega)
      obtain ⟨d2, f2⟩ := HR.out (k * 5 + 2) (by omega)
      obtain ⟨d3, f3⟩ := HR.out (k * 5 + 3) (by omega)
      obtain ⟨d4, f4⟩ := HR.out (k * 5 + 4) (by omega)
      rw [← Nat.add_assoc] at d1 f1
      rw [← Nat.add_assoc] at d2 f2
      rw [← Nat.add_assoc] at d3 f3
      rw [← Nat.add_assoc] at d4 f4
      go_wp2
      go_roundw
      case rel =>
        refine ⟨k + 1, by omega, by go_num, ?_, ?_, ?_, ?_⟩
        · congr 1; omega
        · refine InstrCells.congr ((((((HR.out).set (k * 5) (by omega) (s + (k : Int) * 5)).set (k * 5 + 1) (by omega) (s + (k : Int) * 5 + 1)).set (k * 5 + 2) (by omega) (s + (k : Int) * 5 + 1 + 1)).set (k * 5 + 3) (by omega) (s + (k : Int) * 5 + 1 + 1 + 1)).set (k * 5 + 4) (by omega) (s + (k : Int) * 5 + 1 + 1 + 1 + 1)) ?_
          intro j hj
          rcases (show j = k * 5 ∨ j = k * 5 + 1 ∨ j = k * 5 + 2 ∨ j = k * 5 + 3 ∨ j = k * 5 + 4 ∨ j < k * 5 ∨ (k + 1) * 5 ≤ j by omega) with rfl | rfl | rfl | rfl | rfl | h | h
          · rw [if_pos (show k * 5 < (k + 1) * 5 by omega)]; simp
          · rw [if_pos (show k * 5 + 1 < (k + 1) * 5 by omega)]; simp; omega
          · rw [if_pos (show k * 5 + 2 < (k + 1) * 5 by omega)]; simp; omega
          · rw [if_pos (show k * 5 + 3 < (k + 1) * 5 by omega)]; simp; omega
          · rw [if_pos (show k * 5 + 4 < (k + 1) * 5 by omega)]; simp; omega
          · rw [if_pos (show j < (k + 1) * 5 by omega), if_neg (show ¬ j = k * 5 + 4 by omega), if_neg (show ¬ j = k * 5 + 3 by omega), if_neg (show ¬ j = k * 5 + 2 by omega), if_neg (show ¬ j = k * 5 + 1 by omega), if_neg (show ¬ j = k * 5 by omega), if_pos h]
          · rw [if_neg (show ¬ j < (k + 1) * 5 by omega), if_neg (show ¬ j = k * 5 + 4 by omega), if_neg (show ¬ j = k * 5 + 3 by omega), if_neg (show ¬ j = k * 5 + 2 by omega), if_neg (show ¬ j = k * 5 + 1 by omega), if_neg (show ¬ j = k * 5 by omega), if_neg (show ¬ j < k * 5 by omega)]
        · exact grow_set' (grow_set' (grow_set' (grow_set' (grow_set' HB.out _ _) _ _) _ _) _ _) _ _
        · show (World.setCell _ _ _).heap.size = W.heap.size
          rw [← HS.out]; simp [World.setCell]
      case measure => simp [intOf]; omega
    · have HE : Hid (k = len) := by show k = len; omega
      go_wp2
      go_ret
      refine ⟨by rw [HE.out]; rfl, Or.inr ⟨b, off, rfl, hBb, by have := HS.out; omega, ?_⟩, HS.out, Or.inr ⟨by omega, b, off, rfl, hBb, HB.out⟩⟩
      intro i hi
      rw [upFrom_len] at hi
      obtain ⟨e0, e1⟩ := HR.out i hi
      refine ⟨?_, e1⟩
      rw [e0]
      show some (Value.int .i64 (if i < k * 5 then s + (i : Int) else zs.getD i 0)) = _
      rw [if_pos (by rw [HE.out]; exact hi), upFrom_at (len * 5) s i hi]
set_option maxRecDepth 100000 in
set_option maxHeartbeats 4000000 in
theorem flow_list2 (a : Option Addr) (n cap : Nat) (f : Nat → Bv) (W : World) (hn : n ≤ 1048576) (hlen : Hid (∀ k, k < n → (f k).len ≤ 1048576)) (h : Hid (Flow W a n f)) :
    Calls Try.prog 12 #[.slice a n cap] W fun e W' => ∃ G, e = .returned (.slice (some ⟨W.heap.size, 0, none⟩) n n) ∧ MineB W' W.heap.size W'.heap.size n f G ∧ Below W.heap.size W W' := by
  obtain ⟨i0, hi, hz0, hz1, hz2⟩ := info_parts block_info
  have hmk : ∀ w : World, (Instr.makeSlice 29 (.int .i64 (n : Int)) (.int .i64 (n : Int))).run Try.prog w = .ok (.slice (some ⟨w.heap.size, 0, none⟩) n n) (w.alloc (.cells (madeCells #[.slice none 0 0, .int .i64 0, .int .i64 0, .int .i64 0] (n * 4)) 73)) := by
    intro w
    have hr := run_make (P := Try.prog) w 29 73 i0 _ Try.underlying29 hi hz0 .i64 .i64 (n : Int) (n : Int) (by omega) (Int.le_refl _) (by rw [hz2]; omega) (by omega)
    simp only [Int.toNat_natCast] at hr
    rw [hr, hz1]; rfl
  clear hi hz0 hz1 hz2
  go_enter Try.func12, Try.ntmps12
  go_wp2
  clear hmk
  go_loopw [4] (fun vi wr => ∃ (k : Nat) (G : Nat → Nat), k ≤ n ∧ vi = .int .i64 k ∧ Hid (RowB wr W.heap.size n k (aOf G f) f) ∧ Hid (∀ j, j < k → Mine wr (W.heap.size + 1) (some ⟨G j, 0, none⟩) (f j).zs ∧ W.heap.size < G j ∧ (0 < (f j).len → G j < wr.heap.size)) ∧ Hid (∀ i j, i < k → j < k → i ≠ j → 0 < (f i).len → 0 < (f j).len → G i ≠ G j) ∧ Hid (Below W.heap.size W wr)) (fun vi _ => n - (intOf vi).toNat)
  case atStart =>
    refine ⟨0, fun _ => 0, Nat.zero_le _, rfl, ?_, fun j hj => by omega, fun i j hi => by omega, ?_⟩
    · have h := World.rowIs_alloc W (madeCells #[.slice none 0 0, .int .i64 0, .int .i64 0, .int .i64 0] (n * 4)) 73 (cellB noA noBs) (fun i hi => block_made _ i (by rw [size_madeCells] at hi; exact hi))
      rw [size_madeCells] at h
      exact World.rowIs.congr h (fun i hi => by rw [if_neg (by omega)])
    · show Below _ _ _
      go_grown
  case round =>
    obtain ⟨k, G, hk, rfl, HC, HJ, HA, HB⟩ := hrel
    by_cases hlt : k < n
    · obtain ⟨b, off, ca, cc, ha, hb, c0, c1, c2, c3, hI, hZ⟩ := flow_at h.out HB.out hlt
      subst ha
      have hbs : W.heap.size < wr.heap.size := World.rowIs.lt HC.out
      have HI : Hid (Ints wr ca (f k).zs) := hI
      have HZ : Hid ((f k).zs.length = (f k).len * 5) := hZ
      have HL := hlen.out k hlt
      clear hI hZ
      go_wp2_with fail
      refine (to_block _ _ _ _ _ _ (f k).zs _ HZ HL HI).mono ?_
      rintro e w1 ⟨g, rfl, hgW, hM, hB1⟩
      have HC1 : Hid (RowB w1 W.heap.size n k (aOf G f) f) := World.rowIs.of_block HC.out (hB1.block _ hbs)
      have HB1 : Hid (Below W.heap.size W w1) := HB.out.trans (hB1.mono (by omega))
      have HM : Hid (Mine w1 (W.heap.size + 1) (some ⟨g, 0, none⟩) (f k).zs) := mine_down hM (by omega)
      have HJ1 : Hid (∀ j, j < k → Mine w1 (W.heap.size + 1) (some ⟨G j, 0, none⟩) (f j).zs ∧ W.heap.size < G j ∧ (0 < (f j).len → G j < w1.heap.size ∧ G j < g)) := fun j hj => ⟨(HJ.out j hj).1.kept hB1, (HJ.out j hj).2.1, fun q => ⟨Nat.lt_of_lt_of_le ((HJ.out j hj).2.2 q) hB1.size, Nat.lt_of_lt_of_le ((HJ.out j hj).2.2 q) hgW⟩⟩
      have HGL : Hid (0 < (f k).len → g < w1.heap.size) := fun q => mine_lt hM (by have := HZ.out; omega)
      have hgb : W.heap.size < g := by omega
      clear hB1 hM HC HB HJ
      obtain ⟨d0, q0⟩ : (∃ v, w1.cell? ⟨W.heap.size, k * 4, none⟩ = some v) ∧ w1.frozen? ⟨W.heap.size, k * 4, none⟩ = false := ⟨⟨_, World.rowIs.cell HC1.out (i := k * 4) (by omega)⟩, World.rowIs.frozen HC1.out (k * 4)⟩
      obtain ⟨d1, q1⟩ : (∃ v, w1.cell? ⟨W.heap.size, k * 4 + 1, none⟩ = some v) ∧ w1.frozen? ⟨W.heap.size, k * 4 + 1, none⟩ = false := ⟨⟨_, World.rowIs.cell HC1.out (i := k * 4 + 1) (by omega)⟩, World.rowIs.frozen HC1.out (k * 4 + 1)⟩
      obtain ⟨d2, q2⟩ : (∃ v, w1.cell? ⟨W.heap.size, k * 4 + 2, none⟩ = some v) ∧ w1.frozen? ⟨W.heap.size, k * 4 + 2, none⟩ = false := ⟨⟨_, World.rowIs.cell HC1.out (i := k * 4 + 2) (by omega)⟩, World.rowIs.frozen HC1.out (k * 4 + 2)⟩
      obtain ⟨d3, q3⟩ : (∃ v, w1.cell? ⟨W.heap.size, k * 4 + 3, none⟩ = some v) ∧ w1.frozen? ⟨W.heap.size, k * 4 + 3, none⟩ = false := ⟨⟨_, World.rowIs.cell HC1.out (i := k * 4 + 3) (by omega)⟩, World.rowIs.frozen HC1.out (k * 4 + 3)⟩
      obtain ⟨v0, d0⟩ := d0
      obtain ⟨v1, d1⟩ := d1
      obtain ⟨v2, d2⟩ := d2
      obtain ⟨v3, d3⟩ := d3
      go_wp2
      go_roundw
      case rel =>
        refine ⟨k + 1, updN G k g, by omega, by go_num, ?_, ?_, ?_, ?_⟩
        · rw [← aOf_upd]; exact HC1.out.set _ _
        · show ∀ j, j < k + 1 → _
          intro j hj
          by_cases e : j = k
          · subst e
            rw [updN_same]
            exact ⟨by iterate 4 refine mine_far (by omega) ?_
                      exact HM.out, hgb, fun q => by simpa [World.setCell] using HGL.out q⟩
          · rw [updN_other _ _ e]
            obtain ⟨p1, p2, p3⟩ := HJ1.out j (by omega)
            exact ⟨by iterate 4 refine mine_far (by omega) ?_
                      exact p1, p2, fun q => by simpa [World.setCell] using (p3 q).1⟩
        · show ∀ i j, i < k + 1 → j < k + 1 → i ≠ j → _
          intro i j hi hj hne l1 l2
          by_cases e : i = k
          · subst e
            rw [updN_same, updN_other _ _ (Ne.symm hne)]
            have := ((HJ1.out j (by omega)).2.2 l2).2
            omega
          · by_cases e' : j = k
            · subst e'
              rw [updN_same, updN_other _ _ hne]
              have := ((HJ1.out i (by omega)).2.2 l1).2
              omega
            · rw [updN_other _ _ e, updN_other _ _ e']
              exact HA.out i j (by omega) (by omega) hne l1 l2
        · show Below _ _ _
          refine Below.trans HB1.out ?_
          go_grown
      case measure => simp [intOf]; omega
    · have HE : Hid (k = n) := by show k = n; omega
      go_wp2
      go_ret
      refine ⟨G, rfl, ⟨World.rowIs.lt HC.out, fun i hi => ⟨?_, World.rowIs.frozen HC.out i⟩, fun j hj => ⟨(HJ.out j (by have := HE.out; omega)).1, ?_⟩, fun j hj => (HJ.out j (by have := HE.out; omega)).2.1, fun j hj q => (HJ.out j (by have := HE.out; omega)).2.2 q, fun i j hi hj => HA.out i j (by have := HE.out; omega) (by have := HE.out; omega)⟩, HB.out⟩
      · rw [World.rowIs.cell HC.out hi, if_pos (by have := HE.out; omega)]
      · obtain ⟨_, _, _, _, _, _, _, _, _, _, _, hZ⟩ := flow_at h.out HB.out hj
        exact hZ
set_option maxRecDepth 100000 in
set_option maxHeartbeats 4000000 in
theorem flow_mark (b E n cap : Nat) (l G : Nat → Nat) (W : World) (hn : n ≤ 1048576) (hlen : Hid (∀ k, k < n → l k ≤ 1048576)) (hbE : b < E) (h : Hid (MarkB W b E n l G)) :
    Calls Try.prog 18 #[.slice (some ⟨b, 0, none⟩) n cap, .int .i64 1] W fun e W' => ∃ s : Int, e = .returned (.int .i64 s) ∧ 0 ≤ s ∧ s ≤ 10000000000000 ∧ OnlyB W W' b E := by
  go_enter Try.func18, Try.ntmps18
  go_wp2
  go_loopw [1, 5] (fun vk vi wr => ∃ (k : Nat) (s : Int), k ≤ n ∧ vi = .int .i64 k ∧ vk = .int .i64 s ∧ 0 ≤ s ∧ s ≤ 1 + (k : Int) * 5242883 ∧ Hid (MarkB wr b E n l G) ∧ Hid (OnlyB W wr b E)) (fun _ vi _ => n - (intOf vi).toNat)
  case atStart => exact ⟨0, 1, Nat.zero_le _, rfl, rfl, by omega, by omega, h, OnlyB.refl _ _ _⟩
  case round =>
    obtain ⟨k, s, hk, rfl, rfl, hs0, hs1, HM, HO⟩ := hrel
    by_cases hlt : k < n
    · have hkI : (k : Int) < 1048576 := by omega
      have hs2 : s ≤ 10000000000000 := by omega
      have HL := hlen.out k hlt
      have c0 := HM.out.cell k hlt
      obtain ⟨zs, hz, hm⟩ := HM.out.code k hlt
      have HZ : Hid (zs.length = l k * 5) := hz
      have HMM : Hid (Mine wr (b + 1) (some ⟨G k, 0, none⟩) zs) := hm
      clear hz hm
      go_wp2_with fail
      refine (Instr_markFrom s hs0 (by omega) _ _ _ zs _ (b + 1) HZ HL HMM).mono ?_
      rintro e w1 ⟨rfl, hm, ho⟩
      have HM1 : Hid (MarkB w1 b E n l G) := HM.out.only hlt ho (upFrom_len _ _) hm
      have HO1 : Hid (OnlyB W w1 b E) := HO.out.only (HM.out.ne k hlt) (HM.out.hi k hlt) ho
      have c0 := HM1.out.cell k hlt
      obtain ⟨⟨v1, d1⟩, f1⟩ := HM1.out.num k 1 hlt (by omega) (by omega)
      obtain ⟨⟨v2, d2⟩, f2⟩ := HM1.out.num k 2 hlt (by omega) (by omega)
      obtain ⟨⟨v3, d3⟩, f3⟩ := HM1.out.num k 3 hlt (by omega) (by omega)
      have hs3 : s + (l k : Int) * 5 ≤ 100000000000000 := by omega
      have hs4 : 0 ≤ s + (l k : Int) * 5 := by omega
      have HLI : (l k : Int) ≤ 1048576 := by omega
      clear HM HO hm ho
      obtain ⟨s', ES⟩ : ∃ s', Hid (s' = s + (l k : Int) * 5) := ⟨_, rfl⟩
      have hs5 : s' ≤ s + 5242880 := by have := ES.out; omega
      rw [← ES.out] at hs3 hs4 ⊢
      go_wp2
      go_roundw
      case rel =>
        refine ⟨k + 1, s' + 1 + 1 + 1, by omega, by go_num, rfl, by omega, by omega, ?_, ?_⟩
        · exact ((HM1.out.set hlt (i := 1) (by omega) (by omega)).set hlt (i := 2) (by omega) (by omega)).set hlt (i := 3) (by omega) (by omega)
        · exact ((HO1.out.set hbE).set hbE).set hbE
      case measure => simp [intOf]; omega
    · go_wp2
      go_ret
      exact ⟨s, rfl, hs0, by omega, HO.out⟩
end Go.Proofs.Ytghlgfphlgbcoaa.walks
