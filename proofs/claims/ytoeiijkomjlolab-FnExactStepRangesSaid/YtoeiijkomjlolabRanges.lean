/-
  Lists of ranges in memory, and what the laws' own helpers on them do, at every list: they copy it, hold it against another one, number it, and hold it against these numbers.
-/
import Derived.Test.YtoeiijkomjlolabProg
import Derived.Test.YtoeiijkomjlolabInts
import Derived.Test.YtoeiijkomjlolabRangeMath
import Derived.Test.YtoeiijkomjlolabRangeRun
import Derived.Test.YtoeiijkomjlolabRangeGood
import Derived.WalkKit
import Derived.WalkSpells
import Derived.Below
import Derived.Handy
import Derived.Deep.OwnRows
import Derived.Deep.RegionWith
import Derived.Laws.MakeOwn
namespace Go.Proofs.Ytoeiijkomjlolab.walks
open Go.RowKit Go.Proofs.Ytoeiijkomjlolab.math Go.Proofs.Ytoeiijkomjlolab.ints
set_option linter.unusedVariables false

/-- The cells of ranges in a row. -/
def cellG (g : Nat → Rv) (i : Nat) : Value := match i % 3 with
  | 0 => .bool (g (i / 3)).e
  | 1 => .int .i64 (g (i / 3)).lo
  | _ => .int .i64 (g (i / 3)).hi
theorem cellG_0 (g : Nat → Rv) (k : Nat) : cellG g (k * 3) = .bool (g k).e := by
  unfold cellG; rw [show k * 3 % 3 = 0 by omega, show k * 3 / 3 = k by omega]; rfl
theorem cellG_1 (g : Nat → Rv) (k : Nat) : cellG g (k * 3 + 1) = .int .i64 (g k).lo := by
  unfold cellG; rw [show (k * 3 + 1) % 3 = 1 by omega, show (k * 3 + 1) / 3 = k by omega]; rfl
theorem cellG_2 (g : Nat → Rv) (k : Nat) : cellG g (k * 3 + 2) = .int .i64 (g k).hi := by
  unfold cellG; rw [show (k * 3 + 2) % 3 = 2 by omega, show (k * 3 + 2) / 3 = k by omega]; rfl
def upd (g : Nat → Rv) (k : Nat) (f : Rv) : Nat → Rv := fun i => if i = k then f else g i
theorem upd_same (g : Nat → Rv) (k : Nat) (f : Rv) : upd g k f k = f := if_pos rfl
theorem upd_other (g : Nat → Rv) {k i : Nat} (f : Rv) (h : i ≠ k) : upd g k f i = g i := if_neg h
theorem cellG_far {g g' : Nat → Rv} {i : Nat} (h : g (i / 3) = g' (i / 3)) : cellG g i = cellG g' i := by unfold cellG; rw [h]
theorem cellG_upd (g : Nat → Rv) (k : Nat) (f : Rv) (i : Nat) : cellG (upd g k f) i = if i = k * 3 + 2 then .int .i64 f.hi else if i = k * 3 + 1 then .int .i64 f.lo else if i = k * 3 then .bool f.e else cellG g i := by
  by_cases h2 : i = k * 3 + 2
  · subst h2; rw [if_pos rfl, cellG_2, upd_same]
  rw [if_neg h2]
  by_cases h1 : i = k * 3 + 1
  · subst h1; rw [if_pos rfl, cellG_1, upd_same]
  rw [if_neg h1]
  by_cases h0 : i = k * 3
  · subst h0; rw [if_pos rfl, cellG_0, upd_same]
  rw [if_neg h0]
  exact cellG_far (upd_other g f (by omega))
/-- A list of ranges at an address. -/
def Facts (w : World) (a : Option Addr) (n : Nat) (g : Nat → Rv) : Prop :=
  n = 0 ∨ ∃ b off, a = some ⟨b, off, none⟩ ∧ b < w.heap.size ∧ ∀ i, i < n * 3 → w.cell? ⟨b, off + i, none⟩ = some (cellG g i)
theorem Facts.kept {w w' : World} {a : Option Addr} {n : Nat} {g : Nat → Rv} (h : Facts w a n g) (hb : Below w.heap.size w w') : Facts w' a n g := by
  rcases h with h | ⟨b, off, rfl, hlt, hc⟩
  · exact Or.inl h
  · exact Or.inr ⟨b, off, rfl, Nat.lt_of_lt_of_le hlt hb.size, fun i hi => (hb.cell (p := ⟨b, off + i, none⟩) hlt).trans (hc i hi)⟩
theorem Facts.congr {w : World} {a : Option Addr} {n : Nat} {g g' : Nat → Rv} (h : Facts w a n g) (e : ∀ i, i < n → g i = g' i) : Facts w a n g' := by
  rcases h with h | ⟨b, off, rfl, hlt, hc⟩
  · exact Or.inl h
  · exact Or.inr ⟨b, off, rfl, hlt, fun i hi => by rw [hc i hi, cellG_far (e (i / 3) (by omega))]⟩
/-- .. in a block from B on, none of it barred. -/
def MineF (w : World) (B : Nat) (a : Option Addr) (n : Nat) (g : Nat → Rv) : Prop :=
  n = 0 ∨ ∃ b off, a = some ⟨b, off, none⟩ ∧ B ≤ b ∧ b < w.heap.size ∧ ∀ i, i < n * 3 → w.cell? ⟨b, off + i, none⟩ = some (cellG g i) ∧ w.frozen? ⟨b, off + i, none⟩ = false
theorem MineF.facts {w : World} {B n : Nat} {a : Option Addr} {g : Nat → Rv} (h : MineF w B a n g) : Facts w a n g := by
  rcases h with h | ⟨b, off, rfl, _, hlt, hc⟩
  · exact Or.inl h
  · exact Or.inr ⟨b, off, rfl, hlt, fun i hi => (hc i hi).1⟩
theorem MineF.kept {w w' : World} {B n : Nat} {a : Option Addr} {g : Nat → Rv} (h : MineF w B a n g) (hb : Below w.heap.size w w') : MineF w' B a n g := by
  rcases h with h | ⟨b, off, rfl, h0, hlt, hc⟩
  · exact Or.inl h
  · exact Or.inr ⟨b, off, rfl, h0, Nat.lt_of_lt_of_le hlt hb.size, fun i hi => ⟨(hb.cell (p := ⟨b, off + i, none⟩) hlt).trans (hc i hi).1, (hb.frozen (p := ⟨b, off + i, none⟩) hlt).trans (hc i hi).2⟩⟩
theorem MineF.down {w : World} {B B' n : Nat} {a : Option Addr} {g : Nat → Rv} (h : MineF w B a n g) (hB : B' ≤ B) : MineF w B' a n g := by
  rcases h with h | ⟨b, off, rfl, h0, r⟩
  · exact Or.inl h
  · exact Or.inr ⟨b, off, rfl, by omega, r⟩
/-- One fact of a list, in a world that has only grown. -/
theorem fact_at {W wr : World} {a : Option Addr} {n k : Nat} {g : Nat → Rv} (h : Facts W a n g) (hB : Below W.heap.size W wr) (hk : k < n) : ∃ b off, a = some ⟨b, off, none⟩ ∧ b < W.heap.size ∧ wr.cell? ⟨b, off + k * 3, none⟩ = some (.bool (g k).e) ∧ wr.cell? ⟨b, off + k * 3 + 1, none⟩ = some (.int .i64 (g k).lo) ∧ wr.cell? ⟨b, off + k * 3 + 2, none⟩ = some (.int .i64 (g k).hi) := by
  rcases h with h | ⟨b, off, rfl, hb, hc⟩
  · omega
  · have q : ∀ j, j < n * 3 → wr.cell? ⟨b, off + j, none⟩ = some (cellG g j) := fun j hj => (hB.cell (p := ⟨b, off + j, none⟩) hb).trans (hc j hj)
    refine ⟨b, off, rfl, hb, ?_, ?_, ?_⟩
    · rw [q (k * 3) (by omega), cellG_0]
    · rw [Nat.add_assoc, q (k * 3 + 1) (by omega), cellG_1]
    · rw [Nat.add_assoc, q (k * 3 + 2) (by omega), cellG_2]
theorem fact_info : (Try.prog.info? 24).map (fun i => (i.zero, i.size, i.bytes)) = some (some (.agg #[.bool false, .int .i64 0, .int .i64 0]), 3, 24) := by kernel_rfl
def noF : Nat → Rv := fun _ => zeroR
theorem fact_made (n i : Nat) (hi : i < n) : (madeCells #[.bool false, .int .i64 0, .int .i64 0] n)[i]? = some (cellG noF i) := by
  have h : i % 3 < 3 := Nat.mod_lt _ (by decide)
  simp only [madeCells, Array.getElem?_map, Array.getElem?_range, hi, if_true, Option.map_some, cellG]
  generalize i % 3 = j at h
  congr 1
  match j, h with
  | 0, _ => rfl
  | 1, _ => rfl
  | 2, _ => rfl
  | j + 3, h => omega
/-- A row of ranges in a block of its own. -/
def RowF (w : World) (b n : Nat) (g : Nat → Rv) : Prop := w.rowIs b 24 (n * 3) (cellG g)
theorem RowF.mine {w : World} {B b n : Nat} {g : Nat → Rv} (h : RowF w b n g) (hB : B ≤ b) : MineF w B (some ⟨b, 0, none⟩) n g :=
  Or.inr ⟨b, 0, rfl, hB, World.rowIs.lt h, fun i hi => by rw [Nat.zero_add]; exact ⟨World.rowIs.cell h hi, by simpa using World.rowIs.frozen h i⟩⟩
theorem RowF.congr {w : World} {b n : Nat} {g g' : Nat → Rv} (h : RowF w b n g) (e : ∀ i, i < n → g i = g' i) : RowF w b n g' :=
  World.rowIs.congr h (fun i hi => cellG_far (e (i / 3) (by omega)))
theorem RowF.set {w : World} {b n k : Nat} {g : Nat → Rv} (h : RowF w b n g) (f : Rv) : RowF (((w.setCell ⟨b, k * 3, none⟩ (.bool f.e)).setCell ⟨b, k * 3 + 1, none⟩ (.int .i64 f.lo)).setCell ⟨b, k * 3 + 2, none⟩ (.int .i64 f.hi)) b n (upd g k f) := by
  refine World.rowIs.congr (World.rowIs.set (World.rowIs.set (World.rowIs.set h (k * 3) (.bool f.e)) (k * 3 + 1) (.int .i64 f.lo)) (k * 3 + 2) (.int .i64 f.hi)) (fun i hi => ?_)
  rw [cellG_upd]

set_option maxRecDepth 100000 in
set_option maxHeartbeats 1000000 in
theorem facts_list (a : Option Addr) (len cap : Nat) (g : Nat → Rv) (W : World) (hlen : len ≤ 1048576) (h : Hid (Facts W a len g)) :
    Calls Try.prog 23 #[.slice a len cap] W fun e W' => e = .returned (.slice (some ⟨W.heap.size, 0, none⟩) len len) ∧ MineF W' W.heap.size (some ⟨W.heap.size, 0, none⟩) len g ∧ Below W.heap.size W W' := by
  obtain ⟨i0, hi, hz0, hz1, hz2⟩ := info_parts fact_info
  have hmk : ∀ w : World, (Instr.makeSlice 34 (.int .i64 (len : Int)) (.int .i64 (len : Int))).run Try.prog w = .ok (.slice (some ⟨w.heap.size, 0, none⟩) len len) (w.alloc (.cells (madeCells #[.bool false, .int .i64 0, .int .i64 0] (len * 3)) 24)) := by
    intro w
    have hr := run_make (P := Try.prog) w 34 24 i0 _ Try.underlying34 hi hz0 .i64 .i64 (len : Int) (len : Int) (by omega) (Int.le_refl _) (by rw [hz2]; omega) (by omega)
    simp only [Int.toNat_natCast] at hr
    rw [hr, hz1]; rfl
  clear hi hz0 hz1 hz2
  go_enter Try.func23, Try.ntmps23
  go_wp2
  clear hmk
  go_loopw [4] (fun vi wr => ∃ k : Nat, k ≤ len ∧ vi = .int .i64 k ∧ Hid (RowF wr W.heap.size len (fun j => if j < k then g j else zeroR)) ∧ Hid (Below W.heap.size W wr)) (fun vi _ => len - (intOf vi).toNat)
  case atStart =>
    refine ⟨0, Nat.zero_le _, rfl, ?_, ?_⟩
    · have h := World.rowIs_alloc W (madeCells #[.bool false, .int .i64 0, .int .i64 0] (len * 3)) 24 (cellG noF) (fun i hi => fact_made _ i (by rw [size_madeCells] at hi; exact hi))
      rw [size_madeCells] at h
      exact RowF.congr h (fun i hi => by simp [noF])
    · show Below _ _ _
      go_grown
  case round =>
    obtain ⟨k, hk, rfl, HC, HB⟩ := hrel
    by_cases hlt : k < len
    · obtain ⟨b, off, ha, hb, c0, c1, c2⟩ := fact_at h.out HB.out hlt
      subst ha
      have hbs : W.heap.size < wr.heap.size := World.rowIs.lt HC.out
      go_wp2_with fail
      refine (to_range _ _ _ _).mono ?_
      rintro e w1 ⟨rfl, hB1⟩
      have HC1 : Hid (RowF w1 W.heap.size len (fun j => if j < k then g j else zeroR)) := World.rowIs.of_block HC.out (hB1.block _ hbs)
      have HB1 : Hid (Below W.heap.size W w1) := HB.out.trans (hB1.mono (by omega))
      clear hB1
      have d0 := World.rowIs.cell HC1.out (i := k * 3) (by omega)
      have d1 := World.rowIs.cell HC1.out (i := k * 3 + 1) (by omega)
      have d2 := World.rowIs.cell HC1.out (i := k * 3 + 2) (by omega)
      have f0 := World.rowIs.frozen HC1.out (k * 3)
      have f1 := World.rowIs.frozen HC1.out (k * 3 + 1)
      have f2 := World.rowIs.frozen HC1.out (k * 3 + 2)
      go_wp2
      go_roundw
      case rel =>
        refine ⟨k + 1, by omega, by go_num, ?_, ?_⟩
        · refine RowF.congr (RowF.set HC1.out (k := k) (g k)) (fun j hj => ?_)
          by_cases e : j = k
          · subst e; rw [upd_same, if_pos (by omega)]
          · rw [upd_other _ _ e]
            by_cases e2 : j < k
            · rw [if_pos e2, if_pos (by omega)]
            · rw [if_neg e2, if_neg (by omega)]
        · show Below _ _ _
          refine Below.trans HB1.out ?_
          go_grown
      case measure => simp [intOf]; omega
    · go_wp2
      go_ret
      refine ⟨rfl, ?_, HB.out⟩
      exact (RowF.congr HC.out (fun j hj => by rw [if_pos (by omega)])).mine (Nat.le_refl _)
theorem facts_size (a : Option Addr) (len cap : Nat) (l : Int) (W : World) (h0 : 0 ≤ l) (h1 : l ≤ 1048576) (hm : len ≤ 140737488351232) :
    Calls Try.prog 20 #[.slice a len cap, .int .i64 l] W fun e W' => e = .returned (.int .i64 (if (len : Int) ≤ l then l - (len : Int) else -1)) ∧ W' = W := by
  by_cases h : (len : Int) ≤ l
  · rw [if_pos h]
    go_enter Try.func20, Try.ntmps20
    go_wp2
    go_ret
    exact ⟨rfl, rfl⟩
  · rw [if_neg h]
    have h' : l < (len : Int) := by omega
    clear h
    go_enter Try.func20, Try.ntmps20
    go_wp2
    go_ret
    exact ⟨rfl, rfl⟩
set_option maxHeartbeats 2000000 in
theorem facts_same (a a' : Option Addr) (len cap cap' : Nat) (g : Nat → Rv) (W : World) (hlen : len ≤ 1048576) (h : Hid (Facts W a len g)) (h' : Hid (Facts W a' len g)) :
    Calls Try.prog 25 #[.slice a len cap, .slice a' len cap'] W fun e W' => e = .returned (.bool true) ∧ Below W.heap.size W W' := by
  go_enter Try.func25, Try.ntmps25
  go_wp2
  go_loopw [5] (fun vi wr => ∃ k : Nat, k ≤ len ∧ vi = .int .i64 k ∧ Hid (Below W.heap.size W wr)) (fun vi _ => len - (intOf vi).toNat)
  case atStart => exact ⟨0, Nat.zero_le _, rfl, Below.refl _ _⟩
  case round =>
    obtain ⟨k, hk, rfl, HB⟩ := hrel
    by_cases hlt : k < len
    · obtain ⟨b, off, ha, hb, c0, c1, c2⟩ := fact_at h.out HB.out hlt
      obtain ⟨b', off', ha', hb', e0, e1, e2⟩ := fact_at h'.out HB.out hlt
      subst ha ha'
      go_wp2_with fail
      go_region_with (go_at_call 12; refine (eq_range _ _ _ _).mono ?_; rintro e w' ⟨rfl, rfl⟩)
      all_goals
        go_wp2
        go_roundw
        case rel =>
          refine ⟨k + 1, by omega, by go_num, ?_⟩
          have hs := HB.out.size
          show Below _ _ _
          refine Below.trans HB.out ?_
          go_grown
        case measure => simp [intOf]; omega
    · go_wp2
      go_ret
      exact ⟨rfl, HB.out⟩
end Go.Proofs.Ytoeiijkomjlolab.walks
