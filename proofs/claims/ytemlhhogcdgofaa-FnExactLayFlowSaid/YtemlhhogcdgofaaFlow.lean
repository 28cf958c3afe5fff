/-
  Flows in memory, and what the laws' own helpers on them do, at every flow: they copy it, hold it against another one, and count it.
-/
import Derived.Test.YtemlhhogcdgofaaProg
import Derived.Test.YtemlhhogcdgofaaInts
import Derived.Test.YtemlhhogcdgofaaRecsInstr
import Derived.Test.YtemlhhogcdgofaaFlowMath
import Derived.WalkKit
import Derived.WalkSpells
import Derived.Below
import Derived.Handy
import Derived.Deep.OwnRows
import Derived.Deep.RegionWith
import Derived.Laws.MakeOwn
namespace Go.Proofs.Ytemlhhogcdgofaa.walks
open Go.RowKit Go.Proofs.Ytemlhhogcdgofaa.math Go.Proofs.Ytemlhhogcdgofaa.ints
set_option linter.unusedVariables false

/-- The cells of blocks in a row, whose steps lie at A. -/
def cellB (A : Nat → Option Addr × Nat) (f : Nat → Bv) (i : Nat) : Value := match i % 4 with
  | 0 => .slice (A (i / 4)).1 (f (i / 4)).len (A (i / 4)).2
  | 1 => .int .i64 (f (i / 4)).t
  | 2 => .int .i64 (f (i / 4)).th
  | _ => .int .i64 (f (i / 4)).el
theorem cellB_0 (A : Nat → Option Addr × Nat) (f : Nat → Bv) (k : Nat) : cellB A f (k * 4) = .slice (A k).1 (f k).len (A k).2 := by
  unfold cellB; rw [show k * 4 % 4 = 0 by omega, show k * 4 / 4 = k by omega]; rfl
theorem cellB_1 (A : Nat → Option Addr × Nat) (f : Nat → Bv) (k : Nat) : cellB A f (k * 4 + 1) = .int .i64 (f k).t := by
  unfold cellB; rw [show (k * 4 + 1) % 4 = 1 by omega, show (k * 4 + 1) / 4 = k by omega]; rfl
theorem cellB_2 (A : Nat → Option Addr × Nat) (f : Nat → Bv) (k : Nat) : cellB A f (k * 4 + 2) = .int .i64 (f k).th := by
  unfold cellB; rw [show (k * 4 + 2) % 4 = 2 by omega, show (k * 4 + 2) / 4 = k by omega]; rfl
theorem cellB_3 (A : Nat → Option Addr × Nat) (f : Nat → Bv) (k : Nat) : cellB A f (k * 4 + 3) = .int .i64 (f k).el := by
  unfold cellB; rw [show (k * 4 + 3) % 4 = 3 by omega, show (k * 4 + 3) / 4 = k by omega]; rfl
theorem cellB_far {A A' : Nat → Option Addr × Nat} {f f' : Nat → Bv} {i : Nat} (h : A (i / 4) = A' (i / 4)) (g : f (i / 4) = f' (i / 4)) : cellB A f i = cellB A' f' i := by unfold cellB; rw [h, g]
/-- A flow at an address. -/
def Flow (w : World) (a : Option Addr) (n : Nat) (f : Nat → Bv) : Prop :=
  n = 0 ∨ ∃ b off A, a = some ⟨b, off, none⟩ ∧ b < w.heap.size ∧ (∀ i, i < n * 4 → w.cell? ⟨b, off + i, none⟩ = some (cellB A f i)) ∧ ∀ k, k < n → Ints w (A k).1 (f k).zs ∧ (f k).zs.length = (f k).len * 5
theorem Flow.kept {w w' : World} {a : Option Addr} {n : Nat} {f : Nat → Bv} (h : Flow w a n f) (hb : Below w.heap.size w w') : Flow w' a n f := by
  rcases h with h | ⟨b, off, A, rfl, hlt, hc, hi⟩
  · exact Or.inl h
  · exact Or.inr ⟨b, off, A, rfl, Nat.lt_of_lt_of_le hlt hb.size, fun i hi => (hb.cell (p := ⟨b, off + i, none⟩) hlt).trans (hc i hi), fun k hk => ⟨(hi k hk).1.kept hb, (hi k hk).2⟩⟩
/-- One block of a flow, in a world that has only grown. -/
theorem flow_at {W wr : World} {a : Option Addr} {n k : Nat} {f : Nat → Bv} (h : Flow W a n f) (hB : Below W.heap.size W wr) (hk : k < n) : ∃ b off ca cc, a = some ⟨b, off, none⟩ ∧ b < W.heap.size ∧ wr.cell? ⟨b, off + k * 4, none⟩ = some (.slice ca (f k).len cc) ∧ wr.cell? ⟨b, off + k * 4 + 1, none⟩ = some (.int .i64 (f k).t) ∧ wr.cell? ⟨b, off + k * 4 + 2, none⟩ = some (.int .i64 (f k).th) ∧ wr.cell? ⟨b, off + k * 4 + 3, none⟩ = some (.int .i64 (f k).el) ∧ Ints wr ca (f k).zs ∧ (f k).zs.length = (f k).len * 5 := by
  rcases h with h | ⟨b, off, A, rfl, hb, hc, hi⟩
  · omega
  · have q : ∀ j, j < n * 4 → wr.cell? ⟨b, off + j, none⟩ = some (cellB A f j) := fun j hj => (hB.cell (p := ⟨b, off + j, none⟩) hb).trans (hc j hj)
    refine ⟨b, off, (A k).1, (A k).2, rfl, hb, ?_, ?_, ?_, ?_, (hi k hk).1.kept hB, (hi k hk).2⟩
    · rw [q (k * 4) (by omega), cellB_0]
    · rw [Nat.add_assoc, q (k * 4 + 1) (by omega), cellB_1]
    · rw [Nat.add_assoc, q (k * 4 + 2) (by omega), cellB_2]
    · rw [Nat.add_assoc, q (k * 4 + 3) (by omega), cellB_3]
theorem mine_far {w : World} {B b g i : Nat} {zs : List Int} {v : Value} (hne : b ≠ g) (h : Mine w B (some ⟨g, 0, none⟩) zs) : Mine (w.setCell ⟨b, i, none⟩ v) B (some ⟨g, 0, none⟩) zs := by
  rcases h with h | ⟨g', off, e, hB, hl, hc⟩
  · exact Or.inl h
  · simp only [Option.some.injEq, Addr.mk.injEq] at e
    obtain ⟨rfl, rfl, _⟩ := e
    exact Or.inr ⟨g, 0, rfl, hB, by simpa [World.setCell] using hl, fun j hj => ⟨by rw [World.cell?_setCell_other _ _ _ _ (by simp; try omega)]; exact (hc j hj).1, by simpa using (hc j hj).2⟩⟩
theorem mine_down {w : World} {B B' : Nat} {a : Option Addr} {zs : List Int} (h : Mine w B a zs) (hB : B' ≤ B) : Mine w B' a zs := by
  rcases h with h | ⟨b, off, e, h0, r⟩
  · exact Or.inl h
  · exact Or.inr ⟨b, off, e, by omega, r⟩
/-- A block that came in, and two empty ones. -/
theorem box_three (W : World) (ca : Option Addr) (len cc : Nat) (t th el : Int) : ∃ X, X = (((W.alloc (.cells #[.slice ca len cc, .int .i64 t, .int .i64 th, .int .i64 el] 41)).alloc (.cells #[.slice none 0 0, .int .i64 0, .int .i64 0, .int .i64 0] 46)).alloc (.cells #[.slice none 0 0, .int .i64 0, .int .i64 0, .int .i64 0] 46)) ∧ Below W.heap.size W X ∧ X.heap.size = W.heap.size + 1 + 1 + 1 ∧
    X.cell? ⟨W.heap.size, 0, none⟩ = some (.slice ca len cc) ∧ X.cell? ⟨W.heap.size, 1, none⟩ = some (.int .i64 t) ∧ X.cell? ⟨W.heap.size, 2, none⟩ = some (.int .i64 th) ∧ X.cell? ⟨W.heap.size, 3, none⟩ = some (.int .i64 el) ∧
    X.cell? ⟨W.heap.size + 1, 0, none⟩ = some (.slice none 0 0) ∧ X.cell? ⟨W.heap.size + 1, 1, none⟩ = some (.int .i64 0) ∧ X.cell? ⟨W.heap.size + 1, 2, none⟩ = some (.int .i64 0) ∧ X.cell? ⟨W.heap.size + 1, 3, none⟩ = some (.int .i64 0) ∧
    X.cell? ⟨W.heap.size + 1 + 1, 0, none⟩ = some (.slice none 0 0) ∧ X.cell? ⟨W.heap.size + 1 + 1, 1, none⟩ = some (.int .i64 0) ∧ X.cell? ⟨W.heap.size + 1 + 1, 2, none⟩ = some (.int .i64 0) ∧ X.cell? ⟨W.heap.size + 1 + 1, 3, none⟩ = some (.int .i64 0) ∧
    X.frozen? ⟨W.heap.size + 1, 0, none⟩ = false ∧ X.frozen? ⟨W.heap.size + 1, 1, none⟩ = false ∧ X.frozen? ⟨W.heap.size + 1, 2, none⟩ = false ∧ X.frozen? ⟨W.heap.size + 1, 3, none⟩ = false ∧ X.frozen? ⟨W.heap.size + 1 + 1, 0, none⟩ = false ∧ X.frozen? ⟨W.heap.size + 1 + 1, 1, none⟩ = false ∧ X.frozen? ⟨W.heap.size + 1 + 1, 2, none⟩ = false ∧ X.frozen? ⟨W.heap.size + 1 + 1, 3, none⟩ = false := by
  refine ⟨_, rfl, by repeat (first | exact Below.refl _ _ | refine Below.drew ?_ | refine Below.setCell ?_ (by simp; try omega) _ | refine Below.alloc ?_ (by simp; try omega) _), by simp, ?_⟩
  refine ⟨?_, ?_, ?_, ?_, ?_, ?_, ?_, ?_, ?_, ?_, ?_, ?_, ?_, ?_, ?_, ?_, ?_, ?_, ?_, ?_⟩ <;> go_simp
set_option maxRecDepth 100000 in
set_option maxHeartbeats 2000000 in
theorem to_block (ca : Option Addr) (len cc : Nat) (t th el : Int) (zs : List Int) (W : World) (hz : Hid (zs.length = len * 5)) (hlen : len ≤ 1048576) (h : Hid (Ints W ca zs)) :
    Calls Try.prog 21 #[.agg #[.slice ca len cc, .int .i64 t, .int .i64 th, .int .i64 el]] W fun e W' => ∃ g, e = .returned (.agg #[.slice (some ⟨g, 0, none⟩) len len, .int .i64 t, .int .i64 th, .int .i64 el]) ∧ W.heap.size ≤ g ∧ Mine W' W.heap.size (some ⟨g, 0, none⟩) zs ∧ Below W.heap.size W W' := by
  go_enter Try.func21, Try.ntmps21
  go_wp2_with fail
  refine (Instr_list _ _ _ zs _ hz hlen (h.out.kept (by repeat (first | exact Below.refl _ _ | refine Below.drew ?_ | refine Below.setCell ?_ (by simp; try omega) _ | refine Below.alloc ?_ (by simp; try omega) _)))).mono ?_
  obtain ⟨X, EX, BX, lX, x0, x1, x2, x3, z0, z1, z2, z3, y0, y1, y2, y3, u0, u1, u2, u3, v0, v1, v2, v3⟩ := box_three W ca len cc t th el
  rw [← EX]
  rintro e w1 ⟨rfl, hM, hB⟩
  have hs := hB.size
  have l0 : W.heap.size < w1.heap.size := by omega
  have l1 : W.heap.size + 1 < w1.heap.size := by omega
  have l2 : W.heap.size + 1 + 1 < w1.heap.size := by omega
  have q : ∀ b o v, b < X.heap.size → X.cell? ⟨b, o, none⟩ = some v → w1.cell? ⟨b, o, none⟩ = some v := fun b o v hb hc => (hB.cell (p := ⟨b, o, none⟩) hb).trans hc
  have r : ∀ b o, b < X.heap.size → X.frozen? ⟨b, o, none⟩ = false → w1.frozen? ⟨b, o, none⟩ = false := fun b o hb hc => (hB.frozen (p := ⟨b, o, none⟩) hb).trans hc
  have HM : Hid (Mine w1 X.heap.size (some ⟨X.heap.size, 0, none⟩) zs) := hM
  have HB : Hid (Below W.heap.size W w1) := BX.trans (hB.mono (by omega))
  have lg : W.heap.size + 1 + 1 < X.heap.size := by omega
  have x1 := q _ _ _ (by omega) x1
  have x2 := q _ _ _ (by omega) x2
  have x3 := q _ _ _ (by omega) x3
  have z0 := q _ _ _ (by omega) z0
  have z1 := q _ _ _ (by omega) z1
  have z2 := q _ _ _ (by omega) z2
  have z3 := q _ _ _ (by omega) z3
  have y0 := q _ _ _ (by omega) y0
  have y1 := q _ _ _ (by omega) y1
  have y2 := q _ _ _ (by omega) y2
  have y3 := q _ _ _ (by omega) y3
  have u0 := r _ _ (by omega) u0
  have u1 := r _ _ (by omega) u1
  have u2 := r _ _ (by omega) u2
  have u3 := r _ _ (by omega) u3
  have v0 := r _ _ (by omega) v0
  have v1 := r _ _ (by omega) v1
  have v2 := r _ _ (by omega) v2
  have v3 := r _ _ (by omega) v3
  generalize X.heap.size = g at *
  clear q r hM hB EX BX x0
  go_wp2
  refine bodyPost_ret (v := .agg #[.slice (some ⟨g, 0, none⟩) len len, .int .i64 t, .int .i64 th, .int .i64 el]) (by simp only [results, Try.results21]; go_simp) rfl ⟨g, rfl, by omega, ?_, ?_⟩
  · iterate 8 refine mine_far (by omega) ?_
    exact mine_down HM.out (by omega)
  · refine Below.trans HB.out ?_
    iterate 8 refine Below.setCell ?_ (by simp; try omega) _
    exact Below.refl _ _
theorem ints_far1 {w : World} {b i : Nat} {a : Option Addr} {zs : List Int} {v : Value} (hne : ∀ x o, a = some ⟨x, o, none⟩ → b < x) (h : Ints w a zs) : Ints (w.setCell ⟨b, i, none⟩ v) a zs := by
  rcases h with h | ⟨g, off, rfl, hl, hc⟩
  · exact Or.inl h
  · have := hne g off rfl
    exact Or.inr ⟨g, off, rfl, by simpa [World.setCell] using hl, fun j hj => by rw [World.cell?_setCell_other _ _ _ _ (by simp; try omega)]; exact hc j hj⟩
theorem ints_five {w : World} {b i j k l : Nat} {a : Option Addr} {zs : List Int} {v0 v1 v2 v3 : Value} (hne : ∀ x o, a = some ⟨x, o, none⟩ → b < x) (h : Ints w a zs) : Ints ((((w.setCell ⟨b, i, none⟩ v0).setCell ⟨b, j, none⟩ v1).setCell ⟨b, k, none⟩ v2).setCell ⟨b, l, none⟩ v3) a zs :=
  ints_far1 hne (ints_far1 hne (ints_far1 hne (ints_far1 hne h)))
theorem ints_four {w : World} {b i j k l g : Nat} {zs : List Int} {v0 v1 v2 v3 : Value} (hne : b < g) (h : Ints w (some ⟨g, 0, none⟩) zs) : Ints ((((w.setCell ⟨b, i, none⟩ v0).setCell ⟨b, j, none⟩ v1).setCell ⟨b, k, none⟩ v2).setCell ⟨b, l, none⟩ v3) (some ⟨g, 0, none⟩) zs :=
  ints_five (fun x o e => by simp only [Option.some.injEq, Addr.mk.injEq] at e; omega) h
theorem block_info : (Try.prog.info? 46).map (fun i => (i.zero, i.size, i.bytes)) = some (some (.agg #[.slice none 0 0, .int .i64 0, .int .i64 0, .int .i64 0]), 4, 48) := by kernel_rfl
def noA : Nat → Option Addr × Nat := fun _ => (none, 0)
def noBs : Nat → Bv := fun _ => noB
theorem block_made (n i : Nat) (hi : i < n) : (madeCells #[.slice none 0 0, .int .i64 0, .int .i64 0, .int .i64 0] n)[i]? = some (cellB noA noBs i) := by
  have h : i % 4 < 4 := Nat.mod_lt _ (by decide)
  simp only [madeCells, Array.getElem?_map, Array.getElem?_range, hi, if_true, Option.map_some, cellB]
  generalize i % 4 = j at h
  congr 1
  match j, h with
  | 0, _ => rfl
  | 1, _ => rfl
  | 2, _ => rfl
  | 3, _ => rfl
  | j + 4, h => omega
def updA (A : Nat → Option Addr × Nat) (k : Nat) (a : Option Addr × Nat) : Nat → Option Addr × Nat := fun i => if i = k then a else A i
theorem updA_same (A : Nat → Option Addr × Nat) (k : Nat) (a : Option Addr × Nat) : updA A k a k = a := if_pos rfl
theorem updA_other (A : Nat → Option Addr × Nat) {k i : Nat} (a : Option Addr × Nat) (h : i ≠ k) : updA A k a i = A i := if_neg h
/-- k blocks have been laid into a row of n. -/
def RowB (w : World) (b n k : Nat) (A : Nat → Option Addr × Nat) (f : Nat → Bv) : Prop := w.rowIs b 46 (n * 4) (fun i => if i < k * 4 then cellB A f i else cellB noA noBs i)
theorem RowB.set {w : World} {b n k : Nat} {A : Nat → Option Addr × Nat} {f : Nat → Bv} (h : RowB w b n k A f) (a : Option Addr) (c : Nat) : RowB ((((w.setCell ⟨b, k * 4, none⟩ (.slice a (f k).len c)).setCell ⟨b, k * 4 + 1, none⟩ (.int .i64 (f k).t)).setCell ⟨b, k * 4 + 2, none⟩ (.int .i64 (f k).th)).setCell ⟨b, k * 4 + 3, none⟩ (.int .i64 (f k).el)) b n (k + 1) (updA A k (a, c)) f := by
  refine World.rowIs.congr (World.rowIs.set (World.rowIs.set (World.rowIs.set (World.rowIs.set h (k * 4) (.slice a (f k).len c)) (k * 4 + 1) (.int .i64 (f k).t)) (k * 4 + 2) (.int .i64 (f k).th)) (k * 4 + 3) (.int .i64 (f k).el)) (fun i hi => ?_)
  rcases (show i = k * 4 ∨ i = k * 4 + 1 ∨ i = k * 4 + 2 ∨ i = k * 4 + 3 ∨ i < k * 4 ∨ (k + 1) * 4 ≤ i by omega) with rfl | rfl | rfl | rfl | h | h
  · rw [if_neg (by omega), if_neg (by omega), if_neg (by omega), if_pos rfl, if_pos (by omega), cellB_0, updA_same]
  · rw [if_neg (by omega), if_neg (by omega), if_pos rfl, if_pos (by omega), cellB_1]
  · rw [if_neg (by omega), if_pos rfl, if_pos (by omega), cellB_2]
  · rw [if_pos rfl, if_pos (by omega), cellB_3]
  · rw [if_neg (by omega), if_neg (by omega), if_neg (by omega), if_neg (by omega), if_pos h, if_pos (by omega)]
    exact cellB_far (updA_other _ _ (by omega)).symm rfl
  · rw [if_neg (by omega), if_neg (by omega), if_neg (by omega), if_neg (by omega), if_neg (by omega), if_neg (by omega)]
set_option maxRecDepth 100000 in
set_option maxHeartbeats 4000000 in
theorem flow_list (a : Option Addr) (n cap : Nat) (f : Nat → Bv) (W : World) (hn : n ≤ 1048576) (hlen : Hid (∀ k, k < n → (f k).len ≤ 1048576)) (h : Hid (Flow W a n f)) :
    Calls Try.prog 7 #[.slice a n cap] W fun e W' => e = .returned (.slice (some ⟨W.heap.size, 0, none⟩) n n) ∧ Flow W' (some ⟨W.heap.size, 0, none⟩) n f ∧ Below W.heap.size W W' := by
  obtain ⟨i0, hi, hz0, hz1, hz2⟩ := info_parts block_info
  have hmk : ∀ w : World, (Instr.makeSlice 25 (.int .i64 (n : Int)) (.int .i64 (n : Int))).run Try.prog w = .ok (.slice (some ⟨w.heap.size, 0, none⟩) n n) (w.alloc (.cells (madeCells #[.slice none 0 0, .int .i64 0, .int .i64 0, .int .i64 0] (n * 4)) 46)) := by
    intro w
    have hr := run_make (P := Try.prog) w 25 46 i0 _ Try.underlying25 hi hz0 .i64 .i64 (n : Int) (n : Int) (by omega) (Int.le_refl _) (by rw [hz2]; omega) (by omega)
    simp only [Int.toNat_natCast] at hr
    rw [hr, hz1]; rfl
  clear hi hz0 hz1 hz2
  go_enter Try.func7, Try.ntmps7
  go_wp2
  clear hmk
  go_loopw [4] (fun vi wr => ∃ (k : Nat) (A : Nat → Option Addr × Nat), k ≤ n ∧ vi = .int .i64 k ∧ Hid (RowB wr W.heap.size n k A f) ∧ Hid (∀ j, j < k → Ints wr (A j).1 (f j).zs ∧ ∀ b o, (A j).1 = some ⟨b, o, none⟩ → W.heap.size < b) ∧ Hid (Below W.heap.size W wr)) (fun vi _ => n - (intOf vi).toNat)
  case atStart =>
    refine ⟨0, noA, Nat.zero_le _, rfl, ?_, fun j hj => by omega, ?_⟩
    · have h := World.rowIs_alloc W (madeCells #[.slice none 0 0, .int .i64 0, .int .i64 0, .int .i64 0] (n * 4)) 46 (cellB noA noBs) (fun i hi => block_made _ i (by rw [size_madeCells] at hi; exact hi))
      rw [size_madeCells] at h
      exact World.rowIs.congr h (fun i hi => by rw [if_neg (by omega)])
    · show Below _ _ _
      go_grown
  case round =>
    obtain ⟨k, A, hk, rfl, HC, HJ, HB⟩ := hrel
    by_cases hlt : k < n
    · obtain ⟨b, off, ca, cc, ha, hb, c0, c1, c2, c3, hI, hZ⟩ := flow_at h.out HB.out hlt
      subst ha
      have hbs : W.heap.size < wr.heap.size := World.rowIs.lt HC.out
      have HI : Hid (Ints wr ca (f k).zs) := hI
      have HZ : Hid ((f k).zs.length = (f k).len * 5) := hZ
      have HL := hlen.out k hlt
      clear hI hZ
      go_wp2_with fail
      refine (to_block _ _ _ _ _ _ (f k).zs _ HZ HL HI).mono ?_
      rintro e w1 ⟨g, rfl, hgW, hM, hB1⟩
      have HC1 : Hid (RowB w1 W.heap.size n k A f) := World.rowIs.of_block HC.out (hB1.block _ hbs)
      have HB1 : Hid (Below W.heap.size W w1) := HB.out.trans (hB1.mono (by omega))
      have HM : Hid (Ints w1 (some ⟨g, 0, none⟩) (f k).zs) := hM.ints
      have HJ1 : Hid (∀ j, j < k → Ints w1 (A j).1 (f j).zs ∧ ∀ b o, (A j).1 = some ⟨b, o, none⟩ → W.heap.size < b) := fun j hj => ⟨(HJ.out j hj).1.kept hB1, (HJ.out j hj).2⟩
      have hgb : W.heap.size < g := by omega
      clear hB1 hM HC HB HJ
      obtain ⟨d0, q0⟩ : (∃ v, w1.cell? ⟨W.heap.size, k * 4, none⟩ = some v) ∧ w1.frozen? ⟨W.heap.size, k * 4, none⟩ = false := ⟨⟨_, World.rowIs.cell HC1.out (i := k * 4) (by omega)⟩, World.rowIs.frozen HC1.out (k * 4)⟩
      obtain ⟨d1, q1⟩ : (∃ v, w1.cell? ⟨W.heap.size, k * 4 + 1, none⟩ = some v) ∧ w1.frozen? ⟨W.heap.size, k * 4 + 1, none⟩ = false := ⟨⟨_, World.rowIs.cell HC1.out (i := k * 4 + 1) (by omega)⟩, World.rowIs.frozen HC1.out (k * 4 + 1)⟩
      obtain ⟨d2, q2⟩ : (∃ v, w1.cell? ⟨W.heap.size, k * 4 + 2, none⟩ = some v) ∧ w1.frozen? ⟨W.heap.size, k * 4 + 2, none⟩ = false := ⟨⟨_, World.rowIs.cell HC1.out (i := k * 4 + 2) (by omega)⟩, World.rowIs.frozen HC1.out (k * 4 + 2)⟩
      obtain ⟨d3, q3⟩ : (∃ v, w1.cell? ⟨W.heap.size, k * 4 + 3, none⟩ = some v) ∧ w1.frozen? ⟨W.heap.size, k * 4 + 3, none⟩ = false := ⟨⟨_, World.rowIs.cell HC1.out (i := k * 4 + 3) (by omega)⟩, World.rowIs.frozen HC1.out (k * 4 + 3)⟩
      obtain ⟨v0, d0⟩ := d0
      obtain ⟨v1, d1⟩ := d1
      obtain ⟨v2, d2⟩ := d2
      obtain ⟨v3, d3⟩ := d3
      go_wp2
      go_roundw
      case rel =>
        refine ⟨k + 1, updA A k (some ⟨g, 0, none⟩, (f k).len), by omega, by go_num, HC1.out.set _ _, ?_, ?_⟩
        · show ∀ j, j < k + 1 → _
          intro j hj
          by_cases e : j = k
          · subst e
            rw [updA_same]
            exact ⟨ints_four hgb HM.out, fun b o e => by simp only [Option.some.injEq, Addr.mk.injEq] at e; omega⟩
          · rw [updA_other _ _ e]
            exact ⟨ints_five (HJ1.out j (by omega)).2 (HJ1.out j (by omega)).1, (HJ1.out j (by omega)).2⟩
        · show Below _ _ _
          refine Below.trans HB1.out ?_
          go_grown
      case measure => simp [intOf]; omega
    · have HE : Hid (k = n) := by show k = n; omega
      go_wp2
      go_ret
      refine ⟨rfl, ?_, HB.out⟩
      by_cases h0 : n = 0
      · exact Or.inl h0
      refine Or.inr ⟨W.heap.size, 0, A, rfl, World.rowIs.lt HC.out, fun i hi => ?_, fun j hj => ⟨(HJ.out j (by have := HE.out; omega)).1, ?_⟩⟩
      · rw [Nat.zero_add, World.rowIs.cell HC.out hi, if_pos (by have := HE.out; omega)]
      · obtain ⟨_, _, _, _, _, _, _, _, _, _, _, hZ⟩ := flow_at h.out HB.out hj
        exact hZ
end Go.Proofs.Ytemlhhogcdgofaa.walks
