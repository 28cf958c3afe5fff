/-
  Lists of records of a list of ints and an int in memory, and what the laws' own helpers do at every one: they copy it, hold it against another one, and count it.
-/
import Derived.Test.YtapbfoooflpejaaProg
import Derived.Test.YtapbfoooflpejaaInts
import Derived.WalkKit
import Derived.WalkSpells
import Derived.Below
import Derived.Handy
import Derived.Deep.OwnRows
import Derived.Deep.RegionWith
import Derived.Laws.MakeOwn
namespace Go.Proofs.Ytapbfoooflpejaa.walks
open Go.RowKit Go.Proofs.Ytapbfoooflpejaa.ints
set_option linter.unusedVariables false

/-- One record: its list and its number. -/
structure Pv where
  zs : List Int
  c : Int
def noP : Pv := ⟨[], 0⟩
def cellP (A : Nat → Option Addr × Nat) (f : Nat → Pv) (i : Nat) : Value := if i % 2 = 0 then .slice (A (i / 2)).1 (f (i / 2)).zs.length (A (i / 2)).2 else .int .i64 (f (i / 2)).c
theorem cellP_s (A : Nat → Option Addr × Nat) (f : Nat → Pv) (k : Nat) : cellP A f (k * 2) = .slice (A k).1 (f k).zs.length (A k).2 := by
  unfold cellP; rw [if_pos (by omega), show (k * 2) / 2 = k by omega]
theorem cellP_c (A : Nat → Option Addr × Nat) (f : Nat → Pv) (k : Nat) : cellP A f (k * 2 + 1) = .int .i64 (f k).c := by
  unfold cellP; rw [if_neg (by omega), show (k * 2 + 1) / 2 = k by omega]
theorem cellP_far {A A' : Nat → Option Addr × Nat} {f f' : Nat → Pv} {i : Nat} (h : A (i / 2) = A' (i / 2)) (g : f (i / 2) = f' (i / 2)) : cellP A f i = cellP A' f' i := by unfold cellP; rw [h, g]
/-- The list at an address. -/
def Pats (w : World) (a : Option Addr) (n : Nat) (f : Nat → Pv) : Prop :=
  n = 0 ∨ ∃ b off A, a = some ⟨b, off, none⟩ ∧ b < w.heap.size ∧ (∀ i, i < n * 2 → w.cell? ⟨b, off + i, none⟩ = some (cellP A f i)) ∧ ∀ k, k < n → Ints w (A k).1 (f k).zs
theorem Pats.kept {w w' : World} {a : Option Addr} {n : Nat} {f : Nat → Pv} (h : Pats w a n f) (hb : Below w.heap.size w w') : Pats w' a n f := by
  rcases h with h | ⟨b, off, A, rfl, hlt, hc, hi⟩
  · exact Or.inl h
  · exact Or.inr ⟨b, off, A, rfl, Nat.lt_of_lt_of_le hlt hb.size, fun i hi => (hb.cell (p := ⟨b, off + i, none⟩) hlt).trans (hc i hi), fun k hk => (hi k hk).kept hb⟩
/-- One record, in a world that has only grown. -/
theorem pat_at {W wr : World} {a : Option Addr} {n k : Nat} {f : Nat → Pv} (h : Pats W a n f) (hB : Below W.heap.size W wr) (hk : k < n) : ∃ b off ca cc, a = some ⟨b, off, none⟩ ∧ b < W.heap.size ∧ wr.cell? ⟨b, off + k * 2, none⟩ = some (.slice ca (f k).zs.length cc) ∧ wr.cell? ⟨b, off + k * 2 + 1, none⟩ = some (.int .i64 (f k).c) ∧ Ints wr ca (f k).zs := by
  rcases h with h | ⟨b, off, A, rfl, hb, hc, hi⟩
  · omega
  · have q : ∀ j, j < n * 2 → wr.cell? ⟨b, off + j, none⟩ = some (cellP A f j) := fun j hj => (hB.cell (p := ⟨b, off + j, none⟩) hb).trans (hc j hj)
    refine ⟨b, off, (A k).1, (A k).2, rfl, hb, ?_, ?_, (hi k hk).kept hB⟩
    · rw [q (k * 2) (by omega), cellP_s]
    · rw [Nat.add_assoc]; rw [q (k * 2 + 1) (by omega), cellP_c]
theorem mine_far {w : World} {B b g i : Nat} {zs : List Int} {v : Value} (hne : b ≠ g) (h : Mine w B (some ⟨g, 0, none⟩) zs) : Mine (w.setCell ⟨b, i, none⟩ v) B (some ⟨g, 0, none⟩) zs := by
  rcases h with h | ⟨g', off, e, hB, hl, hc⟩
  · exact Or.inl h
  · simp only [Option.some.injEq, Addr.mk.injEq] at e
    obtain ⟨rfl, rfl, _⟩ := e
    exact Or.inr ⟨g, 0, rfl, hB, by simpa [World.setCell] using hl, fun j hj => ⟨by rw [World.cell?_setCell_other _ _ _ _ (by simp; try omega)]; exact (hc j hj).1, by simpa using (hc j hj).2⟩⟩
theorem mine_down {w : World} {B B' : Nat} {a : Option Addr} {zs : List Int} (h : Mine w B a zs) (hB : B' ≤ B) : Mine w B' a zs := by
  rcases h with h | ⟨b, off, e, h0, r⟩
  · exact Or.inl h
  · exact Or.inr ⟨b, off, e, by omega, r⟩
/-- A record that came in, and two empty ones. -/
theorem box_threeP (W : World) (ca : Option Addr) (len cc : Nat) (t : Int) : ∃ X, X = (((W.alloc (.cells #[.slice ca len cc, .int .i64 t] 43)).alloc (.cells #[.slice none 0 0, .int .i64 0] 50)).alloc (.cells #[.slice none 0 0, .int .i64 0] 50)) ∧ Below W.heap.size W X ∧ X.heap.size = W.heap.size + 1 + 1 + 1 ∧
    X.cell? ⟨W.heap.size, 0, none⟩ = some (.slice ca len cc) ∧ X.cell? ⟨W.heap.size, 1, none⟩ = some (.int .i64 t) ∧
    X.cell? ⟨W.heap.size + 1, 0, none⟩ = some (.slice none 0 0) ∧ X.cell? ⟨W.heap.size + 1, 1, none⟩ = some (.int .i64 0) ∧
    X.cell? ⟨W.heap.size + 1 + 1, 0, none⟩ = some (.slice none 0 0) ∧ X.cell? ⟨W.heap.size + 1 + 1, 1, none⟩ = some (.int .i64 0) ∧
    X.frozen? ⟨W.heap.size + 1, 0, none⟩ = false ∧ X.frozen? ⟨W.heap.size + 1, 1, none⟩ = false ∧ X.frozen? ⟨W.heap.size + 1 + 1, 0, none⟩ = false ∧ X.frozen? ⟨W.heap.size + 1 + 1, 1, none⟩ = false := by
  refine ⟨_, rfl, by repeat (first | exact Below.refl _ _ | refine Below.drew ?_ | refine Below.setCell ?_ (by simp; try omega) _ | refine Below.alloc ?_ (by simp; try omega) _), by simp, ?_⟩
  refine ⟨?_, ?_, ?_, ?_, ?_, ?_, ?_, ?_, ?_, ?_⟩ <;> go_simp
set_option maxRecDepth 100000 in
set_option maxHeartbeats 2000000 in
theorem to_pat (ca : Option Addr) (cc : Nat) (t : Int) (zs : List Int) (W : World) (hlen : zs.length ≤ 1048576) (h : Hid (Ints W ca zs)) :
    Calls Try.prog 24 #[.agg #[.slice ca zs.length cc, .int .i64 t]] W fun e W' => ∃ g, e = .returned (.agg #[.slice (some ⟨g, 0, none⟩) zs.length zs.length, .int .i64 t]) ∧ W.heap.size ≤ g ∧ Mine W' W.heap.size (some ⟨g, 0, none⟩) zs ∧ Below W.heap.size W W' := by
  obtain ⟨len, HZ⟩ : ∃ len, Hid (zs.length = len) := ⟨_, rfl⟩
  rw [HZ.out] at hlen ⊢
  go_enter Try.func24, Try.ntmps24
  go_wp2_with fail
  obtain ⟨X, EX, BX, lX, x0, x1, z0, z1, y0, y1, u0, u1, v0, v1⟩ := box_threeP W ca len cc t
  rw [← EX]
  refine (to_ints _ _ _ zs _ HZ hlen (h.out.kept BX)).mono ?_
  rintro e w1 ⟨rfl, hM, hB⟩
  have hs := hB.size
  have l0 : W.heap.size < w1.heap.size := by omega
  have l1 : W.heap.size + 1 < w1.heap.size := by omega
  have l2 : W.heap.size + 1 + 1 < w1.heap.size := by omega
  have q : ∀ b o v, b < X.heap.size → X.cell? ⟨b, o, none⟩ = some v → w1.cell? ⟨b, o, none⟩ = some v := fun b o v hb hc => (hB.cell (p := ⟨b, o, none⟩) hb).trans hc
  have r : ∀ b o, b < X.heap.size → X.frozen? ⟨b, o, none⟩ = false → w1.frozen? ⟨b, o, none⟩ = false := fun b o hb hc => (hB.frozen (p := ⟨b, o, none⟩) hb).trans hc
  have HM : Hid (Mine w1 X.heap.size (some ⟨X.heap.size, 0, none⟩) zs) := hM
  have HB : Hid (Below W.heap.size W w1) := BX.trans (hB.mono (by omega))
  have lg : W.heap.size + 1 + 1 < X.heap.size := by omega
  have x1 := q _ _ _ (by omega) x1
  have z0 := q _ _ _ (by omega) z0
  have z1 := q _ _ _ (by omega) z1
  have y0 := q _ _ _ (by omega) y0
  have y1 := q _ _ _ (by omega) y1
  have u0 := r _ _ (by omega) u0
  have u1 := r _ _ (by omega) u1
  have v0 := r _ _ (by omega) v0
  have v1 := r _ _ (by omega) v1
  generalize X.heap.size = g at *
  clear q r hM hB EX BX x0
  go_wp2
  refine bodyPost_ret (v := .agg #[.slice (some ⟨g, 0, none⟩) len len, .int .i64 t]) (by simp only [results, Try.results24]; go_simp) rfl ⟨g, rfl, by omega, ?_, ?_⟩
  · iterate 4 refine mine_far (by omega) ?_
    exact mine_down HM.out (by omega)
  · refine Below.trans HB.out ?_
    iterate 4 refine Below.setCell ?_ (by simp; try omega) _
    exact Below.refl _ _
theorem pat_info : (Try.prog.info? 50).map (fun i => (i.zero, i.size, i.bytes)) = some (some (.agg #[.slice none 0 0, .int .i64 0]), 2, 32) := by kernel_rfl
def noPA : Nat → Option Addr × Nat := fun _ => (none, 0)
def noPs : Nat → Pv := fun _ => noP
theorem pat_made (n i : Nat) (hi : i < n) : (madeCells #[.slice none 0 0, .int .i64 0] n)[i]? = some (cellP noPA noPs i) := by
  have h : i % 2 < 2 := Nat.mod_lt _ (by decide)
  simp only [madeCells, Array.getElem?_map, Array.getElem?_range, hi, if_true, Option.map_some, cellP]
  generalize i % 2 = j at h
  congr 1
  match j, h with
  | 0, _ => rfl
  | 1, _ => rfl
  | j + 2, h => omega
def updPA (A : Nat → Option Addr × Nat) (k : Nat) (a : Option Addr × Nat) : Nat → Option Addr × Nat := fun i => if i = k then a else A i
theorem updPA_same (A : Nat → Option Addr × Nat) (k : Nat) (a : Option Addr × Nat) : updPA A k a k = a := if_pos rfl
theorem updPA_other (A : Nat → Option Addr × Nat) {k i : Nat} (a : Option Addr × Nat) (h : i ≠ k) : updPA A k a i = A i := if_neg h
/-- k records have been laid into a row of n. -/
def RowP (w : World) (b n k : Nat) (A : Nat → Option Addr × Nat) (f : Nat → Pv) : Prop := w.rowIs b 50 (n * 2) (fun i => if i < k * 2 then cellP A f i else cellP noPA noPs i)
theorem RowP.set {w : World} {b n k : Nat} {A : Nat → Option Addr × Nat} {f : Nat → Pv} (h : RowP w b n k A f) (a : Option Addr) (c : Nat) : RowP ((w.setCell ⟨b, k * 2, none⟩ (.slice a (f k).zs.length c)).setCell ⟨b, k * 2 + 1, none⟩ (.int .i64 (f k).c)) b n (k + 1) (updPA A k (a, c)) f := by
  refine World.rowIs.congr (World.rowIs.set (World.rowIs.set h (k * 2) (.slice a (f k).zs.length c)) (k * 2 + 1) (.int .i64 (f k).c)) (fun i hi => ?_)
  rcases (show i = k * 2 ∨ i = k * 2 + 1 ∨ i < k * 2 ∨ (k + 1) * 2 ≤ i by omega) with rfl | rfl | h | h
  · rw [if_neg (by omega), if_pos rfl, if_pos (by omega), cellP_s, updPA_same]
  · rw [if_pos rfl, if_pos (by omega), cellP_c]
  · rw [if_neg (by omega), if_neg (by omega), if_pos h, if_pos (by omega)]
    exact cellP_far (updPA_other _ _ (by omega)).symm rfl
  · rw [if_neg (by omega), if_neg (by omega), if_neg (by omega), if_neg (by omega)]
/-- Where the lists of a copy lie. -/
def aOfP (G : Nat → Nat) (f : Nat → Pv) : Nat → Option Addr × Nat := fun k => (some ⟨G k, 0, none⟩, (f k).zs.length)
def updPN (G : Nat → Nat) (k g : Nat) : Nat → Nat := fun i => if i = k then g else G i
theorem updPN_same (G : Nat → Nat) (k g : Nat) : updPN G k g k = g := if_pos rfl
theorem updPN_other (G : Nat → Nat) {k i : Nat} (g : Nat) (h : i ≠ k) : updPN G k g i = G i := if_neg h
theorem aOfP_upd (G : Nat → Nat) (f : Nat → Pv) (k g : Nat) : updPA (aOfP G f) k (some ⟨g, 0, none⟩, (f k).zs.length) = aOfP (updPN G k g) f := by
  funext i
  by_cases e : i = k
  · subst e; rw [updPA_same]; simp [aOfP, updPN_same]
  · rw [updPA_other _ _ e]; simp [aOfP, updPN_other _ _ e]
/-- A copy: its list in block b, the records' lists in blocks behind it, below E. -/
structure MineP (w : World) (b E n : Nat) (f : Nat → Pv) (G : Nat → Nat) : Prop where
  lt : b < w.heap.size
  cell : ∀ i, i < n * 2 → w.cell? ⟨b, i, none⟩ = some (cellP (aOfP G f) f i) ∧ w.frozen? ⟨b, i, none⟩ = false
  code : ∀ k, k < n → Mine w (b + 1) (some ⟨G k, 0, none⟩) (f k).zs
  ne : ∀ k, k < n → b < G k
  hi : ∀ k, k < n → 0 < (f k).zs.length → G k < E
  ap : ∀ j k, j < n → k < n → j ≠ k → 0 < (f j).zs.length → 0 < (f k).zs.length → G j ≠ G k
theorem MineP.pats {w : World} {b E n : Nat} {f : Nat → Pv} {G : Nat → Nat} (h : MineP w b E n f G) : Pats w (some ⟨b, 0, none⟩) n f :=
  Or.inr ⟨b, 0, aOfP G f, rfl, h.lt, fun i hi => by rw [Nat.zero_add]; exact (h.cell i hi).1, fun k hk => (h.code k hk).ints⟩
theorem MineP.kept {w w' : World} {b E n : Nat} {f : Nat → Pv} {G : Nat → Nat} (h : MineP w b E n f G) (hb : Below w.heap.size w w') : MineP w' b E n f G :=
  ⟨Nat.lt_of_lt_of_le h.lt hb.size, fun i hi => ⟨(hb.cell (p := ⟨b, i, none⟩) h.lt).trans (h.cell i hi).1, (hb.frozen (p := ⟨b, i, none⟩) h.lt).trans (h.cell i hi).2⟩, fun k hk => (h.code k hk).kept hb, h.ne, h.hi, h.ap⟩
theorem mineP_lt {W : World} {B x o : Nat} {zs : List Int} (h : Mine W B (some ⟨x, o, none⟩) zs) (h0 : 0 < zs.length) : x < W.heap.size := by
  rcases h with e | ⟨b, off, e, _, hl, _⟩
  · rw [e] at h0; simp at h0
  · simp only [Option.some.injEq, Addr.mk.injEq] at e
    obtain ⟨rfl, _⟩ := e
    exact hl
set_option maxRecDepth 100000 in
set_option maxHeartbeats 4000000 in
theorem pats_list (a : Option Addr) (n cap : Nat) (f : Nat → Pv) (W : World) (hn : n ≤ 1048576) (hlen : Hid (∀ k, k < n → (f k).zs.length ≤ 1048576)) (h : Hid (Pats W a n f)) :
    Calls Try.prog 8 #[.slice a n cap] W fun e W' => ∃ G, e = .returned (.slice (some ⟨W.heap.size, 0, none⟩) n n) ∧ MineP W' W.heap.size W'.heap.size n f G ∧ Below W.heap.size W W' := by
  obtain ⟨i0, hi, hz0, hz1, hz2⟩ := info_parts pat_info
  have hmk : ∀ w : World, (Instr.makeSlice 29 (.int .i64 (n : Int)) (.int .i64 (n : Int))).run Try.prog w = .ok (.slice (some ⟨w.heap.size, 0, none⟩) n n) (w.alloc (.cells (madeCells #[.slice none 0 0, .int .i64 0] (n * 2)) 50)) := by
    intro w
    have hr := run_make (P := Try.prog) w 29 50 i0 _ Try.underlying29 hi hz0 .i64 .i64 (n : Int) (n : Int) (by omega) (Int.le_refl _) (by rw [hz2]; omega) (by omega)
    simp only [Int.toNat_natCast] at hr
    rw [hr, hz1]; rfl
  clear hi hz0 hz1 hz2
  go_enter Try.func8, Try.ntmps8
  go_wp2
  clear hmk
  go_loopw [4] (fun vi wr => ∃ (k : Nat) (G : Nat → Nat), k ≤ n ∧ vi = .int .i64 k ∧ Hid (RowP wr W.heap.size n k (aOfP G f) f) ∧ Hid (∀ j, j < k → Mine wr (W.heap.size + 1) (some ⟨G j, 0, none⟩) (f j).zs ∧ W.heap.size < G j ∧ (0 < (f j).zs.length → G j < wr.heap.size)) ∧ Hid (∀ i j, i < k → j < k → i ≠ j → 0 < (f i).zs.length → 0 < (f j).zs.length → G i ≠ G j) ∧ Hid (Below W.heap.size W wr)) (fun vi _ => n - (intOf vi).toNat)
  case atStart =>
    refine ⟨0, fun _ => 0, Nat.zero_le _, rfl, ?_, fun j hj => by omega, fun i j hi => by omega, ?_⟩
    · have h := World.rowIs_alloc W (madeCells #[.slice none 0 0, .int .i64 0] (n * 2)) 50 (cellP noPA noPs) (fun i hi => pat_made _ i (by rw [size_madeCells] at hi; exact hi))
      rw [size_madeCells] at h
      exact World.rowIs.congr h (fun i hi => by rw [if_neg (by omega)])
    · show Below _ _ _
      go_grown
  case round =>
    obtain ⟨k, G, hk, rfl, HC, HJ, HA, HB⟩ := hrel
    by_cases hlt : k < n
    · obtain ⟨b, off, ca, cc, ha, hb, c0, c1, hI⟩ := pat_at h.out HB.out hlt
      subst ha
      have hbs : W.heap.size < wr.heap.size := World.rowIs.lt HC.out
      have HI : Hid (Ints wr ca (f k).zs) := hI
      have HL := hlen.out k hlt
      clear hI
      go_wp2_with fail
      refine (to_pat _ _ _ (f k).zs _ HL HI).mono ?_
      rintro e w1 ⟨g, rfl, hgW, hM, hB1⟩
      have HC1 : Hid (RowP w1 W.heap.size n k (aOfP G f) f) := World.rowIs.of_block HC.out (hB1.block _ hbs)
      have HB1 : Hid (Below W.heap.size W w1) := HB.out.trans (hB1.mono (by omega))
      have HM : Hid (Mine w1 (W.heap.size + 1) (some ⟨g, 0, none⟩) (f k).zs) := mine_down hM (by omega)
      have HJ1 : Hid (∀ j, j < k → Mine w1 (W.heap.size + 1) (some ⟨G j, 0, none⟩) (f j).zs ∧ W.heap.size < G j ∧ (0 < (f j).zs.length → G j < w1.heap.size ∧ G j < g)) := fun j hj => ⟨(HJ.out j hj).1.kept hB1, (HJ.out j hj).2.1, fun q => ⟨Nat.lt_of_lt_of_le ((HJ.out j hj).2.2 q) hB1.size, Nat.lt_of_lt_of_le ((HJ.out j hj).2.2 q) hgW⟩⟩
      have HGL : Hid (0 < (f k).zs.length → g < w1.heap.size) := fun q => mineP_lt hM q
      have hgb : W.heap.size < g := by omega
      clear hB1 hM HC HB HJ
      obtain ⟨d0, q0⟩ : (∃ v, w1.cell? ⟨W.heap.size, k * 2, none⟩ = some v) ∧ w1.frozen? ⟨W.heap.size, k * 2, none⟩ = false := ⟨⟨_, World.rowIs.cell HC1.out (i := k * 2) (by omega)⟩, World.rowIs.frozen HC1.out (k * 2)⟩
      obtain ⟨d1, q1⟩ : (∃ v, w1.cell? ⟨W.heap.size, k * 2 + 1, none⟩ = some v) ∧ w1.frozen? ⟨W.heap.size, k * 2 + 1, none⟩ = false := ⟨⟨_, World.rowIs.cell HC1.out (i := k * 2 + 1) (by omega)⟩, World.rowIs.frozen HC1.out (k * 2 + 1)⟩
      obtain ⟨v0, d0⟩ := d0
      obtain ⟨v1, d1⟩ := d1
      go_wp2
      go_roundw
      case rel =>
        refine ⟨k + 1, updPN G k g, by omega, by go_num, ?_, ?_, ?_, ?_⟩
        · rw [← aOfP_upd]; exact HC1.out.set _ _
        · show ∀ j, j < k + 1 → _
          intro j hj
          by_cases e : j = k
          · subst e
            rw [updPN_same]
            exact ⟨by iterate 2 refine mine_far (by omega) ?_
                      exact HM.out, hgb, fun q => by simpa [World.setCell] using HGL.out q⟩
          · rw [updPN_other _ _ e]
            obtain ⟨p1, p2, p3⟩ := HJ1.out j (by omega)
            exact ⟨by iterate 2 refine mine_far (by omega) ?_
                      exact p1, p2, fun q => by simpa [World.setCell] using (p3 q).1⟩
        · show ∀ i j, i < k + 1 → j < k + 1 → i ≠ j → _
          intro i j hi hj hne l1 l2
          by_cases e : i = k
          · subst e
            rw [updPN_same, updPN_other _ _ (Ne.symm hne)]
            have := ((HJ1.out j (by omega)).2.2 l2).2
            omega
          · by_cases e' : j = k
            · subst e'
              rw [updPN_same, updPN_other _ _ hne]
              have := ((HJ1.out i (by omega)).2.2 l1).2
              omega
            · rw [updPN_other _ _ e, updPN_other _ _ e']
              exact HA.out i j (by omega) (by omega) hne l1 l2
        · show Below _ _ _
          refine Below.trans HB1.out ?_
          go_grown
      case measure => simp [intOf]; omega
    · have HE : Hid (k = n) := by show k = n; omega
      go_wp2
      go_ret
      refine ⟨G, rfl, ⟨World.rowIs.lt HC.out, fun i hi => ⟨?_, World.rowIs.frozen HC.out i⟩, fun j hj => (HJ.out j (by have := HE.out; omega)).1, fun j hj => (HJ.out j (by have := HE.out; omega)).2.1, fun j hj q => (HJ.out j (by have := HE.out; omega)).2.2 q, fun i j hi hj => HA.out i j (by have := HE.out; omega) (by have := HE.out; omega)⟩, HB.out⟩
      rw [World.rowIs.cell HC.out hi, if_pos (by have := HE.out; omega)]
theorem bel2P {W X w' : World} (h : Below W.heap.size W X) (B : Below X.heap.size X w') : Below W.heap.size W w' := h.trans (B.mono h.size)
theorem box_twoP (W : World) (v u : Value) (t : Int) (ty : TypeId) : ∃ X, X = (W.alloc (.cells #[v, .int .i64 t] ty)).alloc (.cells #[u, .int .i64 t] ty) ∧ Below W.heap.size W X ∧ X.heap.size = W.heap.size + 1 + 1 ∧
    X.cell? ⟨W.heap.size, 0, none⟩ = some v ∧ X.cell? ⟨W.heap.size, 1, none⟩ = some (.int .i64 t) ∧ X.cell? ⟨W.heap.size + 1, 0, none⟩ = some u ∧ X.cell? ⟨W.heap.size + 1, 1, none⟩ = some (.int .i64 t) := by
  refine ⟨_, rfl, by repeat (first | exact Below.refl _ _ | refine Below.drew ?_ | refine Below.setCell ?_ (by simp; try omega) _ | refine Below.alloc ?_ (by simp; try omega) _), by simp, ?_⟩
  refine ⟨?_, ?_, ?_, ?_⟩ <;> go_simp
set_option maxRecDepth 100000 in
set_option maxHeartbeats 2000000 in
theorem eq_pat (ca cb : Option Addr) (cc cd : Nat) (t : Int) (zs : List Int) (W : World) (hlen : zs.length ≤ 1048576) (h : Hid (Ints W ca zs)) (h' : Hid (Ints W cb zs)) :
    Calls Try.prog 30 #[.agg #[.slice ca zs.length cc, .int .i64 t], .agg #[.slice cb zs.length cd, .int .i64 t]] W fun e W' => e = .returned (.bool true) ∧ Below W.heap.size W W' := by
  obtain ⟨len, HZ⟩ : ∃ len, Hid (zs.length = len) := ⟨_, rfl⟩
  rw [HZ.out] at hlen ⊢
  go_enter Try.func30, Try.ntmps30
  go_wp2_with fail
  obtain ⟨X, EX, BX, lX, x0, x1, y0, y1⟩ := box_twoP W (.slice ca len cc) (.slice cb len cd) t 50
  rw [← EX]
  refine (eq_ints _ _ _ _ _ zs _ HZ hlen (h.out.kept BX) (h'.out.kept BX)).mono ?_
  rintro e w1 ⟨rfl, hB⟩
  have q : ∀ b o v, b < X.heap.size → X.cell? ⟨b, o, none⟩ = some v → w1.cell? ⟨b, o, none⟩ = some v := fun b o v hb hc => (hB.cell (p := ⟨b, o, none⟩) hb).trans hc
  have HB : Hid (Below W.heap.size W w1) := bel2P BX hB
  have x1 := q _ _ _ (by omega) x1
  have y1 := q _ _ _ (by omega) y1
  clear q hB EX BX x0 y0
  go_wp2
  go_ret
  exact ⟨rfl, HB.out⟩
set_option maxHeartbeats 4000000 in
theorem pats_same (a a' : Option Addr) (n cap cap' : Nat) (f : Nat → Pv) (W : World) (hn : n ≤ 1048576) (hlen : Hid (∀ k, k < n → (f k).zs.length ≤ 1048576)) (h : Hid (Pats W a n f)) (h' : Hid (Pats W a' n f)) :
    Calls Try.prog 12 #[.slice a n cap, .slice a' n cap'] W fun e W' => e = .returned (.bool true) ∧ Below W.heap.size W W' := by
  go_enter Try.func12, Try.ntmps12
  go_wp2
  go_loopw [5] (fun vi wr => ∃ k : Nat, k ≤ n ∧ vi = .int .i64 k ∧ Hid (Below W.heap.size W wr)) (fun vi _ => n - (intOf vi).toNat)
  case atStart => exact ⟨0, Nat.zero_le _, rfl, Below.refl _ _⟩
  case round =>
    obtain ⟨k, hk, rfl, HB⟩ := hrel
    by_cases hlt : k < n
    · obtain ⟨b, off, ca, cc, ha, hb, c0, c1, hI⟩ := pat_at h.out HB.out hlt
      obtain ⟨b', off', cb, cd, ha', hb', e0, e1, hI'⟩ := pat_at h'.out HB.out hlt
      subst ha ha'
      have HI : Hid (Ints wr ca (f k).zs) := hI
      have HI' : Hid (Ints wr cb (f k).zs) := hI'
      have HL := hlen.out k hlt
      have HD : Hid (Below wr.heap.size wr wr.drew) := (Below.refl _ _).drew
      clear hI hI'
      go_wp2_with fail
      go_region_with (go_at_call 30; refine (eq_pat _ _ _ _ _ (f k).zs _ HL (HI.out.kept HD.out) (HI'.out.kept HD.out)).mono ?_; rintro e w' ⟨rfl, hb⟩; have HX : Hid (Below W.heap.size W w') := bel2P HB.out.drew hb; clear hb)
      all_goals
        go_wp2
        go_roundw
        case rel => exact ⟨k + 1, by omega, by go_num, HX.out⟩
        case measure => simp [intOf]; omega
    · go_wp2
      go_ret
      exact ⟨rfl, HB.out⟩
theorem sz_ints (a : Option Addr) (len cap : Nat) (l : Int) (W : World) (h0 : 0 ≤ l) (h1 : l ≤ 1048576) (hm : len ≤ 9223372036854775807) :
    Calls Try.prog 32 #[.slice a len cap, .int .i64 l] W fun e W' => e = .returned (.int .i64 (if (len : Int) ≤ l then l - (len : Int) else -1)) ∧ W' = W := by
  by_cases h : (len : Int) ≤ l
  · rw [if_pos h]
    go_enter Try.func32, Try.ntmps32
    go_wp2
    go_ret
    exact ⟨rfl, rfl⟩
  · rw [if_neg h]
    have h' : l < (len : Int) := by omega
    clear h
    go_enter Try.func32, Try.ntmps32
    go_wp2
    go_ret
    exact ⟨rfl, rfl⟩
set_option maxHeartbeats 1000000 in
theorem sz_pat (ca : Option Addr) (len cc : Nat) (t : Int) (l : Int) (W : World) (h0 : 0 ≤ l) (h1 : l ≤ 1048576) (hm : len ≤ 9223372036854775807) :
    Calls Try.prog 19 #[.agg #[.slice ca len cc, .int .i64 t], .int .i64 l] W fun e W' => e = .returned (.int .i64 (if (len : Int) ≤ l then l - (len : Int) else -1)) ∧ Below W.heap.size W W' := by
  by_cases h : (len : Int) ≤ l
  · rw [if_pos h]
    have hp : 0 ≤ l - (len : Int) := by omega
    go_enter Try.func19, Try.ntmps19
    go_wp2_with (go_at_call 32; refine (sz_ints _ _ _ _ _ h0 h1 hm).mono ?_; rw [if_pos h]; rintro e w' ⟨rfl, hw⟩; rw [hw]; clear hw w')
    go_ret
    exact ⟨rfl, by repeat (first | exact Below.refl _ _ | refine Below.drew ?_ | refine Below.setCell ?_ (by simp; try omega) _ | refine Below.alloc ?_ (by simp; try omega) _)⟩
  · rw [if_neg h]
    go_enter Try.func19, Try.ntmps19
    go_wp2_with (go_at_call 32; refine (sz_ints _ _ _ _ _ h0 h1 hm).mono ?_; rw [if_neg h]; rintro e w' ⟨rfl, hw⟩; rw [hw]; clear hw w')
    go_ret
    exact ⟨rfl, by repeat (first | exact Below.refl _ _ | refine Below.drew ?_ | refine Below.setCell ?_ (by simp; try omega) _ | refine Below.alloc ?_ (by simp; try omega) _)⟩
/-- What is left of the size when k records have been counted. -/
def leftP (f : Nat → Pv) (l : Int) : Nat → Int
  | 0 => l
  | k + 1 => leftP f l k - ((f k).zs.length : Int)
theorem leftP_le (f : Nat → Pv) (l : Int) : ∀ k, leftP f l k ≤ l
  | 0 => Int.le_refl _
  | k + 1 => by have := leftP_le f l k; simp only [leftP]; omega
theorem leftP_mono (f : Nat → Pv) (l : Int) : ∀ (m k : Nat), k ≤ m → leftP f l m ≤ leftP f l k
  | 0, k, h => by obtain rfl : k = 0 := by omega
                  exact Int.le_refl _
  | m + 1, k, h => by
    by_cases e : k = m + 1
    · subst e; exact Int.le_refl _
    · have := leftP_mono f l m k (by omega)
      simp only [leftP]; omega
theorem leftP_len {f : Nat → Pv} {l : Int} {n k : Nat} (hk : k < n) (h : 0 ≤ leftP f l n) : ((f k).zs.length : Int) ≤ l := by
  have h1 := leftP_mono f l n (k + 1) (by omega)
  have h2 := leftP_le f l k
  simp only [leftP] at h1
  omega
/-- What is counted: all of it, or too much. -/
def CountedP (f : Nat → Pv) (n : Nat) (W : World) (e : Ending) (W' : World) : Prop := ∃ v : Int, e = .returned (.int .i64 v) ∧ ((0 ≤ v ∧ v ≤ 1048576 ∧ n ≤ 1048576 ∧ ∀ k, k < n → (f k).zs.length ≤ 1048576) ∨ v = -1) ∧ Below W.heap.size W W'
set_option maxHeartbeats 4000000 in
theorem pats_size (a : Option Addr) (n cap : Nat) (f : Nat → Pv) (W : World) (hn : n ≤ 140737488351232) (hlen : Hid (∀ k, k < n → (f k).zs.length ≤ 9223372036854775807)) (h : Hid (Pats W a n f)) :
    Calls Try.prog 5 #[.slice a n cap, .int .i64 1048576] W fun e W' => CountedP f n W e W' := by
  by_cases h1 : n ≤ 1048576
  rotate_left
  · have h2 : (1048576 : Int) < (n : Int) := by omega
    go_enter Try.func5, Try.ntmps5
    go_wp2
    go_ret
    exact ⟨-1, rfl, Or.inr rfl, Below.refl _ _⟩
  have h2 : (n : Int) ≤ 1048576 := by omega
  have h3 : 0 ≤ 1048576 - (n : Int) := by omega
  go_enter Try.func5, Try.ntmps5
  go_wp2
  go_loopw [1, 5] (fun vl vi wr => ∃ (k : Nat) (l : Int), k ≤ n ∧ vi = .int .i64 k ∧ vl = .int .i64 l ∧ Hid (l = leftP f (1048576 - (n : Int)) k) ∧ 0 ≤ l ∧ l ≤ 1048576 ∧ Hid (Below W.heap.size W wr)) (fun _ vi _ => n - (intOf vi).toNat)
  case atStart => exact ⟨0, _, Nat.zero_le _, rfl, rfl, rfl, by omega, by omega, Below.refl _ _⟩
  case round =>
    obtain ⟨k, l, hk, rfl, rfl, HL, l0, l1, HB⟩ := hrel
    by_cases hlt : k < n
    · obtain ⟨b, off, ca, cc, ha, hb, c0, c1, _⟩ := pat_at h.out HB.out hlt
      subst ha
      have hm := hlen.out k hlt
      have HS : Hid (leftP f (1048576 - (n : Int)) (k + 1) = l - ((f k).zs.length : Int)) := by rw [HL.out]; rfl
      by_cases hf : ((f k).zs.length : Int) ≤ l
      · have hp : 0 ≤ l - ((f k).zs.length : Int) := by omega
        go_wp2_with fail
        refine (sz_pat _ _ _ _ _ _ l0 l1 hm).mono ?_
        rw [if_pos hf]
        rintro e w1 ⟨rfl, hB⟩
        have HX : Hid (Below W.heap.size W w1) := bel2P HB.out hB
        clear hB
        go_wp2
        go_roundw
        case rel => exact ⟨k + 1, _, by omega, by go_num, rfl, HS.out.symm, by omega, by omega, HX.out⟩
        case measure => simp [intOf]; omega
      · go_wp2_with fail
        refine (sz_pat _ _ _ _ _ _ l0 l1 hm).mono ?_
        rw [if_neg (by omega)]
        rintro e w1 ⟨rfl, hB⟩
        have HX : Hid (Below W.heap.size W w1) := bel2P HB.out hB
        clear hB
        go_wp2
        go_ret
        exact ⟨-1, rfl, Or.inr rfl, HX.out⟩
    · have HE : Hid (k = n) := by show k = n; omega
      go_wp2
      go_ret
      refine ⟨l, rfl, Or.inl ⟨l0, l1, h1, fun j hj => ?_⟩, HB.out⟩
      have := leftP_len hj (l := 1048576 - (n : Int)) (f := f) (by have e := HL.out; rw [HE.out] at e; rw [← e]; exact l0)
      omega
end Go.Proofs.Ytapbfoooflpejaa.walks
