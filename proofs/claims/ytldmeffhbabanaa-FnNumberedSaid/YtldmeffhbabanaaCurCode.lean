/-
  What the draws of code and of words answer: some list of steps, some words; they write into the reader's cells alone.
-/
import Derived.Test.YtldmeffhbabanaaProg
import Derived.Test.YtldmeffhbabanaaCur
import Derived.Test.YtldmeffhbabanaaInts
import Derived.Test.YtldmeffhbabanaaOwnInts
import Derived.Test.YtldmeffhbabanaaCodeGood
import Derived.WalkKit
import Derived.WalkSpells
import Derived.Below
import Derived.Handy
import Derived.Deep.OwnRows
import Derived.Deep.CutBlock
import Derived.Deep.DeepCutAuto
namespace Go.Proofs.Ytldmeffhbabanaa.cur
open Go.RowKit Go.Proofs.Ytldmeffhbabanaa.math Go.Proofs.Ytldmeffhbabanaa.ints Go.Proofs.Ytldmeffhbabanaa.walks
set_option linter.unusedVariables false

/-- What a draw of a step leaves. -/
def InsAns (b : Nat) (a : Option Addr) (len cap n : Nat) (w : World) (e : Ending) (w' : World) : Prop := ∃ x0 x1 x2 x3 x4 : Int, e = .returned (.agg #[.int .i64 x0, .int .i64 x1, .int .i64 x2, .int .i64 x3, .int .i64 x4]) ∧ Cur b a len cap (n + 30) w' ∧ w.grownBy w' (some b)
theorem Cur.lt {b len cap n : Nat} {a : Option Addr} {w : World} (h : Cur b a len cap n w) : b < w.heap.size := by
  obtain ⟨_, _, _, _, _, _, c0, _⟩ := h
  exact World.block_lt_of_cell? w _ c0
/-- Five numbers in a block. -/
def Five (w : World) (g : Nat) (xs : List Int) : Prop := w.rowIs g 61 5 (fun j => .int .i64 (xs.getD j 0))
theorem five_new (w : World) (o d a b n : Int) : Five (w.alloc (.cells #[.int .i64 o, .int .i64 d, .int .i64 a, .int .i64 b, .int .i64 n] 61)) w.heap.size [o, d, a, b, n] :=
  World.rowIs_alloc w _ _ _ (fun i hi => by
    match i, hi with
    | 0, _ => rfl
    | 1, _ => rfl
    | 2, _ => rfl
    | 3, _ => rfl
    | 4, _ => rfl
    | i + 5, h => simp at h; omega)
theorem Five.set {w : World} {g j : Nat} {xs : List Int} (h : Five w g xs) (hj : j < xs.length) (x : Int) : Five (w.setCell ⟨g, j, none⟩ (.int .i64 x)) g (xs.set j x) := by
  refine World.rowIs.congr (World.rowIs.set h j (.int .i64 x)) (fun k hk => ?_)
  by_cases e : k = j
  · subst e
    rw [if_pos rfl]
    simp [List.getD, List.getElem?_set_self hj]
  · rw [if_neg e]
    simp [List.getD, List.getElem?_set_ne (Ne.symm e)]
theorem grown_new {w wc : World} {b g i : Nat} {u : Value} (h : w.grownBy wc (some b)) (hg : w.heap.size ≤ g) : w.grownBy (wc.setCell ⟨g, i, none⟩ u) (some b) :=
  ⟨h.os, h.tape, h.output, by simpa [World.setCell] using h.size, fun k hk hne => (Below.heap_setCell _ _ _ _ (by simp; omega)).trans (h.block k hk hne)⟩
theorem cur_set {b len cap n g i : Nat} {a : Option Addr} {w : World} {u : Value} (h : Cur b a len cap n w) (hgb : b < g) : Cur b a len cap n (w.setCell ⟨g, i, none⟩ u) := by
  obtain ⟨hc, k, s, hk, h0, h1, c0, c1, c2, f1, f2⟩ := h
  refine ⟨?_, k, s, hk, h0, h1, ?_, ?_, ?_, by simpa using f1, by simpa using f2⟩
  · rcases hc with e | ⟨x, off, rfl, hx, hl, hz⟩
    · exact Or.inl e
    · refine Or.inr ⟨x, off, rfl, hx, by simpa [World.setCell] using hl, fun j hj => ?_⟩
      obtain ⟨z, z0, z1, hcz⟩ := hz j hj
      exact ⟨z, z0, z1, by rw [World.cell?_setCell_other _ _ _ _ (by simp <;> omega)]; exact hcz⟩
  · rw [World.cell?_setCell_other _ _ _ _ (by simp <;> omega)]; exact c0
  · rw [World.cell?_setCell_other _ _ _ _ (by simp <;> omega)]; exact c1
  · rw [World.cell?_setCell_other _ _ _ _ (by simp <;> omega)]; exact c2
/-- The reader, and the two steps that a draw has laid, on the way. -/
structure Mid (b : Nat) (a : Option Addr) (len cap n : Nat) (w wc : World) (g2 g3 : Nat) (xs : List Int) : Prop where
  cur : Cur b a len cap n wc
  grown : w.grownBy wc (some b)
  z : Five wc g2 [0, 0, 0, 0, 0]
  x : Five wc g3 xs
  l2 : w.heap.size ≤ g2
  l3 : w.heap.size ≤ g3
  lb : b < w.heap.size
  ne : g2 ≠ g3
theorem Mid.call {b len cap n m g2 g3 : Nat} {a : Option Addr} {w wc w' : World} {xs : List Int} (h : Mid b a len cap n w wc g2 g3 xs) (hC : Cur b a len cap m w') (hG : wc.grownBy w' (some b)) : Mid b a len cap m w w' g2 g3 xs := by
  have l2 := h.l2
  have l3 := h.l3
  have lb := h.lb
  exact ⟨hC, grown_trans h.grown hG, World.rowIs.of_block h.z (hG.block g2 h.z.lt (by simp; omega)), World.rowIs.of_block h.x (hG.block g3 h.x.lt (by simp; omega)), h.l2, h.l3, h.lb, h.ne⟩
theorem Mid.alloc {b len cap n g2 g3 : Nat} {a : Option Addr} {w wc : World} {xs : List Int} (h : Mid b a len cap n w wc g2 g3 xs) (o : Obj) : Mid b a len cap n w (wc.alloc o) g2 g3 xs := h.call (h.cur.alloc o) (grown_alloc (grown_refl _ _) o)
theorem Mid.put {b len cap n g2 g3 j : Nat} {a : Option Addr} {w wc : World} {xs : List Int} (h : Mid b a len cap n w wc g2 g3 xs) (hj : j < xs.length) (x : Int) : Mid b a len cap n w (wc.setCell ⟨g3, j, none⟩ (.int .i64 x)) g2 g3 (xs.set j x) := by
  have l3 := h.l3
  have lb := h.lb
  exact ⟨cur_set h.cur (by omega), grown_new h.grown l3, World.rowIs.of_block h.z (Below.heap_setCell _ _ _ _ h.ne), h.x.set hj x, h.l2, h.l3, h.lb, h.ne⟩

set_option maxRecDepth 100000 in
set_option maxHeartbeats 40000000 in
theorem instr_any {b len cap n : Nat} {a : Option Addr} {w : World} (h : Cur b a len cap n w) (hlen : len ≤ 1048576) (hn : n ≤ 1000000000) :
    Calls Try.prog 48 #[.pointer (some ⟨b, 0, none⟩)] w fun e w' => InsAns b a len cap n w e w' := by
  have H : Hid (Cur b a len cap n w) := h
  have hbw := h.lt
  clear h
  go_enter Try.func48, Try.ntmps48
  go_wp2_with fail
  have L : Hid (Listed b (w.heap.size + 1) 9 1 8 ((w.alloc (.cells #[.int .i64 0, .int .i64 0, .int .i64 0, .int .i64 0, .int .i64 0] 61)).alloc (.cells #[.int .i64 1, .int .i64 2, .int .i64 3, .int .i64 3, .int .i64 4, .int .i64 5, .int .i64 6, .int .i64 7, .int .i64 8] 3))) := by
    have := listed_new (H.out.alloc (.cells #[.int .i64 0, .int .i64 0, .int .i64 0, .int .i64 0, .int .i64 0] 61)) (lo := 1) (hi := 8) 3 [1, 2, 3, 3, 4, 5, 6, 7, 8] (by decide)
    show Listed _ _ _ _ _ _
    simpa using this
  refine (among_any ((H.out.alloc _).alloc _) L.out (by omega) (by omega) hlen (by omega)).mono ?_
  rintro e w0 ⟨r, r0, r1, rfl, HC, HG⟩
  have HM0 : Hid (Mid b a len cap (n + 2) w (w0.alloc (.cells #[.int .i64 r, .int .i64 0, .int .i64 0, .int .i64 0, .int .i64 0] 61)) w.heap.size w0.heap.size [r, 0, 0, 0, 0]) := by
    have hs := HG.size
    simp at hs
    refine ⟨HC.alloc _, grown_alloc (grown_trans (grown_alloc (grown_alloc (grown_refl _ _) _) _) HG) _, ?_, five_new w0 r 0 0 0 0, Nat.le_refl _, by omega, hbw, by omega⟩
    refine World.rowIs.alloc (World.rowIs.of_block (World.rowIs.alloc (five_new w 0 0 0 0 0) _) (HG.block w.heap.size (by simp <;> omega) (by simp <;> omega))) _
  have z0 : w0.cell? ⟨w.heap.size, 0, none⟩ = some (.int .i64 0) := ((World.cell?_of_block (a := ⟨w.heap.size, 0, none⟩) (HG.block w.heap.size (by simp <;> omega) (by simp <;> omega))).trans (by simp))
  have hs0 : w.heap.size < w0.heap.size := by have := HG.size; simp at this; omega
  have hbx : b < w0.heap.size := by omega
  clear HC HG H L z0
  have hg2 : w.heap.size ≤ w.heap.size := Nat.le_refl _
  have hg3 : w.heap.size ≤ w0.heap.size := by omega
  have hb2 : b < w.heap.size := hbw
  have q8 : (r != 8) = decide (r ≠ 8) := by simp [bne, BEq.beq]
  go_upto_if 10 with fail
  have hw1 : w0.heap.size < (w0.alloc (.cells #[.int .i64 r, .int .i64 0, .int .i64 0, .int .i64 0, .int .i64 0] 61)).heap.size := by simp
  generalize (w0.alloc (.cells #[.int .i64 r, .int .i64 0, .int .i64 0, .int .i64 0, .int .i64 0] 61)) = w1 at HM0 hw1 ⊢
  generalize hge3 : w0.heap.size = g3 at HM0 hg3 hbx hs0 hw1 ⊢
  generalize hge2 : w.heap.size = g2 at hg2 hb2 hs0 ⊢
  have hg2 : w.heap.size ≤ g2 := by omega
  have hg3 : w.heap.size ≤ g3 := by omega
  have hb3 : b < g3 := hbx
  have M1 : Hid (Mid b a len cap (n + 2) w w1 g2 g3 [r, 0, 0, 0, 0]) := by rw [hge2] at HM0; exact HM0
  have hne := M1.out.ne
  have hne3 : g3 ≠ g2 := Ne.symm hne
  clear HM0 hge3 hge2 hw1 hg2 hbx
  have hg2 : w.heap.size ≤ g2 := M1.out.l2

  go_cut [] (fun wx => ∃ d : Int, Mid b a len cap (n + 4) w wx g2 g3 [r, d, 0, 0, 0])
  case first =>
    have c0 : w1.cell? ⟨g3, 0, none⟩ = some (.int .i64 r) := M1.out.x.cell (i := 0) (by omega)
    have f0 := M1.out.x.frozen 0
    have c1 : w1.cell? ⟨g3, 1, none⟩ = some (.int .i64 0) := M1.out.x.cell (i := 1) (by omega)
    have f1 := M1.out.x.frozen 1
    have c2 : w1.cell? ⟨g3, 2, none⟩ = some (.int .i64 0) := M1.out.x.cell (i := 2) (by omega)
    have f2 := M1.out.x.frozen 2
    have c3 : w1.cell? ⟨g3, 3, none⟩ = some (.int .i64 0) := M1.out.x.cell (i := 3) (by omega)
    have f3 := M1.out.x.frozen 3
    have c4 : w1.cell? ⟨g3, 4, none⟩ = some (.int .i64 0) := M1.out.x.cell (i := 4) (by omega)
    have f4 := M1.out.x.frozen 4
    have h3l : g3 < w1.heap.size := M1.out.x.lt
    have h2l : g2 < w1.heap.size := M1.out.z.lt
    by_cases h8 : r = 8
    · have h8' : decide (r = 8) = true := by simp [h8]
      simp only [h8', Bool.not_true]
      go_wp2_with fail
      go_meet
      exact ⟨0, { M1.out with cur := M1.out.cur.up (by omega) }⟩
    have h8' : decide (r = 8) = false := by simp [h8]
    simp only [h8', Bool.not_false]
    go_wp2_with fail
    refine (pick_any 4 M1.out.cur hlen (by omega) (by omega)).mono ?_
    rintro e w2 ⟨p1, q02, q12, rfl, HC, HG⟩
    have M2' : Hid (Mid b a len cap (n + 4) w w2 g2 g3 [r, 0, 0, 0, 0]) := M1.out.call HC HG
    have M2 : Hid (Mid b a len cap (n + 4) w (w2.setCell ⟨g3, 1, none⟩ (.int .i64 p1)) g2 g3 [r, p1, 0, 0, 0]) := M2'.out.put (j := 1) (by simp) p1
    clear c0 f0 c1 f1 c2 f2 c3 f3 c4 f4 h3l h2l
    clear HC HG
    have c0 : w2.cell? ⟨g3, 0, none⟩ = some (.int .i64 r) := M2'.out.x.cell (i := 0) (by omega)
    have f0 := M2'.out.x.frozen 0
    have c1 : w2.cell? ⟨g3, 1, none⟩ = some (.int .i64 0) := M2'.out.x.cell (i := 1) (by omega)
    have f1 := M2'.out.x.frozen 1
    have c2 : w2.cell? ⟨g3, 2, none⟩ = some (.int .i64 0) := M2'.out.x.cell (i := 2) (by omega)
    have f2 := M2'.out.x.frozen 2
    have c3 : w2.cell? ⟨g3, 3, none⟩ = some (.int .i64 0) := M2'.out.x.cell (i := 3) (by omega)
    have f3 := M2'.out.x.frozen 3
    have c4 : w2.cell? ⟨g3, 4, none⟩ = some (.int .i64 0) := M2'.out.x.cell (i := 4) (by omega)
    have f4 := M2'.out.x.frozen 4
    have h3l : g3 < w2.heap.size := M2'.out.x.lt
    have h2l : g2 < w2.heap.size := M2'.out.z.lt
    go_wp2_with fail
    go_meet
    exact ⟨p1, M2.out⟩
  obtain ⟨d, M2⟩ := hcut
  have M2 : Hid (Mid b a len cap (n + 4) w wc g2 g3 [r, d, 0, 0, 0]) := M2
  clear M1
  have c0 : wc.cell? ⟨g3, 0, none⟩ = some (.int .i64 r) := M2.out.x.cell (i := 0) (by omega)
  have f0 := M2.out.x.frozen 0
  have c1 : wc.cell? ⟨g3, 1, none⟩ = some (.int .i64 d) := M2.out.x.cell (i := 1) (by omega)
  have f1 := M2.out.x.frozen 1
  have c2 : wc.cell? ⟨g3, 2, none⟩ = some (.int .i64 0) := M2.out.x.cell (i := 2) (by omega)
  have f2 := M2.out.x.frozen 2
  have c3 : wc.cell? ⟨g3, 3, none⟩ = some (.int .i64 0) := M2.out.x.cell (i := 3) (by omega)
  have f3 := M2.out.x.frozen 3
  have c4 : wc.cell? ⟨g3, 4, none⟩ = some (.int .i64 0) := M2.out.x.cell (i := 4) (by omega)
  have f4 := M2.out.x.frozen 4
  have h3l : g3 < wc.heap.size := M2.out.x.lt
  have h2l : g2 < wc.heap.size := M2.out.z.lt
  go_upto_block 0 with fail
  go_cut [] (fun wx => ∃ p2 p3 p4 : Int, Mid b a len cap (n + 8) w wx g2 g3 [r, d, p2, p3, p4])
  case first =>
    by_cases h1 : r = 1
    · have h1' : decide (r = 1) = true := by simp [h1]
      have h1b : (r == 1) = true := by simp [h1]
      go_wp2_with fail
      have L6 : Hid (Listed b wc.heap.size 6 0 65535 (wc.alloc (.cells #[.int .i64 0, .int .i64 1, .int .i64 2, .int .i64 3, .int .i64 5, .int .i64 65535] 3))) := listed_new M2.out.cur 3 [0, 1, 2, 3, 5, 65535] (by decide)
      refine (among_any (M2.out.cur.alloc _) L6.out (by omega) (by omega) hlen (by omega)).mono ?_
      rintro e w3 ⟨p4, q03, q13, rfl, HC, HG⟩
      have M3' : Hid (Mid b a len cap (n + 6) w w3 g2 g3 [r, d, 0, 0, 0]) := (M2.out.alloc _).call HC HG
      have M3 : Hid (Mid b a len cap (n + 6) w (w3.setCell ⟨g3, 4, none⟩ (.int .i64 p4)) g2 g3 [r, d, 0, 0, p4]) := M3'.out.put (j := 4) (by simp) p4
      clear c0 f0 c1 f1 c2 f2 c3 f3 c4 f4 h3l h2l
      clear HC HG L6
      have c0 : w3.cell? ⟨g3, 0, none⟩ = some (.int .i64 r) := M3'.out.x.cell (i := 0) (by omega)
      have f0 := M3'.out.x.frozen 0
      have c1 : w3.cell? ⟨g3, 1, none⟩ = some (.int .i64 d) := M3'.out.x.cell (i := 1) (by omega)
      have f1 := M3'.out.x.frozen 1
      have c2 : w3.cell? ⟨g3, 2, none⟩ = some (.int .i64 0) := M3'.out.x.cell (i := 2) (by omega)
      have f2 := M3'.out.x.frozen 2
      have c3 : w3.cell? ⟨g3, 3, none⟩ = some (.int .i64 0) := M3'.out.x.cell (i := 3) (by omega)
      have f3 := M3'.out.x.frozen 3
      have c4 : w3.cell? ⟨g3, 4, none⟩ = some (.int .i64 0) := M3'.out.x.cell (i := 4) (by omega)
      have f4 := M3'.out.x.frozen 4
      have h3l : g3 < w3.heap.size := M3'.out.x.lt
      have h2l : g2 < w3.heap.size := M3'.out.z.lt
      go_wp2_with fail
      go_meet
      exact ⟨0, 0, p4, { M3.out with cur := M3.out.cur.up (by omega) }⟩
    have h1' : decide (r = 1) = false := by simp [h1]
    have h1b : (r == 1) = false := by simp [h1]
    cases hin : inR r 3 7
    · skip
      go_wp2_with fail
      refine (spec_two _ _).mono ?_
      rw [hin]
      rintro e wx ⟨rfl, hwx⟩
      rw [hwx]
      clear hwx wx
      go_wp2_with fail
      refine (pick_any 4 M2.out.cur hlen (by omega) (by omega)).mono ?_
      rintro e w3 ⟨p2, q03, q13, rfl, HC, HG⟩
      have M3' : Hid (Mid b a len cap (n + 6) w w3 g2 g3 [r, d, 0, 0, 0]) := M2.out.call HC HG
      have M3 : Hid (Mid b a len cap (n + 6) w (w3.setCell ⟨g3, 2, none⟩ (.int .i64 p2)) g2 g3 [r, d, p2, 0, 0]) := M3'.out.put (j := 2) (by simp) p2
      clear c0 f0 c1 f1 c2 f2 c3 f3 c4 f4 h3l h2l
      clear HC HG
      have c0 : w3.cell? ⟨g3, 0, none⟩ = some (.int .i64 r) := M3'.out.x.cell (i := 0) (by omega)
      have f0 := M3'.out.x.frozen 0
      have c1 : w3.cell? ⟨g3, 1, none⟩ = some (.int .i64 d) := M3'.out.x.cell (i := 1) (by omega)
      have f1 := M3'.out.x.frozen 1
      have c2 : w3.cell? ⟨g3, 2, none⟩ = some (.int .i64 0) := M3'.out.x.cell (i := 2) (by omega)
      have f2 := M3'.out.x.frozen 2
      have c3 : w3.cell? ⟨g3, 3, none⟩ = some (.int .i64 0) := M3'.out.x.cell (i := 3) (by omega)
      have f3 := M3'.out.x.frozen 3
      have c4 : w3.cell? ⟨g3, 4, none⟩ = some (.int .i64 0) := M3'.out.x.cell (i := 4) (by omega)
      have f4 := M3'.out.x.frozen 4
      have h3l : g3 < w3.heap.size := M3'.out.x.lt
      have h2l : g2 < w3.heap.size := M3'.out.z.lt
      go_wp2_with fail
      go_meet
      exact ⟨p2, 0, 0, { M3.out with cur := M3.out.cur.up (by omega) }⟩
    · skip
      go_wp2_with fail
      refine (spec_two _ _).mono ?_
      rw [hin]
      rintro e wx ⟨rfl, hwx⟩
      rw [hwx]
      clear hwx wx
      go_wp2_with fail
      refine (pick_any 4 M2.out.cur hlen (by omega) (by omega)).mono ?_
      rintro e w3 ⟨p2, q03, q13, rfl, HC, HG⟩
      have M3' : Hid (Mid b a len cap (n + 6) w w3 g2 g3 [r, d, 0, 0, 0]) := M2.out.call HC HG
      have M3 : Hid (Mid b a len cap (n + 6) w (w3.setCell ⟨g3, 2, none⟩ (.int .i64 p2)) g2 g3 [r, d, p2, 0, 0]) := M3'.out.put (j := 2) (by simp) p2
      clear c0 f0 c1 f1 c2 f2 c3 f3 c4 f4 h3l h2l
      clear HC HG
      have c0 : w3.cell? ⟨g3, 0, none⟩ = some (.int .i64 r) := M3'.out.x.cell (i := 0) (by omega)
      have f0 := M3'.out.x.frozen 0
      have c1 : w3.cell? ⟨g3, 1, none⟩ = some (.int .i64 d) := M3'.out.x.cell (i := 1) (by omega)
      have f1 := M3'.out.x.frozen 1
      have c2 : w3.cell? ⟨g3, 2, none⟩ = some (.int .i64 0) := M3'.out.x.cell (i := 2) (by omega)
      have f2 := M3'.out.x.frozen 2
      have c3 : w3.cell? ⟨g3, 3, none⟩ = some (.int .i64 0) := M3'.out.x.cell (i := 3) (by omega)
      have f3 := M3'.out.x.frozen 3
      have c4 : w3.cell? ⟨g3, 4, none⟩ = some (.int .i64 0) := M3'.out.x.cell (i := 4) (by omega)
      have f4 := M3'.out.x.frozen 4
      have h3l : g3 < w3.heap.size := M3'.out.x.lt
      have h2l : g2 < w3.heap.size := M3'.out.z.lt
      go_wp2_with fail
      refine (pick_any 4 M3.out.cur hlen (by omega) (by omega)).mono ?_
      rintro e w4 ⟨p3, q04, q14, rfl, HC, HG⟩
      have M4' : Hid (Mid b a len cap (n + 8) w w4 g2 g3 [r, d, p2, 0, 0]) := M3.out.call HC HG
      have M4 : Hid (Mid b a len cap (n + 8) w (w4.setCell ⟨g3, 3, none⟩ (.int .i64 p3)) g2 g3 [r, d, p2, p3, 0]) := M4'.out.put (j := 3) (by simp) p3
      clear c0 f0 c1 f1 c2 f2 c3 f3 c4 f4 h3l h2l
      clear HC HG
      have c0 : w4.cell? ⟨g3, 0, none⟩ = some (.int .i64 r) := M4'.out.x.cell (i := 0) (by omega)
      have f0 := M4'.out.x.frozen 0
      have c1 : w4.cell? ⟨g3, 1, none⟩ = some (.int .i64 d) := M4'.out.x.cell (i := 1) (by omega)
      have f1 := M4'.out.x.frozen 1
      have c2 : w4.cell? ⟨g3, 2, none⟩ = some (.int .i64 p2) := M4'.out.x.cell (i := 2) (by omega)
      have f2 := M4'.out.x.frozen 2
      have c3 : w4.cell? ⟨g3, 3, none⟩ = some (.int .i64 0) := M4'.out.x.cell (i := 3) (by omega)
      have f3 := M4'.out.x.frozen 3
      have c4 : w4.cell? ⟨g3, 4, none⟩ = some (.int .i64 0) := M4'.out.x.cell (i := 4) (by omega)
      have f4 := M4'.out.x.frozen 4
      have h3l : g3 < w4.heap.size := M4'.out.x.lt
      have h2l : g2 < w4.heap.size := M4'.out.z.lt
      go_wp2_with fail
      go_meet
      exact ⟨p2, p3, 0, { M4.out with cur := M4.out.cur.up (by omega) }⟩
  obtain ⟨p2, p3, p4, M3⟩ := hcut
  have M3 : Hid (Mid b a len cap (n + 8) w wc g2 g3 [r, d, p2, p3, p4]) := M3
  clear c0 f0 c1 f1 c2 f2 c3 f3 c4 f4 h3l h2l
  clear M2
  have c0 : wc.cell? ⟨g3, 0, none⟩ = some (.int .i64 r) := M3.out.x.cell (i := 0) (by omega)
  have f0 := M3.out.x.frozen 0
  have c1 : wc.cell? ⟨g3, 1, none⟩ = some (.int .i64 d) := M3.out.x.cell (i := 1) (by omega)
  have f1 := M3.out.x.frozen 1
  have c2 : wc.cell? ⟨g3, 2, none⟩ = some (.int .i64 p2) := M3.out.x.cell (i := 2) (by omega)
  have f2 := M3.out.x.frozen 2
  have c3 : wc.cell? ⟨g3, 3, none⟩ = some (.int .i64 p3) := M3.out.x.cell (i := 3) (by omega)
  have f3 := M3.out.x.frozen 3
  have c4 : wc.cell? ⟨g3, 4, none⟩ = some (.int .i64 p4) := M3.out.x.cell (i := 4) (by omega)
  have f4 := M3.out.x.frozen 4
  have h3l : g3 < wc.heap.size := M3.out.x.lt
  have h2l : g2 < wc.heap.size := M3.out.z.lt
  go_wp2_with fail
  refine (one_any 60 M3.out.cur hlen (by omega) (by omega)).mono ?_
  rintro e w4 ⟨yes, rfl, HC, HG⟩
  have M4 : Hid (Mid b a len cap (n + 10) w w4 g2 g3 [r, d, p2, p3, p4]) := M3.out.call HC HG
  clear c0 f0 c1 f1 c2 f2 c3 f3 c4 f4 h3l h2l
  clear HC HG M3
  go_upto_if 36 with fail
  go_cut [] (fun wx => ∃ x0 x1 x2 x3 x4 : Int, Mid b a len cap (n + 18) w wx g2 g3 [x0, x1, x2, x3, x4])
  case first =>
    have c0 : w4.cell? ⟨g3, 0, none⟩ = some (.int .i64 r) := M4.out.x.cell (i := 0) (by omega)
    have f0 := M4.out.x.frozen 0
    have c1 : w4.cell? ⟨g3, 1, none⟩ = some (.int .i64 d) := M4.out.x.cell (i := 1) (by omega)
    have f1 := M4.out.x.frozen 1
    have c2 : w4.cell? ⟨g3, 2, none⟩ = some (.int .i64 p2) := M4.out.x.cell (i := 2) (by omega)
    have f2 := M4.out.x.frozen 2
    have c3 : w4.cell? ⟨g3, 3, none⟩ = some (.int .i64 p3) := M4.out.x.cell (i := 3) (by omega)
    have f3 := M4.out.x.frozen 3
    have c4 : w4.cell? ⟨g3, 4, none⟩ = some (.int .i64 p4) := M4.out.x.cell (i := 4) (by omega)
    have f4 := M4.out.x.frozen 4
    have h3l : g3 < w4.heap.size := M4.out.x.lt
    have h2l : g2 < w4.heap.size := M4.out.z.lt
    cases yes
    · go_wp2_with fail
      go_meet
      exact ⟨r, d, p2, p3, p4, { M4.out with cur := M4.out.cur.up (by omega) }⟩
    go_wp2_with fail
    refine (pick_any 10 M4.out.cur hlen (by omega) (by omega)).mono ?_
    rintro e w5 ⟨u0, q05, q15, rfl, HC, HG⟩
    have M5 : Hid (Mid b a len cap (n + 12) w w5 g2 g3 [r, d, p2, p3, p4]) := M4.out.call HC HG
    clear HC HG c0 f0 c1 f1 c2 f2 c3 f3 c4 f4 h3l h2l
    have c0 : w5.cell? ⟨g3, 0, none⟩ = some (.int .i64 r) := M5.out.x.cell (i := 0) (by omega)
    have f0 := M5.out.x.frozen 0
    have c1 : w5.cell? ⟨g3, 1, none⟩ = some (.int .i64 d) := M5.out.x.cell (i := 1) (by omega)
    have f1 := M5.out.x.frozen 1
    have c2 : w5.cell? ⟨g3, 2, none⟩ = some (.int .i64 p2) := M5.out.x.cell (i := 2) (by omega)
    have f2 := M5.out.x.frozen 2
    have c3 : w5.cell? ⟨g3, 3, none⟩ = some (.int .i64 p3) := M5.out.x.cell (i := 3) (by omega)
    have f3 := M5.out.x.frozen 3
    have c4 : w5.cell? ⟨g3, 4, none⟩ = some (.int .i64 p4) := M5.out.x.cell (i := 4) (by omega)
    have f4 := M5.out.x.frozen 4
    have h3l : g3 < w5.heap.size := M5.out.x.lt
    have h2l : g2 < w5.heap.size := M5.out.z.lt
    go_wp2_with fail
    refine (pick_any 10 M5.out.cur hlen (by omega) (by omega)).mono ?_
    rintro e w6 ⟨u1, q06, q16, rfl, HC, HG⟩
    have M6 : Hid (Mid b a len cap (n + 14) w w6 g2 g3 [r, d, p2, p3, p4]) := M5.out.call HC HG
    clear HC HG c0 f0 c1 f1 c2 f2 c3 f3 c4 f4 h3l h2l
    have c0 : w6.cell? ⟨g3, 0, none⟩ = some (.int .i64 r) := M6.out.x.cell (i := 0) (by omega)
    have f0 := M6.out.x.frozen 0
    have c1 : w6.cell? ⟨g3, 1, none⟩ = some (.int .i64 d) := M6.out.x.cell (i := 1) (by omega)
    have f1 := M6.out.x.frozen 1
    have c2 : w6.cell? ⟨g3, 2, none⟩ = some (.int .i64 p2) := M6.out.x.cell (i := 2) (by omega)
    have f2 := M6.out.x.frozen 2
    have c3 : w6.cell? ⟨g3, 3, none⟩ = some (.int .i64 p3) := M6.out.x.cell (i := 3) (by omega)
    have f3 := M6.out.x.frozen 3
    have c4 : w6.cell? ⟨g3, 4, none⟩ = some (.int .i64 p4) := M6.out.x.cell (i := 4) (by omega)
    have f4 := M6.out.x.frozen 4
    have h3l : g3 < w6.heap.size := M6.out.x.lt
    have h2l : g2 < w6.heap.size := M6.out.z.lt
    go_wp2_with fail
    refine (pick_any 3 M6.out.cur hlen (by omega) (by omega)).mono ?_
    rintro e w7 ⟨u2, q07, q17, rfl, HC, HG⟩
    have M7 : Hid (Mid b a len cap (n + 16) w w7 g2 g3 [r, d, p2, p3, p4]) := M6.out.call HC HG
    clear HC HG c0 f0 c1 f1 c2 f2 c3 f3 c4 f4 h3l h2l
    have c0 : w7.cell? ⟨g3, 0, none⟩ = some (.int .i64 r) := M7.out.x.cell (i := 0) (by omega)
    have f0 := M7.out.x.frozen 0
    have c1 : w7.cell? ⟨g3, 1, none⟩ = some (.int .i64 d) := M7.out.x.cell (i := 1) (by omega)
    have f1 := M7.out.x.frozen 1
    have c2 : w7.cell? ⟨g3, 2, none⟩ = some (.int .i64 p2) := M7.out.x.cell (i := 2) (by omega)
    have f2 := M7.out.x.frozen 2
    have c3 : w7.cell? ⟨g3, 3, none⟩ = some (.int .i64 p3) := M7.out.x.cell (i := 3) (by omega)
    have f3 := M7.out.x.frozen 3
    have c4 : w7.cell? ⟨g3, 4, none⟩ = some (.int .i64 p4) := M7.out.x.cell (i := 4) (by omega)
    have f4 := M7.out.x.frozen 4
    have h3l : g3 < w7.heap.size := M7.out.x.lt
    have h2l : g2 < w7.heap.size := M7.out.z.lt
    go_wp2_with fail
    have L3 : Hid (Listed b w7.heap.size 3 0 65536 (w7.alloc (.cells #[.int .i64 0, .int .i64 1, .int .i64 65536] 3))) := listed_new M7.out.cur 3 [0, 1, 65536] (by decide)
    refine (among_any (M7.out.cur.alloc _) L3.out (by omega) (by omega) hlen (by omega)).mono ?_
    rintro e w8 ⟨u4, q08, q18, rfl, HC, HG⟩
    have M8 : Hid (Mid b a len cap (n + 18) w w8 g2 g3 [r, d, p2, p3, p4]) := (M7.out.alloc _).call HC HG
    clear HC HG L3 c0 f0 c1 f1 c2 f2 c3 f3 c4 f4 h3l h2l
    have c0 : w8.cell? ⟨g3, 0, none⟩ = some (.int .i64 r) := M8.out.x.cell (i := 0) (by omega)
    have f0 := M8.out.x.frozen 0
    have c1 : w8.cell? ⟨g3, 1, none⟩ = some (.int .i64 d) := M8.out.x.cell (i := 1) (by omega)
    have f1 := M8.out.x.frozen 1
    have c2 : w8.cell? ⟨g3, 2, none⟩ = some (.int .i64 p2) := M8.out.x.cell (i := 2) (by omega)
    have f2 := M8.out.x.frozen 2
    have c3 : w8.cell? ⟨g3, 3, none⟩ = some (.int .i64 p3) := M8.out.x.cell (i := 3) (by omega)
    have f3 := M8.out.x.frozen 3
    have c4 : w8.cell? ⟨g3, 4, none⟩ = some (.int .i64 p4) := M8.out.x.cell (i := 4) (by omega)
    have f4 := M8.out.x.frozen 4
    have h3l : g3 < w8.heap.size := M8.out.x.lt
    have h2l : g2 < w8.heap.size := M8.out.z.lt
    go_wp2_with fail
    go_meet
    exact ⟨u0, u1 - 1, u2, 0, u4, (((((M8.out.put (j := 0) (by simp) u0).put (j := 1) (by simp) (u1 - 1)).put (j := 2) (by simp) u2).put (j := 3) (by simp) 0).put (j := 4) (by simp) u4)⟩
  obtain ⟨x0, x1, x2, x3, x4, M9⟩ := hcut
  have M9 : Hid (Mid b a len cap (n + 18) w wc g2 g3 [x0, x1, x2, x3, x4]) := M9
  clear M4
  have c0 : wc.cell? ⟨g3, 0, none⟩ = some (.int .i64 x0) := M9.out.x.cell (i := 0) (by omega)
  have f0 := M9.out.x.frozen 0
  have c1 : wc.cell? ⟨g3, 1, none⟩ = some (.int .i64 x1) := M9.out.x.cell (i := 1) (by omega)
  have f1 := M9.out.x.frozen 1
  have c2 : wc.cell? ⟨g3, 2, none⟩ = some (.int .i64 x2) := M9.out.x.cell (i := 2) (by omega)
  have f2 := M9.out.x.frozen 2
  have c3 : wc.cell? ⟨g3, 3, none⟩ = some (.int .i64 x3) := M9.out.x.cell (i := 3) (by omega)
  have f3 := M9.out.x.frozen 3
  have c4 : wc.cell? ⟨g3, 4, none⟩ = some (.int .i64 x4) := M9.out.x.cell (i := 4) (by omega)
  have f4 := M9.out.x.frozen 4
  have h3l : g3 < wc.heap.size := M9.out.x.lt
  have h2l : g2 < wc.heap.size := M9.out.z.lt
  have z0 : wc.cell? ⟨g2, 0, none⟩ = some (.int .i64 0) := M9.out.z.cell (i := 0) (by omega)
  have y0 := M9.out.z.frozen 0
  have z1 : wc.cell? ⟨g2, 1, none⟩ = some (.int .i64 0) := M9.out.z.cell (i := 1) (by omega)
  have y1 := M9.out.z.frozen 1
  have z2 : wc.cell? ⟨g2, 2, none⟩ = some (.int .i64 0) := M9.out.z.cell (i := 2) (by omega)
  have y2 := M9.out.z.frozen 2
  have z3 : wc.cell? ⟨g2, 3, none⟩ = some (.int .i64 0) := M9.out.z.cell (i := 3) (by omega)
  have y3 := M9.out.z.frozen 3
  have z4 : wc.cell? ⟨g2, 4, none⟩ = some (.int .i64 0) := M9.out.z.cell (i := 4) (by omega)
  have y4 := M9.out.z.frozen 4
  go_wp2
  refine bodyPost_ret (v := .agg #[.int .i64 x0, .int .i64 x1, .int .i64 x2, .int .i64 x3, .int .i64 x4]) (by simp only [results, Try.results48]; go_simp) rfl ⟨x0, x1, x2, x3, x4, rfl, ?_, ?_⟩
  · exact (cur_set (cur_set (cur_set (cur_set (cur_set M9.out.cur hb2) hb2) hb2) hb2) hb2).up (by omega)
  · exact grown_new (grown_new (grown_new (grown_new (grown_new M9.out.grown hg2) hg2) hg2) hg2) hg2
end Go.Proofs.Ytldmeffhbabanaa.cur
