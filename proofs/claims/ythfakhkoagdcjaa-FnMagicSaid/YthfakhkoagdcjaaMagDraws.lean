/-
  What the specification's draws of a magic answer: some magic, whatever it be; they write into the reader's own cells and new memory alone.
-/
import Derived.Test.YthfakhkoagdcjaaCur
import Derived.Test.YthfakhkoagdcjaaMagMath
import Derived.Test.YthfakhkoagdcjaaMagGood
import Derived.Test.YthfakhkoagdcjaaMagFor
import Derived.Test.YthfakhkoagdcjaaMagDraw
import Derived.Test.YthfakhkoagdcjaaCurWord
import Derived.Handy
namespace Go.Proofs.Ythfakhkoagdcjaa.cur
open Go.RowKit Go.Proofs.Ythfakhkoagdcjaa.math Go.Proofs.Ythfakhkoagdcjaa.ints Go.Proofs.Ythfakhkoagdcjaa.walks
set_option linter.unusedVariables false

/-- MagicFor of the specification at any number up to 65536: some magic, in bounds. -/
theorem spec_for_any (r : Int) (W : World) (r0 : 0 ≤ r) (r1 : r ≤ 65536) : Calls Try.prog 6 #[.int .i64 r] W fun e W' => ∃ (x y z : Int) (o : Bool), e = .returned (.tuple #[.agg #[.int .i64 x, .int .i64 y, .int .i64 z], .bool o]) ∧ 0 ≤ y ∧ y ≤ 4295032830 ∧ Below W.heap.size W W' := by
  cases h : inR r 1 65535
  · refine (spec_for_no r W h).mono ?_
    rintro e W' ⟨rfl, hB⟩
    exact ⟨0, 0, 0, false, rfl, by omega, by omega, hB⟩
  · obtain ⟨h0, h1⟩ := inR_out h
    obtain ⟨t, ht⟩ := least_is h0 h1
    obtain ⟨g0, g1, _⟩ := up_bd (s := t) h0 h1 ht.2.1
    refine (spec_for r t W h0 h1 ht).mono ?_
    rintro e W' ⟨rfl, hB⟩
    exact ⟨_, _, _, true, rfl, g0, g1, hB⟩
theorem grown_low {w w' : World} (h : Below w.heap.size w w') (b : Nat) : w.grownBy w' (some b) := ⟨h.os, h.tape, h.output, h.size, fun k hk _ => h.block k hk⟩
theorem cur_lt {b len cap n : Nat} {a : Option Addr} {w : World} (h : Cur b a len cap n w) : b < w.heap.size := by
  obtain ⟨_, k, s, _, _, _, h0, _⟩ := h
  exact World.block_lt_of_cell? w _ h0
/-- Three numbers in a block. -/
structure Box3 (w : World) (g : Nat) (x y z : Int) : Prop where
  lt : g < w.heap.size
  c0 : w.cell? ⟨g, 0, none⟩ = some (.int .i64 x)
  c1 : w.cell? ⟨g, 1, none⟩ = some (.int .i64 y)
  c2 : w.cell? ⟨g, 2, none⟩ = some (.int .i64 z)
  f0 : w.frozen? ⟨g, 0, none⟩ = false
  f1 : w.frozen? ⟨g, 1, none⟩ = false
  f2 : w.frozen? ⟨g, 2, none⟩ = false
theorem Box3.grown {w w' : World} {g b : Nat} {x y z : Int} (h : Box3 w g x y z) (hg : w.grownBy w' (some b)) (hne : g ≠ b) : Box3 w' g x y z := by
  have hb := hg.block g h.lt (by simpa using hne)
  exact ⟨Nat.lt_of_lt_of_le h.lt hg.size, (World.cell?_of_block hb).trans h.c0, (World.cell?_of_block hb).trans h.c1, (World.cell?_of_block hb).trans h.c2, (World.frozen?_of_block hb).trans h.f0, (World.frozen?_of_block hb).trans h.f1, (World.frozen?_of_block hb).trans h.f2⟩
theorem Box3.below {w w' : World} {g : Nat} {x y z : Int} (h : Box3 w g x y z) (hg : Below w.heap.size w w') : Box3 w' g x y z := h.grown (grown_low hg (g + 1)) (by omega)
theorem Box3.alloc {w : World} {g : Nat} {x y z : Int} (h : Box3 w g x y z) (o : Obj) : Box3 (w.alloc o) g x y z := h.grown (grown_alloc (grown_refl _ (some (g + 1))) o) (by omega)
theorem Cur.set {b len cap n g i : Nat} {a : Option Addr} {w : World} {v : Value} (h : Cur b a len cap n w) (hg : b < g) : Cur b a len cap n (w.setCell ⟨g, i, none⟩ v) := by
  obtain ⟨hs, k, s, hk, s0, s1, c0, c1, c2, f1, f2⟩ := h
  refine ⟨?_, k, s, hk, s0, s1, ?_, ?_, ?_, by simpa using f1, by simpa using f2⟩
  · rcases hs with e | ⟨x, off, rfl, hx, hl, hc⟩
    · exact Or.inl e
    · refine Or.inr ⟨x, off, rfl, hx, by simpa [World.setCell] using hl, fun j hj => ?_⟩
      obtain ⟨z, z0, z1, hz⟩ := hc j hj
      exact ⟨z, z0, z1, by rw [World.cell?_setCell_other _ _ _ _ (by simp; try omega)]; exact hz⟩
  · rw [World.cell?_setCell_other _ _ _ _ (by simp; try omega)]; exact c0
  · rw [World.cell?_setCell_other _ _ _ _ (by simp; try omega)]; exact c1
  · rw [World.cell?_setCell_other _ _ _ _ (by simp; try omega)]; exact c2
theorem grown_setn {w w' : World} {row : Option Nat} {g i : Nat} {v : Value} (h : w.grownBy w' row) (hg : w.heap.size ≤ g) : w.grownBy (w'.setCell ⟨g, i, none⟩ v) row :=
  ⟨h.os, h.tape, h.output, by simpa [World.setCell] using h.size, fun k hk hne => (Below.heap_setCell _ _ _ _ (by simp; try omega)).trans (h.block k hk hne)⟩
theorem Box3.drew {w : World} {g : Nat} {x y z : Int} (h : Box3 w g x y z) : Box3 w.drew g x y z := ⟨h.lt, h.c0, h.c1, h.c2, h.f0, h.f1, h.f2⟩
theorem box3_new (w : World) (x y z : Int) (t : TypeId) : Box3 (w.alloc (.cells #[.int .i64 x, .int .i64 y, .int .i64 z] t)) w.heap.size x y z := by
  refine ⟨by simp, ?_, ?_, ?_, ?_, ?_, ?_⟩ <;> go_simp
set_option maxRecDepth 100000 in
set_option maxHeartbeats 4000000 in
theorem magic_any {b len cap n : Nat} {a : Option Addr} {w : World} (h : Cur b a len cap n w) (hlen : len ≤ 1048576) (hn : n ≤ 1099511627000) :
    Calls Try.prog 27 #[.pointer (some ⟨b, 0, none⟩)] w fun e w' => ∃ x y z : Int, e = .returned (.agg #[.int .i64 x, .int .i64 y, .int .i64 z]) ∧ Cur b a len cap (n + 20) w' ∧ w.grownBy w' (some b) := by
  have H : Hid (Cur b a len cap n w) := h
  have hbw := cur_lt h
  clear h
  go_enter Try.func27, Try.ntmps27
  go_wp2_with fail
  refine (divisor_any (H.out.alloc _) hlen (by omega)).mono ?_
  rintro e w1 ⟨r, r0, r1, rfl, HC, HG⟩
  have H1 : Hid (Cur b a len cap (n + 6) w1) := HC
  have G1 : Hid (w.grownBy w1 (some b)) := grown_trans (grown_alloc (grown_refl _ _) _) HG
  have Z1 : Hid (Box3 w1 w.heap.size 0 0 0) := (box3_new w 0 0 0 _).grown HG (by omega)
  clear HC HG H
  go_wp2_with fail
  refine (spec_for_any r _ r0 r1).mono ?_
  rintro e w2 ⟨x, y, z, o, rfl, y0, y1, hB⟩
  have H2 : Hid (Cur b a len cap (n + 6) w2) := H1.out.far (grown_of_below hB _)
  have G2 : Hid (w.grownBy w2 (some b)) := grown_trans G1.out (grown_low hB b)
  have Z2 : Hid (Box3 w2 w.heap.size 0 0 0) := Z1.out.below hB
  have hb2 : b < w2.heap.size := cur_lt H2.out
  have hzm : w.heap.size < w2.heap.size := Z2.out.lt
  clear hB H1 G1 Z1
  cases o
  all_goals
    go_wp2_with fail
    refine (pick_any 12 (H2.out.alloc _) hlen (by omega) (by omega)).mono ?_
    rintro e w3 ⟨p, p0, p1, rfl, HC, HG⟩
    have H3 : Hid (Cur b a len cap (n + 6 + 2) w3) := HC
    have G3 : Hid (w.grownBy w3 (some b)) := grown_trans (grown_alloc G2.out _) HG
    have Z3 : Hid (Box3 w3 w.heap.size 0 0 0) := (Z2.out.alloc _).grown HG (by omega)
    obtain ⟨A, B, C, M3, BB0, BB1⟩ : ∃ A B C : Int, Hid (Box3 w3 w2.heap.size A B C) ∧ 0 ≤ B ∧ B ≤ 4295032830 := ⟨_, _, _, (box3_new w2 _ _ _ _).grown HG (by omega), by omega, by omega⟩
    have hb3 : b < w3.heap.size := cur_lt H3.out
    clear HC HG H2 G2 Z2
    have zl := Z3.out.lt
    have ml := M3.out.lt
    have za := Z3.out.c0
    have zb := Z3.out.c1
    have zc := Z3.out.c2
    have zd := Z3.out.f0
    have ze := Z3.out.f1
    have zf := Z3.out.f2
    have ma := M3.out.c0
    have mb := M3.out.c1
    have mc := M3.out.c2
    have md := M3.out.f0
    have me := M3.out.f1
    have mf := M3.out.f2
    rcases (show p = 0 ∨ p = 1 ∨ p = 2 ∨ 3 ≤ p by omega) with hp | hp | hp | hp
    · subst hp
      go_wp2_with fail
      go_region_with (go_at_call 31; refine (pick_any 5 H3.out.drew hlen (by omega) (by omega)).mono ?_; rintro e w4 ⟨q, q0, q1, rfl, HC, HG⟩; have H4 : Hid (Cur b a len cap (n + 20) w4) := HC.up (by omega); have G4 : Hid (w.grownBy w4 (some b)) := grown_trans (grown_drew G3.out) HG; have Z4 := Z3.out.drew.grown HG (by omega); have M4 := M3.out.drew.grown HG (by omega); have z4l := Z4.lt; have z4a := Z4.c0; have z4b := Z4.c1; have z4c := Z4.c2; have z4d := Z4.f0; have z4e := Z4.f1; have z4f := Z4.f2; have m4l := M4.lt; have m4a := M4.c0; have m4b := M4.c1; have m4c := M4.c2; have m4d := M4.f0; have m4e := M4.f1; have m4f := M4.f2; clear HC HG Z4 M4)
      all_goals go_wp2
      all_goals
        refine bodyPost_ret (v := .agg #[.int .i64 A, .int .i64 (B + (q - 2)), .int .i64 C]) (by simp only [results, Try.results27]; go_simp) rfl ⟨_, _, _, rfl, ?_, ?_⟩
        · repeat (first | with_reducible exact H4.out | with_reducible refine Cur.set ?_ (by omega) | with_reducible refine Cur.drew ?_)
        · repeat (first | with_reducible exact G4.out | with_reducible refine grown_setn ?_ (by omega) | with_reducible refine grown_drew ?_)
    · subst hp
      go_wp2_with fail
      have L : Hid (Listed b w3.heap.size 5 (-1) 33 (w3.alloc (.cells #[.int .i64 (-1), .int .i64 0, .int .i64 15, .int .i64 32, .int .i64 33] 3))) :=
        listed_new H3.out 3 [-1, 0, 15, 32, 33] (by decide)
      refine (among_any (H3.out.alloc _) L.out (by omega) (by omega) hlen (by omega)).mono ?_
      rintro e w4 ⟨q, q0, q1, rfl, HC, HG⟩
      have H4 : Hid (Cur b a len cap (n + 20) w4) := HC.up (by omega)
      have G4 : Hid (w.grownBy w4 (some b)) := grown_trans (grown_alloc G3.out _) HG
      have Z4 := (Z3.out.alloc _).grown HG (by omega)
      have M4 := (M3.out.alloc _).grown HG (by omega)
      have z4l := Z4.lt
      have z4a := Z4.c0
      have z4b := Z4.c1
      have z4c := Z4.c2
      have z4d := Z4.f0
      have z4e := Z4.f1
      have z4f := Z4.f2
      have m4l := M4.lt
      have m4a := M4.c0
      have m4b := M4.c1
      have m4c := M4.c2
      have m4d := M4.f0
      have m4e := M4.f1
      have m4f := M4.f2
      clear HC HG Z4 M4 L
      go_wp2
      refine bodyPost_ret (v := .agg #[.int .i64 A, .int .i64 B, .int .i64 q]) (by simp only [results, Try.results27]; go_simp) rfl ⟨_, _, _, rfl, ?_, ?_⟩
      · repeat (first | with_reducible exact H4.out | with_reducible refine Cur.set ?_ (by omega) | with_reducible refine Cur.drew ?_)
      · repeat (first | with_reducible exact G4.out | with_reducible refine grown_setn ?_ (by omega) | with_reducible refine grown_drew ?_)
    · subst hp
      go_wp2_with fail
      refine (divisor_any H3.out hlen (by omega)).mono ?_
      rintro e w4 ⟨q, q0, q1, rfl, HC, HG⟩
      have H4 : Hid (Cur b a len cap (n + 20) w4) := HC.up (by omega)
      have G4 : Hid (w.grownBy w4 (some b)) := grown_trans G3.out HG
      have Z4 := Z3.out.grown HG (by omega)
      have M4 := M3.out.grown HG (by omega)
      have z4l := Z4.lt
      have z4a := Z4.c0
      have z4b := Z4.c1
      have z4c := Z4.c2
      have z4d := Z4.f0
      have z4e := Z4.f1
      have z4f := Z4.f2
      have m4l := M4.lt
      have m4a := M4.c0
      have m4b := M4.c1
      have m4c := M4.c2
      have m4d := M4.f0
      have m4e := M4.f1
      have m4f := M4.f2
      clear HC HG Z4 M4
      go_wp2
      refine bodyPost_ret (v := .agg #[.int .i64 q, .int .i64 B, .int .i64 C]) (by simp only [results, Try.results27]; go_simp) rfl ⟨_, _, _, rfl, ?_, ?_⟩
      · repeat (first | with_reducible exact H4.out | with_reducible refine Cur.set ?_ (by omega) | with_reducible refine Cur.drew ?_)
      · repeat (first | with_reducible exact G4.out | with_reducible refine grown_setn ?_ (by omega) | with_reducible refine grown_drew ?_)
    · have d0 : decide (p = 0) = false := decide_eq_false (by omega)
      have d1 : decide (p = 1) = false := decide_eq_false (by omega)
      have d2 : decide (p = 2) = false := decide_eq_false (by omega)
      have H5 : Hid (Cur b a len cap (n + 20) w3) := H3.out.up (by omega)
      go_wp2
      refine bodyPost_ret (v := .agg #[.int .i64 A, .int .i64 B, .int .i64 C]) (by simp only [results, Try.results27]; go_simp) rfl ⟨_, _, _, rfl, ?_, ?_⟩
      · repeat (first | with_reducible exact H5.out | with_reducible refine Cur.set ?_ (by omega) | with_reducible refine Cur.drew ?_)
      · repeat (first | with_reducible exact G3.out | with_reducible refine grown_setn ?_ (by omega) | with_reducible refine grown_drew ?_)
/-- A magic and a number, whatever they be. -/
abbrev Drawn (w : World) (e : Ending) (w' : World) : Prop := ∃ x y z n : Int, e = .returned (.tuple #[.agg #[.int .i64 x, .int .i64 y, .int .i64 z], .int .i64 n]) ∧ Below w.heap.size w w'
theorem src_alloc {w : World} {a : Option Addr} {len : Nat} (h : Src w.heap.size a len w) (o : Obj) : Src (w.alloc o).heap.size a len (w.alloc o) := by
  rcases h with h | ⟨x, off, rfl, hx, hs, hc⟩
  · exact Or.inl h
  · refine Or.inr ⟨x, off, rfl, by simp; omega, by simp; omega, fun i hi => ?_⟩
    obtain ⟨z, z0, z1, hz⟩ := hc i hi
    exact ⟨z, z0, z1, (World.cell?_alloc_past _ x (off + i) hx).trans hz⟩
theorem below_grown {w w1 w' : World} {b : Nat} (hb : Below w.heap.size w w1) (hg : w1.grownBy w' (some b)) (hle : w.heap.size ≤ b) (hz : w.heap.size ≤ w1.heap.size) : Below w.heap.size w w' := hb.grown hg hz (fun k hk => by cases hk; exact hle)
set_option maxRecDepth 100000 in
set_option maxHeartbeats 4000000 in
theorem drawDiv_any {len cap : Nat} {a : Option Addr} {w : World} (hc : Src w.heap.size a len w) (hlen : len ≤ 1048576) :
    Calls Try.prog 11 #[.slice a len cap] w (Drawn w) := by
  have HCode : Hid (Src (w.alloc (.cells #[.int .i64 0, .int .i64 0, .int .i64 0] 25)).heap.size a len (w.alloc (.cells #[.int .i64 0, .int .i64 0, .int .i64 0] 25))) := src_alloc hc _
  clear hc
  go_enter Try.func11, Try.ntmps11
  go_wp2_with fail
  have hN := cur_new (cap := cap) 39 HCode.out
  rw [show (w.alloc (.cells #[.int .i64 0, .int .i64 0, .int .i64 0] 25)).heap.size = w.heap.size + 1 by simp] at hN
  refine (magic_any hN hlen (by omega)).mono ?_
  rintro e w1 ⟨x, y, z, rfl, HC, HG⟩
  have H1 : Hid (Cur (w.heap.size + 1) a len cap (0 + 20) w1) := HC
  have Z1 : Hid (Box3 w1 w.heap.size 0 0 0) := ((box3_new w 0 0 0 _).alloc _).grown HG (by omega)
  have B1 : Hid (Below w.heap.size w w1) := below_grown (((Below.refl _ _).alloc (Nat.le_refl _) _).alloc (by simp) _) HG (by omega) (by simp; omega)
  clear HC HG hN HCode
  go_wp2_with fail
  refine (word_any H1.out hlen (by omega)).mono ?_
  rintro e w2 ⟨k, k0, k1, rfl, HC, HG⟩
  have Z2 : Hid (Box3 w2 w.heap.size 0 0 0) := Z1.out.grown HG (by omega)
  have B2 : Hid (Below w.heap.size w w2) := below_grown B1.out HG (by omega) B1.out.size
  clear HC HG H1 Z1 B1
  have zl := Z2.out.lt
  have za := Z2.out.c0
  have zb := Z2.out.c1
  have zc := Z2.out.c2
  have zd := Z2.out.f0
  have ze := Z2.out.f1
  have zf := Z2.out.f2
  go_wp2
  refine bodyPost_ret (v := .tuple #[.agg #[.int .i64 x, .int .i64 y, .int .i64 z], .int .i64 k]) (by simp only [results, Try.results11]; go_simp) rfl ⟨x, y, z, k, rfl, ?_⟩
  repeat (first | with_reducible exact B2.out | refine Below.setCell ?_ (by simp) _ | refine Below.drew ?_)
set_option maxRecDepth 100000 in
set_option maxHeartbeats 4000000 in
theorem drawSdiv_any {len cap : Nat} {a : Option Addr} {w : World} (hc : Src w.heap.size a len w) (hlen : len ≤ 1048576) :
    Calls Try.prog 14 #[.slice a len cap] w (Drawn w) := by
  have HCode : Hid (Src (w.alloc (.cells #[.int .i64 0, .int .i64 0, .int .i64 0] 25)).heap.size a len (w.alloc (.cells #[.int .i64 0, .int .i64 0, .int .i64 0] 25))) := src_alloc hc _
  clear hc
  go_enter Try.func14, Try.ntmps14
  go_wp2_with fail
  have hN := cur_new (cap := cap) 39 HCode.out
  rw [show (w.alloc (.cells #[.int .i64 0, .int .i64 0, .int .i64 0] 25)).heap.size = w.heap.size + 1 by simp] at hN
  refine (magic_any hN hlen (by omega)).mono ?_
  rintro e w1 ⟨x, y, z, rfl, HC, HG⟩
  have H1 : Hid (Cur (w.heap.size + 1) a len cap (0 + 20) w1) := HC
  have Z1 : Hid (Box3 w1 w.heap.size 0 0 0) := ((box3_new w 0 0 0 _).alloc _).grown HG (by omega)
  have B1 : Hid (Below w.heap.size w w1) := below_grown (((Below.refl _ _).alloc (Nat.le_refl _) _).alloc (by simp) _) HG (by omega) (by simp; omega)
  clear HC HG hN HCode
  go_wp2_with fail
  refine (pick_any 60000 H1.out hlen (by omega) (by omega)).mono ?_
  rintro e wp ⟨q, q0, q1, rfl, HC, HG⟩
  have HP : Hid (Cur (w.heap.size + 1) a len cap (0 + 20 + 2) wp) := HC
  have ZP : Hid (Box3 wp w.heap.size 0 0 0) := Z1.out.grown HG (by omega)
  have BP : Hid (Below w.heap.size w wp) := below_grown B1.out HG (by omega) B1.out.size
  clear HC HG H1 Z1 B1
  go_wp2_with fail
  have L : Hid (Listed (w.heap.size + 1) wp.heap.size 8 (-32769) 32768 (wp.alloc (.cells #[.int .i64 (-32769), .int .i64 (-32768), .int .i64 (-1), .int .i64 0, .int .i64 1, .int .i64 32767, .int .i64 32768, .int .i64 (q - 30000)] 3))) :=
    listed_new HP.out 3 [-32769, -32768, -1, 0, 1, 32767, 32768, q - 30000] (by intro z hz; simp at hz; omega)
  refine (among_any (HP.out.alloc _) L.out (by omega) (by omega) hlen (by omega)).mono ?_
  rintro e w2 ⟨k, k0, k1, rfl, HC, HG⟩
  have Z2 : Hid (Box3 w2 w.heap.size 0 0 0) := (ZP.out.alloc _).grown HG (by omega)
  have B2 : Hid (Below w.heap.size w w2) := below_grown (BP.out.alloc BP.out.size _) HG (by omega) (by have := BP.out.size; simp; omega)
  clear HC HG HP ZP BP L
  have zl := Z2.out.lt
  have za := Z2.out.c0
  have zb := Z2.out.c1
  have zc := Z2.out.c2
  have zd := Z2.out.f0
  have ze := Z2.out.f1
  have zf := Z2.out.f2
  go_wp2
  refine bodyPost_ret (v := .tuple #[.agg #[.int .i64 x, .int .i64 y, .int .i64 z], .int .i64 k]) (by simp only [results, Try.results14]; go_simp) rfl ⟨x, y, z, k, rfl, ?_⟩
  repeat (first | with_reducible exact B2.out | refine Below.setCell ?_ (by simp) _ | refine Below.drew ?_)
end Go.Proofs.Ythfakhkoagdcjaa.cur
