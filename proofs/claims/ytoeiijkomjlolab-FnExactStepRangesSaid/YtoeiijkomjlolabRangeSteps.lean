/-
  What the specification's StepRanges answers, at every list of steps and every list of ranges; it writes into memory of its own alone.
-/
import Derived.Test.YtoeiijkomjlolabProg
import Derived.Test.YtoeiijkomjlolabRangeRun
import Derived.Test.YtoeiijkomjlolabRangeTwo
import Derived.Test.YtoeiijkomjlolabRangeSpec
import Derived.Test.YtoeiijkomjlolabRanges
import Derived.Test.YtoeiijkomjlolabRecsInstr
import Derived.Test.YtoeiijkomjlolabCodeGood
import Derived.WalkKit
import Derived.WalkSpells
import Derived.Below
import Derived.Handy
import Derived.Deep.RegionHeld3
namespace Go.Proofs.Ytoeiijkomjlolab.walks
open Go.RowKit Go.Proofs.Ytoeiijkomjlolab.math Go.Proofs.Ytoeiijkomjlolab.ints
set_option linter.unusedVariables false
set_option linter.unusedSimpArgs false

/-- Facts from a place of a block on, none of it barred. -/
def CellsG (w : World) (b off n : Nat) (g : Nat → Rv) : Prop := ∀ i, i < n * 3 → w.cell? ⟨b, off + i, none⟩ = some (cellG g i) ∧ w.frozen? ⟨b, off + i, none⟩ = false
theorem CellsG.kept {w w' : World} {b off n : Nat} {g : Nat → Rv} (h : CellsG w b off n g) (hb : b < w.heap.size) (B : Below w.heap.size w w') : CellsG w' b off n g :=
  fun i hi => ⟨(B.cell (p := ⟨b, off + i, none⟩) hb).trans (h i hi).1, (B.frozen (p := ⟨b, off + i, none⟩) hb).trans (h i hi).2⟩
theorem CellsG.congr {w : World} {b off n : Nat} {g g' : Nat → Rv} (h : CellsG w b off n g) (e : ∀ i, i < n → g i = g' i) : CellsG w b off n g' :=
  fun i hi => ⟨by rw [(h i hi).1, cellG_far (e (i / 3) (by omega))], (h i hi).2⟩
theorem CellsG.at {w : World} {b off n k : Nat} {g : Nat → Rv} (h : CellsG w b off n g) (hk : k < n) : (w.cell? ⟨b, off + k * 3, none⟩ = some (.bool (g k).e) ∧ w.cell? ⟨b, off + k * 3 + 1, none⟩ = some (.int .i64 (g k).lo) ∧ w.cell? ⟨b, off + k * 3 + 2, none⟩ = some (.int .i64 (g k).hi)) ∧ w.frozen? ⟨b, off + k * 3, none⟩ = false ∧ w.frozen? ⟨b, off + k * 3 + 1, none⟩ = false ∧ w.frozen? ⟨b, off + k * 3 + 2, none⟩ = false := by
  have h0 := h (k * 3) (by omega)
  have h1 := h (k * 3 + 1) (by omega)
  have h2 := h (k * 3 + 2) (by omega)
  rw [cellG_0] at h0
  rw [cellG_1, ← Nat.add_assoc] at h1
  rw [cellG_2, ← Nat.add_assoc] at h2
  exact ⟨⟨h0.1, h1.1, h2.1⟩, h0.2, h1.2, h2.2⟩
theorem CellsG.set {w : World} {b off n k : Nat} {g : Nat → Rv} (h : CellsG w b off n g) (hk : k < n) (f : Rv) : CellsG (((w.setCell ⟨b, off + k * 3, none⟩ (.bool f.e)).setCell ⟨b, off + k * 3 + 1, none⟩ (.int .i64 f.lo)).setCell ⟨b, off + k * 3 + 2, none⟩ (.int .i64 f.hi)) b off n (setR g k f) := by
  obtain ⟨⟨d0, d1, d2⟩, _⟩ := h.at hk
  intro i hi
  obtain ⟨e0, e1⟩ := h i hi
  refine ⟨?_, by simpa using e1⟩
  rw [show cellG (setR g k f) i = cellG (upd g k f) i from rfl, cellG_upd]
  by_cases h2 : i = k * 3 + 2
  · subst h2
    rw [if_pos rfl, ← Nat.add_assoc, World.cell?_setCell_same _ _ _ ((World.cell?_setCell_other _ _ _ _ (by simp; try omega)).trans ((World.cell?_setCell_other _ _ _ _ (by simp; try omega)).trans d2))]
  rw [if_neg h2, World.cell?_setCell_other _ _ _ _ (by simp; try omega)]
  by_cases h1 : i = k * 3 + 1
  · subst h1
    rw [if_pos rfl, ← Nat.add_assoc, World.cell?_setCell_same _ _ _ ((World.cell?_setCell_other _ _ _ _ (by simp; try omega)).trans d1)]
  rw [if_neg h1, World.cell?_setCell_other _ _ _ _ (by simp; try omega)]
  by_cases h0 : i = k * 3
  · subst h0
    rw [if_pos rfl, World.cell?_setCell_same _ _ _ d0]
  rw [if_neg h0, World.cell?_setCell_other _ _ _ _ (by simp; try omega), e0]
theorem CellsG.facts {w : World} {b off n : Nat} {g : Nat → Rv} (h : CellsG w b off n g) (hb : b < w.heap.size) : Facts w (some ⟨b, off, none⟩) n g := Or.inr ⟨b, off, rfl, hb, fun i hi => (h i hi).1⟩
theorem CellsG.mine {w : World} {B b off n : Nat} {g : Nat → Rv} (h : CellsG w b off n g) (hB : B ≤ b) (hb : b < w.heap.size) : MineF w B (some ⟨b, off, none⟩) n g := Or.inr ⟨b, off, rfl, hB, hb, fun i hi => h i hi⟩
theorem below_set3 {B b i j k : Nat} {W w : World} {x y z : Value} (h : Below B W w) (hb : B ≤ b) : Below B W (((w.setCell ⟨b, i, none⟩ x).setCell ⟨b, j, none⟩ y).setCell ⟨b, k, none⟩ z) := ((h.setCell hb _).setCell hb _).setCell hb _
theorem box4_call {w w' : World} {g : Nat} {o d x y : Int} (h : w.cell? ⟨g, 0, none⟩ = some (.int .i64 o) ∧ w.cell? ⟨g, 1, none⟩ = some (.int .i64 d) ∧ w.cell? ⟨g, 2, none⟩ = some (.int .i64 x) ∧ w.cell? ⟨g, 3, none⟩ = some (.int .i64 y)) (hg : g < w.heap.size) (B : Below w.heap.size w w') : w'.cell? ⟨g, 0, none⟩ = some (.int .i64 o) ∧ w'.cell? ⟨g, 1, none⟩ = some (.int .i64 d) ∧ w'.cell? ⟨g, 2, none⟩ = some (.int .i64 x) ∧ w'.cell? ⟨g, 3, none⟩ = some (.int .i64 y) :=
  ⟨(B.cell (p := ⟨g, 0, none⟩) hg).trans h.1, (B.cell (p := ⟨g, 1, none⟩) hg).trans h.2.1, (B.cell (p := ⟨g, 2, none⟩) hg).trans h.2.2.1, (B.cell (p := ⟨g, 3, none⟩) hg).trans h.2.2.2⟩
theorem far3 {w : World} {b g i j k q : Nat} {x y z : Value} (hne : g ≠ b) : (((w.setCell ⟨b, i, none⟩ x).setCell ⟨b, j, none⟩ y).setCell ⟨b, k, none⟩ z).cell? ⟨g, q, none⟩ = w.cell? ⟨g, q, none⟩ := by
  rw [World.cell?_setCell_other _ _ _ _ (by simp; try omega), World.cell?_setCell_other _ _ _ _ (by simp; try omega), World.cell?_setCell_other _ _ _ _ (by simp; try omega)]
theorem box4_set {w : World} {b g i j k : Nat} {u v t : Value} {o d x y : Int} (h : w.cell? ⟨g, 0, none⟩ = some (.int .i64 o) ∧ w.cell? ⟨g, 1, none⟩ = some (.int .i64 d) ∧ w.cell? ⟨g, 2, none⟩ = some (.int .i64 x) ∧ w.cell? ⟨g, 3, none⟩ = some (.int .i64 y)) (hne : g ≠ b) : (((w.setCell ⟨b, i, none⟩ u).setCell ⟨b, j, none⟩ v).setCell ⟨b, k, none⟩ t).cell? ⟨g, 0, none⟩ = some (.int .i64 o) ∧ (((w.setCell ⟨b, i, none⟩ u).setCell ⟨b, j, none⟩ v).setCell ⟨b, k, none⟩ t).cell? ⟨g, 1, none⟩ = some (.int .i64 d) ∧ (((w.setCell ⟨b, i, none⟩ u).setCell ⟨b, j, none⟩ v).setCell ⟨b, k, none⟩ t).cell? ⟨g, 2, none⟩ = some (.int .i64 x) ∧ (((w.setCell ⟨b, i, none⟩ u).setCell ⟨b, j, none⟩ v).setCell ⟨b, k, none⟩ t).cell? ⟨g, 3, none⟩ = some (.int .i64 y) :=
  ⟨(far3 hne).trans h.1, (far3 hne).trans h.2.1, (far3 hne).trans h.2.2.1, (far3 hne).trans h.2.2.2⟩
/-- The cells of eight facts. -/
def flatG (g : Nat → Rv) (n : Nat) : List Value := (List.range (n * 3)).map (cellG g)
theorem flatG_len (g : Nat → Rv) (n : Nat) : (flatG g n).length = n * 3 := by simp [flatG]
theorem flatG_at {g : Nat → Rv} {n j : Nat} {u : Value} (h : (flatG g n)[j]? = some u) : j < n * 3 ∧ u = cellG g j := by
  have hj := (List.getElem?_eq_some_iff.1 h).1
  rw [flatG_len] at hj
  refine ⟨hj, ?_⟩
  simp [flatG, List.getElem?_map, List.getElem?_range hj] at h
  exact h.symm
theorem cellG_one (g : Nat → Rv) (i : Nat) : (cellG g i).oneCell' = true := by
  unfold cellG
  split <;> rfl
theorem flatG_one (g : Nat → Rv) (n : Nat) : ∀ u ∈ flatG g n, u.oneCell' = true := by
  intro u hu
  obtain ⟨i, _, rfl⟩ := List.mem_map.1 hu
  exact cellG_one g i
theorem flatG_news {w : World} {b off n : Nat} {g : Nat → Rv} (hc : ∀ i, i < n * 3 → w.cell? ⟨b, off + i, none⟩ = some (cellG g i)) : ∀ (j : Nat) (u : Value), (flatG g n)[j]? = some u → w.cell? ((⟨b, off, none⟩ : Addr).add j) = some u := by
  intro j u hj
  obtain ⟨h1, rfl⟩ := flatG_at hj
  have ha : (⟨b, off, none⟩ : Addr).add j = ⟨b, off + j, none⟩ := by unfold Addr.add; split <;> simp_all
  rw [ha]
  exact hc j h1
theorem own_facts {w : World} {B n : Nat} {v : Value} {g : Nat → Rv} (h : w.ownsRow B 24 3 v n (flatG g n)) (hn : 0 < n) : ∃ b cap, v = .slice (some ⟨b, 0, none⟩) n cap ∧ B ≤ b ∧ b < w.heap.size ∧ CellsG w b 0 n g := by
  have h0 := h
  rcases h.2 with ⟨rfl, hz⟩ | ⟨b, cap, cur, rfl, hg, hw, _, _, _, hcur⟩
  · omega
  · refine ⟨b, cap, rfl, hg, (h0.lt b rfl).2, fun i hi => ⟨?_, ?_⟩⟩
    · have hi' : i < (flatG g n).length := by rw [flatG_len]; exact hi
      have := h0.cellAt i hi
      simp only [Nat.zero_add]
      rw [this, List.getElem?_eq_getElem hi']
      obtain ⟨_, e⟩ := flatG_at (List.getElem?_eq_getElem hi')
      rw [e]
    · have := h0.frozenAt i
      simpa using this

theorem zero_off {w : World} {b n : Nat} {g : Nat → Rv} {k : Nat} {x y z : Value} (h : CellsG (((w.setCell ⟨b, 0 + k * 3, none⟩ x).setCell ⟨b, 0 + k * 3 + 1, none⟩ y).setCell ⟨b, 0 + k * 3 + 2, none⟩ z) b 0 n g) : CellsG (((w.setCell ⟨b, k * 3, none⟩ x).setCell ⟨b, k * 3 + 1, none⟩ y).setCell ⟨b, k * 3 + 2, none⟩ z) b 0 n g := by
  simpa only [Nat.zero_add] using h
theorem cellsA {w : World} {b off n : Nat} {g : Nat → Rv} (h : CellsG w b off n g) (hb : b < w.heap.size) (o : Obj) : CellsG (w.alloc o) b off n g := h.kept hb ((Below.refl _ _).alloc (Nat.le_refl _) o)
theorem cellsD {w : World} {b off n : Nat} {g : Nat → Rv} (h : CellsG w b off n g) : CellsG w.drew b off n g := h
theorem cells5 {w w5 : World} {b off n : Nat} {g : Nat → Rv} {o : Obj} (h : CellsG w b off n g) (hb : b < w.heap.size) (B : Below (w.alloc o).drew.heap.size (w.alloc o).drew w5) : CellsG w5 b off n g := CellsG.kept (cellsD (cellsA h hb o)) (by simp; omega) B
theorem below_box {w : World} (o : Obj) : Below w.heap.size w (w.alloc o).drew := ((Below.refl _ _).alloc (Nat.le_refl _) o).drew
theorem bel3 {W w X w5 : World} (h : Below W.heap.size W w) (hX : Below w.heap.size w X) (B : Below X.heap.size X w5) : Below W.heap.size W w5 := belR (belR h hX) B
set_option maxRecDepth 100000 in
set_option maxHeartbeats 8000000 in
theorem spec_stepR (a a' : Option Addr) (len cap cap' : Nat) (zs : List Int) (g : Nat → Rv) (W : World) (hz : Hid (zs.length = len * 5)) (hlen : len ≤ 30) (h : Hid (Ints W a zs)) (hgood : Hid (∀ k, k < len → stepB zs k = true)) (h' : Hid (Facts W a' 8 g)) (hc : Hid (∀ i, i < 8 → (g i).good = true)) :
    Calls Try.prog 49 #[.slice a len cap, .slice a' 8 cap'] W fun e W' => ∃ b c, e = .returned (.slice (some ⟨b, 0, none⟩) 8 c) ∧ W.heap.size ≤ b ∧ b < W'.heap.size ∧ CellsG W' b 0 8 (runR zs g len) ∧ Below W.heap.size W W' := by
  obtain ⟨i0, hi, hz0, hz1, hz2⟩ := info_parts fact_info
  obtain ⟨vb, vo, rfl, hvb, hvc⟩ : ∃ b off, a' = some ⟨b, off, none⟩ ∧ b < W.heap.size ∧ Hid (∀ i, i < 8 * 3 → W.cell? ⟨b, off + i, none⟩ = some (cellG g i)) := by
    rcases h'.out with e | e
    · omega
    · exact e
  go_enter Try.func49, Try.ntmps49
  go_wp2_with (first
    | (at_builtin; refine wpList_append_own _ rfl _ _ 34 rfl W.heap.size 24 i0 _ 3 24 Try.underlying34 hi hz0 hz1 hz2 rfl (by decide) _ 0 [] rfl (World.ownsRow_made W #[] 0 (Nat.le_refl _) (Nat.zero_le _) rfl) ⟨vb, vo, none⟩ 8 cap' (flatG g 8) rfl ?c1 ?c2 (flatG_one g 8) ?c3 ?c4 ?c5 ?_)
    | go_in)
  case c1 => rw [flatG_len]
  case c2 => exact flatG_news (fun i hi => (World.cell?_alloc_past _ vb (vo + i) hvb).trans (hvc.out i hi))
  case c3 => unfold maxLen; omega
  case c4 => omega
  case c5 => simp
  intro v' w2 hown' hgrow _
  obtain ⟨ob, oc, rfl, hWo, hob, hC⟩ := own_facts (g := g) (n := 8) hown' (by omega)
  have HB2 : Hid (Below W.heap.size W w2) := ((Below.refl W.heap.size W).alloc (Nat.le_refl _) _).grown hgrow (by simp) (fun k hk => by simp [Value.ownBlock] at hk; omega)
  have HC2 : Hid (CellsG w2 ob 0 8 g) := hC
  have hob2 : ob < w2.heap.size := hob
  clear hown' hgrow hC hob hi hz0 hz1 hz2 hvc h'
  go_wp2
  go_loopw [13] (fun vi wr => ∃ k : Nat, k ≤ len ∧ vi = .int .i64 k ∧ Hid (CellsG wr ob 0 8 (runR zs g k)) ∧ Hid (Below W.heap.size W wr) ∧ ob < wr.heap.size) (fun vi _ => len - (intOf vi).toNat)
  case atStart => exact ⟨0, Nat.zero_le _, rfl, HC2, HB2, hob2⟩
  case round =>
    obtain ⟨k, hk, rfl, HC, HB, hob⟩ := hrel
    by_cases hlt : k < len
    · obtain ⟨b, o', ha, hb, c0, c1, c2, c3, c4⟩ := Instr_at h.out hz.out HB.out hlt
      subst ha
      have hcome := good_run hc.out hgood.out k hk
      have HCM : Hid (∀ i, i < 8 → (runR zs g k i).good = true) := hcome
      clear hcome
      have hg := hgood.out k hlt
      unfold stepB at hg
      have HS : Hid (runR zs g (k + 1) = stepR (runR zs g k) (zs.getD (k * 5) 0) (zs.getD (k * 5 + 1) 0) (zs.getD (k * 5 + 2) 0) (zs.getD (k * 5 + 3) 0) (zs.getD (k * 5 + 4) 0)) := rfl
      generalize zs.getD (k * 5) 0 = o at c0 hg HS
      generalize zs.getD (k * 5 + 1) 0 = d at c1 hg HS
      generalize zs.getD (k * 5 + 2) 0 = x at c2 hg HS
      generalize zs.getD (k * 5 + 3) 0 = y at c3 hg HS
      generalize zs.getD (k * 5 + 4) 0 = n at c4 hg HS
      have hbw : b < wr.heap.size := by have := HB.out.size; omega
      rcases good_cases hg with ⟨rfl, ⟨d0, d1⟩, n0, n1⟩ | ⟨rfl, ⟨d0, d1⟩, x0, x1⟩ | ⟨rfl, x0, x1⟩ | ⟨⟨o3, o7⟩, ⟨d0, d1⟩, ⟨x0, x1⟩, y0, y1⟩
      · obtain ⟨dn, rfl⟩ := Int.eq_ofNat_of_zero_le d0
        obtain ⟨⟨m0, m1, m2⟩, q0, q1, q2⟩ := HC.out.at (k := dn) (by omega)
        simp only [Nat.zero_add] at m0 m1 m2 q0 q1 q2
        have HN : Hid (runR zs g (k + 1) = setR (runR zs g k) dn (wordR n)) := HS.out
        clear hg HS
        have dl : (dn : Int) < 8 := by omega
        go_wp2
        go_roundw
        case rel => exact ⟨k + 1, by omega, by go_num, by rw [HN.out]; exact cellsA (zero_off (HC.out.set (by omega) (wordR n))) (by simpa [World.setCell] using hob) _, (below_set3 HB.out hWo).alloc (by have := HB.out.size; simpa [World.setCell] using this) _, by simp [World.setCell]; omega⟩
        case measure => simp [intOf]; omega
      · obtain ⟨dn, rfl⟩ := Int.eq_ofNat_of_zero_le d0
        obtain ⟨xn, rfl⟩ := Int.eq_ofNat_of_zero_le x0
        obtain ⟨⟨m0, m1, m2⟩, q0, q1, q2⟩ := HC.out.at (k := dn) (by omega)
        obtain ⟨⟨r0, r1, r2⟩, _⟩ := HC.out.at (k := xn) (by omega)
        simp only [Nat.zero_add] at m0 m1 m2 q0 q1 q2 r0 r1 r2
        have HN : Hid (runR zs g (k + 1) = setR (runR zs g k) dn (runR zs g k xn)) := HS.out
        clear hg HS
        rcases hF : runR zs g k xn with ⟨ft, fk, fn⟩
        rw [hF] at r0 r1 r2 HN
        have dl : (dn : Int) < 8 := by omega
        have xl : (xn : Int) < 8 := by omega
        clear hF
        simp only at r0 r1 r2
        go_wp2
        go_region
        go_wp2
        go_roundw
        case rel => exact ⟨k + 1, by omega, by go_num, by rw [HN.out]; exact cellsD (cellsA (zero_off (HC.out.set (by omega) ⟨ft, fk, fn⟩)) (by simpa [World.setCell] using hob) _), ((below_set3 HB.out hWo).alloc (by have := HB.out.size; simpa [World.setCell] using this) _).drew, by simp [World.setCell]; omega⟩
        case measure => simp [intOf]; omega
      · have HN : Hid (runR zs g (k + 1) = runR zs g k) := HS.out
        clear hg HS
        go_wp2_with (go_at_call 78; refine (spec_two _ _).mono ?_; rintro e w' ⟨rfl, hw⟩; rw [hw]; clear hw w'; rw [show inR 8 3 7 = false from rfl])
        go_roundw
        case rel => exact ⟨k + 1, by omega, by go_num, by rw [HN.out]; exact cellsA HC.out hob _, HB.out.alloc HB.out.size _, by simp; omega⟩
        case measure => simp [intOf]; omega
      · obtain ⟨dn, rfl⟩ := Int.eq_ofNat_of_zero_le d0
        obtain ⟨xn, rfl⟩ := Int.eq_ofNat_of_zero_le x0
        obtain ⟨yn, rfl⟩ := Int.eq_ofNat_of_zero_le y0
        obtain ⟨⟨r0, r1, r2⟩, _⟩ := HC.out.at (k := xn) (by omega)
        obtain ⟨⟨t0, t1, t2⟩, _⟩ := HC.out.at (k := yn) (by omega)
        simp only [Nat.zero_add] at r0 r1 r2 t0 t1 t2
        have HN : Hid (runR zs g (k + 1) = setR (runR zs g k) dn (twoR o (runR zs g k xn) (runR zs g k yn))) := by
          rw [HS.out]; unfold stepR; rw [if_neg (by omega), if_neg (by omega), if_neg (by omega)]; rfl
        have hF := HCM.out xn (by omega)
        have hH := HCM.out yn (by omega)
        rcases eF : runR zs g k xn with ⟨ft, fk, fn⟩
        rcases eH : runR zs g k yn with ⟨ht, hk, hn⟩
        rw [eF] at r0 r1 r2 HN hF
        rw [eH] at t0 t1 t2 HN hH
        simp only at r0 r1 r2 t0 t1 t2
        clear eF eH hg HS
        have s1 : (o == 1) = false := by simp; omega
        have s2 : (o == 2) = false := by simp; omega
        have dl : (dn : Int) < 8 := by omega
        have xl : (xn : Int) < 8 := by omega
        have yl : (yn : Int) < 8 := by omega
        have hin : inR o 3 7 = true := inR_mk o3 o7
        go_wp2_with (go_at_call 78; refine (spec_two _ _).mono ?_; rintro e w' ⟨rfl, hw⟩; rw [hw]; clear hw w'; rw [hin])
        refine wp_region_noPanic ?_
        refine wp_region_held_drew (S := fun w' => w'.cell? ⟨wr.heap.size, 0, none⟩ = some (.int .i64 o) ∧ w'.cell? ⟨wr.heap.size, 1, none⟩ = some (.int .i64 (dn : Int)) ∧ w'.cell? ⟨wr.heap.size, 2, none⟩ = some (.int .i64 (xn : Int)) ∧ w'.cell? ⟨wr.heap.size, 3, none⟩ = some (.int .i64 (yn : Int))) (by kernel_rfl) ?_ (fun hHeld => ?_)
        · (try dsimp only); (refine ⟨?_, ?_, ?_, ?_⟩ <;> go_simp)
        refine wpAnyH_take (i := 0) (v := ?v1) rfl (by kernel_rfl) (by kernel_rfl) (by kernel_rfl) (fun _ _ _ h => h) (Or.inl ⟨by rfl, ?hy1⟩) (by assumption) ?_
        case hy1 => (intro w hSw; (try dsimp only at hSw); go_simp; try with_reducible rfl)
        try simp only [Act.put, List.setIfInBounds_toArray, List.set_cons_zero, List.set_cons_succ]
        refine wpAnyH_take (i := 1) (v := ?v2) rfl (by kernel_rfl) (by kernel_rfl) (by kernel_rfl) (fun _ _ _ h => h) (Or.inl ⟨by rfl, ?hy2⟩) (by assumption) ?_
        case hy2 => (intro w hSw; (try dsimp only at hSw); go_simp; try with_reducible rfl)
        try simp only [Act.put, List.setIfInBounds_toArray, List.set_cons_zero, List.set_cons_succ]
        refine wpAnyH_take (i := 2) (v := ?v3) rfl (by kernel_rfl) (by kernel_rfl) (by kernel_rfl) (fun _ _ _ h => h) (Or.inl ⟨by rfl, ?hy3⟩) (by assumption) ?_
        case hy3 => (intro w hSw; (try dsimp only at hSw); go_simp; try with_reducible rfl)
        try simp only [Act.put, List.setIfInBounds_toArray, List.set_cons_zero, List.set_cons_succ]
        refine wpAnyH_take (i := 3) (v := ?v4) rfl (by kernel_rfl) (by kernel_rfl) (by kernel_rfl) (fun _ _ _ h => h) (Or.inl ⟨by rfl, ?hy4⟩) (by assumption) ?_
        case hy4 => (intro w hSw; (try dsimp only at hSw); go_simp; try with_reducible rfl)
        try simp only [Act.put, List.setIfInBounds_toArray, List.set_cons_zero, List.set_cons_succ]
        refine wpAnyH_take (i := 4) (v := ?v5) rfl (by kernel_rfl) (by kernel_rfl) (by kernel_rfl) (fun _ _ _ h => h) (Or.inl ⟨by rfl, ?hy5⟩) (by assumption) ?_
        case hy5 => (intro w hSw; (try dsimp only at hSw); go_simp; try with_reducible rfl)
        try simp only [Act.put, List.setIfInBounds_toArray, List.set_cons_zero, List.set_cons_succ]
        refine wpAnyH_take (i := 5) (v := ?v6) rfl (by kernel_rfl) (by kernel_rfl) (by kernel_rfl) (fun _ _ _ h => h) (Or.inl ⟨by rfl, ?hy6⟩) (by assumption) ?_
        case hy6 => (intro w hSw; (try dsimp only at hSw); go_simp; try with_reducible rfl)
        try simp only [Act.put, List.setIfInBounds_toArray, List.set_cons_zero, List.set_cons_succ]
        refine wpAnyH_take (i := 6) (v := ?v7) rfl (by kernel_rfl) (by kernel_rfl) (by kernel_rfl) (fun _ _ _ h => h) (Or.inl ⟨by rfl, ?hy7⟩) (by assumption) ?_
        case hy7 => (intro w hSw; (try dsimp only at hSw); go_simp; try with_reducible rfl)
        try simp only [Act.put, List.setIfInBounds_toArray, List.set_cons_zero, List.set_cons_succ]
        refine wpAnyH_take (i := 7) (v := ?v8) rfl (by kernel_rfl) (by kernel_rfl) (by kernel_rfl) (fun _ _ _ h => h) (Or.inl ⟨by rfl, ?hy8⟩) (by assumption) ?_
        case hy8 => (intro w hSw; (try dsimp only at hSw); go_simp; try with_reducible rfl)
        try simp only [Act.put, List.setIfInBounds_toArray, List.set_cons_zero, List.set_cons_succ]
        refine wpAnyH_take (i := 8) (v := ?v9) rfl (by kernel_rfl) (by kernel_rfl) (by kernel_rfl) (fun _ _ _ h => h) (Or.inl ⟨by rfl, ?hy9⟩) (by assumption) ?_
        case hy9 => (intro w hSw; (try dsimp only at hSw); go_simp; try with_reducible rfl)
        try simp only [Act.put, List.setIfInBounds_toArray, List.set_cons_zero, List.set_cons_succ]
        refine wpAnyH_take (i := 10) (v := ?v10) rfl (by kernel_rfl) (by kernel_rfl) (by kernel_rfl) (fun _ _ _ h => h) (Or.inl ⟨by rfl, ?hy10⟩) (by assumption) ?_
        case hy10 => (intro w hSw; (try dsimp only at hSw); go_simp; try with_reducible rfl)
        try simp only [Act.put, List.setIfInBounds_toArray, List.set_cons_zero, List.set_cons_succ]
        refine wpAnyH_take (i := 11) (v := ?v11) rfl (by kernel_rfl) (by kernel_rfl) (by kernel_rfl) (fun _ _ _ h => h) (Or.inl ⟨by rfl, ?hy11⟩) (by assumption) ?_
        case hy11 => (intro w hSw; (try dsimp only at hSw); go_simp; try with_reducible rfl)
        try simp only [Act.put, List.setIfInBounds_toArray, List.set_cons_zero, List.set_cons_succ]
        refine wpAnyH_take (i := 12) (v := ?v12) rfl (by kernel_rfl) (by kernel_rfl) (by kernel_rfl) (fun _ _ _ h => h) (Or.inl ⟨by rfl, ?hy12⟩) (by assumption) ?_
        case hy12 => (intro w hSw; (try dsimp only at hSw); go_simp; try with_reducible rfl)
        try simp only [Act.put, List.setIfInBounds_toArray, List.set_cons_zero, List.set_cons_succ]
        refine wpAnyH_take (i := 13) (v := ?v13) rfl (by kernel_rfl) (by kernel_rfl) (by kernel_rfl) (fun _ _ _ h => h) (Or.inl ⟨by rfl, ?hy13⟩) (by assumption) ?_
        case hy13 => (intro w hSw; (try dsimp only at hSw); go_simp; try with_reducible rfl)
        try simp only [Act.put, List.setIfInBounds_toArray, List.set_cons_zero, List.set_cons_succ]
        refine wpAnyH_ready (rs := [9, 14]) (by kernel_rfl) (by simp) ?_
        refine AllReadyH.cons rfl (fun K hK => ?_) ?_
        · go_simp
          refine hK.out _ _ ?_ (fun hHeld => ?_)
          · (try dsimp only); (first | assumption | exact box4_call (by assumption) (by simp) B5 | exact box4_set (by assumption) (by omega))
          clear hK K
          try simp only [Act.put, List.setIfInBounds_toArray, List.set_cons_zero, List.set_cons_succ]
          refine wpAnyH_ready (rs := [14]) (by kernel_rfl) (by simp) ?_
          refine AllReadyH.cons rfl (fun K hK => ?_) AllReadyH.nil
          go_simp
          refine hK.out _ _ ?_ (fun hHeld => ?_)
          · (try dsimp only); (first | assumption | exact box4_call (by assumption) (by simp) B5 | exact box4_set (by assumption) (by omega))
          clear hK K
          try simp only [Act.put, List.setIfInBounds_toArray, List.set_cons_zero, List.set_cons_succ]
          refine wpAnyH_ready (rs := [15]) (by kernel_rfl) (by simp) ?_
          refine AllReadyH.cons rfl (fun K hK => ?_) AllReadyH.nil
          go_simp
          (go_at_call 45; refine (spec_two6 o ⟨ft, fk, fn⟩ ⟨ht, hk, hn⟩ _ o3 o7 hF hH).mono ?_; rintro e w5 ⟨rfl, B5⟩; have hs5 := B5.size; simp at hs5; have l5 : ob < w5.heap.size := (by omega); have BW5 : Hid (Below W.heap.size W w5) := bel3 HB.out (below_box _) B5; have C5 : Hid (CellsG w5 ob 0 8 (runR zs g k)) := cells5 HC.out hob B5; obtain ⟨⟨m0, m1, m2⟩, y0, y1, y2⟩ := C5.out.at (k := dn) (by omega); simp only [Nat.zero_add] at m0 m1 m2 y0 y1 y2; go_wp2_with fail)
          refine hK.out _ _ ?_ (fun hHeld => ?_)
          · (try dsimp only); (first | assumption | exact box4_call (by assumption) (by simp) B5 | exact box4_set (by assumption) (by omega))
          clear hK K
          try simp only [Act.put, List.setIfInBounds_toArray, List.set_cons_zero, List.set_cons_succ]
          refine wpAnyH_take (i := 16) (v := ?v14) rfl (by kernel_rfl) (by kernel_rfl) (by kernel_rfl) (fun _ _ _ h => h) (Or.inl ⟨by rfl, ?hy14⟩) (by assumption) ?_
          case hy14 => (intro w hSw; (try dsimp only at hSw); go_simp; try with_reducible rfl)
          try simp only [Act.put, List.setIfInBounds_toArray, List.set_cons_zero, List.set_cons_succ]
          refine wpAnyH_ready (rs := [17]) (by kernel_rfl) (by simp) ?_
          refine AllReadyH.cons rfl (fun K hK => ?_) AllReadyH.nil
          go_simp
          refine hK.out _ _ ?_ (fun hHeld => ?_)
          · (try dsimp only); (first | assumption | exact box4_call (by assumption) (by simp) B5 | exact box4_set (by assumption) (by omega))
          clear hK K
          try simp only [Act.put, List.setIfInBounds_toArray, List.set_cons_zero, List.set_cons_succ]
          refine wpAnyH_done (by kernel_rfl) ?_ _
          refine NoPanic.normal ?_
          (go_wp2; go_roundw; (case rel => exact ⟨k + 1, by omega, by go_num, by rw [HN.out]; exact zero_off (C5.out.set (by omega) _), below_set3 BW5.out hWo, by simpa [World.setCell] using l5⟩); (case measure => (simp [intOf]; omega)))
        refine AllReadyH.cons rfl (fun K hK => ?_) AllReadyH.nil
        go_simp
        refine hK.out _ _ ?_ (fun hHeld => ?_)
        · (try dsimp only); (first | assumption | exact box4_call (by assumption) (by simp) B5 | exact box4_set (by assumption) (by omega))
        clear hK K
        try simp only [Act.put, List.setIfInBounds_toArray, List.set_cons_zero, List.set_cons_succ]
        refine wpAnyH_ready (rs := [9]) (by kernel_rfl) (by simp) ?_
        refine AllReadyH.cons rfl (fun K hK => ?_) AllReadyH.nil
        go_simp
        refine hK.out _ _ ?_ (fun hHeld => ?_)
        · (try dsimp only); (first | assumption | exact box4_call (by assumption) (by simp) B5 | exact box4_set (by assumption) (by omega))
        clear hK K
        try simp only [Act.put, List.setIfInBounds_toArray, List.set_cons_zero, List.set_cons_succ]
        refine wpAnyH_ready (rs := [15]) (by kernel_rfl) (by simp) ?_
        refine AllReadyH.cons rfl (fun K hK => ?_) AllReadyH.nil
        go_simp
        (go_at_call 45; refine (spec_two6 o ⟨ft, fk, fn⟩ ⟨ht, hk, hn⟩ _ o3 o7 hF hH).mono ?_; rintro e w5 ⟨rfl, B5⟩; have hs5 := B5.size; simp at hs5; have l5 : ob < w5.heap.size := (by omega); have BW5 : Hid (Below W.heap.size W w5) := bel3 HB.out (below_box _) B5; have C5 : Hid (CellsG w5 ob 0 8 (runR zs g k)) := cells5 HC.out hob B5; obtain ⟨⟨m0, m1, m2⟩, y0, y1, y2⟩ := C5.out.at (k := dn) (by omega); simp only [Nat.zero_add] at m0 m1 m2 y0 y1 y2; go_wp2_with fail)
        refine hK.out _ _ ?_ (fun hHeld => ?_)
        · (try dsimp only); (first | assumption | exact box4_call (by assumption) (by simp) B5 | exact box4_set (by assumption) (by omega))
        clear hK K
        try simp only [Act.put, List.setIfInBounds_toArray, List.set_cons_zero, List.set_cons_succ]
        refine wpAnyH_take (i := 16) (v := ?v15) rfl (by kernel_rfl) (by kernel_rfl) (by kernel_rfl) (fun _ _ _ h => h) (Or.inl ⟨by rfl, ?hy15⟩) (by assumption) ?_
        case hy15 => (intro w hSw; (try dsimp only at hSw); go_simp; try with_reducible rfl)
        try simp only [Act.put, List.setIfInBounds_toArray, List.set_cons_zero, List.set_cons_succ]
        refine wpAnyH_ready (rs := [17]) (by kernel_rfl) (by simp) ?_
        refine AllReadyH.cons rfl (fun K hK => ?_) AllReadyH.nil
        go_simp
        refine hK.out _ _ ?_ (fun hHeld => ?_)
        · (try dsimp only); (first | assumption | exact box4_call (by assumption) (by simp) B5 | exact box4_set (by assumption) (by omega))
        clear hK K
        try simp only [Act.put, List.setIfInBounds_toArray, List.set_cons_zero, List.set_cons_succ]
        refine wpAnyH_done (by kernel_rfl) ?_ _
        refine NoPanic.normal ?_
        (go_wp2; go_roundw; (case rel => exact ⟨k + 1, by omega, by go_num, by rw [HN.out]; exact zero_off (C5.out.set (by omega) _), below_set3 BW5.out hWo, by simpa [World.setCell] using l5⟩); (case measure => (simp [intOf]; omega)))
    · have HE : Hid (k = len) := by show k = len; omega
      go_wp2
      go_ret
      exact ⟨ob, oc, rfl, hWo, hob, by rw [← HE.out]; exact HC.out, HB.out⟩
end Go.Proofs.Ytoeiijkomjlolab.walks
