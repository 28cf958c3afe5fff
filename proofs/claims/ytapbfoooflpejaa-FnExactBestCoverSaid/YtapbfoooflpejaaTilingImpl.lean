/-
  What the program's tilingOf answers; it makes new memory alone.
-/
import Derived.Test.YtapbfoooflpejaaProg
import Derived.Test.YtapbfoooflpejaaMagMath
import Derived.Test.YtapbfoooflpejaaTreeMath
import Derived.Test.YtapbfoooflpejaaCoverMath
import Derived.Test.YtapbfoooflpejaaTreeSpec
import Derived.Test.YtapbfoooflpejaaTreeImpl
import Derived.Test.YtapbfoooflpejaaPatSpec
import Derived.Test.YtapbfoooflpejaaTilesImpl
import Derived.Test.YtapbfoooflpejaaFitsImpl9
import Derived.Test.YtapbfoooflpejaaInts
import Derived.Test.YtapbfoooflpejaaPats
import Derived.WalkKit
import Derived.WalkSpells
import Derived.Below
import Derived.Handy
import Derived.Deep.RegionHeld3
namespace Go.Proofs.Ytapbfoooflpejaa.walks
open Go.RowKit Go.Proofs.Ytapbfoooflpejaa.math Go.Proofs.Ytapbfoooflpejaa.ints
set_option linter.unusedVariables false
set_option maxRecDepth 100000

/-- Tiles in memory. -/
structure TilesM (w : World) (gv : Option Addr) (n : Nat) (f : Nat → Pv) (G : Nat → Nat) : Prop where
  row : 0 < n → ∃ b, gv = some ⟨b, 0, none⟩ ∧ b < w.heap.size ∧ ∀ k, k < n → w.cell? ⟨b, k * 3, none⟩ = some (.func (.func 54) #[] #[.pointer (some ⟨G k, 0, none⟩)]) ∧ w.cell? ⟨b, k * 3 + 1, none⟩ = some (.int .i64 (f k).c) ∧ w.cell? ⟨b, k * 3 + 2, none⟩ = some (.int .i64 (namedTo (f k).zs (f k).zs.length : Int))
  box : ∀ k, k < n → G k < w.heap.size ∧ ∃ a c, w.cell? ⟨G k, 0, none⟩ = some (.slice a (f k).zs.length c) ∧ Ints w a (f k).zs
theorem TilesM.kept {w w' : World} {gv : Option Addr} {n : Nat} {f : Nat → Pv} {G : Nat → Nat} (h : TilesM w gv n f G) (hb : Below w.heap.size w w') : TilesM w' gv n f G := by
  refine ⟨fun h0 => ?_, fun k hk => ?_⟩
  · obtain ⟨b, e, hl, hc⟩ := h.row h0
    refine ⟨b, e, Nat.lt_of_lt_of_le hl hb.size, fun k hk => ?_⟩
    obtain ⟨c1, c2, c3⟩ := hc k hk
    exact ⟨(hb.cell (p := ⟨b, k * 3, none⟩) hl).trans c1, (hb.cell (p := ⟨b, k * 3 + 1, none⟩) hl).trans c2, (hb.cell (p := ⟨b, k * 3 + 2, none⟩) hl).trans c3⟩
  · obtain ⟨hl, a, c, h1, h2⟩ := h.box k hk
    exact ⟨Nat.lt_of_lt_of_le hl hb.size, a, c, (hb.cell (p := ⟨G k, 0, none⟩) hl).trans h1, h2.kept hb⟩
theorem tiles_of {W w : World} {v : Value} {n : Nat} {f : Nat → Pv} {G : Nat → Nat} (ho : OwnT w W.heap.size v n f G) (hk : ∀ j, j < n → BoxK W w (G j) (f j)) (hb : Below W.heap.size W w) : ∃ gv gc, v = .slice gv n gc ∧ n ≤ gc ∧ gc ≤ maxLen ∧ TilesM w gv n f G := by
  have h0 : World.ownsRow w W.heap.size 86 3 v n (tileL f G n) := ho
  have hbox : ∀ k, k < n → G k < w.heap.size ∧ ∃ a c, w.cell? ⟨G k, 0, none⟩ = some (.slice a (f k).zs.length c) ∧ Ints w a (f k).zs := fun k hk' => by
    obtain ⟨a, c, r, i⟩ := hk k hk'
    exact ⟨r.lt, a, c, r.cell (i := 0) (by omega), i.kept hb⟩
  rcases h0.2 with ⟨rfl, rfl⟩ | ⟨g, cap, cur, rfl, hg, hw, hmc, hcm, _, hcur⟩
  · exact ⟨none, 0, rfl, Nat.le_refl _, by unfold maxLen; omega, fun h0 => by omega, hbox⟩
  · refine ⟨some ⟨g, 0, none⟩, cap, rfl, hmc, hcm, fun hn0 => ⟨g, rfl, (World.ownsRow.lt h0 g rfl).2, fun k hk' => ?_⟩, hbox⟩
    obtain ⟨e1, e2, e3⟩ := tileL_at f G n k hk'
    have hl := tileL_len f G n
    have q : ∀ i, i < n * 3 → w.cell? ⟨g, i, none⟩ = (tileL f G n)[i]? := fun i hi => World.ownsRow.cellAt h0 i (by omega)
    exact ⟨by rw [q _ (by omega)]; exact e1, by rw [q _ (by omega)]; exact e2, by rw [q _ (by omega)]; exact e3⟩
theorem row_cell {w : World} {c n i : Nat} {t : TypeId} {F : Nat → Value} {v : Value} (h : w.rowIs c t n F) (hc : w.cell? ⟨c, i, none⟩ = some v) : v = F i := by
  obtain ⟨cs, h1, h2, h3⟩ := h
  have e : w.cell? ⟨c, i, none⟩ = cs[i]? := cell_of_row w c i cs t (0, 0) h1
  rw [e] at hc
  have hi : i < n := by
    rw [← h2]
    exact (Array.getElem?_eq_some_iff.1 hc).1
  rw [h3 i hi] at hc
  exact (Option.some.inj hc).symm
/-- Tiles stay where another block of slices is written. -/
theorem TilesM.set {w : World} {gv : Option Addr} {n : Nat} {f : Nat → Pv} {G : Nat → Nat} {c i : Nat} {F : Nat → Value} {m : Nat} {ty : TypeId} {v : Value} (h : TilesM w gv n f G) (hr : w.rowIs c ty m F) (hF : ∀ i, ∃ a l k, F i = .slice a l k) (hG : ∀ k, k < n → G k ≠ c) : TilesM (w.setCell ⟨c, i, none⟩ v) gv n f G := by
  have hne : ∀ b q u, b ≠ c → w.cell? ⟨b, q, none⟩ = some u → (w.setCell ⟨c, i, none⟩ v).cell? ⟨b, q, none⟩ = some u := fun b q u hb hc => by rw [World.cell?_setCell_other _ _ _ _ (by simp; try omega)]; exact hc
  have hsz : (w.setCell ⟨c, i, none⟩ v).heap.size = w.heap.size := by simp [World.setCell]
  refine ⟨fun h0 => ?_, fun k hk => ?_⟩
  · obtain ⟨b, e, hl, hc⟩ := h.row h0
    have hbc : b ≠ c := fun q => by
      subst q
      have := row_cell hr (hc 0 h0).2.1
      obtain ⟨a, l, k, e⟩ := hF (0 * 3 + 1)
      rw [e] at this
      cases this
    exact ⟨b, e, by rw [hsz]; exact hl, fun k hk => ⟨hne _ _ _ hbc (hc k hk).1, hne _ _ _ hbc (hc k hk).2.1, hne _ _ _ hbc (hc k hk).2.2⟩⟩
  · obtain ⟨hl, a, cc, h1, h2⟩ := h.box k hk
    refine ⟨by rw [hsz]; exact hl, a, cc, hne _ _ _ (hG k hk) h1, ?_⟩
    rcases h2 with h2 | ⟨b, off, e, hlt, hc⟩
    · exact Or.inl h2
    · by_cases hz : (f k).zs = []
      · exact Or.inl hz
      · have h0 : 0 < (f k).zs.length := List.length_pos_iff.2 hz
        have hbc : b ≠ c := fun q => by
          subst q
          have := row_cell hr (hc 0 h0)
          obtain ⟨a, l, k, e⟩ := hF (off + 0)
          rw [e] at this
          cases this
        exact Or.inr ⟨b, off, e, by rw [hsz]; exact hlt, fun j hj => hne _ _ _ hbc (hc j hj)⟩
theorem TreeIn.set {w : World} {t : List Int} {tb to tc sb so sc c i : Nat} {v : Value} (h : TreeIn w t tb to tc sb so sc) (h1 : tb ≠ c) (h2 : sb ≠ c) : TreeIn (w.setCell ⟨c, i, none⟩ v) t tb to tc sb so sc :=
  ⟨h.whole, h.le, h.cap, h.capm, h.scap, h.scapm, by simpa [World.setCell] using h.tlt, by simpa [World.setCell] using h.slt, fun j hj => by rw [World.cell?_setCell_other _ _ _ _ (by simp; try omega)]; exact h.kind j hj, fun j hj => by rw [World.cell?_setCell_other _ _ _ _ (by simp; try omega)]; exact h.size j hj⟩
/-- What a call of tilingOf answers. -/
def TilAns (ta : Option Addr) (tc : Nat) (t : List Int) (f : Nat → Pv) (n : Nat) (W : World) (e : Ending) (W' : World) : Prop := ∃ x y z, e = .returned (.tuple #[.agg #[x, y, z], .bool (treeB t && patsB f n)]) ∧ ((∃ a l c, x = .slice a l c) ∧ (∃ a l c, y = .slice a l c) ∧ ∃ a l c, z = .slice a l c) ∧ ((treeB t && patsB f n) = true → ∃ tb to g gv gc G, ta = some ⟨tb, to, none⟩ ∧ x = .slice (some ⟨tb, to, none⟩) t.length tc ∧ y = .slice (some ⟨g, 0, none⟩) t.length t.length ∧ z = .slice gv n gc ∧ n ≤ gc ∧ gc ≤ maxLen ∧ TreeIn W' t tb to tc g 0 t.length ∧ TilesM W' gv n f G) ∧ Below W.heap.size W W'
set_option maxHeartbeats 2000000 in
theorem impl_tiling (ta : Option Addr) (tl tc : Nat) (t : List Int) (la : Option Addr) (n lc : Nat) (f : Nat → Pv) (W : World) (hz : Hid (t.length = tl)) (hlen : tl ≤ 1048576) (hcap : tl ≤ tc) (hcm : tc ≤ maxLen) (h : Hid (Ints W ta t)) (hn : n ≤ 1048576) (hl : Hid (∀ k, k < n → (f k).zs.length ≤ 1048576)) (hp : Hid (Pats W la n f)) :
    Calls Try.prog 25 #[.slice ta tl tc, .slice la n lc] W fun e W' => TilAns ta tc t f n W e W' := by
  go_enter Try.func25, Try.ntmps25
  go_wp2_with fail
  obtain ⟨X, hX⟩ : ∃ X, Hid (W.alloc (.cells #[.slice none 0 0, .slice none 0 0, .slice none 0 0] 56) = X) := ⟨_, rfl⟩
  have HX : Hid (Below W.heap.size W X) := by show Below _ _ _; rw [← hX.out]; repeat (first | exact Below.refl _ _ | refine Below.drew ?_ | refine Below.setCell ?_ (by simp; try omega) _ | refine Below.alloc ?_ (by simp; try omega) _)
  have hXs : X.heap.size = W.heap.size + 1 := by rw [← hX.out]; simp
  have R0 : Hid (X.rowIs W.heap.size 56 3 (fun _ => .slice none 0 0)) := by
    show World.rowIs _ _ _ _ _
    rw [← hX.out]
    exact World.rowIs_alloc W #[.slice none 0 0, .slice none 0 0, .slice none 0 0] 56 (fun _ => .slice none 0 0) (fun i hi => by
      simp at hi
      rcases (show i = 0 ∨ i = 1 ∨ i = 2 by omega) with rfl | rfl | rfl <;> rfl)
  have HT : Hid (Ints X ta t) := h.out.kept HX.out
  rw [hX.out]
  refine (impl_ktree _ _ _ t _ hz hlen HT (ints_ab HT.out hz.out)).mono ?_
  rintro e w1 ⟨xv, yv, rfl, ⟨⟨a1, l1, c1, rfl⟩, a2, l2, c2, rfl⟩, hgt, hB1⟩
  have hs1 := hB1.size
  have HGT : Hid (treeB t = true → Value.slice a1 l1 c1 = .slice ta t.length tc ∧ ∃ g, Value.slice a2 l2 c2 = .slice (some ⟨g, 0, none⟩) t.length t.length ∧ X.heap.size ≤ g ∧ w1.rowIs g 3 t.length (fun i => .int .i64 (szT false t i : Int))) := hgt
  have HB1 : Hid (Below W.heap.size W w1) := HX.out.trans (hB1.mono (by omega))
  have R1 : Hid (w1.rowIs W.heap.size 56 3 (fun _ => .slice none 0 0)) := R0.out.of_block (hB1.block _ (by omega))
  obtain ⟨bt, hbt⟩ : ∃ bt, Hid (treeB t = bt) := ⟨_, rfl⟩
  rw [hbt.out]
  clear hgt hB1 hX HT R0
  go_wp2_with fail
  obtain ⟨Y, hY⟩ : ∃ Y, Hid (w1.alloc (.cells #[.slice a1 l1 c1, .slice a2 l2 c2] 53) = Y) := ⟨_, rfl⟩
  have HYY : Hid (Below w1.heap.size w1 Y) := by show Below _ _ _; rw [← hY.out]; repeat (first | exact Below.refl _ _ | refine Below.drew ?_ | refine Below.setCell ?_ (by simp; try omega) _ | refine Below.alloc ?_ (by simp; try omega) _)
  have hYs : Y.heap.size = w1.heap.size + 1 := by rw [← hY.out]; simp
  have y0 : Y.cell? ⟨w1.heap.size, 0, none⟩ = some (.slice a1 l1 c1) := by rw [← hY.out]; go_simp
  have y1 : Y.cell? ⟨w1.heap.size, 1, none⟩ = some (.slice a2 l2 c2) := by rw [← hY.out]; go_simp
  have HBY : Hid (Below W.heap.size W Y) := HB1.out.trans (HYY.out.mono HB1.out.size)
  rw [hY.out]
  refine (impl_tiles _ _ _ f _ hn hl (hp.out.kept HBY.out)).mono ?_
  rintro e w2 ⟨hq, hB2⟩
  have hs2 := hB2.size
  have HB12 : Hid (Below w1.heap.size w1 w2) := HYY.out.trans (hB2.mono (by omega))
  have HB2 : Hid (Below W.heap.size W w2) := HB1.out.trans (HB12.out.mono HB1.out.size)
  have y0 := (hB2.cell (p := ⟨w1.heap.size, 0, none⟩) (by show w1.heap.size < _; omega)).trans y0
  have y1 := (hB2.cell (p := ⟨w1.heap.size, 1, none⟩) (by show w1.heap.size < _; omega)).trans y1
  have hl2 : w1.heap.size < w2.heap.size := by omega
  have hlW : W.heap.size < w1.heap.size := by omega
  have R2 : Hid (w2.rowIs W.heap.size 56 3 (fun _ => .slice none 0 0)) := R1.out.of_block (HB12.out.block _ hlW)
  obtain ⟨gv, gl, gc, bp, rfl, HTM⟩ : ∃ gv gl gc bp, e = .returned (.tuple #[.slice gv gl gc, .bool bp]) ∧ Hid (patsB f n = bp ∧ (bp = true → gl = n ∧ n ≤ gc ∧ gc ≤ maxLen ∧ ∃ G, TilesM w2 gv n f G ∧ ∀ k, k < n → G k ≠ W.heap.size)) := by
    rcases hq with ⟨h1, rfl⟩ | ⟨h1, v, G, rfl, ho, hk⟩
    · exact ⟨none, 0, 0, false, rfl, h1, fun q => by cases q⟩
    · obtain ⟨gv, gc, rfl, h2, h3, h4⟩ := tiles_of ho hk hB2
      refine ⟨gv, n, gc, true, rfl, h1, fun _ => ⟨rfl, h2, h3, G, h4, fun k hk' q => ?_⟩⟩
      obtain ⟨a, c, r, _⟩ := hk k hk'
      rw [q] at r
      obtain ⟨c1, e1, _⟩ := r
      obtain ⟨c2, e2, _⟩ := R2.out
      rw [e1] at e2
      simp at e2
  have r0 := R2.out.cell (i := 0) (by omega)
  have r1 := R2.out.cell (i := 1) (by omega)
  have r2 := R2.out.cell (i := 2) (by omega)
  have z0 := R2.out.frozen 0
  have z1 := R2.out.frozen 1
  have z2 := R2.out.frozen 2
  have hlW2 : W.heap.size < w2.heap.size := by omega
  clear hq hB2 hY R1
  have fin : ∀ b : Bool, (treeB t && patsB f n) = b → TilAns ta tc t f n W (.returned (.tuple #[.agg #[.slice a1 l1 c1, .slice a2 l2 c2, .slice gv gl gc], .bool b])) (((w2.setCell ⟨W.heap.size, 0, none⟩ (.slice a1 l1 c1)).setCell ⟨W.heap.size, 1, none⟩ (.slice a2 l2 c2)).setCell ⟨W.heap.size, 2, none⟩ (.slice gv gl gc)) := by
    intro b hb
    refine ⟨_, _, _, by rw [hb], ⟨⟨_, _, _, rfl⟩, ⟨_, _, _, rfl⟩, _, _, _, rfl⟩, fun q => ?_, ((HB2.out.setCell (Nat.le_refl _) _).setCell (Nat.le_refl _) _).setCell (Nat.le_refl _) _⟩
    simp only [Bool.and_eq_true] at q
    obtain ⟨ht1, g, ht2, hgX, hr⟩ := HGT.out q.1
    have hbp : bp = true := by rw [← HTM.out.1]; exact q.2
    obtain ⟨e1, e2, e3, G, e4, e5⟩ := HTM.out.2 hbp
    obtain ⟨tb, to, e6, e7⟩ := tree_in q.1 (h.out.kept (Below.refl _ _)) (by rw [hz.out]; exact hcap) hcm HB2.out (hr.of_block (HB12.out.block _ hr.lt))
    have htb : tb < W.heap.size := by
      rcases h.out with h | ⟨b', o', e', hl', _⟩
      · have hl := (whole_iff.1 e7.whole).1
        rw [h] at hl
        simp at hl
      · rw [e6] at e'
        simp only [Option.some.injEq, Addr.mk.injEq] at e'
        omega
    have hF : ∀ (i : Nat), ∃ a l k, (fun _ => Value.slice none 0 0 : Nat → Value) i = .slice a l k := fun i => ⟨_, _, _, rfl⟩
    have s1 := R2.out.set 0 (.slice a1 l1 c1)
    have s2 := s1.set 1 (.slice a2 l2 c2)
    have hF1 : ∀ i : Nat, ∃ a l k, (fun j => if j = 0 then Value.slice a1 l1 c1 else .slice none 0 0) i = .slice a l k := fun i => by
      by_cases q : i = 0
      · exact ⟨_, _, _, if_pos q⟩
      · exact ⟨_, _, _, if_neg q⟩
    have hF2 : ∀ i : Nat, ∃ a l k, (fun j => if j = 1 then Value.slice a2 l2 c2 else if j = 0 then Value.slice a1 l1 c1 else .slice none 0 0) i = .slice a l k := fun i => by
      by_cases q : i = 1
      · exact ⟨_, _, _, if_pos q⟩
      · obtain ⟨a, l, k, e⟩ := hF1 i
        exact ⟨a, l, k, (if_neg q).trans e⟩
    refine ⟨tb, to, g, gv, gc, G, e6, by rw [← e6]; exact ht1, ht2, by rw [e1], e2, e3, ((e7.set (by omega) (by omega)).set (by omega) (by omega)).set (by omega) (by omega), ((e4.set R2.out hF e5).set s1 hF1 e5).set s2 hF2 e5⟩
  cases bt
  · go_wp2
    exact bodyPost_ret (v := .tuple #[.agg #[.slice a1 l1 c1, .slice a2 l2 c2, .slice gv gl gc], .bool false]) (by simp only [results, Try.results25]; go_simp) rfl (fin false (by rw [hbt.out]; rfl))
  · go_wp2
    exact bodyPost_ret (v := .tuple #[.agg #[.slice a1 l1 c1, .slice a2 l2 c2, .slice gv gl gc], .bool bp]) (by simp only [results, Try.results25]; go_simp) rfl (fin bp (by rw [hbt.out, HTM.out.1]; rfl))
end Go.Proofs.Ytapbfoooflpejaa.walks
