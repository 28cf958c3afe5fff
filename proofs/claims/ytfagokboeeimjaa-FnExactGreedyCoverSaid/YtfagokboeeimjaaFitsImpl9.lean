/-
  What the program's FitsAt answers; it makes new memory alone.
-/
import Derived.Test.YtfagokboeeimjaaProg
import Derived.Test.YtfagokboeeimjaaFitsAt9
namespace Go.Proofs.Ytfagokboeeimjaa.walks
open Go.RowKit Go.Proofs.Ytfagokboeeimjaa.math Go.Proofs.Ytfagokboeeimjaa.ints
set_option linter.unusedVariables false
set_option maxRecDepth 100000

/-- What kindTreeOf left of a good tree. -/
theorem tree_in {W w : World} {a : Option Addr} {t : List Int} {cap g : Nat} (ht : treeB t = true) (h : Ints W a t) (hcap : t.length ≤ cap) (hcm : cap ≤ maxLen) (hb : Below W.heap.size W w) (hr : w.rowIs g 3 t.length (fun i => .int .i64 (szT false t i : Int))) : ∃ tb to, a = some ⟨tb, to, none⟩ ∧ TreeIn w t tb to cap g 0 t.length := by
  unfold treeB at ht
  simp at ht
  have hl := (whole_iff.1 ht.2).1
  rcases h with h | ⟨b, off, rfl, hlt, hc⟩
  · rw [h] at hl; simp at hl
  · refine ⟨b, off, rfl, ht.2, ht.1, hcap, hcm, Nat.le_refl _, by unfold maxLen; omega, Nat.lt_of_lt_of_le hlt hb.size, hr.lt, fun i hi => (hb.cell (p := ⟨b, off + i, none⟩) hlt).trans (hc i hi), fun i hi => ?_⟩
    rw [Nat.zero_add]
    exact hr.cell hi
theorem impl_has (x : Value) (a2 : Option Addr) (l2 c2 : Nat) (a : Option Addr) (len cap : Nat) (at0 : Int) (W : World) (hlen : len ≤ 1048576) : Calls Try.prog 46 #[.agg #[.slice a len cap, .slice a2 l2 c2], .int .i64 at0] W fun e W' => e = .returned (.bool (inR at0 0 ((len : Int) - 1))) ∧ Below W.heap.size W W' := by
  go_enter Try.func46, Try.ntmps46
  go_wp2_with (go_at_call 59; refine (impl_between _ _ _ _).mono ?_; rintro e w' ⟨rfl, hw⟩; rw [hw]; clear hw w')
  go_ret
  exact ⟨rfl, by repeat (first | exact Below.refl _ _ | refine Below.drew ?_ | refine Below.setCell ?_ (by simp; try omega) _ | refine Below.alloc ?_ (by simp; try omega) _)⟩
set_option maxHeartbeats 2000000 in
theorem impl_fitsat (ta : Option Addr) (tl tc : Nat) (at0 : Int) (t : List Int) (ca : Option Addr) (len cc : Nat) (c : Int) (p : List Int) (W : World) (hz : Hid (t.length = tl)) (hlen : tl ≤ 1048576) (hcap : tl ≤ tc) (hcm : tc ≤ maxLen) (hzp : Hid (p.length = len)) (hlp : len ≤ 1048576) (h : Hid (Ints W ta t)) (hp : Hid (Ints W ca p)) :
    Calls Try.prog 21 #[.slice ta tl tc, .int .i64 at0, .agg #[.slice ca len cc, .int .i64 c]] W fun e W' => FitsAns (fitsR t p c at0) W e W' := by
  obtain ⟨X, hX⟩ : ∃ X, Hid (W.alloc (.cells #[.slice ca len cc, .int .i64 c] 38) = X) := ⟨_, rfl⟩
  have HX : Hid (Below W.heap.size W X) := by show Below _ _ _; rw [← hX.out]; repeat (first | exact Below.refl _ _ | refine Below.drew ?_ | refine Below.setCell ?_ (by simp; try omega) _ | refine Below.alloc ?_ (by simp; try omega) _)
  have hXs : X.heap.size = W.heap.size + 1 := by rw [← hX.out]; simp
  have x0 : X.cell? ⟨W.heap.size, 0, none⟩ = some (.slice ca len cc) := by rw [← hX.out]; go_simp
  have x1 : X.cell? ⟨W.heap.size, 1, none⟩ = some (.int .i64 c) := by rw [← hX.out]; go_simp
  have HT : Hid (Ints X ta t) := h.out.kept HX.out
  have HP : Hid (Ints X ca p) := hp.out.kept HX.out
  go_enter Try.func21, Try.ntmps21
  go_wp2_with fail
  rw [hX.out]
  refine (impl_ktree _ _ _ t _ hz hlen HT (ints_ab HT.out hz.out)).mono ?_
  rintro e w1 ⟨xv, yv, rfl, ⟨⟨a1, l1, c1, rfl⟩, a2, l2, c2, rfl⟩, hgt, hB1⟩
  have hs1 := hB1.size
  have x0 := (hB1.cell (p := ⟨W.heap.size, 0, none⟩) (by show W.heap.size < _; omega)).trans x0
  have x1 := (hB1.cell (p := ⟨W.heap.size, 1, none⟩) (by show W.heap.size < _; omega)).trans x1
  have hl1 : W.heap.size < w1.heap.size := by omega
  have HGT : Hid (treeB t = true → Value.slice a1 l1 c1 = .slice ta t.length tc ∧ ∃ g, Value.slice a2 l2 c2 = .slice (some ⟨g, 0, none⟩) t.length t.length ∧ X.heap.size ≤ g ∧ w1.rowIs g 3 t.length (fun i => .int .i64 (szT false t i : Int))) := hgt
  have HB1 : Hid (Below W.heap.size W w1) := HX.out.trans (hB1.mono (by omega))
  have HP1 : Hid (Ints w1 ca p) := HP.out.kept hB1
  obtain ⟨bt, hbt⟩ : ∃ bt, Hid (treeB t = bt) := ⟨_, rfl⟩
  rw [hbt.out]
  clear hgt hB1 hX HP HT
  go_wp2_with fail
  obtain ⟨Y, hY⟩ : ∃ Y, Hid (w1.alloc (.cells #[.slice a1 l1 c1, .slice a2 l2 c2] 60) = Y) := ⟨_, rfl⟩
  have HYY : Hid (Below w1.heap.size w1 Y) := by show Below _ _ _; rw [← hY.out]; repeat (first | exact Below.refl _ _ | refine Below.drew ?_ | refine Below.setCell ?_ (by simp; try omega) _ | refine Below.alloc ?_ (by simp; try omega) _)
  have hYs : Y.heap.size = w1.heap.size + 1 := by rw [← hY.out]; simp
  have y0 : Y.cell? ⟨w1.heap.size, 0, none⟩ = some (.slice a1 l1 c1) := by rw [← hY.out]; go_simp
  have y1 : Y.cell? ⟨w1.heap.size, 1, none⟩ = some (.slice a2 l2 c2) := by rw [← hY.out]; go_simp
  have HPY : Hid (Ints Y ca p) := HP1.out.kept HYY.out
  rw [hY.out]
  refine (impl_tile _ _ _ _ p _ hzp hlp HPY (ints_ab HPY.out hzp.out)).mono ?_
  rintro e w2 ⟨x, y, z, rfl, hgood, hbad, hB2⟩
  have hs2 := hB2.size
  have HB12 : Hid (Below w1.heap.size w1 w2) := HYY.out.trans (hB2.mono (by omega))
  have HB2 : Hid (Below W.heap.size W w2) := HB1.out.trans (HB12.out.mono (by omega))
  have y0 := (hB2.cell (p := ⟨w1.heap.size, 0, none⟩) (by show w1.heap.size < _; omega)).trans y0
  have y1 := (hB2.cell (p := ⟨w1.heap.size, 1, none⟩) (by show w1.heap.size < _; omega)).trans y1
  have hl2 : w1.heap.size < w2.heap.size := by omega
  cases hpb : patB p c
  · have HE : Hid (fitsR t p c at0 = ⟨false, [], false⟩) := fits_bad (by unfold FitsGood; rw [hpb]; simp)
    obtain ⟨rfl, rfl, rfl⟩ := hbad hpb
    clear hgood hbad hB2 hY
    cases bt
    · go_wp2
      go_ret3
      exact ⟨none, 0, by rw [HE.out]; rfl, by rw [HE.out]; simp, by rw [HE.out]; exact mine_nil9 _ _ _, by first | exact HB2.out | exact HB2.out.alloc HB2.out.size _⟩
    · go_wp2
      go_ret3
      exact ⟨none, 0, by rw [HE.out]; rfl, by rw [HE.out]; simp, by rw [HE.out]; exact mine_nil9 _ _ _, by first | exact HB2.out | exact HB2.out.alloc HB2.out.size _⟩
  obtain ⟨ey, ez, g, rfl, hgY, hrow⟩ := hgood hpb
  have ey := ey.symm
  subst ey ez
  cases bt
  · have HE : Hid (fitsR t p c at0 = ⟨false, [], false⟩) := fits_bad (by unfold FitsGood; rw [hbt.out]; simp)
    clear hgood hbad hB2 hY hrow
    go_wp2
    go_ret3
    exact ⟨none, 0, by rw [HE.out]; rfl, by rw [HE.out]; simp, by rw [HE.out]; exact mine_nil9 _ _ _, by first | exact HB2.out | exact HB2.out.alloc HB2.out.size _⟩
  obtain ⟨ht1, g2, ht2, hg2, hr2⟩ := HGT.out hbt.out
  simp only [Value.slice.injEq] at ht1 ht2
  obtain ⟨q1, q2, q3⟩ := ht1
  have q1 := q1.symm
  have q3 := q3.symm
  subst q1 q2 q3
  obtain ⟨rfl, rfl, rfl⟩ := ht2
  obtain ⟨tb, to, rfl, hTI⟩ := tree_in hbt.out (h.out.kept (Below.refl _ _)) (by rw [hz.out]; exact hcap) hcm HB1.out hr2
  have hbox := hrow.cell (i := 0) (by omega)
  have hglt := hrow.lt
  rw [hzp.out] at hbox
  have HPO := pat_out hpb
  have hp10 : len ≤ 10 := by have := HPO.1; have := hzp.out; omega
  have HPW : Hid (wholeB true p = true) := HPO.2.2.1
  obtain ⟨nm, hnm⟩ : ∃ nm : Int, Hid ((namedTo p p.length : Int) = nm) := ⟨_, rfl⟩
  obtain ⟨Z, hZ⟩ : ∃ Z, Hid (w2.alloc (.cells #[.func (.func 72) #[] #[.pointer (some ⟨g, 0, none⟩)], .int .i64 c, .int .i64 nm] 72) = Z) := ⟨_, rfl⟩
  have HZZ : Hid (Below w2.heap.size w2 Z) := by show Below _ _ _; rw [← hZ.out]; repeat (first | exact Below.refl _ _ | refine Below.drew ?_ | refine Below.setCell ?_ (by simp; try omega) _ | refine Below.alloc ?_ (by simp; try omega) _)
  have hZs : Z.heap.size = w2.heap.size + 1 := by rw [← hZ.out]; simp
  have HTZ : Hid (TreeIn Z t tb to tc g2 0 t.length) := (hTI.kept HB12.out).kept HZZ.out
  have HPZ : Hid (Ints Z ca p) := (HP1.out.kept HB12.out).kept HZZ.out
  have HBZ : Hid (Z.cell? ⟨g, 0, none⟩ = some (.slice ca len cc)) := (HZZ.out.cell (p := ⟨g, 0, none⟩) hglt).trans hbox
  have HZW : Hid (Below W.heap.size W Z) := HB2.out.trans (HZZ.out.mono (by have := HB2.out.size; omega))
  clear hgood hbad hB2 hY hrow hr2 hTI hbox HPO HGT
  rw [hnm.out]
  obtain ⟨pl, hpl⟩ : ∃ pl, Hid (placeB t at0 = pl) := ⟨_, rfl⟩
  have HTL : Hid (t.length = tl) := hz
  have ht40 : t.length ≤ 40 := HTZ.out.le
  go_wp2_with fail
  rw [hZ.out]
  refine (impl_has (.bool true) _ _ _ _ _ _ _ _ (by omega)).mono ?_
  rw [show inR at0 0 ((t.length : Int) - 1) = pl from hpl.out]
  rintro e w3 ⟨rfl, hB3⟩
  have hs3 := hB3.size
  have z0 : Z.cell? ⟨w2.heap.size, 0, none⟩ = some (.func (.func 72) #[] #[.pointer (some ⟨g, 0, none⟩)]) := by rw [← hZ.out]; go_simp
  have z1 : Z.cell? ⟨w2.heap.size, 1, none⟩ = some (.int .i64 c) := by rw [← hZ.out]; go_simp
  have z2 : Z.cell? ⟨w2.heap.size, 2, none⟩ = some (.int .i64 nm) := by rw [← hZ.out]; go_simp
  have z0 := (hB3.cell (p := ⟨w2.heap.size, 0, none⟩) (by show w2.heap.size < _; omega)).trans z0
  have z1 := (hB3.cell (p := ⟨w2.heap.size, 1, none⟩) (by show w2.heap.size < _; omega)).trans z1
  have z2 := (hB3.cell (p := ⟨w2.heap.size, 2, none⟩) (by show w2.heap.size < _; omega)).trans z2
  have y0 := (hB3.cell (p := ⟨w1.heap.size, 0, none⟩) (by show w1.heap.size < _; omega)).trans ((HZZ.out.cell (p := ⟨w1.heap.size, 0, none⟩) (by show w1.heap.size < _; omega)).trans y0)
  have y1 := (hB3.cell (p := ⟨w1.heap.size, 1, none⟩) (by show w1.heap.size < _; omega)).trans ((HZZ.out.cell (p := ⟨w1.heap.size, 1, none⟩) (by show w1.heap.size < _; omega)).trans y1)
  have hl3 : w2.heap.size < w3.heap.size := by omega
  have hl3' : w1.heap.size < w3.heap.size := by omega
  have HT3 : Hid (TreeIn w3 t tb to tc g2 0 t.length) := HTZ.out.kept hB3
  have HP3 : Hid (Ints w3 ca p) := HPZ.out.kept hB3
  have HX3 : Hid (w3.cell? ⟨g, 0, none⟩ = some (.slice ca len cc)) := (hB3.cell (p := ⟨g, 0, none⟩) (by show g < _; omega)).trans HBZ.out
  have HB3 : Hid (Below W.heap.size W w3) := HZW.out.trans (hB3.mono HZW.out.size)
  have hg3 : g < w3.heap.size := by omega
  clear hB3 hZ
  cases pl
  · have HE : Hid (fitsR t p c at0 = ⟨false, [], false⟩) := fits_bad (by unfold FitsGood; rw [hpl.out]; simp)
    go_wp2
    go_ret3
    exact ⟨none, 0, by rw [HE.out]; rfl, by rw [HE.out]; simp, by rw [HE.out]; exact mine_nil9 _ _ _, HB3.out⟩
  obtain ⟨an, rfl, han⟩ : ∃ an : Nat, at0 = (an : Int) ∧ an < t.length := by
    have := inR_out hpl.out
    exact ⟨at0.toNat, by omega, by omega⟩
  have HFG : Hid (FitsGood t p c (an : Int) = true) := by show _ = _; unfold FitsGood; rw [hbt.out, hpl.out, hpb]; rfl
  go_wp2_with fail
  refine (impl_holes t p tb to tc g2 0 t.length an t.length g c nm ca len cc _ HT3 rfl han hg3 HX3.out HP3 hzp hp10 HPW).mono ?_
  rintro e w4 ⟨hq, hB4⟩
  have HB4 : Hid (Below W.heap.size W w4) := HB3.out.trans (hB4.mono HB3.out.size)
  obtain ⟨ok, hs, a, cp, rfl, hm, HE⟩ : ∃ ok hs a cp, e = .returned (.tuple #[.slice a hs.length cp, .bool ok]) ∧ Mine w4 W.heap.size a (asI hs) ∧ Hid (fitsR t p c (an : Int) = ⟨ok, hs, true⟩ ∧ hs.length ≤ 10) := by
    rcases hq with ⟨h1, rfl⟩ | ⟨hs, a, cp, h1, hl10, rfl, hm⟩
    · exact ⟨false, [], none, 0, rfl, mine_nil9 _ _ _, fits_no HFG.out h1, by simp⟩
    · exact ⟨true, hs, a, cp, rfl, mine_down hm (by have := HB3.out.size; omega), fits_yes HFG.out h1, hl10⟩
  have HM : Hid (Mine w4 W.heap.size a (asI hs)) := hm
  clear hq hB4 hm
  go_wp2
  go_ret3
  exact ⟨a, cp, by rw [HE.out.1]; rfl, by rw [HE.out.1]; exact HE.out.2, by rw [HE.out.1]; exact HM.out, HB4.out⟩
end Go.Proofs.Ytfagokboeeimjaa.walks
