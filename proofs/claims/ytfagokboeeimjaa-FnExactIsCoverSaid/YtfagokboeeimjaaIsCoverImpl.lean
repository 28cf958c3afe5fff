/-
  What the program's IsCover answers; it makes new memory alone.
-/
import Derived.Test.YtfagokboeeimjaaProg
import Derived.Test.YtfagokboeeimjaaIsCoverSpec
import Derived.Test.YtfagokboeeimjaaCoverImpl
namespace Go.Proofs.Ytfagokboeeimjaa.walks
open Go.RowKit Go.Proofs.Ytfagokboeeimjaa.math Go.Proofs.Ytfagokboeeimjaa.ints
set_option linter.unusedVariables false
set_option maxRecDepth 100000

set_option maxHeartbeats 4000000 in
theorem impl_iscover (ta : Option Addr) (tl tc : Nat) (t : List Int) (la : Option Addr) (n lc : Nat) (f : Nat → Pv) (pa : Option Addr) (pb po len pc : Nat) (z : List Int) (W : World) (hz : Hid (t.length = tl)) (hlen : tl ≤ 1048576) (hcap : tl ≤ tc) (hcm : tc ≤ maxLen) (hn : n ≤ 1048576) (hl : Hid (∀ k, k < n → (f k).zs.length ≤ 1048576)) (hpl : len ≤ 1048576) (hM : Hid (CovM W ta t la n f pb po len z)) (hpa : Hid (0 < len → pa = some ⟨pb, po, none⟩)) :
    Calls Try.prog 35 #[.slice ta tl tc, .slice la n lc, .slice pa len pc] W fun e W' => e = .returned (.tuple #[.int .i64 (isR t f n z len).cost, .bool (isR t f n z len).cov, .bool (isR t f n z len).good]) ∧ Below W.heap.size W W' := by
  obtain ⟨X, hX⟩ : ∃ X, Hid ((W.alloc (.cells #[.slice la n lc] 29)).alloc (.cells #[.slice pa len pc] 44) = X) := ⟨_, rfl⟩
  have HX : Hid (Below W.heap.size W X) := by show Below _ _ _; rw [← hX.out]; repeat (first | exact Below.refl _ _ | refine Below.drew ?_ | refine Below.setCell ?_ (by simp; try omega) _ | refine Below.alloc ?_ (by simp; try omega) _)
  have hXs : X.heap.size = W.heap.size + 1 + 1 := by rw [← hX.out]; simp
  have x0 : X.cell? ⟨W.heap.size, 0, none⟩ = some (.slice la n lc) := by rw [← hX.out]; go_simp
  have x1 : X.cell? ⟨W.heap.size + 1, 0, none⟩ = some (.slice pa len pc) := by rw [← hX.out]; go_simp
  have HMX : Hid (CovM X ta t la n f pb po len z) := hM.out.kept HX.out
  go_enter Try.func35, Try.ntmps35
  go_wp2_with fail
  rw [hX.out]
  refine (impl_tiling ta tl tc t la n lc f X hz hlen hcap hcm HMX.out.tree hn hl HMX.out.pats).mono ?_
  rintro e w1 ⟨xv, yv, zv, rfl, ⟨⟨a1, l1, c1, rfl⟩, ⟨a2, l2, c2, rfl⟩, a3, l3, c3, rfl⟩, hgt, hB1⟩
  have hs1 := hB1.size
  have HGT : Hid ((treeB t && patsB f n) = true → ∃ tb to g gv gc G, ta = some ⟨tb, to, none⟩ ∧ Value.slice a1 l1 c1 = .slice (some ⟨tb, to, none⟩) t.length tc ∧ Value.slice a2 l2 c2 = .slice (some ⟨g, 0, none⟩) t.length t.length ∧ Value.slice a3 l3 c3 = .slice gv n gc ∧ n ≤ gc ∧ gc ≤ maxLen ∧ TreeIn w1 t tb to tc g 0 t.length ∧ TilesM w1 gv n f G) := hgt
  have HB1 : Hid (Below W.heap.size W w1) := HX.out.trans (hB1.mono (by omega))
  have x0 := (hB1.cell (p := ⟨W.heap.size, 0, none⟩) (by show W.heap.size < _; omega)).trans x0
  have x1 := (hB1.cell (p := ⟨W.heap.size + 1, 0, none⟩) (by show W.heap.size + 1 < _; omega)).trans x1
  have hl1' : W.heap.size + 1 < w1.heap.size := by omega
  obtain ⟨bt, hbt⟩ : ∃ bt, Hid ((treeB t && patsB f n) = bt) := ⟨_, rfl⟩
  rw [hbt.out]
  clear hgt hB1 hX HMX
  cases bt
  · have HE : Hid (isR t f n z len = ⟨0, false, false⟩) := isR_bad hbt.out
    go_wp2
    go_ret3
    exact ⟨by rw [HE.out]; rfl, by first | exact HB1.out | exact HB1.out.alloc HB1.out.size _⟩
  obtain ⟨tb, to, g, gv, gc, G, e0, q1, q2, q3, hngc, hgcm, hTI, hTM⟩ := HGT.out hbt.out
  simp only [Value.slice.injEq] at q1 q2 q3
  obtain ⟨rfl, rfl, r1⟩ := q1
  obtain ⟨rfl, rfl, rfl⟩ := q2
  obtain ⟨r2, rfl, r3⟩ := q3
  subst r1 r2 r3
  have hpb : patsB f l3 = true := by have := hbt.out; simp at this; exact this.2
  obtain ⟨hn12, hgp⟩ := good_of hpb
  obtain ⟨W0, hW0⟩ : ∃ W0, Hid (w1.alloc (.cells #[.slice (some ⟨tb, to, none⟩) t.length c1, .slice (some ⟨g, 0, none⟩) t.length t.length, .slice a3 l3 c3] 82) = W0) := ⟨_, rfl⟩
  have HB0 : Hid (Below w1.heap.size w1 W0) := by show Below _ _ _; rw [← hW0.out]; repeat (first | exact Below.refl _ _ | refine Below.drew ?_ | refine Below.setCell ?_ (by simp; try omega) _ | refine Below.alloc ?_ (by simp; try omega) _)
  have hW0s : W0.heap.size = w1.heap.size + 1 := by rw [← hW0.out]; simp
  obtain ⟨V, hV⟩ : ∃ V, Hid (W0.alloc (.cells #[.int .i64 0] 3) = V) := ⟨_, rfl⟩
  have HBV : Hid (Below (w1.heap.size + 1) W0 V) := by show Below _ _ _; rw [← hV.out, ← hW0s]; repeat (first | exact Below.refl _ _ | refine Below.drew ?_ | refine Below.setCell ?_ (by simp; try omega) _ | refine Below.alloc ?_ (by simp; try omega) _)
  have hVs : V.heap.size = w1.heap.size + 1 + 1 := by rw [← hV.out]; simp; omega
  have v0 : V.cell? ⟨w1.heap.size + 1, 0, none⟩ = some (.int .i64 0) ∧ V.frozen? ⟨w1.heap.size + 1, 0, none⟩ = false := by rw [← hV.out, ← hW0s]; exact ⟨by simp, by simp⟩
  have HW0 : Hid (Below W.heap.size W W0) := HB1.out.trans (HB0.out.mono HB1.out.size)
  have HM0 : Hid (CovM W0 ta t la l3 f pb po len z) := hM.out.kept HW0.out
  have hpbt : 0 < len → pb < W.heap.size := hM.out.lt
  go_wp2_with fail
  rw [hW0.out, hV.out]
  refine (impl_cover t t.length tb to c1 g a3 l3 c3 f G z len pb po pc (w1.heap.size + 1) (W.heap.size + 1) W.heap.size lc pa la W0 V rfl (hTI.kept HB0.out) (hTM.kept HB0.out) hngc hgcm hgp hn12 hpl hW0s HBV (by omega) v0.1 v0.2 ((HB0.out.cell (p := ⟨W.heap.size + 1, 0, none⟩) (by show W.heap.size + 1 < _; omega)).trans x1) ((HB0.out.cell (p := ⟨W.heap.size, 0, none⟩) (by show W.heap.size < _; omega)).trans x0) (by omega) (by omega) (fun h0 => by have := hpbt h0; omega) hpa (fun q hq => HM0.out.cell q hq)).mono ?_
  rintro e w2 ⟨hq, hlt2, hB2⟩
  have HB2 : Hid (Below W.heap.size W w2) := HW0.out.trans (hB2.mono (by omega))
  have p2 : w2.cell? ⟨W.heap.size + 1, 0, none⟩ = some (.slice pa len pc) := (hB2.cell (p := ⟨W.heap.size + 1, 0, none⟩) (by show W.heap.size + 1 < _; omega)).trans ((HB0.out.cell (p := ⟨W.heap.size + 1, 0, none⟩) (by show W.heap.size + 1 < _; omega)).trans x1)
  clear hB2 v0 hW0 hV hgp hTI hTM
  rcases hq with ⟨hg, rfl⟩ | ⟨i, v, hg, rfl, ct⟩
  · have HE : Hid (isR t f l3 z len = ⟨0, false, true⟩) := isR_no hbt.out (by rw [hg]; simp)
    clear hg
    go_wp2
    go_ret3
    exact ⟨by rw [HE.out]; rfl, HB2.out⟩
  have hile := goC_le t f l3 z _ _ _ _ hg
  obtain ⟨cst, hcst⟩ : ∃ cst, Hid (costTo f z i = cst) := ⟨_, rfl⟩
  rw [hcst.out]
  by_cases hil : i < len
  · have HE : Hid (isR t f l3 z len = ⟨0, false, true⟩) := isR_no hbt.out (by rw [hg]; simp; omega)
    have hilI : (i : Int) < (len : Int) := by omega
    clear hg hile
    go_wp2
    go_ret3
    exact ⟨by rw [HE.out]; rfl, by first | exact HB2.out | exact HB2.out.drew⟩
  · obtain rfl : i = len := by omega
    have HE : Hid (isR t f l3 z i = ⟨cst, true, true⟩) := by show _ = _; rw [isR_yes hbt.out hg, hcst.out]
    clear hg hile
    go_wp2
    go_ret3
    exact ⟨by rw [HE.out]; rfl, by first | exact HB2.out | exact HB2.out.drew⟩
end Go.Proofs.Ytfagokboeeimjaa.walks
