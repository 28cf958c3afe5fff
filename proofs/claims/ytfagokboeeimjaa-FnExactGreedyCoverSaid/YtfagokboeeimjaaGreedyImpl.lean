/-
  What the program's GreedyCover answers; it makes new memory alone.
-/
import Derived.Test.YtfagokboeeimjaaProg
import Derived.Test.YtfagokboeeimjaaIsCoverSpec
import Derived.Test.YtfagokboeeimjaaCoverBy
namespace Go.Proofs.Ytfagokboeeimjaa.walks
open Go.RowKit Go.Proofs.Ytfagokboeeimjaa.math Go.Proofs.Ytfagokboeeimjaa.ints
set_option linter.unusedVariables false
set_option maxRecDepth 100000

/-- The greedy cover. -/
def grO (t : List Int) (f : Nat → Pv) (n : Nat) : Option (List (Nat × Nat)) := if (treeB t && patsB f n) = true then pcs t f (chG t f n) [0] else none
theorem grO_bad {t : List Int} {f : Nat → Pv} {n : Nat} (h : (treeB t && patsB f n) = false) : grO t f n = none := by unfold grO; rw [if_neg (by rw [h]; simp)]
theorem grO_yes {t : List Int} {f : Nat → Pv} {n : Nat} (h : (treeB t && patsB f n) = true) : grO t f n = pcs t f (chG t f n) [0] := by unfold grO; rw [if_pos h]
/-- What a call of a covering function answers. -/
def GrAns (f : Nat → Pv) (o : Option (List (Nat × Nat))) (W : World) (e : Ending) (W' : World) : Prop := Below W.heap.size W W' ∧ ((o = none ∧ e = .returned (.tuple #[.slice none 0 0, .int .i64 0, .bool false])) ∨ ∃ ps v, o = some ps ∧ e = .returned (.tuple #[v, .int .i64 (costP f ps), .bool true]) ∧ OwnQ W' W.heap.size v ps)
theorem row_low9 {w : World} {B B' size m : Nat} {ty : TypeId} {v : Value} {L : List Value} (h : w.ownsRow B ty size v m L) (hB : B' ≤ B) : w.ownsRow B' ty size v m L := by
  refine ⟨h.1, ?_⟩
  rcases h.2 with q | ⟨g, c, cur, h1, h2, h3⟩
  · exact Or.inl q
  · exact Or.inr ⟨g, c, cur, h1, Nat.le_trans hB h2, h3⟩
set_option maxHeartbeats 4000000 in
theorem impl_greedy (ta : Option Addr) (tl tc : Nat) (t : List Int) (la : Option Addr) (n lc : Nat) (f : Nat → Pv) (W : World) (hz : Hid (t.length = tl)) (hlen : tl ≤ 1048576) (hcap : tl ≤ tc) (hcm : tc ≤ maxLen) (hn : n ≤ 1048576) (hl : Hid (∀ k, k < n → (f k).zs.length ≤ 1048576)) (hti : Hid (Ints W ta t)) (hps : Hid (Pats W la n f)) :
    Calls Try.prog 37 #[.slice ta tl tc, .slice la n lc] W fun e W' => GrAns f (grO t f n) W e W' := by
  go_enter Try.func37, Try.ntmps37
  go_wp2_with fail
  refine (impl_tiling ta tl tc t la n lc f W hz hlen hcap hcm hti.out hn hl hps.out).mono ?_
  rintro e w1 ⟨xv, yv, zv, rfl, ⟨⟨a1, l1, c1, rfl⟩, ⟨a2, l2, c2, rfl⟩, a3, l3, c3, rfl⟩, hgt, hB1⟩
  have hs1 := hB1.size
  have HGT : Hid ((treeB t && patsB f n) = true → ∃ tb to g gv gc G, ta = some ⟨tb, to, none⟩ ∧ Value.slice a1 l1 c1 = .slice (some ⟨tb, to, none⟩) t.length tc ∧ Value.slice a2 l2 c2 = .slice (some ⟨g, 0, none⟩) t.length t.length ∧ Value.slice a3 l3 c3 = .slice gv n gc ∧ n ≤ gc ∧ gc ≤ maxLen ∧ TreeIn w1 t tb to tc g 0 t.length ∧ TilesM w1 gv n f G) := hgt
  have HB1 : Hid (Below W.heap.size W w1) := hB1
  obtain ⟨bt, hbt⟩ : ∃ bt, Hid ((treeB t && patsB f n) = bt) := ⟨_, rfl⟩
  rw [hbt.out]
  clear hgt hB1
  cases bt
  · have HE : Hid (grO t f n = none) := grO_bad hbt.out
    go_wp2
    go_ret3
    exact ⟨by first | exact HB1.out | exact HB1.out.alloc HB1.out.size _, Or.inl ⟨HE.out, rfl⟩⟩
  obtain ⟨tb, to, g, gv, gc, G, e0, q1, q2, q3, hngc, hgcm, hTI, hTM⟩ := HGT.out hbt.out
  simp only [Value.slice.injEq] at q1 q2 q3
  obtain ⟨rfl, rfl, r1⟩ := q1
  obtain ⟨rfl, rfl, rfl⟩ := q2
  obtain ⟨r2, rfl, r3⟩ := q3
  subst r1 r2 r3
  have hpb : patsB f l3 = true := by have := hbt.out; simp at this; exact this.2
  obtain ⟨hn12, hgp⟩ := good_of hpb
  obtain ⟨W0, hW0⟩ : ∃ W0, Hid (w1.alloc (.cells #[.slice (some ⟨tb, to, none⟩) t.length c1, .slice (some ⟨g, 0, none⟩) t.length t.length, .slice a3 l3 c3] 82) = W0) := ⟨_, rfl⟩
  have HB0 : Hid (Below w1.heap.size w1 W0) := by show Below _ _ _; rw [← hW0.out]; repeat (first | exact Below.refl _ _ | refine Below.drew ?_ | refine Below.setCell ?_ (by simp; try omega) _ | refine Below.alloc ?_ (by simp; try omega) _)
  have HW0 : Hid (Below W.heap.size W W0) := HB1.out.trans (HB0.out.mono HB1.out.size)
  have HTI : Hid (TreeIn W0 t tb to c1 g 0 t.length) := hTI.kept HB0.out
  have HTM : Hid (TilesM W0 a3 l3 f G) := hTM.kept HB0.out
  have HGP : Hid (GoodPs f l3) := hgp
  clear hTI hTM hgp HGT
  go_wp2_with fail
  rw [hW0.out]
  have HCH : Hid (∀ (a : Nat) (w : World), a < t.length → Below W0.heap.size W0 w → Calls Try.prog 61 #[.agg #[.slice (some ⟨tb, to, none⟩) t.length c1, .slice (some ⟨g, 0, none⟩) t.length t.length, .slice a3 l3 c3], .int .i64 (a : Int)] w fun e W' => ChAns (chG t f l3 a) w e W') := fun a w ha hb => impl_greatest t t.length tb to c1 g a3 l3 c3 f G a w rfl (HTI.out.kept hb) (HTM.out.kept hb) HGP hn12 ha
  refine (impl_coverby t t.length tb to c1 g a3 l3 c3 f G (chG t f l3) W0 rfl HTI HTM hngc hgcm HGP hn12 chG_in (fun a k hk => chG_fit hk) HCH).mono ?_
  rintro e w2 ⟨hB2, hq⟩
  have HB2 : Hid (Below W.heap.size W w2) := HW0.out.trans (hB2.mono HW0.out.size)
  clear hB2 HCH
  rcases hq with ⟨hg, rfl⟩ | ⟨ps, v, hg, rfl, ho⟩
  · have HE : Hid (grO t f l3 = none) := (grO_yes hbt.out).trans hg
    clear hg
    go_wp2
    go_ret3
    exact ⟨HB2.out, Or.inl ⟨HE.out, rfl⟩⟩
  · have HE : Hid (grO t f l3 = some ps) := (grO_yes hbt.out).trans hg
    have HO : Hid (OwnQ w2 W.heap.size v ps) := row_low9 ho (by have := HW0.out.size; omega)
    clear hg ho
    go_wp2
    go_ret3
    exact ⟨HB2.out, Or.inr ⟨ps, v, HE.out, rfl, HO.out⟩⟩
end Go.Proofs.Ytfagokboeeimjaa.walks
