/-
  What BestCover answers, of the specification and of the program.
-/
import Derived.Test.YtapbfoooflpejaaProg
import Derived.Test.YtapbfoooflpejaaBestMath
import Derived.Test.YtapbfoooflpejaaBestSpec
import Derived.Test.YtapbfoooflpejaaBestPieces
import Derived.Test.YtapbfoooflpejaaLeastImpl
import Derived.Test.YtapbfoooflpejaaCoverBest
import Derived.Test.YtapbfoooflpejaaPiecesSpec
import Derived.Test.YtapbfoooflpejaaPiecesFlat
import Derived.Test.YtapbfoooflpejaaGreedyImpl
import Derived.Test.YtapbfoooflpejaaTreeSpec
import Derived.Test.YtapbfoooflpejaaPatSpec
import Derived.Test.YtapbfoooflpejaaTilingImpl
import Derived.Test.YtapbfoooflpejaaIsCoverSpec
import Derived.Deep.QuietTactic
import Derived.BigQuiet
namespace Go.Proofs.Ytapbfoooflpejaa.walks
open Go.RowKit Go.Proofs.Ytapbfoooflpejaa.math Go.Proofs.Ytapbfoooflpejaa.ints
set_option linter.unusedVariables false
set_option maxRecDepth 100000

/-- The best cover. -/
def bestO (t : List Int) (f : Nat → Pv) (n : Nat) : Option (List (Nat × Nat)) := if (treeB t && patsB f n) = true then pcs t f (chL t f n) [0] else none
theorem bestO_bad {t : List Int} {f : Nat → Pv} {n : Nat} (h : (treeB t && patsB f n) = false) : bestO t f n = none := by unfold bestO; rw [if_neg (by rw [h]; simp)]
theorem bestO_yes {t : List Int} {f : Nat → Pv} {n : Nat} (h : (treeB t && patsB f n) = true) : bestO t f n = pcs t f (chL t f n) [0] := by unfold bestO; rw [if_pos h]
theorem tree_facts {t : List Int} (h : treeB t = true) : wholeB false t = true ∧ t.length ≤ 40 ∧ 0 < t.length := by
  unfold treeB at h
  simp at h
  exact ⟨h.2, h.1, (whole_iff.1 h.2).1⟩
set_option maxHeartbeats 2000000 in
theorem impl_best1 (t : List Int) (f : Nat → Pv) (n a lb lg tl : Nat) (W : World) (hz : Hid (t.length = tl)) (ha : a < tl) (ht40 : tl ≤ 40) (hbd : Hid (Bnd t (leastS t f n))) (hb : W.cell? ⟨lb, 0, none⟩ = some (.slice (some ⟨lg, 0, none⟩) tl tl)) (hL : Hid (LeastIn W lg tl (leastS t f n))) :
    Calls Try.prog 28 #[.int .i64 (a : Int), .pointer (some ⟨lb, 0, none⟩)] W fun e W' => ChAns (chL t f n a) W e W' := by
  have haI : (a : Int) < (tl : Int) := by omega
  have c0 := (hL.out.2 a ha).1
  have c1 := (hL.out.2 a ha).2
  have hba := hbd.out a (by rw [hz.out]; exact ha)
  have HNO : Hid ((leastS t f n a).2 = 0 → chL t f n a = none) := chL_no
  have HYES : Hid ((leastS t f n a).2 ≠ 0 → chL t f n a = some (leastS t f n a).1) := fun q => chL_yes (by rw [hz.out]; exact ha) q
  obtain ⟨p, hp⟩ : ∃ p, Hid ((leastS t f n a).1 = p) := ⟨_, rfl⟩
  obtain ⟨c, hc⟩ : ∃ c, Hid ((leastS t f n a).2 = c) := ⟨_, rfl⟩
  rw [hp.out] at c0 HYES
  rw [hc.out] at c1 hba HNO HYES
  by_cases e : c = 0
  · have HE : Hid (chL t f n a = none) := HNO.out e
    subst e
    go_enter Try.func28, Try.ntmps28
    go_wp2_with fail
    go_quiet (fail)
    go_wp2
    go_ret2
    exact ⟨⟨(p : Int), by rw [HE.out]; rfl, fun k hk => by rw [HE.out] at hk; cases hk⟩, belowN (Below.refl _ _) _⟩
  · have HE : Hid (chL t f n a = some p) := HYES.out e
    have hpos : 0 < c := by omega
    have de : decide (c > 0) = true := decide_eq_true hpos
    clear hba
    go_enter Try.func28, Try.ntmps28
    go_wp2_with fail
    go_quiet (fail)
    go_wp2
    go_ret2
    exact ⟨⟨(p : Int), by rw [HE.out]; rfl, fun k hk => by rw [HE.out] at hk; cases hk; rfl⟩, belowN (Below.refl _ _) _⟩
set_option maxHeartbeats 4000000 in
theorem impl_bestcover (ta : Option Addr) (tl tc : Nat) (t : List Int) (la : Option Addr) (n lc : Nat) (f : Nat → Pv) (W : World) (hz : Hid (t.length = tl)) (hlen : tl ≤ 1048576) (hcap : tl ≤ tc) (hcm : tc ≤ maxLen) (hn : n ≤ 1048576) (hl : Hid (∀ k, k < n → (f k).zs.length ≤ 1048576)) (hti : Hid (Ints W ta t)) (hps : Hid (Pats W la n f)) :
    Calls Try.prog 9 #[.slice ta tl tc, .slice la n lc] W fun e W' => GrAns f (bestO t f n) W e W' := by
  go_enter Try.func9, Try.ntmps9
  go_wp2_with fail
  refine (impl_tiling ta tl tc t la n lc f W hz hlen hcap hcm hti.out hn hl hps.out).mono ?_
  rintro e w1 ⟨xv, yv, zv, rfl, ⟨⟨a1, l1, c1, rfl⟩, ⟨a2, l2, c2, rfl⟩, a3, l3, c3, rfl⟩, hgt, hB1⟩
  have hs1 := hB1.size
  have HGT : Hid ((treeB t && patsB f n) = true → ∃ tb to g gv gc G, ta = some ⟨tb, to, none⟩ ∧ Value.slice a1 l1 c1 = .slice (some ⟨tb, to, none⟩) t.length tc ∧ Value.slice a2 l2 c2 = .slice (some ⟨g, 0, none⟩) t.length t.length ∧ Value.slice a3 l3 c3 = .slice gv n gc ∧ n ≤ gc ∧ gc ≤ maxLen ∧ TreeIn w1 t tb to tc g 0 t.length ∧ TilesM w1 gv n f G) := hgt
  have HB1 : Hid (Below W.heap.size W w1) := hB1
  obtain ⟨bt, hbt⟩ : ∃ bt, Hid ((treeB t && patsB f n) = bt) := ⟨_, rfl⟩
  rw [hbt.out]
  clear hgt hB1
  cases bt
  · have HE : Hid (bestO t f n = none) := bestO_bad hbt.out
    go_wp2
    go_ret3
    exact ⟨by first | exact HB1.out | exact HB1.out.alloc HB1.out.size _, Or.inl ⟨HE.out, rfl⟩⟩
  obtain ⟨tb, to, g, gv, gc, G, e0, q1, q2, q3, hngc, hgcm, hTI, hTM⟩ := HGT.out hbt.out
  simp only [Value.slice.injEq] at q1 q2 q3
  obtain ⟨rfl, rfl, r1⟩ := q1
  obtain ⟨rfl, rfl, rfl⟩ := q2
  obtain ⟨r2, rfl, r3⟩ := q3
  subst r1 r2 r3
  have hpb : patsB f l3 = true := by have := hbt.out; simp at this; exact this.2
  have htr : treeB t = true := by have := hbt.out; simp at this; exact this.1
  obtain ⟨hwh, ht40, ht1⟩ := tree_facts htr
  obtain ⟨hn12, hgp⟩ := good_of hpb
  have HGP : Hid (GoodPs f l3) := hgp
  have HBDD : Hid (Bnd t (leastS t f l3)) := foldB_bnd rfl hwh ht40 hgp _
  have HCIN : Hid (ChB (chL t f l3) l3) := chL_in hwh ht40 hgp
  have HCFI : Hid (∀ a k, chL t f l3 a = some k → ∃ hs, fitL t (f k).zs a = some hs) := fun a k hk => chL_fit hwh ht40 hgp hk
  obtain ⟨W0, hW0⟩ : ∃ W0, Hid (w1.alloc (.cells #[.slice (some ⟨tb, to, none⟩) t.length c1, .slice (some ⟨g, 0, none⟩) t.length t.length, .slice a3 l3 c3] 56) = W0) := ⟨_, rfl⟩
  have HB0 : Hid (Below w1.heap.size w1 W0) := by show Below _ _ _; rw [← hW0.out]; repeat (first | exact Below.refl _ _ | refine Below.drew ?_ | refine Below.setCell ?_ (by simp; try omega) _ | refine Below.alloc ?_ (by simp; try omega) _)
  have hs0 : W0.heap.size = w1.heap.size + 1 := by rw [← hW0.out]; simp
  have HW0 : Hid (Below W.heap.size W W0) := HB1.out.trans (HB0.out.mono HB1.out.size)
  have HTI : Hid (TreeIn W0 t tb to c1 g 0 t.length) := hTI.kept HB0.out
  have HTM : Hid (TilesM W0 a3 l3 f G) := hTM.kept HB0.out
  have p0 : W0.cell? ⟨w1.heap.size, 0, none⟩ = some (.slice (some ⟨tb, to, none⟩) t.length c1) := by rw [← hW0.out]; go_simp
  have p1 : W0.cell? ⟨w1.heap.size, 1, none⟩ = some (.slice (some ⟨g, 0, none⟩) t.length t.length) := by rw [← hW0.out]; go_simp
  have p2 : W0.cell? ⟨w1.heap.size, 2, none⟩ = some (.slice a3 l3 c3) := by rw [← hW0.out]; go_simp
  clear hTI hTM HGT hgp hwh htr hpb
  go_wp2_with fail
  rw [hW0.out]
  refine (impl_least t t.length tb to c1 g a3 l3 c3 f G W0 rfl HTI HTM HGP hn12).mono ?_
  rintro e w2 ⟨rfl, hR, hB⟩
  have HB2 : Hid (Below W.heap.size W w2) := HW0.out.trans (hB.mono HW0.out.size)
  have p0 := (hB.cell (p := ⟨w1.heap.size, 0, none⟩) (by show w1.heap.size < _; omega)).trans p0
  have p1 := (hB.cell (p := ⟨w1.heap.size, 1, none⟩) (by show w1.heap.size < _; omega)).trans p1
  have p2 := (hB.cell (p := ⟨w1.heap.size, 2, none⟩) (by show w1.heap.size < _; omega)).trans p2
  have hs2 := hB.size
  have hl12 : w1.heap.size < w2.heap.size := by omega
  have HTI2 : Hid (TreeIn w2 t tb to c1 g 0 t.length) := HTI.out.kept hB
  have HTM2 : Hid (TilesM w2 a3 l3 f G) := HTM.out.kept hB
  have HL2 : Hid (LeastIn w2 (W0.heap.size + 1) t.length (leastS t f l3)) := by
    show LeastIn _ _ _ _
    exact ⟨hR.lt, fun i hi => ⟨by rw [hR.cell (i := i * 2) (by omega), cellB_p], by rw [hR.cell (i := i * 2 + 1) (by omega), cellB_c]⟩⟩
  clear hB hR hW0 HTI HTM
  obtain ⟨lg, hlg⟩ : ∃ lg, Hid (W0.heap.size + 1 = lg) := ⟨_, rfl⟩
  rw [hlg.out] at HL2 ⊢
  obtain ⟨W3, hW3⟩ : ∃ W3, Hid (w2.alloc (.cells #[.slice (some ⟨lg, 0, none⟩) t.length t.length] 59) = W3) := ⟨_, rfl⟩
  have HB3 : Hid (Below w2.heap.size w2 W3) := by show Below _ _ _; rw [← hW3.out]; repeat (first | exact Below.refl _ _ | refine Below.drew ?_ | refine Below.setCell ?_ (by simp; try omega) _ | refine Below.alloc ?_ (by simp; try omega) _)
  have hs3 : W3.heap.size = w2.heap.size + 1 := by rw [← hW3.out]; simp
  have HW3 : Hid (Below W.heap.size W W3) := HB2.out.trans (HB3.out.mono HB2.out.size)
  have HTI3 : Hid (TreeIn W3 t tb to c1 g 0 t.length) := HTI2.out.kept HB3.out
  have HTM3 : Hid (TilesM W3 a3 l3 f G) := HTM2.out.kept HB3.out
  have HL3 : Hid (LeastIn W3 lg t.length (leastS t f l3)) := HL2.out.kept HB3.out
  have b3 : W3.cell? ⟨w2.heap.size, 0, none⟩ = some (.slice (some ⟨lg, 0, none⟩) t.length t.length) := by rw [← hW3.out]; go_simp
  have HCH : Hid (∀ (a : Nat) (w : World), a < t.length → Below W3.heap.size W3 w → Calls Try.prog 28 #[.int .i64 (a : Int), .pointer (some ⟨w2.heap.size, 0, none⟩)] w fun e W' => ChAns (chL t f l3 a) w e W') := fun a w ha hb => impl_best1 t f l3 a w2.heap.size lg t.length w rfl ha ht40 HBDD ((hb.cell (p := ⟨w2.heap.size, 0, none⟩) (by show w2.heap.size < _; omega)).trans b3) (HL3.out.kept hb)
  go_wp2_with fail
  rw [hW3.out]
  refine (impl_coverbest w2.heap.size t t.length tb to c1 g a3 l3 c3 f G (chL t f l3) W3 rfl HTI3 HTM3 hngc hgcm HGP hn12 HCIN HCFI HCH).mono ?_
  rintro e w4 ⟨hB4, hq⟩
  have HB4 : Hid (Below W.heap.size W w4) := HW3.out.trans (hB4.mono HW3.out.size)
  clear hB4 HCH
  rcases hq with ⟨hg, rfl⟩ | ⟨ps, v, hg, rfl, ho⟩
  · have HE : Hid (bestO t f l3 = none) := (bestO_yes hbt.out).trans hg
    clear hg
    go_wp2
    go_ret3
    exact ⟨HB4.out, Or.inl ⟨HE.out, rfl⟩⟩
  · have HE : Hid (bestO t f l3 = some ps) := (bestO_yes hbt.out).trans hg
    have HO : Hid (OwnQ w4 W.heap.size v ps) := row_low9 ho (by have := HW3.out.size; omega)
    clear hg ho
    go_wp2
    go_ret3
    exact ⟨HB4.out, Or.inr ⟨ps, v, HE.out, rfl, HO.out⟩⟩
/-- The patterns, as the specification lists them. -/
def bestL (t : List Int) (f : Nat → Pv) (n tl : Nat) : List Int := (List.range tl).map fun i => encB (leastS t f n i)
theorem bestL_len (t : List Int) (f : Nat → Pv) (n tl : Nat) : (bestL t f n tl).length = tl := by simp [bestL]
theorem bestL_at {t : List Int} {f : Nat → Pv} {n tl i : Nat} (h : i < tl) : (bestL t f n tl).getD i 0 = encB (leastS t f n i) := by simp [bestL, List.getD, h]
set_option maxHeartbeats 4000000 in
theorem spec_bestcover (ta : Option Addr) (tl tc : Nat) (t : List Int) (la : Option Addr) (n lc : Nat) (f : Nat → Pv) (W : World) (hz : Hid (t.length = tl)) (hlen : tl ≤ 1048576) (hn : n ≤ 1048576) (hl : Hid (∀ k, k < n → (f k).zs.length ≤ 1048576)) (hti : Hid (Ints W ta t)) (hps : Hid (Pats W la n f)) :
    Calls Try.prog 6 #[.slice ta tl tc, .slice la n lc] W fun e W' => GrAns f (bestO t f n) W e W' := by
  cases htr : treeB t
  · have HE : Hid (bestO t f n = none) := bestO_bad (by rw [htr]; rfl)
    go_enter Try.func6, Try.ntmps6
    go_wp2_with fail
    refine (spec_tree _ _ _ t _ hz hlen hti).mono ?_
    rw [htr]
    rintro e w1 ⟨rfl, hw⟩
    rw [hw]
    clear hw w1
    go_wp2
    go_ret3
    exact ⟨Below.refl _ _, Or.inl ⟨HE.out, rfl⟩⟩
  cases hpb : patsB f n
  · have HE : Hid (bestO t f n = none) := bestO_bad (by rw [hpb]; simp)
    go_enter Try.func6, Try.ntmps6
    go_wp2_with fail
    refine (spec_tree _ _ _ t _ hz hlen hti).mono ?_
    rw [htr]
    rintro e w1 ⟨rfl, hw⟩
    rw [hw]
    clear hw w1
    go_wp2_with fail
    refine (spec_pats _ _ _ f _ hn hl hps).mono ?_
    rw [hpb]
    rintro e w1 ⟨rfl, hB⟩
    have HB : Hid (Below W.heap.size W w1) := hB
    clear hB
    go_wp2
    go_ret3
    exact ⟨HB.out, Or.inl ⟨HE.out, rfl⟩⟩
  have HGO : Hid (bestO t f n = pcs t f (chL t f n) [0]) := bestO_yes (by rw [htr, hpb]; rfl)
  obtain ⟨hwh, ht40', ht1'⟩ := tree_facts htr
  obtain ⟨hn12, hgp⟩ := good_of hpb
  have HGP : Hid (GoodPs f n) := hgp
  have HWH : Hid (wholeB false t = true) := hwh
  have HCIN : Hid (ChB (chL t f n) n) := chL_in hwh ht40' hgp
  have HCFI : Hid (∀ a k, a < tl → chL t f n a = some k → ∃ hs, fitL t (f k).zs a = some hs) := fun a k _ hk => chL_fit hwh ht40' hgp hk
  have HBN : Hid ((leastS t f n 0).2 = 0 → pcs t f (chL t f n) [0] = none) := best_none hwh ht40' hgp
  have HBS : Hid ((leastS t f n 0).2 ≠ 0 → ∃ ps, pcs t f (chL t f n) [0] = some ps ∧ costP f ps = (leastS t f n 0).2) := best_some hwh ht40' hgp
  have ht40 : tl ≤ 40 := by have := hz.out; omega
  have ht1 : 0 < tl := by have := hz.out; omega
  have HCI : Hid (ChI (bestL t f n tl) (chL t f n) tl) := fun a ha => by
    rw [bestL_at ha]
    by_cases e : (leastS t f n a).2 = 0
    · rw [encB_no e, chL_no e]
    · rw [encB_yes e, chL_yes (by rw [hz.out]; exact ha) e]
  have HSZ : Hid (szT false t 0 ≤ 40) := by
    show _ ≤ _
    have := (sz_le (whole_each hwh ht1') (Nat.zero_le _)).2
    omega
  clear hgp hwh ht40' ht1'
  have htI : (0 : Int) < (tl : Int) := by omega
  go_enter Try.func6, Try.ntmps6
  go_wp2_with fail
  refine (spec_tree _ _ _ t _ hz hlen hti).mono ?_
  rw [htr]
  rintro e w1 ⟨rfl, hw⟩
  rw [hw]
  clear hw w1
  go_wp2_with fail
  refine (spec_pats _ _ _ f _ hn hl hps).mono ?_
  rw [hpb]
  rintro e w1 ⟨rfl, hB⟩
  have HB1 : Hid (Below W.heap.size W w1) := hB
  clear hB
  go_wp2_with fail
  refine (spec_best _ _ _ t _ _ _ f _ hz ht40 HWH HGP hn12 (hti.out.kept HB1.out) (hps.out.kept HB1.out)).mono ?_
  rintro e w2 ⟨rfl, hC, hE, hB⟩
  have HB2 : Hid (Below W.heap.size W w2) := HB1.out.trans (hB.mono HB1.out.size)
  have HC2 : Hid (w2.rowIs w1.heap.size 3 tl (fun i => .int .i64 (leastS t f n i).2)) := hC
  have hcl := hC.lt
  have HPM : Hid (PcM w2 ta t la n f (some ⟨w1.heap.size + 1, 0, none⟩) (bestL t f n tl)) := ⟨hti.out.kept HB2.out, hps.out.kept HB2.out, (mine_row (hE.congr (fun i hi => by rw [bestL_at hi])) (bestL_len t f n tl) (Nat.zero_le _)).ints⟩
  clear hB hC hE
  have HOQ : Hid (OwnQ w2 w2.heap.size (.slice none 0 0) []) := World.ownsRow_nil _ _ _ _
  obtain ⟨cg, hcg⟩ : ∃ cg, Hid (w1.heap.size = cg) := ⟨_, rfl⟩
  rw [hcg.out] at HC2 hcl HPM ⊢
  go_wp2_with fail
  refine (spec_pieces ta tl tc t la n lc f (some ⟨cg + 1, 0, none⟩) tl (bestL t f n tl) (chL t f n) w2.heap.size w2 hz ht40 HWH hn12 HGP HCIN HCFI (bestL_len t f n tl) HCI HPM rfl 40 0 (.slice none 0 0) [] w2 HSZ.out ht1 (by have := HSZ.out; simp; omega) HOQ (Nat.le_refl _) (Below.refl _ _)).mono ?_
  rintro e w3 ⟨hB, hq⟩
  have HB3 : Hid (Below W.heap.size W w3) := HB2.out.trans (hB.mono HB2.out.size)
  have c0 : w3.cell? ⟨cg, 0, none⟩ = some (.int .i64 (leastS t f n 0).2) := (hB.cell (p := ⟨cg, 0, none⟩) hcl).trans (HC2.out.cell ht1)
  clear hB
  obtain ⟨c, hc⟩ : ∃ c, Hid ((leastS t f n 0).2 = c) := ⟨_, rfl⟩
  rw [hc.out] at c0 HBN HBS
  rcases hq with ⟨ho, rfl⟩ | ⟨ps, v', ho, rfl, hO, _, _⟩
  · have HE : Hid (bestO t f n = none) := HGO.out.trans ho
    clear ho
    go_wp2
    go_ret3
    exact ⟨HB3.out, Or.inl ⟨HE.out, rfl⟩⟩
  · have HE : Hid (bestO t f n = some ps) := HGO.out.trans ho
    have HCST : Hid (costP f ps = c) := by
      show _ = _
      by_cases e : c = 0
      · rw [HBN.out e] at ho; cases ho
      · obtain ⟨ps', h1, h2⟩ := HBS.out e
        rw [ho] at h1
        cases h1
        exact h2
    rw [List.nil_append] at hO
    have HO : Hid (OwnQ w3 W.heap.size v' ps) := row_low9 hO (by have := HB2.out.size; omega)
    clear ho hO
    go_wp2_with fail
    go_quiet (fail)
    go_wp2
    go_ret3
    exact ⟨belowN HB3.out _, Or.inr ⟨ps, v', HE.out, by rw [HCST.out]; rfl, HO.out.kept9 (belowN (Below.refl _ _) _)⟩⟩
end Go.Proofs.Ytapbfoooflpejaa.walks
