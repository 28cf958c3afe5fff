/-
  What CostAt answers, of the specification and of the program.
-/
import Derived.Test.YtapbfoooflpejaaProg
import Derived.Test.YtapbfoooflpejaaBestMath
import Derived.Test.YtapbfoooflpejaaBestSpec
import Derived.Test.YtapbfoooflpejaaLeastImpl
import Derived.Test.YtapbfoooflpejaaTreeSpec
import Derived.Test.YtapbfoooflpejaaPatSpec
import Derived.Test.YtapbfoooflpejaaFitsImpl9
import Derived.Test.YtapbfoooflpejaaTilingImpl
import Derived.Test.YtapbfoooflpejaaIsCoverSpec
import Derived.Deep.QuietTactic
import Derived.BigQuiet
namespace Go.Proofs.Ytapbfoooflpejaa.walks
open Go.RowKit Go.Proofs.Ytapbfoooflpejaa.math Go.Proofs.Ytapbfoooflpejaa.ints
set_option linter.unusedVariables false
set_option maxRecDepth 100000

def okC (t : List Int) (f : Nat → Pv) (n : Nat) (a : Int) : Bool := (treeB t && patsB f n) && inR a 0 ((t.length : Int) - 1)
def costV (t : List Int) (f : Nat → Pv) (n : Nat) (a : Int) : Int := if okC t f n a then (leastS t f n a.toNat).2 else 0
def costIs (t : List Int) (f : Nat → Pv) (n : Nat) (a : Int) : Bool := okC t f n a && decide (0 < costV t f n a)
theorem cost_no {t : List Int} {f : Nat → Pv} {n : Nat} {a : Int} (h : okC t f n a = false) : costV t f n a = 0 ∧ costIs t f n a = false := by
  unfold costIs costV
  rw [h]
  exact ⟨rfl, rfl⟩
theorem cost_yes {t : List Int} {f : Nat → Pv} {n x : Nat} {a : Int} (h : okC t f n a = true) (hx : a = (x : Int)) : costV t f n a = (leastS t f n x).2 ∧ costIs t f n a = decide (0 < (leastS t f n x).2) := by
  unfold costIs costV
  rw [h, hx, Int.toNat_natCast]
  exact ⟨rfl, rfl⟩
/-- What CostAt answers. -/
def CostAns (t : List Int) (f : Nat → Pv) (n : Nat) (a : Int) (W : World) (e : Ending) (W' : World) : Prop := e = .returned (.tuple #[.int .i64 (costV t f n a), .bool (costIs t f n a)]) ∧ Below W.heap.size W W'
theorem cost_told {t : List Int} {f : Nat → Pv} {n : Nat} {a : Int} {W W' : World} {e : Ending} (h : CostAns t f n a W e W') : e = .returned (.tuple #[.int .i64 (costV t f n a), .bool (costIs t f n a)]) ∧ Below W.heap.size W W' := h
theorem cost_ans_no {t : List Int} {f : Nat → Pv} {n : Nat} {a : Int} {W W' : World} (h : okC t f n a = false) (hB : Below W.heap.size W W') : CostAns t f n a W (.returned (.tuple #[.int .i64 0, .bool false])) W' := ⟨by rw [(cost_no h).1, (cost_no h).2], hB⟩
theorem cost_ans {t : List Int} {f : Nat → Pv} {n x : Nat} {a : Int} {c : Int} {b : Bool} {W W' : World} (h : okC t f n a = true) (hx : a = (x : Int)) (hc : (leastS t f n x).2 = c) (hb : decide (0 < c) = b) (hB : Below W.heap.size W W') : CostAns t f n a W (.returned (.tuple #[.int .i64 c, .bool b])) W' := ⟨by rw [(cost_yes h hx).1, (cost_yes h hx).2, hc, hb], hB⟩
theorem leastS_bnd {t : List Int} {f : Nat → Pv} {n : Nat} (ht : wholeB false t = true) (hl : t.length ≤ 40) (hg : GoodPs f n) : Bnd t (leastS t f n) := foldB_bnd rfl ht hl hg _
set_option maxHeartbeats 4000000 in
theorem spec_costat (ta : Option Addr) (tl tc : Nat) (a : Int) (t : List Int) (la : Option Addr) (n lc : Nat) (f : Nat → Pv) (W : World) (hz : Hid (t.length = tl)) (hlen : tl ≤ 1048576) (hn : n ≤ 1048576) (hl : Hid (∀ k, k < n → (f k).zs.length ≤ 1048576)) (hti : Hid (Ints W ta t)) (hps : Hid (Pats W la n f)) :
    Calls Try.prog 17 #[.slice ta tl tc, .int .i64 a, .slice la n lc] W fun e W' => CostAns t f n a W e W' := by
  have htlI : (tl : Int) ≤ 1048576 := by omega
  cases htr : treeB t
  · have HE : Hid (okC t f n a = false) := by show _ = _; unfold okC; rw [htr]; rfl
    go_enter Try.func17, Try.ntmps17
    go_wp2_with fail
    refine (spec_tree _ _ _ t _ hz hlen hti).mono ?_
    rw [htr]
    rintro e w1 ⟨rfl, hw⟩
    rw [hw]
    clear hw w1
    go_wp2
    go_ret2
    exact cost_ans_no HE.out (Below.refl _ _)
  cases hpb : patsB f n
  · have HE : Hid (okC t f n a = false) := by show _ = _; unfold okC; rw [hpb]; simp
    go_enter Try.func17, Try.ntmps17
    go_wp2_with fail
    refine (spec_tree _ _ _ t _ hz hlen hti).mono ?_
    rw [htr]
    rintro e w1 ⟨rfl, hw⟩
    rw [hw]
    clear hw w1
    go_wp2_with fail
    refine (spec_pats _ _ _ f _ hn hl hps).mono ?_
    rw [hpb]
    rintro e w1 ⟨rfl, hB⟩
    have HB : Hid (Below W.heap.size W w1) := hB
    clear hB
    go_wp2
    go_ret2
    exact cost_ans_no HE.out HB.out
  by_cases h0 : a < 0
  · have HE : Hid (okC t f n a = false) := by show _ = _; unfold okC; rw [inR_lt h0]; simp
    have d0 : decide (a < 0) = true := decide_eq_true h0
    go_enter Try.func17, Try.ntmps17
    go_wp2_with fail
    refine (spec_tree _ _ _ t _ hz hlen hti).mono ?_
    rw [htr]
    rintro e w1 ⟨rfl, hw⟩
    rw [hw]
    clear hw w1
    go_wp2_with fail
    refine (spec_pats _ _ _ f _ hn hl hps).mono ?_
    rw [hpb]
    rintro e w1 ⟨rfl, hB⟩
    have HB : Hid (Below W.heap.size W w1) := hB
    clear hB
    go_wp2
    go_ret2
    exact cost_ans_no HE.out HB.out
  have h0' : 0 ≤ a := by omega
  have d0 : decide (a < 0) = false := decide_eq_false h0
  clear h0
  by_cases h1 : (tl : Int) ≤ a
  · have HE : Hid (okC t f n a = false) := by show _ = _; unfold okC; rw [inR_gt (by rw [hz.out]; omega)]; simp
    have d1 : decide (a ≥ (tl : Int)) = true := decide_eq_true h1
    go_enter Try.func17, Try.ntmps17
    go_wp2_with fail
    refine (spec_tree _ _ _ t _ hz hlen hti).mono ?_
    rw [htr]
    rintro e w1 ⟨rfl, hw⟩
    rw [hw]
    clear hw w1
    go_wp2_with fail
    refine (spec_pats _ _ _ f _ hn hl hps).mono ?_
    rw [hpb]
    rintro e w1 ⟨rfl, hB⟩
    have HB : Hid (Below W.heap.size W w1) := hB
    clear hB
    go_wp2
    go_ret2
    exact cost_ans_no HE.out HB.out
  have h1' : a < (tl : Int) := by omega
  have d1 : decide (a ≥ (tl : Int)) = false := decide_eq_false h1
  clear h1
  obtain ⟨x, rfl⟩ : ∃ x : Nat, a = (x : Int) := ⟨a.toNat, by omega⟩
  have hxl : x < tl := by omega
  have HOK : Hid (okC t f n (x : Int) = true) := by show _ = _; unfold okC; rw [htr, hpb, inR_mk h0' (by rw [hz.out]; omega)]; rfl
  have hwh : wholeB false t = true := by unfold treeB at htr; simp at htr; exact htr.2
  have ht40 : tl ≤ 40 := by unfold treeB at htr; simp at htr; have := hz.out; omega
  obtain ⟨hn12, hgp⟩ := good_of hpb
  have HGP : Hid (GoodPs f n) := hgp
  have HWH : Hid (wholeB false t = true) := hwh
  have hbd := leastS_bnd hwh (by rw [hz.out]; exact ht40) hgp x (by rw [hz.out]; exact hxl)
  clear hgp hwh
  go_enter Try.func17, Try.ntmps17
  go_wp2_with fail
  refine (spec_tree _ _ _ t _ hz hlen hti).mono ?_
  rw [htr]
  rintro e w1 ⟨rfl, hw⟩
  rw [hw]
  clear hw w1
  go_wp2_with fail
  refine (spec_pats _ _ _ f _ hn hl hps).mono ?_
  rw [hpb]
  rintro e w1 ⟨rfl, hB⟩
  have HB1 : Hid (Below W.heap.size W w1) := hB
  clear hB
  go_wp2_with fail
  refine (spec_best _ _ _ t _ _ _ f _ hz ht40 HWH HGP hn12 (hti.out.kept HB1.out) (hps.out.kept HB1.out)).mono ?_
  rintro e w2 ⟨rfl, hC, hE, hB⟩
  have HB2 : Hid (Below W.heap.size W w2) := HB1.out.trans (hB.mono HB1.out.size)
  have cC := hC.cell hxl
  have cE := hE.cell hxl
  clear hB hC hE
  have HEN : Hid ((leastS t f n x).2 = 0 → encB (leastS t f n x) = -1) := encB_no
  have HEY : Hid ((leastS t f n x).2 ≠ 0 → 0 ≤ encB (leastS t f n x)) := fun e => by rw [encB_yes e]; omega
  obtain ⟨c, hc⟩ : ∃ c, Hid ((leastS t f n x).2 = c) := ⟨_, rfl⟩
  obtain ⟨ec, hec⟩ : ∃ ec, Hid (encB (leastS t f n x) = ec) := ⟨_, rfl⟩
  rw [hc.out] at cC HEN HEY hbd
  rw [hec.out] at cE HEN HEY
  by_cases e : c = 0
  · have ee := HEN.out e
    subst ee
    subst e
    go_wp2_with fail
    go_quiet (fail)
    go_wp2
    go_ret2
    exact cost_ans HOK.out rfl hc.out rfl (belowN HB2.out _)
  · have ee := HEY.out e
    have de : decide (ec ≥ 0) = true := decide_eq_true ee
    have HD : Hid (decide (0 < c) = true) := decide_eq_true (by omega)
    clear hbd
    go_wp2_with fail
    go_quiet (fail)
    go_wp2
    go_ret2
    exact cost_ans HOK.out rfl hc.out HD.out (belowN HB2.out _)
set_option maxHeartbeats 4000000 in
theorem impl_costat (ta : Option Addr) (tl tc : Nat) (a : Int) (t : List Int) (la : Option Addr) (n lc : Nat) (f : Nat → Pv) (W : World) (hz : Hid (t.length = tl)) (hlen : tl ≤ 1048576) (hcap : tl ≤ tc) (hcm : tc ≤ maxLen) (hn : n ≤ 1048576) (hl : Hid (∀ k, k < n → (f k).zs.length ≤ 1048576)) (hti : Hid (Ints W ta t)) (hps : Hid (Pats W la n f)) :
    Calls Try.prog 18 #[.slice ta tl tc, .int .i64 a, .slice la n lc] W fun e W' => CostAns t f n a W e W' := by
  go_enter Try.func18, Try.ntmps18
  go_wp2_with fail
  refine (impl_tiling ta tl tc t la n lc f W hz hlen hcap hcm hti.out hn hl hps.out).mono ?_
  rintro e w1 ⟨xv, yv, zv, rfl, ⟨⟨a1, l1, c1, rfl⟩, ⟨a2, l2, c2, rfl⟩, a3, l3, c3, rfl⟩, hgt, hB1⟩
  have hs1 := hB1.size
  have HGT : Hid ((treeB t && patsB f n) = true → ∃ tb to g gv gc G, ta = some ⟨tb, to, none⟩ ∧ Value.slice a1 l1 c1 = .slice (some ⟨tb, to, none⟩) t.length tc ∧ Value.slice a2 l2 c2 = .slice (some ⟨g, 0, none⟩) t.length t.length ∧ Value.slice a3 l3 c3 = .slice gv n gc ∧ n ≤ gc ∧ gc ≤ maxLen ∧ TreeIn w1 t tb to tc g 0 t.length ∧ TilesM w1 gv n f G) := hgt
  have HB1 : Hid (Below W.heap.size W w1) := hB1
  obtain ⟨bt, hbt⟩ : ∃ bt, Hid ((treeB t && patsB f n) = bt) := ⟨_, rfl⟩
  rw [hbt.out]
  clear hgt hB1
  cases bt
  · have HE : Hid (okC t f n a = false) := by show _ = _; unfold okC; rw [hbt.out]; rfl
    go_wp2
    go_ret2
    exact cost_ans_no HE.out (by first | exact HB1.out | exact HB1.out.alloc HB1.out.size _)
  obtain ⟨tb, to, g, gv, gc, G, e0, q1, q2, q3, hngc, hgcm, hTI, hTM⟩ := HGT.out hbt.out
  simp only [Value.slice.injEq] at q1 q2 q3
  obtain ⟨rfl, rfl, r1⟩ := q1
  obtain ⟨rfl, rfl, rfl⟩ := q2
  obtain ⟨r2, rfl, r3⟩ := q3
  subst r1 r2 r3
  have hpb : patsB f l3 = true := by have := hbt.out; simp at this; exact this.2
  have htr : treeB t = true := by have := hbt.out; simp at this; exact this.1
  obtain ⟨hn12, hgp⟩ := good_of hpb
  have HGP : Hid (GoodPs f l3) := hgp
  have hwh : wholeB false t = true := by unfold treeB at htr; simp at htr; exact htr.2
  have ht40 : t.length ≤ 40 := by unfold treeB at htr; simp at htr; omega
  have HBDD : Hid (Bnd t (leastS t f l3)) := leastS_bnd hwh ht40 hgp
  obtain ⟨W0, hW0⟩ : ∃ W0, Hid (w1.alloc (.cells #[.slice (some ⟨tb, to, none⟩) t.length c1, .slice (some ⟨g, 0, none⟩) t.length t.length, .slice a3 l3 c3] 56) = W0) := ⟨_, rfl⟩
  have HB0 : Hid (Below w1.heap.size w1 W0) := by show Below _ _ _; rw [← hW0.out]; repeat (first | exact Below.refl _ _ | refine Below.drew ?_ | refine Below.setCell ?_ (by simp; try omega) _ | refine Below.alloc ?_ (by simp; try omega) _)
  have hs0 : W0.heap.size = w1.heap.size + 1 := by rw [← hW0.out]; simp
  have HW0 : Hid (Below W.heap.size W W0) := HB1.out.trans (HB0.out.mono HB1.out.size)
  have HTI : Hid (TreeIn W0 t tb to c1 g 0 t.length) := hTI.kept HB0.out
  have HTM : Hid (TilesM W0 a3 l3 f G) := hTM.kept HB0.out
  have p0 : W0.cell? ⟨w1.heap.size, 0, none⟩ = some (.slice (some ⟨tb, to, none⟩) t.length c1) := by rw [← hW0.out]; go_simp
  have p1 : W0.cell? ⟨w1.heap.size, 1, none⟩ = some (.slice (some ⟨g, 0, none⟩) t.length t.length) := by rw [← hW0.out]; go_simp
  have p2 : W0.cell? ⟨w1.heap.size, 2, none⟩ = some (.slice a3 l3 c3) := by rw [← hW0.out]; go_simp
  have HOKE : Hid (okC t f l3 a = inR a 0 ((t.length : Int) - 1)) := by show _ = _; unfold okC; rw [hbt.out]; rfl
  clear hTI hTM hgp HGT hwh htr hpb
  obtain ⟨tl, htl⟩ : ∃ tl, Hid (t.length = tl) := ⟨_, rfl⟩
  rw [htl.out] at ht40 p0 p1 HOKE hW0 ⊢
  have htlI : (tl : Int) ≤ 40 := by omega
  go_wp2_with fail
  rw [hW0.out]
  refine (impl_has (.int .i64 0) _ _ _ _ _ _ _ _ (by omega)).mono ?_
  cases hr : inR a 0 ((tl : Int) - 1)
  · rintro e w2 ⟨rfl, hB⟩
    have HB2 : Hid (Below W.heap.size W w2) := HW0.out.trans (hB.mono HW0.out.size)
    have HE : Hid (okC t f l3 a = false) := HOKE.out.trans hr
    clear hB
    go_wp2
    go_ret2
    exact cost_ans_no HE.out HB2.out
  rintro e w2 ⟨rfl, hB⟩
  have HOK : Hid (okC t f l3 a = true) := HOKE.out.trans hr
  obtain ⟨a0, a1'⟩ := inR_out hr
  obtain ⟨x, rfl⟩ : ∃ x : Nat, a = (x : Int) := ⟨a.toNat, by omega⟩
  have hxl : x < tl := by omega
  have hxI : (x : Int) < (tl : Int) := by omega
  have HB2 : Hid (Below W.heap.size W w2) := HW0.out.trans (hB.mono HW0.out.size)
  have p0 := (hB.cell (p := ⟨w1.heap.size, 0, none⟩) (by show w1.heap.size < _; omega)).trans p0
  have p1 := (hB.cell (p := ⟨w1.heap.size, 1, none⟩) (by show w1.heap.size < _; omega)).trans p1
  have p2 := (hB.cell (p := ⟨w1.heap.size, 2, none⟩) (by show w1.heap.size < _; omega)).trans p2
  have HTI2 : Hid (TreeIn w2 t tb to c1 g 0 t.length) := HTI.out.kept hB
  have HTM2 : Hid (TilesM w2 a3 l3 f G) := HTM.out.kept hB
  clear hB hr
  go_wp2_with fail
  refine (impl_least t tl tb to c1 g a3 l3 c3 f G _ htl HTI2 HTM2 HGP hn12).mono ?_
  rintro e w3 ⟨rfl, hR, hB⟩
  have HB3 : Hid (Below W.heap.size W w3) := HB2.out.trans (hB.mono HB2.out.size)
  have cC := hR.cell (i := x * 2 + 1) (by omega)
  rw [cellB_c] at cC
  clear hB hR
  have hbd := HBDD.out x (by rw [htl.out]; exact hxl)
  obtain ⟨c, hc⟩ : ∃ c, Hid ((leastS t f l3 x).2 = c) := ⟨_, rfl⟩
  rw [hc.out] at cC hbd
  by_cases e : c = 0
  · subst e
    go_wp2
    go_ret2
    exact cost_ans HOK.out rfl hc.out rfl HB3.out
  · have hp : 0 < c := by omega
    have HD : Hid (decide (0 < c) = true) := decide_eq_true hp
    have de : decide (c > 0) = true := decide_eq_true hp
    clear hbd
    go_wp2
    go_ret2
    exact cost_ans HOK.out rfl hc.out HD.out HB3.out
end Go.Proofs.Ytapbfoooflpejaa.walks
