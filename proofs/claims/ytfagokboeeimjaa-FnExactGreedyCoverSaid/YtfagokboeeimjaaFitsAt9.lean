/-
  What FitsAt answers on both sides; they make new memory alone.
-/
import Derived.Test.YtfagokboeeimjaaProg
import Derived.Test.YtfagokboeeimjaaMagMath
import Derived.Test.YtfagokboeeimjaaTreeMath
import Derived.Test.YtfagokboeeimjaaFitMath
import Derived.Test.YtfagokboeeimjaaFitSpec
import Derived.Test.YtfagokboeeimjaaHolesImpl
import Derived.Test.YtfagokboeeimjaaTreeSpec
import Derived.Test.YtfagokboeeimjaaTreeImpl
import Derived.Test.YtfagokboeeimjaaPatSpec
import Derived.Test.YtfagokboeeimjaaPatImpl
import Derived.Test.YtfagokboeeimjaaTilesImpl
import Derived.Test.YtfagokboeeimjaaInts
import Derived.Test.YtfagokboeeimjaaOwnInts
import Derived.WalkKit
import Derived.WalkSpells
import Derived.Below
import Derived.Handy
import Derived.Laws.EntriesVeiled
namespace Go.Proofs.Ytfagokboeeimjaa.walks
open Go.RowKit Go.Proofs.Ytfagokboeeimjaa.math Go.Proofs.Ytfagokboeeimjaa.ints
set_option linter.unusedVariables false
set_option maxRecDepth 100000

/-- The place is one of the tree's. -/
def placeB (t : List Int) (at0 : Int) : Bool := inR at0 0 ((t.length : Int) - 1)
def FitsGood (t p : List Int) (c at0 : Int) : Bool := treeB t && placeB t at0 && patB p c
/-- What FitsAt answers. -/
structure FitsR where
  fits : Bool
  hs : List Nat
  good : Bool
def fitsR (t p : List Int) (c at0 : Int) : FitsR := if FitsGood t p c at0 then (match fitL t p at0.toNat with | none => ⟨false, [], true⟩ | some hs => ⟨true, hs, true⟩) else ⟨false, [], false⟩
def FitsAns (r : FitsR) (W : World) (e : Ending) (W' : World) : Prop := ∃ a cp, e = .returned (.tuple #[.bool r.fits, .slice a r.hs.length cp, .bool r.good]) ∧ r.hs.length ≤ 10 ∧ Mine W' W.heap.size a (asI r.hs) ∧ Below W.heap.size W W'
theorem fits_bad {t p : List Int} {c at0 : Int} (h : FitsGood t p c at0 = false) : fitsR t p c at0 = ⟨false, [], false⟩ := by unfold fitsR; rw [h]; rfl
theorem fits_no {t p : List Int} {c at0 : Int} (h : FitsGood t p c at0 = true) (hf : fitL t p at0.toNat = none) : fitsR t p c at0 = ⟨false, [], true⟩ := by unfold fitsR; rw [h, hf]; rfl
theorem fits_yes {t p : List Int} {c at0 : Int} {hs : List Nat} (h : FitsGood t p c at0 = true) (hf : fitL t p at0.toNat = some hs) : fitsR t p c at0 = ⟨true, hs, true⟩ := by unfold fitsR; rw [h, hf]; rfl
theorem mine_nil9 (W : World) (B : Nat) (a : Option Addr) : Mine W B a (asI []) := Or.inl rfl
theorem fit_len {t p : List Int} {at0 : Nat} {hs : List Nat} (hf : fitL t p at0 = some hs) : hs.length ≤ p.length := by
  induction p generalizing at0 hs with
  | nil => simp [fitL] at hf; subst hf; simp
  | cons k ks ih =>
    simp only [fitL] at hf
    split at hf
    · cases q : fitL t ks (at0 + szT false t at0) with
      | none => rw [q] at hf; cases hf
      | some hs' =>
        rw [q] at hf
        simp at hf
        subst hf
        have := ih q
        simp
        exact this
    · split at hf
      · have := ih hf
        simp
        omega
      · cases hf
set_option maxHeartbeats 2000000 in
theorem spec_fitsat (ta : Option Addr) (tl tc : Nat) (at0 : Int) (t : List Int) (ca : Option Addr) (len cc : Nat) (c : Int) (p : List Int) (W : World) (hz : Hid (t.length = tl)) (hlen : tl ≤ 1048576) (hzp : Hid (p.length = len)) (hlp : len ≤ 1048576) (h : Hid (Ints W ta t)) (hp : Hid (Ints W ca p)) :
    Calls Try.prog 19 #[.slice ta tl tc, .int .i64 at0, .agg #[.slice ca len cc, .int .i64 c]] W fun e W' => FitsAns (fitsR t p c at0) W e W' := by
  obtain ⟨X, hX⟩ : ∃ X, Hid (W.alloc (.cells #[.slice ca len cc, .int .i64 c] 38) = X) := ⟨_, rfl⟩
  have HX : Hid (Below W.heap.size W X) := by show Below _ _ _; rw [← hX.out]; repeat (first | exact Below.refl _ _ | refine Below.drew ?_ | refine Below.setCell ?_ (by simp; try omega) _ | refine Below.alloc ?_ (by simp; try omega) _)
  have hXs : X.heap.size = W.heap.size + 1 := by rw [← hX.out]; simp
  have x0 : X.cell? ⟨W.heap.size, 0, none⟩ = some (.slice ca len cc) := by rw [← hX.out]; go_simp
  have x1 : X.cell? ⟨W.heap.size, 1, none⟩ = some (.int .i64 c) := by rw [← hX.out]; go_simp
  have HT : Hid (Ints X ta t) := h.out.kept HX.out
  have HP : Hid (Ints X ca p) := hp.out.kept HX.out
  cases htr : treeB t
  · have HE : Hid (fitsR t p c at0 = ⟨false, [], false⟩) := fits_bad (by unfold FitsGood; rw [htr]; rfl)
    go_enter Try.func19, Try.ntmps19
    go_wp2_with fail
    rw [hX.out]
    refine (spec_tree _ _ _ t _ hz hlen HT).mono ?_
    rw [htr]
    rintro e w1 ⟨rfl, hw⟩
    rw [hw]
    clear hw w1 hX
    go_wp2
    go_ret3
    exact ⟨none, 0, by rw [HE.out]; rfl, by rw [HE.out]; simp, by rw [HE.out]; exact mine_nil9 _ _ _, HX.out⟩
  have ht40 : tl ≤ 40 := by
    unfold treeB at htr
    simp at htr
    have := hz.out
    omega
  have HW : Hid (wholeB false t = true) := by
    unfold treeB at htr
    simp at htr
    exact htr.2
  cases hpl : placeB t at0
  · have HE : Hid (fitsR t p c at0 = ⟨false, [], false⟩) := fits_bad (by unfold FitsGood; rw [htr, hpl]; rfl)
    have hno : at0 < 0 ∨ (tl : Int) ≤ at0 := by
      unfold placeB inR at hpl
      have := of_decide_eq_false hpl
      have := hz.out
      omega
    rcases hno with hno | hno
    · go_enter Try.func19, Try.ntmps19
      go_wp2_with fail
      rw [hX.out]
      refine (spec_tree _ _ _ t _ hz hlen HT).mono ?_
      rw [htr]
      rintro e w1 ⟨rfl, hw⟩
      rw [hw]
      clear hw w1 hX
      go_wp2
      go_ret3
      exact ⟨none, 0, by rw [HE.out]; rfl, by rw [HE.out]; simp, by rw [HE.out]; exact mine_nil9 _ _ _, HX.out⟩
    · have hno0 : 0 ≤ at0 := by omega
      go_enter Try.func19, Try.ntmps19
      go_wp2_with fail
      rw [hX.out]
      refine (spec_tree _ _ _ t _ hz hlen HT).mono ?_
      rw [htr]
      rintro e w1 ⟨rfl, hw⟩
      rw [hw]
      clear hw w1 hX
      go_wp2
      go_ret3
      exact ⟨none, 0, by rw [HE.out]; rfl, by rw [HE.out]; simp, by rw [HE.out]; exact mine_nil9 _ _ _, HX.out⟩
  obtain ⟨an, rfl, han⟩ : ∃ an : Nat, at0 = (an : Int) ∧ an < tl := by
    have := inR_out hpl
    have := hz.out
    exact ⟨at0.toNat, by omega, by omega⟩
  have hanI : (an : Int) < (tl : Int) := by omega
  cases hpb : patB p c
  · have HE : Hid (fitsR t p c (an : Int) = ⟨false, [], false⟩) := fits_bad (by unfold FitsGood; rw [htr, hpl, hpb]; rfl)
    go_enter Try.func19, Try.ntmps19
    go_wp2_with fail
    rw [hX.out]
    refine (spec_tree _ _ _ t _ hz hlen HT).mono ?_
    rw [htr]
    rintro e w1 ⟨rfl, hw⟩
    rw [hw]
    clear hw w1 hX
    go_wp2_with fail
    refine (spec_pat _ _ _ _ p _ hzp hlp HP).mono ?_
    rw [hpb]
    rintro e w2 ⟨rfl, hB⟩
    have HB : Hid (Below W.heap.size W w2) := HX.out.trans (hB.mono (by omega))
    clear hB
    go_wp2
    go_ret3
    exact ⟨none, 0, by rw [HE.out]; rfl, by rw [HE.out]; simp, by rw [HE.out]; exact mine_nil9 _ _ _, HB.out⟩
  have HFG : Hid (FitsGood t p c (an : Int) = true) := by show _ = _; unfold FitsGood; rw [htr, hpl, hpb]; rfl
  have HPO := pat_out hpb
  have hp10 : len ≤ 10 := by have := HPO.1; have := hzp.out; omega
  have HPW : Hid (wholeB true p = true) := HPO.2.2.1
  clear HPO
  go_enter Try.func19, Try.ntmps19
  go_wp2_with fail
  rw [hX.out]
  refine (spec_tree _ _ _ t _ hz hlen HT).mono ?_
  rw [htr]
  rintro e w1 ⟨rfl, hw⟩
  rw [hw]
  clear hw w1 hX
  go_wp2_with fail
  refine (spec_pat _ _ _ _ p _ hzp hlp HP).mono ?_
  rw [hpb]
  rintro e w2 ⟨rfl, hB⟩
  have hs2 := hB.size
  have x0 := (hB.cell (p := ⟨W.heap.size, 0, none⟩) (by show W.heap.size < _; omega)).trans x0
  have x1 := (hB.cell (p := ⟨W.heap.size, 1, none⟩) (by show W.heap.size < _; omega)).trans x1
  have hl2 : W.heap.size < w2.heap.size := by omega
  have HT2 : Hid (Ints w2 ta t) := HT.out.kept hB
  have HP2 : Hid (Ints w2 ca p) := HP.out.kept hB
  have HB : Hid (Below W.heap.size W w2) := HX.out.trans (hB.mono (by omega))
  clear hB
  go_wp2_with fail
  refine (spec_fits _ _ _ an t _ _ _ _ p _ hz ht40 hzp hp10 HT2 HP2 HW HPW han).mono ?_
  rintro e w3 ⟨hq, hB3⟩
  have HB3 : Hid (Below W.heap.size W w3) := HB.out.trans (hB3.mono HB.out.size)
  obtain ⟨ok, hs, a, cp, rfl, hm, HE⟩ : ∃ ok hs a cp, e = .returned (.tuple #[.slice a hs.length cp, .bool ok]) ∧ Mine w3 W.heap.size a (asI hs) ∧ Hid (fitsR t p c (an : Int) = ⟨ok, hs, true⟩ ∧ hs.length ≤ 10) := by
    rcases hq with ⟨h1, rfl⟩ | ⟨hs, v, h1, rfl, ho⟩
    · exact ⟨false, [], none, 0, rfl, mine_nil9 _ _ _, fits_no HFG.out h1, by simp⟩
    · obtain ⟨a, cp, rfl, hm⟩ := ints.Own.mine ho
      refine ⟨true, hs, a, cp, by rw [asI_len], mine_down hm (by omega), fits_yes HFG.out h1, ?_⟩
      have := fit_len h1
      have := hzp.out
      omega
  have HM : Hid (Mine w3 W.heap.size a (asI hs)) := hm
  clear hq hB3 hm
  go_wp2
  go_ret3
  exact ⟨a, cp, by rw [HE.out.1]; rfl, by rw [HE.out.1]; exact HE.out.2, by rw [HE.out.1]; exact HM.out, HB3.out⟩
end Go.Proofs.Ytfagokboeeimjaa.walks
