/-
  What the program's cut and holesAt answer; they make new memory alone.
-/
import Derived.Test.YtapbfoooflpejaaProg
import Derived.Test.YtapbfoooflpejaaMagMath
import Derived.Test.YtapbfoooflpejaaTreeMath
import Derived.Test.YtapbfoooflpejaaFitMath
import Derived.Test.YtapbfoooflpejaaFitSpec
import Derived.Test.YtapbfoooflpejaaFitImpl
import Derived.Test.YtapbfoooflpejaaTilesImpl
import Derived.Test.YtapbfoooflpejaaInts
import Derived.Test.YtapbfoooflpejaaOwnInts
import Derived.WalkKit
import Derived.WalkSpells
import Derived.Below
import Derived.Handy
import Derived.OwnWalk
import Derived.Laws.EntriesVeiled
import Derived.Deep.RegionHeld3
namespace Go.Proofs.Ytapbfoooflpejaa.walks
open Go.RowKit Go.Proofs.Ytapbfoooflpejaa.math Go.Proofs.Ytapbfoooflpejaa.ints
set_option linter.unusedVariables false
set_option maxRecDepth 100000

/-- A tree in memory, and its sizes. -/
structure TreeIn (w : World) (t : List Int) (tb to tc sb so sc : Nat) : Prop where
  whole : wholeB false t = true
  le : t.length ≤ 40
  cap : t.length ≤ tc
  capm : tc ≤ maxLen
  scap : t.length ≤ sc
  scapm : sc ≤ maxLen
  tlt : tb < w.heap.size
  slt : sb < w.heap.size
  kind : ∀ i, i < t.length → w.cell? ⟨tb, to + i, none⟩ = some (.int .i64 (t.getD i 0))
  size : ∀ i, i < t.length → w.cell? ⟨sb, so + i, none⟩ = some (.int .i64 (szT false t i : Int))
theorem TreeIn.kept {w w' : World} {t : List Int} {tb to tc sb so sc : Nat} (h : TreeIn w t tb to tc sb so sc) (hb : Below w.heap.size w w') : TreeIn w' t tb to tc sb so sc :=
  ⟨h.whole, h.le, h.cap, h.capm, h.scap, h.scapm, Nat.lt_of_lt_of_le h.tlt hb.size, Nat.lt_of_lt_of_le h.slt hb.size, fun i hi => (hb.cell (p := ⟨tb, to + i, none⟩) h.tlt).trans (h.kind i hi), fun i hi => (hb.cell (p := ⟨sb, so + i, none⟩) h.slt).trans (h.size i hi)⟩
/-- .. as a value. -/
def treeV (t : List Int) (tb to tc sb so sc : Nat) : Value := .agg #[.slice (some ⟨tb, to, none⟩) t.length tc, .slice (some ⟨sb, so, none⟩) t.length sc]
set_option maxHeartbeats 1000000 in
theorem impl_cut (t : List Int) (tb to tc sb so sc at0 len s : Nat) (W : World) (h : Hid (TreeIn W t tb to tc sb so sc)) (hz : Hid (t.length = len)) (hat : at0 < len) (hs : Hid (szT false t at0 = s)) :
    Calls Try.prog 49 #[.agg #[.slice (some ⟨tb, to, none⟩) len tc, .slice (some ⟨sb, so, none⟩) len sc], .int .i64 (at0 : Int)] W fun e W' => e = .returned (.agg #[.slice (some ⟨tb, to + at0, none⟩) s s, .slice (some ⟨sb, so + at0, none⟩) s s]) ∧ Below W.heap.size W W' := by
  have hl := sz_le (whole_each h.out.whole (i := at0) (by rw [hz.out]; exact hat)) (by rw [hz.out]; omega)
  rw [hs.out, hz.out] at hl
  have hc := h.out.size at0 (by rw [hz.out]; exact hat)
  rw [hs.out] at hc
  have h1 := h.out.cap
  have h2 := h.out.scap
  have h3 := h.out.capm
  have h4 := h.out.scapm
  have h5 := h.out.le
  have hsb := h.out.slt
  rw [hz.out] at h1 h2 h5
  unfold maxLen at h3 h4
  obtain ⟨l1, l2⟩ := hl
  have q1 : (at0 : Int) < (len : Int) := by omega
  have q2 : (at0 : Int) + (s : Int) ≤ (tc : Int) := by omega
  have q3 : (at0 : Int) + (s : Int) ≤ (sc : Int) := by omega
  have q4 : (at0 : Int) + (s : Int) ≤ (len : Int) := by omega
  go_enter Try.func49, Try.ntmps49
  go_wp2_with fail
  have q5 : (0 : Int) ≤ (at0 : Int) := by omega
  have q6 : (at0 : Int) ≤ (at0 : Int) + (s : Int) := by omega
  have q7 : ((at0 : Int) + (s : Int)).toNat = at0 + s := by omega
  have q8 : (at0 : Int) ≤ (tc : Int) := by omega
  have q9 : (at0 : Int) ≤ (sc : Int) := by omega
  have hs0 : ¬ s = 0 := by omega
  clear hc h1 h2 h3 h4 h5
  go_region_held3 (fun w' => w'.cell? ⟨W.heap.size, 0, none⟩ = some (.slice (some ⟨tb, to, none⟩) len tc) ∧ w'.cell? ⟨W.heap.size, 1, none⟩ = some (.slice (some ⟨sb, so, none⟩) len sc)) (first | assumption | go_keep | (refine ⟨?_, ?_⟩ <;> go_simp)) (fail)
  go_wp2
  exact bodyPost_ret (v := .agg #[.slice (some ⟨tb, to + at0, none⟩) s s, .slice (some ⟨sb, so + at0, none⟩) s s]) (by simp only [results, Try.results49]; go_simp) rfl ⟨rfl, by show Below _ _ _; exact Below.drew (by go_grown)⟩
theorem bel3 {B : Nat} {X Y Z : World} (hB : B ≤ X.heap.size) (h : Below X.heap.size X Y) (k : Below Y.heap.size Y Z) : Below B X Z := (h.trans (k.mono h.size)).mono hB
/-- What the function of a pattern answers, the memory aside. -/
def RelOr (t p : List Int) (at0 : Nat) (W : World) (e : Ending) (W' : World) : Prop := fitL t p at0 = none ∧ e = .returned (.tuple #[.slice none 0 0, .bool false]) ∨ ∃ hs v, fitL t p at0 = some hs ∧ hs.length ≤ 10 ∧ e = .returned (.tuple #[v, .bool true]) ∧ ints.Own W' W.heap.size v (relI at0 hs)
theorem shape_at (t p : List Int) (tb to tc sb so sc at0 len s g : Nat) (ca : Option Addr) (pl cc : Nat) (W : World) (h : TreeIn W t tb to tc sb so sc) (hz : Hid (t.length = len)) (hat : at0 < len) (hs : Hid (szT false t at0 = s)) (hg : g < W.heap.size) (hbox : W.cell? ⟨g, 0, none⟩ = some (.slice ca pl cc)) (hp : Ints W ca p) (hzp : Hid (p.length = pl)) (hlp : pl ≤ 10) (hw : Hid (wholeB true p = true)) :
    Calls Try.prog 54 #[.agg #[.slice (some ⟨tb, to + at0, none⟩) s s, .slice (some ⟨sb, so + at0, none⟩) s s], .pointer (some ⟨g, 0, none⟩)] W fun e W' => RelOr t p at0 W e W' ∧ Below W.heap.size W W' := by
  have hl := sz_le (whole_each h.whole (i := at0) (by rw [hz.out]; exact hat)) (by rw [hz.out]; omega)
  rw [hs.out] at hl
  exact impl_shape1 tb (to + at0) sb (so + at0) s at0 g s s t p ca pl cc W (fun i hi => by rw [Nat.add_assoc]; exact h.kind _ (by omega)) (fun i hi => by rw [Nat.add_assoc]; exact h.size _ (by omega)) h.tlt h.slt hg hbox hp hzp hlp h.whole hw (by rw [hz.out]; exact hat) h.le hs
theorem shape_none {t p : List Int} {at0 : Nat} (hf : fitL t p at0 = none) (tb to tc sb so sc len s g : Nat) (ca : Option Addr) (pl cc : Nat) (W : World) (h : TreeIn W t tb to tc sb so sc) (hz : Hid (t.length = len)) (hat : at0 < len) (hs : Hid (szT false t at0 = s)) (hg : g < W.heap.size) (hbox : W.cell? ⟨g, 0, none⟩ = some (.slice ca pl cc)) (hp : Ints W ca p) (hzp : Hid (p.length = pl)) (hlp : pl ≤ 10) (hw : Hid (wholeB true p = true)) :
    Calls Try.prog 54 #[.agg #[.slice (some ⟨tb, to + at0, none⟩) s s, .slice (some ⟨sb, so + at0, none⟩) s s], .pointer (some ⟨g, 0, none⟩)] W fun e W' => e = .returned (.tuple #[.slice none 0 0, .bool false]) ∧ Below W.heap.size W W' :=
  (shape_at t p tb to tc sb so sc at0 len s g ca pl cc W h hz hat hs hg hbox hp hzp hlp hw).mono fun e W' ⟨hq, hb⟩ => by
    rcases hq with ⟨_, rfl⟩ | ⟨hs', v, h1, _⟩
    · exact ⟨rfl, hb⟩
    · rw [hf] at h1; cases h1
theorem shape_some {t p : List Int} {at0 : Nat} {hs' : List Nat} (hf : fitL t p at0 = some hs') (tb to tc sb so sc len s g : Nat) (ca : Option Addr) (pl cc : Nat) (W : World) (h : TreeIn W t tb to tc sb so sc) (hz : Hid (t.length = len)) (hat : at0 < len) (hs : Hid (szT false t at0 = s)) (hg : g < W.heap.size) (hbox : W.cell? ⟨g, 0, none⟩ = some (.slice ca pl cc)) (hp : Ints W ca p) (hzp : Hid (p.length = pl)) (hlp : pl ≤ 10) (hw : Hid (wholeB true p = true)) :
    Calls Try.prog 54 #[.agg #[.slice (some ⟨tb, to + at0, none⟩) s s, .slice (some ⟨sb, so + at0, none⟩) s s], .pointer (some ⟨g, 0, none⟩)] W fun e W' => ∃ a c, e = .returned (.tuple #[.slice a hs'.length c, .bool true]) ∧ Mine W' W.heap.size a (relI at0 hs') ∧ hs'.length ≤ 10 ∧ Below W.heap.size W W' :=
  (shape_at t p tb to tc sb so sc at0 len s g ca pl cc W h hz hat hs hg hbox hp hzp hlp hw).mono fun e W' ⟨hq, hb⟩ => by
    rcases hq with ⟨h1, _⟩ | ⟨h2, v, h1, hl, rfl, ho⟩
    · rw [hf] at h1; cases h1
    · rw [hf] at h1
      cases h1
      obtain ⟨a, c, rfl, hm⟩ := ints.Own.mine ho
      rw [relI_len]
      exact ⟨a, c, rfl, hm, hl, hb⟩
def HolesAns (t p : List Int) (at0 : Nat) (W : World) (e : Ending) (W' : World) : Prop := (fitL t p at0 = none ∧ e = .returned (.tuple #[.slice none 0 0, .bool false]) ∨ ∃ hs a c, fitL t p at0 = some hs ∧ hs.length ≤ 10 ∧ e = .returned (.tuple #[.slice a hs.length c, .bool true]) ∧ Mine W' W.heap.size a (asI hs)) ∧ Below W.heap.size W W'
set_option maxHeartbeats 2000000 in
theorem impl_holes (t p : List Int) (tb to tc sb so sc at0 len g : Nat) (c nm : Int) (ca : Option Addr) (pl cc : Nat) (W : World) (h : Hid (TreeIn W t tb to tc sb so sc)) (hz : Hid (t.length = len)) (hat : at0 < len) (hg : g < W.heap.size) (hbox : W.cell? ⟨g, 0, none⟩ = some (.slice ca pl cc)) (hp : Hid (Ints W ca p)) (hzp : Hid (p.length = pl)) (hlp : pl ≤ 10) (hw : Hid (wholeB true p = true)) :
    Calls Try.prog 41 #[.agg #[.func (.func 54) #[] #[.pointer (some ⟨g, 0, none⟩)], .int .i64 c, .int .i64 nm], .agg #[.slice (some ⟨tb, to, none⟩) len tc, .slice (some ⟨sb, so, none⟩) len sc], .int .i64 (at0 : Int)] W fun e W' => HolesAns t p at0 W e W' := by
  obtain ⟨s, hs⟩ : ∃ s, Hid (szT false t at0 = s) := ⟨_, rfl⟩
  go_enter Try.func41, Try.ntmps41
  go_wp2_with fail
  obtain ⟨X, hX⟩ : ∃ X, Hid ((W.alloc (.cells #[.func (.func 54) #[] #[.pointer (some ⟨g, 0, none⟩)], .int .i64 c, .int .i64 nm] 86)).alloc (.cells #[.slice (some ⟨tb, to, none⟩) len tc, .slice (some ⟨sb, so, none⟩) len sc] 53) = X) := ⟨_, rfl⟩
  have HX : Hid (Below W.heap.size W X) := by show Below _ _ _; rw [← hX.out]; repeat (first | exact Below.refl _ _ | refine Below.drew ?_ | refine Below.setCell ?_ (by simp; try omega) _ | refine Below.alloc ?_ (by simp; try omega) _)
  have hXs : X.heap.size = W.heap.size + 1 + 1 := by rw [← hX.out]; simp
  have x0 : X.cell? ⟨W.heap.size, 0, none⟩ = some (.func (.func 54) #[] #[.pointer (some ⟨g, 0, none⟩)]) := by rw [← hX.out]; go_simp
  have y0 : X.cell? ⟨W.heap.size + 1, 0, none⟩ = some (.slice (some ⟨tb, to, none⟩) len tc) := by rw [← hX.out]; go_simp
  have y1 : X.cell? ⟨W.heap.size + 1, 1, none⟩ = some (.slice (some ⟨sb, so, none⟩) len sc) := by rw [← hX.out]; go_simp
  have HT : Hid (TreeIn X.drew t tb to tc sb so sc) := h.out.kept HX.out.drew
  have HP : Hid (Ints X.drew ca p) := hp.out.kept HX.out.drew
  have HBX : Hid (X.drew.cell? ⟨g, 0, none⟩ = some (.slice ca pl cc)) := (HX.out.drew.cell (p := ⟨g, 0, none⟩) hg).trans hbox
  have HDB : Hid (Below W.heap.size W X.drew) := HX.out.drew
  have hDs : X.drew.heap.size = W.heap.size + 1 + 1 := hXs
  have z0 : X.drew.cell? ⟨W.heap.size, 0, none⟩ = some (.func (.func 54) #[] #[.pointer (some ⟨g, 0, none⟩)]) := x0
  have u0 : X.drew.cell? ⟨W.heap.size + 1, 0, none⟩ = some (.slice (some ⟨tb, to, none⟩) len tc) := y0
  have u1 : X.drew.cell? ⟨W.heap.size + 1, 1, none⟩ = some (.slice (some ⟨sb, so, none⟩) len sc) := y1
  rw [hX.out]
  clear hX hbox HX
  cases hfit : fitL t p at0 with
  | none =>
    have HN : Hid (fitL t p at0 = none) := hfit
    go_region_held3 (fun w' => w'.cell? ⟨W.heap.size, 0, none⟩ = some (.func (.func 54) #[] #[.pointer (some ⟨g, 0, none⟩)]) ∧ w'.cell? ⟨W.heap.size + 1, 0, none⟩ = some (.slice (some ⟨tb, to, none⟩) len tc) ∧ w'.cell? ⟨W.heap.size + 1, 1, none⟩ = some (.slice (some ⟨sb, so, none⟩) len sc)) (first | assumption | exact ⟨x0, y0, y1⟩ | exact ⟨z0, u0, u1⟩ | exact ⟨v0, v1, v2⟩ | exact ⟨s0, s1, s2⟩ | go_keep) (first
      | (go_at_call 49; refine (impl_cut t tb to tc sb so sc at0 len s _ HT hz hat hs).mono ?_; rintro e w1 ⟨rfl, hb1⟩; have v0 := (hb1.cell (p := ⟨W.heap.size, 0, none⟩) (by show W.heap.size < _; omega)).trans z0; have v1 := (hb1.cell (p := ⟨W.heap.size + 1, 0, none⟩) (by show W.heap.size + 1 < _; omega)).trans u0; have v2 := (hb1.cell (p := ⟨W.heap.size + 1, 1, none⟩) (by show W.heap.size + 1 < _; omega)).trans u1; have HB1 : Hid (Below X.drew.heap.size X.drew w1) := hb1; clear hb1)
      | (go_at_call 54; refine (shape_none HN.out tb to tc sb so sc len s g ca pl cc _ (HT.out.kept HB1.out) hz hat hs (Nat.lt_of_lt_of_le (by omega) HB1.out.size) ((HB1.out.cell (p := ⟨g, 0, none⟩) (by show g < _; omega)).trans HBX.out) (HP.out.kept HB1.out) hzp hlp hw).mono ?_; rintro e w2 ⟨rfl, hb2⟩; have s0 := (hb2.cell (p := ⟨W.heap.size, 0, none⟩) (by show W.heap.size < _; have := HB1.out.size; omega)).trans v0; have s1 := (hb2.cell (p := ⟨W.heap.size + 1, 0, none⟩) (by show W.heap.size + 1 < _; have := HB1.out.size; omega)).trans v1; have s2 := (hb2.cell (p := ⟨W.heap.size + 1, 1, none⟩) (by show W.heap.size + 1 < _; have := HB1.out.size; omega)).trans v2; have HB2 : Hid (Below W.heap.size W w2) := HDB.out.trans (bel3 (by omega) HB1.out hb2); clear hb2))
    go_wp2_with fail
    go_loopw [22] (fun vi wr => vi = .int .i64 0 ∧ wr = w2) (fun vi _ => 1)
    case atStart => exact ⟨rfl, rfl⟩
    case round =>
      obtain ⟨rfl, rfl⟩ := hrel
      go_wp2
      go_ret2
      exact ⟨Or.inl ⟨HN.out, rfl⟩, HB2.out⟩
  | some hl =>
    have HN : Hid (fitL t p at0 = some hl) := hfit
    go_region_held3 (fun w' => w'.cell? ⟨W.heap.size, 0, none⟩ = some (.func (.func 54) #[] #[.pointer (some ⟨g, 0, none⟩)]) ∧ w'.cell? ⟨W.heap.size + 1, 0, none⟩ = some (.slice (some ⟨tb, to, none⟩) len tc) ∧ w'.cell? ⟨W.heap.size + 1, 1, none⟩ = some (.slice (some ⟨sb, so, none⟩) len sc)) (first | assumption | exact ⟨x0, y0, y1⟩ | exact ⟨z0, u0, u1⟩ | exact ⟨v0, v1, v2⟩ | exact ⟨s0, s1, s2⟩ | go_keep) (first
      | (go_at_call 49; refine (impl_cut t tb to tc sb so sc at0 len s _ HT hz hat hs).mono ?_; rintro e w1 ⟨rfl, hb1⟩; have v0 := (hb1.cell (p := ⟨W.heap.size, 0, none⟩) (by show W.heap.size < _; omega)).trans z0; have v1 := (hb1.cell (p := ⟨W.heap.size + 1, 0, none⟩) (by show W.heap.size + 1 < _; omega)).trans u0; have v2 := (hb1.cell (p := ⟨W.heap.size + 1, 1, none⟩) (by show W.heap.size + 1 < _; omega)).trans u1; have HB1 : Hid (Below X.drew.heap.size X.drew w1) := hb1; clear hb1)
      | (go_at_call 54; refine (shape_some HN.out tb to tc sb so sc len s g ca pl cc _ (HT.out.kept HB1.out) hz hat hs (Nat.lt_of_lt_of_le (by omega) HB1.out.size) ((HB1.out.cell (p := ⟨g, 0, none⟩) (by show g < _; omega)).trans HBX.out) (HP.out.kept HB1.out) hzp hlp hw).mono ?_; rintro e w2 ⟨va, vc, rfl, hm2, hl2, hb2⟩; have s0 := (hb2.cell (p := ⟨W.heap.size, 0, none⟩) (by show W.heap.size < _; have := HB1.out.size; omega)).trans v0; have s1 := (hb2.cell (p := ⟨W.heap.size + 1, 0, none⟩) (by show W.heap.size + 1 < _; have := HB1.out.size; omega)).trans v1; have s2 := (hb2.cell (p := ⟨W.heap.size + 1, 1, none⟩) (by show W.heap.size + 1 < _; have := HB1.out.size; omega)).trans v2; have HB2 : Hid (Below W.heap.size W w2) := HDB.out.trans (bel3 (by omega) HB1.out hb2); have HM2 : Hid (Mine w2 w1.heap.size va (relI at0 hl)) := hm2; have hW1s : W.heap.size ≤ w1.heap.size := Nat.le_trans (by omega) HB1.out.size; clear hb2 hm2))
    have HBD : Hid (∀ h ∈ hl, at0 ≤ h ∧ h < 40) := fun x hx => by
      have := fit_in h.out.whole hw.out (by rw [hz.out]; exact hat) hfit x hx
      have := h.out.le
      omega
    obtain ⟨nl, hnl⟩ : ∃ nl, Hid (hl.length = nl) := ⟨_, rfl⟩
    rw [hnl.out] at hl2 ⊢
    clear s0 s1 s2 v0 v1 v2 z0 u0 u1 x0 y0 y1 hfit HT HP HBX
    go_wp2_with fail
    by_cases hn0 : nl = 0
    · have hn0I : (nl : Int) ≤ 0 := by omega
      go_loopw [22] (fun vi wr => vi = .int .i64 0 ∧ wr = w2) (fun vi _ => 1)
      case atStart => exact ⟨rfl, rfl⟩
      case round =>
        obtain ⟨rfl, rfl⟩ := hrel
        go_wp2
        go_ret2
        exact ⟨Or.inr ⟨hl, va, vc, HN.out, by rw [hnl.out]; omega, by rw [hnl.out]; rfl, Or.inl (List.eq_nil_of_length_eq_zero (by rw [asI_len, hnl.out]; exact hn0))⟩, HB2.out⟩
    obtain ⟨b, off, ha, hBb, hbl, HC⟩ : ∃ b off, va = some ⟨b, off, none⟩ ∧ w1.heap.size ≤ b ∧ b < w2.heap.size ∧ Hid (∀ i, i < nl → w2.cell? ⟨b, off + i, none⟩ = some (.int .i64 ((hl.getD i 0 : Int) - (at0 : Int))) ∧ w2.frozen? ⟨b, off + i, none⟩ = false) := by
      rcases HM2.out with e | ⟨b, off, e, h1, h2, h3⟩
      · have := relI_len at0 hl; rw [e] at this; simp at this; have := hnl.out; omega
      · refine ⟨b, off, e, h1, h2, fun i hi => ?_⟩
        have q := h3 i (by rw [relI_len, hnl.out]; exact hi)
        have e2 : (relI at0 hl).getD i 0 = (hl.getD i 0 : Int) - (at0 : Int) := by
          have : i < hl.length := by rw [hnl.out]; exact hi
          simp [relI, List.getD, List.getElem?_eq_getElem this]
        rw [e2] at q
        exact q
    subst ha
    go_loopw [22] (fun vi wr => ∃ k : Nat, k ≤ nl ∧ vi = .int .i64 (k : Int) ∧ Hid (∀ i, i < nl → wr.cell? ⟨b, off + i, none⟩ = some (.int .i64 (if i < k then (hl.getD i 0 : Int) else (hl.getD i 0 : Int) - (at0 : Int))) ∧ wr.frozen? ⟨b, off + i, none⟩ = false) ∧ Hid (Below W.heap.size W wr) ∧ Hid (wr.heap.size = w2.heap.size)) (fun vi _ => nl - (intOf vi).toNat)
    case atStart => exact ⟨0, Nat.zero_le _, rfl, fun i hi => by rw [if_neg (by omega)]; exact HC.out i hi, HB2, rfl⟩
    case round =>
      obtain ⟨k, hk, rfl, HR, HB, HS⟩ := hrel
      by_cases hlt : k < nl
      · obtain ⟨d0, d1⟩ := HR.out k hlt
        rw [if_neg (by omega)] at d0
        have hb40 := HBD.out (hl.getD k 0) (by
          have : k < hl.length := by rw [hnl.out]; exact hlt
          simp [List.getD, List.getElem?_eq_getElem this])
        obtain ⟨x, hx⟩ : ∃ x : Nat, Hid (hl.getD k 0 = x) := ⟨_, rfl⟩
        rw [hx.out] at d0 hb40
        have hltI : (k : Int) < (nl : Int) := by omega
        have e1 : (x : Int) - (at0 : Int) + (at0 : Int) = (x : Int) := by omega
        have b1 : (0 : Int) ≤ (x : Int) - (at0 : Int) := by omega
        have b2 : (x : Int) < 40 := by omega
        have b3 : (at0 : Int) < 40 := by omega
        go_wp2
        go_roundw
        case rel =>
          refine ⟨k + 1, by omega, by go_num, ?_, ?_, ?_⟩
          · show ∀ i, i < nl → _
            intro i hi
            obtain ⟨f0, f1⟩ := HR.out i hi
            refine ⟨?_, by simpa using f1⟩
            by_cases e : i = k
            · subst e
              rw [World.cell?_setCell_same _ _ _ d0, if_pos (by omega), hx.out]
            · rw [World.cell?_setCell_other _ _ _ _ (by simp; try omega), f0]
              by_cases e2 : i < k
              · rw [if_pos e2, if_pos (by omega)]
              · rw [if_neg e2, if_neg (by omega)]
          · exact HB.out.setCell (by show W.heap.size ≤ b; omega) _
          · show (World.setCell _ _ _).heap.size = _
            rw [← HS.out]; simp [World.setCell]
        case measure => simp [intOf]; omega
      · have HKN : Hid (k = nl) := by show k = nl; omega
        go_wp2
        go_ret2
        refine ⟨Or.inr ⟨hl, _, vc, HN.out, by rw [hnl.out]; omega, by rw [hnl.out]; rfl, Or.inr ⟨b, off, rfl, by omega, by have := HS.out; omega, fun i hi => ?_⟩⟩, HB.out⟩
        rw [asI_len, hnl.out] at hi
        obtain ⟨f0, f1⟩ := HR.out i hi
        refine ⟨?_, f1⟩
        rw [f0, if_pos (by have := HKN.out; omega)]
        have : i < hl.length := by rw [hnl.out]; exact hi
        simp [asI, List.getD, List.getElem?_eq_getElem this]
end Go.Proofs.Ytapbfoooflpejaa.walks
