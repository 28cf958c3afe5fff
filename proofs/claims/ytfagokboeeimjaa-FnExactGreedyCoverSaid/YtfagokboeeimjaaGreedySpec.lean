/-
  What the specification's GreedyCover answers; it makes new memory alone.
-/
import Derived.Test.YtfagokboeeimjaaProg
import Derived.Test.YtfagokboeeimjaaGreedyMath
import Derived.Test.YtfagokboeeimjaaPiecesSpec
import Derived.Test.YtfagokboeeimjaaWeightSpec
import Derived.Test.YtfagokboeeimjaaIsCoverSpec
import Derived.Test.YtfagokboeeimjaaGreedyImpl
import Derived.Test.YtfagokboeeimjaaPiecesFlat
import Derived.Deep.QuietTactic
import Derived.BigQuiet
namespace Go.Proofs.Ytfagokboeeimjaa.walks
open Go.RowKit Go.Proofs.Ytfagokboeeimjaa.math Go.Proofs.Ytfagokboeeimjaa.ints
set_option linter.unusedVariables false
set_option maxRecDepth 100000

/-- The specification's choice among the first k. -/
def kS (t : List Int) (f : Nat → Pv) (a k : Nat) : Int := if 0 < (grTo t f a k).2 then ((grTo t f a k).1 : Int) else -1
theorem kS_out (t : List Int) (f : Nat → Pv) (n a : Nat) : kS t f a n = match chG t f n a with | none => -1 | some k => (k : Int) := by
  unfold kS chG
  split <;> rfl
/-- The choices for the first m places. -/
def bsTo (t : List Int) (f : Nat → Pv) (n m : Nat) : List Int := (List.range m).map fun a => kS t f a n
theorem bs_len (t : List Int) (f : Nat → Pv) (n m : Nat) : (bsTo t f n m).length = m := by simp [bsTo]
theorem bs_snoc (t : List Int) (f : Nat → Pv) (n m : Nat) : bsTo t f n (m + 1) = bsTo t f n m ++ [kS t f m n] := by simp [bsTo, List.range_succ]
theorem bs_ch (t : List Int) (f : Nat → Pv) (n m : Nat) : ChI (bsTo t f n m) (chG t f n) m := fun a ha => by
  refine Eq.trans ?_ (kS_out t f n a)
  simp [bsTo, List.getD, ha]
theorem kS_none {t : List Int} {f : Nat → Pv} {a k : Nat} (h : (grTo t f a k).2 = 0) : kS t f a k = -1 := if_neg (by omega)
theorem kS_some {t : List Int} {f : Nat → Pv} {a k g : Nat} (h : 0 < (grTo t f a k).2) (hg : (grTo t f a k).1 = g) : kS t f a k = (g : Int) := by unfold kS; rw [if_pos h, hg]
theorem kS_same {t : List Int} {f : Nat → Pv} {a k k' : Nat} (h : grTo t f a k' = grTo t f a k) : kS t f a k' = kS t f a k := by unfold kS; rw [h]
theorem row_kept9 {w w' : World} {B size m : Nat} {ty : TypeId} {v : Value} {L : List Value} (h : w.ownsRow B ty size v m L) (hb : Below w.heap.size w w') : w'.ownsRow B ty size v m L :=
  World.ownsRow.kept h (row := none) ⟨hb.os, hb.tape, hb.output, hb.size, fun i hi _ => hb.block i hi⟩ (by
    cases q : v.ownBlock with
    | none => exact Or.inl rfl
    | some g => exact Or.inr (by simp))
set_option maxHeartbeats 4000000 in
theorem spec_greedy (ta : Option Addr) (tl tc : Nat) (t : List Int) (la : Option Addr) (n lc : Nat) (f : Nat → Pv) (W : World) (hz : Hid (t.length = tl)) (hlen : tl ≤ 1048576) (hn : n ≤ 1048576) (hl : Hid (∀ k, k < n → (f k).zs.length ≤ 1048576)) (hti : Hid (Ints W ta t)) (hps : Hid (Pats W la n f)) :
    Calls Try.prog 36 #[.slice ta tl tc, .slice la n lc] W fun e W' => GrAns f (grO t f n) W e W' := by
  cases htr : treeB t
  · have HE : Hid (grO t f n = none) := grO_bad (by rw [htr]; rfl)
    go_enter Try.func36, Try.ntmps36
    go_wp2_with fail
    refine (spec_tree _ _ _ t _ hz hlen hti).mono ?_
    rw [htr]
    rintro e w1 ⟨rfl, hw⟩
    rw [hw]
    clear hw w1
    go_wp2
    go_ret3
    exact ⟨Below.refl _ _, Or.inl ⟨HE.out, rfl⟩⟩
  cases hpb : patsB f n
  · have HE : Hid (grO t f n = none) := grO_bad (by rw [hpb]; simp)
    go_enter Try.func36, Try.ntmps36
    go_wp2_with fail
    refine (spec_tree _ _ _ t _ hz hlen hti).mono ?_
    rw [htr]
    rintro e w1 ⟨rfl, hw⟩
    rw [hw]
    clear hw w1
    go_wp2_with fail
    refine (spec_pats _ _ _ f _ hn hl hps).mono ?_
    rw [hpb]
    rintro e w1 ⟨rfl, hB⟩
    have HB : Hid (Below W.heap.size W w1) := hB
    clear hB
    go_wp2
    go_ret3
    exact ⟨HB.out, Or.inl ⟨HE.out, rfl⟩⟩
  have HGO : Hid (grO t f n = pcs t f (chG t f n) [0]) := grO_yes (by rw [htr, hpb]; rfl)
  have hwh : wholeB false t = true := by unfold treeB at htr; simp at htr; exact htr.2
  have ht40 : tl ≤ 40 := by unfold treeB at htr; simp at htr; have := hz.out; omega
  have ht1 : 0 < tl := by have := (whole_iff.1 hwh).1; have := hz.out; omega
  obtain ⟨hn12, hgp⟩ := good_of hpb
  have HGP : Hid (GoodPs f n) := hgp
  have HWH : Hid (wholeB false t = true) := hwh
  clear hgp hwh
  go_enter Try.func36, Try.ntmps36
  go_wp2_with fail
  refine (spec_tree _ _ _ t _ hz hlen hti).mono ?_
  rw [htr]
  rintro e w1 ⟨rfl, hw⟩
  rw [hw]
  clear hw w1
  go_wp2_with fail
  refine (spec_pats _ _ _ f _ hn hl hps).mono ?_
  rw [hpb]
  rintro e w1 ⟨rfl, hB⟩
  have HB1 : Hid (Below W.heap.size W w1) := hB
  clear hB
  obtain ⟨i0, hi, hz0, hz1, hz2⟩ := info_parts row_info
  go_wp2_with fail
  have HTI1 : Hid (Ints w1 ta t) := hti.out.kept HB1.out
  go_loopw [7, 26] (fun vb vi wr => ∃ (a : Nat) (v : Value), a ≤ tl ∧ vi = .int .i64 (a : Int) ∧ vb = v ∧ Hid (ints.Own wr W.heap.size v (bsTo t f n a)) ∧ Hid (Below W.heap.size W wr)) (fun _ vi _ => tl - (intOf vi).toNat)
  case atStart => exact ⟨0, _, Nat.zero_le _, rfl, rfl, World.ownsRow_nil _ _ _ _, HB1⟩
  case round =>
    obtain ⟨a, v, ha, rfl, hv, HO, HB⟩ := hrel
    have hv := hv.symm
    subst hv
    by_cases hlt : a < tl
    · have hltI : (a : Int) < (tl : Int) := by omega
      obtain ⟨wo, rfl⟩ : ∃ wo, wo = wr := ⟨_, rfl⟩
      go_wp2_with fail
      go_loopw [9, 31] (fun vk vi wr => ∃ (j : Nat), j ≤ n ∧ vi = .int .i64 (j : Int) ∧ vk = .int .i64 (kS t f a j) ∧ Hid (Below wo.heap.size wo wr)) (fun _ vi _ => n - (intOf vi).toNat)
      case atStart => exact ⟨0, Nat.zero_le _, rfl, rfl, Below.refl _ _⟩
      case round =>
        obtain ⟨j, hj, rfl, rfl, HB2⟩ := hrel
        obtain ⟨ks, hks⟩ : ∃ ks, Hid (kS t f a j = ks) := ⟨_, rfl⟩
        rw [hks.out]
        by_cases hjn : j < n
        · have hjI : (j : Int) < (n : Int) := by omega
          have HBW : Hid (Below W.heap.size W wr) := HB.out.trans (HB2.out.mono HB.out.size)
          obtain ⟨lb, lo, ca, cc, hla, hlb, l0, l1, hI⟩ := pat_at hps.out HBW.out hjn
          subst hla
          obtain ⟨gl, gz, gw, gc0, gc1⟩ := HGP.out j hjn
          obtain ⟨X, hX⟩ : ∃ X, Hid (wr.alloc (.cells #[.slice ca (f j).zs.length cc, .int .i64 (f j).c] 38) = X) := ⟨_, rfl⟩
          have HX : Hid (Below wr.heap.size wr X) := by show Below _ _ _; rw [← hX.out]; repeat (first | exact Below.refl _ _ | refine Below.drew ?_ | refine Below.setCell ?_ (by simp; try omega) _ | refine Below.alloc ?_ (by simp; try omega) _)
          have hXs : X.heap.size = wr.heap.size + 1 := by rw [← hX.out]; simp
          have x0 : X.cell? ⟨wr.heap.size, 0, none⟩ = some (.slice ca (f j).zs.length cc) := by rw [← hX.out]; go_simp
          have x1 : X.cell? ⟨wr.heap.size, 1, none⟩ = some (.int .i64 (f j).c) := by rw [← hX.out]; go_simp
          have HBX : Hid (Below W.heap.size W X) := HBW.out.trans (HX.out.mono HBW.out.size)
          have HTX : Hid (Ints X ta t) := hti.out.kept HBX.out
          have HIX : Hid (Ints X ca (f j).zs) := hI.kept HX.out
          have hlbw : lb < wr.heap.size := Nat.lt_of_lt_of_le hlb HBW.out.size
          have hnp : 0 < nmP f j := named_pos gz _ (by have := (whole_iff.1 gw).1; omega)
          clear hI
          go_wp2_with fail
          rw [hX.out]
          refine (spec_fits ta tl tc a t ca (f j).zs.length cc (f j).c (f j).zs X hz ht40 rfl gl HTX HIX HWH gw hlt).mono ?_
          rintro e w2 ⟨hq, hB⟩
          have HB3 : Hid (Below wo.heap.size wo w2) := HB2.out.trans ((HX.out.mono HB2.out.size).trans (hB.mono (by have := HB2.out.size; omega)))
          have hs2 : wr.heap.size + 1 ≤ w2.heap.size := by have := hB.size; omega
          have y0 := (hB.cell (p := ⟨wr.heap.size, 0, none⟩) (by show wr.heap.size < _; omega)).trans x0
          have y1 := (hB.cell (p := ⟨wr.heap.size, 1, none⟩) (by show wr.heap.size < _; omega)).trans x1
          have HI2 : Hid (Ints w2 ca (f j).zs) := HIX.out.kept hB
          clear hB x0 x1 l0 l1 HX hX
          rcases hq with ⟨hf, rfl⟩ | ⟨hs, vh, hf, rfl, hO⟩
          · have HN : Hid (kS t f a (j + 1) = ks) := (kS_same (gr_no1 hf)).trans hks.out
            clear hf
            go_wp2_with fail
            go_quiet (fail)
            go_wp2
            go_roundw
            case rel => exact ⟨j + 1, by omega, by go_num, by rw [HN.out], belowN HB3.out _⟩
            case measure => simp [intOf]; omega
          clear hO
          have hfs : (fitL t (f j).zs a).isSome := by rw [hf]; rfl
          clear hf
          by_cases hg0 : (grTo t f a j).2 = 0
          · have HN : Hid (kS t f a (j + 1) = (j : Int)) := kS_some (by rw [gr_yes hfs (by omega)]; exact hnp) (by rw [gr_yes hfs (by omega)])
            obtain rfl : ks = -1 := hks.out.symm.trans (kS_none hg0)
            clear hfs hg0
            go_wp2_with fail
            go_quiet (fail)
            go_wp2
            go_roundw
            case rel => exact ⟨j + 1, by omega, by go_num, by rw [HN.out], belowN HB3.out _⟩
            case measure => simp [intOf]; omega
          · obtain ⟨hkj, _, hkm⟩ := gr_inv t f a j (by omega)
            obtain ⟨kk, hkk⟩ : ∃ kk, Hid ((grTo t f a j).1 = kk) := ⟨_, rfl⟩
            rw [hkk.out] at hkj hkm
            obtain rfl : ks = (kk : Int) := hks.out.symm.trans (kS_some (by omega) hkk.out)
            have hkn : kk < n := by omega
            have hknI : (kk : Int) < (n : Int) := by omega
            have HB3W : Hid (Below W.heap.size W w2) := HB.out.trans (HB3.out.mono HB.out.size)
            obtain ⟨lb', lo', ka, kc, hla', hlb', l0, l1, hIk⟩ := pat_at hps.out HB3W.out hkn
            obtain ⟨rfl, rfl⟩ : lb = lb' ∧ lo = lo' := by simpa using hla'
            obtain ⟨kl, _, _, _, _⟩ := HGP.out kk hkn
            obtain ⟨nj, hnj⟩ : ∃ nj : Nat, Hid (namedTo (f j).zs (f j).zs.length = nj) := ⟨_, rfl⟩
            obtain ⟨nk, hnk⟩ : ∃ nk : Nat, Hid (namedTo (f kk).zs (f kk).zs.length = nk) := ⟨_, rfl⟩
            have hW2 : lb < w2.heap.size := by omega
            have HID : Hid (Ints w2.drew ca (f j).zs) := HI2.out.kept (Below.refl _ _).drew
            have HKD : Hid (Ints w2.drew ka (f kk).zs) := hIk.kept (Below.refl _ _).drew
            have hk0 : (0 : Int) ≤ (kk : Int) := by omega
            have q1 := And.intro (And.intro y0 y1) (And.intro l0 l1)
            have q2 : ((fun w' => (w'.cell? ⟨wr.heap.size, 0, none⟩ = some (.slice ca (f j).zs.length cc) ∧ w'.cell? ⟨wr.heap.size, 1, none⟩ = some (.int .i64 (f j).c)) ∧ (w'.cell? ⟨lb, lo + kk * 2, none⟩ = some (.slice ka (f kk).zs.length kc) ∧ w'.cell? ⟨lb, lo + kk * 2 + 1, none⟩ = some (.int .i64 (f kk).c))) w2.drew : Prop) := q1
            have hNJ : nj ≤ 10 := by rw [← hnj.out]; exact Nat.le_trans (named_le _ _) gl
            have hNK : nk ≤ 10 := by rw [← hnk.out]; exact Nat.le_trans (named_le _ _) kl
            have hcmp : Hid ((grTo t f a j).2 = nk) := by show _ = _; rw [hkm]; exact hnk.out
            clear hIk hla' hkm
            by_cases hq : nk < nj
            · have HN : Hid (kS t f a (j + 1) = (j : Int)) := by
                have e := gr_yes hfs (by rw [hcmp.out]; show nk < namedTo _ _; rw [hnj.out]; exact hq)
                exact kS_some (by rw [e]; exact hnp) (by rw [e])
              have hqI : (nk : Int) < (nj : Int) := by omega
              clear hfs hg0
              go_wp2_with fail
              go_region_held3 (fun w' => (w'.cell? ⟨wr.heap.size, 0, none⟩ = some (.slice ca (f j).zs.length cc) ∧ w'.cell? ⟨wr.heap.size, 1, none⟩ = some (.int .i64 (f j).c)) ∧ (w'.cell? ⟨lb, lo + kk * 2, none⟩ = some (.slice ka (f kk).zs.length kc) ∧ w'.cell? ⟨lb, lo + kk * 2 + 1, none⟩ = some (.int .i64 (f kk).c))) (first | assumption | exact q1 | exact q2 | exact q3 | exact q4 | go_keep) (first
                | (go_at_call 60; refine (spec_weight ka (f kk).zs.length kc (f kk).c (f kk).zs _ rfl kl HK4).mono ?_; rw [hnk.out]; rintro e w5 ⟨rfl, hB5⟩; have hs5 : w4.heap.size ≤ w5.heap.size := hB5.size; have q4 := And.intro (And.intro ((hB5.cell (p := ⟨wr.heap.size, 0, none⟩) (by show wr.heap.size < w4.heap.size; omega)).trans q3.1.1) ((hB5.cell (p := ⟨wr.heap.size, 1, none⟩) (by show wr.heap.size < w4.heap.size; omega)).trans q3.1.2)) (And.intro ((hB5.cell (p := ⟨lb, lo + kk * 2, none⟩) (by show lb < w4.heap.size; omega)).trans q3.2.1) ((hB5.cell (p := ⟨lb, lo + kk * 2 + 1, none⟩) (by show lb < w4.heap.size; omega)).trans q3.2.2)); have HB5 : Hid (Below wo.heap.size wo w5) := HB4.out.trans (hB5.mono (by have := HB4.out.size; exact this)); clear hB5)
                | (go_at_call 60; refine (spec_weight ca (f j).zs.length cc (f j).c (f j).zs _ rfl gl HID).mono ?_; rw [hnj.out]; rintro e w4 ⟨rfl, hB4⟩; have hs4 : w2.heap.size ≤ w4.heap.size := hB4.size; have q3 := And.intro (And.intro ((hB4.cell (p := ⟨wr.heap.size, 0, none⟩) (by show wr.heap.size < w2.heap.size; omega)).trans y0) ((hB4.cell (p := ⟨wr.heap.size, 1, none⟩) (by show wr.heap.size < w2.heap.size; omega)).trans y1)) (And.intro ((hB4.cell (p := ⟨lb, lo + kk * 2, none⟩) (by show lb < w2.heap.size; omega)).trans l0) ((hB4.cell (p := ⟨lb, lo + kk * 2 + 1, none⟩) (by show lb < w2.heap.size; omega)).trans l1)); have HK4 : Hid (Ints w4 ka (f kk).zs) := HKD.out.kept hB4; have HB4 : Hid (Below wo.heap.size wo w4) := HB3.out.drew.trans (hB4.mono (by have := HB3.out.size; exact this)); clear hB4))
              go_wp2
              go_roundw
              case rel => exact ⟨j + 1, by omega, by go_num, by rw [HN.out], HB5⟩
              case measure => simp [intOf]; omega
            · have HN : Hid (kS t f a (j + 1) = (kk : Int)) := by
                have e := gr_no2 (t := t) (f := f) (a := a) (k := j) (by rw [hcmp.out]; show namedTo _ _ ≤ nk; rw [hnj.out]; omega)
                exact (kS_same e).trans hks.out
              have hqI : (nj : Int) ≤ (nk : Int) := by omega
              clear hfs hg0 hq
              go_wp2_with fail
              go_region_held3 (fun w' => (w'.cell? ⟨wr.heap.size, 0, none⟩ = some (.slice ca (f j).zs.length cc) ∧ w'.cell? ⟨wr.heap.size, 1, none⟩ = some (.int .i64 (f j).c)) ∧ (w'.cell? ⟨lb, lo + kk * 2, none⟩ = some (.slice ka (f kk).zs.length kc) ∧ w'.cell? ⟨lb, lo + kk * 2 + 1, none⟩ = some (.int .i64 (f kk).c))) (first | assumption | exact q1 | exact q2 | exact q3 | exact q4 | go_keep) (first
                | (go_at_call 60; refine (spec_weight ka (f kk).zs.length kc (f kk).c (f kk).zs _ rfl kl HK4).mono ?_; rw [hnk.out]; rintro e w5 ⟨rfl, hB5⟩; have hs5 : w4.heap.size ≤ w5.heap.size := hB5.size; have q4 := And.intro (And.intro ((hB5.cell (p := ⟨wr.heap.size, 0, none⟩) (by show wr.heap.size < w4.heap.size; omega)).trans q3.1.1) ((hB5.cell (p := ⟨wr.heap.size, 1, none⟩) (by show wr.heap.size < w4.heap.size; omega)).trans q3.1.2)) (And.intro ((hB5.cell (p := ⟨lb, lo + kk * 2, none⟩) (by show lb < w4.heap.size; omega)).trans q3.2.1) ((hB5.cell (p := ⟨lb, lo + kk * 2 + 1, none⟩) (by show lb < w4.heap.size; omega)).trans q3.2.2)); have HB5 : Hid (Below wo.heap.size wo w5) := HB4.out.trans (hB5.mono (by have := HB4.out.size; exact this)); clear hB5)
                | (go_at_call 60; refine (spec_weight ca (f j).zs.length cc (f j).c (f j).zs _ rfl gl HID).mono ?_; rw [hnj.out]; rintro e w4 ⟨rfl, hB4⟩; have hs4 : w2.heap.size ≤ w4.heap.size := hB4.size; have q3 := And.intro (And.intro ((hB4.cell (p := ⟨wr.heap.size, 0, none⟩) (by show wr.heap.size < w2.heap.size; omega)).trans y0) ((hB4.cell (p := ⟨wr.heap.size, 1, none⟩) (by show wr.heap.size < w2.heap.size; omega)).trans y1)) (And.intro ((hB4.cell (p := ⟨lb, lo + kk * 2, none⟩) (by show lb < w2.heap.size; omega)).trans l0) ((hB4.cell (p := ⟨lb, lo + kk * 2 + 1, none⟩) (by show lb < w2.heap.size; omega)).trans l1)); have HK4 : Hid (Ints w4 ka (f kk).zs) := HKD.out.kept hB4; have HB4 : Hid (Below wo.heap.size wo w4) := HB3.out.drew.trans (hB4.mono (by have := HB3.out.size; exact this)); clear hB4))
              go_wp2
              go_roundw
              case rel => exact ⟨j + 1, by omega, by go_num, by rw [HN.out], HB5⟩
              case measure => simp [intOf]; omega
        · have ejn : j = n := by omega
          subst ejn
          have HKS : Hid (bsTo t f j (a + 1) = bsTo t f j a ++ [ks]) := by show _ = _; rw [bs_snoc, hks.out]
          have HO2 : Hid (ints.Own wr W.heap.size v (bsTo t f j a)) := row_kept9 HO.out HB2.out
          have HBW : Hid (Below W.heap.size W wr) := HB.out.trans (HB2.out.mono HB.out.size)
          clear hjn
          go_wp2_with (first
            | (at_builtin; refine wpList_append_own _ rfl _ _ 22 rfl W.heap.size 3 i0 (.int .i64 0) 1 8 Try.underlying22 hi hz0 hz1 hz2 rfl (by decide) _ _ _ rfl (World.ownsRow.alloc HO2.out _) ⟨wr.heap.size, 0, none⟩ 1 1 [.int .i64 ks] rfl rfl ?c1 ?c2 ?c3 ?c4 ?c5 ?_)
            | fail)
          case c1 => exact new_one _ _ _
          case c2 => first | rfl | exact one_of _
          case c3 => rw [bs_len]; unfold maxLen; omega
          case c4 => rw [bs_len]; omega
          case c5 => have := HBW.out.size; first | omega | (simp; omega)
          intro v2 w2 hown hgrow _
          obtain ⟨o1, o2, o3⟩ := Own.snoc HO2.out HBW.out.size HBW.out hown hgrow
          have HO3 : Hid (ints.Own w2 W.heap.size v2 (bsTo t f j (a + 1))) := by rw [HKS.out]; exact o1
          have HB3 : Hid (Below W.heap.size W w2) := o2
          clear hown hgrow o1 o2
          go_wp2
          go_roundw
          case rel => exact ⟨a + 1, v2, by omega, by go_num, rfl, HO3, HB3⟩
          case measure => simp [intOf]; omega
    · have eal : a = tl := by omega
      subst eal
      obtain ⟨ba, bc, hbv, hMb⟩ := ints.Own.mine HO.out
      rw [bs_len] at hbv
      subst hbv
      have HPM : Hid (PcM wr ta t la n f ba (bsTo t f n a)) := ⟨hti.out.kept HB.out, hps.out.kept HB.out, hMb.ints⟩
      clear hMb hlt
      go_wp2_with fail
      refine (spec_pieces ta a tc t la n lc f ba bc (bsTo t f n a) (chG t f n) wr.heap.size wr hz ht40 HWH hn12 HGP chG_in (fun x k _ hk => chG_fit hk) (bs_len t f n a) (bs_ch t f n a) HPM rfl (szT false t 0) 0 _ [] wr (Nat.le_refl _) ht1 (by have := (sz_le (whole_each HWH.out (i := 0) (by rw [hz.out]; exact ht1)) (by rw [hz.out]; omega)).2; rw [hz.out] at this; simp; omega) (World.ownsRow_nil _ _ _ _) (Nat.le_refl _) (Below.refl _ _)).mono ?_
      rintro e w2 ⟨hB2, hq⟩
      have HB2 : Hid (Below W.heap.size W w2) := HB.out.trans (hB2.mono HB.out.size)
      have hs2 := hB2.size
      clear hB2
      rcases hq with ⟨hg, rfl⟩ | ⟨ps, v', hg, rfl, hO2, _, _⟩
      · have HE : Hid (grO t f n = none) := HGO.out.trans hg
        clear hg
        go_wp2
        go_ret3
        exact ⟨HB2.out, Or.inl ⟨HE.out, rfl⟩⟩
      have HE : Hid (grO t f n = some ps) := HGO.out.trans hg
      rw [List.nil_append] at hO2
      have HIN : Hid (∀ j, j < ps.length → 0 ≤ (flZ ps).getD (j * 2 + 1) 0 ∧ (flZ ps).getD (j * 2 + 1) 0 < (n : Int)) := pcs_in chG_in hg
      have HOW : Hid (OwnQ w2 W.heap.size v' ps) := row_low9 hO2 HB.out.size
      have hpl : ps.length ≤ 1048576 := by
        have := pcs_len hg
        have q := (sz_le (whole_each HWH.out (i := 0) (by rw [hz.out]; exact ht1)) (by rw [hz.out]; omega)).2
        rw [hz.out] at q
        rw [szS_cons, szS_nil] at this
        omega
      obtain ⟨pa, pc, hv', hpc, hMp⟩ := OwnQ.mine HOW.out
      subst hv'
      obtain ⟨pb, po, hpa, hCM⟩ : ∃ pb po, (0 < ps.length → pa = some ⟨pb, po, none⟩) ∧ CovM w2 ta t la n f pb po ps.length (flZ ps) := by
        rcases hMp with h0 | ⟨b, off, e, _, h2, h3⟩
        · have : ps.length = 0 := by have := flZ_len ps; rw [h0] at this; simp at this; omega
          exact ⟨0, 0, fun h => by omega, ⟨hti.out.kept HB2.out, hps.out.kept HB2.out, fun h => by omega, fun q hq => by omega⟩⟩
        · exact ⟨b, off, fun _ => e, ⟨hti.out.kept HB2.out, hps.out.kept HB2.out, fun _ => h2, fun q hq => (h3 q (by rw [flZ_len]; exact hq)).1⟩⟩
      have HCM : Hid (CovM w2 ta t la n f pb po ps.length (flZ ps)) := hCM
      clear hg hO2 hMp hCM
      go_wp2_with fail
      refine (spec_sum9 ta t la n lc f pa pb po ps.length pc (flZ ps) w2 HCM HGP hpl hpa HIN).mono ?_
      rw [costTo_all]
      rintro e w3 ⟨rfl, hB3⟩
      have HB3 : Hid (Below W.heap.size W w3) := HB2.out.trans (hB3.mono HB2.out.size)
      have HO3 : Hid (OwnQ w3 W.heap.size (.slice pa ps.length pc) ps) := row_kept9 HOW.out hB3
      clear hB3
      go_wp2
      go_ret3
      exact ⟨HB3.out, Or.inr ⟨ps, _, HE.out, rfl, HO3.out⟩⟩
end Go.Proofs.Ytfagokboeeimjaa.walks
