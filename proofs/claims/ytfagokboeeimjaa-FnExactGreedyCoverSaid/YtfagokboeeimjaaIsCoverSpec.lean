/-
  What the specification's l9Sum and IsCover answer; they make new memory alone.
-/
import Derived.Test.YtfagokboeeimjaaProg
import Derived.Test.YtfagokboeeimjaaCoverSpec
import Derived.Test.YtfagokboeeimjaaCoverCost
namespace Go.Proofs.Ytfagokboeeimjaa.walks
open Go.RowKit Go.Proofs.Ytfagokboeeimjaa.math Go.Proofs.Ytfagokboeeimjaa.ints
set_option linter.unusedVariables false
set_option maxRecDepth 100000

theorem goC_in (t : List Int) (f : Nat → Pv) (n : Nat) (z : List Int) : ∀ (fu i : Nat) (os : List Nat) (j : Nat), goC t f n z fu i os = some j → ∀ q, i ≤ q → q < j → 0 ≤ z.getD (q * 2 + 1) 0 ∧ z.getD (q * 2 + 1) 0 < (n : Int)
  | fu, i, [], j, h => by rw [goC_nil] at h; cases h; intro q h1 h2; omega
  | 0, i, a :: os, j, h => by simp [goC] at h
  | fu + 1, i, a :: os, j, h => by
    cases r : pieceO t f n (z.getD (i * 2) 0) (z.getD (i * 2 + 1) 0) a with
    | none => rw [goC_none r] at h; cases h
    | some hs =>
      rw [goC_some r] at h
      intro q h1 h2
      by_cases e : q = i
      · subst e
        unfold pieceO at r
        split at r
        · rename_i c
          exact c.2
        · cases r
      · exact goC_in t f n z fu (i + 1) (hs ++ os) j h q (by omega) h2
theorem good_of {f : Nat → Pv} {n : Nat} (h : patsB f n = true) : n ≤ 12 ∧ GoodPs f n := by
  have := of_decide_eq_true h
  exact ⟨this.1, fun k hk => pat_out (this.2 k hk)⟩
set_option maxHeartbeats 2000000 in
theorem spec_sum9 (ta : Option Addr) (t : List Int) (la : Option Addr) (n lc : Nat) (f : Nat → Pv) (pa : Option Addr) (pb po len pc : Nat) (z : List Int) (W : World) (hM : Hid (CovM W ta t la n f pb po len z)) (hg : Hid (GoodPs f n)) (hlen : len ≤ 1048576) (hpa : Hid (0 < len → pa = some ⟨pb, po, none⟩)) (hin : Hid (∀ j, j < len → 0 ≤ z.getD (j * 2 + 1) 0 ∧ z.getD (j * 2 + 1) 0 < (n : Int))) :
    Calls Try.prog 56 #[.slice la n lc, .slice pa len pc] W fun e W' => e = .returned (.int .i64 (costTo f z len)) ∧ Below W.heap.size W W' := by
  go_enter Try.func56, Try.ntmps56
  go_wp2_with fail
  go_loopw [5, 10] (fun vn vi wr => ∃ (j : Nat) (cst : Int), j ≤ len ∧ vi = .int .i64 (j : Int) ∧ vn = .int .i64 cst ∧ Hid (cst = costTo f z j) ∧ 0 ≤ cst ∧ cst ≤ 100 * (j : Int) ∧ Hid (Below W.heap.size W wr)) (fun _ vi _ => len - (intOf vi).toNat)
  case atStart => exact ⟨0, 0, Nat.zero_le _, rfl, rfl, rfl, by omega, by omega, Below.refl _ _⟩
  case round =>
    obtain ⟨j, cst, hj, rfl, rfl, HC, hc0, hc1, HB⟩ := hrel
    by_cases hlt : j < len
    · obtain rfl := hpa.out (by omega)
      have hM2 := hM.out.kept HB.out
      have hpl := hM2.lt (by omega)
      have cx := hM2.cell (j * 2) (by omega)
      have cy := hM2.cell (j * 2 + 1) (by omega)
      rw [← Nat.add_assoc] at cy
      obtain ⟨y0, y1⟩ := hin.out j hlt
      obtain ⟨x, hx⟩ : ∃ x, Hid (z.getD (j * 2) 0 = x) := ⟨_, rfl⟩
      obtain ⟨k, hk⟩ : ∃ k : Nat, Hid (z.getD (j * 2 + 1) 0 = (k : Int)) := ⟨(z.getD (j * 2 + 1) 0).toNat, by show _ = _; omega⟩
      rw [hx.out] at cx
      rw [hk.out] at cy y1
      have hkn : k < n := by omega
      obtain ⟨b, off, ca, cc, hla, hbl, l0, l1, _⟩ := pat_at hM2.pats (Below.refl _ _) hkn
      subst hla
      obtain ⟨_, _, _, g1, g2⟩ := hg.out k hkn
      have HCN : Hid (costTo f z (j + 1) = cst + (f k).c) := by show costTo f z j + _ = _; rw [hk.out, ← HC.out]; rfl
      obtain ⟨ck, hck⟩ : ∃ ck, Hid ((f k).c = ck) := ⟨_, rfl⟩
      rw [hck.out] at l1 g1 g2 HCN
      have hltI : (j : Int) < (len : Int) := by omega
      have hjI : (j : Int) ≤ 1048576 := by omega
      clear hM2 y0 l0
      go_wp2
      go_roundw
      case rel => exact ⟨j + 1, cst + ck, by omega, by go_num, rfl, HCN.out.symm, by omega, by omega, HB.out.alloc HB.out.size _⟩
      case measure => simp [intOf]; omega
    · have HE : Hid (costTo f z len = cst) := by show _ = _; rw [show len = j by omega, ← HC.out]
      go_wp2
      go_ret
      exact ⟨by rw [HE.out]; rfl, HB.out⟩
/-- What IsCover answers. -/
structure IsR where
  cost : Int
  cov : Bool
  good : Bool
def isR (t : List Int) (f : Nat → Pv) (n : Nat) (z : List Int) (len : Nat) : IsR := if (treeB t && patsB f n) = true then (if goC t f n z len 0 [0] = some len then ⟨costTo f z len, true, true⟩ else ⟨0, false, true⟩) else ⟨0, false, false⟩
theorem isR_bad {t : List Int} {f : Nat → Pv} {n : Nat} {z : List Int} {len : Nat} (h : (treeB t && patsB f n) = false) : isR t f n z len = ⟨0, false, false⟩ := by unfold isR; rw [if_neg (by rw [h]; simp)]
theorem isR_no {t : List Int} {f : Nat → Pv} {n : Nat} {z : List Int} {len : Nat} (h : (treeB t && patsB f n) = true) (hg : goC t f n z len 0 [0] ≠ some len) : isR t f n z len = ⟨0, false, true⟩ := by unfold isR; rw [if_pos h, if_neg hg]
theorem isR_yes {t : List Int} {f : Nat → Pv} {n : Nat} {z : List Int} {len : Nat} (h : (treeB t && patsB f n) = true) (hg : goC t f n z len 0 [0] = some len) : isR t f n z len = ⟨costTo f z len, true, true⟩ := by unfold isR; rw [if_pos h, if_pos hg]
set_option maxHeartbeats 2000000 in
theorem spec_iscover (ta : Option Addr) (tl tc : Nat) (t : List Int) (la : Option Addr) (n lc : Nat) (f : Nat → Pv) (pa : Option Addr) (pb po len pc : Nat) (z : List Int) (W : World) (hz : Hid (t.length = tl)) (hlen : tl ≤ 1048576) (hn : n ≤ 1048576) (hl : Hid (∀ k, k < n → (f k).zs.length ≤ 1048576)) (hpl : len ≤ 1048576) (hpc : len ≤ pc) (hpm : pc ≤ 9223372036854775807) (hM : Hid (CovM W ta t la n f pb po len z)) (hpa : Hid (0 < len → pa = some ⟨pb, po, none⟩)) :
    Calls Try.prog 33 #[.slice ta tl tc, .slice la n lc, .slice pa len pc] W fun e W' => e = .returned (.tuple #[.int .i64 (isR t f n z len).cost, .bool (isR t f n z len).cov, .bool (isR t f n z len).good]) ∧ Below W.heap.size W W' := by
  cases htr : treeB t
  · have HE : Hid (isR t f n z len = ⟨0, false, false⟩) := isR_bad (by rw [htr]; rfl)
    rw [HE.out]
    go_enter Try.func33, Try.ntmps33
    go_wp2_with fail
    refine (spec_tree _ _ _ t _ hz hlen hM.out.tree).mono ?_
    rw [htr]
    rintro e w1 ⟨rfl, hw⟩
    rw [hw]
    clear hw w1
    go_wp2
    go_ret3
    exact ⟨rfl, Below.refl _ _⟩
  cases hpb : patsB f n
  · have HE : Hid (isR t f n z len = ⟨0, false, false⟩) := isR_bad (by rw [hpb]; simp)
    rw [HE.out]
    go_enter Try.func33, Try.ntmps33
    go_wp2_with fail
    refine (spec_tree _ _ _ t _ hz hlen hM.out.tree).mono ?_
    rw [htr]
    rintro e w1 ⟨rfl, hw⟩
    rw [hw]
    clear hw w1
    go_wp2_with fail
    refine (spec_pats _ _ _ f _ hn hl hM.out.pats).mono ?_
    rw [hpb]
    rintro e w1 ⟨rfl, hB⟩
    have HB : Hid (Below W.heap.size W w1) := hB
    clear hB
    go_wp2
    go_ret3
    exact ⟨rfl, HB.out⟩
  have HGD : Hid ((treeB t && patsB f n) = true) := by show _ = _; rw [htr, hpb]; rfl
  have hwh : wholeB false t = true := by unfold treeB at htr; simp at htr; exact htr.2
  have ht40 : tl ≤ 40 := by unfold treeB at htr; simp at htr; have := hz.out; omega
  have ht1 : 0 < tl := by have := (whole_iff.1 hwh).1; have := hz.out; omega
  obtain ⟨hn12, hgp⟩ := good_of hpb
  have HGP : Hid (GoodPs f n) := hgp
  have HWH : Hid (wholeB false t = true) := hwh
  obtain ⟨j, hj⟩ : ∃ j, Hid (covN (goC t f n z len 0 [0]) 0 = j) := ⟨_, rfl⟩
  have HJ : Hid ((j = 0 ∧ goC t f n z len 0 [0] = none) ∨ (0 < j ∧ goC t f n z len 0 [0] = some j)) := by
    cases q : goC t f n z len 0 [0] with
    | none => have := hj.out; rw [q] at this; exact Or.inl ⟨this.symm, rfl⟩
    | some i =>
      have e := hj.out
      rw [q] at e
      have e2 : i = j := e
      subst e2
      exact Or.inr ⟨((goC_le t f n z _ _ _ _ q).2.2 (by simp)), rfl⟩
  clear hgp hwh
  go_enter Try.func33, Try.ntmps33
  go_wp2_with fail
  refine (spec_tree _ _ _ t _ hz hlen hM.out.tree).mono ?_
  rw [htr]
  rintro e w1 ⟨rfl, hw⟩
  rw [hw]
  clear hw w1
  go_wp2_with fail
  refine (spec_pats _ _ _ f _ hn hl hM.out.pats).mono ?_
  rw [hpb]
  rintro e w1 ⟨rfl, hB⟩
  have HB1 : Hid (Below W.heap.size W w1) := hB
  have HM1 : Hid (CovM w1 ta t la n f pb po len z) := hM.out.kept hB
  clear hB
  go_wp2_with fail
  refine (spec_cover ta tl tc t la n lc f pb po len z hz ht40 HWH hn12 HGP hpl len len 0 0 pa pc w1 (Nat.le_refl _) (by omega) ht1 (fun h0 => by rw [Nat.zero_mul, Nat.add_zero]; exact hpa.out h0) hpc hpm HM1).mono ?_
  rw [hj.out]
  rintro e w2 ⟨rfl, hB⟩
  have HB2 : Hid (Below W.heap.size W w2) := bel2P HB1.out hB
  have HM2 : Hid (CovM w2 ta t la n f pb po len z) := HM1.out.kept hB
  clear hB
  rcases HJ.out with ⟨rfl, hj2⟩ | ⟨hj0, hj2⟩
  · have HE : Hid (isR t f n z len = ⟨0, false, true⟩) := isR_no HGD.out (by rw [hj2]; simp)
    clear hj2
    go_wp2
    go_ret3
    exact ⟨by rw [HE.out]; rfl, HB2.out⟩
  have d0 : ((j : Int) == 0) = false := by simp; omega
  have d0' : ¬ (j : Int) = 0 := by omega
  by_cases hjl : j = len
  rotate_left
  · have HE : Hid (isR t f n z len = ⟨0, false, true⟩) := isR_no HGD.out (by rw [hj2]; simpa using hjl)
    have d1 : ((j : Int) != (len : Int)) = true := by simp; omega
    clear hj2
    go_wp2
    go_ret3
    exact ⟨by rw [HE.out]; rfl, HB2.out⟩
  subst hjl
  have HE : Hid (isR t f n z j = ⟨costTo f z j, true, true⟩) := isR_yes HGD.out hj2
  have HIN : Hid (∀ q, q < j → 0 ≤ z.getD (q * 2 + 1) 0 ∧ z.getD (q * 2 + 1) 0 < (n : Int)) := fun q hq => goC_in t f n z _ _ _ _ hj2 q (Nat.zero_le _) hq
  have d1 : ((j : Int) != (j : Int)) = false := by simp
  clear hj2
  go_wp2_with fail
  refine (spec_sum9 ta t la n lc f pa pb po j pc z _ HM2 HGP hpl hpa HIN).mono ?_
  rintro e w3 ⟨rfl, hB⟩
  have HB3 : Hid (Below W.heap.size W w3) := bel2P HB2.out hB
  clear hB
  go_wp2
  go_ret3
  exact ⟨by rw [HE.out]; rfl, HB3.out⟩
end Go.Proofs.Ytfagokboeeimjaa.walks
