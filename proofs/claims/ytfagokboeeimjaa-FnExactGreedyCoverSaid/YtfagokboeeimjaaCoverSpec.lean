/-
  What the specification's l9Cover answers; it makes new memory alone.
-/
import Derived.Test.YtfagokboeeimjaaProg
import Derived.Test.YtfagokboeeimjaaMagMath
import Derived.Test.YtfagokboeeimjaaTreeMath
import Derived.Test.YtfagokboeeimjaaFitMath
import Derived.Test.YtfagokboeeimjaaCoverMath
import Derived.Test.YtfagokboeeimjaaFitSpec
import Derived.Test.YtfagokboeeimjaaTreeSpec
import Derived.Test.YtfagokboeeimjaaPatSpec
import Derived.Test.YtfagokboeeimjaaInts
import Derived.Test.YtfagokboeeimjaaOwnInts
import Derived.Test.YtfagokboeeimjaaPats
import Derived.WalkKit
import Derived.WalkSpells
import Derived.Below
import Derived.Handy
import Derived.Deep.QuietTactic
import Derived.BigQuiet
import Derived.Deep.RegionHeld3
namespace Go.Proofs.Ytfagokboeeimjaa.walks
open Go.RowKit Go.Proofs.Ytfagokboeeimjaa.math Go.Proofs.Ytfagokboeeimjaa.ints
set_option linter.unusedVariables false
set_option maxRecDepth 100000

/-- A tree, patterns and pieces in memory. -/
structure CovM (W : World) (ta : Option Addr) (t : List Int) (la : Option Addr) (n : Nat) (f : Nat → Pv) (pb po len : Nat) (z : List Int) : Prop where
  tree : Ints W ta t
  pats : Pats W la n f
  lt : 0 < len → pb < W.heap.size
  cell : ∀ q, q < len * 2 → W.cell? ⟨pb, po + q, none⟩ = some (.int .i64 (z.getD q 0))
theorem CovM.kept {W W' : World} {ta : Option Addr} {t : List Int} {la : Option Addr} {n : Nat} {f : Nat → Pv} {pb po len : Nat} {z : List Int} (h : CovM W ta t la n f pb po len z) (hb : Below W.heap.size W W') : CovM W' ta t la n f pb po len z :=
  ⟨h.tree.kept hb, h.pats.kept hb, fun h0 => Nat.lt_of_lt_of_le (h.lt h0) hb.size, fun q hq => (hb.cell (p := ⟨pb, po + q, none⟩) (h.lt (by omega))).trans (h.cell q hq)⟩
theorem piece_no1 {t : List Int} {f : Nat → Pv} {n a : Nat} {x y : Int} (h : x ≠ (a : Int)) : pieceO t f n x y a = none := by unfold pieceO; rw [if_neg (fun q => h q.1)]
theorem piece_no2 {t : List Int} {f : Nat → Pv} {n a : Nat} {x y : Int} (h : y < 0) : pieceO t f n x y a = none := by unfold pieceO; rw [if_neg (fun q => by omega)]
theorem piece_no3 {t : List Int} {f : Nat → Pv} {n a : Nat} {x y : Int} (h : (n : Int) ≤ y) : pieceO t f n x y a = none := by unfold pieceO; rw [if_neg (fun q => by omega)]
theorem piece_yes {t : List Int} {f : Nat → Pv} {n a : Nat} {y : Nat} (h : y < n) : pieceO t f n (a : Int) (y : Int) a = fitL t (f y).zs a := by unfold pieceO; rw [if_pos ⟨rfl, by omega, by omega⟩]; rfl
theorem covN_none (i : Nat) : covN none i = 0 := rfl
theorem fit_lenS {t p : List Int} {at0 : Nat} {hs : List Nat} (hf : fitL t p at0 = some hs) : hs.length ≤ p.length := by
  induction p generalizing at0 hs with
  | nil => simp [fitL] at hf; subst hf; simp
  | cons k ks ih =>
    simp only [fitL] at hf
    split at hf
    · cases q : fitL t ks (at0 + szT false t at0) with
      | none => rw [q] at hf; cases hf
      | some hs' =>
        rw [q] at hf
        simp at hf
        subst hf
        have := ih q
        simp
        exact this
    · split at hf
      · have := ih hf
        simp
        omega
      · cases hf
set_option maxHeartbeats 4000000 in
theorem spec_cover (ta : Option Addr) (tl tc : Nat) (t : List Int) (la : Option Addr) (n lc : Nat) (f : Nat → Pv) (pb po len : Nat) (z : List Int) (hz : Hid (t.length = tl)) (ht40 : tl ≤ 40) (hw : Hid (wholeB false t = true)) (hn : n ≤ 12) (hg : Hid (GoodPs f n)) (hlen : len ≤ 1048576) :
    ∀ (N fu i at0 : Nat) (pa' : Option Addr) (pc : Nat) (W : World), fu ≤ N → fu + i = len → at0 < tl → Hid (0 < fu → pa' = some ⟨pb, po + i * 2, none⟩) → fu ≤ pc → pc ≤ 9223372036854775807 → Hid (CovM W ta t la n f pb po len z) →
    Calls Try.prog 55 #[.slice ta tl tc, .slice la n lc, .int .i64 (at0 : Int), .slice pa' fu pc] W fun e W' => e = .returned (.int .i64 (covN (goC t f n z fu i [at0]) i : Int)) ∧ Below W.heap.size W W' := by
  intro N
  induction N with
  | zero =>
    intro fu i at0 pa' pc W hN hfi hat hpa hpc hpm hM
    obtain rfl : fu = 0 := by omega
    go_enter Try.func55, Try.ntmps55
    go_wp2
    go_ret
    exact ⟨by simp [goC, covN], Below.refl _ _⟩
  | succ N ih =>
    intro fu i at0 pa' pc W hN hfi hat hpa hpc hpm hM
    by_cases h0 : fu = 0
    · subst h0
      go_enter Try.func55, Try.ntmps55
      go_wp2
      go_ret
      exact ⟨by simp [goC, covN], Below.refl _ _⟩
    obtain rfl := hpa.out (by omega)
    have cx := hM.out.cell (i * 2) (by omega)
    have cy := hM.out.cell (i * 2 + 1) (by omega)
    rw [← Nat.add_assoc] at cy
    obtain ⟨x, hx⟩ : ∃ x, Hid (z.getD (i * 2) 0 = x) := ⟨_, rfl⟩
    obtain ⟨y, hy⟩ : ∃ y, Hid (z.getD (i * 2 + 1) 0 = y) := ⟨_, rfl⟩
    rw [hx.out] at cx
    rw [hy.out] at cy
    have h0I : 0 < (fu : Int) := by omega
    have h0N : 0 < fu := by omega
    have e0 : ((fu : Int) == 0) = false := by simp; omega
    have e0' : decide ((fu : Int) = 0) = false := decide_eq_false (by omega)
    have HFE : Hid (fu = fu - 1 + 1) := by show _ = _; omega
    by_cases hxa : x = (at0 : Int)
    rotate_left
    · have HE : Hid (covN (goC t f n z fu i [at0]) i = 0) := by
        show _ = _
        rw [HFE.out, goC_none (by rw [hx.out]; exact piece_no1 hxa)]
        rfl
      have d1 : (x != (at0 : Int)) = true := by simpa using hxa
      go_enter Try.func55, Try.ntmps55
      go_wp2
      go_ret
      exact ⟨by rw [HE.out]; rfl, Below.refl _ _⟩
    subst hxa
    by_cases hy0 : y < 0
    · have HE : Hid (covN (goC t f n z fu i [at0]) i = 0) := by
        show _ = _
        rw [HFE.out, goC_none (by rw [hy.out]; exact piece_no2 hy0)]
        rfl
      go_enter Try.func55, Try.ntmps55
      go_wp2
      go_ret
      exact ⟨by rw [HE.out]; rfl, Below.refl _ _⟩
    have hy0' : 0 ≤ y := by omega
    by_cases hyn : (n : Int) ≤ y
    · have HE : Hid (covN (goC t f n z fu i [at0]) i = 0) := by
        show _ = _
        rw [HFE.out, goC_none (by rw [hy.out]; exact piece_no3 hyn)]
        rfl
      clear hy0
      go_enter Try.func55, Try.ntmps55
      go_wp2
      go_ret
      exact ⟨by rw [HE.out]; rfl, Below.refl _ _⟩
    obtain ⟨k, rfl⟩ : ∃ k : Nat, y = (k : Int) := ⟨y.toNat, by omega⟩
    have hkn : k < n := by omega
    have hknI : (k : Int) < (n : Int) := by omega
    clear hy0 hyn hy0'
    have HP : Hid (pieceO t f n (z.getD (i * 2) 0) (z.getD (i * 2 + 1) 0) at0 = fitL t (f k).zs at0) := by
      show _ = _
      rw [hx.out, hy.out]
      exact piece_yes hkn
    obtain ⟨b, off, ca, cc, hla, hbl, l0, l1, hI⟩ := pat_at hM.out.pats (Below.refl _ _) hkn
    subst hla
    have HI : Hid (Ints W ca (f k).zs) := hI
    obtain ⟨gl, gz, gw, _, _⟩ := hg.out k hkn
    clear hI
    go_enter Try.func55, Try.ntmps55
    go_wp2_with fail
    refine (spec_fits _ _ _ at0 t _ _ _ _ (f k).zs _ hz ht40 rfl gl hM.out.tree HI hw gw hat).mono ?_
    rintro e w1 ⟨hq, hB1⟩
    have HB1 : Hid (Below W.heap.size W w1) := hB1
    rcases hq with ⟨hn1, rfl⟩ | ⟨hs, v, hs1, rfl, ho⟩
    · have HE : Hid (covN (goC t f n z fu i [at0]) i = 0) := by
        show _ = _
        rw [HFE.out, goC_none (by rw [HP.out]; exact hn1)]
        rfl
      clear hn1
      go_wp2
      go_ret
      exact ⟨by rw [HE.out]; rfl, HB1.out⟩
    have HG : Hid (goC t f n z fu i [at0] = goC t f n z (fu - 1) (i + 1) (hs ++ [])) := by
      show _ = _
      rw [HFE.out, goC_some (by rw [HP.out]; exact hs1)]
      rw [← HFE.out]
    obtain ⟨va, vc, rfl, hm⟩ := ints.Own.mine ho
    have HM : Hid (Mine w1 W.heap.size va (asI hs)) := hm
    have hsl : hs.length ≤ 10 := by
      exact Nat.le_trans (fit_lenS hs1) gl
    have HIN : Hid (∀ x ∈ hs, x < tl) := fun x hx' => by
      have := fit_in hw.out gw (by rw [hz.out]; exact hat) hs1 x hx'
      rw [hz.out] at this
      omega
    rw [asI_len]
    obtain ⟨nl, hnl⟩ : ∃ nl, Hid (hs.length = nl) := ⟨_, rfl⟩
    rw [hnl.out] at hsl ⊢
    clear ho hm hB1
    go_wp2_with fail
    go_loopw [11, 59] (fun vn vi wr => ∃ j m : Nat, j ≤ nl ∧ m ≤ fu ∧ 1 ≤ m ∧ vi = .int .i64 (j : Int) ∧ vn = .int .i64 (m : Int) ∧ Hid (goC t f n z fu i [at0] = goC t f n z (fu - m) (i + m) (hs.drop j)) ∧ Hid (Below w1.heap.size w1 wr)) (fun _ vi _ => nl - (intOf vi).toNat)
    case atStart => exact ⟨0, 1, Nat.zero_le _, by omega, Nat.le_refl _, rfl, rfl, by show _ = _; rw [HG.out, List.append_nil, List.drop_zero], Below.refl _ _⟩
    case round =>
      obtain ⟨j, m, hj, hm1, hm2, rfl, rfl, HJ, HBr⟩ := hrel
      have HBW : Hid (Below W.heap.size W wr) := bel2P HB1.out HBr.out
      by_cases hlt : j < nl
      · obtain ⟨x, hxx⟩ : ∃ x, Hid (hs.getD j 0 = x) := ⟨_, rfl⟩
        have hjl : j < hs.length := by rw [hnl.out]; exact hlt
        have HD : Hid (hs.drop j = x :: hs.drop (j + 1)) := by
          show _ = _
          rw [List.drop_eq_getElem_cons hjl, ← hxx.out]
          simp [List.getD, List.getElem?_eq_getElem hjl]
        have hxl : x < tl := HIN.out x (by rw [← hxx.out]; simp [List.getD, List.getElem?_eq_getElem hjl])
        obtain ⟨vb, vo, hva, hvc⟩ := HM.out.ints.at HBr.out (k := j) (by rw [asI_len, hnl.out]; exact hlt)
        subst hva
        have e1 : (asI hs).getD j 0 = (x : Int) := by
          rw [← hxx.out]
          simp [asI, List.getD, List.getElem?_eq_getElem hjl]
        rw [e1] at hvc
        have hltI : (j : Int) < (nl : Int) := by omega
        have hmI : (m : Int) ≤ (fu : Int) := by omega
        have hmc : (m : Int) ≤ (pc : Int) := by omega
        have hmcN : m ≤ pc := by omega
        obtain ⟨r, hr⟩ : ∃ r, Hid (fu - m = r) := ⟨_, rfl⟩
        have HAP : Hid (goC t f n z fu i [at0] = (goC t f n z r (i + m) [x]).bind fun j2 => goC t f n z (r - (j2 - (i + m))) j2 (hs.drop (j + 1))) := by
          show _ = _
          rw [HJ.out, HD.out, hr.out, show x :: hs.drop (j + 1) = [x] ++ hs.drop (j + 1) from rfl, goC_app]
        obtain ⟨pa2, HC, HPA⟩ : ∃ pa2 : Option Addr, Hid (Calls Try.prog 55 #[.slice ta tl tc, .slice (some ⟨b, off, none⟩) n lc, .int .i64 (x : Int), .slice pa2 r (pc - m)] wr fun e W' => e = .returned (.int .i64 (covN (goC t f n z r (i + m) [x]) (i + m) : Int)) ∧ Below wr.heap.size wr W') ∧ Hid ((pc = m → pa2 = some ⟨pb, po + i * 2, none⟩) ∧ (¬ pc = m → pa2 = some ⟨pb, po + i * 2 + m * 2, none⟩)) := by
          by_cases q : pc = m
          · exact ⟨_, ih r (i + m) x (some ⟨pb, po + i * 2, none⟩) (pc - m) wr (by have := hr.out; omega) (by have := hr.out; omega) hxl (fun h0 => by have := hr.out; omega) (by have := hr.out; omega) (by omega) (hM.out.kept HBW.out), fun _ => rfl, fun q' => (q' q).elim⟩
          · exact ⟨_, ih r (i + m) x (some ⟨pb, po + i * 2 + m * 2, none⟩) (pc - m) wr (by have := hr.out; omega) (by have := hr.out; omega) hxl (fun h0 => by congr 2; omega) (by have := hr.out; omega) (by omega) (hM.out.kept HBW.out), fun q' => (q q').elim, fun _ => rfl⟩
        obtain ⟨kk, hkk⟩ : ∃ kk, Hid (covN (goC t f n z r (i + m) [x]) (i + m) = kk) := ⟨_, rfl⟩
        have HKK : Hid ((kk = 0 ∧ goC t f n z fu i [at0] = none) ∨ (1 ≤ kk ∧ kk ≤ r ∧ goC t f n z fu i [at0] = goC t f n z (fu - (m + kk)) (i + (m + kk)) (hs.drop (j + 1)))) := by
          cases q : goC t f n z r (i + m) [x] with
          | none =>
            have e1 := hkk.out
            have e2 := HAP.out
            rw [q] at e1 e2
            exact Or.inl ⟨e1.symm, e2⟩
          | some j2 =>
            have e1 := hkk.out
            have e2 := HAP.out
            rw [q] at e1 e2
            have e3 := goC_le t f n z _ _ _ _ q
            have e4 : j2 - (i + m) = kk := e1
            have e5 := e3.2.2 (by simp)
            refine Or.inr ⟨by omega, by omega, ?_⟩
            rw [e2, Option.bind_some, show r - (j2 - (i + m)) = fu - (m + kk) by have := hr.out; omega, show j2 = i + (m + kk) by omega]
        rw [hkk.out] at HC
        have hfuI : (fu : Int) ≤ 1048576 := by omega
        clear e1 hjl HAP
        by_cases q : pc = m
        · obtain rfl := HPA.out.1 q
          subst q
          have hr0 : r = 0 := by have := hr.out; omega
          subst hr0
          have HC2 := HC.out
          rw [Nat.sub_self] at HC2
          have HC3 : Hid _ := HC2
          clear HC2
          go_wp2_with fail
          refine Calls.mono HC3.out ?_
          rintro e w2 ⟨rfl, hB2⟩
          have HB2 : Hid (Below w1.heap.size w1 w2) := HBr.out.trans (hB2.mono HBr.out.size)
          have HBW2 : Hid (Below W.heap.size W w2) := bel2P HB1.out HB2.out
          clear hB2
          rcases HKK.out with ⟨rfl, hk2⟩ | ⟨hk1, hk2, hk3⟩
          · have HE : Hid (covN (goC t f n z fu i [at0]) i = 0) := by show _ = _; rw [hk2]; rfl
            go_wp2
            go_ret
            exact ⟨by rw [HE.out]; rfl, HBW2.out⟩
          · have := hr.out
            omega
        · obtain rfl := HPA.out.2 q
          go_wp2_with fail
          rw [hr.out]
          refine HC.out.mono ?_
          rintro e w2 ⟨rfl, hB2⟩
          have HB2 : Hid (Below w1.heap.size w1 w2) := HBr.out.trans (hB2.mono HBr.out.size)
          have HBW2 : Hid (Below W.heap.size W w2) := bel2P HB1.out HB2.out
          clear hB2
          rcases HKK.out with ⟨rfl, hk2⟩ | ⟨hk1, hk2, hk3⟩
          · have HE : Hid (covN (goC t f n z fu i [at0]) i = 0) := by show _ = _; rw [hk2]; rfl
            go_wp2
            go_ret
            exact ⟨by rw [HE.out]; rfl, HBW2.out⟩
          · have HK3 : Hid (goC t f n z fu i [at0] = goC t f n z (fu - (m + kk)) (i + (m + kk)) (hs.drop (j + 1))) := hk3
            have hk0 : ((kk : Int) == 0) = false := by simp; omega
            have hk0' : ¬ (kk : Int) = 0 := by omega
            have hkr : m + kk ≤ fu := by have := hr.out; omega
            have hkI : (kk : Int) ≤ 1048576 := by omega
            have hmI2 : (m : Int) ≤ 1048576 := by omega
            clear hk3
            go_wp2
            go_roundw
            case rel => exact ⟨j + 1, m + kk, by omega, hkr, by omega, by go_num, by go_num, HK3, HB2⟩
            case measure => simp [intOf]; omega
      · have HE : Hid (covN (goC t f n z fu i [at0]) i = m) := by
          show _ = _
          rw [HJ.out, List.drop_eq_nil_of_le (by rw [hnl.out]; omega), goC_nil]
          show i + m - i = m
          omega
        go_wp2
        go_ret
        exact ⟨by rw [HE.out]; rfl, HBW.out⟩
end Go.Proofs.Ytfagokboeeimjaa.walks
