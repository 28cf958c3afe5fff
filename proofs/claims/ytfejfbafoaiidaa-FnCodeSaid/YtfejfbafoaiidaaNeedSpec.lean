/-
  What the specification's NamesNeeded answers, at every list of steps.
-/
import Derived.Test.YtfejfbafoaiidaaProg
import Derived.Test.YtfejfbafoaiidaaMagMath
import Derived.Test.YtfejfbafoaiidaaCodeMath
import Derived.Test.YtfejfbafoaiidaaRunMath
import Derived.Test.YtfejfbafoaiidaaNamesMath
import Derived.Test.YtfejfbafoaiidaaInts
import Derived.Test.YtfejfbafoaiidaaOwnInts
import Derived.Test.YtfejfbafoaiidaaRecsInstr
import Derived.Test.YtfejfbafoaiidaaCodeGood
import Derived.Test.YtfejfbafoaiidaaPutSpec
import Derived.Test.YtfejfbafoaiidaaNamesSpec
import Derived.WalkKit
import Derived.WalkSpells
import Derived.Below
import Derived.Handy
namespace Go.Proofs.Ytfejfbafoaiidaa.walks
open Go.RowKit Go.Proofs.Ytfejfbafoaiidaa.math Go.Proofs.Ytfejfbafoaiidaa.ints
set_option linter.unusedVariables false

/-- Whether a number is in a list. -/
def hasB (zs : List Int) (n : Int) : Bool := zs.contains n
theorem spec_has (a : Option Addr) (len cap : Nat) (zs : List Int) (n : Int) (W : World) (hz : Hid (zs.length = len)) (hlen : len ≤ 1048576) (h : Hid (Ints W a zs)) :
    Calls Try.prog 30 #[.slice a len cap, .int .i64 n] W fun e W' => e = .returned (.bool (hasB zs n)) ∧ W' = W := by
  go_enter Try.func30, Try.ntmps30
  go_wp2
  go_loop [9] (fun vi => ∃ k : Nat, k ≤ len ∧ vi = .int .i64 k ∧ Hid (hasB (zs.take k) n = false)) (fun vi => len - (intOf vi).toNat)
  case atStart => exact ⟨0, Nat.zero_le _, rfl, rfl⟩
  case round =>
    obtain ⟨k, hk, rfl, HN⟩ := hrel
    by_cases hlt : k < len
    · obtain ⟨b, off, ha, hc⟩ := h.out.at (Below.refl _ _) (k := k) (by have := hz.out; omega)
      subst ha
      have hl : k < zs.length := by have := hz.out; omega
      have HK : Hid (zs.take (k + 1) = zs.take k ++ [zs.getD k 0]) := by
        show _ = _
        rw [List.take_add_one, List.getElem?_eq_getElem hl]
        simp [List.getD, List.getElem?_eq_getElem hl]
      have HM : Hid (zs.getD k 0 = n → hasB zs n = true) := by
        show _ → _
        intro e
        unfold hasB
        simp only [List.getD, List.getElem?_eq_getElem hl, Option.getD_some] at e
        rw [List.contains_iff_mem, ← e]
        exact List.getElem_mem hl
      generalize zs.getD k 0 = x at hc HK HM
      clear hl
      by_cases hx : x = n
      · subst hx
        have HT := HM.out rfl
        have HT' : Hid (hasB zs x = true) := HT
        clear HT
        go_wp2
        go_ret
        exact ⟨by rw [HT'.out]; rfl, rfl⟩
      · have HN' : Hid (hasB (zs.take (k + 1)) n = false) := by
          show _ = _
          have h1 := HN.out
          have h2 : ([x] : List Int).contains n = false := by simpa using fun e => hx (Eq.symm e)
          unfold hasB at h1 ⊢
          rw [HK.out, List.contains_append, h1, h2]
          rfl
        have s1 : (x == n) = false := by simpa using hx
        have s2 : decide (x = n) = false := decide_eq_false hx
        clear hx
        go_wp2
        go_round
        case rel => exact ⟨k + 1, by omega, by go_num, HN'⟩
        case measure => simp [intOf]; omega
    · have HE : Hid (hasB zs n = false) := by
        show _ = _
        have := HN.out
        rw [List.take_of_length_le (by have := hz.out; omega)] at this
        exact this
      go_wp2
      go_ret
      exact ⟨by rw [HE.out]; rfl, rfl⟩
/-- What a step looks at, as a list. -/
def UseAns (us : List Int) (W : World) (e : Ending) (W' : World) : Prop := ∃ a cap, e = .returned (.slice a us.length cap) ∧ Ints W' a us ∧ Below W.heap.size W W'
theorem ints_new1 (W : World) (x : Int) (t : TypeId) {b : Nat} (hb : b = W.heap.size) : Ints (W.alloc (.cells #[.int .i64 x] t)) (some ⟨b, 0, none⟩) [x] := by
  subst hb
  exact Or.inr ⟨W.heap.size, 0, rfl, by simp, fun i hi => by
    match i, hi with
    | 0, _ => simp⟩
theorem ints_new2 (W : World) (x y : Int) (t : TypeId) {b : Nat} (hb : b = W.heap.size) : Ints (W.alloc (.cells #[.int .i64 x, .int .i64 y] t)) (some ⟨b, 0, none⟩) [x, y] := by
  subst hb
  exact Or.inr ⟨W.heap.size, 0, rfl, by simp, fun i hi => by
    match i, hi with
    | 0, _ => simp
    | 1, _ => simp⟩
theorem spec_uses (o d x y n : Int) (W : World) (hg : goodI o d x y n = true) : Calls Try.prog 29 #[.agg #[.int .i64 o, .int .i64 d, .int .i64 x, .int .i64 y, .int .i64 n]] W fun e W' => UseAns (usesL o x y) W e W' := by
  rcases good_cases hg with ⟨rfl, _⟩ | ⟨rfl, _⟩ | ⟨rfl, _⟩ | ⟨⟨o3, o7⟩, _⟩
  · go_enter Try.func29, Try.ntmps29
    go_wp2
    go_ret
    exact ⟨none, 0, rfl, Or.inl rfl, by go_grown⟩
  · have t2 : inR 2 3 7 = false := rfl
    go_enter Try.func29, Try.ntmps29
    go_wp2_with (go_at_call 42; refine (spec_two _ _).mono ?_; rintro e w' ⟨rfl, hw⟩; rw [hw, t2]; clear hw w')
    go_ret
    exact ⟨_, _, rfl, ints_new1 _ _ _ (by simp), by go_grown⟩
  · have t2 : inR 8 3 7 = false := rfl
    go_enter Try.func29, Try.ntmps29
    go_wp2_with (go_at_call 42; refine (spec_two _ _).mono ?_; rintro e w' ⟨rfl, hw⟩; rw [hw, t2]; clear hw w')
    go_ret
    exact ⟨_, _, rfl, ints_new1 _ _ _ (by simp), by go_grown⟩
  · have t2 : inR o 3 7 = true := inR_mk o3 o7
    have e1 : (o == 1) = false := by simp; omega
    have HU : Hid (usesL o x y = [x, y]) := by show _ = _; unfold usesL; rw [if_neg (by omega), if_pos ⟨o3, o7⟩]
    go_enter Try.func29, Try.ntmps29
    go_wp2_with (go_at_call 42; refine (spec_two _ _).mono ?_; rintro e w' ⟨rfl, hw⟩; rw [hw, t2]; clear hw w')
    go_ret
    rw [HU.out]
    exact ⟨_, _, rfl, ints_new2 _ _ _ _ (by simp), by go_grown⟩
/-- Names that were needed, and those of a step's that were not set. -/
def needAt (f s : Nat → Bool) (us : List Int) (i : Nat) : Bool := f i || (us.contains (i : Int) && !s i)
theorem need_all (zs : List Int) (k : Nat) : needTo zs (k + 1) = needAt (needTo zs k) (setTo zs k) (usesL (zs.getD (k * 5) 0) (zs.getD (k * 5 + 2) 0) (zs.getD (k * 5 + 3) 0)) := rfl
theorem need_none (f s : Nat → Bool) : risingTo (needAt f s []) 8 = risingTo f 8 := rising_congr 8 (fun i _ => by simp [needAt])
theorem need_put {f s : Nat → Bool} {us : List Int} {nn : Nat} (h8 : nn < 8) (hs : s nn = false) : putL (risingTo (needAt f s us) 8) (nn : Int) = risingTo (needAt f s (us ++ [(nn : Int)])) 8 := by
  rw [put_rising _ h8]
  refine rising_congr 8 (fun i _ => ?_)
  unfold needAt
  simp only [List.contains_append]
  by_cases e : i = nn
  · subst e; simp [hs]
  · have e' : ¬ (i : Int) = (nn : Int) := by omega
    simp [e, e']
theorem need_skip {f s : Nat → Bool} {us : List Int} {nn : Nat} (hs : s nn = true) : risingTo (needAt f s (us ++ [(nn : Int)])) 8 = risingTo (needAt f s us) 8 := by
  refine rising_congr 8 (fun i _ => ?_)
  unfold needAt
  simp only [List.contains_append]
  by_cases e : i = nn
  · subst e; simp [hs]
  · have e' : ¬ (i : Int) = (nn : Int) := by omega
    simp [e']
theorem uses_bd {o d x y n : Int} (h : goodI o d x y n = true) : (usesL o x y).length ≤ 2 ∧ ∀ j, j < (usesL o x y).length → 0 ≤ (usesL o x y).getD j 0 ∧ (usesL o x y).getD j 0 ≤ 7 := by
  rcases good_cases h with ⟨rfl, _⟩ | ⟨rfl, _, hx⟩ | ⟨rfl, hx⟩ | ⟨⟨o3, o7⟩, _, hx, hy⟩
  · exact ⟨by simp [usesL], fun j hj => by simp [usesL] at hj⟩
  · exact ⟨by simp [usesL], fun j hj => by
      match j, hj with
      | 0, _ => simpa [usesL] using hx⟩
  · exact ⟨by simp [usesL], fun j hj => by
      match j, hj with
      | 0, _ => simpa [usesL] using hx⟩
  · have e : usesL o x y = [x, y] := by unfold usesL; rw [if_neg (by omega), if_pos ⟨o3, o7⟩]
    rw [e]
    exact ⟨by simp, fun j hj => by
      match j, hj with
      | 0, _ => simpa using hx
      | 1, _ => simpa using hy⟩
theorem has_set (f : Nat → Bool) {nn : Nat} (h : nn < 8) : hasB (risingTo f 8) (nn : Int) = f nn := has_rising f h
theorem take_next {us : List Int} {j : Nat} (h : j < us.length) : us.take (j + 1) = us.take j ++ [us.getD j 0] := by
  rw [List.take_add_one, List.getElem?_eq_getElem h]
  simp [List.getD, List.getElem?_eq_getElem h]
set_option maxHeartbeats 4000000 in
theorem spec_need (a : Option Addr) (len cap : Nat) (zs : List Int) (W : World) (hz : Hid (zs.length = len * 5)) (hlen : len ≤ 1048576) (h : Hid (Ints W a zs)) :
    Calls Try.prog 15 #[.slice a len cap] W fun e W' => NamesAns (codeB zs len) (risingTo (needTo zs len) 8) W e W' := by
  cases hc : codeB zs len
  · go_enter Try.func15, Try.ntmps15
    go_wp2_with (go_at_call 9; refine (spec_code _ _ _ zs _ hz hlen h).mono ?_; rw [hc]; rintro e w1 ⟨rfl, hb⟩; have HB : Hid (Below W.heap.size W w1) := hb; clear hb)
    go_ret2
    exact Or.inr ⟨rfl, rfl, HB.out⟩
  have HG : Hid (∀ k, k < len → stepB zs k = true) := (code_out hc).2
  go_enter Try.func15, Try.ntmps15
  go_wp2_with (go_at_call 9; refine (spec_code _ _ _ zs _ hz hlen h).mono ?_; rw [hc]; rintro e w1 ⟨rfl, hb⟩; have HB1 : Hid (Below W.heap.size W w1) := hb; clear hb)
  clear hc
  go_loopw [4, 5, 15] (fun vs vt vi wr => ∃ k : Nat, k ≤ len ∧ vi = .int .i64 k ∧ Hid (LRow wr vs (risingTo (setTo zs k) 8)) ∧ Hid (LRow wr vt (risingTo (needTo zs k) 8)) ∧ Hid (Below W.heap.size W wr)) (fun _ _ vi _ => len - (intOf vi).toNat)
  case atStart => exact ⟨0, Nat.zero_le _, rfl, Or.inl ⟨rfl, rfl⟩, Or.inl ⟨rfl, rfl⟩, HB1⟩
  case round =>
    obtain ⟨k, hk, rfl, HL, HT, HB⟩ := hrel
    by_cases hlt : k < len
    · obtain ⟨b, o', ha, hb, c0, c1, c2, c3, c4⟩ := Instr_at h.out hz.out HB.out hlt
      subst ha
      have hg := HG.out k hlt
      unfold stepB at hg
      have hbs := HB.out.size
      have HNA : Hid (needTo zs (k + 1) = needAt (needTo zs k) (setTo zs k) (usesL (zs.getD (k * 5) 0) (zs.getD (k * 5 + 2) 0) (zs.getD (k * 5 + 3) 0))) := rfl
      have HS8 : Hid (zs.getD (k * 5) 0 = 8 → risingTo (setTo zs (k + 1)) 8 = risingTo (setTo zs k) 8) := set_out
      have HSP : Hid (∀ dn : Nat, zs.getD (k * 5) 0 ≠ 8 → zs.getD (k * 5 + 1) 0 = (dn : Int) → dn < 8 → putL (risingTo (setTo zs k) 8) (dn : Int) = risingTo (setTo zs (k + 1)) 8) := fun dn => set_put
      generalize zs.getD (k * 5) 0 = o at c0 hg HNA HS8 HSP
      generalize zs.getD (k * 5 + 1) 0 = d at c1 hg HSP
      generalize zs.getD (k * 5 + 2) 0 = x at c2 hg HNA
      generalize zs.getD (k * 5 + 3) 0 = y at c3 hg HNA
      generalize zs.getD (k * 5 + 4) 0 = n at c4 hg
      have Hg : Hid (goodI o d x y n = true) := hg
      obtain ⟨hu2, hub⟩ := uses_bd hg
      have HU : Hid (∀ j, j < (usesL o x y).length → 0 ≤ (usesL o x y).getD j 0 ∧ (usesL o x y).getD j 0 ≤ 7) := hub
      obtain ⟨us, hus⟩ : ∃ us, usesL o x y = us := ⟨_, rfl⟩
      have HUS : Hid (usesL o x y = us) := hus
      rw [hus] at hu2 HU HNA
      clear hg hub hus
      obtain ⟨sa, sc, hse, _⟩ := HL.out.ints
      subst hse
      go_wp2_with fail
      refine (spec_uses _ _ _ _ _ _ Hg.out).mono ?_
      rw [HUS.out]
      rintro e w2 ⟨ua, uc, rfl, hUI, hUB⟩
      have UI : Hid (Ints w2 ua us) := hUI
      have HB2 : Hid (Below W.heap.size W w2) := (HB.out.alloc hbs _).trans (hUB.mono (by simp; omega))
      have HL2 : Hid (LRow w2 _ (risingTo (setTo zs k) 8)) := (HL.out.kept (by go_grown)).kept hUB
      have HT2 : Hid (LRow w2 _ (risingTo (needTo zs k) 8)) := (HT.out.kept (by go_grown)).kept hUB
      have x0 : w2.cell? ⟨wr.heap.size, 0, none⟩ = some (.int .i64 o) := (hUB.cell (p := ⟨wr.heap.size, 0, none⟩) (by simp)).trans (by simp)
      have x1 : w2.cell? ⟨wr.heap.size, 1, none⟩ = some (.int .i64 d) := (hUB.cell (p := ⟨wr.heap.size, 1, none⟩) (by simp)).trans (by simp)
      have hw2 : wr.heap.size < w2.heap.size := Nat.lt_of_lt_of_le (by simp) hUB.size
      obtain ⟨gx, hgx⟩ : ∃ gx, wr.heap.size = gx := ⟨_, rfl⟩
      rw [hgx] at x0 x1 hw2
      have HGX : Hid (wr.heap.size = gx) := hgx
      have HX : Hid (w2.cell? ⟨gx, 0, none⟩ = some (.int .i64 o) ∧ w2.cell? ⟨gx, 1, none⟩ = some (.int .i64 d) ∧ gx < w2.heap.size) := ⟨x0, x1, hw2⟩
      clear hUI hUB x0 x1 hw2 c0 c1 c2 c3 c4
      rw [hgx]
      clear hgx
      go_wp2
      go_loopw [5, 22] (fun vt vi wr2 => ∃ j : Nat, j ≤ us.length ∧ vi = .int .i64 j ∧ Hid (LRow wr2 vt (risingTo (needAt (needTo zs k) (setTo zs k) (us.take j)) 8)) ∧ Hid (Below w2.heap.size w2 wr2)) (fun _ vi _ => us.length - (intOf vi).toNat)
      case atStart => exact ⟨0, Nat.zero_le _, rfl, by show LRow _ _ _; rw [List.take_zero, need_none]; exact HT2.out, Below.refl _ _⟩
      case round =>
        obtain ⟨j, hj, rfl, HO, HJ⟩ := hrel
        by_cases hjl : j < us.length
        · obtain ⟨ub, uo, hua, hcell⟩ := UI.out.at HJ.out hjl
          subst hua
          obtain ⟨m0, m7⟩ := HU.out j hjl
          have HTN : Hid (us.take (j + 1) = us.take j ++ [us.getD j 0]) := take_next hjl
          generalize us.getD j 0 = mm at hcell m0 m7 HTN
          obtain ⟨nn, rfl⟩ := Int.eq_ofNat_of_zero_le m0
          have h8 : nn < 8 := by omega
          have hjs := HJ.out.size
          obtain ⟨sa', sc', hse', hsI⟩ := (HL2.out.kept HJ.out).ints
          simp only [Value.slice.injEq] at hse'
          obtain ⟨rfl, _, rfl⟩ := hse'
          have HSI : Hid (Ints _ _ (risingTo (setTo zs k) 8)) := hsI
          clear hsI
          cases hs : setTo zs k nn
          · have HE : Hid (putL (risingTo (needAt (needTo zs k) (setTo zs k) (us.take j)) 8) (nn : Int) = risingTo (needAt (needTo zs k) (setTo zs k) (us.take (j + 1))) 8) := by show _ = _; rw [HTN.out]; exact need_put h8 hs
            have HH : Hid (hasB (risingTo (setTo zs k) 8) (nn : Int) = false) := (has_set _ h8).trans hs
            go_wp2_with (first
              | (go_at_call 30; refine (spec_has _ _ _ (risingTo (setTo zs k) 8) _ _ rfl (Nat.le_trans (rising_len _ 8) (by omega)) HSI).mono ?_; rw [HH.out]; rintro e w' ⟨rfl, hw⟩; rw [hw]; clear hw w')
              | (go_at_call 31; refine (spec_put _ _ _ _ HO.out (Nat.le_trans (rising_len _ 8) (by omega))).mono ?_; rw [HE.out]; rintro e w' ⟨v', rfl, hL', hB'⟩; have HL' : Hid (LRow w' v' (risingTo (needAt (needTo zs k) (setTo zs k) (us.take (j + 1))) 8)) := hL'; have HJ' : Hid (Below w2.heap.size w2 w') := HJ.out.trans (hB'.mono hjs); clear hL' hB'))
            go_roundw
            case rel => exact ⟨j + 1, by omega, by go_num, HL', HJ'⟩
            case measure => simp [intOf]; omega
          · have HE : Hid (risingTo (needAt (needTo zs k) (setTo zs k) (us.take (j + 1))) 8 = risingTo (needAt (needTo zs k) (setTo zs k) (us.take j)) 8) := by show _ = _; rw [HTN.out]; exact need_skip hs
            have HH : Hid (hasB (risingTo (setTo zs k) 8) (nn : Int) = true) := (has_set _ h8).trans hs
            go_wp2_with (first
              | (go_at_call 30; refine (spec_has _ _ _ (risingTo (setTo zs k) 8) _ _ rfl (Nat.le_trans (rising_len _ 8) (by omega)) HSI).mono ?_; rw [HH.out]; rintro e w' ⟨rfl, hw⟩; rw [hw]; clear hw w'))
            go_roundw
            case rel => exact ⟨j + 1, by omega, by go_num, by rw [HE.out]; exact HO.out, HJ⟩
            case measure => simp [intOf]; omega
        · have HN1 : Hid (risingTo (needAt (needTo zs k) (setTo zs k) (us.take j)) 8 = risingTo (needTo zs (k + 1)) 8) := by
            show _ = _
            rw [List.take_of_length_le (by omega), HNA.out]
          have x0 : wr.cell? ⟨gx, 0, none⟩ = some (.int .i64 o) := (HJ.out.cell (p := ⟨gx, 0, none⟩) HX.out.2.2).trans HX.out.1
          have x1 : wr.cell? ⟨gx, 1, none⟩ = some (.int .i64 d) := (HJ.out.cell (p := ⟨gx, 1, none⟩) HX.out.2.2).trans HX.out.2.1
          have HBJ : Hid (Below W.heap.size W wr) := HB2.out.trans (HJ.out.mono HB2.out.size)
          have hbj := HBJ.out.size
          by_cases h8 : o = 8
          · have HE := HS8.out h8
            have HE' : Hid (risingTo (setTo zs (k + 1)) 8 = risingTo (setTo zs k) 8) := HE
            subst h8
            clear HE
            go_wp2
            go_roundw
            case rel => exact ⟨k + 1, by omega, by go_num, by rw [HE'.out]; exact HL2.out.kept HJ.out, by rw [← HN1.out]; exact HO.out, HBJ⟩
            case measure => simp [intOf]; omega
          · obtain ⟨d0, d1⟩ := good_dst Hg.out h8
            obtain ⟨dn, rfl⟩ := Int.eq_ofNat_of_zero_le d0
            have HE : Hid (putL (risingTo (setTo zs k) 8) (dn : Int) = risingTo (setTo zs (k + 1)) 8) := HSP.out dn h8 rfl (by omega)
            have s8 : (o == 8) = false := by simpa using h8
            have s9 : decide (o = 8) = false := decide_eq_false h8
            clear h8
            go_wp2_with (go_at_call 31; refine (spec_put _ (risingTo (setTo zs k) 8) _ _ (HL2.out.kept HJ.out) (Nat.le_trans (rising_len _ 8) (by omega))).mono ?_; rw [HE.out]; rintro e w' ⟨v', rfl, hL', hB'⟩; have HL' : Hid (LRow w' v' (risingTo (setTo zs (k + 1)) 8)) := hL'; have HO' : Hid (LRow w' _ (risingTo (needTo zs (k + 1)) 8)) := (by show LRow _ _ _; rw [← HN1.out]; exact HO.out.kept hB'); have HB' : Hid (Below W.heap.size W w') := HBJ.out.trans (hB'.mono hbj); clear hL' hB')
            go_roundw
            case rel => exact ⟨k + 1, by omega, by go_num, HL', HO', HB'⟩
            case measure => simp [intOf]; omega
    · have HE : Hid (k = len) := by show k = len; omega
      go_wp2
      go_ret2
      rw [HE.out] at HT
      exact Or.inl ⟨rfl, ⟨_, rfl, HT.out⟩, HB.out⟩
end Go.Proofs.Ytfejfbafoaiidaa.walks
