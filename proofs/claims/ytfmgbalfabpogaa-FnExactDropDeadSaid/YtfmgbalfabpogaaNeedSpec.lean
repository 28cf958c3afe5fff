/-
  What the specification's NamesNeeded answers, at every list of steps.
-/
import Derived.Test.YtfmgbalfabpogaaProg
import Derived.Test.YtfmgbalfabpogaaMagMath
import Derived.Test.YtfmgbalfabpogaaCodeMath
import Derived.Test.YtfmgbalfabpogaaRunMath
import Derived.Test.YtfmgbalfabpogaaNamesMath
import Derived.Test.YtfmgbalfabpogaaInts
import Derived.Test.YtfmgbalfabpogaaOwnInts
import Derived.Test.YtfmgbalfabpogaaRecsInstr
import Derived.Test.YtfmgbalfabpogaaCodeGood
import Derived.Test.YtfmgbalfabpogaaPutSpec
import Derived.Test.YtfmgbalfabpogaaNamesSpec
import Derived.WalkKit
import Derived.WalkSpells
import Derived.Below
import Derived.Handy
namespace Go.Proofs.Ytfmgbalfabpogaa.walks
open Go.RowKit Go.Proofs.Ytfmgbalfabpogaa.math Go.Proofs.Ytfmgbalfabpogaa.ints
set_option linter.unusedVariables false

/-- Whether a number is in a list. -/
def hasB (zs : List Int) (n : Int) : Bool := zs.contains n
theorem spec_has (a : Option Addr) (len cap : Nat) (zs : List Int) (n : Int) (W : World) (hz : Hid (zs.length = len)) (hlen : len ≤ 1048576) (h : Hid (Ints W a zs)) :
    Calls Try.prog 20 #[.slice a len cap, .int .i64 n] W fun e W' => e = .returned (.bool (hasB zs n)) ∧ W' = W := by
  go_enter Try.func20, Try.ntmps20
  go_wp2
  go_loop [9] (fun vi => ∃ k : Nat, k ≤ len ∧ vi = .int .i64 k ∧ Hid (hasB (zs.take k) n = false)) (fun vi => len - (intOf vi).toNat)
  case atStart => exact ⟨0, Nat.zero_le _, rfl, rfl⟩
  case round =>
    obtain ⟨k, hk, rfl, HN⟩ := hrel
    by_cases hlt : k < len
    · obtain ⟨b, off, ha, hc⟩ := h.out.at (Below.refl _ _) (k := k) (by have := hz.out; omega)
      subst ha
      have hl : k < zs.length := by have := hz.out; omega
      have HK : Hid (zs.take (k + 1) = zs.take k ++ [zs.getD k 0]) := by
        show _ = _
        rw [List.take_add_one, List.getElem?_eq_getElem hl]
        simp [List.getD, List.getElem?_eq_getElem hl]
      have HM : Hid (zs.getD k 0 = n → hasB zs n = true) := by
        show _ → _
        intro e
        unfold hasB
        simp only [List.getD, List.getElem?_eq_getElem hl, Option.getD_some] at e
        rw [List.contains_iff_mem, ← e]
        exact List.getElem_mem hl
      generalize zs.getD k 0 = x at hc HK HM
      clear hl
      by_cases hx : x = n
      · subst hx
        have HT := HM.out rfl
        have HT' : Hid (hasB zs x = true) := HT
        clear HT
        go_wp2
        go_ret
        exact ⟨by rw [HT'.out]; rfl, rfl⟩
      · have HN' : Hid (hasB (zs.take (k + 1)) n = false) := by
          show _ = _
          have h1 := HN.out
          have h2 : ([x] : List Int).contains n = false := by simpa using fun e => hx (Eq.symm e)
          unfold hasB at h1 ⊢
          rw [HK.out, List.contains_append, h1, h2]
          rfl
        have s1 : (x == n) = false := by simpa using hx
        have s2 : decide (x = n) = false := decide_eq_false hx
        clear hx
        go_wp2
        go_round
        case rel => exact ⟨k + 1, by omega, by go_num, HN'⟩
        case measure => simp [intOf]; omega
    · have HE : Hid (hasB zs n = false) := by
        show _ = _
        have := HN.out
        rw [List.take_of_length_le (by have := hz.out; omega)] at this
        exact this
      go_wp2
      go_ret
      exact ⟨by rw [HE.out]; rfl, rfl⟩
/-- What a step looks at, as a list. -/
def UseAns (us : List Int) (W : World) (e : Ending) (W' : World) : Prop := ∃ a cap, e = .returned (.slice a us.length cap) ∧ Ints W' a us ∧ Below W.heap.size W W'
theorem ints_new1 (W : World) (x : Int) (t : TypeId) {b : Nat} (hb : b = W.heap.size) : Ints (W.alloc (.cells #[.int .i64 x] t)) (some ⟨b, 0, none⟩) [x] := by
  subst hb
  exact Or.inr ⟨W.heap.size, 0, rfl, by simp, fun i hi => by
    match i, hi with
    | 0, _ => simp⟩
theorem ints_new2 (W : World) (x y : Int) (t : TypeId) {b : Nat} (hb : b = W.heap.size) : Ints (W.alloc (.cells #[.int .i64 x, .int .i64 y] t)) (some ⟨b, 0, none⟩) [x, y] := by
  subst hb
  exact Or.inr ⟨W.heap.size, 0, rfl, by simp, fun i hi => by
    match i, hi with
    | 0, _ => simp
    | 1, _ => simp⟩
theorem spec_uses (o d x y n : Int) (W : World) (hg : goodI o d x y n = true) : Calls Try.prog 72 #[.agg #[.int .i64 o, .int .i64 d, .int .i64 x, .int .i64 y, .int .i64 n]] W fun e W' => UseAns (usesL o x y) W e W' := by
  rcases good_cases hg with ⟨rfl, _⟩ | ⟨rfl, _⟩ | ⟨rfl, _⟩ | ⟨⟨o3, o7⟩, _⟩
  · go_enter Try.func72, Try.ntmps72
    go_wp2
    go_ret
    exact ⟨none, 0, rfl, Or.inl rfl, by go_grown⟩
  · have t2 : inR 2 3 7 = false := rfl
    go_enter Try.func72, Try.ntmps72
    go_wp2_with (go_at_call 70; refine (spec_two _ _).mono ?_; rintro e w' ⟨rfl, hw⟩; rw [hw, t2]; clear hw w')
    go_ret
    exact ⟨_, _, rfl, ints_new1 _ _ _ (by simp), by go_grown⟩
  · have t2 : inR 8 3 7 = false := rfl
    go_enter Try.func72, Try.ntmps72
    go_wp2_with (go_at_call 70; refine (spec_two _ _).mono ?_; rintro e w' ⟨rfl, hw⟩; rw [hw, t2]; clear hw w')
    go_ret
    exact ⟨_, _, rfl, ints_new1 _ _ _ (by simp), by go_grown⟩
  · have t2 : inR o 3 7 = true := inR_mk o3 o7
    have e1 : (o == 1) = false := by simp; omega
    have HU : Hid (usesL o x y = [x, y]) := by show _ = _; unfold usesL; rw [if_neg (by omega), if_pos ⟨o3, o7⟩]
    go_enter Try.func72, Try.ntmps72
    go_wp2_with (go_at_call 70; refine (spec_two _ _).mono ?_; rintro e w' ⟨rfl, hw⟩; rw [hw, t2]; clear hw w')
    go_ret
    rw [HU.out]
    exact ⟨_, _, rfl, ints_new2 _ _ _ _ (by simp), by go_grown⟩
/-- Names that were needed, and those of a step's that were not set. -/
def needAt (f s : Nat → Bool) (us : List Int) (i : Nat) : Bool := f i || (us.contains (i : Int) && !s i)
theorem need_all (zs : List Int) (k : Nat) : needTo zs (k + 1) = needAt (needTo zs k) (setTo zs k) (usesL (zs.getD (k * 5) 0) (zs.getD (k * 5 + 2) 0) (zs.getD (k * 5 + 3) 0)) := rfl
theorem need_none (f s : Nat → Bool) : risingTo (needAt f s []) 8 = risingTo f 8 := rising_congr 8 (fun i _ => by simp [needAt])
theorem need_put {f s : Nat → Bool} {us : List Int} {nn : Nat} (h8 : nn < 8) (hs : s nn = false) : putL (risingTo (needAt f s us) 8) (nn : Int) = risingTo (needAt f s (us ++ [(nn : Int)])) 8 := by
  rw [put_rising _ h8]
  refine rising_congr 8 (fun i _ => ?_)
  unfold needAt
  simp only [List.contains_append]
  by_cases e : i = nn
  · subst e; simp [hs]
  · have e' : ¬ (i : Int) = (nn : Int) := by omega
    simp [e, e']
theorem need_skip {f s : Nat → Bool} {us : List Int} {nn : Nat} (hs : s nn = true) : risingTo (needAt f s (us ++ [(nn : Int)])) 8 = risingTo (needAt f s us) 8 := by
  refine rising_congr 8 (fun i _ => ?_)
  unfold needAt
  simp only [List.contains_append]
  by_cases e : i = nn
  · subst e; simp [hs]
  · have e' : ¬ (i : Int) = (nn : Int) := by omega
    simp [e']
theorem uses_bd {o d x y n : Int} (h : goodI o d x y n = true) : (usesL o x y).length ≤ 2 ∧ ∀ j, j < (usesL o x y).length → 0 ≤ (usesL o x y).getD j 0 ∧ (usesL o x y).getD j 0 ≤ 7 := by
  rcases good_cases h with ⟨rfl, _⟩ | ⟨rfl, _, hx⟩ | ⟨rfl, hx⟩ | ⟨⟨o3, o7⟩, _, hx, hy⟩
  · exact ⟨by simp [usesL], fun j hj => by simp [usesL] at hj⟩
  · exact ⟨by simp [usesL], fun j hj => by
      match j, hj with
      | 0, _ => simpa [usesL] using hx⟩
  · exact ⟨by simp [usesL], fun j hj => by
      match j, hj with
      | 0, _ => simpa [usesL] using hx⟩
  · have e : usesL o x y = [x, y] := by unfold usesL; rw [if_neg (by omega), if_pos ⟨o3, o7⟩]
    rw [e]
    exact ⟨by simp, fun j hj => by
      match j, hj with
      | 0, _ => simpa using hx
      | 1, _ => simpa using hy⟩
theorem has_set (f : Nat → Bool) {nn : Nat} (h : nn < 8) : hasB (risingTo f 8) (nn : Int) = f nn := has_rising f h
theorem take_next {us : List Int} {j : Nat} (h : j < us.length) : us.take (j + 1) = us.take j ++ [us.getD j 0] := by
  rw [List.take_add_one, List.getElem?_eq_getElem h]
  simp [List.getD, List.getElem?_eq_getElem h]
end Go.Proofs.Ytfmgbalfabpogaa.walks
