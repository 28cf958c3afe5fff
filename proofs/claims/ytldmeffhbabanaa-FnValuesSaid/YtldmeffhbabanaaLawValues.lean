/-
  Whatever bytes are handed in: of the code drawn the program tells values, numbers and known names as the specification does; names with one value, and those alone, are told to be the same, they hold one word when the code has run, and those that are known hold what is told; the bytes read as before.
-/
import Derived.Test.YtldmeffhbabanaaProg
import Derived.Test.YtldmeffhbabanaaNumRun
import Derived.Test.YtldmeffhbabanaaNumArr
import Derived.Test.YtldmeffhbabanaaRising
import Derived.WalkKit
import Derived.WalkSpells
import Derived.Below
import Derived.Handy
import Derived.Test.YtldmeffhbabanaaNumAll
import Derived.Test.YtldmeffhbabanaaNumSame
import Derived.Test.YtldmeffhbabanaaCodeGood
import Derived.Deep.RegionWith
import Derived.Test.YtldmeffhbabanaaNumOrder
import Derived.Test.YtldmeffhbabanaaNumNums
import Derived.Test.YtldmeffhbabanaaNumCode
import Derived.Test.YtldmeffhbabanaaMarks
import Derived.Test.YtldmeffhbabanaaInts
import Derived.Test.YtldmeffhbabanaaMagMath
import Derived.Test.YtldmeffhbabanaaRecsInstr
import Derived.Laws.StructEq
import Derived.Test.YtldmeffhbabanaaRecsValue
import Derived.Test.YtldmeffhbabanaaNumEq
import Derived.Test.YtldmeffhbabanaaCurDraw
import Derived.Test.YtldmeffhbabanaaNumSound
import Derived.Test.YtldmeffhbabanaaNamesMath
import Derived.Test.YtldmeffhbabanaaRows
import Derived.ProofKit
import Derived.OpenShut
import Derived.ShutString
import Derived.ChangeOld
import Derived.Carry
import Derived.BigQuiet
import Derived.SizedLaws
import Derived.Test.YtldmeffhbabanaaCodeMath
import Derived.Test.YtldmeffhbabanaaRunMath
import Derived.Test.YtldmeffhbabanaaOwnInts
import Derived.Test.YtldmeffhbabanaaStepsOf
import Derived.Test.YtldmeffhbabanaaRunImpl
import Derived.Test.YtldmeffhbabanaaNumKeys
import Derived.Test.YtldmeffhbabanaaNumMath
import Derived.Test.YtldmeffhbabanaaCur
namespace Go.Proofs.Ytldmeffhbabanaa.nums
open Go.RowKit Go.Proofs.Ytldmeffhbabanaa.math Go.Proofs.Ytldmeffhbabanaa.ints Go.Proofs.Ytldmeffhbabanaa.walks
set_option linter.unusedVariables false

/-- Whether a name's value is a constant, among the first k names. -/
def knownB (ns : List V) (i : Nat) : Bool := decide ((ns.getD i zV).1 = 1)
def knownTo (ns : List V) (k i : Nat) : Bool := decide (i < k) && knownB ns i
theorem known_all (ns : List V) : risingTo (knownTo ns 8) 8 = risingTo (knownB ns) 8 := by
  rw [rising_row, rising_row]
  rfl
theorem known_none (ns : List V) {w : World} {g : Nat} (h : Marked w g (fun _ => false)) : Marked w g (knownTo ns 0) := World.rowIs.congr h (fun i _ => by simp [knownTo])
theorem marked_put {W : World} {g B j : Nat} {ns : List V} {c : Bool} (h : Marked W g (knownTo ns j)) (hB : B ≤ g) (hc : knownB ns j = c) : Marked (W.setCell ⟨g, j, none⟩ (.bool c)) g (knownTo ns (j + 1)) := by
  refine (World.rowIs.set h j (.bool c)).congr ?_
  intro i hi
  by_cases e : i = j
  · subst e; simp [knownTo, hc]
  · simp [e, knownTo]
    congr 1
    exact decide_eq_decide.2 (by omega)
set_option maxRecDepth 100000 in
set_option maxHeartbeats 16000000 in
theorem impl_known (a : Option Addr) (len cap : Nat) (zs : List Int) (W : World) (hz : Hid (zs.length = len * 5)) (hlen : len ≤ 1048576) (h : Hid (Ints W a zs)) :
    Calls Try.prog 16 #[.slice a len cap] W fun e W' => NamesTold (codeB zs len) (risingTo (knownB (numTo zs len).2) 8) W e W' := by
  go_enter Try.func16, Try.ntmps16
  go_wp2_with fail
  refine (impl_numbering a len cap zs W hz hlen h).mono ?_
  rintro e w1 ⟨⟨hc, nb, mb, rfl, hN, _, _⟩ | ⟨hc, rfl⟩, hb⟩
  rotate_left
  · have HA : Hid (NamesTold (codeB zs len) (risingTo (knownB (numTo zs len).2) 8) W (.returned (.tuple #[.slice none 0 0, .bool false])) w1) := Or.inr ⟨hc, rfl, hb⟩
    clear hb hc
    go_wp2
    go_ret2
    exact HA.out
  have HC : Hid (codeB zs len = true) := hc
  have HB : Hid (Below W.heap.size W w1) := hb
  have hnl : nb < w1.heap.size := hN.1.lt
  obtain ⟨ns, HS⟩ : ∃ ns, Hid ((numTo zs len).2 = ns) := ⟨_, rfl⟩
  rw [HS.out] at hN
  have HL : Hid (ns.length = 8) := by show _ = _; rw [← HS.out]; exact (inv_to hc len (Nat.le_refl _)).len
  obtain ⟨cs, HRg, HSz, HArr⟩ := names_arr (hN.alloc (.cells #[.bool false, .bool false, .bool false, .bool false, .bool false, .bool false, .bool false, .bool false] 85)) HL.out
  clear hb hc hN
  go_wp2_with (first | (refine wpList_load_mid rfl 87 _ rfl nb 1 rfl cs _ HRg.out Try.underlying87 rfl HSz.out ?_) | go_in)
  clear HRg HSz
  go_loopw [20] (fun vi wr => ∃ k : Nat, k ≤ 8 ∧ vi = .int .i64 k ∧ Hid (Marked wr w1.heap.size (knownTo ns k)) ∧ Hid (Below w1.heap.size w1 wr)) (fun vi _ => 8 - (intOf vi).toNat)
  case atStart => exact ⟨0, Nat.zero_le _, rfl, known_none ns (marked_new w1), by show Below _ _ _; go_grown⟩
  case round =>
    obtain ⟨k, hk, rfl, HM, HK⟩ := hrel
    have hml : w1.heap.size < wr.heap.size := HM.out.lt
    by_cases hlt : k < 8
    · have hlt' : (k : Int) < 8 := by omega
      obtain ⟨v0, v1, v2, v3, hv⟩ := four_v (ns.getD k zV)
      have qx := HArr.out k hlt v0 v1 v2 v3 hv
      obtain ⟨c, hcc⟩ : ∃ c, decide (v0 = 1) = c := ⟨_, rfl⟩
      have HQ : Hid (knownB ns k = c) := by show knownB ns k = c; unfold knownB; simp only [hv]; exact hcc
      have m0 := HM.out.cell (i := k) (by omega)
      have m1 := HM.out.frozen k
      generalize knownTo ns k k = old at m0
      clear hv
      go_wp2_with (go_at_call 42; refine (impl_isConst (v0, v1, v2, v3) _).mono ?_; rw [hcc]; rintro e w' ⟨rfl, hb'⟩; have n0 : w'.cell? ⟨w1.heap.size, k, none⟩ = some (.bool old) := (hb'.cell (p := ⟨w1.heap.size, k, none⟩) (by simp; omega)).trans (by go_simp); have n1 : w'.frozen? ⟨w1.heap.size, k, none⟩ = false := (hb'.frozen (p := ⟨w1.heap.size, k, none⟩) (by simp; omega)).trans (by go_simp); have HM' : Hid (Marked w' w1.heap.size (knownTo ns k)) := (by show Marked _ _ _; exact World.rowIs.of_block (World.rowIs.alloc HM.out _) (hb'.block _ (by simp; omega))); have HK' : Hid (Below w1.heap.size w1 w') := (by show Below _ _ _; exact (HK.out.alloc (by omega) _).trans (hb'.mono (by simp; omega))); clear hb')
      go_roundw
      case rel => exact ⟨k + 1, by omega, by go_num, marked_put (B := 0) HM'.out (Nat.zero_le _) HQ.out, HK'.out.setCell (Nat.le_refl _) _⟩
      case measure => simp [intOf]; omega
    · have HE : Hid (k = 8) := by show k = 8; omega
      have hge : (8 : Int) ≤ k := by omega
      have HM8 : Hid (Marked wr w1.heap.size (knownTo ns 8)) := by rw [HE.out] at HM; exact HM
      have m0 := HM8.out.cell (i := 0) (by omega)
      have m1 := HM8.out.cell (i := 1) (by omega)
      have m2 := HM8.out.cell (i := 2) (by omega)
      have m3 := HM8.out.cell (i := 3) (by omega)
      have m4 := HM8.out.cell (i := 4) (by omega)
      have m5 := HM8.out.cell (i := 5) (by omega)
      have m6 := HM8.out.cell (i := 6) (by omega)
      have m7 := HM8.out.cell (i := 7) (by omega)
      have HB' : Hid (Below W.heap.size W wr) := HB.out.trans (HK.out.mono HB.out.size)
      go_wp2_with (go_at_call 43; refine (impl_rising (knownTo ns 8) _).mono ?_; rintro e w' ⟨v, rfl, hO', hb'⟩; obtain ⟨ra, rc, rfl, hM'⟩ := hO'.mine; have HA : Hid (NamesTold (codeB zs len) (risingTo (knownB (numTo zs len).2) 8) W (.returned (.tuple #[.slice ra (risingTo (knownTo ns 8) 8).length rc, .bool true])) w') := (by show NamesTold _ _ _ _ _; rw [HS.out, ← known_all ns]; exact Or.inl ⟨HC.out, ⟨ra, rc, rfl, mine_down hM' HB'.out.size⟩, HB'.out.trans (hb'.mono HB'.out.size)⟩); clear hO' hb' hM')
      go_ret2
      exact HA.out
end Go.Proofs.Ytldmeffhbabanaa.nums

namespace Go.Proofs.Ytldmeffhbabanaa.nums
open Go.RowKit Go.Proofs.Ytldmeffhbabanaa.math Go.Proofs.Ytldmeffhbabanaa.ints Go.Proofs.Ytldmeffhbabanaa.walks
set_option linter.unusedVariables false

theorem all_seen4 {zs : List Int} {len B sb : Nat} {w : World} (hc : codeB zs len = true) (h : St w B sb (numTo zs len).1 (numsOf (numTo zs len).1 (numTo zs len).2)) : ∃ gv gn cv cn, Seen w B sb gv gn cv cn (numTo zs len).1 (numsOf (numTo zs len).1 (numTo zs len).2) ∧ (numsOf (numTo zs len).1 (numTo zs len).2).length = 8 ∧ 0 < (numTo zs len).1.length := by
  have hI := inv_to hc len (Nat.le_refl _)
  have hkl : (numsOf (numTo zs len).1 (numTo zs len).2).length = 8 := by rw [nums_len, hI.len]
  have hv : 0 < (numTo zs len).1.length := by
    have := idx_lt (hI.at (i := 0) (by omega))
    omega
  obtain ⟨gv, gn, cv, cn, hE⟩ := h.seen hv (by omega)
  exact ⟨gv, gn, cv, cn, hE, hkl, hv⟩
theorem num_at {zs : List Int} {len j : Nat} (hc : codeB zs len = true) (hj : j < 8) : (numsOf (numTo zs len).1 (numTo zs len).2).getD j 0 = (idx (numTo zs len).1 ((numTo zs len).2.getD j zV) : Int) := nums_at (by rw [(inv_to hc len (Nat.le_refl _)).len]; exact hj)
theorem same_num {zs : List Int} {len j k : Nat} (hc : codeB zs len = true) (hj : j < 8) (hk : k < 8) : decide ((idx (numTo zs len).1 ((numTo zs len).2.getD j zV) : Int) = (idx (numTo zs len).1 ((numTo zs len).2.getD k zV) : Int)) = sameV zs len (j : Int) (k : Int) := by
  have hI := inv_to hc len (Nat.le_refl _)
  unfold sameV
  simp only [Int.toNat_natCast]
  refine decide_eq_decide.2 ⟨fun e => ?_, fun e => by rw [e]⟩
  exact idx_inj (hI.at hj) (hI.at hk) (by omega)
set_option maxHeartbeats 2000000 in
theorem spec_same (a : Option Addr) (len cap : Nat) (zs : List Int) (x y : Int) (W : World) (hz : Hid (zs.length = len * 5)) (hlen : len ≤ 1048576) (h : Hid (Ints W a zs)) :
    Calls Try.prog 21 #[.slice a len cap, .int .i64 x, .int .i64 y] W fun e W' => SameAns zs len x y W e W' := by
  go_enter Try.func21, Try.ntmps21
  go_wp2_with fail
  refine (spec_code _ _ _ zs _ hz hlen h).mono ?_
  cases hc : codeB zs len
  · rintro e w1 ⟨rfl, hb⟩
    have HA : Hid (SameAns zs len x y W (.returned (.tuple #[.bool false, .bool false])) w1) := ⟨Or.inr ⟨by simp [sameOk, hc], rfl⟩, hb⟩
    clear hb hc
    go_wp2
    go_ret2
    exact HA.out
  rintro e w1 ⟨rfl, hb⟩
  cases hx : inR x 0 7
  · have HA : Hid (SameAns zs len x y W (.returned (.tuple #[.bool false, .bool false])) w1) := ⟨Or.inr ⟨by simp [sameOk, hx], rfl⟩, hb⟩
    clear hb hc
    go_wp2_with (go_at_call 46; refine (spec_name _ _).mono ?_; rw [hx]; rintro e w' ⟨rfl, hw⟩; rw [hw]; clear hw w')
    go_ret2
    exact HA.out
  cases hy : inR y 0 7
  · have HA : Hid (SameAns zs len x y W (.returned (.tuple #[.bool false, .bool false])) w1) := ⟨Or.inr ⟨by simp [sameOk, hy], rfl⟩, hb⟩
    clear hb hc
    go_wp2_with (go_at_call 46; refine (spec_name _ _).mono ?_; (first | rw [hx] | rw [hy]); rintro e w' ⟨rfl, hw⟩; rw [hw]; clear hw w')
    go_ret2
    exact HA.out
  have HC : Hid (codeB zs len = true) := hc
  have HB1 : Hid (Below W.heap.size W w1) := hb
  clear hb hc
  obtain ⟨x0, x7⟩ := inR_out hx
  obtain ⟨y0, y7⟩ := inR_out hy
  obtain ⟨j, rfl⟩ := Int.eq_ofNat_of_zero_le x0
  obtain ⟨k, rfl⟩ := Int.eq_ofNat_of_zero_le y0
  go_wp2_with (go_at_call 46; refine (spec_name _ _).mono ?_; (first | rw [hx] | rw [hy]); rintro e w' ⟨rfl, hw⟩; rw [hw]; clear hw w')
  refine (spec_all a len cap zs w1 hz HC (h.out.kept HB1.out)).mono ?_
  rintro e w2 ⟨rfl, hS, hb2⟩
  obtain ⟨gv, gn, cv, cn, hE, hkl, hv⟩ := all_seen4 HC.out hS
  have e1 := hE.n
  rw [hkl] at e1
  have e2 := hE.num (k := j) (by omega)
  have e3 := hE.num (k := k) (by omega)
  rw [num_at HC.out (by omega)] at e2 e3
  obtain ⟨p, hp⟩ : ∃ p : Nat, idx (numTo zs len).1 ((numTo zs len).2.getD j zV) = p := ⟨_, rfl⟩
  obtain ⟨q, hq⟩ : ∃ q : Nat, idx (numTo zs len).1 ((numTo zs len).2.getD k zV) = q := ⟨_, rfl⟩
  have hs := same_num HC.out (j := j) (k := k) (by omega) (by omega)
  rw [hp, hq] at hs
  rw [hp] at e2
  rw [hq] at e3
  obtain ⟨c, hcc⟩ : ∃ c, decide ((p : Int) = (q : Int)) = c := ⟨_, rfl⟩
  rw [hcc] at hs
  have qc : ((p : Int) == (q : Int)) = c := by rw [← hcc]; by_cases e : (p : Int) = (q : Int) <;> simp [e]
  have HA : Hid (SameAns zs len (j : Int) (k : Int) W (.returned (.tuple #[.bool c, .bool true])) w2.drew) := ⟨Or.inl ⟨by simp [sameOk, HC.out, hx, hy], by rw [← hs]⟩, (HB1.out.trans (hb2.mono HB1.out.size)).drew⟩
  have j8 : (j : Int) < 8 := by omega
  have k8 : (k : Int) < 8 := by omega
  clear hE hS hb2 hp hq hs hkl hv x7 y7
  go_wp2
  go_region
  all_goals go_wp2
  all_goals go_ret2
  all_goals exact HA.out
set_option maxRecDepth 100000 in
set_option maxHeartbeats 4000000 in
theorem spec_known (a : Option Addr) (len cap : Nat) (zs : List Int) (W : World) (hz : Hid (zs.length = len * 5)) (hlen : len ≤ 1048576) (h : Hid (Ints W a zs)) :
    Calls Try.prog 17 #[.slice a len cap] W fun e W' => NamesTold (codeB zs len) (risingTo (knownB (numTo zs len).2) 8) W e W' := by
  obtain ⟨i0, hi, hz0, hz1, hz2⟩ := info_parts row_info
  go_enter Try.func17, Try.ntmps17
  go_wp2_with fail
  refine (spec_code _ _ _ zs _ hz hlen h).mono ?_
  cases hc : codeB zs len
  · rintro e w1 ⟨rfl, hb⟩
    have HA : Hid (NamesTold false (risingTo (knownB (numTo zs len).2) 8) W (.returned (.tuple #[.slice none 0 0, .bool false])) w1) := Or.inr ⟨rfl, rfl, hb⟩
    clear hb
    go_wp2
    go_ret2
    rw [hc]
    exact HA.out
  rintro e w1 ⟨rfl, hb⟩
  have HC : Hid (codeB zs len = true) := hc
  have HB1 : Hid (Below W.heap.size W w1) := hb
  clear hb hc
  go_wp2_with fail
  refine (spec_all a len cap zs w1 hz HC (h.out.kept HB1.out)).mono ?_
  rintro e w2 ⟨rfl, hS, hb2⟩
  obtain ⟨gv, gn, cv, cn, hE, hkl, hv⟩ := all_seen4 HC.out hS
  have HI : Hid (Inv (numTo zs len).1 (numTo zs len).2 (8 + len)) := inv_to HC.out len (Nat.le_refl _)
  have HNum : Hid (∀ j, j < 8 → (numsOf (numTo zs len).1 (numTo zs len).2).getD j 0 = (idx (numTo zs len).1 ((numTo zs len).2.getD j zV) : Int)) := fun j hj => num_at HC.out hj
  obtain ⟨vs, ns, hvn⟩ : ∃ vs ns, numTo zs len = (vs, ns) := ⟨_, _, rfl⟩
  rw [hvn] at hE hkl hv HI HNum
  simp only at hE hkl hv HI HNum
  have e0 := hE.v
  have e1 := hE.n
  rw [hkl] at e1
  obtain ⟨l0, l1, l2, _, _⟩ := hE.lt
  have HE : Hid (Seen w2 w1.heap.size w1.heap.size gv gn cv cn vs (numsOf vs ns)) := hE
  have HL : Hid ((numsOf vs ns).length = 8) := hkl
  have HB2 : Hid (Below W.heap.size W w2) := HB1.out.trans (hb2.mono HB1.out.size)
  have HV : Hid (numTo zs len = (vs, ns)) := hvn
  have hvl : vs.length ≤ 38 := Nat.le_trans HI.out.room (by have := (code_out HC.out).1; omega)
  clear hE hS hb2 hvn hkl
  go_wp2
  go_loopw [5, 18] (fun vt vi wr => ∃ k : Nat, k ≤ 8 ∧ vi = .int .i64 k ∧ Hid (Own wr w2.heap.size vt (risingTo (knownB ns) k)) ∧ Hid (Below w2.heap.size w2 wr)) (fun _ vi _ => 8 - (intOf vi).toNat)
  case atStart => exact ⟨0, Nat.zero_le _, rfl, own_nil _ _, Below.refl _ _⟩
  case round =>
    obtain ⟨k, hk, rfl, HO, HB⟩ := hrel
    have hsz := HB.out.size
    have HLn : Hid ((risingTo (knownB ns) k).length ≤ k) := rising_len (knownB ns) k
    by_cases hlt : k < 8
    · have hlt' : (k : Int) < 8 := by omega
      have hm := HI.out.at hlt
      have hil := idx_lt hm
      have c1 : wr.cell? ⟨gn, k, none⟩ = some (.int .i64 (idx vs (ns.getD k zV) : Int)) := (HB.out.cell (p := ⟨gn, k, none⟩) l2).trans ((HE.out.num (by rw [HL.out]; exact hlt)).trans (by rw [HNum.out k hlt]))
      have c2 : wr.cell? ⟨gv, idx vs (ns.getD k zV) * 4, none⟩ = some (.int .i64 (ns.getD k zV).1) := (HB.out.cell (p := ⟨gv, idx vs (ns.getD k zV) * 4, none⟩) l1).trans ((HE.out.val (i := 0) hil (by omega)).trans (by rw [idx_get hm]; rfl))
      have c3 : wr.cell? ⟨w1.heap.size, 0, none⟩ = some (.slice (some ⟨gv, 0, none⟩) vs.length cv) := (HB.out.cell (p := ⟨w1.heap.size, 0, none⟩) l0).trans e0
      obtain ⟨i, hi'⟩ : ∃ i : Nat, idx vs (ns.getD k zV) = i := ⟨_, rfl⟩
      rw [hi'] at c1 c2 hil
      have hil' : (i : Int) < (vs.length : Int) := by omega
      cases hf : knownB ns k
      · have HE' : Hid (risingTo (knownB ns) (k + 1) = risingTo (knownB ns) k) := ris_no hf
        have hne : ¬ (ns.getD k zV).1 = 1 := of_decide_eq_false hf
        generalize (ns.getD k zV).1 = op at c2 hne
        have q1 : (op == 1) = false := by simpa using hne
        clear hm hi' hf hne
        go_wp2
        go_roundw
        case rel => exact ⟨k + 1, by omega, by go_num, by rw [HE'.out]; exact HO.out, HB⟩
        case measure => simp [intOf]; omega
      · have HE' : Hid (risingTo (knownB ns) (k + 1) = risingTo (knownB ns) k ++ [(k : Int)]) := ris_yes hf
        have heq : (ns.getD k zV).1 = 1 := of_decide_eq_true hf
        rw [heq] at c2
        clear hm hi' hf heq
        go_wp2_with (first
          | (at_builtin; refine wpList_append_own _ rfl _ _ 24 rfl w2.heap.size 3 i0 (.int .i64 0) 1 8 Try.underlying24 hi hz0 hz1 hz2 rfl (by decide) _ _ _ rfl (World.ownsRow.alloc HO.out _) ⟨wr.heap.size, 0, none⟩ 1 1 [.int .i64 (k : Int)] rfl rfl (new_one wr (k : Int) _) (one_of _) (by have := HLn.out; unfold maxLen; omega) (by have := HLn.out; omega) (by simp; omega) ?_)
          | go_in)
        intro v' w3 hown' hgrow _
        obtain ⟨q0, q1, q2⟩ := Own.snoc HO.out hsz HB.out hown' hgrow
        have Q0 : Hid (Own w3 w2.heap.size v' (risingTo (knownB ns) k ++ [(k : Int)])) := q0
        have Q1 : Hid (Below w2.heap.size w2 w3) := q1
        clear hown' hgrow q0 q1 q2
        go_wp2
        go_roundw
        case rel => exact ⟨k + 1, by omega, by go_num, by rw [HE'.out]; exact Q0, Q1⟩
        case measure => simp [intOf]; omega
    · have HE8 : Hid (k = 8) := by show k = 8; omega
      rw [HE8.out] at HO
      obtain ⟨ra, rc, rfl, hM⟩ := HO.out.mine
      have HA : Hid (NamesTold (codeB zs len) (risingTo (knownB (numTo zs len).2) 8) W (.returned (.tuple #[.slice ra (risingTo (knownB ns) 8).length rc, .bool true])) wr) := by
        show NamesTold _ _ _ _ _
        rw [HV.out]
        exact Or.inl ⟨HC.out, ⟨ra, rc, rfl, mine_down hM HB2.out.size⟩, HB2.out.trans (HB.out.mono HB2.out.size)⟩
      have hge : (8 : Int) ≤ k := by omega
      clear hM
      go_wp2
      go_ret2
      exact HA.out
end Go.Proofs.Ytldmeffhbabanaa.nums

namespace Go.Proofs.Ytldmeffhbabanaa.nums
open Go.RowKit Go.Proofs.Ytldmeffhbabanaa.math Go.Proofs.Ytldmeffhbabanaa.ints Go.Proofs.Ytldmeffhbabanaa.walks
set_option linter.unusedVariables false

/-- What ValuesOf answers. -/
def ValsTold (c : Bool) (t : Nat) (fl ks : List Int) (W : World) (e : Ending) (W' : World) : Prop :=
  (c = true ∧ (∃ a cap a' cap', e = .returned (.tuple #[.slice a t cap, .slice a' 8 cap', .bool true]) ∧ Mine W' W.heap.size a fl ∧ Mine W' W.heap.size a' ks ∧ Apart a a') ∧ Below W.heap.size W W') ∨ (c = false ∧ e = .returned (.tuple #[.slice none 0 0, .slice none 0 0, .bool false]) ∧ Below W.heap.size W W')
def ValsSaid (c : Bool) (t : Nat) (fl ks : List Int) (W : World) (e : Ending) (W' : World) : Prop :=
  (c = true ∧ (∃ a cap a' cap', e = .returned (.tuple #[.slice a t cap, .slice a' 8 cap', .bool true]) ∧ Ints W' a fl ∧ Ints W' a' ks) ∧ Below W.heap.size W W') ∨ (c = false ∧ e = .returned (.tuple #[.slice none 0 0, .slice none 0 0, .bool false]) ∧ Below W.heap.size W W')
theorem Seen.valInts {w : World} {B sb gv gn cv cn : Nat} {vs : List V} {ks : List Int} (h : Seen w B sb gv gn cv cn vs ks) : Ints w (some ⟨gv, 0, none⟩) (flatI vs) := by
  refine Or.inr ⟨gv, 0, rfl, h.lt.2.1, fun i hi => ?_⟩
  rw [flatI_len] at hi
  have h1 := h.val (k := i / 4) (i := i % 4) (by omega) (by omega)
  rw [show i / 4 * 4 + i % 4 = i by omega] at h1
  rw [Nat.zero_add, h1]
  have h2 := flatI_at (vs := vs) (k := i / 4) (i := i % 4) (by omega) (by omega)
  rw [show i / 4 * 4 + i % 4 = i by omega] at h2
  rw [h2]
theorem Seen.numInts {w : World} {B sb gv gn cv cn : Nat} {vs : List V} {ks : List Int} (h : Seen w B sb gv gn cv cn vs ks) : Ints w (some ⟨gn, 0, none⟩) ks :=
  Or.inr ⟨gn, 0, rfl, h.lt.2.2.1, fun i hi => by rw [Nat.zero_add]; exact h.num hi⟩
theorem own_some {w : World} {B : Nat} {v : Value} {zs : List Int} (h : Own w B v zs) (h0 : 0 < zs.length) : ∃ b cap, v = .slice (some ⟨b, 0, none⟩) zs.length cap ∧ B ≤ b ∧ Mine w B (some ⟨b, 0, none⟩) zs := by
  obtain ⟨a, cap, e, hM⟩ := h.mine
  rcases h.2 with ⟨_, hn⟩ | ⟨g, cap', cur, e', hg, _⟩
  · omega
  · rw [e'] at e
    simp at e
    obtain ⟨e1, e2⟩ := e
    subst e1
    exact ⟨g, cap', e', hg, hM⟩
set_option maxHeartbeats 2000000 in
theorem impl_values (a : Option Addr) (len cap : Nat) (zs : List Int) (W : World) (hz : Hid (zs.length = len * 5)) (hlen : len ≤ 1048576) (h : Hid (Ints W a zs)) :
    Calls Try.prog 14 #[.slice a len cap] W fun e W' => ValsTold (codeB zs len) (numTo zs len).1.length (flatI (numTo zs len).1) (numsOf (numTo zs len).1 (numTo zs len).2) W e W' := by
  go_enter Try.func14, Try.ntmps14
  go_wp2_with fail
  refine (impl_numbering a len cap zs W hz hlen h).mono ?_
  rintro e w1 ⟨⟨hc, nb, mb, rfl, hN, _, _⟩ | ⟨hc, rfl⟩, hb⟩
  rotate_left
  · have HA : Hid (ValsTold (codeB zs len) (numTo zs len).1.length (flatI (numTo zs len).1) (numsOf (numTo zs len).1 (numTo zs len).2) W (.returned (.tuple #[.slice none 0 0, .slice none 0 0, .bool false])) w1) := Or.inr ⟨hc, rfl, hb⟩
    clear hb hc
    go_wp2
    go_ret3
    exact HA.out
  have HC : Hid (codeB zs len = true) := hc
  have HB : Hid (Below W.heap.size W w1) := hb
  have HN : Hid (Num w1 nb mb (numTo zs len).1 (numTo zs len).2) := hN
  have HI : Hid (Inv (numTo zs len).1 (numTo zs len).2 (8 + len)) := inv_to hc len (Nat.le_refl _)
  have h30 : len ≤ 30 := (code_out hc).1
  have H8 : Hid ((numsOf (numTo zs len).1 (numTo zs len).2).length = 8) := by show _ = _; rw [nums_len, HI.out.len]
  clear hb hc hN
  go_wp2_with fail
  refine (impl_order nb mb (8 + len) _ _ w1 (by omega) HI HN).mono ?_
  rintro e w2 ⟨c2, rfl, hM, hb2⟩
  have HM2 : Hid (Mine w2 w1.heap.size (some ⟨w1.heap.size, 0, none⟩) (flatI (numTo zs len).1)) := hM
  have HB2 : Hid (Below w1.heap.size w1 w2) := hb2
  have HN2 : Hid (Num w2 nb mb (numTo zs len).1 (numTo zs len).2) := num_far HN.out hb2
  have hlt2 : w1.heap.size < w2.heap.size := mine_lt hM (by
    rw [flatI_len]
    have := idx_lt (HI.out.at (i := 0) (by omega))
    omega)
  clear hM hb2
  go_wp2_with fail
  refine (impl_nums nb mb (8 + len) _ _ w2 HI HN2).mono ?_
  rintro e w3 ⟨v, rfl, hO, hb3⟩
  obtain ⟨b, c3, rfl, hbb, hM3⟩ := own_some hO (by rw [H8.out]; omega)
  have hs1 := HB.out.size
  have hs2 := HB2.out.size
  have HA : Hid (ValsTold (codeB zs len) (numTo zs len).1.length (flatI (numTo zs len).1) (numsOf (numTo zs len).1 (numTo zs len).2) W (.returned (.tuple #[.slice (some ⟨w1.heap.size, 0, none⟩) (numTo zs len).1.length c2, .slice (some ⟨b, 0, none⟩) (numsOf (numTo zs len).1 (numTo zs len).2).length c3, .bool true])) w3) := by
    refine Or.inl ⟨HC.out, ⟨some ⟨w1.heap.size, 0, none⟩, c2, some ⟨b, 0, none⟩, c3, by rw [H8.out], mine_low (HM2.out.kept hb3) hs1, mine_low hM3 (by omega), ?_⟩, (HB.out.trans (HB2.out.mono hs1)).trans (hb3.mono (by omega))⟩
    intro x o x' o' e e'
    cases e
    cases e'
    omega
  clear hO hb3 hM3
  go_wp2
  go_ret3
  exact HA.out
set_option maxHeartbeats 2000000 in
theorem spec_values (a : Option Addr) (len cap : Nat) (zs : List Int) (W : World) (hz : Hid (zs.length = len * 5)) (hlen : len ≤ 1048576) (h : Hid (Ints W a zs)) :
    Calls Try.prog 15 #[.slice a len cap] W fun e W' => ValsSaid (codeB zs len) (numTo zs len).1.length (flatI (numTo zs len).1) (numsOf (numTo zs len).1 (numTo zs len).2) W e W' := by
  go_enter Try.func15, Try.ntmps15
  go_wp2_with fail
  refine (spec_code _ _ _ zs _ hz hlen h).mono ?_
  cases hc : codeB zs len
  · rintro e w1 ⟨rfl, hb⟩
    have HA : Hid (ValsSaid (codeB zs len) (numTo zs len).1.length (flatI (numTo zs len).1) (numsOf (numTo zs len).1 (numTo zs len).2) W (.returned (.tuple #[.slice none 0 0, .slice none 0 0, .bool false])) w1) := Or.inr ⟨hc, rfl, hb⟩
    clear hb hc
    go_wp2
    go_ret3
    exact HA.out
  rintro e w1 ⟨rfl, hb⟩
  have HC : Hid (codeB zs len = true) := hc
  have HB1 : Hid (Below W.heap.size W w1) := hb
  clear hb hc
  go_wp2_with fail
  refine (spec_all a len cap zs w1 hz HC (h.out.kept HB1.out)).mono ?_
  rintro e w2 ⟨rfl, hS, hb2⟩
  obtain ⟨gv, gn, cv, cn, hE, hkl, hv⟩ := all_seen4 HC.out hS
  have e0 := hE.v
  have e1 := hE.n
  rw [hkl] at e1
  have HA : Hid (ValsSaid (codeB zs len) (numTo zs len).1.length (flatI (numTo zs len).1) (numsOf (numTo zs len).1 (numTo zs len).2) W (.returned (.tuple #[.slice (some ⟨gv, 0, none⟩) (numTo zs len).1.length cv, .slice (some ⟨gn, 0, none⟩) 8 cn, .bool true])) w2.drew) :=
    Or.inl ⟨HC.out, ⟨_, _, _, _, rfl, hE.valInts, hE.numInts⟩, (HB1.out.trans (hb2.mono HB1.out.size)).drew⟩
  have HA' : Hid (ValsSaid (codeB zs len) (numTo zs len).1.length (flatI (numTo zs len).1) (numsOf (numTo zs len).1 (numTo zs len).2) W (.returned (.tuple #[.slice (some ⟨gv, 0, none⟩) (numTo zs len).1.length cv, .slice (some ⟨gn, 0, none⟩) 8 cn, .bool true])) w2) :=
    Or.inl ⟨HC.out, ⟨_, _, _, _, rfl, hE.valInts, hE.numInts⟩, HB1.out.trans (hb2.mono HB1.out.size)⟩
  clear hE hS hb2 hkl hv
  go_wp2
  first | go_region | skip
  all_goals try go_wp2
  all_goals go_ret3
  all_goals first | exact HA.out | exact HA'.out
end Go.Proofs.Ytldmeffhbabanaa.nums

namespace Go.Proofs.Ytldmeffhbabanaa.cur
open Go Go.RowKit Go.Proofs.Ytldmeffhbabanaa.math Go.Proofs.Ytldmeffhbabanaa.ints
set_option linter.unusedVariables false

theorem fieldsI : Try.prog.underlying 61 = some (.struct (Try.prog.fieldsOf 61)) := by kernel_rfl
theorem stoodI : Try.prog.stoodInHeld 61 = false := by kernel_rfl
theorem guardI : Try.prog.eqGuardType Try.prog.depth 61 = false := by kernel_rfl
theorem neG (x y : Operand) (xs ys : Array Value) (w : World) : (eqGuard .neq 61 x y (.agg xs) (.agg ys)).run Try.prog w = .ok () w := run_eqGuard_agg w _ _ _ _ _ _ guardI
theorem list5 {α : Type} {l : List α} (h : l.length = 5) : ∃ a b c d e, l = [a, b, c, d, e] := by
  match l, h with
  | [a, b, c, d, e], _ => exact ⟨a, b, c, d, e, rfl⟩
theorem p0 (a b c d f : Int) (w : World) : (part 3 #[.int .i64 a, .int .i64 b, .int .i64 c, .int .i64 d, .int .i64 f] 0).run Try.prog w = .ok (.int .i64 a) w := by kernel_rfl
theorem p1 (a b c d f : Int) (w : World) : (part 3 #[.int .i64 a, .int .i64 b, .int .i64 c, .int .i64 d, .int .i64 f] 1).run Try.prog w = .ok (.int .i64 b) w := by kernel_rfl
theorem p2 (a b c d f : Int) (w : World) : (part 3 #[.int .i64 a, .int .i64 b, .int .i64 c, .int .i64 d, .int .i64 f] 2).run Try.prog w = .ok (.int .i64 c) w := by kernel_rfl
theorem p3 (a b c d f : Int) (w : World) : (part 3 #[.int .i64 a, .int .i64 b, .int .i64 c, .int .i64 d, .int .i64 f] 3).run Try.prog w = .ok (.int .i64 d) w := by kernel_rfl
theorem p4 (a b c d f : Int) (w : World) : (part 3 #[.int .i64 a, .int .i64 b, .int .i64 c, .int .i64 d, .int .i64 f] 4).run Try.prog w = .ok (.int .i64 f) w := by kernel_rfl
theorem fields5 : ∃ f0 f1 f2 f3 f4 : Field, (Try.prog.fieldsOf 61).toList = [f0, f1, f2, f3, f4] ∧ (f0.name = "Op" ∧ f0.type = 3 ∧ f0.offset = 0) ∧ (f1.name = "Dst" ∧ f1.type = 3 ∧ f1.offset = 1) ∧ (f2.name = "A" ∧ f2.type = 3 ∧ f2.offset = 2) ∧ (f3.name = "B" ∧ f3.type = 3 ∧ f3.offset = 3) ∧ (f4.name = "N" ∧ f4.type = 3 ∧ f4.offset = 4) := by
  have hf : (Try.prog.fieldsOf 61).toList.map (fun f => (f.name, f.type, f.offset)) = [("Op", 3, 0), ("Dst", 3, 1), ("A", 3, 2), ("B", 3, 3), ("N", 3, 4)] := by kernel_rfl
  generalize (Try.prog.fieldsOf 61).toList = fs at hf
  have hl : fs.length = 5 := by
    have := congrArg List.length hf
    simpa using this
  obtain ⟨f0, f1, f2, f3, f4, rfl⟩ := list5 hl
  simp only [List.map_cons, List.map_nil, List.cons.injEq, Prod.mk.injEq, and_true] at hf
  exact ⟨f0, f1, f2, f3, f4, rfl, hf.1, hf.2.1, hf.2.2.1, hf.2.2.2.1, hf.2.2.2.2⟩
theorem eqN (d : Nat) (a b : Int) (w : World) : (Op.equalIn (d + 1) 3 (.int .i64 a) (.int .i64 b)).run Try.prog w = .ok (a == b) w := run_equalIn_int w d 3 .i64 .i64 a b Try.underlying3
theorem neS (x0 x1 x2 x3 x4 : Int) (w : World) : (binOp .neq 61 (.agg #[.int .i64 x0, .int .i64 x1, .int .i64 x2, .int .i64 x3, .int .i64 x4]) (.agg #[.int .i64 x0, .int .i64 x1, .int .i64 x2, .int .i64 x3, .int .i64 x4])).run Try.prog w = .ok (.bool false) w := by
  rw [run_neq_struct, run_equalIn_struct (P := Try.prog) w 9999 61 _ _ fieldsI stoodI]
  obtain ⟨f0, f1, f2, f3, f4, hfs, ⟨n0, t0, o0⟩, ⟨n1, t1, o1⟩, ⟨n2, t2, o2⟩, ⟨n3, t3, o3⟩, n4, t4, o4⟩ := fields5
  rw [hfs]
  have q0 : ("Op" : String) ≠ "_" := by decide
  have q1 : ("Dst" : String) ≠ "_" := by decide
  have q2 : ("A" : String) ≠ "_" := by decide
  have q3 : ("B" : String) ≠ "_" := by decide
  have q4 : ("N" : String) ≠ "_" := by decide
  simp only [Op.eqFields, n0, t0, o0, n1, t1, o1, n2, t2, o2, n3, t3, o3, n4, t4, o4]
  rw [if_pos q0, if_pos q1, if_pos q2, if_pos q3, if_pos q4]
  simp [p0, p1, p2, p3, p4, eqN 9998]
set_option maxRecDepth 100000 in
set_option maxHeartbeats 2000000 in
theorem same_code (a a' : Option Addr) (len cap cap' : Nat) (zs : List Int) (W : World) (hz : Hid (zs.length = len * 5)) (hlen : len ≤ 1048576) (h : Hid (Ints W a zs)) (h' : Hid (Ints W a' zs)) :
    Calls Try.prog 8 #[.slice a len cap, .slice a' len cap'] W fun e W' => e = .returned (.bool true) ∧ Below W.heap.size W W' := by
  go_enter Try.func8, Try.ntmps8
  go_wp2
  go_loopw [13] (fun vi wr => ∃ k : Nat, k ≤ len ∧ vi = .int .i64 k ∧ Hid (Below W.heap.size W wr)) (fun vi _ => len - (intOf vi).toNat)
  case atStart => exact ⟨0, Nat.zero_le _, rfl, Below.refl _ _⟩
  case round =>
    obtain ⟨k, hk, rfl, HB⟩ := hrel
    by_cases hlt : k < len
    · obtain ⟨b, off, ha, hb, c0, c1, c2, c3, c4⟩ := Instr_at h.out hz.out HB.out hlt
      obtain ⟨b', off', ha', hb', d0, d1, d2, d3, d4⟩ := Instr_at h'.out hz.out HB.out hlt
      subst ha ha'
      generalize zs.getD (k * 5) 0 = x0 at c0 d0
      generalize zs.getD (k * 5 + 1) 0 = x1 at c1 d1
      generalize zs.getD (k * 5 + 2) 0 = x2 at c2 d2
      generalize zs.getD (k * 5 + 3) 0 = x3 at c3 d3
      generalize zs.getD (k * 5 + 4) 0 = x4 at c4 d4
      have qg := neG
      have q : ∀ w : World, (binOp .neq 61 (.agg #[.int .i64 x0, .int .i64 x1, .int .i64 x2, .int .i64 x3, .int .i64 x4]) (.agg #[.int .i64 x0, .int .i64 x1, .int .i64 x2, .int .i64 x3, .int .i64 x4])).run Try.prog w = .ok (.bool false) w := neS x0 x1 x2 x3 x4
      go_wp2
      go_region
      go_wp2
      go_roundw
      case rel => exact ⟨k + 1, by omega, by go_num, HB.out.drew⟩
      case measure => simp [intOf]; omega
    · go_wp2
      go_ret
      exact ⟨rfl, HB.out⟩
set_option maxRecDepth 100000 in
theorem same_list (a a' : Option Addr) (len cap cap' : Nat) (zs : List Int) (W : World) (hz : Hid (zs.length = len)) (hlen : len ≤ 1048576) (h : Hid (Ints W a zs)) (h' : Hid (Ints W a' zs)) :
    Calls Try.prog 11 #[.slice a len cap, .slice a' len cap'] W fun e W' => e = .returned (.bool true) ∧ Below W.heap.size W W' := by
  go_enter Try.func11, Try.ntmps11
  go_wp2
  go_loopw [13] (fun vi wr => ∃ k : Nat, k ≤ len ∧ vi = .int .i64 k ∧ Hid (Below W.heap.size W wr)) (fun vi _ => len - (intOf vi).toNat)
  case atStart => exact ⟨0, Nat.zero_le _, rfl, Below.refl _ _⟩
  case round =>
    obtain ⟨k, hk, rfl, HB⟩ := hrel
    by_cases hlt : k < len
    · obtain ⟨b, off, ha, hc⟩ := h.out.at HB.out (k := k) (by have := hz.out; omega)
      obtain ⟨b', off', ha', hc'⟩ := h'.out.at HB.out (k := k) (by have := hz.out; omega)
      subst ha ha'
      go_wp2
      go_region
      go_wp2
      go_roundw
      case rel => exact ⟨k + 1, by omega, by go_num, HB.out.drew⟩
      case measure => simp [intOf]; omega
    · go_wp2
      go_ret
      exact ⟨rfl, HB.out⟩
end Go.Proofs.Ytldmeffhbabanaa.cur

namespace Go.Proofs.Ytldmeffhbabanaa.cur
open Go Go.RowKit Go.Proofs.Ytldmeffhbabanaa.ints Go.Proofs.Ytldmeffhbabanaa.nums
set_option linter.unusedVariables false

theorem neGV (x y : Operand) (xs ys : Array Value) (w : World) : (eqGuard .neq 49 x y (.agg xs) (.agg ys)).run Try.prog w = .ok () w := run_eqGuard_agg w _ _ _ _ _ _ guardV
theorem neSV (x0 x1 x2 x3 : Int) (w : World) : (binOp .neq 49 (.agg #[.int .i64 x0, .int .i64 x1, .int .i64 x2, .int .i64 x3]) (.agg #[.int .i64 x0, .int .i64 x1, .int .i64 x2, .int .i64 x3])).run Try.prog w = .ok (.bool false) w := by
  rw [run_neq_struct, run_equalIn_struct (P := Try.prog) w 9999 49 _ _ fieldsV stoodV]
  obtain ⟨f0, f1, f2, f3, hfs, ⟨n0, t0, o0⟩, ⟨n1, t1, o1⟩, ⟨n2, t2, o2⟩, n3, t3, o3⟩ := fields4
  rw [hfs]
  have q0 : ("Op" : String) ≠ "_" := by decide
  have q1 : ("A" : String) ≠ "_" := by decide
  have q2 : ("B" : String) ≠ "_" := by decide
  have q3 : ("N" : String) ≠ "_" := by decide
  simp only [Op.eqFields, n0, t0, o0, n1, t1, o1, n2, t2, o2, n3, t3, o3]
  rw [if_pos q0, if_pos q1, if_pos q2, if_pos q3]
  simp [part0, part1, part2, part3, eqI 9998]
set_option maxRecDepth 100000 in
set_option maxHeartbeats 2000000 in
theorem same_values (a a' : Option Addr) (len cap cap' : Nat) (zs : List Int) (W : World) (hz : Hid (zs.length = len * 4)) (hlen : len ≤ 1048576) (h : Hid (Ints W a zs)) (h' : Hid (Ints W a' zs)) :
    Calls Try.prog 18 #[.slice a len cap, .slice a' len cap'] W fun e W' => e = .returned (.bool true) ∧ Below W.heap.size W W' := by
  go_enter Try.func18, Try.ntmps18
  go_wp2
  go_loopw [13] (fun vi wr => ∃ k : Nat, k ≤ len ∧ vi = .int .i64 k ∧ Hid (Below W.heap.size W wr)) (fun vi _ => len - (intOf vi).toNat)
  case atStart => exact ⟨0, Nat.zero_le _, rfl, Below.refl _ _⟩
  case round =>
    obtain ⟨k, hk, rfl, HB⟩ := hrel
    by_cases hlt : k < len
    · obtain ⟨b, off, ha, hb, c0, c1, c2, c3⟩ := Value_at h.out hz.out HB.out hlt
      obtain ⟨b', off', ha', hb', d0, d1, d2, d3⟩ := Value_at h'.out hz.out HB.out hlt
      subst ha ha'
      generalize zs.getD (k * 4) 0 = x0 at c0 d0
      generalize zs.getD (k * 4 + 1) 0 = x1 at c1 d1
      generalize zs.getD (k * 4 + 2) 0 = x2 at c2 d2
      generalize zs.getD (k * 4 + 3) 0 = x3 at c3 d3
      have qg := neGV
      have q : ∀ w : World, (binOp .neq 49 (.agg #[.int .i64 x0, .int .i64 x1, .int .i64 x2, .int .i64 x3]) (.agg #[.int .i64 x0, .int .i64 x1, .int .i64 x2, .int .i64 x3])).run Try.prog w = .ok (.bool false) w := neSV x0 x1 x2 x3
      go_wp2
      go_region
      go_wp2
      go_roundw
      case rel => exact ⟨k + 1, by omega, by go_num, HB.out.drew⟩
      case measure => simp [intOf]; omega
    · go_wp2
      go_ret
      exact ⟨rfl, HB.out⟩
set_option maxRecDepth 100000 in
theorem has_eq (a : Option Addr) (len cap : Nat) (zs : List Int) (x : Int) (W : World) (hz : Hid (zs.length = len)) (hlen : len ≤ 1048576) (h : Hid (Ints W a zs)) :
    Calls Try.prog 22 #[.slice a len cap, .int .i64 x] W fun e W' => e = .returned (.bool (decide (x ∈ zs))) ∧ W' = W := by
  go_enter Try.func22, Try.ntmps22
  go_wp2
  go_loop [9] (fun vi => ∃ k : Nat, k ≤ len ∧ vi = .int .i64 k ∧ Hid (∀ i, i < k → zs.getD i 0 ≠ x)) (fun vi => len - (intOf vi).toNat)
  case atStart => exact ⟨0, Nat.zero_le _, rfl, fun i hi => by omega⟩
  case round =>
    obtain ⟨k, hk, rfl, HN⟩ := hrel
    by_cases hlt : k < len
    · obtain ⟨b, off, ha, hc⟩ := h.out.at (Below.refl _ _) (k := k) (by have := hz.out; omega)
      subst ha
      by_cases he : zs.getD k 0 = x
      · have HM : Hid (x ∈ zs) := by
          show x ∈ zs
          have hk' : k < zs.length := by have := hz.out; omega
          have e : zs.getD k 0 = zs[k] := by simp [List.getD, hk']
          rw [← he, e]
          exact List.getElem_mem hk'
        rw [he] at hc
        clear he
        go_wp2
        go_ret
        exact ⟨by have hm := HM.out; simp [hm], rfl⟩
      · have HN' : Hid (∀ i, i < k + 1 → zs.getD i 0 ≠ x) := by
          intro i hi
          by_cases e : i = k
          · rw [e]; exact he
          · exact HN.out i (by omega)
        have q : (zs.getD k 0 == x) = false := by simpa using he
        have q' : decide (zs.getD k 0 = x) = false := decide_eq_false he
        generalize zs.getD k 0 = y at hc q q' he
        go_wp2
        go_round
        case rel => exact ⟨k + 1, by omega, by go_num, HN'⟩
        case measure => simp [intOf]; omega
    · have HM : Hid (x ∉ zs) := by
        show x ∉ zs
        intro hm
        obtain ⟨i, hi, e⟩ := List.getElem_of_mem hm
        have := hz.out
        refine HN.out i (by omega) ?_
        simp [List.getD, hi, e]
      go_wp2
      go_ret
      exact ⟨by have hm := HM.out; simp [hm], rfl⟩
end Go.Proofs.Ytldmeffhbabanaa.cur

namespace Go.Proofs.Ytldmeffhbabanaa.cur
open Go.RowKit Go.Proofs.Ytldmeffhbabanaa.math Go.Proofs.Ytldmeffhbabanaa.ints Go.Proofs.Ytldmeffhbabanaa.walks
set_option linter.unusedVariables false
set_option maxRecDepth 100000 in
set_option maxHeartbeats 2000000 in
theorem drawSame_any {len cap : Nat} {a : Option Addr} {w : World} (hc : Src w.heap.size a len w) (hlen : len ≤ 1048576) :
    Calls Try.prog 19 #[.slice a len cap] w fun e w' => ∃ (k : Nat) (fl : List Int) (a1 : Option Addr) (c1 : Nat) (x y : Int), k ≤ 31 ∧ fl.length = k * 5 ∧ -1 ≤ x ∧ x ≤ 8 ∧ 0 ≤ y ∧ y ≤ 3 ∧ e = .returned (.tuple #[.slice a1 k c1, .int .i64 x, .int .i64 y]) ∧ Ints w' a1 fl ∧ Below w.heap.size w w' := by
  have HCode : Hid (Src w.heap.size a len w) := hc
  clear hc
  go_enter Try.func19, Try.ntmps19
  go_wp2_with fail
  refine (code3_loop (cur_new _ HCode.out) hlen (by omega)).mono ?_
  rintro e w1 ⟨k, fl, v, hk, rfl, hO, hC, hG⟩
  obtain ⟨a1, c1, rfl, hM⟩ := hO.mine
  have HL : Hid (fl.length = k * 5) := hO.len
  have H1 : Hid (Cur w.heap.size a len cap (0 + 1000) w1) := hC
  have M1 : Hid (Mine w1 (w.heap.size + 1) a1 fl) := by show Mine _ _ _ _; simpa using hM
  have B1 : Hid (Below w.heap.size w w1) := below_of_grown ((Below.refl _ _).alloc (Nat.le_refl _) _) (by simp) hG
  have z1 : w.heap.size < w1.heap.size := by have := hG.size; simp at this; omega
  clear hO hC hG hM
  have keep : ∀ {u u' : World}, Mine u (w.heap.size + 1) a1 fl → u.grownBy u' (some w.heap.size) → Mine u' (w.heap.size + 1) a1 fl := by
    intro u u' hm hG
    rcases hm with e | ⟨g, off, rfl, h0, hlt, hcz⟩
    · exact Or.inl e
    · refine Or.inr ⟨g, off, rfl, h0, Nat.lt_of_lt_of_le hlt hG.size, fun i hi => ?_⟩
      have hb := hG.block g hlt (by simp; omega)
      exact ⟨(World.cell?_of_block (a := ⟨g, off + i, none⟩) hb).trans (hcz i hi).1, (World.frozen?_of_block (a := ⟨g, off + i, none⟩) hb).trans (hcz i hi).2⟩
  have HK : Hid (∀ {u u' : World}, Mine u (w.heap.size + 1) a1 fl → u.grownBy u' (some w.heap.size) → Mine u' (w.heap.size + 1) a1 fl) := keep
  clear keep
  go_wp2_with fail
  refine (pick_any 9 H1.out hlen (by omega) (by omega)).mono ?_
  rintro e w2 ⟨x, x0, x1, rfl, hC, hG⟩
  have H2 : Hid (Cur w.heap.size a len cap (0 + 1000 + 2) w2) := hC
  have M2 : Hid (Mine w2 (w.heap.size + 1) a1 fl) := HK.out M1.out hG
  have B2 : Hid (Below w.heap.size w w2) := below_of_grown B1.out (by omega) hG
  have z2 : w.heap.size < w2.heap.size := by have := hG.size; omega
  clear hC hG
  go_wp2_with fail
  refine (pick_any 2 H2.out hlen (by omega) (by omega)).mono ?_
  rintro e w3 ⟨x', x0', x1', rfl, hC, hG⟩
  have H3 : Hid (Cur w.heap.size a len cap (0 + 1000 + 4) w3) := hC
  have M3 : Hid (Mine w3 (w.heap.size + 1) a1 fl) := HK.out M2.out hG
  have B3 : Hid (Below w.heap.size w w3) := below_of_grown B2.out (by omega) hG
  have z3 : w.heap.size < w3.heap.size := by have := hG.size; omega
  clear hC hG
  go_wp2_with fail
  refine (pick_any 4 H3.out hlen (by omega) (by omega)).mono ?_
  rintro e w4 ⟨y, y0, y1, rfl, hC, hG⟩
  have M4 : Hid (Mine w4 (w.heap.size + 1) a1 fl) := HK.out M3.out hG
  have B4 : Hid (Below w.heap.size w w4) := below_of_grown B3.out (by omega) hG
  clear hC hG
  go_wp2
  go_ret3
  exact ⟨k, fl, a1, c1, _, y, hk, HL.out, by omega, by omega, by omega, by omega, rfl, M4.out.ints, B4.out⟩
end Go.Proofs.Ytldmeffhbabanaa.cur

namespace Go.Proofs.Ytldmeffhbabanaa.nums
open Go.RowKit Go.Proofs.Ytldmeffhbabanaa.math
set_option linter.unusedVariables false

theorem mem_rising (f : Nat → Bool) {n : Nat} (h : n < 8) : decide ((n : Int) ∈ risingTo f 8) = f n := by
  rw [← has_rising f h]
  simp [List.contains_eq_mem]
/-- What the law asks of each name. -/
structure AtName (ks vf kn rw : List Int) (t i : Nat) : Prop where
  lo : 0 ≤ ks.getD i 0
  hi : (ks.getD i 0).toNat < t
  has : decide ((i : Int) ∈ kn) = (vf.getD ((ks.getD i 0).toNat * 4) 0 == 1)
  word : decide ((i : Int) ∈ kn) = true → rw.getD i 0 = vf.getD ((ks.getD i 0).toNat * 4 + 3) 0
theorem at_name {fl zs : List Int} {k i : Nat} (hc : codeB fl k = true) (hw : wordsB zs = true) (hi : i < 8) : AtName (numsOf (numTo fl k).1 (numTo fl k).2) (flatI (numTo fl k).1) (risingTo (knownB (numTo fl k).2) 8) (runW fl zs k) (numTo fl k).1.length i := by
  have hI := inv_to hc k (Nat.le_refl _)
  obtain ⟨D, hS⟩ := snd_to hc hw k (Nat.le_refl _)
  have hm := hI.at hi
  have hl := idx_lt hm
  have e : (numsOf (numTo fl k).1 (numTo fl k).2).getD i 0 = (idx (numTo fl k).1 ((numTo fl k).2.getD i zV) : Int) := nums_at (by rw [hI.len]; exact hi)
  have g0 : (flatI (numTo fl k).1).getD (idx (numTo fl k).1 ((numTo fl k).2.getD i zV) * 4) 0 = ((numTo fl k).2.getD i zV).1 := by
    have := flatI_at (vs := (numTo fl k).1) (k := idx (numTo fl k).1 ((numTo fl k).2.getD i zV)) (i := 0) hl (by omega)
    rw [Nat.add_zero, idx_get hm] at this
    exact this
  have g3 : (flatI (numTo fl k).1).getD (idx (numTo fl k).1 ((numTo fl k).2.getD i zV) * 4 + 3) 0 = ((numTo fl k).2.getD i zV).2.2.2 := by
    have := flatI_at (vs := (numTo fl k).1) (k := idx (numTo fl k).1 ((numTo fl k).2.getD i zV)) (i := 3) hl (by omega)
    rw [idx_get hm] at this
    exact this
  refine ⟨by rw [e]; omega, by rw [e]; simpa using hl, ?_, ?_⟩
  · rw [mem_rising _ hi, e, Int.toNat_natCast, g0]
    rfl
  · intro h
    rw [mem_rising _ hi] at h
    have h1 : ((numTo fl k).2.getD i zV).1 = 1 := of_decide_eq_true h
    rw [e, Int.toNat_natCast, g3, hS.words i hi, hS.den.of hm]
    unfold wordV
    rw [h1]
    simp
theorem same_nums {fl : List Int} {k i j : Nat} (hc : codeB fl k = true) (hi : i < 8) (hj : j < 8) : sameV fl k (i : Int) (j : Int) = decide ((numsOf (numTo fl k).1 (numTo fl k).2).getD i 0 = (numsOf (numTo fl k).1 (numTo fl k).2).getD j 0) := by
  have hI := inv_to hc k (Nat.le_refl _)
  rw [nums_at (by rw [hI.len]; exact hi), nums_at (by rw [hI.len]; exact hj)]
  unfold sameV
  rw [Int.toNat_natCast, Int.toNat_natCast]
  refine decide_eq_decide.2 ⟨fun h => by rw [h], fun h => idx_inj (hI.at hi) (hI.at hj) (by exact_mod_cast h)⟩
theorem same_words {fl zs : List Int} {k i j : Nat} (hc : codeB fl k = true) (hw : wordsB zs = true) (hi : i < 8) (hj : j < 8) (h : (numsOf (numTo fl k).1 (numTo fl k).2).getD i 0 = (numsOf (numTo fl k).1 (numTo fl k).2).getD j 0) : (runW fl zs k).getD i 0 = (runW fl zs k).getD j 0 := by
  have hI := inv_to hc k (Nat.le_refl _)
  obtain ⟨D, hS⟩ := snd_to hc hw k (Nat.le_refl _)
  rw [nums_at (by rw [hI.len]; exact hi), nums_at (by rw [hI.len]; exact hj)] at h
  rw [hS.words i hi, hS.words j hj, show idx (numTo fl k).1 ((numTo fl k).2.getD i zV) = idx (numTo fl k).1 ((numTo fl k).2.getD j zV) by exact_mod_cast h]
end Go.Proofs.Ytldmeffhbabanaa.nums

namespace Go.Proofs.Ytldmeffhbabanaa.fnValues
open Go.ChangeShapes Go.WideShapes Go.ChangeAt Go.RowKit
open Go.ChangeMaps (open_string shut_string)
open Go.Proofs.Ytldmeffhbabanaa.math
open Go.Proofs.Ytldmeffhbabanaa.ints
open Go.Proofs.Ytldmeffhbabanaa.walks
open Go.Proofs.Ytldmeffhbabanaa.nums
open Go.Proofs.Ytldmeffhbabanaa.cur
set_option linter.unusedVariables false

theorem own : ownKnob Try.prog.godebug = none := by kernel_rfl
theorem laidOut : laidOutB Try.prog = true := by kernel_rfl

/-- What is known of a slice of integers that came in: it is nil, or leads to a row of cells, the numbers zs, each fitting its kind. -/
def IsRow (k : IntKind) (w : World) (a : Option Addr) (len cap : Nat) (zs : List Int) : Prop :=
  (a = none ∧ len = 0 ∧ cap = 0 ∧ zs = []) ∨
  ∃ x, a = some x ∧ len ≤ cap ∧ cap ≤ maxLen ∧ zs.length = cap ∧ (∀ i, i < zs.length → w.cell? (x.add i) = some (.int k (zs.getD i 0))) ∧ ∀ n ∈ zs, (Lit.int k n).wf = true

theorem src_of {w : World} {a : Option Addr} {len cap : Nat} {zs : List Int} (h : IsRow .u8 w a len cap zs) : Src w.heap.size a len w := by
  rcases h with ⟨_, rfl, _, _⟩ | ⟨x, rfl, hl, hm, hz, hcell, hwz⟩
  · exact Or.inl rfl
  · obtain ⟨b, off, spot⟩ := x
    by_cases h0 : len = 0
    · exact Or.inl h0
    · have hc := hcell 0 (by omega)
      have hspot : spot = none := by simpa [Addr.add] using World.cell?_spot hc
      subst hspot
      have hb : b < w.heap.size := by simpa [Addr.add] using World.block_lt_of_cell? w _ hc
      refine Or.inr ⟨b, off, rfl, hb, hb, fun i hi => ?_⟩
      have hi' : i < zs.length := by omega
      have e : zs.getD i 0 = zs[i] := by simp [List.getD, hi']
      have hbd := bounds_u8 (hwz zs[i] (List.getElem_mem hi'))
      have ha : (⟨b, off, none⟩ : Addr).add i = ⟨b, off + i, none⟩ := by
        unfold Addr.add
        split
        · rename_i h; subst h; rfl
        · rfl
      have hc1 := hcell i hi'
      rw [e, ha] at hc1
      exact ⟨zs[i], by omega, by omega, hc1⟩
theorem src_kept {w w' : World} {a : Option Addr} {len : Nat} (h : Src w.heap.size a len w) (hb : Below w.heap.size w w') : Src w'.heap.size a len w' := by
  rcases h with h | ⟨x, off, rfl, hx, hs, hc⟩
  · exact Or.inl h
  · refine Or.inr ⟨x, off, rfl, Nat.lt_of_lt_of_le hx hb.size, Nat.lt_of_lt_of_le hs hb.size, fun i hi => ?_⟩
    obtain ⟨z, z0, z1, hz⟩ := hc i hi
    exact ⟨z, z0, z1, (hb.cell (p := ⟨x, off + i, none⟩) hx).trans hz⟩

def VI (k : Nat) (y vf : List Int) (t : Nat) (ks : List Int) (u : Nat) (c : Bool) : Prop := ∀ (W : World) (a : Option Addr) (cap : Nat), Ints W a y → Calls Try.prog 14 #[.slice a k cap] W fun e W' => ∃ g d g' d', e = .returned (.tuple #[.slice g t d, .slice g' u d', .bool c]) ∧ Ints W' g vf ∧ Ints W' g' ks ∧ Below W.heap.size W W'
def VS (k : Nat) (y vf : List Int) (t : Nat) (ks : List Int) (u : Nat) (c : Bool) : Prop := ∀ (W : World) (a : Option Addr) (cap : Nat), Ints W a y → Calls Try.prog 15 #[.slice a k cap] W fun e W' => ∃ g d g' d', e = .returned (.tuple #[.slice g t d, .slice g' u d', .bool c]) ∧ Ints W' g vf ∧ Ints W' g' ks ∧ Below W.heap.size W W'
def KI (k : Nat) (y kn : List Int) (m : Nat) (c : Bool) : Prop := ∀ (W : World) (a : Option Addr) (cap : Nat), Ints W a y → Calls Try.prog 16 #[.slice a k cap] W fun e W' => ∃ g d, e = .returned (.tuple #[.slice g m d, .bool c]) ∧ Ints W' g kn ∧ Below W.heap.size W W'
def KS (k : Nat) (y kn : List Int) (m : Nat) (c : Bool) : Prop := ∀ (W : World) (a : Option Addr) (cap : Nat), Ints W a y → Calls Try.prog 17 #[.slice a k cap] W fun e W' => ∃ g d, e = .returned (.tuple #[.slice g m d, .bool c]) ∧ Ints W' g kn ∧ Below W.heap.size W W'
def SI (k : Nat) (y : List Int) (x z : Int) (r c : Bool) : Prop := ∀ (W : World) (a : Option Addr) (cap : Nat), Ints W a y → Calls Try.prog 20 #[.slice a k cap, .int .i64 x, .int .i64 z] W fun e W' => e = .returned (.tuple #[.bool r, .bool c]) ∧ Below W.heap.size W W'
def SS (k : Nat) (y : List Int) (x z : Int) (r c : Bool) : Prop := ∀ (W : World) (a : Option Addr) (cap : Nat), Ints W a y → Calls Try.prog 21 #[.slice a k cap, .int .i64 x, .int .i64 z] W fun e W' => e = .returned (.tuple #[.bool r, .bool c]) ∧ Below W.heap.size W W'
def RT (k : Nat) (y ws r1 : List Int) (t1 : Nat) (r2 : List Int) (t2 : Nat) (c : Bool) : Prop := ∀ (W : World) (a v : Option Addr) (cap cv : Nat), Ints W a y → Ints W v ws → Calls Try.prog 9 #[.slice a k cap, .slice v 8 cv] W fun e W' => ∃ g1 d1 g2 d2, e = .returned (.tuple #[.slice g1 t1 d1, .slice g2 t2 d2, .bool c]) ∧ Ints W' g1 r1 ∧ Ints W' g2 r2 ∧ Below W.heap.size W W'
theorem vals_no {k : Nat} {fl : List Int} (hz : fl.length = k * 5) (hk : k ≤ 31) (hc : codeB fl k = false) : VI k fl [] 0 [] 0 false ∧ VS k fl [] 0 [] 0 false ∧ KI k fl [] 0 false ∧ KS k fl [] 0 false := by
  refine ⟨fun W a cap h => (impl_values a k cap fl W hz (by omega) h).mono ?_, fun W a cap h => (spec_values a k cap fl W hz (by omega) h).mono ?_, fun W a cap h => (impl_known a k cap fl W hz (by omega) h).mono ?_, fun W a cap h => (spec_known a k cap fl W hz (by omega) h).mono ?_⟩
  · rintro e W' (⟨h, _⟩ | ⟨_, rfl, hB⟩)
    · rw [hc] at h; cases h
    · exact ⟨none, 0, none, 0, rfl, Or.inl rfl, Or.inl rfl, hB⟩
  · rintro e W' (⟨h, _⟩ | ⟨_, rfl, hB⟩)
    · rw [hc] at h; cases h
    · exact ⟨none, 0, none, 0, rfl, Or.inl rfl, Or.inl rfl, hB⟩
  · rintro e W' (⟨h, _⟩ | ⟨_, rfl, hB⟩)
    · rw [hc] at h; cases h
    · exact ⟨none, 0, rfl, Or.inl rfl, hB⟩
  · rintro e W' (⟨h, _⟩ | ⟨_, rfl, hB⟩)
    · rw [hc] at h; cases h
    · exact ⟨none, 0, rfl, Or.inl rfl, hB⟩
theorem vals_yes {k : Nat} {fl : List Int} (hz : fl.length = k * 5) (hk : k ≤ 31) (hc : codeB fl k = true) : VI k fl (flatI (numTo fl k).1) (numTo fl k).1.length (numsOf (numTo fl k).1 (numTo fl k).2) 8 true ∧ VS k fl (flatI (numTo fl k).1) (numTo fl k).1.length (numsOf (numTo fl k).1 (numTo fl k).2) 8 true ∧ KI k fl (risingTo (knownB (numTo fl k).2) 8) (risingTo (knownB (numTo fl k).2) 8).length true ∧ KS k fl (risingTo (knownB (numTo fl k).2) 8) (risingTo (knownB (numTo fl k).2) 8).length true := by
  refine ⟨fun W a cap h => (impl_values a k cap fl W hz (by omega) h).mono ?_, fun W a cap h => (spec_values a k cap fl W hz (by omega) h).mono ?_, fun W a cap h => (impl_known a k cap fl W hz (by omega) h).mono ?_, fun W a cap h => (spec_known a k cap fl W hz (by omega) h).mono ?_⟩
  · rintro e W' (⟨_, ⟨a, c, a', c', rfl, q0, q1, _⟩, hB⟩ | ⟨h, _⟩)
    · exact ⟨a, c, a', c', rfl, q0.ints, q1.ints, hB⟩
    · rw [hc] at h; cases h
  · rintro e W' (⟨_, ⟨a, c, a', c', rfl, q0, q1⟩, hB⟩ | ⟨h, _⟩)
    · exact ⟨a, c, a', c', rfl, q0, q1, hB⟩
    · rw [hc] at h; cases h
  · rintro e W' (⟨_, ⟨a, c, rfl, q0⟩, hB⟩ | ⟨h, _⟩)
    · exact ⟨a, c, rfl, q0.ints, hB⟩
    · rw [hc] at h; cases h
  · rintro e W' (⟨_, ⟨a, c, rfl, q0⟩, hB⟩ | ⟨h, _⟩)
    · exact ⟨a, c, rfl, q0.ints, hB⟩
    · rw [hc] at h; cases h
theorem same_both (k : Nat) (fl : List Int) (x z : Int) (hz : fl.length = k * 5) (hk : k ≤ 31) : ∃ r c : Bool, Hid (SI k fl x z r c) ∧ Hid (SS k fl x z r c) := by
  cases hs : sameOk fl k x z
  · refine ⟨false, false, fun W a cap h => (impl_same a k cap fl x z W hz (by omega) h).mono ?_, fun W a cap h => (spec_same a k cap fl x z W hz (by omega) h).mono ?_⟩
    · rintro e W' ⟨⟨h, _⟩ | ⟨_, h⟩, hB⟩
      · rw [hs] at h; cases h
      · exact ⟨h, hB⟩
    · rintro e W' ⟨⟨h, _⟩ | ⟨_, h⟩, hB⟩
      · rw [hs] at h; cases h
      · exact ⟨h, hB⟩
  · refine ⟨sameV fl k x z, true, fun W a cap h => (impl_same a k cap fl x z W hz (by omega) h).mono ?_, fun W a cap h => (spec_same a k cap fl x z W hz (by omega) h).mono ?_⟩
    · rintro e W' ⟨⟨_, h⟩ | ⟨h, _⟩, hB⟩
      · exact ⟨h, hB⟩
      · rw [hs] at h; cases h
    · rintro e W' ⟨⟨_, h⟩ | ⟨h, _⟩, hB⟩
      · exact ⟨h, hB⟩
      · rw [hs] at h; cases h
theorem run_no {k : Nat} {fl ws : List Int} (hz : fl.length = k * 5) (hk : k ≤ 31) (hw : ws.length = 8) (hc : (codeB fl k && wordsB ws) = false) : RT k fl ws [] 0 [] 0 false :=
  fun W a v cap cv h h' => (impl_run a v k cap 8 cv fl ws W hz (by omega) h hw (by omega) h').mono (by
    rintro e W' (⟨h, _⟩ | ⟨_, rfl, hB⟩)
    · rw [hc] at h; cases h
    · exact ⟨none, 0, none, 0, rfl, Or.inl rfl, Or.inl rfl, hB⟩)
theorem run_yes {k : Nat} {fl ws : List Int} (hz : fl.length = k * 5) (hk : k ≤ 31) (hw : ws.length = 8) (hc : (codeB fl k && wordsB ws) = true) : RT k fl ws (toldTo fl ws k) (toldTo fl ws k).length (runW fl ws k) 8 true :=
  fun W a v cap cv h h' => (impl_run a v k cap 8 cv fl ws W hz (by omega) h hw (by omega) h').mono (by
    rintro e W' (⟨_, a1, c1, a2, c2, rfl, q0, q1, _, hB⟩ | ⟨h, _⟩)
    · exact ⟨a1, c1, a2, c2, rfl, q0.ints, q1.ints, hB⟩
    · rw [hc] at h; cases h)
theorem ints_some {w : World} {a : Option Addr} {zs : List Int} (h : Ints w a zs) (h0 : 0 < zs.length) : ∃ b off, a = some ⟨b, off, none⟩ ∧ b < w.heap.size ∧ Hid (∀ i, i < zs.length → w.cell? ⟨b, off + i, none⟩ = some (.int .i64 (zs.getD i 0))) := by
  rcases h with h | ⟨b, off, rfl, hb, hc⟩
  · rw [h] at h0; simp at h0
  · exact ⟨b, off, rfl, hb, hc⟩
theorem at_kept {w w' : World} {b o : Nat} {v : Value} (h : Below w.heap.size w w') (hb : b < w.heap.size) (hc : w.cell? ⟨b, o, none⟩ = some v) : w'.cell? ⟨b, o, none⟩ = some v := (h.cell (p := ⟨b, o, none⟩) hb).trans hc
theorem below_drewN {b : Nat} {w w' : World} (h : Below b w w') (n : Nat) : Below b w (w'.drewN n) := ⟨h.os, h.tape, h.output, h.size, h.block⟩
theorem S_below {w w' : World} {p : Prop} (h : p ∧ Below w.heap.size w w') : Below w.heap.size w w' := h.2
theorem S_kept {w wx w' : World} {b1 o1 b2 o2 b3 o3 b4 o4 : Nat} {v1 v2 v3 v4 : Value} (l1 : b1 < w.heap.size) (l2 : b2 < w.heap.size) (l3 : b3 < w.heap.size) (l4 : b4 < w.heap.size) (h : (wx.cell? ⟨b1, o1, none⟩ = some v1 ∧ wx.cell? ⟨b2, o2, none⟩ = some v2 ∧ wx.cell? ⟨b3, o3, none⟩ = some v3 ∧ wx.cell? ⟨b4, o4, none⟩ = some v4) ∧ Below w.heap.size w wx) (hb : Below wx.heap.size wx w') :
    (w'.cell? ⟨b1, o1, none⟩ = some v1 ∧ w'.cell? ⟨b2, o2, none⟩ = some v2 ∧ w'.cell? ⟨b3, o3, none⟩ = some v3 ∧ w'.cell? ⟨b4, o4, none⟩ = some v4) ∧ Below w.heap.size w w' := by
  have hs := h.2.size
  exact ⟨⟨at_kept hb (by omega) h.1.1, at_kept hb (by omega) h.1.2.1, at_kept hb (by omega) h.1.2.2.1, at_kept hb (by omega) h.1.2.2.2⟩, h.2.trans (hb.mono hs)⟩
set_option maxRecDepth 100000 in
set_option maxHeartbeats 20000000 in
theorem walk (a0 : Option Addr) (len0 cap0 : Nat) (z0 : List Int) (w : World) (w0 : IsRow .u8 w a0 len0 cap0 z0) (b0 : len0 ≤ 140737488351232) :
    Calls Try.prog 4 #[.slice a0 len0 cap0] w fun e w' => e = .returned (.bool true) ∧ Below w.heap.size w w' := by
  by_cases hbig : 1048576 < len0
  · have hb1 : (1048576 : Int) < (len0 : Int) := by omega
    clear hbig w0
    go_enter Try.func4, Try.ntmps4
    go_wp2
    go_ret
    exact ⟨rfl, Below.refl _ _⟩
  have hs1 : (len0 : Int) ≤ 1048576 := by omega
  have hlen0 : len0 ≤ 1048576 := by omega
  have C0 : Hid (Src w.heap.size a0 len0 w) := src_of w0
  clear hbig w0 b0
  go_enter Try.func4, Try.ntmps4
  go_wp2_with fail
  refine (drawRun_any C0.out hlen0).mono ?_
  rintro e w1 ⟨k, fl, zs, a1, a2, d1, d2, hk, hz, hzs, rfl, hI1, hI2, hB⟩
  have L1 : Hid (Ints w1 a1 fl) := hI1
  have Y1 : Hid (Ints w1 a2 zs) := hI2
  have B1 : Hid (Below w.heap.size w w1) := hB
  clear hB hI1 hI2
  cases hc : codeB fl k
  · obtain ⟨q1, q2, q3, q4⟩ := vals_no hz hk hc
    have HVI : Hid (VI k fl [] 0 [] 0 false) := q1
    have HVS : Hid (VS k fl [] 0 [] 0 false) := q2
    have HKI : Hid (KI k fl [] 0 false) := q3
    have HKS : Hid (KS k fl [] 0 false) := q4
    have HRT : Hid (RT k fl zs [] 0 [] 0 false) := run_no hz hk hzs (by rw [hc]; rfl)
    have HL1 : Hid (([] : List Int).length = 0 * 4) := rfl
    have HL2 : Hid (([] : List Int).length = 0) := rfl
    have HL3 : Hid (([] : List Int).length = 0) := rfl
    have HT : 0 ≤ 1048576 := by omega
    have HU : 0 ≤ 1048576 := by omega
    have HM : 0 ≤ 1048576 := by omega
    clear q1 q2 q3 q4 hc hz hzs
    go_wp2_with fail
    refine (HVI.out _ _ _ L1.out).mono ?_
    rintro e w2 ⟨g2, e2, h2, f2, rfl, hG, hH, hB⟩
    have G2 : Hid (Ints w2 g2 []) := hG
    have H2 : Hid (Ints w2 h2 []) := hH
    have L2 : Hid (Ints w2 a1 fl) := L1.out.kept hB
    have Y2 : Hid (Ints w2 a2 zs) := Y1.out.kept hB
    have B2 : Hid (Below w.heap.size w w2) := B1.out.trans (hB.mono B1.out.size)
    clear hB hG hH B1 L1 Y1
    go_wp2_with fail
    refine (HVS.out _ _ _ L2.out).mono ?_
    rintro e w3 ⟨g3, e3, h3, f3, rfl, hG, hH, hB⟩
    have P3 : Hid (Ints w3 g3 []) := hG
    have Q3 : Hid (Ints w3 h3 []) := hH
    have L3 : Hid (Ints w3 a1 fl) := L2.out.kept hB
    have Y3 : Hid (Ints w3 a2 zs) := Y2.out.kept hB
    have G3 : Hid (Ints w3 g2 []) := G2.out.kept hB
    have H3 : Hid (Ints w3 h2 []) := H2.out.kept hB
    have B3 : Hid (Below w.heap.size w w3) := B2.out.trans (hB.mono B2.out.size)
    clear hB hG hH B2 L2 Y2 G2 H2
    go_wp2_with fail
    refine (HKI.out _ _ _ L3.out).mono ?_
    rintro e w4 ⟨g4, e4, rfl, hG, hB⟩
    have K4 : Hid (Ints w4 g4 []) := hG
    have L4 : Hid (Ints w4 a1 fl) := L3.out.kept hB
    have Y4 : Hid (Ints w4 a2 zs) := Y3.out.kept hB
    have G4 : Hid (Ints w4 g2 []) := G3.out.kept hB
    have H4 : Hid (Ints w4 h2 []) := H3.out.kept hB
    have P4 : Hid (Ints w4 g3 []) := P3.out.kept hB
    have Q4 : Hid (Ints w4 h3 []) := Q3.out.kept hB
    have B4 : Hid (Below w.heap.size w w4) := B3.out.trans (hB.mono B3.out.size)
    clear hB hG B3 L3 Y3 G3 H3 P3 Q3
    go_wp2_with fail
    refine (HKS.out _ _ _ L4.out).mono ?_
    rintro e w5 ⟨g5, e5, rfl, hG, hB⟩
    have R5 : Hid (Ints w5 g5 []) := hG
    have L5 : Hid (Ints w5 a1 fl) := L4.out.kept hB
    have Y5 : Hid (Ints w5 a2 zs) := Y4.out.kept hB
    have G5 : Hid (Ints w5 g2 []) := G4.out.kept hB
    have H5 : Hid (Ints w5 h2 []) := H4.out.kept hB
    have P5 : Hid (Ints w5 g3 []) := P4.out.kept hB
    have Q5 : Hid (Ints w5 h3 []) := Q4.out.kept hB
    have K5 : Hid (Ints w5 g4 []) := K4.out.kept hB
    have B5 : Hid (Below w.heap.size w w5) := B4.out.trans (hB.mono B4.out.size)
    clear hB hG B4 L4 Y4 G4 H4 P4 Q4 K4
    go_wp2_with fail
    refine (same_values _ _ _ _ _ [] _ HL1 HT G5 P5).mono ?_
    rintro e w6 ⟨rfl, hB⟩
    have L6 : Hid (Ints w6 a1 fl) := L5.out.kept hB
    have Y6 : Hid (Ints w6 a2 zs) := Y5.out.kept hB
    have G6 : Hid (Ints w6 g2 []) := G5.out.kept hB
    have H6 : Hid (Ints w6 h2 []) := H5.out.kept hB
    have Q6 : Hid (Ints w6 h3 []) := Q5.out.kept hB
    have K6 : Hid (Ints w6 g4 []) := K5.out.kept hB
    have R6 : Hid (Ints w6 g5 []) := R5.out.kept hB
    have B6 : Hid (Below w.heap.size w w6) := B5.out.trans (hB.mono B5.out.size)
    clear hB  B5 L5 Y5 G5 H5 Q5 K5 R5
    go_wp2_with fail
    refine (same_list _ _ _ _ _ [] _ HL2 HU H6 Q6).mono ?_
    rintro e w7 ⟨rfl, hB⟩
    have L7 : Hid (Ints w7 a1 fl) := L6.out.kept hB
    have Y7 : Hid (Ints w7 a2 zs) := Y6.out.kept hB
    have G7 : Hid (Ints w7 g2 []) := G6.out.kept hB
    have H7 : Hid (Ints w7 h2 []) := H6.out.kept hB
    have K7 : Hid (Ints w7 g4 []) := K6.out.kept hB
    have R7 : Hid (Ints w7 g5 []) := R6.out.kept hB
    have B7 : Hid (Below w.heap.size w w7) := B6.out.trans (hB.mono B6.out.size)
    clear hB  B6 L6 Y6 G6 H6 K6 R6
    go_wp2_with fail
    refine (same_list _ _ _ _ _ [] _ HL3 HM K7 R7).mono ?_
    rintro e w8 ⟨rfl, hB⟩
    have L8 : Hid (Ints w8 a1 fl) := L7.out.kept hB
    have Y8 : Hid (Ints w8 a2 zs) := Y7.out.kept hB
    have G8 : Hid (Ints w8 g2 []) := G7.out.kept hB
    have H8 : Hid (Ints w8 h2 []) := H7.out.kept hB
    have K8 : Hid (Ints w8 g4 []) := K7.out.kept hB
    have B8 : Hid (Below w.heap.size w w8) := B7.out.trans (hB.mono B7.out.size)
    clear hB  B7 L7 Y7 G7 H7 K7
    go_wp2_with fail
    refine (drawSame_any (src_kept C0.out B8.out) hlen0).mono ?_
    rintro e w9 ⟨k', fl', a9, c9, x, z, hk', hz', hx0, hx1, hy0, hy1, rfl, hI, hB⟩
    have Z9 : Hid (Ints w9 a9 fl') := hI
    have L9 : Hid (Ints w9 a1 fl) := L8.out.kept hB
    have Y9 : Hid (Ints w9 a2 zs) := Y8.out.kept hB
    have G9 : Hid (Ints w9 g2 []) := G8.out.kept hB
    have H9 : Hid (Ints w9 h2 []) := H8.out.kept hB
    have K9 : Hid (Ints w9 g4 []) := K8.out.kept hB
    have B9 : Hid (Below w.heap.size w w9) := B8.out.trans (hB.mono B8.out.size)
    clear hB hI B8 L8 Y8 G8 H8 K8
    obtain ⟨r, c', HSI, HSS⟩ := same_both k' fl' x z hz' hk'
    clear hz'
    go_wp2_with fail
    refine (HSI.out _ _ _ Z9.out).mono ?_
    rintro e w10 ⟨rfl, hB⟩
    have L10 : Hid (Ints w10 a1 fl) := L9.out.kept hB
    have Y10 : Hid (Ints w10 a2 zs) := Y9.out.kept hB
    have G10 : Hid (Ints w10 g2 []) := G9.out.kept hB
    have H10 : Hid (Ints w10 h2 []) := H9.out.kept hB
    have K10 : Hid (Ints w10 g4 []) := K9.out.kept hB
    have Z10 : Hid (Ints w10 a9 fl') := Z9.out.kept hB
    have B10 : Hid (Below w.heap.size w w10) := B9.out.trans (hB.mono B9.out.size)
    clear hB  B9 L9 Y9 G9 H9 K9 Z9
    go_wp2_with fail
    refine (HSS.out _ _ _ Z10.out).mono ?_
    rintro e w11 ⟨rfl, hB⟩
    have L11 : Hid (Ints w11 a1 fl) := L10.out.kept hB
    have Y11 : Hid (Ints w11 a2 zs) := Y10.out.kept hB
    have G11 : Hid (Ints w11 g2 []) := G10.out.kept hB
    have H11 : Hid (Ints w11 h2 []) := H10.out.kept hB
    have K11 : Hid (Ints w11 g4 []) := K10.out.kept hB
    have B11 : Hid (Below w.heap.size w w11) := B10.out.trans (hB.mono B10.out.size)
    clear hB  B10 L10 Y10 G10 H10 K10
    go_wp2_with fail
    refine (HRT.out _ _ _ _ _ L11.out Y11.out).mono ?_
    rintro e w12 ⟨_, _, _, _, rfl, _, _, hB⟩
    have B12 : Hid (Below w.heap.size w w12) := B11.out.trans (hB.mono B11.out.size)
    clear hB
    go_wp2
    go_ret
    exact ⟨rfl, B12.out⟩
  obtain ⟨q1, q2, q3, q4⟩ := vals_yes hz hk hc
  obtain ⟨vf, EV⟩ : ∃ vf, Hid (vf = flatI (numTo fl k).1) := ⟨_, rfl⟩
  obtain ⟨ks, EK⟩ : ∃ ks, Hid (ks = numsOf (numTo fl k).1 (numTo fl k).2) := ⟨_, rfl⟩
  obtain ⟨kn, EN⟩ : ∃ kn, Hid (kn = risingTo (knownB (numTo fl k).2) 8) := ⟨_, rfl⟩
  obtain ⟨t, ET⟩ : ∃ t, Hid (t = (numTo fl k).1.length) := ⟨_, rfl⟩
  obtain ⟨m, EM⟩ : ∃ m, Hid (m = kn.length) := ⟨_, rfl⟩
  have hI := inv_to hc k (Nat.le_refl _)
  have HVI : Hid (VI k fl vf t ks 8 true) := by rw [EV.out, EK.out, ET.out]; exact q1
  have HVS : Hid (VS k fl vf t ks 8 true) := by rw [EV.out, EK.out, ET.out]; exact q2
  have HKI : Hid (KI k fl kn m true) := by rw [EM.out, EN.out]; exact q3
  have HKS : Hid (KS k fl kn m true) := by rw [EM.out, EN.out]; exact q4
  have HL1 : Hid (vf.length = t * 4) := by rw [EV.out, ET.out]; exact flatI_len _
  have HL2 : Hid (ks.length = 8) := by show ks.length = 8; rw [EK.out, nums_len, hI.len]
  have HL3 : Hid (kn.length = m) := EM.out.symm
  have HT : t ≤ 1048576 := by rw [ET.out]; have := hI.room; omega
  have HU : 8 ≤ 1048576 := by omega
  have HM : m ≤ 1048576 := by have h1 := EM.out; have h2 := EN.out; have h3 := rising_len (knownB (numTo fl k).2) 8; rw [← h2] at h3; omega
  have HSV : Hid (∀ i j : Nat, i < 8 → j < 8 → SI k fl (i : Int) (j : Int) (decide (ks.getD i 0 = ks.getD j 0)) true) := by
    show ∀ i j : Nat, i < 8 → j < 8 → _
    intro i j hi hj W a cap h
    refine (impl_same a k cap fl (i : Int) (j : Int) W hz (by omega) h).mono ?_
    have ok : sameOk fl k (i : Int) (j : Int) = true := by unfold sameOk; rw [hc, inR_mk (by omega) (by omega), inR_mk (by omega) (by omega)]; rfl
    rintro e W' ⟨⟨_, h⟩ | ⟨h, _⟩, hB⟩
    · rw [same_nums hc hi hj, ← EK.out] at h
      exact ⟨h, hB⟩
    · rw [ok] at h; cases h
  clear q1 q2 q3 q4 hI
  cases hw : wordsB zs
  · have HRT : Hid (RT k fl zs [] 0 [] 0 false) := run_no hz hk hzs (by rw [hc, hw]; rfl)
    clear hc hz hzs hw EV EK EN ET EM HSV
    go_wp2_with fail
    refine (HVI.out _ _ _ L1.out).mono ?_
    rintro e w2 ⟨g2, e2, h2, f2, rfl, hG, hH, hB⟩
    have G2 : Hid (Ints w2 g2 vf) := hG
    have H2 : Hid (Ints w2 h2 ks) := hH
    have L2 : Hid (Ints w2 a1 fl) := L1.out.kept hB
    have Y2 : Hid (Ints w2 a2 zs) := Y1.out.kept hB
    have B2 : Hid (Below w.heap.size w w2) := B1.out.trans (hB.mono B1.out.size)
    clear hB hG hH B1 L1 Y1
    go_wp2_with fail
    refine (HVS.out _ _ _ L2.out).mono ?_
    rintro e w3 ⟨g3, e3, h3, f3, rfl, hG, hH, hB⟩
    have P3 : Hid (Ints w3 g3 vf) := hG
    have Q3 : Hid (Ints w3 h3 ks) := hH
    have L3 : Hid (Ints w3 a1 fl) := L2.out.kept hB
    have Y3 : Hid (Ints w3 a2 zs) := Y2.out.kept hB
    have G3 : Hid (Ints w3 g2 vf) := G2.out.kept hB
    have H3 : Hid (Ints w3 h2 ks) := H2.out.kept hB
    have B3 : Hid (Below w.heap.size w w3) := B2.out.trans (hB.mono B2.out.size)
    clear hB hG hH B2 L2 Y2 G2 H2
    go_wp2_with fail
    refine (HKI.out _ _ _ L3.out).mono ?_
    rintro e w4 ⟨g4, e4, rfl, hG, hB⟩
    have K4 : Hid (Ints w4 g4 kn) := hG
    have L4 : Hid (Ints w4 a1 fl) := L3.out.kept hB
    have Y4 : Hid (Ints w4 a2 zs) := Y3.out.kept hB
    have G4 : Hid (Ints w4 g2 vf) := G3.out.kept hB
    have H4 : Hid (Ints w4 h2 ks) := H3.out.kept hB
    have P4 : Hid (Ints w4 g3 vf) := P3.out.kept hB
    have Q4 : Hid (Ints w4 h3 ks) := Q3.out.kept hB
    have B4 : Hid (Below w.heap.size w w4) := B3.out.trans (hB.mono B3.out.size)
    clear hB hG B3 L3 Y3 G3 H3 P3 Q3
    go_wp2_with fail
    refine (HKS.out _ _ _ L4.out).mono ?_
    rintro e w5 ⟨g5, e5, rfl, hG, hB⟩
    have R5 : Hid (Ints w5 g5 kn) := hG
    have L5 : Hid (Ints w5 a1 fl) := L4.out.kept hB
    have Y5 : Hid (Ints w5 a2 zs) := Y4.out.kept hB
    have G5 : Hid (Ints w5 g2 vf) := G4.out.kept hB
    have H5 : Hid (Ints w5 h2 ks) := H4.out.kept hB
    have P5 : Hid (Ints w5 g3 vf) := P4.out.kept hB
    have Q5 : Hid (Ints w5 h3 ks) := Q4.out.kept hB
    have K5 : Hid (Ints w5 g4 kn) := K4.out.kept hB
    have B5 : Hid (Below w.heap.size w w5) := B4.out.trans (hB.mono B4.out.size)
    clear hB hG B4 L4 Y4 G4 H4 P4 Q4 K4
    go_wp2_with fail
    refine (same_values _ _ _ _ _ vf _ HL1 HT G5 P5).mono ?_
    rintro e w6 ⟨rfl, hB⟩
    have L6 : Hid (Ints w6 a1 fl) := L5.out.kept hB
    have Y6 : Hid (Ints w6 a2 zs) := Y5.out.kept hB
    have G6 : Hid (Ints w6 g2 vf) := G5.out.kept hB
    have H6 : Hid (Ints w6 h2 ks) := H5.out.kept hB
    have Q6 : Hid (Ints w6 h3 ks) := Q5.out.kept hB
    have K6 : Hid (Ints w6 g4 kn) := K5.out.kept hB
    have R6 : Hid (Ints w6 g5 kn) := R5.out.kept hB
    have B6 : Hid (Below w.heap.size w w6) := B5.out.trans (hB.mono B5.out.size)
    clear hB  B5 L5 Y5 G5 H5 Q5 K5 R5
    go_wp2_with fail
    refine (same_list _ _ _ _ _ ks _ HL2 HU H6 Q6).mono ?_
    rintro e w7 ⟨rfl, hB⟩
    have L7 : Hid (Ints w7 a1 fl) := L6.out.kept hB
    have Y7 : Hid (Ints w7 a2 zs) := Y6.out.kept hB
    have G7 : Hid (Ints w7 g2 vf) := G6.out.kept hB
    have H7 : Hid (Ints w7 h2 ks) := H6.out.kept hB
    have K7 : Hid (Ints w7 g4 kn) := K6.out.kept hB
    have R7 : Hid (Ints w7 g5 kn) := R6.out.kept hB
    have B7 : Hid (Below w.heap.size w w7) := B6.out.trans (hB.mono B6.out.size)
    clear hB  B6 L6 Y6 G6 H6 K6 R6
    go_wp2_with fail
    refine (same_list _ _ _ _ _ kn _ HL3 HM K7 R7).mono ?_
    rintro e w8 ⟨rfl, hB⟩
    have L8 : Hid (Ints w8 a1 fl) := L7.out.kept hB
    have Y8 : Hid (Ints w8 a2 zs) := Y7.out.kept hB
    have G8 : Hid (Ints w8 g2 vf) := G7.out.kept hB
    have H8 : Hid (Ints w8 h2 ks) := H7.out.kept hB
    have K8 : Hid (Ints w8 g4 kn) := K7.out.kept hB
    have B8 : Hid (Below w.heap.size w w8) := B7.out.trans (hB.mono B7.out.size)
    clear hB  B7 L7 Y7 G7 H7 K7
    go_wp2_with fail
    refine (drawSame_any (src_kept C0.out B8.out) hlen0).mono ?_
    rintro e w9 ⟨k', fl', a9, c9, x, z, hk', hz', hx0, hx1, hy0, hy1, rfl, hI, hB⟩
    have Z9 : Hid (Ints w9 a9 fl') := hI
    have L9 : Hid (Ints w9 a1 fl) := L8.out.kept hB
    have Y9 : Hid (Ints w9 a2 zs) := Y8.out.kept hB
    have G9 : Hid (Ints w9 g2 vf) := G8.out.kept hB
    have H9 : Hid (Ints w9 h2 ks) := H8.out.kept hB
    have K9 : Hid (Ints w9 g4 kn) := K8.out.kept hB
    have B9 : Hid (Below w.heap.size w w9) := B8.out.trans (hB.mono B8.out.size)
    clear hB hI B8 L8 Y8 G8 H8 K8
    obtain ⟨r, c', HSI, HSS⟩ := same_both k' fl' x z hz' hk'
    clear hz'
    go_wp2_with fail
    refine (HSI.out _ _ _ Z9.out).mono ?_
    rintro e w10 ⟨rfl, hB⟩
    have L10 : Hid (Ints w10 a1 fl) := L9.out.kept hB
    have Y10 : Hid (Ints w10 a2 zs) := Y9.out.kept hB
    have G10 : Hid (Ints w10 g2 vf) := G9.out.kept hB
    have H10 : Hid (Ints w10 h2 ks) := H9.out.kept hB
    have K10 : Hid (Ints w10 g4 kn) := K9.out.kept hB
    have Z10 : Hid (Ints w10 a9 fl') := Z9.out.kept hB
    have B10 : Hid (Below w.heap.size w w10) := B9.out.trans (hB.mono B9.out.size)
    clear hB  B9 L9 Y9 G9 H9 K9 Z9
    go_wp2_with fail
    refine (HSS.out _ _ _ Z10.out).mono ?_
    rintro e w11 ⟨rfl, hB⟩
    have L11 : Hid (Ints w11 a1 fl) := L10.out.kept hB
    have Y11 : Hid (Ints w11 a2 zs) := Y10.out.kept hB
    have G11 : Hid (Ints w11 g2 vf) := G10.out.kept hB
    have H11 : Hid (Ints w11 h2 ks) := H10.out.kept hB
    have K11 : Hid (Ints w11 g4 kn) := K10.out.kept hB
    have B11 : Hid (Below w.heap.size w w11) := B10.out.trans (hB.mono B10.out.size)
    clear hB  B10 L10 Y10 G10 H10 K10
    go_wp2_with fail
    refine (HRT.out _ _ _ _ _ L11.out Y11.out).mono ?_
    rintro e w12 ⟨_, _, _, _, rfl, _, _, hB⟩
    have B12 : Hid (Below w.heap.size w w12) := B11.out.trans (hB.mono B11.out.size)
    clear hB
    go_wp2
    go_ret
    exact ⟨rfl, B12.out⟩
  obtain ⟨rw', EW⟩ : ∃ rw', Hid (rw' = runW fl zs k) := ⟨_, rfl⟩
  have HRT : Hid (RT k fl zs (toldTo fl zs k) (toldTo fl zs k).length rw' 8 true) := by rw [EW.out]; exact run_yes hz hk hzs (by rw [hc, hw]; rfl)
  have HL4 : Hid (rw'.length = 8) := by rw [EW.out]; exact (words_out (run_words hw (code_out hc).2 k (Nat.le_refl _))).1
  have HAT : Hid (∀ i, i < 8 → AtName ks vf kn rw' t i) := by
    show ∀ i, i < 8 → AtName ks vf kn rw' t i
    intro i hi
    rw [EK.out, EV.out, EN.out, EW.out, ET.out]
    exact at_name hc hw hi
  have HWS : Hid (∀ i j : Nat, i < 8 → j < 8 → ks.getD i 0 = ks.getD j 0 → rw'.getD i 0 = rw'.getD j 0) := by
    show ∀ i j : Nat, i < 8 → j < 8 → _
    intro i j hi hj h
    rw [EK.out] at h
    rw [EW.out]
    exact same_words hc hw hi hj h
  have HT0 : 0 < t := by have := (HAT.out 0 (by omega)).hi; omega
  generalize toldTo fl zs k = tl at HRT
  clear hc hz hzs hw EV EK EN ET EM EW
  go_wp2_with fail
  refine (HVI.out _ _ _ L1.out).mono ?_
  rintro e w2 ⟨g2, e2, h2, f2, rfl, hG, hH, hB⟩
  have G2 : Hid (Ints w2 g2 vf) := hG
  have H2 : Hid (Ints w2 h2 ks) := hH
  have L2 : Hid (Ints w2 a1 fl) := L1.out.kept hB
  have Y2 : Hid (Ints w2 a2 zs) := Y1.out.kept hB
  have B2 : Hid (Below w.heap.size w w2) := B1.out.trans (hB.mono B1.out.size)
  clear hB hG hH B1 L1 Y1
  go_wp2_with fail
  refine (HVS.out _ _ _ L2.out).mono ?_
  rintro e w3 ⟨g3, e3, h3, f3, rfl, hG, hH, hB⟩
  have P3 : Hid (Ints w3 g3 vf) := hG
  have Q3 : Hid (Ints w3 h3 ks) := hH
  have L3 : Hid (Ints w3 a1 fl) := L2.out.kept hB
  have Y3 : Hid (Ints w3 a2 zs) := Y2.out.kept hB
  have G3 : Hid (Ints w3 g2 vf) := G2.out.kept hB
  have H3 : Hid (Ints w3 h2 ks) := H2.out.kept hB
  have B3 : Hid (Below w.heap.size w w3) := B2.out.trans (hB.mono B2.out.size)
  clear hB hG hH B2 L2 Y2 G2 H2
  go_wp2_with fail
  refine (HKI.out _ _ _ L3.out).mono ?_
  rintro e w4 ⟨g4, e4, rfl, hG, hB⟩
  have K4 : Hid (Ints w4 g4 kn) := hG
  have L4 : Hid (Ints w4 a1 fl) := L3.out.kept hB
  have Y4 : Hid (Ints w4 a2 zs) := Y3.out.kept hB
  have G4 : Hid (Ints w4 g2 vf) := G3.out.kept hB
  have H4 : Hid (Ints w4 h2 ks) := H3.out.kept hB
  have P4 : Hid (Ints w4 g3 vf) := P3.out.kept hB
  have Q4 : Hid (Ints w4 h3 ks) := Q3.out.kept hB
  have B4 : Hid (Below w.heap.size w w4) := B3.out.trans (hB.mono B3.out.size)
  clear hB hG B3 L3 Y3 G3 H3 P3 Q3
  go_wp2_with fail
  refine (HKS.out _ _ _ L4.out).mono ?_
  rintro e w5 ⟨g5, e5, rfl, hG, hB⟩
  have R5 : Hid (Ints w5 g5 kn) := hG
  have L5 : Hid (Ints w5 a1 fl) := L4.out.kept hB
  have Y5 : Hid (Ints w5 a2 zs) := Y4.out.kept hB
  have G5 : Hid (Ints w5 g2 vf) := G4.out.kept hB
  have H5 : Hid (Ints w5 h2 ks) := H4.out.kept hB
  have P5 : Hid (Ints w5 g3 vf) := P4.out.kept hB
  have Q5 : Hid (Ints w5 h3 ks) := Q4.out.kept hB
  have K5 : Hid (Ints w5 g4 kn) := K4.out.kept hB
  have B5 : Hid (Below w.heap.size w w5) := B4.out.trans (hB.mono B4.out.size)
  clear hB hG B4 L4 Y4 G4 H4 P4 Q4 K4
  go_wp2_with fail
  refine (same_values _ _ _ _ _ vf _ HL1 HT G5 P5).mono ?_
  rintro e w6 ⟨rfl, hB⟩
  have L6 : Hid (Ints w6 a1 fl) := L5.out.kept hB
  have Y6 : Hid (Ints w6 a2 zs) := Y5.out.kept hB
  have G6 : Hid (Ints w6 g2 vf) := G5.out.kept hB
  have H6 : Hid (Ints w6 h2 ks) := H5.out.kept hB
  have Q6 : Hid (Ints w6 h3 ks) := Q5.out.kept hB
  have K6 : Hid (Ints w6 g4 kn) := K5.out.kept hB
  have R6 : Hid (Ints w6 g5 kn) := R5.out.kept hB
  have B6 : Hid (Below w.heap.size w w6) := B5.out.trans (hB.mono B5.out.size)
  clear hB  B5 L5 Y5 G5 H5 Q5 K5 R5
  go_wp2_with fail
  refine (same_list _ _ _ _ _ ks _ HL2 HU H6 Q6).mono ?_
  rintro e w7 ⟨rfl, hB⟩
  have L7 : Hid (Ints w7 a1 fl) := L6.out.kept hB
  have Y7 : Hid (Ints w7 a2 zs) := Y6.out.kept hB
  have G7 : Hid (Ints w7 g2 vf) := G6.out.kept hB
  have H7 : Hid (Ints w7 h2 ks) := H6.out.kept hB
  have K7 : Hid (Ints w7 g4 kn) := K6.out.kept hB
  have R7 : Hid (Ints w7 g5 kn) := R6.out.kept hB
  have B7 : Hid (Below w.heap.size w w7) := B6.out.trans (hB.mono B6.out.size)
  clear hB  B6 L6 Y6 G6 H6 K6 R6
  go_wp2_with fail
  refine (same_list _ _ _ _ _ kn _ HL3 HM K7 R7).mono ?_
  rintro e w8 ⟨rfl, hB⟩
  have L8 : Hid (Ints w8 a1 fl) := L7.out.kept hB
  have Y8 : Hid (Ints w8 a2 zs) := Y7.out.kept hB
  have G8 : Hid (Ints w8 g2 vf) := G7.out.kept hB
  have H8 : Hid (Ints w8 h2 ks) := H7.out.kept hB
  have K8 : Hid (Ints w8 g4 kn) := K7.out.kept hB
  have B8 : Hid (Below w.heap.size w w8) := B7.out.trans (hB.mono B7.out.size)
  clear hB  B7 L7 Y7 G7 H7 K7
  go_wp2_with fail
  refine (drawSame_any (src_kept C0.out B8.out) hlen0).mono ?_
  rintro e w9 ⟨k', fl', a9, c9, x, z, hk', hz', hx0, hx1, hy0, hy1, rfl, hI, hB⟩
  have Z9 : Hid (Ints w9 a9 fl') := hI
  have L9 : Hid (Ints w9 a1 fl) := L8.out.kept hB
  have Y9 : Hid (Ints w9 a2 zs) := Y8.out.kept hB
  have G9 : Hid (Ints w9 g2 vf) := G8.out.kept hB
  have H9 : Hid (Ints w9 h2 ks) := H8.out.kept hB
  have K9 : Hid (Ints w9 g4 kn) := K8.out.kept hB
  have B9 : Hid (Below w.heap.size w w9) := B8.out.trans (hB.mono B8.out.size)
  clear hB hI B8 L8 Y8 G8 H8 K8
  obtain ⟨r, c', HSI, HSS⟩ := same_both k' fl' x z hz' hk'
  clear hz'
  go_wp2_with fail
  refine (HSI.out _ _ _ Z9.out).mono ?_
  rintro e w10 ⟨rfl, hB⟩
  have L10 : Hid (Ints w10 a1 fl) := L9.out.kept hB
  have Y10 : Hid (Ints w10 a2 zs) := Y9.out.kept hB
  have G10 : Hid (Ints w10 g2 vf) := G9.out.kept hB
  have H10 : Hid (Ints w10 h2 ks) := H9.out.kept hB
  have K10 : Hid (Ints w10 g4 kn) := K9.out.kept hB
  have Z10 : Hid (Ints w10 a9 fl') := Z9.out.kept hB
  have B10 : Hid (Below w.heap.size w w10) := B9.out.trans (hB.mono B9.out.size)
  clear hB  B9 L9 Y9 G9 H9 K9 Z9
  go_wp2_with fail
  refine (HSS.out _ _ _ Z10.out).mono ?_
  rintro e w11 ⟨rfl, hB⟩
  have L11 : Hid (Ints w11 a1 fl) := L10.out.kept hB
  have Y11 : Hid (Ints w11 a2 zs) := Y10.out.kept hB
  have G11 : Hid (Ints w11 g2 vf) := G10.out.kept hB
  have H11 : Hid (Ints w11 h2 ks) := H10.out.kept hB
  have K11 : Hid (Ints w11 g4 kn) := K10.out.kept hB
  have B11 : Hid (Below w.heap.size w w11) := B10.out.trans (hB.mono B10.out.size)
  clear hB  B10 L10 Y10 G10 H10 K10
  go_wp2_with fail
  refine (HRT.out _ _ _ _ _ L11.out Y11.out).mono ?_
  rintro e wb ⟨p1, s1, p2, s2, rfl, _, hP, hB⟩
  obtain ⟨b1, o1, rfl, l1, N1⟩ := ints_some (H11.out.kept hB) (by have := HL2.out; omega)
  obtain ⟨b2, o2, rfl, l2, N2⟩ := ints_some hP (by have := HL4.out; omega)
  obtain ⟨b3, o3, rfl, l3, N3⟩ := ints_some (G11.out.kept hB) (by have := HL1.out; omega)
  have LB : Hid (Ints wb a1 fl) := L11.out.kept hB
  have KB : Hid (Ints wb g4 kn) := K11.out.kept hB
  have BB : Hid (Below w.heap.size w wb) := B11.out.trans (hB.mono B11.out.size)
  clear hB hP B11 L11 K11 G11 H11 Y11 HRT HVI HVS HKI HKS HSI HSS C0
  have htl : (t : Int) ≤ 1048576 := by omega
  go_wp2
  go_loopw [128] (fun vi wr => ∃ i : Nat, i ≤ 8 ∧ vi = .int .i64 i ∧ Hid (Below wb.heap.size wb wr)) (fun vi _ => 8 - (intOf vi).toNat)
  case atStart => exact ⟨0, by omega, rfl, Below.refl _ _⟩
  case round =>
    obtain ⟨i, hi, rfl, HB⟩ := hrel
    by_cases hlt : i < 8
    · have hlt' : (i : Int) < 8 := by omega
      go_wp2
      go_loopw [133] (fun vj wq => ∃ j : Nat, j ≤ 8 ∧ vj = .int .i64 j ∧ Hid (Below wb.heap.size wb wq)) (fun vj _ => 8 - (intOf vj).toNat)
      case atStart => exact ⟨0, by omega, rfl, HB.out⟩
      case round =>
        obtain ⟨j, hj, rfl, HQ⟩ := hrel
        by_cases hlj : j < 8
        · have hlj' : (j : Int) < 8 := by omega
          by_cases e : ks.getD i 0 = ks.getD j 0
          · have HS : Hid (SI k fl (i : Int) (j : Int) true true) := by have := HSV.out i j hlt hlj; rw [decide_eq_true e] at this; exact this
            have ew := HWS.out i j hlt hlj e
            go_wp2_with fail
            refine (HS.out _ _ _ (LB.out.kept HQ.out)).mono ?_
            rintro e' wx ⟨rfl, hB⟩
            have HX : Hid (Below wb.heap.size wb wx) := HQ.out.trans (hB.mono HQ.out.size)
            clear hB
            have c1 := at_kept HX.out l1 (N1.out i (by have := HL2.out; omega))
            have c2 := at_kept HX.out l1 (N1.out j (by have := HL2.out; omega))
            have c3 := at_kept HX.out l2 (N2.out i (by have := HL4.out; omega))
            have c4 := at_kept HX.out l2 (N2.out j (by have := HL4.out; omega))
            rw [e] at c1
            rw [ew] at c3
            generalize ks.getD j 0 = x at c1 c2
            generalize rw'.getD j 0 = y at c3 c4
            clear e ew HS
            go_wp2
            go_quiet (fail)
            go_wp2
            go_roundw
            case rel => exact ⟨j + 1, by omega, by go_num, below_drewN HX.out _⟩
            case measure => simp [intOf]; omega
          · have HS : Hid (SI k fl (i : Int) (j : Int) false true) := by have := HSV.out i j hlt hlj; rw [decide_eq_false e] at this; exact this
            go_wp2_with fail
            refine (HS.out _ _ _ (LB.out.kept HQ.out)).mono ?_
            rintro e' wx ⟨rfl, hB⟩
            have HX : Hid (Below wb.heap.size wb wx) := HQ.out.trans (hB.mono HQ.out.size)
            clear hB
            have c1 := at_kept HX.out l1 (N1.out i (by have := HL2.out; omega))
            have c2 := at_kept HX.out l1 (N1.out j (by have := HL2.out; omega))
            have e0 : (ks.getD i 0 == ks.getD j 0) = false := by simpa using e
            have e1 : decide (ks.getD i 0 = ks.getD j 0) = false := by simpa using e
            generalize ks.getD j 0 = x at c2 e0 e1
            generalize ks.getD i 0 = y at c1 e0 e1
            clear e HS
            go_wp2
            go_quiet (fail)
            go_wp2
            go_roundw
            case rel => exact ⟨j + 1, by omega, by go_num, below_drewN HX.out _⟩
            case measure => simp [intOf]; omega
        · have hA := HAT.out i hlt
          obtain ⟨x, hx⟩ := Int.eq_ofNat_of_zero_le hA.lo
          have xt : x < t := by have := hA.hi; rw [hx] at this; simpa using this
          have xt' : (x : Int) < (t : Int) := by omega
          have c1 : wr.cell? ⟨b1, o1 + i, none⟩ = some (.int .i64 (x : Int)) := by rw [← hx]; exact at_kept HQ.out l1 (N1.out i (by have := HL2.out; omega))
          have c2 := at_kept HQ.out l2 (N2.out i (by have := HL4.out; omega))
          have c3 := at_kept HQ.out l3 (N3.out (x * 4) (by have := HL1.out; omega))
          have c4 := at_kept HQ.out l3 (N3.out (x * 4 + 3) (by have := HL1.out; omega))
          rw [← Nat.add_assoc] at c4
          have hh := hA.has
          have hw := hA.word
          rw [hx, Int.toNat_natCast] at hh hw
          cases hm : decide ((i : Int) ∈ kn)
          · rw [hm] at hh
            have HAS : Hid (∀ w' : World, Below wb.heap.size wb w' → Calls Try.prog 22 #[.slice g4 m e4, .int .i64 (i : Int)] w' fun e W' => e = .returned (.bool false) ∧ W' = w') := fun w' hb => by
              have := has_eq g4 m e4 kn (i : Int) w' HL3 HM (KB.out.kept hb)
              rw [hm] at this
              exact this
            have q1 : (vf.getD (x * 4) 0 == 1) = false := hh.symm
            have q2 : decide (vf.getD (x * 4) 0 = 1) = false := by simpa using q1
            generalize vf.getD (x * 4) 0 = y at c3 q1 q2
            generalize vf.getD (x * 4 + 3) 0 = z' at c4
            generalize rw'.getD i 0 = p at c2
            clear hA hx hh hw hm
            go_wp2
            go_quiet (first | (go_at_call 22; refine Calls.quiet_of_same (HAS.out _ (below_drewN HQ.out _))))
            go_wp2
            go_roundw
            case rel => exact ⟨i + 1, by omega, by go_num, below_drewN HQ.out _⟩
            case measure => simp [intOf]; omega
          · rw [hm] at hh
            have HAS : Hid (∀ w' : World, Below wb.heap.size wb w' → Calls Try.prog 22 #[.slice g4 m e4, .int .i64 (i : Int)] w' fun e W' => e = .returned (.bool true) ∧ W' = w') := fun w' hb => by
              have := has_eq g4 m e4 kn (i : Int) w' HL3 HM (KB.out.kept hb)
              rw [hm] at this
              exact this
            have q1 : vf.getD (x * 4) 0 = 1 := by simpa using hh.symm
            have q2 := hw hm
            rw [q1] at c3
            rw [q2] at c2
            generalize vf.getD (x * 4 + 3) 0 = z' at c4 c2
            clear hA hx hh hw hm q1 q2
            go_wp2
            go_quiet (first | (go_at_call 22; refine Calls.quiet_of_same (HAS.out _ (below_drewN HQ.out _))))
            go_wp2
            go_roundw
            case rel => exact ⟨i + 1, by omega, by go_num, below_drewN HQ.out _⟩
            case measure => simp [intOf]; omega
    · go_wp2
      go_ret
      exact ⟨rfl, BB.out.trans (HB.out.mono BB.out.size)⟩

set_option maxRecDepth 100000 in
theorem lifted (os : Os) (started : os.Started) (H : Type) (enc : TypeId × Value → H) :
    ReturnsInHanded {} Try.checked os 4 .any (Rows.fnValuesSpec.pre6 enc Try.prog Try.f4 Rows.fnValuesRow.domain false) (Rows.fnValuesSpec.post enc Try.prog Try.f4 false true false false) := by
  refine returnsInHanded_of_change_sized (C := Try.checked) own started (by kernel_rfl) Try.func4
    (ChangeSpec.witness6 (enc := enc) (C := Try.checked) false ⟨#[], #[.slice none 0 0], []⟩ 8 (by kernel_rfl) (by kernel_rfl) (by kernel_rfl) (by kernel_rfl)) ?_
  intro W base args ds gs before hval0 hW hcnd hsz0 _
  have hval : ∀ (j : Nat) t v, Try.f4.params[j]? = some t → args[j]? = some v → Value.okWide Try.prog W .any base t v := hval0
  have hW' := hW
  obtain ⟨p, q, hA0, hV, rfl, hfz, hnd⟩ := hW
  have hsz : (DataW.weightsEach Try.prog (Try.f4.params.toList ++ Rows.fnValuesSpec.plain.varTypes Try.prog) (ds ++ gs)).all (· ≤ reachBytes) = true := hsz0
  have hA : DataW.TrodAll enc Try.prog W 0 (fun _ => true) true Try.f4.params.toList args.toList ds p := hA0
  rw [Try.params4] at hA hval hsz
  obtain ⟨v0, vs0, d0, ds0, p0, q0, hargs, rfl, rfl, h0, r0⟩ := trodAll_cons hA
  obtain ⟨rfl, rfl, rfl⟩ := trodAll_nil r0
  obtain rfl : args = #[v0] := by cases args; simp_all
  obtain ⟨rfl, rfl⟩ := trodVars_none hV
  obtain ⟨a0, len0, cap0, rfl⟩ := okWide_slice Try.underlying22 (hval 0 22 v0 rfl rfl)
  have k0 := h0
  have lt0 : ∀ x ∈ p0, x.block < W.heap.size := by obtain ⟨m, hm⟩ := k0; exact DataW.trod_lt m _ _ _ hm
  obtain ⟨z0, w0, b0⟩ : ∃ zs, IsRow .u8 W a0 len0 cap0 zs ∧ len0 ≤ 140737488351232 := by
    obtain ⟨fuel, hf⟩ := h0
    rcases open_ints Try.underlying22 Try.underlying5 (by kernel_rfl) hf with ⟨hcs, _⟩ | ⟨x, l, c, zs, hcs, _, hl, hm, hz, hx, hcell, hwz⟩
    · simp [Value.cells] at hcs
      obtain ⟨rfl, rfl, rfl⟩ := hcs
      exact ⟨[], .inl ⟨rfl, rfl, rfl, rfl⟩, by omega⟩
    · simp [Value.cells] at hcs
      obtain ⟨rfl, rfl, rfl⟩ := hcs
      have hz' : zs.length = cap0 := by simpa using hz
      have hd : d0 = .slice (lits .u8 (zs.take len0)) (lits .u8 (zs.drop len0)) := congrArg Prod.fst hx
      have hs := sized_slice hsz (j := 0) (t := 22) (e := 5) rfl (by rw [hd]; rfl) Try.underlying22
      rw [show Try.prog.bytesOf 5 = 1 by kernel_rfl] at hs
      simp only [lits, List.length_map, List.length_take, List.length_drop, reachBytes] at hs
      exact ⟨zs, .inr ⟨_, rfl, hl, hm, hz', hcell, hwz⟩, by omega⟩
  clear hA0 hval0
  refine (walk a0 len0 cap0 z0 W w0 b0).mono fun e W' ⟨he, bel⟩ => ?_
  subst he
  exact ⟨_, rfl, _, _, _, [], _, [], hW', trodAll_mk1 (shut_bool Try.underlying4 _), (trodAll_cons_mk (Below.trod laidOut (by kernel_rfl) (of_decide_eq_true (by kernel_rfl)) k0 bel lt0) trodAll_mk0), rfl, bel.frame _, fun h => by cases h⟩

theorem over : Rows.fnValuesRow.holds Try.pinned (OpenSpec.ofChange Rows.fnValuesSpec) :=
  OpenClaim.holds_of_wide 4 Try.f4 rfl rfl rfl rfl rfl rfl rfl ⟨rfl, rfl, rfl, rfl, rfl⟩ rfl rfl rfl rfl rfl (by kernel_rfl) Try.func4 (by kernel_rfl)
    (of_decide_eq_true (by kernel_rfl)) (by unfold Func.isWrapper; first | (rw [if_pos (by decide +kernel)]; kernel_rfl) | (rw [if_neg (by decide +kernel)]; exact ⟨rfl, rfl⟩))
    (fun os started H enc _ => lifted os started H enc)

theorem proved : Rows.FnValuesSaid :=
  over
#print axioms proved
end Go.Proofs.Ytldmeffhbabanaa.fnValues
