/-
  What the specification's SameValue and KnownAt answer.
-/
import Derived.Test.YthelpbghcmpcgaaProg
import Derived.Test.YthelpbghcmpcgaaNumAll
import Derived.Test.YthelpbghcmpcgaaNumSame
import Derived.Test.YthelpbghcmpcgaaNumKnown
import Derived.Test.YthelpbghcmpcgaaCodeGood
import Derived.WalkKit
import Derived.WalkSpells
import Derived.Below
import Derived.Handy
import Derived.Deep.RegionWith
namespace Go.Proofs.Ythelpbghcmpcgaa.nums
open Go.RowKit Go.Proofs.Ythelpbghcmpcgaa.math Go.Proofs.Ythelpbghcmpcgaa.ints Go.Proofs.Ythelpbghcmpcgaa.walks
set_option linter.unusedVariables false

theorem all_seen4 {zs : List Int} {len B sb : Nat} {w : World} (hc : codeB zs len = true) (h : St w B sb (numTo zs len).1 (numsOf (numTo zs len).1 (numTo zs len).2)) : ∃ gv gn cv cn, Seen w B sb gv gn cv cn (numTo zs len).1 (numsOf (numTo zs len).1 (numTo zs len).2) ∧ (numsOf (numTo zs len).1 (numTo zs len).2).length = 8 ∧ 0 < (numTo zs len).1.length := by
  have hI := inv_to hc len (Nat.le_refl _)
  have hkl : (numsOf (numTo zs len).1 (numTo zs len).2).length = 8 := by rw [nums_len, hI.len]
  have hv : 0 < (numTo zs len).1.length := by
    have := idx_lt (hI.at (i := 0) (by omega))
    omega
  obtain ⟨gv, gn, cv, cn, hE⟩ := h.seen hv (by omega)
  exact ⟨gv, gn, cv, cn, hE, hkl, hv⟩
theorem num_at {zs : List Int} {len j : Nat} (hc : codeB zs len = true) (hj : j < 8) : (numsOf (numTo zs len).1 (numTo zs len).2).getD j 0 = (idx (numTo zs len).1 ((numTo zs len).2.getD j zV) : Int) := nums_at (by rw [(inv_to hc len (Nat.le_refl _)).len]; exact hj)
theorem same_num {zs : List Int} {len j k : Nat} (hc : codeB zs len = true) (hj : j < 8) (hk : k < 8) : decide ((idx (numTo zs len).1 ((numTo zs len).2.getD j zV) : Int) = (idx (numTo zs len).1 ((numTo zs len).2.getD k zV) : Int)) = sameV zs len (j : Int) (k : Int) := by
  have hI := inv_to hc len (Nat.le_refl _)
  unfold sameV
  simp only [Int.toNat_natCast]
  refine decide_eq_decide.2 ⟨fun e => ?_, fun e => by rw [e]⟩
  exact idx_inj (hI.at hj) (hI.at hk) (by omega)
set_option maxHeartbeats 2000000 in
theorem spec_same (a : Option Addr) (len cap : Nat) (zs : List Int) (x y : Int) (W : World) (hz : Hid (zs.length = len * 5)) (hlen : len ≤ 1048576) (h : Hid (Ints W a zs)) :
    Calls Try.prog 25 #[.slice a len cap, .int .i64 x, .int .i64 y] W fun e W' => SameAns zs len x y W e W' := by
  go_enter Try.func25, Try.ntmps25
  go_wp2_with fail
  refine (spec_code _ _ _ zs _ hz hlen h).mono ?_
  cases hc : codeB zs len
  · rintro e w1 ⟨rfl, hb⟩
    have HA : Hid (SameAns zs len x y W (.returned (.tuple #[.bool false, .bool false])) w1) := ⟨Or.inr ⟨by simp [sameOk, hc], rfl⟩, hb⟩
    clear hb hc
    go_wp2
    go_ret2
    exact HA.out
  rintro e w1 ⟨rfl, hb⟩
  cases hx : inR x 0 7
  · have HA : Hid (SameAns zs len x y W (.returned (.tuple #[.bool false, .bool false])) w1) := ⟨Or.inr ⟨by simp [sameOk, hx], rfl⟩, hb⟩
    clear hb hc
    go_wp2_with (go_at_call 45; refine (spec_name _ _).mono ?_; rw [hx]; rintro e w' ⟨rfl, hw⟩; rw [hw]; clear hw w')
    go_ret2
    exact HA.out
  cases hy : inR y 0 7
  · have HA : Hid (SameAns zs len x y W (.returned (.tuple #[.bool false, .bool false])) w1) := ⟨Or.inr ⟨by simp [sameOk, hy], rfl⟩, hb⟩
    clear hb hc
    go_wp2_with (go_at_call 45; refine (spec_name _ _).mono ?_; (first | rw [hx] | rw [hy]); rintro e w' ⟨rfl, hw⟩; rw [hw]; clear hw w')
    go_ret2
    exact HA.out
  have HC : Hid (codeB zs len = true) := hc
  have HB1 : Hid (Below W.heap.size W w1) := hb
  clear hb hc
  obtain ⟨x0, x7⟩ := inR_out hx
  obtain ⟨y0, y7⟩ := inR_out hy
  obtain ⟨j, rfl⟩ := Int.eq_ofNat_of_zero_le x0
  obtain ⟨k, rfl⟩ := Int.eq_ofNat_of_zero_le y0
  go_wp2_with (go_at_call 45; refine (spec_name _ _).mono ?_; (first | rw [hx] | rw [hy]); rintro e w' ⟨rfl, hw⟩; rw [hw]; clear hw w')
  refine (spec_all a len cap zs w1 hz HC (h.out.kept HB1.out)).mono ?_
  rintro e w2 ⟨rfl, hS, hb2⟩
  obtain ⟨gv, gn, cv, cn, hE, hkl, hv⟩ := all_seen4 HC.out hS
  have e1 := hE.n
  rw [hkl] at e1
  have e2 := hE.num (k := j) (by omega)
  have e3 := hE.num (k := k) (by omega)
  rw [num_at HC.out (by omega)] at e2 e3
  obtain ⟨p, hp⟩ : ∃ p : Nat, idx (numTo zs len).1 ((numTo zs len).2.getD j zV) = p := ⟨_, rfl⟩
  obtain ⟨q, hq⟩ : ∃ q : Nat, idx (numTo zs len).1 ((numTo zs len).2.getD k zV) = q := ⟨_, rfl⟩
  have hs := same_num HC.out (j := j) (k := k) (by omega) (by omega)
  rw [hp, hq] at hs
  rw [hp] at e2
  rw [hq] at e3
  obtain ⟨c, hcc⟩ : ∃ c, decide ((p : Int) = (q : Int)) = c := ⟨_, rfl⟩
  rw [hcc] at hs
  have qc : ((p : Int) == (q : Int)) = c := by rw [← hcc]; by_cases e : (p : Int) = (q : Int) <;> simp [e]
  have HA : Hid (SameAns zs len (j : Int) (k : Int) W (.returned (.tuple #[.bool c, .bool true])) w2.drew) := ⟨Or.inl ⟨by simp [sameOk, HC.out, hx, hy], by rw [← hs]⟩, (HB1.out.trans (hb2.mono HB1.out.size)).drew⟩
  have j8 : (j : Int) < 8 := by omega
  have k8 : (k : Int) < 8 := by omega
  clear hE hS hb2 hp hq hs hkl hv x7 y7
  go_wp2
  go_region
  all_goals go_wp2
  all_goals go_ret2
  all_goals exact HA.out
set_option maxRecDepth 100000 in
set_option maxHeartbeats 4000000 in
theorem spec_known (a : Option Addr) (len cap : Nat) (zs : List Int) (W : World) (hz : Hid (zs.length = len * 5)) (hlen : len ≤ 1048576) (h : Hid (Ints W a zs)) :
    Calls Try.prog 27 #[.slice a len cap] W fun e W' => NamesTold (codeB zs len) (risingTo (knownB (numTo zs len).2) 8) W e W' := by
  obtain ⟨i0, hi, hz0, hz1, hz2⟩ := info_parts row_info
  go_enter Try.func27, Try.ntmps27
  go_wp2_with fail
  refine (spec_code _ _ _ zs _ hz hlen h).mono ?_
  cases hc : codeB zs len
  · rintro e w1 ⟨rfl, hb⟩
    have HA : Hid (NamesTold false (risingTo (knownB (numTo zs len).2) 8) W (.returned (.tuple #[.slice none 0 0, .bool false])) w1) := Or.inr ⟨rfl, rfl, hb⟩
    clear hb
    go_wp2
    go_ret2
    rw [hc]
    exact HA.out
  rintro e w1 ⟨rfl, hb⟩
  have HC : Hid (codeB zs len = true) := hc
  have HB1 : Hid (Below W.heap.size W w1) := hb
  clear hb hc
  go_wp2_with fail
  refine (spec_all a len cap zs w1 hz HC (h.out.kept HB1.out)).mono ?_
  rintro e w2 ⟨rfl, hS, hb2⟩
  obtain ⟨gv, gn, cv, cn, hE, hkl, hv⟩ := all_seen4 HC.out hS
  have HI : Hid (Inv (numTo zs len).1 (numTo zs len).2 (8 + len)) := inv_to HC.out len (Nat.le_refl _)
  have HNum : Hid (∀ j, j < 8 → (numsOf (numTo zs len).1 (numTo zs len).2).getD j 0 = (idx (numTo zs len).1 ((numTo zs len).2.getD j zV) : Int)) := fun j hj => num_at HC.out hj
  obtain ⟨vs, ns, hvn⟩ : ∃ vs ns, numTo zs len = (vs, ns) := ⟨_, _, rfl⟩
  rw [hvn] at hE hkl hv HI HNum
  simp only at hE hkl hv HI HNum
  have e0 := hE.v
  have e1 := hE.n
  rw [hkl] at e1
  obtain ⟨l0, l1, l2, _, _⟩ := hE.lt
  have HE : Hid (Seen w2 w1.heap.size w1.heap.size gv gn cv cn vs (numsOf vs ns)) := hE
  have HL : Hid ((numsOf vs ns).length = 8) := hkl
  have HB2 : Hid (Below W.heap.size W w2) := HB1.out.trans (hb2.mono HB1.out.size)
  have HV : Hid (numTo zs len = (vs, ns)) := hvn
  have hvl : vs.length ≤ 38 := Nat.le_trans HI.out.room (by have := (code_out HC.out).1; omega)
  clear hE hS hb2 hvn hkl
  go_wp2
  go_loopw [5, 18] (fun vt vi wr => ∃ k : Nat, k ≤ 8 ∧ vi = .int .i64 k ∧ Hid (Own wr w2.heap.size vt (risingTo (knownB ns) k)) ∧ Hid (Below w2.heap.size w2 wr)) (fun _ vi _ => 8 - (intOf vi).toNat)
  case atStart => exact ⟨0, Nat.zero_le _, rfl, own_nil _ _, Below.refl _ _⟩
  case round =>
    obtain ⟨k, hk, rfl, HO, HB⟩ := hrel
    have hsz := HB.out.size
    have HLn : Hid ((risingTo (knownB ns) k).length ≤ k) := rising_len (knownB ns) k
    by_cases hlt : k < 8
    · have hlt' : (k : Int) < 8 := by omega
      have hm := HI.out.at hlt
      have hil := idx_lt hm
      have c1 : wr.cell? ⟨gn, k, none⟩ = some (.int .i64 (idx vs (ns.getD k zV) : Int)) := (HB.out.cell (p := ⟨gn, k, none⟩) l2).trans ((HE.out.num (by rw [HL.out]; exact hlt)).trans (by rw [HNum.out k hlt]))
      have c2 : wr.cell? ⟨gv, idx vs (ns.getD k zV) * 4, none⟩ = some (.int .i64 (ns.getD k zV).1) := (HB.out.cell (p := ⟨gv, idx vs (ns.getD k zV) * 4, none⟩) l1).trans ((HE.out.val (i := 0) hil (by omega)).trans (by rw [idx_get hm]; rfl))
      have c3 : wr.cell? ⟨w1.heap.size, 0, none⟩ = some (.slice (some ⟨gv, 0, none⟩) vs.length cv) := (HB.out.cell (p := ⟨w1.heap.size, 0, none⟩) l0).trans e0
      obtain ⟨i, hi'⟩ : ∃ i : Nat, idx vs (ns.getD k zV) = i := ⟨_, rfl⟩
      rw [hi'] at c1 c2 hil
      have hil' : (i : Int) < (vs.length : Int) := by omega
      cases hf : knownB ns k
      · have HE' : Hid (risingTo (knownB ns) (k + 1) = risingTo (knownB ns) k) := ris_no hf
        have hne : ¬ (ns.getD k zV).1 = 1 := of_decide_eq_false hf
        generalize (ns.getD k zV).1 = op at c2 hne
        have q1 : (op == 1) = false := by simpa using hne
        clear hm hi' hf hne
        go_wp2
        go_roundw
        case rel => exact ⟨k + 1, by omega, by go_num, by rw [HE'.out]; exact HO.out, HB⟩
        case measure => simp [intOf]; omega
      · have HE' : Hid (risingTo (knownB ns) (k + 1) = risingTo (knownB ns) k ++ [(k : Int)]) := ris_yes hf
        have heq : (ns.getD k zV).1 = 1 := of_decide_eq_true hf
        rw [heq] at c2
        clear hm hi' hf heq
        go_wp2_with (first
          | (at_builtin; refine wpList_append_own _ rfl _ _ 25 rfl w2.heap.size 3 i0 (.int .i64 0) 1 8 Try.underlying25 hi hz0 hz1 hz2 rfl (by decide) _ _ _ rfl (World.ownsRow.alloc HO.out _) ⟨wr.heap.size, 0, none⟩ 1 1 [.int .i64 (k : Int)] rfl rfl (new_one wr (k : Int) _) (one_of _) (by have := HLn.out; unfold maxLen; omega) (by have := HLn.out; omega) (by simp; omega) ?_)
          | go_in)
        intro v' w3 hown' hgrow _
        obtain ⟨q0, q1, q2⟩ := Own.snoc HO.out hsz HB.out hown' hgrow
        have Q0 : Hid (Own w3 w2.heap.size v' (risingTo (knownB ns) k ++ [(k : Int)])) := q0
        have Q1 : Hid (Below w2.heap.size w2 w3) := q1
        clear hown' hgrow q0 q1 q2
        go_wp2
        go_roundw
        case rel => exact ⟨k + 1, by omega, by go_num, by rw [HE'.out]; exact Q0, Q1⟩
        case measure => simp [intOf]; omega
    · have HE8 : Hid (k = 8) := by show k = 8; omega
      rw [HE8.out] at HO
      obtain ⟨ra, rc, rfl, hM⟩ := HO.out.mine
      have HA : Hid (NamesTold (codeB zs len) (risingTo (knownB (numTo zs len).2) 8) W (.returned (.tuple #[.slice ra (risingTo (knownB ns) 8).length rc, .bool true])) wr) := by
        show NamesTold _ _ _ _ _
        rw [HV.out]
        exact Or.inl ⟨HC.out, ⟨ra, rc, rfl, mine_down hM HB2.out.size⟩, HB2.out.trans (HB.out.mono HB2.out.size)⟩
      have hge : (8 : Int) ≤ k := by omega
      clear hM
      go_wp2
      go_ret2
      exact HA.out
end Go.Proofs.Ythelpbghcmpcgaa.nums
