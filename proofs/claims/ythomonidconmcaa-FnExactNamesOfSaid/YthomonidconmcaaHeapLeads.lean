/-
  What the program's leadsWell answers, in whatever order the map gives its objects.
-/
import Derived.Test.YthomonidconmcaaProg
import Derived.Test.YthomonidconmcaaInts
import Derived.Test.YthomonidconmcaaOwnInts
import Derived.Test.YthomonidconmcaaDeepRow
import Derived.Test.YthomonidconmcaaPtrMap
import Derived.Test.YthomonidconmcaaHeapAdd
import Derived.Test.YthomonidconmcaaHeapRun
import Derived.Test.YthomonidconmcaaHasIn
import Derived.Test.YthomonidconmcaaOwnMath
import Derived.OwnWalk
import Derived.Maps.AppendAt
import Derived.Maps.RangeWalk
import Derived.Deep.OwnRows
import Derived.Deep.DeepCutAuto
import Derived.WalkKit
import Derived.WalkSpells
import Derived.Below
import Derived.Handy
namespace Go.Proofs.Ythomonidconmcaa.walks
open Go.RowKit Go.Proofs.Ythomonidconmcaa.ints Go.Proofs.Ythomonidconmcaa.deep
set_option linter.unusedVariables false
set_option maxRecDepth 100000

def LedS (s : Hst) (x : Int) : Prop := x = -1 ∨ (s.at_ x).isSome = true
def LeadsS (s : Hst) : Prop := (∀ x ∈ s.rs, LedS s x) ∧ ∀ y o, s.at_ y = some o → LedS s o.2.1 ∧ LedS s o.2.2
noncomputable instance (s : Hst) : Decidable (LeadsS s) := Classical.propDecidable _
noncomputable def leadsS (s : Hst) : Bool := decide (LeadsS s)
/-- Where an end may come from. -/
def SrcS (s : Hst) (x : Int) : Prop := x ∈ s.rs ∨ ∃ y o, s.at_ y = some o ∧ (x = o.2.1 ∨ x = o.2.2)
structure EndsS (s : Hst) (left : Lit → Bool) (zs : List Int) : Prop where
  src : ∀ x ∈ zs, SrcS s x
  rt : ∀ x ∈ s.rs, x ∈ zs
  lk : ∀ y o, s.at_ y = some o → left (.int .i64 y) = false → o.2.1 ∈ zs ∧ o.2.2 ∈ zs
theorem EndsS.next {s : Hst} {left : Lit → Bool} {zs : List Int} (h : EndsS s left zs) {x : Int} {o : Bool × Int × Int} (e : s.at_ x = some o) (hx : okZ x) : EndsS s (fun z => left z && !z.sameKey (.int .i64 x)) (zs ++ [o.2.1, o.2.2]) := by
  refine ⟨fun y hy => ?_, fun y hy => by simp [h.rt y hy], fun y o' e' hl => ?_⟩
  · simp at hy
    rcases hy with hy | hy | hy
    · exact h.src y hy
    · exact Or.inr ⟨x, o, e, Or.inl hy⟩
    · exact Or.inr ⟨x, o, e, Or.inr hy⟩
  · by_cases q : y = x
    · subst q
      rw [e] at e'
      cases e'
      simp
    · have hs : (Lit.int .i64 y).sameKey (.int .i64 x) = false := Maps.sameKey_ne (fun e => q (by cases e; rfl))
      simp only [hs, Bool.not_false, Bool.and_true] at hl
      have := h.lk y o' e' hl
      simp [this.1, this.2]
theorem leads_of {s : Hst} {zs : List Int} (h : EndsS s (fun _ => false) zs) (hall : ∀ x ∈ zs, LedS s x) : leadsS s = true := decide_eq_true ⟨fun x hx => hall x (h.rt x hx), fun y o e => ⟨hall _ (h.lk y o e rfl).1, hall _ (h.lk y o e rfl).2⟩⟩
theorem leads_not {s : Hst} {left : Lit → Bool} {zs : List Int} (h : EndsS s left zs) {x : Int} (hx : x ∈ zs) (hn : ¬ LedS s x) : leadsS s = false := decide_eq_false (fun q => by
  rcases h.src x hx with r | ⟨y, o, e, r | r⟩
  · exact hn (q.1 x r)
  · rw [r] at hn; exact hn (q.2 y o e).1
  · rw [r] at hn; exact hn (q.2 y o e).2)
theorem two_news {w : World} {g : Nat} {T : TypeId} {z : Bool} {x y : Int} (h : w.rowIs g T 3 (rowF [.bool z, .int .i64 x, .int .i64 y])) : ∀ (j : Nat) (u : Value), [Value.int .i64 x, .int .i64 y][j]? = some u → w.cell? ((⟨g, 1, none⟩ : Addr).add j) = some u := by
  intro j u hj
  rw [show (⟨g, 1, none⟩ : Addr).add j = ⟨g, 1 + j, none⟩ by unfold Addr.add; split <;> simp_all]
  match j, hj with
  | 0, hj => simp at hj; subst hj; exact h.cell (i := 1) (by decide)
  | 1, hj => simp at hj; subst hj; exact h.cell (i := 2) (by decide)
theorem two_one (x y : Int) : ∀ u ∈ [Value.int .i64 x, .int .i64 y], u.oneCell' = true := by
  intro u hu; simp at hu; rcases hu with rfl | rfl <;> rfl
set_option maxHeartbeats 8000000 in
theorem impl_leads (B rp mp sp n m : Nat) (p : Int → Option Nat) (s : Hst) (W : World) (hn : n ≤ 1000) (h : Hid (RunAt W B rp mp sp n m p s)) (hr : Hid (∀ x ∈ s.rs, okZ x)) (hl : Hid (∀ y o, s.at_ y = some o → okZ o.2.1 ∧ okZ o.2.2)) :
    Calls Try.prog 54 #[.pointer (some ⟨rp, 0, none⟩)] W fun e W' => e = .returned (.bool (leadsS s)) ∧ Below W.heap.size W W' := by
  obtain ⟨i0, hi, hz0, hz1, hz2⟩ := parts_of (P := Try.prog) (e := 3) (z := .int .i64 0) (a := 1) (b := 8) (by kernel_rfl)
  have HOK : Hid (∀ x, SrcS s x → okZ x) := fun x q => by
    rcases q with q | ⟨y, o, e, q | q⟩
    · exact hr.out x q
    · rw [q]; exact (hl.out y o e).1
    · rw [q]; exact (hl.out y o e).2
  obtain ⟨R, HR⟩ : ∃ R, Hid (leadsS s = R) := ⟨_, rfl⟩
  rw [HR.out]
  go_enter Try.func54, Try.ntmps54
  go_wp2_with fail
  refine (impl_roots B rp mp sp n m p s W h).mono ?_
  rintro e w1 ⟨v0, rfl, hO, hB⟩
  have H1 : Hid (RunAt w1 B rp mp sp n m p s) := h.out.kept hB
  have B1 : Hid (Below W.heap.size W w1) := hB
  have O1 : Hid (Own w1 W.heap.size v0 s.rs) := hO
  clear hO hB
  obtain ⟨D, hD, hRep⟩ := H1.out.map
  have HRep : Hid (PtrRep D p) := hRep
  have HOM : Hid (w1.ownsMap Try.prog 3 ptrElem mp n D) := hD
  have HSZ : Hid (Maps.size D ≤ n) := hD.size_le
  have HML : Hid (mp < W.heap.size) := h.out.map.lt
  have HLR : Hid (s.rs.length = 6) := H1.out.len
  clear hD hRep
  have r0 : w1.cell? ⟨rp, 0, none⟩ = some (.map (some mp)) := H1.out.row.cell (i := 0) (by decide)
  go_wp2_with (at_range; refine wpList_range_own _ rfl _ 66 rfl 3 72 keyedZ Try.underlying66 ptrElem mp n D rfl HOM.out ?_; intro w2 hrg0 hg0 hs0)
  go_frame
  have HB2 : Hid (Below w1.heap.size w1 w2) := ⟨hg0.os, hg0.tape, hg0.output, hg0.size, fun k hk => hg0.block k hk (by simp)⟩
  have HRG : Hid (w2.ranges Try.prog 3 ptrElem mp w1.heap.size n D (Maps.has D) (Maps.size D)) := hrg0
  have HE0 : Hid (EndsS s (Maps.has D) s.rs) := ⟨fun x hx => Or.inl hx, fun x hx => hx, fun y o e hl => by
    obtain ⟨g, eg, _, hok⟩ := H1.out.some e
    rw [HRep.out.has y hok, eg] at hl
    cases hl⟩
  obtain ⟨r1, hr1⟩ : ∃ r1, Hid (w1.heap.size = r1) := ⟨_, rfl⟩
  have HR1 : Hid (W.heap.size ≤ r1) := by show _ ≤ _; rw [← hr1.out]; exact B1.out.size
  have HW2 : Hid (w2.heap.size = r1 + 1) := by show _ = _; rw [hs0, hr1.out]
  rw [hr1.out] at HRG ⊢
  have HOB0 : Hid (∀ j, v0.ownBlock = some j → j ≠ r1) := fun j hj => by have := (World.ownsRow.lt O1.out j hj).2; rw [hr1.out] at this; omega
  have O2 : Hid (Own w2 W.heap.size v0 s.rs) := by
    show World.ownsRow _ _ _ _ _ _ _
    exact World.ownsRow.kept O1.out (row := none) hg0 (by
      cases q : v0.ownBlock with
      | none => exact Or.inl rfl
      | some j => exact Or.inr (by simp))
  have HB02 : Hid (Below W.heap.size W w2) := B1.out.trans (HB2.out.mono B1.out.size)
  clear hrg0 hg0 hs0 r0 O1 HOM HB2
  go_loopw [3] (fun vl wr => ∃ (v : Value) (zs : List Int) (left : Lit → Bool) (cnt : Nat), v = vl ∧ Hid (wr.ranges Try.prog 3 ptrElem mp r1 n D left cnt) ∧ Hid (EndsS s left zs) ∧ Hid (Own wr W.heap.size v zs) ∧ Hid (Below W.heap.size W wr) ∧ Hid (zs.length + 2 * cnt ≤ 6 + 2 * n) ∧ Hid (∀ j, v.ownBlock = some j → j ≠ r1) ∧ Hid (r1 < wr.heap.size)) (fun _ wr => wr.rangeLeft mp r1)
  case atStart => exact ⟨_, s.rs, _, _, rfl, HRG, HE0, O2, HB02, by show _ ≤ _; rw [HLR.out]; have := HSZ.out; omega, HOB0, by show _ < _; rw [HW2.out]; omega⟩
  case round =>
    obtain ⟨v, zs, left, cnt, rfl, hrg, HE, HO, HB, HC, HNB, HSR⟩ := hrel
    go_wp2_with (at_next; refine wpList_next_ranges (α := Int) (β := Option Nat) _ rfl _ rfl 3 keyedZ ptrElem (Value.int .i64) ptrV (fun key kl h => by obtain ⟨x, e, _⟩ := Go.Maps.keyOf_int_inv Try.underlying3 h; exact ⟨x, e⟩) (fun v y h => by obtain ⟨o, e, _⟩ := ptrElem_inv h; exact ⟨o, e⟩) mp r1 n D left cnt rfl hrg.out ?done ?more)
    case done =>
      intro _ hl0
      have HE2 : Hid (EndsS s (fun _ => false) zs) := by
        have e : left = fun _ => false := funext hl0
        rw [e] at HE; exact HE.out
      have HIO := HO.out.mine
      obtain ⟨a, cp, rfl, hM⟩ := HIO
      have HI : Hid (Ints wr a zs) := hM.ints
      have HRW : Hid (RunAt wr B rp mp sp n m p s) := h.out.kept HB.out
      have hzl : zs.length ≤ 3000 := by have := HC.out; omega
      obtain ⟨L, hL⟩ : ∃ L, Hid (zs.length = L) := ⟨_, rfl⟩
      rw [hL.out] at hzl ⊢
      have r0 : wr.cell? ⟨rp, 0, none⟩ = some (.map (some mp)) := HRW.out.row.cell (i := 0) (by decide)
      have rl := HRW.out.row.lt
      clear hl0 HE hM HO hrg
      go_wp2
      go_loop [29] (fun vi => ∃ k : Nat, k ≤ L ∧ vi = .int .i64 (k : Int) ∧ Hid (∀ j, j < k → LedS s (zs.getD j 0))) (fun vi => L - (intOf vi).toNat)
      case atStart => exact ⟨0, Nat.zero_le _, rfl, fun j hj => by omega⟩
      case round =>
        obtain ⟨k, hk, rfl, HK⟩ := hrel
        by_cases hlt : k < L
        rotate_left
        · have HT : Hid (R = true) := by
            show _ = _
            rw [← HR.out]
            refine leads_of HE2.out (fun x hx => ?_)
            obtain ⟨j, hj, e⟩ := in_at.1 hx
            rw [← e]
            exact HK.out j (by have := hL.out; omega)
          go_wp2
          go_ret
          exact ⟨by rw [HT.out]; rfl, HB.out⟩
        have hltI : (k : Int) < (L : Int) := by omega
        obtain ⟨b, off, ha, hc⟩ := HI.out.at (Below.refl _ _) (k := k) (by rw [hL.out]; exact hlt)
        subst ha
        have HMEM : Hid (zs.getD k 0 ∈ zs) := in_at.2 ⟨k, by rw [hL.out]; exact hlt, rfl⟩
        have hok := HOK.out _ (HE2.out.src _ HMEM.out)
        have hlk := HRW.out.map.look_ok hok
        have his := HRW.out.is (zs.getD k 0)
        have HKN : Hid (LedS s (zs.getD k 0) → ∀ j, j < k + 1 → LedS s (zs.getD j 0)) := fun q j hj => by
          by_cases e : j = k
          · rw [e]; exact q
          · exact HK.out j (by omega)
        have HBAD : Hid (¬ LedS s (zs.getD k 0) → R = false) := fun q => by rw [← HR.out]; exact leads_not HE2.out HMEM.out q
        obtain ⟨x, hx⟩ : ∃ x, Hid (zs.getD k 0 = x) := ⟨_, rfl⟩
        rw [hx.out] at hc hlk his HKN HBAD
        have HIS : Hid ((p x).isSome = (s.at_ x).isSome) := his
        clear hok his
        cases q : p x with
        | some g =>
          rw [q] at hlk
          simp only [ptrV, Option.isSome_some] at hlk
          have HN : Hid (∀ j, j < k + 1 → LedS s (zs.getD j 0)) := HKN.out (Or.inr (by rw [← HIS.out, q]; rfl))
          clear q
          go_wp2
          go_round
          case rel => exact ⟨k + 1, by omega, by go_num, HN⟩
          case measure => simp [intOf]; omega
        | none =>
          rw [q] at hlk
          simp only [ptrV, Option.isSome_none] at hlk
          by_cases hm : x = -1
          · have HN : Hid (∀ j, j < k + 1 → LedS s (zs.getD j 0)) := HKN.out (Or.inl hm)
            subst hm
            clear q
            go_wp2
            go_round
            case rel => exact ⟨k + 1, by omega, by go_num, HN⟩
            case measure => simp [intOf]; omega
          · have HF : Hid (R = false) := HBAD.out (fun r => by
              rcases r with r | r
              · exact hm r
              · rw [← HIS.out, q] at r; cases r)
            have d0 : (x == -1) = false := by simpa using hm
            have d1 : (x != -1) = true := by simpa using hm
            have d2 : decide (x = -1) = false := decide_eq_false hm
            clear q
            go_wp2
            go_ret
            exact ⟨by rw [HF.out]; rfl, HB.out⟩
    case more =>
      intro x c kl y1 y2 w3 cnt1 hkey hlk hv hat hrg1 hlt hg1 hs1 hen
      obtain ⟨x', e1, rfl, hw⟩ := Go.Maps.keyOf_int_inv Try.underlying3 hkey
      cases e1
      rw [ptrElem_mk] at hv
      have hy := Prod.mk.inj (Option.some.inj hv)
      obtain ⟨rfl, rfl⟩ := hy
      have hh := Maps.has_true_of_atKey hat
      rw [HRep.out.has x hw] at hh
      obtain ⟨g, eg⟩ := Option.isSome_iff_exists.1 hh
      have ec : c = some g := by
        have q := hat (.lit (ptrL none))
        rw [HRep.out.get x hw g eg] at q
        exact (ptrL_inj q).symm
      subst ec
      simp only [ptrV] at hen
      have HB3 : Hid (Below W.heap.size W w3) := HB.out.grown hg1 HB.out.size (fun j hj => by cases hj; exact HR1.out)
      obtain ⟨o, eo, hrow⟩ := (h.out.kept HB3.out).obj x g eg
      have O3 : Hid (Own w3 W.heap.size v zs) := by
        show World.ownsRow _ _ _ _ _ _ _
        exact World.ownsRow.kept HO.out (row := some r1) hg1 (by
          cases q : v.ownBlock with
          | none => exact Or.inl rfl
          | some j => exact Or.inr (by simpa using HNB.out j q))
      have HE3 : Hid (EndsS s (fun z => left z && !z.sameKey (.int .i64 x)) (zs ++ [o.2.1, o.2.2])) := HE.out.next eo hw
      have HRow : Hid (w3.rowIs g 75 3 (rowF [.bool o.1, .int .i64 o.2.1, .int .i64 o.2.2])) := hrow
      have HRg1 : Hid (w3.ranges Try.prog 3 ptrElem mp r1 n D (fun z => left z && !z.sameKey (.int .i64 x)) cnt1) := hrg1
      have HLt : Hid (cnt1 < cnt) := hlt
      have HCnt : Hid (wr.rangeLeft mp r1 = cnt) := hrg.out.left_eq
      have hsz3 : r1 < w3.heap.size := by rw [hs1]; exact HSR.out
      have hWs : W.heap.size ≤ w3.heap.size := HB3.out.size
      have hgl := hrow.lt
      generalize o.2.1 = l0 at HE3 HRow
      generalize o.2.2 = l1 at HE3 HRow
      generalize o.1 = z0 at HRow
      have hzl : zs.length ≤ 3000 := by have := HC.out; omega
      clear hkey hlk hv hat hrg1 hlt hg1 hs1 hrow eo eg hh hrg HO HE
      go_wp2_with (first
        | (at_builtin; refine wpList_append_own_at _ rfl _ _ 23 rfl W.heap.size 3 i0 (.int .i64 0) 1 8 Try.underlying23 hi hz0 hz1 hz2 rfl (by decide) _ zs.length (zs.map (Value.int .i64)) rfl O3.out ⟨g, 1, none⟩ 2 2 [.int .i64 l0, .int .i64 l1] rfl rfl (two_news HRow.out) (two_one _ _) (by unfold maxLen; omega) (by omega) hWs ?_))
      intro v5 w5 hown hgrow _ hob
      have O5 : Hid (Own w5 W.heap.size v5 (zs ++ [l0, l1])) := by
        show World.ownsRow _ _ _ _ _ _ _
        have q := hown
        rw [show (zs ++ [l0, l1]).length = zs.length + 2 by simp, List.map_append]
        exact q
      have HNV : Hid (∀ j, v.ownBlock = some j → W.heap.size ≤ j) := fun j hj => (World.ownsRow.lt O3.out j hj).1
      have B5 : Hid (Below W.heap.size W w5) := HB3.out.grown hgrow hWs (fun j hj => HNV.out j hj)
      have RG5 : Hid (w5.ranges Try.prog 3 ptrElem mp r1 n D (fun z => left z && !z.sameKey (.int .i64 x)) cnt1) := HRg1.out.kept hgrow (fun e => by have := HNV.out mp e.symm; have := HML.out; omega) (fun e => HNB.out r1 e.symm rfl)
      have NB5 : Hid (∀ j, v5.ownBlock = some j → j ≠ r1) := fun j hj => by
        rcases hob with q | q
        · rw [q] at hj; exact HNB.out j hj
        · rw [q] at hj; cases hj; omega
      have SR5 : Hid (r1 < w5.heap.size) := Nat.lt_of_lt_of_le hsz3 hgrow.size
      have C5 : Hid ((zs ++ [l0, l1]).length + 2 * cnt1 ≤ 6 + 2 * n) := by
        show _ ≤ _
        rw [List.length_append]
        have q1 := HC.out
        have q2 := HLt.out
        show zs.length + 2 + 2 * cnt1 ≤ 6 + 2 * n
        omega
      clear hown hgrow hob
      go_wp2
      go_roundw
      case rel => exact ⟨v5, _, _, cnt1, rfl, RG5, HE3, O5, B5, C5, NB5, SR5⟩
      case measure =>
        rw [HCnt.out, RG5.out.left_eq]
        exact HLt.out
end Go.Proofs.Ythomonidconmcaa.walks
