/-
  What the program's isNotedWell answers, in whatever order the set and the map give what they hold.
-/
import Derived.Test.YthomonidconmcaaProg
import Derived.Test.YthomonidconmcaaInts
import Derived.Test.YthomonidconmcaaDeepRow
import Derived.Test.YthomonidconmcaaPtrMap
import Derived.Test.YthomonidconmcaaHeapAdd
import Derived.Test.YthomonidconmcaaHeapRun
import Derived.Test.YthomonidconmcaaHasIn
import Derived.OwnWalk
import Derived.Maps.RangeWalk
import Derived.Deep.OwnRows
import Derived.Deep.DeepCutAuto
import Derived.WalkKit
import Derived.WalkSpells
import Derived.Below
import Derived.Handy
namespace Go.Proofs.Ythomonidconmcaa.walks
open Go.RowKit Go.Proofs.Ythomonidconmcaa.ints Go.Proofs.Ythomonidconmcaa.deep
set_option linter.unusedVariables false
set_option maxRecDepth 100000

def NotedS (s : Hst) : Prop := (∀ x, okZ x → s.nt x = true → ∃ o, s.at_ x = some o ∧ o.1 = true) ∧ ∀ y o, s.at_ y = some o → o.1 = true → (yngS s o.2.1 || yngS s o.2.2) = true → s.nt y = true
noncomputable instance (s : Hst) : Decidable (NotedS s) := Classical.propDecidable _
noncomputable def notedS (s : Hst) : Bool := decide (NotedS s)
def yngF (rp : Nat) : Value := .func (.func 69) #[.pointer (some ⟨rp, 0, none⟩)] #[]
def fstY (s : Hst) (l0 l1 : Int) : Int := if yngS s l0 = true then 0 else if yngS s l1 = true then 1 else -1
set_option maxHeartbeats 4000000 in
theorem impl_indexf (B rp mp sp n m g : Nat) (p : Int → Option Nat) (s : Hst) (z : Bool) (l0 l1 : Int) (W : World) (h : Hid (RunAt W B rp mp sp n m p s)) (h0 : Hid (okZ l0)) (h1 : Hid (okZ l1)) (hr : Hid (W.rowIs g 75 3 (rowF [.bool z, .int .i64 l0, .int .i64 l1]))) :
    Calls Try.prog 78 #[.slice (some ⟨g, 1, none⟩) 2 2, .func (.func 69) #[.pointer (some ⟨rp, 0, none⟩)] #[]] W fun e W' => e = .returned (.int .i64 (fstY s l0 l1)) ∧ W' = W := by
  have c1 : W.cell? ⟨g, 1, none⟩ = some (.int .i64 l0) := hr.out.cell (i := 1) (by decide)
  have c2 : W.cell? ⟨g, 2, none⟩ = some (.int .i64 l1) := hr.out.cell (i := 2) (by decide)
  have hy0 := impl_young B rp mp sp n m p s l0 W h h0
  have hy1 := impl_young B rp mp sp n m p s l1 W h h1
  obtain ⟨R, HR⟩ : ∃ R, Hid (fstY s l0 l1 = R) := ⟨_, rfl⟩
  rw [HR.out]
  go_enter Try.func78, Try.ntmps78
  go_wp2
  go_loop [8] (fun vi => ∃ k : Nat, k ≤ 2 ∧ vi = .int .i64 (k : Int) ∧ Hid (0 < k → yngS s l0 = false) ∧ Hid (1 < k → yngS s l1 = false)) (fun vi => 2 - (intOf vi).toNat)
  case atStart => exact ⟨0, by omega, rfl, fun q => by omega, fun q => by omega⟩
  case round =>
    obtain ⟨k, hk, rfl, K0, K1⟩ := hrel
    rcases (show k = 0 ∨ k = 1 ∨ k = 2 by omega) with r | r | r
    · subst r
      cases q : yngS s l0
      · rw [q] at hy0
        have N0 : Hid (0 < 1 → yngS s l0 = false) := fun _ => q
        have N1 : Hid (1 < 1 → yngS s l1 = false) := fun r => by omega
        go_wp2_with fail
        refine hy0.mono ?_
        rintro e w' ⟨rfl, hw⟩
        rw [hw]
        clear hw w'
        go_wp2
        go_round
        case rel => exact ⟨1, by omega, by go_num, (by first | exact N0 | exact fun _ => trivial), (by first | exact N1 | exact fun _ => trivial)⟩
        case measure => simp [intOf]
      · rw [q] at hy0
        have HE : Hid (R = 0) := by show _ = _; rw [← HR.out]; unfold fstY; rw [if_pos q]
        go_wp2_with fail
        refine hy0.mono ?_
        rintro e w' ⟨rfl, hw⟩
        rw [hw]
        clear hw w'
        go_wp2
        go_ret
        exact ⟨by rw [HE.out]; rfl, rfl⟩
    · subst r
      have q0 := K0.out (by omega)
      cases q : yngS s l1
      · rw [q] at hy1
        have N0 : Hid (0 < 2 → yngS s l0 = false) := fun _ => q0
        have N1 : Hid (1 < 2 → yngS s l1 = false) := fun _ => q
        go_wp2_with fail
        refine hy1.mono ?_
        rintro e w' ⟨rfl, hw⟩
        rw [hw]
        clear hw w'
        go_wp2
        go_round
        case rel => exact ⟨2, by omega, by go_num, (by first | exact N0 | exact fun _ => trivial), (by first | exact N1 | exact fun _ => trivial)⟩
        case measure => simp [intOf]
      · rw [q] at hy1
        have HE : Hid (R = 1) := by show _ = _; rw [← HR.out]; unfold fstY; rw [if_neg (by rw [q0]; simp), if_pos q]
        go_wp2_with fail
        refine hy1.mono ?_
        rintro e w' ⟨rfl, hw⟩
        rw [hw]
        clear hw w'
        go_wp2
        go_ret
        exact ⟨by rw [HE.out]; rfl, rfl⟩
    · subst r
      have HE : Hid (R = -1) := by show _ = _; rw [← HR.out]; unfold fstY; rw [if_neg (by rw [K0.out (by omega)]; simp), if_neg (by rw [K1.out (by omega)]; simp)]
      go_wp2
      go_ret
      exact ⟨by rw [HE.out]; rfl, rfl⟩
theorem impl_containsf (B rp mp sp n m g : Nat) (p : Int → Option Nat) (s : Hst) (z : Bool) (l0 l1 : Int) (W : World) (h : Hid (RunAt W B rp mp sp n m p s)) (h0 : Hid (okZ l0)) (h1 : Hid (okZ l1)) (hr : Hid (W.rowIs g 75 3 (rowF [.bool z, .int .i64 l0, .int .i64 l1]))) :
    Calls Try.prog 68 #[.slice (some ⟨g, 1, none⟩) 2 2, .func (.func 69) #[.pointer (some ⟨rp, 0, none⟩)] #[]] W fun e W' => e = .returned (.bool (yngS s l0 || yngS s l1)) ∧ W' = W := by
  have hc := impl_indexf B rp mp sp n m g p s z l0 l1 W h h0 h1 hr
  obtain ⟨R, HR⟩ : ∃ R, Hid (fstY s l0 l1 = R) := ⟨_, rfl⟩
  have HB : Hid ((yngS s l0 || yngS s l1) = decide (R ≥ 0)) := by
    show _ = _
    rw [← HR.out]
    unfold fstY
    cases yngS s l0 <;> cases yngS s l1 <;> rfl
  rw [HR.out] at hc
  rw [HB.out]
  go_enter Try.func68, Try.ntmps68
  go_wp2_with fail
  refine hc.mono ?_
  rintro e w' ⟨rfl, hw⟩
  rw [hw]
  clear hw w' hc
  go_wp2
  go_ret
  exact ⟨rfl, rfl⟩
/-- Those that have come out of the set are Old ones that are there. -/
def NotesAt (s : Hst) (D : DataW Unit) (sp r m : Nat) (w : World) : Prop := ∃ (left : Lit → Bool) (cnt : Nat), w.ranges Try.prog 3 (unitElem (H := Unit)) sp r m D left cnt ∧ ∀ x, okZ x → s.nt x = true → left (.int .i64 x) = false → ∃ o, s.at_ x = some o ∧ o.1 = true
/-- The objects that have come out of the map lead to young ones only where they are noted. -/
def OldsAt (s : Hst) (D : DataW Unit) (mp r n : Nat) (w : World) : Prop := ∃ (left : Lit → Bool) (cnt : Nat), w.ranges Try.prog 3 ptrElem mp r n D left cnt ∧ ∀ y o, s.at_ y = some o → left (.int .i64 y) = false → o.1 = true → (yngS s o.2.1 || yngS s o.2.2) = true → s.nt y = true
set_option maxHeartbeats 8000000 in
theorem impl_noted (B rp mp sp n m : Nat) (p : Int → Option Nat) (s : Hst) (W : World) (h : Hid (RunAt W B rp mp sp n m p s)) (hl : Hid (∀ y o, s.at_ y = some o → okZ o.2.1 ∧ okZ o.2.2)) :
    Calls Try.prog 55 #[.pointer (some ⟨rp, 0, none⟩)] W fun e W' => e = .returned (.bool (notedS s)) ∧ Below W.heap.size W W' := by
  obtain ⟨R, HR⟩ : ∃ R, Hid (notedS s = R) := ⟨_, rfl⟩
  rw [HR.out]
  obtain ⟨D, hD, hRep⟩ := h.out.set
  have HRep : Hid (∀ x, okZ x → Maps.has D (.int .i64 x) = s.nt x) := hRep
  have HOM : Hid (W.ownsMap Try.prog 3 (unitElem (H := Unit)) sp m D) := hD
  clear hD hRep
  have r0 : W.cell? ⟨rp, 7, none⟩ = some (.map (some sp)) := h.out.row.cell (i := 7) (by decide)
  have rl := h.out.row.lt
  go_enter Try.func55, Try.ntmps55
  go_wp2_with (at_range; refine wpList_range_own _ rfl _ 68 rfl 3 86 keyedZ Try.underlying68 (unitElem (H := Unit)) sp m D rfl HOM.out ?_; intro w2 hrg0 hg0 hs0)
  go_frame
  have HB2 : Hid (Below W.heap.size W w2) := ⟨hg0.os, hg0.tape, hg0.output, hg0.size, fun k hk => hg0.block k hk (by simp)⟩
  have HRG : Hid (w2.ranges Try.prog 3 (unitElem (H := Unit)) sp W.heap.size m D (Maps.has D) (Maps.size D)) := hrg0
  clear hrg0 hg0 hs0 r0 rl HOM
  go_loopw [] (fun wr => Hid (NotesAt s D sp W.heap.size m wr) ∧ Hid (Below W.heap.size W wr)) (fun wr => wr.rangeLeft sp W.heap.size)
  case atStart => exact ⟨⟨_, _, HRG.out, fun x hx h1 h2 => by rw [HRep.out x hx, h1] at h2; cases h2⟩, HB2⟩
  case round =>
    obtain ⟨HNA, HB⟩ := hrel
    obtain ⟨left, cnt, hrg0, hE0⟩ := HNA.out
    have hrg : Hid (wr.ranges Try.prog 3 (unitElem (H := Unit)) sp W.heap.size m D left cnt) := hrg0
    have HE : Hid (∀ x, okZ x → s.nt x = true → left (.int .i64 x) = false → ∃ o, s.at_ x = some o ∧ o.1 = true) := hE0
    clear hrg0 hE0 HNA
    go_wp2_with (at_next; refine wpList_next_ranges (α := Int) (β := Unit) _ rfl _ rfl 3 keyedZ (unitElem (H := Unit)) (Value.int .i64) (fun _ => .agg #[]) (fun key kl h => by obtain ⟨x, e, _⟩ := Go.Maps.keyOf_int_inv Try.underlying3 h; exact ⟨x, e⟩) (fun v y h => by obtain ⟨e, _⟩ := unitElem_inv h; exact ⟨(), e⟩) sp W.heap.size m D left cnt rfl hrg.out ?done ?more)
    case done =>
      intro _ hl0
      have HE2 : Hid (∀ x, okZ x → s.nt x = true → ∃ o, s.at_ x = some o ∧ o.1 = true) := fun x hx h1 => HE.out x hx h1 (hl0 _)
      clear hl0 hrg HE
      have HRW : Hid (RunAt wr B rp mp sp n m p s) := h.out.kept HB.out
      obtain ⟨E, hE, hRep2⟩ := HRW.out.map
      have HRep2 : Hid (PtrRep E p) := hRep2
      have HOM : Hid (wr.ownsMap Try.prog 3 ptrElem mp n E) := hE
      clear hE hRep2
      have r0 : wr.cell? ⟨rp, 0, none⟩ = some (.map (some mp)) := HRW.out.row.cell (i := 0) (by decide)
      have rl := HRW.out.row.lt
      obtain ⟨wo, hwo⟩ : ∃ wo, wo = wr := ⟨_, rfl⟩
      subst hwo
      have hWo := HB.out.size
      go_wp2_with (at_range; refine wpList_range_own _ rfl _ 66 rfl 3 72 keyedZ Try.underlying66 ptrElem mp n E rfl HOM.out ?_; intro w4 hrg0 hg0 hs0)
      go_frame
      have HB4 : Hid (Below W.heap.size W w4) := HB.out.trans ⟨hg0.os, hg0.tape, hg0.output, hg0.size, fun k hk => hg0.block k (by omega) (by simp)⟩
      have HRG : Hid (w4.ranges Try.prog 3 ptrElem mp wo.heap.size n E (Maps.has E) (Maps.size E)) := hrg0
      obtain ⟨r1, hr1⟩ : ∃ r1, Hid (wo.heap.size = r1) := ⟨_, rfl⟩
      rw [hr1.out] at HRG hWo ⊢
      clear hrg0 hg0 hs0 r0 rl HOM HRW
      go_loopw [] (fun wr => Hid (OldsAt s E mp r1 n wr) ∧ Hid (Below W.heap.size W wr)) (fun wr => wr.rangeLeft mp r1)
      case atStart => exact ⟨⟨_, _, HRG.out, fun y o e h2 => by
        obtain ⟨g, eg, _, hok⟩ := h.out.some e
        rw [HRep2.out.has y hok, eg] at h2
        cases h2⟩, HB4⟩
      case round =>
        obtain ⟨HNA, HBr⟩ := hrel
        obtain ⟨left, cnt, hrg0, hE0⟩ := HNA.out
        have hrg : Hid (wr.ranges Try.prog 3 ptrElem mp r1 n E left cnt) := hrg0
        have HE : Hid (∀ y o, s.at_ y = some o → left (.int .i64 y) = false → o.1 = true → (yngS s o.2.1 || yngS s o.2.2) = true → s.nt y = true) := hE0
        clear hrg0 hE0 HNA
        go_wp2_with (at_next; refine wpList_next_ranges (α := Int) (β := Option Nat) _ rfl _ rfl 3 keyedZ ptrElem (Value.int .i64) ptrV (fun key kl h => by obtain ⟨x, e, _⟩ := Go.Maps.keyOf_int_inv Try.underlying3 h; exact ⟨x, e⟩) (fun v y h => by obtain ⟨o, e, _⟩ := ptrElem_inv h; exact ⟨o, e⟩) mp r1 n E left cnt rfl hrg.out ?done2 ?more2)
        case done2 =>
          intro _ hl0
          have HT : Hid (R = true) := by
            show _ = _
            rw [← HR.out]
            exact decide_eq_true ⟨HE2.out, fun y o e h1 h2 => HE.out y o e (hl0 _) h1 h2⟩
          clear hl0 hrg HE
          go_wp2
          go_ret
          exact ⟨by rw [HT.out]; rfl, HBr.out⟩
        case more2 =>
          intro x c kl y1 y2 w3 cnt1 hkey hlk hv hat hrg1 hlt hg1 hs1 hen
          obtain ⟨x', e1, rfl, hw⟩ := Go.Maps.keyOf_int_inv Try.underlying3 hkey
          cases e1
          rw [ptrElem_mk] at hv
          have hy := Prod.mk.inj (Option.some.inj hv)
          obtain ⟨rfl, rfl⟩ := hy
          have hh := Maps.has_true_of_atKey hat
          rw [HRep2.out.has x hw] at hh
          obtain ⟨g, eg⟩ := Option.isSome_iff_exists.1 hh
          have ec : c = some g := by
            have q := hat (.lit (ptrL none))
            rw [HRep2.out.get x hw g eg] at q
            exact (ptrL_inj q).symm
          subst ec
          simp only [ptrV] at hen
          have HB3 : Hid (Below W.heap.size W w3) := HBr.out.grown hg1 HBr.out.size (fun j hj => by cases hj; exact hWo)
          have HR3 : Hid (RunAt w3 B rp mp sp n m p s) := h.out.kept HB3.out
          obtain ⟨o, eo, hrow⟩ := HR3.out.obj x g eg
          have HRg1 : Hid (w3.ranges Try.prog 3 ptrElem mp r1 n E (fun z => left z && !z.sameKey (.int .i64 x)) cnt1) := hrg1
          have HLt : Hid (cnt1 < cnt) := hlt
          have HCnt : Hid (wr.rangeLeft mp r1 = cnt) := hrg.out.left_eq
          have HOKX : Hid (okZ x) := hw
          have HRow : Hid (w3.rowIs g 75 3 (rowF [.bool o.1, .int .i64 o.2.1, .int .i64 o.2.2])) := hrow
          have HOL : Hid (okZ o.2.1 ∧ okZ o.2.2) := hl.out x o eo
          have HBAD : Hid (o.1 = true → (yngS s o.2.1 || yngS s o.2.2) = true → s.nt x = false → R = false) := fun q1 q2 q3 => by
            rw [← HR.out]
            refine decide_eq_false (fun r => ?_)
            rw [r.2 x o eo q1 q2] at q3; cases q3
          have HNX : Hid ((o.1 = true → (yngS s o.2.1 || yngS s o.2.2) = true → s.nt x = true) → ∀ y o, s.at_ y = some o → (fun z : Lit => left z && !z.sameKey (.int .i64 x)) (.int .i64 y) = false → o.1 = true → (yngS s o.2.1 || yngS s o.2.2) = true → s.nt y = true) := fun q y o' eo' h1 h2 h3 => by
            by_cases e : y = x
            · subst e
              rw [eo] at eo'
              cases eo'
              exact q h2 h3
            · have hs : (Lit.int .i64 y).sameKey (.int .i64 x) = false := Maps.sameKey_ne (fun r => e (by cases r; rfl))
              simp only [hs, Bool.not_false, Bool.and_true] at h1
              exact HE.out y o' eo' h1 h2 h3
          have g0 : w3.cell? ⟨g, 0, none⟩ = some (.bool o.1) := hrow.cell (i := 0) (by decide)
          have gl := hrow.lt
          have r7 : w3.cell? ⟨rp, 7, none⟩ = some (.map (some sp)) := HR3.out.row.cell (i := 7) (by decide)
          have rl := HR3.out.row.lt
          clear hkey hlk hv hat hrg1 hlt hg1 hs1 hh hw hrg HE hrow eg eo
          generalize o.1 = z at g0 HRow HBAD HNX
          generalize o.2.1 = l0 at HRow HOL HBAD HNX
          generalize o.2.2 = l1 at HRow HOL HBAD HNX
          cases z
          · have HN : Hid (OldsAt s E mp r1 n w3) := ⟨_, cnt1, HRg1.out, HNX.out (fun q => by cases q)⟩
            go_wp2
            go_roundw
            case rel => exact ⟨HN, HB3⟩
            case measure =>
              rw [HCnt.out, HRg1.out.left_eq]
              exact HLt.out
          have hcf := impl_containsf B rp mp sp n m g p s true l0 l1 w3 HR3 HOL.out.1 HOL.out.2 HRow
          cases hy : (yngS s l0 || yngS s l1)
          · have HN : Hid (OldsAt s E mp r1 n w3) := ⟨_, cnt1, HRg1.out, HNX.out (fun _ q => by rw [hy] at q; cases q)⟩
            rw [hy] at hcf
            clear hy HBAD HNX
            go_wp2_with fail
            refine hcf.mono ?_
            rintro e w' ⟨rfl, hw⟩
            rw [hw]
            clear hw w' hcf
            go_wp2
            go_roundw
            case rel => exact ⟨HN, HB3⟩
            case measure =>
              rw [HCnt.out, HRg1.out.left_eq]
              exact HLt.out
          rw [hy] at hcf HBAD
          have HNX2 : Hid (s.nt x = true → ∀ y o, s.at_ y = some o → (fun z : Lit => left z && !z.sameKey (.int .i64 x)) (.int .i64 y) = false → o.1 = true → (yngS s o.2.1 || yngS s o.2.2) = true → s.nt y = true) := fun q => HNX.out (fun _ _ => q)
          clear hy HNX
          have hha := impl_hasZ sp m x s.nt w3 HOKX HR3.out.set
          cases hnt : s.nt x
          · have HF : Hid (R = false) := HBAD.out rfl rfl hnt
            rw [hnt] at hha
            clear hnt HBAD HNX2
            go_wp2_with fail
            refine hcf.mono ?_
            rintro e w' ⟨rfl, hw⟩
            rw [hw]
            clear hw w' hcf
            go_wp2_with fail
            refine hha.mono ?_
            rintro e w' ⟨rfl, ob, hw⟩
            have HB4 : Hid (Below W.heap.size W w') := by show Below _ _ _; rw [hw]; exact HB3.out.alloc HB3.out.size _
            clear hw hha
            go_wp2
            go_ret
            exact ⟨by rw [HF.out]; rfl, HB4.out⟩
          · have HNX3 := HNX2.out hnt
            rw [hnt] at hha
            clear hnt HBAD HNX2
            go_wp2_with fail
            refine hcf.mono ?_
            rintro e w' ⟨rfl, hw⟩
            rw [hw]
            clear hw w' hcf
            go_wp2_with fail
            refine hha.mono ?_
            rintro e w' ⟨rfl, ob, hw⟩
            have HB4 : Hid (Below W.heap.size W w') := by show Below _ _ _; rw [hw]; exact HB3.out.alloc HB3.out.size _
            have RG4 : Hid (w'.ranges Try.prog 3 ptrElem mp r1 n E (fun z => left z && !z.sameKey (.int .i64 x)) cnt1) := by show World.ranges _ _ _ _ _ _ _ _ _ _; rw [hw]; exact HRg1.out.alloc _
            have HN : Hid (OldsAt s E mp r1 n w') := ⟨_, cnt1, RG4.out, HNX3⟩
            clear hw hha HNX3
            go_wp2
            go_roundw
            case rel => exact ⟨HN, HB4⟩
            case measure =>
              rw [HCnt.out, RG4.out.left_eq]
              exact HLt.out
    case more =>
      intro x kl y1 y2 w3 cnt1 hkey hlk hv hat hrg1 hlt hg1 hs1 hen
      obtain ⟨x', e1, rfl, hw⟩ := Go.Maps.keyOf_int_inv Try.underlying3 hkey
      cases e1
      have hh := Maps.has_true_of_atKey hat
      rw [HRep.out x hw] at hh
      have HNT : Hid (s.nt x = true) := hh
      have HB3 : Hid (Below W.heap.size W w3) := HB.out.grown hg1 HB.out.size (fun j hj => by cases hj; exact Nat.le_refl _)
      have HR3 : Hid (RunAt w3 B rp mp sp n m p s) := h.out.kept HB3.out
      have HRg1 : Hid (w3.ranges Try.prog 3 (unitElem (H := Unit)) sp W.heap.size m D (fun z => left z && !z.sameKey (.int .i64 x)) cnt1) := hrg1
      have HLt : Hid (cnt1 < cnt) := hlt
      have HCnt : Hid (wr.rangeLeft sp W.heap.size = cnt) := hrg.out.left_eq
      have HOKX : Hid (okZ x) := hw
      have hlk := HR3.out.map.look_ok hw
      have r0 : w3.cell? ⟨rp, 0, none⟩ = some (.map (some mp)) := HR3.out.row.cell (i := 0) (by decide)
      have rl := HR3.out.row.lt
      have HBAD : Hid ((∀ o, s.at_ x = some o → o.1 = false) → R = false) := fun q => by
        rw [← HR.out]
        refine decide_eq_false (fun r => ?_)
        obtain ⟨o, eo, h1⟩ := r.1 x HOKX.out HNT.out
        rw [q o eo] at h1; cases h1
      have HNX : Hid ((∃ o, s.at_ x = some o ∧ o.1 = true) → ∀ x', okZ x' → s.nt x' = true → (fun z : Lit => left z && !z.sameKey (.int .i64 x)) (.int .i64 x') = false → ∃ o, s.at_ x' = some o ∧ o.1 = true) := fun q x' hx' h1 h2 => by
        by_cases e : x' = x
        · rw [e]; exact q
        · have hs : (Lit.int .i64 x').sameKey (.int .i64 x) = false := Maps.sameKey_ne (fun r => e (by cases r; rfl))
          simp only [hs, Bool.not_false, Bool.and_true] at h2
          exact HE.out x' hx' h1 h2
      clear hkey hv hat hrg1 hlt hg1 hs1 hh hw hrg HE
      cases q : p x with
      | none =>
        rw [q] at hlk
        simp only [ptrV, Option.isSome_none] at hlk
        have HF : Hid (R = false) := HBAD.out (fun o eo => by rw [HR3.out.none x q] at eo; cases eo)
        clear q
        go_wp2
        go_ret
        exact ⟨by rw [HF.out]; rfl, HB3.out⟩
      | some g =>
        obtain ⟨o, eo, hrow⟩ := HR3.out.obj x g q
        rw [q] at hlk
        simp only [ptrV, Option.isSome_some] at hlk
        have g0 : w3.cell? ⟨g, 0, none⟩ = some (.bool o.1) := hrow.cell (i := 0) (by decide)
        have gl := hrow.lt
        clear q hrow
        cases hz : o.1
        · have HF : Hid (R = false) := HBAD.out (fun o' eo' => by rw [eo] at eo'; cases eo'; exact hz)
          rw [hz] at g0
          clear hz eo
          go_wp2
          go_ret
          exact ⟨by rw [HF.out]; rfl, HB3.out⟩
        · have HN : Hid (NotesAt s D sp W.heap.size m w3) := ⟨_, cnt1, HRg1.out, HNX.out ⟨o, eo, hz⟩⟩
          rw [hz] at g0
          clear hz eo
          go_wp2
          go_roundw
          case rel => exact ⟨HN, HB3⟩
          case measure =>
            rw [HCnt.out, HRg1.out.left_eq]
            exact HLt.out
end Go.Proofs.Ythomonidconmcaa.walks
