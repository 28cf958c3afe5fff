/-
  The list of steps that the program makes lies in new memory.
-/
import Derived.Test.YtemlhhogcdgofaaStepsOf
import Derived.Test.YtemlhhogcdgofaaProg
import Derived.Test.YtemlhhogcdgofaaMagMath
import Derived.Test.YtemlhhogcdgofaaCodeMath
import Derived.Test.YtemlhhogcdgofaaRunMath
import Derived.Test.YtemlhhogcdgofaaInts
import Derived.Test.YtemlhhogcdgofaaRecsInstr
import Derived.Test.YtemlhhogcdgofaaStepImpl
import Derived.Test.YtemlhhogcdgofaaStepGood
import Derived.WalkKit
import Derived.WalkSpells
import Derived.Below
import Derived.Handy
namespace Go.Proofs.Ytemlhhogcdgofaa.walks
open Go.RowKit Go.Proofs.Ytemlhhogcdgofaa.math Go.Proofs.Ytemlhhogcdgofaa.ints
set_option linter.unusedVariables false

theorem OwnV.steps2 {w : World} {B : Nat} {v : Value} {zs : List Int} {len : Nat} (h : OwnV w B v (stepsTo zs len)) : ∃ a cap, v = .slice a len cap ∧ Steps w a zs len ∧ ∀ b o, a = some ⟨b, o, none⟩ → B ≤ b := by
  have h0 := h
  unfold OwnV at h0 h
  rw [stepsTo_len] at h0 h
  rcases h.2 with ⟨rfl, hn⟩ | ⟨g, cap, cur, rfl, hg, hw, _, _, _, hcur⟩
  · exact ⟨none, 0, by rw [hn], Or.inl hn, fun b o e => by cases e⟩
  · refine ⟨some ⟨g, 0, none⟩, cap, rfl, Or.inr ⟨g, rfl, (h0.lt g rfl).2, fun i hi => ?_⟩, fun b o e => by simp only [Option.some.injEq, Addr.mk.injEq] at e; omega⟩
    have := h0.cellAt i (by omega)
    rw [this, stepsTo_at zs len i hi]
def StepsAns2 (zs : List Int) (len : Nat) (W : World) (e : Ending) (W' : World) : Prop :=
  ((codeB zs len = true ∧ ∃ a' cap', e = .returned (.tuple #[.slice a' len cap', .bool true]) ∧ Steps W' a' zs len ∧ ∀ b o, a' = some ⟨b, o, none⟩ → W.heap.size ≤ b) ∨ (codeB zs len = false ∧ e = .returned (.tuple #[.slice none 0 0, .bool false]))) ∧ Below W.heap.size W W'
set_option maxHeartbeats 2000000 in
set_option maxRecDepth 100000 in
theorem impl_steps2 (a : Option Addr) (len cap : Nat) (zs : List Int) (W : World) (hz : Hid (zs.length = len * 5)) (hlen : len ≤ 1048576) (h : Hid (Ints W a zs)) :
    Calls Try.prog 38 #[.slice a len cap] W fun e W' => StepsAns2 zs len W e W' := by
  by_cases h30 : 30 < len
  · have HE : Hid (codeB zs len = false) := code_long h30
    go_enter Try.func38, Try.ntmps38
    go_wp2
    go_ret2
    exact ⟨Or.inr ⟨HE.out, rfl⟩, Below.refl _ _⟩
  have h30' : (len : Int) ≤ 30 := by omega
  clear h30
  obtain ⟨i0, hi, hz0, hz1, hz2⟩ := info_parts step_row
  go_enter Try.func38, Try.ntmps38
  go_wp2
  go_loopw [4, 14] (fun vt vi wr => ∃ k : Nat, k ≤ len ∧ vi = .int .i64 k ∧ Hid (OwnV wr W.heap.size vt (stepsTo zs k)) ∧ Hid (Below W.heap.size W wr) ∧ Hid (∀ j, j < k → stepB zs j = true)) (fun _ vi _ => len - (intOf vi).toNat)
  case atStart => exact ⟨0, Nat.zero_le _, rfl, World.ownsRow_nil _ _ _ _, Below.refl _ _, fun j hj => by omega⟩
  case round =>
    obtain ⟨k, hk, rfl, HO, HB, HG⟩ := hrel
    by_cases hlt : k < len
    · obtain ⟨b, o', ha, hb, c0, c1, c2, c3, c4⟩ := Instr_at h.out hz.out HB.out hlt
      subst ha
      have HS : Hid (stepB zs k = goodI (zs.getD (k * 5) 0) (zs.getD (k * 5 + 1) 0) (zs.getD (k * 5 + 2) 0) (zs.getD (k * 5 + 3) 0) (zs.getD (k * 5 + 4) 0)) := rfl
      have HT : Hid (stepsTo zs (k + 1) = stepsTo zs k ++ [stepV (zs.getD (k * 5) 0) (zs.getD (k * 5 + 1) 0) (zs.getD (k * 5 + 2) 0) (zs.getD (k * 5 + 3) 0) (zs.getD (k * 5 + 4) 0)]) := rfl
      generalize zs.getD (k * 5) 0 = o at c0 HS HT
      generalize zs.getD (k * 5 + 1) 0 = d at c1 HS HT
      generalize zs.getD (k * 5 + 2) 0 = x at c2 HS HT
      generalize zs.getD (k * 5 + 3) 0 = y at c3 HS HT
      generalize zs.getD (k * 5 + 4) 0 = n at c4 HS HT
      have hbs := HB.out.size
      cases hg : goodI o d x y n
      · have HE : Hid (codeB zs len = false) := code_bad hlt (HS.out.trans hg)
        go_wp2_with (go_at_call 50; refine (impl_good _ _ _ _ _ _).mono ?_; rw [hg]; rintro e w' ⟨rfl, hb'⟩; have HB' : Hid (Below W.heap.size W w') := below_call HB.out hb'; clear hb')
        go_ret2
        exact ⟨Or.inr ⟨HE.out, rfl⟩, HB'.out⟩
      · have HG' : Hid (∀ j, j < k + 1 → stepB zs j = true) := by
          show ∀ j, j < k + 1 → _
          intro j hj
          by_cases e : j = k
          · rw [e, HS.out]; exact hg
          · exact HG.out j (by omega)
        obtain ⟨tt, uu, hsv⟩ := stepV_iface o d x y n
        have HV : Hid (stepX o d x y n = .iface tt uu) := (stepX_good hg).trans hsv
        have HT' : Hid (stepsTo zs (k + 1) = stepsTo zs k ++ [.iface tt uu]) := by show _ = _; rw [HT.out, hsv]
        have HSL : Hid ((stepsTo zs k).length = k) := stepsTo_len zs k
        clear hsv HT
        go_wp2_with (first
          | (go_at_call 50; refine (impl_good _ _ _ _ _ _).mono ?_; rw [hg, HV.out]; rintro e w' ⟨rfl, hb'⟩; obtain ⟨q0, q1, q2⟩ := own_call HO.out HB.out hb'; have HO' : Hid (OwnV w' W.heap.size _ (stepsTo zs k)) := q0; have HB' : Hid (Below W.heap.size W w') := q1; have hw' : W.heap.size ≤ w'.heap.size := q2; clear hb' q0 q1 q2)
          | (at_builtin; refine wpList_append_own _ rfl _ _ 51 rfl W.heap.size 80 i0 .nilIface 1 16 Try.underlying51 hi hz0 hz1 hz2 rfl (by decide) _ _ _ rfl (World.ownsRow.alloc HO'.out _) ⟨_, 0, none⟩ 1 1 [.iface tt uu] rfl rfl ?c1 ?c2 ?c3 ?c4 ?c5 ?_)
          | go_in)
        case c1 =>
          intro j u hj
          match j, hj with
          | 0, hj => simp at hj; subst hj; simp [Addr.add]
        case c2 =>
          intro u hu
          simp at hu
          subst hu
          rfl
        case c3 => rw [HSL.out]; unfold maxLen; omega
        case c4 => rw [HSL.out]; omega
        case c5 => simp; omega
        · intro v' w1 hown' hgrow _
          obtain ⟨q0, q1, q2⟩ := OwnV.snoc HO'.out hw' HB'.out hown' hgrow
          have Q0 : Hid (OwnV w1 W.heap.size v' (stepsTo zs k ++ [.iface tt uu])) := q0
          have Q1 : Hid (Below W.heap.size W w1) := q1
          clear hown' hgrow q0 q1 q2
          go_wp2
          go_roundw
          case rel => exact ⟨k + 1, by omega, by go_num, by rw [HT'.out]; exact Q0, Q1, HG'⟩
          case measure => simp [intOf]; omega
    · have HE : Hid (codeB zs len = true) := code_mk (by omega) (fun j hj => HG.out j (by omega))
      have HK : Hid (k = len) := by show k = len; omega
      go_wp2
      go_ret2
      rw [HK.out] at HO
      obtain ⟨a', c', e, hS, hN⟩ := HO.out.steps2
      subst e
      exact ⟨Or.inl ⟨HE.out, a', c', rfl, hS, hN⟩, HB.out⟩
end Go.Proofs.Ytemlhhogcdgofaa.walks
