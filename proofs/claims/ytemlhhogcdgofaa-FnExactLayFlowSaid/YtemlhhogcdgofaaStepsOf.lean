/-
  What the program's stepsOf and GoodCode answer, at every list of steps: the steps behind their interface, in memory of their own, where all are good and not too many.
-/
import Derived.Test.YtemlhhogcdgofaaProg
import Derived.Test.YtemlhhogcdgofaaMagMath
import Derived.Test.YtemlhhogcdgofaaCodeMath
import Derived.Test.YtemlhhogcdgofaaRunMath
import Derived.Test.YtemlhhogcdgofaaInts
import Derived.Test.YtemlhhogcdgofaaRecsInstr
import Derived.Test.YtemlhhogcdgofaaStepImpl
import Derived.Test.YtemlhhogcdgofaaStepGood
import Derived.WalkKit
import Derived.WalkSpells
import Derived.Below
import Derived.Handy
namespace Go.Proofs.Ytemlhhogcdgofaa.walks
open Go.RowKit Go.Proofs.Ytemlhhogcdgofaa.math Go.Proofs.Ytemlhhogcdgofaa.ints
set_option linter.unusedVariables false

/-- The first k steps of a flat list, behind their interface. -/
def stepAt (zs : List Int) (k : Nat) : Value := stepV (zs.getD (k * 5) 0) (zs.getD (k * 5 + 1) 0) (zs.getD (k * 5 + 2) 0) (zs.getD (k * 5 + 3) 0) (zs.getD (k * 5 + 4) 0)
def stepsTo (zs : List Int) : Nat → List Value
  | 0 => []
  | k + 1 => stepsTo zs k ++ [stepAt zs k]
theorem stepsTo_len (zs : List Int) : ∀ k, (stepsTo zs k).length = k
  | 0 => rfl
  | k + 1 => by simp [stepsTo, stepsTo_len zs k]
theorem stepsTo_at (zs : List Int) : ∀ (n k : Nat), k < n → (stepsTo zs n)[k]? = some (stepAt zs k)
  | 0, k, h => by omega
  | n + 1, k, h => by
    simp only [stepsTo]
    by_cases e : k = n
    · subst e
      rw [List.getElem?_append_right (by rw [stepsTo_len]; exact Nat.le_refl _), stepsTo_len]
      simp
    · rw [List.getElem?_append_left (by rw [stepsTo_len]; omega)]
      exact stepsTo_at zs n k (by omega)
/-- The value v owns the values vs, in a block from B on. -/
def OwnV (w : World) (B : Nat) (v : Value) (vs : List Value) : Prop := w.ownsRow B 80 1 v vs.length vs
/-- The list at an address holds the first len steps. -/
def Steps (w : World) (a : Option Addr) (zs : List Int) (len : Nat) : Prop :=
  len = 0 ∨ ∃ b, a = some ⟨b, 0, none⟩ ∧ b < w.heap.size ∧ ∀ i, i < len → w.cell? ⟨b, i, none⟩ = some (stepAt zs i)
theorem Steps.kept {w w' : World} {a : Option Addr} {zs : List Int} {len : Nat} (h : Steps w a zs len) (hb : Below w.heap.size w w') : Steps w' a zs len := by
  rcases h with h | ⟨b, rfl, hlt, hc⟩
  · exact Or.inl h
  · exact Or.inr ⟨b, rfl, Nat.lt_of_lt_of_le hlt hb.size, fun i hi => (hb.cell (p := ⟨b, i, none⟩) hlt).trans (hc i hi)⟩
theorem OwnV.steps {w : World} {B : Nat} {v : Value} {zs : List Int} {len : Nat} (h : OwnV w B v (stepsTo zs len)) : ∃ a cap, v = .slice a len cap ∧ Steps w a zs len := by
  have h0 := h
  unfold OwnV at h0 h
  rw [stepsTo_len] at h0 h
  rcases h.2 with ⟨rfl, hn⟩ | ⟨g, cap, cur, rfl, hg, hw, _, _, _, hcur⟩
  · exact ⟨none, 0, by rw [hn], Or.inl hn⟩
  · refine ⟨some ⟨g, 0, none⟩, cap, rfl, Or.inr ⟨g, rfl, (h0.lt g rfl).2, fun i hi => ?_⟩⟩
    have := h0.cellAt i (by omega)
    rw [this, stepsTo_at zs len i hi]
theorem stepV_iface (o d a b n : Int) : ∃ t u, stepV o d a b n = .iface t u := by
  unfold stepV
  repeat' split
  all_goals exact ⟨_, _, rfl⟩
theorem step_one (o d a b n : Int) : (stepV o d a b n).oneCell' = true := by
  unfold stepV
  repeat' split
  all_goals rfl
theorem good_range {o d a b n : Int} (h : goodI o d a b n = true) : 1 ≤ o ∧ o ≤ 8 := by
  rcases good_cases h with ⟨e, _⟩ | ⟨e, _⟩ | ⟨e, _⟩ | ⟨e, _⟩
  all_goals omega
theorem stepX_good {o d a b n : Int} (h : goodI o d a b n = true) : stepX o d a b n = stepV o d a b n := by
  rcases good_range h with ⟨h0, h1⟩
  exact stepX_yes h0 h1
theorem step_row : (Try.prog.info? 80).map (fun i => (i.zero, i.size, i.bytes)) = some (some .nilIface, 1, 16) := by kernel_rfl
theorem OwnV.snoc {W wr w1 : World} {B : Nat} {u v' x : Value} {vs : List Value} {o : Obj} (hown : OwnV wr B u vs) (hB : B ≤ wr.heap.size) (hb : Below B W wr)
    (hown' : w1.ownsRow B 80 1 v' (vs.length + 1) (vs ++ [x])) (hgrow : (wr.alloc o).grownBy w1 u.ownBlock) : OwnV w1 B v' (vs ++ [x]) ∧ Below B W w1 ∧ B ≤ w1.heap.size := by
  refine ⟨by unfold OwnV; simpa using hown', (hb.alloc hB o).grown hgrow (by simp; omega) (fun j hj => (World.ownsRow.lt hown j hj).1), ?_⟩
  have := hgrow.size
  simp at this
  omega
theorem OwnV.far {W w w' : World} {B : Nat} {v : Value} {vs : List Value} (h : OwnV w B v vs) (hb : Below w.heap.size w w') : OwnV w' B v vs := by
  refine ⟨h.1, ?_⟩
  rcases h.2 with k | ⟨g, cap, cur, e, hg, hw, r⟩
  · exact Or.inl k
  · exact Or.inr ⟨g, cap, cur, e, hg, (hb.block g (Array.getElem?_eq_some_iff.1 hw).1).trans hw, r⟩

theorem below_call {W wr w' : World} {o : Obj} (h : Below W.heap.size W wr) (hb : Below (wr.alloc o).heap.size (wr.alloc o) w') : Below W.heap.size W w' :=
  (h.alloc h.size o).trans (hb.mono (by have := h.size; simp; omega))
theorem own_call {W wr w' : World} {o : Obj} {v : Value} {vs : List Value} (hO : OwnV wr W.heap.size v vs) (h : Below W.heap.size W wr) (hb : Below (wr.alloc o).heap.size (wr.alloc o) w') : OwnV w' W.heap.size v vs ∧ Below W.heap.size W w' ∧ W.heap.size ≤ w'.heap.size :=
  ⟨OwnV.far (W := W) (World.ownsRow.alloc hO o) hb, below_call h hb, (below_call h hb).size⟩

/-- What stepsOf answers. -/
def StepsAns (zs : List Int) (len : Nat) (W : World) (e : Ending) (W' : World) : Prop :=
  ((codeB zs len = true ∧ ∃ a' cap', e = .returned (.tuple #[.slice a' len cap', .bool true]) ∧ Steps W' a' zs len) ∨ (codeB zs len = false ∧ e = .returned (.tuple #[.slice none 0 0, .bool false]))) ∧ Below W.heap.size W W'

set_option maxHeartbeats 2000000 in
set_option maxRecDepth 100000 in
theorem impl_steps (a : Option Addr) (len cap : Nat) (zs : List Int) (W : World) (hz : Hid (zs.length = len * 5)) (hlen : len ≤ 1048576) (h : Hid (Ints W a zs)) :
    Calls Try.prog 38 #[.slice a len cap] W fun e W' => StepsAns zs len W e W' := by
  by_cases h30 : 30 < len
  · have HE : Hid (codeB zs len = false) := code_long h30
    go_enter Try.func38, Try.ntmps38
    go_wp2
    go_ret2
    exact ⟨Or.inr ⟨HE.out, rfl⟩, Below.refl _ _⟩
  have h30' : (len : Int) ≤ 30 := by omega
  clear h30
  obtain ⟨i0, hi, hz0, hz1, hz2⟩ := info_parts step_row
  go_enter Try.func38, Try.ntmps38
  go_wp2
  go_loopw [4, 14] (fun vt vi wr => ∃ k : Nat, k ≤ len ∧ vi = .int .i64 k ∧ Hid (OwnV wr W.heap.size vt (stepsTo zs k)) ∧ Hid (Below W.heap.size W wr) ∧ Hid (∀ j, j < k → stepB zs j = true)) (fun _ vi _ => len - (intOf vi).toNat)
  case atStart => exact ⟨0, Nat.zero_le _, rfl, World.ownsRow_nil _ _ _ _, Below.refl _ _, fun j hj => by omega⟩
  case round =>
    obtain ⟨k, hk, rfl, HO, HB, HG⟩ := hrel
    by_cases hlt : k < len
    · obtain ⟨b, o', ha, hb, c0, c1, c2, c3, c4⟩ := Instr_at h.out hz.out HB.out hlt
      subst ha
      have HS : Hid (stepB zs k = goodI (zs.getD (k * 5) 0) (zs.getD (k * 5 + 1) 0) (zs.getD (k * 5 + 2) 0) (zs.getD (k * 5 + 3) 0) (zs.getD (k * 5 + 4) 0)) := rfl
      have HT : Hid (stepsTo zs (k + 1) = stepsTo zs k ++ [stepV (zs.getD (k * 5) 0) (zs.getD (k * 5 + 1) 0) (zs.getD (k * 5 + 2) 0) (zs.getD (k * 5 + 3) 0) (zs.getD (k * 5 + 4) 0)]) := rfl
      generalize zs.getD (k * 5) 0 = o at c0 HS HT
      generalize zs.getD (k * 5 + 1) 0 = d at c1 HS HT
      generalize zs.getD (k * 5 + 2) 0 = x at c2 HS HT
      generalize zs.getD (k * 5 + 3) 0 = y at c3 HS HT
      generalize zs.getD (k * 5 + 4) 0 = n at c4 HS HT
      have hbs := HB.out.size
      cases hg : goodI o d x y n
      · have HE : Hid (codeB zs len = false) := code_bad hlt (HS.out.trans hg)
        go_wp2_with (go_at_call 50; refine (impl_good _ _ _ _ _ _).mono ?_; rw [hg]; rintro e w' ⟨rfl, hb'⟩; have HB' : Hid (Below W.heap.size W w') := below_call HB.out hb'; clear hb')
        go_ret2
        exact ⟨Or.inr ⟨HE.out, rfl⟩, HB'.out⟩
      · have HG' : Hid (∀ j, j < k + 1 → stepB zs j = true) := by
          show ∀ j, j < k + 1 → _
          intro j hj
          by_cases e : j = k
          · rw [e, HS.out]; exact hg
          · exact HG.out j (by omega)
        obtain ⟨tt, uu, hsv⟩ := stepV_iface o d x y n
        have HV : Hid (stepX o d x y n = .iface tt uu) := (stepX_good hg).trans hsv
        have HT' : Hid (stepsTo zs (k + 1) = stepsTo zs k ++ [.iface tt uu]) := by show _ = _; rw [HT.out, hsv]
        have HSL : Hid ((stepsTo zs k).length = k) := stepsTo_len zs k
        clear hsv HT
        go_wp2_with (first
          | (go_at_call 50; refine (impl_good _ _ _ _ _ _).mono ?_; rw [hg, HV.out]; rintro e w' ⟨rfl, hb'⟩; obtain ⟨q0, q1, q2⟩ := own_call HO.out HB.out hb'; have HO' : Hid (OwnV w' W.heap.size _ (stepsTo zs k)) := q0; have HB' : Hid (Below W.heap.size W w') := q1; have hw' : W.heap.size ≤ w'.heap.size := q2; clear hb' q0 q1 q2)
          | (at_builtin; refine wpList_append_own _ rfl _ _ 51 rfl W.heap.size 80 i0 .nilIface 1 16 Try.underlying51 hi hz0 hz1 hz2 rfl (by decide) _ _ _ rfl (World.ownsRow.alloc HO'.out _) ⟨_, 0, none⟩ 1 1 [.iface tt uu] rfl rfl ?c1 ?c2 ?c3 ?c4 ?c5 ?_)
          | go_in)
        case c1 =>
          intro j u hj
          match j, hj with
          | 0, hj => simp at hj; subst hj; simp [Addr.add]
        case c2 =>
          intro u hu
          simp at hu
          subst hu
          rfl
        case c3 => rw [HSL.out]; unfold maxLen; omega
        case c4 => rw [HSL.out]; omega
        case c5 => simp; omega
        · intro v' w1 hown' hgrow _
          obtain ⟨q0, q1, q2⟩ := OwnV.snoc HO'.out hw' HB'.out hown' hgrow
          have Q0 : Hid (OwnV w1 W.heap.size v' (stepsTo zs k ++ [.iface tt uu])) := q0
          have Q1 : Hid (Below W.heap.size W w1) := q1
          clear hown' hgrow q0 q1 q2
          go_wp2
          go_roundw
          case rel => exact ⟨k + 1, by omega, by go_num, by rw [HT'.out]; exact Q0, Q1, HG'⟩
          case measure => simp [intOf]; omega
    · have HE : Hid (codeB zs len = true) := code_mk (by omega) (fun j hj => HG.out j (by omega))
      have HK : Hid (k = len) := by show k = len; omega
      go_wp2
      go_ret2
      rw [HK.out] at HO
      obtain ⟨a', c', e, hS⟩ := HO.out.steps
      subst e
      exact ⟨Or.inl ⟨HE.out, a', c', rfl, hS⟩, HB.out⟩
end Go.Proofs.Ytemlhhogcdgofaa.walks
