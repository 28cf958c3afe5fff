/-
  What the specification's NamesSet answers, at every list of steps.
-/
import Derived.Test.YtfejfbafoaiidaaProg
import Derived.Test.YtfejfbafoaiidaaMagMath
import Derived.Test.YtfejfbafoaiidaaCodeMath
import Derived.Test.YtfejfbafoaiidaaRunMath
import Derived.Test.YtfejfbafoaiidaaNamesMath
import Derived.Test.YtfejfbafoaiidaaInts
import Derived.Test.YtfejfbafoaiidaaOwnInts
import Derived.Test.YtfejfbafoaiidaaRecsInstr
import Derived.Test.YtfejfbafoaiidaaCodeGood
import Derived.Test.YtfejfbafoaiidaaPutSpec
import Derived.WalkKit
import Derived.WalkSpells
import Derived.Below
import Derived.Handy
namespace Go.Proofs.Ytfejfbafoaiidaa.walks
open Go.RowKit Go.Proofs.Ytfejfbafoaiidaa.math Go.Proofs.Ytfejfbafoaiidaa.ints
set_option linter.unusedVariables false

theorem spec_put (v : Value) (zs : List Int) (n : Int) (W : World) (h : LRow W v zs) (hl : zs.length ≤ 1000) : Calls Try.prog 31 #[v, .int .i64 n] W fun e W' => PutAns W (putL zs n) e W' := by
  rcases h with ⟨rfl, rfl⟩ | ⟨b, off, cap, rfl, hc, hb, hx⟩
  · exact put_nil n W
  · exact put_some b off cap zs.length (putK zs n) zs n W rfl hc hl hb rfl hx
theorem rising_congr {f g : Nat → Bool} : ∀ k, (∀ i, i < k → f i = g i) → risingTo f k = risingTo g k
  | 0, _ => rfl
  | k + 1, h => by
    simp only [risingTo]
    rw [rising_congr k (fun i hi => h i (by omega)), h k (by omega)]
/-- What NamesSet and NamesNeeded answer, the names being f's. -/
def NamesAns (c : Bool) (ns : List Int) (W : World) (e : Ending) (W' : World) : Prop :=
  (c = true ∧ (∃ v, e = .returned (.tuple #[v, .bool true]) ∧ LRow W' v ns) ∧ Below W.heap.size W W') ∨ (c = false ∧ e = .returned (.tuple #[.slice none 0 0, .bool false]) ∧ Below W.heap.size W W')
theorem set_out {zs : List Int} {k : Nat} (h : zs.getD (k * 5) 0 = 8) : risingTo (setTo zs (k + 1)) 8 = risingTo (setTo zs k) 8 :=
  rising_congr 8 (fun i _ => by unfold setTo; rw [h]; simp <;> cases k <;> rfl)
theorem set_put {zs : List Int} {k dn : Nat} (h : zs.getD (k * 5) 0 ≠ 8) (hd : zs.getD (k * 5 + 1) 0 = (dn : Int)) (h8 : dn < 8) : putL (risingTo (setTo zs k) 8) (dn : Int) = risingTo (setTo zs (k + 1)) 8 := by
  rw [put_rising _ h8]
  refine rising_congr 8 (fun i _ => ?_)
  have e : (zs.getD (k * 5) 0 == 8) = false := by simpa using h
  show _ = (setTo zs k i || (!(zs.getD (k * 5) 0 == 8) && i == (zs.getD (k * 5 + 1) 0).toNat))
  rw [e, hd]
  simp
theorem good_dst {o d a b n : Int} (h : goodI o d a b n = true) (h8 : o ≠ 8) : 0 ≤ d ∧ d ≤ 7 := by
  rcases good_cases h with ⟨_, e, _⟩ | ⟨_, e, _⟩ | ⟨e, _⟩ | ⟨_, e, _⟩
  · exact e
  · exact e
  · exact absurd e h8
  · exact e
set_option maxHeartbeats 2000000 in
theorem spec_set (a : Option Addr) (len cap : Nat) (zs : List Int) (W : World) (hz : Hid (zs.length = len * 5)) (hlen : len ≤ 1048576) (h : Hid (Ints W a zs)) :
    Calls Try.prog 16 #[.slice a len cap] W fun e W' => NamesAns (codeB zs len) (risingTo (setTo zs len) 8) W e W' := by
  cases hc : codeB zs len
  · go_enter Try.func16, Try.ntmps16
    go_wp2_with (go_at_call 9; refine (spec_code _ _ _ zs _ hz hlen h).mono ?_; rw [hc]; rintro e w1 ⟨rfl, hb⟩; have HB : Hid (Below W.heap.size W w1) := hb; clear hb)
    go_ret2
    exact Or.inr ⟨rfl, rfl, HB.out⟩
  have HG : Hid (∀ k, k < len → stepB zs k = true) := (code_out hc).2
  go_enter Try.func16, Try.ntmps16
  go_wp2_with (go_at_call 9; refine (spec_code _ _ _ zs _ hz hlen h).mono ?_; rw [hc]; rintro e w1 ⟨rfl, hb⟩; have HB1 : Hid (Below W.heap.size W w1) := hb; clear hb)
  clear hc
  go_loopw [4, 12] (fun vt vi wr => ∃ k : Nat, k ≤ len ∧ vi = .int .i64 k ∧ Hid (LRow wr vt (risingTo (setTo zs k) 8)) ∧ Hid (Below W.heap.size W wr)) (fun _ vi _ => len - (intOf vi).toNat)
  case atStart => exact ⟨0, Nat.zero_le _, rfl, Or.inl ⟨rfl, rfl⟩, HB1⟩
  case round =>
    obtain ⟨k, hk, rfl, HL, HB⟩ := hrel
    by_cases hlt : k < len
    · obtain ⟨b, o', ha, hb, c0, c1, c2, c3, c4⟩ := Instr_at h.out hz.out HB.out hlt
      subst ha
      have hg := HG.out k hlt
      unfold stepB at hg
      have hbs := HB.out.size
      by_cases h8 : zs.getD (k * 5) 0 = 8
      · have HE : Hid (risingTo (setTo zs (k + 1)) 8 = risingTo (setTo zs k) 8) := set_out h8
        rw [h8] at c0
        generalize zs.getD (k * 5 + 1) 0 = d at c1
        generalize zs.getD (k * 5 + 2) 0 = x at c2
        generalize zs.getD (k * 5 + 3) 0 = y at c3
        generalize zs.getD (k * 5 + 4) 0 = n at c4
        clear hg h8
        go_wp2
        go_roundw
        case rel => exact ⟨k + 1, by omega, by go_num, by rw [HE.out]; exact HL.out.kept (by go_grown), by show Below _ _ _; exact HB.out.alloc hbs _⟩
        case measure => simp [intOf]; omega
      · obtain ⟨d0, d1⟩ := good_dst hg h8
        obtain ⟨dn, hdn⟩ := Int.eq_ofNat_of_zero_le d0
        have HE : Hid (putL (risingTo (setTo zs k) 8) (dn : Int) = risingTo (setTo zs (k + 1)) 8) := set_put h8 hdn (by omega)
        rw [hdn] at c1
        have s8 : (zs.getD (k * 5) 0 == 8) = false := by simpa using h8
        have s9 : decide (zs.getD (k * 5) 0 = 8) = false := decide_eq_false h8
        clear hg
        generalize zs.getD (k * 5) 0 = o at c0 s8 s9 h8
        generalize zs.getD (k * 5 + 2) 0 = x at c2
        generalize zs.getD (k * 5 + 3) 0 = y at c3
        generalize zs.getD (k * 5 + 4) 0 = n at c4
        clear h8
        go_wp2_with (go_at_call 31; refine (spec_put _ (risingTo (setTo zs k) 8) _ _ (HL.out.kept (by go_grown)) (Nat.le_trans (rising_len _ 8) (by omega))).mono ?_; rw [HE.out]; rintro e w' ⟨v', rfl, hL', hB'⟩; have HL' : Hid (LRow w' v' (risingTo (setTo zs (k + 1)) 8)) := hL'; have HB' : Hid (Below W.heap.size W w') := (HB.out.alloc hbs _).trans (hB'.mono (by simp; omega)); clear hL' hB')
        go_roundw
        case rel => exact ⟨k + 1, by omega, by go_num, HL', HB'⟩
        case measure => simp [intOf]; omega
    · have HE : Hid (k = len) := by show k = len; omega
      go_wp2
      go_ret2
      rw [HE.out] at HL
      exact Or.inl ⟨rfl, ⟨_, rfl, HL.out⟩, HB.out⟩
end Go.Proofs.Ytfejfbafoaiidaa.walks
