/-
  What the specification's CodeText answers, at every list of steps: the code's text.
-/
import Derived.Test.YtpgnoikfpogmlaaDoorProg
import Derived.Test.YtpgnoikfpogmlaaDoorMagMath
import Derived.Test.YtpgnoikfpogmlaaDoorCodeMath
import Derived.Test.YtpgnoikfpogmlaaDoorRunMath
import Derived.Test.YtpgnoikfpogmlaaDoorInts
import Derived.Test.YtpgnoikfpogmlaaDoorRecsInstr
import Derived.Test.YtpgnoikfpogmlaaDoorCodeGood
import Derived.Test.YtpgnoikfpogmlaaDoorTextSpec
import Derived.Test.YtpgnoikfpogmlaaDoorTextStep
import Derived.WalkKit
import Derived.WalkSpells
import Derived.Below
import Derived.Handy
namespace Go.Proofs.YtpgnoikfpogmlaaDoor.walks
open Go.RowKit Go.Proofs.YtpgnoikfpogmlaaDoor.math Go.Proofs.YtpgnoikfpogmlaaDoor.ints
set_option linter.unusedVariables false

theorem good_z1 {d a b n : Int} (h : goodI 1 d a b n = true) : a = 0 ∧ b = 0 := by
  rw [goodI_1] at h
  simp only [Bool.and_eq_true, beq_iff_eq] at h
  exact ⟨h.1.1.2, h.1.2⟩
theorem good_z2 {d a b n : Int} (h : goodI 2 d a b n = true) : b = 0 ∧ n = 0 := by
  rw [goodI_2] at h
  simp only [Bool.and_eq_true, beq_iff_eq] at h
  exact ⟨h.1.2, h.2⟩
theorem good_z8 {d a b n : Int} (h : goodI 8 d a b n = true) : d = 0 ∧ b = 0 ∧ n = 0 := by
  rw [goodI_8] at h
  simp only [Bool.and_eq_true, beq_iff_eq] at h
  exact ⟨h.1.1.1, h.1.2, h.2⟩
theorem good_zp {o d a b n : Int} (h1 : o ≠ 1) (h2 : o ≠ 2) (h8 : o ≠ 8) (h : goodI o d a b n = true) : n = 0 := by
  rw [goodI_o o d a b n h1 h2 h8] at h
  simp only [Bool.and_eq_true, beq_iff_eq] at h
  exact h.2
theorem num_size {n : Int} (n0 : 0 ≤ n) (n1 : n ≤ 65535) : (numS n.toNat).size ≤ 5 := numS_len 4 _ (by omega)
theorem spec_text (o d a b n : Int) (W : World) (hg : goodI o d a b n = true) : Calls Tryd.prog 20 #[.agg #[.int .i64 o, .int .i64 d, .int .i64 a, .int .i64 b, .int .i64 n]] W fun e W' => e = .returned (.string (textS o d a b n)) ∧ Below W.heap.size W W' := by
  rcases good_cases hg with ⟨rfl, ⟨d0, d7⟩, n0, n1⟩ | ⟨rfl, ⟨d0, d7⟩, a0, a7⟩ | ⟨rfl, a0, a7⟩ | ⟨⟨o3, o7⟩, ⟨d0, d7⟩, ⟨a0, a7⟩, b0, b7⟩
  · obtain ⟨rfl, rfl⟩ := good_z1 hg
    exact text_1 d n _ W d0 d7 n0 n1 rfl (num_size n0 n1)
  · obtain ⟨rfl, rfl⟩ := good_z2 hg
    exact text_2 d a W d0 d7 a0 a7
  · obtain ⟨rfl, rfl, rfl⟩ := good_z8 hg
    exact text_8 a W a0 a7
  · obtain rfl := good_zp (by omega) (by omega) (by omega) hg
    have e : textS o d a b 0 = letterS d ++ ⟨#[61]⟩ ++ letterS a ++ signS o ++ letterS b := by
      unfold textS
      rw [if_neg (by omega), if_neg (by omega), if_neg (by omega)]
    rw [e]
    exact text_p o d a b W o3 o7 d0 d7 a0 a7 b0 b7
theorem text_size {o d a b n : Int} (hg : goodI o d a b n = true) : (textS o d a b n).size ≤ 8 := by
  rcases good_cases hg with ⟨rfl, _, n0, n1⟩ | ⟨rfl, _⟩ | ⟨rfl, _⟩ | ⟨⟨o3, o7⟩, _⟩
  · have := num_size n0 n1
    show (letterS d ++ ⟨#[61]⟩ ++ numS n.toNat).size ≤ 8
    rw [ByteArray.size_append, ByteArray.size_append, letter_size]
    show 1 + 1 + _ ≤ 8
    omega
  · show (letterS d ++ ⟨#[61]⟩ ++ letterS a).size ≤ 8
    rw [ByteArray.size_append, ByteArray.size_append, letter_size, letter_size]
    decide
  · show (⟨#[33]⟩ ++ letterS a : ByteArray).size ≤ 8
    rw [ByteArray.size_append, letter_size]
    decide
  · have e : textS o d a b n = letterS d ++ ⟨#[61]⟩ ++ letterS a ++ signS o ++ letterS b := by
      unfold textS
      rw [if_neg (by omega), if_neg (by omega), if_neg (by omega)]
    rw [e, ByteArray.size_append, ByteArray.size_append, ByteArray.size_append, ByteArray.size_append, letter_size, letter_size, letter_size, sign_size]
    decide
/-- The text of the first k steps of a flat list. -/
def textAt (zs : List Int) (k : Nat) : ByteArray := textS (zs.getD (k * 5) 0) (zs.getD (k * 5 + 1) 0) (zs.getD (k * 5 + 2) 0) (zs.getD (k * 5 + 3) 0) (zs.getD (k * 5 + 4) 0)
def textTo (zs : List Int) : Nat → ByteArray
  | 0 => ⟨#[]⟩
  | k + 1 => (if 0 < k then textTo zs k ++ ⟨#[59]⟩ else textTo zs k) ++ textAt zs k
theorem textTo_size {zs : List Int} {len : Nat} (hg : ∀ k, k < len → stepB zs k = true) : ∀ k, k ≤ len → (textTo zs k).size ≤ 9 * k
  | 0, _ => Nat.le_refl _
  | k + 1, h => by
    have h1 := textTo_size hg k (by omega)
    have h2 : (textAt zs k).size ≤ 8 := text_size (hg k (by omega))
    simp only [textTo]
    split
    · rw [ByteArray.size_append, ByteArray.size_append]
      show (textTo zs k).size + 1 + _ ≤ _
      omega
    · rw [ByteArray.size_append]
      omega
/-- What CodeText answers. -/
def TextAns (zs : List Int) (len : Nat) (W : World) (e : Ending) (W' : World) : Prop :=
  ((codeB zs len = true ∧ e = .returned (.tuple #[.string (textTo zs len), .bool true])) ∨ (codeB zs len = false ∧ e = .returned (.tuple #[.string ⟨#[]⟩, .bool false]))) ∧ Below W.heap.size W W'
set_option maxHeartbeats 2000000 in
set_option maxRecDepth 100000 in
theorem spec_codetext (a : Option Addr) (len cap : Nat) (zs : List Int) (W : World) (hz : Hid (zs.length = len * 5)) (hlen : len ≤ 1048576) (h : Hid (Ints W a zs)) :
    Calls Tryd.prog 7 #[.slice a len cap] W fun e W' => TextAns zs len W e W' := by
  cases hc : codeB zs len
  · have HC : Hid (codeB zs len = false) := hc
    go_enter Tryd.func7, Tryd.ntmps7
    go_wp2_with (go_at_call 19; refine (spec_code _ _ _ zs _ hz hlen h).mono ?_; rw [hc]; rintro e w1 ⟨rfl, hb⟩; have HB : Hid (Below W.heap.size W w1) := hb; clear hb)
    go_ret2
    exact ⟨Or.inr ⟨HC.out, rfl⟩, HB.out⟩
  have HC : Hid (codeB zs len = true) := hc
  have h30 := (code_out hc).1
  have HG : Hid (∀ k, k < len → stepB zs k = true) := (code_out hc).2
  go_enter Tryd.func7, Tryd.ntmps7
  go_wp2_with (go_at_call 19; refine (spec_code _ _ _ zs _ hz hlen h).mono ?_; rw [hc]; rintro e w1 ⟨rfl, hb⟩; have HB1 : Hid (Below W.heap.size W w1) := hb; clear hb)
  clear hc
  go_loopw [4, 12] (fun vs vi wr => ∃ (k : Nat) (s : ByteArray), k ≤ len ∧ vi = .int .i64 k ∧ vs = .string s ∧ Hid (s = textTo zs k) ∧ Hid (Below W.heap.size W wr)) (fun _ vi _ => len - (intOf vi).toNat)
  case atStart => exact ⟨0, _, Nat.zero_le _, rfl, rfl, rfl, HB1⟩
  case round =>
    obtain ⟨k, s, hk, rfl, rfl, HS, HB⟩ := hrel
    by_cases hlt : k < len
    · obtain ⟨b, o', ha, hb, c0, c1, c2, c3, c4⟩ := Instr_at h.out hz.out HB.out hlt
      subst ha
      have HGk : Hid (stepB zs k = true) := HG.out k hlt
      have hbs := HB.out.size
      have hsz : s.size ≤ 9 * k := by rw [HS.out]; exact textTo_size HG.out k hk
      obtain ⟨st, hst⟩ : ∃ st, textAt zs k = st := ⟨_, rfl⟩
      have HST : Hid (textAt zs k = st) := hst
      have htz : st.size ≤ 8 := by rw [← hst]; exact text_size HGk.out
      clear hst
      by_cases hk0 : 0 < k
      · have q1 := add_str s ⟨#[59]⟩ (by show s.size + 1 ≤ 1000; omega)
        have q2 := add_str (s ++ ⟨#[59]⟩) st (by rw [ByteArray.size_append]; show s.size + 1 + st.size ≤ 1000; omega)
        have HT : Hid (s ++ ⟨#[59]⟩ ++ st = textTo zs (k + 1)) := by
          show _ = _
          simp only [textTo]
          rw [if_pos hk0, ← HS.out, HST.out]
        have hk1 : (0 : Int) < (k : Int) := by omega
        clear hsz htz
        go_wp2_with (go_at_call 20; refine (spec_text _ _ _ _ _ _ HGk.out).mono ?_; rw [show textS _ _ _ _ _ = st from HST.out]; rintro e w' ⟨rfl, hb'⟩; have HB' : Hid (Below W.heap.size W w') := (HB.out.alloc hbs _).trans (hb'.mono (by simp; omega)); clear hb')
        go_roundw
        case rel => exact ⟨k + 1, _, by omega, by go_num, rfl, HT, HB'⟩
        case measure => simp [intOf]; omega
      · have hk1 : (k : Int) ≤ 0 := by omega
        have hk2 : decide ((0 : Int) < (k : Int)) = false := decide_eq_false (by omega)
        have q2 := add_str s st (by show s.size + st.size ≤ 1000; omega)
        have HT : Hid (s ++ st = textTo zs (k + 1)) := by
          show _ = _
          simp only [textTo]
          rw [if_neg hk0, ← HS.out, HST.out]
        clear hsz htz hk0
        go_wp2_with (go_at_call 20; refine (spec_text _ _ _ _ _ _ HGk.out).mono ?_; rw [show textS _ _ _ _ _ = st from HST.out]; rintro e w' ⟨rfl, hb'⟩; have HB' : Hid (Below W.heap.size W w') := (HB.out.alloc hbs _).trans (hb'.mono (by simp; omega)); clear hb')
        go_roundw
        case rel => exact ⟨k + 1, _, by omega, by go_num, rfl, HT, HB'⟩
        case measure => simp [intOf]; omega
    · have HE : Hid (k = len) := by show k = len; omega
      go_wp2
      go_ret2
      exact ⟨Or.inl ⟨HC.out, by rw [← HE.out, ← HS.out]; rfl⟩, HB.out⟩
end Go.Proofs.YtpgnoikfpogmlaaDoor.walks
