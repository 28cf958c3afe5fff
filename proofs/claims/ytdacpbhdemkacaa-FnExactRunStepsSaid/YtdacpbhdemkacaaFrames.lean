/-
  Which frames are good: what GoodFrame and the tests of words answer, of the specification and of the program.
-/
import Derived.Test.YtdacpbhdemkacaaProg
import Derived.Test.YtdacpbhdemkacaaMagMath
import Derived.Test.YtdacpbhdemkacaaStackBase
import Derived.Test.YtdacpbhdemkacaaInts
import Derived.Test.YtdacpbhdemkacaaDeep
import Derived.Test.YtdacpbhdemkacaaDeepRow
import Derived.WalkKit
import Derived.WalkSpells
import Derived.Below
import Derived.Handy
import Derived.Deep.DeepFit
namespace Go.Proofs.Ytdacpbhdemkacaa.walks
open Go.RowKit Go.Proofs.Ytdacpbhdemkacaa.math Go.Proofs.Ytdacpbhdemkacaa.ints Go.Proofs.Ytdacpbhdemkacaa.deep
set_option linter.unusedVariables false
set_option maxRecDepth 100000

def wordsB (zs : List Int) : Bool := decide (∀ k, k < zs.length → inR (zs.getD k 0) 0 65535 = true)
theorem words_yes {zs : List Int} (h : ∀ k, k < zs.length → inR (zs.getD k 0) 0 65535 = true) : wordsB zs = true := decide_eq_true h
theorem words_no {zs : List Int} {k : Nat} (hk : k < zs.length) (h : inR (zs.getD k 0) 0 65535 = false) : wordsB zs = false := decide_eq_false (fun q => by rw [q k hk] at h; cases h)
theorem words_at {zs : List Int} (h : wordsB zs = true) {k : Nat} (hk : k < zs.length) : 0 ≤ zs.getD k 0 ∧ zs.getD k 0 ≤ 65535 := inR_out (of_decide_eq_true h k hk)
def frameB (ls ss ts : List Int) : Bool := decide (ls.length = 3 ∧ wordsB ls = true ∧ ss.length ≤ 4 ∧ wordsB ss = true ∧ ts.length ≤ 100 ∧ wordsB ts = true)
theorem frame_out {ls ss ts : List Int} (h : frameB ls ss ts = true) : ls.length = 3 ∧ wordsB ls = true ∧ ss.length ≤ 4 ∧ wordsB ss = true ∧ ts.length ≤ 100 ∧ wordsB ts = true := of_decide_eq_true h
theorem frame_no {ls ss ts : List Int} (h : ¬ (ls.length = 3 ∧ wordsB ls = true ∧ ss.length ≤ 4 ∧ wordsB ss = true ∧ ts.length ≤ 100 ∧ wordsB ts = true)) : frameB ls ss ts = false := decide_eq_false h
theorem frame_yes {ls ss ts : List Int} (h : ls.length = 3 ∧ wordsB ls = true ∧ ss.length ≤ 4 ∧ wordsB ss = true ∧ ts.length ≤ 100 ∧ wordsB ts = true) : frameB ls ss ts = true := decide_eq_true h

set_option maxHeartbeats 4000000 in
theorem spec_words13 (a : Option Addr) (L cap : Nat) (zs : List Int) (W : World) (HL : Hid (zs.length = L)) (hx : L ≤ 1048576) (h : Hid (Ints W a zs)) :
    Calls Try.prog 36 #[.slice a L cap] W fun e W' => e = .returned (.bool (wordsB zs)) ∧ W' = W := by
  obtain ⟨R, HR⟩ : ∃ R, Hid (wordsB zs = R) := ⟨_, rfl⟩
  rw [HR.out]
  go_enter Try.func36, Try.ntmps36
  go_wp2
  go_loop [7] (fun vj => ∃ j : Nat, j ≤ L ∧ vj = .int .i64 j ∧ Hid (∀ m, m < j → inR (zs.getD m 0) 0 65535 = true)) (fun vj => L - (intOf vj).toNat)
  case atStart => exact ⟨0, Nat.zero_le _, rfl, fun j hj => by omega⟩
  case round =>
    obtain ⟨j, hj, rfl, HM⟩ := hrel
    by_cases hjl : j < L
    rotate_left
    · have HE : Hid (R = true) := by show _ = _; rw [← HR.out]; exact words_yes (fun m hm => HM.out m (by have := HL.out; omega))
      go_wp2
      go_ret
      exact ⟨by rw [HE.out]; rfl, rfl⟩
    obtain ⟨b', o', ha, hc⟩ := h.out.at (Below.refl _ _) (k := j) (by rw [HL.out]; exact hjl)
    subst ha
    have hjI : (j : Int) < (L : Int) := by omega
    obtain ⟨x, HXX⟩ : ∃ x, Hid (zs.getD j 0 = x) := ⟨_, rfl⟩
    rw [HXX.out] at hc
    cases hr : inR x 0 65535
    · have HE : Hid (R = false) := by show _ = _; rw [← HR.out]; exact words_no (k := j) (by rw [HL.out]; exact hjl) (by rw [HXX.out]; exact hr)
      go_wp2_with (go_at_call 50; refine (word_quiet hr _).mono ?_; rintro e w' ⟨rfl, hw⟩; rw [hw]; clear hw w')
      go_ret
      exact ⟨by rw [HE.out]; rfl, rfl⟩
    · have HM' : Hid (∀ m, m < j + 1 → inR (zs.getD m 0) 0 65535 = true) := fun m hm => by
        by_cases e : m = j
        · subst e; rw [HXX.out]; exact hr
        · exact HM.out m (by omega)
      go_wp2_with (go_at_call 50; refine (word_quiet hr _).mono ?_; rintro e w' ⟨rfl, hw⟩; rw [hw]; clear hw w')
      go_round
      case rel => exact ⟨j + 1, by omega, by go_num, HM'⟩
      case measure => simp [intOf]; omega
set_option maxHeartbeats 4000000 in
theorem impl_wordsL (a : Option Addr) (L cap : Nat) (zs : List Int) (W : World) (HL : Hid (zs.length = L)) (hx : L ≤ 1048576) (h : Hid (Ints W a zs)) :
    Calls Try.prog 38 #[.slice a L cap, .int .i64 (L : Int)] W fun e W' => e = .returned (.bool (wordsB zs)) ∧ W' = W := by
  obtain ⟨R, HR⟩ : ∃ R, Hid (wordsB zs = R) := ⟨_, rfl⟩
  rw [HR.out]
  go_enter Try.func38, Try.ntmps38
  go_wp2
  go_loop [13] (fun vj => ∃ j : Nat, j ≤ L ∧ vj = .int .i64 j ∧ Hid (∀ m, m < j → inR (zs.getD m 0) 0 65535 = true)) (fun vj => L - (intOf vj).toNat)
  case atStart => exact ⟨0, Nat.zero_le _, rfl, fun j hj => by omega⟩
  case round =>
    obtain ⟨j, hj, rfl, HM⟩ := hrel
    by_cases hjl : j < L
    rotate_left
    · have HE : Hid (R = true) := by show _ = _; rw [← HR.out]; exact words_yes (fun m hm => HM.out m (by have := HL.out; omega))
      go_wp2
      go_ret
      exact ⟨by rw [HE.out]; rfl, rfl⟩
    obtain ⟨b', o', ha, hc⟩ := h.out.at (Below.refl _ _) (k := j) (by rw [HL.out]; exact hjl)
    subst ha
    have hjI : (j : Int) < (L : Int) := by omega
    obtain ⟨x, HXX⟩ : ∃ x, Hid (zs.getD j 0 = x) := ⟨_, rfl⟩
    rw [HXX.out] at hc
    cases hr : inR x 0 65535
    · have HE : Hid (R = false) := by show _ = _; rw [← HR.out]; exact words_no (k := j) (by rw [HL.out]; exact hjl) (by rw [HXX.out]; exact hr)
      go_wp2_with (go_at_call 48; refine (iword_quiet hr _).mono ?_; rintro e w' ⟨rfl, hw⟩; rw [hw]; clear hw w')
      go_ret
      exact ⟨by rw [HE.out]; rfl, rfl⟩
    · have HM' : Hid (∀ m, m < j + 1 → inR (zs.getD m 0) 0 65535 = true) := fun m hm => by
        by_cases e : m = j
        · subst e; rw [HXX.out]; exact hr
        · exact HM.out m (by omega)
      go_wp2_with (go_at_call 48; refine (iword_quiet hr _).mono ?_; rintro e w' ⟨rfl, hw⟩; rw [hw]; clear hw w')
      go_round
      case rel => exact ⟨j + 1, by omega, by go_num, HM'⟩
      case measure => simp [intOf]; omega
/-- isWords of a list and the number that is asked for. -/
theorem impl_words13 (a : Option Addr) (L cap : Nat) (n : Int) (zs : List Int) (W : World) (HL : Hid (zs.length = L)) (hx : L ≤ 1048576) (h : Hid (Ints W a zs)) (R : Bool) (HR : Hid (((L : Int) = n → wordsB zs = R) ∧ ((L : Int) ≠ n → R = false))) :
    Calls Try.prog 38 #[.slice a L cap, .int .i64 n] W fun e W' => e = .returned (.bool R) ∧ W' = W := by
  by_cases hn : (L : Int) = n
  · rw [← HR.out.1 hn]
    subst hn
    exact impl_wordsL a L cap zs W HL hx h
  · rw [HR.out.2 hn]
    have d2 : decide ((L : Int) = n) = false := decide_eq_false hn
    have d3 : ((L : Int) == n) = false := by simpa using hn
    have d4 : ((L : Int) != n) = true := by simpa using hn
    go_enter Try.func38, Try.ntmps38
    go_wp2
    go_ret
    exact ⟨rfl, rfl⟩
theorem impl_upto (a : Option Addr) (L cap : Nat) (n : Int) (zs : List Int) (W : World) (HL : Hid (zs.length = L)) (hx : L ≤ 1048576) (h : Hid (Ints W a zs)) (R : Bool) (HR : Hid (((L : Int) ≤ n → wordsB zs = R) ∧ (n < (L : Int) → R = false))) :
    Calls Try.prog 39 #[.slice a L cap, .int .i64 n] W fun e W' => e = .returned (.bool R) ∧ W' = W := by
  by_cases hn : (L : Int) ≤ n
  · have d2 : decide ((L : Int) ≤ n) = true := decide_eq_true hn
    have HR' : Hid (wordsB zs = R) := HR.out.1 hn
    go_enter Try.func39, Try.ntmps39
    go_wp2_with (go_at_call 38; refine (impl_wordsL _ _ _ zs _ HL hx h).mono ?_; rw [HR'.out]; rintro e w' ⟨rfl, hw⟩; rw [hw]; clear hw w')
    go_ret
    exact ⟨rfl, rfl⟩
  · have hn' : n < (L : Int) := by omega
    rw [HR.out.2 hn']
    have d2 : decide ((L : Int) ≤ n) = false := decide_eq_false (by omega)
    clear hn
    go_enter Try.func39, Try.ntmps39
    go_wp2
    go_ret
    exact ⟨rfl, rfl⟩

set_option maxHeartbeats 8000000 in
theorem spec_frame (a0 : Option Addr) (l0 c0 : Nat) (a1 : Option Addr) (l1 c1 : Nat) (a2 : Option Addr) (l2 c2 : Nat) (ls ss ts : List Int) (W : World) (H0 : Hid (ls.length = l0)) (H1 : Hid (ss.length = l1)) (H2 : Hid (ts.length = l2)) (x0 : l0 ≤ 1048576) (x1 : l1 ≤ 1048576) (x2 : l2 ≤ 1048576) (I0 : Hid (Ints W a0 ls)) (I1 : Hid (Ints W a1 ss)) (I2 : Hid (Ints W a2 ts)) :
    Calls Try.prog 20 #[.agg #[.slice a0 l0 c0, .slice a1 l1 c1, .slice a2 l2 c2]] W fun e W' => e = .returned (.bool (frameB ls ss ts)) ∧ Below W.heap.size W W' := by
  have HF : Hid (¬ (l0 = 3 ∧ l1 ≤ 4 ∧ l2 ≤ 100 ∧ wordsB ls = true ∧ wordsB ss = true ∧ wordsB ts = true) → frameB ls ss ts = false) := fun q => frame_no (fun r => q (by have := H0.out; have := H1.out; have := H2.out; exact ⟨by omega, by omega, by omega, r.2.1, r.2.2.2.1, r.2.2.2.2.2⟩))
  by_cases q0 : l0 = 3
  rotate_left
  · have HE : Hid (frameB ls ss ts = false) := HF.out (fun r => q0 r.1)
    have lI : (l0 : Int) ≠ 3 := by omega
    have d2 : decide ((l0 : Int) = 3) = false := decide_eq_false lI
    have d3 : ((l0 : Int) == 3) = false := by simpa using lI
    have d5 : decide (l0 = 3) = false := decide_eq_false q0
    have d6 : (l0 == 3) = false := by simpa using q0
    rw [HE.out]
    clear HF
    go_enter Try.func20, Try.ntmps20
    go_wp2
    go_ret
    exact ⟨rfl, by go_grown⟩
  subst q0
  by_cases q1 : l1 ≤ 4
  rotate_left
  · have HE : Hid (frameB ls ss ts = false) := HF.out (fun r => q1 r.2.1)
    have d2 : decide ((l1 : Int) ≤ 4) = false := decide_eq_false (by omega)
    have d3 : decide (l1 ≤ 4) = false := decide_eq_false q1
    have d4 : (4 : Int) < (l1 : Int) := by omega
    rw [HE.out]
    clear HF q1
    go_enter Try.func20, Try.ntmps20
    go_wp2
    go_ret
    exact ⟨rfl, by go_grown⟩
  have e1 : (l1 : Int) ≤ 4 := by omega
  have f1 : decide ((l1 : Int) ≤ 4) = true := decide_eq_true e1
  by_cases q2 : l2 ≤ 100
  rotate_left
  · have HE : Hid (frameB ls ss ts = false) := HF.out (fun r => q2 r.2.2.1)
    have d2 : decide ((l2 : Int) ≤ 100) = false := decide_eq_false (by omega)
    have d3 : decide (l2 ≤ 100) = false := decide_eq_false q2
    have d4 : (100 : Int) < (l2 : Int) := by omega
    rw [HE.out]
    clear HF q2
    go_enter Try.func20, Try.ntmps20
    go_wp2
    go_ret
    exact ⟨rfl, by go_grown⟩
  have e2 : (l2 : Int) ≤ 100 := by omega
  have f2 : decide ((l2 : Int) ≤ 100) = true := decide_eq_true e2
  have HY : Hid (wordsB ls = true → wordsB ss = true → wordsB ts = true → frameB ls ss ts = true) := fun r0 r1 r2 => frame_yes ⟨H0.out, r0, by rw [H1.out]; exact q1, r1, by rw [H2.out]; exact q2, r2⟩
  have C0 : Hid (∀ (V : World), Below W.heap.size W V → Calls Try.prog 36 #[.slice a0 3 c0] V fun e W' => e = .returned (.bool (wordsB ls)) ∧ W' = V) := fun V hV => spec_words13 a0 3 c0 ls V H0 x0 (I0.out.kept hV)
  have C1 : Hid (∀ (V : World), Below W.heap.size W V → Calls Try.prog 36 #[.slice a1 l1 c1] V fun e W' => e = .returned (.bool (wordsB ss)) ∧ W' = V) := fun V hV => spec_words13 a1 l1 c1 ss V H1 x1 (I1.out.kept hV)
  have C2 : Hid (∀ (V : World), Below W.heap.size W V → Calls Try.prog 36 #[.slice a2 l2 c2] V fun e W' => e = .returned (.bool (wordsB ts)) ∧ W' = V) := fun V hV => spec_words13 a2 l2 c2 ts V H2 x2 (I2.out.kept hV)
  clear q1 q2
  cases r0 : wordsB ls
  · have HE : Hid (frameB ls ss ts = false) := HF.out (fun r => by rw [r0] at r; cases r.2.2.2.1)
    rw [r0] at C0
    rw [HE.out]
    clear HF HY r0
    go_enter Try.func20, Try.ntmps20
    go_wp2_with (go_at_call 36; (first | go_fit (C0.out _ ((Below.refl _ _).alloc (Nat.le_refl _) _))); rintro e w' ⟨rfl, hw⟩; rw [hw]; clear hw w')
    go_ret
    exact ⟨rfl, by go_grown⟩
  cases r1 : wordsB ss
  · have HE : Hid (frameB ls ss ts = false) := HF.out (fun r => by rw [r1] at r; cases r.2.2.2.2.1)
    rw [r0] at C0
    rw [r1] at C1
    rw [HE.out]
    clear HF HY r0 r1
    go_enter Try.func20, Try.ntmps20
    go_wp2_with (go_at_call 36; (first | go_fit (C0.out _ ((Below.refl _ _).alloc (Nat.le_refl _) _)) | go_fit (C1.out _ ((Below.refl _ _).alloc (Nat.le_refl _) _))); rintro e w' ⟨rfl, hw⟩; rw [hw]; clear hw w')
    go_ret
    exact ⟨rfl, by go_grown⟩
  obtain ⟨R, HR⟩ : ∃ R, Hid (wordsB ts = R) := ⟨_, rfl⟩
  have HE : Hid (frameB ls ss ts = R) := by
    show _ = _
    cases R
    · exact HF.out (fun r => by rw [HR.out] at r; cases r.2.2.2.2.2)
    · exact HY.out r0 r1 HR.out
  rw [r0] at C0
  rw [r1] at C1
  rw [HR.out] at C2
  rw [HE.out]
  clear HF HY r0 r1
  go_enter Try.func20, Try.ntmps20
  go_wp2_with (go_at_call 36; (first | go_fit (C0.out _ ((Below.refl _ _).alloc (Nat.le_refl _) _)) | go_fit (C1.out _ ((Below.refl _ _).alloc (Nat.le_refl _) _)) | go_fit (C2.out _ ((Below.refl _ _).alloc (Nat.le_refl _) _))); rintro e w' ⟨rfl, hw⟩; rw [hw]; clear hw w')
  go_ret
  exact ⟨rfl, by go_grown⟩
set_option maxHeartbeats 8000000 in
theorem impl_frame (a0 : Option Addr) (l0 c0 : Nat) (a1 : Option Addr) (l1 c1 : Nat) (a2 : Option Addr) (l2 c2 : Nat) (ls ss ts : List Int) (W : World) (H0 : Hid (ls.length = l0)) (H1 : Hid (ss.length = l1)) (H2 : Hid (ts.length = l2)) (x0 : l0 ≤ 1048576) (x1 : l1 ≤ 1048576) (x2 : l2 ≤ 1048576) (I0 : Hid (Ints W a0 ls)) (I1 : Hid (Ints W a1 ss)) (I2 : Hid (Ints W a2 ts)) :
    Calls Try.prog 22 #[.agg #[.slice a0 l0 c0, .slice a1 l1 c1, .slice a2 l2 c2]] W fun e W' => e = .returned (.bool (frameB ls ss ts)) ∧ Below W.heap.size W W' := by
  obtain ⟨R0, HR0⟩ : ∃ R, Hid (((l0 : Int) = 3 → wordsB ls = R) ∧ ((l0 : Int) ≠ 3 → R = false)) := by
    by_cases q : (l0 : Int) = 3
    · exact ⟨wordsB ls, fun _ => rfl, fun r => absurd q r⟩
    · exact ⟨false, fun r => absurd r q, fun _ => rfl⟩
  obtain ⟨R1, HR1⟩ : ∃ R, Hid (((l1 : Int) ≤ 4 → wordsB ss = R) ∧ (4 < (l1 : Int) → R = false)) := by
    by_cases q : (l1 : Int) ≤ 4
    · exact ⟨wordsB ss, fun _ => rfl, fun r => by omega⟩
    · exact ⟨false, fun r => absurd r q, fun _ => rfl⟩
  obtain ⟨R2, HR2⟩ : ∃ R, Hid (((l2 : Int) ≤ 100 → wordsB ts = R) ∧ (100 < (l2 : Int) → R = false)) := by
    by_cases q : (l2 : Int) ≤ 100
    · exact ⟨wordsB ts, fun _ => rfl, fun r => by omega⟩
    · exact ⟨false, fun r => absurd r q, fun _ => rfl⟩
  have HN : Hid (R0 = false ∨ R1 = false ∨ R2 = false → frameB ls ss ts = false) := fun q => frame_no (fun r => by
    obtain ⟨r1, r2, r3, r4, r5, r6⟩ := r
    have h0 := H0.out
    have h1 := H1.out
    have h2 := H2.out
    have s0 := HR0.out.1 (by omega)
    have s1 := HR1.out.1 (by omega)
    have s2 := HR2.out.1 (by omega)
    rw [r2] at s0
    rw [r4] at s1
    rw [r6] at s2
    subst s0 s1 s2
    simp at q)
  have HYS : Hid (R0 = true → R1 = true → R2 = true → frameB ls ss ts = true) := fun s0 s1 s2 => by
    subst s0 s1 s2
    have h0 := H0.out
    have h1 := H1.out
    have h2 := H2.out
    have q0 : (l0 : Int) = 3 := Classical.byContradiction (fun q => by cases HR0.out.2 q)
    have q1 : (l1 : Int) ≤ 4 := Classical.byContradiction (fun q => by cases HR1.out.2 (by omega))
    have q2 : (l2 : Int) ≤ 100 := Classical.byContradiction (fun q => by cases HR2.out.2 (by omega))
    exact frame_yes ⟨by omega, HR0.out.1 q0, by omega, HR1.out.1 q1, by omega, HR2.out.1 q2⟩
  have C0 : Hid (∀ (V : World), Below W.heap.size W V → Calls Try.prog 38 #[.slice a0 l0 c0, .int .i64 3] V fun e W' => e = .returned (.bool R0) ∧ W' = V) := fun V hV => impl_words13 a0 l0 c0 3 ls V H0 x0 (I0.out.kept hV) R0 HR0
  have C1 : Hid (∀ (V : World), Below W.heap.size W V → Calls Try.prog 39 #[.slice a1 l1 c1, .int .i64 4] V fun e W' => e = .returned (.bool R1) ∧ W' = V) := fun V hV => impl_upto a1 l1 c1 4 ss V H1 x1 (I1.out.kept hV) R1 HR1
  have C2 : Hid (∀ (V : World), Below W.heap.size W V → Calls Try.prog 39 #[.slice a2 l2 c2, .int .i64 100] V fun e W' => e = .returned (.bool R2) ∧ W' = V) := fun V hV => impl_upto a2 l2 c2 100 ts V H2 x2 (I2.out.kept hV) R2 HR2
  clear HR0 HR1 HR2
  cases R0
  · have HE : Hid (frameB ls ss ts = false) := HN.out (Or.inl rfl)
    rw [HE.out]
    clear HN HYS
    go_enter Try.func22, Try.ntmps22
    go_wp2_with (go_at_call 38; (go_fit (C0.out _ ((Below.refl _ _).alloc (Nat.le_refl _) _))); rintro e w' ⟨rfl, hw⟩; rw [hw]; clear hw w')
    go_ret
    exact ⟨rfl, by go_grown⟩
  cases R1
  · have HE : Hid (frameB ls ss ts = false) := HN.out (Or.inr (Or.inl rfl))
    rw [HE.out]
    clear HN HYS
    go_enter Try.func22, Try.ntmps22
    go_wp2_with (first
      | (go_at_call 38; (go_fit (C0.out _ ((Below.refl _ _).alloc (Nat.le_refl _) _))); rintro e w' ⟨rfl, hw⟩; rw [hw]; clear hw w')
      | (go_at_call 39; (go_fit (C1.out _ ((Below.refl _ _).alloc (Nat.le_refl _) _))); rintro e w' ⟨rfl, hw⟩; rw [hw]; clear hw w'))
    go_ret
    exact ⟨rfl, by go_grown⟩
  have HE : Hid (frameB ls ss ts = R2) := by
    show _ = _
    cases R2
    · exact HN.out (Or.inr (Or.inr rfl))
    · exact HYS.out rfl rfl rfl
  rw [HE.out]
  clear HN HYS
  go_enter Try.func22, Try.ntmps22
  go_wp2_with (first
    | (go_at_call 38; (go_fit (C0.out _ ((Below.refl _ _).alloc (Nat.le_refl _) _))); rintro e w' ⟨rfl, hw⟩; rw [hw]; clear hw w')
    | (go_at_call 39; (first | go_fit (C1.out _ ((Below.refl _ _).alloc (Nat.le_refl _) _)) | go_fit (C2.out _ ((Below.refl _ _).alloc (Nat.le_refl _) _))); rintro e w' ⟨rfl, hw⟩; rw [hw]; clear hw w'))
  go_ret
  exact ⟨rfl, by go_grown⟩
end Go.Proofs.Ytdacpbhdemkacaa.walks
