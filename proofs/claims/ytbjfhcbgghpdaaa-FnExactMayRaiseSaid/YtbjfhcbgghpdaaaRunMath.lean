/-
  Plain facts on running straight code: what a step of two words comes to, what each step does to the words and to what is told: no Go program in sight.
-/
import Derived.Test.YtbjfhcbgghpdaaaMath
import Derived.Test.YtbjfhcbgghpdaaaMagMath
import Derived.Test.YtbjfhcbgghpdaaaCodeMath
namespace Go.Proofs.Ytbjfhcbgghpdaaa.math
open Go

/-- A step of two words. -/
def doV (op a b : Int) : Int := if op = 3 then (a + b) % 65536 else if op = 4 then (a - b) % 65536 else if op = 5 then a * b % 65536 else if op = 6 then (if a < b then 1 else 0) else (if a = b then 1 else 0)
theorem do_bd {op a b : Int} : 0 ≤ doV op a b ∧ doV op a b ≤ 65535 := by
  unfold doV
  repeat' split
  all_goals omega
theorem mul_word {a b : Int} (h0 : 0 ≤ a) (h1 : a ≤ 65535) (h2 : 0 ≤ b) (h3 : b ≤ 65535) : 0 ≤ a * b ∧ a * b ≤ 4294836225 := by
  have k1 := Int.mul_nonneg h0 h2
  have k2 := Int.mul_nonneg (show 0 ≤ 65535 - a by omega) h2
  rw [Int.sub_mul] at k2
  omega
/-- The words and what is told behind one step of these five numbers. -/
def stepW (ws : List Int) (o d a b n : Int) : List Int := if o = 8 then ws else ws.set d.toNat (if o = 1 then n else if o = 2 then ws.getD a.toNat 0 else doV o (ws.getD a.toNat 0) (ws.getD b.toNat 0))
def toldBy (ws : List Int) (o a : Int) : List Int := if o = 8 then [ws.getD a.toNat 0] else []
/-- .. and behind the first k steps of a flat list. -/
def runW (zs ws : List Int) : Nat → List Int
  | 0 => ws
  | k + 1 => stepW (runW zs ws k) (zs.getD (k * 5) 0) (zs.getD (k * 5 + 1) 0) (zs.getD (k * 5 + 2) 0) (zs.getD (k * 5 + 3) 0) (zs.getD (k * 5 + 4) 0)
def toldTo (zs ws : List Int) : Nat → List Int
  | 0 => []
  | k + 1 => toldTo zs ws k ++ toldBy (runW zs ws k) (zs.getD (k * 5) 0) (zs.getD (k * 5 + 2) 0)
/-- Eight words. -/
def wordsB (ws : List Int) : Bool := decide (ws.length = 8 ∧ ∀ i, i < ws.length → inR (ws.getD i 0) 0 65535 = true)
theorem words_out {ws : List Int} (h : wordsB ws = true) : ws.length = 8 ∧ ∀ i, i < ws.length → inR (ws.getD i 0) 0 65535 = true := of_decide_eq_true h
theorem words_mk {ws : List Int} (h : ws.length = 8) (g : ∀ i, i < ws.length → inR (ws.getD i 0) 0 65535 = true) : wordsB ws = true := decide_eq_true ⟨h, g⟩
theorem words_no {ws : List Int} (h : ws.length ≠ 8) : wordsB ws = false := decide_eq_false (fun ⟨k, _⟩ => h k)
theorem words_bad {ws : List Int} {i : Nat} (hi : i < ws.length) (h : inR (ws.getD i 0) 0 65535 = false) : wordsB ws = false := decide_eq_false (fun ⟨_, g⟩ => by rw [g i hi] at h; cases h)
theorem set_words {ws : List Int} {j : Nat} {x : Int} (h : wordsB ws = true) (hx : inR x 0 65535 = true) : wordsB (ws.set j x) = true := by
  obtain ⟨h0, h1⟩ := words_out h
  refine words_mk (by simpa using h0) ?_
  intro i hi
  simp only [List.length_set] at hi
  by_cases e : j = i
  · subst e
    simp [List.getD, List.getElem?_set_self hi, hx]
  · have : (ws.set j x).getD i 0 = ws.getD i 0 := by simp [List.getD, List.getElem?_set_ne e]
    rw [this]; exact h1 i hi
theorem word_at {ws : List Int} (h : wordsB ws = true) {i : Nat} (hi : i < 8) : 0 ≤ ws.getD i 0 ∧ ws.getD i 0 ≤ 65535 := inR_out ((words_out h).2 i (by rw [(words_out h).1]; exact hi))
/-- What a good step's numbers are. -/
theorem good_cases {o d a b n : Int} (h : goodI o d a b n = true) :
    (o = 1 ∧ (0 ≤ d ∧ d ≤ 7) ∧ (0 ≤ n ∧ n ≤ 65535)) ∨ (o = 2 ∧ (0 ≤ d ∧ d ≤ 7) ∧ (0 ≤ a ∧ a ≤ 7)) ∨ (o = 8 ∧ (0 ≤ a ∧ a ≤ 7)) ∨ ((3 ≤ o ∧ o ≤ 7) ∧ (0 ≤ d ∧ d ≤ 7) ∧ (0 ≤ a ∧ a ≤ 7) ∧ (0 ≤ b ∧ b ≤ 7)) := by
  by_cases h1 : o = 1
  · subst h1
    rw [goodI_1] at h
    simp only [Bool.and_eq_true] at h
    exact Or.inl ⟨rfl, inR_out h.1.1.1, inR_out h.2⟩
  by_cases h2 : o = 2
  · subst h2
    rw [goodI_2] at h
    simp only [Bool.and_eq_true] at h
    exact Or.inr (Or.inl ⟨rfl, inR_out h.1.1.1, inR_out h.1.1.2⟩)
  by_cases h8 : o = 8
  · subst h8
    rw [goodI_8] at h
    simp only [Bool.and_eq_true] at h
    exact Or.inr (Or.inr (Or.inl ⟨rfl, inR_out h.1.1.2⟩))
  rw [goodI_o o d a b n h1 h2 h8] at h
  simp only [Bool.and_eq_true] at h
  exact Or.inr (Or.inr (Or.inr ⟨inR_out h.1.1.1.1, inR_out h.1.1.1.2, inR_out h.1.1.2, inR_out h.1.2⟩))
theorem step_words {ws : List Int} {o d a b n : Int} (h : wordsB ws = true) (g : goodI o d a b n = true) : wordsB (stepW ws o d a b n) = true := by
  unfold stepW
  by_cases h8 : o = 8
  · rw [if_pos h8]; exact h
  · rw [if_neg h8]
    refine set_words h ?_
    rcases good_cases g with ⟨e, _, hn⟩ | ⟨e, _, ha⟩ | ⟨e, _⟩ | ⟨e, _, ha, hb⟩
    · rw [if_pos e]; exact inR_mk hn.1 hn.2
    · rw [if_neg (by omega), if_pos e]
      obtain ⟨k0, k1⟩ := word_at h (i := a.toNat) (by omega)
      exact inR_mk k0 k1
    · exact (h8 e).elim
    · rw [if_neg (by omega), if_neg (by omega)]
      exact inR_mk do_bd.1 do_bd.2
theorem run_words {zs ws : List Int} {len : Nat} (h : wordsB ws = true) (g : ∀ k, k < len → stepB zs k = true) : ∀ k, k ≤ len → wordsB (runW zs ws k) = true
  | 0, _ => h
  | k + 1, hk => step_words (run_words h g k (by omega)) (g k (by omega))
theorem told_len (zs ws : List Int) : ∀ k, (toldTo zs ws k).length ≤ k
  | 0 => Nat.le_refl _
  | k + 1 => by
    have := told_len zs ws k
    simp only [toldTo, List.length_append, toldBy]
    split <;> simp <;> omega
end Go.Proofs.Ytbjfhcbgghpdaaa.math
