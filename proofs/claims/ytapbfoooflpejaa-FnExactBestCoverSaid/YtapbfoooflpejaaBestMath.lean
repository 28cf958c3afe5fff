/-
  The least costs of covers, told from the back: what one round makes of those behind it; none are greater than the trees are.
-/
import Derived.Test.YtapbfoooflpejaaTreeMath
import Derived.Test.YtapbfoooflpejaaCoverMath
namespace Go.Proofs.Ytapbfoooflpejaa.math
open Go.Proofs.Ytapbfoooflpejaa.walks
set_option linter.unusedVariables false

/-- A pattern and its costs at each place; costs 0: there is no cover. -/
abbrev Bs := Nat → Nat × Int
def updB (s : Bs) (a : Nat) (p : Nat × Int) : Bs := fun i => if i = a then p else s i
theorem updB_same (s : Bs) (a : Nat) (p : Nat × Int) : updB s a p a = p := if_pos rfl
theorem updB_other (s : Bs) {a i : Nat} (p : Nat × Int) (h : i ≠ a) : updB s a p i = s i := if_neg h
/-- The costs of holes on top of others; none where one has no cover. -/
def sumW (s : Bs) : List Nat → Int → Option Int
  | [], c => some c
  | h :: hs, c => if (s h).2 = 0 then none else sumW s hs (c + (s h).2)
def costB (t : List Int) (f : Nat → Pv) (s : Bs) (k a : Nat) : Option Int := (fitL t (f k).zs a).bind fun hs => sumW s hs (f k).c
def takeB (s : Bs) (a k : Nat) (o : Option Int) : Bs := match o with
  | none => s
  | some c => if (s a).2 = 0 ∨ c < (s a).2 then updB s a (k, c) else s
def roundB (t : List Int) (f : Nat → Pv) (a : Nat) (s : Bs) : Nat → Bs
  | 0 => s
  | k + 1 => takeB (roundB t f a s k) a k (costB t f (roundB t f a s k) k a)
def foldB (t : List Int) (f : Nat → Pv) (n : Nat) {len : Nat} (pre : List (Fin len)) : Bs := pre.foldl (fun s x => roundB t f x.val s n) (fun _ => (0, 0))
theorem foldB_snoc (t : List Int) (f : Nat → Pv) (n : Nat) {len : Nat} (pre : List (Fin len)) (x : Fin len) : foldB t f n (pre ++ [x]) = roundB t f x.val (foldB t f n pre) n := by simp [foldB]
theorem takeB_none (s : Bs) (a k : Nat) : takeB s a k none = s := rfl
theorem takeB_yes {s : Bs} {a k : Nat} {c : Int} (h : (s a).2 = 0 ∨ c < (s a).2) : takeB s a k (some c) = updB s a (k, c) := if_pos h
theorem takeB_no {s : Bs} {a k : Nat} {c : Int} (h : (s a).2 ≠ 0) (h2 : (s a).2 ≤ c) : takeB s a k (some c) = s := if_neg (by omega)
theorem takeB_other {s : Bs} {a k i : Nat} {o : Option Int} (h : i ≠ a) : takeB s a k o i = s i := by
  unfold takeB
  cases o with
  | none => rfl
  | some c => dsimp only; split
              · exact updB_other _ _ h
              · rfl
theorem roundB_other (t : List Int) (f : Nat → Pv) {a i : Nat} (s : Bs) (h : i ≠ a) : ∀ k, roundB t f a s k i = s i
  | 0 => rfl
  | k + 1 => by simp only [roundB]; rw [takeB_other h, roundB_other t f s h k]
/-- No costs are greater than the tree is. -/
def Bnd (t : List Int) (s : Bs) : Prop := ∀ i, i < t.length → 0 ≤ (s i).2 ∧ (s i).2 ≤ 100 * (szT false t i : Int)
/-- The plain sum. -/
def sumP (s : Bs) : List Nat → Int → Int
  | [], c => c
  | h :: hs, c => sumP s hs (c + (s h).2)
theorem sumP_le {t : List Int} {s : Bs} (hb : Bnd t s) : ∀ (hs : List Nat) (c : Int), (∀ h ∈ hs, h < t.length) → c ≤ sumP s hs c ∧ sumP s hs c ≤ c + 100 * (szS t hs : Int)
  | [], c, _ => by simp [sumP, szS_nil]
  | h :: hs, c, hh => by
    have h1 := sumP_le hb hs (c + (s h).2) (fun x hx => hh x (List.mem_cons_of_mem _ hx))
    have h2 := hb h (hh h (List.mem_cons_self ..))
    simp only [sumP, szS_cons]
    omega
theorem sumW_plain {s : Bs} : ∀ (hs : List Nat) (c : Int), (∀ h ∈ hs, (s h).2 ≠ 0) → sumW s hs c = some (sumP s hs c)
  | [], c, _ => rfl
  | h :: hs, c, hne => by
    simp only [sumW, sumP]
    rw [if_neg (hne h (List.mem_cons_self ..))]
    exact sumW_plain hs _ (fun x hx => hne x (List.mem_cons_of_mem _ hx))
theorem sumW_none {s : Bs} : ∀ (hs : List Nat) (c : Int), (∃ h ∈ hs, (s h).2 = 0) → sumW s hs c = none
  | [], c, ⟨h, hh, _⟩ => by simp at hh
  | x :: hs, c, ⟨h, hh, e⟩ => by
    simp only [sumW]
    by_cases q : (s x).2 = 0
    · rw [if_pos q]
    · rw [if_neg q]
      rcases List.mem_cons.1 hh with rfl | hm
      · exact absurd e q
      · exact sumW_none hs _ ⟨h, hm, e⟩
theorem sumW_some {s : Bs} : ∀ (hs : List Nat) (c c' : Int), sumW s hs c = some c' → ∀ h ∈ hs, (s h).2 ≠ 0
  | [], c, c', _, h, hh => by simp at hh
  | x :: hs, c, c', e, h, hh => by
    simp only [sumW] at e
    by_cases q : (s x).2 = 0
    · rw [if_pos q] at e; cases e
    · rw [if_neg q] at e
      rcases List.mem_cons.1 hh with rfl | hm
      · exact q
      · exact sumW_some hs _ _ e h hm
theorem costB_bound {t : List Int} {f : Nat → Pv} {n k a : Nat} {s : Bs} {c : Int} (ht : wholeB false t = true) (hl : t.length ≤ 40) (hg : GoodPs f n) (hk : k < n) (ha : a < t.length) (hb : Bnd t s) (h : costB t f s k a = some c) : 1 ≤ c ∧ c ≤ 100 * (szT false t a : Int) ∧ ∃ hs, fitL t (f k).zs a = some hs ∧ c = sumP s hs (f k).c ∧ ∀ x ∈ hs, (s x).2 ≠ 0 := by
  obtain ⟨g1, g2, g3, g4, g5⟩ := hg k hk
  unfold costB at h
  cases hf : fitL t (f k).zs a with
  | none => rw [hf] at h; cases h
  | some hs =>
    rw [hf] at h
    simp only [Option.bind_some] at h
    have hin := fit_behind ht g3 ha g2 hf
    have hlt : ∀ x ∈ hs, x < t.length := fun x hx => (hin x hx).2.2
    have hsz := fit_less ht g3 ha g2 hf
    have hsa := (sz_le (whole_each ht ha) (Nat.le_of_lt ha)).2
    have hne := sumW_some _ _ _ h
    rw [sumW_plain hs _ hne] at h
    have hle := sumP_le hb hs (f k).c hlt
    cases h
    exact ⟨by omega, by omega, hs, rfl, rfl, hne⟩
theorem takeB_bnd {t : List Int} {s : Bs} {a k : Nat} {o : Option Int} (hb : Bnd t s) (ha : a < t.length) (h : ∀ c, o = some c → 0 ≤ c ∧ c ≤ 100 * (szT false t a : Int)) : Bnd t (takeB s a k o) := by
  unfold takeB
  cases o with
  | none => exact hb
  | some c =>
    dsimp only
    split
    · intro i hi
      by_cases e : i = a
      · subst e; rw [updB_same]; exact h c rfl
      · rw [updB_other _ _ e]; exact hb i hi
    · exact hb
theorem roundB_bnd {t : List Int} {f : Nat → Pv} {n a : Nat} {s : Bs} (ht : wholeB false t = true) (hl : t.length ≤ 40) (hg : GoodPs f n) (ha : a < t.length) (hb : Bnd t s) : ∀ k, k ≤ n → Bnd t (roundB t f a s k)
  | 0, _ => hb
  | k + 1, hk => by
    have ih := roundB_bnd ht hl hg ha hb k (by omega)
    simp only [roundB]
    exact takeB_bnd ih ha (fun c hc => by have := costB_bound ht hl hg (by omega) ha ih hc; omega)
theorem foldB_bnd {t : List Int} {f : Nat → Pv} {n len : Nat} (hlen : t.length = len) (ht : wholeB false t = true) (hl : t.length ≤ 40) (hg : GoodPs f n) (pre : List (Fin len)) : Bnd t (foldB t f n pre) := by
  have aux : ∀ (l : List (Fin len)) (s : Bs), Bnd t s → Bnd t (l.foldl (fun s x => roundB t f x.val s n) s) := by
    intro l
    induction l with
    | nil => intro s hs; exact hs
    | cons x l ih => intro s hs; exact ih _ (roundB_bnd ht hl hg (by rw [hlen]; exact x.isLt) hs n (Nat.le_refl _))
  exact aux pre _ (fun i hi => by simp; omega)
end Go.Proofs.Ytapbfoooflpejaa.math
