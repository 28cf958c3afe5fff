/-
  Plain facts on rings: where one comes by one step after the other, places that come back to themselves, and that two ways of stepping that agree on rings have the same ones: no Go program in sight.
-/
import Derived.Test.YthjcgnldlhjjmabMoveMath
namespace Go.Proofs.Ythjcgnldlhjjmab.math
open Go

/-- n steps from p on. -/
def itS (s : Int → Int) (p : Int) : Nat → Int
  | 0 => p
  | n + 1 => s (itS s p n)
theorem it_add (s : Int → Int) (p : Int) (m : Nat) : ∀ n, itS s p (m + n) = itS s (itS s p m) n
  | 0 => rfl
  | n + 1 => by
    show s (itS s p (m + n)) = s (itS s (itS s p m) n)
    rw [it_add s p m n]
theorem it_mul {s : Int → Int} {p : Int} {N : Nat} (h : itS s p N = p) : ∀ k, itS s p (N * k) = p
  | 0 => rfl
  | k + 1 => by rw [Nat.mul_succ, Nat.add_comm, it_add, h]; exact it_mul h k
def Pl (p : Int) : Prop := 0 ≤ p ∧ p ≤ 9
structure Cl (s : Int → Int) : Prop where
  out : s (-1) = -1
  pl : ∀ p, Pl p → s p = -1 ∨ Pl (s p)
theorem it_out {s : Int → Int} (h : s (-1) = -1) : ∀ n, itS s (-1) n = -1
  | 0 => rfl
  | n + 1 => by
    show s (itS s (-1) n) = -1
    rw [it_out h n]; exact h
theorem it_fix {s : Int → Int} {x : Int} (h : s x = x) : ∀ n, itS s x n = x
  | 0 => rfl
  | n + 1 => by
    show s (itS s x n) = x
    rw [it_fix h n]; exact h
/-- A place of a ring. -/
def OnC (s : Int → Int) (p : Int) : Prop := s p ≠ p ∧ ∃ n, 1 ≤ n ∧ itS s p n = p
theorem far_back {N k : Nat} (h : 1 ≤ N) : ∃ m, N * k = k + m := ⟨N * k - k, by
  have : 1 * k ≤ N * k := Nat.mul_le_mul_right k h
  omega⟩
theorem OnC.pl {s : Int → Int} {p : Int} (c : Cl s) (hp : Pl p) (h : OnC s p) : ∀ k, Pl (itS s p k)
  | 0 => hp
  | k + 1 => by
    rcases c.pl _ (OnC.pl c hp h k) with q | q
    · obtain ⟨_, N, hN, e⟩ := h
      obtain ⟨m, hm⟩ := far_back (k := k + 1) hN
      have e1 := it_mul e (k + 1)
      rw [hm, it_add, show itS s p (k + 1) = -1 from q, it_out c.out] at e1
      unfold Pl at hp; omega
    · exact q
theorem OnC.next {s : Int → Int} {p : Int} (h : OnC s p) (k : Nat) : OnC s (itS s p k) := by
  obtain ⟨h0, N, hN, e⟩ := h
  refine ⟨fun q => ?_, N, hN, ?_⟩
  · obtain ⟨m, hm⟩ := far_back (k := k) hN
    have e1 := it_mul e k
    rw [hm, it_add, it_fix q] at e1
    rw [e1] at q
    exact h0 q
  · rw [← it_add, Nat.add_comm, it_add, e]
theorem pigeon : ∀ (n : Nat) (f : Nat → Nat), (∀ i, i ≤ n → f i < n) → ∃ i j, i < j ∧ j ≤ n ∧ f i = f j
  | 0, f, h => by have := h 0 (Nat.le_refl _); omega
  | n + 1, f, h => by
    by_cases q : ∃ i, i ≤ n ∧ f i = f (n + 1)
    · obtain ⟨i, hi, e⟩ := q
      exact ⟨i, n + 1, by omega, by omega, e⟩
    · have hne : ∀ i, i ≤ n → f i ≠ f (n + 1) := fun i hi e => q ⟨i, hi, e⟩
      obtain ⟨i, j, hij, hj, e⟩ := pigeon n (fun i => if f i < f (n + 1) then f i else f i - 1) (by
        intro i hi
        have h1 := h i (by omega)
        have h2 := h (n + 1) (by omega)
        have h3 := hne i hi
        show (if f i < f (n + 1) then f i else f i - 1) < n
        split <;> omega)
      have h3 := hne i (by omega)
      have h4 := hne j hj
      refine ⟨i, j, hij, by omega, ?_⟩
      replace e : (if f i < f (n + 1) then f i else f i - 1) = (if f j < f (n + 1) then f j else f j - 1) := e
      split at e <;> split at e <;> omega
theorem back_of {s : Int → Int} {p : Int} {N i j : Nat} (hN : 1 ≤ N) (e : itS s p N = p) (hij : i < j) (q : itS s p i = itS s p j) : itS s p (j - i) = p := by
  obtain ⟨m, hm⟩ := far_back (k := i) hN
  have e1 := it_mul e i
  rw [hm] at e1
  have e2 : itS s p (j + m) = p := by rw [it_add, ← q, ← it_add]; exact e1
  have e3 : j + m = (i + m) + (j - i) := by omega
  rw [e3, it_add, e1] at e2
  exact e2
theorem OnC.short {s : Int → Int} {p : Int} (c : Cl s) (hp : Pl p) (h : OnC s p) : ∃ n, 2 ≤ n ∧ n ≤ 10 ∧ itS s p n = p := by
  obtain ⟨i, j, hij, hj, e⟩ := pigeon 10 (fun i => (itS s p i).toNat) (fun i _ => by
    have := h.pl c hp i
    unfold Pl at this
    show (itS s p i).toNat < 10
    omega)
  have hi := h.pl c hp i
  have hj' := h.pl c hp j
  unfold Pl at hi hj'
  have e' : itS s p i = itS s p j := by
    have : (itS s p i).toNat = (itS s p j).toNat := e
    omega
  obtain ⟨N, hN, eN⟩ := h.2
  have e2 := back_of hN eN hij e'
  refine ⟨j - i, ?_, by omega, e2⟩
  by_cases q : j - i = 1
  · rw [q] at e2; exact absurd e2 h.1
  · omega
/-- The first of the first n steps that comes back, 0 for none. -/
def perTo (s : Int → Int) (p : Int) : Nat → Nat
  | 0 => 0
  | n + 1 => if perTo s p n ≠ 0 then perTo s p n else if itS s p (n + 1) = p then n + 1 else 0
theorem per_none {s : Int → Int} {p : Int} : ∀ {n}, perTo s p n = 0 → ∀ k, 1 ≤ k → k ≤ n → itS s p k ≠ p
  | 0, _, k, h1, h2 => by omega
  | n + 1, h, k, h1, h2 => by
    replace h : (if perTo s p n ≠ 0 then perTo s p n else if itS s p (n + 1) = p then n + 1 else 0) = 0 := h
    by_cases q : perTo s p n = 0
    · rw [if_neg (by omega)] at h
      by_cases e : k = n + 1
      · subst e
        intro r
        rw [if_pos r] at h
        omega
      · exact per_none q k h1 (by omega)
    · rw [if_pos q] at h; exact absurd h q
theorem per_out {s : Int → Int} {p : Int} : ∀ {n}, perTo s p n ≠ 0 → 1 ≤ perTo s p n ∧ perTo s p n ≤ n ∧ itS s p (perTo s p n) = p ∧ ∀ k, 1 ≤ k → k < perTo s p n → itS s p k ≠ p
  | 0, h => absurd rfl h
  | n + 1, h => by
    by_cases q : perTo s p n = 0
    · have e1 : perTo s p (n + 1) = if itS s p (n + 1) = p then n + 1 else 0 := by
        show (if perTo s p n ≠ 0 then perTo s p n else _) = _
        rw [if_neg (by omega)]
      by_cases r : itS s p (n + 1) = p
      · rw [if_pos r] at e1
        rw [e1]
        exact ⟨by omega, by omega, r, fun k h1 h2 => per_none q k h1 (by omega)⟩
      · rw [if_neg r] at e1; exact absurd e1 h
    · have e1 : perTo s p (n + 1) = perTo s p n := by
        show (if perTo s p n ≠ 0 then perTo s p n else _) = _
        rw [if_pos q]
      rw [e1]
      obtain ⟨a, b, c, d⟩ := per_out q
      exact ⟨a, by omega, c, d⟩
theorem per_is {s : Int → Int} {p : Int} {m n : Nat} (h1 : 1 ≤ m) (hm : m ≤ n) (e : itS s p m = p) (hl : ∀ k, 1 ≤ k → k < m → itS s p k ≠ p) : perTo s p n = m := by
  by_cases q : perTo s p n = 0
  · exact absurd e (per_none q m h1 hm)
  · obtain ⟨a, b, c, d⟩ := per_out q
    rcases Nat.lt_trichotomy (perTo s p n) m with r | r | r
    · exact absurd c (hl _ a r)
    · exact r
    · exact absurd e (d m h1 r)
/-- c of the numbers f n, f (n - 1) and so on. -/
def downL (f : Nat → Int) (n : Nat) : Nat → List Int
  | 0 => []
  | c + 1 => downL f n c ++ [f (n - c)]
theorem down_len (f : Nat → Int) (n : Nat) : ∀ c, (downL f n c).length = c
  | 0 => rfl
  | c + 1 => by simp [downL, down_len f n c]
theorem down_at (f : Nat → Int) (n : Nat) : ∀ {c j}, j < c → (downL f n c).getD j 0 = f (n - j)
  | 0, j, h => by omega
  | c + 1, j, h => by
    show (downL f n c ++ [f (n - c)]).getD j 0 = f (n - j)
    by_cases e : j = c
    · subst e
      simp [List.getD, down_len]
    · have hj : j < (downL f n c).length := by rw [down_len]; omega
      have := down_at f n (c := c) (j := j) (by omega)
      simp only [List.getD] at this ⊢
      rw [List.getElem?_append_left hj]
      exact this
theorem down_mem {f : Nat → Int} {n : Nat} : ∀ {c x}, x ∈ downL f n c → ∃ j, j < c ∧ x = f (n - j)
  | 0, x, h => by simp [downL] at h
  | c + 1, x, h => by
    have h' : x ∈ downL f n c ++ [f (n - c)] := h
    rcases List.mem_append.1 h' with q | q
    · obtain ⟨j, hj, e⟩ := down_mem q
      exact ⟨j, by omega, e⟩
    · exact ⟨c, by omega, by simpa using q⟩
theorem mem_down {f : Nat → Int} {n : Nat} : ∀ {c} (j : Nat), j < c → f (n - j) ∈ downL f n c
  | 0, j, h => by omega
  | c + 1, j, h => by
    show f (n - j) ∈ downL f n c ++ [f (n - c)]
    by_cases e : j = c
    · subst e; simp
    · exact List.mem_append.2 (Or.inl (mem_down j (by omega)))
/-- The ring of a place, from it on, against the steps. -/
def ringL (s : Int → Int) (p : Int) : List Int := if perTo s p 10 ≤ 1 then [] else p :: downL (itS s p) (perTo s p 10 - 1) (perTo s p 10 - 1)
theorem ring_nil {s : Int → Int} {p : Int} (h : ¬ OnC s p) : ringL s p = [] := by
  unfold ringL
  by_cases q : perTo s p 10 ≤ 1
  · rw [if_pos q]
  · obtain ⟨a, b, c, d⟩ := per_out (s := s) (p := p) (n := 10) (by omega)
    exact absurd ⟨d 1 (by omega) (by omega), _, a, c⟩ h
theorem ring_per {s : Int → Int} {p : Int} (c : Cl s) (hp : Pl p) (h : OnC s p) : 2 ≤ perTo s p 10 ∧ perTo s p 10 ≤ 10 ∧ itS s p (perTo s p 10) = p := by
  obtain ⟨n, h2, h10, e⟩ := h.short c hp
  have q : perTo s p 10 ≠ 0 := fun q => per_none q n (by omega) h10 e
  obtain ⟨a, b, c, d⟩ := per_out q
  refine ⟨?_, b, c⟩
  by_cases r : perTo s p 10 = 1
  · rw [r] at c; exact absurd c h.1
  · omega
theorem ring_on {s : Int → Int} {p : Int} (c : Cl s) (hp : Pl p) (h : OnC s p) : ringL s p = p :: downL (itS s p) (perTo s p 10 - 1) (perTo s p 10 - 1) := by
  unfold ringL
  rw [if_neg (by have := ring_per c hp h; omega)]
theorem ring_len (s : Int → Int) (p : Int) : (ringL s p).length ≤ 10 := by
  unfold ringL
  by_cases q : perTo s p 10 ≤ 1
  · rw [if_pos q]; simp
  · obtain ⟨a, b, _, _⟩ := per_out (s := s) (p := p) (n := 10) (by omega)
    rw [if_neg q]
    simp only [List.length_cons, down_len]
    omega
theorem ring_mem {s : Int → Int} {p x : Int} (c : Cl s) (hp : Pl p) (h : OnC s p) : x ∈ ringL s p ↔ ∃ k, x = itS s p k := by
  rw [ring_on c hp h]
  obtain ⟨h2, h10, e⟩ := ring_per c hp h
  constructor
  · intro q
    rcases List.mem_cons.1 q with q | q
    · exact ⟨0, q⟩
    · obtain ⟨j, _, e⟩ := down_mem q
      exact ⟨_, e⟩
  · rintro ⟨k, rfl⟩
    have hmod : itS s p k = itS s p (k % perTo s p 10) := by
      have : k = perTo s p 10 * (k / perTo s p 10) + k % perTo s p 10 := (Nat.div_add_mod _ _).symm
      conv => lhs; rw [this]
      rw [it_add, it_mul e]
    have hlt : k % perTo s p 10 < perTo s p 10 := Nat.mod_lt _ (by omega)
    rw [hmod]
    generalize k % perTo s p 10 = r at hlt
    by_cases r0 : r = 0
    · subst r0; exact List.mem_cons.2 (Or.inl rfl)
    · refine List.mem_cons.2 (Or.inr ?_)
      have := mem_down (f := itS s p) (n := perTo s p 10 - 1) (c := perTo s p 10 - 1) (perTo s p 10 - 1 - r) (by omega)
      rw [show perTo s p 10 - 1 - (perTo s p 10 - 1 - r) = r by omega] at this
      exact this
/-- Two ways of stepping that agree on the rings of both. -/
def Same (s t : Int → Int) : Prop := ∀ p, Pl p → (OnC s p → t p = s p) ∧ (OnC t p → s p = t p)
theorem Same.symm {s t : Int → Int} (h : Same s t) : Same t s := fun p hp => ⟨(h p hp).2, (h p hp).1⟩
theorem Same.refl (s : Int → Int) : Same s s := fun _ _ => ⟨fun _ => rfl, fun _ => rfl⟩
theorem same_it {s t : Int → Int} {p : Int} (c : Cl s) (h : ∀ p, Pl p → OnC s p → t p = s p) (hp : Pl p) (ho : OnC s p) : ∀ k, itS t p k = itS s p k
  | 0 => rfl
  | k + 1 => by
    show t (itS t p k) = s (itS s p k)
    rw [same_it c h hp ho k]
    exact h _ (ho.pl c hp k) (ho.next k)
theorem same_on {s t : Int → Int} {p : Int} (c : Cl s) (h : ∀ p, Pl p → OnC s p → t p = s p) (hp : Pl p) (ho : OnC s p) : OnC t p := by
  obtain ⟨N, hN, e⟩ := ho.2
  exact ⟨by rw [h p hp ho]; exact ho.1, N, hN, by rw [same_it c h hp ho]; exact e⟩
theorem Same.trans {s t u : Int → Int} (cs : Cl s) (cu : Cl u) (h : Same s t) (g : Same t u) : Same s u := by
  intro p hp
  refine ⟨fun ho => ?_, fun ho => ?_⟩
  · have := same_on cs (fun p hp => (h p hp).1) hp ho
    rw [(g p hp).1 this, (h p hp).1 ho]
  · have := same_on cu (fun p hp => (g p hp).2) hp ho
    rw [(h p hp).2 this, (g p hp).2 ho]
theorem per_congr {s t : Int → Int} {p : Int} (e : ∀ k, itS s p k = itS t p k) : ∀ n, perTo s p n = perTo t p n
  | 0 => rfl
  | n + 1 => by
    show (if perTo s p n ≠ 0 then perTo s p n else if itS s p (n + 1) = p then n + 1 else 0) = (if perTo t p n ≠ 0 then perTo t p n else if itS t p (n + 1) = p then n + 1 else 0)
    rw [per_congr e n, e (n + 1)]
theorem ring_congr {s t : Int → Int} {p : Int} (e : ∀ k, itS s p k = itS t p k) : ringL s p = ringL t p := by
  unfold ringL
  rw [per_congr e 10, show itS s p = itS t p from funext e]
theorem same_ring {s t : Int → Int} {p : Int} (cs : Cl s) (ct : Cl t) (h : Same s t) (hp : Pl p) : ringL s p = ringL t p := by
  by_cases ho : OnC s p
  · exact ring_congr (fun k => (same_it cs (fun p hp => (h p hp).1) hp ho k).symm)
  · have hn : ¬ OnC t p := fun q => ho (same_on ct (fun p hp => (h p hp).2) hp q)
    rw [ring_nil ho, ring_nil hn]
/-- Whether a place is the least of a ring. -/
def leastR (s : Int → Int) (p : Int) : Bool := decide (ringL s p ≠ []) && (ringL s p).all (fun x => decide (p ≤ x))
/-- The rings of the first n places. -/
def ringsTo (s : Int → Int) : Nat → List (List Int)
  | 0 => []
  | n + 1 => if leastR s (n : Int) = true then ringsTo s n ++ [ringL s (n : Int)] else ringsTo s n
theorem rings_congr {s t : Int → Int} (h : ∀ p, Pl p → ringL s p = ringL t p) : ∀ n, n ≤ 10 → ringsTo s n = ringsTo t n
  | 0, _ => rfl
  | n + 1, hn => by
    have e := h (n : Int) (by unfold Pl; omega)
    show (if leastR s (n : Int) = true then ringsTo s n ++ [ringL s (n : Int)] else ringsTo s n) = (if leastR t (n : Int) = true then ringsTo t n ++ [ringL t (n : Int)] else ringsTo t n)
    rw [rings_congr h n (by omega), e]
    unfold leastR
    rw [e]
theorem same_rings {s t : Int → Int} (cs : Cl s) (ct : Cl t) (h : Same s t) : ringsTo s 10 = ringsTo t 10 := rings_congr (fun p hp => same_ring cs ct h hp) 10 (by omega)
theorem rings_pre (s : Int → Int) (m : Nat) : ∀ d, ∃ R, ringsTo s (m + d) = ringsTo s m ++ R
  | 0 => ⟨[], by simp⟩
  | d + 1 => by
    obtain ⟨R, e⟩ := rings_pre s m d
    have e1 : ringsTo s (m + (d + 1)) = if leastR s ((m + d : Nat) : Int) = true then ringsTo s (m + d) ++ [ringL s ((m + d : Nat) : Int)] else ringsTo s (m + d) := rfl
    by_cases q : leastR s ((m + d : Nat) : Int) = true
    · rw [if_pos q, e] at e1
      exact ⟨R ++ [ringL s ((m + d : Nat) : Int)], by rw [e1, List.append_assoc]⟩
    · rw [if_neg q, e] at e1
      exact ⟨R, e1⟩
theorem rings_go {s : Int → Int} {m : Nat} (h : leastR s (m : Int) = true) : ringsTo s (m + 1) = ringsTo s m ++ [ringL s (m : Int)] := by
  show (if leastR s (m : Int) = true then ringsTo s m ++ [ringL s (m : Int)] else ringsTo s m) = _
  rw [if_pos h]
theorem rings_skip {s : Int → Int} {m : Nat} (h : leastR s (m : Int) = false) : ringsTo s (m + 1) = ringsTo s m := by
  show (if leastR s (m : Int) = true then ringsTo s m ++ [ringL s (m : Int)] else ringsTo s m) = _
  rw [if_neg (by rw [h]; decide)]
theorem rings_at {s : Int → Int} {m : Nat} (hm : m < 10) (h : leastR s (m : Int) = true) : (ringsTo s 10).getD (ringsTo s m).length [] = ringL s (m : Int) := by
  obtain ⟨R, e⟩ := rings_pre s (m + 1) (10 - (m + 1))
  rw [show m + 1 + (10 - (m + 1)) = 10 by omega, rings_go h] at e
  rw [e]
  simp [List.getD]
theorem rings_len (s : Int → Int) : ∀ n, (ringsTo s n).length ≤ n
  | 0 => Nat.le_refl _
  | n + 1 => by
    have := rings_len s n
    show (if leastR s (n : Int) = true then ringsTo s n ++ [ringL s (n : Int)] else ringsTo s n).length ≤ n + 1
    split
    · simp; omega
    · omega
theorem rings_each (s : Int → Int) : ∀ n r, r ∈ ringsTo s n → r.length ≤ 10
  | 0, r, h => by cases h
  | n + 1, r, h => by
    have h' : r ∈ (if leastR s (n : Int) = true then ringsTo s n ++ [ringL s (n : Int)] else ringsTo s n) := h
    by_cases q : leastR s (n : Int) = true
    · rw [if_pos q] at h'
      rcases List.mem_append.1 h' with k | k
      · exact rings_each s n r k
      · have : r = ringL s (n : Int) := by simpa using k
        rw [this]; exact ring_len _ _
    · rw [if_neg q] at h'; exact rings_each s n r h'
/-- Whence a place gets its word by the first n moves, -1 for none. -/
def intM (z : List Int) : Nat → Int → Int
  | 0, _ => -1
  | n + 1, p => if p = toM z n then frM z n else intM z n p
theorem int_none {z : List Int} {p : Int} : ∀ {n : Nat}, (∀ j, j < n → toM z j ≠ p) → intM z n p = -1
  | 0, _ => rfl
  | n + 1, h => by
    show (if p = toM z n then frM z n else intM z n p) = -1
    rw [if_neg (fun e => h n (by omega) e.symm)]
    exact int_none (fun j hj => h j (by omega))
theorem int_of {z : List Int} {p : Int} : ∀ {n : Nat} (k : Nat), GoodM z n → k < n → toM z k = p → intM z n p = frM z k
  | 0, k, _, hk, _ => by omega
  | n + 1, k, g, hk, e => by
    show (if p = toM z n then frM z n else intM z n p) = frM z k
    by_cases q : k = n
    · subst q; rw [if_pos e.symm]
    · rw [if_neg (fun r => (g n (by omega)).2.2 k (by omega) (e.trans r))]
      exact int_of k (good_less g (by omega)) (by omega) e
theorem int_cl {z : List Int} {n : Nat} (g : GoodM z n) : Cl (intM z n) := by
  refine ⟨int_none (fun j hj e => ?_), fun p hp => ?_⟩
  · have := inR_out (g j hj).2.1; omega
  · by_cases q : ∃ j, j < n ∧ toM z j = p
    · obtain ⟨j, hj, e⟩ := q
      right
      rw [int_of j g hj e]
      exact inR_out (g j hj).1
    · left
      exact int_none (fun j hj e => q ⟨j, hj, e⟩)
theorem int_same {z : List Int} {n : Nat} (g : GoodM z n) {s : Int → Int} (h1 : ∀ j, j < n → s (toM z j) = frM z j ∨ s (toM z j) = toM z j ∧ frM z j = toM z j) (h2 : ∀ p, s p ≠ p → ∃ j, j < n ∧ toM z j = p) : Same (intM z n) s := by
  intro p hp
  have key : ∀ j, j < n → toM z j = p → s p = intM z n p := by
    intro j hj e
    rw [int_of j g hj e]
    rcases h1 j hj with q | ⟨q, r⟩
    · rw [← e]; exact q
    · rw [← e, q, r]
  refine ⟨fun ho => ?_, fun ho => ?_⟩
  · by_cases q : ∃ j, j < n ∧ toM z j = p
    · obtain ⟨j, hj, e⟩ := q
      exact key j hj e
    · exfalso
      have e := int_none (z := z) (p := p) (n := n) (fun j hj e => q ⟨j, hj, e⟩)
      have := ho.pl (int_cl g) hp 1
      have e1 : itS (intM z n) p 1 = -1 := e
      rw [e1] at this
      unfold Pl at this; omega
  · obtain ⟨j, hj, e⟩ := h2 p ho.1
    exact (key j hj e).symm
theorem src_cl {z : List Int} {n : Nat} (g : GoodM z n) : Cl (srcTo z n) :=
  ⟨src_none (fun j hj e => by have := inR_out (g j hj).2.1; omega), fun p hp => Or.inr (src_bd g hp.1 hp.2)⟩
theorem src_wait {z : List Int} {n : Nat} {p : Int} (h : srcTo z n p ≠ p) : ∃ j, j < n ∧ toM z j = p := by
  apply Classical.byContradiction
  intro q
  exact h (src_none (fun j hj e => q ⟨j, hj, e⟩))
theorem src_same {z : List Int} {n : Nat} (g : GoodM z n) : Same (intM z n) (srcTo z n) := int_same g (fun j hj => Or.inl (src_of j g hj rfl)) (fun _ hp => src_wait hp)
end Go.Proofs.Ythjcgnldlhjjmab.math
