/-
  Plain facts on laying moves: the first one whose place may be written over, what is left behind it, that what is left in the end are rings alone, and how they are told one by one: no Go program in sight.
-/
import Derived.Test.YthjcgnldlhjjmabRingMath
namespace Go.Proofs.Ythjcgnldlhjjmab.math
open Go
set_option linter.unusedVariables false

/-- A place that no longer waits. -/
def updS (s : Int → Int) (t : Int) : Int → Int := fun p => if p = t then t else s p
/-- Whether another place waits for a place's word. -/
def awB (s : Int → Int) (t : Int) : Bool := !decide (∀ q : Nat, q < 10 → s (q : Int) = t → (q : Int) = t)
theorem aw_yes {s : Int → Int} {t : Int} {q : Nat} (hq : q < 10) (h : s (q : Int) = t) (hn : (q : Int) ≠ t) : awB s t = true := by
  unfold awB
  rw [decide_eq_false (fun g => hn (g q hq h))]; rfl
theorem aw_no {s : Int → Int} {t : Int} (h : ∀ q : Nat, q < 10 → s (q : Int) = t → (q : Int) = t) : awB s t = false := by
  unfold awB
  rw [decide_eq_true h]; rfl
theorem aw_false {s : Int → Int} {t : Int} (h : awB s t = false) {q : Int} (hq : Pl q) (hn : q ≠ t) : s q ≠ t := by
  intro e
  have h1 : awB s t = true := aw_yes (q := q.toNat) (by unfold Pl at hq; omega) (by rw [show ((q.toNat : Nat) : Int) = q by unfold Pl at hq; omega]; exact e) (by rw [show ((q.toNat : Nat) : Int) = q by unfold Pl at hq; omega]; exact hn)
  rw [h1] at h; cases h
theorem aw_true {s : Int → Int} {t : Int} (h : awB s t = true) : ∃ q, Pl q ∧ s q = t ∧ q ≠ t := by
  apply Classical.byContradiction
  intro hn
  rw [aw_no (fun q hq e => Classical.byContradiction fun r => hn ⟨(q : Int), by unfold Pl; omega, e, r⟩)] at h
  cases h
/-- A place that waits and that none waits for. -/
def freeB (s : Int → Int) (t : Int) : Bool := decide (s t ≠ t) && !awB s t
theorem free_out {s : Int → Int} {t : Int} (h : freeB s t = true) : s t ≠ t ∧ awB s t = false := by
  unfold freeB at h
  rw [Bool.and_eq_true] at h
  exact ⟨of_decide_eq_true h.1, by simpa using h.2⟩
theorem free_mk {s : Int → Int} {t : Int} (h : s t ≠ t) (g : awB s t = false) : freeB s t = true := by
  unfold freeB
  rw [decide_eq_true h, g]; rfl
theorem free_still {s : Int → Int} {t : Int} (h : s t = t) : freeB s t = false := by
  unfold freeB
  rw [decide_eq_false (fun q => q h)]; rfl
theorem free_aw {s : Int → Int} {t : Int} (h : awB s t = true) : freeB s t = false := by
  unfold freeB
  rw [h]; simp
theorem upd_same {s : Int → Int} {t : Int} (c : Cl s) (h : freeB s t = true) : Same s (updS s t) := by
  obtain ⟨h0, h1⟩ := free_out h
  intro p hp
  refine ⟨fun ho => ?_, fun ho => ?_⟩
  · have hne : p ≠ t := by
      rintro rfl
      obtain ⟨N, hN, e⟩ := ho.2
      obtain ⟨M, rfl⟩ : ∃ M, N = M + 1 := ⟨N - 1, by omega⟩
      have e' : s (itS s p M) = p := e
      by_cases q : itS s p M = p
      · rw [q] at e'; exact h0 e'
      · exact aw_false h1 (ho.pl c hp M) q e'
    show (if p = t then t else s p) = s p
    rw [if_neg hne]
  · have hne : p ≠ t := by
      rintro rfl
      exact ho.1 (by show (if p = p then p else s p) = p; rw [if_pos rfl])
    show s p = (if p = t then t else s p)
    rw [if_neg hne]
/-- What holds of the places' sources, all the way. -/
structure RowI (z : List Int) (n : Nat) (s : Int → Int) : Prop where
  cl : Cl s
  pl : ∀ p, Pl p → Pl (s p)
  wait : ∀ p, s p ≠ p → ∃ j, j < n ∧ toM z j = p ∧ s p = frM z j
theorem row_src {z : List Int} {n : Nat} (g : GoodM z n) : RowI z n (srcTo z n) :=
  ⟨src_cl g, fun p hp => src_bd g hp.1 hp.2, fun p hp => by
    obtain ⟨j, hj, e⟩ := src_wait hp
    exact ⟨j, hj, e, src_of j g hj e⟩⟩
theorem RowI.upd {z : List Int} {n : Nat} {s : Int → Int} (h : RowI z n s) {t : Int} (ht : Pl t) : RowI z n (updS s t) := by
  have hp : ∀ p, Pl p → Pl (updS s t p) := fun p hp => by
    show Pl (if p = t then t else s p)
    split
    · exact ht
    · exact h.pl p hp
  refine ⟨⟨?_, fun p q => Or.inr (hp p q)⟩, hp, fun p q => ?_⟩
  · show (if (-1 : Int) = t then t else s (-1)) = -1
    rw [if_neg (by unfold Pl at ht; omega)]; exact h.cl.out
  · by_cases e : p = t
    · exact absurd (show (if p = t then t else s p) = p by rw [if_pos e]; exact e.symm) q
    · have e1 : updS s t p = s p := if_neg e
      rw [e1] at q ⊢
      exact h.wait p q
/-- How many of the first n places wait. -/
def wcTo (s : Int → Int) : Nat → Nat
  | 0 => 0
  | n + 1 => if s (n : Int) = (n : Int) then wcTo s n else wcTo s n + 1
theorem wc_le (s : Int → Int) : ∀ n, wcTo s n ≤ n
  | 0 => Nat.le_refl _
  | n + 1 => by
    have := wc_le s n
    show (if s (n : Int) = (n : Int) then wcTo s n else wcTo s n + 1) ≤ n + 1
    split <;> omega
theorem wc_upd {s : Int → Int} {m : Nat} (h : s (m : Int) ≠ (m : Int)) : ∀ n, wcTo (updS s (m : Int)) n ≤ wcTo s n ∧ (m < n → wcTo (updS s (m : Int)) n < wcTo s n)
  | 0 => ⟨Nat.le_refl _, fun q => by omega⟩
  | n + 1 => by
    obtain ⟨h1, h2⟩ := wc_upd h n
    have e1 : wcTo (updS s (m : Int)) (n + 1) = if updS s (m : Int) (n : Int) = (n : Int) then wcTo (updS s (m : Int)) n else wcTo (updS s (m : Int)) n + 1 := rfl
    have e2 : wcTo s (n + 1) = if s (n : Int) = (n : Int) then wcTo s n else wcTo s n + 1 := rfl
    rw [e1, e2]
    by_cases e : n = m
    · subst e
      have u : updS s (n : Int) (n : Int) = (n : Int) := if_pos rfl
      rw [if_pos u, if_neg h]
      exact ⟨by omega, fun _ => by omega⟩
    · have u : updS s (m : Int) (n : Int) = s (n : Int) := if_neg (by omega)
      rw [u]
      split
      · exact ⟨h1, fun q => h2 (by omega)⟩
      · exact ⟨by omega, fun q => by have := h2 (by omega); omega⟩
/-- The first of the first n moves whose place may be written over, n for none. -/
def firstF (z : List Int) (s : Int → Int) : Nat → Nat
  | 0 => 0
  | n + 1 => if firstF z s n < n then firstF z s n else if freeB s (toM z n) = true then n else n + 1
theorem ff_all {z : List Int} {s : Int → Int} : ∀ {n}, (∀ j, j < n → freeB s (toM z j) = false) → firstF z s n = n
  | 0, _ => rfl
  | n + 1, h => by
    show (if firstF z s n < n then firstF z s n else if freeB s (toM z n) = true then n else n + 1) = n + 1
    rw [ff_all (fun j hj => h j (by omega)), if_neg (by omega), if_neg (by rw [h n (by omega)]; decide)]
theorem ff_is {z : List Int} {s : Int → Int} {k : Nat} (hf : freeB s (toM z k) = true) (hb : ∀ j, j < k → freeB s (toM z j) = false) : ∀ {n}, k < n → firstF z s n = k
  | 0, h => by omega
  | n + 1, h => by
    show (if firstF z s n < n then firstF z s n else if freeB s (toM z n) = true then n else n + 1) = k
    by_cases e : k = n
    · subst e
      rw [ff_all hb, if_neg (by omega), if_pos hf]
    · rw [ff_is hf hb (by omega), if_pos (by omega)]
theorem ff_none {z : List Int} {s : Int → Int} {n : Nat} (h : ¬ firstF z s n < n) : ∀ j, j < n → freeB s (toM z j) = false := by
  apply Classical.byContradiction
  intro q
  have : ∃ k, k < n ∧ freeB s (toM z k) = true ∧ ∀ j, j < k → freeB s (toM z j) = false := by
    have key : ∀ m, m ≤ n → (∀ j, j < m → freeB s (toM z j) = false) ∨ ∃ k, k < n ∧ freeB s (toM z k) = true ∧ ∀ j, j < k → freeB s (toM z j) = false := by
      intro m
      induction m with
      | zero => intro _; exact Or.inl (fun j hj => by omega)
      | succ m ih =>
        intro hm
        rcases ih (by omega) with r | r
        · cases e : freeB s (toM z m)
          · exact Or.inl (fun j hj => by
              by_cases e2 : j = m
              · rw [e2]; exact e
              · exact r j (by omega))
          · exact Or.inr ⟨m, by omega, e, r⟩
        · exact Or.inr r
    rcases key n (Nat.le_refl _) with r | r
    · exact absurd r q
    · exact r
  obtain ⟨k, hk, hf, hb⟩ := this
  rw [ff_is hf hb hk] at h
  exact h hk
theorem ff_some {z : List Int} {s : Int → Int} : ∀ {n : Nat}, firstF z s n < n → freeB s (toM z (firstF z s n)) = true ∧ ∀ j, j < firstF z s n → freeB s (toM z j) = false
  | 0, h => by omega
  | n + 1, h => by
    have e : firstF z s (n + 1) = if firstF z s n < n then firstF z s n else if freeB s (toM z n) = true then n else n + 1 := rfl
    by_cases q : firstF z s n < n
    · rw [if_pos q] at e
      rw [e]; exact ff_some q
    · rw [if_neg q] at e
      by_cases r : freeB s (toM z n) = true
      · rw [if_pos r] at e
        rw [e]
        exact ⟨r, ff_none q⟩
      · rw [if_neg r] at e
        omega
/-- The sources and the laid moves behind c of them. -/
def rowS (z : List Int) (n : Nat) : Nat → Int → Int
  | 0 => srcTo z n
  | c + 1 => if firstF z (rowS z n c) n < n then updS (rowS z n c) (toM z (firstF z (rowS z n c) n)) else rowS z n c
def rowL (z : List Int) (n : Nat) : Nat → List Int
  | 0 => []
  | c + 1 => if firstF z (rowS z n c) n < n then rowL z n c ++ [frM z (firstF z (rowS z n c) n), toM z (firstF z (rowS z n c) n)] else rowL z n c
theorem rowS_go {z : List Int} {n c k : Nat} (h : firstF z (rowS z n c) n = k) (hk : k < n) : rowS z n (c + 1) = updS (rowS z n c) (toM z k) := by
  show (if firstF z (rowS z n c) n < n then updS (rowS z n c) (toM z (firstF z (rowS z n c) n)) else rowS z n c) = _
  rw [h, if_pos hk]
theorem rowL_go {z : List Int} {n c k : Nat} (h : firstF z (rowS z n c) n = k) (hk : k < n) : rowL z n (c + 1) = rowL z n c ++ [frM z k, toM z k] := by
  show (if firstF z (rowS z n c) n < n then rowL z n c ++ [frM z (firstF z (rowS z n c) n), toM z (firstF z (rowS z n c) n)] else rowL z n c) = _
  rw [h, if_pos hk]
theorem to_pl {z : List Int} {n k : Nat} (g : GoodM z n) (hk : k < n) : Pl (toM z k) := inR_out (g k hk).2.1
theorem row_inv {z : List Int} {n : Nat} (g : GoodM z n) : ∀ c, RowI z n (rowS z n c)
  | 0 => row_src g
  | c + 1 => by
    show RowI z n (if firstF z (rowS z n c) n < n then updS (rowS z n c) (toM z (firstF z (rowS z n c) n)) else rowS z n c)
    by_cases q : firstF z (rowS z n c) n < n
    · rw [if_pos q]; exact (row_inv g c).upd (to_pl g q)
    · rw [if_neg q]; exact row_inv g c
theorem row_same {z : List Int} {n : Nat} (g : GoodM z n) : ∀ c, Same (srcTo z n) (rowS z n c)
  | 0 => Same.refl _
  | c + 1 => by
    show Same (srcTo z n) (if firstF z (rowS z n c) n < n then updS (rowS z n c) (toM z (firstF z (rowS z n c) n)) else rowS z n c)
    by_cases q : firstF z (rowS z n c) n < n
    · rw [if_pos q]
      exact Same.trans (src_cl g) ((row_inv g c).upd (to_pl g q)).cl (row_same g c) (upd_same (row_inv g c).cl (ff_some q).1)
    · rw [if_neg q]; exact row_same g c
theorem row_wc {z : List Int} {n c : Nat} (g : GoodM z n) (q : firstF z (rowS z n c) n < n) : wcTo (rowS z n (c + 1)) 10 < wcTo (rowS z n c) 10 := by
  rw [rowS_go rfl q]
  have ht := to_pl g q
  have hf := (free_out (ff_some q).1).1
  generalize toM z (firstF z (rowS z n c) n) = t at ht hf
  obtain ⟨m, rfl⟩ : ∃ m : Nat, t = (m : Int) := ⟨t.toNat, by unfold Pl at ht; omega⟩
  exact (wc_upd hf 10).2 (by unfold Pl at ht; omega)
theorem row_stop {z : List Int} {n c : Nat} (h : ¬ firstF z (rowS z n c) n < n) : ∀ d, rowS z n (c + d) = rowS z n c ∧ rowL z n (c + d) = rowL z n c
  | 0 => ⟨rfl, rfl⟩
  | d + 1 => by
    obtain ⟨e1, e2⟩ := row_stop h d
    have a1 : rowS z n (c + (d + 1)) = if firstF z (rowS z n (c + d)) n < n then updS (rowS z n (c + d)) (toM z (firstF z (rowS z n (c + d)) n)) else rowS z n (c + d) := rfl
    have a2 : rowL z n (c + (d + 1)) = if firstF z (rowS z n (c + d)) n < n then rowL z n (c + d) ++ [frM z (firstF z (rowS z n (c + d)) n), toM z (firstF z (rowS z n (c + d)) n)] else rowL z n (c + d) := rfl
    rw [a1, a2, e1, e2, if_neg h, if_neg h]
    exact ⟨rfl, rfl⟩
theorem row_fin {z : List Int} {n c : Nat} (hc : c ≤ 10) (h : ¬ firstF z (rowS z n c) n < n) : rowS z n 10 = rowS z n c ∧ rowL z n 10 = rowL z n c := by
  have := row_stop h (10 - c)
  rw [show c + (10 - c) = 10 by omega] at this
  exact this
theorem row_end {z : List Int} {n : Nat} (g : GoodM z n) : ¬ firstF z (rowS z n 10) n < n := by
  have key : ∀ c, c ≤ 10 → (¬ firstF z (rowS z n 10) n < n) ∨ wcTo (rowS z n c) 10 + c ≤ 10 := by
    intro c
    induction c with
    | zero => intro _; exact Or.inr (by have := wc_le (rowS z n 0) 10; omega)
    | succ c ih =>
      intro hc
      rcases ih (by omega) with r | r
      · exact Or.inl r
      · by_cases q : firstF z (rowS z n c) n < n
        · exact Or.inr (by have := row_wc g q; omega)
        · exact Or.inl (by rw [(row_fin (by omega) q).1]; exact q)
  rcases key 10 (Nat.le_refl _) with r | r
  · exact r
  · intro q
    have := row_wc g q
    omega
theorem row_even (z : List Int) (n : Nat) : ∀ c, ∃ m, m ≤ c ∧ (rowL z n c).length = m * 2
  | 0 => ⟨0, Nat.le_refl _, rfl⟩
  | c + 1 => by
    obtain ⟨m, hm, e⟩ := row_even z n c
    by_cases q : firstF z (rowS z n c) n < n
    · exact ⟨m + 1, by omega, by rw [rowL_go rfl q]; simp [e]; omega⟩
    · exact ⟨m, by omega, by rw [(row_stop q 1).2]; exact e⟩
/-- What is left in the end are rings alone. -/
theorem fin_on {z : List Int} {n : Nat} {s : Int → Int} (h : RowI z n s) (hn : ∀ j, j < n → freeB s (toM z j) = false) {p : Int} (hp : Pl p) (hw : s p ≠ p) : OnC s p := by
  have pred : ∀ p, Pl p ∧ s p ≠ p → ∃ q, (Pl q ∧ s q ≠ q) ∧ s q = p := by
    rintro p ⟨hp, hw⟩
    obtain ⟨j, hj, e, _⟩ := h.wait p hw
    have hf := hn j hj
    rw [e] at hf
    cases ha : awB s p
    · rw [free_mk hw ha] at hf; cases hf
    · obtain ⟨q, hq, e1, e2⟩ := aw_true ha
      exact ⟨q, ⟨hq, by rw [e1]; exact fun r => e2 r.symm⟩, e1⟩
  have chain : ∃ f : Nat → Int, f 0 = p ∧ ∀ i, (Pl (f i) ∧ s (f i) ≠ f i) ∧ s (f (i + 1)) = f i := by
    let step : {p : Int // Pl p ∧ s p ≠ p} → {p : Int // Pl p ∧ s p ≠ p} := fun x => ⟨(pred x.1 x.2).choose, (pred x.1 x.2).choose_spec.1⟩
    let g : Nat → {p : Int // Pl p ∧ s p ≠ p} := fun i => Nat.rec ⟨p, hp, hw⟩ (fun _ x => step x) i
    exact ⟨fun i => (g i).1, rfl, fun i => ⟨(g i).2, (pred (g i).1 (g i).2).choose_spec.2⟩⟩
  obtain ⟨f, f0, hf⟩ := chain
  have back : ∀ k i, itS s (f (i + k)) k = f i := by
    intro k
    induction k with
    | zero => intro i; rfl
    | succ k ih =>
      intro i
      rw [Nat.add_comm k 1, it_add]
      show itS s (s (f (i + (1 + k)))) k = f i
      rw [show i + (1 + k) = i + k + 1 by omega, (hf (i + k)).2]
      exact ih i
  obtain ⟨i, j, hij, hj, e⟩ := pigeon 10 (fun i => (f i).toNat) (fun i _ => by
    have := (hf i).1.1
    unfold Pl at this
    show (f i).toNat < 10
    omega)
  have hi := (hf i).1.1
  have hj' := (hf j).1.1
  unfold Pl at hi hj'
  have e' : f i = f j := by
    have : (f i).toNat = (f j).toNat := e
    omega
  have b1 := back i 0
  have b2 := back i (j - i)
  rw [Nat.zero_add, f0] at b1
  rw [show j - i + i = j by omega, ← e', b1] at b2
  have b3 := back (j - i) 0
  rw [Nat.zero_add, f0, ← b2] at b3
  exact ⟨hw, j - i, by omega, b3⟩
/-- The sources where the rings that have a place below P are told. -/
noncomputable def clrS (s : Int → Int) (P q : Int) : Int := @ite _ (∃ k, itS s q k < P) (Classical.propDecidable _) q (s q)
theorem clr_in {s : Int → Int} {P q : Int} (h : ∃ k, itS s q k < P) : clrS s P q = q := by
  unfold clrS; rw [if_pos h]
theorem clr_out {s : Int → Int} {P q : Int} (h : ¬ ∃ k, itS s q k < P) : clrS s P q = s q := by
  unfold clrS; rw [if_neg h]
theorem clr_zero {s : Int → Int} (h : ∀ p, Pl p → Pl (s p)) {q : Int} (hq : Pl q) : clrS s 0 q = s q := by
  refine clr_out ?_
  rintro ⟨k, hk⟩
  have : ∀ k, Pl (itS s q k) := fun k => by
    induction k with
    | zero => exact hq
    | succ k ih => exact h _ ih
  have := this k
  unfold Pl at this; omega
theorem clr_wait {s : Int → Int} {P : Int} (h : clrS s P P ≠ P) : s P ≠ P ∧ ∀ k, P ≤ itS s P k := by
  by_cases q : ∃ k, itS s P k < P
  · exact absurd (clr_in q) h
  · rw [clr_out q] at h
    exact ⟨h, fun k => by
      apply Classical.byContradiction
      intro r
      exact q ⟨k, by omega⟩⟩
theorem clr_ring {s : Int → Int} {P : Int} (h : ∀ k, P ≤ itS s P k) : ∀ k, itS (clrS s P) P k = itS s P k
  | 0 => rfl
  | k + 1 => by
    show clrS s P (itS (clrS s P) P k) = s (itS s P k)
    rw [clr_ring h k]
    refine clr_out ?_
    rintro ⟨m, hm⟩
    rw [← it_add] at hm
    have := h (k + m)
    omega
theorem clr_least {s : Int → Int} {P : Int} (c : Cl s) (hP : Pl P) (ho : OnC s P) (h : ∀ k, P ≤ itS s P k) : leastR s P = true := by
  unfold leastR
  rw [Bool.and_eq_true]
  refine ⟨decide_eq_true ?_, ?_⟩
  · rw [ring_on c hP ho]; exact List.cons_ne_nil _ _
  · rw [List.all_eq_true]
    intro x hx
    obtain ⟨k, rfl⟩ := (ring_mem c hP ho).1 hx
    exact decide_eq_true (h k)
theorem on_back {s : Int → Int} {q P : Int} {k : Nat} (ho : OnC s q) (e : itS s q k = P) : ∃ m, itS s P m = q := by
  obtain ⟨N, hN, eN⟩ := ho.2
  obtain ⟨m, hm⟩ := far_back (k := k) hN
  have e1 := it_mul eN k
  rw [hm, it_add, e] at e1
  exact ⟨m, e1⟩
theorem clr_next {s : Int → Int} {P : Int} (c : Cl s) (on : ∀ p, Pl p → s p ≠ p → OnC s p) (hP : Pl P) (h : clrS s P P ≠ P) {q : Int} (hq : Pl q) : clrS s (P + 1) q = @ite _ (q ∈ ringL s P) (Classical.propDecidable _) q (clrS s P q) := by
  obtain ⟨h0, h1⟩ := clr_wait h
  have ho := on P hP h0
  by_cases hm : q ∈ ringL s P
  · rw [if_pos hm]
    obtain ⟨k, rfl⟩ := (ring_mem c hP ho).1 hm
    obtain ⟨m, e⟩ := on_back ho (rfl : itS s P k = itS s P k)
    exact clr_in ⟨m, by rw [e]; omega⟩
  · rw [if_neg hm]
    by_cases hw : s q = q
    · by_cases r1 : ∃ k, itS s q k < P + 1
      · rw [clr_in r1]
        by_cases r2 : ∃ k, itS s q k < P
        · rw [clr_in r2]
        · rw [clr_out r2, hw]
      · rw [clr_out r1]
        by_cases r2 : ∃ k, itS s q k < P
        · rw [clr_in r2, hw]
        · rw [clr_out r2]
    · by_cases r1 : ∃ k, itS s q k < P + 1
      · by_cases r2 : ∃ k, itS s q k < P
        · rw [clr_in r1, clr_in r2]
        · exfalso
          obtain ⟨k, hk⟩ := r1
          have e : itS s q k = P := by
            have : ¬ itS s q k < P := fun r => r2 ⟨k, r⟩
            omega
          obtain ⟨m, e1⟩ := on_back (on q hq hw) e
          exact hm ((ring_mem c hP ho).2 ⟨m, e1.symm⟩)
      · have r2 : ¬ ∃ k, itS s q k < P := fun ⟨k, hk⟩ => r1 ⟨k, by omega⟩
        rw [clr_out r1, clr_out r2]
theorem clr_set {s : Int → Int} {P : Int} (c : Cl s) (on : ∀ p, Pl p → s p ≠ p → OnC s p) (hP : Pl P) (h : clrS s P P ≠ P) {q : Int} (hq : Pl q) : (if q ∈ ringL s P then q else clrS s P q) = clrS s (P + 1) q := by
  rw [clr_next c on hP h hq]
  by_cases hm : q ∈ ringL s P
  · rw [if_pos hm, if_pos hm]
  · rw [if_neg hm, if_neg hm]
theorem clr_facts {s : Int → Int} {P : Int} (c : Cl s) (on : ∀ p, Pl p → s p ≠ p → OnC s p) (hP : Pl P) (h : clrS s P P ≠ P) : (∀ k, Pl (itS (clrS s P) P k)) ∧ 2 ≤ perTo (clrS s P) P 10 ∧ ringL (clrS s P) P = ringL s P ∧ leastR s P = true := by
  obtain ⟨h0, h1⟩ := clr_wait h
  have ho := on P hP h0
  have hr := clr_ring h1
  refine ⟨fun k => by rw [hr k]; exact ho.pl c hP k, ?_, ring_congr hr, clr_least c hP ho h1⟩
  rw [per_congr hr]
  exact (ring_per c hP ho).1
theorem clr_skip {s : Int → Int} {P : Int} (c : Cl s) (on : ∀ p, Pl p → s p ≠ p → OnC s p) (hP : Pl P) (h : clrS s P P = P) : leastR s P = false ∧ ∀ q, Pl q → clrS s (P + 1) q = clrS s P q := by
  by_cases hw : s P = P
  · have hno : ¬ OnC s P := fun r => r.1 hw
    refine ⟨by unfold leastR; rw [ring_nil hno]; rfl, fun q hq => ?_⟩
    by_cases r1 : ∃ k, itS s q k < P + 1
    · by_cases r2 : ∃ k, itS s q k < P
      · rw [clr_in r1, clr_in r2]
      · rw [clr_in r1, clr_out r2]
        obtain ⟨k, hk⟩ := r1
        have e : itS s q k = P := by
          have : ¬ itS s q k < P := fun r => r2 ⟨k, r⟩
          omega
        apply Classical.byContradiction
        intro hq2
        obtain ⟨m, e1⟩ := on_back (on q hq (fun r => hq2 r.symm)) e
        rw [it_fix hw] at e1
        rw [← e1] at hq2
        exact hq2 hw.symm
    · have r2 : ¬ ∃ k, itS s q k < P := fun ⟨k, hk⟩ => r1 ⟨k, by omega⟩
      rw [clr_out r1, clr_out r2]
  · have ho := on P hP hw
    have hr : ∃ k, itS s P k < P := by
      apply Classical.byContradiction
      intro r
      rw [clr_out r] at h
      exact hw h
    refine ⟨?_, fun q hq => ?_⟩
    · obtain ⟨k, hk⟩ := hr
      unfold leastR
      have : (ringL s P).all (fun x => decide (P ≤ x)) = false := by
        rw [Bool.eq_false_iff]
        intro r
        rw [List.all_eq_true] at r
        have := of_decide_eq_true (r _ ((ring_mem c hP ho).2 ⟨k, rfl⟩))
        omega
      rw [this]; simp
    · by_cases r1 : ∃ k, itS s q k < P + 1
      · have r2 : ∃ k, itS s q k < P := by
          obtain ⟨k, hk⟩ := r1
          by_cases e : itS s q k = P
          · obtain ⟨m, hm⟩ := hr
            exact ⟨k + m, by rw [it_add, e]; exact hm⟩
          · exact ⟨k, by omega⟩
        rw [clr_in r1, clr_in r2]
      · have r2 : ¬ ∃ k, itS s q k < P := fun ⟨k, hk⟩ => r1 ⟨k, by omega⟩
        rw [clr_out r1, clr_out r2]
theorem rings_none {s : Int → Int} (h : ∀ p, Pl p → s p = p) : ∀ n, n ≤ 10 → ringsTo s n = []
  | 0, _ => rfl
  | n + 1, hn => by
    have : leastR s (n : Int) = false := by unfold leastR; rw [ring_nil (fun r => r.1 (h _ (by unfold Pl; omega)))]; rfl
    show (if leastR s (n : Int) = true then ringsTo s n ++ [ringL s (n : Int)] else ringsTo s n) = []
    rw [this, if_neg (by decide)]
    exact rings_none h n (by omega)
theorem rings_some {s : Int → Int} (c : Cl s) (pl : ∀ p, Pl p → Pl (s p)) (on : ∀ p, Pl p → s p ≠ p → OnC s p) : ∀ n, n ≤ 10 → ringsTo s n = [] → (∀ q, Pl q → clrS s (n : Int) q = s q) ∧ ∀ m : Nat, m < n → s (m : Int) = (m : Int) := by
  intro n
  induction n with
  | zero => exact fun _ _ => ⟨fun q hq => by rw [show ((0 : Nat) : Int) = 0 from rfl]; exact clr_zero pl hq, fun m hm => by omega⟩
  | succ n ih =>
    intro hn h
    have hP : Pl (n : Int) := by unfold Pl; omega
    replace h : (if leastR s (n : Int) = true then ringsTo s n ++ [ringL s (n : Int)] else ringsTo s n) = [] := h
    by_cases q : leastR s (n : Int) = true
    · rw [if_pos q] at h; simp at h
    · rw [if_neg q] at h
      obtain ⟨h1, h2⟩ := ih (by omega) h
      have hc : clrS s (n : Int) (n : Int) = (n : Int) := by
        apply Classical.byContradiction
        intro r
        obtain ⟨r0, r1⟩ := clr_wait r
        exact q (clr_least c hP (on _ hP r0) r1)
      refine ⟨fun p hp => ?_, fun m hm => ?_⟩
      · rw [show ((n + 1 : Nat) : Int) = (n : Int) + 1 by omega, (clr_skip c on hP hc).2 p hp]
        exact h1 p hp
      · by_cases e : m = n
        · subst e; exact (h1 _ hP).symm.trans hc
        · exact h2 m (by omega)
/-- The rings of the moves are those that are left in the end. -/
theorem rings_fin {z : List Int} {n : Nat} (g : GoodM z n) : ringsTo (intM z n) 10 = ringsTo (rowS z n 10) 10 := by
  rw [same_rings (int_cl g) (src_cl g) (src_same g), same_rings (src_cl g) (row_inv g 10).cl (row_same g 10)]
theorem fin_wait {z : List Int} {n : Nat} (g : GoodM z n) : ∀ p, Pl p → rowS z n 10 p ≠ p → OnC (rowS z n 10) p := fun p hp hw => fin_on (row_inv g 10) (ff_none (row_end g)) hp hw
theorem spare_eq {z : List Int} {n : Nat} (g : GoodM z n) : (!(List.range 10).all (fun i => decide (rowS z n 10 (i : Int) = (i : Int)))) = decide (0 < (ringsTo (intM z n) 10).length) := by
  rw [rings_fin g]
  by_cases q : ∀ i : Nat, i < 10 → rowS z n 10 (i : Int) = (i : Int)
  · have h1 : (List.range 10).all (fun i => decide (rowS z n 10 (i : Int) = (i : Int))) = true := by
      rw [List.all_eq_true]
      intro i hi
      exact decide_eq_true (q i (by simpa using hi))
    have h2 : ringsTo (rowS z n 10) 10 = [] := rings_none (fun p hp => by
      have := q p.toNat (by unfold Pl at hp; omega)
      rw [show ((p.toNat : Nat) : Int) = p by unfold Pl at hp; omega] at this
      exact this) 10 (by omega)
    rw [h1, h2]; rfl
  · have h1 : (List.range 10).all (fun i => decide (rowS z n 10 (i : Int) = (i : Int))) = false := by
      rw [Bool.eq_false_iff]
      intro r
      rw [List.all_eq_true] at r
      exact q (fun i hi => of_decide_eq_true (r i (by simpa using hi)))
    have h2 : ringsTo (rowS z n 10) 10 ≠ [] := fun r => q (rings_some (row_inv g 10).cl (row_inv g 10).pl (fin_wait g) 10 (by omega) r).2
    rw [h1]
    have : 0 < (ringsTo (rowS z n 10) 10).length := List.length_pos_iff.2 h2
    rw [decide_eq_true this]; rfl
end Go.Proofs.Ythjcgnldlhjjmab.math
