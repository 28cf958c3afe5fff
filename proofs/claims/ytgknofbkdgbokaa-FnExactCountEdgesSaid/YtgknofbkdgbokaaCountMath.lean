/-
  How often edges are gone on the paths of runs, and the edges that are gone.
-/
import Derived.Test.YtgknofbkdgbokaaFlowRun
namespace Go.Proofs.Ytgknofbkdgbokaa.math
set_option linter.unusedVariables false

/-- How often the edge c (8 times its From, and its To) is gone on the first m steps of a path. -/
def goneP (p : List Int) (c : Nat) : Nat → Nat
  | 0 => 0
  | m + 1 => goneP p c m + (if p.getD m 0 * 8 + p.getD (m + 1) 0 = (c : Int) then 1 else 0)
theorem goneP_le (p : List Int) (c : Nat) : ∀ m, goneP p c m ≤ m
  | 0 => Nat.le_refl _
  | m + 1 => by have := goneP_le p c m; simp only [goneP]; split <;> omega
/-- The path of a run, wherever it stands at its end. -/
noncomputable def pthV (f : Nat → Bv) (ws : List Int) (fuel : Nat) : List Int := @dite _ (∃ k, Stands f ws fuel k) (Classical.propDecidable _) (fun h => (flowTo f ws (Classical.choose h)).path) (fun _ => [])
theorem pth_is {f : Nat → Bv} {ws : List Int} {fuel k : Nat} (h : Stands f ws fuel k) : pthV f ws fuel = (flowTo f ws k).path := by
  have hx : ∃ k, Stands f ws fuel k := ⟨k, h⟩
  unfold pthV
  rw [dif_pos hx, stands_one (Classical.choose_spec hx) h]
theorem path_at (f : Nat → Bv) (ws : List Int) : ∀ (k j : Nat), j < k → (flowTo f ws k).path.getD j 0 = (flowTo f ws j).next
  | 0, j, h => by omega
  | k + 1, j, h => by
    have e : (flowTo f ws (k + 1)).path = (flowTo f ws k).path ++ [(flowTo f ws k).next] := rfl
    have hl := path_len f ws k
    rw [e]
    by_cases q : j = k
    · subst q
      simp [List.getD, hl]
    · have hj : j < k := by omega
      have q2 : ((flowTo f ws k).path ++ [(flowTo f ws k).next]).getD j 0 = (flowTo f ws k).path.getD j 0 := by simp [List.getD, List.getElem?_append_left (show j < (flowTo f ws k).path.length by omega)]
      rw [q2]
      exact path_at f ws k j hj
theorem next_of (f : Nat → Bv) (ws : List Int) (j : Nat) : (flowTo f ws (j + 1)).next = (f (flowTo f ws j).next.toNat).th ∨ (flowTo f ws (j + 1)).next = (f (flowTo f ws j).next.toNat).el := by
  by_cases q : (runW (f (flowTo f ws j).next.toNat).zs (flowTo f ws j).ws (f (flowTo f ws j).next.toNat).len).getD (f (flowTo f ws j).next.toNat).t.toNat 0 = 0
  · right; simp only [flowTo, goR, if_pos q]
  · left; simp only [flowTo, goR, if_neg q]
/-- What is known of a path. -/
theorem pth_in {f : Nat → Bv} {ws : List Int} {n fuel k : Nat} (hf : flowB f n = true) (hw : wordsB ws = true) (h : Stands f ws fuel k) : (pthV f ws fuel).length = k ∧ (∀ j, j < k → 0 ≤ (pthV f ws fuel).getD j 0 ∧ (pthV f ws fuel).getD j 0 < (n : Int)) ∧ ∀ j, j + 1 < k → (pthV f ws fuel).getD (j + 1) 0 = (f ((pthV f ws fuel).getD j 0).toNat).th ∨ (pthV f ws fuel).getD (j + 1) 0 = (f ((pthV f ws fuel).getD j 0).toNat).el := by
  rw [pth_is h]
  refine ⟨path_len f ws k, fun j hj => ?_, fun j hj => ?_⟩
  · rw [path_at f ws k j hj]
    have h1 := h.1 j hj
    have h2 := (flow_inv hf hw j (fun i hi => h.1 i (by omega))).2.1
    omega
  · rw [path_at f ws k j (by omega), path_at f ws k (j + 1) hj]
    exact next_of f ws j
/-- How often an edge is gone in the first r runs. -/
noncomputable def cntR (f : Nat → Bv) (R : Nat → List Int) (fuel : Nat) (c : Nat) : Nat → Nat
  | 0 => 0
  | r + 1 => cntR f R fuel c r + goneP (pthV f (R r) fuel) c ((pthV f (R r) fuel).length - 1)
/-- The words of the first runs are words. -/
def allW (R : Nat → List Int) : Nat → Bool
  | 0 => true
  | r + 1 => allW R r && wordsB (R r)
theorem allW_out {R : Nat → List Int} : ∀ {m : Nat}, allW R m = true → ∀ r, r < m → wordsB (R r) = true
  | 0, _, r, hr => by omega
  | m + 1, h, r, hr => by
    simp only [allW, Bool.and_eq_true] at h
    by_cases e : r = m
    · subst e; exact h.2
    · exact allW_out h.1 r (by omega)
theorem allW_no {R : Nat → List Int} {r : Nat} (h : wordsB (R r) = false) : ∀ {m : Nat}, r < m → allW R m = false
  | 0, hr => by omega
  | m + 1, hr => by
    simp only [allW]
    by_cases e : r = m
    · subst e; rw [h]; exact Bool.and_false _
    · rw [allW_no h (by omega)]; rfl
theorem allW_step {R : Nat → List Int} {r : Nat} (h : allW R r = true) (h' : wordsB (R r) = true) : allW R (r + 1) = true := by simp only [allW, h, h']; rfl
/-- The edges that are gone, told flat, and their number. -/
def edL (C : Nat → Nat) : Nat → List Int
  | 0 => []
  | m + 1 => if 0 < C m then edL C m ++ [(m : Int) / 8, (m : Int) % 8, (C m : Int)] else edL C m
def edN (C : Nat → Nat) : Nat → Nat
  | 0 => 0
  | m + 1 => if 0 < C m then edN C m + 1 else edN C m
theorem ed_len (C : Nat → Nat) : ∀ m, (edL C m).length = edN C m * 3
  | 0 => rfl
  | m + 1 => by
    have := ed_len C m
    simp only [edL, edN]
    split
    · simp only [List.length_append, List.length_cons, List.length_nil, this]; omega
    · exact this
theorem edN_le (C : Nat → Nat) : ∀ m, edN C m ≤ m
  | 0 => Nat.le_refl _
  | m + 1 => by have := edN_le C m; simp only [edN]; split <;> omega
theorem ed_row {C : Nat → Nat} {q : Nat} {x y : Int} (h : ∀ t, t < 8 → 0 < C (8 * q + t) → (t : Int) = x ∨ (t : Int) = y) : ∀ t, t ≤ 8 → edN C (8 * q + t) ≤ edN C (8 * q) + (if 0 ≤ x ∧ x < (t : Int) then 1 else 0) + (if 0 ≤ y ∧ y < (t : Int) then 1 else 0)
  | 0, _ => by simp only [Nat.add_zero]; omega
  | t + 1, ht => by
    have h1 := ed_row h t (by omega)
    have h2 := h t (by omega)
    have e : edN C (8 * q + (t + 1)) = if 0 < C (8 * q + t) then edN C (8 * q + t) + 1 else edN C (8 * q + t) := rfl
    rw [e]
    by_cases hc : 0 < C (8 * q + t)
    · rw [if_pos hc]
      rcases h2 hc with r | r
      · rw [if_neg (show ¬ (0 ≤ x ∧ x < (t : Int)) by omega)] at h1
        rw [if_pos (show 0 ≤ x ∧ x < ((t + 1 : Nat) : Int) by omega)]
        split at h1 <;> split <;> omega
      · rw [if_neg (show ¬ (0 ≤ y ∧ y < (t : Int)) by omega)] at h1
        rw [if_pos (show 0 ≤ y ∧ y < ((t + 1 : Nat) : Int) by omega)]
        split at h1 <;> split <;> omega
    · rw [if_neg hc]
      split at h1 <;> split at h1 <;> split <;> split <;> omega
theorem ed_all {C : Nat → Nat} {x y : Nat → Int} (h : ∀ c, c < 64 → 0 < C c → ((c % 8 : Nat) : Int) = x (c / 8) ∨ ((c % 8 : Nat) : Int) = y (c / 8)) : ∀ q, q ≤ 8 → edN C (8 * q) ≤ 2 * q
  | 0, _ => Nat.le_refl _
  | q + 1, hq => by
    have h1 := ed_all h q (by omega)
    have h2 := ed_row (C := C) (q := q) (x := x q) (y := y q) (fun t ht hc => by
      have := h (8 * q + t) (by omega) hc
      rw [show (8 * q + t) % 8 = t by omega, show (8 * q + t) / 8 = q by omega] at this
      exact this) 8 (Nat.le_refl _)
    rw [show 8 * (q + 1) = 8 * q + 8 by omega]
    split at h2 <;> split at h2 <;> omega
theorem goneP_pos {p : List Int} {c : Nat} : ∀ {m : Nat}, 0 < goneP p c m → ∃ j, j < m ∧ p.getD j 0 * 8 + p.getD (j + 1) 0 = (c : Int)
  | 0, h => by simp [goneP] at h
  | m + 1, h => by
    simp only [goneP] at h
    by_cases q : p.getD m 0 * 8 + p.getD (m + 1) 0 = (c : Int)
    · exact ⟨m, by omega, q⟩
    · rw [if_neg q] at h
      obtain ⟨j, hj, e⟩ := goneP_pos (m := m) (by omega)
      exact ⟨j, by omega, e⟩
theorem cnt_pos {f : Nat → Bv} {R : Nat → List Int} {fuel n c : Nat} (hf : flowB f n = true) (hs : ∀ r, ∃ k, wordsB (R r) = true → Stands f (R r) fuel k) : ∀ {m : Nat}, allW R m = true → 0 < cntR f R fuel c m → ((c % 8 : Nat) : Int) = (f (c / 8)).th ∨ ((c % 8 : Nat) : Int) = (f (c / 8)).el
  | 0, _, h => by simp [cntR] at h
  | m + 1, hw, h => by
    simp only [cntR] at h
    have hwm := allW_out hw m (by omega)
    simp only [allW, Bool.and_eq_true] at hw
    by_cases q : 0 < cntR f R fuel c m
    · exact cnt_pos hf hs hw.1 q
    · obtain ⟨j, hj, e⟩ := goneP_pos (show 0 < goneP (pthV f (R m) fuel) c ((pthV f (R m) fuel).length - 1) by omega)
      obtain ⟨k, hk⟩ := hs m
      obtain ⟨l1, l2, l3⟩ := pth_in hf hwm (hk hwm)
      have a1 := l2 j (by omega)
      have a2 := l2 (j + 1) (by omega)
      have a3 := l3 j (by omega)
      have h8 := (flow_out hf).1
      have e1 : c % 8 = ((pthV f (R m) fuel).getD (j + 1) 0).toNat := by omega
      have e2 : c / 8 = ((pthV f (R m) fuel).getD j 0).toNat := by omega
      rw [e1, e2]
      rcases a3 with a3 | a3
      · left; rw [← a3]; omega
      · right; rw [← a3]; omega
/-- A run comes to where it stands. -/
theorem stands_from (f : Nat → Bv) (ws : List Int) (fuel : Nat) : ∀ (m k : Nat), k + m = fuel → Alive f ws k → ∃ j, Stands f ws fuel j
  | 0, k, e, h => ⟨k, h, by omega, Or.inr (by omega)⟩
  | m + 1, k, e, h => by
    by_cases q : (flowTo f ws k).next < 0
    · exact ⟨k, h, by omega, Or.inl q⟩
    · refine stands_from f ws fuel m (k + 1) (by omega) (fun j hj => ?_)
      by_cases r : j = k
      · subst r; omega
      · exact h j (by omega)
theorem stands_ex (f : Nat → Bv) (ws : List Int) (fuel : Nat) : ∃ j, Stands f ws fuel j := stands_from f ws fuel fuel 0 (by omega) (fun j hj => by omega)
theorem cnt_le {f : Nat → Bv} {R : Nat → List Int} {fuel : Nat} (c : Nat) : ∀ m, cntR f R fuel c m ≤ fuel * m
  | 0 => Nat.le_refl _
  | m + 1 => by
    have h1 := cnt_le (f := f) (R := R) (fuel := fuel) c m
    obtain ⟨k, hk⟩ := stands_ex f (R m) fuel
    have h2 : (pthV f (R m) fuel).length = k := by rw [pth_is hk]; exact path_len _ _ _
    have h3 := goneP_le (pthV f (R m) fuel) c ((pthV f (R m) fuel).length - 1)
    have h4 := hk.2.1
    simp only [cntR]
    rw [Nat.mul_add, Nat.mul_one]
    omega
/-- What is asked of the arguments; what is told. -/
def okE (f : Nat → Bv) (n : Nat) (R : Nat → List Int) (m : Nat) (fuel : Int) : Bool := flowB f n && decide (m ≤ 10) && inR fuel 0 300 && allW R m
theorem okE_out {f : Nat → Bv} {n : Nat} {R : Nat → List Int} {m : Nat} {fuel : Int} (h : okE f n R m fuel = true) : flowB f n = true ∧ m ≤ 10 ∧ (0 ≤ fuel ∧ fuel ≤ 300) ∧ allW R m = true := by
  simp only [okE, Bool.and_eq_true] at h
  exact ⟨h.1.1.1, of_decide_eq_true h.1.1.2, inR_out h.1.2, h.2⟩
noncomputable def cntC (f : Nat → Bv) (R : Nat → List Int) (m : Nat) (fuel : Int) : Nat → Nat := fun c => cntR f R fuel.toNat c m
noncomputable def edgN (f : Nat → Bv) (n : Nat) (R : Nat → List Int) (m : Nat) (fuel : Int) : Nat := if okE f n R m fuel = true then edN (cntC f R m fuel) 64 else 0
noncomputable def edgZ (f : Nat → Bv) (n : Nat) (R : Nat → List Int) (m : Nat) (fuel : Int) : List Int := if okE f n R m fuel = true then edL (cntC f R m fuel) 64 else []
theorem edgZ_len (f : Nat → Bv) (n : Nat) (R : Nat → List Int) (m : Nat) (fuel : Int) : (edgZ f n R m fuel).length = edgN f n R m fuel * 3 := by
  unfold edgZ edgN
  split
  · exact ed_len _ _
  · rfl
theorem edg_few {f : Nat → Bv} {n : Nat} {R : Nat → List Int} {m : Nat} {fuel : Int} (h : okE f n R m fuel = true) : edN (cntC f R m fuel) 64 ≤ 16 := by
  obtain ⟨h1, _, _, h4⟩ := okE_out h
  exact ed_all (x := fun q => (f q).th) (y := fun q => (f q).el) (fun c hc hp => cnt_pos h1 (fun r => (stands_ex f (R r) fuel.toNat).imp fun k hk _ => hk) h4 hp) 8 (Nat.le_refl _)
theorem edgN_le (f : Nat → Bv) (n : Nat) (R : Nat → List Int) (m : Nat) (fuel : Int) : edgN f n R m fuel ≤ 16 := by
  unfold edgN
  split
  · exact edg_few ‹_›
  · omega
end Go.Proofs.Ytgknofbkdgbokaa.math
