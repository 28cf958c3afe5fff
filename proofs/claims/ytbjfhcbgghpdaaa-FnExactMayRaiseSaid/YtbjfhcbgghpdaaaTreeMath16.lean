/-
  Trees of cells, read from a list of numbers.
-/
import Derived.Test.YtbjfhcbgghpdaaaProg
import Derived.Test.YtbjfhcbgghpdaaaMagMath
import Derived.WalkKit
namespace Go.Proofs.Ytbjfhcbgghpdaaa.math
open Go.RowKit
set_option linter.unusedVariables false

inductive XT where
  | leaf (k n : Int)
  | one (k n : Int) (a : XT)
  | two (k n : Int) (a b : XT)
def XT.kind : XT → Int
  | .leaf k _ => k
  | .one k _ _ => k
  | .two k _ _ _ => k
def XT.num : XT → Int
  | .leaf _ n => n
  | .one _ n _ => n
  | .two _ n _ _ => n
def XT.kids : XT → List XT
  | .leaf _ _ => []
  | .one _ _ a => [a]
  | .two _ _ a b => [a, b]
def XT.kid (t : XT) (i : Nat) : XT := t.kids.getD i (.leaf 0 0)
theorem XT.ind {P : XT → Prop} (h : ∀ t : XT, (∀ i, i < t.kids.length → P (t.kid i)) → P t) : ∀ t, P t
  | .leaf k n => h _ (fun i hi => absurd hi (Nat.not_lt_zero _))
  | .one k n a => h _ (fun i hi => by
    match i, hi with
    | 0, _ => exact XT.ind h a)
  | .two k n a b => h _ (fun i hi => by
    match i, hi with
    | 0, _ => exact XT.ind h a
    | 1, _ => exact XT.ind h b)
/-- How many loops lie within one another. -/
def loopsX : XT → Nat
  | .leaf k _ => if k = 6 then 1 else 0
  | .one k _ a => loopsX a + if k = 6 then 1 else 0
  | .two k _ a b => max (loopsX a) (loopsX b) + if k = 6 then 1 else 0
/-- The most of the first parts. -/
def mostX (t : XT) : Nat → Nat
  | 0 => 0
  | i + 1 => max (mostX t i) (loopsX (t.kid i))
theorem loops_eq (t : XT) : loopsX t = mostX t t.kids.length + if t.kind = 6 then 1 else 0 := by
  cases t with
  | leaf k n => by_cases h : k = 6 <;> simp [loopsX, mostX, XT.kids, XT.kind, h]
  | one k n a => by_cases h : k = 6 <;> simp [loopsX, mostX, XT.kids, XT.kind, XT.kid, h]
  | two k n a b => by_cases h : k = 6 <;> simp [loopsX, mostX, XT.kids, XT.kind, XT.kid, h]
theorem kids_few (t : XT) : t.kids.length ≤ 2 := by cases t <;> simp [XT.kids]
theorem most_big (t : XT) : ∀ i, mostX t i ≤ mostX t (i + 1) := fun i => Nat.le_max_left _ _
/-- Of how many trees a cell is. -/
def arX (k : Int) : Nat := if k = 6 then 1 else if k = 3 ∨ k = 4 ∨ k = 5 then 2 else 0
theorem arX_few (k : Int) : arX k ≤ 2 := by unfold arX; split <;> (try split) <;> omega
/-- Whether a cell is good. -/
def cellX (k n : Int) : Bool :=
  if k = 1 then inR n 0 99 else
  if k = 2 then inR n 1 9 else
  if k = 3 then decide (n = 0) else
  if k = 4 then inR n 0 9 else
  if k = 5 then decide (n = 0) else
  if k = 6 then inR n 0 5 else false
theorem cellX_else {k n : Int} (h1 : k ≠ 1) (h2 : k ≠ 2) (h3 : k ≠ 3) (h4 : k ≠ 4) (h5 : k ≠ 5) (h6 : k ≠ 6) : cellX k n = false := by
  unfold cellX; rw [if_neg h1, if_neg h2, if_neg h3, if_neg h4, if_neg h5, if_neg h6]
theorem cellX_kind {k n : Int} (h : cellX k n = true) : 1 ≤ k ∧ k ≤ 6 := by
  by_cases h1 : k = 1; · omega
  by_cases h2 : k = 2; · omega
  by_cases h3 : k = 3; · omega
  by_cases h4 : k = 4; · omega
  by_cases h5 : k = 5; · omega
  by_cases h6 : k = 6; · omega
  rw [cellX_else h1 h2 h3 h4 h5 h6] at h; cases h
/-- Some trees, one behind the other. -/
def readK (rd : Nat → Option (XT × Nat)) : Nat → Nat → Option (List XT × Nat)
  | 0, at' => some ([], at')
  | m + 1, at' => match rd at' with
    | none => none
    | some (t, e) => match readK rd m e with
      | none => none
      | some (ts, e') => some (t :: ts, e')
def mkX (k n : Int) : List XT → XT
  | [] => .leaf k n
  | [a] => .one k n a
  | a :: b :: _ => .two k n a b
theorem mk_kind (k n : Int) (ts : List XT) : (mkX k n ts).kind = k := by
  match ts with
  | [] => rfl
  | [a] => rfl
  | a :: b :: _ => rfl
theorem mk_num (k n : Int) (ts : List XT) : (mkX k n ts).num = n := by
  match ts with
  | [] => rfl
  | [a] => rfl
  | a :: b :: _ => rfl
theorem mk_kids (k n : Int) {ts : List XT} (h : ts.length ≤ 2) : (mkX k n ts).kids = ts := by
  match ts, h with
  | [], _ => rfl
  | [a], _ => rfl
  | [a, b], _ => rfl
  | a :: b :: c :: r, h => simp at h
/-- A tree that is read from a place on, and where it ends. -/
def readX (kd nn : Nat → Int) (len : Nat) : Nat → Nat → Option (XT × Nat)
  | 0, _ => none
  | f + 1, at' => if at' < len ∧ cellX (kd at') (nn at') = true then
      (match readK (fun x => readX kd nn len f x) (arX (kd at')) (at' + 1) with
       | none => none
       | some (ts, e) => some (mkX (kd at') (nn at') ts, e))
    else none
theorem readX_no {kd nn : Nat → Int} {len f at' : Nat} (h : ¬ (at' < len ∧ cellX (kd at') (nn at') = true)) : readX kd nn len (f + 1) at' = none := by
  unfold readX; rw [if_neg h]
theorem readX_yes {kd nn : Nat → Int} {len f at' : Nat} (h : at' < len) (hc : cellX (kd at') (nn at') = true) : readX kd nn len (f + 1) at' = (match readK (fun x => readX kd nn len f x) (arX (kd at')) (at' + 1) with
       | none => none
       | some (ts, e) => some (mkX (kd at') (nn at') ts, e)) := by
  rw [readX, if_pos ⟨h, hc⟩]
theorem readK_len {rd : Nat → Option (XT × Nat)} : ∀ {m at' : Nat} {ts : List XT} {e : Nat}, readK rd m at' = some (ts, e) → ts.length = m
  | 0, at', ts, e, h => by simp [readK] at h; rw [h.1]; rfl
  | m + 1, at', ts, e, h => by
    unfold readK at h
    split at h
    · cases h
    · split at h
      · cases h
      · rename_i q
        simp only [Option.some.injEq, Prod.mk.injEq] at h
        rw [← h.1, List.length_cons, readK_len q]
theorem readK_at {rd : Nat → Option (XT × Nat)} {len : Nat} (hr : ∀ x t e, rd x = some (t, e) → x < e ∧ e ≤ len) : ∀ {m at' : Nat} {ts : List XT} {e : Nat}, at' ≤ len → readK rd m at' = some (ts, e) → at' ≤ e ∧ e ≤ len
  | 0, at', ts, e, h0, h => by simp [readK] at h; rw [← h.2]; exact ⟨Nat.le_refl _, h0⟩
  | m + 1, at', ts, e, h0, h => by
    unfold readK at h
    split at h
    · cases h
    · rename_i q
      split at h
      · cases h
      · rename_i q2
        simp only [Option.some.injEq, Prod.mk.injEq] at h
        have h1 := hr _ _ _ q
        have h2 := readK_at hr h1.2 q2
        omega
theorem readX_at {kd nn : Nat → Int} {len : Nat} : ∀ {f at' : Nat} {t : XT} {e : Nat}, readX kd nn len f at' = some (t, e) → at' < e ∧ e ≤ len
  | 0, at', t, e, h => by simp [readX] at h
  | f + 1, at', t, e, h => by
    by_cases hc : at' < len ∧ cellX (kd at') (nn at') = true
    · rw [readX_yes hc.1 hc.2] at h
      split at h
      · cases h
      · rename_i q
        simp only [Option.some.injEq, Prod.mk.injEq] at h
        have := readK_at (fun x t e hx => readX_at hx) (by omega) q
        omega
    · rw [readX_no hc] at h; cases h
theorem kid_loops (t : XT) {i : Nat} (hi : i < t.kids.length) : loopsX (t.kid i) ≤ loopsX t := by
  cases t with
  | leaf k n => exact absurd hi (Nat.not_lt_zero _)
  | one k n a =>
    match i, hi with
    | 0, _ => exact Nat.le_add_right _ _
  | two k n a b =>
    match i, hi with
    | 0, _ => exact Nat.le_trans (Nat.le_max_left _ _) (Nat.le_add_right _ _)
    | 1, _ => exact Nat.le_trans (Nat.le_max_right _ _) (Nat.le_add_right _ _)
theorem most_le (t : XT) : ∀ i, i ≤ t.kids.length → mostX t i ≤ loopsX t
  | 0, _ => Nat.zero_le _
  | i + 1, h => Nat.max_le.2 ⟨most_le t i (by omega), kid_loops t (by omega)⟩
theorem readX_loops {kd nn : Nat → Int} {len : Nat} : ∀ {f at' : Nat} {t : XT} {e : Nat}, readX kd nn len f at' = some (t, e) → at' + loopsX t ≤ e ∧ at' < e
  | 0, at', t, e, h => by simp [readX] at h
  | f + 1, at', t, e, h => by
    have h0 := readX_at h
    by_cases hc : at' < len ∧ cellX (kd at') (nn at') = true
    · rw [readX_yes hc.1 hc.2] at h
      have hd : (if kd at' = 6 then 1 else 0) ≤ 1 := by split <;> omega
      split at h
      · cases h
      · rename_i ts e2 q
        simp only [Option.some.injEq, Prod.mk.injEq] at h
        have hl := readK_len q
        have hk : at' + 1 ≤ e2 ∧ ∀ s, s ∈ ts → at' + 1 + loopsX s ≤ e2 := by
          have hg : ∀ (m a : Nat) (ts : List XT) (e2 : Nat), readK (fun x => readX kd nn len f x) m a = some (ts, e2) → a ≤ e2 ∧ ∀ s, s ∈ ts → a + loopsX s ≤ e2 := by
            intro m
            induction m with
            | zero => intro a ts e2 q; simp [readK] at q; rw [q.1]; exact ⟨by omega, fun s hs => by cases hs⟩
            | succ m ih =>
              intro a ts e2 q
              unfold readK at q
              split at q
              · cases q
              · rename_i q1
                split at q
                · cases q
                · rename_i q2
                  simp only [Option.some.injEq, Prod.mk.injEq] at q
                  have r1 := readX_loops (f := f) q1
                  have r2 := ih _ _ _ q2
                  rw [← q.1, ← q.2]
                  refine ⟨by omega, fun s hs => ?_⟩
                  rcases List.mem_cons.1 hs with r | r
                  · rw [r]; omega
                  · have := r2.2 s r; omega
          exact hg _ _ _ _ q
        refine ⟨?_, h0.1⟩
        rw [← h.1, ← h.2]
        match ts, hl, hk with
        | [], hl, hk => show at' + (if kd at' = 6 then 1 else 0) ≤ _; omega
        | [a], hl, hk => have := hk.2 a (by simp); show at' + (loopsX a + (if kd at' = 6 then 1 else 0)) ≤ _; omega
        | [a, b], hl, hk => have := hk.2 a (by simp); have := hk.2 b (by simp); show at' + (max (loopsX a) (loopsX b) + (if kd at' = 6 then 1 else 0)) ≤ _; omega
        | a :: b :: c :: r, hl, hk =>
          have := arX_few (kd at')
          simp at hl; omega
    · rw [readX_no hc] at h; cases h
/-- What a tree that was read is of. -/
def WfX : XT → Prop
  | .leaf k n => cellX k n = true ∧ arX k = 0
  | .one k n a => cellX k n = true ∧ arX k = 1 ∧ WfX a
  | .two k n a b => cellX k n = true ∧ arX k = 2 ∧ WfX a ∧ WfX b
theorem readX_wf {kd nn : Nat → Int} {len : Nat} : ∀ {f at' : Nat} {t : XT} {e : Nat}, readX kd nn len f at' = some (t, e) → WfX t
  | 0, at', t, e, h => by simp [readX] at h
  | f + 1, at', t, e, h => by
    by_cases hc : at' < len ∧ cellX (kd at') (nn at') = true
    · rw [readX_yes hc.1 hc.2] at h
      have hw : ∀ {m a2 : Nat} {ts : List XT} {e : Nat}, readK (fun x => readX kd nn len f x) m a2 = some (ts, e) → ∀ s, s ∈ ts → WfX s := by
        intro m
        induction m with
        | zero => intro a2 ts e h s hs; simp [readK] at h; rw [h.1] at hs; cases hs
        | succ m ih =>
          intro a2 ts e h s hs
          unfold readK at h
          split at h
          · cases h
          · rename_i q
            split at h
            · cases h
            · rename_i q2
              simp only [Option.some.injEq, Prod.mk.injEq] at h
              rw [← h.1] at hs
              rcases List.mem_cons.1 hs with r | r
              · rw [r]; exact readX_wf q
              · exact ih q2 s r
      split at h
      · cases h
      · rename_i ts e2 q
        simp only [Option.some.injEq, Prod.mk.injEq] at h
        have hl := readK_len q
        have hk := hw q
        rw [← h.1]
        match ts, hl, hk with
        | [], hl, hk => exact ⟨hc.2, hl.symm⟩
        | [a], hl, hk => exact ⟨hc.2, hl.symm, hk a (by simp)⟩
        | [a, b], hl, hk => exact ⟨hc.2, hl.symm, hk a (by simp), hk b (by simp)⟩
        | a :: b :: c :: r, hl, hk =>
          have := arX_few (kd at')
          simp at hl; omega
    · rw [readX_no hc] at h; cases h
/-- Read within so many loops. -/
def readI (kd nn : Nat → Int) (len : Nat) : Nat → Nat → Nat → Option (XT × Nat)
  | 0, _, _ => none
  | f + 1, at', l => if at' < len ∧ cellX (kd at') (nn at') = true then
      (if l + (if kd at' = 6 then 1 else 0) ≤ 3 then
        (match readK (fun x => readI kd nn len f x (l + (if kd at' = 6 then 1 else 0))) (arX (kd at')) (at' + 1) with
         | none => none
         | some (ts, e) => some (mkX (kd at') (nn at') ts, e))
       else none)
    else none
def lim (l : Nat) : Option (XT × Nat) → Option (XT × Nat)
  | none => none
  | some (t, e) => if l + loopsX t ≤ 3 then some (t, e) else none
theorem readI_eq {kd nn : Nat → Int} {len : Nat} : ∀ (f at' l : Nat), readI kd nn len f at' l = lim l (readX kd nn len f at')
  | 0, at', l => rfl
  | f + 1, at', l => by
    by_cases hc : at' < len ∧ cellX (kd at') (nn at') = true
    rotate_left
    · rw [readX_no hc]; unfold readI; rw [if_neg hc]; rfl
    rw [readX_yes hc.1 hc.2]
    unfold readI
    rw [if_pos hc]
    generalize hL : (if kd at' = 6 then 1 else 0) = d
    have ha := arX_few (kd at')
    generalize hA : arX (kd at') = m at ha
    have ih := fun x l => readI_eq (kd := kd) (nn := nn) (len := len) f x l
    simp only [ih]
    match m, ha with
    | 0, _ =>
      simp only [readK, mkX, lim, loopsX, hL]
    | 1, _ =>
      simp only [readK]
      cases h1 : readX kd nn len f (at' + 1) with
      | none => simp [lim]
      | some p =>
        obtain ⟨t1, e1⟩ := p
        simp only [lim, mkX, loopsX, hL]
        by_cases q : l + d + loopsX t1 ≤ 3
        · rw [if_pos q, if_pos (show l + d ≤ 3 by omega), if_pos (show l + (loopsX t1 + d) ≤ 3 by omega)]
        · rw [if_neg q, if_neg (show ¬ l + (loopsX t1 + d) ≤ 3 by omega)]; simp
    | 2, _ =>
      simp only [readK]
      cases h1 : readX kd nn len f (at' + 1) with
      | none => simp [lim]
      | some p =>
        obtain ⟨t1, e1⟩ := p
        simp only [lim]
        by_cases q : l + d + loopsX t1 ≤ 3
        · rw [if_pos q, if_pos (show l + d ≤ 3 by omega)]
          cases h2 : readX kd nn len f e1 with
          | none => simp [h2]
          | some p2 =>
            obtain ⟨t2, e2⟩ := p2
            simp only [mkX, loopsX, hL, h2]
            by_cases q2 : l + d + loopsX t2 ≤ 3
            · rw [if_pos q2, if_pos (show l + (max (loopsX t1) (loopsX t2) + d) ≤ 3 by omega)]
            · rw [if_neg q2, if_neg (show ¬ l + (max (loopsX t1) (loopsX t2) + d) ≤ 3 by omega)]
        · rw [if_neg q]
          cases h2 : readX kd nn len f e1 with
          | none => simp
          | some p2 =>
            obtain ⟨t2, e2⟩ := p2
            simp only [mkX, loopsX, hL]
            rw [if_neg (show ¬ l + (max (loopsX t1) (loopsX t2) + d) ≤ 3 by omega)]; simp
/-- The tree of a list of cells, where it is good. -/
def treeX (kd nn : Nat → Int) (len : Nat) : Option XT :=
  if len ≤ 30 then
    (match readX kd nn len (len + 1) 0 with
     | none => none
     | some (t, e) => if e = len ∧ loopsX t ≤ 3 then some t else none)
  else none
def goodX (kd nn : Nat → Int) (len : Nat) : Bool := (treeX kd nn len).isSome
theorem treeX_wf {kd nn : Nat → Int} {len : Nat} {t : XT} (h : treeX kd nn len = some t) : WfX t := by
  unfold treeX at h
  split at h
  · split at h
    · cases h
    · rename_i q
      split at h
      · simp only [Option.some.injEq] at h
        rw [← h]; exact readX_wf q
      · cases h
  · cases h
end Go.Proofs.Ytbjfhcbgghpdaaa.math
