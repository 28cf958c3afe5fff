/-
  Plain facts on numbering values: which value a step has, which values are there, which number each has: no Go program in sight.
-/
import Derived.Test.YtldmeffhbabanaaRunMath
import Derived.Test.YtldmeffhbabanaaNumKeys
namespace Go.Proofs.Ytldmeffhbabanaa.nums
open Go Go.Proofs.Ytldmeffhbabanaa.math
set_option linter.unusedVariables false

def zV : V := (0, 0, 0, 0)
def kon (n : Int) : V := (1, 0, 0, n)
/-- A value is put behind all where it is new. -/
def addV (vs : List V) (v : V) : List V := if v ∈ vs then vs else vs ++ [v]
theorem add_old {vs : List V} {v : V} (h : v ∈ vs) : addV vs v = vs := if_pos h
theorem add_new {vs : List V} {v : V} (h : v ∉ vs) : addV vs v = vs ++ [v] := if_neg h
theorem mem_add (vs : List V) (v : V) : v ∈ addV vs v := by
  unfold addV; split
  · assumption
  · simp
theorem mem_add_of {vs : List V} {u : V} (v : V) (h : u ∈ vs) : u ∈ addV vs v := by
  unfold addV; split
  · exact h
  · simp [h]
theorem add_len (vs : List V) (v : V) : (addV vs v).length ≤ vs.length + 1 := by
  unfold addV; split <;> simp
theorem add_len' (vs : List V) (v : V) : vs.length ≤ (addV vs v).length := by
  unfold addV; split <;> simp
theorem add_nodup {vs : List V} {v : V} (h : vs.Nodup) : (addV vs v).Nodup := by
  unfold addV; split
  · exact h
  · rename_i hv
    refine List.nodup_append.2 ⟨h, by simp, ?_⟩
    intro a ha b hb e
    simp at hb
    subst hb; subst e
    exact hv ha
theorem add_ok {vs : List V} {v : V} (h : ∀ u ∈ vs, okV u) (hv : okV v) : ∀ u ∈ addV vs v, okV u := by
  unfold addV; split
  · exact h
  · intro u hu
    simp at hu
    rcases hu with hu | rfl
    · exact h u hu
    · exact hv
/-- A value's number. -/
def idx (vs : List V) (v : V) : Nat := vs.idxOf v
theorem idx_lt {vs : List V} {v : V} (h : v ∈ vs) : idx vs v < vs.length := List.idxOf_lt_length_of_mem h
theorem idx_get {vs : List V} {v : V} (h : v ∈ vs) : vs.getD (idx vs v) zV = v := by
  have := idx_lt h
  unfold idx at this ⊢
  simp [List.getD, List.getElem?_eq_getElem this]
theorem idx_add {vs : List V} {u : V} (v : V) (h : u ∈ vs) : idx (addV vs v) u = idx vs u := by
  unfold addV; split
  · rfl
  · unfold idx; rw [List.idxOf_append, if_pos h]
theorem idx_new {vs : List V} {v : V} (h : v ∉ vs) : idx (vs ++ [v]) v = vs.length := by
  unfold idx
  rw [List.idxOf_append, if_neg h]
  simp
theorem idx_inj {vs : List V} {u v : V} (hu : u ∈ vs) (hv : v ∈ vs) (h : idx vs u = idx vs v) : u = v := by
  rw [← idx_get hu, h, idx_get hv]
theorem idx_at {vs : List V} (h : vs.Nodup) {k : Nat} (hk : k < vs.length) : idx vs (vs.getD k zV) = k := by
  have h1 : vs.getD k zV = vs[k] := by simp [List.getD, List.getElem?_eq_getElem hk]
  rw [h1]
  unfold idx
  exact h.idxOf_getElem k hk
theorem get_mem {vs : List V} {k : Nat} (hk : k < vs.length) : vs.getD k zV ∈ vs := by
  have h1 : vs.getD k zV = vs[k] := by simp [List.getD, List.getElem?_eq_getElem hk]
  rw [h1]; exact List.getElem_mem hk
theorem idx_is {vs : List V} {v : V} {k : Nat} (hk : k < vs.length) (h : vs.getD k zV = v) (g : ∀ i, i < k → vs.getD i zV ≠ v) : idx vs v = k := by
  have hm : v ∈ vs := h ▸ get_mem hk
  have h1 := idx_get hm
  rcases Nat.lt_trichotomy (idx vs v) k with h2 | h2 | h2
  · exact (g _ h2 h1).elim
  · exact h2
  · have h3 : vs[k] = v := by
      rw [← h]; simp [List.getD, List.getElem?_eq_getElem hk]
    have := List.not_of_lt_findIdx (p := (· == v)) (xs := vs) (i := k) (by unfold idx List.idxOf at h2; exact h2)
    simp [h3] at this
theorem not_mem_of {vs : List V} {v : V} (g : ∀ i, i < vs.length → vs.getD i zV ≠ v) : v ∉ vs := fun h => g _ (idx_lt h) (idx_get h)

/-- The value of a step of two. -/
def simpV (o : Int) (x y : V) : Option V :=
  if (o = 4 ∨ o = 6) ∧ x = y then some (kon 0)
  else if o = 7 ∧ x = y then some (kon 1)
  else if (o = 3 ∧ x = kon 0) ∨ (o = 5 ∧ x = kon 1) then some y
  else if ((o = 3 ∨ o = 4) ∧ y = kon 0) ∨ (o = 5 ∧ y = kon 1) then some x
  else if o = 5 ∧ (x = kon 0 ∨ y = kon 0) then some (kon 0)
  else none
def eitherB (o : Int) : Bool := decide (o = 3 ∨ o = 5 ∨ o = 7)
def plainV (vs : List V) (o : Int) (x y : V) : V :=
  if eitherB o = true ∧ idx vs y < idx vs x then (o, (idx vs y : Int), (idx vs x : Int), 0) else (o, (idx vs x : Int), (idx vs y : Int), 0)
def pairV (vs : List V) (o : Int) (x y : V) : V :=
  if x.1 = 1 ∧ y.1 = 1 then kon (doV o x.2.2.2 y.2.2.2) else (simpV o x y).getD (plainV vs o x y)
/-- The value of a step that sets a name. -/
def valV (vs ns : List V) (o a b n : Int) : V := if o = 1 then kon n else if o = 2 then ns.getD a.toNat zV else pairV vs o (ns.getD a.toNat zV) (ns.getD b.toNat zV)
def stepN (s : List V × List V) (o d a b n : Int) : List V × List V := if o = 8 then s else (addV s.1 (valV s.1 s.2 o a b n), s.2.set d.toNat (valV s.1 s.2 o a b n))
def startTo (k : Nat) : List V := (List.range k).map (fun i : Nat => ((8 : Int), (0 : Int), (0 : Int), (i : Int)))
theorem start_len (k : Nat) : (startTo k).length = k := by simp [startTo]
theorem start_succ (k : Nat) : startTo (k + 1) = startTo k ++ [(8, 0, 0, (k : Int))] := by simp [startTo, List.range_succ]
theorem start_new (k : Nat) : ((8, 0, 0, (k : Int)) : V) ∉ startTo k := by
  intro h
  simp [startTo] at h
  obtain ⟨a, h1, h2⟩ := h
  omega
theorem start_add (k : Nat) : addV (startTo k) (8, 0, 0, (k : Int)) = startTo (k + 1) := by rw [add_new (start_new k), start_succ]
theorem start_nodup : ∀ k, (startTo k).Nodup
  | 0 => by simp [startTo]
  | k + 1 => by rw [← start_add]; exact add_nodup (start_nodup k)
theorem start_ok {k : Nat} (hk : k ≤ 8) : ∀ v ∈ startTo k, okV v := by
  intro v hv
  simp [startTo] at hv
  obtain ⟨i, hi, rfl⟩ := hv
  exact ⟨⟨by simp, by simp⟩, ⟨by simp, by simp⟩, ⟨by simp, by simp⟩, ⟨by simp, by simp; omega⟩⟩
def numTo (zs : List Int) : Nat → List V × List V
  | 0 => (startTo 8, startTo 8)
  | k + 1 => stepN (numTo zs k) (zs.getD (k * 5) 0) (zs.getD (k * 5 + 1) 0) (zs.getD (k * 5 + 2) 0) (zs.getD (k * 5 + 3) 0) (zs.getD (k * 5 + 4) 0)
/-- What is so of the values and the names' values at each step. -/
structure Inv (vs ns : List V) (m : Nat) : Prop where
  nodup : vs.Nodup
  ok : ∀ v ∈ vs, okV v
  len : ns.length = 8
  mem : ∀ v ∈ ns, v ∈ vs
  room : vs.length ≤ m
theorem Inv.at {vs ns : List V} {m i : Nat} (h : Inv vs ns m) (hi : i < 8) : ns.getD i zV ∈ vs := by
  refine h.mem _ ?_
  have : i < ns.length := by rw [h.len]; exact hi
  have h1 : ns.getD i zV = ns[i] := by simp [List.getD, List.getElem?_eq_getElem this]
  rw [h1]; exact List.getElem_mem this
theorem kon_ok {n : Int} (h : 0 ≤ n ∧ n ≤ 65535) : okV (kon n) := ⟨⟨by simp [kon], by simp [kon]⟩, ⟨by simp [kon], by simp [kon]⟩, ⟨by simp [kon], by simp [kon]⟩, h⟩
theorem plain_ok {vs : List V} {o : Int} {x y : V} (ho : 3 ≤ o ∧ o ≤ 7) (hx : x ∈ vs) (hy : y ∈ vs) (hl : vs.length ≤ 65535) : okV (plainV vs o x y) := by
  have h1 := idx_lt hx
  have h2 := idx_lt hy
  unfold plainV
  split
  · exact ⟨⟨by simp; omega, by simp; omega⟩, ⟨by simp, by simp; omega⟩, ⟨by simp, by simp; omega⟩, ⟨by simp, by simp⟩⟩
  · exact ⟨⟨by simp; omega, by simp; omega⟩, ⟨by simp, by simp; omega⟩, ⟨by simp, by simp; omega⟩, ⟨by simp, by simp⟩⟩
theorem simp_ok {o : Int} {x y v : V} (hx : okV x) (hy : okV y) (h : simpV o x y = some v) : okV v := by
  unfold simpV at h
  repeat' split at h
  all_goals cases h
  all_goals first | assumption | exact kon_ok (by omega)
theorem pair_ok {vs : List V} {o : Int} {x y : V} (ho : 3 ≤ o ∧ o ≤ 7) (hx : x ∈ vs) (hy : y ∈ vs) (kx : okV x) (ky : okV y) (hl : vs.length ≤ 65535) : okV (pairV vs o x y) := by
  unfold pairV
  split
  · exact kon_ok do_bd
  · cases h : simpV o x y with
    | none => exact plain_ok ho hx hy hl
    | some v => exact simp_ok kx ky h
theorem val_ok {vs ns : List V} {m : Nat} {o d a b n : Int} (h : Inv vs ns m) (hm : m ≤ 65535) (g : goodI o d a b n = true) (h8 : o ≠ 8) : okV (valV vs ns o a b n) := by
  unfold valV
  rcases good_cases g with ⟨e, _, hn⟩ | ⟨e, _, ha⟩ | ⟨e, _⟩ | ⟨e, _, ha, hb⟩
  · rw [if_pos e]; exact kon_ok hn
  · rw [if_neg (by omega), if_pos e]; exact h.ok _ (h.at (by omega))
  · exact (h8 e).elim
  · rw [if_neg (by omega), if_neg (by omega)]
    have hx := h.at (i := a.toNat) (by omega)
    have hy := h.at (i := b.toNat) (by omega)
    exact pair_ok e hx hy (h.ok _ hx) (h.ok _ hy) (Nat.le_trans h.room hm)
theorem inv_start : Inv (startTo 8) (startTo 8) 8 := ⟨start_nodup 8, start_ok (Nat.le_refl _), start_len 8, fun _ h => h, Nat.le_of_eq (start_len 8)⟩
theorem inv_set {vs ns : List V} {m : Nat} {v : V} (h : Inv vs ns m) (hv : okV v) (j : Nat) : Inv (addV vs v) (ns.set j v) (m + 1) := by
  refine ⟨add_nodup h.nodup, add_ok h.ok hv, by simpa using h.len, ?_, Nat.le_trans (add_len vs v) (by have := h.room; omega)⟩
  intro u hu
  rcases List.mem_or_eq_of_mem_set hu with hu | rfl
  · exact mem_add_of v (h.mem u hu)
  · exact mem_add vs u
theorem inv_step {vs ns : List V} {m : Nat} {o d a b n : Int} (h : Inv vs ns m) (hm : m ≤ 65535) (g : goodI o d a b n = true) : Inv (stepN (vs, ns) o d a b n).1 (stepN (vs, ns) o d a b n).2 (m + 1) := by
  unfold stepN
  by_cases h8 : o = 8
  · rw [if_pos h8]; exact ⟨h.nodup, h.ok, h.len, h.mem, Nat.le_trans h.room (Nat.le_succ _)⟩
  · rw [if_neg h8]; exact inv_set h (val_ok h hm g h8) _
theorem inv_to {zs : List Int} {len : Nat} (hc : codeB zs len = true) : ∀ k, k ≤ len → Inv (numTo zs k).1 (numTo zs k).2 (8 + k)
  | 0, _ => inv_start
  | k + 1, hk => by
    have h := inv_to hc k (by omega)
    exact inv_step h (show 8 + k ≤ 65535 by have := (code_out hc).1; omega) ((code_out hc).2 k (by omega))
/-- The names' numbers. -/
def numsOf (vs ns : List V) : List Int := ns.map (fun v => (idx vs v : Int))
theorem nums_len (vs ns : List V) : (numsOf vs ns).length = ns.length := by simp [numsOf]
theorem nums_at {vs ns : List V} {i : Nat} (hi : i < ns.length) : (numsOf vs ns).getD i 0 = (idx vs (ns.getD i zV) : Int) := by
  simp [numsOf, List.getD, List.getElem?_eq_getElem hi]
theorem nums_add {vs ns : List V} {m : Nat} (h : Inv vs ns m) (v : V) : numsOf (addV vs v) ns = numsOf vs ns := by
  unfold numsOf
  refine List.map_congr_left (fun u hu => ?_)
  rw [idx_add v (h.mem u hu)]
theorem nums_set {vs ns : List V} {m : Nat} (h : Inv vs ns m) (v : V) (j : Nat) : numsOf (addV vs v) (ns.set j v) = (numsOf vs ns).set j (idx (addV vs v) v : Int) := by
  rw [← nums_add h v]
  unfold numsOf
  rw [List.map_set]
end Go.Proofs.Ytldmeffhbabanaa.nums
