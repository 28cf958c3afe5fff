/-
  Plain facts: each name's word is its value's word (Cocke and Schwartz): no Go program in sight.
-/
import Derived.Test.YtldmeffhbabanaaNumMath
namespace Go.Proofs.Ytldmeffhbabanaa.nums
open Go Go.Proofs.Ytldmeffhbabanaa.math
set_option linter.unusedVariables false

/-- A value's word, where the values' words are D and the first words ws. -/
def wordV (ws D : List Int) (v : V) : Int := if v.1 = 8 then ws.getD v.2.2.2.toNat 0 else if v.1 = 1 then v.2.2.2 else doV v.1 (D.getD v.2.1.toNat 0) (D.getD v.2.2.1.toNat 0)
/-- D are the words of the values vs. -/
structure Den (ws : List Int) (vs : List V) (D : List Int) : Prop where
  len : D.length = vs.length
  word : ∀ k, k < vs.length → D.getD k 0 = wordV ws D (vs.getD k zV)
  refs : ∀ v ∈ vs, v.1 ≠ 8 → v.1 ≠ 1 → (0 ≤ v.2.1 ∧ v.2.1.toNat < vs.length) ∧ (0 ≤ v.2.2.1 ∧ v.2.2.1.toNat < vs.length)
  bd : ∀ k, k < vs.length → 0 ≤ D.getD k 0 ∧ D.getD k 0 ≤ 65535
theorem getD_app {D E : List Int} {k : Nat} (h : k < D.length) : (D ++ E).getD k 0 = D.getD k 0 := by simp [List.getD, List.getElem?_append_left h]
theorem getD_last (D : List Int) (w : Int) : (D ++ [w]).getD D.length 0 = w := by simp [List.getD]
theorem getV_app {vs : List V} {v : V} {k : Nat} (h : k < vs.length) : (vs ++ [v]).getD k zV = vs.getD k zV := by simp [List.getD, List.getElem?_append_left h]
theorem getV_last (vs : List V) (v : V) : (vs ++ [v]).getD vs.length zV = v := by simp [List.getD]
theorem word_app {ws D : List Int} {v : V} (w : Int) (h : v.1 ≠ 8 → v.1 ≠ 1 → v.2.1.toNat < D.length ∧ v.2.2.1.toNat < D.length) : wordV ws (D ++ [w]) v = wordV ws D v := by
  unfold wordV
  by_cases h8 : v.1 = 8
  · rw [if_pos h8, if_pos h8]
  · rw [if_neg h8, if_neg h8]
    by_cases h1 : v.1 = 1
    · rw [if_pos h1, if_pos h1]
    · rw [if_neg h1, if_neg h1, getD_app (h h8 h1).1, getD_app (h h8 h1).2]
/-- One value more. -/
theorem Den.add {ws : List Int} {vs : List V} {D : List Int} {v : V} (h : Den ws vs D) (hv : v ∉ vs) (hr : v.1 ≠ 8 → v.1 ≠ 1 → (0 ≤ v.2.1 ∧ v.2.1.toNat < vs.length) ∧ (0 ≤ v.2.2.1 ∧ v.2.2.1.toNat < vs.length)) (hb : 0 ≤ wordV ws D v ∧ wordV ws D v ≤ 65535) : Den ws (vs ++ [v]) (D ++ [wordV ws D v]) := by
  have hl := h.len
  refine ⟨by simp [hl], ?_, ?_, ?_⟩
  · intro k hk
    simp at hk
    by_cases e : k < vs.length
    · rw [getD_app (by omega), getV_app e, word_app _ (fun a b => by have := h.refs _ (get_mem e) a b; omega)]
      exact h.word k e
    · have : k = vs.length := by omega
      subst this
      rw [getV_last, ← hl, getD_last, word_app _ (fun a b => by have := hr a b; omega)]
  · intro u hu a b
    simp at hu ⊢
    rcases hu with hu | rfl
    · have := h.refs u hu a b; omega
    · have := hr a b; omega
  · intro k hk
    simp at hk
    by_cases e : k < vs.length
    · rw [getD_app (by omega)]; exact h.bd k e
    · have : k = vs.length := by omega
      subst this
      rw [← hl, getD_last]; exact hb
/-- The values and the names, and the words, at a step. -/
structure Snd (ws : List Int) (vs ns : List V) (cur : List Int) (D : List Int) : Prop where
  den : Den ws vs D
  words : ∀ i, i < 8 → cur.getD i 0 = D.getD (idx vs (ns.getD i zV)) 0
theorem Den.of {ws : List Int} {vs : List V} {D : List Int} {v : V} (h : Den ws vs D) (hv : v ∈ vs) : D.getD (idx vs v) 0 = wordV ws D v := by
  rw [h.word _ (idx_lt hv), idx_get hv]
theorem doV_comm {o a b : Int} (h : o = 3 ∨ o = 5 ∨ o = 7) : doV o a b = doV o b a := by
  rcases h with rfl | rfl | rfl
  · unfold doV; simp [Int.add_comm]
  · unfold doV; simp [Int.mul_comm]
  · unfold doV; simp [eq_comm]
/-- The word of a step of two is its value's. -/
theorem pair_word {ws : List Int} {vs : List V} {D : List Int} {o : Int} {x y : V} (h : Den ws vs D) (hx : x ∈ vs) (hy : y ∈ vs) (o3 : 3 ≤ o) (o7 : o ≤ 7) : wordV ws D (pairV vs o x y) = doV o (wordV ws D x) (wordV ws D y) := by
  have bx := h.bd _ (idx_lt hx)
  have by' := h.bd _ (idx_lt hy)
  rw [h.of hx] at bx
  rw [h.of hy] at by'
  have k0 : wordV ws D (kon 0) = 0 := by simp [wordV, kon]
  have k1 : wordV ws D (kon 1) = 1 := by simp [wordV, kon]
  unfold pairV
  by_cases hc : x.1 = 1 ∧ y.1 = 1
  · rw [if_pos hc]
    have e1 : wordV ws D x = x.2.2.2 := by unfold wordV; rw [if_neg (by omega), if_pos hc.1]
    have e2 : wordV ws D y = y.2.2.2 := by unfold wordV; rw [if_neg (by omega), if_pos hc.2]
    rw [e1, e2]
    simp [wordV, kon]
  · rw [if_neg hc]
    unfold simpV
    split
    · rename_i hh
      obtain ⟨ho, rfl⟩ := hh
      simp only [Option.getD_some, k0]
      rcases ho with rfl | rfl <;> simp [doV]
    · split
      · rename_i hh
        obtain ⟨rfl, rfl⟩ := hh
        simp only [Option.getD_some, k1]
        simp [doV]
      · split
        · rename_i hh
          simp only [Option.getD_some]
          rcases hh with ⟨rfl, rfl⟩ | ⟨rfl, rfl⟩
          · rw [k0]; simp [doV]; omega
          · rw [k1]; simp [doV]; omega
        · split
          · rename_i hh
            simp only [Option.getD_some]
            rcases hh with ⟨rfl | rfl, rfl⟩ | ⟨rfl, rfl⟩
            · rw [k0]; simp [doV]; omega
            · rw [k0]; simp [doV]; omega
            · rw [k1]; simp [doV]; omega
          · split
            · rename_i hh
              simp only [Option.getD_some, k0]
              obtain ⟨rfl, rfl | rfl⟩ := hh
              · rw [k0]; simp [doV]
              · rw [k0]; simp [doV]
            · simp only [Option.getD_none]
              have w1 : ∀ i j : Nat, wordV ws D (o, (i : Int), (j : Int), 0) = doV o (D.getD i 0) (D.getD j 0) := by
                intro i j
                unfold wordV
                rw [if_neg (by simp; omega), if_neg (by simp; omega)]
                simp
              unfold plainV
              split
              · rename_i hh
                rw [w1, h.of hx, h.of hy]
                exact doV_comm (by simpa [eitherB] using hh.1)
              · rw [w1, h.of hx, h.of hy]
/-- The word of a step that sets a name. -/
theorem val_word {ws cur : List Int} {vs ns : List V} {D : List Int} {m : Nat} {o d a b n : Int} (hI : Inv vs ns m) (h : Snd ws vs ns cur D) (g : goodI o d a b n = true) (h8 : o ≠ 8) : wordV ws D (valV vs ns o a b n) = if o = 1 then n else if o = 2 then cur.getD a.toNat 0 else doV o (cur.getD a.toNat 0) (cur.getD b.toNat 0) := by
  unfold valV
  rcases good_cases g with ⟨e, _, hn⟩ | ⟨e, _, ha⟩ | ⟨e, _⟩ | ⟨e, _, ha, hb⟩
  · rw [if_pos e, if_pos e]; simp [wordV, kon]
  · rw [if_neg (by omega), if_pos e, if_neg (by omega), if_pos e, h.words _ (by omega), h.den.of (hI.at (by omega))]
  · exact (h8 e).elim
  · rw [if_neg (by omega), if_neg (by omega), if_neg (by omega), if_neg (by omega), h.words _ (by omega), h.words _ (by omega)]
    have mx := hI.at (i := a.toNat) (by omega)
    have my := hI.at (i := b.toNat) (by omega)
    rw [pair_word h.den mx my e.1 e.2, h.den.of mx, h.den.of my]
theorem val_refs {vs ns : List V} {m : Nat} {o d a b n : Int} (hI : Inv vs ns m) (g : goodI o d a b n = true) (h8 : o ≠ 8) (hn : valV vs ns o a b n ∉ vs) : (valV vs ns o a b n).1 ≠ 8 → (valV vs ns o a b n).1 ≠ 1 → (0 ≤ (valV vs ns o a b n).2.1 ∧ (valV vs ns o a b n).2.1.toNat < vs.length) ∧ (0 ≤ (valV vs ns o a b n).2.2.1 ∧ (valV vs ns o a b n).2.2.1.toNat < vs.length) := by
  intro k8 k1
  unfold valV at hn k1 ⊢
  rcases good_cases g with ⟨e, _, _⟩ | ⟨e, _, ha⟩ | ⟨e, _⟩ | ⟨e, _, ha, hb⟩
  · rw [if_pos e] at k1; exact (k1 rfl).elim
  · rw [if_neg (by omega), if_pos e] at hn; exact (hn (hI.at (by omega))).elim
  · exact (h8 e).elim
  · rw [if_neg (by omega), if_neg (by omega)] at hn k1 ⊢
    have mx := hI.at (i := a.toNat) (by omega)
    have my := hI.at (i := b.toNat) (by omega)
    have lx := idx_lt mx
    have ly := idx_lt my
    generalize ns.getD a.toNat zV = x at mx lx hn k1 ⊢
    generalize ns.getD b.toNat zV = y at my ly hn k1 ⊢
    unfold pairV at hn k1 ⊢
    split at k1
    · exact (k1 rfl).elim
    · rename_i hc
      rw [if_neg hc] at hn ⊢
      cases hs : simpV o x y with
      | none =>
        simp only [Option.getD_none]
        unfold plainV
        split
        · refine ⟨⟨?_, ?_⟩, ?_, ?_⟩ <;> simp <;> omega
        · refine ⟨⟨?_, ?_⟩, ?_, ?_⟩ <;> simp <;> omega
      | some v =>
        rw [hs] at hn k1
        simp only [Option.getD_some] at hn k1
        unfold simpV at hs
        repeat' split at hs
        all_goals cases hs
        all_goals first | exact (k1 rfl).elim | exact (hn mx).elim | exact (hn my).elim
theorem set_get {l : List Int} {j i : Nat} {x : Int} (hj : j < l.length) : (l.set j x).getD i 0 = if i = j then x else l.getD i 0 := by
  by_cases e : i = j
  · subst e
    simp [List.getD, List.getElem?_set_self hj]
  · rw [if_neg e]
    simp [List.getD, List.getElem?_set_ne (Ne.symm e)]
theorem setV_get {l : List V} {j i : Nat} {x : V} (hj : j < l.length) : (l.set j x).getD i zV = if i = j then x else l.getD i zV := by
  by_cases e : i = j
  · subst e
    simp [List.getD, List.getElem?_set_self hj]
  · rw [if_neg e]
    simp [List.getD, List.getElem?_set_ne (Ne.symm e)]
theorem dst_of {o d a b n : Int} (g : goodI o d a b n = true) (h8 : o ≠ 8) : 0 ≤ d ∧ d ≤ 7 := by
  rcases good_cases g with ⟨_, hd, _⟩ | ⟨_, hd, _⟩ | ⟨e, _⟩ | ⟨_, hd, _⟩
  · exact hd
  · exact hd
  · exact (h8 e).elim
  · exact hd
theorem snd_step {ws cur : List Int} {vs ns : List V} {D : List Int} {m : Nat} {o d a b n : Int} (hI : Inv vs ns m) (hm : m ≤ 65535) (hc : wordsB cur = true) (h : Snd ws vs ns cur D) (g : goodI o d a b n = true) : ∃ D', Snd ws (stepN (vs, ns) o d a b n).1 (stepN (vs, ns) o d a b n).2 (stepW cur o d a b n) D' := by
  unfold stepN stepW
  by_cases h8 : o = 8
  · rw [if_pos h8, if_pos h8]; exact ⟨D, h⟩
  · rw [if_neg h8, if_neg h8, ← val_word hI h g h8]
    have hd := dst_of g h8
    have hcl := (words_out hc).1
    have hv := val_ok hI hm g h8
    have hbw : 0 ≤ wordV ws D (valV vs ns o a b n) ∧ wordV ws D (valV vs ns o a b n) ≤ 65535 := by
      rw [val_word hI h g h8]
      rcases good_cases g with ⟨e, _, hn⟩ | ⟨e, _, ha⟩ | ⟨e, _⟩ | ⟨e, _, ha, hb⟩
      · rw [if_pos e]; exact hn
      · rw [if_neg (by omega), if_pos e]; exact word_at hc (by omega)
      · exact (h8 e).elim
      · rw [if_neg (by omega), if_neg (by omega)]; exact do_bd
    have hrf := fun hn => val_refs hI g h8 hn
    generalize valV vs ns o a b n = v at hv hbw hrf ⊢
    by_cases hm' : v ∈ vs
    · refine ⟨D, by simp only [add_old hm']; exact h.den, fun i hi => ?_⟩
      simp only [add_old hm']
      rw [set_get (by omega), setV_get (by rw [hI.len]; omega)]
      split
      · rw [h.den.of hm']
      · exact h.words i hi
    · refine ⟨D ++ [wordV ws D v], by simp only [add_new hm']; exact h.den.add hm' (hrf hm') hbw, fun i hi => ?_⟩
      simp only [add_new hm']
      rw [set_get (by omega), setV_get (by rw [hI.len]; omega)]
      split
      · rw [idx_new hm', ← h.den.len, getD_last]
      · have hmi := hI.at hi
        rw [← add_new hm', idx_add v hmi, getD_app (by rw [h.den.len]; exact idx_lt hmi)]
        exact h.words i hi
theorem start_get {k i : Nat} (hi : i < k) : (startTo k).getD i zV = (8, 0, 0, (i : Int)) := by
  simp [startTo, List.getD, hi]
theorem snd_to {zs ws : List Int} {len : Nat} (hc : codeB zs len = true) (hw : wordsB ws = true) : ∀ k, k ≤ len → ∃ D, Snd ws (numTo zs k).1 (numTo zs k).2 (runW zs ws k) D
  | 0, _ => by
    have hl := (words_out hw).1
    refine ⟨ws, ⟨by simp [numTo, start_len, hl], ?_, ?_, ?_⟩, ?_⟩
    · intro k hk
      simp only [numTo, start_len] at hk ⊢
      rw [start_get hk]
      simp [wordV]
    · intro v hv h8
      simp only [numTo, startTo, List.mem_map] at hv
      obtain ⟨i, _, rfl⟩ := hv
      exact (h8 rfl).elim
    · intro k hk
      simp only [numTo, start_len] at hk
      exact word_at hw hk
    · intro i hi
      simp only [numTo, runW]
      rw [idx_at (start_nodup 8) (by rw [start_len]; exact hi)]
  | k + 1, hk => by
    obtain ⟨D, hD⟩ := snd_to hc hw k (by omega)
    have h30 := (code_out hc).1
    exact snd_step (inv_to hc k (by omega)) (show 8 + k ≤ 65535 by omega) (run_words hw (code_out hc).2 k (by omega)) hD ((code_out hc).2 k (by omega))
end Go.Proofs.Ytldmeffhbabanaa.nums
