/-
  Ranges as plain data: which are good, what two of them join, meet and widen to, what a step of two makes of them.
-/
import Derived.Test.YtoeiijkomjlolabMagMath
import Derived.Test.YtoeiijkomjlolabRunMath
import Derived.WalkKit
namespace Go.Proofs.Ytoeiijkomjlolab.math

/-- A range: no word; from; to. -/
structure Rv where
  e : Bool
  lo : Int
  hi : Int
deriving DecidableEq
def Rv.val (r : Rv) : Value := .agg #[.bool r.e, .int .i64 r.lo, .int .i64 r.hi]
def noneR : Rv := ⟨true, 0, 0⟩
def allR : Rv := ⟨false, 0, 65535⟩
def goodR (e : Bool) (lo hi : Int) : Bool := match e with
  | true => (lo == 0) && (hi == 0)
  | false => inR lo 0 65535 && inR hi lo 65535
def Rv.good (r : Rv) : Bool := goodR r.e r.lo r.hi
def leastI (a b : Int) : Int := if a < b then a else b
def mostI (a b : Int) : Int := if b < a then a else b
def joinR (a b : Rv) : Rv := if a.e = true then b else if b.e = true then a else ⟨false, leastI a.lo b.lo, mostI a.hi b.hi⟩
def meetR (a b : Rv) : Rv := if a.e = true ∨ b.e = true ∨ leastI a.hi b.hi < mostI a.lo b.lo then noneR else ⟨false, mostI a.lo b.lo, leastI a.hi b.hi⟩
def widenR (a b : Rv) : Rv := if a.e = true then b else if b.e = true then a else ⟨false, if b.lo < a.lo then 0 else a.lo, if a.hi < b.hi then 65535 else a.hi⟩
def spanR (lo hi : Int) : Rv := if lo < 0 ∨ 65535 < hi then allR else ⟨false, lo, hi⟩
def lessR (a b : Rv) : Rv := if a.hi < b.lo then ⟨false, 1, 1⟩ else if b.hi ≤ a.lo then ⟨false, 0, 0⟩ else ⟨false, 0, 1⟩
def equalR (a b : Rv) : Rv := if (meetR a b).e = true then ⟨false, 0, 0⟩ else ⟨false, 0, 1⟩
/-- What a step of two makes of two ranges. -/
def twoR (op : Int) (a b : Rv) : Rv :=
  if a.e = true ∨ b.e = true then noneR
  else if op = 3 then spanR (a.lo + b.lo) (a.hi + b.hi)
  else if op = 4 then spanR (a.lo - b.hi) (a.hi - b.lo)
  else if op = 5 then spanR (a.lo * b.lo) (a.hi * b.hi)
  else if op = 6 then lessR a b
  else equalR a b
theorem good_full {r : Rv} (h : r.good = true) (k : r.e = false) : 0 ≤ r.lo ∧ r.lo ≤ r.hi ∧ r.hi ≤ 65535 := by
  obtain ⟨e, lo, hi⟩ := r
  simp at k
  subst k
  simp only [Rv.good, goodR, Bool.and_eq_true] at h
  have h1 := inR_out h.1
  have h2 := inR_out h.2
  simp only
  omega
theorem good_none {r : Rv} (h : r.good = true) (k : r.e = true) : r = noneR := by
  obtain ⟨e, lo, hi⟩ := r
  simp at k
  subst k
  simp [Rv.good, goodR] at h
  simp [noneR, h]
theorem full_good {lo hi : Int} (h0 : 0 ≤ lo) (h1 : lo ≤ hi) (h2 : hi ≤ 65535) : (⟨false, lo, hi⟩ : Rv).good = true := by
  simp only [Rv.good, goodR, inR_mk h0 (by omega : lo ≤ 65535), inR_mk h1 h2]; rfl
theorem good_noneR : noneR.good = true := rfl
theorem good_allR : allR.good = true := rfl
theorem good_joinR {a b : Rv} (ha : a.good = true) (hb : b.good = true) : (joinR a b).good = true := by
  unfold joinR
  split
  · exact hb
  · split
    · exact ha
    · rename_i h1 h2
      have g1 := good_full ha (by simpa using h1)
      have g2 := good_full hb (by simpa using h2)
      refine full_good ?_ ?_ ?_ <;> (try unfold leastI) <;> (try unfold mostI) <;> repeat' split
      all_goals omega
theorem good_widenR {a b : Rv} (ha : a.good = true) (hb : b.good = true) : (widenR a b).good = true := by
  unfold widenR
  split
  · exact hb
  · split
    · exact ha
    · rename_i h1 h2
      have g1 := good_full ha (by simpa using h1)
      have g2 := good_full hb (by simpa using h2)
      refine full_good ?_ ?_ ?_ <;> repeat' split
      all_goals omega
theorem good_meetR {a b : Rv} (ha : a.good = true) (hb : b.good = true) : (meetR a b).good = true := by
  unfold meetR
  split
  · rfl
  · rename_i h
    simp only [not_or] at h
    have g1 := good_full ha (by simpa using h.1)
    have g2 := good_full hb (by simpa using h.2.1)
    have h3 := h.2.2
    refine full_good ?_ ?_ ?_ <;> revert h3 <;> unfold leastI mostI <;> repeat' split
    all_goals intro h3; omega
theorem good_spanR {lo hi : Int} (h : lo ≤ hi) : (spanR lo hi).good = true := by
  unfold spanR
  split
  · rfl
  · exact full_good (by omega) h (by omega)
theorem good_twoR {op : Int} {a b : Rv} (ha : a.good = true) (hb : b.good = true) : (twoR op a b).good = true := by
  unfold twoR
  split
  · rfl
  · rename_i h
    simp only [not_or] at h
    have g1 := good_full ha (by simpa using h.1)
    have g2 := good_full hb (by simpa using h.2)
    split
    · exact good_spanR (by omega)
    · split
      · exact good_spanR (by omega)
      · split
        · exact good_spanR (Int.mul_le_mul g1.2.1 g2.2.1 g2.1 (by omega))
        · split
          · unfold lessR
            repeat' split
            all_goals rfl
          · unfold equalR
            split <;> rfl
end Go.Proofs.Ytoeiijkomjlolab.math
