/-
  A heap at work in memory; what the program's isYoung, allRoots, leadsWell answer of it.
-/
import Derived.Test.YthomonidconmcaaProg
import Derived.Test.YthomonidconmcaaInts
import Derived.Test.YthomonidconmcaaOwnInts
import Derived.Test.YthomonidconmcaaDeepRow
import Derived.Test.YthomonidconmcaaPtrMap
import Derived.Test.YthomonidconmcaaHeapAdd
import Derived.Test.YthomonidconmcaaCloneOwn
import Derived.OwnWalk
import Derived.Maps.AppendAt
import Derived.Maps.RangeWalk
import Derived.Deep.OwnRows
import Derived.Deep.DeepCutAuto
import Derived.WalkKit
import Derived.WalkSpells
import Derived.Below
import Derived.Handy
namespace Go.Proofs.Ythomonidconmcaa.walks
open Go.RowKit Go.Proofs.Ythomonidconmcaa.ints Go.Proofs.Ythomonidconmcaa.deep
set_option linter.unusedVariables false
set_option maxRecDepth 100000

/-- A heap at work: what is found by a name (whether it is old, its two links), the roots, those noted, the next name. -/
structure Hst where
  at_ : Int → Option (Bool × Int × Int)
  rs : List Int
  nt : Int → Bool
  nx : Int
def runF (mp sp : Nat) (rs : List Int) (nx : Int) (i : Nat) : Value := if i = 0 then .map (some mp) else if i = 7 then .map (some sp) else if i = 8 then .int .i64 nx else .int .i64 (rs.getD (i - 1) 0)
structure RunAt (w : World) (B rp mp sp n m : Nat) (p : Int → Option Nat) (s : Hst) : Prop where
  row : w.rowIs rp 71 9 (runF mp sp s.rs s.nx)
  len : s.rs.length = 6
  map : PtrIs w mp n p
  obj : ∀ x g, p x = some g → ∃ o, s.at_ x = some o ∧ w.rowIs g 75 3 (rowF [.bool o.1, .int .i64 o.2.1, .int .i64 o.2.2])
  none : ∀ x, p x = none → s.at_ x = none
  ok : ∀ x g, p x = some g → okZ x
  inj : ∀ x y g, p x = some g → p y = some g → x = y
  set : SetZ w sp m s.nt
  low : B ≤ rp ∧ B ≤ mp ∧ B ≤ sp ∧ ∀ x g, p x = some g → B ≤ g
  dif : sp ≠ mp
theorem RunAt.kept {w w' : World} {B rp mp sp n m : Nat} {p : Int → Option Nat} {s : Hst} (h : RunAt w B rp mp sp n m p s) (hb : Below w.heap.size w w') : RunAt w' B rp mp sp n m p s :=
  ⟨h.row.of_block (hb.block _ h.row.lt), h.len, h.map.of_block (hb.block _ h.map.lt), fun x g e => let ⟨o, e2, r⟩ := h.obj x g e; ⟨o, e2, r.of_block (hb.block _ r.lt)⟩, h.none, h.ok, h.inj, h.set.of_block (hb.block _ h.set.lt), h.low, h.dif⟩
theorem RunAt.some {w : World} {B rp mp sp n m : Nat} {p : Int → Option Nat} {s : Hst} (h : RunAt w B rp mp sp n m p s) {x : Int} {o : Bool × Int × Int} (e : s.at_ x = some o) : ∃ g, p x = some g ∧ w.rowIs g 75 3 (rowF [.bool o.1, .int .i64 o.2.1, .int .i64 o.2.2]) ∧ okZ x := by
  cases q : p x with
  | none => rw [h.none x q] at e; cases e
  | some g =>
    obtain ⟨o', e', r⟩ := h.obj x g q
    rw [e] at e'
    cases e'
    exact ⟨g, rfl, r, h.ok x g q⟩
theorem RunAt.is {w : World} {B rp mp sp n m : Nat} {p : Int → Option Nat} {s : Hst} (h : RunAt w B rp mp sp n m p s) (x : Int) : (p x).isSome = (s.at_ x).isSome := by
  cases q : p x with
  | none => rw [h.none x q]; rfl
  | some g => obtain ⟨o, e, _⟩ := h.obj x g q; rw [e]; rfl
def yngS (s : Hst) (x : Int) : Bool := match s.at_ x with
  | some o => !o.1
  | none => false
theorem impl_young (B rp mp sp n m : Nat) (p : Int → Option Nat) (s : Hst) (x : Int) (W : World) (h : Hid (RunAt W B rp mp sp n m p s)) (hx : Hid (okZ x)) :
    Calls Try.prog 69 #[.pointer (some ⟨rp, 0, none⟩), .int .i64 x] W fun e W' => e = .returned (.bool (yngS s x)) ∧ W' = W := by
  have r0 : W.cell? ⟨rp, 0, none⟩ = some (.map (some mp)) := h.out.row.cell (i := 0) (by decide)
  have hlk := h.out.map.look_ok hx.out
  cases q : p x with
  | none =>
    have HE : Hid (yngS s x = false) := by show _ = _; unfold yngS; rw [h.out.none x q]
    rw [q] at hlk
    rw [HE.out]
    simp only [ptrV, Option.isSome_none] at hlk
    go_enter Try.func69, Try.ntmps69
    go_wp2
    go_ret
    exact ⟨rfl, rfl⟩
  | some g =>
    obtain ⟨o, eo, hr⟩ := h.out.obj x g q
    have HE : Hid (yngS s x = !o.1) := by show _ = _; unfold yngS; rw [eo]
    rw [q] at hlk
    rw [HE.out]
    simp only [ptrV, Option.isSome_some] at hlk
    have g0 : W.cell? ⟨g, 0, none⟩ = some (.bool o.1) := hr.cell (i := 0) (by decide)
    generalize o.1 = z at g0
    clear hr eo HE q
    go_enter Try.func69, Try.ntmps69
    go_wp2
    go_ret
    exact ⟨rfl, rfl⟩
theorem run_roots {w : World} {B rp mp sp n m : Nat} {p : Int → Option Nat} {s : Hst} (h : RunAt w B rp mp sp n m p s) : Ints w (some ⟨rp, 1, none⟩) s.rs := by
  refine Or.inr ⟨rp, 1, rfl, h.row.lt, fun i hi => ?_⟩
  rw [h.len] at hi
  rw [h.row.cell (i := 1 + i) (by omega)]
  unfold runF
  rw [if_neg (by omega), if_neg (by omega), if_neg (by omega), show 1 + i - 1 = i by omega]
theorem impl_roots (B rp mp sp n m : Nat) (p : Int → Option Nat) (s : Hst) (W : World) (h : Hid (RunAt W B rp mp sp n m p s)) :
    Calls Try.prog 61 #[.pointer (some ⟨rp, 0, none⟩)] W fun e W' => CloneTo W s.rs e W' := by
  have hc := clone_own (some ⟨rp, 1, none⟩) 6 6 s.rs W h.out.len (by decide) (run_roots h.out)
  have hl := h.out.row.lt
  go_enter Try.func61, Try.ntmps61
  go_wp2_with fail
  refine hc.mono ?_
  rintro e w1 ⟨v, rfl, h1, h2⟩
  have H1 : Hid (CloneTo W s.rs (.returned v) w1) := ⟨v, rfl, h1, h2⟩
  clear h1 h2 hc
  go_wp2
  go_ret
  exact H1.out
end Go.Proofs.Ythomonidconmcaa.walks
