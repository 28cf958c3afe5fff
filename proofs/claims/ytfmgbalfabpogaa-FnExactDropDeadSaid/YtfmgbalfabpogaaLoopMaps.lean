/-
  A loop over an iterator whose body makes maps that outlast the round: what is said of the world between two rounds must abide the turning of loops' records alone. The body never leaves the loop.
-/
import Derived.RangeFuncNested
import Derived.RangeFuncBound
import Derived.RangeFuncCalls
import Derived.RangeFuncLeaves
import Derived.WalkKit
import Derived.Below
namespace Go.Proofs.Ytfmgbalfabpogaa.walks
open Go.RowKit
set_option linter.unusedVariables false

/-- It abides whatever turns loops' records from block B on, and makes new blocks. -/
def OwnM {β : Type} (B : Nat) (I : β → World → Prop) : Prop :=
  ∀ s W W' row, I s W → W.grownBy W' row → (∀ r, row = some r → B ≤ r ∧ ∃ x, W.heap[r]? = some (.loop x)) → I s W'
theorem OwnM.put {β : Type} {B : Nat} {I : β → World → Prop} (h : OwnM B I) {s : β} {W : World} {l : Nat} {x : Loop} (o' : Obj) (hs : I s W) (hB : B ≤ l) (hl : W.heap[l]? = some (.loop x)) : I s (W.putObj l o') :=
  h s W _ (some l) hs (grownBy_putObj' W l o') (fun r e => by cases e; exact ⟨hB, x, hl⟩)
theorem OwnM.new {β : Type} {B : Nat} {I : β → World → Prop} (h : OwnM B I) {s : β} {W : World} (o : Obj) (hs : I s W) : I s (W.alloc o) :=
  h s W _ none hs (World.grownBy_alloc W o none) (fun r e => by cases e)
theorem OwnM.and {β : Type} {B : Nat} {I I' : β → World → Prop} (h : OwnM B I) (h' : OwnM B I') : OwnM B (fun s W => I s W ∧ I' s W) := fun s W W' row hs hg hr => ⟨h s W W' row hs.1 hg hr, h' s W W' row hs.2 hg hr⟩

/-- An iterator that turns nothing of its own and goes through to the end, whatever the body does within Kp. -/
def SeqW {α : Type} (F : Fence) (n : Nat) (P : Program) (g : Nat) (lb : Array Value) (encs : α → Array Value) (Kp : World → World → Prop) (S : List α → Prop) (N : Nat) (w : World) : Prop :=
  ∀ (l : Nat) (J : List α → World → Prop) (W : World), Below w.heap.size w W →
    (∀ pre x W1, J pre W1 → pre.length < N → YieldAt F (n - 1) P l (encs x) W1 fun e W' => e = .returned (.bool true) ∧ J (pre ++ [x]) W' ∧ Kp W1 W') → J [] W →
    CallsIn F n P g (#[.func (.yield l) #[] #[]] ++ lb) W fun e W' => (∃ v, e = .returned v) ∧ ∃ xs, S xs ∧ J xs W'

variable {F : Fence} {n : Nat} {P : Program}
theorem loop_maps {α : Type} {g : Operand} {ps : Array Tmp} {assign body : Code} {Q : Exit → Act → World → Prop} {a : Act} {w : World}
    (hro : F.round = none) (h1 : 1 ≤ n) {gf : Nat} {lb : Array Value} (hg : a.eval g = .func (.func gf) #[] lb) (hFg : F.fn gf) (eg : ∀ args w, (callFunc gf args).run P w = .ok (.enter gf args) w)
    {encs : α → Array Value} {Kp : World → World → Prop} {S : List α → Prop} {N : Nat} (hseq : SeqW F (n - 1) P gf lb encs Kp S N w)
    (hKt : ∀ {A B C : World}, Kp A B → Kp B C → Kp A C) (hKb : ∀ (W : World) (l : Nat) (x : Loop) (o' : Obj), w.heap.size ≤ l → W.heap[l]? = some (.loop x) → Kp W (W.putObj l o')) (hps : ∀ x, (encs x).size = ps.size)
    (I : List α → World → Prop) (hI : OwnM w.heap.size I) (h0 : I [] w) (Ax : α → Act → World → Prop) (hAx : ∀ x a', OwnM w.heap.size (fun (_ : Unit) W => Ax x a' W))
    (hassign : ∀ (l : Nat) (pre : List α) (x : α) (W : World) (K : Act → World → Prop), I pre W → (∀ a' W', KeepsFrom w.heap.size W W' → Kp W W' → I pre W' → Ax x a' W' → K a' W') →
      assign.wpIn (F.inRound l) (n - 1 - 1) P (Exit.then K (fun _ _ _ => False)) { tmps := (ps.zip (encs x)).foldl (fun t (p, v) => t.setIfInBounds p v) a.tmps, defers := [] } W)
    (hbody : ∀ (l : Nat) (pre : List α) (x : α) (a' : Act) (W : World), w.heap.size ≤ l → (∃ r, W.heap[l]? = some (.loop r)) → I pre W → Ax x a' W → pre.length < N → body.wpIn (F.inRound l) (n - 1 - 1) P (fun e _ W' => e = .normal ∧ KeepsFrom w.heap.size W W' ∧ Kp W W' ∧ I (pre ++ [x]) W') a' W)
    (hdone : ∀ (D : Nat) (xs : List α) (W : World), w.heap.size ≤ D → S xs → I xs W → W.heap[D]? = some (.deferred (some [])) → Q .normal { a with defers := { target := .collected D, args := #[] } :: a.defers } W) :
    (Code.rangeFunc g ps assign body).wpIn F n P Q a w := by
  refine wpIn_rangeFunc fun fn hfn => ?_
  rw [hro]
  let L0 : Loop := { state := .ready, pending := none, fn, tmps := a.tmps, params := ps, assign, body, defers := w.heap.size }
  have eL0 : L0 = { state := .ready, pending := none, fn, tmps := a.tmps, params := ps, assign, body, defers := w.heap.size } := rfl
  clear_value L0
  obtain ⟨Y, hY⟩ : ∃ Y, (w.alloc (.deferred (some []))).alloc (.loop L0) = Y := ⟨_, rfl⟩
  have yl : Y.heap[w.heap.size + 1]? = some (.loop L0) := by
    have := World.alloc_heap_new (w.alloc (.deferred (some []))) (.loop L0)
    rw [World.size_alloc] at this
    rw [← hY]; exact this
  have yd : Y.heap[w.heap.size]? = some (.deferred (some [])) := by
    rw [← hY]; exact (Below.heap_alloc _ _ _ (by simp)).trans (World.alloc_heap_new w _)
  have yi : I [] Y := by rw [← hY]; exact hI.new _ (hI.new _ h0)
  have yb : Below w.heap.size w Y := by rw [← hY]; exact ((Below.refl _ w).alloc (Nat.le_refl _) _).alloc (by simp) _
  have ys : w.heap.size + 1 < Y.heap.size := by rw [← hY]; simp
  refine ⟨w.heap.size + 1, [{ target := .collected w.heap.size, args := #[] }], Y, { target := .fn (.func gf) lb, args := #[.func (.yield (w.heap.size + 1)) #[] #[]] }, Y, gf,
    #[.func (.yield (w.heap.size + 1)) #[] #[]] ++ lb, Y, ?_, ?_, ?_, ?_, fun _ => h1, ?_⟩
  · rw [← hY, eL0]; exact run_enterLoop_outer _ _ _ _ _
  · simp only [resolve, hg]
    simp [go_sem]
  · intro f' hf'
    simp [Target.leads] at hf'
    subst hf'
    exact hFg
  · simp [invoke, go_sem, eg]
  · refine (hseq (w.heap.size + 1)
      (fun pre W => I pre W ∧ W.heap[w.heap.size + 1]? = some (.loop L0) ∧ W.heap[w.heap.size]? = some (.deferred (some []))) Y yb ?_ ⟨yi, yl, yd⟩).mono ?_
    · rintro pre x W ⟨hi, hl, hd⟩ hlen
      have hy := run_yield (P := P) (args := encs x) hl (by rw [eL0]; exact hps x)
      rw [eL0] at hy
      refine ⟨fn, _, assign, body, hy, roundIn_of_wpIn hfn (hassign _ pre x W _ hi ?_)⟩
      intro a' W2 kf kp i2 ax2
      have hl2 := kf.same _ _ (by omega) hl rfl
      have hd2 := kf.same _ _ (Nat.le_refl _) hd rfl
      have hs2 := (Array.getElem?_eq_some_iff.1 hl2).1
      refine ⟨_, run_beginRound hl2 (by rw [eL0]), ?_⟩
      have hl3 : (W2.putObj (w.heap.size + 1) (.loop { L0 with state := .busy })).heap[w.heap.size + 1]? = some (.loop { L0 with state := .busy }) := World.putObj_heap_same hs2
      have hd3 : (W2.putObj (w.heap.size + 1) (.loop { L0 with state := .busy })).heap[w.heap.size]? = some (.deferred (some [])) := (World.putObj_heap_other (by omega)).trans hd2
      refine wpIn_mono (hbody _ pre x a' _ (by omega) ⟨_, hl3⟩ (hI.put _ i2 (by omega) hl2) ((hAx x a').put (s := ()) _ ax2 (by omega) hl2) hlen) ?_
      rintro e a3 W4 ⟨rfl, kf4, kp4, i4⟩
      have hl4 := kf4.same _ _ (by omega) hl3 rfl
      have hd4 := kf4.same _ _ (Nat.le_refl _) hd3 rfl
      have hs4 := (Array.getElem?_eq_some_iff.1 hl4).1
      have hend := run_endRound (P := P) none hl4
      have eb : ({ { L0 with state := .busy } with state := .ready, pending := none } : Loop) = L0 := by rw [eL0]
      have hend' : (Instr.endRound (w.heap.size + 1) none).run P W4 = .ok (.bool true) (W4.putObj (w.heap.size + 1) (.loop L0)) := by
        refine hend.trans ?_
        simp only [Option.isNone_none, if_true, eb]
      refine ⟨_, _, hend', rfl, ⟨hI.put _ i4 (by omega) hl4, World.putObj_heap_same hs4, (World.putObj_heap_other (by omega)).trans hd4⟩, ?_⟩
      exact hKt kp (hKt (hKb _ _ _ _ (by omega) hl2) (hKt kp4 (hKb _ _ _ _ (by omega) hl4)))
    · rintro e W5 ⟨⟨v, rfl⟩, xs, hS, hi, hl, hd⟩
      · have hex := run_endLoop (P := P) hl (by rw [eL0]; simp)
        have ep : L0.pending = none := by rw [eL0]
        rw [ep] at hex
        exact ⟨none, _, hex, hdone _ xs _ (Nat.le_refl _) hS (hI.put _ hi (by omega) hl) ((World.putObj_heap_other (by omega)).trans hd)⟩
end Go.Proofs.Ytfmgbalfabpogaa.walks
