/-
  A frame in a box, its three lists in memory of their own: what an append, a shorter stack and a store leave.
-/
import Derived.Test.YtdacpbhdemkacaaProg
import Derived.Test.YtdacpbhdemkacaaMagMath
import Derived.Test.YtdacpbhdemkacaaFrameMath
import Derived.Test.YtdacpbhdemkacaaRunFrame
import Derived.Test.YtdacpbhdemkacaaFrameRun
import Derived.Test.YtdacpbhdemkacaaInts
import Derived.Test.YtdacpbhdemkacaaOwnInts
import Derived.Test.YtdacpbhdemkacaaDeep
import Derived.Test.YtdacpbhdemkacaaDeepRow
import Derived.WalkKit
import Derived.Below
import Derived.Deep.OwnRows
import Derived.Laws.OwnMore
namespace Go.Proofs.Ytdacpbhdemkacaa.walks
open Go.RowKit Go.Proofs.Ytdacpbhdemkacaa.math Go.Proofs.Ytdacpbhdemkacaa.ints Go.Proofs.Ytdacpbhdemkacaa.deep
set_option linter.unusedVariables false

/-- Three lists of their own, apart. -/
structure OF (w : World) (B : Nat) (vl vs vt : Value) (f : Fs) : Prop where
  l : Own w B vl f.l
  s : Own w B vs f.s
  t : Own w B vt f.t
  ls : ∀ x, vl.ownBlock = some x → vs.ownBlock ≠ some x
  lt : ∀ x, vl.ownBlock = some x → vt.ownBlock ≠ some x
  st : ∀ x, vs.ownBlock = some x → vt.ownBlock ≠ some x
/-- Rows of another type than int stay. -/
def StaysAll (W W' : World) : Prop := ∀ (k : Nat) (T : TypeId) (n : Nat) (f : Nat → Value), T ≠ 3 → W.rowIs k T n f → W'.rowIs k T n f
theorem StaysAll.trans {W W' W'' : World} (h : StaysAll W W') (g : StaysAll W' W'') : StaysAll W W'' := fun k T n f h1 q => g k T n f h1 (h k T n f h1 q)
theorem stays_all {W W' : World} (h : Below W.heap.size W W') : StaysAll W W' := fun k T n f h1 q => q.of_block (h.block _ q.lt)
theorem OF.kept {w w' : World} {B : Nat} {vl vs vt : Value} {f : Fs} (h : OF w B vl vs vt f) (hb : Below w.heap.size w w') : OF w' B vl vs vt f := ⟨row_below h.l hb, row_below h.s hb, row_below h.t hb, h.ls, h.lt, h.st⟩
/-- .. where only cells of one row of another type are written. -/
theorem OF.box {w : World} {B g i : Nat} {vl vs vt u : Value} {f : Fs} {T : TypeId} {n : Nat} {F : Nat → Value} (h : OF w B vl vs vt f) (q : w.rowIs g T n F) (hT : T ≠ 3) : OF (w.setCell ⟨g, i, none⟩ u) B vl vs vt f :=
  ⟨own_set13 h.l q hT, own_set13 h.s q hT, own_set13 h.t q hT, h.ls, h.lt, h.st⟩
theorem fresh_at {w : World} {o : Obj} {v v' : Value} (hat : v'.ownBlock = v.ownBlock ∨ v'.ownBlock = some (w.alloc o).heap.size) : ∀ x, v'.ownBlock = some x → v.ownBlock = some x ∨ w.heap.size < x := fun x q => by
  rcases hat with r | r
  · exact Or.inl (r ▸ q)
  · rw [r] at q; simp at q; exact Or.inr (by omega)
theorem OF.push {w w' : World} {o : Obj} {B : Nat} {vl vs vt v' : Value} {f : Fs} {x : Int} (h : OF w B vl vs vt f) (hown : w'.ownsRow B 3 1 v' (f.s.length + 1) (f.s.map (Value.int .i64) ++ [.int .i64 x])) (hg : (w.alloc o).grownBy w' vs.ownBlock) (hat : v'.ownBlock = vs.ownBlock ∨ v'.ownBlock = some (w.alloc o).heap.size) :
    OF w' B vl v' vt ⟨f.l, f.s ++ [x], f.t⟩ := by
  have HN := fresh_at hat
  refine ⟨own_grown (World.ownsRow.alloc h.l _) hg h.ls, by show Own _ _ _ (f.s ++ [x]); unfold Own; simpa using hown, own_grown (World.ownsRow.alloc h.t _) hg (fun x q r => h.st x r q), fun x q r => ?_, h.lt, fun x q r => ?_⟩
  · rcases HN x r with s | s
    · exact h.ls x q s
    · have := (World.ownsRow.lt h.l x q).2; omega
  · rcases HN x q with s | s
    · exact h.st x s r
    · have := (World.ownsRow.lt h.t x r).2; omega
theorem OF.tell {w w' : World} {o : Obj} {B : Nat} {vl vs vt v' : Value} {f : Fs} {x : Int} (h : OF w B vl vs vt f) (hown : w'.ownsRow B 3 1 v' (f.t.length + 1) (f.t.map (Value.int .i64) ++ [.int .i64 x])) (hg : (w.alloc o).grownBy w' vt.ownBlock) (hat : v'.ownBlock = vt.ownBlock ∨ v'.ownBlock = some (w.alloc o).heap.size) :
    OF w' B vl vs v' ⟨f.l, f.s, f.t ++ [x]⟩ := by
  have HN := fresh_at hat
  refine ⟨own_grown (World.ownsRow.alloc h.l _) hg h.lt, own_grown (World.ownsRow.alloc h.s _) hg h.st, by show Own _ _ _ (f.t ++ [x]); unfold Own; simpa using hown, h.ls, fun x q r => ?_, fun x q r => ?_⟩
  · rcases HN x r with s | s
    · exact h.lt x q s
    · have := (World.ownsRow.lt h.l x q).2; omega
  · rcases HN x r with s | s
    · exact h.st x q s
    · have := (World.ownsRow.lt h.s x q).2; omega
/-- A row of another type behind an append to a list that is owned. -/
theorem row_grown {w w' : World} {o : Obj} {B k n : Nat} {v : Value} {zs : List Int} {T : TypeId} {F : Nat → Value} (h : Own w B v zs) (hg : (w.alloc o).grownBy w' v.ownBlock) (hT : T ≠ 3) (q : w.rowIs k T n F) : w'.rowIs k T n F :=
  (q.alloc _).of_block (hg.block _ (by have := q.lt; simp; omega) (fun r => own_apart h q hT r.symm))
theorem below_grown {w w' : World} {o : Obj} {B : Nat} {v : Value} {zs : List Int} (h : Own w B v zs) (hB : B ≤ w.heap.size) (hg : (w.alloc o).grownBy w' v.ownBlock) : Below B w w' :=
  ((Below.refl B w).alloc hB _).grown hg (by simp; omega) (fun j hj => (World.ownsRow.lt h j hj).1)
theorem OF.pop {w : World} {B g n cap : Nat} {vl vt : Value} {l s t : List Int} {x : Int} (hn : s.length = n) (h : OF w B vl (.slice (some ⟨g, 0, none⟩) (n + 1) cap) vt ⟨l, s ++ [x], t⟩) : OF w B vl (.slice (some ⟨g, 0, none⟩) n cap) vt ⟨l, s, t⟩ :=
  ⟨h.l, own_pop13 hn h.s, h.t, h.ls, h.lt, h.st⟩
theorem OF.store {w : World} {B gl cl k : Nat} {vs vt : Value} {f : Fs} (h : OF w B (.slice (some ⟨gl, 0, none⟩) 3 cl) vs vt f) (h3 : f.l.length = 3) (hk : k < 3) (x : Int) : OF (w.setCell ⟨gl, k, none⟩ (.int .i64 x)) B (.slice (some ⟨gl, 0, none⟩) 3 cl) vs vt ⟨f.l.set k x, f.s, f.t⟩ ∧ Below B w (w.setCell ⟨gl, k, none⟩ (.int .i64 x)) ∧ StaysAll w (w.setCell ⟨gl, k, none⟩ (.int .i64 x)) ∧ w.cell? ⟨gl, k, none⟩ = some (.int .i64 (f.l.getD k 0)) ∧ w.frozen? ⟨gl, k, none⟩ = false := by
  have r2' : w.ownsRow B 3 1 (.slice (some ⟨gl, 0, none⟩) 3 cl) 3 (f.l.map (Value.int .i64)) := by have q := h.l; unfold Own at q; rw [h3] at q; exact q
  have hb := World.ownsRow.lt r2' gl rfl
  refine ⟨⟨?_, ?_, ?_, h.ls, h.lt, h.st⟩, (Below.refl _ _).setCell (by simpa using hb.1) _, fun j T n F hT q => q.setOther (by simpa using fun e => own_apart h.l q hT (by rw [e]; rfl)) _, ?_, World.ownsRow.frozenAt r2' k⟩
  · have q := World.ownsRow.stored r2' k (.int .i64 x)
    unfold Own
    rw [List.length_set, h3, List.map_set]
    exact q.1
  · exact World.ownsRow.kept h.s (row := some gl) ⟨rfl, rfl, rfl, by simp [World.setCell], fun k hk hne => Below.heap_setCell _ _ _ _ (by simpa using hne)⟩ (Or.inr (h.ls gl rfl))
  · exact World.ownsRow.kept h.t (row := some gl) ⟨rfl, rfl, rfl, by simp [World.setCell], fun k hk hne => Below.heap_setCell _ _ _ _ (by simpa using hne)⟩ (Or.inr (h.lt gl rfl))
  · rw [World.ownsRow.cellAt r2' k (by omega)]
    simp [List.getD, h3, hk]
end Go.Proofs.Ytdacpbhdemkacaa.walks
