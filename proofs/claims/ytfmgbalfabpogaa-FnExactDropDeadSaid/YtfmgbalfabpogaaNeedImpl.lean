/-
  What the program's namesRead and NamesNeeded answer: the names that are needed, rising, in memory of their own.
-/
import Derived.Test.YtfmgbalfabpogaaProg
import Derived.Test.YtfmgbalfabpogaaMagMath
import Derived.Test.YtfmgbalfabpogaaCodeMath
import Derived.Test.YtfmgbalfabpogaaRunMath
import Derived.Test.YtfmgbalfabpogaaNamesMath
import Derived.Test.YtfmgbalfabpogaaInts
import Derived.Test.YtfmgbalfabpogaaOwnInts
import Derived.Test.YtfmgbalfabpogaaRecsInstr
import Derived.Test.YtfmgbalfabpogaaGrow
import Derived.Test.YtfmgbalfabpogaaNeedSpec
import Derived.Test.YtfmgbalfabpogaaStepImpl
import Derived.Test.YtfmgbalfabpogaaStepKinds
import Derived.Test.YtfmgbalfabpogaaStepsOf
import Derived.Test.YtfmgbalfabpogaaNamesImpl
import Derived.WalkKit
import Derived.WalkSpells
import Derived.Below
import Derived.Handy
import Derived.Deep.OwnRows
namespace Go.Proofs.Ytfmgbalfabpogaa.walks
open Go.RowKit Go.Proofs.Ytfmgbalfabpogaa.math Go.Proofs.Ytfmgbalfabpogaa.ints
set_option linter.unusedVariables false
set_option maxRecDepth 100000

/-- What a step looks at, as a list in memory of its own. -/
def UseTold (us : List Int) (W : World) (e : Ending) (W' : World) : Prop := ∃ a cap, e = .returned (.slice a us.length cap) ∧ Mine W' W.heap.size a us ∧ Below W.heap.size W W'
theorem mine_new1 (W : World) (x : Int) (t : TypeId) {b B : Nat} (hb : b = W.heap.size) (hB : B ≤ b) : Mine (W.alloc (.cells #[.int .i64 x] t)) B (some ⟨b, 0, none⟩) [x] := by
  subst hb
  exact Or.inr ⟨W.heap.size, 0, rfl, hB, by simp, fun i hi => by
    match i, hi with
    | 0, _ => simp⟩
theorem mine_new2 (W : World) (x y : Int) (t : TypeId) {b B : Nat} (hb : b = W.heap.size) (hB : B ≤ b) : Mine (W.alloc (.cells #[.int .i64 x, .int .i64 y] t)) B (some ⟨b, 0, none⟩) [x, y] := by
  subst hb
  exact Or.inr ⟨W.heap.size, 0, rfl, hB, by simp, fun i hi => by
    match i, hi with
    | 0, _ => simp
    | 1, _ => simp⟩
theorem impl_uses (o d a b n : Int) (W : World) (hg : goodI o d a b n = true) : Calls Try.prog 62 #[stepV o d a b n] W fun e W' => UseTold (usesL o a b) W e W' := by
  rcases good_cases hg with ⟨rfl, _⟩ | ⟨rfl, _⟩ | ⟨rfl, _⟩ | ⟨⟨o3, o7⟩, _⟩
  · rw [show stepV 1 d a b n = .iface 120 (.agg #[.int .i64 d, .int .i64 n]) from rfl]
    have q0 := is_cy
    have q1 := is_cp
    have q2 := is_ct
    go_enter Try.func62, Try.ntmps62
    go_wp2
    go_ret
    exact ⟨none, 0, rfl, Or.inl rfl, by go_grown⟩
  · rw [show stepV 2 d a b n = .iface 122 (.agg #[.int .i64 d, .int .i64 a]) from rfl]
    have q0 := is_yy
    go_enter Try.func62, Try.ntmps62
    go_wp2
    go_ret
    exact ⟨_, _, rfl, mine_new1 _ _ _ (by simp) (by simp), by go_grown⟩
  · rw [show stepV 8 d a b n = .iface 126 (.agg #[.int .i64 a]) from rfl]
    have q0 := is_ty
    have q1 := is_tp
    have q2 := is_tt
    go_enter Try.func62, Try.ntmps62
    go_wp2
    go_ret
    exact ⟨_, _, rfl, mine_new1 _ _ _ (by simp) (by simp), by go_grown⟩
  · rw [stepV_p o3 o7]
    have HU : Hid (usesL o a b = [a, b]) := by show _ = _; unfold usesL; rw [if_neg (by omega), if_pos ⟨o3, o7⟩]
    have q0 := is_py
    have q1 := is_pp
    go_enter Try.func62, Try.ntmps62
    go_wp2
    go_ret
    rw [HU.out]
    exact ⟨_, _, rfl, mine_new2 _ _ _ _ (by simp) (by simp), by go_grown⟩
theorem mine_off {W W' : World} {B g : Nat} {a : Option Addr} {zs : List Int} (h : Mine W B a zs) (hg : W.grownBy W' (some g)) (hB : g < B) : Mine W' B a zs := by
  rcases h with h | ⟨b, off, e, h0, hl, hc⟩
  · exact Or.inl h
  · have hb : some b ≠ some g := by simp; omega
    exact Or.inr ⟨b, off, e, h0, Nat.lt_of_lt_of_le hl hg.size, fun i hi => ⟨hg.cell (hc i hi).1 (by simpa using hb), (World.frozen?_of_block (hg.block b hl hb)).trans (hc i hi).2⟩⟩
theorem below_grow {W w w' : World} {B g : Nat} (h : Below B W w) (hg : w.grownBy w' (some g)) (hB : B ≤ g) (hs : B ≤ w.heap.size) : Below B W w' := h.grown hg hs (fun k hk => by simp at hk; omega)
theorem grow_trans {a b c : World} {g : Nat} (h : a.grownBy b (some g)) (k : b.grownBy c (some g)) : a.grownBy c (some g) :=
  ⟨k.os.trans h.os, k.tape.trans h.tape, k.output.trans h.output, Nat.le_trans h.size k.size, fun i hi hne => (k.block i (Nat.lt_of_lt_of_le hi h.size) hne).trans (h.block i hi hne)⟩
end Go.Proofs.Ytfmgbalfabpogaa.walks
