/-
  The keys of the numbering's map: values of four numbers, and what such a key reads as.
-/
import Derived.Test.YtldmeffhbabanaaProg
import Derived.Maps.RangeWalk
import Derived.Maps.Ext
import Derived.DeepKeys4
import Derived.MapViews
import Derived.WalkKit
namespace Go.Proofs.Ytldmeffhbabanaa.nums
open Go.RowKit
set_option linter.unusedVariables false

/-- A value of the chapter: its Op, A, B and N. -/
abbrev V := Int × Int × Int × Int
def vV (v : V) : Value := .agg #[.int .i64 v.1, .int .i64 v.2.1, .int .i64 v.2.2.1, .int .i64 v.2.2.2]
/-- Its four numbers are words. -/
def okV (v : V) : Prop := (0 ≤ v.1 ∧ v.1 ≤ 65535) ∧ (0 ≤ v.2.1 ∧ v.2.1 ≤ 65535) ∧ (0 ≤ v.2.2.1 ∧ v.2.2.1 ≤ 65535) ∧ (0 ≤ v.2.2.2 ∧ v.2.2.2 ≤ 65535)
theorem vV_inj {v v' : V} (h : vV v = vV v') : v = v' := by
  obtain ⟨a, b, c, d⟩ := v
  obtain ⟨a', b', c', d'⟩ := v'
  simp [vV] at h
  obtain ⟨rfl, rfl, rfl, rfl⟩ := h
  rfl
theorem laidOut : laidOutB Try.prog = true := by kernel_rfl
theorem rowT : (49 : TypeId) < Try.prog.types.size := of_decide_eq_true (by kernel_rfl)
theorem law : Go.Maps.Keyed Try.prog 49 := Go.Maps.Keyed.of_law (deep_law_laid laidOut (m := 2) (by omega) rowT (by kernel_rfl) (by kernel_rfl))
theorem deepT : Try.prog.keyTypeAt (Try.prog.types.size + 1) 49 = true := by kernel_rfl
theorem keyT : Try.prog.keyType 49 = true := by kernel_rfl
theorem cellsT : Try.prog.cellsOf 49 = 4 := by kernel_rfl
theorem cellsI : Try.prog.cellsOf 3 = 1 := by kernel_rfl
theorem formedT (x : Array Value) (h : x.size = 4) : (Value.agg x).formed Try.prog 49 = true := by simp [Value.formed, Try.underlying49, cellsT, h]
theorem wf_word {x : Int} (h : 0 ≤ x ∧ x ≤ 65535) : (Lit.int .i64 x).wf = true := by
  exact WalkArith.wf_i64 (by omega)
theorem key_some (v : V) (h : okV v) : ∃ kl, keyOf Try.prog 49 (vV v) = some kl := by
  obtain ⟨a, b, c, d⟩ := v
  obtain ⟨h0, h1, h2, h3⟩ := h
  have w0 := wf_word h0
  have w1 := wf_word h1
  have w2 := wf_word h2
  have w3 := wf_word h3
  have hl : ∀ n, ∃ ls, Try.prog.keyLits (n + 2) 49 [.int .i64 a, .int .i64 b, .int .i64 c, .int .i64 d] = some ls := by
    intro n
    refine ⟨[.int .i64 a, .int .i64 b, .int .i64 c, .int .i64 d], ?_⟩
    simp only [Program.keyLits, Try.underlying49, cellsT]
    simp [Try.underlying3, cellsI, w0, w1, w2, w3]
  obtain ⟨n, hn⟩ : ∃ n, Try.prog.types.size + 1 = n + 2 := by
    have : 49 < Try.prog.types.size := rowT
    exact ⟨Try.prog.types.size - 1, by omega⟩
  obtain ⟨ls, hls⟩ := hl n
  refine ⟨.string (keyBytes ls), ?_⟩
  have hf : (vV (a, b, c, d)).formed Try.prog 49 = true := formedT #[.int .i64 a, .int .i64 b, .int .i64 c, .int .i64 d] rfl
  have hc : (vV (a, b, c, d)).cells.toList = [.int .i64 a, .int .i64 b, .int .i64 c, .int .i64 d] := rfl
  unfold keyOf
  simp only [Try.underlying49, keyT, hf, hc, hn, hls, Bool.and_true, if_true, Option.map_some]
end Go.Proofs.Ytldmeffhbabanaa.nums
