/-
  Lists of ways, made by appends.
-/
import Derived.Test.YticgipmaflhplaaProg
import Derived.Test.YticgipmaflhplaaInts
import Derived.Test.YticgipmaflhplaaDeep
import Derived.Test.YticgipmaflhplaaDeepRow
import Derived.OwnWalk
import Derived.Maps.AppendAt
import Derived.Below
namespace Go.Proofs.Yticgipmaflhplaa.walks
open Go.RowKit Go.Proofs.Yticgipmaflhplaa.ints Go.Proofs.Yticgipmaflhplaa.deep
set_option linter.unusedVariables false

theorem run_none12 {P : Program} {w : World} (base : Nat) (t ty e : TypeId) (i : TypeInfo) (size c : Nat) (ht : P.underlying t = some (.slice e)) (hi : P.info? e = some i)
    (v : Value) (n : Nat) (xs : List Value) (hown : w.ownsRow base e size v n xs) : (Builtin.append_ #[t, t] ty #[v, .slice none 0 c]).run P w = .ok v w := by
  rcases hown.2 with ⟨rfl, rfl⟩ | ⟨g, cap, cur, rfl, _, _, hnc, _⟩
  · simp [Builtin.append_, run_underlying ht, sizeOf, typeInfo, hi, Builtin.lenOf, Builtin.firstCells]
  · simp [Builtin.append_, run_underlying ht, sizeOf, typeInfo, hi, Builtin.lenOf, Builtin.firstCells, hnc, storeCells]
def OwnW (w : World) (B : Nat) (v : Value) (l : Nat) (zs : List Int) : Prop := w.ownsRow B 107 2 v l (zs.map (Value.int .i64))
theorem OwnW.kept {w w' : World} {B l : Nat} {v : Value} {zs : List Int} (h : OwnW w B v l zs) (hb : Below w.heap.size w w') : OwnW w' B v l zs :=
  World.ownsRow.kept h (row := none) ⟨hb.os, hb.tape, hb.output, hb.size, fun i hi _ => hb.block i hi⟩ (by
    cases q : v.ownBlock with
    | none => exact Or.inl rfl
    | some g => exact Or.inr (by simp))
theorem OwnW.low {w : World} {B B' l : Nat} {v : Value} {zs : List Int} (h : OwnW w B v l zs) (hb : B' ≤ B) : OwnW w B' v l zs := by
  refine ⟨h.1, ?_⟩
  rcases h.2 with q | ⟨g, cap, cur, e, hg, r⟩
  · exact Or.inl q
  · exact Or.inr ⟨g, cap, cur, e, Nat.le_trans hb hg, r⟩
theorem OwnW.len {w : World} {B l : Nat} {v : Value} {zs : List Int} (h : OwnW w B v l zs) : zs.length = l * 2 := by have := h.1; simpa using this
theorem OwnW.form {w : World} {B l : Nat} {v : Value} {zs : List Int} (h : OwnW w B v l zs) : ∃ a cap, v = .slice a l cap ∧ l ≤ cap ∧ Ints w a zs ∧ (∀ b o, a = some ⟨b, o, none⟩ → B ≤ b ∧ b < w.heap.size) := by
  have hl := h.len
  rcases h.2 with ⟨rfl, rfl⟩ | ⟨g, cap, cur, rfl, hg, hw, hmc, hcm, _, hcur⟩
  · refine ⟨none, 0, rfl, Nat.le_refl _, ?_, fun b o e => by cases e⟩
    exact Or.inl (List.eq_nil_of_length_eq_zero (by omega))
  · have lt := World.ownsRow.lt h g rfl
    refine ⟨some ⟨g, 0, none⟩, cap, rfl, hmc, ?_, fun b o e => ?_⟩
    · by_cases hz : zs = []
      · exact Or.inl hz
      refine Or.inr ⟨g, 0, rfl, lt.2, fun j hj => ?_⟩
      have q := World.ownsRow.cells h (g := g) rfl j (.int .i64 (zs.getD j 0)) (by simp [List.getD, hj])
      rw [show (⟨g, 0, none⟩ : Addr).add j = ⟨g, 0 + j, none⟩ by unfold Addr.add; split <;> simp_all] at q
      exact q
    · simp only [Option.some.injEq, Addr.mk.injEq] at e
      rw [← e.1]; exact lt
/-- As data of its own. -/
theorem OwnW.owns {w : World} {B l : Nat} {a : Option Addr} {cap : Nat} {zs : List Int} (h : OwnW w B (.slice a l cap) l zs) : Owns w false B (.l l 2 (fun i => .n (zs.getD i 0))) (.slice a l cap) (fun x => (Value.slice a l cap).ownBlock = some x) := by
  have hl := h.len
  rcases h.2 with ⟨e, rfl⟩ | ⟨g, cap', cur, e, hg, hw, hmc, hcm, _, hcur⟩
  · exact ⟨_, _, rfl, (fun q => by cases q), Or.inl (by simp)⟩
  · simp only [Value.slice.injEq, true_and] at e
    obtain ⟨rfl, rfl⟩ := e
    refine ⟨_, _, rfl, (fun q => by cases q), Or.inr ⟨g, 0, rfl, hg, (World.ownsRow.lt h g rfl).2, rfl, fun _ _ => False, fun i hi => ⟨⟨_, ?_, ?_, rfl⟩, fun q => q, fun x q => q.elim⟩, fun i j _ _ _ x q => q.elim⟩⟩
    · have q := World.ownsRow.cells h (g := g) rfl i (.int .i64 (zs.getD i 0)) (by simp [List.getD, show i < zs.length by omega])
      rw [show (⟨g, 0, none⟩ : Addr).add i = ⟨g, 0 + i, none⟩ by unfold Addr.add; split <;> simp_all] at q
      exact q
    · simp [World.frozen?, hw]
theorem append_ways {w : World} {ops : Array Oper} {rest : List Oper} {o : Oper} {a : Act} {Q : Exit → Act → World → Prop} (hgd : o.guard = none) (s x : Operand)
    (ho : o.op = .call { callee := .builtin .append, args := #[s, x], argTypes := #[40, 40] }) (B : Nat) (v : Value) (l : Nat) (xs : List Int) (hs : a.eval s = v) (hown : OwnW w B v l xs)
    (sa : Option Addr) (m c : Nat) (zs : List Int) (hx : a.eval x = .slice sa m c) (hl : zs.length = m * 2) (hi : Ints w sa zs) (hn : sa = none → m = 0) (hB : B ≤ w.heap.size) (h1 : l + m ≤ 1000)
    (h : ∀ v' w', OwnW w' B v' (l + m) (xs ++ zs) → w.grownBy w' v.ownBlock → (v'.ownBlock = v.ownBlock ∨ v'.ownBlock = some w.heap.size) → wpList Try.prog ops Q rest (a.put o.dst v') w') : wpList Try.prog ops Q (o :: rest) a w := by
  obtain ⟨i0, hi0, hz00, hz01, hz02⟩ := parts_of (P := Try.prog) (e := 107) (z := .agg #[.int .i64 0, .int .i64 0]) (a := 2) (b := 16) (by kernel_rfl)
  cases sa with
  | none =>
    obtain rfl := hn rfl
    have hz : zs = [] := List.eq_nil_of_length_eq_zero (by omega)
    subst hz
    refine wpList_plain hgd fun K hK => ?_
    have hrun := run_none12 (P := Try.prog) (w := w) B 40 o.type 107 i0 2 c Try.underlying40 hi0 v l (xs.map (Value.int .i64)) hown
    unfold Oper.wp
    simp [execOp, ho, resolve, invoke, builtin, hs, hx, hrun, Result.andThen]
    exact hK _ _ (h v w (by rw [List.append_nil]; exact hown) ⟨rfl, rfl, rfl, Nat.le_refl _, fun _ _ _ => rfl⟩ (Or.inl rfl))
  | some ad =>
    obtain ⟨b, off, spot⟩ := ad
    have hspot : 0 < m → spot = none := fun h0 => by
      rcases hi with h | ⟨b', off', e, _⟩
      · rw [h] at hl; simp at hl; omega
      · simp only [Option.some.injEq, Addr.mk.injEq] at e
        exact e.2.2
    refine wpList_append_own_at w hgd s x 40 ho B 107 i0 (.agg #[.int .i64 0, .int .i64 0]) 2 16 Try.underlying40 hi0 hz00 hz01 hz02 rfl (by decide) v l (xs.map (Value.int .i64)) hs hown ⟨b, off, spot⟩ m c (zs.map (Value.int .i64)) hx (by simp; omega) ?_ (fun u hu => by simp at hu; obtain ⟨y, _, rfl⟩ := hu; rfl) (by unfold maxLen; omega) (by omega) hB ?_
    · intro j u hj
      have hjl : j < zs.length := by
        by_cases q : j < zs.length
        · exact q
        · rw [List.getElem?_eq_none (by simpa using q)] at hj; cases hj
      obtain rfl := hspot (by omega)
      obtain ⟨b2, o2, e2, q2⟩ := hi.at (Below.refl _ _) (k := j) hjl
      simp only [Option.some.injEq, Addr.mk.injEq, and_true] at e2
      obtain ⟨rfl, rfl⟩ := e2
      rw [show (⟨b, off, none⟩ : Addr).add j = ⟨b, off + j, none⟩ by unfold Addr.add; split <;> simp_all, q2]
      rw [List.getElem?_map, List.getElem?_eq_getElem hjl] at hj
      simp at hj
      rw [← hj]; simp [List.getD, hjl]
    · intro v' w' q1 q2 _ q4
      exact h v' w' (by show World.ownsRow _ _ _ _ _ _ _; rw [List.map_append]; exact q1) q2 q4
end Go.Proofs.Yticgipmaflhplaa.walks
