/-
  slices.Clone: a copy of a list's own cells, in a block of its own.
-/
import Derived.Test.YticgipmaflhplaaProg
import Derived.Test.YticgipmaflhplaaInts
import Derived.Test.YticgipmaflhplaaDeep
import Derived.Test.YticgipmaflhplaaDeepRow
import Derived.WalkKit
import Derived.WalkSpells
import Derived.Below
import Derived.Handy
import Derived.OwnWalk
import Derived.Maps.AppendAt
import Derived.Laws.MakeOwn
namespace Go.Proofs.Yticgipmaflhplaa.walks
open Go.RowKit Go.Proofs.Yticgipmaflhplaa.ints Go.Proofs.Yticgipmaflhplaa.deep
set_option linter.unusedVariables false
set_option maxRecDepth 100000

/-- Cells of a block, none barred. -/
def CellsU (w : World) (g m : Nat) (U : Nat → Value) : Prop := g < w.heap.size ∧ ∀ j, j < m → w.cell? ⟨g, j, none⟩ = some (U j) ∧ w.frozen? ⟨g, j, none⟩ = false
theorem CellsU.kept {w w' : World} {g m : Nat} {U : Nat → Value} (h : CellsU w g m U) (hb : w'.heap[g]? = w.heap[g]?) (hs : w.heap.size ≤ w'.heap.size) : CellsU w' g m U :=
  ⟨Nat.lt_of_lt_of_le h.1 hs, fun j hj => ⟨(World.cell?_of_block hb).trans (h.2 j hj).1, (World.frozen?_of_block hb).trans (h.2 j hj).2⟩⟩
theorem CellsU.set {w : World} {g m : Nat} {U : Nat → Value} (h : CellsU w g m U) (q : Nat) (u : Value) : CellsU (w.setCell ⟨g, q, none⟩ u) g m (fun i => if i = q then u else U i) :=
  ⟨by simpa [World.setCell] using h.1, fun j hj => ⟨by
    by_cases e : j = q
    · subst e
      rw [World.cell?_setCell_same _ _ _ (h.2 j hj).1]; simp
    · show _ = some (if j = q then u else U j)
      rw [if_neg e, World.cell?_setCell_other _ _ _ _ (by simp; try omega), (h.2 j hj).1], by simpa using (h.2 j hj).2⟩⟩
theorem CellsU.congr {w : World} {g m : Nat} {U U' : Nat → Value} (h : CellsU w g m U) (e : ∀ i, i < m → U i = U' i) : CellsU w g m U' := ⟨h.1, fun j hj => by rw [← e j hj]; exact h.2 j hj⟩
/-- .. of a list that was made by appends. -/
theorem cells_of_row {w : World} {B : Nat} {T : TypeId} {sz n g c : Nat} {xs : List Value} (h : w.ownsRow B T sz (.slice (some ⟨g, 0, none⟩) n c) n xs) {U : Nat → Value} (hU : ∀ j, j < n * sz → xs[j]? = some (U j)) : CellsU w g (n * sz) U := by
  refine ⟨(World.ownsRow.lt h g rfl).2, fun j hj => ⟨?_, ?_⟩⟩
  · have q := World.ownsRow.cells h (g := g) rfl j (U j) (hU j hj)
    rw [show (⟨g, 0, none⟩ : Addr).add j = ⟨g, j, none⟩ by unfold Addr.add; split <;> simp_all] at q
    exact q
  · rcases h.2 with ⟨e, _⟩ | ⟨g', cap, cur, e, _, hw, _⟩
    · cases e
    · simp only [Value.slice.injEq, Option.some.injEq, Addr.mk.injEq, and_true, true_and] at e
      obtain ⟨rfl, _⟩ := e
      simp [World.frozen?, hw]
def CloneAns (W : World) (len m : Nat) (U : Nat → Value) (e : Ending) (W' : World) : Prop := ∃ g cap, e = .returned (.slice (some ⟨g, 0, none⟩) len cap) ∧ W.heap.size ≤ g ∧ CellsU W' g m U ∧ Below W.heap.size W W'
set_option maxHeartbeats 4000000 in
theorem clone_ints (b o len cap : Nat) (U : Nat → Value) (W : World) (hx : len ≤ 1048576) (m : Nat) (hm : m = len * 1) (hb : b < W.heap.size) (hc : Hid (∀ j, j < m → W.cell? ⟨b, o + j, none⟩ = some (U j))) (h1 : Hid (∀ j, j < m → (U j).oneCell' = true)) :
    Calls Try.prog 63 #[.slice (some ⟨b, o, none⟩) len cap] W fun e W' => CloneAns W len m U e W' := by
  obtain ⟨i0, hi, hz0, hz1, hz2⟩ := parts_of (P := Try.prog) (e := 3) (z := .int .i64 0) (a := 1) (b := 8) (by kernel_rfl)
  obtain ⟨news, HN⟩ : ∃ news, Hid ((List.range m).map U = news) := ⟨_, rfl⟩
  have hl : news.length = len * 1 := by rw [← HN.out, ← hm]; simp
  have hU : Hid (∀ j, j < m → news[j]? = some (U j)) := by
    intro j hj
    rw [← HN.out]; simp [hj]
  have hne : ∀ (w : World), w.cell? = W.cell? → ∀ j u, news[j]? = some u → w.cell? ((⟨b, o, none⟩ : Addr).add j) = some u := by
    intro w e j u hj
    have hlt : j < m := by have := (List.getElem?_eq_some_iff.1 hj).1; omega
    have q := hU.out j hlt
    rw [hj] at q
    obtain rfl := Option.some.inj q
    have ha : (⟨b, o, none⟩ : Addr).add j = ⟨b, o + j, none⟩ := by unfold Addr.add; split <;> simp_all
    rw [ha, e]; exact hc.out j hlt
  have hn2 : ∀ j u, news[j]? = some u → (W.alloc (.cells #[] 3)).cell? ((⟨b, o, none⟩ : Addr).add j) = some u := by
    intro j u hj
    have q := hne W rfl j u hj
    have ha : (⟨b, o, none⟩ : Addr).add j = ⟨b, o + j, none⟩ := by unfold Addr.add; split <;> simp_all
    rw [ha] at q ⊢
    rw [World.cell?_alloc_past _ _ _ hb]; exact q
  have h1n : ∀ u ∈ news, u.oneCell' = true := by
    intro u hu
    rw [← HN.out] at hu
    simp at hu
    obtain ⟨j, hj, rfl⟩ := hu
    exact h1.out j hj
  have HA : Hid (∀ v' w', w'.ownsRow W.heap.size 3 1 v' (0 + len) ([] ++ news) → (W.alloc (.cells #[] 3)).grownBy w' (some W.heap.size) → (v' = .slice none 0 0 ↔ (Value.slice (some ⟨W.heap.size, 0, none⟩) 0 0) = .slice none 0 0 ∧ len = 0) → CloneAns W len m U (.returned v') w') := fun v' w' q1 q2 q3 => by
    rw [Nat.zero_add, List.nil_append] at q1
    rcases q1.2 with ⟨e, _⟩ | ⟨g, cap', cur, e, hg, _⟩
    · exact absurd (q3.1 e).1 (by simp)
    · subst e
      refine ⟨g, cap', rfl, hg, (by rw [hm]; exact cells_of_row q1 (by rw [← hm]; exact hU.out)), ?_⟩
      refine ((Below.refl W.heap.size W).alloc (Nat.le_refl _) (.cells #[] 3)).trans ?_
      exact ⟨q2.os, q2.tape, q2.output, q2.size, fun k hk => q2.block k (by simp; omega) (by simp; omega)⟩
  have h63 : 0 + len ≤ maxLen := by unfold maxLen; omega
  have hby : (0 + len) * 8 ≤ 140737488355328 := by omega
  clear hne hc h1 hU HN
  have he : ∀ w, (binOp .eql 48 (.slice (some ⟨b, o, none⟩) len cap) (.slice none 0 0)).run Try.prog w = .ok (.bool false) w := fun _ => by kernel_rfl
  go_enter Try.func63, Try.ntmps63
  go_wp2_with (at_builtin; refine wpList_append_own_at _ rfl _ _ 48 rfl W.heap.size 3 i0 _ 1 8 Try.underlying48 hi hz0 hz1 hz2 rfl (by decide) (.slice (some ⟨W.heap.size, 0, none⟩) 0 0) 0 [] rfl (World.ownsRow_made W #[] 0 (Nat.le_refl _) (Nat.zero_le _) rfl) ⟨b, o, none⟩ len cap news rfl hl hn2 h1n h63 hby (by simp) ?_; intro v' w' q1 q2 q3 q4)
  go_ret
  exact HA.out _ _ q1 q2 q3
set_option maxHeartbeats 4000000 in
theorem clone_classes (b o len cap : Nat) (U : Nat → Value) (W : World) (hx : len ≤ 1048576) (m : Nat) (hm : m = len * 2) (hb : b < W.heap.size) (hc : Hid (∀ j, j < m → W.cell? ⟨b, o + j, none⟩ = some (U j))) (h1 : Hid (∀ j, j < m → (U j).oneCell' = true)) :
    Calls Try.prog 62 #[.slice (some ⟨b, o, none⟩) len cap] W fun e W' => CloneAns W len m U e W' := by
  obtain ⟨i0, hi, hz0, hz1, hz2⟩ := parts_of (P := Try.prog) (e := 59) (z := .agg #[.int .i64 0, .slice none 0 0]) (a := 2) (b := 32) (by kernel_rfl)
  obtain ⟨news, HN⟩ : ∃ news, Hid ((List.range m).map U = news) := ⟨_, rfl⟩
  have hl : news.length = len * 2 := by rw [← HN.out, ← hm]; simp
  have hU : Hid (∀ j, j < m → news[j]? = some (U j)) := by
    intro j hj
    rw [← HN.out]; simp [hj]
  have hne : ∀ (w : World), w.cell? = W.cell? → ∀ j u, news[j]? = some u → w.cell? ((⟨b, o, none⟩ : Addr).add j) = some u := by
    intro w e j u hj
    have hlt : j < m := by have := (List.getElem?_eq_some_iff.1 hj).1; omega
    have q := hU.out j hlt
    rw [hj] at q
    obtain rfl := Option.some.inj q
    have ha : (⟨b, o, none⟩ : Addr).add j = ⟨b, o + j, none⟩ := by unfold Addr.add; split <;> simp_all
    rw [ha, e]; exact hc.out j hlt
  have hn2 : ∀ j u, news[j]? = some u → (W.alloc (.cells #[] 59)).cell? ((⟨b, o, none⟩ : Addr).add j) = some u := by
    intro j u hj
    have q := hne W rfl j u hj
    have ha : (⟨b, o, none⟩ : Addr).add j = ⟨b, o + j, none⟩ := by unfold Addr.add; split <;> simp_all
    rw [ha] at q ⊢
    rw [World.cell?_alloc_past _ _ _ hb]; exact q
  have h1n : ∀ u ∈ news, u.oneCell' = true := by
    intro u hu
    rw [← HN.out] at hu
    simp at hu
    obtain ⟨j, hj, rfl⟩ := hu
    exact h1.out j hj
  have HA : Hid (∀ v' w', w'.ownsRow W.heap.size 59 2 v' (0 + len) ([] ++ news) → (W.alloc (.cells #[] 59)).grownBy w' (some W.heap.size) → (v' = .slice none 0 0 ↔ (Value.slice (some ⟨W.heap.size, 0, none⟩) 0 0) = .slice none 0 0 ∧ len = 0) → CloneAns W len m U (.returned v') w') := fun v' w' q1 q2 q3 => by
    rw [Nat.zero_add, List.nil_append] at q1
    rcases q1.2 with ⟨e, _⟩ | ⟨g, cap', cur, e, hg, _⟩
    · exact absurd (q3.1 e).1 (by simp)
    · subst e
      refine ⟨g, cap', rfl, hg, (by rw [hm]; exact cells_of_row q1 (by rw [← hm]; exact hU.out)), ?_⟩
      refine ((Below.refl W.heap.size W).alloc (Nat.le_refl _) (.cells #[] 59)).trans ?_
      exact ⟨q2.os, q2.tape, q2.output, q2.size, fun k hk => q2.block k (by simp; omega) (by simp; omega)⟩
  have h63 : 0 + len ≤ maxLen := by unfold maxLen; omega
  have hby : (0 + len) * 32 ≤ 140737488355328 := by omega
  clear hne hc h1 hU HN
  have he : ∀ w, (binOp .eql 27 (.slice (some ⟨b, o, none⟩) len cap) (.slice none 0 0)).run Try.prog w = .ok (.bool false) w := fun _ => by kernel_rfl
  go_enter Try.func62, Try.ntmps62
  go_wp2_with (at_builtin; refine wpList_append_own_at _ rfl _ _ 27 rfl W.heap.size 59 i0 _ 2 32 Try.underlying27 hi hz0 hz1 hz2 rfl (by decide) (.slice (some ⟨W.heap.size, 0, none⟩) 0 0) 0 [] rfl (World.ownsRow_made W #[] 0 (Nat.le_refl _) (Nat.zero_le _) rfl) ⟨b, o, none⟩ len cap news rfl hl hn2 h1n h63 hby (by simp) ?_; intro v' w' q1 q2 q3 q4)
  go_ret
  exact HA.out _ _ q1 q2 q3
end Go.Proofs.Yticgipmaflhplaa.walks
