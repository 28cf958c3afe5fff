/-
  slices.Clone of a list of numbers: a list of its own.
-/
import Derived.Test.YtokaibpkajloeaaProg
import Derived.Test.YtokaibpkajloeaaInts
import Derived.Test.YtokaibpkajloeaaOwnInts
import Derived.Test.YtokaibpkajloeaaDeepRow
import Derived.WalkKit
import Derived.WalkSpells
import Derived.Below
import Derived.Handy
import Derived.OwnWalk
import Derived.Maps.AppendAt
import Derived.Laws.MakeOwn
namespace Go.Proofs.Ytokaibpkajloeaa.walks
open Go.RowKit Go.Proofs.Ytokaibpkajloeaa.ints Go.Proofs.Ytokaibpkajloeaa.deep
set_option linter.unusedVariables false
set_option maxRecDepth 100000

/-- What a copy is. -/
def CloneTo (W : World) (zs : List Int) (e : Ending) (W' : World) : Prop := ∃ v, e = .returned v ∧ Own W' W.heap.size v zs ∧ Below W.heap.size W W'
/-- The cells of a list, as an append takes them. -/
theorem ints_news {W : World} {ad : Addr} {zs : List Int} (h : Ints W (some ad) zs) : ∀ j u, (zs.map (Value.int .i64))[j]? = some u → W.cell? (ad.add j) = some u ∧ ad.block < W.heap.size := by
  intro j u hj
  have hlt : j < zs.length := by have := (List.getElem?_eq_some_iff.1 hj).1; simpa using this
  rcases h with h | ⟨b, off, e, hb, hc⟩
  · rw [h] at hlt; simp at hlt
  · obtain rfl := Option.some.inj e
    have ha : (⟨b, off, none⟩ : Addr).add j = ⟨b, off + j, none⟩ := by unfold Addr.add; split <;> simp_all
    refine ⟨?_, hb⟩
    rw [ha, hc j hlt]
    simp [hlt] at hj
    rw [← hj]
    simp [List.getD, hlt]
theorem one_cells (zs : List Int) : ∀ u ∈ zs.map (Value.int .i64), u.oneCell' = true := by
  intro u hu
  simp at hu
  obtain ⟨x, _, rfl⟩ := hu
  rfl
set_option maxHeartbeats 4000000 in
theorem clone_own (a : Option Addr) (L cap : Nat) (zs : List Int) (W : World) (HL : Hid (zs.length = L)) (hx : L ≤ 1048576) (h : Hid (Ints W a zs)) :
    Calls Try.prog 58 #[.slice a L cap] W fun e W' => CloneTo W zs e W' := by
  obtain ⟨i0, hi, hz0, hz1, hz2⟩ := parts_of (P := Try.prog) (e := 3) (z := .int .i64 0) (a := 1) (b := 8) (by kernel_rfl)
  cases a with
  | none =>
    have e0 : zs = [] := by
      rcases h.out with q | ⟨b, off, e, _⟩
      · exact q
      · cases e
    subst e0
    have hL : L = 0 := HL.out.symm
    subst hL
    have he : ∀ w, (binOp .eql 23 (.slice none 0 cap) (.slice none 0 0)).run Try.prog w = .ok (.bool true) w := fun _ => by kernel_rfl
    go_enter Try.func58, Try.ntmps58
    go_wp2
    go_ret
    exact ⟨_, rfl, own_nil _ _, Below.refl _ _⟩
  | some ad =>
    have HN : Hid (∀ j u, (zs.map (Value.int .i64))[j]? = some u → (W.alloc (.cells #[] 3)).cell? (ad.add j) = some u) := by
      intro j u hj
      have q := ints_news h.out j u hj
      exact (((Below.refl W.heap.size W).alloc (Nat.le_refl _) (.cells #[] 3)).cell (p := ad.add j) (by unfold Addr.add; split <;> exact q.2)).trans q.1
    obtain ⟨news, HNW⟩ : ∃ news, Hid (zs.map (Value.int .i64) = news) := ⟨_, rfl⟩
    have hl : news.length = L * 1 := by rw [← HNW.out]; simpa using HL.out
    have h1n : Hid (∀ u ∈ news, u.oneCell' = true) := by rw [← HNW.out]; exact one_cells zs
    rw [HNW.out] at HN
    have HA : Hid (∀ v' w', w'.ownsRow W.heap.size 3 1 v' (0 + L) ([] ++ news) → (W.alloc (.cells #[] 3)).grownBy w' (some W.heap.size) → CloneTo W zs (.returned v') w') := fun v' w' q1 q2 => by
      rw [Nat.zero_add, List.nil_append, ← HNW.out, ← HL.out] at q1
      refine ⟨v', rfl, q1, ?_⟩
      refine ((Below.refl W.heap.size W).alloc (Nat.le_refl _) (.cells #[] 3)).trans ?_
      exact ⟨q2.os, q2.tape, q2.output, q2.size, fun k hk => q2.block k (by simp; omega) (by simp; omega)⟩
    have h63 : 0 + L ≤ maxLen := by unfold maxLen; omega
    have hby : (0 + L) * 8 ≤ 140737488355328 := by omega
    clear h
    have he : ∀ w, (binOp .eql 23 (.slice (some ad) L cap) (.slice none 0 0)).run Try.prog w = .ok (.bool false) w := fun _ => by kernel_rfl
    go_enter Try.func58, Try.ntmps58
    go_wp2_with (at_builtin; refine wpList_append_own_at _ rfl _ _ 23 rfl W.heap.size 3 i0 _ 1 8 Try.underlying23 hi hz0 hz1 hz2 rfl (by decide) (.slice (some ⟨W.heap.size, 0, none⟩) 0 0) 0 [] rfl (World.ownsRow_made W #[] 0 (Nat.le_refl _) (Nat.zero_le _) rfl) ad L cap news rfl hl HN.out h1n.out h63 hby (by simp) ?_; intro v' w' q1 q2 q3 q4)
    go_ret
    exact HA.out _ _ q1 q2
end Go.Proofs.Ytokaibpkajloeaa.walks
