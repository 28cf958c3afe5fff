/-
  The members of a set in memory, rising, as a new list: what the program's rising answers (slices.Sorted of maps.Keys, by the shelf's contracts in plain words).
-/
import Derived.Shelf.SlIterI.Nil
import Derived.Shelf.SortM.Plain
import Derived.Shelf.SortM.SortNone
import Derived.Test.YtfmgbalfabpogaaProg
import Derived.Test.YtfmgbalfabpogaaShelf
import Derived.Test.YtfmgbalfabpogaaSetKeys
import Derived.Test.YtfmgbalfabpogaaSetOps
import Derived.Test.YtfmgbalfabpogaaOwnInts
namespace Go.Proofs.Ytfmgbalfabpogaa.walks
open Go.RowKit Go.Maps Go.Sort Go.Shelf Go.Proofs.Ytfmgbalfabpogaa.math Go.Proofs.Ytfmgbalfabpogaa.ints
set_option linter.unusedVariables false

theorem sorts_at (m : Nat) : AnyZI.SortsIn Try.prog Try.sortedA_ren Fence.wide m :=
  ⟨fun blk off cap ss W hH hblk hsz => callsIn_wide.2 (AnyM.slices_Sort_int Try.laysSlM5_f67 blk off cap ss W hH hblk hsz),
   fun p cap W => callsIn_wide.2 (AnyM.slices_Sort_int_none Try.laysSlM5_f67 p cap W)⟩
def RiseAns (zs : List Int) (W : World) (e : Ending) (W' : World) : Prop := ∃ v, e = .returned v ∧ Go.Proofs.Ytfmgbalfabpogaa.ints.Own W' W.heap.size v zs ∧ Below W.heap.size W W'
set_option maxHeartbeats 1000000 in
theorem impl_rise (b : Nat) (f : Nat → Bool) (w : World) (hs : SetIs w b f) :
    Calls Try.prog 29 #[.map (some b)] w fun e w' => RiseAns (listS f) w e w' := by
  unfold SetIs at hs
  have hown := hs
  have hsz : Maps.size (setD f) ≤ 64 := sd_len f
  have hmax : Maps.size (setD f) ≤ maxLen := by unfold maxLen; omega
  have hbytes : Maps.size (setD f) * 8 ≤ 140737488355328 := by omega
  refine (callsIn_wide (n := 6)).1 ?_
  have hbl := hown.lt
  have hseq : SeqGives Fence.wide 2 Try.prog 68 #[.pointer (some ⟨w.heap.size, 0, none⟩)] encZ (fun ss => ss.Perm (intKeys (setD f))) (Maps.size (setD f)) (w.alloc (.cells #[.map (some b)] 56)) :=
    AnyZI.keys_gives (ρ := Try.keysA_ren) { Try.keysA with } Fence.wide _ trivial rfl (by omega) w.heap.size b 64 (setD f) _ (by simp) (by simp) (by
      obtain ⟨es, clock, hb, Ft, hs, hD⟩ := hown
      exact ⟨es, clock, (Below.heap_alloc _ _ b hbl).trans hb, Ft, hs, hD⟩)
  have cK : ∀ mb W, CallsIn Fence.wide 5 Try.prog 51 #[.map mb] W fun e w' => e = .returned (.func (.func 68) #[] #[.pointer (some ⟨W.heap.size, 0, none⟩)]) ∧ w' = W.alloc (.cells #[.map mb] 56) := fun mb W => AnyZI.keys_in Try.keysA Fence.wide 5 trivial rfl mb W
  have cS := AnyZI.sorted_in Try.sortedA Fence.wide 5 trivial trivial trivial trivial rfl (by omega) (sorts_at _) (enters_of Try.func67 (by kernel_rfl) rfl) 68 #[.pointer (some ⟨w.heap.size, 0, none⟩)] trivial (enters_of Try.func68 (by kernel_rfl) rfl) _ _ hmax hbytes _ hseq
  change CallsIn _ _ Try.prog 50 _ _ _ at cS
  have hfK : Fence.wide.fn 51 := trivial
  have hfS : Fence.wide.fn 50 := trivial
  refine callsIn_of_wp Try.func29 rfl trivial ?_ rfl
  simp only [Try.ntmps29, List.size_toArray, List.length_cons, List.length_nil, Nat.reduceAdd, Nat.reduceSub, Array.replicate_succ, Array.replicate_zero, List.push_toArray, List.append_toArray, List.nil_append, List.cons_append]
  gi_wp2_with (first
    | (gi_at_call 51; refine (cK _ _).mono ?_; rintro e w' ⟨rfl, rfl⟩)
    | (gi_at_call 50; refine cS.mono ?_; rintro e w' ⟨v, ss, rfl, hS, hrow, hnil, hb⟩))
  go_ret
  refine ⟨v, rfl, ?_, ((Below.refl _ w).alloc (Nat.le_refl _) _).trans (hb.mono (by simp))⟩
  have e1 := sorted_keys hS
  have e2 : ss.length = (listS f).length := by rw [← e1, List.length_mergeSort]
  unfold Go.Proofs.Ytfmgbalfabpogaa.ints.Own
  have := ownsRow_base_a hrow (by simp : w.heap.size ≤ _)
  rw [e1, e2] at this
  exact this
end Go.Proofs.Ytfmgbalfabpogaa.walks
