/-
  The names of a heap at work, rising, as a new list: slices.Sorted of maps.Keys, by the shelf's contracts in plain words.
-/
import Derived.Shelf.SlIterI.Nil
import Derived.Shelf.SortM.Plain
import Derived.Shelf.SortM.SortNone
import Derived.Lib.SlKeysI
import Derived.Test.YthomonidconmcaaProg
import Derived.Test.YthomonidconmcaaShelf
import Derived.Test.YthomonidconmcaaPtrMap
import Derived.Test.YthomonidconmcaaHeapRun
import Derived.Test.YthomonidconmcaaOwnInts
namespace Go.Proofs.Ythomonidconmcaa.walks
open Go.RowKit Go.Maps Go.Sort Go.Shelf Go.Proofs.Ythomonidconmcaa.ints
set_option linter.unusedVariables false
set_option maxRecDepth 100000

theorem sorts_at14 (m : Nat) : AnyZI.SortsIn Try.prog Try.sortedA_ren Fence.wide m :=
  ⟨fun blk off cap ss W hH hblk hsz => callsIn_wide.2 (AnyM.slices_Sort_int Try.laysSlM5_f59 blk off cap ss W hH hblk hsz),
   fun p cap W => callsIn_wide.2 (AnyM.slices_Sort_int_none Try.laysSlM5_f59 p cap W)⟩
def RiseTo14 (zs : List Int) (W : World) (e : Ending) (W' : World) : Prop := ∃ v, e = .returned v ∧ Go.Proofs.Ythomonidconmcaa.ints.Own W' W.heap.size v zs ∧ Below W.heap.size W W'
theorem has_okZ {R : Value → Option (DataW Unit × List MemPlace)} {w : World} {b n : Nat} {D : DataW Unit} (h : w.ownsMap Try.prog 3 R b n D) {x : Int} (hx : Maps.has D (.int .i64 x) = true) : okZ x := by
  obtain ⟨es, rfl, hko⟩ := h.keysOf
  rw [Maps.has_eq, List.any_eq_true] at hx
  obtain ⟨p, hp, hs⟩ := hx
  obtain ⟨v, hv⟩ := hko p hp
  obtain ⟨y, _, hy, hw⟩ := Maps.keyOf_i64 Try.underlying3 hv
  rw [hy] at hs
  have e : y = x := by simpa [Lit.sameKey] using hs
  rw [← e]; exact hw
/-- The keys of a map, sorted, are the one rising list that has them. -/
theorem keys_sorted {R : Value → Option (DataW Unit × List MemPlace)} {w : World} {b n : Nat} {D : DataW Unit} (h : w.ownsMap Try.prog 3 R b n D) {zs ss : List Int} (hz : zs.Pairwise (· < ·)) (hm : ∀ x, okZ x → (x ∈ zs ↔ Maps.has D (.int .i64 x) = true)) (hok : ∀ x ∈ zs, okZ x) (hs : ss.Perm (intKeys D)) : ss.mergeSort (fun x y => decide (x ≤ y)) = zs := by
  have hc : CollectedI D (fun _ => false) zs := ⟨hz.imp (fun q => by omega), fun x => by
    constructor
    · intro q; exact ⟨(hm x (hok x q)).1 q, rfl⟩
    · rintro ⟨q, _⟩; exact (hm x (has_okZ h q)).2 q⟩
  have hp := hc.perm h keyedZ Try.underlying3 (fun _ => rfl)
  refine (mergeSort_of_perm_i (hs.trans hp.symm)).trans ?_
  exact List.mergeSort_of_pairwise (hz.imp (fun q => by simp only [leI, decide_eq_true_eq]; omega))
set_option maxHeartbeats 1000000 in
theorem impl_sortedkeys (b n : Nat) (p : Int → Option Nat) (zs : List Int) (rp : Nat) (w : World) (hn : n ≤ 1000000) (hs : PtrIs w b n p) (hr : Hid (w.cell? ⟨rp, 0, none⟩ = some (.map (some b)))) (hz : zs.Pairwise (· < ·)) (hm : ∀ x, okZ x → (x ∈ zs ↔ (p x).isSome = true)) (hok : ∀ x ∈ zs, okZ x) :
    Calls Try.prog 44 #[.pointer (some ⟨rp, 0, none⟩)] w fun e w' => RiseTo14 zs w e w' := by
  obtain ⟨D, hown, hRep⟩ := hs
  have hsz : Maps.size D ≤ 1000000 := Nat.le_trans hown.size_le hn
  have hmax : Maps.size D ≤ maxLen := by unfold maxLen; omega
  have hbytes : Maps.size D * 8 ≤ 140737488355328 := by omega
  have hm2 : ∀ x, okZ x → (x ∈ zs ↔ Maps.has D (.int .i64 x) = true) := fun x hx => by rw [hRep.has x hx]; exact hm x hx
  have r0 := hr.out
  refine (callsIn_wide (n := 6)).1 ?_
  have hbl := hown.lt
  have hseq : SeqGives Fence.wide 2 Try.prog 77 #[.pointer (some ⟨w.heap.size, 0, none⟩)] encZ (fun ss => ss.Perm (intKeys D)) (Maps.size D) (w.alloc (.cells #[.map (some b)] 66)) :=
    AnyZI.keys_gives (ρ := Try.keysP_ren) { Try.keysP with } Fence.wide _ trivial rfl (by omega) w.heap.size b n D _ (by simp) (by simp) (by
      obtain ⟨es, clock, hb, Ft, hs, hD⟩ := hown
      exact ⟨es, clock, (Below.heap_alloc _ _ b hbl).trans hb, Ft, hs, hD⟩)
  have cK : ∀ mb W, CallsIn Fence.wide 5 Try.prog 66 #[.map mb] W fun e w' => e = .returned (.func (.func 77) #[] #[.pointer (some ⟨W.heap.size, 0, none⟩)]) ∧ w' = W.alloc (.cells #[.map mb] 66) := fun mb W => AnyZI.keys_in Try.keysP Fence.wide 5 trivial rfl mb W
  have cS := AnyZI.sorted_in Try.sortedA Fence.wide 5 trivial trivial trivial trivial rfl (by omega) (sorts_at14 _) (enters_of Try.func59 (by kernel_rfl) rfl) 77 #[.pointer (some ⟨w.heap.size, 0, none⟩)] trivial (enters_of Try.func77 (by kernel_rfl) rfl) _ _ hmax hbytes _ hseq
  change CallsIn _ _ Try.prog 38 _ _ _ at cS
  have hfK : Fence.wide.fn 66 := trivial
  have hfS : Fence.wide.fn 38 := trivial
  refine callsIn_of_wp Try.func44 rfl trivial ?_ rfl
  simp only [Try.ntmps44, List.size_toArray, List.length_cons, List.length_nil, Nat.reduceAdd, Nat.reduceSub, Array.replicate_succ, Array.replicate_zero, List.push_toArray, List.append_toArray, List.nil_append, List.cons_append]
  gi_wp2_with (first
    | (gi_at_call 66; refine (cK _ _).mono ?_; rintro e w' ⟨rfl, rfl⟩)
    | (gi_at_call 38; refine cS.mono ?_; rintro e w' ⟨v, ss, rfl, hS, hrow, hnil, hb⟩))
  go_ret
  refine ⟨v, rfl, ?_, ((Below.refl _ w).alloc (Nat.le_refl _) _).trans (hb.mono (by simp))⟩
  have e1 := keys_sorted hown hz hm2 hok hS
  have e2 : ss.length = zs.length := by rw [← e1, List.length_mergeSort]
  unfold Go.Proofs.Ythomonidconmcaa.ints.Own
  have := ownsRow_base_a hrow (by simp : w.heap.size ≤ _)
  rw [e1, e2] at this
  exact this
end Go.Proofs.Ythomonidconmcaa.walks
