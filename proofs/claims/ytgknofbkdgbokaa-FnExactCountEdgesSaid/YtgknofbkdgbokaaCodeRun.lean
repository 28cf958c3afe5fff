/-
  What the specification's RunCode answers, at every list of steps and every list of words; it writes into memory of its own alone.
-/
import Derived.Test.YtgknofbkdgbokaaProg
import Derived.Test.YtgknofbkdgbokaaMagMath
import Derived.Test.YtgknofbkdgbokaaCodeMath
import Derived.Test.YtgknofbkdgbokaaRunMath
import Derived.Test.YtgknofbkdgbokaaInts
import Derived.Test.YtgknofbkdgbokaaOwnInts
import Derived.Test.YtgknofbkdgbokaaRecsInstr
import Derived.Test.YtgknofbkdgbokaaCodeGood
import Derived.Test.YtgknofbkdgbokaaTwoWords
import Derived.Test.YtgknofbkdgbokaaGrow
import Derived.WalkKit
import Derived.WalkSpells
import Derived.Below
import Derived.Handy
import Derived.Deep.RegionWith
import Derived.Deep.RegionHeld3
namespace Go.Proofs.Ytgknofbkdgbokaa.walks
open Go.RowKit Go.Proofs.Ytgknofbkdgbokaa.math Go.Proofs.Ytgknofbkdgbokaa.ints
set_option linter.unusedVariables false

theorem spec_words (a : Option Addr) (len cap : Nat) (ws : List Int) (W : World) (hz : Hid (ws.length = len)) (hlen : len ≤ 1048576) (h : Hid (Ints W a ws)) :
    Calls Try.prog 28 #[.slice a len cap] W fun e W' => e = .returned (.bool (wordsB ws)) ∧ W' = W := by
  go_enter Try.func28, Try.ntmps28
  go_wp2
  go_loop [7] (fun vi => ∃ k : Nat, k ≤ len ∧ vi = .int .i64 k ∧ Hid (∀ j, j < k → inR (ws.getD j 0) 0 65535 = true)) (fun vi => len - (intOf vi).toNat)
  case atStart => exact ⟨0, Nat.zero_le _, rfl, fun j hj => by omega⟩
  case round =>
    obtain ⟨k, hk, rfl, HG⟩ := hrel
    by_cases hlt : k < len
    · obtain ⟨b, off, ha, hc⟩ := h.out.at (Below.refl _ _) (k := k) (by have := hz.out; omega)
      subst ha
      obtain ⟨x, hx, HX⟩ : ∃ x : Int, W.cell? ⟨b, off + k, none⟩ = some (.int .i64 x) ∧ Hid (x = ws.getD k 0) := ⟨_, hc, rfl⟩
      clear hc
      cases hg : inR x 0 65535
      · have HE : Hid (wordsB ws = false) := words_bad (i := k) (by have := hz.out; omega) (by rw [← HX.out]; exact hg)
        go_wp2_with (go_at_call 48; refine (spec_word _ _).mono ?_; rintro e w' ⟨rfl, rfl⟩)
        go_ret
        exact ⟨by rw [HE.out]; rfl, rfl⟩
      · have HG' : Hid (∀ j, j < k + 1 → inR (ws.getD j 0) 0 65535 = true) := by
          show ∀ j, j < k + 1 → _
          intro j hj
          by_cases e : j = k
          · rw [e, ← HX.out]; exact hg
          · exact HG.out j (by omega)
        go_wp2_with (go_at_call 48; refine (spec_word _ _).mono ?_; rintro e w' ⟨rfl, hw⟩; rw [hw]; clear hw w')
        go_round
        case rel => exact ⟨k + 1, by omega, by go_num, HG'⟩
        case measure => simp [intOf]; omega
    · by_cases h8 : len = 8
      · have HE : Hid (wordsB ws = true) := words_mk (by rw [hz.out]; exact h8) (fun i hi => HG.out i (by have := hz.out; omega))
        subst h8
        go_wp2
        go_ret
        exact ⟨by rw [HE.out]; rfl, rfl⟩
      · have HE : Hid (wordsB ws = false) := words_no (by rw [hz.out]; exact h8)
        have q8 : ((len : Int) == 8) = false := by simp; omega
        go_wp2
        go_ret
        exact ⟨by rw [HE.out]; simp <;> omega, rfl⟩
theorem mine_set {w : World} {B g off j : Nat} {zs : List Int} (h : Mine w B (some ⟨g, off, none⟩) zs) (hj : j < zs.length) (x : Int) : Mine (w.setCell ⟨g, off + j, none⟩ (.int .i64 x)) B (some ⟨g, off, none⟩) (zs.set j x) := by
  rcases h with h | ⟨g', off', e, hB, hl, hc⟩
  · rw [h] at hj; simp at hj
  · simp only [Option.some.injEq, Addr.mk.injEq] at e
    obtain ⟨rfl, rfl, _⟩ := e
    refine Or.inr ⟨g, off, rfl, hB, by simpa [World.setCell] using hl, fun i hi => ?_⟩
    simp only [List.length_set] at hi
    obtain ⟨e0, e1⟩ := hc i hi
    refine ⟨?_, by simpa using e1⟩
    by_cases e : j = i
    · subst e
      rw [World.cell?_setCell_same _ _ _ e0]
      simp [List.getD, hi]
    · rw [World.cell?_setCell_other _ _ _ _ (by simp; try omega), e0]
      simp [List.getD, List.getElem?_set_ne e]
theorem mine_alloc {w : World} {B : Nat} {a : Option Addr} {zs : List Int} (h : Mine w B a zs) (o : Obj) : Mine (w.alloc o) B a zs := h.kept ((Below.refl _ _).alloc (Nat.le_refl _) o)
/-- The code in a world in which block g alone has turned. -/
theorem ints_far {W wr : World} {B g : Nat} {a : Option Addr} {zs : List Int} (h : Ints W a zs) (hb : ∀ b off, a = some ⟨b, off, none⟩ → b ≠ g) (hg : W.grownBy wr (some g)) : Ints wr a zs := by
  rcases h with h | ⟨b, off, rfl, hlt, hc⟩
  · exact Or.inl h
  · exact Or.inr ⟨b, off, rfl, Nat.lt_of_lt_of_le hlt hg.size, fun i hi => hg.cell (hc i hi) (by simpa using hb b off rfl)⟩

/-- What a store into the words leaves. -/
theorem rel_set {W wr : World} {Bt B g off j : Nat} {vt : Value} {T V : List Int} (hO : Own wr Bt vt T) (hM : Mine wr B (some ⟨g, off, none⟩) V) (hG : W.grownBy wr (some g)) (hg : g < Bt) (hj : j < V.length) (v : Int) (o : Obj) :
    Own ((wr.setCell ⟨g, off + j, none⟩ (.int .i64 v)).alloc o) Bt vt T ∧ Mine ((wr.setCell ⟨g, off + j, none⟩ (.int .i64 v)).alloc o) B (some ⟨g, off, none⟩) (V.set j v) ∧ W.grownBy ((wr.setCell ⟨g, off + j, none⟩ (.int .i64 v)).alloc o) (some g) :=
  ⟨World.ownsRow.alloc (ownsRow_setCell_below hO hg _) _, mine_alloc (mine_set hM hj v) _, grow_alloc (grow_set hG _ _) _⟩
theorem mine_grow {w w' : World} {B g off : Nat} {zs : List Int} {row : Option Nat} (h : Mine w B (some ⟨g, off, none⟩) zs) (hg : w.grownBy w' row) (hr : row ≠ some g) : Mine w' B (some ⟨g, off, none⟩) zs := by
  rcases h with h | ⟨g', off', e, hB, hl, hc⟩
  · exact Or.inl h
  · simp only [Option.some.injEq, Addr.mk.injEq] at e
    obtain ⟨rfl, rfl, _⟩ := e
    have hne : some g ≠ row := fun e => hr e.symm
    exact Or.inr ⟨g, off, rfl, hB, Nat.lt_of_lt_of_le hl hg.size, fun i hi => ⟨hg.cell (hc i hi).1 (by simpa using hne), (World.frozen?_of_block (hg.block g hl hne)).trans (hc i hi).2⟩⟩
theorem grow_own {W w w' : World} {g : Nat} {row : Option Nat} (h : W.grownBy w (some g)) (k : w.grownBy w' row) (hr : ∀ j, row = some j → W.heap.size ≤ j) : W.grownBy w' (some g) :=
  ⟨k.os.trans h.os, k.tape.trans h.tape, k.output.trans h.output, Nat.le_trans h.size k.size, fun i hi hne => (k.block i (Nat.lt_of_lt_of_le hi h.size) (fun e => by have := hr i e.symm; omega)).trans (h.block i hi hne)⟩
/-- What an append to what is told leaves. -/
theorem rel_told {W wr w1 : World} {B g off : Nat} {u v' : Value} {T V : List Int} {x : Int} {X o : Obj} (hO : Own wr W.heap.size u T) (hM : Mine wr B (some ⟨g, off, none⟩) V) (hG : W.grownBy wr (some g)) (hg : g < W.heap.size)
    (hown' : w1.ownsRow W.heap.size 3 1 v' (T.length + 1) (T.map (Value.int .i64) ++ [.int .i64 x])) (hgrow : ((wr.alloc X).alloc o).grownBy w1 u.ownBlock) :
    Own w1 W.heap.size v' (T ++ [x]) ∧ Mine w1 B (some ⟨g, off, none⟩) V ∧ W.grownBy w1 (some g) := by
  have hr : ∀ j, u.ownBlock = some j → W.heap.size ≤ j := fun j e => (World.ownsRow.lt hO j e).1
  refine ⟨by unfold Own; simpa using hown', mine_grow (mine_alloc (mine_alloc hM X) o) hgrow (fun e => by have := hr g e; omega), grow_own (grow_alloc (grow_alloc hG X) o) hgrow hr⟩

end Go.Proofs.Ytgknofbkdgbokaa.walks
