/-
  One set put into another: what maps.Copy does on the program's sets, in whatever order the entries come.
-/
import Derived.Test.YtfmgbalfabpogaaProg
import Derived.Test.YtfmgbalfabpogaaSetOps
import Derived.Maps.RangeWalk
import Derived.Maps.Ext
import Derived.WalkKit
import Derived.WalkSpells
import Derived.Below
import Derived.Handy
namespace Go.Proofs.Ytfmgbalfabpogaa.walks
open Go.RowKit Go.Proofs.Ytfmgbalfabpogaa.math Go.Proofs.Ytfmgbalfabpogaa.ints
set_option linter.unusedVariables false
set_option maxRecDepth 100000

theorem grow_past {W w w' : World} {db r : Nat} (h : W.grownBy w (some db)) (k : w.grownBy w' (some r)) (hr : W.heap.size ≤ r) : W.grownBy w' (some db) :=
  ⟨k.os.trans h.os, k.tape.trans h.tape, k.output.trans h.output, Nat.le_trans h.size k.size, fun i hi hne => (k.block i (Nat.lt_of_lt_of_le hi h.size) (by simp; omega)).trans (h.block i hi hne)⟩
/-- What has come so far. -/
def copied (f g : Nat → Bool) (left : Lit → Bool) (i : Nat) : Bool := f i || (g i && !left (.int .i64 (i : Int)))
theorem copied_start (f g : Nat → Bool) : ∀ i, i < 64 → f i = copied f g (Maps.has (setD g)) i := fun i hi => by
  unfold copied
  rw [sd_has g hi]
  cases f i <;> cases g i <;> rfl
theorem copied_step (f g : Nat → Bool) (left : Lit → Bool) {n : Nat} (hg : g n = true) : ∀ i, i < 64 → (copied f g left i || i == n) = copied f g (fun z => left z && !z.sameKey (.int .i64 (n : Int))) i := fun i hi => by
  unfold copied
  by_cases e : i = n
  · subst e
    simp [Lit.sameKey, hg]
  · have e' : ¬ (i : Int) = (n : Int) := by omega
    simp [Lit.sameKey, e, e']
theorem copied_end (f g : Nat → Bool) {left : Lit → Bool} (h : ∀ kl, left kl = false) : ∀ i, i < 64 → copied f g left i = (f i || g i) := fun i hi => by simp [copied, h]
/-- The loop under way. -/
def Copying (wr : World) (db sb r : Nat) (f g : Nat → Bool) : Prop := ∃ left cnt, wr.ranges Try.prog 3 (unitElem (H := Unit)) sb r 64 (setD g) left cnt ∧ SetIs wr db (copied f g left)
set_option maxHeartbeats 4000000 in
theorem impl_copy (db sb : Nat) (f g : Nat → Bool) (W : World) (hne : db ≠ sb) (hs : Hid (SetIs W db f)) (hg : Hid (SetIs W sb g)) :
    Calls Try.prog 63 #[.map (some db), .map (some sb)] W fun e W' => SetAns db (fun i => f i || g i) W e W' := by
  have hown := hg.out
  unfold SetIs at hown
  have hdl := hs.out.lt
  have hsl := hg.out.lt
  go_enter Try.func63, Try.ntmps63
  go_wp2_with (first | (at_range; refine wpList_range_own _ rfl _ 56 rfl 3 94 keyedI Try.underlying56 _ sb 64 _ rfl hown ?_; intro w0 hrg0 hg0 hs0) | go_in)
  go_frame
  have HG0 : Hid (W.grownBy w0 (some db)) := ⟨hg0.os, hg0.tape, hg0.output, hg0.size, fun k hk _ => hg0.block k hk (by simp)⟩
  have HS0 : Hid (SetIs w0 db (copied f g (Maps.has (setD g)))) := (hs.out.far hg0 (by simp)).same (copied_start f g)
  obtain ⟨r, hr⟩ : ∃ r, Hid (W.heap.size = r) := ⟨_, rfl⟩
  rw [hr.out] at hrg0 ⊢
  have hrl : db < r := by rw [← hr.out]; exact hdl
  have hrs : sb < r := by rw [← hr.out]; exact hsl
  have HR0 : Hid (w0.ranges Try.prog 3 (unitElem (H := Unit)) sb r 64 (setD g) (Maps.has (setD g)) (Maps.size (setD g))) := hrg0
  clear hrg0 hg0 hs0 hown
  go_loopw [8] (fun _ wr => Hid (Copying wr db sb r f g) ∧ Hid (W.grownBy wr (some db))) (fun _ wr => wr.rangeLeft sb r)
  case atStart => exact ⟨⟨_, _, HR0.out, HS0.out⟩, HG0⟩
  case round =>
    obtain ⟨⟨left, cnt, hrg, hset⟩, HG⟩ := hrel
    have HS : Hid (SetIs wr db (copied f g left)) := hset
    have HRg : Hid (wr.ranges Try.prog 3 (unitElem (H := Unit)) sb r 64 (setD g) left cnt) := hrg
    go_wp2_with (at_next; refine wpList_next_ranges (α := Int) (β := Unit) _ rfl _ rfl 3 keyedI (unitElem (H := Unit)) (Value.int .i64) (fun _ => .agg #[]) (fun key kl h => by obtain ⟨x, rfl, _⟩ := Go.Maps.keyOf_int_inv Try.underlying3 h; exact ⟨x, rfl⟩) (fun v y h => by obtain ⟨rfl, _⟩ := unitElem_inv h; exact ⟨(), rfl⟩) sb r 64 (setD g) left cnt rfl hrg ?done ?more)
    case done =>
      intro _ hl0
      have HR : Hid (SetAns db (fun i => f i || g i) W (.returned (.tuple #[])) wr) := ⟨rfl, HS.out.same (copied_end f g hl0), HG.out⟩
      clear hl0 hrg hset
      go_wp2
      exact bodyPost_end (v := .tuple #[]) (by simp [results, Try.results63, go_sem]) rfl HR.out
    case more =>
      intro x kl y1 y2 w1 cnt1 hkey hlk hv hat hrg1 hlt hg1 hs1 hen
      obtain ⟨x', ex, rfl, hwx⟩ := Go.Maps.keyOf_int_inv Try.underlying3 hkey
      have ex : x = x' := by simpa using ex
      subst ex
      have hhas : Maps.has (setD g) (.int .i64 x) = true := Go.Maps.has_true_of_atKey hat
      obtain ⟨n, hn, hgn, exn⟩ := (setD_has g _).1 hhas
      have exn : x = (n : Int) := by simpa using exn
      subst exn
      have HS1 : Hid (SetIs w1 db (copied f g left)) := HS.out.far hg1 (by simp; omega)
      have HG1 : Hid (W.grownBy w1 (some db)) := grow_past HG.out hg1 (by rw [hr.out]; exact Nat.le_refl _)
      have HRg1 : Hid (w1.ranges Try.prog 3 (unitElem (H := Unit)) sb r 64 (setD g) (fun z => left z && !z.sameKey (.int .i64 (n : Int))) cnt1) := hrg1
      have HLt : Hid (cnt1 < cnt) := hlt
      have HCnt : Hid (wr.rangeLeft sb r = cnt) := hrg.left_eq
      clear hkey hlk hv hat hrg1 hlt hg1 hs1 hrg hset hhas hwx
      go_wp2_with (first
        | (at_mapUpdate; refine wpList_mapUpdate_in _ rfl _ _ _ 56 rfl 3 94 keyedI Try.underlying56 unitElem db 64 (setD (copied f g left)) rfl (HS1.out.kept ((Below.refl _ _).alloc (Nat.le_refl _) _)) (by unfold maxLen; omega) _ _ _ rfl rfl (key64 hn) (.agg []) [] unitElem_mk ?_; intro w2 hown2 hturn2)
        | go_in)
      have HS2 : Hid (SetIs w2 db (copied f g (fun z => left z && !z.sameKey (.int .i64 (n : Int))))) := (set_added hn hown2).same (copied_step f g left hgn)
      have gA := World.grownBy_alloc w1 (.cells #[] 94) (some db)
      have HG2 : Hid (W.grownBy w2 (some db)) := grow_to HG1.out (grow_to gA hturn2.grown)
      have HRg2 : Hid (w2.ranges Try.prog 3 (unitElem (H := Unit)) sb r 64 (setD g) (fun z => left z && !z.sameKey (.int .i64 (n : Int))) cnt1) := (HRg1.out.kept (World.grownBy_alloc w1 _ none) (by simp) (by simp)).kept hturn2.grown (by simp; omega) (by simp; omega)
      clear hown2 hturn2 gA
      go_roundw
      case rel => exact ⟨⟨_, cnt1, HRg2.out, HS2.out⟩, HG2⟩
      case measure => rw [HCnt.out, HRg2.out.left_eq]; exact HLt.out
/-- .. of a set that is not there: nothing. -/
theorem impl_copy_nil (db : Nat) (f : Nat → Bool) (W : World) (hs : Hid (SetIs W db f)) :
    Calls Try.prog 63 #[.map (some db), .map none] W fun e W' => SetAns db f W e W' := by
  have hrg := run_range_nilMap (P := Try.prog) W 56 3 94 Try.underlying56
  have hnx : ∀ ty, (Instr.next (.pointer (some ⟨W.heap.size, 0, none⟩)) false ty).run Try.prog (W.alloc (.mapIter none 0 #[] 0)) = _ := fun ty => run_next_nilMap _ ty 0 0 #[]
  have HR : Hid (∀ o, SetAns db f W (.returned (.tuple #[])) (W.alloc o)) := fun o => ⟨rfl, hs.out.kept ((Below.refl _ _).alloc (Nat.le_refl _) _), World.grownBy_alloc _ _ _⟩
  go_enter Try.func63, Try.ntmps63
  go_wp2
  refine wp_loop_rounds 1 ?_
  rw [rounds_succ]
  go_wp2
  exact bodyPost_end (v := .tuple #[]) (by simp [results, Try.results63, go_sem]) rfl (HR.out _)
end Go.Proofs.Ytfmgbalfabpogaa.walks
