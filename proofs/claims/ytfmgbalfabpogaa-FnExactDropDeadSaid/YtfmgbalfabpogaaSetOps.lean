/-
  The program's sets of small numbers in memory: what add and has do.
-/
import Derived.Test.YtfmgbalfabpogaaProg
import Derived.Test.YtfmgbalfabpogaaSetMath
import Derived.Test.YtfmgbalfabpogaaInts
import Derived.Maps.OwnSet
import Derived.Maps.OwnOps
import Derived.WalkKit
import Derived.WalkSpells
import Derived.Below
import Derived.Handy
namespace Go.Proofs.Ytfmgbalfabpogaa.walks
open Go.RowKit Go.Proofs.Ytfmgbalfabpogaa.math Go.Proofs.Ytfmgbalfabpogaa.ints
set_option linter.unusedVariables false

theorem keyedI : Go.Maps.Keyed Try.prog 3 := Go.Maps.int_keyed Try.underlying3
theorem zeroU (w : World) : (zeroValue 94).run Try.prog w = .ok (.agg #[]) w := by kernel_rfl
/-- Block mb is a set that has just the members of f. -/
def SetIs (w : World) (mb : Nat) (f : Nat → Bool) : Prop := w.ownsMap Try.prog 3 (unitElem (H := Unit)) mb 64 (setD f)
theorem SetIs.lt {w : World} {mb : Nat} {f : Nat → Bool} (h : SetIs w mb f) : mb < w.heap.size := World.ownsMap.lt h
theorem SetIs.same {w : World} {mb : Nat} {f g : Nat → Bool} (h : SetIs w mb f) (e : ∀ i, i < 64 → f i = g i) : SetIs w mb g := by
  unfold SetIs at h ⊢
  rw [← sd_same e]
  exact h
theorem SetIs.kept {w w' : World} {mb : Nat} {f : Nat → Bool} (h : SetIs w mb f) (hb : Below w.heap.size w w') : SetIs w' mb f := by
  have hl := h.lt
  obtain ⟨es, clock, h0, r⟩ := h
  exact ⟨es, clock, (hb.block mb hl).trans h0, r⟩
theorem SetIs.far {w w' : World} {mb : Nat} {f : Nat → Bool} {row : Option Nat} (h : SetIs w mb f) (hg : w.grownBy w' row) (hne : some mb ≠ row) : SetIs w' mb f := World.ownsMap.kept h hg hne
theorem set_tight {w : World} {mb n : Nat} {D : DataW Unit} (h : w.ownsMap Try.prog 3 (unitElem (H := Unit)) mb n D) (hs : Maps.size D ≤ 64) : w.ownsMap Try.prog 3 (unitElem (H := Unit)) mb 64 D := by
  obtain ⟨es, clock, hb, F, hn, rfl⟩ := h
  refine ⟨es, clock, hb, F, ?_, rfl⟩
  simpa [Maps.size, length_sorted] using hs
theorem sd_len (f : Nat → Bool) : Maps.size (setD f) ≤ 64 := by
  unfold setD
  rw [Maps.size_eq]
  exact setE_len f
theorem set_made (w : World) : SetIs (w.alloc (.map #[] 0)) w.heap.size (fun _ => false) := by
  unfold SetIs
  rw [sd_none]
  exact (World.ownsMap_made w _ _ _).mono (by omega)
theorem set_added {w : World} {mb i : Nat} {f : Nat → Bool} (hi : i < 64) (h : w.ownsMap Try.prog 3 (unitElem (H := Unit)) mb (64 + 1) ((setD f).put (.int .i64 (i : Int)) (.agg []))) : SetIs w mb (fun j => f j || j == i) := by
  have e := sd_put (f := f) hi (h.canon keyedI)
  rw [e] at h
  exact set_tight h (sd_len _)
theorem set_gone {w : World} {mb i : Nat} {f : Nat → Bool} (hi : i < 64) (h : w.ownsMap Try.prog 3 (unitElem (H := Unit)) mb 64 ((setD f).del (.int .i64 (i : Int)))) : SetIs w mb (fun j => f j && !(j == i)) := by
  have e := sd_del (f := f) hi (h.canon keyedI)
  rw [e] at h
  exact h
theorem key64 {i : Nat} (hi : i < 64) : keyOf Try.prog 3 (.int .i64 (i : Int)) = some (.int .i64 (i : Int)) := Go.Maps.keyOf_int_mk Try.underlying3 (WalkArith.wf_i64 (by omega))
theorem take_next' {us : List Int} {j : Nat} (h : j < us.length) : us.take (j + 1) = us.take j ++ [us.getD j 0] := by
  rw [List.take_add_one, List.getElem?_eq_getElem h]
  simp [List.getD, List.getElem?_eq_getElem h]
/-- What a call that writes one set alone leaves. -/
def SetAns (mb : Nat) (f : Nat → Bool) (W : World) (e : Ending) (W' : World) : Prop := e = .returned (.tuple #[]) ∧ SetIs W' mb f ∧ W.grownBy W' (some mb)
theorem grow_to {a b c : World} {g : Option Nat} (h : a.grownBy b g) (k : b.grownBy c g) : a.grownBy c g :=
  ⟨k.os.trans h.os, k.tape.trans h.tape, k.output.trans h.output, Nat.le_trans h.size k.size, fun i hi hne => (k.block i (Nat.lt_of_lt_of_le hi h.size) hne).trans (h.block i hi hne)⟩
theorem grow_same (w : World) (g : Option Nat) : w.grownBy w g := ⟨rfl, rfl, rfl, Nat.le_refl _, fun _ _ _ => rfl⟩
theorem Ints.far {w w' : World} {a : Option Addr} {zs : List Int} {g : Nat} (h : Ints w a zs) (hg : w.grownBy w' (some g)) (hne : ∀ b o, a = some ⟨b, o, none⟩ → 0 < zs.length → b ≠ g) : Ints w' a zs := by
  rcases h with h | ⟨b, off, rfl, hl, hc⟩
  · exact Or.inl h
  · by_cases h0 : zs.length = 0
    · exact Or.inl (List.length_eq_zero_iff.1 h0)
    · have hb := hne b off rfl (by omega)
      exact Or.inr ⟨b, off, rfl, Nat.lt_of_lt_of_le hl hg.size, fun i hi => hg.cell (hc i hi) (by simpa using hb)⟩
/-- A block that is a map holds no list. -/
theorem set_apart {w : World} {mb b off : Nat} {f : Nat → Bool} {zs : List Int} (h : SetIs w mb f) (hi : Ints w (some ⟨b, off, none⟩) zs) (h0 : 0 < zs.length) : b ≠ mb := by
  rintro rfl
  rcases hi with rfl | ⟨b', o', e, hl, hc⟩
  · simp at h0
  · obtain ⟨es, clock, hb, _⟩ := h
    have := hc 0 h0
    simp only [Option.some.injEq, Addr.mk.injEq] at e
    obtain ⟨rfl, rfl, _⟩ := e
    simp [World.cell?, hb] at this
set_option maxRecDepth 100000 in
set_option maxHeartbeats 2000000 in
theorem impl_add (mb : Nat) (f : Nat → Bool) (a : Option Addr) (len cap : Nat) (us : List Int) (W : World) (hz : Hid (us.length = len)) (hlen : len ≤ 1048576) (h : Hid (Ints W a us)) (hu : Hid (∀ j, j < len → 0 ≤ us.getD j 0 ∧ us.getD j 0 < 64)) (hs : Hid (SetIs W mb f)) :
    Calls Try.prog 48 #[.map (some mb), .slice a len cap] W fun e W' => SetAns mb (addS f us) W e W' := by
  go_enter Try.func48, Try.ntmps48
  go_wp2
  go_loopw [8] (fun vi wr => ∃ k : Nat, k ≤ len ∧ vi = .int .i64 k ∧ Hid (SetIs wr mb (addS f (us.take k))) ∧ Hid (W.grownBy wr (some mb))) (fun vi _ => len - (intOf vi).toNat)
  case atStart => exact ⟨0, Nat.zero_le _, rfl, hs.out.same (adds_none f), grow_same _ _⟩
  case round =>
    obtain ⟨k, hk, rfl, HS, HG⟩ := hrel
    by_cases hlt : k < len
    · have hkl : k < us.length := by have := hz.out; omega
      obtain ⟨b, off, rfl, hcell⟩ : ∃ b off, a = some ⟨b, off, none⟩ ∧ wr.cell? ⟨b, off + k, none⟩ = some (.int .i64 (us.getD k 0)) := by
        obtain ⟨b, off, ha, hc⟩ := h.out.at (Below.refl _ _) hkl
        subst ha
        exact ⟨b, off, rfl, HG.out.cell hc (by simpa using set_apart hs.out h.out (by omega))⟩
      obtain ⟨u0, u1⟩ := hu.out k hlt
      have HT : Hid (us.take (k + 1) = us.take k ++ [us.getD k 0]) := take_next' hkl
      generalize us.getD k 0 = x at hcell u0 u1 HT
      obtain ⟨xn, rfl⟩ := Int.eq_ofNat_of_zero_le u0
      have hx : xn < 64 := by omega
      have HSx := HS.out
      unfold SetIs at HSx
      go_wp2_with (at_mapUpdate; refine wpList_mapUpdate_in _ rfl _ _ _ 56 rfl 3 94 keyedI Try.underlying56 unitElem mb 64 (setD (addS f (us.take k))) rfl HSx (by unfold maxLen; omega) _ _ _ rfl rfl (key64 hx) (.agg []) [] unitElem_mk ?_; intro w1 hown1 hturn1)
      have Q0 : Hid (SetIs w1 mb (addS f (us.take (k + 1)))) := by show SetIs _ _ _; rw [HT.out]; exact (set_added hx hown1).same (adds_snoc f _ _)
      have Q1 : Hid (W.grownBy w1 (some mb)) := grow_to HG.out hturn1.grown
      clear hown1 hturn1 HSx
      go_wp2
      go_roundw
      case rel => exact ⟨k + 1, by omega, by go_num, Q0, Q1⟩
      case measure => simp [intOf]; omega
    · have HE : Hid (SetAns mb (addS f us) W (.returned (.tuple #[])) wr) := ⟨rfl, by have := HS.out; rwa [List.take_of_length_le (by have := hz.out; omega)] at this, HG.out⟩
      go_wp2
      exact bodyPost_end (v := .tuple #[]) (by simp [results, Try.results48, go_sem]) rfl HE.out
theorem impl_has (mb xn : Nat) (f : Nat → Bool) (W : World) (hx : xn < 64) (hs : Hid (SetIs W mb f)) :
    Calls Try.prog 45 #[.map (some mb), .int .i64 (xn : Int)] W fun e W' => e = .returned (.bool (f xn)) ∧ ∃ x, W' = W.alloc x := by
  have HSx := hs.out
  unfold SetIs at HSx
  have hh := sd_has f hx
  go_enter Try.func45, Try.ntmps45
  go_wp2_with (at_lookup; refine wpList_lookup_own_unit _ rfl _ _ 56 rfl 3 94 keyedI Try.underlying56 (zeroU _) mb 64 (setD f) rfl HSx _ _ rfl (key64 hx) ?_; rw [hh])
  go_ret
  exact ⟨rfl, _, rfl⟩
end Go.Proofs.Ytfmgbalfabpogaa.walks
