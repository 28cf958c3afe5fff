/-
  What ValuesOf answers: the specification's and the program's.
-/
import Derived.Test.YthelpbghcmpcgaaProg
import Derived.Test.YthelpbghcmpcgaaNumOrder
import Derived.Test.YthelpbghcmpcgaaNumNums
import Derived.Test.YthelpbghcmpcgaaNumAll
import Derived.Test.YthelpbghcmpcgaaNumTold
import Derived.Test.YthelpbghcmpcgaaNumCode
import Derived.Test.YthelpbghcmpcgaaMarks
import Derived.WalkKit
import Derived.WalkSpells
import Derived.Below
import Derived.Handy
import Derived.Deep.RegionWith
namespace Go.Proofs.Ythelpbghcmpcgaa.nums
open Go.RowKit Go.Proofs.Ythelpbghcmpcgaa.math Go.Proofs.Ythelpbghcmpcgaa.ints Go.Proofs.Ythelpbghcmpcgaa.walks
set_option linter.unusedVariables false

/-- What ValuesOf answers. -/
def ValsTold (c : Bool) (t : Nat) (fl ks : List Int) (W : World) (e : Ending) (W' : World) : Prop :=
  (c = true ∧ (∃ a cap a' cap', e = .returned (.tuple #[.slice a t cap, .slice a' 8 cap', .bool true]) ∧ Mine W' W.heap.size a fl ∧ Mine W' W.heap.size a' ks ∧ Apart a a') ∧ Below W.heap.size W W') ∨ (c = false ∧ e = .returned (.tuple #[.slice none 0 0, .slice none 0 0, .bool false]) ∧ Below W.heap.size W W')
def ValsSaid (c : Bool) (t : Nat) (fl ks : List Int) (W : World) (e : Ending) (W' : World) : Prop :=
  (c = true ∧ (∃ a cap a' cap', e = .returned (.tuple #[.slice a t cap, .slice a' 8 cap', .bool true]) ∧ Ints W' a fl ∧ Ints W' a' ks) ∧ Below W.heap.size W W') ∨ (c = false ∧ e = .returned (.tuple #[.slice none 0 0, .slice none 0 0, .bool false]) ∧ Below W.heap.size W W')
theorem Seen.valInts {w : World} {B sb gv gn cv cn : Nat} {vs : List V} {ks : List Int} (h : Seen w B sb gv gn cv cn vs ks) : Ints w (some ⟨gv, 0, none⟩) (flatI vs) := by
  refine Or.inr ⟨gv, 0, rfl, h.lt.2.1, fun i hi => ?_⟩
  rw [flatI_len] at hi
  have h1 := h.val (k := i / 4) (i := i % 4) (by omega) (by omega)
  rw [show i / 4 * 4 + i % 4 = i by omega] at h1
  rw [Nat.zero_add, h1]
  have h2 := flatI_at (vs := vs) (k := i / 4) (i := i % 4) (by omega) (by omega)
  rw [show i / 4 * 4 + i % 4 = i by omega] at h2
  rw [h2]
theorem Seen.numInts {w : World} {B sb gv gn cv cn : Nat} {vs : List V} {ks : List Int} (h : Seen w B sb gv gn cv cn vs ks) : Ints w (some ⟨gn, 0, none⟩) ks :=
  Or.inr ⟨gn, 0, rfl, h.lt.2.2.1, fun i hi => by rw [Nat.zero_add]; exact h.num hi⟩
theorem own_some {w : World} {B : Nat} {v : Value} {zs : List Int} (h : Own w B v zs) (h0 : 0 < zs.length) : ∃ b cap, v = .slice (some ⟨b, 0, none⟩) zs.length cap ∧ B ≤ b ∧ Mine w B (some ⟨b, 0, none⟩) zs := by
  obtain ⟨a, cap, e, hM⟩ := h.mine
  rcases h.2 with ⟨_, hn⟩ | ⟨g, cap', cur, e', hg, _⟩
  · omega
  · rw [e'] at e
    simp at e
    obtain ⟨e1, e2⟩ := e
    subst e1
    exact ⟨g, cap', e', hg, hM⟩
set_option maxHeartbeats 2000000 in
theorem impl_values (a : Option Addr) (len cap : Nat) (zs : List Int) (W : World) (hz : Hid (zs.length = len * 5)) (hlen : len ≤ 1048576) (h : Hid (Ints W a zs)) :
    Calls Try.prog 11 #[.slice a len cap] W fun e W' => ValsTold (codeB zs len) (numTo zs len).1.length (flatI (numTo zs len).1) (numsOf (numTo zs len).1 (numTo zs len).2) W e W' := by
  go_enter Try.func11, Try.ntmps11
  go_wp2_with fail
  refine (impl_numbering a len cap zs W hz hlen h).mono ?_
  rintro e w1 ⟨⟨hc, nb, mb, rfl, hN, _, _⟩ | ⟨hc, rfl⟩, hb⟩
  rotate_left
  · have HA : Hid (ValsTold (codeB zs len) (numTo zs len).1.length (flatI (numTo zs len).1) (numsOf (numTo zs len).1 (numTo zs len).2) W (.returned (.tuple #[.slice none 0 0, .slice none 0 0, .bool false])) w1) := Or.inr ⟨hc, rfl, hb⟩
    clear hb hc
    go_wp2
    go_ret3
    exact HA.out
  have HC : Hid (codeB zs len = true) := hc
  have HB : Hid (Below W.heap.size W w1) := hb
  have HN : Hid (Num w1 nb mb (numTo zs len).1 (numTo zs len).2) := hN
  have HI : Hid (Inv (numTo zs len).1 (numTo zs len).2 (8 + len)) := inv_to hc len (Nat.le_refl _)
  have h30 : len ≤ 30 := (code_out hc).1
  have H8 : Hid ((numsOf (numTo zs len).1 (numTo zs len).2).length = 8) := by show _ = _; rw [nums_len, HI.out.len]
  clear hb hc hN
  go_wp2_with fail
  refine (impl_order nb mb (8 + len) _ _ w1 (by omega) HI HN).mono ?_
  rintro e w2 ⟨c2, rfl, hM, hb2⟩
  have HM2 : Hid (Mine w2 w1.heap.size (some ⟨w1.heap.size, 0, none⟩) (flatI (numTo zs len).1)) := hM
  have HB2 : Hid (Below w1.heap.size w1 w2) := hb2
  have HN2 : Hid (Num w2 nb mb (numTo zs len).1 (numTo zs len).2) := num_far HN.out hb2
  have hlt2 : w1.heap.size < w2.heap.size := mine_lt hM (by
    rw [flatI_len]
    have := idx_lt (HI.out.at (i := 0) (by omega))
    omega)
  clear hM hb2
  go_wp2_with fail
  refine (impl_nums nb mb (8 + len) _ _ w2 HI HN2).mono ?_
  rintro e w3 ⟨v, rfl, hO, hb3⟩
  obtain ⟨b, c3, rfl, hbb, hM3⟩ := own_some hO (by rw [H8.out]; omega)
  have hs1 := HB.out.size
  have hs2 := HB2.out.size
  have HA : Hid (ValsTold (codeB zs len) (numTo zs len).1.length (flatI (numTo zs len).1) (numsOf (numTo zs len).1 (numTo zs len).2) W (.returned (.tuple #[.slice (some ⟨w1.heap.size, 0, none⟩) (numTo zs len).1.length c2, .slice (some ⟨b, 0, none⟩) (numsOf (numTo zs len).1 (numTo zs len).2).length c3, .bool true])) w3) := by
    refine Or.inl ⟨HC.out, ⟨some ⟨w1.heap.size, 0, none⟩, c2, some ⟨b, 0, none⟩, c3, by rw [H8.out], mine_low (HM2.out.kept hb3) hs1, mine_low hM3 (by omega), ?_⟩, (HB.out.trans (HB2.out.mono hs1)).trans (hb3.mono (by omega))⟩
    intro x o x' o' e e'
    cases e
    cases e'
    omega
  clear hO hb3 hM3
  go_wp2
  go_ret3
  exact HA.out
set_option maxHeartbeats 2000000 in
theorem spec_values (a : Option Addr) (len cap : Nat) (zs : List Int) (W : World) (hz : Hid (zs.length = len * 5)) (hlen : len ≤ 1048576) (h : Hid (Ints W a zs)) :
    Calls Try.prog 9 #[.slice a len cap] W fun e W' => ValsSaid (codeB zs len) (numTo zs len).1.length (flatI (numTo zs len).1) (numsOf (numTo zs len).1 (numTo zs len).2) W e W' := by
  go_enter Try.func9, Try.ntmps9
  go_wp2_with fail
  refine (spec_code _ _ _ zs _ hz hlen h).mono ?_
  cases hc : codeB zs len
  · rintro e w1 ⟨rfl, hb⟩
    have HA : Hid (ValsSaid (codeB zs len) (numTo zs len).1.length (flatI (numTo zs len).1) (numsOf (numTo zs len).1 (numTo zs len).2) W (.returned (.tuple #[.slice none 0 0, .slice none 0 0, .bool false])) w1) := Or.inr ⟨hc, rfl, hb⟩
    clear hb hc
    go_wp2
    go_ret3
    exact HA.out
  rintro e w1 ⟨rfl, hb⟩
  have HC : Hid (codeB zs len = true) := hc
  have HB1 : Hid (Below W.heap.size W w1) := hb
  clear hb hc
  go_wp2_with fail
  refine (spec_all a len cap zs w1 hz HC (h.out.kept HB1.out)).mono ?_
  rintro e w2 ⟨rfl, hS, hb2⟩
  obtain ⟨gv, gn, cv, cn, hE, hkl, hv⟩ := all_seen4 HC.out hS
  have e0 := hE.v
  have e1 := hE.n
  rw [hkl] at e1
  have HA : Hid (ValsSaid (codeB zs len) (numTo zs len).1.length (flatI (numTo zs len).1) (numsOf (numTo zs len).1 (numTo zs len).2) W (.returned (.tuple #[.slice (some ⟨gv, 0, none⟩) (numTo zs len).1.length cv, .slice (some ⟨gn, 0, none⟩) 8 cn, .bool true])) w2.drew) :=
    Or.inl ⟨HC.out, ⟨_, _, _, _, rfl, hE.valInts, hE.numInts⟩, (HB1.out.trans (hb2.mono HB1.out.size)).drew⟩
  have HA' : Hid (ValsSaid (codeB zs len) (numTo zs len).1.length (flatI (numTo zs len).1) (numsOf (numTo zs len).1 (numTo zs len).2) W (.returned (.tuple #[.slice (some ⟨gv, 0, none⟩) (numTo zs len).1.length cv, .slice (some ⟨gn, 0, none⟩) 8 cn, .bool true])) w2) :=
    Or.inl ⟨HC.out, ⟨_, _, _, _, rfl, hE.valInts, hE.numInts⟩, HB1.out.trans (hb2.mono HB1.out.size)⟩
  clear hE hS hb2 hkl hv
  go_wp2
  first | go_region | skip
  all_goals try go_wp2
  all_goals go_ret3
  all_goals first | exact HA.out | exact HA'.out
end Go.Proofs.Ythelpbghcmpcgaa.nums
