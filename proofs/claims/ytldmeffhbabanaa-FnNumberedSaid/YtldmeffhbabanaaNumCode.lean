/-
  What the program's NumberCode answers.
-/
import Derived.Test.YtldmeffhbabanaaProg
import Derived.Test.YtldmeffhbabanaaNumCheap
import Derived.Test.YtldmeffhbabanaaOwnInts
import Derived.WalkKit
import Derived.WalkSpells
import Derived.Below
import Derived.Handy
namespace Go.Proofs.Ytldmeffhbabanaa.nums
open Go.RowKit Go.Proofs.Ytldmeffhbabanaa.math Go.Proofs.Ytldmeffhbabanaa.ints Go.Proofs.Ytldmeffhbabanaa.walks
set_option linter.unusedVariables false

def flat5 (i : I5) : List Int := [i.1, i.2.1, i.2.2.1, i.2.2.2.1, i.2.2.2.2]
/-- The numbered code, flat, behind the first k steps. -/
def outTo (zs : List Int) : Nat → List Int
  | 0 => []
  | k + 1 => outTo zs k ++ flat5 (cheapI (numTo zs k).1 (numTo zs k).2 (zs.getD (k * 5) 0) (zs.getD (k * 5 + 1) 0) (zs.getD (k * 5 + 2) 0) (zs.getD (k * 5 + 3) 0) (zs.getD (k * 5 + 4) 0))
theorem out_len (zs : List Int) : ∀ k, (outTo zs k).length = k * 5
  | 0 => rfl
  | k + 1 => by simp [outTo, out_len zs k, flat5]; omega
/-- The value v owns n steps, flat, in a block from B on. -/
def OwnI (w : World) (B : Nat) (v : Value) (n : Nat) (fl : List Int) : Prop := w.ownsRow B 61 5 v n (fl.map (Value.int .i64))
theorem ownI_nil (w : World) (B : Nat) : OwnI w B (.slice none 0 0) 0 [] := World.ownsRow_nil _ _ _ _
theorem OwnI.mine {w : World} {B n : Nat} {v : Value} {fl : List Int} (h : OwnI w B v n fl) : ∃ a cap, v = .slice a n cap ∧ Mine w B a fl := by
  have h0 := h
  have hlen := h.1
  rcases h.2 with ⟨rfl, hn⟩ | ⟨g, cap, cur, rfl, hg, hw, _, _, _, hcur⟩
  · refine ⟨none, 0, by rw [hn], Or.inl ?_⟩
    rw [hn] at hlen
    simpa using hlen
  · refine ⟨some ⟨g, 0, none⟩, cap, rfl, Or.inr ⟨g, 0, rfl, hg, (h0.lt g rfl).2, fun i hi => ⟨?_, ?_⟩⟩⟩
    · have := h0.cellAt i (by simp at hlen; omega)
      simp only [Nat.zero_add]
      rw [this]
      simp [List.getD, List.getElem?_eq_getElem hi]
    · have := h0.frozenAt i
      simpa using this
theorem instr_row : (Try.prog.info? 61).map (fun i => (i.zero, i.size, i.bytes)) = some (some (.agg #[.int .i64 0, .int .i64 0, .int .i64 0, .int .i64 0, .int .i64 0]), 5, 40) := by kernel_rfl
theorem five_cell (w : World) (a b c d f : Int) {g : Nat} (h0 : w.cell? ⟨g, 0, none⟩ = some (.int .i64 a)) (h1 : w.cell? ⟨g, 1, none⟩ = some (.int .i64 b)) (h2 : w.cell? ⟨g, 2, none⟩ = some (.int .i64 c)) (h3 : w.cell? ⟨g, 3, none⟩ = some (.int .i64 d)) (h4 : w.cell? ⟨g, 4, none⟩ = some (.int .i64 f)) : ∀ (j : Nat) (u : Value), [Value.int .i64 a, .int .i64 b, .int .i64 c, .int .i64 d, .int .i64 f][j]? = some u → w.cell? ((⟨g, 0, none⟩ : Addr).add j) = some u := by
  intro j u hj
  match j, hj with
  | 0, hj => simp at hj; subst hj; simpa [Addr.add] using h0
  | 1, hj => simp at hj; subst hj; simpa [Addr.add] using h1
  | 2, hj => simp at hj; subst hj; simpa [Addr.add] using h2
  | 3, hj => simp at hj; subst hj; simpa [Addr.add] using h3
  | 4, hj => simp at hj; subst hj; simpa [Addr.add] using h4
theorem five_of (a b c d f : Int) : ∀ u ∈ [Value.int .i64 a, .int .i64 b, .int .i64 c, .int .i64 d, .int .i64 f], u.oneCell' = true := by
  intro u hu; simp at hu; rcases hu with rfl | rfl | rfl | rfl | rfl <;> rfl
/-- What NumberCode answers. -/
def CodeTold (c : Bool) (len : Nat) (fl : List Int) (W : World) (e : Ending) (W' : World) : Prop :=
  (c = true ∧ (∃ a cap, e = .returned (.tuple #[.slice a len cap, .bool true]) ∧ Mine W' W.heap.size a fl) ∧ Below W.heap.size W W') ∨ (c = false ∧ e = .returned (.tuple #[.slice none 0 0, .bool false]) ∧ Below W.heap.size W W')
theorem mine_low {w : World} {B B' : Nat} {a : Option Addr} {zs : List Int} (h : Mine w B a zs) (hB : B' ≤ B) : Mine w B' a zs := by
  rcases h with h | ⟨b, off, e, h0, r⟩
  · exact Or.inl h
  · exact Or.inr ⟨b, off, e, Nat.le_trans hB h0, r⟩
theorem ownI_far {w w' : World} {B n : Nat} {v : Value} {fl : List Int} (h : OwnI w B v n fl) (hb : ∀ g, v.ownBlock = some g → w'.heap[g]? = w.heap[g]?) : OwnI w' B v n fl := by
  refine ⟨h.1, ?_⟩
  rcases h.2 with k | ⟨g, cap, cur, e, hg, hw, r⟩
  · exact Or.inl k
  · exact Or.inr ⟨g, cap, cur, e, hg, (hb g (by rw [e]; rfl)).trans hw, r⟩
theorem num_grown {w w' : World} {nb mb B : Nat} {vs ns : List V} {row : Option Nat} (h : Num w nb mb vs ns) (hg : w.grownBy w' row) (hr : ∀ g, row = some g → B ≤ g) (h1 : nb < B) (h2 : mb < B) : Num w' nb mb vs ns :=
  num_of_blocks h (hg.block nb h.1.lt (fun e => by have := hr nb e.symm; omega)) (h.2.of_block (hg.block mb h.2.lt (fun e => by have := hr mb e.symm; omega)))
set_option maxRecDepth 100000 in
set_option maxHeartbeats 4000000 in
theorem impl_number (a : Option Addr) (len cap : Nat) (zs : List Int) (W : World) (hz : Hid (zs.length = len * 5)) (hlen : len ≤ 1048576) (h : Hid (Ints W a zs)) :
    Calls Try.prog 6 #[.slice a len cap] W fun e W' => CodeTold (codeB zs len) len (outTo zs len) W e W' := by
  obtain ⟨i0, hi, hz0, hz1, hz2⟩ := info_parts instr_row
  go_enter Try.func6, Try.ntmps6
  go_wp2_with fail
  refine (impl_code _ _ _ zs _ hz hlen h).mono ?_
  cases hc : codeB zs len
  · rintro e w1 ⟨rfl, hb⟩
    have HA : Hid (CodeTold (codeB zs len) len (outTo zs len) W (.returned (.tuple #[.slice none 0 0, .bool false])) w1) := Or.inr ⟨hc, rfl, hb⟩
    clear hb hc
    go_wp2
    go_ret2
    exact HA.out
  rintro e w1 ⟨rfl, hb⟩
  have HB1 : Hid (Below W.heap.size W w1) := hb
  have HC : Hid (codeB zs len = true) := hc
  have h30 : len ≤ 30 := (code_out hc).1
  clear hb hc
  go_wp2_with fail
  refine (impl_first w1).mono ?_
  rintro e w2 ⟨nb, mb, rfl, hN, hnb, hmb, hb⟩
  have HN2 : Hid (Num w2 nb mb (numTo zs 0).1 (numTo zs 0).2) := hN
  have HB2 : Hid (Below W.heap.size W w2) := HB1.out.trans (hb.mono HB1.out.size)
  have hn1 : W.heap.size ≤ nb := Nat.le_trans HB1.out.size hnb
  have hm1 : W.heap.size ≤ mb := Nat.le_trans HB1.out.size hmb
  have hn2 : nb < w2.heap.size := hN.1.lt
  have hm2 : mb < w2.heap.size := hN.2.lt
  clear hN hnb hmb hb
  go_wp2
  go_loopw [5, 14] (fun vt vi wr => ∃ k : Nat, k ≤ len ∧ vi = .int .i64 k ∧ Hid (OwnI wr w2.heap.size vt k (outTo zs k)) ∧ Hid (Num wr nb mb (numTo zs k).1 (numTo zs k).2) ∧ Hid (Below W.heap.size W wr) ∧ w2.heap.size ≤ wr.heap.size) (fun _ vi _ => len - (intOf vi).toNat)
  case atStart => exact ⟨0, Nat.zero_le _, rfl, ownI_nil _ _, HN2, HB2, Nat.le_refl _⟩
  case round =>
    obtain ⟨k, hk, rfl, HO, HN, HB, hws⟩ := hrel
    have hsz := HB.out.size
    by_cases hlt : k < len
    · obtain ⟨b, off, ha, hb, c0, c1, c2, c3, c4⟩ := Instr_at h.out hz.out HB.out hlt
      subst ha
      have HI : Hid (Inv (numTo zs k).1 (numTo zs k).2 (8 + k)) := inv_to HC.out k hk
      have HG : Hid (stepB zs k = true) := (code_out HC.out).2 k hlt
      have HG' : Hid (goodI (zs.getD (k * 5) 0) (zs.getD (k * 5 + 1) 0) (zs.getD (k * 5 + 2) 0) (zs.getD (k * 5 + 3) 0) (zs.getD (k * 5 + 4) 0) = true) := HG
      have HT : Hid (outTo zs (k + 1) = outTo zs k ++ flat5 (cheapI (numTo zs k).1 (numTo zs k).2 (zs.getD (k * 5) 0) (zs.getD (k * 5 + 1) 0) (zs.getD (k * 5 + 2) 0) (zs.getD (k * 5 + 3) 0) (zs.getD (k * 5 + 4) 0))) := rfl
      have HT2 : Hid (numTo zs (k + 1) = stepN (numTo zs k) (zs.getD (k * 5) 0) (zs.getD (k * 5 + 1) 0) (zs.getD (k * 5 + 2) 0) (zs.getD (k * 5 + 3) 0) (zs.getD (k * 5 + 4) 0)) := rfl
      clear HG
      generalize zs.getD (k * 5) 0 = o at c0 HT HG' HT2
      generalize zs.getD (k * 5 + 1) 0 = d at c1 HT HG' HT2
      generalize zs.getD (k * 5 + 2) 0 = x at c2 HT HG' HT2
      generalize zs.getD (k * 5 + 3) 0 = y at c3 HT HG' HT2
      generalize zs.getD (k * 5 + 4) 0 = n at c4 HT HG' HT2
      obtain ⟨p0, p1, p2, p3, p4, hp⟩ : ∃ p0 p1 p2 p3 p4, cheapI (numTo zs k).1 (numTo zs k).2 o d x y n = (p0, p1, p2, p3, p4) := ⟨_, _, _, _, _, rfl⟩
      rw [hp] at HT
      go_wp2_with fail
      refine (impl_cheaper o d x y n nb mb (8 + k) _ _ _ (by omega) HG'.out HI.out (HN.out.alloc _)).mono ?_
      rintro e w' ⟨he, hb'⟩
      rw [hp] at he
      simp only [iV] at he
      subst he
      have hsw : wr.heap.size + 1 ≤ w'.heap.size := by have := hb'.size; simpa using this
      have hsl : wr.heap.size < w'.heap.size := by omega
      have s0 : w'.cell? ⟨wr.heap.size, 0, none⟩ = some (.int .i64 o) := (hb'.cell (p := ⟨wr.heap.size, 0, none⟩) (by simp)).trans (by go_simp)
      have s1 : w'.cell? ⟨wr.heap.size, 1, none⟩ = some (.int .i64 d) := (hb'.cell (p := ⟨wr.heap.size, 1, none⟩) (by simp)).trans (by go_simp)
      have s2 : w'.cell? ⟨wr.heap.size, 2, none⟩ = some (.int .i64 x) := (hb'.cell (p := ⟨wr.heap.size, 2, none⟩) (by simp)).trans (by go_simp)
      have s3 : w'.cell? ⟨wr.heap.size, 3, none⟩ = some (.int .i64 y) := (hb'.cell (p := ⟨wr.heap.size, 3, none⟩) (by simp)).trans (by go_simp)
      have s4 : w'.cell? ⟨wr.heap.size, 4, none⟩ = some (.int .i64 n) := (hb'.cell (p := ⟨wr.heap.size, 4, none⟩) (by simp)).trans (by go_simp)
      have HB' : Hid (Below W.heap.size W w') := (HB.out.alloc hsz _).trans (hb'.mono (by simp; omega))
      have HN' : Hid (Num w' nb mb (numTo zs k).1 (numTo zs k).2) := num_far (HN.out.alloc _) hb'
      have hlo : ∀ g, Value.ownBlock _ = some g → w2.heap.size ≤ g ∧ g < wr.heap.size := World.ownsRow.lt HO.out
      have HO' : Hid (OwnI w' w2.heap.size _ k (outTo zs k)) := ownI_far (World.ownsRow.alloc HO.out _) (fun g hg => hb'.block g (by have := (hlo g hg).2; simp; omega))
      have HLo : Hid (∀ g, Value.ownBlock _ = some g → w2.heap.size ≤ g ∧ g < wr.heap.size) := hlo
      clear hb' hp hlo
      go_wp2_with (at_builtin; refine wpList_append_own _ rfl _ _ 23 rfl w2.heap.size 61 i0 _ 5 40 Try.underlying23 hi hz0 hz1 hz2 rfl (by decide) _ _ _ rfl (World.ownsRow.alloc HO'.out _) ⟨w'.heap.size, 0, none⟩ 1 1 [.int .i64 p0, .int .i64 p1, .int .i64 p2, .int .i64 p3, .int .i64 p4] rfl rfl (five_cell _ _ _ _ _ _ (by go_simp) (by go_simp) (by go_simp) (by go_simp) (by go_simp)) (five_of _ _ _ _ _) (by unfold maxLen; omega) (by omega) (by simp; omega) ?_)
      intro v' w3 hown' hgrow _
      have t0 : w3.cell? ⟨wr.heap.size, 0, none⟩ = some (.int .i64 o) := (World.cell?_of_block (a := ⟨wr.heap.size, 0, none⟩) (hgrow.block wr.heap.size (by simp; omega) (fun e => by have := (HLo.out _ e.symm).2; omega))).trans (by go_simp)
      have t1 : w3.cell? ⟨wr.heap.size, 1, none⟩ = some (.int .i64 d) := (World.cell?_of_block (a := ⟨wr.heap.size, 1, none⟩) (hgrow.block wr.heap.size (by simp; omega) (fun e => by have := (HLo.out _ e.symm).2; omega))).trans (by go_simp)
      have t2 : w3.cell? ⟨wr.heap.size, 2, none⟩ = some (.int .i64 x) := (World.cell?_of_block (a := ⟨wr.heap.size, 2, none⟩) (hgrow.block wr.heap.size (by simp; omega) (fun e => by have := (HLo.out _ e.symm).2; omega))).trans (by go_simp)
      have t3 : w3.cell? ⟨wr.heap.size, 3, none⟩ = some (.int .i64 y) := (World.cell?_of_block (a := ⟨wr.heap.size, 3, none⟩) (hgrow.block wr.heap.size (by simp; omega) (fun e => by have := (HLo.out _ e.symm).2; omega))).trans (by go_simp)
      have t4 : w3.cell? ⟨wr.heap.size, 4, none⟩ = some (.int .i64 n) := (World.cell?_of_block (a := ⟨wr.heap.size, 4, none⟩) (hgrow.block wr.heap.size (by simp; omega) (fun e => by have := (HLo.out _ e.symm).2; omega))).trans (by go_simp)
      have HN3 : Hid (Num w3 nb mb (numTo zs k).1 (numTo zs k).2) := num_grown (HN'.out.alloc _) hgrow (fun g hg => (HLo.out g hg).1) hn2 hm2
      have HB3 : Hid (Below W.heap.size W w3) := by
        show Below _ _ _
        refine Below.grown (w := w'.alloc (.cells #[.int .i64 p0, .int .i64 p1, .int .i64 p2, .int .i64 p3, .int .i64 p4] 61)) (HB'.out.alloc HB'.out.size _) hgrow (by simp; omega) (fun j hj => Nat.le_trans HB2.out.size (HLo.out j hj).1)
      have HO3 : Hid (OwnI w3 w2.heap.size v' (k + 1) (outTo zs (k + 1))) := by show OwnI _ _ _ _ _; unfold OwnI; rw [HT.out]; simpa [flat5] using hown'
      have hw3 : w'.heap.size < w3.heap.size := by have := hgrow.size; simp at this; omega
      have HLo3 : Hid (∀ g, v'.ownBlock = some g → w2.heap.size ≤ g ∧ g < w3.heap.size) := World.ownsRow.lt HO3.out
      clear hown' hgrow s0 s1 s2 s3 s4
      go_wp2_with fail
      refine (impl_do o d x y n nb mb (8 + k) _ _ _ (by omega) HG'.out HI.out HN3.out).mono ?_
      rintro e w4 ⟨rfl, hN4, hB4, hF4⟩
      have HN4 : Hid (Num w4 nb mb (numTo zs (k + 1)).1 (numTo zs (k + 1)).2) := by show Num _ _ _ _ _; rw [HT2.out]; exact hN4
      have HB4 : Hid (Below W.heap.size W w4) := HB3.out.trans (hB4 _ hn1 hm1 HB3.out.size)
      have HO4 : Hid (OwnI w4 w2.heap.size v' (k + 1) (outTo zs (k + 1))) := ownI_far HO3.out (fun g hg => hF4 g (HLo3.out g hg).2 (by have := (HLo3.out g hg).1; omega) (by have := (HLo3.out g hg).1; omega))
      have hw4 : w2.heap.size ≤ w4.heap.size := by have := (hB4 0 (Nat.zero_le _) (Nat.zero_le _) (Nat.zero_le _)).size; omega
      clear hN4 hB4 hF4
      go_wp2_with fail
      go_roundw
      case rel => exact ⟨k + 1, by omega, by go_num, HO4, HN4, HB4, hw4⟩
      case measure => simp [intOf]; omega
    · have HE : Hid (k = len) := by show k = len; omega
      rw [HE.out] at HO
      obtain ⟨ra, rc, rfl, hM⟩ := HO.out.mine
      have HA : Hid (CodeTold (codeB zs len) len (outTo zs len) W (.returned (.tuple #[.slice ra len rc, .bool true])) wr) := Or.inl ⟨HC.out, ⟨ra, rc, rfl, mine_low hM HB2.out.size⟩, HB.out⟩
      clear hM
      go_wp2
      go_ret2
      exact HA.out
end Go.Proofs.Ytldmeffhbabanaa.nums
