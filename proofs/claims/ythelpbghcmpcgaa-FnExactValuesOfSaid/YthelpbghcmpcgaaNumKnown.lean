/-
  What the program's KnownAt answers: the names whose value is a constant, rising.
-/
import Derived.Test.YthelpbghcmpcgaaProg
import Derived.Test.YthelpbghcmpcgaaNumRun
import Derived.Test.YthelpbghcmpcgaaNumArr
import Derived.Test.YthelpbghcmpcgaaRising
import Derived.WalkKit
import Derived.WalkSpells
import Derived.Below
import Derived.Handy
namespace Go.Proofs.Ythelpbghcmpcgaa.nums
open Go.RowKit Go.Proofs.Ythelpbghcmpcgaa.math Go.Proofs.Ythelpbghcmpcgaa.ints Go.Proofs.Ythelpbghcmpcgaa.walks
set_option linter.unusedVariables false

/-- Whether a name's value is a constant, among the first k names. -/
def knownB (ns : List V) (i : Nat) : Bool := decide ((ns.getD i zV).1 = 1)
def knownTo (ns : List V) (k i : Nat) : Bool := decide (i < k) && knownB ns i
theorem known_all (ns : List V) : risingTo (knownTo ns 8) 8 = risingTo (knownB ns) 8 := by
  rw [rising_row, rising_row]
  rfl
theorem known_none (ns : List V) {w : World} {g : Nat} (h : Marked w g (fun _ => false)) : Marked w g (knownTo ns 0) := World.rowIs.congr h (fun i _ => by simp [knownTo])
theorem marked_put {W : World} {g B j : Nat} {ns : List V} {c : Bool} (h : Marked W g (knownTo ns j)) (hB : B ≤ g) (hc : knownB ns j = c) : Marked (W.setCell ⟨g, j, none⟩ (.bool c)) g (knownTo ns (j + 1)) := by
  refine (World.rowIs.set h j (.bool c)).congr ?_
  intro i hi
  by_cases e : i = j
  · subst e; simp [knownTo, hc]
  · simp [e, knownTo]
    congr 1
    exact decide_eq_decide.2 (by omega)
set_option maxRecDepth 100000 in
set_option maxHeartbeats 16000000 in
theorem impl_known (a : Option Addr) (len cap : Nat) (zs : List Int) (W : World) (hz : Hid (zs.length = len * 5)) (hlen : len ≤ 1048576) (h : Hid (Ints W a zs)) :
    Calls Try.prog 28 #[.slice a len cap] W fun e W' => NamesTold (codeB zs len) (risingTo (knownB (numTo zs len).2) 8) W e W' := by
  go_enter Try.func28, Try.ntmps28
  go_wp2_with fail
  refine (impl_numbering a len cap zs W hz hlen h).mono ?_
  rintro e w1 ⟨⟨hc, nb, mb, rfl, hN, _, _⟩ | ⟨hc, rfl⟩, hb⟩
  rotate_left
  · have HA : Hid (NamesTold (codeB zs len) (risingTo (knownB (numTo zs len).2) 8) W (.returned (.tuple #[.slice none 0 0, .bool false])) w1) := Or.inr ⟨hc, rfl, hb⟩
    clear hb hc
    go_wp2
    go_ret2
    exact HA.out
  have HC : Hid (codeB zs len = true) := hc
  have HB : Hid (Below W.heap.size W w1) := hb
  have hnl : nb < w1.heap.size := hN.1.lt
  obtain ⟨ns, HS⟩ : ∃ ns, Hid ((numTo zs len).2 = ns) := ⟨_, rfl⟩
  rw [HS.out] at hN
  have HL : Hid (ns.length = 8) := by show _ = _; rw [← HS.out]; exact (inv_to hc len (Nat.le_refl _)).len
  obtain ⟨cs, HRg, HSz, HArr⟩ := names_arr (hN.alloc (.cells #[.bool false, .bool false, .bool false, .bool false, .bool false, .bool false, .bool false, .bool false] 76)) HL.out
  clear hb hc hN
  go_wp2_with (first | (refine wpList_load_mid rfl 72 _ rfl nb 1 rfl cs _ HRg.out Try.underlying72 rfl HSz.out ?_) | go_in)
  clear HRg HSz
  go_loopw [20] (fun vi wr => ∃ k : Nat, k ≤ 8 ∧ vi = .int .i64 k ∧ Hid (Marked wr w1.heap.size (knownTo ns k)) ∧ Hid (Below w1.heap.size w1 wr)) (fun vi _ => 8 - (intOf vi).toNat)
  case atStart => exact ⟨0, Nat.zero_le _, rfl, known_none ns (marked_new w1), by show Below _ _ _; go_grown⟩
  case round =>
    obtain ⟨k, hk, rfl, HM, HK⟩ := hrel
    have hml : w1.heap.size < wr.heap.size := HM.out.lt
    by_cases hlt : k < 8
    · have hlt' : (k : Int) < 8 := by omega
      obtain ⟨v0, v1, v2, v3, hv⟩ := four_v (ns.getD k zV)
      have qx := HArr.out k hlt v0 v1 v2 v3 hv
      obtain ⟨c, hcc⟩ : ∃ c, decide (v0 = 1) = c := ⟨_, rfl⟩
      have HQ : Hid (knownB ns k = c) := by show knownB ns k = c; unfold knownB; simp only [hv]; exact hcc
      have m0 := HM.out.cell (i := k) (by omega)
      have m1 := HM.out.frozen k
      generalize knownTo ns k k = old at m0
      clear hv
      go_wp2_with (go_at_call 47; refine (impl_isConst (v0, v1, v2, v3) _).mono ?_; rw [hcc]; rintro e w' ⟨rfl, hb'⟩; have n0 : w'.cell? ⟨w1.heap.size, k, none⟩ = some (.bool old) := (hb'.cell (p := ⟨w1.heap.size, k, none⟩) (by simp; omega)).trans (by go_simp); have n1 : w'.frozen? ⟨w1.heap.size, k, none⟩ = false := (hb'.frozen (p := ⟨w1.heap.size, k, none⟩) (by simp; omega)).trans (by go_simp); have HM' : Hid (Marked w' w1.heap.size (knownTo ns k)) := (by show Marked _ _ _; exact World.rowIs.of_block (World.rowIs.alloc HM.out _) (hb'.block _ (by simp; omega))); have HK' : Hid (Below w1.heap.size w1 w') := (by show Below _ _ _; exact (HK.out.alloc (by omega) _).trans (hb'.mono (by simp; omega))); clear hb')
      go_roundw
      case rel => exact ⟨k + 1, by omega, by go_num, marked_put (B := 0) HM'.out (Nat.zero_le _) HQ.out, HK'.out.setCell (Nat.le_refl _) _⟩
      case measure => simp [intOf]; omega
    · have HE : Hid (k = 8) := by show k = 8; omega
      have hge : (8 : Int) ≤ k := by omega
      have HM8 : Hid (Marked wr w1.heap.size (knownTo ns 8)) := by rw [HE.out] at HM; exact HM
      have m0 := HM8.out.cell (i := 0) (by omega)
      have m1 := HM8.out.cell (i := 1) (by omega)
      have m2 := HM8.out.cell (i := 2) (by omega)
      have m3 := HM8.out.cell (i := 3) (by omega)
      have m4 := HM8.out.cell (i := 4) (by omega)
      have m5 := HM8.out.cell (i := 5) (by omega)
      have m6 := HM8.out.cell (i := 6) (by omega)
      have m7 := HM8.out.cell (i := 7) (by omega)
      have HB' : Hid (Below W.heap.size W wr) := HB.out.trans (HK.out.mono HB.out.size)
      go_wp2_with (go_at_call 48; refine (impl_rising (knownTo ns 8) _).mono ?_; rintro e w' ⟨v, rfl, hO', hb'⟩; obtain ⟨ra, rc, rfl, hM'⟩ := hO'.mine; have HA : Hid (NamesTold (codeB zs len) (risingTo (knownB (numTo zs len).2) 8) W (.returned (.tuple #[.slice ra (risingTo (knownTo ns 8) 8).length rc, .bool true])) w') := (by show NamesTold _ _ _ _ _; rw [HS.out, ← known_all ns]; exact Or.inl ⟨HC.out, ⟨ra, rc, rfl, mine_down hM' HB'.out.size⟩, HB'.out.trans (hb'.mono HB'.out.size)⟩); clear hO' hb' hM')
      go_ret2
      exact HA.out
end Go.Proofs.Ythelpbghcmpcgaa.nums
