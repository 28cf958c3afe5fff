/-
  What the program's StepRanges answers, at every list of steps and every list of ranges; it makes new memory alone.
-/
import Derived.Test.YtoeiijkomjlolabProg
import Derived.Test.YtoeiijkomjlolabRangeRun
import Derived.Test.YtoeiijkomjlolabRangeNames
import Derived.Test.YtoeiijkomjlolabRangeDo
import Derived.Test.YtoeiijkomjlolabStepsOf
import Derived.WalkKit
import Derived.WalkSpells
import Derived.Below
import Derived.Handy
import Derived.Deep.MidRow
namespace Go.Proofs.Ytoeiijkomjlolab.walks
open Go.RowKit Go.Proofs.Ytoeiijkomjlolab.math Go.Proofs.Ytoeiijkomjlolab.ints
set_option linter.unusedVariables false

/-- What StepRanges answers. -/
def FactsTold (c : Bool) (g : Nat → Rv) (W : World) (e : Ending) (W' : World) : Prop :=
  (c = true ∧ (∃ b cap, e = .returned (.tuple #[.slice (some ⟨b, 0, none⟩) 8 cap, .bool true]) ∧ MineF W' W.heap.size (some ⟨b, 0, none⟩) 8 g) ∧ Below W.heap.size W W') ∨ (c = false ∧ e = .returned (.tuple #[.slice none 0 0, .bool false]) ∧ Below W.heap.size W W')
theorem impl_doF (o d a b n : Int) (gb : Nat) (f : Nat → Rv) (W : World) (hg : goodI o d a b n = true) (hcome : Hid (∀ i, i < 8 → (f i).good = true)) (hC : Hid (CellsG W gb 0 8 f)) (hgb : gb < W.heap.size) :
    Calls Try.prog 80 #[.pointer (some ⟨gb, 0, none⟩), stepV o d a b n] W fun e W' => DoneF gb (stepR f o d a b n) W e W' := by
  rcases good_cases hg with ⟨rfl, ⟨d0, d1⟩, n0, n1⟩ | ⟨rfl, ⟨d0, d1⟩, x0, x1⟩ | ⟨rfl, x0, x1⟩ | ⟨⟨o3, o7⟩, ⟨d0, d1⟩, ⟨x0, x1⟩, y0, y1⟩
  · obtain ⟨j, rfl⟩ := Int.eq_ofNat_of_zero_le d0
    exact doF_c j n gb f W hC (by omega) hgb
  · obtain ⟨j, rfl⟩ := Int.eq_ofNat_of_zero_le d0
    obtain ⟨x, rfl⟩ := Int.eq_ofNat_of_zero_le x0
    exact doF_y j x gb f W hC (by omega) (by omega) hgb
  · exact doF_t a gb f W hC
  · obtain ⟨j, rfl⟩ := Int.eq_ofNat_of_zero_le d0
    obtain ⟨x, rfl⟩ := Int.eq_ofNat_of_zero_le x0
    obtain ⟨y, rfl⟩ := Int.eq_ofNat_of_zero_le y0
    have e1 : stepV o (j : Int) (x : Int) (y : Int) n = .iface 123 (.agg #[.int .i64 o, .int .i64 (j : Int), .int .i64 (x : Int), .int .i64 (y : Int)]) := by
      unfold stepV; rw [if_neg (by omega), if_neg (by omega), if_neg (by omega)]
    have e2 : stepR f o (j : Int) (x : Int) (y : Int) n = setR f j (twoR o (f x) (f y)) := by
      unfold stepR; rw [if_neg (by omega), if_neg (by omega), if_neg (by omega)]; rfl
    rw [e1, e2]
    exact doF_p o j x y gb f W o3 o7 hC hcome (by omega) (by omega) (by omega) hgb
/-- The names' facts in a variable of their own. -/
theorem names_new (w : World) (g : Nat → Rv) : ∃ w', w' = (w.alloc (.cells #[.bool false, .int .i64 0, .int .i64 0, .bool false, .int .i64 0, .int .i64 0, .bool false, .int .i64 0, .int .i64 0, .bool false, .int .i64 0, .int .i64 0, .bool false, .int .i64 0, .int .i64 0, .bool false, .int .i64 0, .int .i64 0, .bool false, .int .i64 0, .int .i64 0, .bool false, .int .i64 0, .int .i64 0] 71)).setCells w.heap.size 0 (flatG g 8) ∧ Hid (CellsG w' w.heap.size 0 8 g) ∧ Hid (Below w.heap.size w w') ∧ w.heap.size < w'.heap.size :=
  ⟨_, rfl, (cells_new w 71).stored, below_setCells (Nat.le_refl _) _ _ _ ((Below.refl _ _).alloc (Nat.le_refl _) _), by rw [setCells_size]; simp⟩
theorem grow_grow {a b c : World} {row : Option Nat} (h : a.grownBy b row) (k : b.grownBy c row) : a.grownBy c row :=
  ⟨k.os.trans h.os, k.tape.trans h.tape, k.output.trans h.output, Nat.le_trans h.size k.size, fun i hi hne => (k.block i (Nat.lt_of_lt_of_le hi h.size) hne).trans (h.block i hi hne)⟩
theorem below_row {W w w' : World} {g : Nat} (h : Below W.heap.size W w) (k : w.grownBy w' (some g)) (hB : W.heap.size ≤ g) : Below W.heap.size W w' :=
  h.grown k h.size (fun j hj => by simp at hj; omega)
theorem cells_as {w : World} {b : Nat} {g gg : Nat → Rv} (e : gg = g) (h : CellsG w b 0 8 gg) : CellsG w b 0 8 g := by rw [← e]; exact h
/-- Steps in memory that is not the names' own. -/
def StepsBy (W : World) (sa : Option Addr) (zs : List Int) (len gb : Nat) : Prop := len = 0 ∨ ∃ b, sa = some ⟨b, 0, none⟩ ∧ b ≠ gb ∧ b < W.heap.size ∧ ∀ i, i < len → W.cell? ⟨b, i, none⟩ = some (stepAt zs i)
set_option maxRecDepth 100000 in
set_option maxHeartbeats 8000000 in
theorem impl_doAll (sa : Option Addr) (sc len gb : Nat) (zs : List Int) (g : Nat → Rv) (W : World) (hlen : len ≤ 1048576) (hgood : Hid (∀ k, k < len → stepB zs k = true)) (hall : Hid (∀ i, i < 8 → (g i).good = true)) (hC : Hid (CellsG W gb 0 8 g)) (hgb : gb < W.heap.size) (hS : Hid (StepsBy W sa zs len gb)) :
    Calls Try.prog 53 #[.pointer (some ⟨gb, 0, none⟩), .slice sa len sc] W fun e W' => DoneF gb (runR zs g len) W e W' := by
  go_enter Try.func53, Try.ntmps53
  go_wp2
  go_loopw [8] (fun vi wr => ∃ k : Nat, k ≤ len ∧ vi = .int .i64 k ∧ Hid (CellsG wr gb 0 8 (runR zs g k)) ∧ Hid (W.grownBy wr (some gb)) ∧ gb < wr.heap.size) (fun vi _ => len - (intOf vi).toNat)
  case atStart => exact ⟨0, Nat.zero_le _, rfl, hC, grow_same _ _, hgb⟩
  case round =>
    obtain ⟨k, hk, rfl, HK, HR, hl⟩ := hrel
    by_cases hlt : k < len
    · obtain ⟨sb, rfl, hsn, hsb, hsc⟩ : ∃ b, sa = some ⟨b, 0, none⟩ ∧ b ≠ gb ∧ b < W.heap.size ∧ Hid (∀ i, i < len → W.cell? ⟨b, i, none⟩ = some (stepAt zs i)) := by
        rcases hS.out with e | e
        · omega
        · exact e
      obtain ⟨sv, hsv, HV⟩ : ∃ sv, wr.cell? ⟨sb, k, none⟩ = some sv ∧ Hid (sv = stepAt zs k) := ⟨_, HR.out.cell (hsc.out k hlt) (by simp; omega), rfl⟩
      clear hsc
      have HG : Hid (stepB zs k = true) := hgood.out k hlt
      have HM : Hid (∀ i, i < 8 → (runR zs g k i).good = true) := good_run hall.out hgood.out k hk
      go_wp2_with (go_at_call 80; rw [HV.out]; refine (impl_doF _ _ _ _ _ _ _ _ HG.out HM HK hl).mono ?_; rintro e w' ⟨rfl, hC', hG'⟩; have HK' : Hid (CellsG w' gb 0 8 (runR zs g (k + 1))) := hC'; have HR' : Hid (W.grownBy w' (some gb)) := grow_grow HR.out hG'; have hl' : gb < w'.heap.size := Nat.lt_of_lt_of_le hl hG'.size; clear hC' hG')
      go_roundw
      case rel => exact ⟨k + 1, by omega, by go_num, HK', HR', hl'⟩
      case measure => simp [intOf]; omega
    · have HE : Hid (k = len) := by show k = len; omega
      go_wp2
      refine bodyPost_end (v := .tuple #[]) (by simp [results, Try.results53, go_sem]) rfl ⟨rfl, ?_, HR.out⟩
      rw [← HE.out]; exact HK.out
theorem steps_by {w2 w3 : World} {sa : Option Addr} {zs : List Int} {len : Nat} (h : Steps w2 sa zs len) (B : Below w2.heap.size w2 w3) : StepsBy w3 sa zs len w2.heap.size := by
  rcases h with e | ⟨b, e, hb, hc⟩
  · exact Or.inl e
  · exact Or.inr ⟨b, e, by omega, Nat.lt_of_lt_of_le hb B.size, fun i hi => (B.cell (p := ⟨b, i, none⟩) hb).trans (hc i hi)⟩
set_option maxRecDepth 100000 in
set_option maxHeartbeats 8000000 in
theorem impl_stepfacts (a a' : Option Addr) (len cap lf cap' : Nat) (zs : List Int) (g : Nat → Rv) (W : World) (hz : Hid (zs.length = len * 5)) (hlen : len ≤ 1048576) (h : Hid (Ints W a zs)) (hlf : lf ≤ 1048576) (h' : Hid (Facts W a' lf g)) :
    Calls Try.prog 24 #[.slice a len cap, .slice a' lf cap'] W fun e W' => FactsTold (codeB zs len && rangesB g lf) (runR zs g len) W e W' := by
  obtain ⟨gg, GG⟩ : ∃ gg, Hid (gg = if rangesB g lf = true then g else noF) := ⟨_, rfl⟩
  have HN : Hid (∀ w : World, Below W.heap.size W w → Calls Try.prog 52 #[.slice a' lf cap'] w fun e W' => e = .returned (.tuple #[arrG gg, .bool (rangesB g lf)]) ∧ Below w.heap.size w W') := fun w hb => by
    rw [GG.out]
    exact impl_names a' lf cap' g w hlf (h'.out.kept hb)
  cases hc : codeB zs len
  · cases hf : rangesB g lf
    all_goals
      rw [hf] at HN
      go_enter Try.func24, Try.ntmps24
      go_wp2_with fail
      refine (impl_steps _ _ _ zs _ hz hlen h).mono ?_
      rintro e w1 ⟨⟨hq, _⟩ | ⟨_, rfl⟩, hB⟩
      · rw [hc] at hq; cases hq
      have B1 : Hid (Below W.heap.size W w1) := hB
      clear hB
      go_wp2_with fail
      refine (HN.out _ B1.out).mono ?_
      rintro e w2 ⟨rfl, hB⟩
      have B2 : Hid (Below W.heap.size W w2) := belR B1.out hB
      clear hB
      go_wp2_with (first | (refine wpList_store_mid rfl 71 _ _ rfl w2.heap.size 0 (flatG gg 8).toArray rfl rfl (by simpa [flatG_len] using (cells_new w2 71).there) (by simpa [flatG_len] using arr_info) (all_oneCell_toArray (flatG_one gg 8)) ?_; rw [show ((flatG gg 8).toArray).toList = flatG gg 8 from rfl]; obtain ⟨w3, hw3, C3, B3, l3⟩ := names_new w2 gg; rw [← hw3]; clear hw3) | go_in)
      go_ret2
      exact Or.inr ⟨rfl, rfl, belR B2.out B3.out⟩
  cases hf : rangesB g lf
  · rw [hf] at HN
    go_enter Try.func24, Try.ntmps24
    go_wp2_with fail
    refine (impl_steps _ _ _ zs _ hz hlen h).mono ?_
    rintro e w1 ⟨⟨_, sa, sc, rfl, _⟩ | ⟨hq, _⟩, hB⟩
    rotate_left
    · rw [hc] at hq; cases hq
    have B1 : Hid (Below W.heap.size W w1) := hB
    clear hB
    go_wp2_with fail
    refine (HN.out _ B1.out).mono ?_
    rintro e w2 ⟨rfl, hB⟩
    have B2 : Hid (Below W.heap.size W w2) := belR B1.out hB
    clear hB
    go_wp2_with (first | (refine wpList_store_mid rfl 71 _ _ rfl w2.heap.size 0 (flatG gg 8).toArray rfl rfl (by simpa [flatG_len] using (cells_new w2 71).there) (by simpa [flatG_len] using arr_info) (all_oneCell_toArray (flatG_one gg 8)) ?_; rw [show ((flatG gg 8).toArray).toList = flatG gg 8 from rfl]; obtain ⟨w3, hw3, C3, B3, l3⟩ := names_new w2 gg; rw [← hw3]; clear hw3) | go_in)
    go_ret2
    exact Or.inr ⟨rfl, rfl, belR B2.out B3.out⟩
  rw [hf] at HN
  have EG : Hid (gg = g) := by show gg = g; rw [GG.out, hf]; rfl
  have HC : Hid (codeB zs len = true) := hc
  have HF : Hid (rangesB g lf = true) := hf
  clear GG hc hf
  go_enter Try.func24, Try.ntmps24
  go_wp2_with fail
  refine (impl_steps _ _ _ zs _ hz hlen h).mono ?_
  rintro e w1 ⟨⟨_, sa, sc, rfl, hS⟩ | ⟨hq, _⟩, hB⟩
  rotate_left
  · rw [HC.out] at hq; cases hq
  have B1 : Hid (Below W.heap.size W w1) := hB
  have S1 : Hid (Steps w1 sa zs len) := hS
  clear hB hS
  go_wp2_with fail
  refine (HN.out _ B1.out).mono ?_
  rintro e w2 ⟨rfl, hB⟩
  have B2 : Hid (Below W.heap.size W w2) := belR B1.out hB
  have S2 : Hid (Steps w2 sa zs len) := S1.out.kept hB
  clear hB S1
  have HM : Hid (∀ i, i < 8 → (g i).good = true) := fun i hi => (ranges_out HF.out).2 i (by rw [(ranges_out HF.out).1]; exact hi)
  go_wp2_with (first | (refine wpList_store_mid rfl 71 _ _ rfl w2.heap.size 0 (flatG gg 8).toArray rfl rfl (by simpa [flatG_len] using (cells_new w2 71).there) (by simpa [flatG_len] using arr_info) (all_oneCell_toArray (flatG_one gg 8)) ?_; rw [show ((flatG gg 8).toArray).toList = flatG gg 8 from rfl]; obtain ⟨w3, hw3, C3, B3, l3⟩ := names_new w2 gg; rw [← hw3]; clear hw3) | (go_at_call 53; have C3' : Hid (CellsG w3 w2.heap.size 0 8 g) := cells_as EG.out C3.out; have SB : Hid (StepsBy w3 sa zs len w2.heap.size) := steps_by S2.out B3.out; refine (impl_doAll sa _ len w2.heap.size zs g w3 hlen (code_out HC.out).2 HM C3' l3 SB).mono ?_; rintro e w4 ⟨rfl, C4, G4⟩; have C5 : Hid (CellsG w4 w2.heap.size 0 8 (runR zs g len)) := C4; have G5 : Hid (w3.grownBy w4 (some w2.heap.size)) := G4; have l5 : w2.heap.size < w4.heap.size := Nat.lt_of_lt_of_le l3 G4.size; clear C4 G4) | go_in)
  go_ret2
  exact Or.inl ⟨rfl, ⟨_, _, rfl, C5.out.mine B2.out.size l5⟩, below_row (belR B2.out B3.out) G5.out B2.out.size⟩
end Go.Proofs.Ytoeiijkomjlolab.walks
