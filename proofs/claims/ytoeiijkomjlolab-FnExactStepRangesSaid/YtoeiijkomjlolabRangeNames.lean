/-
  What the program's namesBy answers, at every list of ranges; it makes new memory alone.
-/
import Derived.Test.YtoeiijkomjlolabProg
import Derived.Test.YtoeiijkomjlolabRangeRun
import Derived.Test.YtoeiijkomjlolabRangeGood
import Derived.Test.YtoeiijkomjlolabRanges
import Derived.Test.YtoeiijkomjlolabRangeSteps
import Derived.WalkKit
import Derived.WalkSpells
import Derived.Below
import Derived.Handy
import Derived.Deep.OwnRows
import Derived.Deep.MidRow
import Derived.Deep.DeepCutAuto
namespace Go.Proofs.Ytoeiijkomjlolab.walks
open Go.RowKit Go.Proofs.Ytoeiijkomjlolab.math Go.Proofs.Ytoeiijkomjlolab.ints
set_option linter.unusedVariables false

/-- Eight facts as one value. -/
def arrG (g : Nat → Rv) : Value := .agg (flatG g 8).toArray
theorem arr_no : arrG noF = .agg #[.bool false, .int .i64 0, .int .i64 0, .bool false, .int .i64 0, .int .i64 0, .bool false, .int .i64 0, .int .i64 0, .bool false, .int .i64 0, .int .i64 0, .bool false, .int .i64 0, .int .i64 0, .bool false, .int .i64 0, .int .i64 0, .bool false, .int .i64 0, .int .i64 0, .bool false, .int .i64 0, .int .i64 0] := rfl
theorem arr_info : (Try.prog.info? 71).map (·.size) = some 24 := by kernel_rfl
theorem arr_under : ∃ d, Try.prog.underlying 71 = some d ∧ d.isRow = true := ⟨_, Try.underlying71, rfl⟩
theorem arr_at (b o cap : Nat) (w : World) : (Instr.arrayAt 71 (.slice (some ⟨b, o, none⟩) 8 cap)).run Try.prog w = .ok (.pointer (some ⟨b, o, none⟩)) w := by kernel_rfl
theorem zeros_one : (#[.bool false, .int .i64 0, .int .i64 0, .bool false, .int .i64 0, .int .i64 0, .bool false, .int .i64 0, .int .i64 0, .bool false, .int .i64 0, .int .i64 0, .bool false, .int .i64 0, .int .i64 0, .bool false, .int .i64 0, .int .i64 0, .bool false, .int .i64 0, .int .i64 0, .bool false, .int .i64 0, .int .i64 0] : Array Value).all (·.oneCell') = true := by
  have h : ((flatG noF 8).toArray).all (·.oneCell') = true := all_oneCell_toArray (flatG_one noF 8)
  exact h
theorem zeros_at (i : Nat) (hi : i < 24) : (#[.bool false, .int .i64 0, .int .i64 0, .bool false, .int .i64 0, .int .i64 0, .bool false, .int .i64 0, .int .i64 0, .bool false, .int .i64 0, .int .i64 0, .bool false, .int .i64 0, .int .i64 0, .bool false, .int .i64 0, .int .i64 0, .bool false, .int .i64 0, .int .i64 0, .bool false, .int .i64 0, .int .i64 0] : Array Value)[i]? = some (cellG noF i) := by
  match i, hi with
  | 0, _ => rfl
  | 1, _ => rfl
  | 2, _ => rfl
  | 3, _ => rfl
  | 4, _ => rfl
  | 5, _ => rfl
  | 6, _ => rfl
  | 7, _ => rfl
  | 8, _ => rfl
  | 9, _ => rfl
  | 10, _ => rfl
  | 11, _ => rfl
  | 12, _ => rfl
  | 13, _ => rfl
  | 14, _ => rfl
  | 15, _ => rfl
  | 16, _ => rfl
  | 17, _ => rfl
  | 18, _ => rfl
  | 19, _ => rfl
  | 20, _ => rfl
  | 21, _ => rfl
  | 22, _ => rfl
  | 23, _ => rfl
  | i + 24, h => omega
theorem cells_new (W : World) (t : TypeId) : CellsG (W.alloc (.cells #[.bool false, .int .i64 0, .int .i64 0, .bool false, .int .i64 0, .int .i64 0, .bool false, .int .i64 0, .int .i64 0, .bool false, .int .i64 0, .int .i64 0, .bool false, .int .i64 0, .int .i64 0, .bool false, .int .i64 0, .int .i64 0, .bool false, .int .i64 0, .int .i64 0, .bool false, .int .i64 0, .int .i64 0] t)) W.heap.size 0 8 noF := fun i hi => by
  have h := World.rowIs_alloc W #[.bool false, .int .i64 0, .int .i64 0, .bool false, .int .i64 0, .int .i64 0, .bool false, .int .i64 0, .int .i64 0, .bool false, .int .i64 0, .int .i64 0, .bool false, .int .i64 0, .int .i64 0, .bool false, .int .i64 0, .int .i64 0, .bool false, .int .i64 0, .int .i64 0, .bool false, .int .i64 0, .int .i64 0] t (cellG noF) (fun i hi => zeros_at i (by simpa using hi))
  rw [Nat.zero_add]
  exact ⟨World.rowIs.cell h (by simpa using hi), by simp⟩
theorem CellsG.range {w : World} {b off : Nat} {g : Nat → Rv} (h : CellsG w b off 8 g) : w.rangeAt b off (flatG g 8) := fun j v hj => by
  obtain ⟨h1, rfl⟩ := flatG_at hj
  exact (h j h1).1
theorem CellsG.there {w : World} {b off : Nat} {g : Nat → Rv} (h : CellsG w b off 8 g) : w.there b off 24 := fun j hj => ⟨by rw [(h j hj).1]; rfl, (h j hj).2⟩
theorem CellsG.load {w : World} {b off : Nat} {g : Nat → Rv} (h : w.rangeAt b off (flatG g 8)) : (Instr.loadAt 71 (.pointer (some ⟨b, off, none⟩))).run Try.prog w = .ok (arrG g) w := by
  obtain ⟨d, hu, hd⟩ := arr_under
  exact run_loadAt_mid w b off 71 (flatG g 8) d h hu hd (by rw [flatG_len]; exact arr_info)
theorem CellsG.loadVar {w : World} {b off : Nat} {g : Nat → Rv} (h : w.rangeAt b off (flatG g 8)) : (loadVar 71 ⟨b, off, none⟩).run Try.prog w = .ok (arrG g) w := by
  obtain ⟨d, hu, hd⟩ := arr_under
  exact run_loadVar_mid w b off 71 (flatG g 8) d h hu hd (by rw [flatG_len]; exact arr_info)
theorem CellsG.store {w : World} {b off : Nat} {g f : Nat → Rv} (h : CellsG w b off 8 g) : (Instr.storeAt 71 (.pointer (some ⟨b, off, none⟩)) (arrG f)).run Try.prog w = .ok () (w.setCells b off (flatG f 8)) := by
  have := run_storeAt_mid (P := Try.prog) w b off 71 (flatG f 8).toArray (by simpa [flatG_len] using h.there) (by simpa [flatG_len] using arr_info) (all_oneCell_toArray (flatG_one f 8))
  simpa [arrG] using this
theorem CellsG.stored {w : World} {b off : Nat} {g f : Nat → Rv} (h : CellsG w b off 8 g) : CellsG (w.setCells b off (flatG f 8)) b off 8 f := fun i hi => by
  have h1 : (flatG f 8)[i]? = some (cellG f i) := by simp [flatG, hi]
  have ht := h.there
  exact ⟨World.rangeAt_setCells_same w b off (flatG f 8) (by rw [flatG_len]; exact ht) i _ h1, ((World.there_setCells ht b off (flatG f 8)) i hi).2⟩
theorem below_setCells {B b : Nat} {W : World} (hb : B ≤ b) : ∀ (vs : List Value) (off : Nat) (w : World), Below B W w → Below B W (w.setCells b off vs)
  | [], _, _, h => h
  | v :: vs, off, w, h => by
    unfold World.setCells
    exact below_setCells hb vs (off + 1) _ (h.setCell hb v)
theorem setCells_size {b : Nat} : ∀ (vs : List Value) (off : Nat) (w : World), (w.setCells b off vs).heap.size = w.heap.size
  | [], _, _ => rfl
  | v :: vs, off, w => by
    unfold World.setCells
    rw [setCells_size vs (off + 1)]
    simp [World.setCell]

set_option maxRecDepth 100000 in
set_option maxHeartbeats 4000000 in
theorem impl_names (a : Option Addr) (len cap : Nat) (g : Nat → Rv) (W : World) (hlen : len ≤ 1048576) (h : Hid (Facts W a len g)) :
    Calls Try.prog 52 #[.slice a len cap] W fun e W' => e = .returned (.tuple #[arrG (if rangesB g len = true then g else noF), .bool (rangesB g len)]) ∧ Below W.heap.size W W' := by
  have C0 : Hid (CellsG (W.alloc (.cells #[.bool false, .int .i64 0, .int .i64 0, .bool false, .int .i64 0, .int .i64 0, .bool false, .int .i64 0, .int .i64 0, .bool false, .int .i64 0, .int .i64 0, .bool false, .int .i64 0, .int .i64 0, .bool false, .int .i64 0, .int .i64 0, .bool false, .int .i64 0, .int .i64 0, .bool false, .int .i64 0, .int .i64 0] 71)) W.heap.size 0 8 noF) := cells_new W 71
  have B0 : Hid (Below W.heap.size W (W.alloc (.cells #[.bool false, .int .i64 0, .int .i64 0, .bool false, .int .i64 0, .int .i64 0, .bool false, .int .i64 0, .int .i64 0, .bool false, .int .i64 0, .int .i64 0, .bool false, .int .i64 0, .int .i64 0, .bool false, .int .i64 0, .int .i64 0, .bool false, .int .i64 0, .int .i64 0, .bool false, .int .i64 0, .int .i64 0] 71))) := (Below.refl _ _).alloc (Nat.le_refl _) _
  have l0 : W.heap.size < (W.alloc (.cells #[.bool false, .int .i64 0, .int .i64 0, .bool false, .int .i64 0, .int .i64 0, .bool false, .int .i64 0, .int .i64 0, .bool false, .int .i64 0, .int .i64 0, .bool false, .int .i64 0, .int .i64 0, .bool false, .int .i64 0, .int .i64 0, .bool false, .int .i64 0, .int .i64 0, .bool false, .int .i64 0, .int .i64 0] 71)).heap.size := by simp
  by_cases h8 : len = 8
  rotate_left
  · rw [ranges_no h8, if_neg (by simp)]
    have q8 : ((len : Int) == 8) = false := by simp; omega
    have r8 : decide ((len : Int) = 8) = false := by simp; omega
    go_enter Try.func52, Try.ntmps52
    go_upto_region 1 with fail
    generalize W.alloc (.cells #[.bool false, .int .i64 0, .int .i64 0, .bool false, .int .i64 0, .int .i64 0, .bool false, .int .i64 0, .int .i64 0, .bool false, .int .i64 0, .int .i64 0, .bool false, .int .i64 0, .int .i64 0, .bool false, .int .i64 0, .int .i64 0, .bool false, .int .i64 0, .int .i64 0, .bool false, .int .i64 0, .int .i64 0] 71) = w0 at C0 B0 l0 ⊢
    go_wp2_with (first | (refine wpList_store_mid rfl 71 _ _ rfl W.heap.size 0 #[.bool false, .int .i64 0, .int .i64 0, .bool false, .int .i64 0, .int .i64 0, .bool false, .int .i64 0, .int .i64 0, .bool false, .int .i64 0, .int .i64 0, .bool false, .int .i64 0, .int .i64 0, .bool false, .int .i64 0, .int .i64 0, .bool false, .int .i64 0, .int .i64 0, .bool false, .int .i64 0, .int .i64 0] rfl rfl C0.out.there arr_info zeros_one ?_; rw [show ((#[.bool false, .int .i64 0, .int .i64 0, .bool false, .int .i64 0, .int .i64 0, .bool false, .int .i64 0, .int .i64 0, .bool false, .int .i64 0, .int .i64 0, .bool false, .int .i64 0, .int .i64 0, .bool false, .int .i64 0, .int .i64 0, .bool false, .int .i64 0, .int .i64 0, .bool false, .int .i64 0, .int .i64 0] : Array Value)).toList = flatG noF 8 from rfl]; generalize hw9 : w0.setCells W.heap.size 0 (flatG noF 8) = w9) | go_in)
    have C1 := C0.out.stored (f := noF)
    rw [hw9] at C1
    refine bodyPost_ret (v := .tuple #[arrG noF, .bool false]) ?_ rfl ⟨rfl, by rw [← hw9]; exact below_setCells (Nat.le_refl _) _ _ _ B0.out⟩
    simp only [results, Try.results52]
    have hl := CellsG.loadVar C1.range
    clear hw9
    simp [asAddr, hl]
  subst h8
  have HF : Hid (∃ b off, a = some ⟨b, off, none⟩ ∧ b < W.heap.size ∧ ∀ i, i < 8 * 3 → W.cell? ⟨b, off + i, none⟩ = some (cellG g i)) := by
    rcases h.out with e | e
    · omega
    · exact e
  obtain ⟨vb, vo, rfl, hvb, hvc⟩ := HF.out
  have HV : Hid (∀ i, i < 8 * 3 → W.cell? ⟨vb, vo + i, none⟩ = some (cellG g i)) := hvc
  clear hvc HF
  obtain ⟨r, HR⟩ : ∃ r : Value, Hid (r = .tuple #[arrG (if rangesB g 8 = true then g else noF), .bool (rangesB g 8)]) := ⟨_, rfl⟩
  rw [← HR.out]
  go_enter Try.func52, Try.ntmps52
  go_upto_region 1 with fail
  generalize W.alloc (.cells #[.bool false, .int .i64 0, .int .i64 0, .bool false, .int .i64 0, .int .i64 0, .bool false, .int .i64 0, .int .i64 0, .bool false, .int .i64 0, .int .i64 0, .bool false, .int .i64 0, .int .i64 0, .bool false, .int .i64 0, .int .i64 0, .bool false, .int .i64 0, .int .i64 0, .bool false, .int .i64 0, .int .i64 0] 71) = w0 at C0 B0 l0 ⊢
  go_wp2
  go_loopw [12] (fun vi wr => ∃ k : Nat, k ≤ 8 ∧ vi = .int .i64 k ∧ Hid (∀ j, j < k → (g j).good = true) ∧ Hid (Below w0.heap.size w0 wr)) (fun vi _ => 8 - (intOf vi).toNat)
  case atStart => exact ⟨0, Nat.zero_le _, rfl, fun j hj => by omega, Below.refl _ _⟩
  case round =>
    obtain ⟨k, hk, rfl, HG, HB0⟩ := hrel
    have HB : Hid (Below W.heap.size W wr) := belR B0.out HB0.out
    have CW : Hid (CellsG wr W.heap.size 0 8 noF) := C0.out.kept l0 HB0.out
    have lw : W.heap.size < wr.heap.size := by have := HB0.out.size; omega
    have vbl : vb < wr.heap.size := by omega
    by_cases hlt : k < 8
    · obtain ⟨b, off, ha, hb, c0, c1, c2⟩ := fact_at h.out HB.out hlt
      simp only [Option.some.injEq, Addr.mk.injEq] at ha
      obtain ⟨rfl, rfl, _⟩ := ha
      rcases hx : g k with ⟨t, kn, n⟩
      have HX : Hid (g k = ⟨t, kn, n⟩) := hx
      rw [hx] at c0 c1 c2
      clear hx
      simp only at c0 c1 c2
      have kl : (k : Int) < 8 := by omega
      go_wp2_with fail
      refine (impl_goodR _ _ _ _).mono ?_
      rintro e w1 ⟨rfl, B1⟩
      have B2 : Hid (Below w0.heap.size w0 w1) := HB0.out.trans ((belR ((Below.refl _ _).alloc (Nat.le_refl _) _) B1).mono HB0.out.size)
      have BN : Hid (Below W.heap.size W w1) := belR B0.out B2.out
      have CN : Hid (CellsG w1 W.heap.size 0 8 noF) := C0.out.kept l0 B2.out
      clear B1
      cases hg : goodR t kn n
      · have HE : Hid (rangesB g 8 = false) := ranges_bad hlt (by rw [HX.out]; simp [Rv.good, hg])
        go_wp2_with (first | (refine wpList_store_mid rfl 71 _ _ rfl W.heap.size 0 #[.bool false, .int .i64 0, .int .i64 0, .bool false, .int .i64 0, .int .i64 0, .bool false, .int .i64 0, .int .i64 0, .bool false, .int .i64 0, .int .i64 0, .bool false, .int .i64 0, .int .i64 0, .bool false, .int .i64 0, .int .i64 0, .bool false, .int .i64 0, .int .i64 0, .bool false, .int .i64 0, .int .i64 0] rfl rfl CN.out.there arr_info zeros_one ?_; rw [show ((#[.bool false, .int .i64 0, .int .i64 0, .bool false, .int .i64 0, .int .i64 0, .bool false, .int .i64 0, .int .i64 0, .bool false, .int .i64 0, .int .i64 0, .bool false, .int .i64 0, .int .i64 0, .bool false, .int .i64 0, .int .i64 0, .bool false, .int .i64 0, .int .i64 0, .bool false, .int .i64 0, .int .i64 0] : Array Value)).toList = flatG noF 8 from rfl]; generalize hw9 : World.setCells _ W.heap.size 0 (flatG noF 8) = w9) | go_in)
        refine bodyPost_ret (v := .tuple #[arrG noF, .bool false]) ?_ rfl ⟨by rw [HR.out, HE.out]; rfl, by rw [← hw9]; exact below_setCells (Nat.le_refl _) _ _ _ BN.out⟩
        simp only [results, Try.results52]
        have C1 := CN.out.stored (f := noF)
        rw [hw9] at C1
        have hl := CellsG.loadVar C1.range
        clear hw9
        simp [asAddr, hl]
      · have HG' : Hid (∀ j, j < k + 1 → (g j).good = true) := by
          show ∀ j, j < k + 1 → _
          intro j hj
          by_cases e : j = k
          · rw [e, HX.out]; simp [Rv.good, hg]
          · exact HG.out j (by omega)
        go_wp2
        go_roundw
        case rel => exact ⟨k + 1, by omega, by go_num, HG', B2.out⟩
        case measure => simp [intOf]; omega
    · have HE : Hid (rangesB g 8 = true) := ranges_mk rfl (fun i hi => HG.out i (by omega))
      have RG : Hid (wr.rangeAt vb vo (flatG g 8)) := fun j v hj => by
        obtain ⟨h1, rfl⟩ := flatG_at hj
        exact (HB.out.cell (p := ⟨vb, vo + j, none⟩) hvb).trans (HV.out j h1)
      obtain ⟨d, hu, hd⟩ := arr_under
      have qa := arr_at
      go_wp2_with (first
        | (refine wpList_load_mid rfl 71 _ rfl vb vo rfl (flatG g 8) d RG.out hu hd (by rw [flatG_len]; exact arr_info) ?_)
        | (refine wpList_store_mid rfl 71 _ _ rfl W.heap.size 0 (flatG g 8).toArray rfl rfl (by simpa [flatG_len] using CW.out.there) (by simpa [flatG_len] using arr_info) (all_oneCell_toArray (flatG_one g 8)) ?_; rw [show ((flatG g 8).toArray).toList = flatG g 8 from rfl]; generalize hw9 : World.setCells _ W.heap.size 0 (flatG g 8) = w9)
        | go_in)
      refine bodyPost_ret (v := .tuple #[arrG g, .bool true]) ?_ rfl ⟨by rw [HR.out, HE.out]; rfl, by rw [← hw9]; exact below_setCells (Nat.le_refl _) _ _ _ HB.out⟩
      simp only [results, Try.results52]
      have C1 := CW.out.stored (f := g)
      rw [hw9] at C1
      have hl := CellsG.loadVar C1.range
      clear hw9
      simp [asAddr, hl]
end Go.Proofs.Ytoeiijkomjlolab.walks
