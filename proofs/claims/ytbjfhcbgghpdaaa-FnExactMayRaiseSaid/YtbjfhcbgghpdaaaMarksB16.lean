/-
  Arrays of ten truth values: what codeMarks' and, without and rising answer.
-/
import Derived.Test.YtbjfhcbgghpdaaaProg
import Derived.Test.YtbjfhcbgghpdaaaMagMath
import Derived.Test.YtbjfhcbgghpdaaaInts
import Derived.Test.YtbjfhcbgghpdaaaOwnInts
import Derived.Test.YtbjfhcbgghpdaaaDeep
import Derived.Test.YtbjfhcbgghpdaaaDeepRow
import Derived.Test.YtbjfhcbgghpdaaaNamesMath
import Derived.Test.YtbjfhcbgghpdaaaTreeMath16
import Derived.Test.YtbjfhcbgghpdaaaMayMath16
import Derived.Test.YtbjfhcbgghpdaaaLineMath
import Derived.Test.YtbjfhcbgghpdaaaLineStep
import Derived.WalkKit
import Derived.WalkSpells
import Derived.Below
import Derived.Handy
import Derived.OwnWalk
import Derived.ChangeKeysEq
import Derived.Laws.StructEq
import Derived.Deep.OwnRows
import Derived.Deep.WholeRow
import Derived.Laws.Rows
import Derived.Laws.Tables
import Derived.Laws.CopyOwn
import Derived.Laws.ResultCell
import Derived.Deep.DeepFit
import Derived.Deep.DeepCutAuto
namespace Go.Proofs.Ytbjfhcbgghpdaaa.walks
open Go.RowKit Go.Proofs.Ytbjfhcbgghpdaaa.math Go.Proofs.Ytbjfhcbgghpdaaa.ints Go.Proofs.Ytbjfhcbgghpdaaa.deep
set_option linter.unusedVariables false
set_option maxRecDepth 100000

/-- The array c has ten truth values, m 0, m 1 and so on. -/
structure IsB (c : Array Value) (m : Nat → Bool) : Prop where
  size : c.size = 10
  get : ∀ i, i < 10 → c[i]? = some (.bool (m i))
theorem IsB.one {c : Array Value} {m : Nat → Bool} (h : IsB c m) : c.all (·.oneCell') = true := by
  rw [Array.all_eq_true]
  intro i hi
  have := h.get i (by have := h.size; omega)
  rw [Array.getElem?_eq_getElem hi] at this
  rw [Option.some.inj this]; rfl
theorem IsB.congr {c : Array Value} {m m' : Nat → Bool} (h : IsB c m) (e : ∀ i, i < 10 → m i = m' i) : IsB c m' := ⟨h.size, fun i hi => by rw [← e i hi]; exact h.get i hi⟩
theorem row_b {w : World} {b : Nat} {t : TypeId} {m : Nat → Bool} (h : w.rowIs b t 10 (fun i => .bool (m i))) : ∃ c, IsB c m ∧ w.heap[b]? = some (.cells c t (0, 0)) := by
  obtain ⟨c, h1, h2, h3⟩ := h
  exact ⟨c, ⟨h2, h3⟩, h1⟩
theorem b_row {w : World} {b : Nat} {t : TypeId} {c : Array Value} {m : Nat → Bool} (h : IsB c m) (e : w.heap[b]? = some (.cells c t (0, 0))) : w.rowIs b t 10 (fun i => .bool (m i)) := ⟨c, e, h.size, h.get⟩
theorem b_new {w : World} {t : TypeId} {c : Array Value} {m : Nat → Bool} (h : IsB c m) : (w.alloc (.cells c t)).rowIs w.heap.size t 10 (fun i => .bool (m i)) := b_row h (heap_alloc_last w _)
theorem b_info {c : Array Value} {m : Nat → Bool} (h : IsB c m) : (Try.prog.info? 85).map (·.size) = some c.size := by
  rw [h.size]; kernel_rfl
theorem falsesB (W : World) (t : TypeId) : (W.alloc (.cells #[.bool false, .bool false, .bool false, .bool false, .bool false, .bool false, .bool false, .bool false, .bool false, .bool false] t)).rowIs W.heap.size t 10 (fun _ => .bool false) := by
  refine World.rowIs_alloc W (Array.replicate 10 (.bool false)) t _ (fun i hi => ?_)
  simp at hi
  simp [hi]
theorem zero_b : IsB #[.bool false, .bool false, .bool false, .bool false, .bool false, .bool false, .bool false, .bool false, .bool false, .bool false] (fun _ => false) := by
  refine ⟨rfl, fun i hi => ?_⟩
  show (Array.replicate 10 (Value.bool false))[i]? = _
  simp [hi]
theorem part_b {c : Array Value} {m : Nat → Bool} (h : IsB c m) {i : Nat} (hi : i < 10) (w : World) : (part 4 c i).run Try.prog w = .ok (.bool (m i)) w := by
  have he : Try.prog.underlying 4 = some .bool := Try.underlying4
  simp [part, isAgg, Sem.run_bind, run_underlying he, h.get i hi]
theorem idx_b {c : Array Value} {m : Nat → Bool} (h : IsB c m) {i : Nat} (hi : i < 10) (w : World) : (Instr.index 85 (.agg c) (.int .i64 (i : Int))).run Try.prog w = .ok (.bool (m i)) w := by
  have he : Try.prog.underlying 85 = some (.array 10 4) := Try.underlying85
  have hb : (0 : Int) ≤ (i : Int) ∧ (i : Int) < ((10 : Nat) : Int) := by omega
  simp [Instr.index, run_underlying he, asIntOf, part_b h hi, hi]
theorem eq_itemsB {c d : Array Value} {m m' : Nat → Bool} (hc : IsB c m) (hd : IsB d m') {D : Nat} (w : World) : ∀ is : List Nat, (∀ i ∈ is, i < 10) → (Op.eqItems (D + 1) 4 1 c d is).run Try.prog w = .ok (is.all (fun i => m i == m' i)) w
  | [], _ => by simp [Op.eqItems]
  | i :: is, h => by
    have hi := h i (by simp)
    have he : Try.prog.underlying 4 = some .bool := Try.underlying4
    simp only [Op.eqItems, Nat.mul_one, Sem.run_bind, part_b hc hi, part_b hd hi, Result.andThen_ok, run_equalIn_bool w D 4 (m i) (m' i) he]
    by_cases e : m i = m' i
    · simp only [e, beq_self_eq_true, Bool.not_true, Bool.false_eq_true, if_false, List.all_cons, Bool.true_and]
      exact eq_itemsB hc hd w is (fun j hj => h j (by simp [hj]))
    · simp [e]
theorem eqIn_b {c d : Array Value} {m m' : Nat → Bool} (hc : IsB c m) (hd : IsB d m') (w : World) : (Op.equalIn 10000 85 (.agg c) (.agg d)).run Try.prog w = .ok ((List.range 10).all (fun i => m i == m' i)) w := by
  obtain ⟨i, hi⟩ : ∃ i, Try.prog.info? 4 = some i := by
    cases h : Try.prog.info? 4 with
    | none => have : (Try.prog.info? 4).isSome = true := by kernel_rfl
              rw [h] at this; cases this
    | some i => exact ⟨i, rfl⟩
  rw [run_equalIn_array w 9999 c d Try.underlying85 hi]
  rw [show Try.prog.cellsOf 4 = 1 by kernel_rfl, eq_itemsB (D := 9998) hc hd w _ (fun i hi => by simpa using hi)]
theorem eqG_b (x y : Operand) (xs ys : Array Value) (w : World) : (eqGuard .eql 85 x y (.agg xs) (.agg ys)).run Try.prog w = .ok () w := run_eqGuard_agg w _ _ _ _ _ _ (by kernel_rfl)

set_option maxHeartbeats 4000000 in
theorem impl_and16 (c1 c2 : Array Value) (m1 m2 : Nat → Bool) (W : World) (h1 : Hid (IsB c1 m1)) (h2 : Hid (IsB c2 m2)) : Calls Try.prog 58 #[.agg c1, .agg c2] W fun e W' => ∃ c, IsB c (fun i => m1 i || m2 i) ∧ e = .returned (.agg c) ∧ Below W.heap.size W W' := by
  obtain ⟨X, hX⟩ : ∃ X, Hid (((W.alloc (.cells c1 85)).alloc (.cells c2 85)).alloc (.cells #[.bool false, .bool false, .bool false, .bool false, .bool false, .bool false, .bool false, .bool false, .bool false, .bool false] 85) = X) := ⟨_, rfl⟩
  have HX : Hid (Below W.heap.size W X) := by show Below _ _ _; rw [← hX.out]; exact (((Below.refl _ _).alloc (Nat.le_refl _) _).alloc (by simp) _).alloc (by simp; omega) _
  have R0 : Hid (X.rowIs W.heap.size 85 10 (fun i => .bool (m1 i))) := by rw [← hX.out]; exact ((b_new h1.out).alloc _).alloc _
  have R1 : Hid (X.heap[W.heap.size + 1]? = some (.cells c2 85 (0, 0))) := by
    show _ = _
    have q := heap_alloc_last (W.alloc (.cells c1 85)) (.cells c2 85)
    rw [show (W.alloc (.cells c1 85)).heap.size = W.heap.size + 1 by simp] at q
    rw [← hX.out]
    exact (((Below.refl ((W.alloc (.cells c1 85)).alloc (.cells c2 85)).heap.size _).alloc (Nat.le_refl _) _).block (W.heap.size + 1) (by simp)).trans q
  have RZ : Hid (X.rowIs (W.heap.size + 1 + 1) 85 10 (fun _ => .bool false)) := by
    have q := falsesB ((W.alloc (.cells c1 85)).alloc (.cells c2 85)) 85
    rw [show ((W.alloc (.cells c1 85)).alloc (.cells c2 85)).heap.size = W.heap.size + 1 + 1 by simp] at q
    rw [← hX.out]; exact q
  go_enter Try.func58, Try.ntmps58
  go_upto_region 1 with fail
  rw [hX.out]
  clear hX
  go_wp2_with (refine wpList_load_row rfl 85 _ rfl (W.heap.size + 1) rfl 85 c2 (0, 0) _ R1.out Try.underlying85 rfl (b_info h2.out) ?_)
  go_loopw [8] (fun vi wr => ∃ i : Nat, i ≤ 10 ∧ vi = .int .i64 (i : Int) ∧ Hid (wr.rowIs W.heap.size 85 10 (fun j => .bool (if j < i then m1 j || m2 j else m1 j))) ∧ Hid (wr.rowIs (W.heap.size + 1 + 1) 85 10 (fun _ => .bool false)) ∧ Hid (Below W.heap.size W wr)) (fun vi _ => 20 - (intOf vi).toNat)
  case atStart => exact ⟨0, by omega, rfl, R0.out.congr (fun j hj => by rw [if_neg (by omega)]), RZ, HX⟩
  case round =>
    clear R0 R1 RZ HX
    obtain ⟨i, hi, rfl, HR, HZ, HB⟩ := hrel
    by_cases hlt : i < 10
    · have x0 := HR.out.cell (i := i) hlt
      have f0 := HR.out.frozen i
      have xl := HR.out.lt
      simp only [Nat.lt_irrefl, if_false] at x0
      have hix := fun w => idx_b h2.out hlt w
      have hltI : (i : Int) < 10 := by omega
      have HN : Hid (∀ b, b = (m1 i || m2 i) → Hid ((wr.setCell ⟨W.heap.size, i, none⟩ (.bool b)).rowIs W.heap.size 85 10 (fun j => .bool (if j < i + 1 then m1 j || m2 j else m1 j)))) := fun b hb => by
        refine World.rowIs.congr (World.rowIs.set HR.out i (.bool b)) (fun j hj => ?_)
        by_cases e : j = i
        · subst e; simp [hb]
        · simp only [if_neg e]
          by_cases e2 : j < i
          · rw [if_pos e2, if_pos (by omega)]
          · rw [if_neg e2, if_neg (by omega)]
      have HZN : Hid (∀ v, Hid ((wr.setCell ⟨W.heap.size, i, none⟩ v).rowIs (W.heap.size + 1 + 1) 85 10 (fun _ => .bool false))) := fun v => World.rowIs.setOther HZ.out (by show W.heap.size + 1 + 1 ≠ W.heap.size; omega) _
      obtain ⟨b1, hb1⟩ : ∃ b, Hid (m1 i = b) := ⟨_, rfl⟩
      obtain ⟨b2, hb2⟩ : ∃ b, Hid (m2 i = b) := ⟨_, rfl⟩
      rw [hb1.out] at x0
      rw [hb1.out, hb2.out] at HN
      rw [hb2.out] at hix
      cases b1 <;>
      · go_wp2
        go_roundw
        case rel => exact ⟨i + 1, by omega, by go_num, HN.out _ (by simp), HZN.out _, HB.out.setCell (Nat.le_refl _) _⟩
        case measure => simp [intOf]; omega
    · skip
      obtain ⟨c, hc, hg⟩ := row_b (m := (fun i => m1 i || m2 i)) (HR.out.congr (fun j hj => by rw [if_pos (by omega)]))
      obtain ⟨c0, hc0, hg0⟩ := row_b (m := fun _ => false) HZ.out
      have HC : Hid (IsB c (fun i => m1 i || m2 i)) := hc
      have HC0 : Hid (IsB c0 (fun _ => false)) := hc0
      have HG : Hid (wr.heap[W.heap.size]? = some (.cells c 85 (0, 0))) := hg
      have HG0 : Hid (wr.heap[W.heap.size + 1 + 1]? = some (.cells c0 85 (0, 0))) := hg0
      clear HR HZ hc hc0 hg hg0
      go_wp2_with (first
        | (refine wpList_load_row rfl 85 _ rfl W.heap.size rfl 85 c (0, 0) _ HG.out Try.underlying85 rfl (b_info HC.out) ?_)
        | (refine wpList_store_row rfl 85 _ _ rfl (W.heap.size + 1 + 1) c rfl rfl 85 c0 HG0.out (b_info HC.out) (HC0.out.size.trans HC.out.size.symm) HC.out.one ?_)
        | go_in)
      refine bodyPost_ret (v := .agg c) ?_ rfl ⟨c, HC.out, rfl, below_setRow HB.out (by omega) _⟩
      exact results_cell_row rfl _ _ (W.heap.size + 1 + 1) 85 c (0, 0) _ rfl (setRow_heap _ _ _ _ _ _ HG0.out) Try.underlying85 rfl (b_info HC.out)

set_option maxHeartbeats 4000000 in
theorem impl_without16 (c1 : Array Value) (m : Nat → Bool) (n : Int) (W : World) (h1 : Hid (IsB c1 m)) : Calls Try.prog 59 #[.agg c1, .int .i64 n] W fun e W' => ∃ c, IsB c (fun i => wo m n i) ∧ e = .returned (.agg c) ∧ Below W.heap.size W W' := by
  obtain ⟨X, hX⟩ : ∃ X, Hid ((W.alloc (.cells c1 85)).alloc (.cells #[.bool false, .bool false, .bool false, .bool false, .bool false, .bool false, .bool false, .bool false, .bool false, .bool false] 85) = X) := ⟨_, rfl⟩
  have HX : Hid (Below W.heap.size W X) := by show Below _ _ _; rw [← hX.out]; exact ((Below.refl _ _).alloc (Nat.le_refl _) _).alloc (by simp) _
  have R0 : Hid (X.rowIs W.heap.size 85 10 (fun i => .bool (m i))) := by rw [← hX.out]; exact (b_new h1.out).alloc _
  have RZ : Hid (X.rowIs (W.heap.size + 1) 85 10 (fun _ => .bool false)) := by
    have q := falsesB (W.alloc (.cells c1 85)) 85
    rw [show (W.alloc (.cells c1 85)).heap.size = W.heap.size + 1 by simp] at q
    rw [← hX.out]; exact q
  go_enter Try.func59, Try.ntmps59
  go_upto_region 1 with fail
  rw [hX.out]
  clear hX
  go_wp2
  go_loopw [6] (fun vi wr => ∃ i : Nat, i ≤ 10 ∧ vi = .int .i64 (i : Int) ∧ Hid (wr.rowIs W.heap.size 85 10 (fun j => .bool (if j < i then wo m n j else m j))) ∧ Hid (wr.rowIs (W.heap.size + 1) 85 10 (fun _ => .bool false)) ∧ Hid (Below W.heap.size W wr)) (fun vi _ => 20 - (intOf vi).toNat)
  case atStart => exact ⟨0, by omega, rfl, R0.out.congr (fun j hj => by rw [if_neg (by omega)]), RZ, HX⟩
  case round =>
    clear R0 RZ HX
    obtain ⟨i, hi, rfl, HR, HZ, HB⟩ := hrel
    by_cases hlt : i < 10
    · have x0 := HR.out.cell (i := i) hlt
      have f0 := HR.out.frozen i
      have xl := HR.out.lt
      simp only [Nat.lt_irrefl, if_false] at x0
      have hltI : (i : Int) < 10 := by omega
      have HN : Hid (∀ b, b = wo m n i → Hid ((wr.setCell ⟨W.heap.size, i, none⟩ (.bool b)).rowIs W.heap.size 85 10 (fun j => .bool (if j < i + 1 then wo m n j else m j)))) := fun b hb => by
        refine World.rowIs.congr (World.rowIs.set HR.out i (.bool b)) (fun j hj => ?_)
        by_cases e : j = i
        · subst e; simp [hb]
        · simp only [if_neg e]
          by_cases e2 : j < i
          · rw [if_pos e2, if_pos (by omega)]
          · rw [if_neg e2, if_neg (by omega)]
      have HZN : Hid (∀ v, Hid ((wr.setCell ⟨W.heap.size, i, none⟩ v).rowIs (W.heap.size + 1) 85 10 (fun _ => .bool false))) := fun v => World.rowIs.setOther HZ.out (by show W.heap.size + 1 ≠ W.heap.size; omega) _
      obtain ⟨b1, hb1⟩ : ∃ b, Hid (m i = b) := ⟨_, rfl⟩
      obtain ⟨b2, hb2⟩ : ∃ b, Hid (catchI n i = b) := ⟨_, rfl⟩
      have hcat : (decide (n = 0) || decide (n = (i : Int))) = b2 := hb2.out
      have HW : Hid (wo m n i = (b1 && !b2)) := by show _ = _; unfold wo; rw [hb1.out, hb2.out]
      rw [hb1.out] at x0
      rw [HW.out] at HN
      cases b1
      · go_wp2
        go_roundw
        case rel => exact ⟨i + 1, by omega, by go_num, HN.out _ (by simp), HZN.out _, HB.out.setCell (Nat.le_refl _) _⟩
        case measure => simp [intOf]; omega
      · cases b2 <;>
        · go_wp2_with (go_at_call 56; refine (impl_catch16 hcat _).mono ?_; rintro e w' ⟨rfl, hw⟩; rw [hw]; clear hw w')
          go_roundw
          case rel => exact ⟨i + 1, by omega, by go_num, HN.out _ (by simp), HZN.out _, HB.out.setCell (Nat.le_refl _) _⟩
          case measure => simp [intOf]; omega
    · skip
      obtain ⟨c, hc, hg⟩ := row_b (m := (fun i => wo m n i)) (HR.out.congr (fun j hj => by rw [if_pos (by omega)]))
      obtain ⟨c0, hc0, hg0⟩ := row_b (m := fun _ => false) HZ.out
      have HC : Hid (IsB c (fun i => wo m n i)) := hc
      have HC0 : Hid (IsB c0 (fun _ => false)) := hc0
      have HG : Hid (wr.heap[W.heap.size]? = some (.cells c 85 (0, 0))) := hg
      have HG0 : Hid (wr.heap[W.heap.size + 1]? = some (.cells c0 85 (0, 0))) := hg0
      clear HR HZ hc hc0 hg hg0
      go_wp2_with (first
        | (refine wpList_load_row rfl 85 _ rfl W.heap.size rfl 85 c (0, 0) _ HG.out Try.underlying85 rfl (b_info HC.out) ?_)
        | (refine wpList_store_row rfl 85 _ _ rfl (W.heap.size + 1) c rfl rfl 85 c0 HG0.out (b_info HC.out) (HC0.out.size.trans HC.out.size.symm) HC.out.one ?_)
        | go_in)
      refine bodyPost_ret (v := .agg c) ?_ rfl ⟨c, HC.out, rfl, below_setRow HB.out (by omega) _⟩
      exact results_cell_row rfl _ _ (W.heap.size + 1) 85 c (0, 0) _ rfl (setRow_heap _ _ _ _ _ _ HG0.out) Try.underlying85 rfl (b_info HC.out)

/-- What rising tells: a list that was made anew. -/
def RiseTo (W : World) (zs : List Int) (e : Ending) (W' : World) : Prop := ∃ v, e = .returned v ∧ Own W' W.heap.size v zs ∧ Below W.heap.size W W'
set_option maxHeartbeats 4000000 in
theorem impl_rising16 (c1 : Array Value) (m : Nat → Bool) (W : World) (h1 : Hid (IsB c1 m)) : Calls Try.prog 45 #[.agg c1] W fun e W' => RiseTo W (risingTo m 10) e W' := by
  obtain ⟨i0, hi0, hz0, hz1, hz2⟩ := parts_of (P := Try.prog) (e := 3) (z := .int .i64 0) (a := 1) (b := 8) (by kernel_rfl)
  obtain ⟨X, hX⟩ : ∃ X, Hid (W.alloc (.cells c1 85) = X) := ⟨_, rfl⟩
  have HX : Hid (Below W.heap.size W X) := by show Below _ _ _; rw [← hX.out]; exact (Below.refl _ _).alloc (Nat.le_refl _) _
  have R1 : Hid (X.heap[W.heap.size]? = some (.cells c1 85 (0, 0))) := by show _ = _; rw [← hX.out]; exact heap_alloc_last W _
  go_enter Try.func45, Try.ntmps45
  go_upto_region 1 with fail
  rw [hX.out]
  clear hX
  go_wp2_with (refine wpList_load_row rfl 85 _ rfl W.heap.size rfl 85 c1 (0, 0) _ R1.out Try.underlying85 rfl (b_info h1.out) ?_)
  go_loopw [7, 3] (fun vi v3 wr => ∃ (i : Nat) (u : Value), i ≤ 10 ∧ vi = .int .i64 (i : Int) ∧ u = v3 ∧ Hid (Own wr W.heap.size u (risingTo m i)) ∧ Hid (Below W.heap.size W wr)) (fun vi _ _ => 20 - (intOf vi).toNat)
  case atStart => exact ⟨0, _, by omega, rfl, rfl, own_nil _ _, HX⟩
  case round =>
    clear R1 HX
    obtain ⟨i, u, hi, rfl, rfl, HO, HB⟩ := hrel
    by_cases hlt : i < 10
    rotate_left
    · have HA : Hid (RiseTo W (risingTo m 10) (.returned u) wr) := ⟨u, rfl, by rw [show 10 = i by omega]; exact HO.out, HB.out⟩
      go_wp2
      go_ret
      exact HA.out
    have hix := fun w => idx_b h1.out hlt w
    have hltI : (i : Int) < 10 := by omega
    have HR1 : Hid (risingTo m (i + 1) = risingTo m i ++ (if m i then [(i : Int)] else [])) := rfl
    obtain ⟨b1, hb1⟩ : ∃ b, Hid (m i = b) := ⟨_, rfl⟩
    rw [hb1.out] at hix HR1
    have hyl := rising_len m i
    obtain ⟨ys, hys⟩ : ∃ ys, Hid (risingTo m i = ys) := ⟨_, rfl⟩
    rw [hys.out] at HO HR1 hyl
    have hB1 := HB.out.size
    cases b1
    · go_wp2
      go_roundw
      case rel => exact ⟨i + 1, u, by omega, by go_num, rfl, by show Own _ _ _ _; rw [HR1.out]; simpa using HO.out, HB⟩
      case measure => simp [intOf]; omega
    · have HOr : Hid (wr.ownsRow W.heap.size 3 1 u ys.length (ys.map (Value.int .i64))) := HO.out
      go_wp2_with (at_builtin; refine wpList_append_own_at _ rfl _ _ 45 rfl W.heap.size 3 i0 (.int .i64 0) 1 8 Try.underlying45 hi0 hz0 hz1 hz2 rfl (by decide) u ys.length (ys.map (Value.int .i64)) rfl (World.ownsRow.alloc HOr.out _) ⟨wr.heap.size, 0, none⟩ 1 1 [.int .i64 (i : Int)] rfl rfl (new_one wr _ _) (one_of _) ?c3 ?c4 ?c5 ?_)
      case c3 => unfold maxLen; omega
      case c4 => omega
      case c5 => first | omega | (simp; omega)
      intro v' w3 hown hgrow hnil hat
      obtain ⟨q1, q2, q3⟩ := Own.snoc (W := W) (B := W.heap.size) HO.out hB1 HB.out hown hgrow
      have O3 : Hid (Own w3 W.heap.size v' (ys ++ [(i : Int)])) := q1
      have B3 : Hid (Below W.heap.size W w3) := q2
      clear q1 q2 q3 hown hgrow hnil hat
      go_wp2
      go_roundw
      case rel => exact ⟨i + 1, v', by omega, by go_num, rfl, by show Own _ _ _ _; rw [HR1.out]; exact O3.out, B3⟩
      case measure => simp [intOf]; omega

end Go.Proofs.Ytbjfhcbgghpdaaa.walks
