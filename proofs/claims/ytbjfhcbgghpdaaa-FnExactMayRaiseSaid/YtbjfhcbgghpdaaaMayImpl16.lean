/-
  The codes that the program's tree may raise.
-/
import Derived.Test.YtbjfhcbgghpdaaaProg
import Derived.Test.YtbjfhcbgghpdaaaMagMath
import Derived.Test.YtbjfhcbgghpdaaaInts
import Derived.Test.YtbjfhcbgghpdaaaOwnInts
import Derived.Test.YtbjfhcbgghpdaaaDeep
import Derived.Test.YtbjfhcbgghpdaaaDeepRow
import Derived.Test.YtbjfhcbgghpdaaaNamesMath
import Derived.Test.YtbjfhcbgghpdaaaTreeMath16
import Derived.Test.YtbjfhcbgghpdaaaMayMath16
import Derived.Test.YtbjfhcbgghpdaaaLineMath
import Derived.Test.YtbjfhcbgghpdaaaLineStep
import Derived.Test.YtbjfhcbgghpdaaaDeepGrow
import Derived.Test.YtbjfhcbgghpdaaaOwnMath
import Derived.Test.YtbjfhcbgghpdaaaPutSpec
import Derived.Test.YtbjfhcbgghpdaaaTreeMem16
import Derived.Test.YtbjfhcbgghpdaaaCellBase16
import Derived.Test.YtbjfhcbgghpdaaaReadSpec16
import Derived.Test.YtbjfhcbgghpdaaaTreeSpec16
import Derived.Test.YtbjfhcbgghpdaaaFromImpl16
import Derived.Test.YtbjfhcbgghpdaaaCodeTree16
import Derived.Test.YtbjfhcbgghpdaaaMarksB16
import Derived.Test.YtbjfhcbgghpdaaaMaySpec16
import Derived.Deep.RegionWith
import Derived.Deep.RegionHeld3
import Derived.WalkKit
import Derived.WalkSpells
import Derived.Below
import Derived.Handy
import Derived.OwnWalk
import Derived.ChangeKeysEq
import Derived.Laws.StructEq
import Derived.Deep.OwnRows
import Derived.Deep.WholeRow
import Derived.Laws.Rows
import Derived.Laws.Tables
import Derived.Laws.CopyOwn
import Derived.Laws.ResultCell
import Derived.Deep.DeepFit
import Derived.Deep.DeepCutAuto
namespace Go.Proofs.Ytbjfhcbgghpdaaa.walks
open Go.RowKit Go.Proofs.Ytbjfhcbgghpdaaa.math Go.Proofs.Ytbjfhcbgghpdaaa.ints Go.Proofs.Ytbjfhcbgghpdaaa.deep
set_option linter.unusedVariables false
set_option maxRecDepth 100000

set_option linter.unusedSimpArgs false

theorem two_agree {X w : World} {g b o : Nat} {u0 u1 u2 u3 u4 u5 u6 : Value} (h : X.cell? ⟨g, 2, none⟩ = some u0 ∧ X.cell? ⟨b, o, none⟩ = some u1 ∧ X.cell? ⟨b, o + 1, none⟩ = some u2 ∧ X.cell? ⟨b, o + 2, none⟩ = some u3 ∧ X.cell? ⟨b, o + 3, none⟩ = some u4 ∧ X.cell? ⟨b, o + 3 + 1, none⟩ = some u5 ∧ X.cell? ⟨b, o + 3 + 2, none⟩ = some u6) (hg : w.heap[g]? = X.heap[g]?) (hb : w.heap[b]? = X.heap[b]?) : w.cell? ⟨g, 2, none⟩ = some u0 ∧ w.cell? ⟨b, o, none⟩ = some u1 ∧ w.cell? ⟨b, o + 1, none⟩ = some u2 ∧ w.cell? ⟨b, o + 2, none⟩ = some u3 ∧ w.cell? ⟨b, o + 3, none⟩ = some u4 ∧ w.cell? ⟨b, o + 3 + 1, none⟩ = some u5 ∧ w.cell? ⟨b, o + 3 + 2, none⟩ = some u6 :=
  ⟨(World.cell?_of_block hg).trans h.1, (World.cell?_of_block hb).trans h.2.1, (World.cell?_of_block hb).trans h.2.2.1, (World.cell?_of_block hb).trans h.2.2.2.1, (World.cell?_of_block hb).trans h.2.2.2.2.1, (World.cell?_of_block hb).trans h.2.2.2.2.2.1, (World.cell?_of_block hb).trans h.2.2.2.2.2.2⟩
set_option maxHeartbeats 8000000 in
theorem impl_maym (t : XT) : ∀ (hw : WfX t) (W : World) (a : Option Addr) (cap : Nat) (h : Hid (Holds W false (kidsD t) (.slice a t.kids.length cap))), Calls Try.prog 44 #[.agg #[.int .i64 t.kind, .int .i64 t.num, .slice a t.kids.length cap]] W fun e W' => ∃ c, IsB c (mayX t) ∧ e = .returned (.agg c) ∧ Below W.heap.size W W' := by
  refine XT.ind (P := fun t => ∀ (hw : WfX t) (W : World) (a : Option Addr) (cap : Nat) (h : Hid (Holds W false (kidsD t) (.slice a t.kids.length cap))), Calls Try.prog 44 #[.agg #[.int .i64 t.kind, .int .i64 t.num, .slice a t.kids.length cap]] W fun e W' => ∃ c, IsB c (mayX t) ∧ e = .returned (.agg c) ∧ Below W.heap.size W W') (fun t ih hw W a cap h => ?_) t
  cases t with
  | leaf k n =>
    obtain ⟨hc, hk0⟩ := hw
    have hk6 := cellX_kind hc
    have hk : k = 1 ∨ k = 2 := by
      rcases (show k = 1 ∨ k = 2 ∨ k = 3 ∨ k = 4 ∨ k = 5 ∨ k = 6 by omega) with e | e | e | e | e | e
      · exact Or.inl e
      · exact Or.inr e
      · rw [e] at hk0; exact absurd hk0 (by decide)
      · rw [e] at hk0; exact absurd hk0 (by decide)
      · rw [e] at hk0; exact absurd hk0 (by decide)
      · rw [e] at hk0; exact absurd hk0 (by decide)
    show Calls _ _ #[.agg #[.int .i64 k, .int .i64 n, .slice a 0 cap]] W _
    rcases hk with rfl | rfl
    · have ZB : IsB #[.bool false, .bool false, .bool false, .bool false, .bool false, .bool false, .bool false, .bool false, .bool false, .bool false] (mayX (.leaf 1 n)) := zero_b.congr (fun i _ => by rw [mayX]; simp)
      clear h ih hc hk0 hk6
      obtain ⟨X, hX⟩ : ∃ X, Hid ((W.alloc (.cells #[.int .i64 1, .int .i64 n, .slice a 0 cap] 62)).alloc (.cells #[.bool false, .bool false, .bool false, .bool false, .bool false, .bool false, .bool false, .bool false, .bool false, .bool false] 85) = X) := ⟨_, rfl⟩
      have HX : Hid (Below W.heap.size W X) := by show Below _ _ _; rw [← hX.out]; exact ((Below.refl _ _).alloc (Nat.le_refl _) _).alloc (by simp) _
      have RX : Hid (X.rowIs W.heap.size 62 3 (rowF [.int .i64 1, .int .i64 n, .slice a 0 cap])) := by rw [← hX.out]; exact (row_of W #[.int .i64 1, .int .i64 n, .slice a 0 cap] _).alloc _
      have HZ : Hid (X.heap[W.heap.size + 1]? = some (.cells #[.bool false, .bool false, .bool false, .bool false, .bool false, .bool false, .bool false, .bool false, .bool false, .bool false] 85 (0, 0))) := by
        show _ = _
        have q := heap_alloc_last (W.alloc (.cells #[.int .i64 1, .int .i64 n, .slice a 0 cap] 62)) (.cells #[.bool false, .bool false, .bool false, .bool false, .bool false, .bool false, .bool false, .bool false, .bool false, .bool false] 85)
        rw [show (W.alloc (.cells #[.int .i64 1, .int .i64 n, .slice a 0 cap] 62)).heap.size = W.heap.size + 1 by simp] at q
        rw [← hX.out]; exact q
      have x0 : X.cell? ⟨W.heap.size, 0, none⟩ = some (.int .i64 1) := RX.out.cell (i := 0) (by decide)
      have x1 : X.cell? ⟨W.heap.size, 1, none⟩ = some (.int .i64 n) := RX.out.cell (i := 1) (by decide)
      have x2 : X.cell? ⟨W.heap.size, 2, none⟩ = some (.slice a 0 cap) := RX.out.cell (i := 2) (by decide)
      have xl := RX.out.lt
      have XS : Hid (X.heap.size = W.heap.size + 2) := by show _ = _; rw [← hX.out]; simp
      go_enter Try.func44, Try.ntmps44
      go_upto_region 1 with fail
      rw [hX.out]
      clear hX
      go_wp2_with (first | (refine wpList_store_row rfl 85 _ _ rfl (W.heap.size + 1) #[.bool false, .bool false, .bool false, .bool false, .bool false, .bool false, .bool false, .bool false, .bool false, .bool false] rfl rfl 85 #[.bool false, .bool false, .bool false, .bool false, .bool false, .bool false, .bool false, .bool false, .bool false, .bool false] HZ.out (b_info zero_b) (zero_b.size.trans zero_b.size.symm) zero_b.one ?_) | go_in)
      (try simp only [Exit.inBlock, Exit.then])
      refine bodyPost_ret (v := .agg #[.bool false, .bool false, .bool false, .bool false, .bool false, .bool false, .bool false, .bool false, .bool false, .bool false]) ?_ rfl ⟨#[.bool false, .bool false, .bool false, .bool false, .bool false, .bool false, .bool false, .bool false, .bool false, .bool false], ZB, rfl, below_setRow HX.out (by omega) _⟩
      exact results_cell_row rfl _ _ (W.heap.size + 1) 85 #[.bool false, .bool false, .bool false, .bool false, .bool false, .bool false, .bool false, .bool false, .bool false, .bool false] (0, 0) _ rfl (setRow_heap _ _ _ _ _ _ HZ.out) Try.underlying85 rfl (b_info ZB)
    · have hn := inR_out (show inR n 1 9 = true from hc)
      obtain ⟨j, rfl⟩ : ∃ j : Nat, n = (j : Int) := ⟨n.toNat, by omega⟩
      have hj : j < 10 := by omega
      have hj0 : (0 : Int) ≤ (j : Int) := by omega
      have hj1 : (j : Int) < 10 := by omega
      clear h ih hc hk0 hk6
      obtain ⟨X, hX⟩ : ∃ X, Hid ((W.alloc (.cells #[.int .i64 2, .int .i64 (j : Int), .slice a 0 cap] 62)).alloc (.cells #[.bool false, .bool false, .bool false, .bool false, .bool false, .bool false, .bool false, .bool false, .bool false, .bool false] 85) = X) := ⟨_, rfl⟩
      have HX : Hid (Below W.heap.size W X) := by show Below _ _ _; rw [← hX.out]; exact ((Below.refl _ _).alloc (Nat.le_refl _) _).alloc (by simp) _
      have RX : Hid (X.rowIs W.heap.size 62 3 (rowF [.int .i64 2, .int .i64 (j : Int), .slice a 0 cap])) := by rw [← hX.out]; exact (row_of W #[.int .i64 2, .int .i64 (j : Int), .slice a 0 cap] _).alloc _
      have HZ : Hid (X.heap[W.heap.size + 1]? = some (.cells #[.bool false, .bool false, .bool false, .bool false, .bool false, .bool false, .bool false, .bool false, .bool false, .bool false] 85 (0, 0))) := by
        show _ = _
        have q := heap_alloc_last (W.alloc (.cells #[.int .i64 2, .int .i64 (j : Int), .slice a 0 cap] 62)) (.cells #[.bool false, .bool false, .bool false, .bool false, .bool false, .bool false, .bool false, .bool false, .bool false, .bool false] 85)
        rw [show (W.alloc (.cells #[.int .i64 2, .int .i64 (j : Int), .slice a 0 cap] 62)).heap.size = W.heap.size + 1 by simp] at q
        rw [← hX.out]; exact q
      have x0 : X.cell? ⟨W.heap.size, 0, none⟩ = some (.int .i64 2) := RX.out.cell (i := 0) (by decide)
      have x1 : X.cell? ⟨W.heap.size, 1, none⟩ = some (.int .i64 (j : Int)) := RX.out.cell (i := 1) (by decide)
      have x2 : X.cell? ⟨W.heap.size, 2, none⟩ = some (.slice a 0 cap) := RX.out.cell (i := 2) (by decide)
      have xl := RX.out.lt
      have XS : Hid (X.heap.size = W.heap.size + 2) := by show _ = _; rw [← hX.out]; simp
      go_enter Try.func44, Try.ntmps44
      go_upto_region 1 with fail
      rw [hX.out]
      clear hX
      have RY : Hid ((X.alloc (.cells #[.bool false, .bool false, .bool false, .bool false, .bool false, .bool false, .bool false, .bool false, .bool false, .bool false] 85)).rowIs X.heap.size 85 10 (fun _ => .bool false)) := falsesB X 85
      have HZY : Hid ((X.alloc (.cells #[.bool false, .bool false, .bool false, .bool false, .bool false, .bool false, .bool false, .bool false, .bool false, .bool false] 85)).heap[W.heap.size + 1]? = some (.cells #[.bool false, .bool false, .bool false, .bool false, .bool false, .bool false, .bool false, .bool false, .bool false, .bool false] 85 (0, 0))) := (((Below.refl X.heap.size X).alloc (Nat.le_refl _) (.cells #[.bool false, .bool false, .bool false, .bool false, .bool false, .bool false, .bool false, .bool false, .bool false, .bool false] 85)).block (W.heap.size + 1) (by have := XS.out; omega)).trans HZ.out
      have HY : Hid (Below W.heap.size W (X.alloc (.cells #[.bool false, .bool false, .bool false, .bool false, .bool false, .bool false, .bool false, .bool false, .bool false, .bool false] 85))) := HX.out.alloc HX.out.size _
      have y0 := (((Below.refl X.heap.size X).alloc (Nat.le_refl _) (.cells #[.bool false, .bool false, .bool false, .bool false, .bool false, .bool false, .bool false, .bool false, .bool false, .bool false] 85)).cell (p := ⟨W.heap.size, 1, none⟩) xl).trans x1
      have t0 := RY.out.cell (i := j) hj
      have tf := RY.out.frozen j
      have tl := RY.out.lt
      go_upto_region 4 with fail
      obtain ⟨Y, hY⟩ : ∃ Y, Hid (X.alloc (.cells #[.bool false, .bool false, .bool false, .bool false, .bool false, .bool false, .bool false, .bool false, .bool false, .bool false] 85) = Y) := ⟨_, rfl⟩
      rw [hY.out] at RY HZY HY y0 t0 tf tl ⊢
      clear hY
      go_upto_region 5 with fail
      have hxy : X.heap.size ≠ W.heap.size + 1 := by have := XS.out; omega
      have RY2 : Hid ((Y.setCell ⟨X.heap.size, j, none⟩ (.bool true)).rowIs X.heap.size 85 10 (fun i => .bool (mayX (.leaf 2 (j : Int)) i))) := (World.rowIs.set RY.out j (.bool true)).congr (fun i hi => by
        rw [mayX]
        by_cases e : i = j
        · subst e; simp
        · simp only [if_neg e]; simp; omega)
      have HZ2 : Hid ((Y.setCell ⟨X.heap.size, j, none⟩ (.bool true)).heap[W.heap.size + 1]? = some (.cells #[.bool false, .bool false, .bool false, .bool false, .bool false, .bool false, .bool false, .bool false, .bool false, .bool false] 85 (0, 0))) := (Below.heap_setCell _ _ _ _ (by show W.heap.size + 1 ≠ X.heap.size; omega)).trans HZY.out
      have HY2 : Hid (Below W.heap.size W (Y.setCell ⟨X.heap.size, j, none⟩ (.bool true))) := HY.out.setCell (by show W.heap.size ≤ X.heap.size; have := XS.out; omega) _
      obtain ⟨c, hcc, hg⟩ := row_b RY2.out
      have HC : Hid (IsB c (mayX (.leaf 2 (j : Int)))) := hcc
      have HG : Hid ((Y.setCell ⟨X.heap.size, j, none⟩ (.bool true)).heap[X.heap.size]? = some (.cells c 85 (0, 0))) := hg
      clear hcc hg RY RY2 t0 tf tl y0
      obtain ⟨V, hV⟩ : ∃ V, Hid (Y.setCell ⟨X.heap.size, j, none⟩ (.bool true) = V) := ⟨_, rfl⟩
      rw [hV.out] at HZ2 HY2 HG ⊢
      go_wp2_with (first
        | (refine wpList_load_row rfl 85 _ rfl X.heap.size rfl 85 c (0, 0) _ HG.out Try.underlying85 rfl (b_info HC.out) ?_)
        | (refine wpList_store_row rfl 85 _ _ rfl (W.heap.size + 1) c rfl rfl 85 #[.bool false, .bool false, .bool false, .bool false, .bool false, .bool false, .bool false, .bool false, .bool false, .bool false] HZ2.out (b_info HC.out) (zero_b.size.trans HC.out.size.symm) HC.out.one ?_)
        | go_in)
      (try simp only [Exit.inBlock, Exit.then])
      refine bodyPost_ret (v := .agg c) ?_ rfl ⟨c, HC.out, rfl, below_setRow HY2.out (by omega) _⟩
      exact results_cell_row rfl _ _ (W.heap.size + 1) 85 c (0, 0) _ rfl (setRow_heap _ _ _ _ _ _ HZ2.out) Try.underlying85 rfl (b_info HC.out)
  | one k n s =>
    obtain ⟨hc, hk1, hws⟩ := hw
    have hk6 := cellX_kind hc
    have hk : k = 6 := by
      rcases (show k = 1 ∨ k = 2 ∨ k = 3 ∨ k = 4 ∨ k = 5 ∨ k = 6 by omega) with e | e | e | e | e | e
      · rw [e] at hk1; exact absurd hk1 (by decide)
      · rw [e] at hk1; exact absurd hk1 (by decide)
      · rw [e] at hk1; exact absurd hk1 (by decide)
      · rw [e] at hk1; exact absurd hk1 (by decide)
      · rw [e] at hk1; exact absurd hk1 (by decide)
      · exact e
    subst hk
    have hn := inR_out (show inR n 0 5 = true from hc)
    show Calls _ _ #[.agg #[.int .i64 6, .int .i64 n, .slice a 1 cap]] W _
    by_cases hn0 : n = 0
    · subst hn0
      have ZB : IsB #[.bool false, .bool false, .bool false, .bool false, .bool false, .bool false, .bool false, .bool false, .bool false, .bool false] (mayX (.one 6 0 s)) := zero_b.congr (fun i _ => by rw [mayX]; simp)
      clear h ih hc hk1 hk6
      obtain ⟨X, hX⟩ : ∃ X, Hid ((W.alloc (.cells #[.int .i64 6, .int .i64 0, .slice a 1 cap] 62)).alloc (.cells #[.bool false, .bool false, .bool false, .bool false, .bool false, .bool false, .bool false, .bool false, .bool false, .bool false] 85) = X) := ⟨_, rfl⟩
      have HX : Hid (Below W.heap.size W X) := by show Below _ _ _; rw [← hX.out]; exact ((Below.refl _ _).alloc (Nat.le_refl _) _).alloc (by simp) _
      have RX : Hid (X.rowIs W.heap.size 62 3 (rowF [.int .i64 6, .int .i64 0, .slice a 1 cap])) := by rw [← hX.out]; exact (row_of W #[.int .i64 6, .int .i64 0, .slice a 1 cap] _).alloc _
      have HZ : Hid (X.heap[W.heap.size + 1]? = some (.cells #[.bool false, .bool false, .bool false, .bool false, .bool false, .bool false, .bool false, .bool false, .bool false, .bool false] 85 (0, 0))) := by
        show _ = _
        have q := heap_alloc_last (W.alloc (.cells #[.int .i64 6, .int .i64 0, .slice a 1 cap] 62)) (.cells #[.bool false, .bool false, .bool false, .bool false, .bool false, .bool false, .bool false, .bool false, .bool false, .bool false] 85)
        rw [show (W.alloc (.cells #[.int .i64 6, .int .i64 0, .slice a 1 cap] 62)).heap.size = W.heap.size + 1 by simp] at q
        rw [← hX.out]; exact q
      have x0 : X.cell? ⟨W.heap.size, 0, none⟩ = some (.int .i64 6) := RX.out.cell (i := 0) (by decide)
      have x1 : X.cell? ⟨W.heap.size, 1, none⟩ = some (.int .i64 0) := RX.out.cell (i := 1) (by decide)
      have x2 : X.cell? ⟨W.heap.size, 2, none⟩ = some (.slice a 1 cap) := RX.out.cell (i := 2) (by decide)
      have xl := RX.out.lt
      have XS : Hid (X.heap.size = W.heap.size + 2) := by show _ = _; rw [← hX.out]; simp
      go_enter Try.func44, Try.ntmps44
      go_upto_region 1 with fail
      rw [hX.out]
      clear hX
      go_wp2_with (first | (refine wpList_store_row rfl 85 _ _ rfl (W.heap.size + 1) #[.bool false, .bool false, .bool false, .bool false, .bool false, .bool false, .bool false, .bool false, .bool false, .bool false] rfl rfl 85 #[.bool false, .bool false, .bool false, .bool false, .bool false, .bool false, .bool false, .bool false, .bool false, .bool false] HZ.out (b_info zero_b) (zero_b.size.trans zero_b.size.symm) zero_b.one ?_) | go_in)
      (try simp only [Exit.inBlock, Exit.then])
      refine bodyPost_ret (v := .agg #[.bool false, .bool false, .bool false, .bool false, .bool false, .bool false, .bool false, .bool false, .bool false, .bool false]) ?_ rfl ⟨#[.bool false, .bool false, .bool false, .bool false, .bool false, .bool false, .bool false, .bool false, .bool false, .bool false], ZB, rfl, below_setRow HX.out (by omega) _⟩
      exact results_cell_row rfl _ _ (W.heap.size + 1) 85 #[.bool false, .bool false, .bool false, .bool false, .bool false, .bool false, .bool false, .bool false, .bool false, .bool false] (0, 0) _ rfl (setRow_heap _ _ _ _ _ _ HZ.out) Try.underlying85 rfl (b_info ZB)
    · have d1 : decide (n > 0) = true := decide_eq_true (by omega)
      have d2 : decide (0 < n) = true := decide_eq_true (by omega)
      obtain ⟨X, hX⟩ : ∃ X, Hid ((W.alloc (.cells #[.int .i64 6, .int .i64 n, .slice a 1 cap] 62)).alloc (.cells #[.bool false, .bool false, .bool false, .bool false, .bool false, .bool false, .bool false, .bool false, .bool false, .bool false] 85) = X) := ⟨_, rfl⟩
      have HX : Hid (Below W.heap.size W X) := by show Below _ _ _; rw [← hX.out]; exact ((Below.refl _ _).alloc (Nat.le_refl _) _).alloc (by simp) _
      have RX : Hid (X.rowIs W.heap.size 62 3 (rowF [.int .i64 6, .int .i64 n, .slice a 1 cap])) := by rw [← hX.out]; exact (row_of W #[.int .i64 6, .int .i64 n, .slice a 1 cap] _).alloc _
      have HZ : Hid (X.heap[W.heap.size + 1]? = some (.cells #[.bool false, .bool false, .bool false, .bool false, .bool false, .bool false, .bool false, .bool false, .bool false, .bool false] 85 (0, 0))) := by
        show _ = _
        have q := heap_alloc_last (W.alloc (.cells #[.int .i64 6, .int .i64 n, .slice a 1 cap] 62)) (.cells #[.bool false, .bool false, .bool false, .bool false, .bool false, .bool false, .bool false, .bool false, .bool false, .bool false] 85)
        rw [show (W.alloc (.cells #[.int .i64 6, .int .i64 n, .slice a 1 cap] 62)).heap.size = W.heap.size + 1 by simp] at q
        rw [← hX.out]; exact q
      have x0 : X.cell? ⟨W.heap.size, 0, none⟩ = some (.int .i64 6) := RX.out.cell (i := 0) (by decide)
      have x1 : X.cell? ⟨W.heap.size, 1, none⟩ = some (.int .i64 n) := RX.out.cell (i := 1) (by decide)
      have x2 : X.cell? ⟨W.heap.size, 2, none⟩ = some (.slice a 1 cap) := RX.out.cell (i := 2) (by decide)
      have xl := RX.out.lt
      have XS : Hid (X.heap.size = W.heap.size + 2) := by show _ = _; rw [← hX.out]; simp
      obtain ⟨b, o, la, lc, hab, hb, c0, c1, c2, hq⟩ := kid_zero (t := .one 6 n s) h.out HX.out (show 0 < 1 by decide)
      subst hab
      have ih0 := ih 0 (show 0 < 1 by decide) hws X la lc hq
      have hbX : b < X.heap.size := by have := HX.out.size; omega
      rw [show XT.kid (.one 6 n s) 0 = s from rfl] at c0 c1 c2 ih0
      clear hq h ih
      generalize s.kind = k2 at c0 ih0
      generalize s.num = n2 at c1 ih0
      generalize s.kids.length = l2 at c2 ih0
      go_enter Try.func44, Try.ntmps44
      go_upto_region 1 with fail
      rw [hX.out]
      clear hX
      have HMX : Hid (∀ c, IsB c (mayX s) → IsB c (mayX (.one 6 n s))) := fun c q => q.congr (fun i _ => by rw [mayX, d2, Bool.true_and])
      go_wp2_with (first
        | (go_at_call 44; refine ih0.mono ?_; rintro e w2 ⟨c, hcc, rfl, hB⟩; have HC : Hid (IsB c (mayX (.one 6 n s))) := HMX.out c hcc; have HB : Hid (Below X.heap.size X w2) := hB; have HZ2 : Hid (w2.heap[W.heap.size + 1]? = some (.cells #[.bool false, .bool false, .bool false, .bool false, .bool false, .bool false, .bool false, .bool false, .bool false, .bool false] 85 (0, 0))) := (hB.block (W.heap.size + 1) (by have := XS.out; omega)).trans HZ.out; clear hB hcc)
        | (refine wpList_store_row rfl 85 _ _ rfl (W.heap.size + 1) c rfl rfl 85 #[.bool false, .bool false, .bool false, .bool false, .bool false, .bool false, .bool false, .bool false, .bool false, .bool false] HZ2.out (b_info HC.out) (zero_b.size.trans HC.out.size.symm) HC.out.one ?_)
        | go_in)
      (try simp only [Exit.inBlock, Exit.then])
      refine bodyPost_ret (v := .agg c) ?_ rfl ⟨c, HC.out, rfl, below_setRow (HX.out.trans (HB.out.mono HX.out.size)) (by omega) _⟩
      exact results_cell_row rfl _ _ (W.heap.size + 1) 85 c (0, 0) _ rfl (setRow_heap _ _ _ _ _ _ HZ2.out) Try.underlying85 rfl (b_info HC.out)
  | two k n s1 s2 =>
    obtain ⟨hc, hk2, hw1, hw2⟩ := hw
    have hk6 := cellX_kind hc
    show Calls _ _ #[.agg #[.int .i64 k, .int .i64 n, .slice a 2 cap]] W _
    obtain ⟨X, hX⟩ : ∃ X, Hid ((W.alloc (.cells #[.int .i64 k, .int .i64 n, .slice a 2 cap] 62)).alloc (.cells #[.bool false, .bool false, .bool false, .bool false, .bool false, .bool false, .bool false, .bool false, .bool false, .bool false] 85) = X) := ⟨_, rfl⟩
    have HX : Hid (Below W.heap.size W X) := by show Below _ _ _; rw [← hX.out]; exact ((Below.refl _ _).alloc (Nat.le_refl _) _).alloc (by simp) _
    have RX : Hid (X.rowIs W.heap.size 62 3 (rowF [.int .i64 k, .int .i64 n, .slice a 2 cap])) := by rw [← hX.out]; exact (row_of W #[.int .i64 k, .int .i64 n, .slice a 2 cap] _).alloc _
    have HZ : Hid (X.heap[W.heap.size + 1]? = some (.cells #[.bool false, .bool false, .bool false, .bool false, .bool false, .bool false, .bool false, .bool false, .bool false, .bool false] 85 (0, 0))) := by
      show _ = _
      have q := heap_alloc_last (W.alloc (.cells #[.int .i64 k, .int .i64 n, .slice a 2 cap] 62)) (.cells #[.bool false, .bool false, .bool false, .bool false, .bool false, .bool false, .bool false, .bool false, .bool false, .bool false] 85)
      rw [show (W.alloc (.cells #[.int .i64 k, .int .i64 n, .slice a 2 cap] 62)).heap.size = W.heap.size + 1 by simp] at q
      rw [← hX.out]; exact q
    have x0 : X.cell? ⟨W.heap.size, 0, none⟩ = some (.int .i64 k) := RX.out.cell (i := 0) (by decide)
    have x1 : X.cell? ⟨W.heap.size, 1, none⟩ = some (.int .i64 n) := RX.out.cell (i := 1) (by decide)
    have x2 : X.cell? ⟨W.heap.size, 2, none⟩ = some (.slice a 2 cap) := RX.out.cell (i := 2) (by decide)
    have xl := RX.out.lt
    have XS : Hid (X.heap.size = W.heap.size + 2) := by show _ = _; rw [← hX.out]; simp
    obtain ⟨b, o, la, lc, hab, hb, c0, c1, c2, hq⟩ := kid_zero (t := .two k n s1 s2) h.out HX.out (show 0 < 2 by decide)
    subst hab
    obtain ⟨la1, lc1, e0, e1, e2, hq1⟩ := kid_one (t := .two k n s1 s2) h.out HX.out (show 1 < 2 by decide)
    have ih0 : Hid (∀ w, Below X.heap.size X w → Calls Try.prog 44 #[.agg #[.int .i64 (XT.kid (.two k n s1 s2) 0).kind, .int .i64 (XT.kid (.two k n s1 s2) 0).num, .slice la (XT.kid (.two k n s1 s2) 0).kids.length lc]] w fun e W' => ∃ c, IsB c (mayX (XT.kid (.two k n s1 s2) 0)) ∧ e = .returned (.agg c) ∧ Below w.heap.size w W') := fun w hb => ih 0 (show 0 < 2 by decide) hw1 w la lc (hq.kept hb)
    have ih1 : Hid (∀ w, Below X.heap.size X w → Calls Try.prog 44 #[.agg #[.int .i64 (XT.kid (.two k n s1 s2) 1).kind, .int .i64 (XT.kid (.two k n s1 s2) 1).num, .slice la1 (XT.kid (.two k n s1 s2) 1).kids.length lc1]] w fun e W' => ∃ c, IsB c (mayX (XT.kid (.two k n s1 s2) 1)) ∧ e = .returned (.agg c) ∧ Below w.heap.size w W') := fun w hb => ih 1 (show 1 < 2 by decide) hw2 w la1 lc1 (hq1.kept hb)
    have hbX : b < X.heap.size := by have := HX.out.size; omega
    rw [show XT.kid (.two k n s1 s2) 0 = s1 from rfl] at c0 c1 c2 ih0
    rw [show XT.kid (.two k n s1 s2) 1 = s2 from rfl] at e0 e1 e2 ih1
    clear hq hq1 h ih
    generalize s1.kind = k2 at c0 ih0
    generalize s1.num = n2 at c1 ih0
    generalize s1.kids.length = l2 at c2 ih0
    generalize s2.kind = k3 at e0 ih1
    generalize s2.num = n3 at e1 ih1
    generalize s2.kids.length = l3 at e2 ih1
    have hXS := XS.out
    have BD : Hid (Below X.heap.size X X.drew) := (Below.refl X.heap.size X).drew
    have q0 : X.cell? ⟨W.heap.size, 2, none⟩ = some (.slice (some ⟨b, o, none⟩) 2 cap) ∧ X.cell? ⟨b, o, none⟩ = some (.int .i64 k2) ∧ X.cell? ⟨b, o + 1, none⟩ = some (.int .i64 n2) ∧ X.cell? ⟨b, o + 2, none⟩ = some (.slice la l2 lc) ∧ X.cell? ⟨b, o + 3, none⟩ = some (.int .i64 k3) ∧ X.cell? ⟨b, o + 3 + 1, none⟩ = some (.int .i64 n3) ∧ X.cell? ⟨b, o + 3 + 2, none⟩ = some (.slice la1 l3 lc1) := ⟨x2, c0, c1, c2, e0, e1, e2⟩
    have q1 : X.drew.cell? ⟨W.heap.size, 2, none⟩ = some (.slice (some ⟨b, o, none⟩) 2 cap) ∧ X.drew.cell? ⟨b, o, none⟩ = some (.int .i64 k2) ∧ X.drew.cell? ⟨b, o + 1, none⟩ = some (.int .i64 n2) ∧ X.drew.cell? ⟨b, o + 2, none⟩ = some (.slice la l2 lc) ∧ X.drew.cell? ⟨b, o + 3, none⟩ = some (.int .i64 k3) ∧ X.drew.cell? ⟨b, o + 3 + 1, none⟩ = some (.int .i64 n3) ∧ X.drew.cell? ⟨b, o + 3 + 2, none⟩ = some (.slice la1 l3 lc1) := ⟨x2, c0, c1, c2, e0, e1, e2⟩
    have HK : Hid (∀ w, Below X.heap.size X w → w.cell? ⟨W.heap.size, 2, none⟩ = some (.slice (some ⟨b, o, none⟩) 2 cap) ∧ w.cell? ⟨b, o, none⟩ = some (.int .i64 k2) ∧ w.cell? ⟨b, o + 1, none⟩ = some (.int .i64 n2) ∧ w.cell? ⟨b, o + 2, none⟩ = some (.slice la l2 lc) ∧ w.cell? ⟨b, o + 3, none⟩ = some (.int .i64 k3) ∧ w.cell? ⟨b, o + 3 + 1, none⟩ = some (.int .i64 n3) ∧ w.cell? ⟨b, o + 3 + 2, none⟩ = some (.slice la1 l3 lc1)) := fun w hB => two_agree q0 (hB.block _ xl) (hB.block _ hbX)
    have HKR : Hid (∀ w c, Below X.heap.size X w → (w.setRow (W.heap.size + 1) c).cell? ⟨W.heap.size, 2, none⟩ = some (.slice (some ⟨b, o, none⟩) 2 cap) ∧ (w.setRow (W.heap.size + 1) c).cell? ⟨b, o, none⟩ = some (.int .i64 k2) ∧ (w.setRow (W.heap.size + 1) c).cell? ⟨b, o + 1, none⟩ = some (.int .i64 n2) ∧ (w.setRow (W.heap.size + 1) c).cell? ⟨b, o + 2, none⟩ = some (.slice la l2 lc) ∧ (w.setRow (W.heap.size + 1) c).cell? ⟨b, o + 3, none⟩ = some (.int .i64 k3) ∧ (w.setRow (W.heap.size + 1) c).cell? ⟨b, o + 3 + 1, none⟩ = some (.int .i64 n3) ∧ (w.setRow (W.heap.size + 1) c).cell? ⟨b, o + 3 + 2, none⟩ = some (.slice la1 l3 lc1)) := fun w c hB => two_agree (HK.out w hB) (setRow_other _ _ _ _ (by omega)) (setRow_other _ _ _ _ (by omega))
    have HZW : Hid (∀ w, Below X.heap.size X w → w.heap[W.heap.size + 1]? = some (.cells #[.bool false, .bool false, .bool false, .bool false, .bool false, .bool false, .bool false, .bool false, .bool false, .bool false] 85 (0, 0))) := fun w hB => (hB.block (W.heap.size + 1) (by omega)).trans HZ.out
    by_cases hk4 : k = 4
    rotate_left
    · have hk35 : k = 3 ∨ k = 5 := by
        rcases (show k = 1 ∨ k = 2 ∨ k = 3 ∨ k = 4 ∨ k = 5 ∨ k = 6 by omega) with e | e | e | e | e | e
        · rw [e] at hk2; exact absurd hk2 (by decide)
        · rw [e] at hk2; exact absurd hk2 (by decide)
        · exact Or.inl e
        · exact absurd e hk4
        · exact Or.inr e
        · rw [e] at hk2; exact absurd hk2 (by decide)
      have HMX : Hid (∀ c, IsB c (fun i => mayX s1 i || mayX s2 i) → IsB c (mayX (.two k n s1 s2))) := fun c q => q.congr (fun i _ => by rw [mayX, if_neg hk4])
      clear hk2 hk6 hc hk4
      rcases hk35 with rfl | rfl
      · skip
        go_enter Try.func44, Try.ntmps44
        go_upto_region 1 with fail
        rw [hX.out]
        clear hX
        go_upto_region 8 with fail
        refine wp_region_noPanic ?_
        refine wp_region_held_drew (S := (fun w' => w'.cell? ⟨W.heap.size, 2, none⟩ = some (.slice (some ⟨b, o, none⟩) 2 cap) ∧ w'.cell? ⟨b, o, none⟩ = some (.int .i64 k2) ∧ w'.cell? ⟨b, o + 1, none⟩ = some (.int .i64 n2) ∧ w'.cell? ⟨b, o + 2, none⟩ = some (.slice la l2 lc) ∧ w'.cell? ⟨b, o + 3, none⟩ = some (.int .i64 k3) ∧ w'.cell? ⟨b, o + 3 + 1, none⟩ = some (.int .i64 n3) ∧ w'.cell? ⟨b, o + 3 + 2, none⟩ = some (.slice la1 l3 lc1))) (by kernel_rfl) ?_ (fun hHeld => ?_)
        · (try dsimp only); exact q1
        refine wpAnyH_take (i := 0) (v := ?v1) rfl (by kernel_rfl) (by kernel_rfl) (by kernel_rfl) (fun _ _ _ h => h) (Or.inl ⟨by rfl, ?hy1⟩) (by assumption) ?_
        case hy1 => (intro w hSw; (try dsimp only at hSw); go_simp; try with_reducible rfl)
        try simp only [Act.put, List.setIfInBounds_toArray, List.set_cons_zero, List.set_cons_succ, List.getElem_toArray, List.getElem_cons_zero, List.getElem_cons_succ]
        refine wpAnyH_take (i := 1) (v := ?v2) rfl (by kernel_rfl) (by kernel_rfl) (by kernel_rfl) (fun _ _ _ h => h) (Or.inl ⟨by rfl, ?hy2⟩) (by assumption) ?_
        case hy2 => (intro w hSw; (try dsimp only at hSw); go_simp; try with_reducible rfl)
        try simp only [Act.put, List.setIfInBounds_toArray, List.set_cons_zero, List.set_cons_succ, List.getElem_toArray, List.getElem_cons_zero, List.getElem_cons_succ]
        refine wpAnyH_take (i := 2) (v := ?v3) rfl (by kernel_rfl) (by kernel_rfl) (by kernel_rfl) (fun _ _ _ h => h) (Or.inl ⟨by rfl, ?hy3⟩) (by assumption) ?_
        case hy3 => (intro w hSw; (try dsimp only at hSw); go_simp; try with_reducible rfl)
        try simp only [Act.put, List.setIfInBounds_toArray, List.set_cons_zero, List.set_cons_succ, List.getElem_toArray, List.getElem_cons_zero, List.getElem_cons_succ]
        refine wpAnyH_take (i := 3) (v := ?v4) rfl (by kernel_rfl) (by kernel_rfl) (by kernel_rfl) (fun _ _ _ h => h) (Or.inl ⟨by rfl, ?hy4⟩) (by assumption) ?_
        case hy4 => (intro w hSw; (try dsimp only at hSw); go_simp; try with_reducible rfl)
        try simp only [Act.put, List.setIfInBounds_toArray, List.set_cons_zero, List.set_cons_succ, List.getElem_toArray, List.getElem_cons_zero, List.getElem_cons_succ]
        refine wpAnyH_take (i := 5) (v := ?v5) rfl (by kernel_rfl) (by kernel_rfl) (by kernel_rfl) (fun _ _ _ h => h) (Or.inl ⟨by rfl, ?hy5⟩) (by assumption) ?_
        case hy5 => (intro w hSw; (try dsimp only at hSw); go_simp; try with_reducible rfl)
        try simp only [Act.put, List.setIfInBounds_toArray, List.set_cons_zero, List.set_cons_succ, List.getElem_toArray, List.getElem_cons_zero, List.getElem_cons_succ]
        refine wpAnyH_take (i := 6) (v := ?v6) rfl (by kernel_rfl) (by kernel_rfl) (by kernel_rfl) (fun _ _ _ h => h) (Or.inl ⟨by rfl, ?hy6⟩) (by assumption) ?_
        case hy6 => (intro w hSw; (try dsimp only at hSw); go_simp; try with_reducible rfl)
        try simp only [Act.put, List.setIfInBounds_toArray, List.set_cons_zero, List.set_cons_succ, List.getElem_toArray, List.getElem_cons_zero, List.getElem_cons_succ]
        refine wpAnyH_take (i := 7) (v := ?v7) rfl (by kernel_rfl) (by kernel_rfl) (by kernel_rfl) (fun _ _ _ h => h) (Or.inl ⟨by rfl, ?hy7⟩) (by assumption) ?_
        case hy7 => (intro w hSw; (try dsimp only at hSw); go_simp; try with_reducible rfl)
        try simp only [Act.put, List.setIfInBounds_toArray, List.set_cons_zero, List.set_cons_succ, List.getElem_toArray, List.getElem_cons_zero, List.getElem_cons_succ]
        refine wpAnyH_take (i := 8) (v := ?v8) rfl (by kernel_rfl) (by kernel_rfl) (by kernel_rfl) (fun _ _ _ h => h) (Or.inl ⟨by rfl, ?hy8⟩) (by assumption) ?_
        case hy8 => (intro w hSw; (try dsimp only at hSw); go_simp; try with_reducible rfl)
        try simp only [Act.put, List.setIfInBounds_toArray, List.set_cons_zero, List.set_cons_succ, List.getElem_toArray, List.getElem_cons_zero, List.getElem_cons_succ]
        refine wpAnyH_ready (rs := [4]) (by kernel_rfl) (by simp) ?_
        refine AllReadyH.cons rfl (fun K hK => ?_) AllReadyH.nil
        go_simp
        refine (ih0.out _ BD.out).mono ?_; rintro e w2 ⟨d1, hd1, rfl, hB⟩; have HD1 : Hid (IsB d1 (mayX s1)) := hd1; have B2 : Hid (Below X.heap.size X w2) := BD.out.trans (hB.mono BD.out.size); clear hB hd1; go_wp2_with fail
        refine hK.out _ _ ?_ (fun hHeld => ?_)
        · (try dsimp only); exact HK.out _ B2.out
        clear hK K
        try simp only [Act.put, List.setIfInBounds_toArray, List.set_cons_zero, List.set_cons_succ, List.getElem_toArray, List.getElem_cons_zero, List.getElem_cons_succ]
        refine wpAnyH_ready (rs := [9]) (by kernel_rfl) (by simp) ?_
        refine AllReadyH.cons rfl (fun K hK => ?_) AllReadyH.nil
        go_simp
        refine (ih1.out _ B2.out).mono ?_; rintro e w3 ⟨d2, hd2, rfl, hB⟩; have HD2 : Hid (IsB d2 (mayX s2)) := hd2; have B3 : Hid (Below X.heap.size X w3) := B2.out.trans (hB.mono B2.out.size); clear hB hd2; go_wp2_with fail
        refine hK.out _ _ ?_ (fun hHeld => ?_)
        · (try dsimp only); exact HK.out _ B3.out
        clear hK K
        try simp only [Act.put, List.setIfInBounds_toArray, List.set_cons_zero, List.set_cons_succ, List.getElem_toArray, List.getElem_cons_zero, List.getElem_cons_succ]
        refine wpAnyH_ready (rs := [10]) (by kernel_rfl) (by simp) ?_
        refine AllReadyH.cons rfl (fun K hK => ?_) AllReadyH.nil
        go_simp
        refine (impl_and16 d1 d2 _ _ w3 HD1 HD2).mono ?_; rintro e w4 ⟨d3, hd3, rfl, hB⟩; have HD3 : Hid (IsB d3 (fun i => mayX s1 i || mayX s2 i)) := hd3; have B4 : Hid (Below X.heap.size X w4) := B3.out.trans (hB.mono B3.out.size); clear hB hd3; go_wp2_with fail
        refine hK.out _ _ ?_ (fun hHeld => ?_)
        · (try dsimp only); exact HK.out _ B4.out
        clear hK K
        try simp only [Act.put, List.setIfInBounds_toArray, List.set_cons_zero, List.set_cons_succ, List.getElem_toArray, List.getElem_cons_zero, List.getElem_cons_succ]
        refine wpAnyH_ready (rs := [11]) (by kernel_rfl) (by simp) ?_
        refine AllReadyH.cons rfl (fun K hK => ?_) AllReadyH.nil
        rw [if_pos (by rfl)]
        refine wp_store_row 85 _ _ rfl (W.heap.size + 1) d3 rfl rfl 85 #[.bool false, .bool false, .bool false, .bool false, .bool false, .bool false, .bool false, .bool false, .bool false, .bool false] (HZW.out w4 B4.out) (b_info HD3.out) (zero_b.size.trans HD3.out.size.symm) HD3.out.one ?_
        refine hK.out _ _ ?_ (fun hHeld => ?_)
        · (try dsimp only); exact HKR.out _ _ B4.out
        clear hK K
        try simp only [Act.put, List.setIfInBounds_toArray, List.set_cons_zero, List.set_cons_succ, List.getElem_toArray, List.getElem_cons_zero, List.getElem_cons_succ]
        refine wpAnyH_done (by kernel_rfl) ?_ _
        refine NoPanic.normal ?_
        go_wp2
        (try simp only [Exit.inBlock, Exit.then])
        refine bodyPost_ret (v := .agg d3) ?_ rfl ⟨d3, (HMX.out _ HD3.out), rfl, below_setRow (HX.out.trans (B4.out.mono HX.out.size)) (by omega) _⟩
        exact results_cell_row rfl _ _ (W.heap.size + 1) 85 d3 (0, 0) _ rfl (setRow_heap _ _ _ _ _ _ (HZW.out w4 B4.out)) Try.underlying85 rfl (b_info (HMX.out _ HD3.out))
      · skip
        go_enter Try.func44, Try.ntmps44
        go_upto_region 1 with fail
        rw [hX.out]
        clear hX
        go_upto_region 8 with fail
        refine wp_region_noPanic ?_
        refine wp_region_held_drew (S := (fun w' => w'.cell? ⟨W.heap.size, 2, none⟩ = some (.slice (some ⟨b, o, none⟩) 2 cap) ∧ w'.cell? ⟨b, o, none⟩ = some (.int .i64 k2) ∧ w'.cell? ⟨b, o + 1, none⟩ = some (.int .i64 n2) ∧ w'.cell? ⟨b, o + 2, none⟩ = some (.slice la l2 lc) ∧ w'.cell? ⟨b, o + 3, none⟩ = some (.int .i64 k3) ∧ w'.cell? ⟨b, o + 3 + 1, none⟩ = some (.int .i64 n3) ∧ w'.cell? ⟨b, o + 3 + 2, none⟩ = some (.slice la1 l3 lc1))) (by kernel_rfl) ?_ (fun hHeld => ?_)
        · (try dsimp only); exact q1
        refine wpAnyH_take (i := 0) (v := ?v9) rfl (by kernel_rfl) (by kernel_rfl) (by kernel_rfl) (fun _ _ _ h => h) (Or.inl ⟨by rfl, ?hy9⟩) (by assumption) ?_
        case hy9 => (intro w hSw; (try dsimp only at hSw); go_simp; try with_reducible rfl)
        try simp only [Act.put, List.setIfInBounds_toArray, List.set_cons_zero, List.set_cons_succ, List.getElem_toArray, List.getElem_cons_zero, List.getElem_cons_succ]
        refine wpAnyH_take (i := 1) (v := ?v10) rfl (by kernel_rfl) (by kernel_rfl) (by kernel_rfl) (fun _ _ _ h => h) (Or.inl ⟨by rfl, ?hy10⟩) (by assumption) ?_
        case hy10 => (intro w hSw; (try dsimp only at hSw); go_simp; try with_reducible rfl)
        try simp only [Act.put, List.setIfInBounds_toArray, List.set_cons_zero, List.set_cons_succ, List.getElem_toArray, List.getElem_cons_zero, List.getElem_cons_succ]
        refine wpAnyH_take (i := 2) (v := ?v11) rfl (by kernel_rfl) (by kernel_rfl) (by kernel_rfl) (fun _ _ _ h => h) (Or.inl ⟨by rfl, ?hy11⟩) (by assumption) ?_
        case hy11 => (intro w hSw; (try dsimp only at hSw); go_simp; try with_reducible rfl)
        try simp only [Act.put, List.setIfInBounds_toArray, List.set_cons_zero, List.set_cons_succ, List.getElem_toArray, List.getElem_cons_zero, List.getElem_cons_succ]
        refine wpAnyH_take (i := 3) (v := ?v12) rfl (by kernel_rfl) (by kernel_rfl) (by kernel_rfl) (fun _ _ _ h => h) (Or.inl ⟨by rfl, ?hy12⟩) (by assumption) ?_
        case hy12 => (intro w hSw; (try dsimp only at hSw); go_simp; try with_reducible rfl)
        try simp only [Act.put, List.setIfInBounds_toArray, List.set_cons_zero, List.set_cons_succ, List.getElem_toArray, List.getElem_cons_zero, List.getElem_cons_succ]
        refine wpAnyH_take (i := 5) (v := ?v13) rfl (by kernel_rfl) (by kernel_rfl) (by kernel_rfl) (fun _ _ _ h => h) (Or.inl ⟨by rfl, ?hy13⟩) (by assumption) ?_
        case hy13 => (intro w hSw; (try dsimp only at hSw); go_simp; try with_reducible rfl)
        try simp only [Act.put, List.setIfInBounds_toArray, List.set_cons_zero, List.set_cons_succ, List.getElem_toArray, List.getElem_cons_zero, List.getElem_cons_succ]
        refine wpAnyH_take (i := 6) (v := ?v14) rfl (by kernel_rfl) (by kernel_rfl) (by kernel_rfl) (fun _ _ _ h => h) (Or.inl ⟨by rfl, ?hy14⟩) (by assumption) ?_
        case hy14 => (intro w hSw; (try dsimp only at hSw); go_simp; try with_reducible rfl)
        try simp only [Act.put, List.setIfInBounds_toArray, List.set_cons_zero, List.set_cons_succ, List.getElem_toArray, List.getElem_cons_zero, List.getElem_cons_succ]
        refine wpAnyH_take (i := 7) (v := ?v15) rfl (by kernel_rfl) (by kernel_rfl) (by kernel_rfl) (fun _ _ _ h => h) (Or.inl ⟨by rfl, ?hy15⟩) (by assumption) ?_
        case hy15 => (intro w hSw; (try dsimp only at hSw); go_simp; try with_reducible rfl)
        try simp only [Act.put, List.setIfInBounds_toArray, List.set_cons_zero, List.set_cons_succ, List.getElem_toArray, List.getElem_cons_zero, List.getElem_cons_succ]
        refine wpAnyH_take (i := 8) (v := ?v16) rfl (by kernel_rfl) (by kernel_rfl) (by kernel_rfl) (fun _ _ _ h => h) (Or.inl ⟨by rfl, ?hy16⟩) (by assumption) ?_
        case hy16 => (intro w hSw; (try dsimp only at hSw); go_simp; try with_reducible rfl)
        try simp only [Act.put, List.setIfInBounds_toArray, List.set_cons_zero, List.set_cons_succ, List.getElem_toArray, List.getElem_cons_zero, List.getElem_cons_succ]
        refine wpAnyH_ready (rs := [4]) (by kernel_rfl) (by simp) ?_
        refine AllReadyH.cons rfl (fun K hK => ?_) AllReadyH.nil
        go_simp
        refine (ih0.out _ BD.out).mono ?_; rintro e w2 ⟨d1, hd1, rfl, hB⟩; have HD1 : Hid (IsB d1 (mayX s1)) := hd1; have B2 : Hid (Below X.heap.size X w2) := BD.out.trans (hB.mono BD.out.size); clear hB hd1; go_wp2_with fail
        refine hK.out _ _ ?_ (fun hHeld => ?_)
        · (try dsimp only); exact HK.out _ B2.out
        clear hK K
        try simp only [Act.put, List.setIfInBounds_toArray, List.set_cons_zero, List.set_cons_succ, List.getElem_toArray, List.getElem_cons_zero, List.getElem_cons_succ]
        refine wpAnyH_ready (rs := [9]) (by kernel_rfl) (by simp) ?_
        refine AllReadyH.cons rfl (fun K hK => ?_) AllReadyH.nil
        go_simp
        refine (ih1.out _ B2.out).mono ?_; rintro e w3 ⟨d2, hd2, rfl, hB⟩; have HD2 : Hid (IsB d2 (mayX s2)) := hd2; have B3 : Hid (Below X.heap.size X w3) := B2.out.trans (hB.mono B2.out.size); clear hB hd2; go_wp2_with fail
        refine hK.out _ _ ?_ (fun hHeld => ?_)
        · (try dsimp only); exact HK.out _ B3.out
        clear hK K
        try simp only [Act.put, List.setIfInBounds_toArray, List.set_cons_zero, List.set_cons_succ, List.getElem_toArray, List.getElem_cons_zero, List.getElem_cons_succ]
        refine wpAnyH_ready (rs := [10]) (by kernel_rfl) (by simp) ?_
        refine AllReadyH.cons rfl (fun K hK => ?_) AllReadyH.nil
        go_simp
        refine (impl_and16 d1 d2 _ _ w3 HD1 HD2).mono ?_; rintro e w4 ⟨d3, hd3, rfl, hB⟩; have HD3 : Hid (IsB d3 (fun i => mayX s1 i || mayX s2 i)) := hd3; have B4 : Hid (Below X.heap.size X w4) := B3.out.trans (hB.mono B3.out.size); clear hB hd3; go_wp2_with fail
        refine hK.out _ _ ?_ (fun hHeld => ?_)
        · (try dsimp only); exact HK.out _ B4.out
        clear hK K
        try simp only [Act.put, List.setIfInBounds_toArray, List.set_cons_zero, List.set_cons_succ, List.getElem_toArray, List.getElem_cons_zero, List.getElem_cons_succ]
        refine wpAnyH_ready (rs := [11]) (by kernel_rfl) (by simp) ?_
        refine AllReadyH.cons rfl (fun K hK => ?_) AllReadyH.nil
        rw [if_pos (by rfl)]
        refine wp_store_row 85 _ _ rfl (W.heap.size + 1) d3 rfl rfl 85 #[.bool false, .bool false, .bool false, .bool false, .bool false, .bool false, .bool false, .bool false, .bool false, .bool false] (HZW.out w4 B4.out) (b_info HD3.out) (zero_b.size.trans HD3.out.size.symm) HD3.out.one ?_
        refine hK.out _ _ ?_ (fun hHeld => ?_)
        · (try dsimp only); exact HKR.out _ _ B4.out
        clear hK K
        try simp only [Act.put, List.setIfInBounds_toArray, List.set_cons_zero, List.set_cons_succ, List.getElem_toArray, List.getElem_cons_zero, List.getElem_cons_succ]
        refine wpAnyH_done (by kernel_rfl) ?_ _
        refine NoPanic.normal ?_
        go_wp2
        (try simp only [Exit.inBlock, Exit.then])
        refine bodyPost_ret (v := .agg d3) ?_ rfl ⟨d3, (HMX.out _ HD3.out), rfl, below_setRow (HX.out.trans (B4.out.mono HX.out.size)) (by omega) _⟩
        exact results_cell_row rfl _ _ (W.heap.size + 1) 85 d3 (0, 0) _ rfl (setRow_heap _ _ _ _ _ _ (HZW.out w4 B4.out)) Try.underlying85 rfl (b_info (HMX.out _ HD3.out))
    · subst hk4
      have HAN0 : Hid (anyC (mayX s1) n 10 = false → ∀ c, IsB c (fun i => wo (mayX s1) n i) → IsB c (mayX (.two 4 n s1 s2))) := fun q c r => r.congr (fun i _ => by rw [mayX, if_pos rfl, q, Bool.false_and, Bool.or_false])
      have HAN1 : Hid (anyC (mayX s1) n 10 = true → ∀ c, IsB c (fun i => wo (mayX s1) n i || mayX s2 i) → IsB c (mayX (.two 4 n s1 s2))) := fun q c r => r.congr (fun i _ => by rw [mayX, if_pos rfl, q, Bool.true_and])
      obtain ⟨o4, ho4⟩ : ∃ o4, Hid ((List.range 10).all (fun i => wo (mayX s1) n i == mayX s1 i) = o4) := ⟨_, rfl⟩
      have HO4 : Hid (o4 = !anyC (mayX s1) n 10) := by
        show _ = _
        rw [← ho4.out]
        cases hany : anyC (mayX s1) n 10
        · rw [List.all_eq_true.2]; rfl
          intro i hi
          rw [anyC_no hany i (by simpa using hi)]; simp
        · obtain ⟨c, hc10, hw0, hm0⟩ := anyC_yes hany
          rw [List.all_eq_false.2]; rfl
          exact ⟨c, by simpa using hc10, by rw [hw0, hm0]; decide⟩
      clear hk2 hk6 hc
      go_enter Try.func44, Try.ntmps44
      go_upto_region 1 with fail
      rw [hX.out]
      clear hX
      have ihX := ih0.out X (Below.refl _ _)
      go_upto_region 11 with (first
        | (go_at_call 44; refine ihX.mono ?_; rintro e w2 ⟨d1, hd1, rfl, hB⟩; have HD1 : Hid (IsB d1 (mayX s1)) := hd1; have B2 : Hid (Below X.heap.size X w2) := hB; clear hB hd1)
        | (refine wpList_store_row rfl 85 _ _ rfl w2.heap.size d1 rfl rfl 85 #[.bool false, .bool false, .bool false, .bool false, .bool false, .bool false, .bool false, .bool false, .bool false, .bool false] (heap_alloc_last w2 _) (b_info HD1.out) HD1.out.size.symm HD1.out.one ?_; rw [World.setRow_alloc_new])
        | go_in)
      obtain ⟨Y, hY⟩ : ∃ Y, Hid (w2.alloc (.cells d1 85) = Y) := ⟨_, rfl⟩
      have HY : Hid (Below w2.heap.size w2 Y) := by show Below _ _ _; rw [← hY.out]; exact (Below.refl _ _).alloc (Nat.le_refl _) _
      have BY : Hid (Below X.heap.size X Y) := B2.out.trans (HY.out.mono B2.out.size)
      have GY : Hid (Y.heap[w2.heap.size]? = some (.cells d1 85 (0, 0))) := by show _ = _; rw [← hY.out]; exact heap_alloc_last w2 _
      have YS : Hid (Y.heap.size = w2.heap.size + 1) := by show _ = _; rw [← hY.out]; simp
      rw [hY.out]
      clear hY
      have y1 := (BY.out.cell (p := ⟨W.heap.size, 1, none⟩) xl).trans x1
      have yl := Nat.lt_of_lt_of_le xl BY.out.size
      have hwo := impl_without16 d1 (mayX s1) n Y HD1
      go_upto_region 12 with (first
        | (refine wpList_load_row rfl 85 _ rfl w2.heap.size rfl 85 d1 (0, 0) _ GY.out Try.underlying85 rfl (b_info HD1.out) ?_)
        | (go_at_call 59; refine hwo.mono ?_; rintro e w5 ⟨d2, hd2, rfl, hB⟩; have HD2 : Hid (IsB d2 (fun i => wo (mayX s1) n i)) := hd2; have B5 : Hid (Below Y.heap.size Y w5) := hB; clear hB hd2)
        | (refine wpList_store_row rfl 85 _ _ rfl w5.heap.size d2 rfl rfl 85 #[.bool false, .bool false, .bool false, .bool false, .bool false, .bool false, .bool false, .bool false, .bool false, .bool false] (heap_alloc_last w5 _) (b_info HD2.out) HD2.out.size.symm HD2.out.one ?_; rw [World.setRow_alloc_new])
        | go_in)
      obtain ⟨V, hV⟩ : ∃ V, Hid (w5.alloc (.cells d2 85) = V) := ⟨_, rfl⟩
      have HV : Hid (Below w5.heap.size w5 V) := by show Below _ _ _; rw [← hV.out]; exact (Below.refl _ _).alloc (Nat.le_refl _) _
      have BYV : Hid (Below Y.heap.size Y V) := B5.out.trans (HV.out.mono B5.out.size)
      have BV : Hid (Below X.heap.size X V) := BY.out.trans (BYV.out.mono BY.out.size)
      have G5 : Hid (V.heap[w5.heap.size]? = some (.cells d2 85 (0, 0))) := by show _ = _; rw [← hV.out]; exact heap_alloc_last w5 _
      have G4 : Hid (V.heap[w2.heap.size]? = some (.cells d1 85 (0, 0))) := (BYV.out.block _ (by have := YS.out; omega)).trans GY.out
      have VS : Hid (V.heap.size = w5.heap.size + 1) := by show _ = _; rw [← hV.out]; simp
      rw [hV.out]
      clear hV y1 yl ihX hwo
      have hqe : ∀ w, (Op.equalIn 10000 85 (.agg d2) (.agg d1)).run Try.prog w = .ok o4 w := fun w => (eqIn_b HD2.out HD1.out w).trans (by rw [ho4.out])
      have hge := fun x y xs ys w => eqG_b x y xs ys w
      cases o4
      · have hany : anyC (mayX s1) n 10 = true := by have q := HO4.out; cases h : anyC (mayX s1) n 10 with | true => rfl | false => rw [h] at q; cases q
        go_upto_region 14 with (first
          | (refine wpList_load_row rfl 85 _ rfl w5.heap.size rfl 85 d2 (0, 0) _ G5.out Try.underlying85 rfl (b_info HD2.out) ?_)
          | (refine wpList_load_row rfl 85 _ rfl w2.heap.size rfl 85 d1 (0, 0) _ G4.out Try.underlying85 rfl (b_info HD1.out) ?_)
          | go_in)
        have BVD : Hid (Below X.heap.size X V.drew) := BV.out.trans ((Below.refl V.heap.size V).drew.mono BV.out.size)
        have BVV : Hid (Below V.heap.size V V.drew) := (Below.refl V.heap.size V).drew
        have G5D : Hid (V.drew.heap[w5.heap.size]? = some (.cells d2 85 (0, 0))) := (BVV.out.block _ (by have := VS.out; omega)).trans G5.out
        refine wp_region_noPanic ?_
        refine wp_region_held_drew (S := (fun w' => w'.cell? ⟨W.heap.size, 2, none⟩ = some (.slice (some ⟨b, o, none⟩) 2 cap) ∧ w'.cell? ⟨b, o, none⟩ = some (.int .i64 k2) ∧ w'.cell? ⟨b, o + 1, none⟩ = some (.int .i64 n2) ∧ w'.cell? ⟨b, o + 2, none⟩ = some (.slice la l2 lc) ∧ w'.cell? ⟨b, o + 3, none⟩ = some (.int .i64 k3) ∧ w'.cell? ⟨b, o + 3 + 1, none⟩ = some (.int .i64 n3) ∧ w'.cell? ⟨b, o + 3 + 2, none⟩ = some (.slice la1 l3 lc1))) (by kernel_rfl) ?_ (fun hHeld => ?_)
        · (try dsimp only); exact HK.out _ BVD.out
        refine wpAnyH_take (i := 1) (v := ?v17) rfl (by kernel_rfl) (by kernel_rfl) (by kernel_rfl) (fun _ _ _ h => h) (Or.inl ⟨by rfl, ?hy17⟩) (by assumption) ?_
        case hy17 => (intro w hSw; (try dsimp only at hSw); go_simp; try with_reducible rfl)
        try simp only [Act.put, List.setIfInBounds_toArray, List.set_cons_zero, List.set_cons_succ, List.getElem_toArray, List.getElem_cons_zero, List.getElem_cons_succ]
        refine wpAnyH_take (i := 2) (v := ?v18) rfl (by kernel_rfl) (by kernel_rfl) (by kernel_rfl) (fun _ _ _ h => h) (Or.inl ⟨by rfl, ?hy18⟩) (by assumption) ?_
        case hy18 => (intro w hSw; (try dsimp only at hSw); go_simp; try with_reducible rfl)
        try simp only [Act.put, List.setIfInBounds_toArray, List.set_cons_zero, List.set_cons_succ, List.getElem_toArray, List.getElem_cons_zero, List.getElem_cons_succ]
        refine wpAnyH_take (i := 3) (v := ?v19) rfl (by kernel_rfl) (by kernel_rfl) (by kernel_rfl) (fun _ _ _ h => h) (Or.inl ⟨by rfl, ?hy19⟩) (by assumption) ?_
        case hy19 => (intro w hSw; (try dsimp only at hSw); go_simp; try with_reducible rfl)
        try simp only [Act.put, List.setIfInBounds_toArray, List.set_cons_zero, List.set_cons_succ, List.getElem_toArray, List.getElem_cons_zero, List.getElem_cons_succ]
        refine wpAnyH_take (i := 4) (v := ?v20) rfl (by kernel_rfl) (by kernel_rfl) (by kernel_rfl) (fun _ _ _ h => h) (Or.inl ⟨by rfl, ?hy20⟩) (by assumption) ?_
        case hy20 => (intro w hSw; (try dsimp only at hSw); go_simp; try with_reducible rfl)
        try simp only [Act.put, List.setIfInBounds_toArray, List.set_cons_zero, List.set_cons_succ, List.getElem_toArray, List.getElem_cons_zero, List.getElem_cons_succ]
        refine wpAnyH_ready (rs := [0, 5]) (by kernel_rfl) (by simp) ?_
        refine AllReadyH.cons rfl (fun K hK => ?_) ?_
        · rw [if_pos (by rfl)]
          refine wp_load_row 85 _ rfl w5.heap.size rfl 85 d2 (0, 0) _ G5D.out Try.underlying85 rfl (b_info HD2.out) ?_
          refine hK.out _ _ ?_ (fun hHeld => ?_)
          · (try dsimp only); exact HK.out _ BVD.out
          clear hK K
          try simp only [Act.put, List.setIfInBounds_toArray, List.set_cons_zero, List.set_cons_succ, List.getElem_toArray, List.getElem_cons_zero, List.getElem_cons_succ]
          refine wpAnyH_ready (rs := [5]) (by kernel_rfl) (by simp) ?_
          refine AllReadyH.cons rfl (fun K hK => ?_) AllReadyH.nil
          go_simp
          refine (ih1.out V.drew BVD.out).mono ?_; rintro e w6 ⟨d3, hd3, rfl, hB⟩; have HD3 : Hid (IsB d3 (mayX s2)) := hd3; have B6 : Hid (Below X.heap.size X w6) := BVD.out.trans (hB.mono BVD.out.size); have G6 : Hid (w6.heap[w5.heap.size]? = some (.cells d2 85 (0, 0))) := (hB.block _ (by have := VS.out; have := BVV.out.size; omega)).trans G5D.out; clear hB hd3; go_wp2_with fail
          refine hK.out _ _ ?_ (fun hHeld => ?_)
          · (try dsimp only); exact HK.out _ B6.out
          clear hK K
          try simp only [Act.put, List.setIfInBounds_toArray, List.set_cons_zero, List.set_cons_succ, List.getElem_toArray, List.getElem_cons_zero, List.getElem_cons_succ]
          refine wpAnyH_ready (rs := [6]) (by kernel_rfl) (by simp) ?_
          refine AllReadyH.cons rfl (fun K hK => ?_) AllReadyH.nil
          go_simp
          refine (impl_and16 d2 d3 _ _ w6 HD2 HD3).mono ?_; rintro e w7 ⟨d4, hd4, rfl, hB⟩; have HD4 : Hid (IsB d4 (fun i => wo (mayX s1) n i || mayX s2 i)) := hd4; have B7 : Hid (Below X.heap.size X w7) := B6.out.trans (hB.mono B6.out.size); clear hB hd4; go_wp2_with fail
          refine hK.out _ _ ?_ (fun hHeld => ?_)
          · (try dsimp only); exact HK.out _ B7.out
          clear hK K
          try simp only [Act.put, List.setIfInBounds_toArray, List.set_cons_zero, List.set_cons_succ, List.getElem_toArray, List.getElem_cons_zero, List.getElem_cons_succ]
          refine wpAnyH_ready (rs := [7]) (by kernel_rfl) (by simp) ?_
          refine AllReadyH.cons rfl (fun K hK => ?_) AllReadyH.nil
          rw [if_pos (by rfl)]
          refine wp_store_row 85 _ _ rfl (W.heap.size + 1) d4 rfl rfl 85 #[.bool false, .bool false, .bool false, .bool false, .bool false, .bool false, .bool false, .bool false, .bool false, .bool false] (HZW.out w7 B7.out) (b_info HD4.out) (zero_b.size.trans HD4.out.size.symm) HD4.out.one ?_
          refine hK.out _ _ ?_ (fun hHeld => ?_)
          · (try dsimp only); exact HKR.out _ _ B7.out
          clear hK K
          try simp only [Act.put, List.setIfInBounds_toArray, List.set_cons_zero, List.set_cons_succ, List.getElem_toArray, List.getElem_cons_zero, List.getElem_cons_succ]
          refine wpAnyH_done (by kernel_rfl) ?_ _
          refine NoPanic.normal ?_
          go_wp2
          (try simp only [Exit.inBlock, Exit.then])
          refine bodyPost_ret (v := .agg d4) ?_ rfl ⟨d4, (HAN1.out hany _ HD4.out), rfl, below_setRow (HX.out.trans (B7.out.mono HX.out.size)) (by omega) _⟩
          exact results_cell_row rfl _ _ (W.heap.size + 1) 85 d4 (0, 0) _ rfl (setRow_heap _ _ _ _ _ _ (HZW.out w7 B7.out)) Try.underlying85 rfl (b_info (HAN1.out hany _ HD4.out))
        refine AllReadyH.cons rfl (fun K hK => ?_) AllReadyH.nil
        go_simp
        refine (ih1.out V.drew BVD.out).mono ?_; rintro e w6 ⟨d3, hd3, rfl, hB⟩; have HD3 : Hid (IsB d3 (mayX s2)) := hd3; have B6 : Hid (Below X.heap.size X w6) := BVD.out.trans (hB.mono BVD.out.size); have G6 : Hid (w6.heap[w5.heap.size]? = some (.cells d2 85 (0, 0))) := (hB.block _ (by have := VS.out; have := BVV.out.size; omega)).trans G5D.out; clear hB hd3; go_wp2_with fail
        refine hK.out _ _ ?_ (fun hHeld => ?_)
        · (try dsimp only); exact HK.out _ B6.out
        clear hK K
        try simp only [Act.put, List.setIfInBounds_toArray, List.set_cons_zero, List.set_cons_succ, List.getElem_toArray, List.getElem_cons_zero, List.getElem_cons_succ]
        refine wpAnyH_ready (rs := [0]) (by kernel_rfl) (by simp) ?_
        refine AllReadyH.cons rfl (fun K hK => ?_) AllReadyH.nil
        rw [if_pos (by rfl)]
        refine wp_load_row 85 _ rfl w5.heap.size rfl 85 d2 (0, 0) _ G6.out Try.underlying85 rfl (b_info HD2.out) ?_
        refine hK.out _ _ ?_ (fun hHeld => ?_)
        · (try dsimp only); exact HK.out _ B6.out
        clear hK K
        try simp only [Act.put, List.setIfInBounds_toArray, List.set_cons_zero, List.set_cons_succ, List.getElem_toArray, List.getElem_cons_zero, List.getElem_cons_succ]
        refine wpAnyH_ready (rs := [6]) (by kernel_rfl) (by simp) ?_
        refine AllReadyH.cons rfl (fun K hK => ?_) AllReadyH.nil
        go_simp
        refine (impl_and16 d2 d3 _ _ w6 HD2 HD3).mono ?_; rintro e w7 ⟨d4, hd4, rfl, hB⟩; have HD4 : Hid (IsB d4 (fun i => wo (mayX s1) n i || mayX s2 i)) := hd4; have B7 : Hid (Below X.heap.size X w7) := B6.out.trans (hB.mono B6.out.size); clear hB hd4; go_wp2_with fail
        refine hK.out _ _ ?_ (fun hHeld => ?_)
        · (try dsimp only); exact HK.out _ B7.out
        clear hK K
        try simp only [Act.put, List.setIfInBounds_toArray, List.set_cons_zero, List.set_cons_succ, List.getElem_toArray, List.getElem_cons_zero, List.getElem_cons_succ]
        refine wpAnyH_ready (rs := [7]) (by kernel_rfl) (by simp) ?_
        refine AllReadyH.cons rfl (fun K hK => ?_) AllReadyH.nil
        rw [if_pos (by rfl)]
        refine wp_store_row 85 _ _ rfl (W.heap.size + 1) d4 rfl rfl 85 #[.bool false, .bool false, .bool false, .bool false, .bool false, .bool false, .bool false, .bool false, .bool false, .bool false] (HZW.out w7 B7.out) (b_info HD4.out) (zero_b.size.trans HD4.out.size.symm) HD4.out.one ?_
        refine hK.out _ _ ?_ (fun hHeld => ?_)
        · (try dsimp only); exact HKR.out _ _ B7.out
        clear hK K
        try simp only [Act.put, List.setIfInBounds_toArray, List.set_cons_zero, List.set_cons_succ, List.getElem_toArray, List.getElem_cons_zero, List.getElem_cons_succ]
        refine wpAnyH_done (by kernel_rfl) ?_ _
        refine NoPanic.normal ?_
        go_wp2
        (try simp only [Exit.inBlock, Exit.then])
        refine bodyPost_ret (v := .agg d4) ?_ rfl ⟨d4, (HAN1.out hany _ HD4.out), rfl, below_setRow (HX.out.trans (B7.out.mono HX.out.size)) (by omega) _⟩
        exact results_cell_row rfl _ _ (W.heap.size + 1) 85 d4 (0, 0) _ rfl (setRow_heap _ _ _ _ _ _ (HZW.out w7 B7.out)) Try.underlying85 rfl (b_info (HAN1.out hany _ HD4.out))
      · have hany : anyC (mayX s1) n 10 = false := by have q := HO4.out; cases h : anyC (mayX s1) n 10 with | false => rfl | true => rw [h] at q; cases q
        go_wp2_with (first
          | (refine wpList_load_row rfl 85 _ rfl w5.heap.size rfl 85 d2 (0, 0) _ G5.out Try.underlying85 rfl (b_info HD2.out) ?_)
          | (refine wpList_load_row rfl 85 _ rfl w2.heap.size rfl 85 d1 (0, 0) _ G4.out Try.underlying85 rfl (b_info HD1.out) ?_)
          | (refine wpList_store_row rfl 85 _ _ rfl (W.heap.size + 1) d2 rfl rfl 85 #[.bool false, .bool false, .bool false, .bool false, .bool false, .bool false, .bool false, .bool false, .bool false, .bool false] (HZW.out V BV.out) (b_info HD2.out) (zero_b.size.trans HD2.out.size.symm) HD2.out.one ?_)
          | go_in)
        (try simp only [Exit.inBlock, Exit.then])
        refine bodyPost_ret (v := .agg d2) ?_ rfl ⟨d2, (HAN0.out hany _ HD2.out), rfl, below_setRow (HX.out.trans (BV.out.mono HX.out.size)) (by omega) _⟩
        exact results_cell_row rfl _ _ (W.heap.size + 1) 85 d2 (0, 0) _ rfl (setRow_heap _ _ _ _ _ _ (HZW.out V BV.out)) Try.underlying85 rfl (b_info (HAN0.out hany _ HD2.out))

end Go.Proofs.Ytbjfhcbgghpdaaa.walks
