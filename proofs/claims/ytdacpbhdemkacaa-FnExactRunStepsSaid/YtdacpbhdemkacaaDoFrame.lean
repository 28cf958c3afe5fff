/-
  What one step of stack code does to the frame at work, of the program.
-/
import Derived.Test.YtdacpbhdemkacaaProg
import Derived.Test.YtdacpbhdemkacaaMagMath
import Derived.Test.YtdacpbhdemkacaaRunMath
import Derived.Test.YtdacpbhdemkacaaTwoWords
import Derived.Test.YtdacpbhdemkacaaStackMath
import Derived.Test.YtdacpbhdemkacaaRunFrame
import Derived.Test.YtdacpbhdemkacaaOwnMath
import Derived.Test.YtdacpbhdemkacaaInts
import Derived.Test.YtdacpbhdemkacaaOwnInts
import Derived.Test.YtdacpbhdemkacaaDeep
import Derived.Test.YtdacpbhdemkacaaDeepRow
import Derived.WalkKit
import Derived.WalkSpells
import Derived.Below
import Derived.Handy
import Derived.Deep.DeepFit
import Derived.Deep.OwnRows
import Derived.Deep.RegionHeld3
import Derived.Deep.RegionLaw
namespace Go.Proofs.Ytdacpbhdemkacaa.walks
open Go.RowKit Go.Proofs.Ytdacpbhdemkacaa.math Go.Proofs.Ytdacpbhdemkacaa.ints Go.Proofs.Ytdacpbhdemkacaa.deep
set_option linter.unusedVariables false
set_option maxRecDepth 100000

/-- What a step leaves: the frame at work, and all that lay below it. -/
def DoAns (B p : Nat) (ls ss ts : List Int) (W : World) (e : Ending) (W' : World) : Prop := e = .returned (.tuple #[]) ∧ FrameAt W' B p ls ss ts ∧ Below B W W' ∧ B ≤ W'.heap.size
/-- What was told has grown by one. -/
theorem frame_told {w w3 : World} {o : Obj} {B p : Nat} {vl vs vt v3 : Value} {ls ss ts : List Int} {x : Int} (HR : w.rowIs p 65 3 (rowF [vl, vs, vt])) (HL : Own w B vl ls) (HS : Own w B vs ss) (HT : Own w B vt ts)
    (D : (∀ x, vl.ownBlock = some x → vs.ownBlock ≠ some x) ∧ (∀ x, vl.ownBlock = some x → vt.ownBlock ≠ some x) ∧ (∀ x, vs.ownBlock = some x → vt.ownBlock ≠ some x)) (hp : B ≤ p) (hB : B ≤ w.heap.size)
    (hown : w3.ownsRow B 3 1 v3 (ts.length + 1) (ts.map (Value.int .i64) ++ [.int .i64 x])) (hgrow : (w.alloc o).grownBy w3 vt.ownBlock) (hat : v3.ownBlock = vt.ownBlock ∨ v3.ownBlock = some (w.alloc o).heap.size) :
    ∃ a n k, v3 = .slice a n k ∧ w3.cell? ⟨p, 2, none⟩ = some vt ∧ w3.frozen? ⟨p, 2, none⟩ = false ∧ p < w3.heap.size ∧ FrameAt (w3.setCell ⟨p, 2, none⟩ v3) B p ls ss (ts ++ [x]) ∧ Below B w (w3.setCell ⟨p, 2, none⟩ v3) ∧ B ≤ (w3.setCell ⟨p, 2, none⟩ v3).heap.size := by
  have pl := HR.lt
  have HO : Own w3 B v3 (ts ++ [x]) := by unfold Own; simpa using hown
  have HB : Below B w w3 := ((Below.refl B w).alloc hB _).grown hgrow (by simp; omega) (fun j hj => (World.ownsRow.lt HT j hj).1)
  have HR3 : w3.rowIs p 65 3 (rowF [vl, vs, vt]) := (HR.alloc _).of_block (hgrow.block _ (by simp; omega) (fun q => own_apart HT HR (by decide) q.symm))
  have HL3 : Own w3 B vl ls := own_grown (World.ownsRow.alloc HL _) hgrow D.2.1
  have HS3 : Own w3 B vs ss := own_grown (World.ownsRow.alloc HS _) hgrow D.2.2
  have HN : ∀ x, v3.ownBlock = some x → vt.ownBlock = some x ∨ w.heap.size < x := fun x q => by
    rcases hat with r | r
    · exact Or.inl (r ▸ q)
    · rw [r] at q; simp at q; exact Or.inr (by omega)
  obtain ⟨a, k, e, _⟩ := HO.mine
  refine ⟨a, _, k, e, HR3.cell (i := 2) (by decide), HR3.frozen 2, HR3.lt, ⟨vl, vs, v3, (HR3.set 2 _).congr rowF_set2, own_set13 HL3 HR3 (by decide), own_set13 HS3 HR3 (by decide), own_set13 HO HR3 (by decide), D.1, fun x q r => ?_, fun x q r => ?_, hp⟩, HB.setCell (by simpa using hp) _, by simpa [World.setCell] using Nat.le_trans hB HB.size⟩
  · rcases HN x r with s | s
    · exact D.2.1 x q s
    · have := (World.ownsRow.lt HL x q).2; omega
  · rcases HN x r with s | s
    · exact D.2.2 x q s
    · have := (World.ownsRow.lt HS x q).2; omega
theorem pairop_quiet {o q : Int} (h1 : 4 ≤ o) (h2 : o ≤ 7) (hq : o - 1 = q) (W : World) : Calls Try.prog 57 #[.int .i64 o] W fun e W' => e = .returned (.int .i64 q) ∧ W' = W := by
  subst hq
  rcases (show o = 4 ∨ o = 5 ∨ o = 6 ∨ o = 7 by omega) with rfl | rfl | rfl | rfl
  all_goals
    go_enter Try.func57, Try.ntmps57
    go_wp2
    go_ret
    exact ⟨rfl, rfl⟩

set_option maxHeartbeats 8000000 in
theorem do_push (B p : Nat) (ls ss ts : List Int) (n : Int) (W : World) (hB : B ≤ W.heap.size) (hl : ss.length ≤ 900) (h : Hid (FrameAt W B p ls ss ts)) :
    Calls Try.prog 44 #[.pointer (some ⟨p, 0, none⟩), .agg #[.int .i64 1, .int .i64 n]] W (DoAns B p ls (ss ++ [n]) ts W) := by
  have HW1 : Hid (∀ o : Obj, FrameAt (W.alloc o) B p ls ss ts ∧ Below B W (W.alloc o) ∧ B ≤ (W.alloc o).heap.size) := fun o => ⟨h.out.kept ((Below.refl _ _).alloc (Nat.le_refl _) _), (Below.refl _ _).alloc hB _, by simp; omega⟩
  have pl := h.out.lt
  go_enter Try.func44, Try.ntmps44
  go_wp2_with fail
  refine (impl_put B p ls ss ts n _ (HW1.out _).2.2 (by omega) (HW1.out _).1).mono ?_
  rintro e w2 ⟨rfl, hF, hB2, hS, _⟩
  have HA : Hid (DoAns B p ls (ss ++ [n]) ts W (.returned (.tuple #[])) w2) := ⟨rfl, hF, (HW1.out _).2.1.trans hB2, hS⟩
  clear hF hB2 hS
  go_wp2
  exact bodyPost_end (v := .tuple #[]) (by simp [results, Try.results44, go_sem]) rfl HA.out
set_option maxHeartbeats 8000000 in
theorem do_drop (B p : Nat) (ls ss ts : List Int) (x : Int) (W : World) (hB : B ≤ W.heap.size) (hl : ss.length ≤ 900) (h : Hid (FrameAt W B p ls (ss ++ [x]) ts)) :
    Calls Try.prog 44 #[.pointer (some ⟨p, 0, none⟩), .agg #[.int .i64 9, .int .i64 0]] W (DoAns B p ls ss ts W) := by
  have HW1 : Hid (∀ o : Obj, FrameAt (W.alloc o) B p ls (ss ++ [x]) ts ∧ Below B W (W.alloc o) ∧ B ≤ (W.alloc o).heap.size) := fun o => ⟨h.out.kept ((Below.refl _ _).alloc (Nat.le_refl _) _), (Below.refl _ _).alloc hB _, by simp; omega⟩
  have pl := h.out.lt
  go_enter Try.func44, Try.ntmps44
  go_wp2_with fail
  refine (impl_take B p ls ss ts x _ (HW1.out _).2.2 (by omega) (HW1.out _).1).mono ?_
  rintro e w2 ⟨rfl, hF, hB2, hS, _, _⟩
  have HA : Hid (DoAns B p ls ss ts W (.returned (.tuple #[])) w2) := ⟨rfl, hF, (HW1.out _).2.1.trans hB2, hS⟩
  clear hF hB2 hS
  go_wp2
  exact bodyPost_end (v := .tuple #[]) (by simp [results, Try.results44, go_sem]) rfl HA.out
set_option maxHeartbeats 8000000 in
theorem do_dup (B p : Nat) (ls ss ts : List Int) (x : Int) (W : World) (hB : B ≤ W.heap.size) (hl : ss.length ≤ 900) (h : Hid (FrameAt W B p ls (ss ++ [x]) ts)) :
    Calls Try.prog 44 #[.pointer (some ⟨p, 0, none⟩), .agg #[.int .i64 8, .int .i64 0]] W (DoAns B p ls (ss ++ [x] ++ [x]) ts W) := by
  have HW1 : Hid (∀ o : Obj, FrameAt (W.alloc o) B p ls (ss ++ [x]) ts ∧ Below B W (W.alloc o) ∧ B ≤ (W.alloc o).heap.size) := fun o => ⟨h.out.kept ((Below.refl _ _).alloc (Nat.le_refl _) _), (Below.refl _ _).alloc hB _, by simp; omega⟩
  have pl := h.out.lt
  go_enter Try.func44, Try.ntmps44
  go_wp2_with fail
  refine (impl_uppermost B p ls ss ts x _ (by omega) (HW1.out _).1).mono ?_
  rintro e w2 ⟨rfl, hB2⟩
  have HF2 : Hid (FrameAt w2 B p ls (ss ++ [x]) ts) := (HW1.out _).1.kept hB2
  have HB2 : Hid (Below B W w2) := (HW1.out _).2.1.trans (hB2.mono (HW1.out _).2.2)
  have HS2 : Hid (B ≤ w2.heap.size) := Nat.le_trans (HW1.out _).2.2 hB2.size
  clear hB2
  go_wp2_with fail
  refine (impl_put B p ls (ss ++ [x]) ts x _ HS2.out (by simp; omega) HF2).mono ?_
  rintro e w3 ⟨rfl, hF, hB3, hS, _⟩
  have HA : Hid (DoAns B p ls (ss ++ [x] ++ [x]) ts W (.returned (.tuple #[])) w3) := ⟨rfl, hF, HB2.out.trans hB3, hS⟩
  clear hF hB3 hS
  go_wp2
  exact bodyPost_end (v := .tuple #[]) (by simp [results, Try.results44, go_sem]) rfl HA.out
set_option maxHeartbeats 8000000 in
theorem do_pair4 (B p : Nat) (ls ss ts : List Int) (x y : Int) (x0 : 0 ≤ x) (x1 : x ≤ 65535) (y0 : 0 ≤ y) (y1 : y ≤ 65535) (W : World) (hB : B ≤ W.heap.size) (hl : ss.length ≤ 900) (h : Hid (FrameAt W B p ls (ss ++ [x] ++ [y]) ts)) :
    Calls Try.prog 44 #[.pointer (some ⟨p, 0, none⟩), .agg #[.int .i64 4, .int .i64 0]] W (DoAns B p ls (ss ++ [doV 3 x y]) ts W) := by
  have HW1 : Hid (∀ o : Obj, FrameAt (W.alloc o) B p ls (ss ++ [x] ++ [y]) ts ∧ Below B W (W.alloc o) ∧ B ≤ (W.alloc o).heap.size) := fun o => ⟨h.out.kept ((Below.refl _ _).alloc (Nat.le_refl _) _), (Below.refl _ _).alloc hB _, by simp; omega⟩
  have pl := h.out.lt
  go_enter Try.func44, Try.ntmps44
  go_wp2_with fail
  refine (impl_take B p ls (ss ++ [x]) ts y _ (HW1.out _).2.2 (by simp; omega) (HW1.out _).1).mono ?_
  rintro e w2 ⟨rfl, hF, hB2, hS, hT, _⟩
  have HF2 : Hid (FrameAt w2 B p ls (ss ++ [x]) ts) := hF
  have HB2 : Hid (Below B W w2) := (HW1.out _).2.1.trans hB2
  have HS2 : Hid (B ≤ w2.heap.size) := hS
  have HX2 : Hid (w2.rowIs W.heap.size 49 2 (rowF [.int .i64 4, .int .i64 0])) := hT _ _ _ _ (by decide) (by omega) (row_of W #[.int .i64 4, .int .i64 0] 49)
  clear hF hB2 hS hT
  go_wp2_with fail
  refine (impl_take B p ls ss ts x _ HS2.out (by omega) HF2).mono ?_
  rintro e w3 ⟨rfl, hF, hB3, hS, hT, _⟩
  have HF3 : Hid (FrameAt w3 B p ls ss ts) := hF
  have HB3 : Hid (Below B W w3) := HB2.out.trans hB3
  have HS3 : Hid (B ≤ w3.heap.size) := hS
  have HX3 : Hid (w3.rowIs W.heap.size 49 2 (rowF [.int .i64 4, .int .i64 0])) := hT _ _ _ _ (by decide) (by omega) HX2.out
  clear hF hB3 hS hT
  have cc : w3.cell? ⟨W.heap.size, 0, none⟩ = some (.int .i64 4) := HX3.out.cell (i := 0) (by decide)
  have cl := HX3.out.lt
  go_wp2_with (first
    | (go_at_call 57; refine (pairop_quiet (o := 4) (q := 3) (by decide) (by decide) (by decide) _).mono ?_; rintro e w' ⟨rfl, hw⟩; rw [hw]; clear hw w')
    | (go_at_call 56; refine (impl_pair 3 x y _ (by decide) (by decide) x0 x1 y0 y1).mono ?_; rintro e w' ⟨rfl, hw⟩; rw [hw]; clear hw w')
    | fail)
  refine (impl_put B p ls ss ts (doV 3 x y) _ HS3.out (by omega) HF3).mono ?_
  rintro e w4 ⟨rfl, hF, hB4, hS, _⟩
  have HA : Hid (DoAns B p ls (ss ++ [doV 3 x y]) ts W (.returned (.tuple #[])) w4) := ⟨rfl, hF, HB3.out.trans hB4, hS⟩
  clear hF hB4 hS
  go_wp2
  exact bodyPost_end (v := .tuple #[]) (by simp [results, Try.results44, go_sem]) rfl HA.out
set_option maxHeartbeats 8000000 in
theorem do_pair5 (B p : Nat) (ls ss ts : List Int) (x y : Int) (x0 : 0 ≤ x) (x1 : x ≤ 65535) (y0 : 0 ≤ y) (y1 : y ≤ 65535) (W : World) (hB : B ≤ W.heap.size) (hl : ss.length ≤ 900) (h : Hid (FrameAt W B p ls (ss ++ [x] ++ [y]) ts)) :
    Calls Try.prog 44 #[.pointer (some ⟨p, 0, none⟩), .agg #[.int .i64 5, .int .i64 0]] W (DoAns B p ls (ss ++ [doV 4 x y]) ts W) := by
  have HW1 : Hid (∀ o : Obj, FrameAt (W.alloc o) B p ls (ss ++ [x] ++ [y]) ts ∧ Below B W (W.alloc o) ∧ B ≤ (W.alloc o).heap.size) := fun o => ⟨h.out.kept ((Below.refl _ _).alloc (Nat.le_refl _) _), (Below.refl _ _).alloc hB _, by simp; omega⟩
  have pl := h.out.lt
  go_enter Try.func44, Try.ntmps44
  go_wp2_with fail
  refine (impl_take B p ls (ss ++ [x]) ts y _ (HW1.out _).2.2 (by simp; omega) (HW1.out _).1).mono ?_
  rintro e w2 ⟨rfl, hF, hB2, hS, hT, _⟩
  have HF2 : Hid (FrameAt w2 B p ls (ss ++ [x]) ts) := hF
  have HB2 : Hid (Below B W w2) := (HW1.out _).2.1.trans hB2
  have HS2 : Hid (B ≤ w2.heap.size) := hS
  have HX2 : Hid (w2.rowIs W.heap.size 49 2 (rowF [.int .i64 5, .int .i64 0])) := hT _ _ _ _ (by decide) (by omega) (row_of W #[.int .i64 5, .int .i64 0] 49)
  clear hF hB2 hS hT
  go_wp2_with fail
  refine (impl_take B p ls ss ts x _ HS2.out (by omega) HF2).mono ?_
  rintro e w3 ⟨rfl, hF, hB3, hS, hT, _⟩
  have HF3 : Hid (FrameAt w3 B p ls ss ts) := hF
  have HB3 : Hid (Below B W w3) := HB2.out.trans hB3
  have HS3 : Hid (B ≤ w3.heap.size) := hS
  have HX3 : Hid (w3.rowIs W.heap.size 49 2 (rowF [.int .i64 5, .int .i64 0])) := hT _ _ _ _ (by decide) (by omega) HX2.out
  clear hF hB3 hS hT
  have cc : w3.cell? ⟨W.heap.size, 0, none⟩ = some (.int .i64 5) := HX3.out.cell (i := 0) (by decide)
  have cl := HX3.out.lt
  go_wp2_with (first
    | (go_at_call 57; refine (pairop_quiet (o := 5) (q := 4) (by decide) (by decide) (by decide) _).mono ?_; rintro e w' ⟨rfl, hw⟩; rw [hw]; clear hw w')
    | (go_at_call 56; refine (impl_pair 4 x y _ (by decide) (by decide) x0 x1 y0 y1).mono ?_; rintro e w' ⟨rfl, hw⟩; rw [hw]; clear hw w')
    | fail)
  refine (impl_put B p ls ss ts (doV 4 x y) _ HS3.out (by omega) HF3).mono ?_
  rintro e w4 ⟨rfl, hF, hB4, hS, _⟩
  have HA : Hid (DoAns B p ls (ss ++ [doV 4 x y]) ts W (.returned (.tuple #[])) w4) := ⟨rfl, hF, HB3.out.trans hB4, hS⟩
  clear hF hB4 hS
  go_wp2
  exact bodyPost_end (v := .tuple #[]) (by simp [results, Try.results44, go_sem]) rfl HA.out
set_option maxHeartbeats 8000000 in
theorem do_pair6 (B p : Nat) (ls ss ts : List Int) (x y : Int) (x0 : 0 ≤ x) (x1 : x ≤ 65535) (y0 : 0 ≤ y) (y1 : y ≤ 65535) (W : World) (hB : B ≤ W.heap.size) (hl : ss.length ≤ 900) (h : Hid (FrameAt W B p ls (ss ++ [x] ++ [y]) ts)) :
    Calls Try.prog 44 #[.pointer (some ⟨p, 0, none⟩), .agg #[.int .i64 6, .int .i64 0]] W (DoAns B p ls (ss ++ [doV 5 x y]) ts W) := by
  have HW1 : Hid (∀ o : Obj, FrameAt (W.alloc o) B p ls (ss ++ [x] ++ [y]) ts ∧ Below B W (W.alloc o) ∧ B ≤ (W.alloc o).heap.size) := fun o => ⟨h.out.kept ((Below.refl _ _).alloc (Nat.le_refl _) _), (Below.refl _ _).alloc hB _, by simp; omega⟩
  have pl := h.out.lt
  go_enter Try.func44, Try.ntmps44
  go_wp2_with fail
  refine (impl_take B p ls (ss ++ [x]) ts y _ (HW1.out _).2.2 (by simp; omega) (HW1.out _).1).mono ?_
  rintro e w2 ⟨rfl, hF, hB2, hS, hT, _⟩
  have HF2 : Hid (FrameAt w2 B p ls (ss ++ [x]) ts) := hF
  have HB2 : Hid (Below B W w2) := (HW1.out _).2.1.trans hB2
  have HS2 : Hid (B ≤ w2.heap.size) := hS
  have HX2 : Hid (w2.rowIs W.heap.size 49 2 (rowF [.int .i64 6, .int .i64 0])) := hT _ _ _ _ (by decide) (by omega) (row_of W #[.int .i64 6, .int .i64 0] 49)
  clear hF hB2 hS hT
  go_wp2_with fail
  refine (impl_take B p ls ss ts x _ HS2.out (by omega) HF2).mono ?_
  rintro e w3 ⟨rfl, hF, hB3, hS, hT, _⟩
  have HF3 : Hid (FrameAt w3 B p ls ss ts) := hF
  have HB3 : Hid (Below B W w3) := HB2.out.trans hB3
  have HS3 : Hid (B ≤ w3.heap.size) := hS
  have HX3 : Hid (w3.rowIs W.heap.size 49 2 (rowF [.int .i64 6, .int .i64 0])) := hT _ _ _ _ (by decide) (by omega) HX2.out
  clear hF hB3 hS hT
  have cc : w3.cell? ⟨W.heap.size, 0, none⟩ = some (.int .i64 6) := HX3.out.cell (i := 0) (by decide)
  have cl := HX3.out.lt
  go_wp2_with (first
    | (go_at_call 57; refine (pairop_quiet (o := 6) (q := 5) (by decide) (by decide) (by decide) _).mono ?_; rintro e w' ⟨rfl, hw⟩; rw [hw]; clear hw w')
    | (go_at_call 56; refine (impl_pair 5 x y _ (by decide) (by decide) x0 x1 y0 y1).mono ?_; rintro e w' ⟨rfl, hw⟩; rw [hw]; clear hw w')
    | fail)
  refine (impl_put B p ls ss ts (doV 5 x y) _ HS3.out (by omega) HF3).mono ?_
  rintro e w4 ⟨rfl, hF, hB4, hS, _⟩
  have HA : Hid (DoAns B p ls (ss ++ [doV 5 x y]) ts W (.returned (.tuple #[])) w4) := ⟨rfl, hF, HB3.out.trans hB4, hS⟩
  clear hF hB4 hS
  go_wp2
  exact bodyPost_end (v := .tuple #[]) (by simp [results, Try.results44, go_sem]) rfl HA.out
set_option maxHeartbeats 8000000 in
theorem do_pair7 (B p : Nat) (ls ss ts : List Int) (x y : Int) (x0 : 0 ≤ x) (x1 : x ≤ 65535) (y0 : 0 ≤ y) (y1 : y ≤ 65535) (W : World) (hB : B ≤ W.heap.size) (hl : ss.length ≤ 900) (h : Hid (FrameAt W B p ls (ss ++ [x] ++ [y]) ts)) :
    Calls Try.prog 44 #[.pointer (some ⟨p, 0, none⟩), .agg #[.int .i64 7, .int .i64 0]] W (DoAns B p ls (ss ++ [doV 6 x y]) ts W) := by
  have HW1 : Hid (∀ o : Obj, FrameAt (W.alloc o) B p ls (ss ++ [x] ++ [y]) ts ∧ Below B W (W.alloc o) ∧ B ≤ (W.alloc o).heap.size) := fun o => ⟨h.out.kept ((Below.refl _ _).alloc (Nat.le_refl _) _), (Below.refl _ _).alloc hB _, by simp; omega⟩
  have pl := h.out.lt
  go_enter Try.func44, Try.ntmps44
  go_wp2_with fail
  refine (impl_take B p ls (ss ++ [x]) ts y _ (HW1.out _).2.2 (by simp; omega) (HW1.out _).1).mono ?_
  rintro e w2 ⟨rfl, hF, hB2, hS, hT, _⟩
  have HF2 : Hid (FrameAt w2 B p ls (ss ++ [x]) ts) := hF
  have HB2 : Hid (Below B W w2) := (HW1.out _).2.1.trans hB2
  have HS2 : Hid (B ≤ w2.heap.size) := hS
  have HX2 : Hid (w2.rowIs W.heap.size 49 2 (rowF [.int .i64 7, .int .i64 0])) := hT _ _ _ _ (by decide) (by omega) (row_of W #[.int .i64 7, .int .i64 0] 49)
  clear hF hB2 hS hT
  go_wp2_with fail
  refine (impl_take B p ls ss ts x _ HS2.out (by omega) HF2).mono ?_
  rintro e w3 ⟨rfl, hF, hB3, hS, hT, _⟩
  have HF3 : Hid (FrameAt w3 B p ls ss ts) := hF
  have HB3 : Hid (Below B W w3) := HB2.out.trans hB3
  have HS3 : Hid (B ≤ w3.heap.size) := hS
  have HX3 : Hid (w3.rowIs W.heap.size 49 2 (rowF [.int .i64 7, .int .i64 0])) := hT _ _ _ _ (by decide) (by omega) HX2.out
  clear hF hB3 hS hT
  have cc : w3.cell? ⟨W.heap.size, 0, none⟩ = some (.int .i64 7) := HX3.out.cell (i := 0) (by decide)
  have cl := HX3.out.lt
  go_wp2_with (first
    | (go_at_call 57; refine (pairop_quiet (o := 7) (q := 6) (by decide) (by decide) (by decide) _).mono ?_; rintro e w' ⟨rfl, hw⟩; rw [hw]; clear hw w')
    | (go_at_call 56; refine (impl_pair 6 x y _ (by decide) (by decide) x0 x1 y0 y1).mono ?_; rintro e w' ⟨rfl, hw⟩; rw [hw]; clear hw w')
    | fail)
  refine (impl_put B p ls ss ts (doV 6 x y) _ HS3.out (by omega) HF3).mono ?_
  rintro e w4 ⟨rfl, hF, hB4, hS, _⟩
  have HA : Hid (DoAns B p ls (ss ++ [doV 6 x y]) ts W (.returned (.tuple #[])) w4) := ⟨rfl, hF, HB3.out.trans hB4, hS⟩
  clear hF hB4 hS
  go_wp2
  exact bodyPost_end (v := .tuple #[]) (by simp [results, Try.results44, go_sem]) rfl HA.out
set_option maxHeartbeats 8000000 in
theorem do_load (B p : Nat) (ls ss ts : List Int) (k : Nat) (x : Int) (hk : k < 3) (HL3 : Hid (ls.length = 3)) (HX : Hid (ls.getD k 0 = x)) (W : World) (hB : B ≤ W.heap.size) (hl : ss.length ≤ 900) (h : Hid (FrameAt W B p ls ss ts)) :
    Calls Try.prog 44 #[.pointer (some ⟨p, 0, none⟩), .agg #[.int .i64 2, .int .i64 (k : Int)]] W (DoAns B p ls (ss ++ [x]) ts W) := by
  have HW1 : Hid (∀ o : Obj, FrameAt (W.alloc o) B p ls ss ts ∧ Below B W (W.alloc o) ∧ B ≤ (W.alloc o).heap.size) := fun o => ⟨h.out.kept ((Below.refl _ _).alloc (Nat.le_refl _) _), (Below.refl _ _).alloc hB _, by simp; omega⟩
  have pl := h.out.lt
  obtain ⟨vl, vs, vt, r1, r2, r3, r4, D1, D2, D3, hp⟩ := h.out
  obtain ⟨gl, cl, e1, hgB, hgl, hcl, hcm⟩ := own_form13 r2 (by rw [HL3.out]; decide)
  rw [HL3.out] at e1 hcl
  subst e1
  have hne : W.heap.size ≠ gl := by omega
  have CP : Hid (W.cell? ⟨p, 0, none⟩ = some (.slice (some ⟨gl, 0, none⟩) 3 cl)) := r1.cell (i := 0) (by decide)
  have CL : Hid (W.cell? ⟨gl, k, none⟩ = some (.int .i64 (ls.getD k 0))) := own_cell13 (by rw [HL3.out]; exact r2) (by rw [HL3.out]; exact hk)
  have kI : (k : Int) < 3 := by omega
  rw [HX.out] at CL
  clear r1 r2 r3 r4 D1 D2 D3 hcl hcm h
  have HWD : Hid (∀ o : Obj, FrameAt (W.alloc o).drew B p ls ss ts ∧ Below B W (W.alloc o).drew ∧ B ≤ (W.alloc o).drew.heap.size) := fun o => ⟨(HW1.out o).1.kept (Below.refl _ _).drew, (HW1.out o).2.1.drew, (HW1.out o).2.2⟩
  have q0 : ∀ o : Obj, (W.alloc o).cell? ⟨p, 0, none⟩ = some (.slice (some ⟨gl, 0, none⟩) 3 cl) := fun o => (World.cell?_alloc_past _ _ _ pl).trans CP.out
  have q1 : ∀ o : Obj, (W.alloc o).cell? ⟨gl, k, none⟩ = some (.int .i64 x) := fun o => (World.cell?_alloc_past _ _ _ hgl).trans CL.out
  have q2 : (W.alloc (.cells #[.int .i64 2, .int .i64 (k : Int)] 49)).cell? ⟨W.heap.size, 1, none⟩ = some (.int .i64 (k : Int)) := by simp
  go_enter Try.func44, Try.ntmps44
  go_wp2_with fail
  have q2' := q0 (.cells #[.int .i64 2, .int .i64 (k : Int)] 49)
  have q3' := q1 (.cells #[.int .i64 2, .int .i64 (k : Int)] 49)
  go_region_with (first
    | (go_at_call 54; refine (impl_put B p ls ss ts x _ (HWD.out _).2.2 (by omega) (HWD.out _).1).mono ?_; rintro e w2 ⟨rfl, hF, hB2, hS, _⟩; have HA : Hid (DoAns B p ls (ss ++ [x]) ts W (.returned (.tuple #[])) w2) := ⟨rfl, hF, (HWD.out _).2.1.trans hB2, hS⟩; clear hF hB2 hS))
  all_goals go_wp2
  all_goals exact bodyPost_end (v := .tuple #[]) (by simp [results, Try.results44, go_sem]) rfl HA.out
set_option maxHeartbeats 8000000 in
theorem do_store (B p : Nat) (ls ss ts : List Int) (k : Nat) (x : Int) (hk : k < 3) (HL3 : Hid (ls.length = 3)) (W : World) (hB : B ≤ W.heap.size) (hl : ss.length ≤ 900) (h : Hid (FrameAt W B p ls (ss ++ [x]) ts)) :
    Calls Try.prog 44 #[.pointer (some ⟨p, 0, none⟩), .agg #[.int .i64 3, .int .i64 (k : Int)]] W (DoAns B p (ls.set k x) ss ts W) := by
  have HW1 : Hid (∀ o : Obj, FrameAt (W.alloc o) B p ls (ss ++ [x]) ts ∧ Below B W (W.alloc o) ∧ B ≤ (W.alloc o).heap.size) := fun o => ⟨h.out.kept ((Below.refl _ _).alloc (Nat.le_refl _) _), (Below.refl _ _).alloc hB _, by simp; omega⟩
  have pl := h.out.lt
  obtain ⟨vl, vs, vt, r1, r2, r3, r4, D1, D2, D3, hp⟩ := h.out
  obtain ⟨gl, cl, e1, hgB, hgl, hcl, hcm⟩ := own_form13 r2 (by rw [HL3.out]; decide)
  rw [HL3.out] at e1 hcl
  subst e1
  have hne : W.heap.size ≠ gl := by omega
  have CP : Hid (W.cell? ⟨p, 0, none⟩ = some (.slice (some ⟨gl, 0, none⟩) 3 cl)) := r1.cell (i := 0) (by decide)
  have CL : Hid (W.cell? ⟨gl, k, none⟩ = some (.int .i64 (ls.getD k 0))) := own_cell13 (by rw [HL3.out]; exact r2) (by rw [HL3.out]; exact hk)
  have kI : (k : Int) < 3 := by omega
  clear r1 r2 r3 r4 D1 D2 D3 hcl hcm h CL
  have HWD : Hid (∀ o : Obj, FrameAt (W.alloc o).drew B p ls (ss ++ [x]) ts ∧ Below B W (W.alloc o).drew ∧ B ≤ (W.alloc o).drew.heap.size) := fun o => ⟨(HW1.out o).1.kept (Below.refl _ _).drew, (HW1.out o).2.1.drew, (HW1.out o).2.2⟩
  have q0 : (W.alloc (.cells #[.int .i64 3, .int .i64 (k : Int)] 49)).cell? ⟨p, 0, none⟩ = some (.slice (some ⟨gl, 0, none⟩) 3 cl) := (World.cell?_alloc_past _ _ _ pl).trans CP.out
  have q2 : (W.alloc (.cells #[.int .i64 3, .int .i64 (k : Int)] 49)).cell? ⟨W.heap.size, 1, none⟩ = some (.int .i64 (k : Int)) := by simp
  have HX1 : Hid ((W.alloc (.cells #[.int .i64 3, .int .i64 (k : Int)] 49)).drew.rowIs W.heap.size 49 2 (rowF [.int .i64 3, .int .i64 (k : Int)])) := (row_of W #[.int .i64 3, .int .i64 (k : Int)] 49).drew
  have HQ0 : Hid ((W.alloc (.cells #[.int .i64 3, .int .i64 (k : Int)] 49)).drew.cell? ⟨p, 0, none⟩ = some (.slice (some ⟨gl, 0, none⟩) 3 cl)) := q0
  go_enter Try.func44, Try.ntmps44
  go_wp2_with fail
  go_region_with (first
    | (go_at_call 55; refine (impl_take B p ls ss ts x _ (HWD.out _).2.2 (by omega) (HWD.out _).1).mono ?_; rintro e w2 ⟨rfl, hF, hB2, hS, hT, hC⟩; have qc : w2.cell? ⟨p, 0, none⟩ = some (.slice (some ⟨gl, 0, none⟩) 3 cl) := hC.trans HQ0.out; have HX2 : Hid (w2.rowIs W.heap.size 49 2 (rowF [.int .i64 3, .int .i64 (k : Int)])) := hT _ _ _ _ (by decide) (by omega) HX1.out; have qx : w2.cell? ⟨W.heap.size, 1, none⟩ = some (.int .i64 (k : Int)) := HX2.out.cell (i := 1) (by decide); have HST := hF.store qc HL3.out hk x; have qg : w2.cell? ⟨gl, k, none⟩ = some (.int .i64 (ls.getD k 0)) := HST.2.2.2.1; have qf : w2.frozen? ⟨gl, k, none⟩ = false := HST.2.2.2.2; have HA : Hid (DoAns B p (ls.set k x) ss ts W (.returned (.tuple #[])) (w2.setCell ⟨gl, k, none⟩ (.int .i64 x))) := ⟨rfl, HST.1, ((HWD.out _).2.1.trans hB2).setCell (by simpa using HST.2.1) _, by simpa [World.setCell] using hS⟩; clear hF hB2 hS hT hC HST))
  all_goals go_wp2
  all_goals exact bodyPost_end (v := .tuple #[]) (by simp [results, Try.results44, go_sem]) rfl HA.out
set_option maxHeartbeats 8000000 in
theorem do_out (B p : Nat) (ls ss ts : List Int) (x : Int) (ht : ts.length ≤ 1000) (W : World) (hB : B ≤ W.heap.size) (hl : ss.length ≤ 900) (h : Hid (FrameAt W B p ls (ss ++ [x]) ts)) :
    Calls Try.prog 44 #[.pointer (some ⟨p, 0, none⟩), .agg #[.int .i64 10, .int .i64 0]] W (DoAns B p ls ss (ts ++ [x]) W) := by
  have HW1 : Hid (∀ o : Obj, FrameAt (W.alloc o) B p ls (ss ++ [x]) ts ∧ Below B W (W.alloc o) ∧ B ≤ (W.alloc o).heap.size) := fun o => ⟨h.out.kept ((Below.refl _ _).alloc (Nat.le_refl _) _), (Below.refl _ _).alloc hB _, by simp; omega⟩
  have pl := h.out.lt
  obtain ⟨i0, hi, hz0, hz1, hz2⟩ := parts_of (P := Try.prog) (e := 3) (z := .int .i64 0) (a := 1) (b := 8) (by kernel_rfl)
  obtain ⟨vl, vs, vt, r1, r2, r3, r4, D1, D2, D3, hp⟩ := h.out
  have HR : Hid (W.rowIs p 65 3 (rowF [vl, vs, vt])) := r1
  have HL : Hid (Own W B vl ls) := r2
  have HS : Hid (Own W B vs (ss ++ [x])) := r3
  have HT : Hid (Own W B vt ts) := r4
  have HD : Hid ((∀ x, vl.ownBlock = some x → vs.ownBlock ≠ some x) ∧ (∀ x, vl.ownBlock = some x → vt.ownBlock ≠ some x) ∧ (∀ x, vs.ownBlock = some x → vt.ownBlock ≠ some x)) := ⟨D1, D2, D3⟩
  have HWD : Hid (FrameAt (W.alloc (.cells #[.int .i64 10, .int .i64 0] 49)).drew B p ls (ss ++ [x]) ts ∧ Below W.heap.size W (W.alloc (.cells #[.int .i64 10, .int .i64 0] 49)).drew ∧ W.heap.size ≤ (W.alloc (.cells #[.int .i64 10, .int .i64 0] 49)).drew.heap.size) := ⟨(HW1.out _).1.kept (Below.refl _ _).drew, ((Below.refl _ _).alloc (Nat.le_refl _) _).drew, by show W.heap.size ≤ (W.alloc _).heap.size; simp⟩
  have q0 : (W.alloc (.cells #[.int .i64 10, .int .i64 0] 49)).cell? ⟨p, 2, none⟩ = some vt := (World.cell?_alloc_past _ _ _ pl).trans (r1.cell (i := 2) (by decide))
  clear r1 r2 r3 r4 D1 D2 D3 h
  go_enter Try.func44, Try.ntmps44
  go_wp2_with fail
  go_region_law (first
    | (refine step_append_at _ rfl (.tmp 68) (.tmp 71) 29 rfl B 3 i0 (.int .i64 0) 1 8 Try.underlying29 hi hz0 hz1 hz2 rfl (by decide) vt ts.length (ts.map (Value.int .i64)) (by simp [Act.eval]) (World.ownsRow.alloc HT2.out _) ⟨w2.heap.size, 0, none⟩ 1 1 [.int .i64 x] (by simp [Act.eval]) rfl (new_one w2 x _) (one_of x) (by unfold maxLen; omega) (by omega) (by have := HBW.out.size; simp; omega) ?_; intro v3 w3 hown hgrow _ hat; obtain ⟨a3, n3, k3, e3, c3, f3, pl3, hF3, hB3, hS3⟩ := frame_told HR2.out HL2.out HS2.out HT2.out HD.out hp HSZ.out hown hgrow hat; have HF3 : Hid (FrameAt (w3.setCell ⟨p, 2, none⟩ v3) B p ls (ss ++ [x]) (ts ++ [x])) := hF3; have HB3 : Hid (Below B W (w3.setCell ⟨p, 2, none⟩ v3)) := (HBW.out.mono hB).trans hB3; have HS3 : Hid (B ≤ (w3.setCell ⟨p, 2, none⟩ v3).heap.size) := hS3; clear hF3 hB3 hS3 hown hgrow hat; subst e3)
    | (go_simp; refine (impl_uppermost B p ls ss ts x _ (by omega) HWD.out.1).mono ?_; rintro e w2 ⟨rfl, hB2⟩; dsimp only; have HBW : Hid (Below W.heap.size W w2) := HWD.out.2.1.trans (hB2.mono HWD.out.2.2); have HR2 : Hid (w2.rowIs p 65 3 (rowF [vl, vs, vt])) := HR.out.of_block (HBW.out.block _ pl); have HT2 : Hid (Own w2 B vt ts) := row_below HT.out HBW.out; have HL2 : Hid (Own w2 B vl ls) := row_below HL.out HBW.out; have HS2 : Hid (Own w2 B vs (ss ++ [x])) := row_below HS.out HBW.out; have HSZ : Hid (B ≤ w2.heap.size) := Nat.le_trans hB HBW.out.size; have qc2 : w2.cell? ⟨p, 2, none⟩ = some vt := HR2.out.cell (i := 2) (by decide); have pl2 : p < w2.heap.size := HR2.out.lt; clear hB2))
  all_goals go_wp2_with fail
  all_goals (refine (impl_take B p ls ss (ts ++ [x]) x _ HS3.out (by omega) HF3).mono ?_; rintro e w4 ⟨rfl, hF, hB4, hS, _, _⟩; have HA : Hid (DoAns B p ls ss (ts ++ [x]) W (.returned (.tuple #[])) w4) := ⟨rfl, hF, HB3.out.trans hB4, hS⟩; clear hF hB4 hS)
  all_goals go_wp2
  all_goals exact bodyPost_end (v := .tuple #[]) (by simp [results, Try.results44, go_sem]) rfl HA.out
end Go.Proofs.Ytdacpbhdemkacaa.walks
