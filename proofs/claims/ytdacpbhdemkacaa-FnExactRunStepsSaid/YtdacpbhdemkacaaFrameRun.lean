/-
  A step of good stack code on the frame at work, whatever it is; and the frame at work that is made of a frame: of the program.
-/
import Derived.Test.YtdacpbhdemkacaaProg
import Derived.Test.YtdacpbhdemkacaaMagMath
import Derived.Test.YtdacpbhdemkacaaRunMath
import Derived.Test.YtdacpbhdemkacaaStackMath
import Derived.Test.YtdacpbhdemkacaaFrameMath
import Derived.Test.YtdacpbhdemkacaaRunFrame
import Derived.Test.YtdacpbhdemkacaaDoFrame
import Derived.Test.YtdacpbhdemkacaaCloneOwn
import Derived.Test.YtdacpbhdemkacaaInts
import Derived.Test.YtdacpbhdemkacaaOwnInts
import Derived.Test.YtdacpbhdemkacaaDeep
import Derived.Test.YtdacpbhdemkacaaDeepRow
import Derived.WalkKit
import Derived.WalkSpells
import Derived.Below
import Derived.Handy
import Derived.Deep.DeepFit
import Derived.Deep.OwnRows
import Derived.Deep.RegionHeld3
namespace Go.Proofs.Ytdacpbhdemkacaa.walks
open Go.RowKit Go.Proofs.Ytdacpbhdemkacaa.math Go.Proofs.Ytdacpbhdemkacaa.ints Go.Proofs.Ytdacpbhdemkacaa.deep
set_option linter.unusedVariables false
set_option maxRecDepth 100000

theorem own_mono {w : World} {B B' : Nat} {v : Value} {zs : List Int} (h : Own w B v zs) (hb : B' ≤ B) : Own w B' v zs :=
  ⟨h.1, h.2.imp id (fun ⟨g, cap, cur, e, hg, r⟩ => ⟨g, cap, cur, e, Nat.le_trans hb hg, r⟩)⟩
/-- One step, whatever it is. -/
theorem impl_doF (B p : Nat) (f : Fs) (o n d : Int) (m : Nat) (ho : okS o n = true) (hd : offK o ≤ d) (d4 : d ≤ 4) (hm : m ≤ 900) (hg : Hid (GoodFs f d m)) (W : World) (hB : B ≤ W.heap.size) (h : Hid (FrameAt W B p f.l f.s f.t)) :
    Calls Try.prog 44 #[.pointer (some ⟨p, 0, none⟩), .agg #[.int .i64 o, .int .i64 n]] W (DoAns B p (stepF o n f).l (stepF o n f).s (stepF o n f).t W) := by
  obtain ⟨g1, g2, g3, g4, g5⟩ := hg.out
  have hl : f.s.length ≤ 900 := by omega
  have hl1 : f.s.dropLast.length ≤ 900 := by simp; omega
  rcases okS_cases ho with ⟨rfl, n0, n1⟩ | ⟨rfl, n0, n1⟩ | ⟨rfl, n0, n1⟩ | ⟨rfl, rfl⟩ | ⟨rfl, rfl⟩ | ⟨rfl, rfl⟩ | ⟨o4, o7, rfl⟩
  · exact do_push B p f.l f.s f.t n W hB hl h
  · obtain ⟨k, rfl⟩ : ∃ k : Nat, n = (k : Int) := ⟨n.toNat, by omega⟩
    exact do_load B p f.l f.s f.t k _ (by omega) g1 rfl W hB hl h
  · obtain ⟨k, rfl⟩ : ∃ k : Nat, n = (k : Int) := ⟨n.toNat, by omega⟩
    have q := do_store B p f.l f.s.dropLast f.t k (topL f.s) (by omega) g1 W hB hl1 (by rw [← top_split (by simp [offK] at hd; omega)]; exact h)
    exact q
  · have e := top_split (l := f.s) (by simp [offK] at hd; omega)
    have q := do_dup B p f.l f.s.dropLast f.t (topL f.s) W hB hl1 (by rw [← e]; exact h)
    rw [← e] at q
    exact q
  · exact do_drop B p f.l f.s.dropLast f.t (topL f.s) W hB hl1 (by rw [← top_split (by simp [offK] at hd; omega)]; exact h)
  · exact do_out B p f.l f.s.dropLast f.t (topL f.s) (by omega) W hB hl1 (by rw [← top_split (by simp [offK] at hd; omega)]; exact h)
  · have e1 : offK o = 2 := by unfold offK; rw [if_neg (by omega), if_neg (by omega), if_neg (by omega)]
    have s1 : 0 < f.s.length := by omega
    have s2 : 0 < f.s.dropLast.length := by simp; omega
    have e : stepF o 0 f = ⟨f.l, f.s.dropLast.dropLast ++ [doV (o - 1) (topL f.s.dropLast) (topL f.s)], f.t⟩ := by
      unfold stepF; rw [if_neg (by omega), if_neg (by omega), if_neg (by omega), if_neg (by omega), if_neg (by omega), if_neg (by omega)]
    rw [e]
    have t1 := top_word g4 s1
    have t2 := top_word (words_drop g4) s2
    have hl2 : f.s.dropLast.dropLast.length ≤ 900 := by simp; omega
    have h' : Hid (FrameAt W B p f.l (f.s.dropLast.dropLast ++ [topL f.s.dropLast] ++ [topL f.s]) f.t) := by rw [← top_split s2, ← top_split s1]; exact h
    rcases (show o = 4 ∨ o = 5 ∨ o = 6 ∨ o = 7 by omega) with rfl | rfl | rfl | rfl
    · exact do_pair4 B p f.l f.s.dropLast.dropLast f.t (topL f.s.dropLast) (topL f.s) t2.1 t2.2 t1.1 t1.2 W hB hl2 h'
    · exact do_pair5 B p f.l f.s.dropLast.dropLast f.t (topL f.s.dropLast) (topL f.s) t2.1 t2.2 t1.1 t1.2 W hB hl2 h'
    · exact do_pair6 B p f.l f.s.dropLast.dropLast f.t (topL f.s.dropLast) (topL f.s) t2.1 t2.2 t1.1 t1.2 W hB hl2 h'
    · exact do_pair7 B p f.l f.s.dropLast.dropLast f.t (topL f.s.dropLast) (topL f.s) t2.1 t2.2 t1.1 t1.2 W hB hl2 h'
/-- Three lists that were made one behind the other lie apart. -/
theorem own_late {w w1 : World} {B B' : Nat} {v u : Value} {zs ys : List Int} (h : Own w B v zs) (q : Own w1 B' u ys) (hb : w.heap.size ≤ B') : ∀ x, v.ownBlock = some x → u.ownBlock ≠ some x := fun x e r => by
  have h1 := (World.ownsRow.lt h x e).2
  have h2 := (World.ownsRow.lt q x r).1
  omega
set_option maxHeartbeats 8000000 in
theorem impl_frun (a0 : Option Addr) (l0 c0 : Nat) (a1 : Option Addr) (l1 c1 : Nat) (a2 : Option Addr) (l2 c2 : Nat) (ls ss ts : List Int) (W : World) (H0 : Hid (ls.length = l0)) (H1 : Hid (ss.length = l1)) (H2 : Hid (ts.length = l2)) (x0 : l0 ≤ 1048576) (x1 : l1 ≤ 1048576) (x2 : l2 ≤ 1048576) (I0 : Hid (Ints W a0 ls)) (I1 : Hid (Ints W a1 ss)) (I2 : Hid (Ints W a2 ts)) :
    Calls Try.prog 43 #[.agg #[.slice a0 l0 c0, .slice a1 l1 c1, .slice a2 l2 c2]] W fun e W' => ∃ p, e = .returned (.pointer (some ⟨p, 0, none⟩)) ∧ FrameAt W' W.heap.size p ls ss ts ∧ Below W.heap.size W W' := by
  have C0 : Hid (∀ V, Below W.heap.size W V → Calls Try.prog 53 #[.slice a0 l0 c0] V fun e W' => CloneTo V ls e W') := fun V hV => clone_own a0 l0 c0 ls V H0 x0 (I0.out.kept hV)
  have C1 : Hid (∀ V, Below W.heap.size W V → Calls Try.prog 53 #[.slice a1 l1 c1] V fun e W' => CloneTo V ss e W') := fun V hV => clone_own a1 l1 c1 ss V H1 x1 (I1.out.kept hV)
  have C2 : Hid (∀ V, Below W.heap.size W V → Calls Try.prog 53 #[.slice a2 l2 c2] V fun e W' => CloneTo V ts e W') := fun V hV => clone_own a2 l2 c2 ts V H2 x2 (I2.out.kept hV)
  clear I0 I1 I2 H0 H1 H2
  obtain ⟨X, hX⟩ : ∃ X, Hid (W.alloc (.cells #[.slice a0 l0 c0, .slice a1 l1 c1, .slice a2 l2 c2] 39) = X) := ⟨_, rfl⟩
  have HX : Hid (X.rowIs W.heap.size 39 3 (rowF [.slice a0 l0 c0, .slice a1 l1 c1, .slice a2 l2 c2])) := by show World.rowIs _ _ _ _ _; rw [← hX.out]; exact row_of W #[.slice a0 l0 c0, .slice a1 l1 c1, .slice a2 l2 c2] 39
  have BX : Hid (Below W.heap.size W X) := by show Below _ _ _; rw [← hX.out]; exact (Below.refl _ _).alloc (Nat.le_refl _) _
  have RR : Hid (∀ w, Below X.heap.size X w → w.cell? ⟨W.heap.size, 0, none⟩ = some (.slice a0 l0 c0) ∧ w.cell? ⟨W.heap.size, 1, none⟩ = some (.slice a1 l1 c1) ∧ w.cell? ⟨W.heap.size, 2, none⟩ = some (.slice a2 l2 c2)) := fun w q => ⟨(HX.out.of_block (q.block _ HX.out.lt)).cell (i := 0) (by decide), (HX.out.of_block (q.block _ HX.out.lt)).cell (i := 1) (by decide), (HX.out.of_block (q.block _ HX.out.lt)).cell (i := 2) (by decide)⟩
  have BD : Hid (Below W.heap.size W X.drew) := BX.out.drew
  go_enter Try.func43, Try.ntmps43
  go_wp2_with fail
  rw [hX.out]
  clear hX
  have hS : X.cell? ⟨W.heap.size, 0, none⟩ = some (.slice a0 l0 c0) ∧ X.cell? ⟨W.heap.size, 1, none⟩ = some (.slice a1 l1 c1) ∧ X.cell? ⟨W.heap.size, 2, none⟩ = some (.slice a2 l2 c2) := RR.out X (Below.refl _ _)
  have hSd : X.drew.cell? ⟨W.heap.size, 0, none⟩ = some (.slice a0 l0 c0) ∧ X.drew.cell? ⟨W.heap.size, 1, none⟩ = some (.slice a1 l1 c1) ∧ X.drew.cell? ⟨W.heap.size, 2, none⟩ = some (.slice a2 l2 c2) := hS
  go_region_held3 (fun w' => w'.cell? ⟨W.heap.size, 0, none⟩ = some (.slice a0 l0 c0) ∧ w'.cell? ⟨W.heap.size, 1, none⟩ = some (.slice a1 l1 c1) ∧ w'.cell? ⟨W.heap.size, 2, none⟩ = some (.slice a2 l2 c2)) (first | assumption | exact hS | exact hSd | exact qs1 | exact qs2 | exact qs3 | go_keep) (first
    | (go_at_call 53; go_fit (C0.out X.drew BD.out); rintro e w1 ⟨v1, rfl, hO, hB⟩; obtain ⟨p1, k1, e1, _⟩ := hO.mine; subst e1; have O1 : Hid (Own w1 X.drew.heap.size (.slice p1 ls.length k1) ls) := hO; have B1 : Hid (Below X.heap.size X w1) := (Below.refl _ _).drew.trans hB; have qs1 := RR.out w1 B1.out; clear hO hB)
    | (go_at_call 53; go_fit (C1.out w1 (BX.out.trans (B1.out.mono BX.out.size))); rintro e w2 ⟨v2, rfl, hO, hB⟩; obtain ⟨p2, k2, e2, _⟩ := hO.mine; subst e2; have O2 : Hid (Own w2 w1.heap.size (.slice p2 ss.length k2) ss) := hO; have B2 : Hid (Below w1.heap.size w1 w2) := hB; have qs2 := RR.out w2 (B1.out.trans (hB.mono B1.out.size)); clear hO hB)
    | (go_at_call 53; go_fit (C2.out w2 (BX.out.trans ((B1.out.trans (B2.out.mono B1.out.size)).mono BX.out.size))); rintro e w3 ⟨v3, rfl, hO, hB⟩; obtain ⟨p3, k3, e3, _⟩ := hO.mine; subst e3; have O3 : Hid (Own w3 w2.heap.size (.slice p3 ts.length k3) ts) := hO; have B3 : Hid (Below w2.heap.size w2 w3) := hB; have qs3 := RR.out w3 (B1.out.trans ((B2.out.trans (hB.mono B2.out.size)).mono B1.out.size)); clear hO hB))
  have s1 := BX.out.size
  have s2 := B1.out.size
  have s3 := B2.out.size
  have s4 := B3.out.size
  have HF : Hid (FrameAt (w3.alloc (.cells #[.slice p1 ls.length k1, .slice p2 ss.length k2, .slice p3 ts.length k3] 65)) W.heap.size w3.heap.size ls ss ts) := by
    have j3 : Below w3.heap.size w3 (w3.alloc (.cells #[.slice p1 ls.length k1, .slice p2 ss.length k2, .slice p3 ts.length k3] 65)) := (Below.refl _ _).alloc (Nat.le_refl _) _
    have j1 : Below w1.heap.size w1 (w3.alloc (.cells #[.slice p1 ls.length k1, .slice p2 ss.length k2, .slice p3 ts.length k3] 65)) := B2.out.trans ((B3.out.trans (j3.mono s4)).mono s3)
    have j2 : Below w2.heap.size w2 (w3.alloc (.cells #[.slice p1 ls.length k1, .slice p2 ss.length k2, .slice p3 ts.length k3] 65)) := B3.out.trans (j3.mono s4)
    exact ⟨_, _, _, row_of w3 #[.slice p1 ls.length k1, .slice p2 ss.length k2, .slice p3 ts.length k3] 65, own_mono (row_below O1.out j1) s1, own_mono (row_below O2.out j2) (by omega), own_mono (row_below O3.out j3) (by omega), own_late O1.out O2.out (Nat.le_refl _), own_late O1.out O3.out s3, own_late O2.out O3.out (Nat.le_refl _), by omega⟩
  have HB : Hid (Below W.heap.size W (w3.alloc (.cells #[.slice p1 ls.length k1, .slice p2 ss.length k2, .slice p3 ts.length k3] 65))) := (BX.out.trans ((B1.out.trans ((B2.out.trans (B3.out.mono s3)).mono s2)).mono s1)).alloc (by omega) _
  clear O1 O2 O3 B1 B2 B3 s1 s2 s3 s4 qs1 qs2 qs3 hS hSd
  go_wp2
  go_ret
  exact ⟨_, rfl, HF.out, HB.out⟩
theorem own_box3 {w : World} {B g : Nat} {v : Value} {zs : List Int} {f : Nat → Value} (h : Own w B v zs) (q : w.rowIs g 39 3 f) (a b c : Value) : Own (((w.setCell ⟨g, 0, none⟩ a).setCell ⟨g, 1, none⟩ b).setCell ⟨g, 2, none⟩ c) B v zs :=
  own_set13 (own_set13 (own_set13 h q (by decide)) (q.set 0 _) (by decide)) ((q.set 0 _).set 1 _) (by decide)
theorem below_box3 {W w : World} {B g : Nat} (h : Below B W w) (hg : B ≤ g) (a b c : Value) : Below B W (((w.setCell ⟨g, 0, none⟩ a).setCell ⟨g, 1, none⟩ b).setCell ⟨g, 2, none⟩ c) := ((h.setCell (by simpa using hg) _).setCell (by simpa using hg) _).setCell (by simpa using hg) _
end Go.Proofs.Ytdacpbhdemkacaa.walks
