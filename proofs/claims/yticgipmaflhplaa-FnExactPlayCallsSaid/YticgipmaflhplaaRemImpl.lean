/-
  What the program's remember makes of a call site.
-/
import Derived.Test.YticgipmaflhplaaProg
import Derived.Test.YticgipmaflhplaaMagMath
import Derived.Test.YticgipmaflhplaaWorldMath
import Derived.Test.YticgipmaflhplaaCacheMath
import Derived.Test.YticgipmaflhplaaPlayMath
import Derived.Test.YticgipmaflhplaaInts
import Derived.Test.YticgipmaflhplaaOwnInts
import Derived.Test.YticgipmaflhplaaDeep
import Derived.Test.YticgipmaflhplaaDeepRow
import Derived.Test.YticgipmaflhplaaOwnMath
import Derived.Test.YticgipmaflhplaaSiteImpl
import Derived.WalkKit
import Derived.WalkSpells
import Derived.Below
import Derived.Handy
import Derived.OwnWalk
import Derived.Maps.AppendAt
import Derived.Deep.DeepFit
import Derived.Deep.RegionHeld3
import Derived.Deep.DeepCutAuto
namespace Go.Proofs.Yticgipmaflhplaa.walks
open Go.RowKit Go.Proofs.Yticgipmaflhplaa.math Go.Proofs.Yticgipmaflhplaa.ints Go.Proofs.Yticgipmaflhplaa.deep
set_option linter.unusedVariables false
set_option maxRecDepth 100000
set_option linter.unusedSimpArgs false

/-- A site behind a call or a part of it. -/
def SiteTo (Wb w w' : World) (pa : Option Addr) (n pcap : Nat) (st : Int) (cs : Nat → Dv) (g gs : Nat) (m : Int) (c' : Cst) (v : Value) : Prop := ∃ v', Site Wb w' pa n pcap st cs g gs m c' v' ∧ OnlyF w w' (Turn g gs v) ∧ (v'.ownBlock = v.ownBlock ∨ ∀ x, v'.ownBlock = some x → w.heap.size ≤ x)
theorem only_gs {w w1 : World} {g gs i : Nat} {v u : Value} (h : OnlyF w w1 (Turn g gs v)) : OnlyF w (w1.setCell ⟨gs, i, none⟩ u) (Turn g gs v) := only_set h (Or.inr (Or.inl rfl)) u
theorem B3f {α : Type} {a b c d : α} (h1 : d = c) (h2 : c = b) (h3 : b = a) : d = a := h1.trans (h2.trans h3)
theorem far_w {w3 : World} {A B0 B1 : Addr} {u y z : Value} (h0 : A ≠ B0) (h1 : A ≠ B1) (q : w3.cell? B0 = some y ∧ w3.cell? B1 = some z) : (w3.setCell A u).cell? B0 = some y ∧ (w3.setCell A u).cell? B1 = some z :=
  ⟨(World.cell?_setCell_other _ _ _ _ h0).trans q.1, (World.cell?_setCell_other _ _ _ _ h1).trans q.2⟩
theorem row_some {w : World} {B : Nat} {T : TypeId} {sz n : Nat} {v : Value} {xs : List Value} (h : w.ownsRow B T sz v n xs) (hn : 0 < n) : ∃ g c, v = .slice (some ⟨g, 0, none⟩) n c := by
  rcases h.2 with ⟨_, e⟩ | ⟨g, cap, _, e, _⟩
  · omega
  · exact ⟨g, cap, e⟩
theorem new_two (w : World) (x y : Value) (t : TypeId) : ∀ j u, [x, y][j]? = some u → (w.drew.alloc (.cells #[x, y] t)).cell? ((⟨w.heap.size, 0, none⟩ : Addr).add j) = some u := by
  intro j u hj
  have q := row_of w.drew #[x, y] t
  match j, hj with
  | 0, hj => obtain rfl := Option.some.inj hj; exact q.cell (i := 0) (by show 0 < 2; decide)
  | 1, hj => obtain rfl := Option.some.inj hj; exact q.cell (i := 1) (by show 1 < 2; decide)
  | j + 2, hj => simp at hj
theorem one_two (x y : Value) (hx : x.oneCell' = true) (hy : y.oneCell' = true) : ∀ u ∈ [x, y], u.oneCell' = true := by
  intro u hu
  simp at hu
  rcases hu with rfl | rfl
  · exact hx
  · exact hy
set_option maxHeartbeats 8000000 in
theorem impl_remember (Wb : World) (pa : Option Addr) (n pcap : Nat) (st : Int) (cs : Nat → Dv) (g gs : Nat) (m k t : Int) (c : Cst) (v : Value) (w : World) (hl4 : c.l ≤ 4) (hS : Hid (Site Wb w pa n pcap st cs g gs m c v)) :
    Calls Try.prog 70 #[.pointer (some ⟨gs, 0, none⟩), .agg #[.int .i64 k, .int .i64 t]] w fun e w' => e = .returned (.tuple #[]) ∧ SiteTo Wb w w' pa n pcap st cs g gs m (remS t k c) v := by
  obtain ⟨s, l, zs, h, lk⟩ := c
  have hl4 : l ≤ 4 := hl4
  obtain ⟨R, HR⟩ : ∃ R, Hid (remS t k ⟨s, l, zs, h, lk⟩ = R) := ⟨_, rfl⟩
  rw [HR.out]
  obtain ⟨a, cap, hv, hcap, hI, hbw⟩ := hS.out.ways.form
  obtain ⟨Y, hY⟩ : ∃ Y, Hid (w.alloc (.cells #[.int .i64 k, .int .i64 t] 107) = Y) := ⟨_, rfl⟩
  have HYB : Hid (Below w.heap.size w Y) := by show Below _ _ _; rw [← hY.out]; repeat (first | exact Below.refl _ _ | refine Below.drew ?_ | refine Below.setCell ?_ (by simp; try omega) _ | refine Below.alloc ?_ (by simp; try omega) _)
  have SY : Hid (Site Wb Y pa n pcap st cs g gs m ⟨s, l, zs, h, lk⟩ v) := hS.out.kept HYB.out
  have OY : Hid (OnlyF w Y (Turn g gs v)) := OnlyF.of_below HYB.out
  have y0 : Y.cell? ⟨w.heap.size, 0, none⟩ = some (.int .i64 k) := by rw [← hY.out]; go_simp
  have y1 : Y.cell? ⟨w.heap.size, 1, none⟩ = some (.int .i64 t) := by rw [← hY.out]; go_simp
  obtain ⟨x0, x1, x2, x3, x4, x5⟩ := SY.out.row.cells
  have f2 : Y.frozen? ⟨gs, 2, none⟩ = false := World.rowIs.frozen SY.out.row 2
  have f3 : Y.frozen? ⟨gs, 3, none⟩ = false := World.rowIs.frozen SY.out.row 3
  have lgs : gs < w.heap.size := World.rowIs.lt hS.out.row
  have lgY : gs < Y.heap.size := World.rowIs.lt SY.out.row
  subst hv
  clear hI hbw
  by_cases h3 : s = 3
  · subst h3
    have HE : Hid (R = ⟨3, l, zs, h, lk⟩) := by show _ = _; rw [← HR.out]; rfl
    go_enter Try.func70, Try.ntmps70
    go_upto_region 2 with fail
    rw [hY.out]
    go_wp2
    first | go_end0 | (simp only [Exit.inBlock, Exit.then]; refine bodyPost_ret (results_none rfl _ _ _) rfl ?_) | refine bodyPost_ret (results_none rfl _ _ _) rfl ?_
    exact ⟨rfl, by rw [HE.out]; exact ⟨_, SY.out, OY.out, Or.inl rfl⟩⟩
  have s1 : (s == 3) = false := by simpa using h3
  have s2 : decide (s = 3) = false := decide_eq_false h3
  by_cases h4 : l = 4
  · subst h4
    have HE : Hid (R = ⟨3, 0, [], h, lk⟩) := by show _ = _; rw [← HR.out]; unfold remS; rw [if_neg h3, if_pos rfl]
    have S1 : Hid (Site Wb (Y.setCell ⟨gs, 2, none⟩ (.int .i64 3)) pa n pcap st cs g gs m ⟨3, 4, zs, h, lk⟩ (.slice a 4 cap)) := SY.out.set 2 _ (SY.out.row.setS _) (SY.out.ways_set 2 _)
    have S2 : Hid (Site Wb ((Y.setCell ⟨gs, 2, none⟩ (.int .i64 3)).setCell ⟨gs, 3, none⟩ (.slice none 0 0)) pa n pcap st cs g gs m ⟨3, 0, [], h, lk⟩ (.slice none 0 0)) := S1.out.set 3 _ (S1.out.row.setV _) (OwnW.nil _ _)
    clear h3
    go_enter Try.func70, Try.ntmps70
    go_upto_region 2 with fail
    rw [hY.out]
    go_wp2
    go_end0
    exact ⟨rfl, by rw [HE.out]; exact ⟨_, S2.out, only_gs (only_gs OY.out), Or.inr (fun x e => by cases e)⟩⟩
  have HE : Hid (R = ⟨if l = 0 then 1 else 2, l + 1, zs ++ [k, t], h, lk⟩) := by show _ = _; rw [← HR.out]; unfold remS; rw [if_neg h3, if_neg h4]
  have g3 : ((l : Int) == 4) = false := by simp; omega
  have g4 : decide ((l : Int) = 4) = false := decide_eq_false (by omega)
  have g5 : (l == 4) = false := by simpa using h4
  have g6 : decide (l = 4) = false := decide_eq_false h4
  clear h3 h4
  by_cases h0 : l = 0
  · subst h0
    rw [if_pos rfl] at HE
    go_enter Try.func70, Try.ntmps70
    go_upto_region 2 with fail
    rw [hY.out]
    go_upto_region 6 with fail
    have lwY : w.heap.size < Y.heap.size := by rw [← hY.out]; simp
    have nwg : w.heap.size ≠ gs := by omega
    have nwg2 : gs ≠ w.heap.size := by omega
    have ne0 : (⟨gs, 2, none⟩ : Addr) ≠ ⟨w.heap.size, 0, none⟩ := by simp; try omega
    have ne1 : (⟨gs, 2, none⟩ : Addr) ≠ ⟨w.heap.size, 1, none⟩ := by simp; try omega
    have nf0 : (⟨gs, 3, none⟩ : Addr) ≠ ⟨w.heap.size, 0, none⟩ := by simp; try omega
    have nf1 : (⟨gs, 3, none⟩ : Addr) ≠ ⟨w.heap.size, 1, none⟩ := by simp; try omega
    have hz : zs = [] := List.eq_nil_of_length_eq_zero (by have := hS.out.ways.len; simpa using this)
    have S1 : Hid (Site Wb (Y.setCell ⟨gs, 2, none⟩ (.int .i64 1)) pa n pcap st cs g gs m ⟨1, 0, zs, h, lk⟩ (.slice a 0 cap)) := SY.out.set 2 _ (SY.out.row.setS _) (SY.out.ways_set 2 _)
    have HFIN : Hid (SiteTo Wb w (((Y.setCell ⟨gs, 2, none⟩ (.int .i64 1)).setCell ⟨gs, 3, none⟩ (.slice (some ⟨Y.heap.size, 0, none⟩) 1 1)).alloc (.cells #[.int .i64 k, .int .i64 t] 107)).drew pa n pcap st cs g gs m ⟨1, 0 + 1, zs ++ [k, t], h, lk⟩ (.slice a 0 cap)) := by
      obtain ⟨Q, hQ⟩ : ∃ Q, (Y.setCell ⟨gs, 2, none⟩ (.int .i64 1)).setCell ⟨gs, 3, none⟩ (.slice (some ⟨Y.heap.size, 0, none⟩) 1 1) = Q := ⟨_, rfl⟩
      have eq : Q.heap.size = Y.heap.size := by rw [← hQ]; simp [World.setCell]
      obtain ⟨dl, hdl⟩ := S1.out.look
      have n1 := S1.out.ne.1
      have oq : OnlyF w Q (Turn g gs (.slice a 0 cap)) := by rw [← hQ]; exact only_gs (only_gs OY.out)
      have rq : SRow Q gs g m 1 (.slice (some ⟨Y.heap.size, 0, none⟩) 1 1) h lk := by rw [← hQ]; exact S1.out.row.setV _
      have lq : LookB Q g pa n pcap st cs dl := by rw [← hQ]; exact World.rowIs.setOther hdl n1 _
      have bq : Below Wb.heap.size Wb Q := by rw [← hQ]; exact S1.out.bel.setCell S1.out.ls _
      rw [hQ]
      refine ⟨.slice (some ⟨Y.heap.size, 0, none⟩) 1 1, ⟨World.rowIs.alloc rq _, ⟨dl, World.rowIs.alloc lq _⟩, ?_, (bq.alloc bq.size _).drew, S1.out.lg, S1.out.ls⟩, only_drew (only_alloc oq _), Or.inr (fun x e => by have e : Y.heap.size = x := Option.some.inj e; have := HYB.out.size; omega)⟩
      rw [hz]
      refine ⟨rfl, Or.inr ⟨Y.heap.size, 1, #[.int .i64 k, .int .i64 t], rfl, SY.out.bel.size, ?_, Nat.le_refl _, by unfold maxLen; omega, rfl, rfl⟩⟩
      have q := Go.Deep.blk_alloc_new Q (.cells #[.int .i64 k, .int .i64 t] 107)
      rw [eq] at q
      exact q
    go_region_held3 (fun w' => w'.cell? ⟨w.heap.size, 0, none⟩ = some (.int .i64 k) ∧ w'.cell? ⟨w.heap.size, 1, none⟩ = some (.int .i64 t)) (first | assumption | go_keep | (refine ⟨?_, ?_⟩ <;> (repeat (first | rw [World.cell?_drew] | rw [World.cell?_alloc_past _ _ _ (by simp [World.setCell]; omega)] | rw [World.cell?_setCell_other _ _ _ _ (by assumption)])) <;> assumption)) (fail)
    all_goals go_wp2
    all_goals go_end0
    all_goals exact ⟨rfl, by rw [HE.out]; exact HFIN.out⟩
  · have n3 : ((l : Int) == 0) = false := by simp; omega
    have n4 : decide ((l : Int) = 0) = false := decide_eq_false (by omega)
    have n5 : (l == 0) = false := by simpa using h0
    have n6 : decide (l = 0) = false := decide_eq_false h0
    rw [if_neg h0] at HE
    clear h0
    go_enter Try.func70, Try.ntmps70
    go_upto_region 2 with fail
    rw [hY.out]
    go_upto_region 1 with fail
    have lwY : w.heap.size < Y.heap.size := by rw [← hY.out]; simp
    have nwg : w.heap.size ≠ gs := by omega
    have nwg2 : gs ≠ w.heap.size := by omega
    have ne0 : (⟨gs, 2, none⟩ : Addr) ≠ ⟨w.heap.size, 0, none⟩ := by simp; try omega
    have ne1 : (⟨gs, 2, none⟩ : Addr) ≠ ⟨w.heap.size, 1, none⟩ := by simp; try omega
    have nf0 : (⟨gs, 3, none⟩ : Addr) ≠ ⟨w.heap.size, 0, none⟩ := by simp; try omega
    have nf1 : (⟨gs, 3, none⟩ : Addr) ≠ ⟨w.heap.size, 1, none⟩ := by simp; try omega
    obtain ⟨i0, hi0, hz0, hz1, hz2⟩ := parts_of (P := Try.prog) (e := 107) (z := .agg #[.int .i64 0, .int .i64 0]) (a := 2) (b := 16) (by kernel_rfl)
    have YA : Hid (Below Y.heap.size Y (Y.drew.alloc (.cells #[.int .i64 k, .int .i64 t] 107))) := ((Below.refl Y.heap.size Y).drew).alloc (Nat.le_refl _) _
    have OWN : Hid ((Y.drew.alloc (.cells #[.int .i64 k, .int .i64 t] 107)).ownsRow Wb.heap.size 107 2 (.slice a l cap) l (zs.map (Value.int .i64))) := SY.out.ways.kept YA.out
    have qs0 : Y.drew.cell? ⟨w.heap.size, 0, none⟩ = some (.int .i64 k) ∧ Y.drew.cell? ⟨w.heap.size, 1, none⟩ = some (.int .i64 t) := ⟨y0, y1⟩
    have qs1 : (Y.drew.alloc (.cells #[.int .i64 k, .int .i64 t] 107)).cell? ⟨w.heap.size, 0, none⟩ = some (.int .i64 k) ∧ (Y.drew.alloc (.cells #[.int .i64 k, .int .i64 t] 107)).cell? ⟨w.heap.size, 1, none⟩ = some (.int .i64 t) := ⟨(YA.out.cell (p := ⟨w.heap.size, 0, none⟩) lwY).trans y0, (YA.out.cell (p := ⟨w.heap.size, 1, none⟩) lwY).trans y1⟩
    have l63 : l + 1 ≤ maxLen := by unfold maxLen; omega
    have lby : (l + 1) * 16 ≤ 140737488355328 := by omega
    have lba : Wb.heap.size ≤ (Y.drew.alloc (.cells #[.int .i64 k, .int .i64 t] 107)).heap.size := Nat.le_trans SY.out.bel.size YA.out.size
    have HNX : Hid (∀ w3 g2 c2, w3.ownsRow Wb.heap.size 107 2 (.slice (some ⟨g2, 0, none⟩) (l + 1) c2) (l + 1) (zs.map (Value.int .i64) ++ [.int .i64 k, .int .i64 t]) → (Y.drew.alloc (.cells #[.int .i64 k, .int .i64 t] 107)).grownBy w3 (Value.slice a l cap).ownBlock → ((Value.slice (some ⟨g2, 0, none⟩) (l + 1) c2).ownBlock = (Value.slice a l cap).ownBlock ∨ (Value.slice (some ⟨g2, 0, none⟩) (l + 1) c2).ownBlock = some (Y.drew.alloc (.cells #[.int .i64 k, .int .i64 t] 107)).heap.size) → (w3.cell? ⟨gs, 2, none⟩ = some (.int .i64 s) ∧ w3.cell? ⟨gs, 3, none⟩ = some (.slice a l cap) ∧ w3.frozen? ⟨gs, 2, none⟩ = false ∧ w3.frozen? ⟨gs, 3, none⟩ = false) ∧ (w3.cell? ⟨w.heap.size, 0, none⟩ = some (.int .i64 k) ∧ w3.cell? ⟨w.heap.size, 1, none⟩ = some (.int .i64 t)) ∧ SiteTo Wb w ((w3.setCell ⟨gs, 2, none⟩ (.int .i64 2)).setCell ⟨gs, 3, none⟩ (.slice (some ⟨g2, 0, none⟩) (l + 1) c2)) pa n pcap st cs g gs m ⟨2, l + 1, zs ++ [k, t], h, lk⟩ (.slice a l cap)) := fun w3 g2 c2 ho hg hat => by
      obtain ⟨n1, n2, n3⟩ := SY.out.ne
      obtain ⟨dl, hdl⟩ := SY.out.look
      have sA : (Y.drew.alloc (.cells #[.int .i64 k, .int .i64 t] 107)).heap.size = Y.heap.size + 1 := by show (Y.heap.push _).size = _; simp
      have blk : ∀ x, x < Y.heap.size → (Value.slice a l cap).ownBlock ≠ some x → w3.heap[x]? = Y.heap[x]? := fun x hx hn => (hg.block x (by omega) (fun e => hn e.symm)).trans (YA.out.block x hx)
      have R3 : SRow w3 gs g m s (.slice a l cap) h lk := World.rowIs.of_block SY.out.row (blk _ lgY n3)
      have L3 : LookB w3 g pa n pcap st cs dl := World.rowIs.of_block hdl (blk _ (World.rowIs.lt hdl) n2)
      have s3 := hg.size
      have nw : (Value.slice a l cap).ownBlock ≠ some w.heap.size := by
        intro e
        have q := (World.ownsRow.lt hS.out.ways _ e).2
        omega
      have B3 : Below Wb.heap.size Wb w3 := SY.out.bel.trans ⟨hg.os.trans YA.out.os, hg.tape.trans YA.out.tape, hg.output.trans YA.out.output, by omega, fun x hx => (hg.block x (by have := SY.out.bel.size; omega) (fun e => by have := (World.ownsRow.lt SY.out.ways x e.symm).1; omega)).trans (YA.out.block x (by have := SY.out.bel.size; omega))⟩
      have OW : OwnW w3 Wb.heap.size (.slice (some ⟨g2, 0, none⟩) (l + 1) c2) (l + 1) (zs ++ [k, t]) := by show World.ownsRow _ _ _ _ _ _ _; rw [List.map_append]; exact ho
      have ng : g2 ≠ gs := by
        have q := way_row OW R3 (by decide)
        exact fun e => q (by rw [e]; rfl)
      have O3 : OnlyF w w3 (Turn g gs (.slice a l cap)) := ⟨B3f hg.os YA.out.os HYB.out.os, B3f hg.tape YA.out.tape HYB.out.tape, B3f hg.output YA.out.output HYB.out.output, by have := HYB.out.size; omega, fun x hx hT => (blk x (by have := HYB.out.size; omega) (fun e => hT (Or.inr (Or.inr e)))).trans (HYB.out.block x hx)⟩
      obtain ⟨_, _, c2', c3', _, _⟩ := R3.cells
      have eb : ∀ i u, (w3.setCell ⟨gs, i, none⟩ u).heap[g2]? = w3.heap[g2]? := fun i u => Below.heap_setCell _ _ _ _ ng
      refine ⟨⟨c2', c3', World.rowIs.frozen R3 2, World.rowIs.frozen R3 3⟩, ⟨?_, ?_⟩, .slice (some ⟨g2, 0, none⟩) (l + 1) c2, ⟨(R3.setS 2).setV _, ⟨dl, (World.rowIs.setOther L3 n1 _).setOther n1 _⟩, ?_, (B3.setCell SY.out.ls _).setCell SY.out.ls _, SY.out.lg, SY.out.ls⟩, only_gs (only_gs O3), ?_⟩
      · exact (World.cell?_of_block (blk _ lwY nw)).trans y0
      · exact (World.cell?_of_block (blk _ lwY nw)).trans y1
      · refine ⟨OW.1, ?_⟩
        rcases OW.2 with ⟨e, _⟩ | ⟨g3, cap3, cur, e, hg3, hw3, r⟩
        · cases e
        · simp only [Value.slice.injEq, Option.some.injEq, Addr.mk.injEq, and_true, true_and] at e
          obtain ⟨rfl, rfl⟩ := e
          exact Or.inr ⟨g2, c2, cur, rfl, hg3, ((Below.heap_setCell _ _ _ _ ng).trans (Below.heap_setCell _ _ _ _ ng)).trans hw3, r⟩
      · rcases hat with e | e
        · exact Or.inl e
        · refine Or.inr (fun x ex => ?_)
          rw [e] at ex
          have := Option.some.inj ex
          have := HYB.out.size
          omega
    refine wp_region_noPanic ?_
    refine wp_region_held_drew (S := fun w' => w'.cell? ⟨w.heap.size, 0, none⟩ = some (.int .i64 k) ∧ w'.cell? ⟨w.heap.size, 1, none⟩ = some (.int .i64 t)) (by kernel_rfl) ?_ (fun hHeld => ?_)
    · (try dsimp only); exact qs0
    refine wpAnyH_take (i := 0) (v := ?v1) rfl (by kernel_rfl) (by kernel_rfl) (by kernel_rfl) (fun _ _ _ h => h) (Or.inl ⟨by rfl, ?hy1⟩) (by assumption) ?_
    case hy1 => (intro w hSw; (try dsimp only at hSw); go_simp; try with_reducible rfl)
    try simp only [Act.put, List.setIfInBounds_toArray, List.set_cons_zero, List.set_cons_succ]
    refine wpAnyH_take (i := 1) (v := ?v2) rfl (by kernel_rfl) (by kernel_rfl) (by kernel_rfl) (fun _ _ _ h => h) (Or.inl ⟨by rfl, ?hy2⟩) (by assumption) ?_
    case hy2 => (intro w hSw; (try dsimp only at hSw); go_simp; try with_reducible rfl)
    try simp only [Act.put, List.setIfInBounds_toArray, List.set_cons_zero, List.set_cons_succ]
    refine wpAnyH_take (i := 2) (v := ?v3) rfl (by kernel_rfl) (by kernel_rfl) (by kernel_rfl) (fun _ _ _ h => h) (Or.inl ⟨by rfl, ?hy3⟩) (by assumption) ?_
    case hy3 => (intro w hSw; (try dsimp only at hSw); go_simp; try with_reducible rfl)
    try simp only [Act.put, List.setIfInBounds_toArray, List.set_cons_zero, List.set_cons_succ]
    refine wpAnyH_take (i := 3) (v := ?v4) rfl (by kernel_rfl) (by kernel_rfl) (by kernel_rfl) (fun _ _ _ h => h) (Or.inl ⟨by rfl, ?hy4⟩) (by assumption) ?_
    case hy4 => (intro w hSw; (try dsimp only at hSw); go_simp; try with_reducible rfl)
    try simp only [Act.put, List.setIfInBounds_toArray, List.set_cons_zero, List.set_cons_succ]
    refine wpAnyH_take (i := 4) (v := ?v5) rfl (by kernel_rfl) (by kernel_rfl) (by kernel_rfl) (fun _ _ _ h => h) (Or.inl ⟨by rfl, ?hy5⟩) (by assumption) ?_
    case hy5 => (intro w hSw; (try dsimp only at hSw); go_simp; try with_reducible rfl)
    try simp only [Act.put, List.setIfInBounds_toArray, List.set_cons_zero, List.set_cons_succ]
    refine wpAnyH_take (i := 6) (v := ?v6) rfl (by kernel_rfl) (by kernel_rfl) (by kernel_rfl) (fun _ _ _ h => h) (Or.inl ⟨by rfl, ?hy6⟩) (by assumption) ?_
    case hy6 => (intro w hSw; (try dsimp only at hSw); go_simp; try with_reducible rfl)
    try simp only [Act.put, List.setIfInBounds_toArray, List.set_cons_zero, List.set_cons_succ]
    refine wpAnyH_ready (rs := [5, 7]) (by kernel_rfl) (by simp) ?_
    refine AllReadyH.cons rfl (fun K hK => ?_) ?_
    · go_simp
      refine hK.out _ _ ?_ (fun hHeld => ?_)
      · (try dsimp only); (first | assumption | exact qs0 | exact qs1 | exact qs2 | exact qs3 | exact qs4)
      clear hK K
      try simp only [Act.put, List.setIfInBounds_toArray, List.set_cons_zero, List.set_cons_succ]
      refine wpAnyH_ready (rs := [7]) (by kernel_rfl) (by simp) ?_
      refine AllReadyH.cons rfl (fun K hK => ?_) AllReadyH.nil
      go_simp
      refine hK.out _ _ ?_ (fun hHeld => ?_)
      · (try dsimp only); (first | assumption | exact qs0 | exact qs1 | exact qs2 | exact qs3 | exact qs4)
      clear hK K
      try simp only [Act.put, List.setIfInBounds_toArray, List.set_cons_zero, List.set_cons_succ]
      refine wpAnyH_ready (rs := [8]) (by kernel_rfl) (by simp) ?_
      refine AllReadyH.cons rfl (fun K hK => ?_) AllReadyH.nil
      (refine step_append_at _ (by rfl) _ _ 40 (by rfl) Wb.heap.size 107 i0 _ 2 16 Try.underlying40 hi0 hz0 hz1 hz2 rfl (by decide) (.slice a l cap) l (zs.map (Value.int .i64)) (by rfl) OWN.out ⟨Y.heap.size, 0, none⟩ 1 1 [.int .i64 k, .int .i64 t] (by rfl) rfl (new_two Y _ _ _) (one_two _ _ rfl rfl) l63 lby lba ?_; intro v2 w3 hown2 hgrow2 hnil2 hat2; obtain ⟨g2, c2, rfl⟩ := row_some hown2 (by omega); obtain ⟨⟨r2, r3, rf2, rf3⟩, qs2, hfin⟩ := HNX.out w3 g2 c2 hown2 hgrow2 hat2; have HFIN := (show Hid _ from hfin); clear hown2 hgrow2 hnil2 hat2 hfin)
      refine hK.out _ _ ?_ (fun hHeld => ?_)
      · (try dsimp only); (first | assumption | exact qs0 | exact qs1 | exact qs2 | exact qs3 | exact qs4)
      clear hK K
      try simp only [Act.put, List.setIfInBounds_toArray, List.set_cons_zero, List.set_cons_succ]
      refine wpAnyH_take (i := 9) (v := ?v7) rfl (by kernel_rfl) (by kernel_rfl) (by kernel_rfl) (fun _ _ _ h => h) (Or.inl ⟨by rfl, ?hy7⟩) (by assumption) ?_
      case hy7 => (intro w hSw; (try dsimp only at hSw); go_simp; try with_reducible rfl)
      try simp only [Act.put, List.setIfInBounds_toArray, List.set_cons_zero, List.set_cons_succ]
      refine wpAnyH_take (i := 10) (v := ?v8) rfl (by kernel_rfl) (by kernel_rfl) (by kernel_rfl) (fun _ _ _ h => h) (Or.inl ⟨by rfl, ?hy8⟩) (by assumption) ?_
      case hy8 => (intro w hSw; (try dsimp only at hSw); go_simp; try with_reducible rfl)
      try simp only [Act.put, List.setIfInBounds_toArray, List.set_cons_zero, List.set_cons_succ]
      refine wpAnyH_ready (rs := [11]) (by kernel_rfl) (by simp) ?_
      refine AllReadyH.cons rfl (fun K hK => ?_) AllReadyH.nil
      have qs3 := far_w (u := .int .i64 2) ne0 ne1 qs2
      go_simp
      refine hK.out _ _ ?_ (fun hHeld => ?_)
      · (try dsimp only); (first | assumption | exact qs0 | exact qs1 | exact qs2 | exact qs3 | exact qs4)
      clear hK K
      try simp only [Act.put, List.setIfInBounds_toArray, List.set_cons_zero, List.set_cons_succ]
      refine wpAnyH_take (i := 12) (v := ?v9) rfl (by kernel_rfl) (by kernel_rfl) (by kernel_rfl) (fun _ _ _ h => h) (Or.inl ⟨by rfl, ?hy9⟩) (by assumption) ?_
      case hy9 => (intro w hSw; (try dsimp only at hSw); go_simp; try with_reducible rfl)
      try simp only [Act.put, List.setIfInBounds_toArray, List.set_cons_zero, List.set_cons_succ]
      refine wpAnyH_take (i := 13) (v := ?v10) rfl (by kernel_rfl) (by kernel_rfl) (by kernel_rfl) (fun _ _ _ h => h) (Or.inl ⟨by rfl, ?hy10⟩) (by assumption) ?_
      case hy10 => (intro w hSw; (try dsimp only at hSw); go_simp; try with_reducible rfl)
      try simp only [Act.put, List.setIfInBounds_toArray, List.set_cons_zero, List.set_cons_succ]
      refine wpAnyH_ready (rs := [14]) (by kernel_rfl) (by simp) ?_
      refine AllReadyH.cons rfl (fun K hK => ?_) AllReadyH.nil
      have qs4 := far_w (u := .slice (some ⟨g2, 0, none⟩) (l + 1) c2) nf0 nf1 qs3
      go_simp
      refine hK.out _ _ ?_ (fun hHeld => ?_)
      · (try dsimp only); (first | assumption | exact qs0 | exact qs1 | exact qs2 | exact qs3 | exact qs4)
      clear hK K
      try simp only [Act.put, List.setIfInBounds_toArray, List.set_cons_zero, List.set_cons_succ]
      refine wpAnyH_done (by kernel_rfl) ?_ _
      refine NoPanic.normal ?_
      go_wp2
      go_end0
      exact ⟨rfl, by rw [HE.out]; exact HFIN.out⟩
    refine AllReadyH.cons rfl (fun K hK => ?_) AllReadyH.nil
    go_simp
    refine hK.out _ _ ?_ (fun hHeld => ?_)
    · (try dsimp only); (first | assumption | exact qs0 | exact qs1 | exact qs2 | exact qs3 | exact qs4)
    clear hK K
    try simp only [Act.put, List.setIfInBounds_toArray, List.set_cons_zero, List.set_cons_succ]
    refine wpAnyH_ready (rs := [5]) (by kernel_rfl) (by simp) ?_
    refine AllReadyH.cons rfl (fun K hK => ?_) AllReadyH.nil
    go_simp
    refine hK.out _ _ ?_ (fun hHeld => ?_)
    · (try dsimp only); (first | assumption | exact qs0 | exact qs1 | exact qs2 | exact qs3 | exact qs4)
    clear hK K
    try simp only [Act.put, List.setIfInBounds_toArray, List.set_cons_zero, List.set_cons_succ]
    refine wpAnyH_ready (rs := [8]) (by kernel_rfl) (by simp) ?_
    refine AllReadyH.cons rfl (fun K hK => ?_) AllReadyH.nil
    (refine step_append_at _ (by rfl) _ _ 40 (by rfl) Wb.heap.size 107 i0 _ 2 16 Try.underlying40 hi0 hz0 hz1 hz2 rfl (by decide) (.slice a l cap) l (zs.map (Value.int .i64)) (by rfl) OWN.out ⟨Y.heap.size, 0, none⟩ 1 1 [.int .i64 k, .int .i64 t] (by rfl) rfl (new_two Y _ _ _) (one_two _ _ rfl rfl) l63 lby lba ?_; intro v2 w3 hown2 hgrow2 hnil2 hat2; obtain ⟨g2, c2, rfl⟩ := row_some hown2 (by omega); obtain ⟨⟨r2, r3, rf2, rf3⟩, qs2, hfin⟩ := HNX.out w3 g2 c2 hown2 hgrow2 hat2; have HFIN := (show Hid _ from hfin); clear hown2 hgrow2 hnil2 hat2 hfin)
    refine hK.out _ _ ?_ (fun hHeld => ?_)
    · (try dsimp only); (first | assumption | exact qs0 | exact qs1 | exact qs2 | exact qs3 | exact qs4)
    clear hK K
    try simp only [Act.put, List.setIfInBounds_toArray, List.set_cons_zero, List.set_cons_succ]
    refine wpAnyH_take (i := 9) (v := ?v11) rfl (by kernel_rfl) (by kernel_rfl) (by kernel_rfl) (fun _ _ _ h => h) (Or.inl ⟨by rfl, ?hy11⟩) (by assumption) ?_
    case hy11 => (intro w hSw; (try dsimp only at hSw); go_simp; try with_reducible rfl)
    try simp only [Act.put, List.setIfInBounds_toArray, List.set_cons_zero, List.set_cons_succ]
    refine wpAnyH_take (i := 10) (v := ?v12) rfl (by kernel_rfl) (by kernel_rfl) (by kernel_rfl) (fun _ _ _ h => h) (Or.inl ⟨by rfl, ?hy12⟩) (by assumption) ?_
    case hy12 => (intro w hSw; (try dsimp only at hSw); go_simp; try with_reducible rfl)
    try simp only [Act.put, List.setIfInBounds_toArray, List.set_cons_zero, List.set_cons_succ]
    refine wpAnyH_ready (rs := [11]) (by kernel_rfl) (by simp) ?_
    refine AllReadyH.cons rfl (fun K hK => ?_) AllReadyH.nil
    have qs3 := far_w (u := .int .i64 2) ne0 ne1 qs2
    go_simp
    refine hK.out _ _ ?_ (fun hHeld => ?_)
    · (try dsimp only); (first | assumption | exact qs0 | exact qs1 | exact qs2 | exact qs3 | exact qs4)
    clear hK K
    try simp only [Act.put, List.setIfInBounds_toArray, List.set_cons_zero, List.set_cons_succ]
    refine wpAnyH_take (i := 12) (v := ?v13) rfl (by kernel_rfl) (by kernel_rfl) (by kernel_rfl) (fun _ _ _ h => h) (Or.inl ⟨by rfl, ?hy13⟩) (by assumption) ?_
    case hy13 => (intro w hSw; (try dsimp only at hSw); go_simp; try with_reducible rfl)
    try simp only [Act.put, List.setIfInBounds_toArray, List.set_cons_zero, List.set_cons_succ]
    refine wpAnyH_take (i := 13) (v := ?v14) rfl (by kernel_rfl) (by kernel_rfl) (by kernel_rfl) (fun _ _ _ h => h) (Or.inl ⟨by rfl, ?hy14⟩) (by assumption) ?_
    case hy14 => (intro w hSw; (try dsimp only at hSw); go_simp; try with_reducible rfl)
    try simp only [Act.put, List.setIfInBounds_toArray, List.set_cons_zero, List.set_cons_succ]
    refine wpAnyH_ready (rs := [14]) (by kernel_rfl) (by simp) ?_
    refine AllReadyH.cons rfl (fun K hK => ?_) AllReadyH.nil
    have qs4 := far_w (u := .slice (some ⟨g2, 0, none⟩) (l + 1) c2) nf0 nf1 qs3
    go_simp
    refine hK.out _ _ ?_ (fun hHeld => ?_)
    · (try dsimp only); (first | assumption | exact qs0 | exact qs1 | exact qs2 | exact qs3 | exact qs4)
    clear hK K
    try simp only [Act.put, List.setIfInBounds_toArray, List.set_cons_zero, List.set_cons_succ]
    refine wpAnyH_done (by kernel_rfl) ?_ _
    refine NoPanic.normal ?_
    go_wp2
    go_end0
    exact ⟨rfl, by rw [HE.out]; exact HFIN.out⟩
end Go.Proofs.Yticgipmaflhplaa.walks
