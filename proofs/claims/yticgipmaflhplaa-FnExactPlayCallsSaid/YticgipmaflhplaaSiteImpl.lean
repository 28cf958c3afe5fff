/-
  A call site of the program: its counts, its ways, one call.
-/
import Derived.Test.YticgipmaflhplaaProg
import Derived.Test.YticgipmaflhplaaMagMath
import Derived.Test.YticgipmaflhplaaWorldMath
import Derived.Test.YticgipmaflhplaaLookMath
import Derived.Test.YticgipmaflhplaaCacheMath
import Derived.Test.YticgipmaflhplaaPlayMath
import Derived.Test.YticgipmaflhplaaInts
import Derived.Test.YticgipmaflhplaaOwnInts
import Derived.Test.YticgipmaflhplaaDeep
import Derived.Test.YticgipmaflhplaaDeepRow
import Derived.Test.YticgipmaflhplaaDeepC
import Derived.Test.YticgipmaflhplaaWorldSpec
import Derived.Test.YticgipmaflhplaaWorldImpl
import Derived.Test.YticgipmaflhplaaTableImpl
import Derived.Test.YticgipmaflhplaaFindImpl
import Derived.Test.YticgipmaflhplaaCacheYes
import Derived.Test.YticgipmaflhplaaCallSpec
import Derived.Test.YticgipmaflhplaaPlaySpec
import Derived.WalkKit
import Derived.WalkSpells
import Derived.Below
import Derived.Handy
import Derived.OwnWalk
import Derived.Maps.AppendAt
import Derived.Laws.LoneSync
import Derived.Deep.DeepFit
import Derived.Deep.RegionHeld3
import Derived.Deep.DeepCutAuto
namespace Go.Proofs.Yticgipmaflhplaa.walks
open Go.RowKit Go.Proofs.Yticgipmaflhplaa.math Go.Proofs.Yticgipmaflhplaa.ints Go.Proofs.Yticgipmaflhplaa.deep
set_option linter.unusedVariables false
set_option maxRecDepth 100000

theorem i64_store (a : Addr) (x : Int) (u : Value) (w : World) (hc : w.cell? a = some u) (hz : w.frozen? a = false) :
    Calls Try.prog 67 #[.pointer (some a), .int .i64 x] w fun e w' => e = .returned (.tuple #[]) ∧ w' = w.setCell a (.int .i64 x) := by
  have hst := run_call_store (P := Try.prog) Try.func77 (by kernel_rfl) (by kernel_rfl) (by kernel_rfl) (by kernel_rfl) (k := .i64) (y := x) hc hz
  go_enter Try.func67, Try.ntmps67
  go_wp2
  go_end0
  exact ⟨rfl, rfl⟩
theorem i64_add (a : Addr) (x : Int) (w : World) (h0 : 0 ≤ x) (h1 : x ≤ 1000000) (hc : w.cell? a = some (.int .i64 x)) (hz : w.frozen? a = false) :
    Calls Try.prog 69 #[.pointer (some a), .int .i64 1] w fun e w' => e = .returned (.int .i64 (x + 1)) ∧ w' = w.setCell a (.int .i64 (x + 1)) := by
  have hwr : IntKind.i64.wrap (x + 1) = x + 1 := Go.IntWalk.i64_in _ (by omega)
  have hadd := run_call_add (P := Try.prog) Try.func78 (by kernel_rfl) (by kernel_rfl) (by kernel_rfl) .i64 (by kernel_rfl) (y := 1) (s := x + 1) hc hz (by simp [go_sem, hwr])
  go_enter Try.func69, Try.ntmps69
  go_wp2
  go_ret
  exact ⟨rfl, rfl⟩
theorem i64_load (a : Addr) (x : Int) (w : World) (hc : w.cell? a = some (.int .i64 x)) :
    Calls Try.prog 71 #[.pointer (some a)] w fun e w' => e = .returned (.int .i64 x) ∧ w' = w := by
  have hl := run_call_load (P := Try.prog) Try.func79 (by kernel_rfl) (by kernel_rfl) (by kernel_rfl) .i64 (by kernel_rfl) hc
  go_enter Try.func71, Try.ntmps71
  go_wp2
  go_ret
  exact ⟨rfl, rfl⟩
/-- A call site in memory. -/
def SRow (w : World) (gs g : Nat) (m s : Int) (v : Value) (h lk : Int) : Prop := w.rowIs gs 116 6 (rowF [.pointer (some ⟨g, 0, none⟩), .int .i64 m, .int .i64 s, v, .int .i64 h, .int .i64 lk])
theorem SRow.cells {w : World} {gs g : Nat} {m s : Int} {v : Value} {h lk : Int} (q : SRow w gs g m s v h lk) : w.cell? ⟨gs, 0, none⟩ = some (.pointer (some ⟨g, 0, none⟩)) ∧ w.cell? ⟨gs, 1, none⟩ = some (.int .i64 m) ∧ w.cell? ⟨gs, 2, none⟩ = some (.int .i64 s) ∧ w.cell? ⟨gs, 3, none⟩ = some v ∧ w.cell? ⟨gs, 4, none⟩ = some (.int .i64 h) ∧ w.cell? ⟨gs, 5, none⟩ = some (.int .i64 lk) :=
  ⟨World.rowIs.cell q (i := 0) (by decide), World.rowIs.cell q (i := 1) (by decide), World.rowIs.cell q (i := 2) (by decide), World.rowIs.cell q (i := 3) (by decide), World.rowIs.cell q (i := 4) (by decide), World.rowIs.cell q (i := 5) (by decide)⟩
theorem SRow.setS {w : World} {gs g : Nat} {m s : Int} {v : Value} {h lk : Int} (q : SRow w gs g m s v h lk) (x : Int) : SRow (w.setCell ⟨gs, 2, none⟩ (.int .i64 x)) gs g m x v h lk :=
  (World.rowIs.set q 2 _).congr (fun i hi => by match i, hi with | 0, _ => rfl | 1, _ => rfl | 2, _ => rfl | 3, _ => rfl | 4, _ => rfl | 5, _ => rfl | i + 6, h => exact absurd h (by omega))
theorem SRow.setV {w : World} {gs g : Nat} {m s : Int} {v : Value} {h lk : Int} (q : SRow w gs g m s v h lk) (x : Value) : SRow (w.setCell ⟨gs, 3, none⟩ x) gs g m s x h lk :=
  (World.rowIs.set q 3 _).congr (fun i hi => by match i, hi with | 0, _ => rfl | 1, _ => rfl | 2, _ => rfl | 3, _ => rfl | 4, _ => rfl | 5, _ => rfl | i + 6, h => exact absurd h (by omega))
theorem SRow.setH {w : World} {gs g : Nat} {m s : Int} {v : Value} {h lk : Int} (q : SRow w gs g m s v h lk) (x : Int) : SRow (w.setCell ⟨gs, 4, none⟩ (.int .i64 x)) gs g m s v x lk :=
  (World.rowIs.set q 4 _).congr (fun i hi => by match i, hi with | 0, _ => rfl | 1, _ => rfl | 2, _ => rfl | 3, _ => rfl | 4, _ => rfl | 5, _ => rfl | i + 6, h => exact absurd h (by omega))
theorem SRow.setL {w : World} {gs g : Nat} {m s : Int} {v : Value} {h lk : Int} (q : SRow w gs g m s v h lk) (x : Int) : SRow (w.setCell ⟨gs, 5, none⟩ (.int .i64 x)) gs g m s v h x :=
  (World.rowIs.set q 5 _).congr (fun i hi => by match i, hi with | 0, _ => rfl | 1, _ => rfl | 2, _ => rfl | 3, _ => rfl | 4, _ => rfl | 5, _ => rfl | i + 6, h => exact absurd h (by omega))
/-- A row of another type lies in another block. -/
theorem way_row {w : World} {B l g n : Nat} {v : Value} {zs : List Int} {t : TypeId} {f : Nat → Value} (h : OwnW w B v l zs) (q : w.rowIs g t n f) (ht : t ≠ 107) : v.ownBlock ≠ some g := by
  intro e
  rcases h.2 with ⟨rfl, _⟩ | ⟨g2, cap, cur, rfl, _, hw, _⟩
  · cases e
  have e : g2 = g := Option.some.inj e
  subst e
  obtain ⟨c, hc, _⟩ := q
  rw [hw] at hc
  simp only [Option.some.injEq, Obj.cells.injEq] at hc
  exact ht hc.2.1.symm
theorem int_row {w : World} {B g n : Nat} {v : Value} {zs : List Int} {t : TypeId} {f : Nat → Value} (h : ints.Own w B v zs) (q : w.rowIs g t n f) (ht : t ≠ 3) : v.ownBlock ≠ some g := by
  intro e
  rcases h.2 with ⟨rfl, _⟩ | ⟨g2, cap, cur, rfl, _, hw, _⟩
  · cases e
  have e : g2 = g := Option.some.inj e
  subst e
  obtain ⟨c, hc, _⟩ := q
  rw [hw] at hc
  simp only [Option.some.injEq, Obj.cells.injEq] at hc
  exact ht hc.2.1.symm
theorem row_row {w : World} {g g' n n' : Nat} {t t' : TypeId} {f f' : Nat → Value} (h : w.rowIs g t n f) (h' : w.rowIs g' t' n' f') (ht : t ≠ t') : g ≠ g' := by
  intro e
  subst e
  obtain ⟨c, hc, _⟩ := h
  obtain ⟨c', hc', _⟩ := h'
  rw [hc] at hc'
  simp only [Option.some.injEq, Obj.cells.injEq] at hc'
  exact ht hc'.2.1
structure Site (Wb w : World) (pa : Option Addr) (n pcap : Nat) (st : Int) (cs : Nat → Dv) (g gs : Nat) (m : Int) (c : Cst) (v : Value) : Prop where
  row : SRow w gs g m c.s v c.h c.lk
  look : ∃ d, LookB w g pa n pcap st cs d
  ways : OwnW w Wb.heap.size v c.l c.zs
  bel : Below Wb.heap.size Wb w
  lg : Wb.heap.size ≤ g
  ls : Wb.heap.size ≤ gs
/-- What may turn in a call. -/
def Turn (g gs : Nat) (v : Value) (x : Nat) : Prop := x = g ∨ x = gs ∨ v.ownBlock = some x
theorem Site.ne {Wb w : World} {pa : Option Addr} {n pcap : Nat} {st : Int} {cs : Nat → Dv} {g gs : Nat} {m : Int} {c : Cst} {v : Value} (h : Site Wb w pa n pcap st cs g gs m c v) : g ≠ gs ∧ v.ownBlock ≠ some g ∧ v.ownBlock ≠ some gs := by
  obtain ⟨d, hd⟩ := h.look
  exact ⟨row_row hd h.row (by decide), way_row h.ways hd (by decide), way_row h.ways h.row (by decide)⟩
theorem Site.kept {Wb w w' : World} {pa : Option Addr} {n pcap : Nat} {st : Int} {cs : Nat → Dv} {g gs : Nat} {m : Int} {c : Cst} {v : Value} (h : Site Wb w pa n pcap st cs g gs m c v) (hb : Below w.heap.size w w') : Site Wb w' pa n pcap st cs g gs m c v := by
  obtain ⟨d, hd⟩ := h.look
  exact ⟨World.rowIs.of_block h.row (hb.block _ (World.rowIs.lt h.row)), ⟨d, World.rowIs.of_block hd (hb.block _ (World.rowIs.lt hd))⟩, h.ways.kept hb, h.bel.trans (hb.mono h.bel.size), h.lg, h.ls⟩
/-- The lookup alone has turned. -/
theorem Site.looked {Wb w w' : World} {pa : Option Addr} {n pcap : Nat} {st : Int} {cs : Nat → Dv} {g gs : Nat} {m : Int} {c : Cst} {v : Value} (h : Site Wb w pa n pcap st cs g gs m c v) (ho : OnlyF w w' (fun x => x = g)) (hl : ∃ d, LookB w' g pa n pcap st cs d) : Site Wb w' pa n pcap st cs g gs m c v := by
  obtain ⟨n1, n2, n3⟩ := h.ne
  refine ⟨World.rowIs.of_block h.row (ho.block _ (World.rowIs.lt h.row) (fun e => n1 e.symm)), hl, ?_, h.bel.trans (ho.below h.bel.size (fun x hx => by rw [hx]; exact h.lg)), h.lg, h.ls⟩
  refine ⟨h.ways.1, ?_⟩
  rcases h.ways.2 with q | ⟨g2, cap, cur, e, hg, hw, r⟩
  · exact Or.inl q
  · have hl2 := (World.ownsRow.lt h.ways g2 (by rw [e]; rfl)).2
    exact Or.inr ⟨g2, cap, cur, e, hg, (ho.block g2 hl2 (fun q => n2 (by rw [e, ← q]; rfl))).trans hw, r⟩
/-- One cell of the site's row. -/
theorem Site.set {Wb w : World} {pa : Option Addr} {n pcap : Nat} {st : Int} {cs : Nat → Dv} {g gs : Nat} {m : Int} {c c' : Cst} {v v' : Value} (h : Site Wb w pa n pcap st cs g gs m c v) (i : Nat) (u : Value) (hr : SRow (w.setCell ⟨gs, i, none⟩ u) gs g m c'.s v' c'.h c'.lk) (hw : OwnW (w.setCell ⟨gs, i, none⟩ u) Wb.heap.size v' c'.l c'.zs) : Site Wb (w.setCell ⟨gs, i, none⟩ u) pa n pcap st cs g gs m c' v' := by
  obtain ⟨d, hd⟩ := h.look
  exact ⟨hr, ⟨d, World.rowIs.setOther hd h.ne.1 _⟩, hw, h.bel.setCell h.ls _, h.lg, h.ls⟩
theorem Site.ways_set {Wb w : World} {pa : Option Addr} {n pcap : Nat} {st : Int} {cs : Nat → Dv} {g gs : Nat} {m : Int} {c : Cst} {v : Value} (h : Site Wb w pa n pcap st cs g gs m c v) (i : Nat) (u : Value) : OwnW (w.setCell ⟨gs, i, none⟩ u) Wb.heap.size v c.l c.zs := by
  refine ⟨h.ways.1, ?_⟩
  rcases h.ways.2 with q | ⟨g2, cap, cur, e, hg, hw, r⟩
  · exact Or.inl q
  · exact Or.inr ⟨g2, cap, cur, e, hg, (Below.heap_setCell _ _ _ _ (by show g2 ≠ gs; intro q; exact h.ne.2.2 (by rw [e, ← q]; rfl))).trans hw, r⟩
set_option maxHeartbeats 8000000 in
theorem impl_remembered (cs : Nat → Dv) (n m : Nat) (k : Int) (c : Cst) (gs g : Nat) (mm : Int) (a : Option Addr) (cap : Nat) (w : World) (hg : Hid (GoodC cs n m c)) (hr : Hid (SRow w gs g mm c.s (.slice a c.l cap) c.h c.lk)) (hi : Hid (Ints w a c.zs)) :
    Calls Try.prog 68 #[.pointer (some ⟨gs, 0, none⟩), .int .i64 k] w fun e w' => e = .returned (.tuple #[.int .i64 (if metB c.zs k c.l then findC cs k m else 0), .bool (metB c.zs k c.l)]) ∧ Below w.heap.size w w' := by
  have hl : Hid (c.zs.length = c.l * 2) := hg.out.len
  have hl4 := hg.out.few
  have hw3 := hr.out.cells.2.2.2.1
  obtain ⟨R, HR⟩ : ∃ R, Hid (metB c.zs k c.l = R) := ⟨_, rfl⟩
  obtain ⟨T, HT⟩ : ∃ T, Hid ((if metB c.zs k c.l then findC cs k m else 0) = T) := ⟨_, rfl⟩
  rw [HT.out, HR.out]
  go_enter Try.func68, Try.ntmps68
  go_wp2
  clear hw3
  go_loopw [13] (fun vi wr => ∃ i : Nat, i ≤ c.l ∧ vi = .int .i64 i ∧ Hid (∀ j, j < i → clZ c.zs j ≠ k) ∧ Hid (Below w.heap.size w wr)) (fun vi _ => c.l - (intOf vi).toNat)
  case atStart => exact ⟨0, Nat.zero_le _, rfl, fun j hj => by omega, Below.refl _ _⟩
  case round =>
    obtain ⟨i, hil, rfl, HN, HB⟩ := hrel
    by_cases hlt : i < c.l
    rotate_left
    · have e : i = c.l := by omega
      have HM : Hid (R = false) := by show _ = _; rw [← HR.out, ← e]; exact met_no HN.out
      have HT0 : Hid (T = 0) := by show _ = _; rw [← HT.out, HR.out, HM.out]; rfl
      go_wp2
      go_ret2
      exact ⟨by rw [HM.out, HT0.out]; rfl, HB.out⟩
    have hltI : (i : Int) < (c.l : Int) := by omega
    obtain ⟨b, o, ha, hbw, c0, c3⟩ := way_at hi.out hl.out HB.out hlt
    have HW := hg.out.way i hlt
    have HF : Hid (findC cs (clZ c.zs i) m = tgZ c.zs i) := HW.2.2.1
    clear HW
    obtain ⟨kj, HKJ⟩ : ∃ kj, Hid (clZ c.zs i = kj) := ⟨_, rfl⟩
    obtain ⟨tj, HTJ⟩ : ∃ tj, Hid (tgZ c.zs i = tj) := ⟨_, rfl⟩
    rw [HKJ.out] at c0 HF
    rw [HTJ.out] at c3 HF
    subst ha
    have hbr : b < wr.heap.size := by have := HB.out.size; omega
    obtain ⟨Y, hY⟩ : ∃ Y, Hid (wr.alloc (.cells #[.int .i64 kj, .int .i64 tj] 107) = Y) := ⟨_, rfl⟩
    have HYB : Hid (Below wr.heap.size wr Y) := by show Below _ _ _; rw [← hY.out]; repeat (first | exact Below.refl _ _ | refine Below.drew ?_ | refine Below.setCell ?_ (by simp; try omega) _ | refine Below.alloc ?_ (by simp; try omega) _)
    have HYC : Hid (Below w.heap.size w Y) := HB.out.trans (HYB.out.mono HB.out.size)
    have y0 : Y.cell? ⟨wr.heap.size, 0, none⟩ = some (.int .i64 kj) := by rw [← hY.out]; go_simp
    have y1 : Y.cell? ⟨wr.heap.size, 1, none⟩ = some (.int .i64 tj) := by rw [← hY.out]; go_simp
    go_upto_region 4 with fail
    rw [hY.out]
    by_cases hk : kj = k
    · subst hk
      have HM : Hid (R = true) := by show _ = _; rw [← HR.out]; exact met_yes HKJ.out hlt
      have HT0 : Hid (T = tj) := by show _ = _; rw [← HT.out, HR.out, HM.out, ← HF.out]; rfl
      go_wp2
      go_ret2
      exact ⟨by rw [HM.out, HT0.out]; rfl, HYC.out⟩
    · have d1 : (kj == k) = false := by simpa using hk
      have d2 : decide (kj = k) = false := decide_eq_false hk
      have HN' : Hid (∀ j, j < i + 1 → clZ c.zs j ≠ k) := fun j hj => by
        by_cases e : j = i
        · subst e; rw [HKJ.out]; exact hk
        · exact HN.out j (by omega)
      clear hk
      go_wp2
      go_roundw
      case rel => exact ⟨i + 1, by omega, by go_num, HN', HYC⟩
      case measure => simp [intOf]; omega
end Go.Proofs.Yticgipmaflhplaa.walks
