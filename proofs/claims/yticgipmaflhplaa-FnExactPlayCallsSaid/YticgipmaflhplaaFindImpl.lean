/-
  What the program's lookupIn, find and FindMethod answer.
-/
import Derived.Test.YticgipmaflhplaaProg
import Derived.Test.YticgipmaflhplaaMagMath
import Derived.Test.YticgipmaflhplaaWorldMath
import Derived.Test.YticgipmaflhplaaLookMath
import Derived.Test.YticgipmaflhplaaInts
import Derived.Test.YticgipmaflhplaaDeep
import Derived.Test.YticgipmaflhplaaDeepRow
import Derived.Test.YticgipmaflhplaaDeepC
import Derived.Test.YticgipmaflhplaaWorldSpec
import Derived.Test.YticgipmaflhplaaWorldImpl
import Derived.Test.YticgipmaflhplaaTableImpl
import Derived.Test.YticgipmaflhplaaOnceImpl
import Derived.WalkKit
import Derived.WalkSpells
import Derived.Below
import Derived.Handy
import Derived.Defers
import Derived.Deep.DeepFit
import Derived.Laws.EntriesVeiled
namespace Go.Proofs.Yticgipmaflhplaa.walks
open Go.RowKit Go.Proofs.Yticgipmaflhplaa.math Go.Proofs.Yticgipmaflhplaa.ints Go.Proofs.Yticgipmaflhplaa.deep
set_option linter.unusedVariables false
set_option maxRecDepth 100000

theorem Look.set2 {w : World} {g : Nat} {a : Option Addr} {n cap : Nat} {st : Int} {v2 v3 v4 : Value} {T : Nat → Value} (h : Look w g a n cap st v2 v3 v4 T) (u : Value) : Look (w.setCell ⟨g, 2, none⟩ u) g a n cap st u v3 v4 T :=
  World.rowIs.congr (World.rowIs.set h 2 u) (fun i _ => look_v2 i)
theorem Look.set3 {w : World} {g : Nat} {a : Option Addr} {n cap : Nat} {st : Int} {v2 v3 v4 : Value} {T : Nat → Value} (h : Look w g a n cap st v2 v3 v4 T) (u : Value) : Look (w.setCell ⟨g, 3, none⟩ u) g a n cap st v2 u v4 T :=
  World.rowIs.congr (World.rowIs.set h 3 u) (fun i _ => look_v3 i)
/-- A lookup of a world: its table is not made yet, or made. -/
def LookB (w : World) (g : Nat) (a : Option Addr) (n cap : Nat) (st : Int) (cs : Nat → Dv) (d : Bool) : Prop := Look w g a n cap st (.int .u32 (if d then 1 else 0)) (.int .i32 0) (.int .u32 0) (tabT cs (if d then n else 0))
set_option maxHeartbeats 8000000 in
/-- The table is made, under the lock. -/
theorem impl_slow (g : Nat) (a : Option Addr) (n cap : Nat) (cs : Nat → Dv) (st : Int) (c : Bool) (Wb W : World) (hf : Hid (Fits shClassS (.l n 2 cs))) (hw : Hid (worldB cs n st = true)) (h : Hid (Holds Wb c (.l n 2 cs) (.slice a n cap))) (hb : Hid (Below Wb.heap.size Wb W)) (hg : Wb.heap.size ≤ g)
    (hL : Hid (LookB W g a n cap st cs false)) :
    Calls Try.prog 74 #[.pointer (some ⟨g, 2, none⟩), .func (.func 61) #[.pointer (some ⟨g, 0, none⟩)] #[]] W fun e W' => e = .returned (.tuple #[]) ∧ LookB W' g a n cap st cs true ∧ OnlyF W W' (fun x => x = g) := by
  have hnot : ∀ (x : Bool) (w : World), (Op.unary .not (.bool x)).run Try.prog w = .ok (.bool (!x)) w := fun _ _ => rfl
  have c3 : W.cell? ⟨g, 3, none⟩ = some (.int .i32 0) := World.rowIs.cell hL.out (i := 3) (by decide)
  have z3 : W.frozen? ⟨g, 3, none⟩ = false := World.rowIs.frozen hL.out 3
  have hgw : g < W.heap.size := World.rowIs.lt hL.out
  obtain ⟨W1, hW1⟩ : ∃ W1, Hid (W.setCell ⟨g, 3, none⟩ (.int .i32 1) = W1) := ⟨_, rfl⟩
  have L1 : Hid (Look W1 g a n cap st (.int .u32 0) (.int .i32 1) (.int .u32 0) (tabT cs 0)) := by
    show Look _ _ _ _ _ _ _ _ _ _
    rw [← hW1.out]; exact Look.set3 hL.out _
  have O1 : Hid (OnlyF W W1 (fun x => x = g)) := by show OnlyF _ _ _; rw [← hW1.out]; exact only_set (F := fun x => x = g) (OnlyF.refl _ _) rfl _
  have B1 : Hid (Below Wb.heap.size Wb W1) := hb.out.trans (O1.out.below hb.out.size (fun x hx => by rw [hx]; exact hg))
  have d2 : W1.cell? ⟨g, 2, none⟩ = some (.int .u32 0) := World.rowIs.cell L1.out (i := 2) (by decide)
  have hc1 := lock_free ⟨g, 3, none⟩ W c3 z3
  rw [hW1.out] at hc1
  have hc2 := once_load ⟨g, 2, none⟩ 0 W1 false rfl d2
  have hc3 := impl_table g a n cap cs st (.int .u32 0) (.int .i32 1) (.int .u32 0) c Wb W1 hf hw h B1 hg L1
  go_enter_defers Try.func74, Try.ntmps74
  go_wp2_with (first | (go_at_call 81; refine hc1.mono ?_; rintro e w' ⟨rfl, hw'⟩; rw [hw']; clear hw' w') | (go_at_call 73; refine hc2.mono ?_; rintro e w' ⟨rfl, hw'⟩; rw [hw']; clear hw' w') | (go_at_call 61; refine hc3.mono ?_; rintro e w2 ⟨rfl, hL2, hO2⟩))
  have L2 : Hid (Look w2 g a n cap st (.int .u32 0) (.int .i32 1) (.int .u32 0) (tabT cs n)) := hL2
  have O2 : Hid (OnlyF W1 w2 (fun x => x = g)) := hO2
  clear hL2 hO2 hc1 hc2 hc3
  have e2 : w2.cell? ⟨g, 2, none⟩ = some (.int .u32 0) := World.rowIs.cell L2.out (i := 2) (by decide)
  have f2 : w2.frozen? ⟨g, 2, none⟩ = false := World.rowIs.frozen L2.out 2
  have L3 : Hid (Look (w2.drew.setCell ⟨g, 2, none⟩ (.int .u32 1)) g a n cap st (.int .u32 1) (.int .i32 1) (.int .u32 0) (tabT cs n)) := Look.set2 (w := w2.drew) L2.out _
  have e3 : (w2.drew.setCell ⟨g, 2, none⟩ (.int .u32 1)).cell? ⟨g, 3, none⟩ = some (.int .i32 1) := World.rowIs.cell L3.out (i := 3) (by decide)
  have f3 : (w2.drew.setCell ⟨g, 2, none⟩ (.int .u32 1)).frozen? ⟨g, 3, none⟩ = false := World.rowIs.frozen L3.out 3
  show Leaves _ _ _ _ _ _ _
  refine leaves_cons (f := 83) (args := #[.pointer (some ⟨g, 2, none⟩), .bool true]) (by simp) (by simp [go_sem]) ?_
  refine (store_deferred ⟨g, 2, none⟩ (.int .u32 0) .returning _ e2 f2).mono ?_
  rintro e u' w'' ⟨rfl, rfl, rfl⟩
  refine leaves_cons (f := 82) (args := #[.pointer (some ⟨g, 3, none⟩)]) (by simp [settle]) (by simp [go_sem]) ?_
  refine (unlock_deferred ⟨g, 3, none⟩ _ _ e3 f3).mono ?_
  rintro e u' w'' ⟨rfl, rfl, rfl⟩
  refine ⟨.tuple #[], by simp [results, Try.results74], rfl, ?_, ?_⟩
  · exact Look.set3 L3.out _
  · have s : ∀ (w : World) (i : Nat) (u : Value), OnlyF W1 w (fun x => x = g) → OnlyF W1 (w.setCell ⟨g, i, none⟩ u) (fun x => x = g) := fun w i u q => only_set q (F := fun x => x = g) rfl u
    exact O1.out.trans (s _ _ _ (s _ _ _ (only_drew O2.out)))
set_option maxHeartbeats 8000000 in
/-- .. if it is not made yet. -/
theorem impl_do (g : Nat) (a : Option Addr) (n cap : Nat) (cs : Nat → Dv) (st : Int) (d c : Bool) (Wb W : World) (hf : Hid (Fits shClassS (.l n 2 cs))) (hw : Hid (worldB cs n st = true)) (h : Hid (Holds Wb c (.l n 2 cs) (.slice a n cap))) (hb : Hid (Below Wb.heap.size Wb W)) (hg : Wb.heap.size ≤ g)
    (hL : Hid (LookB W g a n cap st cs d)) :
    Calls Try.prog 60 #[.pointer (some ⟨g, 2, none⟩), .func (.func 61) #[.pointer (some ⟨g, 0, none⟩)] #[]] W fun e W' => e = .returned (.tuple #[]) ∧ LookB W' g a n cap st cs true ∧ OnlyF W W' (fun x => x = g) := by
  have hnot : ∀ (x : Bool) (w : World), (Op.unary .not (.bool x)).run Try.prog w = .ok (.bool (!x)) w := fun _ _ => rfl
  cases d
  · have d2 : W.cell? ⟨g, 2, none⟩ = some (.int .u32 0) := World.rowIs.cell hL.out (i := 2) (by decide)
    have hc2 := once_load ⟨g, 2, none⟩ 0 W false rfl d2
    have hc3 := impl_slow g a n cap cs st c Wb W hf hw h hb hg hL
    go_enter Try.func60, Try.ntmps60
    go_wp2_with (first | (go_at_call 73; refine hc2.mono ?_; rintro e w' ⟨rfl, hw'⟩; rw [hw']; clear hw' w') | (go_at_call 74; refine hc3.mono ?_; rintro e w2 ⟨rfl, hL2, hO2⟩))
    go_end0
    exact ⟨rfl, hL2, hO2⟩
  · have d2 : W.cell? ⟨g, 2, none⟩ = some (.int .u32 1) := World.rowIs.cell hL.out (i := 2) (by decide)
    have hc2 := once_load ⟨g, 2, none⟩ 1 W true rfl d2
    go_enter Try.func60, Try.ntmps60
    go_wp2_with (go_at_call 73; refine hc2.mono ?_; rintro e w' ⟨rfl, hw'⟩; rw [hw']; clear hw' w')
    go_end0
    exact ⟨rfl, hL.out, OnlyF.refl _ _⟩
theorem impl_target (x : Int) (W : World) : Calls Try.prog 75 #[.int .i64 x] W fun e W' => e = .returned (.int .i64 x) ∧ W' = W := by
  go_enter Try.func75, Try.ntmps75
  go_wp2
  go_ret
  exact ⟨rfl, rfl⟩
/-- What 'find' tells. -/
def FindAns (W : World) (g : Nat) (a : Option Addr) (n cap : Nat) (st : Int) (cs : Nat → Dv) (k m : Int) (e : Ending) (W' : World) : Prop := e = .returned (.tuple #[.int .i64 (findV cs n st k m), .bool (findB cs n st k m)]) ∧ (∃ d, LookB W' g a n cap st cs d) ∧ OnlyF W W' (fun x => x = g)
set_option maxHeartbeats 8000000 in
theorem impl_find (g : Nat) (a : Option Addr) (n cap : Nat) (cs : Nat → Dv) (st k m : Int) (d c : Bool) (Wb W : World) (hf : Hid (Fits shClassS (.l n 2 cs))) (hw : Hid (worldB cs n st = true)) (h : Hid (Holds Wb c (.l n 2 cs) (.slice a n cap))) (hb : Hid (Below Wb.heap.size Wb W)) (hg : Wb.heap.size ≤ g)
    (hL : Hid (LookB W g a n cap st cs d)) :
    Calls Try.prog 43 #[.pointer (some ⟨g, 0, none⟩), .int .i64 k, .int .i64 m] W fun e W' => FindAns W g a n cap st cs k m e W' := by
  obtain ⟨⟨hn0, hn1⟩, _, hok⟩ := world_out hw.out
  have HOK : Hid (∀ k, k < n → ClassOk cs k) := hok
  clear hok
  have hmf : ∀ (fn : Fn) (first cap : Array Value) (w : World), (Instr.makeFunc fn first cap).run Try.prog w = .ok (.func fn first cap) w := fun _ _ _ _ => rfl
  have hgw : g < W.heap.size := World.rowIs.lt hL.out
  obtain ⟨r0, r1⟩ := Look.world hL.out
  have HNO : Hid (okF cs n st k m = false → findV cs n st k m = 0 ∧ findB cs n st k m = false) := fun q => by
    have e : findV cs n st k m = 0 := by unfold findV; rw [q]; rfl
    exact ⟨e, by unfold findB; rw [e]; rfl⟩
  cases hk : inR k 0 ((n : Int) - 1)
  · obtain ⟨p0, p1⟩ := HNO.out (by unfold okF; rw [hk]; simp)
    have HA : Hid (∀ W', LookB W' g a n cap st cs d → OnlyF W W' (fun x => x = g) → FindAns W g a n cap st cs k m (.returned (.tuple #[.int .i64 0, .bool false])) W') := fun W' q1 q2 => ⟨by rw [p0, p1], ⟨d, q1⟩, q2⟩
    have hc := impl_class (a := a) (cap := cap) (st := st) hk (by omega) W
    clear p0 p1
    go_enter Try.func43, Try.ntmps43
    go_wp2_with (go_at_call 45; refine hc.mono ?_; rintro e w1 ⟨rfl, hB1⟩)
    go_ret2
    exact HA.out _ (World.rowIs.of_block hL.out (hB1.block _ hgw)) (OnlyF.of_below hB1)
  cases hm : inR m 0 4
  · obtain ⟨p0, p1⟩ := HNO.out (by unfold okF; rw [hm]; simp)
    have HA : Hid (∀ W', LookB W' g a n cap st cs d → OnlyF W W' (fun x => x = g) → FindAns W g a n cap st cs k m (.returned (.tuple #[.int .i64 0, .bool false])) W') := fun W' q1 q2 => ⟨by rw [p0, p1], ⟨d, q1⟩, q2⟩
    have hc := impl_class (a := a) (cap := cap) (st := st) hk (by omega) W
    clear p0 p1
    go_enter Try.func43, Try.ntmps43
    go_wp2_with (first | (go_at_call 45; refine hc.mono ?_; rintro e w1 ⟨rfl, hB1⟩) | (go_at_call 46; refine (mname_quiet hm _).mono ?_; rintro e w' ⟨rfl, hw'⟩; rw [hw']; clear hw' w'))
    go_ret2
    exact HA.out _ (World.rowIs.of_block hL.out (hB1.block _ hgw)) (OnlyF.of_below hB1)
  obtain ⟨k0, k1⟩ := inR_out hk
  obtain ⟨m0, m1⟩ := inR_out hm
  have HOKF : Hid (okF cs n st k m = true) := by show _ = _; unfold okF; rw [hw.out, hk, hm]; rfl
  obtain ⟨kk, rfl⟩ : ∃ q : Nat, k = (q : Int) := ⟨k.toNat, by omega⟩
  obtain ⟨mm, rfl⟩ : ∃ q : Nat, m = (q : Int) := ⟨m.toNat, by omega⟩
  have hkn : kk < n := by omega
  have hm5 : mm < 5 := by omega
  have hk8 : kk < 8 := by omega
  have HV : Hid (findV cs n st (kk : Int) (mm : Int) = findC cs (kk : Int) mm) := by show _ = _; unfold findV; rw [HOKF.out]; rfl
  have HGE := (find_le HOK.out hm5 ((kk : Int).toNat + 2) (kk : Int) (by omega)).1
  have HGE : Hid (0 ≤ findC cs (kk : Int) mm) := HGE
  obtain ⟨x, HX⟩ : ∃ x, Hid (findC cs (kk : Int) mm = x) := ⟨_, rfl⟩
  have HA : Hid (∀ W', LookB W' g a n cap st cs true → OnlyF W W' (fun x => x = g) → FindAns W g a n cap st cs (kk : Int) (mm : Int) (.returned (.tuple #[.int .i64 x, .bool (decide (0 < x))])) W') := fun W' q1 q2 => ⟨by unfold findB; rw [HV.out, HX.out], ⟨true, q1⟩, q2⟩
  have HC : Hid (∀ w1, Below W.heap.size W w1 → Calls Try.prog 60 #[.pointer (some ⟨g, 2, none⟩), .func (.func 61) #[.pointer (some ⟨g, 0, none⟩)] #[]] w1 fun e W' => e = .returned (.tuple #[]) ∧ LookB W' g a n cap st cs true ∧ OnlyF w1 W' (fun x => x = g)) := fun w1 q =>
    impl_do g a n cap cs st d c Wb w1 hf hw h (hb.out.trans (q.mono hb.out.size)) hg (World.rowIs.of_block hL.out (q.block _ hgw))
  have hc := impl_class (a := a) (cap := cap) (st := st) hk (by omega) W
  have HKK : Hid (tabT cs n (kk * 5 + mm) = fnV x) := by show _ = _; rw [tab_at hkn hm5, HX.out]
  rw [HX.out] at HGE
  have hge := HGE.out
  clear HNO HOK HOKF HV HX HGE
  go_enter Try.func43, Try.ntmps43
  go_wp2_with (first | (go_at_call 45; refine hc.mono ?_; rintro e w1 ⟨rfl, hB1⟩; have B1 : Hid (Below W.heap.size W w1) := hB1; clear hB1) | (go_at_call 46; refine (mname_quiet hm _).mono ?_; rintro e w' ⟨rfl, hw'⟩; rw [hw']; clear hw' w'))
  refine (HC.out w1 B1.out).mono ?_
  rintro e w2 ⟨rfl, hL2, hO2⟩
  have L2 : Hid (LookB w2 g a n cap st cs true) := hL2
  have O2 : Hid (OnlyF W w2 (fun x => x = g)) := (OnlyF.of_below B1.out).trans hO2
  clear hL2 hO2
  have c2 := Look.tab L2.out (q := kk * 5 + mm) (by omega)
  rw [show (if true = true then n else 0) = n from rfl, HKK.out, ← Nat.add_assoc] at c2
  have hkI : (kk : Int) < 8 := by omega
  have hmI : (mm : Int) < 5 := by omega
  have he1 : ∀ w, (binOp .eql 99 .nilFunc .nilFunc).run Try.prog w = .ok (.bool true) w := fun _ => by kernel_rfl
  have he2 : ∀ x w, (binOp .eql 99 (.func (.func 75) #[.int .i64 x] #[]) .nilFunc).run Try.prog w = .ok (.bool false) w := fun _ _ => by kernel_rfl
  by_cases hx : x = 0
  · subst hx
    rw [fnV_zero] at c2
    go_wp2
    go_ret2
    exact HA.out _ L2.out O2.out
  · have hxp : 0 < x := by omega
    have hd : decide (0 < x) = true := decide_eq_true hxp
    rw [hd] at HA
    rw [fnV_pos hxp] at c2
    clear hx hd
    go_wp2_with (go_at_call 75; refine (impl_target _ _).mono ?_; rintro e w' ⟨rfl, hw'⟩; rw [hw']; clear hw' w')
    go_ret2
    exact HA.out _ L2.out O2.out
/-- A lookup in a good world. -/
def InAns (W : World) (a : Option Addr) (n cap : Nat) (st : Int) (cs : Nat → Dv) (e : Ending) (W' : World) : Prop := Below W.heap.size W W' ∧ ((worldB cs n st = false ∧ e = .returned (.tuple #[.pointer none, .bool false])) ∨ (worldB cs n st = true ∧ ∃ g, W.heap.size ≤ g ∧ e = .returned (.tuple #[.pointer (some ⟨g, 0, none⟩), .bool true]) ∧ LookB W' g a n cap st cs false))
theorem look_lit (v0 v1 : Value) : ∀ i, i < 45 → (#[v0, v1, .int .u32 0, .int .i32 0, .int .u32 0, .nilFunc, .nilFunc, .nilFunc, .nilFunc, .nilFunc, .nilFunc, .nilFunc, .nilFunc, .nilFunc, .nilFunc, .nilFunc, .nilFunc, .nilFunc, .nilFunc, .nilFunc, .nilFunc, .nilFunc, .nilFunc, .nilFunc, .nilFunc, .nilFunc, .nilFunc, .nilFunc, .nilFunc, .nilFunc, .nilFunc, .nilFunc, .nilFunc, .nilFunc, .nilFunc, .nilFunc, .nilFunc, .nilFunc, .nilFunc, .nilFunc, .nilFunc, .nilFunc, .nilFunc, .nilFunc, .nilFunc] : Array Value)[i]? = some (lookC v0 v1 (.int .u32 0) (.int .i32 0) (.int .u32 0) (fun _ => .nilFunc) i)
  | 0, _ => rfl
  | 1, _ => rfl
  | 2, _ => rfl
  | 3, _ => rfl
  | 4, _ => rfl
  | 5, _ => rfl
  | 6, _ => rfl
  | 7, _ => rfl
  | 8, _ => rfl
  | 9, _ => rfl
  | 10, _ => rfl
  | 11, _ => rfl
  | 12, _ => rfl
  | 13, _ => rfl
  | 14, _ => rfl
  | 15, _ => rfl
  | 16, _ => rfl
  | 17, _ => rfl
  | 18, _ => rfl
  | 19, _ => rfl
  | 20, _ => rfl
  | 21, _ => rfl
  | 22, _ => rfl
  | 23, _ => rfl
  | 24, _ => rfl
  | 25, _ => rfl
  | 26, _ => rfl
  | 27, _ => rfl
  | 28, _ => rfl
  | 29, _ => rfl
  | 30, _ => rfl
  | 31, _ => rfl
  | 32, _ => rfl
  | 33, _ => rfl
  | 34, _ => rfl
  | 35, _ => rfl
  | 36, _ => rfl
  | 37, _ => rfl
  | 38, _ => rfl
  | 39, _ => rfl
  | 40, _ => rfl
  | 41, _ => rfl
  | 42, _ => rfl
  | 43, _ => rfl
  | 44, _ => rfl
  | i + 45, h => absurd h (by omega)
theorem look_new (W : World) (a : Option Addr) (n cap : Nat) (cs : Nat → Dv) (st : Int) (c : Array Value) (hc : c.size = 45) (h : ∀ i, i < 45 → c[i]? = some (lookC (.slice a n cap) (.int .i64 st) (.int .u32 0) (.int .i32 0) (.int .u32 0) (fun _ => .nilFunc) i)) : LookB (W.alloc (.cells c 103)) W.heap.size a n cap st cs false := by
  have q := World.rowIs_alloc W c 103 _ (fun i hi => h i (by omega))
  rw [hc] at q
  exact World.rowIs.congr q (fun i _ => by rw [show (fun _ : Nat => Value.nilFunc) = tabT cs 0 from funext (fun i => (tab_none i).symm)]; rfl)
set_option maxHeartbeats 8000000 in
theorem impl_lookupin (a : Option Addr) (n cap : Nat) (cs : Nat → Dv) (st : Int) (c : Bool) (W : World) (hf : Hid (Fits shClassS (.l n 2 cs))) (hs : Hid (szD (.l n 2 cs) ≤ 1048576)) (h : Hid (Holds W c (.l n 2 cs) (.slice a n cap))) :
    Calls Try.prog 42 #[.agg #[.slice a n cap, .int .i64 st]] W fun e W' => InAns W a n cap st cs e W' := by
  obtain ⟨X, hX⟩ : ∃ X, Hid (W.alloc (.cells #[.slice a n cap, .int .i64 st] 29) = X) := ⟨_, rfl⟩
  have HX : Hid (Below W.heap.size W X) := by show Below _ _ _; rw [← hX.out]; repeat (first | exact Below.refl _ _ | refine Below.drew ?_ | refine Below.setCell ?_ (by simp; try omega) _ | refine Below.alloc ?_ (by simp; try omega) _)
  have HRX : Hid (X.rowIs W.heap.size 29 2 (rowF [.slice a n cap, .int .i64 st])) := by show World.rowIs _ _ _ _ _; rw [← hX.out]; exact row_of W #[.slice a n cap, .int .i64 st] _
  have hc := impl_world a n cap cs st c X hf hs (h.out.kept HX.out)
  cases hw : worldB cs n st
  · rw [hw] at hc
    have HA : Hid (∀ W', Below W.heap.size W W' → InAns W a n cap st cs (.returned (.tuple #[.pointer none, .bool false])) W') := fun W' q => ⟨q, Or.inl ⟨hw, rfl⟩⟩
    go_enter Try.func42, Try.ntmps42
    go_wp2_with (go_at_call 12; rw [hX.out]; refine hc.mono ?_; rintro e w1 ⟨rfl, hB1⟩)
    go_ret2
    exact HA.out _ (HX.out.trans (hB1.mono HX.out.size))
  · rw [hw] at hc
    have HA : Hid (∀ g W', Below W.heap.size W W' → W.heap.size ≤ g → LookB W' g a n cap st cs false → InAns W a n cap st cs (.returned (.tuple #[.pointer (some ⟨g, 0, none⟩), .bool true])) W') := fun g W' q1 q2 q3 => ⟨q1, Or.inr ⟨hw, g, q2, rfl, q3⟩⟩
    go_enter Try.func42, Try.ntmps42
    go_wp2_with (go_at_call 12; rw [hX.out]; refine hc.mono ?_; rintro e w1 ⟨rfl, hB1⟩; have B1 : Hid (Below W.heap.size W w1) := HX.out.trans (hB1.mono HX.out.size); have R1 : Hid (w1.rowIs W.heap.size 29 2 (rowF [.slice a n cap, .int .i64 st])) := HRX.out.of_block (hB1.block _ HRX.out.lt); have r0 : w1.cell? ⟨W.heap.size, 0, none⟩ = some (.slice a n cap) := R1.out.cell (i := 0) (by decide); have r1 : w1.cell? ⟨W.heap.size, 1, none⟩ = some (.int .i64 st) := R1.out.cell (i := 1) (by decide); clear hB1)
    go_ret2
    exact HA.out w1.heap.size _ (B1.out.alloc B1.out.size _) B1.out.size (look_new w1 a n cap cs st _ rfl (look_lit _ _))
set_option maxHeartbeats 8000000 in
theorem impl_findm (a : Option Addr) (n cap : Nat) (cs : Nat → Dv) (st k m : Int) (c : Bool) (W : World) (hf : Hid (Fits shClassS (.l n 2 cs))) (hs : Hid (szD (.l n 2 cs) ≤ 1048576)) (h : Hid (Holds W c (.l n 2 cs) (.slice a n cap))) :
    Calls Try.prog 15 #[.agg #[.slice a n cap, .int .i64 st], .int .i64 k, .int .i64 m] W fun e W' => e = .returned (.tuple #[.int .i64 (findV cs n st k m), .bool (findB cs n st k m)]) ∧ Below W.heap.size W W' := by
  obtain ⟨X, hX⟩ : ∃ X, Hid (W.alloc (.cells #[.slice a n cap, .int .i64 st] 29) = X) := ⟨_, rfl⟩
  have HX : Hid (Below W.heap.size W X) := by show Below _ _ _; rw [← hX.out]; repeat (first | exact Below.refl _ _ | refine Below.drew ?_ | refine Below.setCell ?_ (by simp; try omega) _ | refine Below.alloc ?_ (by simp; try omega) _)
  have HH : Hid (Holds X c (.l n 2 cs) (.slice a n cap)) := h.out.kept HX.out
  have hc := impl_lookupin a n cap cs st c X hf hs HH
  cases hw : worldB cs n st
  · have e0 : Hid (findV cs n st k m = 0) := by show _ = _; unfold findV okF; rw [hw]; rfl
    have e1 : Hid (findB cs n st k m = false) := by show _ = _; unfold findB; rw [e0.out]; rfl
    rw [e0.out, e1.out]
    have hc' : Calls Try.prog 42 #[.agg #[.slice a n cap, .int .i64 st]] X fun e W' => e = .returned (.tuple #[.pointer none, .bool false]) ∧ Below X.heap.size X W' := hc.mono (fun e W' q => by
      rcases q.2 with r | r
      · exact ⟨r.2, q.1⟩
      · rw [hw] at r; cases r.1)
    clear hc
    go_enter Try.func15, Try.ntmps15
    go_wp2_with (go_at_call 42; rw [hX.out]; refine hc'.mono ?_; rintro e w1 ⟨rfl, hB1⟩)
    go_ret2
    exact ⟨rfl, HX.out.trans (hB1.mono HX.out.size)⟩
  · have HW : Hid (worldB cs n st = true) := hw
    have hc' : Calls Try.prog 42 #[.agg #[.slice a n cap, .int .i64 st]] X fun e W' => ∃ g, e = .returned (.tuple #[.pointer (some ⟨g, 0, none⟩), .bool true]) ∧ X.heap.size ≤ g ∧ Below X.heap.size X W' ∧ LookB W' g a n cap st cs false := hc.mono (fun e W' q => by
      rcases q.2 with r | ⟨r, g, r1, r2, r3⟩
      · rw [hw] at r; cases r.1
      · exact ⟨g, r2, r1, q.1, r3⟩)
    obtain ⟨V, HV⟩ : ∃ V, Hid (findV cs n st k m = V) := ⟨_, rfl⟩
    obtain ⟨F, HF⟩ : ∃ F, Hid (findB cs n st k m = F) := ⟨_, rfl⟩
    have HC : Hid (∀ g w1, X.heap.size ≤ g → Below X.heap.size X w1 → LookB w1 g a n cap st cs false → Calls Try.prog 43 #[.pointer (some ⟨g, 0, none⟩), .int .i64 k, .int .i64 m] w1 fun e W' => e = .returned (.tuple #[.int .i64 V, .bool F]) ∧ Below W.heap.size W W') := fun g w1 q1 q2 q3 =>
      (impl_find g a n cap cs st k m false c X w1 hf HW HH q2 q1 q3).mono (fun e W' q => ⟨by rw [q.1, HV.out, HF.out], by
        have b1 := HX.out.trans (q2.mono HX.out.size)
        exact b1.trans (q.2.2.below b1.size (fun x hx => by rw [hx]; exact Nat.le_trans HX.out.size q1))⟩)
    rw [HV.out, HF.out]
    clear hc hw
    go_enter Try.func15, Try.ntmps15
    go_wp2_with (first | (go_at_call 42; rw [hX.out]; refine hc'.mono ?_; rintro e w1 ⟨g, rfl, hg1, hB1, hL1⟩) | (go_at_call 43; refine (HC.out g w1 hg1 hB1 hL1).mono ?_; rintro e w2 ⟨rfl, hB2⟩))
    go_ret2
    exact ⟨rfl, hB2⟩
end Go.Proofs.Yticgipmaflhplaa.walks
