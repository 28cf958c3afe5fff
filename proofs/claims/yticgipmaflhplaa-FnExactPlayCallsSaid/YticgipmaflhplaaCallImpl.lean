/-
  What a call at the program's call site tells, and makes of it.
-/
import Derived.Test.YticgipmaflhplaaProg
import Derived.Test.YticgipmaflhplaaMagMath
import Derived.Test.YticgipmaflhplaaWorldMath
import Derived.Test.YticgipmaflhplaaLookMath
import Derived.Test.YticgipmaflhplaaCacheMath
import Derived.Test.YticgipmaflhplaaPlayMath
import Derived.Test.YticgipmaflhplaaInts
import Derived.Test.YticgipmaflhplaaOwnInts
import Derived.Test.YticgipmaflhplaaDeep
import Derived.Test.YticgipmaflhplaaDeepRow
import Derived.Test.YticgipmaflhplaaDeepC
import Derived.Test.YticgipmaflhplaaFindImpl
import Derived.Test.YticgipmaflhplaaSiteImpl
import Derived.Test.YticgipmaflhplaaRemImpl
import Derived.WalkKit
import Derived.WalkSpells
import Derived.Below
import Derived.Handy
import Derived.Deep.DeepFit
import Derived.Deep.RegionHeld3
import Derived.Deep.DeepCutAuto
namespace Go.Proofs.Yticgipmaflhplaa.walks
open Go.RowKit Go.Proofs.Yticgipmaflhplaa.math Go.Proofs.Yticgipmaflhplaa.ints Go.Proofs.Yticgipmaflhplaa.deep
set_option linter.unusedVariables false
set_option maxRecDepth 100000

theorem met_ex {zs : List Int} {k : Int} : ∀ {l : Nat}, metB zs k l = true → ∃ i, i < l ∧ clZ zs i = k
  | 0, h => by cases h
  | l + 1, h => by
    simp only [metB, Bool.or_eq_true] at h
    rcases h with h | h
    · obtain ⟨i, hi, e⟩ := met_ex h; exact ⟨i, by omega, e⟩
    · exact ⟨l, by omega, of_decide_eq_true h⟩
theorem met_has {cs : Nat → Dv} {n m : Nat} {k : Int} {c : Cst} (g : GoodC cs n m c) (h : metB c.zs k c.l = true) : hasB cs n m k = true := by
  obtain ⟨i, hi, e⟩ := met_ex h
  obtain ⟨⟨a1, a2⟩, ⟨b1, b2⟩, f, _⟩ := g.way i hi
  rw [e] at a1 a2 f
  unfold hasB
  rw [inR_mk a1 (by omega), decide_eq_true (by omega)]; rfl
theorem find_has {cs : Nat → Dv} {n m : Nat} {st k : Int} (hw : worldB cs n st = true) (hm : m < 5) : findB cs n st k (m : Int) = hasB cs n m k ∧ (hasB cs n m k = true → findV cs n st k (m : Int) = findC cs k m) := by
  have i4 : inR (m : Int) 0 4 = true := inR_mk (by omega) (by omega)
  cases hk : inR k 0 ((n : Int) - 1)
  · have e : hasB cs n m k = false := by unfold hasB; rw [hk]; rfl
    have f : findV cs n st k (m : Int) = 0 := by unfold findV okF; rw [hk]; simp
    exact ⟨by unfold findB; rw [f, e]; rfl, fun q => by rw [e] at q; cases q⟩
  · have f : findV cs n st k (m : Int) = findC cs k m := by unfold findV okF; rw [hw, hk, i4]; rfl
    exact ⟨by unfold findB hasB; rw [f, hk]; rfl, fun _ => f⟩
theorem turn_more {w w' : World} {g gs : Nat} {v : Value} (h : OnlyF w w' (fun x => x = g)) : OnlyF w w' (Turn g gs v) := h.more (fun x q => Or.inl q)
def CallTo (Wb w w' : World) (pa : Option Addr) (n pcap : Nat) (st : Int) (cs : Nat → Dv) (g gs m : Nat) (k : Int) (c : Cst) (v : Value) (e : Ending) : Prop := (hasB cs n m k = true ∧ e = .returned (.tuple #[.int .i64 (findC cs k m), .bool true]) ∧ SiteTo Wb w w' pa n pcap st cs g gs (m : Int) (callS (findC cs k m) k c) v) ∨ (hasB cs n m k = false ∧ e = .returned (.tuple #[.int .i64 0, .bool false]) ∧ OnlyF w w' (Turn g gs v))
set_option maxHeartbeats 8000000 in
theorem impl_call (Wb : World) (pa : Option Addr) (n pcap : Nat) (st : Int) (cs : Nat → Dv) (g gs m : Nat) (k : Int) (c : Cst) (v : Value) (d : Bool) (w : World) (hf : Hid (Fits shClassS (.l n 2 cs))) (hw : Hid (worldB cs n st = true)) (hh : Hid (Holds Wb d (.l n 2 cs) (.slice pa n pcap))) (hm : m < 5) (hg : Hid (GoodC cs n m c)) (h0 : 0 ≤ c.h) (h1 : c.h ≤ 1000) (k0 : 0 ≤ c.lk) (k1 : c.lk ≤ 1000) (hS : Hid (Site Wb w pa n pcap st cs g gs (m : Int) c v)) :
    Calls Try.prog 55 #[.pointer (some ⟨gs, 0, none⟩), .int .i64 k] w fun e w' => CallTo Wb w w' pa n pcap st cs g gs m k c v e := by
  obtain ⟨a, cap, hv, hcap, hI, hbw⟩ := hS.out.ways.form
  subst hv
  have HI : Hid (Ints w a c.zs) := hI
  clear hI hbw
  have hcr := impl_remembered cs n m k c gs g (m : Int) a cap w hg hS.out.row HI
  cases hmet : metB c.zs k c.l
  rotate_left
  · have HH : Hid (hasB cs n m k = true) := met_has hg.out hmet
    have HCS : Hid (callS (findC cs k m) k c = { c with h := c.h + 1 }) := call_met hmet
    rw [hmet, if_pos rfl] at hcr
    obtain ⟨t, HT⟩ : ∃ t, Hid (findC cs k m = t) := ⟨_, rfl⟩
    rw [HT.out] at hcr
    have HA : Hid (∀ w1, Below w.heap.size w w1 → (w1.cell? ⟨gs, 4, none⟩ = some (.int .i64 c.h) ∧ w1.frozen? ⟨gs, 4, none⟩ = false) ∧ CallTo Wb w (w1.setCell ⟨gs, 4, none⟩ (.int .i64 (c.h + 1))) pa n pcap st cs g gs m k c (.slice a c.l cap) (.returned (.tuple #[.int .i64 t, .bool true]))) := fun w1 q => by
      have s1 := hS.out.kept q
      refine ⟨⟨s1.row.cells.2.2.2.2.1, World.rowIs.frozen s1.row 4⟩, Or.inl ⟨HH.out, by rw [HT.out], ?_⟩⟩
      rw [HCS.out]
      exact ⟨_, s1.set 4 _ (s1.row.setH _) (s1.ways_set 4 _), only_gs (OnlyF.of_below q), Or.inl rfl⟩
    go_enter Try.func55, Try.ntmps55
    go_wp2_with (first | (go_at_call 68; refine hcr.mono ?_; rintro e w1 ⟨rfl, hB1⟩; obtain ⟨⟨q1, q2⟩, q3⟩ := HA.out w1 hB1; have HQ := (show Hid _ from q3); clear q3 hB1) | (go_at_call 69; refine (i64_add ⟨gs, 4, none⟩ c.h _ h0 (by omega) q1 q2).mono ?_; rintro e w' ⟨rfl, rfl⟩))
    go_ret2
    exact HQ.out
  rw [hmet] at hcr
  have hcr' : Calls Try.prog 68 #[.pointer (some ⟨gs, 0, none⟩), .int .i64 k] w fun e w' => e = .returned (.tuple #[.int .i64 0, .bool false]) ∧ Below w.heap.size w w' := hcr
  clear hcr
  have HCR : Hid (callS (findC cs k m) k c = remS (findC cs k m) k { c with lk := c.lk + 1 }) := call_rem hmet
  have hl4 := hg.out.few
  obtain ⟨hfb, hfv⟩ := find_has (k := k) hw.out hm
  have HFI : Hid (∀ w1, Below w.heap.size w w1 → Calls Try.prog 43 #[.pointer (some ⟨g, 0, none⟩), .int .i64 k, .int .i64 (m : Int)] w1 fun e W' => e = .returned (.tuple #[.int .i64 (findV cs n st k (m : Int)), .bool (hasB cs n m k)]) ∧ Site Wb W' pa n pcap st cs g gs (m : Int) c (.slice a c.l cap) ∧ OnlyF w W' (Turn g gs (.slice a c.l cap))) := fun w1 q => by
    have s1 := hS.out.kept q
    obtain ⟨dl, hdl⟩ := s1.look
    refine (impl_find g pa n pcap cs st k (m : Int) dl d Wb w1 hf hw hh s1.bel s1.lg hdl).mono (fun e W' r => ?_)
    obtain ⟨r1, r2, r3⟩ := r
    exact ⟨by rw [r1, hfb], s1.looked r3 r2, (OnlyF.of_below q).trans (turn_more r3)⟩
  obtain ⟨x0, x1, _, _, _, _⟩ := hS.out.row.cells
  have lgs : gs < w.heap.size := World.rowIs.lt hS.out.row
  have HC1 : Hid (∀ w1, Below w.heap.size w w1 → w1.cell? ⟨gs, 0, none⟩ = some (.pointer (some ⟨g, 0, none⟩)) ∧ w1.cell? ⟨gs, 1, none⟩ = some (.int .i64 (m : Int))) := fun w1 q => ⟨(q.cell (p := ⟨gs, 0, none⟩) lgs).trans x0, (q.cell (p := ⟨gs, 1, none⟩) lgs).trans x1⟩
  have HNO : Hid (∀ w', hasB cs n m k = false → OnlyF w w' (Turn g gs (.slice a c.l cap)) → CallTo Wb w w' pa n pcap st cs g gs m k c (.slice a c.l cap) (.returned (.tuple #[.int .i64 0, .bool false]))) := fun w' q1 q2 => Or.inr ⟨q1, rfl, q2⟩
  have HYES : Hid (∀ w3 w', hasB cs n m k = true → OnlyF w w3 (Turn g gs (.slice a c.l cap)) → SiteTo Wb w3 w' pa n pcap st cs g gs (m : Int) (remS (findC cs k m) k { c with lk := c.lk + 1 }) (.slice a c.l cap) → CallTo Wb w w' pa n pcap st cs g gs m k c (.slice a c.l cap) (.returned (.tuple #[.int .i64 (findC cs k m), .bool true]))) := fun w3 w' q1 q2 q3 => Or.inl ⟨q1, rfl, by
    rw [HCR.out]
    obtain ⟨v', r1, r2, r3⟩ := q3
    refine ⟨v', r1, q2.trans r2, ?_⟩
    rcases r3 with r3 | r3
    · exact Or.inl r3
    · exact Or.inr (fun x e => Nat.le_trans q2.size (r3 x e))⟩
  have HRM : Hid (∀ w2, Site Wb w2 pa n pcap st cs g gs (m : Int) c (.slice a c.l cap) → (w2.cell? ⟨gs, 5, none⟩ = some (.int .i64 c.lk) ∧ w2.frozen? ⟨gs, 5, none⟩ = false) ∧ Calls Try.prog 70 #[.pointer (some ⟨gs, 0, none⟩), .agg #[.int .i64 k, .int .i64 (findC cs k m)]] (w2.setCell ⟨gs, 5, none⟩ (.int .i64 (c.lk + 1))) fun e w' => e = .returned (.tuple #[]) ∧ SiteTo Wb (w2.setCell ⟨gs, 5, none⟩ (.int .i64 (c.lk + 1))) w' pa n pcap st cs g gs (m : Int) (remS (findC cs k m) k { c with lk := c.lk + 1 }) (.slice a c.l cap)) := fun w2 q => ⟨⟨q.row.cells.2.2.2.2.2, World.rowIs.frozen q.row 5⟩, impl_remember Wb pa n pcap st cs g gs (m : Int) k (findC cs k m) { c with lk := c.lk + 1 } (.slice a c.l cap) _ hl4 (q.set 5 _ (q.row.setL _) (q.ways_set 5 _))⟩
  obtain ⟨t, HT⟩ : ∃ t, Hid (findV cs n st k (m : Int) = t) := ⟨_, rfl⟩
  have HTV : Hid (hasB cs n m k = true → findC cs k m = t) := fun q => by rw [← HT.out, hfv q]
  rw [HT.out] at HFI
  clear hfb hfv x0 x1 hS
  cases hhas : hasB cs n m k
  · rw [hhas] at HFI
    go_enter Try.func55, Try.ntmps55
    go_upto_region 5 with (go_at_call 68; refine hcr'.mono ?_; rintro e w1 ⟨rfl, hB1⟩; have B1 := (show Hid (Below w.heap.size w w1) from hB1); clear hB1)
    have B1d : Hid (Below w.heap.size w w1.drew) := B1.out.drew
    have qs := HC1.out w1.drew B1d.out
    go_region_held3 (fun w' => w'.cell? ⟨gs, 0, none⟩ = some (.pointer (some ⟨g, 0, none⟩)) ∧ w'.cell? ⟨gs, 1, none⟩ = some (.int .i64 (m : Int))) (first | assumption | exact qs | exact qs2 | go_keep) (first | (go_at_call 43; refine (HFI.out _ B1d.out).mono ?_; rintro e w2 ⟨rfl, hS2, hO2⟩; have qs2 := (show w2.cell? ⟨gs, 0, none⟩ = some (.pointer (some ⟨g, 0, none⟩)) ∧ w2.cell? ⟨gs, 1, none⟩ = some (.int .i64 (m : Int)) from ⟨hS2.row.cells.1, hS2.row.cells.2.1⟩); have O2 := (show Hid _ from hO2); clear hS2 hO2))
    all_goals go_wp2
    all_goals go_ret2
    all_goals exact HNO.out _ hhas O2.out
  · rw [hhas] at HFI
    have ht := HTV.out hhas
    rw [ht] at HRM HYES
    go_enter Try.func55, Try.ntmps55
    go_upto_region 5 with (go_at_call 68; refine hcr'.mono ?_; rintro e w1 ⟨rfl, hB1⟩; have B1 := (show Hid (Below w.heap.size w w1) from hB1); clear hB1)
    have B1d : Hid (Below w.heap.size w w1.drew) := B1.out.drew
    have qs := HC1.out w1.drew B1d.out
    clear ht
    go_region_held3 (fun w' => w'.cell? ⟨gs, 0, none⟩ = some (.pointer (some ⟨g, 0, none⟩)) ∧ w'.cell? ⟨gs, 1, none⟩ = some (.int .i64 (m : Int))) (first | assumption | exact qs | exact qs2 | go_keep) (first | (go_at_call 43; refine (HFI.out _ B1d.out).mono ?_; rintro e w2 ⟨rfl, hS2, hO2⟩; have qs2 := (show w2.cell? ⟨gs, 0, none⟩ = some (.pointer (some ⟨g, 0, none⟩)) ∧ w2.cell? ⟨gs, 1, none⟩ = some (.int .i64 (m : Int)) from ⟨hS2.row.cells.1, hS2.row.cells.2.1⟩); have O2 := (show Hid _ from hO2); obtain ⟨⟨r1, r2⟩, r3⟩ := HRM.out w2 hS2; have R3 := (show Hid _ from r3); clear hS2 hO2 r3))
    all_goals go_wp2_with (first | (go_at_call 69; refine (i64_add ⟨gs, 5, none⟩ c.lk _ k0 (by omega) r1 r2).mono ?_; rintro e w' ⟨rfl, rfl⟩) | (go_at_call 70; refine Calls.mono R3.out ?_; rintro e w4 ⟨rfl, hST⟩))
    all_goals go_ret2
    all_goals exact HYES.out _ _ hhas (only_gs O2.out) hST
end Go.Proofs.Yticgipmaflhplaa.walks
