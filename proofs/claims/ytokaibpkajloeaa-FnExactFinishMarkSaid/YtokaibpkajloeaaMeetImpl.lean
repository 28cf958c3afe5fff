/-
  What the program's meet and live do.
-/
import Derived.Test.YtokaibpkajloeaaProg
import Derived.Test.YtokaibpkajloeaaInts
import Derived.Test.YtokaibpkajloeaaDeep
import Derived.Test.YtokaibpkajloeaaDeepRow
import Derived.Test.YtokaibpkajloeaaMarkMath
import Derived.Test.YtokaibpkajloeaaMarkWell
import Derived.Test.YtokaibpkajloeaaMarkRun
import Derived.Test.YtokaibpkajloeaaMarkAsk
import Derived.Test.YtokaibpkajloeaaLiveMath15
import Derived.WalkKit
import Derived.WalkSpells
import Derived.Below
import Derived.Handy
import Derived.OwnWalk
import Derived.WalkMore
import Derived.ScopeJumps
import Derived.Laws.MakeOwn
import Derived.Deep.OwnRows
import Derived.Deep.DeepCutAuto
namespace Go.Proofs.Ytokaibpkajloeaa.walks
open Go.RowKit Go.Proofs.Ytokaibpkajloeaa.math Go.Proofs.Ytokaibpkajloeaa.ints Go.Proofs.Ytokaibpkajloeaa.deep
set_option linter.unusedVariables false
set_option linter.unusedSimpArgs false
set_option maxRecDepth 100000

theorem RunM.away {w w' : World} {B rp cp op n c1 c2 mt : Nat} {s : Mst} (h : RunM w B rp cp op n c1 c2 s) (ho : OnlyF w w' (fun x => x = mt)) (hne : mt ≠ rp ∧ mt ≠ cp ∧ mt ≠ op) : RunM w' B rp cp op n c1 c2 s :=
  ⟨h.row.of_block (ho.block _ h.row.lt (fun e => hne.1 e.symm)), h.cells.of_block (ho.block _ h.cells.1 (fun e => hne.2.1 e.symm)), h.cols.of_block (ho.block _ h.cols.1 (fun e => hne.2.2 e.symm)), h.low, h.dif⟩
theorem lead_links {s : Mst} {n : Nat} (h : LeadsW s n) : (∀ k, k < n → ∀ j, j < 2 → s.lk k j = -1 ∨ ∃ q : Nat, s.lk k j = (q : Int) ∧ q < n) ∧ ∀ j, j < 2 → s.rt j = -1 ∨ ∃ q : Nat, s.rt j = (q : Int) ∧ q < n := by
  refine ⟨fun k hk j hj => ?_, fun j hj => ?_⟩
  · obtain ⟨a, b⟩ := lead_in (h.2 k hk).2
    rcases (show j = 0 ∨ j = 1 by omega) with e | e <;> subst e
    · exact a
    · exact b
  · obtain ⟨a, b⟩ := lead_in h.1
    rcases (show j = 0 ∨ j = 1 by omega) with e | e <;> subst e
    · exact a
    · exact b
def MetTo (s : Mst) (n mt : Nat) (x : Int) (m0 : Nat → Bool) (W : World) (e : Ending) (W' : World) : Prop := e = .returned (.tuple #[]) ∧ ∃ m, Post s n x m0 m ∧ CellsAt W' mt n (fun i => .bool (m i)) ∧ OnlyF W W' (fun x => x = mt)
/-- How many are not met, as the memory has it. -/
def unmetA (n : Nat) (w : World) (mt : Nat) : Nat := unmet (fun i => match w.cell? ⟨mt, i, none⟩ with
  | some (.bool b) => b
  | _ => false) n
theorem unmet_congr {m m' : Nat → Bool} : ∀ n, (∀ i, i < n → m i = m' i) → unmet m n = unmet m' n
  | 0, _ => rfl
  | n + 1, h => by
    unfold unmet
    rw [unmet_congr n (fun i hi => h i (by omega)), h n (by omega)]
theorem unmet_at {w : World} {mt n : Nat} {m : Nat → Bool} (h : CellsAt w mt n (fun i => .bool (m i))) : unmetA n w mt = unmet m n := by
  unfold unmetA
  refine unmet_congr n (fun i hi => ?_)
  rw [(h.2 i hi).1]
set_option maxHeartbeats 4000000 in
theorem impl_meet (B rp cp op n c1 c2 mt c : Nat) (s : Mst) (hn : n ≤ 10) (hne : mt ≠ rp ∧ mt ≠ cp ∧ mt ≠ op) (hl : Hid (LeadsW s n)) (N : Nat) : ∀ (x : Int) (m0 : Nat → Bool) (W : World), unmet m0 n ≤ N → (x = -1 ∨ ∃ k : Nat, x = (k : Int) ∧ k < n) → Hid (RunM W B rp cp op n c1 c2 s) → Hid (CellsAt W mt n (fun i => .bool (m0 i))) →
    Calls Try.prog 77 #[.pointer (some ⟨rp, 0, none⟩), .int .i64 x, .slice (some ⟨mt, 0, none⟩) n c] W fun e W' => MetTo s n mt x m0 W e W' := by
  induction N using Nat.strongRecOn with
  | _ N ih =>
    intro x m0 W hN hx h hm
    have IH : Hid (∀ N', N' < N → ∀ (x : Int) (m0 : Nat → Bool) (W : World), unmet m0 n ≤ N' → (x = -1 ∨ ∃ k : Nat, x = (k : Int) ∧ k < n) → Hid (RunM W B rp cp op n c1 c2 s) → Hid (CellsAt W mt n (fun i => .bool (m0 i))) → Calls Try.prog 77 #[.pointer (some ⟨rp, 0, none⟩), .int .i64 x, .slice (some ⟨mt, 0, none⟩) n c] W fun e W' => MetTo s n mt x m0 W e W') := ih
    clear ih
    have HJ0 : Hid (Jmp s n x m0 x m0) := Jmp.start hx
    go_enter Try.func77, Try.ntmps77
    go_wp2_with fail
    refine wp_scope_jumps 0 (fun a' w' => ∃ (y : Int) (m : Nat → Bool) (u6 u7 u8 u9 u10 u11 u12 u13 u14 u15 u16 u17 u18 u19 u20 u21 u22 u23 u24 u25 u26 u27 u28 u29 u30 u31 u32 u33 u34 u35 u36 u37 : Value), a' = { tmps := #[.pointer (some ⟨rp, 0, none⟩), .int .i64 y, .slice (some ⟨mt, 0, none⟩) n c, undef, undef, undef, u6, u7, u8, u9, u10, u11, u12, u13, u14, u15, u16, u17, u18, u19, u20, u21, u22, u23, u24, u25, u26, u27, u28, u29, u30, u31, u32, u33, u34, u35, u36, u37], defers := [] } ∧ Hid (Jmp s n x m0 y m) ∧ Hid (CellsAt w' mt n (fun i => .bool (m i))) ∧ Hid (OnlyF W w' (fun x => x = mt))) (fun a' w' => unmetA n w' mt) rfl ?_ ?_
    · have HC0 : Hid (CellsAt W mt n (fun i => .bool (m0 i))) := hm
      have HO0 : Hid (OnlyF W W (fun x => x = mt)) := OnlyF.refl _ _
      go_wp2_with fail
      go_step3
      have hat : x = -1 ∨ ∃ k : Nat, x = (k : Int) ∧ k < n := HJ0.out.at_.imp id (fun ⟨k, e, hk, _⟩ => ⟨k, e, hk⟩)
      have HSTOP : Hid (OkE m0 x → MetTo s n mt x m0 W (.returned (.tuple #[])) W) := fun q => ⟨rfl, m0, HJ0.out.stop q, HC0.out, HO0.out⟩
      rcases hat with e | ⟨k, e, hk⟩
      · have HA : Hid (MetTo s n mt x m0 W (.returned (.tuple #[])) W) := HSTOP.out (Or.inl e)
        subst e
        go_wp2_with fail
        simp only [Exit.jump]
        exact bodyPost_ret (v := .tuple #[]) (by simp [results, Try.results77, go_sem]) rfl HA.out
      have ky : (k : Int) ≠ -1 := by omega
      have k0 : (0 : Int) ≤ (k : Int) := by omega
      have k1 : (k : Int) < (n : Int) := by omega
      have d0 : ((k : Int) == -1) = false := by simp
      have d1 : decide ((k : Int) = -1) = false := decide_eq_false ky
      have cm : W.cell? ⟨mt, k, none⟩ = some (.bool (m0 k)) := (HC0.out.2 k hk).1
      have fm := (HC0.out.2 k hk).2
      have lm := HC0.out.1
      cases hmk : m0 k
      rotate_left
      · have HA : Hid (MetTo s n mt x m0 W (.returned (.tuple #[])) W) := HSTOP.out (Or.inr ⟨k, e, hmk⟩)
        rw [hmk] at cm
        subst e
        clear hmk
        go_wp2_with fail
        simp only [Exit.jump]
        exact bodyPost_ret (v := .tuple #[]) (by simp [results, Try.results77, go_sem]) rfl HA.out
      rw [hmk] at cm
      subst e
      clear HSTOP
      obtain ⟨w2, hw2⟩ : ∃ w2, Hid (W.setCell ⟨mt, k, none⟩ (.bool true) = w2) := ⟨_, rfl⟩
      have HC2 : Hid (CellsAt w2 mt n (fun i => .bool (upN m0 k true i))) := by
        show CellsAt _ _ _ _
        rw [← hw2.out]
        refine (HC0.out.put hk _).congr (fun i hi => ?_)
        unfold upN
        split <;> rfl
      have HO2 : Hid (OnlyF W w2 (fun x => x = mt)) := by show OnlyF _ _ _; rw [← hw2.out]; exact only_set HO0.out rfl _
      have HR2 : Hid (RunM w2 B rp cp op n c1 c2 s) := h.out.away HO2.out hne
      obtain ⟨hl1, hl2⟩ := lead_links hl.out
      have hlk0 := hl1 k hk 0 (by decide)
      have hlk1 := hl1 k hk 1 (by decide)
      have hum := unmet_put hmk n hk
      have HUM : Hid (unmet (upN m0 k true) n < N ∧ unmet (upN m0 k true) n < unmet m0 n) := by
        have q := unmet_le HJ0.out.sub n
        exact ⟨by omega, by omega⟩
      have hrec := IH.out (unmet (upN m0 k true) n) HUM.out.1 (s.lk k 0) (upN m0 k true) w2 (Nat.le_refl _) hlk0 HR2 HC2
      have HNX : Hid (∀ m2, Post s n (s.lk k 0) (upN m0 k true) m2 → Jmp s n (k : Int) m0 (s.lk k 1) m2 ∧ unmet m2 n < unmet m0 n) := fun m2 p => ⟨HJ0.out.next hk hmk p hlk1, by have := unmet_le p.sub n; have := HUM.out.2; omega⟩
      have r0 : w2.cell? ⟨rp, 0, none⟩ = some (.slice (some ⟨cp, 0, none⟩) n c1) := HR2.out.row.cell (i := 0) (by decide)
      obtain ⟨q0, q1, q2⟩ := HR2.out.cell hk
      have rl := HR2.out.row.lt
      have cl := HR2.out.cells.1
      clear hmk hum hl1 hl2 hlk0 hlk1 HUM
      obtain ⟨y0, Hy0⟩ : ∃ y, Hid (s.lk k 0 = y) := ⟨_, rfl⟩
      obtain ⟨y1, Hy1⟩ : ∃ y, Hid (s.lk k 1 = y) := ⟨_, rfl⟩
      rw [Hy0.out] at q0 hrec HNX
      rw [Hy1.out] at q1 HNX
      generalize s.fr k = z at q2
      go_upto_region 2 with fail
      rw [hw2.out]
      clear cm fm lm hw2
      go_wp2_with fail
      refine hrec.mono ?_
      rintro e w3 ⟨rfl, m3, hP3, hC3, hO3⟩
      obtain ⟨hJ3, hU3⟩ := HNX.out m3 hP3
      have HJ3 : Hid (Jmp s n (k : Int) m0 y1 m3) := hJ3
      have HU3 : Hid (unmet m3 n < unmet m0 n) := hU3
      have HC3 : Hid (CellsAt w3 mt n (fun i => .bool (m3 i))) := hC3
      have HO3 : Hid (OnlyF W w3 (fun x => x = mt)) := HO2.out.trans hO3
      have HR3 : Hid (RunM w3 B rp cp op n c1 c2 s) := HR2.out.away hO3 hne
      clear hP3 hC3 hO3 hJ3 hU3 hrec HNX r0 q0 q1 q2 rl cl
      have r0 : w3.cell? ⟨rp, 0, none⟩ = some (.slice (some ⟨cp, 0, none⟩) n c1) := HR3.out.row.cell (i := 0) (by decide)
      obtain ⟨q0, q1, q2⟩ := HR3.out.cell hk
      have rl := HR3.out.row.lt
      have cl := HR3.out.cells.1
      rw [Hy0.out] at q0
      rw [Hy1.out] at q1
      generalize s.fr k = z at q2
      go_wp2_with fail
      go_step3
      refine ⟨rfl, ⟨y1, m3, _, _, _, _, _, _, _, _, _, _, _, _, _, _, _, _, _, _, _, _, _, _, _, _, _, _, _, _, _, _, _, _, rfl, HJ3, HC3, HO3⟩⟩
    · rintro a' w' ⟨y, m, u6, u7, u8, u9, u10, u11, u12, u13, u14, u15, u16, u17, u18, u19, u20, u21, u22, u23, u24, u25, u26, u27, u28, u29, u30, u31, u32, u33, u34, u35, u36, u37, rfl, HJ, HC, HO⟩
      have hat : y = -1 ∨ ∃ k : Nat, y = (k : Int) ∧ k < n := HJ.out.at_.imp id (fun ⟨k, e, hk, _⟩ => ⟨k, e, hk⟩)
      have HSTOP : Hid (OkE m y → MetTo s n mt x m0 W (.returned (.tuple #[])) w') := fun q => ⟨rfl, m, HJ.out.stop q, HC.out, HO.out⟩
      rcases hat with e | ⟨k, e, hk⟩
      · have HA : Hid (MetTo s n mt x m0 W (.returned (.tuple #[])) w') := HSTOP.out (Or.inl e)
        subst e
        go_wp2_with fail
        simp only [Exit.jump]
        exact bodyPost_ret (v := .tuple #[]) (by simp [results, Try.results77, go_sem]) rfl HA.out
      have ky : (k : Int) ≠ -1 := by omega
      have k0 : (0 : Int) ≤ (k : Int) := by omega
      have k1 : (k : Int) < (n : Int) := by omega
      have d0 : ((k : Int) == -1) = false := by simp
      have d1 : decide ((k : Int) = -1) = false := decide_eq_false ky
      have cm : w'.cell? ⟨mt, k, none⟩ = some (.bool (m k)) := (HC.out.2 k hk).1
      have fm := (HC.out.2 k hk).2
      have lm := HC.out.1
      cases hmk : m k
      rotate_left
      · have HA : Hid (MetTo s n mt x m0 W (.returned (.tuple #[])) w') := HSTOP.out (Or.inr ⟨k, e, hmk⟩)
        rw [hmk] at cm
        subst e
        clear hmk
        go_wp2_with fail
        simp only [Exit.jump]
        exact bodyPost_ret (v := .tuple #[]) (by simp [results, Try.results77, go_sem]) rfl HA.out
      rw [hmk] at cm
      subst e
      clear HSTOP
      obtain ⟨w2, hw2⟩ : ∃ w2, Hid (w'.setCell ⟨mt, k, none⟩ (.bool true) = w2) := ⟨_, rfl⟩
      have HC2 : Hid (CellsAt w2 mt n (fun i => .bool (upN m k true i))) := by
        show CellsAt _ _ _ _
        rw [← hw2.out]
        refine (HC.out.put hk _).congr (fun i hi => ?_)
        unfold upN
        split <;> rfl
      have HO2 : Hid (OnlyF W w2 (fun x => x = mt)) := by show OnlyF _ _ _; rw [← hw2.out]; exact only_set HO.out rfl _
      have HR2 : Hid (RunM w2 B rp cp op n c1 c2 s) := h.out.away HO2.out hne
      obtain ⟨hl1, hl2⟩ := lead_links hl.out
      have hlk0 := hl1 k hk 0 (by decide)
      have hlk1 := hl1 k hk 1 (by decide)
      have hum := unmet_put hmk n hk
      have HUM : Hid (unmet (upN m k true) n < N ∧ unmet (upN m k true) n < unmet m n) := by
        have q := unmet_le HJ.out.sub n
        exact ⟨by omega, by omega⟩
      have hrec := IH.out (unmet (upN m k true) n) HUM.out.1 (s.lk k 0) (upN m k true) w2 (Nat.le_refl _) hlk0 HR2 HC2
      have HNX : Hid (∀ m2, Post s n (s.lk k 0) (upN m k true) m2 → Jmp s n x m0 (s.lk k 1) m2 ∧ unmet m2 n < unmet m n) := fun m2 p => ⟨HJ.out.next hk hmk p hlk1, by have := unmet_le p.sub n; have := HUM.out.2; omega⟩
      have r0 : w2.cell? ⟨rp, 0, none⟩ = some (.slice (some ⟨cp, 0, none⟩) n c1) := HR2.out.row.cell (i := 0) (by decide)
      obtain ⟨q0, q1, q2⟩ := HR2.out.cell hk
      have rl := HR2.out.row.lt
      have cl := HR2.out.cells.1
      clear hmk hum hl1 hl2 hlk0 hlk1 HUM
      obtain ⟨y0, Hy0⟩ : ∃ y, Hid (s.lk k 0 = y) := ⟨_, rfl⟩
      obtain ⟨y1, Hy1⟩ : ∃ y, Hid (s.lk k 1 = y) := ⟨_, rfl⟩
      rw [Hy0.out] at q0 hrec HNX
      rw [Hy1.out] at q1 HNX
      generalize s.fr k = z at q2
      go_upto_region 2 with fail
      rw [hw2.out]
      clear cm fm lm hw2
      go_wp2_with fail
      refine hrec.mono ?_
      rintro e w3 ⟨rfl, m3, hP3, hC3, hO3⟩
      obtain ⟨hJ3, hU3⟩ := HNX.out m3 hP3
      have HJ3 : Hid (Jmp s n x m0 y1 m3) := hJ3
      have HU3 : Hid (unmet m3 n < unmet m n) := hU3
      have HC3 : Hid (CellsAt w3 mt n (fun i => .bool (m3 i))) := hC3
      have HO3 : Hid (OnlyF W w3 (fun x => x = mt)) := HO2.out.trans hO3
      have HR3 : Hid (RunM w3 B rp cp op n c1 c2 s) := HR2.out.away hO3 hne
      clear hP3 hC3 hO3 hJ3 hU3 hrec HNX r0 q0 q1 q2 rl cl
      have r0 : w3.cell? ⟨rp, 0, none⟩ = some (.slice (some ⟨cp, 0, none⟩) n c1) := HR3.out.row.cell (i := 0) (by decide)
      obtain ⟨q0, q1, q2⟩ := HR3.out.cell hk
      have rl := HR3.out.row.lt
      have cl := HR3.out.cells.1
      rw [Hy0.out] at q0
      rw [Hy1.out] at q1
      generalize s.fr k = z at q2
      go_wp2_with fail
      go_step3
      refine ⟨rfl, ⟨y1, m3, _, _, _, _, _, _, _, _, _, _, _, _, _, _, _, _, _, _, _, _, _, _, _, _, _, _, _, _, _, _, _, _, rfl, HJ3, HC3, HO3⟩, ?_⟩
      show unmetA n w3 mt < unmetA n w' mt
      rw [unmet_at HC3.out, unmet_at HC.out]
      exact HU3.out
def LiveTo (s : Mst) (n : Nat) (W : World) (e : Ending) (W' : World) : Prop := e = .returned (.slice (some ⟨W.heap.size, 0, none⟩) n n) ∧ ∃ m : Nat → Bool, (∀ k, k < n → (m k = true ↔ Live s k)) ∧ CellsAt W' W.heap.size n (fun i => .bool (m i)) ∧ Below W.heap.size W W'
def StageL (s : Mst) (n k : Nat) (m : Nat → Bool) : Prop := (k = 0 → m = fun _ => false) ∧ (k = 1 → Post s n (s.rt 0) (fun _ => false) m) ∧ (k = 2 → ∃ m1, Post s n (s.rt 0) (fun _ => false) m1 ∧ Post s n (s.rt 1) m1 m)
set_option maxHeartbeats 4000000 in
theorem impl_live (B rp cp op n c1 c2 : Nat) (s : Mst) (W : World) (hn : n ≤ 10) (h : Hid (RunM W B rp cp op n c1 c2 s)) (hl : Hid (LeadsW s n)) :
    Calls Try.prog 47 #[.pointer (some ⟨rp, 0, none⟩)] W fun e W' => LiveTo s n W e W' := by
  have HRW : Hid (∀ w, Below W.heap.size W w → RunM w B rp cp op n c1 c2 s) := fun w q => h.out.kept q
  have HNE : Hid (W.heap.size ≠ rp ∧ W.heap.size ≠ cp ∧ W.heap.size ≠ op) := ⟨by have := h.out.row.lt; omega, by have := h.out.cells.1; omega, by have := h.out.cols.1; omega⟩
  obtain ⟨M, HM⟩ : ∃ M, Hid (madeCells #[.bool false] n = M) := ⟨_, rfl⟩
  have hmk : ∀ w : World, (Instr.makeSlice 67 (.int .i64 (n : Int)) (.int .i64 (n : Int))).run Try.prog w = .ok (.slice (some ⟨w.heap.size, 0, none⟩) n n) (w.alloc (.cells M 4)) := by
    obtain ⟨i0, hi, hz0, hz1, hz2⟩ := parts_of (P := Try.prog) (e := 4) (z := .bool false) (a := 1) (b := 1) (by kernel_rfl)
    intro w
    have hr := run_make (P := Try.prog) w 67 4 i0 _ Try.underlying67 hi hz0 .i64 .i64 (n : Int) (n : Int) (by omega) (Int.le_refl _) (by rw [hz2]; omega) (by omega)
    simp only [Int.toNat_natCast] at hr
    rw [hr, hz1, ← HM.out, Nat.mul_one]; rfl
  obtain ⟨X, hX⟩ : ∃ X, Hid (W.alloc (.cells M 4) = X) := ⟨_, rfl⟩
  have HX : Hid (Below W.heap.size W X) := by show Below _ _ _; rw [← hX.out]; exact (Below.refl _ _).alloc (Nat.le_refl _) _
  have HC : Hid (CellsAt X W.heap.size n (fun i => .bool ((fun _ : Nat => false) i))) := by
    have hs : M.size = n := by rw [← HM.out]; simp [madeCells]
    have hl : M.toList = List.replicate n (.bool false) := by rw [← HM.out]; exact toList_madeCells_one _ _
    have q := row_of W M 4
    rw [hs, hl, hX.out] at q
    refine (CellsAt.of_row q (Nat.le_refl _)).congr (fun i hi => ?_)
    unfold rowF
    simp [List.getD, hi]
  have r0 : W.cell? ⟨rp, 0, none⟩ = some (.slice (some ⟨cp, 0, none⟩) n c1) := h.out.row.cell (i := 0) (by decide)
  have rl := h.out.row.lt
  clear HM
  obtain ⟨hl1, hl2⟩ := lead_links hl.out
  have HL1 : Hid (∀ k, k < n → ∀ j, j < 2 → s.lk k j = -1 ∨ ∃ q : Nat, s.lk k j = (q : Int) ∧ q < n) := hl1
  have HL2 : Hid (∀ j, j < 2 → s.rt j = -1 ∨ ∃ q : Nat, s.rt j = (q : Int) ∧ q < n) := hl2
  clear hl1 hl2
  have HMEET : Hid (∀ (x : Int) (m0 : Nat → Bool) (w : World), Below W.heap.size W w → (x = -1 ∨ ∃ k : Nat, x = (k : Int) ∧ k < n) → Hid (CellsAt w W.heap.size n (fun i => .bool (m0 i))) → Calls Try.prog 77 #[.pointer (some ⟨rp, 0, none⟩), .int .i64 x, .slice (some ⟨W.heap.size, 0, none⟩) n n] w fun e W' => MetTo s n W.heap.size x m0 w e W') := fun x m0 w q hx hm => impl_meet B rp cp op n c1 c2 W.heap.size n s hn HNE.out hl (unmet m0 n) x m0 w (Nat.le_refl _) hx (HRW.out w q) hm
  go_enter Try.func47, Try.ntmps47
  go_upto_region 2 with fail
  rw [hX.out]
  clear hX hmk r0 rl
  have r2 : X.cell? ⟨rp, 2, none⟩ = some (.int .i64 (s.rt 0)) := (HRW.out X HX.out).row.cell (i := 2) (by decide)
  have r3 : X.cell? ⟨rp, 3, none⟩ = some (.int .i64 (s.rt 1)) := (HRW.out X HX.out).row.cell (i := 3) (by decide)
  have rl := (HRW.out X HX.out).row.lt
  go_wp2
  clear r2 r3 rl
  have HME0 := fun m0 w q hm => HMEET.out (s.rt 0) m0 w q (HL2.out 0 (by decide)) hm
  have HME1 := fun m0 w q hm => HMEET.out (s.rt 1) m0 w q (HL2.out 1 (by decide)) hm
  have HM0 : Hid (∀ (m0 : Nat → Bool) (w : World), Below W.heap.size W w → Hid (CellsAt w W.heap.size n (fun i => .bool (m0 i))) → _) := HME0
  have HM1 : Hid (∀ (m0 : Nat → Bool) (w : World), Below W.heap.size W w → Hid (CellsAt w W.heap.size n (fun i => .bool (m0 i))) → _) := HME1
  clear HME0 HME1 HMEET
  obtain ⟨x0, HX0⟩ : ∃ x, Hid (s.rt 0 = x) := ⟨_, rfl⟩
  obtain ⟨x1, HX1⟩ : ∃ x, Hid (s.rt 1 = x) := ⟨_, rfl⟩
  rw [HX0.out] at HM0
  rw [HX1.out] at HM1
  rw [HX0.out, HX1.out]
  have ix0 : ∀ w : World, (Instr.index 72 (.agg #[.int .i64 x0, .int .i64 x1]) (.int .i64 0)).run Try.prog w = .ok (.int .i64 x0) w := fun _ => by kernel_rfl
  have ix1 : ∀ w : World, (Instr.index 72 (.agg #[.int .i64 x0, .int .i64 x1]) (.int .i64 1)).run Try.prog w = .ok (.int .i64 x1) w := fun _ => by kernel_rfl
  go_loopw [16] (fun vi wr => ∃ (k : Nat) (m : Nat → Bool), k ≤ 2 ∧ vi = .int .i64 (k : Int) ∧ Hid (StageL s n k m) ∧ Hid (CellsAt wr W.heap.size n (fun i => .bool (m i))) ∧ Hid (Below W.heap.size W wr)) (fun vi _ => 2 - (intOf vi).toNat)
  case atStart => exact ⟨0, _, by omega, rfl, ⟨fun _ => rfl, (fun q => by cases q), (fun q => by cases q)⟩, HC, HX⟩
  case round =>
    obtain ⟨k, m, hk, rfl, HS, HCm, HB⟩ := hrel
    rcases (show k = 0 ∨ k = 1 ∨ k = 2 by omega) with r | r | r
    · subst r
      have hc := HM0.out m wr HB.out HCm
      go_wp2_with fail
      refine hc.mono ?_
      rintro e w3 ⟨rfl, m3, hP, hC3, hO3⟩
      have HS3 : Hid (StageL s n 1 m3) := ⟨(fun q => by cases q), fun _ => by rw [HS.out.1 rfl] at hP; rw [HX0.out]; exact hP, (fun q => by cases q)⟩
      have HC3 : Hid (CellsAt w3 W.heap.size n (fun i => .bool (m3 i))) := hC3
      have HB3 : Hid (Below W.heap.size W w3) := HB.out.trans (hO3.below HB.out.size (fun x e => by omega))
      clear hP hC3 hO3 hc
      go_wp2
      go_roundw
      case rel => exact ⟨1, _, by omega, by go_num, HS3, HC3, HB3⟩
      case measure => simp [intOf]
    · subst r
      have hc := HM1.out m wr HB.out HCm
      go_wp2_with fail
      refine hc.mono ?_
      rintro e w3 ⟨rfl, m3, hP, hC3, hO3⟩
      have HS3 : Hid (StageL s n 2 m3) := ⟨(fun q => by cases q), (fun q => by cases q), fun _ => ⟨m, HS.out.2.1 rfl, by rw [HX1.out]; exact hP⟩⟩
      have HC3 : Hid (CellsAt w3 W.heap.size n (fun i => .bool (m3 i))) := hC3
      have HB3 : Hid (Below W.heap.size W w3) := HB.out.trans (hO3.below HB.out.size (fun x e => by omega))
      clear hP hC3 hO3 hc
      go_wp2
      go_roundw
      case rel => exact ⟨2, _, by omega, by go_num, HS3, HC3, HB3⟩
      case measure => simp [intOf]
    · subst r
      have HA : Hid (LiveTo s n W (.returned (.slice (some ⟨W.heap.size, 0, none⟩) n n)) wr) := by
        obtain ⟨m1, p1, p2⟩ := HS.out.2.2 rfl
        exact ⟨rfl, m, fun k hk => live_of HL1.out HL2.out p1 p2 hk, HCm.out, HB.out⟩
      go_wp2
      go_ret
      exact HA.out
end Go.Proofs.Ytokaibpkajloeaa.walks
