/-
  What MagicFor answers, of the program and of the specification, at every int: the magic with the least shift whose excess is within its bound; they make new memory alone.
-/
import Derived.Test.YthfakhkoagdcjaaProg
import Derived.Test.YthfakhkoagdcjaaMagMath
import Derived.Test.YthfakhkoagdcjaaMagGood
import Derived.WalkKit
import Derived.WalkSpells
import Derived.Below
import Derived.Handy
import Derived.Deep.RegionWith
namespace Go.Proofs.Ythfakhkoagdcjaa.walks
open Go.RowKit Go.Proofs.Ythfakhkoagdcjaa.math

theorem impl_up (b s : Int) (W : World) (hb0 : 1 ≤ b) (hb1 : b ≤ 65535) (hs0 : 16 ≤ s) (hs1 : s ≤ 32) :
    Calls Try.prog 22 #[.int .i64 b, .int .i64 s] W fun e W' => e = .returned (.agg #[.int .i64 b, .int .i64 (upM b s), .int .i64 s]) ∧ W' = W.alloc (.cells #[.int .i64 b, .int .i64 (upM b s), .int .i64 s] 25) := by
  obtain ⟨p0, p1⟩ := pow_bd hs1
  go_enter Try.func22, Try.ntmps22
  go_wp2
  exact bodyPost_ret (v := .agg #[.int .i64 b, .int .i64 (upM b s), .int .i64 s]) (by simp [results, Try.results22, go_sem, upM]) rfl ⟨rfl, rfl⟩

theorem impl_bounded (b s : Int) (W : World) (hb0 : 1 ≤ b) (hb1 : b ≤ 65535) (hs0 : 16 ≤ s) (hs1 : s ≤ 32) :
    Calls Try.prog 23 #[.agg #[.int .i64 b, .int .i64 (upM b s), .int .i64 s]] W fun e W' => e = .returned (.bool (okM b s)) ∧ W' = (W.alloc (.cells #[.int .i64 b, .int .i64 (upM b s), .int .i64 s] 25)).drew := by
  obtain ⟨p0, p1⟩ := pow_bd hs1
  obtain ⟨r0, r1⟩ := pow16_bd hs1
  obtain ⟨u0, u1, m0, m1⟩ := up_bd hb0 hb1 hs1
  go_enter Try.func23, Try.ntmps23
  go_wp2
  go_region
  go_wp2
  go_ret
  exact ⟨rfl, rfl⟩

/-- The number in a cell. -/
def cellInt (w : World) (b o : Nat) : Int := match w.cell? ⟨b, o, none⟩ with | some v => intOf v | none => 0
theorem cellInt_of {w : World} {b o : Nat} {x : Int} (h : w.cell? ⟨b, o, none⟩ = some (.int .i64 x)) : cellInt w b o = x := by unfold cellInt; rw [h]; rfl

theorem impl_for_no (b : Int) (W : World) (h : inR b 1 65535 = false) :
    Calls Try.prog 5 #[.int .i64 b] W fun e W' => e = .returned (.tuple #[.agg #[.int .i64 0, .int .i64 0, .int .i64 0], .bool false]) ∧ Below W.heap.size W W' := by
  go_enter Try.func5, Try.ntmps5
  go_wp2_with (go_at_call 21; refine (impl_divisor _ _).mono ?_; rintro e w' ⟨rfl, rfl⟩)
  exact bodyPost_ret (v := .tuple #[.agg #[.int .i64 0, .int .i64 0, .int .i64 0], .bool false]) (by simp [results, Try.results5, go_sem]) rfl ⟨rfl, by repeat (first | exact Below.refl _ _ | refine Below.drew ?_ | refine Below.setCell ?_ (by simp; try omega) _ | refine Below.alloc ?_ (by simp; try omega) _)⟩
theorem spec_for_no (b : Int) (W : World) (h : inR b 1 65535 = false) :
    Calls Try.prog 6 #[.int .i64 b] W fun e W' => e = .returned (.tuple #[.agg #[.int .i64 0, .int .i64 0, .int .i64 0], .bool false]) ∧ Below W.heap.size W W' := by
  go_enter Try.func6, Try.ntmps6
  go_wp2_with (go_at_call 24; refine (spec_in _ _ _ _).mono ?_; rintro e w' ⟨rfl, rfl⟩)
  exact bodyPost_ret (v := .tuple #[.agg #[.int .i64 0, .int .i64 0, .int .i64 0], .bool false]) (by simp [results, Try.results6, go_sem]) rfl ⟨rfl, by repeat (first | exact Below.refl _ _ | refine Below.drew ?_ | refine Below.setCell ?_ (by simp; try omega) _ | refine Below.alloc ?_ (by simp; try omega) _)⟩

set_option maxHeartbeats 1000000 in
theorem spec_for (b t : Int) (W : World) (hb0 : 1 ≤ b) (hb1 : b ≤ 65535) (hL : Hid (Least b t)) :
    Calls Try.prog 6 #[.int .i64 b] W fun e W' => e = .returned (.tuple #[.agg #[.int .i64 b, .int .i64 (upM b t), .int .i64 t], .bool true]) ∧ Below W.heap.size W W' := by
  have h : inR b 1 65535 = true := inR_mk hb0 hb1
  have hT : t ≤ 32 := hL.out.2.1
  go_enter Try.func6, Try.ntmps6
  go_wp2_with (go_at_call 24; refine (spec_in _ _ _ _).mono ?_; rintro e w' ⟨rfl, rfl⟩)
  go_loop [4] (fun i => ∃ s : Int, 16 ≤ s ∧ s ≤ t ∧ i = .int .i64 s) (fun i => (33 - intOf i).toNat)
  case atStart => exact ⟨16, by omega, hL.out.1, rfl⟩
  case round =>
    obtain ⟨s, hs0, hs1, rfl⟩ := hrel
    have hs2 : s ≤ 32 := by omega
    obtain ⟨p0, p1⟩ := pow_bd hs2
    obtain ⟨r0, r1⟩ := pow16_bd hs2
    obtain ⟨u0, u1, m0, m1⟩ := up_bd hb0 hb1 hs2
    by_cases ho : upM b s * b - 2 ^ s.toNat ≤ 2 ^ (s - 16).toNat
    · have HE : Hid (s = t) := by
        show s = t
        apply Classical.byContradiction; intro hne
        have h1 := hL.out.2.2.2 s hs0 (by omega)
        have h2 : okM b s = true := decide_eq_true ho
        rw [h1] at h2; cases h2
      unfold upM at ho u0 u1 m0 m1
      go_wp2
      have hE := HE.out
      subst hE
      exact bodyPost_ret (v := .tuple #[.agg #[.int .i64 b, .int .i64 (upM b s), .int .i64 s], .bool true]) (by simp [results, Try.results6, go_sem, upM]) rfl ⟨rfl, by repeat (first | exact Below.refl _ _ | refine Below.drew ?_ | refine Below.setCell ?_ (by simp; try omega) _ | refine Below.alloc ?_ (by simp; try omega) _)⟩
    · have ho' : 2 ^ (s - 16).toNat < upM b s * b - 2 ^ s.toNat := by omega
      have HN : Hid (okM b s = false) := by show okM b s = false; exact decide_eq_false ho
      clear ho
      unfold upM at ho' u0 u1 m0 m1
      go_wp2
      go_round
      case rel =>
        refine ⟨s + 1, by omega, ?_, rfl⟩
        apply Classical.byContradiction; intro hne
        have h1 := HN.out
        rw [show s = t by omega, hL.out.2.2.1] at h1; cases h1
      case measure => simp [intOf]; omega

set_option maxHeartbeats 1000000 in
theorem impl_for (b t : Int) (W : World) (hb0 : 1 ≤ b) (hb1 : b ≤ 65535) (hL : Hid (Least b t)) :
    Calls Try.prog 5 #[.int .i64 b] W fun e W' => e = .returned (.tuple #[.agg #[.int .i64 b, .int .i64 (upM b t), .int .i64 t], .bool true]) ∧ Below W.heap.size W W' := by
  have h : inR b 1 65535 = true := inR_mk hb0 hb1
  have hT : t ≤ 32 := hL.out.2.1
  go_enter Try.func5, Try.ntmps5
  go_wp2_with (first | (go_at_call 21; refine (impl_divisor _ _).mono ?_; rintro e w' ⟨rfl, rfl⟩) | (go_at_call 22; refine (impl_up _ 16 _ hb0 hb1 (by omega) (by omega)).mono ?_; rintro e w' ⟨rfl, rfl⟩))
  go_loopw [] (fun wr => ∃ s : Int, 16 ≤ s ∧ s ≤ t ∧ wr.cell? ⟨W.heap.size + 1 + 1, 0, none⟩ = some (.int .i64 b) ∧ wr.cell? ⟨W.heap.size + 1 + 1, 1, none⟩ = some (.int .i64 (upM b s)) ∧ wr.cell? ⟨W.heap.size + 1 + 1, 2, none⟩ = some (.int .i64 s) ∧
    wr.frozen? ⟨W.heap.size + 1 + 1, 0, none⟩ = false ∧ wr.frozen? ⟨W.heap.size + 1 + 1, 1, none⟩ = false ∧ wr.frozen? ⟨W.heap.size + 1 + 1, 2, none⟩ = false ∧
    wr.cell? ⟨W.heap.size, 0, none⟩ = some (.int .i64 0) ∧ wr.cell? ⟨W.heap.size, 1, none⟩ = some (.int .i64 0) ∧ wr.cell? ⟨W.heap.size, 2, none⟩ = some (.int .i64 0) ∧
    wr.frozen? ⟨W.heap.size, 0, none⟩ = false ∧ wr.frozen? ⟨W.heap.size, 1, none⟩ = false ∧ wr.frozen? ⟨W.heap.size, 2, none⟩ = false ∧ Hid (Below W.heap.size W wr)) (fun wr => (33 - cellInt wr (W.heap.size + 1 + 1) 2).toNat)
  case atStart =>
    refine ⟨16, by omega, hL.out.1, ?_, ?_, ?_, ?_, ?_, ?_, ?_, ?_, ?_, ?_, ?_, ?_, ?_⟩
    all_goals first | go_cell | (show Below _ _ _; go_grown)
  case round =>
    obtain ⟨s, hs0, hs1, c0, c1, c2, f0, f1, f2, d0, d1, d2, g0, g1, g2, HB⟩ := hrel
    have hs2 : s ≤ 32 := by omega
    have hz : W.heap.size + 1 + 1 < wr.heap.size := World.block_lt_of_cell? wr _ c0
    have hy : W.heap.size + 1 + 1 < wr.heap.size + 1 := by omega
    have hz0 : W.heap.size < wr.heap.size := by omega
    have hy0 : W.heap.size < wr.heap.size + 1 := by omega
    cases ho : okM b s
    · have HN : Hid (okM b s = false) := ho
      have hs3 : s + 1 ≤ 32 := by
        have h1 : s ≠ t := fun e => by rw [e, hL.out.2.2.1] at ho; cases ho
        omega
      go_wp2_with (first | (go_at_call 23; refine (impl_bounded _ _ _ hb0 hb1 hs0 hs2).mono ?_; rintro e w' ⟨rfl, rfl⟩) | (go_at_call 22; refine (impl_up _ _ _ hb0 hb1 (by omega) hs3).mono ?_; rintro e w' ⟨rfl, rfl⟩))
      go_roundw
      case rel =>
        refine ⟨s + 1, by omega, ?_, ?_, ?_, ?_, ?_, ?_, ?_, ?_, ?_, ?_, ?_, ?_, ?_, ?_⟩
        · apply Classical.byContradiction; intro hne
          have h1 := HN.out
          rw [show s = t by omega, hL.out.2.2.1] at h1; cases h1
        all_goals first | go_cell | (show Below _ _ _; refine Below.trans HB.out ?_; go_grown)
      case measure =>
        rw [cellInt_of c2, cellInt_of (x := s + 1) (by go_cell)]
        omega
    · have HE : Hid (s = t) := by
        show s = t
        apply Classical.byContradiction; intro hne
        have h1 := hL.out.2.2.2 s hs0 (by omega)
        rw [ho] at h1; cases h1
      go_wp2_with (go_at_call 23; refine (impl_bounded _ _ _ hb0 hb1 hs0 hs2).mono ?_; rintro e w' ⟨rfl, rfl⟩)
      have hE := HE.out
      subst hE
      refine bodyPost_ret (v := .tuple #[.agg #[.int .i64 b, .int .i64 (upM b s), .int .i64 s], .bool true]) (by simp [results, Try.results5, go_sem, d0, d1, d2, hz0]) rfl ⟨rfl, ?_⟩
      refine Below.trans HB.out ?_
      go_grown
end Go.Proofs.Ythfakhkoagdcjaa.walks
