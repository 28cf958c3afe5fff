/-
  What the specification's l3Text answers, at every good step: the step's text.
-/
import Derived.Test.YtpgnoikfpogmlaaDoorProg
import Derived.Test.YtpgnoikfpogmlaaDoorMagMath
import Derived.Test.YtpgnoikfpogmlaaDoorCodeMath
import Derived.Test.YtpgnoikfpogmlaaDoorRunMath
import Derived.Test.YtpgnoikfpogmlaaDoorStepImpl
import Derived.Test.YtpgnoikfpogmlaaDoorTextSpec
import Derived.WalkKit
import Derived.WalkSpells
import Derived.Below
import Derived.Handy
import Derived.Deep.RegionHeld3
namespace Go.Proofs.YtpgnoikfpogmlaaDoor.walks
open Go.RowKit Go.Proofs.YtpgnoikfpogmlaaDoor.math
set_option linter.unusedVariables false

/-- A step's text. -/
def textS (o d a b n : Int) : ByteArray :=
  if o = 1 then letterS d ++ ⟨#[61]⟩ ++ numS n.toNat else if o = 2 then letterS d ++ ⟨#[61]⟩ ++ letterS a else if o = 8 then ⟨#[33]⟩ ++ letterS a else letterS d ++ ⟨#[61]⟩ ++ letterS a ++ signS o ++ letterS b
theorem add_str (x y : ByteArray) (h : x.size + y.size ≤ 1000) : ∀ w : World, (Op.stringOp .add x y).run Tryd.prog w = .ok (.string (x ++ y)) w := fun w => run_string_add_sum w x y (by omega)
theorem letter_size (n : Int) : (letterS n).size = 1 := rfl
theorem sign_size (o : Int) : (signS o).size = 1 := by
  unfold signS
  repeat' split
  all_goals rfl
theorem box_one (W : World) (o d a b n : Int) (t : TypeId) :
    ((W.alloc (.cells #[.int .i64 o, .int .i64 d, .int .i64 a, .int .i64 b, .int .i64 n] t)).drew.cell? ⟨W.heap.size, 0, none⟩ = some (.int .i64 o) ∧ (W.alloc (.cells #[.int .i64 o, .int .i64 d, .int .i64 a, .int .i64 b, .int .i64 n] t)).drew.cell? ⟨W.heap.size, 1, none⟩ = some (.int .i64 d) ∧ (W.alloc (.cells #[.int .i64 o, .int .i64 d, .int .i64 a, .int .i64 b, .int .i64 n] t)).drew.cell? ⟨W.heap.size, 2, none⟩ = some (.int .i64 a) ∧ (W.alloc (.cells #[.int .i64 o, .int .i64 d, .int .i64 a, .int .i64 b, .int .i64 n] t)).drew.cell? ⟨W.heap.size, 3, none⟩ = some (.int .i64 b) ∧ (W.alloc (.cells #[.int .i64 o, .int .i64 d, .int .i64 a, .int .i64 b, .int .i64 n] t)).drew.cell? ⟨W.heap.size, 4, none⟩ = some (.int .i64 n)) ∧ W.heap.size < (W.alloc (.cells #[.int .i64 o, .int .i64 d, .int .i64 a, .int .i64 b, .int .i64 n] t)).drew.heap.size ∧ Below W.heap.size W (W.alloc (.cells #[.int .i64 o, .int .i64 d, .int .i64 a, .int .i64 b, .int .i64 n] t)).drew := by
  refine ⟨⟨?_, ?_, ?_, ?_, ?_⟩, ?_, ?_⟩
  all_goals first | (simp; done) | go_grown
set_option maxHeartbeats 1000000 in
set_option maxRecDepth 100000 in
theorem text_1 (d n : Int) (sn : ByteArray) (W : World) (d0 : 0 ≤ d) (d7 : d ≤ 7) (n0 : 0 ≤ n) (n1 : n ≤ 65535) (hs : Hid (sn = numS n.toNat)) (hsz : sn.size ≤ 5) : Calls Tryd.prog 20 #[.agg #[.int .i64 1, .int .i64 d, .int .i64 0, .int .i64 0, .int .i64 n]] W fun e W' => e = .returned (.string (letterS d ++ ⟨#[61]⟩ ++ sn)) ∧ Below W.heap.size W W' := by
  obtain ⟨sd, hsd⟩ : ∃ sd, letterS d = sd := ⟨_, rfl⟩
  have Hd : Hid (letterS d = sd) := hsd
  have hzd : sd.size = 1 := by rw [← hsd]; rfl
  rw [hsd]
  clear hsd
  have a1 := add_str sd ⟨#[61]⟩ (by rw [hzd]; decide)
  have a2 := add_str (sd ++ ⟨#[61]⟩) sn (by rw [ByteArray.size_append, hzd]; show 1 + 1 + sn.size ≤ 1000; omega)
  have HN : Hid (∀ W : World, Calls Tryd.prog 39 #[.int .i64 n] W fun e W' => e = .returned (.string sn) ∧ Below W.heap.size W W') := by
    show ∀ W : World, _
    intro W
    obtain ⟨m, rfl⟩ := Int.eq_ofNat_of_zero_le n0
    rw [hs.out]
    exact spec_num 4 m W (by omega) (by omega)
  clear hzd hsz
  go_enter Tryd.func20, Tryd.ntmps20
  go_wp2
  go_region_held3 (fun w' => (w'.cell? ⟨W.heap.size, 0, none⟩ = some (.int .i64 1) ∧ w'.cell? ⟨W.heap.size, 1, none⟩ = some (.int .i64 d) ∧ w'.cell? ⟨W.heap.size, 2, none⟩ = some (.int .i64 0) ∧ w'.cell? ⟨W.heap.size, 3, none⟩ = some (.int .i64 0) ∧ w'.cell? ⟨W.heap.size, 4, none⟩ = some (.int .i64 n)) ∧ W.heap.size < w'.heap.size ∧ Below W.heap.size W w')
    (first | assumption | exact box_kept (by assumption) hb' | exact box_one _ _ _ _ _ _ _)
    (first | (go_at_call 38; refine (spec_letter _ _ d0 d7).mono ?_; rw [Hd.out]; rintro e w' ⟨rfl, hb'⟩) | (go_at_call 39; refine (HN.out _).mono ?_; rintro e w' ⟨rfl, hb'⟩))
  rename_i hh
  go_wp2
  go_ret
  exact ⟨rfl, hh.2.2⟩
set_option maxHeartbeats 1000000 in
set_option maxRecDepth 100000 in
theorem text_2 (d a : Int) (W : World) (d0 : 0 ≤ d) (d7 : d ≤ 7) (a0 : 0 ≤ a) (a7 : a ≤ 7) : Calls Tryd.prog 20 #[.agg #[.int .i64 2, .int .i64 d, .int .i64 a, .int .i64 0, .int .i64 0]] W fun e W' => e = .returned (.string (letterS d ++ ⟨#[61]⟩ ++ letterS a)) ∧ Below W.heap.size W W' := by
  obtain ⟨sd, hsd⟩ : ∃ sd, letterS d = sd := ⟨_, rfl⟩
  have Hd : Hid (letterS d = sd) := hsd
  have hzd : sd.size = 1 := by rw [← hsd]; rfl
  rw [hsd]
  clear hsd
  obtain ⟨sa, hsa⟩ : ∃ sa, letterS a = sa := ⟨_, rfl⟩
  have Ha : Hid (letterS a = sa) := hsa
  have hza : sa.size = 1 := by rw [← hsa]; rfl
  rw [hsa]
  clear hsa
  have q1 := add_str sd ⟨#[61]⟩ (by rw [hzd]; decide)
  have q2 := add_str (sd ++ ⟨#[61]⟩) sa (by rw [ByteArray.size_append, hzd, hza]; decide)
  clear hzd hza
  go_enter Tryd.func20, Tryd.ntmps20
  go_wp2
  go_region_held3 (fun w' => (w'.cell? ⟨W.heap.size, 0, none⟩ = some (.int .i64 2) ∧ w'.cell? ⟨W.heap.size, 1, none⟩ = some (.int .i64 d) ∧ w'.cell? ⟨W.heap.size, 2, none⟩ = some (.int .i64 a) ∧ w'.cell? ⟨W.heap.size, 3, none⟩ = some (.int .i64 0) ∧ w'.cell? ⟨W.heap.size, 4, none⟩ = some (.int .i64 0)) ∧ W.heap.size < w'.heap.size ∧ Below W.heap.size W w')
    (first | assumption | exact box_kept (by assumption) hb' | exact box_one _ _ _ _ _ _ _)
    (first | (go_at_call 38; first | (refine (spec_letter d _ d0 d7).mono ?_; rw [Hd.out]; rintro e w' ⟨rfl, hb'⟩) | (refine (spec_letter a _ a0 a7).mono ?_; rw [Ha.out]; rintro e w' ⟨rfl, hb'⟩)))
  rename_i hh
  go_wp2
  go_ret
  exact ⟨rfl, hh.2.2⟩
set_option maxHeartbeats 1000000 in
set_option maxRecDepth 100000 in
theorem text_8 (a : Int) (W : World) (a0 : 0 ≤ a) (a7 : a ≤ 7) : Calls Tryd.prog 20 #[.agg #[.int .i64 8, .int .i64 0, .int .i64 a, .int .i64 0, .int .i64 0]] W fun e W' => e = .returned (.string (⟨#[33]⟩ ++ letterS a)) ∧ Below W.heap.size W W' := by
  obtain ⟨sa, hsa⟩ : ∃ sa, letterS a = sa := ⟨_, rfl⟩
  have Ha : Hid (letterS a = sa) := hsa
  have hza : sa.size = 1 := by rw [← hsa]; rfl
  rw [hsa]
  clear hsa
  have q1 := add_str ⟨#[33]⟩ sa (by rw [hza]; decide)
  clear hza
  go_enter Tryd.func20, Tryd.ntmps20
  go_wp2_with (go_at_call 38; refine (spec_letter a _ a0 a7).mono ?_; rw [Ha.out]; rintro e w' ⟨rfl, hb'⟩; have HB : Hid (Below W.heap.size W w') := (((Below.refl W.heap.size W).alloc (Nat.le_refl _) _).trans (hb'.mono (by simp))); clear hb')
  go_ret
  exact ⟨rfl, HB.out⟩
set_option maxHeartbeats 1000000 in
set_option maxRecDepth 100000 in
theorem text_p (o d a b : Int) (W : World) (o3 : 3 ≤ o) (o7 : o ≤ 7) (d0 : 0 ≤ d) (d7 : d ≤ 7) (a0 : 0 ≤ a) (a7 : a ≤ 7) (b0 : 0 ≤ b) (b7 : b ≤ 7) : Calls Tryd.prog 20 #[.agg #[.int .i64 o, .int .i64 d, .int .i64 a, .int .i64 b, .int .i64 0]] W fun e W' => e = .returned (.string (letterS d ++ ⟨#[61]⟩ ++ letterS a ++ signS o ++ letterS b)) ∧ Below W.heap.size W W' := by
  have e1 : (o == 1) = false := by simp; omega
  have e2 : (o == 2) = false := by simp; omega
  have e8 : (o == 8) = false := by simp; omega
  obtain ⟨sd, hsd⟩ : ∃ sd, letterS d = sd := ⟨_, rfl⟩
  have Hd : Hid (letterS d = sd) := hsd
  have hzd : sd.size = 1 := by rw [← hsd]; rfl
  rw [hsd]
  clear hsd
  obtain ⟨sa, hsa⟩ : ∃ sa, letterS a = sa := ⟨_, rfl⟩
  have Ha : Hid (letterS a = sa) := hsa
  have hza : sa.size = 1 := by rw [← hsa]; rfl
  rw [hsa]
  clear hsa
  obtain ⟨so, hso⟩ : ∃ so, signS o = so := ⟨_, rfl⟩
  have Ho : Hid (signS o = so) := hso
  have hzo : so.size = 1 := by rw [← hso]; exact sign_size o
  rw [hso]
  clear hso
  obtain ⟨sb, hsb⟩ : ∃ sb, letterS b = sb := ⟨_, rfl⟩
  have Hb : Hid (letterS b = sb) := hsb
  have hzb : sb.size = 1 := by rw [← hsb]; rfl
  rw [hsb]
  clear hsb
  have q1 := add_str sd ⟨#[61]⟩ (by rw [hzd]; decide)
  have q2 := add_str (sd ++ ⟨#[61]⟩) sa (by rw [ByteArray.size_append, hzd, hza]; decide)
  have q3 := add_str (sd ++ ⟨#[61]⟩ ++ sa) so (by rw [ByteArray.size_append, ByteArray.size_append, hzd, hza, hzo]; decide)
  have q4 := add_str (sd ++ ⟨#[61]⟩ ++ sa ++ so) sb (by rw [ByteArray.size_append, ByteArray.size_append, ByteArray.size_append, hzd, hza, hzo, hzb]; decide)
  clear hzd hza hzo hzb
  go_enter Tryd.func20, Tryd.ntmps20
  go_wp2
  go_region_held3 (fun w' => (w'.cell? ⟨W.heap.size, 0, none⟩ = some (.int .i64 o) ∧ w'.cell? ⟨W.heap.size, 1, none⟩ = some (.int .i64 d) ∧ w'.cell? ⟨W.heap.size, 2, none⟩ = some (.int .i64 a) ∧ w'.cell? ⟨W.heap.size, 3, none⟩ = some (.int .i64 b) ∧ w'.cell? ⟨W.heap.size, 4, none⟩ = some (.int .i64 0)) ∧ W.heap.size < w'.heap.size ∧ Below W.heap.size W w')
    (first | assumption | exact box_kept (by assumption) hb' | exact box_one _ _ _ _ _ _ _)
    (first | (go_at_call 38; first | (refine (spec_letter d _ d0 d7).mono ?_; rw [Hd.out]; rintro e w' ⟨rfl, hb'⟩) | (refine (spec_letter a _ a0 a7).mono ?_; rw [Ha.out]; rintro e w' ⟨rfl, hb'⟩) | (refine (spec_letter b _ b0 b7).mono ?_; rw [Hb.out]; rintro e w' ⟨rfl, hb'⟩)) | (go_at_call 40; refine (spec_sign _ _ o3 o7).mono ?_; rw [Ho.out]; rintro e w' ⟨rfl, rfl⟩))
  rename_i hh
  go_wp2
  go_ret
  exact ⟨rfl, hh.2.2⟩
end Go.Proofs.YtpgnoikfpogmlaaDoor.walks
