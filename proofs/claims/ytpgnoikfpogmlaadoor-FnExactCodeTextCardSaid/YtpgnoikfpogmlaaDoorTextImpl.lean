/-
  What the program's stepText answers, at every good step: the step's text (strconv.Itoa by its contract).
-/
import Derived.Test.YtpgnoikfpogmlaaDoorProg
import Derived.Test.YtpgnoikfpogmlaaDoorMagMath
import Derived.Test.YtpgnoikfpogmlaaDoorCodeMath
import Derived.Test.YtpgnoikfpogmlaaDoorRunMath
import Derived.Test.YtpgnoikfpogmlaaDoorStepImpl
import Derived.Test.YtpgnoikfpogmlaaDoorStepKinds
import Derived.Test.YtpgnoikfpogmlaaDoorTextSpec
import Derived.Test.YtpgnoikfpogmlaaDoorTextStep
import Derived.Test.YtpgnoikfpogmlaaDoorTextCode
import Derived.WalkKit
import Derived.WalkSpells
import Derived.Below
import Derived.Handy
import Derived.Deep.RegionHeld3
namespace Go.Proofs.YtpgnoikfpogmlaaDoor.walks
open Go.RowKit Go.Proofs.YtpgnoikfpogmlaaDoor.math
set_option linter.unusedVariables false

theorem new_2 (W : World) (x0 x1 : Int) (t : TypeId) : ((W.alloc (.cells #[.int .i64 x0, .int .i64 x1] t)).drew.cell? ⟨W.heap.size, 0, none⟩ = some (.int .i64 x0) ∧ (W.alloc (.cells #[.int .i64 x0, .int .i64 x1] t)).drew.cell? ⟨W.heap.size, 1, none⟩ = some (.int .i64 x1)) ∧ W.heap.size < (W.alloc (.cells #[.int .i64 x0, .int .i64 x1] t)).drew.heap.size ∧ Below W.heap.size W (W.alloc (.cells #[.int .i64 x0, .int .i64 x1] t)).drew := by
  refine ⟨⟨?_, ?_⟩, ?_, ?_⟩
  all_goals first | (simp; done) | go_grown
theorem kept_2 {W w w' : World} {g : Nat} {x0 x1 : Int} (h : (w.cell? ⟨g, 0, none⟩ = some (.int .i64 x0) ∧ w.cell? ⟨g, 1, none⟩ = some (.int .i64 x1)) ∧ g < w.heap.size ∧ Below W.heap.size W w) (hb : Below w.heap.size w w') : (w'.cell? ⟨g, 0, none⟩ = some (.int .i64 x0) ∧ w'.cell? ⟨g, 1, none⟩ = some (.int .i64 x1)) ∧ g < w'.heap.size ∧ Below W.heap.size W w' := by
  obtain ⟨⟨h0, h1⟩, hg, hB⟩ := h
  have k : ∀ i, w'.cell? ⟨g, i, none⟩ = w.cell? ⟨g, i, none⟩ := fun i => hb.cell (p := ⟨g, i, none⟩) hg
  exact ⟨⟨(k 0).trans h0, (k 1).trans h1⟩, Nat.lt_of_lt_of_le hg hb.size, hB.trans (hb.mono hB.size)⟩
theorem new_4 (W : World) (x0 x1 x2 x3 : Int) (t : TypeId) : ((W.alloc (.cells #[.int .i64 x0, .int .i64 x1, .int .i64 x2, .int .i64 x3] t)).drew.cell? ⟨W.heap.size, 0, none⟩ = some (.int .i64 x0) ∧ (W.alloc (.cells #[.int .i64 x0, .int .i64 x1, .int .i64 x2, .int .i64 x3] t)).drew.cell? ⟨W.heap.size, 1, none⟩ = some (.int .i64 x1) ∧ (W.alloc (.cells #[.int .i64 x0, .int .i64 x1, .int .i64 x2, .int .i64 x3] t)).drew.cell? ⟨W.heap.size, 2, none⟩ = some (.int .i64 x2) ∧ (W.alloc (.cells #[.int .i64 x0, .int .i64 x1, .int .i64 x2, .int .i64 x3] t)).drew.cell? ⟨W.heap.size, 3, none⟩ = some (.int .i64 x3)) ∧ W.heap.size < (W.alloc (.cells #[.int .i64 x0, .int .i64 x1, .int .i64 x2, .int .i64 x3] t)).drew.heap.size ∧ Below W.heap.size W (W.alloc (.cells #[.int .i64 x0, .int .i64 x1, .int .i64 x2, .int .i64 x3] t)).drew := by
  refine ⟨⟨?_, ?_, ?_, ?_⟩, ?_, ?_⟩
  all_goals first | (simp; done) | go_grown
theorem kept_4 {W w w' : World} {g : Nat} {x0 x1 x2 x3 : Int} (h : (w.cell? ⟨g, 0, none⟩ = some (.int .i64 x0) ∧ w.cell? ⟨g, 1, none⟩ = some (.int .i64 x1) ∧ w.cell? ⟨g, 2, none⟩ = some (.int .i64 x2) ∧ w.cell? ⟨g, 3, none⟩ = some (.int .i64 x3)) ∧ g < w.heap.size ∧ Below W.heap.size W w) (hb : Below w.heap.size w w') : (w'.cell? ⟨g, 0, none⟩ = some (.int .i64 x0) ∧ w'.cell? ⟨g, 1, none⟩ = some (.int .i64 x1) ∧ w'.cell? ⟨g, 2, none⟩ = some (.int .i64 x2) ∧ w'.cell? ⟨g, 3, none⟩ = some (.int .i64 x3)) ∧ g < w'.heap.size ∧ Below W.heap.size W w' := by
  obtain ⟨⟨h0, h1, h2, h3⟩, hg, hB⟩ := h
  have k : ∀ i, w'.cell? ⟨g, i, none⟩ = w.cell? ⟨g, i, none⟩ := fun i => hb.cell (p := ⟨g, i, none⟩) hg
  exact ⟨⟨(k 0).trans h0, (k 1).trans h1, (k 2).trans h2, (k 3).trans h3⟩, Nat.lt_of_lt_of_le hg hb.size, hB.trans (hb.mono hB.size)⟩
set_option maxHeartbeats 1000000 in
set_option maxRecDepth 100000 in
theorem stext_1 (d n : Int) (sn : ByteArray) (W : World) (d0 : 0 ≤ d) (d7 : d ≤ 7) (hsz : sn.size ≤ 5) (HI : Hid (∀ w : World, Below W.heap.size W w → Calls Tryd.prog 32 #[.int .i64 n] w fun e w' => e = .returned (.string sn) ∧ Below w.heap.size w w')) : Calls Tryd.prog 17 #[.iface 67 (.agg #[.int .i64 d, .int .i64 n])] W fun e W' => e = .returned (.string (letterS d ++ ⟨#[61]⟩ ++ sn)) ∧ Below W.heap.size W W' := by
  obtain ⟨sd, hsd⟩ : ∃ sd, letterS d = sd := ⟨_, rfl⟩
  have Hd : Hid (letterS d = sd) := hsd
  have hzd : sd.size = 1 := by rw [← hsd]; rfl
  rw [hsd]
  clear hsd
  have q1 := add_str sd ⟨#[61]⟩ (by rw [hzd]; decide)
  have q2 := add_str (sd ++ ⟨#[61]⟩) sn (by rw [ByteArray.size_append, hzd]; show 1 + 1 + sn.size ≤ 1000; omega)
  clear hzd hsz
  have p0 := is_cc
  go_enter Tryd.func17, Tryd.ntmps17
  go_wp2
  go_region_held3 (fun w' => (w'.cell? ⟨W.heap.size, 0, none⟩ = some (.int .i64 d) ∧ w'.cell? ⟨W.heap.size, 1, none⟩ = some (.int .i64 n)) ∧ W.heap.size < w'.heap.size ∧ Below W.heap.size W w')
    (first | assumption | exact kept_2 (by assumption) hb' | exact new_2 _ _ _ _)
    (first | (go_at_call 31; refine (impl_letter _ _ d0 d7).mono ?_; rw [Hd.out]; rintro e w' ⟨rfl, rfl⟩) | (go_at_call 32; refine (HI.out _ ((by assumption : _ ∧ _ ∧ Below W.heap.size W _).2.2)).mono ?_; rintro e w' ⟨rfl, hb'⟩))
  rename_i hh
  go_wp2
  go_ret
  exact ⟨rfl, hh.2.2⟩
set_option maxHeartbeats 1000000 in
set_option maxRecDepth 100000 in
theorem stext_2 (d a : Int) (W : World) (d0 : 0 ≤ d) (d7 : d ≤ 7) (a0 : 0 ≤ a) (a7 : a ≤ 7) : Calls Tryd.prog 17 #[.iface 70 (.agg #[.int .i64 d, .int .i64 a])] W fun e W' => e = .returned (.string (letterS d ++ ⟨#[61]⟩ ++ letterS a)) ∧ Below W.heap.size W W' := by
  obtain ⟨sd, hsd⟩ : ∃ sd, letterS d = sd := ⟨_, rfl⟩
  have Hd : Hid (letterS d = sd) := hsd
  have hzd : sd.size = 1 := by rw [← hsd]; rfl
  rw [hsd]
  clear hsd
  obtain ⟨sa, hsa⟩ : ∃ sa, letterS a = sa := ⟨_, rfl⟩
  have Ha : Hid (letterS a = sa) := hsa
  have hza : sa.size = 1 := by rw [← hsa]; rfl
  rw [hsa]
  clear hsa
  have q1 := add_str sd ⟨#[61]⟩ (by rw [hzd]; decide)
  have q2 := add_str (sd ++ ⟨#[61]⟩) sa (by rw [ByteArray.size_append, hzd, hza]; decide)
  clear hzd hza
  have p0 := is_yc
  have p1 := is_yy
  go_enter Tryd.func17, Tryd.ntmps17
  go_wp2
  go_region_held3 (fun w' => (w'.cell? ⟨W.heap.size, 0, none⟩ = some (.int .i64 d) ∧ w'.cell? ⟨W.heap.size, 1, none⟩ = some (.int .i64 a)) ∧ W.heap.size < w'.heap.size ∧ Below W.heap.size W w')
    (first | assumption | exact kept_2 (by assumption) hb' | exact new_2 _ _ _ _)
    (first | (go_at_call 31; first | (refine (impl_letter d _ d0 d7).mono ?_; rw [Hd.out]; rintro e w' ⟨rfl, rfl⟩) | (refine (impl_letter a _ a0 a7).mono ?_; rw [Ha.out]; rintro e w' ⟨rfl, rfl⟩)))
  rename_i hh
  go_wp2
  go_ret
  exact ⟨rfl, hh.2.2⟩
set_option maxHeartbeats 1000000 in
set_option maxRecDepth 100000 in
theorem stext_8 (a : Int) (W : World) (a0 : 0 ≤ a) (a7 : a ≤ 7) : Calls Tryd.prog 17 #[.iface 74 (.agg #[.int .i64 a])] W fun e W' => e = .returned (.string (⟨#[33]⟩ ++ letterS a)) ∧ Below W.heap.size W W' := by
  obtain ⟨sa, hsa⟩ : ∃ sa, letterS a = sa := ⟨_, rfl⟩
  have Ha : Hid (letterS a = sa) := hsa
  have hza : sa.size = 1 := by rw [← hsa]; rfl
  rw [hsa]
  clear hsa
  have q1 := add_str ⟨#[33]⟩ sa (by rw [hza]; decide)
  clear hza
  have p0 := is_tc
  have p1 := is_ty
  have p2 := is_tp
  have p3 := is_tt
  go_enter Tryd.func17, Tryd.ntmps17
  go_wp2_with (go_at_call 31; refine (impl_letter _ _ a0 a7).mono ?_; rw [Ha.out]; rintro e w' ⟨rfl, rfl⟩)
  go_ret
  exact ⟨rfl, by go_grown⟩
set_option maxHeartbeats 1000000 in
set_option maxRecDepth 100000 in
theorem stext_p (o d a b : Int) (W : World) (o3 : 3 ≤ o) (o7 : o ≤ 7) (d0 : 0 ≤ d) (d7 : d ≤ 7) (a0 : 0 ≤ a) (a7 : a ≤ 7) (b0 : 0 ≤ b) (b7 : b ≤ 7) : Calls Tryd.prog 17 #[.iface 72 (.agg #[.int .i64 o, .int .i64 d, .int .i64 a, .int .i64 b])] W fun e W' => e = .returned (.string (letterS d ++ ⟨#[61]⟩ ++ letterS a ++ signS o ++ letterS b)) ∧ Below W.heap.size W W' := by
  obtain ⟨sd, hsd⟩ : ∃ sd, letterS d = sd := ⟨_, rfl⟩
  have Hd : Hid (letterS d = sd) := hsd
  have hzd : sd.size = 1 := by rw [← hsd]; rfl
  rw [hsd]
  clear hsd
  obtain ⟨sa, hsa⟩ : ∃ sa, letterS a = sa := ⟨_, rfl⟩
  have Ha : Hid (letterS a = sa) := hsa
  have hza : sa.size = 1 := by rw [← hsa]; rfl
  rw [hsa]
  clear hsa
  obtain ⟨so, hso⟩ : ∃ so, signS o = so := ⟨_, rfl⟩
  have Ho : Hid (signS o = so) := hso
  have hzo : so.size = 1 := by rw [← hso]; exact sign_size o
  rw [hso]
  clear hso
  obtain ⟨sb, hsb⟩ : ∃ sb, letterS b = sb := ⟨_, rfl⟩
  have Hb : Hid (letterS b = sb) := hsb
  have hzb : sb.size = 1 := by rw [← hsb]; rfl
  rw [hsb]
  clear hsb
  have q1 := add_str sd ⟨#[61]⟩ (by rw [hzd]; decide)
  have q2 := add_str (sd ++ ⟨#[61]⟩) sa (by rw [ByteArray.size_append, hzd, hza]; decide)
  have q3 := add_str (sd ++ ⟨#[61]⟩ ++ sa) so (by rw [ByteArray.size_append, ByteArray.size_append, hzd, hza, hzo]; decide)
  have q4 := add_str (sd ++ ⟨#[61]⟩ ++ sa ++ so) sb (by rw [ByteArray.size_append, ByteArray.size_append, ByteArray.size_append, hzd, hza, hzo, hzb]; decide)
  clear hzd hza hzo hzb
  have p0 := is_pc
  have p1 := is_py
  have p2 := is_pp
  go_enter Tryd.func17, Tryd.ntmps17
  go_wp2
  go_region_held3 (fun w' => (w'.cell? ⟨W.heap.size, 0, none⟩ = some (.int .i64 o) ∧ w'.cell? ⟨W.heap.size, 1, none⟩ = some (.int .i64 d) ∧ w'.cell? ⟨W.heap.size, 2, none⟩ = some (.int .i64 a) ∧ w'.cell? ⟨W.heap.size, 3, none⟩ = some (.int .i64 b)) ∧ W.heap.size < w'.heap.size ∧ Below W.heap.size W w')
    (first | assumption | exact kept_4 (by assumption) hb' | exact new_4 _ _ _ _ _ _)
    (first | (go_at_call 31; first | (refine (impl_letter d _ d0 d7).mono ?_; rw [Hd.out]; rintro e w' ⟨rfl, rfl⟩) | (refine (impl_letter a _ a0 a7).mono ?_; rw [Ha.out]; rintro e w' ⟨rfl, rfl⟩) | (refine (impl_letter b _ b0 b7).mono ?_; rw [Hb.out]; rintro e w' ⟨rfl, rfl⟩)) | (go_at_call 33; refine (impl_sign _ _ o3 o7).mono ?_; rw [Ho.out]; rintro e w' ⟨rfl, rfl⟩))
  rename_i hh
  go_wp2
  go_ret
  exact ⟨rfl, hh.2.2⟩
end Go.Proofs.YtpgnoikfpogmlaaDoor.walks
