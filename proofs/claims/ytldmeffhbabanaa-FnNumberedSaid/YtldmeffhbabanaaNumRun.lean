/-
  What the program's do, firstNumbering and numberingOf do.
-/
import Derived.Test.YtldmeffhbabanaaProg
import Derived.Test.YtldmeffhbabanaaNumDo
import Derived.Test.YtldmeffhbabanaaInts
import Derived.Test.YtldmeffhbabanaaRecsInstr
import Derived.Test.YtldmeffhbabanaaStepsOf
import Derived.WalkKit
import Derived.WalkSpells
import Derived.Below
import Derived.Handy
import Derived.Deep.RegionWith
import Derived.Deep.RegionHeld3
namespace Go.Proofs.Ytldmeffhbabanaa.nums
open Go.RowKit Go.Proofs.Ytldmeffhbabanaa.math Go.Proofs.Ytldmeffhbabanaa.ints Go.Proofs.Ytldmeffhbabanaa.walks
set_option linter.unusedVariables false
set_option linter.unusedSimpArgs false

theorem num_far {W w' : World} {nb mb : Nat} {vs ns : List V} (h : Num W nb mb vs ns) (hb : Below W.heap.size W w') : Num w' nb mb vs ns := num_of_blocks h (hb.block nb h.1.lt) (map_far h.2 hb)
theorem four_v (v : V) : ∃ a b c d, v = (a, b, c, d) := ⟨v.1, v.2.1, v.2.2.1, v.2.2.2, rfl⟩
theorem impl_value (o d a b n : Int) (nb mb : Nat) (vs ns : List V) (m : Nat) (W : World) (hm : m ≤ 65535) (g : goodI o d a b n = true) (h8 : o ≠ 8) (hI : Inv vs ns m) (hN : Num W nb mb vs ns) :
    Calls Try.prog 51 #[.pointer (some ⟨nb, 0, none⟩), .agg #[.int .i64 o, .int .i64 d, .int .i64 a, .int .i64 b, .int .i64 n]] W fun e W' => PairAns (valV vs ns o a b n) W e W' := by
  unfold valV
  rcases good_cases g with ⟨e, _, hn⟩ | ⟨e, _, ha⟩ | ⟨e, _⟩ | ⟨e, _, ha, hb⟩
  · subst e
    rw [if_pos rfl]
    exact value_const d a b n nb W
  · subst e
    rw [if_neg (by omega), if_pos rfl]
    obtain ⟨j, rfl⟩ := Int.eq_ofNat_of_zero_le ha.1
    obtain ⟨z0, z1, z2, z3, hz⟩ := four_v (ns.getD j zV)
    rw [show ((j : Nat) : Int).toNat = j from Int.toNat_natCast j, hz]
    have c0 := num_cell hN (j := j) (i := 0) (by omega) (by omega)
    have c1 := num_cell hN (j := j) (i := 1) (by omega) (by omega)
    have c2 := num_cell hN (j := j) (i := 2) (by omega) (by omega)
    have c3 := num_cell hN (j := j) (i := 3) (by omega) (by omega)
    rw [hz] at c0 c1 c2 c3
    exact value_copy d b n z0 z1 z2 z3 j nb W hN.1.lt (by omega) c0 c1 c2 c3
  · exact (h8 e).elim
  · rw [if_neg (by omega), if_neg (by omega)]
    obtain ⟨j, rfl⟩ := Int.eq_ofNat_of_zero_le ha.1
    obtain ⟨k, rfl⟩ := Int.eq_ofNat_of_zero_le hb.1
    rw [show ((j : Nat) : Int).toNat = j from Int.toNat_natCast j, show ((k : Nat) : Int).toNat = k from Int.toNat_natCast k]
    have mj := hI.at (i := j) (by omega)
    have mk := hI.at (i := k) (by omega)
    obtain ⟨x0, x1, x2, x3, hx⟩ := four_v (ns.getD j zV)
    obtain ⟨y0, y1, y2, y3, hy⟩ := four_v (ns.getD k zV)
    rw [hx, hy]
    rw [hx] at mj
    rw [hy] at mk
    obtain ⟨z0, z1, z2, z3, hz⟩ := four_v (pairV vs o (x0, x1, x2, x3) (y0, y1, y2, y3))
    rw [hz]
    exact value_pair o d n x0 x1 x2 x3 y0 y1 y2 y3 z0 z1 z2 z3 j k nb mb vs ns W e.1 e.2 (by omega) (by omega) hN ⟨hx, hI.ok _ mj, mj⟩ ⟨hy, hI.ok _ mk, mk⟩ hz
set_option maxHeartbeats 2000000 in
theorem do_sets (o : Int) (d : Nat) (a b n z0 z1 z2 z3 : Int) (nb mb m : Nat) (vs ns : List V) (W : World) (hm : m ≤ 65535) (hd : (d : Int) < 8) (h8 : o ≠ 8) (HG : Hid (goodI o (d : Int) a b n = true)) (HI : Hid (Inv vs ns m)) (hN : Hid (Num W nb mb vs ns)) (HV : Hid (valV vs ns o a b n = (z0, z1, z2, z3))) (HK : Hid (okV (z0, z1, z2, z3))) :
    Calls Try.prog 28 #[.pointer (some ⟨nb, 0, none⟩), .agg #[.int .i64 o, .int .i64 (d : Int), .int .i64 a, .int .i64 b, .int .i64 n]] W fun e W' => SetAns W nb mb (addV vs (z0, z1, z2, z3)) (ns.set d (z0, z1, z2, z3)) e W' := by
  have q8 : (o == 8) = false := by simpa using h8
  have hnb := hN.out.1.lt
  have hmb := hN.out.2.lt
  go_enter Try.func28, Try.ntmps28
  go_wp2_with fail
  refine wp_region_noPanic ?_
  refine wp_region_held_drew (S := fun w' => w'.cell? ⟨W.heap.size, 0, none⟩ = some (.int .i64 o) ∧ w'.cell? ⟨W.heap.size, 1, none⟩ = some (.int .i64 (d : Int)) ∧ w'.cell? ⟨W.heap.size, 2, none⟩ = some (.int .i64 a) ∧ w'.cell? ⟨W.heap.size, 3, none⟩ = some (.int .i64 b) ∧ w'.cell? ⟨W.heap.size, 4, none⟩ = some (.int .i64 n)) (by kernel_rfl) ?_ (fun hHeld => ?_)
  · (try dsimp only); (refine ⟨?_, ?_, ?_, ?_, ?_⟩ <;> go_simp)
  refine wpAnyH_take (i := 0) (v := ?v1) rfl (by kernel_rfl) (by kernel_rfl) (by kernel_rfl) (fun _ _ _ h => h) (Or.inl ⟨by rfl, ?hy1⟩) (by assumption) ?_
  case hy1 => (intro w hSw; (try dsimp only at hSw); go_simp; try with_reducible rfl)
  try simp only [Act.put, List.setIfInBounds_toArray, List.set_cons_zero, List.set_cons_succ]
  refine wpAnyH_take (i := 1) (v := ?v2) rfl (by kernel_rfl) (by kernel_rfl) (by kernel_rfl) (fun _ _ _ h => h) (Or.inl ⟨by rfl, ?hy2⟩) (by assumption) ?_
  case hy2 => (intro w hSw; (try dsimp only at hSw); go_simp; try with_reducible rfl)
  try simp only [Act.put, List.setIfInBounds_toArray, List.set_cons_zero, List.set_cons_succ]
  refine wpAnyH_take (i := 2) (v := ?v3) rfl (by kernel_rfl) (by kernel_rfl) (by kernel_rfl) (fun _ _ _ h => h) (Or.inl ⟨by rfl, ?hy3⟩) (by assumption) ?_
  case hy3 => (intro w hSw; (try dsimp only at hSw); go_simp; try with_reducible rfl)
  try simp only [Act.put, List.setIfInBounds_toArray, List.set_cons_zero, List.set_cons_succ]
  refine wpAnyH_take (i := 3) (v := ?v4) rfl (by kernel_rfl) (by kernel_rfl) (by kernel_rfl) (fun _ _ _ h => h) (Or.inl ⟨by rfl, ?hy4⟩) (by assumption) ?_
  case hy4 => (intro w hSw; (try dsimp only at hSw); go_simp; try with_reducible rfl)
  try simp only [Act.put, List.setIfInBounds_toArray, List.set_cons_zero, List.set_cons_succ]
  refine wpAnyH_take (i := 4) (v := ?v5) rfl (by kernel_rfl) (by kernel_rfl) (by kernel_rfl) (fun _ _ _ h => h) (Or.inl ⟨by rfl, ?hy5⟩) (by assumption) ?_
  case hy5 => (intro w hSw; (try dsimp only at hSw); go_simp; try with_reducible rfl)
  try simp only [Act.put, List.setIfInBounds_toArray, List.set_cons_zero, List.set_cons_succ]
  refine wpAnyH_ready (rs := [5]) (by kernel_rfl) (by simp) ?_
  refine AllReadyH.cons rfl (fun K hK => ?_) AllReadyH.nil
  go_simp
  go_at_call 51
  refine (impl_value o (d : Int) a b n nb mb vs ns m _ hm HG.out h8 HI.out ((hN.out.alloc _).drew)).mono ?_
  rintro e w' ⟨he, hb⟩
  rw [HV.out] at he
  simp only [vV] at he
  subst he
  have s0 : w'.cell? ⟨W.heap.size, 0, none⟩ = some (.int .i64 o) := (hb.cell (p := ⟨W.heap.size, 0, none⟩) (by simp)).trans (by go_simp)
  have s1 : w'.cell? ⟨W.heap.size, 1, none⟩ = some (.int .i64 (d : Int)) := (hb.cell (p := ⟨W.heap.size, 1, none⟩) (by simp)).trans (by go_simp)
  have s2 : w'.cell? ⟨W.heap.size, 2, none⟩ = some (.int .i64 a) := (hb.cell (p := ⟨W.heap.size, 2, none⟩) (by simp)).trans (by go_simp)
  have s3 : w'.cell? ⟨W.heap.size, 3, none⟩ = some (.int .i64 b) := (hb.cell (p := ⟨W.heap.size, 3, none⟩) (by simp)).trans (by go_simp)
  have s4 : w'.cell? ⟨W.heap.size, 4, none⟩ = some (.int .i64 n) := (hb.cell (p := ⟨W.heap.size, 4, none⟩) (by simp)).trans (by go_simp)
  have HB : Hid (Below W.heap.size W w') := (by show Below _ _ _; refine Below.trans ?_ (hb.mono (by simp)); go_grown)
  have HW : Hid (Num w' nb mb vs ns) := num_far hN.out HB.out
  have hw : W.heap.size < w'.heap.size := by have := hb.size; simp at this; omega
  clear hb
  go_wp2_with fail
  refine hK.out _ _ ?_ (fun hHeld => ?_)
  · (try dsimp only); exact ⟨s0, s1, s2, s3, s4⟩
  clear hK K
  try simp only [Act.put, List.setIfInBounds_toArray, List.set_cons_zero, List.set_cons_succ]
  refine wpAnyH_ready (rs := [6]) (by kernel_rfl) (by simp) ?_
  refine AllReadyH.cons rfl (fun K hK => ?_) AllReadyH.nil
  go_simp
  go_at_call 50
  refine (impl_set1 d (z0, z1, z2, z3) nb mb vs ns _ (by omega) HK.out HW.out HI.out.len HI.out.ok (Nat.le_trans HI.out.room hm)).mono ?_
  rintro e w2 ⟨rfl, hN2, hB2, hF2⟩
  have H2 : Hid (Num w2 nb mb (addV vs (z0, z1, z2, z3)) (ns.set d (z0, z1, z2, z3))) := hN2
  have HB2 : Hid (∀ B, B ≤ nb → B ≤ mb → B ≤ W.heap.size → Below B W w2) := fun B h1 h2 h3 => (HB.out.mono h3).trans (hB2 B h1 h2 (by omega))
  have hFW := hF2 W.heap.size hw (by omega) (by omega)
  have HT : Hid (w2.cell? ⟨W.heap.size, 0, none⟩ = some (.int .i64 o) ∧ w2.cell? ⟨W.heap.size, 1, none⟩ = some (.int .i64 (d : Int)) ∧ w2.cell? ⟨W.heap.size, 2, none⟩ = some (.int .i64 a) ∧ w2.cell? ⟨W.heap.size, 3, none⟩ = some (.int .i64 b) ∧ w2.cell? ⟨W.heap.size, 4, none⟩ = some (.int .i64 n)) := ⟨(World.cell?_of_block (a := ⟨W.heap.size, 0, none⟩) hFW).trans s0, (World.cell?_of_block (a := ⟨W.heap.size, 1, none⟩) hFW).trans s1, (World.cell?_of_block (a := ⟨W.heap.size, 2, none⟩) hFW).trans s2, (World.cell?_of_block (a := ⟨W.heap.size, 3, none⟩) hFW).trans s3, (World.cell?_of_block (a := ⟨W.heap.size, 4, none⟩) hFW).trans s4⟩
  have HF2 : Hid (∀ g, g < W.heap.size → g ≠ nb → g ≠ mb → w2.heap[g]? = W.heap[g]?) := fun g h1 h2 h3 => (hF2 g (by omega) h2 h3).trans (HB.out.block g h1)
  clear hFW
  clear hN2 hB2 hF2
  go_wp2_with fail
  refine hK.out _ _ ?_ (fun hHeld => ?_)
  · (try dsimp only); exact HT.out
  clear hK K
  try simp only [Act.put, List.setIfInBounds_toArray, List.set_cons_zero, List.set_cons_succ]
  refine wpAnyH_done (by kernel_rfl) ?_ _
  refine NoPanic.normal ?_
  go_wp2_with fail
  exact bodyPost_end (v := .tuple #[]) (by simp [results, Try.results28, go_sem]) rfl ⟨rfl, H2.out, HB2.out, HF2.out⟩
theorem do_out (d a b n : Int) (nb mb : Nat) (vs ns : List V) (W : World) (hN : Num W nb mb vs ns) :
    Calls Try.prog 28 #[.pointer (some ⟨nb, 0, none⟩), .agg #[.int .i64 8, .int .i64 d, .int .i64 a, .int .i64 b, .int .i64 n]] W fun e W' => SetAns W nb mb vs ns e W' := by
  have HN : Hid (Num W nb mb vs ns) := hN
  clear hN
  go_enter Try.func28, Try.ntmps28
  go_wp2
  exact bodyPost_end (v := .tuple #[]) (by simp [results, Try.results28, go_sem]) rfl ⟨rfl, HN.out.alloc _, fun B _ _ h3 => by go_grown, fun g h1 _ _ => (MapKept.heap_alloc W _).2 g h1⟩
theorem impl_do (o d a b n : Int) (nb mb m : Nat) (vs ns : List V) (W : World) (hm : m ≤ 65535) (g : goodI o d a b n = true) (hI : Inv vs ns m) (hN : Num W nb mb vs ns) :
    Calls Try.prog 28 #[.pointer (some ⟨nb, 0, none⟩), .agg #[.int .i64 o, .int .i64 d, .int .i64 a, .int .i64 b, .int .i64 n]] W fun e W' => SetAns W nb mb (stepN (vs, ns) o d a b n).1 (stepN (vs, ns) o d a b n).2 e W' := by
  unfold stepN
  by_cases h8 : o = 8
  · subst h8
    rw [if_pos rfl]
    exact do_out d a b n nb mb vs ns W hN
  · rw [if_neg h8]
    have hok := val_ok hI hm g h8
    obtain ⟨z0, z1, z2, z3, hz⟩ := four_v (valV vs ns o a b n)
    obtain ⟨h0, h1⟩ : 0 ≤ d ∧ d ≤ 7 := by
      rcases good_cases g with ⟨_, hd, _⟩ | ⟨_, hd, _⟩ | ⟨e, _⟩ | ⟨_, hd, _⟩
      · exact hd
      · exact hd
      · exact (h8 e).elim
      · exact hd
    obtain ⟨j, rfl⟩ := Int.eq_ofNat_of_zero_le h0
    simp only [Int.toNat_natCast]
    rw [hz] at hok ⊢
    exact do_sets o j a b n z0 z1 z2 z3 nb mb m vs ns W hm (by omega) h8 g hI hN hz hok
def nsTo (k : Nat) : List V := startTo k ++ List.replicate (8 - k) zV
theorem nsTo_len {k : Nat} (h : k ≤ 8) : (nsTo k).length = 8 := by simp [nsTo, start_len]; omega
theorem nsTo_set {k : Nat} (h : k < 8) : (nsTo k).set k (8, 0, 0, (k : Int)) = nsTo (k + 1) := by
  unfold nsTo
  rw [List.set_append_right _ _ (by rw [start_len]; exact Nat.le_refl _), start_len, start_succ, List.append_assoc]
  congr 1
  obtain ⟨m, hm⟩ : ∃ m, 8 - k = m + 1 := ⟨7 - k, by omega⟩
  rw [hm, show 8 - (k + 1) = m by omega]
  simp [List.replicate_succ]
theorem nsTo_end : nsTo 8 = startTo 8 := by simp [nsTo]
theorem num_new (w : World) : Num ((w.alloc (.map #[] 0)).alloc (.cells #[.map (some w.heap.size), .int .i64 0, .int .i64 0, .int .i64 0, .int .i64 0, .int .i64 0, .int .i64 0, .int .i64 0, .int .i64 0, .int .i64 0, .int .i64 0, .int .i64 0, .int .i64 0, .int .i64 0, .int .i64 0, .int .i64 0, .int .i64 0, .int .i64 0, .int .i64 0, .int .i64 0, .int .i64 0, .int .i64 0, .int .i64 0, .int .i64 0, .int .i64 0, .int .i64 0, .int .i64 0, .int .i64 0, .int .i64 0, .int .i64 0, .int .i64 0, .int .i64 0, .int .i64 0] 89)) (w.heap.size + 1) w.heap.size [] (nsTo 0) := by
  refine ⟨?_, (map_made w).alloc _⟩
  have h := World.rowIs_alloc (w.alloc (.map #[] 0)) #[.map (some w.heap.size), .int .i64 0, .int .i64 0, .int .i64 0, .int .i64 0, .int .i64 0, .int .i64 0, .int .i64 0, .int .i64 0, .int .i64 0, .int .i64 0, .int .i64 0, .int .i64 0, .int .i64 0, .int .i64 0, .int .i64 0, .int .i64 0, .int .i64 0, .int .i64 0, .int .i64 0, .int .i64 0, .int .i64 0, .int .i64 0, .int .i64 0, .int .i64 0, .int .i64 0, .int .i64 0, .int .i64 0, .int .i64 0, .int .i64 0, .int .i64 0, .int .i64 0, .int .i64 0] 89 (numCell w.heap.size (nsTo 0)) (fun i hi => by
    match i, hi with
    | 0, _ => rfl
    | 1, _ => rfl
    | 2, _ => rfl
    | 3, _ => rfl
    | 4, _ => rfl
    | 5, _ => rfl
    | 6, _ => rfl
    | 7, _ => rfl
    | 8, _ => rfl
    | 9, _ => rfl
    | 10, _ => rfl
    | 11, _ => rfl
    | 12, _ => rfl
    | 13, _ => rfl
    | 14, _ => rfl
    | 15, _ => rfl
    | 16, _ => rfl
    | 17, _ => rfl
    | 18, _ => rfl
    | 19, _ => rfl
    | 20, _ => rfl
    | 21, _ => rfl
    | 22, _ => rfl
    | 23, _ => rfl
    | 24, _ => rfl
    | 25, _ => rfl
    | 26, _ => rfl
    | 27, _ => rfl
    | 28, _ => rfl
    | 29, _ => rfl
    | 30, _ => rfl
    | 31, _ => rfl
    | 32, _ => rfl
    | i + 33, h => simp at h; omega)
  simpa using h
/-- What firstNumbering leaves. -/
def FirstAns (W : World) (vs ns : List V) (e : Ending) (W' : World) : Prop := ∃ nb mb, e = .returned (.pointer (some ⟨nb, 0, none⟩)) ∧ Num W' nb mb vs ns ∧ W.heap.size ≤ nb ∧ W.heap.size ≤ mb ∧ Below W.heap.size W W'
set_option maxHeartbeats 2000000 in
theorem impl_first (W : World) : Calls Try.prog 26 #[] W fun e W' => FirstAns W (startTo 8) (startTo 8) e W' := by
  have hmm := @run_makeMap Try.prog
  go_enter Try.func26, Try.ntmps26
  go_wp2
  go_loopw [6] (fun vi wr => ∃ k : Nat, k ≤ 8 ∧ vi = .int .i64 k ∧ Hid (Num wr (W.heap.size + 1) W.heap.size (startTo k) (nsTo k)) ∧ Hid (Below W.heap.size W wr)) (fun vi _ => 8 - (intOf vi).toNat)
  case atStart => exact ⟨0, Nat.zero_le _, rfl, num_new W, by show Below _ _ _; go_grown⟩
  case round =>
    obtain ⟨k, hk, rfl, HN, HB⟩ := hrel
    by_cases hlt : k < 8
    · have hlt' : (k : Int) < 8 := by omega
      go_wp2_with fail
      refine (impl_set1 k (8, 0, 0, (k : Int)) _ _ _ _ _ hlt ⟨by simp, by simp, by simp, by simp; omega⟩ HN.out (nsTo_len hk) (start_ok hk) (by rw [start_len]; omega)).mono ?_
      rintro e w' ⟨rfl, hN', hB', _⟩
      have HN' : Hid (Num w' (W.heap.size + 1) W.heap.size (startTo (k + 1)) (nsTo (k + 1))) := by show Num _ _ _ _ _; rw [← start_add, ← nsTo_set hlt]; exact hN'
      have HB' : Hid (Below W.heap.size W w') := HB.out.trans (hB' _ (Nat.le_succ _) (Nat.le_refl _) HB.out.size)
      clear hN' hB'
      go_wp2_with fail
      go_roundw
      case rel => exact ⟨k + 1, by omega, by go_num, HN', HB'⟩
      case measure => simp [intOf]; omega
    · have HE : Hid (k = 8) := by show k = 8; omega
      have hge : (8 : Int) ≤ k := by omega
      go_wp2
      go_ret
      rw [HE.out] at HN
      rw [nsTo_end] at HN
      exact ⟨_, _, rfl, HN.out, Nat.le_succ _, Nat.le_refl _, HB.out⟩
/-- What numberingOf answers. -/
def NumAns (zs : List Int) (len : Nat) (W : World) (e : Ending) (W' : World) : Prop :=
  ((codeB zs len = true ∧ ∃ nb mb, e = .returned (.tuple #[.pointer (some ⟨nb, 0, none⟩), .bool true]) ∧ Num W' nb mb (numTo zs len).1 (numTo zs len).2 ∧ W.heap.size ≤ nb ∧ W.heap.size ≤ mb) ∨ (codeB zs len = false ∧ e = .returned (.tuple #[.pointer none, .bool false]))) ∧ Below W.heap.size W W'
set_option maxHeartbeats 2000000 in
theorem impl_numbering (a : Option Addr) (len cap : Nat) (zs : List Int) (W : World) (hz : Hid (zs.length = len * 5)) (hlen : len ≤ 1048576) (h : Hid (Ints W a zs)) :
    Calls Try.prog 38 #[.slice a len cap] W fun e W' => NumAns zs len W e W' := by
  go_enter Try.func38, Try.ntmps38
  go_wp2_with fail
  refine (impl_code _ _ _ zs _ hz hlen h).mono ?_
  cases hc : codeB zs len
  · rintro e w1 ⟨rfl, hb⟩
    have HA : Hid (NumAns zs len W (.returned (.tuple #[.pointer none, .bool false])) w1) := ⟨Or.inr ⟨hc, rfl⟩, hb⟩
    clear hb hc
    go_wp2
    go_ret2
    exact HA.out
  rintro e w1 ⟨rfl, hb⟩
  have HB1 : Hid (Below W.heap.size W w1) := hb
  have HC : Hid (codeB zs len = true) := hc
  have h30 : len ≤ 30 := (code_out hc).1
  clear hb hc
  go_wp2_with fail
  refine (impl_first w1).mono ?_
  rintro e w2 ⟨nb, mb, rfl, hN, hnb, hmb, hb⟩
  have HN2 : Hid (Num w2 nb mb (numTo zs 0).1 (numTo zs 0).2) := hN
  have HB2 : Hid (Below W.heap.size W w2) := HB1.out.trans (hb.mono HB1.out.size)
  have hn1 : W.heap.size ≤ nb := Nat.le_trans HB1.out.size hnb
  have hm1 : W.heap.size ≤ mb := Nat.le_trans HB1.out.size hmb
  clear hN hnb hmb hb
  go_wp2
  go_loopw [13] (fun vi wr => ∃ k : Nat, k ≤ len ∧ vi = .int .i64 k ∧ Hid (Num wr nb mb (numTo zs k).1 (numTo zs k).2) ∧ Hid (Below W.heap.size W wr)) (fun vi _ => len - (intOf vi).toNat)
  case atStart => exact ⟨0, Nat.zero_le _, rfl, HN2, HB2⟩
  case round =>
    obtain ⟨k, hk, rfl, HN, HB⟩ := hrel
    by_cases hlt : k < len
    · obtain ⟨b, off, ha, hb, c0, c1, c2, c3, c4⟩ := Instr_at h.out hz.out HB.out hlt
      subst ha
      have HI : Hid (Inv (numTo zs k).1 (numTo zs k).2 (8 + k)) := inv_to HC.out k hk
      have HG : Hid (stepB zs k = true) := (code_out HC.out).2 k hlt
      go_wp2_with fail
      refine (impl_do _ _ _ _ _ nb mb (8 + k) _ _ _ (by omega) HG.out HI.out (HN.out.alloc _)).mono ?_
      rintro e w' ⟨rfl, hN', hB', _⟩
      have HN' : Hid (Num w' nb mb (numTo zs (k + 1)).1 (numTo zs (k + 1)).2) := hN'
      have HB' : Hid (Below W.heap.size W w') := (HB.out.alloc HB.out.size _).trans (hB' _ hn1 hm1 (by have := HB.out.size; simp; omega))
      clear hN' hB'
      go_wp2_with fail
      go_roundw
      case rel => exact ⟨k + 1, by omega, by go_num, HN', HB'⟩
      case measure => simp [intOf]; omega
    · have HE : Hid (k = len) := by show k = len; omega
      go_wp2
      go_ret2
      rw [HE.out] at HN
      exact ⟨Or.inl ⟨HC.out, nb, mb, rfl, HN.out, hn1, hm1⟩, HB.out⟩
end Go.Proofs.Ytldmeffhbabanaa.nums
