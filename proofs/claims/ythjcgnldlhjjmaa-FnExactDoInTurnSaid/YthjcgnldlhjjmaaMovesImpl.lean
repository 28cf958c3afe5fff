/-
  What the program's wordsAt, isInTurn, DoAtOnce and DoInTurn answer, at all lists; they make new memory alone.
-/
import Derived.Test.YthjcgnldlhjjmaaProg
import Derived.Test.YthjcgnldlhjjmaaMoveMath
import Derived.Test.YthjcgnldlhjjmaaMoveBase
import Derived.Test.YthjcgnldlhjjmaaInts
import Derived.Test.YthjcgnldlhjjmaaArrs
import Derived.Test.YthjcgnldlhjjmaaRecsMove
import Derived.Test.YthjcgnldlhjjmaaGoodSpec
import Derived.Test.YthjcgnldlhjjmaaSources
import Derived.Test.YthjcgnldlhjjmaaMovesSpec
import Derived.WalkKit
import Derived.WalkSpells
import Derived.Below
import Derived.Handy
import Derived.Laws.CopyOwn
import Derived.Deep.RegionWith
namespace Go.Proofs.Ythjcgnldlhjjmaa.walks
open Go.RowKit Go.Proofs.Ythjcgnldlhjjmaa.math Go.Proofs.Ythjcgnldlhjjmaa.ints
set_option linter.unusedVariables false

theorem park {P : Prop} (h : Hid P) : P := h
theorem mine_rowT {w : World} {b n : Nat} {t : TypeId} {zs : List Int} (h : w.rowIs b t n (fun i => .int .i64 (zs.getD i 0))) (hz : zs.length = n) {B : Nat} (hB : B ≤ b) : Mine w B (some ⟨b, 0, none⟩) zs :=
  Or.inr ⟨b, 0, rfl, hB, h.lt, fun i hi => ⟨by simpa using h.cell (i := i) (by omega), by simpa using h.frozen i⟩⟩
theorem pw_info {c : Array Value} {f : Nat → Int} (h : IsArr c 11 f) : (Try.prog.info? 58).map (·.size) = some c.size := by
  rw [h.size]; kernel_rfl
theorem ints_arr (ws : List Int) : IsArr (ws.map (Value.int .i64)).toArray ws.length (fun i => ws.getD i 0) := ⟨by simp, fun i hi => by simp [List.getD, hi]⟩
/-- What wordsAt answers. -/
def WordsAns (ws : List Int) (W : World) (e : Ending) (W' : World) : Prop :=
  Below W.heap.size W W' ∧ ((wordsN 11 ws = true ∧ ∃ c, IsArr c 11 (fun i => ws.getD i 0) ∧ e = .returned (.tuple #[.agg c, .bool true])) ∨ (wordsN 11 ws = false ∧ ∃ c, IsArr c 11 (fun _ => 0) ∧ e = .returned (.tuple #[.agg c, .bool false])))
set_option maxHeartbeats 4000000 in
theorem impl_wordsat (v : Option Addr) (lv cv : Nat) (ws : List Int) (W : World) (hz' : Hid (ws.length = lv)) (hlv : lv ≤ 1048576) (h' : Hid (Ints W v ws)) :
    Calls Try.prog 38 #[.slice v lv cv] W (WordsAns ws W) := by
  have hzr : Hid (IsArr (Array.replicate 11 (.int .i64 0)) 11 (fun _ => 0)) := arr_zero 11
  have HB : Hid (Below W.heap.size W ((W.alloc (.cells #[.int .i64 0, .int .i64 0, .int .i64 0, .int .i64 0, .int .i64 0, .int .i64 0, .int .i64 0, .int .i64 0, .int .i64 0, .int .i64 0, .int .i64 0] 58)).alloc (.cells #[.int .i64 0, .int .i64 0, .int .i64 0, .int .i64 0, .int .i64 0, .int .i64 0, .int .i64 0, .int .i64 0, .int .i64 0, .int .i64 0, .int .i64 0] 58))) := by
    show Below _ _ _
    go_grown
  have hg0 : Hid (((W.alloc (.cells #[.int .i64 0, .int .i64 0, .int .i64 0, .int .i64 0, .int .i64 0, .int .i64 0, .int .i64 0, .int .i64 0, .int .i64 0, .int .i64 0, .int .i64 0] 58)).alloc (.cells #[.int .i64 0, .int .i64 0, .int .i64 0, .int .i64 0, .int .i64 0, .int .i64 0, .int .i64 0, .int .i64 0, .int .i64 0, .int .i64 0, .int .i64 0] 58)).heap[W.heap.size]? = some (.cells (Array.replicate 11 (.int .i64 0)) 58 (0, 0))) := by
    show ((W.alloc (.cells #[.int .i64 0, .int .i64 0, .int .i64 0, .int .i64 0, .int .i64 0, .int .i64 0, .int .i64 0, .int .i64 0, .int .i64 0, .int .i64 0, .int .i64 0] 58)).alloc (.cells #[.int .i64 0, .int .i64 0, .int .i64 0, .int .i64 0, .int .i64 0, .int .i64 0, .int .i64 0, .int .i64 0, .int .i64 0, .int .i64 0, .int .i64 0] 58)).heap[W.heap.size]? = _
    rw [Below.heap_alloc _ _ _ (by simp)]
    exact heap_alloc_last _ _
  cases hw : wordsN 11 ws
  · have HW : Hid (wordsN 11 ws = false) := hw
    go_enter Try.func38, Try.ntmps38
    go_wp2_with (first
      | (go_at_call 49; refine (impl_wordsN _ _ _ 11 ws _ hz' hlv (by omega) (h'.out.kept HB.out)).mono ?_; rw [HW.out]; rintro e w' ⟨rfl, hw'⟩; rw [hw']; clear hw' w')
      | (refine wpList_store_row rfl 58 _ _ rfl W.heap.size (Array.replicate 11 (.int .i64 0)) rfl rfl 58 _ hg0.out (pw_info hzr.out) rfl hzr.out.one ?_)
      | go_in)
    refine bodyPost_ret (v := .tuple #[.agg (Array.replicate 11 (.int .i64 0)), .bool false]) ?_ rfl ⟨below_setRow HB.out (Nat.le_refl _) _, Or.inr ⟨HW.out, _, hzr.out, rfl⟩⟩
    exact results_row2 rfl _ _ W.heap.size 58 _ (0, 0) _ rfl (setRow_heap _ _ _ _ _ _ hg0.out) Try.underlying58 rfl (pw_info hzr.out) _ rfl
  · have HW : Hid (wordsN 11 ws = true) := hw
    obtain ⟨h11, _⟩ := wordsN_out hw
    have e11 : lv = 11 := by rw [← hz'.out]; exact h11
    subst e11
    obtain ⟨vb, vo, rfl, hvb, hvc⟩ := ints_some8 h'.out (by omega)
    have HV : Hid (∀ i, i < ws.length → ((W.alloc (.cells #[.int .i64 0, .int .i64 0, .int .i64 0, .int .i64 0, .int .i64 0, .int .i64 0, .int .i64 0, .int .i64 0, .int .i64 0, .int .i64 0, .int .i64 0] 58)).alloc (.cells #[.int .i64 0, .int .i64 0, .int .i64 0, .int .i64 0, .int .i64 0, .int .i64 0, .int .i64 0, .int .i64 0, .int .i64 0, .int .i64 0, .int .i64 0] 58)).cell? ⟨vb, vo + i, none⟩ = some (.int .i64 (ws.getD i 0))) := fun i hi => (HB.out.cell (p := ⟨vb, vo + i, none⟩) hvb).trans (hvc i hi)
    have hA := ints_arr ws
    rw [h11] at hA
    obtain ⟨C, hC⟩ : ∃ C, Hid ((ws.map (Value.int .i64)).toArray = C) := ⟨_, rfl⟩
    rw [hC.out] at hA
    have HA : Hid (IsArr C 11 (fun i => ws.getD i 0)) := hA
    have hrow : Hid (((#[.int .i64 0, .int .i64 0, .int .i64 0, .int .i64 0, .int .i64 0, .int .i64 0, .int .i64 0, .int .i64 0, .int .i64 0, .int .i64 0, .int .i64 0] : Array Value).toList.take 0 ++ (ws.map (Value.int .i64) ++ (#[.int .i64 0, .int .i64 0, .int .i64 0, .int .i64 0, .int .i64 0, .int .i64 0, .int .i64 0, .int .i64 0, .int .i64 0, .int .i64 0, .int .i64 0] : Array Value).toList.drop (0 + (ws.map (Value.int .i64)).length))).toArray = C) := by
      show List.toArray _ = C
      rw [← hC.out]
      simp [h11]
    obtain ⟨w2, HE2⟩ : ∃ w2, Hid (((W.alloc (.cells #[.int .i64 0, .int .i64 0, .int .i64 0, .int .i64 0, .int .i64 0, .int .i64 0, .int .i64 0, .int .i64 0, .int .i64 0, .int .i64 0, .int .i64 0] 58)).alloc (.cells #[.int .i64 0, .int .i64 0, .int .i64 0, .int .i64 0, .int .i64 0, .int .i64 0, .int .i64 0, .int .i64 0, .int .i64 0, .int .i64 0, .int .i64 0] 58)).setRow (W.heap.size + 1) C = w2) := ⟨_, rfl⟩
    have HG1 : Hid (w2.heap[W.heap.size + 1]? = some (.cells C 58 (0, 0))) := by
      rw [← HE2.out]; exact setRow_heap _ _ _ _ _ _ (heap_alloc2_new _ _ _)
    have HG0 : Hid (w2.heap[W.heap.size]? = some (.cells (Array.replicate 11 (.int .i64 0)) 58 (0, 0))) := by
      rw [← HE2.out]; exact (setRow_other _ _ _ _ (by omega)).trans hg0.out
    have HB2 : Hid (Below W.heap.size W w2) := by
      rw [← HE2.out]; exact below_setRow HB.out (by omega) _
    clear hw hvc hA hg0
    go_enter Try.func38, Try.ntmps38
    go_wp2_with (first
      | (go_at_call 49; refine (impl_wordsN _ _ _ 11 ws _ hz' hlv (by omega) (h'.out.kept HB.out)).mono ?_; rw [HW.out]; rintro e w' ⟨rfl, hw'⟩; rw [hw']; clear hw' w')
      | (refine wpList_copy_own rfl _ _ _ _ rfl 3 Try.underlying29 (by kernel_rfl) (W.heap.size + 1) 0 11 11 ⟨vb, vo, none⟩ 11 cv rfl rfl #[.int .i64 0, .int .i64 0, .int .i64 0, .int .i64 0, .int .i64 0, .int .i64 0, .int .i64 0, .int .i64 0, .int .i64 0, .int .i64 0, .int .i64 0] 58 (heap_alloc2_new _ _ _) (ws.map (Value.int .i64)) (by simp [h11]) (ints_news8 HV.out) (by simp [h11]) (ints_one8 ws) ?_; rw [hrow.out, HE2.out, List.length_map, h11])
      | (refine wpList_load_row rfl 58 _ rfl (W.heap.size + 1) rfl 58 C (0, 0) _ HG1.out Try.underlying58 rfl (pw_info HA.out) ?_)
      | (refine wpList_store_row rfl 58 _ _ rfl W.heap.size C rfl rfl 58 _ HG0.out (pw_info HA.out) (hzr.out.size.trans HA.out.size.symm) HA.out.one ?_)
      | go_in)
    refine bodyPost_ret (v := .tuple #[.agg C, .bool true]) ?_ rfl ⟨below_setRow HB2.out (Nat.le_refl _) _, Or.inl ⟨HW.out, C, HA.out, rfl⟩⟩
    exact results_row2 rfl _ _ W.heap.size 58 _ (0, 0) _ rfl (setRow_heap _ _ _ _ _ _ HG0.out) Try.underlying58 rfl (pw_info HA.out) _ rfl

set_option maxHeartbeats 4000000 in
theorem impl_once (a v : Option Addr) (len cap lv cv : Nat) (zs ws : List Int) (W : World) (hz : Hid (zs.length = len * 2)) (hlen : len ≤ 1048576) (h : Hid (Ints W a zs)) (hz' : Hid (ws.length = lv)) (hlv : lv ≤ 1048576) (h' : Hid (Ints W v ws)) :
    Calls Try.prog 16 #[.slice a len cap, .slice v lv cv] W (ImplL (movesB zs len && wordsN 11 ws) 11 (onceL zs len ws) W) := by
  go_enter Try.func16, Try.ntmps16
  go_wp2_with fail
  refine (impl_sources _ _ _ zs _ hz hlen h).mono ?_
  rintro e w1 ⟨hB, hm⟩
  have HB1 : Hid (Below W.heap.size W w1) := hB
  obtain ⟨o1, c1, f1, ho1, hc1, rfl, hf1⟩ : ∃ (o1 : Bool) (c1 : Array Value) (f1 : Nat → Int), Hid (movesB zs len = o1) ∧ IsArr c1 10 f1 ∧ e = .returned (.tuple #[.agg c1, .bool o1]) ∧ (o1 = true → f1 = fun (i : Nat) => srcTo zs len (i : Int)) := by
    rcases hm with ⟨hm, c, hc, rfl⟩ | ⟨hm, c, hc, rfl⟩
    · exact ⟨true, c, _, hm, hc, rfl, fun _ => rfl⟩
    · exact ⟨false, c, _, hm, hc, rfl, fun q => by cases q⟩
  have HC1 : Hid (IsArr c1 10 f1) := hc1
  have HF1 : Hid (o1 = true → f1 = fun (i : Nat) => srcTo zs len (i : Int)) := hf1
  have HB2 : Hid (Below W.heap.size W (w1.alloc (.cells c1 52))) := HB1.out.alloc HB1.out.size _
  clear hB hm hc1 hf1
  go_wp2_with (first
    | (refine wpList_store_row rfl 52 _ _ rfl w1.heap.size c1 rfl rfl 52 #[.int .i64 0, .int .i64 0, .int .i64 0, .int .i64 0, .int .i64 0, .int .i64 0, .int .i64 0, .int .i64 0, .int .i64 0, .int .i64 0] (heap_alloc_last w1 _) (src_info HC1.out) HC1.out.size.symm HC1.out.one ?_; rw [World.setRow_alloc_new])
    | (go_at_call 38; refine park ?_)
    | go_in)
  show Calls _ _ _ _ _
  refine (impl_wordsat _ _ _ ws _ hz' hlv (h'.out.kept HB2.out)).mono ?_
  rintro e w2 ⟨hB, hm⟩
  have HB3 : Hid (Below W.heap.size W w2) := HB2.out.trans (hB.mono HB2.out.size)
  have HS1 : Hid (w2.rowIs w1.heap.size 52 10 (fun i => .int .i64 (f1 i))) := (arr_new HC1.out).of_block (hB.block _ (by simp))
  obtain ⟨o2, c2, f2, ho2, hc2, rfl, hf2⟩ : ∃ (o2 : Bool) (c2 : Array Value) (f2 : Nat → Int), Hid (wordsN 11 ws = o2) ∧ IsArr c2 11 f2 ∧ e = .returned (.tuple #[.agg c2, .bool o2]) ∧ (o2 = true → f2 = fun i => ws.getD i 0) := by
    rcases hm with ⟨hm, c, hc, rfl⟩ | ⟨hm, c, hc, rfl⟩
    · exact ⟨true, c, _, hm, hc, rfl, fun _ => rfl⟩
    · exact ⟨false, c, _, hm, hc, rfl, fun q => by cases q⟩
  have HC2 : Hid (IsArr c2 11 f2) := hc2
  have HF2 : Hid (o2 = true → f2 = fun i => ws.getD i 0) := hf2
  have HB4 : Hid (Below W.heap.size W (w2.alloc (.cells c2 58))) := HB3.out.alloc HB3.out.size _
  clear hB hm hc2 hf2 HB1 HB2
  cases o1
  · go_wp2_with (first
      | (refine wpList_store_row rfl 58 _ _ rfl w2.heap.size c2 rfl rfl 58 #[.int .i64 0, .int .i64 0, .int .i64 0, .int .i64 0, .int .i64 0, .int .i64 0, .int .i64 0, .int .i64 0, .int .i64 0, .int .i64 0, .int .i64 0] (heap_alloc_last w2 _) (pw_info HC2.out) HC2.out.size.symm HC2.out.one ?_; rw [World.setRow_alloc_new])
      | go_in)
    go_ret2
    exact ⟨HB4.out, Or.inr ⟨by rw [ho1.out]; rfl, rfl⟩⟩
  cases o2
  · go_wp2_with (first
      | (refine wpList_store_row rfl 58 _ _ rfl w2.heap.size c2 rfl rfl 58 #[.int .i64 0, .int .i64 0, .int .i64 0, .int .i64 0, .int .i64 0, .int .i64 0, .int .i64 0, .int .i64 0, .int .i64 0, .int .i64 0, .int .i64 0] (heap_alloc_last w2 _) (pw_info HC2.out) HC2.out.size.symm HC2.out.one ?_; rw [World.setRow_alloc_new])
      | go_in)
    go_ret2
    exact ⟨HB4.out, Or.inr ⟨by rw [ho1.out, ho2.out]; rfl, rfl⟩⟩
  obtain rfl := HF1.out rfl
  obtain rfl := HF2.out rfl
  have hs12 : w1.heap.size < w2.heap.size := HS1.out.lt
  obtain ⟨w3, HE3⟩ : ∃ w3, Hid (((w2.alloc (.cells c2 58)).alloc (.cells #[.int .i64 0, .int .i64 0, .int .i64 0, .int .i64 0, .int .i64 0, .int .i64 0, .int .i64 0, .int .i64 0, .int .i64 0, .int .i64 0, .int .i64 0] 58)).setRow (w2.heap.size + 1) c2 = w3) := ⟨_, rfl⟩
  have HW3 : Hid (w3.rowIs (w2.heap.size + 1) 58 11 (fun i => .int .i64 (ws.getD i 0))) := by
    rw [← HE3.out]; exact arr_row HC2.out (setRow_heap _ _ _ _ _ _ (heap_alloc2_new _ _ _))
  have HP3 : Hid (w3.rowIs w2.heap.size 58 11 (fun i => .int .i64 (ws.getD i 0))) := by
    rw [← HE3.out]; exact rowIs_setRow ((arr_new HC2.out).alloc _) (by omega) _
  have HS3 : Hid (w3.rowIs w1.heap.size 52 10 (fun i => .int .i64 (srcTo zs len (i : Int)))) := by
    rw [← HE3.out]; exact rowIs_setRow ((HS1.out.alloc _).alloc _) (by omega) _
  have HB5 : Hid (Below W.heap.size W w3) := by
    rw [← HE3.out]; exact below_setRow (HB4.out.alloc HB4.out.size _) (by have := HB3.out.size; omega) _
  obtain ⟨c3, hc3, hg3⟩ := row_arr HS3.out
  have HC3 : Hid (IsArr c3 10 (fun i => srcTo zs len (i : Int))) := hc3
  have HG3 : Hid (w3.heap[w1.heap.size]? = some (.cells c3 52 (0, 0))) := hg3
  have hs2 : W.heap.size ≤ w2.heap.size := HB3.out.size
  clear hc3 hg3 HF1 HF2 HS1 HC1 HB3 HB4
  go_wp2_with (first
    | (refine wpList_store_row rfl 58 _ _ rfl w2.heap.size c2 rfl rfl 58 #[.int .i64 0, .int .i64 0, .int .i64 0, .int .i64 0, .int .i64 0, .int .i64 0, .int .i64 0, .int .i64 0, .int .i64 0, .int .i64 0, .int .i64 0] (heap_alloc_last w2 _) (pw_info HC2.out) HC2.out.size.symm HC2.out.one ?_; rw [World.setRow_alloc_new])
    | (refine wpList_load_row rfl 58 _ rfl w2.heap.size rfl 58 c2 (0, 0) _ (heap_alloc_last w2 _) Try.underlying58 rfl (pw_info HC2.out) ?_)
    | (refine wpList_store_row rfl 58 _ _ rfl (w2.heap.size + 1) c2 rfl rfl 58 #[.int .i64 0, .int .i64 0, .int .i64 0, .int .i64 0, .int .i64 0, .int .i64 0, .int .i64 0, .int .i64 0, .int .i64 0, .int .i64 0, .int .i64 0] (heap_alloc2_new _ _ _) (pw_info HC2.out) HC2.out.size.symm HC2.out.one ?_; rw [HE3.out])
    | (refine wpList_load_row rfl 52 _ rfl w1.heap.size rfl 52 c3 (0, 0) _ HG3.out Try.underlying52 rfl (src_info HC3.out) ?_)
    | go_in)
  have HGM : Hid (GoodM zs len) := (moves_out ho1.out).2
  clear HG3
  go_loopw [31] (fun vi wr => ∃ k : Nat, k ≤ 10 ∧ vi = .int .i64 k ∧ Hid (wr.rowIs (w2.heap.size + 1) 58 11 (fun i => .int .i64 (if i < k then ws.getD (srcTo zs len (i : Int)).toNat 0 else ws.getD i 0))) ∧ Hid (wr.rowIs w2.heap.size 58 11 (fun i => .int .i64 (ws.getD i 0))) ∧ Hid (Below W.heap.size W wr)) (fun vi _ => 20 - (intOf vi).toNat)
  case atStart => exact ⟨0, by omega, rfl, HW3.out.congr (fun i hi => by rw [if_neg (by omega)]), HP3, HB5⟩
  case round =>
    obtain ⟨k, hk, rfl, HA, HP, HB⟩ := hrel
    clear HW3 HP3 HB5 HS3
    by_cases hlt : k < 10
    · have hx := index_arr HC3.out Try.underlying52 Try.underlying3 (by kernel_rfl) hlt
      obtain ⟨b0, b1⟩ := src_bd (p := (k : Int)) HGM.out (by omega) (by omega)
      obtain ⟨j, hj⟩ : ∃ j : Nat, Hid (srcTo zs len (k : Int) = (j : Int)) := ⟨(srcTo zs len (k : Int)).toNat, by show srcTo zs len (k : Int) = _; omega⟩
      rw [hj.out] at b0 b1
      replace hx : ∀ w : World, (Instr.index 52 (.agg c3) (.int .i64 (k : Int))).run Try.prog w = .ok (.int .i64 (j : Int)) w := fun w => by rw [← hj.out]; exact hx w
      have a0 := HA.out.cell (i := k) (by omega)
      have a1 := HA.out.frozen k
      have p0 := HP.out.cell (i := j) (by omega)
      have hk11 : (k : Int) < 11 := by omega
      have hj11 : (j : Int) < 11 := by omega
      obtain ⟨t, ht⟩ : ∃ t, Hid (ws.getD j 0 = t) := ⟨_, rfl⟩
      rw [ht.out] at p0
      go_wp2
      go_roundw
      case rel =>
        refine ⟨k + 1, by omega, by go_num, ?_, ?_, ?_⟩
        · refine World.rowIs.congr (HA.out.set k (.int .i64 t)) ?_
          intro i hi
          by_cases e : i = k
          · subst e
            rw [if_pos rfl, if_pos (by omega), hj.out]
            show _ = Value.int .i64 (ws.getD j 0)
            rw [ht.out]
          · simp only [if_neg e]
            by_cases e2 : i < k
            · rw [if_pos e2, if_pos (by omega)]
            · rw [if_neg e2, if_neg (by omega)]
        · exact HP.out.setOther (by show w2.heap.size ≠ w2.heap.size + 1; omega) _
        · exact HB.out.setCell (by show W.heap.size ≤ w2.heap.size + 1; omega) _
      case measure => simp [intOf]; omega
    · have hk10 : k = 10 := by omega
      subst hk10
      have hM : Mine wr W.heap.size (some ⟨w2.heap.size + 1, 0, none⟩) (onceL zs len ws) := by
        refine mine_rowT (HA.out.congr (fun i hi => ?_)) (once_len _ _ _) (by omega)
        rw [once_at _ _ _ hi]
        by_cases e : i < 10
        · rw [if_pos e]
        · have e10 : i = 10 := by omega
          subst e10
          rw [if_neg e]
          show _ = Value.int .i64 (ws.getD (srcTo zs len 10).toNat 0)
          rw [src_last HGM.out]; rfl
      go_wp2
      go_ret2
      exact ⟨HB.out, Or.inl ⟨by rw [ho1.out, ho2.out]; rfl, _, _, rfl, hM⟩⟩

theorem impl_isturn (a : Option Addr) (len cap : Nat) (zs : List Int) (W : World) (hz : Hid (zs.length = len * 2)) (hlen : len ≤ 1048576) (h : Hid (Ints W a zs)) :
    Calls Try.prog 40 #[.slice a len cap] W fun e W' => e = .returned (.bool (turnB zs len)) ∧ Below W.heap.size W W' := by
  by_cases h40 : len ≤ 40
  rotate_left
  · have HE : Hid (turnB zs len = false) := turn_long (by omega)
    have hl : (40 : Int) < (len : Int) := by omega
    clear h40
    go_enter Try.func40, Try.ntmps40
    go_wp2
    go_ret
    exact ⟨by rw [HE.out]; rfl, Below.refl _ _⟩
  have hl40 : (len : Int) ≤ 40 := by omega
  go_enter Try.func40, Try.ntmps40
  go_wp2
  go_loopw [10] (fun vi wr => ∃ k : Nat, k ≤ len ∧ vi = .int .i64 k ∧ Hid (∀ j, j < k → inR (frM zs j) 0 10 = true ∧ inR (toM zs j) 0 10 = true) ∧ Hid (Below W.heap.size W wr)) (fun vi _ => len - (intOf vi).toNat)
  case atStart => exact ⟨0, Nat.zero_le _, rfl, fun j hj => by omega, Below.refl _ _⟩
  case round =>
    obtain ⟨k, hk, rfl, HG, HB3⟩ := hrel
    by_cases hlt : k < len
    · obtain ⟨b, mo, x, y, ha, hb, m0, m1, HX, HY⟩ := move_at h.out hz.out HB3.out hlt
      subst ha
      have hbw : b < wr.heap.size := by have := HB3.out.size; omega
      have HB4 : Hid (Below W.heap.size W (wr.alloc (.cells #[.int .i64 x, .int .i64 y] 47))) := HB3.out.alloc HB3.out.size _
      cases hx : inR x 0 10
      · have HE : Hid (turnB zs len = false) := turn_fr hlt (by rw [HX.out]; exact hx)
        go_wp2_with (go_at_call 50; refine (impl_spare _ _).mono ?_; rw [hx]; rintro e w' ⟨rfl, rfl⟩)
        go_ret
        exact ⟨by rw [HE.out]; rfl, HB4.out⟩
      cases hy : inR y 0 10
      · have HE : Hid (turnB zs len = false) := turn_to hlt (by rw [HY.out]; exact hy)
        go_wp2_with (go_at_call 50; refine (impl_spare _ _).mono ?_; (first | rw [hx] | rw [hy]); rintro e w' ⟨rfl, rfl⟩)
        go_ret
        exact ⟨by rw [HE.out]; rfl, HB4.out⟩
      have HG' : Hid (∀ p, p < k + 1 → inR (frM zs p) 0 10 = true ∧ inR (toM zs p) 0 10 = true) := by
        show ∀ p, p < k + 1 → _
        intro p hp
        by_cases e : p = k
        · subst e; exact ⟨by rw [HX.out]; exact hx, by rw [HY.out]; exact hy⟩
        · exact HG.out p (by omega)
      go_wp2_with (go_at_call 50; refine (impl_spare _ _).mono ?_; (first | rw [hx] | rw [hy]); rintro e w' ⟨rfl, rfl⟩)
      go_roundw
      case rel => exact ⟨k + 1, by omega, by go_num, HG', HB4⟩
      case measure => simp [intOf]; omega
    · have hkl : k = len := by omega
      subst hkl
      have HM : Hid (turnB zs k = true) := turn_mk h40 HG.out
      go_wp2
      go_ret
      exact ⟨by rw [HM.out]; rfl, HB3.out⟩
set_option maxHeartbeats 4000000 in
theorem impl_turn (a v : Option Addr) (len cap lv cv : Nat) (zs ws : List Int) (W : World) (hz : Hid (zs.length = len * 2)) (hlen : len ≤ 1048576) (h : Hid (Ints W a zs)) (hz' : Hid (ws.length = lv)) (hlv : lv ≤ 1048576) (h' : Hid (Ints W v ws)) :
    Calls Try.prog 22 #[.slice a len cap, .slice v lv cv] W (ImplL (turnB zs len && wordsN 11 ws) 11 (turnTo zs ws len) W) := by
  go_enter Try.func22, Try.ntmps22
  go_wp2_with fail
  refine (impl_wordsat _ _ _ ws _ hz' hlv h').mono ?_
  rintro e w1 ⟨hB, hm⟩
  have HB1 : Hid (Below W.heap.size W w1) := hB
  clear hB
  rcases hm with ⟨hm, c1, hc1, rfl⟩ | ⟨hm, c1, hc1, rfl⟩
  rotate_left
  · have HM : Hid (wordsN 11 ws = false) := hm
    have HC1 : Hid (IsArr c1 11 (fun _ => 0)) := hc1
    clear hm hc1
    go_wp2_with (first
      | (refine wpList_store_row rfl 58 _ _ rfl w1.heap.size c1 rfl rfl 58 #[.int .i64 0, .int .i64 0, .int .i64 0, .int .i64 0, .int .i64 0, .int .i64 0, .int .i64 0, .int .i64 0, .int .i64 0, .int .i64 0, .int .i64 0] (heap_alloc_last w1 _) (pw_info HC1.out) HC1.out.size.symm HC1.out.one ?_; rw [World.setRow_alloc_new])
      | go_in)
    go_ret2
    exact ⟨HB1.out.alloc HB1.out.size _, Or.inr ⟨by rw [HM.out]; simp, rfl⟩⟩
  have HM : Hid (wordsN 11 ws = true) := hm
  have HC1 : Hid (IsArr c1 11 (fun i => ws.getD i 0)) := hc1
  have h11 : ws.length = 11 := (wordsN_out hm).1
  have HB2 : Hid (Below W.heap.size W (w1.alloc (.cells c1 58))) := HB1.out.alloc HB1.out.size _
  clear hm hc1
  cases ho : turnB zs len
  · have HO : Hid (turnB zs len = false) := ho
    go_wp2_with (first
      | (refine wpList_store_row rfl 58 _ _ rfl w1.heap.size c1 rfl rfl 58 #[.int .i64 0, .int .i64 0, .int .i64 0, .int .i64 0, .int .i64 0, .int .i64 0, .int .i64 0, .int .i64 0, .int .i64 0, .int .i64 0, .int .i64 0] (heap_alloc_last w1 _) (pw_info HC1.out) HC1.out.size.symm HC1.out.one ?_; rw [World.setRow_alloc_new])
      | (go_at_call 40; refine (impl_isturn _ _ _ zs _ hz hlen (h.out.kept HB2.out)).mono ?_; rw [HO.out]; rintro e w2 ⟨rfl, hB⟩; have HB3 : Hid (Below W.heap.size W w2) := HB2.out.trans (hB.mono HB2.out.size); clear hB)
      | go_in)
    go_ret2
    exact ⟨HB3.out, Or.inr ⟨by rw [HO.out]; rfl, rfl⟩⟩
  have HO : Hid (turnB zs len = true) := ho
  obtain ⟨h40, hgt⟩ := turn_out ho
  have HG : Hid (∀ k, k < len → inR (frM zs k) 0 10 = true ∧ inR (toM zs k) 0 10 = true) := hgt
  clear ho hgt
  go_wp2_with (first
    | (refine wpList_store_row rfl 58 _ _ rfl w1.heap.size c1 rfl rfl 58 #[.int .i64 0, .int .i64 0, .int .i64 0, .int .i64 0, .int .i64 0, .int .i64 0, .int .i64 0, .int .i64 0, .int .i64 0, .int .i64 0, .int .i64 0] (heap_alloc_last w1 _) (pw_info HC1.out) HC1.out.size.symm HC1.out.one ?_; rw [World.setRow_alloc_new])
    | (go_at_call 40; refine (impl_isturn _ _ _ zs _ hz hlen (h.out.kept HB2.out)).mono ?_; rw [HO.out]; rintro e w2 ⟨rfl, hB⟩; have HB3 : Hid (Below W.heap.size W w2) := HB2.out.trans (hB.mono HB2.out.size); have HR : Hid (w2.rowIs w1.heap.size 58 11 (fun i => .int .i64 (ws.getD i 0))) := (arr_new HC1.out).of_block (hB.block _ (by simp)); clear hB)
    | go_in)
  have hs1 : W.heap.size ≤ w1.heap.size := HB1.out.size
  go_loopw [24] (fun vi wr => ∃ k : Nat, k ≤ len ∧ vi = .int .i64 k ∧ Hid (wr.rowIs w1.heap.size 58 11 (fun i => .int .i64 ((turnTo zs ws k).getD i 0))) ∧ Hid (Below W.heap.size W wr)) (fun vi _ => len - (intOf vi).toNat)
  case atStart => exact ⟨0, Nat.zero_le _, rfl, HR, HB3⟩
  case round =>
    obtain ⟨k, hk, rfl, HA, HB⟩ := hrel
    clear HB1 HB2 HB3 HR HC1
    have hgl : w1.heap.size < wr.heap.size := HA.out.lt
    by_cases hlt : k < len
    · obtain ⟨b, mo, x, y, ha, hb, m0, m1, HX, HY⟩ := move_at h.out hz.out HB.out hlt
      subst ha
      obtain ⟨g0, g1⟩ := HG.out k hlt
      rw [HX.out] at g0
      rw [HY.out] at g1
      obtain ⟨x0, x1⟩ := inR_out g0
      obtain ⟨y0, y1⟩ := inR_out g1
      obtain ⟨i, rfl⟩ : ∃ i : Nat, x = (i : Int) := ⟨x.toNat, by omega⟩
      obtain ⟨j, rfl⟩ : ∃ j : Nat, y = (j : Int) := ⟨y.toNat, by omega⟩
      have hi11 : (i : Int) < 11 := by omega
      have hj11 : (j : Int) < 11 := by omega
      have s0 := HA.out.cell (i := j) (by omega)
      have s1 := HA.out.frozen j
      have v0 := HA.out.cell (i := i) (by omega)
      have hbw : b < wr.heap.size := by omega
      obtain ⟨t, ht⟩ : ∃ t, Hid ((turnTo zs ws k).getD i 0 = t) := ⟨_, rfl⟩
      obtain ⟨s, hs⟩ : ∃ s, Hid ((turnTo zs ws k).getD j 0 = s) := ⟨_, rfl⟩
      replace s0 : wr.cell? ⟨w1.heap.size, j, none⟩ = some (.int .i64 s) := by rw [← hs.out]; exact s0
      replace v0 : wr.cell? ⟨w1.heap.size, i, none⟩ = some (.int .i64 t) := by rw [← ht.out]; exact v0
      clear g0 g1
      go_wp2
      go_region
      all_goals
        go_wp2
        go_roundw
        case rel =>
          refine ⟨k + 1, by omega, by go_num, ?_, ?_⟩
          · refine World.rowIs.congr ((HA.out.set j (.int .i64 t)).alloc _) ?_
            intro p hp
            show (if p = j then Value.int .i64 t else _) = Value.int .i64 (((turnTo zs ws k).set (toM zs k).toNat ((turnTo zs ws k).getD (frM zs k).toNat 0)).getD p 0)
            rw [HY.out, HX.out, set_getD _ _ _ _ (by rw [turn_len, h11]; omega)]
            show (if p = j then Value.int .i64 t else _) = Value.int .i64 (if p = j then (turnTo zs ws k).getD i 0 else (turnTo zs ws k).getD p 0)
            rw [ht.out]
            by_cases e : p = j
            · rw [if_pos e, if_pos e]
            · rw [if_neg e, if_neg e]
          · exact ((HB.out.setCell (by show W.heap.size ≤ w1.heap.size; exact hs1) _).alloc (by simp; omega) _).drew
        case measure => simp [intOf]; omega
    · have hkl : k = len := by omega
      subst hkl
      have hM : Mine wr W.heap.size (some ⟨w1.heap.size, 0, none⟩) (turnTo zs ws k) := mine_rowT HA.out (by rw [turn_len]; exact h11) hs1
      go_wp2
      go_ret2
      exact ⟨HB.out, Or.inl ⟨by rw [HO.out, HM.out]; rfl, _, _, rfl, hM⟩⟩
end Go.Proofs.Ythjcgnldlhjjmaa.walks
