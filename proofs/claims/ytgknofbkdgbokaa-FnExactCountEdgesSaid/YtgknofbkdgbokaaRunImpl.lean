/-
  What the program's RunCode answers, at every list of steps and every list of words: what is told and the words in the end, in memory of their own.
-/
import Derived.Test.YtgknofbkdgbokaaProg
import Derived.Test.YtgknofbkdgbokaaMagMath
import Derived.Test.YtgknofbkdgbokaaCodeMath
import Derived.Test.YtgknofbkdgbokaaRunMath
import Derived.Test.YtgknofbkdgbokaaInts
import Derived.Test.YtgknofbkdgbokaaOwnInts
import Derived.Test.YtgknofbkdgbokaaRecsInstr
import Derived.Test.YtgknofbkdgbokaaCodeRun
import Derived.Test.YtgknofbkdgbokaaStepImpl
import Derived.Test.YtgknofbkdgbokaaStepsOf
import Derived.Test.YtgknofbkdgbokaaDoImpl
import Derived.WalkKit
import Derived.WalkSpells
import Derived.Below
import Derived.Handy
import Derived.Laws.Cover3
namespace Go.Proofs.Ytgknofbkdgbokaa.walks
open Go.RowKit Go.Proofs.Ytgknofbkdgbokaa.math Go.Proofs.Ytgknofbkdgbokaa.ints
set_option linter.unusedVariables false

/-- What a run has come to: eight words in the block's first eight cells, what is told behind them. -/
def RunSt (w : World) (B g : Nat) (ws told : List Int) : Prop :=
  B ≤ g ∧ g < w.heap.size ∧ (∀ i, i < 8 → w.cell? ⟨g, i, none⟩ = some (.int .i64 (ws.getD i 0))) ∧ (∀ i, i < 9 → w.frozen? ⟨g, i, none⟩ = false) ∧ ∃ v, w.cell? ⟨g, 8, none⟩ = some v ∧ Own w B v told ∧ v.ownBlock ≠ some g
theorem run_set {W : World} {B g j : Nat} {ws told : List Int} (hs : RunSt W B g ws told) (hl : ws.length = 8) (hj : j < 8) (v : Int) (o : Obj) :
    RunSt ((W.setCell ⟨g, j, none⟩ (.int .i64 v)).alloc o).drew B g (ws.set j v) told ∧ Below B W ((W.setCell ⟨g, j, none⟩ (.int .i64 v)).alloc o).drew := by
  obtain ⟨hB, hg, hc, hf, u, h8, hO, hu⟩ := hs
  have hg2 : g < (W.setCell ⟨g, j, none⟩ (.int .i64 v)).heap.size := by simpa [World.setCell] using hg
  have hcell : ∀ i, ((W.setCell ⟨g, j, none⟩ (.int .i64 v)).alloc o).drew.cell? ⟨g, i, none⟩ = (W.setCell ⟨g, j, none⟩ (.int .i64 v)).cell? ⟨g, i, none⟩ := fun i => World.cell?_alloc_past o g i hg2
  have hfr : ∀ i, ((W.setCell ⟨g, j, none⟩ (.int .i64 v)).alloc o).drew.frozen? ⟨g, i, none⟩ = W.frozen? ⟨g, i, none⟩ := fun i => by
    have h1 : ((W.setCell ⟨g, j, none⟩ (.int .i64 v)).alloc o).drew.frozen? ⟨g, i, none⟩ = (W.setCell ⟨g, j, none⟩ (.int .i64 v)).frozen? ⟨g, i, none⟩ := World.frozen?_of_block (a := ⟨g, i, none⟩) (heap_alloc_old _ o hg2)
    rw [h1]; simp
  refine ⟨⟨hB, ?_, fun i hi => ?_, fun i hi => (hfr i).trans (hf i hi), u, ?_, ?_, hu⟩, ?_⟩
  · show g < (World.alloc _ o).heap.size
    simp; omega
  · rw [hcell]
    by_cases e : i = j
    · subst e
      rw [World.cell?_setCell_same _ _ _ (hc i hi)]
      simp [List.getD, List.getElem?_set_self (show i < ws.length by omega)]
    · rw [World.cell?_setCell_other _ _ _ _ (by simp <;> omega), hc i hi]
      simp [List.getD, List.getElem?_set_ne (show j ≠ i by omega)]
  · rw [hcell, World.cell?_setCell_other _ _ _ _ (by simp <;> omega), h8]
  · refine World.ownsRow.drew (World.ownsRow.alloc (World.ownsRow.kept hO (grow_set (grow_refl _ _) j _) ?_) o)
    cases hb : u.ownBlock with
    | none => exact Or.inl rfl
    | some k => exact Or.inr (by rw [hb] at hu; exact hu)
  · exact (((Below.refl B W).setCell hB _).alloc (by simp [World.setCell]; omega) o).drew
theorem run_told {W W' : World} {B g : Nat} {ws told zs : List Int} (hs : RunSt W B g ws told) (ht : ToldOne W W' B g zs) : RunSt W' B g ws zs ∧ Below B W W' := by
  obtain ⟨hB, hg, hc, hf, _⟩ := hs
  obtain ⟨v', h8, hO, hv, hc', hf', hb⟩ := ht
  exact ⟨⟨hB, Nat.lt_of_lt_of_le hg hb.size, fun i hi => (hc' i hi).trans (hc i hi), fun i hi => (hf' i).trans (hf i hi), v', h8, hO, hv⟩, hb⟩
theorem impl_do (o d a b n : Int) (g B : Nat) (ws told : List Int) (W : World) (hg : goodI o d a b n = true) (hw : wordsB ws = true) (hs : RunSt W B g ws told) (hn : told.length ≤ 30) :
    Calls Try.prog 73 #[.pointer (some ⟨g, 0, none⟩), stepV o d a b n] W fun e W' => e = .returned (.tuple #[]) ∧ RunSt W' B g (stepW ws o d a b n) (told ++ toldBy ws o a) ∧ Below B W W' := by
  have hl := (words_out hw).1
  have hs0 := hs
  obtain ⟨hB, hgl, hc, hf, u, h8, hO, hu⟩ := hs0
  rcases good_cases hg with ⟨rfl, ⟨d0, d1⟩, n0, n1⟩ | ⟨rfl, ⟨d0, d1⟩, x0, x1⟩ | ⟨rfl, x0, x1⟩ | ⟨⟨o3, o7⟩, ⟨d0, d1⟩, ⟨x0, x1⟩, y0, y1⟩
  · obtain ⟨dn, rfl⟩ := Int.eq_ofNat_of_zero_le d0
    refine (do_c dn n g W _ (by omega) hgl (hc dn (by omega)) (hf dn (by omega))).mono ?_
    rintro e w' ⟨rfl, rfl⟩
    have := run_set hs hl (j := dn) (by omega) n (.cells #[.int .i64 (dn : Int), .int .i64 n] 117)
    refine ⟨rfl, ?_, this.2⟩
    simpa [stepW, toldBy] using this.1
  · obtain ⟨dn, rfl⟩ := Int.eq_ofNat_of_zero_le d0
    obtain ⟨xn, rfl⟩ := Int.eq_ofNat_of_zero_le x0
    refine (do_y dn xn _ g W _ (by omega) (by omega) hgl (hc dn (by omega)) (hf dn (by omega)) (hc xn (by omega))).mono ?_
    rintro e w' ⟨rfl, rfl⟩
    have := run_set hs hl (j := dn) (by omega) (ws.getD xn 0) (.cells #[.int .i64 (dn : Int), .int .i64 (xn : Int)] 119)
    refine ⟨rfl, ?_, this.2⟩
    simpa [stepW, toldBy] using this.1
  · obtain ⟨xn, rfl⟩ := Int.eq_ofNat_of_zero_le x0
    refine (do_t xn _ g B 0 W u told (by omega) hgl hB (hc xn (by omega)) h8 (hf 8 (by omega)) hO hn hu).mono ?_
    rintro e w' ⟨rfl, ht⟩
    have := run_told hs ht
    refine ⟨rfl, ?_, this.2⟩
    simpa [stepW, toldBy] using this.1
  · obtain ⟨dn, rfl⟩ := Int.eq_ofNat_of_zero_le d0
    obtain ⟨xn, rfl⟩ := Int.eq_ofNat_of_zero_le x0
    obtain ⟨yn, rfl⟩ := Int.eq_ofNat_of_zero_le y0
    obtain ⟨p0, p1⟩ := word_at hw (i := xn) (by omega)
    obtain ⟨r0, r1⟩ := word_at hw (i := yn) (by omega)
    rw [stepV_p o3 o7]
    refine (do_p o dn xn yn _ _ g W _ o3 o7 p0 p1 r0 r1 (by omega) (by omega) (by omega) hgl (hc dn (by omega)) (hf dn (by omega)) (hc xn (by omega)) (hc yn (by omega))).mono ?_
    rintro e w' ⟨rfl, rfl⟩
    have := run_set hs hl (j := dn) (by omega) (doV o (ws.getD xn 0) (ws.getD yn 0)) (.cells #[.int .i64 o, .int .i64 (dn : Int), .int .i64 (xn : Int), .int .i64 (yn : Int)] 121)
    refine ⟨rfl, ?_, this.2⟩
    have e1 : stepW ws o (dn : Int) (xn : Int) (yn : Int) n = ws.set dn (doV o (ws.getD xn 0) (ws.getD yn 0)) := by
      unfold stepW
      rw [if_neg (by omega), if_neg (by omega), if_neg (by omega)]
      rfl
    have e2 : toldBy ws o (xn : Int) = [] := by unfold toldBy; rw [if_neg (by omega)]
    rw [e1, e2, List.append_nil]
    exact this.1
theorem impl_words (a : Option Addr) (len cap : Nat) (ws : List Int) (W : World) (hz : Hid (ws.length = len)) (hlen : len ≤ 1048576) (h : Hid (Ints W a ws)) :
    Calls Try.prog 65 #[.slice a len cap, .int .i64 8] W fun e W' => e = .returned (.bool (wordsB ws)) ∧ W' = W := by
  by_cases h8 : len = 8
  rotate_left
  · have HE : Hid (wordsB ws = false) := words_no (by rw [hz.out]; exact h8)
    have q8 : ((len : Int) == 8) = false := by simp; omega
    have q9 : decide ((len : Int) = 8) = false := decide_eq_false (by omega)
    go_enter Try.func65, Try.ntmps65
    go_wp2
    go_ret
    exact ⟨by rw [HE.out]; rfl, rfl⟩
  subst h8
  go_enter Try.func65, Try.ntmps65
  go_wp2
  go_loop [13] (fun vi => ∃ k : Nat, k ≤ 8 ∧ vi = .int .i64 k ∧ Hid (∀ j, j < k → inR (ws.getD j 0) 0 65535 = true)) (fun vi => 8 - (intOf vi).toNat)
  case atStart => exact ⟨0, Nat.zero_le _, rfl, fun j hj => by omega⟩
  case round =>
    obtain ⟨k, hk, rfl, HG⟩ := hrel
    by_cases hlt : k < 8
    · obtain ⟨b, off, ha, hc⟩ := h.out.at (Below.refl _ _) (k := k) (by have := hz.out; omega)
      subst ha
      obtain ⟨x, hx, HX⟩ : ∃ x : Int, W.cell? ⟨b, off + k, none⟩ = some (.int .i64 x) ∧ Hid (x = ws.getD k 0) := ⟨_, hc, rfl⟩
      clear hc
      cases hg : inR x 0 65535
      · have HE : Hid (wordsB ws = false) := words_bad (i := k) (by have := hz.out; omega) (by rw [← HX.out]; exact hg)
        go_wp2_with (go_at_call 72; refine (impl_word _ _).mono ?_; rintro e w' ⟨rfl, rfl⟩)
        go_ret
        exact ⟨by rw [HE.out]; rfl, rfl⟩
      · have HG' : Hid (∀ j, j < k + 1 → inR (ws.getD j 0) 0 65535 = true) := by
          show ∀ j, j < k + 1 → _
          intro j hj
          by_cases e : j = k
          · rw [e, ← HX.out]; exact hg
          · exact HG.out j (by omega)
        go_wp2_with (go_at_call 72; refine (impl_word _ _).mono ?_; rintro e w' ⟨rfl, hw⟩; rw [hw]; clear hw w')
        go_round
        case rel => exact ⟨k + 1, by omega, by go_num, HG'⟩
        case measure => simp [intOf]; omega
    · have HE : Hid (wordsB ws = true) := words_mk hz.out (fun i hi => HG.out i (by have := hz.out; omega))
      go_wp2
      go_ret
      exact ⟨by rw [HE.out]; rfl, rfl⟩
/-- What a run answers. -/
def RunAns (zs ws : List Int) (len : Nat) (W : World) (e : Ending) (W' : World) : Prop :=
  ((codeB zs len && wordsB ws) = true ∧ ∃ a' c' a'' c'', e = .returned (.tuple #[.slice a' (toldTo zs ws len).length c', .slice a'' 8 c'', .bool true]) ∧ Mine W' W.heap.size a' (toldTo zs ws len) ∧ Mine W' W.heap.size a'' (runW zs ws len) ∧ (∀ b o b' o', a' = some ⟨b, o, none⟩ → a'' = some ⟨b', o', none⟩ → b ≠ b') ∧ Below W.heap.size W W') ∨
  ((codeB zs len && wordsB ws) = false ∧ e = .returned (.tuple #[.slice none 0 0, .slice none 0 0, .bool false]) ∧ Below W.heap.size W W')
theorem eight {ws : List Int} (h : ws.length = 8) {W : World} {a : Option Addr} (hi : Ints W a ws) : ∃ b off, a = some ⟨b, off, none⟩ ∧ b < W.heap.size ∧ ∀ i, i < 8 → W.cell? ⟨b, off + i, none⟩ = some (.int .i64 (ws.getD i 0)) := by
  rcases hi with e | ⟨b, off, e, hb, hc⟩
  · rw [e] at h; simp at h
  · exact ⟨b, off, e, hb, fun i hi => hc i (by omega)⟩
theorem mine_low {w : World} {B B' : Nat} {a : Option Addr} {zs : List Int} (h : Mine w B a zs) (hB : B' ≤ B) : Mine w B' a zs := by
  rcases h with h | ⟨b, off, e, h0, r⟩
  · exact Or.inl h
  · exact Or.inr ⟨b, off, e, Nat.le_trans hB h0, r⟩
theorem run_start (W : World) (ws : List Int) (t : TypeId) (x0 x1 x2 x3 x4 x5 x6 x7 : Int) (h0 : x0 = ws.getD 0 0) (h1 : x1 = ws.getD 1 0) (h2 : x2 = ws.getD 2 0) (h3 : x3 = ws.getD 3 0) (h4 : x4 = ws.getD 4 0) (h5 : x5 = ws.getD 5 0) (h6 : x6 = ws.getD 6 0) (h7 : x7 = ws.getD 7 0) : RunSt (W.alloc (.cells #[.int .i64 x0, .int .i64 x1, .int .i64 x2, .int .i64 x3, .int .i64 x4, .int .i64 x5, .int .i64 x6, .int .i64 x7, .slice none 0 0] t)) W.heap.size W.heap.size ws [] := by
  subst h0 h1 h2 h3 h4 h5 h6 h7
  refine ⟨Nat.le_refl _, by simp, fun i hi => ?_, fun i hi => ?_, .slice none 0 0, by simp, own_nil _ _, by simp [Value.ownBlock]⟩
  · rw [World.cell?_alloc_new]
    match i, hi with
    | 0, _ => rfl
    | 1, _ => rfl
    | 2, _ => rfl
    | 3, _ => rfl
    | 4, _ => rfl
    | 5, _ => rfl
    | 6, _ => rfl
    | 7, _ => rfl
    | i + 8, h => omega
  · simp
end Go.Proofs.Ytgknofbkdgbokaa.walks
