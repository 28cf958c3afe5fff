/-
  What the program's RunCode answers, at every list of steps and every list of words: what is told and the words in the end, in memory of their own.
-/
import Derived.Test.YtldmeffhbabanaaProg
import Derived.Test.YtldmeffhbabanaaMagMath
import Derived.Test.YtldmeffhbabanaaCodeMath
import Derived.Test.YtldmeffhbabanaaRunMath
import Derived.Test.YtldmeffhbabanaaInts
import Derived.Test.YtldmeffhbabanaaOwnInts
import Derived.Test.YtldmeffhbabanaaRecsInstr
import Derived.Test.YtldmeffhbabanaaCodeRun
import Derived.Test.YtldmeffhbabanaaStepImpl
import Derived.Test.YtldmeffhbabanaaStepsOf
import Derived.Test.YtldmeffhbabanaaDoImpl
import Derived.WalkKit
import Derived.WalkSpells
import Derived.Below
import Derived.Handy
import Derived.Laws.Cover3
namespace Go.Proofs.Ytldmeffhbabanaa.walks
open Go.RowKit Go.Proofs.Ytldmeffhbabanaa.math Go.Proofs.Ytldmeffhbabanaa.ints
set_option linter.unusedVariables false

/-- What a run has come to: eight words in the block's first eight cells, what is told behind them. -/
def RunSt (w : World) (B g : Nat) (ws told : List Int) : Prop :=
  B ≤ g ∧ g < w.heap.size ∧ (∀ i, i < 8 → w.cell? ⟨g, i, none⟩ = some (.int .i64 (ws.getD i 0))) ∧ (∀ i, i < 9 → w.frozen? ⟨g, i, none⟩ = false) ∧ ∃ v, w.cell? ⟨g, 8, none⟩ = some v ∧ Own w B v told ∧ v.ownBlock ≠ some g
theorem run_set {W : World} {B g j : Nat} {ws told : List Int} (hs : RunSt W B g ws told) (hl : ws.length = 8) (hj : j < 8) (v : Int) (o : Obj) :
    RunSt ((W.setCell ⟨g, j, none⟩ (.int .i64 v)).alloc o).drew B g (ws.set j v) told ∧ Below B W ((W.setCell ⟨g, j, none⟩ (.int .i64 v)).alloc o).drew := by
  obtain ⟨hB, hg, hc, hf, u, h8, hO, hu⟩ := hs
  have hg2 : g < (W.setCell ⟨g, j, none⟩ (.int .i64 v)).heap.size := by simpa [World.setCell] using hg
  have hcell : ∀ i, ((W.setCell ⟨g, j, none⟩ (.int .i64 v)).alloc o).drew.cell? ⟨g, i, none⟩ = (W.setCell ⟨g, j, none⟩ (.int .i64 v)).cell? ⟨g, i, none⟩ := fun i => World.cell?_alloc_past o g i hg2
  have hfr : ∀ i, ((W.setCell ⟨g, j, none⟩ (.int .i64 v)).alloc o).drew.frozen? ⟨g, i, none⟩ = W.frozen? ⟨g, i, none⟩ := fun i => by
    have h1 : ((W.setCell ⟨g, j, none⟩ (.int .i64 v)).alloc o).drew.frozen? ⟨g, i, none⟩ = (W.setCell ⟨g, j, none⟩ (.int .i64 v)).frozen? ⟨g, i, none⟩ := World.frozen?_of_block (a := ⟨g, i, none⟩) (heap_alloc_old _ o hg2)
    rw [h1]; simp
  refine ⟨⟨hB, ?_, fun i hi => ?_, fun i hi => (hfr i).trans (hf i hi), u, ?_, ?_, hu⟩, ?_⟩
  · show g < (World.alloc _ o).heap.size
    simp; omega
  · rw [hcell]
    by_cases e : i = j
    · subst e
      rw [World.cell?_setCell_same _ _ _ (hc i hi)]
      simp [List.getD, List.getElem?_set_self (show i < ws.length by omega)]
    · rw [World.cell?_setCell_other _ _ _ _ (by simp <;> omega), hc i hi]
      simp [List.getD, List.getElem?_set_ne (show j ≠ i by omega)]
  · rw [hcell, World.cell?_setCell_other _ _ _ _ (by simp <;> omega), h8]
  · refine World.ownsRow.drew (World.ownsRow.alloc (World.ownsRow.kept hO (grow_set (grow_refl _ _) j _) ?_) o)
    cases hb : u.ownBlock with
    | none => exact Or.inl rfl
    | some k => exact Or.inr (by rw [hb] at hu; exact hu)
  · exact (((Below.refl B W).setCell hB _).alloc (by simp [World.setCell]; omega) o).drew
theorem run_told {W W' : World} {B g : Nat} {ws told zs : List Int} (hs : RunSt W B g ws told) (ht : ToldOne W W' B g zs) : RunSt W' B g ws zs ∧ Below B W W' := by
  obtain ⟨hB, hg, hc, hf, _⟩ := hs
  obtain ⟨v', h8, hO, hv, hc', hf', hb⟩ := ht
  exact ⟨⟨hB, Nat.lt_of_lt_of_le hg hb.size, fun i hi => (hc' i hi).trans (hc i hi), fun i hi => (hf' i).trans (hf i hi), v', h8, hO, hv⟩, hb⟩
theorem impl_do (o d a b n : Int) (g B : Nat) (ws told : List Int) (W : World) (hg : goodI o d a b n = true) (hw : wordsB ws = true) (hs : RunSt W B g ws told) (hn : told.length ≤ 30) :
    Calls Try.prog 34 #[.pointer (some ⟨g, 0, none⟩), stepV o d a b n] W fun e W' => e = .returned (.tuple #[]) ∧ RunSt W' B g (stepW ws o d a b n) (told ++ toldBy ws o a) ∧ Below B W W' := by
  have hl := (words_out hw).1
  have hs0 := hs
  obtain ⟨hB, hgl, hc, hf, u, h8, hO, hu⟩ := hs0
  rcases good_cases hg with ⟨rfl, ⟨d0, d1⟩, n0, n1⟩ | ⟨rfl, ⟨d0, d1⟩, x0, x1⟩ | ⟨rfl, x0, x1⟩ | ⟨⟨o3, o7⟩, ⟨d0, d1⟩, ⟨x0, x1⟩, y0, y1⟩
  · obtain ⟨dn, rfl⟩ := Int.eq_ofNat_of_zero_le d0
    refine (do_c dn n g W _ (by omega) hgl (hc dn (by omega)) (hf dn (by omega))).mono ?_
    rintro e w' ⟨rfl, rfl⟩
    have := run_set hs hl (j := dn) (by omega) n (.cells #[.int .i64 (dn : Int), .int .i64 n] 102)
    refine ⟨rfl, ?_, this.2⟩
    simpa [stepW, toldBy] using this.1
  · obtain ⟨dn, rfl⟩ := Int.eq_ofNat_of_zero_le d0
    obtain ⟨xn, rfl⟩ := Int.eq_ofNat_of_zero_le x0
    refine (do_y dn xn _ g W _ (by omega) (by omega) hgl (hc dn (by omega)) (hf dn (by omega)) (hc xn (by omega))).mono ?_
    rintro e w' ⟨rfl, rfl⟩
    have := run_set hs hl (j := dn) (by omega) (ws.getD xn 0) (.cells #[.int .i64 (dn : Int), .int .i64 (xn : Int)] 104)
    refine ⟨rfl, ?_, this.2⟩
    simpa [stepW, toldBy] using this.1
  · obtain ⟨xn, rfl⟩ := Int.eq_ofNat_of_zero_le x0
    refine (do_t xn _ g B 0 W u told (by omega) hgl hB (hc xn (by omega)) h8 (hf 8 (by omega)) hO hn hu).mono ?_
    rintro e w' ⟨rfl, ht⟩
    have := run_told hs ht
    refine ⟨rfl, ?_, this.2⟩
    simpa [stepW, toldBy] using this.1
  · obtain ⟨dn, rfl⟩ := Int.eq_ofNat_of_zero_le d0
    obtain ⟨xn, rfl⟩ := Int.eq_ofNat_of_zero_le x0
    obtain ⟨yn, rfl⟩ := Int.eq_ofNat_of_zero_le y0
    obtain ⟨p0, p1⟩ := word_at hw (i := xn) (by omega)
    obtain ⟨r0, r1⟩ := word_at hw (i := yn) (by omega)
    rw [stepV_p o3 o7]
    refine (do_p o dn xn yn _ _ g W _ o3 o7 p0 p1 r0 r1 (by omega) (by omega) (by omega) hgl (hc dn (by omega)) (hf dn (by omega)) (hc xn (by omega)) (hc yn (by omega))).mono ?_
    rintro e w' ⟨rfl, rfl⟩
    have := run_set hs hl (j := dn) (by omega) (doV o (ws.getD xn 0) (ws.getD yn 0)) (.cells #[.int .i64 o, .int .i64 (dn : Int), .int .i64 (xn : Int), .int .i64 (yn : Int)] 106)
    refine ⟨rfl, ?_, this.2⟩
    have e1 : stepW ws o (dn : Int) (xn : Int) (yn : Int) n = ws.set dn (doV o (ws.getD xn 0) (ws.getD yn 0)) := by
      unfold stepW
      rw [if_neg (by omega), if_neg (by omega), if_neg (by omega)]
      rfl
    have e2 : toldBy ws o (xn : Int) = [] := by unfold toldBy; rw [if_neg (by omega)]
    rw [e1, e2, List.append_nil]
    exact this.1
theorem impl_words (a : Option Addr) (len cap : Nat) (ws : List Int) (W : World) (hz : Hid (ws.length = len)) (hlen : len ≤ 1048576) (h : Hid (Ints W a ws)) :
    Calls Try.prog 33 #[.slice a len cap, .int .i64 8] W fun e W' => e = .returned (.bool (wordsB ws)) ∧ W' = W := by
  by_cases h8 : len = 8
  rotate_left
  · have HE : Hid (wordsB ws = false) := words_no (by rw [hz.out]; exact h8)
    have q8 : ((len : Int) == 8) = false := by simp; omega
    have q9 : decide ((len : Int) = 8) = false := decide_eq_false (by omega)
    go_enter Try.func33, Try.ntmps33
    go_wp2
    go_ret
    exact ⟨by rw [HE.out]; rfl, rfl⟩
  subst h8
  go_enter Try.func33, Try.ntmps33
  go_wp2
  go_loop [13] (fun vi => ∃ k : Nat, k ≤ 8 ∧ vi = .int .i64 k ∧ Hid (∀ j, j < k → inR (ws.getD j 0) 0 65535 = true)) (fun vi => 8 - (intOf vi).toNat)
  case atStart => exact ⟨0, Nat.zero_le _, rfl, fun j hj => by omega⟩
  case round =>
    obtain ⟨k, hk, rfl, HG⟩ := hrel
    by_cases hlt : k < 8
    · obtain ⟨b, off, ha, hc⟩ := h.out.at (Below.refl _ _) (k := k) (by have := hz.out; omega)
      subst ha
      obtain ⟨x, hx, HX⟩ : ∃ x : Int, W.cell? ⟨b, off + k, none⟩ = some (.int .i64 x) ∧ Hid (x = ws.getD k 0) := ⟨_, hc, rfl⟩
      clear hc
      cases hg : inR x 0 65535
      · have HE : Hid (wordsB ws = false) := words_bad (i := k) (by have := hz.out; omega) (by rw [← HX.out]; exact hg)
        go_wp2_with (go_at_call 57; refine (impl_word _ _).mono ?_; rintro e w' ⟨rfl, rfl⟩)
        go_ret
        exact ⟨by rw [HE.out]; rfl, rfl⟩
      · have HG' : Hid (∀ j, j < k + 1 → inR (ws.getD j 0) 0 65535 = true) := by
          show ∀ j, j < k + 1 → _
          intro j hj
          by_cases e : j = k
          · rw [e, ← HX.out]; exact hg
          · exact HG.out j (by omega)
        go_wp2_with (go_at_call 57; refine (impl_word _ _).mono ?_; rintro e w' ⟨rfl, hw⟩; rw [hw]; clear hw w')
        go_round
        case rel => exact ⟨k + 1, by omega, by go_num, HG'⟩
        case measure => simp [intOf]; omega
    · have HE : Hid (wordsB ws = true) := words_mk hz.out (fun i hi => HG.out i (by have := hz.out; omega))
      go_wp2
      go_ret
      exact ⟨by rw [HE.out]; rfl, rfl⟩
/-- What a run answers. -/
def RunAns (zs ws : List Int) (len : Nat) (W : World) (e : Ending) (W' : World) : Prop :=
  ((codeB zs len && wordsB ws) = true ∧ ∃ a' c' a'' c'', e = .returned (.tuple #[.slice a' (toldTo zs ws len).length c', .slice a'' 8 c'', .bool true]) ∧ Mine W' W.heap.size a' (toldTo zs ws len) ∧ Mine W' W.heap.size a'' (runW zs ws len) ∧ (∀ b o b' o', a' = some ⟨b, o, none⟩ → a'' = some ⟨b', o', none⟩ → b ≠ b') ∧ Below W.heap.size W W') ∨
  ((codeB zs len && wordsB ws) = false ∧ e = .returned (.tuple #[.slice none 0 0, .slice none 0 0, .bool false]) ∧ Below W.heap.size W W')
theorem eight {ws : List Int} (h : ws.length = 8) {W : World} {a : Option Addr} (hi : Ints W a ws) : ∃ b off, a = some ⟨b, off, none⟩ ∧ b < W.heap.size ∧ ∀ i, i < 8 → W.cell? ⟨b, off + i, none⟩ = some (.int .i64 (ws.getD i 0)) := by
  rcases hi with e | ⟨b, off, e, hb, hc⟩
  · rw [e] at h; simp at h
  · exact ⟨b, off, e, hb, fun i hi => hc i (by omega)⟩
theorem mine_low {w : World} {B B' : Nat} {a : Option Addr} {zs : List Int} (h : Mine w B a zs) (hB : B' ≤ B) : Mine w B' a zs := by
  rcases h with h | ⟨b, off, e, h0, r⟩
  · exact Or.inl h
  · exact Or.inr ⟨b, off, e, Nat.le_trans hB h0, r⟩
theorem run_start (W : World) (ws : List Int) (t : TypeId) (x0 x1 x2 x3 x4 x5 x6 x7 : Int) (h0 : x0 = ws.getD 0 0) (h1 : x1 = ws.getD 1 0) (h2 : x2 = ws.getD 2 0) (h3 : x3 = ws.getD 3 0) (h4 : x4 = ws.getD 4 0) (h5 : x5 = ws.getD 5 0) (h6 : x6 = ws.getD 6 0) (h7 : x7 = ws.getD 7 0) : RunSt (W.alloc (.cells #[.int .i64 x0, .int .i64 x1, .int .i64 x2, .int .i64 x3, .int .i64 x4, .int .i64 x5, .int .i64 x6, .int .i64 x7, .slice none 0 0] t)) W.heap.size W.heap.size ws [] := by
  subst h0 h1 h2 h3 h4 h5 h6 h7
  refine ⟨Nat.le_refl _, by simp, fun i hi => ?_, fun i hi => ?_, .slice none 0 0, by simp, own_nil _ _, by simp [Value.ownBlock]⟩
  · rw [World.cell?_alloc_new]
    match i, hi with
    | 0, _ => rfl
    | 1, _ => rfl
    | 2, _ => rfl
    | 3, _ => rfl
    | 4, _ => rfl
    | 5, _ => rfl
    | 6, _ => rfl
    | 7, _ => rfl
    | i + 8, h => omega
  · simp
set_option maxHeartbeats 2000000 in
theorem impl_run (a v : Option Addr) (len cap lv cv : Nat) (zs ws : List Int) (W : World) (hz : Hid (zs.length = len * 5)) (hlen : len ≤ 1048576) (h : Hid (Ints W a zs)) (hz' : Hid (ws.length = lv)) (hlv : lv ≤ 1048576) (h' : Hid (Ints W v ws)) :
    Calls Try.prog 9 #[.slice a len cap, .slice v lv cv] W fun e W' => RunAns zs ws len W e W' := by
  have qa : ∀ (x : Option Addr) (c : Nat) (w : World), (Instr.arrayAt 72 (.slice x 8 c)).run Try.prog w = .ok (.pointer x) w := fun x c w => run_arrayAt w _ _ 8 x 8 c Try.underlying72 (by omega)
  go_enter Try.func9, Try.ntmps9
  go_wp2_with fail
  refine (impl_steps a len cap zs W hz hlen h).mono ?_
  rintro e w1 ⟨⟨hc, a', c', rfl, hS⟩ | ⟨hc, rfl⟩, hb⟩
  rotate_left
  · have HA : Hid (RunAns zs ws len W (.returned (.tuple #[.slice none 0 0, .slice none 0 0, .bool false])) w1) := Or.inr ⟨by rw [hc]; rfl, rfl, hb⟩
    clear hb hc
    go_wp2
    go_ret3
    exact HA.out
  have HS : Hid (Steps w1 a' zs len) := hS
  have HB : Hid (Below W.heap.size W w1) := hb
  have HC : Hid (codeB zs len = true) := hc
  clear hS hb hc
  cases hw : wordsB ws
  · have HA : Hid (RunAns zs ws len W (.returned (.tuple #[.slice none 0 0, .slice none 0 0, .bool false])) w1) := Or.inr ⟨by rw [HC.out, hw]; rfl, rfl, HB.out⟩
    go_wp2_with (go_at_call 33; refine (impl_words _ _ _ ws _ hz' hlv (h'.out.kept HB.out)).mono ?_; rw [hw]; rintro e w' ⟨rfl, rfl⟩)
    go_ret3
    exact HA.out
  obtain ⟨h8, _⟩ := words_out hw
  have e8 : lv = 8 := by rw [← hz'.out]; exact h8
  subst e8
  have HW : Hid (wordsB ws = true) := hw
  obtain ⟨vb, vo, rfl, hvb, hv⟩ := eight h8 (h'.out.kept HB.out)
  obtain ⟨x0, v0, X0⟩ : ∃ x : Int, w1.cell? ⟨vb, vo, none⟩ = some (.int .i64 x) ∧ Hid (x = ws.getD 0 0) := ⟨_, hv 0 (by omega), rfl⟩
  obtain ⟨x1, v1, X1⟩ : ∃ x : Int, w1.cell? ⟨vb, vo + 1, none⟩ = some (.int .i64 x) ∧ Hid (x = ws.getD 1 0) := ⟨_, hv 1 (by omega), rfl⟩
  obtain ⟨x2, v2, X2⟩ : ∃ x : Int, w1.cell? ⟨vb, vo + 2, none⟩ = some (.int .i64 x) ∧ Hid (x = ws.getD 2 0) := ⟨_, hv 2 (by omega), rfl⟩
  obtain ⟨x3, v3, X3⟩ : ∃ x : Int, w1.cell? ⟨vb, vo + 3, none⟩ = some (.int .i64 x) ∧ Hid (x = ws.getD 3 0) := ⟨_, hv 3 (by omega), rfl⟩
  obtain ⟨x4, v4, X4⟩ : ∃ x : Int, w1.cell? ⟨vb, vo + 4, none⟩ = some (.int .i64 x) ∧ Hid (x = ws.getD 4 0) := ⟨_, hv 4 (by omega), rfl⟩
  obtain ⟨x5, v5, X5⟩ : ∃ x : Int, w1.cell? ⟨vb, vo + 5, none⟩ = some (.int .i64 x) ∧ Hid (x = ws.getD 5 0) := ⟨_, hv 5 (by omega), rfl⟩
  obtain ⟨x6, v6, X6⟩ : ∃ x : Int, w1.cell? ⟨vb, vo + 6, none⟩ = some (.int .i64 x) ∧ Hid (x = ws.getD 6 0) := ⟨_, hv 6 (by omega), rfl⟩
  obtain ⟨x7, v7, X7⟩ : ∃ x : Int, w1.cell? ⟨vb, vo + 7, none⟩ = some (.int .i64 x) ∧ Hid (x = ws.getD 7 0) := ⟨_, hv 7 (by omega), rfl⟩
  have HI : Hid (Ints w1 (some ⟨vb, vo, none⟩) ws) := h'.out.kept HB.out
  clear hv h8
  go_wp2_with (go_at_call 33; refine (impl_words _ _ _ ws _ hz' hlv HI).mono ?_; rw [HW.out]; rintro e w' ⟨rfl, hw'⟩; rw [hw']; clear hw' w')
  clear qa v0 v1 v2 v3 v4 v5 v6 v7
  go_loopw [30] (fun vi wr => ∃ k : Nat, k ≤ len ∧ vi = .int .i64 k ∧ Hid (RunSt wr w1.heap.size w1.heap.size (runW zs ws k) (toldTo zs ws k)) ∧ Hid (Below w1.heap.size w1 wr)) (fun vi _ => len - (intOf vi).toNat)
  case atStart => exact ⟨0, Nat.zero_le _, rfl, run_start w1 ws _ _ _ _ _ _ _ _ _ X0.out X1.out X2.out X3.out X4.out X5.out X6.out X7.out, by show Below _ _ _; go_grown⟩
  case round =>
    obtain ⟨k, hk, rfl, HR, HK⟩ := hrel
    by_cases hlt : k < len
    · obtain ⟨sb, rfl, hsb, hsc⟩ : ∃ b, a' = some ⟨b, 0, none⟩ ∧ b < w1.heap.size ∧ ∀ i, i < len → w1.cell? ⟨b, i, none⟩ = some (stepAt zs i) := by
        rcases HS.out with e | e
        · omega
        · exact e
      obtain ⟨sv, hsv, HV⟩ : ∃ sv, wr.cell? ⟨sb, k, none⟩ = some sv ∧ Hid (sv = stepAt zs k) := ⟨_, (HK.out.cell (p := ⟨sb, k, none⟩) hsb).trans (hsc k hlt), rfl⟩
      clear hsc
      have HG : Hid (stepB zs k = true) := (code_out HC.out).2 k hlt
      have HWk : Hid (wordsB (runW zs ws k) = true) := run_words HW.out (code_out HC.out).2 k hk
      have HL : Hid ((toldTo zs ws k).length ≤ 30) := Nat.le_trans (told_len zs ws k) (Nat.le_trans hk (code_out HC.out).1)
      go_wp2_with (go_at_call 34; rw [HV.out]; refine (impl_do _ _ _ _ _ _ _ _ _ _ HG.out HWk.out HR.out HL.out).mono ?_; rintro e w' ⟨rfl, hR', hB'⟩; have HR' : Hid (RunSt w' w1.heap.size w1.heap.size (runW zs ws (k + 1)) (toldTo zs ws (k + 1))) := hR'; have HK' : Hid (Below w1.heap.size w1 w') := HK.out.trans hB'; clear hR' hB')
      go_roundw
      case rel => exact ⟨k + 1, by omega, by go_num, HR', HK'⟩
      case measure => simp [intOf]; omega
    · have HE : Hid (k = len) := by show k = len; omega
      obtain ⟨_, hgl, hcs, hfz, vt, e8, hO, hne⟩ := HR.out
      obtain ⟨ta, tc, rfl, hM⟩ := hO.mine
      have HA : Hid (∀ T c, wr.drew = T → RunAns zs ws len W (.returned (.tuple #[.slice ta (toldTo zs ws k).length tc, .slice (some ⟨w1.heap.size, 0, none⟩) 8 c, .bool true])) T) := by
        show ∀ T c, _
        rintro T c rfl
        rw [← HE.out]
        refine Or.inl ⟨by rw [HE.out, HC.out, HW.out]; rfl, ta, tc, _, c, rfl, (mine_low hM HB.out.size).kept (Below.drew (Below.refl _ _)), ?_, ?_, ?_⟩
        · refine Or.inr ⟨w1.heap.size, 0, rfl, HB.out.size, hgl, fun i hi => ?_⟩
          have h8' : (runW zs ws k).length = 8 := (words_out (run_words HW.out (code_out HC.out).2 k hk)).1
          rw [h8'] at hi
          exact ⟨by simpa using hcs i hi, by simpa using hfz i (by omega)⟩
        · rintro b o b' o' e1 e2 rfl
          simp only [Option.some.injEq, Addr.mk.injEq] at e2
          obtain ⟨e2, _⟩ := e2
          subst e1
          apply hne
          rw [← e2]
          rfl
        · exact (HB.out.trans (HK.out.mono HB.out.size)).drew
      clear hcs hfz hO hM hne
      go_wp2
      first | go_region | fail
      all_goals go_wp2
      all_goals go_ret3
      all_goals exact HA.out _ _ rfl
end Go.Proofs.Ytldmeffhbabanaa.walks
