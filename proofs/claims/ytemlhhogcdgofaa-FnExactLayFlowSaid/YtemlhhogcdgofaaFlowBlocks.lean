/-
  What the program's blocksOf answers, at every flow: its blocks, each with its steps; it makes new memory alone.
-/
import Derived.Test.YtemlhhogcdgofaaFlowImpl
import Derived.Test.YtemlhhogcdgofaaStepsNew
import Derived.Maps.AppendAt
import Derived.Test.YtemlhhogcdgofaaProg
import Derived.Test.YtemlhhogcdgofaaFlow
import Derived.Test.YtemlhhogcdgofaaFlowEq
import Derived.Test.YtemlhhogcdgofaaFlowMath
import Derived.Test.YtemlhhogcdgofaaCodeGood
import Derived.Test.YtemlhhogcdgofaaStepImpl
import Derived.Test.YtemlhhogcdgofaaStepsOf
import Derived.WalkKit
import Derived.WalkSpells
import Derived.Below
import Derived.Handy
import Derived.Deep.DeepFit
namespace Go.Proofs.Ytemlhhogcdgofaa.walks
open Go.RowKit Go.Proofs.Ytemlhhogcdgofaa.math Go.Proofs.Ytemlhhogcdgofaa.ints
set_option linter.unusedVariables false


/-- The cells of the program's blocks. -/
def cell5 (A S : Nat → Option Addr × Nat) (f : Nat → Bv) (i : Nat) : Value := match i % 5 with
  | 0 => .slice (A (i / 5)).1 (f (i / 5)).len (A (i / 5)).2
  | 1 => .int .i64 (f (i / 5)).t
  | 2 => .int .i64 (f (i / 5)).th
  | 3 => .int .i64 (f (i / 5)).el
  | _ => .slice (S (i / 5)).1 (f (i / 5)).len (S (i / 5)).2
theorem cell5_0 (A S : Nat → Option Addr × Nat) (f : Nat → Bv) (k : Nat) : cell5 A S f (k * 5) = .slice (A k).1 (f k).len (A k).2 := by
  unfold cell5; rw [show (k * 5) % 5 = 0 by omega, show (k * 5) / 5 = k by omega]; rfl
theorem cell5_1 (A S : Nat → Option Addr × Nat) (f : Nat → Bv) (k : Nat) : cell5 A S f (k * 5 + 1) = .int .i64 (f k).t := by
  unfold cell5; rw [show (k * 5 + 1) % 5 = 1 by omega, show (k * 5 + 1) / 5 = k by omega]; rfl
theorem cell5_2 (A S : Nat → Option Addr × Nat) (f : Nat → Bv) (k : Nat) : cell5 A S f (k * 5 + 2) = .int .i64 (f k).th := by
  unfold cell5; rw [show (k * 5 + 2) % 5 = 2 by omega, show (k * 5 + 2) / 5 = k by omega]; rfl
theorem cell5_3 (A S : Nat → Option Addr × Nat) (f : Nat → Bv) (k : Nat) : cell5 A S f (k * 5 + 3) = .int .i64 (f k).el := by
  unfold cell5; rw [show (k * 5 + 3) % 5 = 3 by omega, show (k * 5 + 3) / 5 = k by omega]; rfl
theorem cell5_4 (A S : Nat → Option Addr × Nat) (f : Nat → Bv) (k : Nat) : cell5 A S f (k * 5 + 4) = .slice (S k).1 (f k).len (S k).2 := by
  unfold cell5; rw [show (k * 5 + 4) % 5 = 4 by omega, show (k * 5 + 4) / 5 = k by omega]; rfl
def flat5 (A S : Nat → Option Addr × Nat) (f : Nat → Bv) (k : Nat) : List Value := (List.range (k * 5)).map (cell5 A S f)
theorem flat5_len (A S : Nat → Option Addr × Nat) (f : Nat → Bv) (k : Nat) : (flat5 A S f k).length = k * 5 := by simp [flat5]
theorem flat5_snoc (A S : Nat → Option Addr × Nat) (f : Nat → Bv) (k : Nat) (a s : Option Addr × Nat) : flat5 (updA A k a) (updA S k s) f (k + 1) = flat5 A S f k ++ [.slice a.1 (f k).len a.2, .int .i64 (f k).t, .int .i64 (f k).th, .int .i64 (f k).el, .slice s.1 (f k).len s.2] := by
  unfold flat5
  rw [show (k + 1) * 5 = k * 5 + 1 + 1 + 1 + 1 + 1 by omega]
  simp only [List.range_succ, List.map_append, List.map_cons, List.map_nil, List.append_assoc, List.cons_append, List.nil_append]
  rw [show k * 5 + 1 + 1 = k * 5 + 2 from rfl, show k * 5 + 2 + 1 = k * 5 + 3 from rfl, show k * 5 + 3 + 1 = k * 5 + 4 from rfl, cell5_0, cell5_1, cell5_2, cell5_3, cell5_4, updA_same, updA_same]
  congr 1
  refine List.map_congr_left (fun i hi => ?_)
  have hi := List.mem_range.1 hi
  unfold cell5
  rw [updA_other _ _ (by omega), updA_other _ _ (by omega)]
theorem steps_on {w1 w2 : World} {a : Option Addr} {zs : List Int} {len : Nat} {v v' : Value} {o : Obj} (h : Steps w1 a zs len) (hgrow : (w1.alloc o).grownBy w2 v.ownBlock) (hob : v'.ownBlock = v.ownBlock ∨ v'.ownBlock = some (w1.heap.size + 1)) (hne : len ≠ 0 → ∀ b o, a = some ⟨b, o, none⟩ → v.ownBlock ≠ some b) : Steps w2 a zs len ∧ (len ≠ 0 → ∀ b o, a = some ⟨b, o, none⟩ → v'.ownBlock ≠ some b) := by
  by_cases h0 : len = 0
  · exact ⟨Or.inl h0, fun q => (q h0).elim⟩
  rcases h with h | ⟨b, rfl, hlt, hc⟩
  · exact ⟨Or.inl h, fun q => (q h).elim⟩
  · have hb := hne h0 b 0 rfl
    refine ⟨Or.inr ⟨b, rfl, by have := hgrow.size; simp at this; omega, fun i hi => ?_⟩, fun _ b' o e => ?_⟩
    · have h1 : w2.heap[b]? = w1.heap[b]? := (hgrow.block b (by simp; omega) (fun e => hb e.symm)).trans (Below.heap_alloc _ _ _ hlt)
      exact (World.cell?_of_block (a := ⟨b, i, none⟩) h1).trans (hc i hi)
    · simp only [Option.some.injEq, Addr.mk.injEq] at e
      obtain ⟨rfl, _⟩ := e
      rcases hob with q | q
      · rw [q]; exact hb
      · rw [q]; simp; omega
theorem own_five {w : World} {B n : Nat} {v : Value} {A S : Nat → Option Addr × Nat} {f : Nat → Bv} (h : w.ownsRow B 53 5 v n (flat5 A S f n)) (hn : 0 < n) : ∃ b cap, v = .slice (some ⟨b, 0, none⟩) n cap ∧ b < w.heap.size ∧ ∀ i, i < n * 5 → w.cell? ⟨b, i, none⟩ = some (cell5 A S f i) := by
  have h0 := h
  rcases h.2 with ⟨rfl, hz⟩ | ⟨b, cap, cur, rfl, hg, hw, _, _, _, hcur⟩
  · omega
  · refine ⟨b, cap, rfl, (h0.lt b rfl).2, fun i hi => ?_⟩
    have hi' : i < (flat5 A S f n).length := by rw [flat5_len]; exact hi
    have := h0.cellAt i hi
    rw [this, List.getElem?_eq_getElem hi']
    simp [flat5]
/-- What blocksOf answers. -/
def BlocksAns (f : Nat → Bv) (n : Nat) (W : World) (e : Ending) (W' : World) : Prop :=
  ((flowB f n = true ∧ ∃ b cap A S, e = .returned (.tuple #[.slice (some ⟨b, 0, none⟩) n cap, .bool true]) ∧ b < W'.heap.size ∧ (∀ i, i < n * 5 → W'.cell? ⟨b, i, none⟩ = some (cell5 A S f i)) ∧ ∀ j, j < n → Steps W' (S j).1 (f j).zs (f j).len) ∨ (flowB f n = false ∧ e = .returned (.tuple #[.slice none 0 0, .bool false]))) ∧ Below W.heap.size W W'
/-- .. and where the steps' own text lies. -/
def BlocksAns3 (f : Nat → Bv) (n : Nat) (W : World) (e : Ending) (W' : World) : Prop :=
  ((flowB f n = true ∧ ∃ b cap A S, e = .returned (.tuple #[.slice (some ⟨b, 0, none⟩) n cap, .bool true]) ∧ b < W'.heap.size ∧ (∀ i, i < n * 5 → W'.cell? ⟨b, i, none⟩ = some (cell5 A S f i)) ∧ (∀ j, j < n → Steps W' (S j).1 (f j).zs (f j).len) ∧ ∀ j, j < n → Ints W (A j).1 (f j).zs) ∨ (flowB f n = false ∧ e = .returned (.tuple #[.slice none 0 0, .bool false]))) ∧ Below W.heap.size W W'
set_option maxRecDepth 100000 in
set_option maxHeartbeats 8000000 in
theorem impl_blocks3 (a : Option Addr) (n cap : Nat) (f : Nat → Bv) (W : World) (hn : n ≤ 1048576) (hlen : Hid (∀ k, k < n → (f k).len ≤ 1048576)) (h : Hid (Flow W a n f)) :
    Calls Try.prog 22 #[.slice a n cap] W fun e W' => BlocksAns3 f n W e W' := by
  obtain ⟨i0, hi, hz0, hz1, hz2⟩ := info_parts fblock_info
  by_cases h8 : 1 ≤ n ∧ n ≤ 8
  rotate_left
  · have HE : Hid (flowB f n = false) := flow_no h8
    by_cases h0 : n = 0
    · subst h0
      go_enter Try.func22, Try.ntmps22
      go_wp2
      go_ret2
      exact ⟨Or.inr ⟨HE.out, rfl⟩, Below.refl _ _⟩
    · have h1 : ¬ ((n : Int) < 1) := by omega
      have h1' : decide ((n : Int) < 1) = false := decide_eq_false h1
      have h2 : (8 : Int) < (n : Int) := by omega
      clear h1 h8
      go_enter Try.func22, Try.ntmps22
      go_wp2
      go_ret2
      exact ⟨Or.inr ⟨HE.out, rfl⟩, Below.refl _ _⟩
  have h1' : decide ((n : Int) < 1) = false := decide_eq_false (by omega)
  have h2 : (n : Int) ≤ 8 := by omega
  have h2' : decide ((8 : Int) < (n : Int)) = false := decide_eq_false (by omega)
  have h01 : (1 : Int) ≤ (n : Int) := by omega
  go_enter Try.func22, Try.ntmps22
  go_wp2
  go_loopw [4, 19] (fun vl vi wr => ∃ (k : Nat) (A S : Nat → Option Addr × Nat), k ≤ n ∧ vi = .int .i64 k ∧ Hid (wr.ownsRow W.heap.size 53 5 vl k (flat5 A S f k)) ∧ Hid (∀ j, j < k → Steps wr (S j).1 (f j).zs (f j).len ∧ ((f j).len ≠ 0 → ∀ b o, (S j).1 = some ⟨b, o, none⟩ → vl.ownBlock ≠ some b)) ∧ Hid (∀ j, j < k → blockB (f j) n = true) ∧ Hid (∀ j, j < k → Ints W (A j).1 (f j).zs) ∧ Hid (Below W.heap.size W wr)) (fun _ vi _ => n - (intOf vi).toNat)
  case atStart => exact ⟨0, noA, noA, Nat.zero_le _, rfl, own_none _ _, fun j hj => by omega, fun j hj => by omega, fun j hj => by omega, Below.refl _ _⟩
  case round =>
    obtain ⟨k, A, S, hk, rfl, HO, HJ, HG, HIA, HB⟩ := hrel
    by_cases hlt : k < n
    · obtain ⟨b, off, ca, cc, ha, hb, c0, c1, c2, c3, hI, hZ⟩ := flow_at h.out HB.out hlt
      have HIW : Hid (Ints W ca (f k).zs) := by
        obtain ⟨b1, off1, ca1, cc1, ha1, hb1, d0, _, _, _, hI1, _⟩ := flow_at h.out (Below.refl _ _) hlt
        rw [ha] at ha1
        simp only [Option.some.injEq, Addr.mk.injEq, and_true] at ha1
        obtain ⟨rfl, rfl⟩ := ha1
        have q := HB.out.cell (p := ⟨b, off + k * 4, none⟩) hb
        rw [c0, d0] at q
        simp only [Option.some.injEq, Value.slice.injEq] at q
        rw [q.1]; exact hI1
      have HIA' : Hid (∀ j, j < k + 1 → Ints W (updA A k (ca, cc) j).1 (f j).zs) := fun j hj => by
        by_cases e : j = k
        · subst e; rw [updA_same]; exact HIW.out
        · rw [updA_other _ _ e]; exact HIA.out j (by omega)
      subst ha
      have HI : Hid (Ints wr ca (f k).zs) := hI
      have HZ : Hid ((f k).zs.length = (f k).len * 5) := hZ
      have HLn := hlen.out k hlt
      have hnn : (1 : Int) ≤ (n : Int) := by omega
      obtain ⟨t, ET⟩ : ∃ t, Hid (t = (f k).t) := ⟨_, rfl⟩
      obtain ⟨th, EH⟩ : ∃ th, Hid (th = (f k).th) := ⟨_, rfl⟩
      obtain ⟨el, EE⟩ : ∃ el, Hid (el = (f k).el) := ⟨_, rfl⟩
      rw [← ET.out] at c1
      rw [← EH.out] at c2
      rw [← EE.out] at c3
      have HBB : Hid (blockB (f k) n = (codeB (f k).zs (f k).len && inR t 0 7 && inR th (-1) ((n : Int) - 1) && inR el (-1) ((n : Int) - 1))) := by show _ = _; rw [ET.out, EH.out, EE.out]; rfl
      clear hI hZ
      have hwb := HB.out.size
      have HOx := HO.out
      go_wp2_with fail
      refine (impl_steps2 _ _ _ (f k).zs _ HZ HLn (HI.out.kept ((Below.refl _ _).alloc (Nat.le_refl _) _))).mono ?_
      rintro e w1 ⟨hA, hB⟩
      have x0 : w1.cell? ⟨wr.heap.size, 0, none⟩ = some (.slice ca (f k).len cc) := by rw [hB.cell (p := ⟨wr.heap.size, 0, none⟩) (by show wr.heap.size < (wr.alloc _).heap.size; simp)]; simp
      have x1 : w1.cell? ⟨wr.heap.size, 1, none⟩ = some (.int .i64 t) := by rw [hB.cell (p := ⟨wr.heap.size, 1, none⟩) (by show wr.heap.size < (wr.alloc _).heap.size; simp)]; simp
      have x2 : w1.cell? ⟨wr.heap.size, 2, none⟩ = some (.int .i64 th) := by rw [hB.cell (p := ⟨wr.heap.size, 2, none⟩) (by show wr.heap.size < (wr.alloc _).heap.size; simp)]; simp
      have x3 : w1.cell? ⟨wr.heap.size, 3, none⟩ = some (.int .i64 el) := by rw [hB.cell (p := ⟨wr.heap.size, 3, none⟩) (by show wr.heap.size < (wr.alloc _).heap.size; simp)]; simp
      have HB1 : Hid (Below W.heap.size W w1) := bel2' (HB.out.alloc hwb _) hB
      have HO1 : Hid (w1.ownsRow W.heap.size 53 5 _ k (flat5 A S f k)) := row_far (World.ownsRow.alloc HOx _) hB
      have hold : ∀ j, Value.ownBlock _ = some j → j < wr.heap.size := fun j e => (World.ownsRow.lt HOx j e).2
      have HD : Hid (∀ j, Value.ownBlock _ = some j → j < wr.heap.size) := hold
      have HJ1 : Hid (∀ j, j < k → Steps w1 (S j).1 (f j).zs (f j).len ∧ ((f j).len ≠ 0 → ∀ b o, (S j).1 = some ⟨b, o, none⟩ → Value.ownBlock _ ≠ some b)) := fun j hj => ⟨((HJ.out j hj).1.kept ((Below.refl _ _).alloc (Nat.le_refl _) _)).kept hB, (HJ.out j hj).2⟩
      clear hold
      have hw1 := HB1.out.size
      clear hB HOx HO HJ
      rcases hA with ⟨hc, sa, sc, rfl, hS, hN⟩ | ⟨hc, rfl⟩
      rotate_left
      · have HE : Hid (flowB f n = false) := flow_bad hlt (by rw [HBB.out, hc]; rfl)
        go_wp2
        go_ret2
        exact ⟨Or.inr ⟨HE.out, rfl⟩, HB1.out⟩
      have HS1 : Hid (Steps w1 sa (f k).zs (f k).len) := hS
      have HN1 : Hid (∀ b o, sa = some ⟨b, o, none⟩ → wr.heap.size < b) := fun b o e => by have := hN b o e; simp at this; omega
      clear hS hN
      cases e1 : inR t 0 7
      · have HE : Hid (flowB f n = false) := flow_bad hlt (by rw [HBB.out, hc, e1]; rfl)
        go_wp2_with (first | (go_at_call 39; refine (impl_name _ _).mono ?_; rw [e1]; rintro e w' ⟨rfl, hw⟩; rw [hw]; clear hw w'))
        go_ret2
        exact ⟨Or.inr ⟨HE.out, rfl⟩, HB1.out⟩
      cases e2 : inR th (-1) ((n : Int) - 1)
      · have HE : Hid (flowB f n = false) := flow_bad hlt (by rw [HBB.out, hc, e1, e2]; rfl)
        go_wp2_with (first | (go_at_call 39; refine (impl_name _ _).mono ?_; rw [e1]; rintro e w' ⟨rfl, hw⟩; rw [hw]; clear hw w') | (go_at_call 40; go_fit (impl_next th _ _); rw [e2]; rintro e w' ⟨rfl, hw⟩; rw [hw]; clear hw w'))
        go_ret2
        exact ⟨Or.inr ⟨HE.out, rfl⟩, HB1.out⟩
      cases e3 : inR el (-1) ((n : Int) - 1)
      · have HE : Hid (flowB f n = false) := flow_bad hlt (by rw [HBB.out, hc, e1, e2, e3]; rfl)
        go_wp2_with (first | (go_at_call 39; refine (impl_name _ _).mono ?_; rw [e1]; rintro e w' ⟨rfl, hw⟩; rw [hw]; clear hw w') | (go_at_call 40; go_fit (impl_next th _ _); rw [e2]; rintro e w' ⟨rfl, hw⟩; rw [hw]; clear hw w') | (go_at_call 40; go_fit (impl_next el _ _); rw [e3]; rintro e w' ⟨rfl, hw⟩; rw [hw]; clear hw w'))
        go_ret2
        exact ⟨Or.inr ⟨HE.out, rfl⟩, HB1.out⟩
      have HG' : Hid (∀ j, j < k + 1 → blockB (f j) n = true) := by
        show ∀ j, j < k + 1 → _
        intro j hj
        by_cases e : j = k
        · rw [e, HBB.out, hc, e1, e2, e3]; rfl
        · exact HG.out j (by omega)
      go_wp2_with (first | (go_at_call 39; refine (impl_name _ _).mono ?_; rw [e1]; rintro e w' ⟨rfl, hw⟩; rw [hw]; clear hw w') | (go_at_call 40; go_fit (impl_next th _ _); rw [e2]; rintro e w' ⟨rfl, hw⟩; rw [hw]; clear hw w') | (go_at_call 40; go_fit (impl_next el _ _); rw [e3]; rintro e w' ⟨rfl, hw⟩; rw [hw]; clear hw w') | (at_builtin; refine wpList_append_own_at _ rfl _ _ 48 rfl W.heap.size 53 i0 _ 5 72 Try.underlying48 hi hz0 hz1 hz2 rfl (by decide) _ _ _ rfl (World.ownsRow.alloc HO1.out _) ⟨w1.heap.size, 0, none⟩ 1 1 [.slice ca (f k).len cc, .int .i64 t, .int .i64 th, .int .i64 el, .slice sa (f k).len sc] rfl rfl ?c1 ?c2 ?c3 ?c4 ?c5 ?_) | go_in)
      case c1 => exact five_cells _ _ _ _ _ _ _
      case c2 =>
        intro u hu
        simp at hu
        rcases hu with rfl | rfl | rfl | rfl | rfl <;> rfl
      case c3 => unfold maxLen; omega
      case c4 => omega
      case c5 => simp; omega
      · intro v' w2 hown' hgrow _ hob
        have Q0 : Hid (w2.ownsRow W.heap.size 53 5 v' (k + 1) (flat5 (updA A k (ca, cc)) (updA S k (sa, sc)) f (k + 1))) := by
          show World.ownsRow _ _ _ _ _ _ _
          rw [flat5_snoc, ← ET.out, ← EH.out, ← EE.out]
          exact hown'
        have Q2 : Hid (∀ j, j < k + 1 → Steps w2 (updA S k (sa, sc) j).1 (f j).zs (f j).len ∧ ((f j).len ≠ 0 → ∀ b o, (updA S k (sa, sc) j).1 = some ⟨b, o, none⟩ → v'.ownBlock ≠ some b)) := by
          show ∀ j, j < k + 1 → _
          intro j hj
          by_cases e : j = k
          · subst e
            rw [updA_same]
            exact steps_on HS1.out hgrow hob (fun _ b o e q => by have h1 := HN1.out b o e; have h2 := HD.out b q; omega)
          · rw [updA_other _ _ e]
            exact steps_on (HJ1.out j (by omega)).1 hgrow hob (HJ1.out j (by omega)).2
        have Q1 : Hid (Below W.heap.size W w2) := (HB1.out.alloc hw1 _).grown hgrow (by simp; omega) (fun j hj => (World.ownsRow.lt HO1.out j hj).1)
        clear hown' hgrow hob
        go_wp2
        go_roundw
        case rel => exact ⟨k + 1, _, _, by omega, by go_num, Q0, Q2, HG', HIA', Q1⟩
        case measure => simp [intOf]; omega
    · have HE : Hid (flowB f n = true) := flow_mk (by omega) (by omega) (fun j hj => HG.out j (by omega))
      have HK : Hid (k = n) := by show k = n; omega
      rw [HK.out] at HO HJ HIA
      obtain ⟨bb, bc, rfl, hbl, hbc⟩ := own_five HO.out (by omega)
      have HR : Hid (BlocksAns3 f n W (.returned (.tuple #[.slice (some ⟨bb, 0, none⟩) n bc, .bool true])) wr) := ⟨Or.inl ⟨HE.out, bb, bc, A, S, rfl, hbl, hbc, fun j hj => (HJ.out j hj).1, HIA.out⟩, HB.out⟩
      clear hbc hbl
      go_wp2
      go_ret2
      exact HR.out
theorem impl_blocks2 (a : Option Addr) (n cap : Nat) (f : Nat → Bv) (W : World) (hn : n ≤ 1048576) (hlen : Hid (∀ k, k < n → (f k).len ≤ 1048576)) (h : Hid (Flow W a n f)) :
    Calls Try.prog 22 #[.slice a n cap] W fun e W' => BlocksAns f n W e W' :=
  (impl_blocks3 a n cap f W hn hlen h).mono (fun e W' q => by
    rcases q.1 with ⟨h1, b, c, A, S, h2, h3, h4, h5, _⟩ | h1
    · exact ⟨Or.inl ⟨h1, b, c, A, S, h2, h3, h4, h5⟩, q.2⟩
    · exact ⟨Or.inr h1, q.2⟩)
end Go.Proofs.Ytemlhhogcdgofaa.walks
