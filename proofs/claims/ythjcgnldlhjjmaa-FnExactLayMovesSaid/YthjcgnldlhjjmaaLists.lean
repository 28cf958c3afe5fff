/-
  Lists of lists of ints in memory, and the laws' helpers on them: eqIntSS, markIntSS, heldIntSS.
-/
import Derived.Test.YthjcgnldlhjjmaaProg
import Derived.Test.YthjcgnldlhjjmaaInts
import Derived.Test.YthjcgnldlhjjmaaMarks
import Derived.WalkKit
import Derived.WalkSpells
import Derived.Below
import Derived.Handy
import Derived.Deep.RegionWith
namespace Go.Proofs.Ythjcgnldlhjjmaa.ints
open Go.RowKit
set_option linter.unusedVariables false

/-- A list of lists. -/
def Lists (w : World) (a : Option Addr) (n : Nat) (Z : Nat → List Int) : Prop :=
  n = 0 ∨ ∃ b, a = some ⟨b, 0, none⟩ ∧ b < w.heap.size ∧ ∀ k, k < n → ∃ c d, w.cell? ⟨b, k, none⟩ = some (.slice c (Z k).length d) ∧ Ints w c (Z k)
theorem Lists.kept {w w' : World} {a : Option Addr} {n : Nat} {Z : Nat → List Int} (h : Lists w a n Z) (hb : Below w.heap.size w w') : Lists w' a n Z := by
  rcases h with h | ⟨b, e, hl, hc⟩
  · exact Or.inl h
  · refine Or.inr ⟨b, e, Nat.lt_of_lt_of_le hl hb.size, fun k hk => ?_⟩
    obtain ⟨c, d, q, hi⟩ := hc k hk
    exact ⟨c, d, (hb.cell (p := ⟨b, k, none⟩) hl).trans q, hi.kept hb⟩
theorem Lists.at {W wr : World} {a : Option Addr} {n k : Nat} {Z : Nat → List Int} (h : Lists W a n Z) (hb : Below W.heap.size W wr) (hk : k < n) : ∃ b c d, a = some ⟨b, 0, none⟩ ∧ wr.cell? ⟨b, k, none⟩ = some (.slice c (Z k).length d) ∧ Ints wr c (Z k) := by
  rcases h.kept hb with h | ⟨b, e, hl, hc⟩
  · omega
  · obtain ⟨c, d, q, hi⟩ := hc k hk
    exact ⟨b, c, d, e, q, hi⟩
/-- .. all of it in memory from B on, each list in a block of its own, no cell barred. -/
structure MineL (w : World) (B : Nat) (a : Option Addr) (n : Nat) (Z : Nat → List Int) (C : Nat → Option Addr × Nat) : Prop where
  top : n = 0 ∨ ∃ b, a = some ⟨b, 0, none⟩ ∧ B ≤ b ∧ b < w.heap.size ∧ (∀ k, k < n → w.cell? ⟨b, k, none⟩ = some (.slice (C k).1 (Z k).length (C k).2)) ∧ ∀ k, k < n → 0 < (Z k).length → ∀ b' o, (C k).1 = some ⟨b', o, none⟩ → b' ≠ b
  row : ∀ k, k < n → Mine w B (C k).1 (Z k)
  ap : ∀ j k, j < n → k < n → j ≠ k → 0 < (Z j).length → 0 < (Z k).length → Apart (C j).1 (C k).1
theorem MineL.lists {w : World} {B : Nat} {a : Option Addr} {n : Nat} {Z : Nat → List Int} {C : Nat → Option Addr × Nat} (h : MineL w B a n Z C) : Lists w a n Z := by
  rcases h.top with q | ⟨b, e, _, hl, hc, _⟩
  · exact Or.inl q
  · exact Or.inr ⟨b, e, hl, fun k hk => ⟨_, _, hc k hk, (h.row k hk).ints⟩⟩
theorem MineL.kept {w w' : World} {B : Nat} {a : Option Addr} {n : Nat} {Z : Nat → List Int} {C : Nat → Option Addr × Nat} (h : MineL w B a n Z C) (hb : Below w.heap.size w w') : MineL w' B a n Z C := by
  refine ⟨?_, fun k hk => (h.row k hk).kept hb, h.ap⟩
  rcases h.top with q | ⟨b, e, h0, hl, hc, hn⟩
  · exact Or.inl q
  · exact Or.inr ⟨b, e, h0, Nat.lt_of_lt_of_le hl hb.size, fun k hk => (hb.cell (p := ⟨b, k, none⟩) hl).trans (hc k hk), hn⟩
theorem MineL.congr {w : World} {B : Nat} {a : Option Addr} {n : Nat} {Z Z' : Nat → List Int} {C : Nat → Option Addr × Nat} (h : MineL w B a n Z C) (e : ∀ k, k < n → Z k = Z' k) : MineL w B a n Z' C := by
  refine ⟨?_, fun k hk => by rw [← e k hk]; exact h.row k hk, fun j k hj hk hne h1 h2 => h.ap j k hj hk hne (by rw [e j hj]; exact h1) (by rw [e k hk]; exact h2)⟩
  rcases h.top with q | ⟨b, e', h0, hl, hc, hn⟩
  · exact Or.inl q
  · exact Or.inr ⟨b, e', h0, hl, fun k hk => by rw [← e k hk]; exact hc k hk, fun k hk h1 => hn k hk (by rw [e k hk]; exact h1)⟩
/-- One of its lists has been marked. -/
theorem MineL.put {w w' : World} {B : Nat} {a : Option Addr} {n k : Nat} {Z : Nat → List Int} {C : Nat → Option Addr × Nat} {zs : List Int} (h : MineL w B a n Z C) (hk : k < n) (hz : zs.length = (Z k).length) (hm : Mine w' B (C k).1 zs) (ho : Only w w' B (C k).1 (Z k).length) : MineL w' B a n (fun j => if j = k then zs else Z j) C := by
  have hlen : ∀ j, (if j = k then zs else Z j).length = (Z j).length := fun j => by
    by_cases e : j = k
    · subst e; rw [if_pos rfl]; exact hz
    · rw [if_neg e]
  refine ⟨?_, fun j hj => ?_, fun i j hi hj hne h1 h2 => h.ap i j hi hj hne (by rw [← hlen i]; exact h1) (by rw [← hlen j]; exact h2)⟩
  · rcases h.top with q | ⟨b, e, h0, hl, hc, hn⟩
    · exact Or.inl q
    · refine Or.inr ⟨b, e, h0, by rw [ho.1]; exact hl, fun j hj => ?_, fun j hj h1 => hn j hj (by rw [← hlen j]; exact h1)⟩
      rw [hlen j, ← hc j hj]
      rcases ho.2 with q | ⟨l0, b', off, e', _, hg⟩
      · rw [q]
      · exact World.cell?_of_block (hg.block b hl (by simpa using fun q => hn k hk l0 b' off e' q.symm))
  · by_cases e : j = k
    · subst e; simp only [if_true]; exact hm
    · simp only [if_neg e]
      by_cases l0 : 0 < (Z j).length
      · rcases ho.2 with q | ⟨l1, _⟩
        · rw [q]; exact h.row j hj
        · exact ho.mine (h.row j hj) (h.ap k j hk hj (fun q => e q.symm) l1 l0)
      · exact Or.inl (List.length_eq_zero_iff.1 (by omega))
/-- How many numbers stand ahead of the k-th list. -/
def offs (l : Nat → Nat) : Nat → Nat
  | 0 => 0
  | k + 1 => offs l k + l k
theorem offs_le (l : Nat → Nat) (m : Nat) : ∀ n, (∀ k, k < n → l k ≤ m) → offs l n ≤ n * m
  | 0, _ => by simp [offs]
  | n + 1, h => by
    have h1 := offs_le l m n (fun k hk => h k (by omega))
    have h2 := h n (by omega)
    simp only [offs, Nat.add_mul, Nat.one_mul]
    omega
/-- The marks of the k-th list. -/
def marksL (l : Nat → Nat) (k : Nat) : List Int := upFrom (1 + (offs l k : Int)) (l k)
set_option maxHeartbeats 2000000 in
set_option maxRecDepth 100000 in
theorem eq_lists (a a' : Option Addr) (n cap cap' : Nat) (Z : Nat → List Int) (W : World) (hn : n ≤ 1048576) (hlen : Hid (∀ k, k < n → (Z k).length ≤ 1048576)) (h : Hid (Lists W a n Z)) (h' : Hid (Lists W a' n Z)) :
    Calls Try.prog 28 #[.slice a n cap, .slice a' n cap'] W fun e W' => e = .returned (.bool true) ∧ Below W.heap.size W W' := by
  go_enter Try.func28, Try.ntmps28
  go_wp2
  go_loopw [5] (fun vi wr => ∃ k : Nat, k ≤ n ∧ vi = .int .i64 k ∧ Hid (Below W.heap.size W wr)) (fun vi _ => n - (intOf vi).toNat)
  case atStart => exact ⟨0, Nat.zero_le _, rfl, Below.refl _ _⟩
  case round =>
    obtain ⟨k, hk, rfl, HB⟩ := hrel
    by_cases hlt : k < n
    · obtain ⟨b, c, d, ha, q, hI⟩ := h.out.at HB.out hlt
      obtain ⟨b', c', d', ha', q', hI'⟩ := h'.out.at HB.out hlt
      subst ha ha'
      have HI : Hid (Ints wr c (Z k)) := hI
      have HI' : Hid (Ints wr c' (Z k)) := hI'
      have HL := hlen.out k hlt
      have HD : Hid (Below wr.heap.size wr wr.drew) := (Below.refl _ _).drew
      clear hI hI'
      go_wp2_with fail
      go_region_with (go_at_call 17; refine (eq_ints _ _ _ _ _ (Z k) _ (show Hid _ from rfl) HL (HI.out.kept HD.out) (HI'.out.kept HD.out)).mono ?_; rintro e w' ⟨rfl, hb⟩; have HX : Hid (Below W.heap.size W w') := HB.out.drew.trans (hb.mono HB.out.drew.size); clear hb)
      all_goals
        go_wp2
        go_roundw
        case rel => exact ⟨k + 1, by omega, by go_num, HX.out⟩
        case measure => simp [intOf]; omega
    · go_wp2
      go_ret
      exact ⟨rfl, HB.out⟩
set_option maxHeartbeats 2000000 in
set_option maxRecDepth 100000 in
theorem held_lists (a : Option Addr) (n cap : Nat) (l : Nat → Nat) (W : World) (hn : n ≤ 10) (hlen : Hid (∀ k, k < n → l k ≤ 1048576)) (h : Hid (Lists W a n (marksL l))) :
    Calls Try.prog 30 #[.slice a n cap, .int .i64 1] W fun e W' => e = .returned (.int .i64 (1 + (offs l n : Int))) ∧ W' = W := by
  go_enter Try.func30, Try.ntmps30
  go_wp2
  go_loop [1, 5] (fun vk vi => ∃ k : Nat, k ≤ n ∧ vi = .int .i64 k ∧ vk = .int .i64 (1 + (offs l k : Int))) (fun _ vi => n - (intOf vi).toNat)
  case atStart => exact ⟨0, Nat.zero_le _, rfl, rfl⟩
  case round =>
    obtain ⟨k, hk, rfl, rfl⟩ := hrel
    by_cases hlt : k < n
    · obtain ⟨b, c, d, ha, q, hI⟩ := h.out.at (Below.refl _ _) hlt
      subst ha
      have ho := offs_le l 1048576 k (fun j hj => hlen.out j (by omega))
      have HL := hlen.out k hlt
      have HO : Hid ((offs l (k + 1) : Int) = (offs l k : Int) + (l k : Int)) := by show ((offs l (k + 1) : Nat) : Int) = _; simp [offs]
      rw [show (marksL l k).length = l k from upFrom_len _ _] at q
      have HI : Hid (Ints W c (upFrom (1 + (offs l k : Int)) (l k))) := hI
      clear hI
      obtain ⟨s, hs⟩ : ∃ s : Int, Hid (1 + (offs l k : Int) = s) := ⟨_, rfl⟩
      have hs0 : 0 ≤ s := by have := hs.out; omega
      have hs1 : s ≤ 10485761 := by have := hs.out; omega
      rw [hs.out] at HI ⊢
      have hl0 : (0 : Int) ≤ (l k : Int) := Int.natCast_nonneg _
      have hl1 : (l k : Int) ≤ 1048576 := by omega
      clear ho
      go_wp2_with (go_at_call 20; refine (held_from s hs0 (by omega) _ _ _ _ HL HI).mono ?_; rintro e w' ⟨rfl, hw⟩; rw [hw]; clear hw w')
      go_round
      case rel => exact ⟨k + 1, by omega, by go_num, by rw [HO.out, ← hs.out]; congr 1; omega⟩
      case measure => simp [intOf]; omega
    · have HE : Hid (k = n) := by show k = n; omega
      go_wp2
      go_ret
      exact ⟨by rw [HE.out]; rfl, rfl⟩
set_option maxHeartbeats 2000000 in
set_option maxRecDepth 100000 in
theorem mark_lists (a : Option Addr) (n cap : Nat) (l : Nat → Nat) (Z : Nat → List Int) (C : Nat → Option Addr × Nat) (W : World) (B : Nat) (hn : n ≤ 10) (hz : Hid (∀ k, k < n → (Z k).length = l k)) (hlen : Hid (∀ k, k < n → l k ≤ 1048576)) (h : Hid (MineL W B a n Z C)) :
    Calls Try.prog 29 #[.slice a n cap, .int .i64 1] W fun e W' => e = .returned (.int .i64 (1 + (offs l n : Int))) ∧ MineL W' B a n (marksL l) C ∧ Below B W W' := by
  go_enter Try.func29, Try.ntmps29
  go_wp2
  go_loopw [1, 5] (fun vk vi wr => ∃ k : Nat, k ≤ n ∧ vi = .int .i64 k ∧ vk = .int .i64 (1 + (offs l k : Int)) ∧ Hid (MineL wr B a n (fun j => if j < k then marksL l j else Z j) C) ∧ Hid (Below B W wr)) (fun _ vi _ => n - (intOf vi).toNat)
  case atStart => exact ⟨0, Nat.zero_le _, rfl, rfl, h.out.congr (fun k _ => by rw [if_neg (by omega)]), Below.refl _ _⟩
  case round =>
    obtain ⟨k, hk, rfl, rfl, HM, HB⟩ := hrel
    by_cases hlt : k < n
    · obtain ⟨b, ha, q⟩ : ∃ b, a = some ⟨b, 0, none⟩ ∧ wr.cell? ⟨b, k, none⟩ = some (.slice (C k).1 (l k) (C k).2) := by
        rcases HM.out.top with q | ⟨b, e, _, _, hc, _⟩
        · omega
        · have := hc k hlt
          rw [if_neg (by omega), hz.out k hlt] at this
          exact ⟨b, e, this⟩
      subst ha
      have ho := offs_le l 1048576 k (fun j hj => hlen.out j (by omega))
      have HL := hlen.out k hlt
      have HO : Hid ((offs l (k + 1) : Int) = (offs l k : Int) + (l k : Int)) := by show ((offs l (k + 1) : Nat) : Int) = _; simp [offs]
      have HR : Hid (Mine wr B (C k).1 (Z k)) := by
        have := HM.out.row k hlt
        simp only [if_neg (show ¬ k < k by omega)] at this
        exact this
      have HZ : Hid ((Z k).length = l k) := hz.out k hlt
      obtain ⟨s, hs⟩ : ∃ s : Int, Hid (1 + (offs l k : Int) = s) := ⟨_, rfl⟩
      have hs0 : 0 ≤ s := by have := hs.out; omega
      have hs1 : s ≤ 10485761 := by have := hs.out; omega
      rw [hs.out] at ⊢
      have hl0 : (0 : Int) ≤ (l k : Int) := Int.natCast_nonneg _
      have hl1 : (l k : Int) ≤ 1048576 := by omega
      clear ho
      go_wp2_with fail
      refine (mark_from s hs0 (by omega) _ _ _ (Z k) _ B HZ HL HR).mono ?_
      rintro e w1 ⟨rfl, hm, hO⟩
      have HM1 : Hid (MineL w1 B (some ⟨b, 0, none⟩) n (fun j => if j < k + 1 then marksL l j else Z j) C) := by
        have e1 : (if k < k then marksL l k else Z k) = Z k := if_neg (by omega)
        refine (HM.out.put hlt (zs := upFrom s (l k)) (by rw [upFrom_len, e1, HZ.out]) hm (by rw [e1, HZ.out]; exact hO)).congr (fun j hj => ?_)
        by_cases e : j = k
        · subst e
          rw [if_pos rfl, if_pos (by omega)]
          unfold marksL
          rw [hs.out]
        · rw [if_neg e]
          by_cases e2 : j < k
          · rw [if_pos e2, if_pos (by omega)]
          · rw [if_neg e2, if_neg (by omega)]
      have HB1 : Hid (Below B W w1) := HB.out.trans hO.below
      clear hm hO HM HB
      go_wp2
      go_roundw
      case rel => exact ⟨k + 1, by omega, by go_num, by rw [HO.out, ← hs.out]; congr 1; omega, HM1, HB1⟩
      case measure => simp [intOf]; omega
    · have HE : Hid (k = n) := by show k = n; omega
      go_wp2
      go_ret
      exact ⟨by rw [HE.out]; rfl, HM.out.congr (fun j hj => by rw [if_pos (by have := HE.out; omega)]), HB.out⟩
end Go.Proofs.Ythjcgnldlhjjmaa.ints
