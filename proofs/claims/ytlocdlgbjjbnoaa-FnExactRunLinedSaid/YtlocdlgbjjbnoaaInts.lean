/-
  What the laws' own helpers on lists of ints do, at every list: they copy it, hold it against another one, number it, and hold it against these numbers.
-/
import Derived.Test.YtlocdlgbjjbnoaaProg
import Derived.WalkKit
import Derived.WalkSpells
import Derived.Below
import Derived.Handy
import Derived.Deep.OwnRows
namespace Go.Proofs.Ytlocdlgbjjbnoaa.ints
open Go.RowKit

/-- The list at an address holds the numbers zs. -/
def Ints (w : World) (a : Option Addr) (zs : List Int) : Prop :=
  zs = [] ∨ ∃ b off, a = some ⟨b, off, none⟩ ∧ b < w.heap.size ∧ ∀ i, i < zs.length → w.cell? ⟨b, off + i, none⟩ = some (.int .i64 (zs.getD i 0))
theorem Ints.kept {w w' : World} {a : Option Addr} {zs : List Int} (h : Ints w a zs) (hb : Below w.heap.size w w') : Ints w' a zs := by
  rcases h with h | ⟨b, off, rfl, hlt, hc⟩
  · exact Or.inl h
  · exact Or.inr ⟨b, off, rfl, Nat.lt_of_lt_of_le hlt hb.size, fun i hi => (hb.cell (p := ⟨b, off + i, none⟩) hlt).trans (hc i hi)⟩
/-- .. and no cell of it is barred. -/
def Mine (w : World) (B : Nat) (a : Option Addr) (zs : List Int) : Prop :=
  zs = [] ∨ ∃ b off, a = some ⟨b, off, none⟩ ∧ B ≤ b ∧ b < w.heap.size ∧ ∀ i, i < zs.length → w.cell? ⟨b, off + i, none⟩ = some (.int .i64 (zs.getD i 0)) ∧ w.frozen? ⟨b, off + i, none⟩ = false
theorem Mine.ints {w : World} {B : Nat} {a : Option Addr} {zs : List Int} (h : Mine w B a zs) : Ints w a zs := by
  rcases h with h | ⟨b, off, rfl, _, hlt, hc⟩
  · exact Or.inl h
  · exact Or.inr ⟨b, off, rfl, hlt, fun i hi => (hc i hi).1⟩
theorem Mine.kept {w w' : World} {B : Nat} {a : Option Addr} {zs : List Int} (h : Mine w B a zs) (hb : Below w.heap.size w w') : Mine w' B a zs := by
  rcases h with h | ⟨b, off, rfl, h0, hlt, hc⟩
  · exact Or.inl h
  · exact Or.inr ⟨b, off, rfl, h0, Nat.lt_of_lt_of_le hlt hb.size, fun i hi => ⟨(hb.cell (p := ⟨b, off + i, none⟩) hlt).trans (hc i hi).1, (hb.frozen (p := ⟨b, off + i, none⟩) hlt).trans (hc i hi).2⟩⟩
theorem row_info : (Try.prog.info? 3).map (fun i => (i.zero, i.size, i.bytes)) = some (some (.int .i64 0), 1, 8) := by kernel_rfl

theorem mine_row {w : World} {b n : Nat} {zs : List Int} (h : w.rowIs b 3 n (fun i => .int .i64 (zs.getD i 0))) (hz : zs.length = n) {B : Nat} (hB : B ≤ b) : Mine w B (some ⟨b, 0, none⟩) zs :=
  Or.inr ⟨b, 0, rfl, hB, h.lt, fun i hi => ⟨by simpa using h.cell (i := i) (by omega), by simpa using h.frozen i⟩⟩

/-- One number of a list, in a world that has only grown. -/
theorem Ints.at {W wr : World} {a : Option Addr} {zs : List Int} (h : Ints W a zs) (hB : Below W.heap.size W wr) {k : Nat} (hk : k < zs.length) : ∃ b off, a = some ⟨b, off, none⟩ ∧ wr.cell? ⟨b, off + k, none⟩ = some (.int .i64 (zs.getD k 0)) := by
  rcases h with h | ⟨b, off, rfl, hb, hc⟩
  · rw [h] at hk; simp at hk
  · exact ⟨b, off, rfl, (hB.cell (p := ⟨b, off + k, none⟩) hb).trans (hc k hk)⟩
theorem eq_ints (a a' : Option Addr) (len cap cap' : Nat) (zs : List Int) (W : World) (hz : Hid (zs.length = len)) (hlen : len ≤ 1048576) (h : Hid (Ints W a zs)) (h' : Hid (Ints W a' zs)) :
    Calls Try.prog 10 #[.slice a len cap, .slice a' len cap'] W fun e W' => e = .returned (.bool true) ∧ Below W.heap.size W W' := by
  go_enter Try.func10, Try.ntmps10
  go_wp2
  go_loopw [5] (fun vi wr => ∃ k : Nat, k ≤ len ∧ vi = .int .i64 k ∧ Hid (Below W.heap.size W wr)) (fun vi _ => len - (intOf vi).toNat)
  case atStart => exact ⟨0, Nat.zero_le _, rfl, Below.refl _ _⟩
  case round =>
    obtain ⟨k, hk, rfl, HB⟩ := hrel
    by_cases hlt : k < len
    · obtain ⟨b, off, ha, hc⟩ := h.out.at HB.out (k := k) (by have := hz.out; omega)
      obtain ⟨b', off', ha', hc'⟩ := h'.out.at HB.out (k := k) (by have := hz.out; omega)
      subst ha ha'
      go_wp2
      go_region
      go_wp2
      go_roundw
      case rel => exact ⟨k + 1, by omega, by go_num, HB.out.drew⟩
      case measure => simp [intOf]; omega
    · go_wp2
      go_ret
      exact ⟨rfl, HB.out⟩

/-- The numbers k, k + 1 and so on. -/
def upFrom (k : Int) : Nat → List Int
  | 0 => []
  | n + 1 => k :: upFrom (k + 1) n
theorem upFrom_len (n : Nat) : ∀ k, (upFrom k n).length = n := by
  induction n with
  | zero => intro k; rfl
  | succ n ih => intro k; simp [upFrom, ih]
theorem upFrom_at (n : Nat) : ∀ (k : Int) (i : Nat), i < n → (upFrom k n).getD i 0 = k + (i : Int) := by
  induction n with
  | zero => intro k i h; omega
  | succ n ih =>
    intro k i h
    cases i with
    | zero => simp [upFrom]
    | succ i =>
      have := ih (k + 1) i (by omega)
      simp only [upFrom, List.getD_cons_succ]
      rw [this]; omega
theorem held_ints (a : Option Addr) (len cap : Nat) (W : World) (hlen : len ≤ 1048576) (h : Hid (Ints W a (upFrom 1 len))) :
    Calls Try.prog 14 #[.slice a len cap, .int .i64 1] W fun e W' => e = .returned (.int .i64 ((len : Int) + 1)) ∧ W' = W := by
  go_enter Try.func14, Try.ntmps14
  go_wp2
  go_loop [1, 5] (fun vk vi => ∃ k : Nat, k ≤ len ∧ vi = .int .i64 k ∧ vk = .int .i64 ((k : Int) + 1)) (fun _ vi => len - (intOf vi).toNat)
  case atStart => exact ⟨0, Nat.zero_le _, rfl, rfl⟩
  case round =>
    obtain ⟨k, hk, rfl, rfl⟩ := hrel
    by_cases hlt : k < len
    · obtain ⟨b, off, ha, hc⟩ := h.out.at (Below.refl _ _) (k := k) (by rw [upFrom_len]; exact hlt)
      subst ha
      rw [upFrom_at len 1 k hlt, show (1 : Int) + (k : Int) = (k : Int) + 1 by omega] at hc
      go_wp2
      go_round
      case rel => exact ⟨k + 1, by omega, by go_num, by go_num⟩
      case measure => simp [intOf]; omega
    · have HE : Hid (k = len) := by show k = len; omega
      go_wp2
      go_ret
      exact ⟨by rw [HE.out]; rfl, rfl⟩

theorem mark_ints (a : Option Addr) (len cap : Nat) (zs : List Int) (W : World) (B : Nat) (hz : Hid (zs.length = len)) (hlen : len ≤ 1048576) (h : Hid (Mine W B a zs)) :
    Calls Try.prog 13 #[.slice a len cap, .int .i64 1] W fun e W' => e = .returned (.int .i64 ((len : Int) + 1)) ∧ Mine W' B a (upFrom 1 len) ∧ Below B W W' ∧ W'.heap.size = W.heap.size := by
  by_cases hl0 : len = 0
  · subst hl0
    go_enter Try.func13, Try.ntmps13
    go_wp2
    go_loop [1, 5] (fun vk vi => vi = .int .i64 0 ∧ vk = .int .i64 1) (fun _ vi => 1)
    case atStart => exact ⟨rfl, rfl⟩
    case round =>
      obtain ⟨rfl, rfl⟩ := hrel
      go_wp2
      go_ret
      exact ⟨rfl, Or.inl rfl, Below.refl _ _, rfl⟩
  obtain ⟨b, off, ha, hBb, hbl, HC⟩ : ∃ b off, a = some ⟨b, off, none⟩ ∧ B ≤ b ∧ b < W.heap.size ∧ Hid (∀ i, i < zs.length → W.cell? ⟨b, off + i, none⟩ = some (.int .i64 (zs.getD i 0)) ∧ W.frozen? ⟨b, off + i, none⟩ = false) := by
    rcases h.out with h | h
    · have := hz.out; rw [h] at this; simp at this; omega
    · exact h
  subst ha
  go_enter Try.func13, Try.ntmps13
  go_wp2
  go_loopw [1, 5] (fun vk vi wr => ∃ k : Nat, k ≤ len ∧ vi = .int .i64 k ∧ vk = .int .i64 ((k : Int) + 1) ∧ Hid (∀ i, i < len → wr.cell? ⟨b, off + i, none⟩ = some (.int .i64 (if i < k then (1 : Int) + (i : Int) else zs.getD i 0)) ∧ wr.frozen? ⟨b, off + i, none⟩ = false) ∧ Hid (Below B W wr) ∧ Hid (wr.heap.size = W.heap.size)) (fun _ vi _ => len - (intOf vi).toNat)
  case atStart =>
    refine ⟨0, Nat.zero_le _, rfl, rfl, ?_, Below.refl _ _, rfl⟩
    show ∀ i, i < len → _
    intro i hi
    simpa using HC.out i (by have := hz.out; omega)
  case round =>
    obtain ⟨k, hk, rfl, rfl, HR, HB, HS⟩ := hrel
    by_cases hlt : k < len
    · obtain ⟨d0, d1⟩ := HR.out k hlt
      go_wp2
      go_roundw
      case rel =>
        refine ⟨k + 1, by omega, by go_num, by go_num, ?_, ?_, ?_⟩
        · show ∀ i, i < len → _
          intro i hi
          obtain ⟨e0, e1⟩ := HR.out i hi
          refine ⟨?_, by simpa using e1⟩
          by_cases e : i = k
          · subst e
            rw [World.cell?_setCell_same _ _ _ d0, if_pos (by omega)]
            congr 2; omega
          · rw [World.cell?_setCell_other _ _ _ _ (by simp; try omega), e0]
            by_cases e2 : i < k
            · rw [if_pos e2, if_pos (by omega)]
            · rw [if_neg e2, if_neg (by omega)]
        · exact HB.out.setCell hBb _
        · show (World.setCell _ _ _).heap.size = W.heap.size
          rw [← HS.out]; simp [World.setCell]
      case measure => simp [intOf]; omega
    · have HE : Hid (k = len) := by show k = len; omega
      go_wp2
      go_ret
      refine ⟨by rw [HE.out]; rfl, Or.inr ⟨b, off, rfl, hBb, by have := HS.out; omega, ?_⟩, HB.out, HS.out⟩
      intro i hi
      rw [upFrom_len] at hi
      obtain ⟨e0, e1⟩ := HR.out i hi
      refine ⟨?_, e1⟩
      rw [e0, if_pos (by have := HE.out; omega), upFrom_at len 1 i hi]
end Go.Proofs.Ytlocdlgbjjbnoaa.ints
