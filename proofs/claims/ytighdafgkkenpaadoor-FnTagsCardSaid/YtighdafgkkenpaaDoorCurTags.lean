/-
  What the specification's draws of a number, of a word and of an address answer: some int, and nothing that was there is written.
-/
import Derived.Test.YtighdafgkkenpaaDoorCurWord
namespace Go.Proofs.YtighdafgkkenpaaDoor.cur
open Go.RowKit

set_option maxHeartbeats 400000 in
theorem drawTag_any {len cap : Nat} {a : Option Addr} {w : World} (hc : Src w.heap.size a len w) (hlen : len ≤ 1048576) :
    Calls Tryd.prog 4 #[.slice a len cap] w fun e w' => ∃ r : Int, e = .returned (.int .i64 r) ∧ Below w.heap.size w w' := by
  have HS : Hid (Src w.heap.size a len w) := hc
  clear hc
  go_enter Tryd.func4, Tryd.ntmps4
  go_wp2_with fail
  refine (one_any 2 (cur_new _ HS.out) hlen (by omega) (by omega)).mono ?_
  rintro e w1 ⟨y, rfl, HC, HG⟩
  have H1 : Hid (Cur w.heap.size a len cap (0 + 2) w1) := HC
  have G1 : Hid (Below w.heap.size w w1) := below_of_grown ((Below.refl _ _).alloc (Nat.le_refl _) _) (by simp) HG
  clear HC HG HS
  cases y
  · go_wp2_with fail
    refine (pick_any 30000 H1.out hlen (by omega) (by omega)).mono ?_
    rintro e w2 ⟨r, r0, r1, rfl, HC, HG⟩
    have G2 : Hid (Below w.heap.size w w2) := below_of_grown G1.out G1.out.size HG
    clear HC HG H1 G1
    go_wp2
    go_ret
    exact ⟨_, rfl, G2.out⟩
  · go_wp2_with fail
    have L : Hid (Listed w.heap.size w1.heap.size 7 (-16385) 16384 (w1.alloc (.cells #[.int .i64 (-16385), .int .i64 (-16384), .int .i64 (-1), .int .i64 0, .int .i64 1, .int .i64 16383, .int .i64 16384] 3))) :=
      listed_new H1.out 3 [-16385, -16384, -1, 0, 1, 16383, 16384] (by decide)
    refine (among_any (H1.out.alloc _) L.out (by omega) (by omega) hlen (by omega)).mono ?_
    rintro e w2 ⟨r, r0, r1, rfl, HC, HG⟩
    have G2 : Hid (Below w.heap.size w w2) := below_of_grown (G1.out.alloc G1.out.size _) (by have := G1.out.size; simp; omega) HG
    clear HC HG H1 G1 L
    go_wp2
    go_ret
    exact ⟨_, rfl, G2.out⟩

set_option maxHeartbeats 400000 in
theorem drawWord_any {len cap : Nat} {a : Option Addr} {w : World} (hc : Src w.heap.size a len w) (hlen : len ≤ 1048576) :
    Calls Tryd.prog 10 #[.slice a len cap] w fun e w' => ∃ r : Int, e = .returned (.int .i64 r) ∧ Below w.heap.size w w' := by
  have HS : Hid (Src w.heap.size a len w) := hc
  clear hc
  go_enter Tryd.func10, Tryd.ntmps10
  go_wp2_with fail
  refine (word_any (cur_new _ HS.out) hlen (by omega)).mono ?_
  rintro e w1 ⟨r, r0, r1, rfl, HC, HG⟩
  have G1 : Hid (Below w.heap.size w w1) := below_of_grown ((Below.refl _ _).alloc (Nat.le_refl _) _) (by simp) HG
  clear HC HG HS
  go_wp2
  go_ret
  exact ⟨_, rfl, G1.out⟩

set_option maxHeartbeats 400000 in
theorem drawAddr_any {len cap : Nat} {a : Option Addr} {w : World} (hc : Src w.heap.size a len w) (hlen : len ≤ 1048576) :
    Calls Tryd.prog 18 #[.slice a len cap] w fun e w' => ∃ r : Int, e = .returned (.int .i64 r) ∧ Below w.heap.size w w' := by
  have HS : Hid (Src w.heap.size a len w) := hc
  clear hc
  go_enter Tryd.func18, Tryd.ntmps18
  go_wp2_with fail
  have H1 : Hid (Cur w.heap.size a len cap 0 (w.alloc (.cells #[.slice a len cap, .int .i64 0, .int .u64 0] 32))) := cur_new 32 HS.out
  have L : Hid (Listed w.heap.size (w.heap.size + 1) 5 (-1) 32768 ((w.alloc (.cells #[.slice a len cap, .int .i64 0, .int .u64 0] 32)).alloc (.cells #[.int .i64 (-1), .int .i64 0, .int .i64 5, .int .i64 32767, .int .i64 32768] 3))) := by
    have h := listed_new (lo := -1) (hi := 32768) H1.out 3 [-1, 0, 5, 32767, 32768] (by decide)
    rw [World.size_alloc] at h
    exact h
  refine (among_any (H1.out.alloc _) L.out (by decide) (by decide) hlen (by omega)).mono ?_
  rintro e w2 ⟨r, r0, r1, rfl, HC, HG⟩
  have G2 : Hid (Below w.heap.size w w2) := below_of_grown (((Below.refl _ _).alloc (Nat.le_refl _) _).alloc (by simp) _) (by simp; omega) HG
  clear HC HG H1 L
  go_wp2
  go_ret
  exact ⟨_, rfl, G2.out⟩
end Go.Proofs.YtighdafgkkenpaaDoor.cur
