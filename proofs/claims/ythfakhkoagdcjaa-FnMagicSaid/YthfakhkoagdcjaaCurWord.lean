/-
  What the specification's draw of a word answers: a number from -1 to 65536; it writes into the reader's own cells alone.
-/
import Derived.Test.YthfakhkoagdcjaaCur
namespace Go.Proofs.Ythfakhkoagdcjaa.cur
open Go.RowKit

set_option maxHeartbeats 400000 in
theorem word_any {b len cap n : Nat} {a : Option Addr} {w : World} (h : Cur b a len cap n w) (hlen : len ≤ 1048576) (hn : n ≤ 1099511627700) :
    Calls Try.prog 28 #[.pointer (some ⟨b, 0, none⟩)] w (Step b a len cap n 6 w (-1) 65536) := by
  have H : Hid (Cur b a len cap n w) := h
  clear h
  go_enter Try.func28, Try.ntmps28
  go_wp2_with fail
  refine (one_any 3 H.out hlen (by omega) (by omega)).mono ?_
  rintro e w1 ⟨y, rfl, HC, HG⟩
  have H1 : Hid (Cur b a len cap (n + 2) w1) := HC
  have G1 : Hid (w.grownBy w1 (some b)) := HG
  clear HC HG H
  cases y
  · go_wp2_with fail
    refine (pick_any 256 H1.out hlen (by omega) (by omega)).mono ?_
    rintro e w2 ⟨r, r0, r1, rfl, HC, HG⟩
    have H2 : Hid (Cur b a len cap (n + 2 + 2) w2) := HC
    have G2 : Hid (w.grownBy w2 (some b)) := grown_trans G1.out HG
    clear HC HG H1 G1
    go_wp2_with fail
    refine (pick_any 256 H2.out hlen (by omega) (by omega)).mono ?_
    rintro e w3 ⟨q, q0, q1, rfl, HC, HG⟩
    have H3 : Hid (Cur b a len cap (n + 2 + 2 + 2) w3) := HC
    have G3 : Hid (w.grownBy w3 (some b)) := grown_trans G2.out HG
    clear HC HG H2 G2
    go_wp2
    go_ret
    exact ⟨_, by omega, by omega, rfl, H3.out.up (by omega), G3.out⟩
  · go_wp2_with fail
    have L : Hid (Listed b w1.heap.size 11 (-1) 65536 (w1.alloc (.cells #[.int .i64 (-1), .int .i64 0, .int .i64 1, .int .i64 2, .int .i64 3, .int .i64 32767, .int .i64 32768, .int .i64 32769, .int .i64 65534, .int .i64 65535, .int .i64 65536] 3))) :=
      listed_new H1.out 3 [-1, 0, 1, 2, 3, 32767, 32768, 32769, 65534, 65535, 65536] (by decide)
    refine (among_any (H1.out.alloc _) L.out (by omega) (by omega) hlen (by omega)).mono ?_
    rintro e w2 ⟨r, r0, r1, rfl, HC, HG⟩
    have H2 : Hid (Cur b a len cap (n + 2 + 2) w2) := HC
    have G2 : Hid (w.grownBy w2 (some b)) := grown_trans (grown_alloc G1.out _) HG
    clear HC HG H1 G1 L
    go_wp2
    go_ret
    exact ⟨_, r0, r1, rfl, H2.out.up (by omega), G2.out⟩

end Go.Proofs.Ythfakhkoagdcjaa.cur
