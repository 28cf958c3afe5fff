/-
  What the program's GoodHeap answers; numbers that came in are int's.
-/
import Derived.Test.YthomonidconmcaaProg
import Derived.Test.YthomonidconmcaaInts
import Derived.Test.YthomonidconmcaaDeep
import Derived.Test.YthomonidconmcaaDeepOpen
import Derived.Test.YthomonidconmcaaDeepRow
import Derived.Test.YthomonidconmcaaDeepH
import Derived.Test.YthomonidconmcaaHeapMath
import Derived.Test.YthomonidconmcaaPtrMap
import Derived.Test.YthomonidconmcaaHeapMake
import Derived.WalkKit
import Derived.WalkSpells
import Derived.Below
import Derived.Handy
namespace Go.Proofs.Ythomonidconmcaa.walks
open Go.RowKit Go.Proofs.Ythomonidconmcaa.math Go.Proofs.Ythomonidconmcaa.ints Go.Proofs.Ythomonidconmcaa.deep
set_option linter.unusedVariables false
set_option maxRecDepth 100000

theorem lens_ints {n : Nat} {cs : Nat → Dv} (hf : Fits shI (.l n 1 cs)) (h : Lens (.l n 1 cs)) : ∀ x ∈ intsOf cs (n * 1), okZ x := by
  intro x hx
  unfold intsOf at hx
  rw [List.mem_map] at hx
  obtain ⟨i, hi, e⟩ := hx
  have hi' := List.mem_range.1 hi
  obtain ⟨y, hy⟩ := (fits_I hf) i hi'
  have q := h.2 i hi'
  rw [hy] at q e
  rw [← e]
  exact q
theorem lens_links {n : Nat} {cs : Nat → Dv} (hf : Fits shObjectS (.l n 3 cs)) (h : Lens (.l n 3 cs)) : ∀ k, k < n → ∀ x ∈ hls cs k, okZ x := by
  intro k hk x hx
  obtain ⟨m, es, he, hes⟩ := (hf.cell hk (c := 2) (by decide)).list
  have he : cs (k * 3 + 2) = .l m 1 es := he
  have q := h.2 (k * 3 + 2) (by omega)
  rw [he] at q
  unfold hls hnl at hx
  rw [he] at hx
  unfold intsOf at hx
  rw [List.mem_map] at hx
  obtain ⟨i, hi, e⟩ := hx
  have hi' : i < m := List.mem_range.1 hi
  obtain ⟨y, hy⟩ := (hes i (by omega)).int
  have r := q.2 i (by omega)
  have e2 : (es i).int = x := e
  rw [hy] at e2 r
  rw [← e2]
  exact r
theorem impl_heap14 (a : Option Addr) (n cap : Nat) (ra : Option Addr) (rl rc : Nat) (na : Option Addr) (nl nc : Nat) (nx : Int) (cs : Nat → Dv) (rs ns : List Int) (c : Bool) (W : World) (hf : Hid (Fits shObjectS (.l n 3 cs))) (hs : Hid (szD (.l n 3 cs) ≤ 1048576)) (h : Hid (Holds W c (.l n 3 cs) (.slice a n cap))) (hzr : Hid (rs.length = rl)) (hrl : rl ≤ 1048576) (Ir : Hid (Ints W ra rs)) (hzn : Hid (ns.length = nl)) (hnnl : nl ≤ 1048576) (In : Hid (Ints W na ns)) (HWl : Hid (∀ k, k < n → ∀ x ∈ hls cs k, okZ x)) (HWr : Hid (∀ x ∈ rs, okZ x)) :
    Calls Try.prog 11 #[.agg #[.slice a n cap, .slice ra rl rc, .slice na nl nc, .int .i64 nx]] W fun e W' => e = .returned (.bool (heapB cs n rs ns nx)) ∧ Below W.heap.size W W' := by
  obtain ⟨X, hX⟩ : ∃ X, Hid (W.alloc (.cells #[.slice a n cap, .slice ra rl rc, .slice na nl nc, .int .i64 nx] 30) = X) := ⟨_, rfl⟩
  have HX : Hid (Below W.heap.size W X) := by show Below _ _ _; rw [← hX.out]; exact (Below.refl _ _).alloc (Nat.le_refl _) _
  have hRX := row_of W #[.slice a n cap, .slice ra rl rc, .slice na nl nc, .int .i64 nx] 30
  rw [hX.out] at hRX
  have r0 : X.cell? ⟨W.heap.size, 0, none⟩ = some (.slice a n cap) := hRX.cell (i := 0) (by simp)
  have r1 : X.cell? ⟨W.heap.size, 1, none⟩ = some (.slice ra rl rc) := hRX.cell (i := 1) (by simp)
  have r2 : X.cell? ⟨W.heap.size, 2, none⟩ = some (.slice na nl nc) := hRX.cell (i := 2) (by simp)
  have r3 : X.cell? ⟨W.heap.size, 3, none⟩ = some (.int .i64 nx) := hRX.cell (i := 3) (by simp)
  have hc := impl_made a n cap ra rl rc na nl nc nx cs rs ns c X hf hs (h.out.kept HX.out) hzr hrl (Ir.out.kept HX.out) hzn hnnl (In.out.kept HX.out) HWl HWr
  clear hRX
  go_enter Try.func11, Try.ntmps11
  go_wp2_with fail
  rw [hX.out]
  go_wp2_with fail
  refine hc.mono ?_
  rintro e w1 ⟨v, rfl, hB, -⟩
  have B1 : Hid (Below W.heap.size W w1) := HX.out.trans (hB.mono HX.out.size)
  clear hB hc r0 r1 r2 r3
  go_wp2
  go_ret
  exact ⟨rfl, B1.out⟩
end Go.Proofs.Ythomonidconmcaa.walks
