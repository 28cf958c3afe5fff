/-
  How a type switch takes the four kinds of steps apart.
-/
import Derived.Test.YtfmgbalfabpogaaProg
import Derived.WalkKit
namespace Go.Proofs.Ytfmgbalfabpogaa.walks

theorem is_cc : ∀ (v : Value) (w : World), (Instr.typeAssert (.iface 120 v) 80 120 true).run Try.prog w = .ok (.tuple #[v, .bool true]) w := fun v w => by kernel_rfl
theorem is_cy : ∀ (v : Value) (w : World), (Instr.typeAssert (.iface 120 v) 80 122 true).run Try.prog w = .ok (.tuple #[.agg #[.int .i64 0, .int .i64 0], .bool false]) w := fun v w => by kernel_rfl
theorem is_cp : ∀ (v : Value) (w : World), (Instr.typeAssert (.iface 120 v) 80 124 true).run Try.prog w = .ok (.tuple #[.agg #[.int .i64 0, .int .i64 0, .int .i64 0, .int .i64 0], .bool false]) w := fun v w => by kernel_rfl
theorem is_ct : ∀ (v : Value) (w : World), (Instr.typeAssert (.iface 120 v) 80 126 true).run Try.prog w = .ok (.tuple #[.agg #[.int .i64 0], .bool false]) w := fun v w => by kernel_rfl
theorem is_yc : ∀ (v : Value) (w : World), (Instr.typeAssert (.iface 122 v) 80 120 true).run Try.prog w = .ok (.tuple #[.agg #[.int .i64 0, .int .i64 0], .bool false]) w := fun v w => by kernel_rfl
theorem is_yy : ∀ (v : Value) (w : World), (Instr.typeAssert (.iface 122 v) 80 122 true).run Try.prog w = .ok (.tuple #[v, .bool true]) w := fun v w => by kernel_rfl
theorem is_yp : ∀ (v : Value) (w : World), (Instr.typeAssert (.iface 122 v) 80 124 true).run Try.prog w = .ok (.tuple #[.agg #[.int .i64 0, .int .i64 0, .int .i64 0, .int .i64 0], .bool false]) w := fun v w => by kernel_rfl
theorem is_yt : ∀ (v : Value) (w : World), (Instr.typeAssert (.iface 122 v) 80 126 true).run Try.prog w = .ok (.tuple #[.agg #[.int .i64 0], .bool false]) w := fun v w => by kernel_rfl
theorem is_pc : ∀ (v : Value) (w : World), (Instr.typeAssert (.iface 124 v) 80 120 true).run Try.prog w = .ok (.tuple #[.agg #[.int .i64 0, .int .i64 0], .bool false]) w := fun v w => by kernel_rfl
theorem is_py : ∀ (v : Value) (w : World), (Instr.typeAssert (.iface 124 v) 80 122 true).run Try.prog w = .ok (.tuple #[.agg #[.int .i64 0, .int .i64 0], .bool false]) w := fun v w => by kernel_rfl
theorem is_pp : ∀ (v : Value) (w : World), (Instr.typeAssert (.iface 124 v) 80 124 true).run Try.prog w = .ok (.tuple #[v, .bool true]) w := fun v w => by kernel_rfl
theorem is_pt : ∀ (v : Value) (w : World), (Instr.typeAssert (.iface 124 v) 80 126 true).run Try.prog w = .ok (.tuple #[.agg #[.int .i64 0], .bool false]) w := fun v w => by kernel_rfl
theorem is_tc : ∀ (v : Value) (w : World), (Instr.typeAssert (.iface 126 v) 80 120 true).run Try.prog w = .ok (.tuple #[.agg #[.int .i64 0, .int .i64 0], .bool false]) w := fun v w => by kernel_rfl
theorem is_ty : ∀ (v : Value) (w : World), (Instr.typeAssert (.iface 126 v) 80 122 true).run Try.prog w = .ok (.tuple #[.agg #[.int .i64 0, .int .i64 0], .bool false]) w := fun v w => by kernel_rfl
theorem is_tp : ∀ (v : Value) (w : World), (Instr.typeAssert (.iface 126 v) 80 124 true).run Try.prog w = .ok (.tuple #[.agg #[.int .i64 0, .int .i64 0, .int .i64 0, .int .i64 0], .bool false]) w := fun v w => by kernel_rfl
theorem is_tt : ∀ (v : Value) (w : World), (Instr.typeAssert (.iface 126 v) 80 126 true).run Try.prog w = .ok (.tuple #[v, .bool true]) w := fun v w => by kernel_rfl
end Go.Proofs.Ytfmgbalfabpogaa.walks
