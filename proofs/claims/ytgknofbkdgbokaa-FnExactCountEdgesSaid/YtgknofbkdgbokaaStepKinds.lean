/-
  How a type switch takes the four kinds of steps apart.
-/
import Derived.Test.YtgknofbkdgbokaaProg
import Derived.WalkKit
namespace Go.Proofs.Ytgknofbkdgbokaa.walks

theorem is_cc : ∀ (v : Value) (w : World), (Instr.typeAssert (.iface 117 v) 107 117 true).run Try.prog w = .ok (.tuple #[v, .bool true]) w := fun v w => by kernel_rfl
theorem is_cy : ∀ (v : Value) (w : World), (Instr.typeAssert (.iface 117 v) 107 119 true).run Try.prog w = .ok (.tuple #[.agg #[.int .i64 0, .int .i64 0], .bool false]) w := fun v w => by kernel_rfl
theorem is_cp : ∀ (v : Value) (w : World), (Instr.typeAssert (.iface 117 v) 107 121 true).run Try.prog w = .ok (.tuple #[.agg #[.int .i64 0, .int .i64 0, .int .i64 0, .int .i64 0], .bool false]) w := fun v w => by kernel_rfl
theorem is_ct : ∀ (v : Value) (w : World), (Instr.typeAssert (.iface 117 v) 107 123 true).run Try.prog w = .ok (.tuple #[.agg #[.int .i64 0], .bool false]) w := fun v w => by kernel_rfl
theorem is_yc : ∀ (v : Value) (w : World), (Instr.typeAssert (.iface 119 v) 107 117 true).run Try.prog w = .ok (.tuple #[.agg #[.int .i64 0, .int .i64 0], .bool false]) w := fun v w => by kernel_rfl
theorem is_yy : ∀ (v : Value) (w : World), (Instr.typeAssert (.iface 119 v) 107 119 true).run Try.prog w = .ok (.tuple #[v, .bool true]) w := fun v w => by kernel_rfl
theorem is_yp : ∀ (v : Value) (w : World), (Instr.typeAssert (.iface 119 v) 107 121 true).run Try.prog w = .ok (.tuple #[.agg #[.int .i64 0, .int .i64 0, .int .i64 0, .int .i64 0], .bool false]) w := fun v w => by kernel_rfl
theorem is_yt : ∀ (v : Value) (w : World), (Instr.typeAssert (.iface 119 v) 107 123 true).run Try.prog w = .ok (.tuple #[.agg #[.int .i64 0], .bool false]) w := fun v w => by kernel_rfl
theorem is_pc : ∀ (v : Value) (w : World), (Instr.typeAssert (.iface 121 v) 107 117 true).run Try.prog w = .ok (.tuple #[.agg #[.int .i64 0, .int .i64 0], .bool false]) w := fun v w => by kernel_rfl
theorem is_py : ∀ (v : Value) (w : World), (Instr.typeAssert (.iface 121 v) 107 119 true).run Try.prog w = .ok (.tuple #[.agg #[.int .i64 0, .int .i64 0], .bool false]) w := fun v w => by kernel_rfl
theorem is_pp : ∀ (v : Value) (w : World), (Instr.typeAssert (.iface 121 v) 107 121 true).run Try.prog w = .ok (.tuple #[v, .bool true]) w := fun v w => by kernel_rfl
theorem is_pt : ∀ (v : Value) (w : World), (Instr.typeAssert (.iface 121 v) 107 123 true).run Try.prog w = .ok (.tuple #[.agg #[.int .i64 0], .bool false]) w := fun v w => by kernel_rfl
theorem is_tc : ∀ (v : Value) (w : World), (Instr.typeAssert (.iface 123 v) 107 117 true).run Try.prog w = .ok (.tuple #[.agg #[.int .i64 0, .int .i64 0], .bool false]) w := fun v w => by kernel_rfl
theorem is_ty : ∀ (v : Value) (w : World), (Instr.typeAssert (.iface 123 v) 107 119 true).run Try.prog w = .ok (.tuple #[.agg #[.int .i64 0, .int .i64 0], .bool false]) w := fun v w => by kernel_rfl
theorem is_tp : ∀ (v : Value) (w : World), (Instr.typeAssert (.iface 123 v) 107 121 true).run Try.prog w = .ok (.tuple #[.agg #[.int .i64 0, .int .i64 0, .int .i64 0, .int .i64 0], .bool false]) w := fun v w => by kernel_rfl
theorem is_tt : ∀ (v : Value) (w : World), (Instr.typeAssert (.iface 123 v) 107 123 true).run Try.prog w = .ok (.tuple #[v, .bool true]) w := fun v w => by kernel_rfl
end Go.Proofs.Ytgknofbkdgbokaa.walks
