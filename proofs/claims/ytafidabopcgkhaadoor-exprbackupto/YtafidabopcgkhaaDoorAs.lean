/-
  PROVED HERE: errors.As at a refusal of expr's, both targets of told, and told: what they return and leave.
-/
import Derived.Test.YtafidabopcgkhaaDoorRd
import Derived.LaidEql
import Derived.Stop.Asserts
import Derived.RowKitTokens
namespace Go.Proofs.YtafidabopcgkhaaDoor
open Go.RowKit Go.Extern.Stop Go.Stop Go.Extern

theorem q_methodKind (h : Value) (w : World) : (Go.method 243 98 (.agg #[h]) "Kind").run Tryd.prog w = .ok (88, h) w := by kernel_rfl
theorem q_methodElem (h : Value) (w : World) : (Go.method 243 98 (.agg #[h]) "Elem").run Tryd.prog w = .ok (101, .agg #[h]) w := by kernel_rfl
theorem q_methodImplements (h : Value) (w : World) : (Go.method 243 98 (.agg #[h]) "Implements").run Tryd.prog w = .ok (102, .agg #[h]) w := by kernel_rfl
theorem q_methodAssignableTo (h : Value) (w : World) : (Go.method 243 98 (.agg #[h]) "AssignableTo").run Tryd.prog w = .ok (99, .agg #[h]) w := by kernel_rfl
theorem getlit1 (a b : Value) (h1 : (#[a, b] : Array Value).size = 2) (h2 : 1 < 2) : (#[a, b] : Array Value).getLit 1 h1 h2 = b := rfl
end Go.Proofs.YtafidabopcgkhaaDoor
