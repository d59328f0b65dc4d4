/- Layer 4's program: Name: an assertion that panics where no name was put, recovered. -/
import Derived.Test.YtehhablobfaplaaDoorW4
import Derived.Defers
import Derived.Recover
namespace Go.Proofs.YtehhablobfaplaaDoor
open Go Go.RowKit
attribute [local go_sem] Oper.semAt_some

/-- An assertion of nothing panics. -/
theorem assertNil : ∃ (V : World → Value) (N : World → World), ∀ w, (Instr.typeAssert .nilIface 20 9 false).run Tryd.prog w = .halt (.panic (V w)) (N w) ∧ Below w.heap.size w (N w) :=
  ⟨fun w => .iface Tryd.prog.rt.typeAssertionError (.pointer (some ⟨w.heap.size, 0, none⟩)), fun w => w.alloc (.cells #[typeHandle Tryd.prog 20, .pointer none, typeHandle Tryd.prog 9, .string ⟨#[]⟩] 124), fun w => ⟨by kernel_rfl, bigE w _⟩⟩
theorem assertName (s : ByteArray) (w : World) : (Instr.typeAssert (.iface 9 (.string s)) 20 9 false).run Tryd.prog w = .ok (.string s) w := by kernel_rfl

/-- Reasons' names. -/
def nameL : List ByteArray := [{ data := #[102, 105, 110, 101] }, { data := #[102, 97, 109, 105, 108, 121] }, { data := #[109, 97, 115, 107] }, { data := #[98, 105, 116, 115] }, { data := #[107, 105, 110, 100] }, { data := #[110, 101, 120, 116] }, { data := #[109, 101, 116, 114, 105, 99] }]
def nameE (r : Int) : ByteArray := if 0 ≤ r ∧ r ≤ 6 then nameL.getD r.toNat ⟨#[]⟩ else ⟨#[]⟩

def nameC : Array Value := #[.iface 9 (.string { data := #[102, 105, 110, 101] }), .iface 9 (.string { data := #[102, 97, 109, 105, 108, 121] }), .iface 9 (.string { data := #[109, 97, 115, 107] }), .iface 9 (.string { data := #[98, 105, 116, 115] }), .iface 9 (.string { data := #[107, 105, 110, 100] }), .iface 9 (.string { data := #[110, 101, 120, 116] }), .iface 9 (.string { data := #[109, 101, 116, 114, 105, 99] }), .nilIface]
end Go.Proofs.YtehhablobfaplaaDoor
