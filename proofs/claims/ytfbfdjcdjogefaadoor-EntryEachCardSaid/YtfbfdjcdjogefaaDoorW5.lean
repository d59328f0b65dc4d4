/- Layer 4's program: Name: an assertion that panics where no name was put, recovered. -/
import Derived.Test.YtfbfdjcdjogefaaDoorW4
import Derived.Defers
import Derived.Recover
namespace Go.Proofs.YtfbfdjcdjogefaaDoor
open Go Go.RowKit
attribute [local go_sem] Oper.semAt_some

/-- An assertion of nothing panics. -/
theorem assertNil : ∃ (V : World → Value) (N : World → World), ∀ w, (Instr.typeAssert .nilIface 20 9 false).run Tryd.prog w = .halt (.panic (V w)) (N w) ∧ Below w.heap.size w (N w) :=
  ⟨fun w => .iface Tryd.prog.rt.typeAssertionError (.pointer (some ⟨w.heap.size, 0, none⟩)), fun w => w.alloc (.cells #[typeHandle Tryd.prog 20, .pointer none, typeHandle Tryd.prog 9, .string ⟨#[]⟩] 132), fun w => ⟨by kernel_rfl, bigE w _⟩⟩
theorem assertName (s : ByteArray) (w : World) : (Instr.typeAssert (.iface 9 (.string s)) 20 9 false).run Tryd.prog w = .ok (.string s) w := by kernel_rfl

theorem nameIdle (w : World) : CallsD Tryd.prog 41 #[] .returning w fun e u' w' => e = .returned (.tuple #[]) ∧ u' = .returning ∧ w' = w := by
  refine callsD_of_wpS Tryd.func41 rfl fun c₀ cs hu => ?_
  apply wpS_region
  cases c₀
  simp_all [wpOpsS, go_sem, recoverD, Tryd.ntmps41, bodyPostS, results, Tryd.results41]
theorem namePanics (v : Value) (w : World) : CallsD Tryd.prog 41 #[] (.panicking [{ v := v, recovered := false }]) w fun e u' w' => e = .returned (.tuple #[]) ∧ u' = .panicking [{ v := v, recovered := true }] ∧ w' = w := by
  refine callsD_of_wpS Tryd.func41 rfl fun c₀ cs hu => ?_
  apply wpS_region
  cases c₀
  simp_all [wpOpsS, go_sem, recoverD, Tryd.ntmps41, bodyPostS, results, Tryd.results41]

/-- Reasons' names. -/
def nameL : List ByteArray := [{ data := #[102, 105, 110, 101] }, { data := #[102, 97, 109, 105, 108, 121] }, { data := #[109, 97, 115, 107] }, { data := #[98, 105, 116, 115] }, { data := #[107, 105, 110, 100] }, { data := #[110, 101, 120, 116] }, { data := #[109, 101, 116, 114, 105, 99] }]
def nameE (r : Int) : ByteArray := if 0 ≤ r ∧ r ≤ 6 then nameL.getD r.toNat ⟨#[]⟩ else ⟨#[]⟩

def nameC : Array Value := #[.iface 9 (.string { data := #[102, 105, 110, 101] }), .iface 9 (.string { data := #[102, 97, 109, 105, 108, 121] }), .iface 9 (.string { data := #[109, 97, 115, 107] }), .iface 9 (.string { data := #[98, 105, 116, 115] }), .iface 9 (.string { data := #[107, 105, 110, 100] }), .iface 9 (.string { data := #[110, 101, 120, 116] }), .iface 9 (.string { data := #[109, 101, 116, 114, 105, 99] }), .nilIface]
set_option maxRecDepth 100000 in
set_option maxHeartbeats 1600000 in
theorem name_out (r : Int) (r0 : -9223372036854775808 ≤ r) (r1 : r ≤ 9223372036854775807) (hr : ¬ (0 ≤ r ∧ r ≤ 6)) (w : World) :
    Calls Tryd.prog 19 #[.int .i64 r] w fun e w' => e = .returned (.string ⟨#[]⟩) ∧ Below w.heap.size w w' := by
  obtain ⟨V, N, hV⟩ := assertNil
  have hta : ∀ w, (Instr.typeAssert .nilIface 20 9 false).run Tryd.prog w = .halt (.panic (V w)) (N w) := fun w => (hV w).1
  have HN := Lib.hid (fun w => (hV w).2)
  obtain ⟨u, hu⟩ : ∃ u, IntKind.u64.wrap r = u := ⟨_, rfl⟩
  have h7 : 7 ≤ u := by rw [← hu, IntKind.wrap_u64]; omega
  have hmin : min u 7 = 7 := by omega
  clear h7 hr hV
  go_enter_defers Tryd.func19, Tryd.ntmps19
  go_wp2_with fail
  have hbb := (bigE w _).trans ((HN.out (w.alloc (.cells nameC 84))).mono (by simp))
  refine leaves_cons (f := 41) (args := #[]) (by simp) (by simp [go_sem]) ?_
  refine (namePanics _ _).mono ?_
  rintro e u' w'' ⟨rfl, rfl, rfl⟩
  unfold nameC at hbb
  simp [Leaves, settle, results, Tryd.results19, go_sem, hbb]

set_option maxRecDepth 100000 in
set_option maxHeartbeats 1600000 in
theorem name_in (r : Int) (hr : 0 ≤ r ∧ r ≤ 6) (w : World) :
    Calls Tryd.prog 19 #[.int .i64 r] w fun e w' => e = .returned (.string (nameL.getD r.toNat ⟨#[]⟩)) ∧ Below w.heap.size w w' := by
  have hN := assertName
  have hmin : min r 7 = r := by omega
  have hway : r = 0 ∨ r = 1 ∨ r = 2 ∨ r = 3 ∨ r = 4 ∨ r = 5 ∨ r = 6 := by omega
  clear hr
  rcases hway with rfl | rfl | rfl | rfl | rfl | rfl | rfl
  all_goals
    go_enter_defers Tryd.func19, Tryd.ntmps19
    go_wp2_with fail
    have hbb := bigE w (.cells nameC 84)
    refine leaves_cons (f := 41) (args := #[]) (by simp) (by simp [go_sem]) ?_
    refine (nameIdle _).mono ?_
    rintro e u' w'' ⟨rfl, rfl, rfl⟩
    unfold nameC at hbb
    simp [Leaves, settle, results, Tryd.results19, go_sem, hbb]
    try rfl
theorem name_any (r : Int) (r0 : -9223372036854775808 ≤ r) (r1 : r ≤ 9223372036854775807) (w : World) :
    Calls Tryd.prog 19 #[.int .i64 r] w fun e w' => e = .returned (.string (nameE r)) ∧ Below w.heap.size w w' := by
  unfold nameE
  by_cases h : 0 ≤ r ∧ r ≤ 6
  · rw [if_pos h]
    exact name_in r h w
  · rw [if_neg h]
    exact name_out r r0 r1 h w
end Go.Proofs.YtfbfdjcdjogefaaDoor
