/- Each of layer 1, for a range over it. -/
import Derived.Test.YtkkeimcicpkmbaaDoorE1
namespace Go.Proofs.YtkkeimcicpkmbaaDoor
open Go Go.RowKit Go.Shelf Go.Sort
attribute [local go_sem] Oper.semAt_some

theorem each_stops (n : Nat) (hn : 1 ≤ n) (Bs n₀ : Nat) (s : ByteArray) (hs : s.size < 4000000000) (hn0 : 0 < n₀) (w : World) (hB : Bs < w.heap.size) (hBs : w.cell? ⟨Bs, 0, none⟩ = some (.string s)) (mx : Int) (hm : w.cell? ⟨0, 0, none⟩ = some (.int .i64 mx)) :
    SeqStopsK Fence.wide n Tryd.prog 31 #[.pointer (some ⟨Bs, 0, none⟩)] (fun x : Int × Int => #[Value.int .i64 x.1, Value.int .u32 x.2]) (Below n₀) (fun ys => ys = eachF (s.size + 1) 0 s.data.toList) (fun pre => pre <+: eachF (s.size + 1) 0 s.data.toList) (eachF (s.size + 1) 0 s.data.toList).length w :=
  fun l J Jx W hW hJ _ hY h0 => each1_in n hn l Bs n₀ s hs hn0 J Jx hY W hJ ((hW.cell (p := ⟨Bs, 0, none⟩) hB).trans hBs) mx ((hW.cell (p := ⟨0, 0, none⟩) (World.block_lt_of_cell? _ _ hm)).trans hm) h0

set_option maxHeartbeats 400000 in
theorem each_any (s : ByteArray) (w : World) :
    Calls Tryd.prog 20 #[.string s] w fun e w' => e = .returned (.func (.func 31) #[] #[.pointer (some ⟨w.heap.size, 0, none⟩)]) ∧ w' = w.alloc (.cells #[.string s] 9) := by
  have hmf : ∀ (fn : Fn) (first cap : Array Value) (w : World), (Instr.makeFunc fn first cap).run Tryd.prog w = .ok (.func fn first cap) w := fun _ _ _ _ => rfl
  go_enter Tryd.func20, Tryd.ntmps20
  go_wp2
  go_ret
  exact ⟨rfl, rfl⟩
end Go.Proofs.YtkkeimcicpkmbaaDoor
