/- Contracts of the leaves of layer 1: Parts, the reference's Parts, num. -/
import Derived.WalkKit
import Derived.WalkLawsBesides
import Derived.BigQuiet
import Derived.Deep.QuietTactic
import Derived.Deep.DeepFit
import Derived.Lib.Hide
import Derived.Handy
import Derived.Laws.EntriesVeiled
import Derived.Test.YtabpkdblcinhjaaDoorProg
namespace Go.Proofs.YtabpkdblcinhjaaDoor
open Go Go.RowKit

set_option maxHeartbeats 400000 in
theorem parts_any (a : Int) (h0 : 0 ≤ a) (h1 : a < 4294967296) (w : World) :
    Calls Tryd.prog 29 #[.int .u32 a] w fun e w' => e = .returned (.agg #[.int .u8 (a / 16777216), .int .u8 (a / 65536 % 256), .int .u8 (a / 256 % 256), .int .u8 (a % 256)]) ∧ Below w.heap.size w w' := by
  go_enter Tryd.func29, Tryd.ntmps29
  go_wp2
  exact bodyPost_ret (v := .agg #[.int .u8 (a / 16777216), .int .u8 (a / 65536 % 256), .int .u8 (a / 256 % 256), .int .u8 (a % 256)]) (by simp [results, Tryd.results29, go_sem]) rfl ⟨rfl, (Below.refl _ _).alloc (Nat.le_refl _) _⟩

set_option maxHeartbeats 400000 in
theorem refParts_any (a : Int) (h0 : 0 ≤ a) (h1 : a < 4294967296) (w : World) :
    Calls Tryd.prog 35 #[.int .u32 a] w fun e w' => e = .returned (.agg #[.int .i64 (a / 16777216), .int .i64 (a / 65536 % 256), .int .i64 (a / 256 % 256), .int .i64 (a % 256)]) ∧ Below w.heap.size w w' := by
  go_enter Tryd.func35, Tryd.ntmps35
  go_wp2
  exact bodyPost_ret (v := .agg #[.int .i64 (a / 16777216), .int .i64 (a / 65536 % 256), .int .i64 (a / 256 % 256), .int .i64 (a % 256)]) (by simp [results, Tryd.results35, go_sem]) rfl ⟨rfl, (Below.refl _ _).alloc (Nat.le_refl _) _⟩

/-- Put together with base, digit by digit, with wrap-round of 32 bits. -/
def togW (base : Int) : List Int → Int → Int
  | [], n => n
  | d :: r, n => togW base r ((n * base + d) % 4294967296)

theorem togW_snoc (base : Int) (l : List Int) (d n : Int) : togW base (l ++ [d]) n = (togW base l n * base + d) % 4294967296 := by
  induction l generalizing n with
  | nil => rfl
  | cons a r ih => simp only [List.cons_append, togW]; exact ih _

set_option maxHeartbeats 400000 in
theorem tog32_any (base : Int) (xs : List Int) (b off cap : Nat) (w : World) (hl : xs.length ≤ 1000) (hl0 : 0 < xs.length)
    (hx : ∀ k, k < xs.length → 0 ≤ xs.getD k 0 ∧ xs.getD k 0 < 65536)
    (hc : ∀ k, k < xs.length → w.cell? ⟨b, off + k, none⟩ = some (.int .u32 (xs.getD k 0))) :
    Calls Tryd.prog 67 #[.int .u32 base, .slice (some ⟨b, off, none⟩) xs.length cap] w fun e w' => e = .returned (.int .u32 (togW base xs 0)) ∧ w = w' := by
  go_enter Tryd.func67, Tryd.ntmps67
  go_wp2
  go_loop [5, 10] (fun n i => ∃ k : Nat, k ≤ xs.length ∧ i = .int .i64 k ∧ n = .int .u32 (togW base (xs.take k) 0)) (fun _ i => xs.length - (intOf i).toNat)
  case atStart => exact ⟨0, Nat.zero_le _, rfl, rfl⟩
  case round =>
    obtain ⟨k, hk, rfl, rfl⟩ := hrel
    by_cases hlt : k < xs.length
    · have hcell := hc k hlt
      have hxk := hx k hlt
      have hsn : togW base (xs.take (k + 1)) 0 = (togW base (xs.take k) 0 * base + xs.getD k 0) % 4294967296 := by
        rw [List.take_succ_eq_append_getElem hlt, togW_snoc]; simp [List.getD_eq_getElem?_getD, hlt]
      have HS := Lib.hid hsn
      clear hsn hx hc
      go_wp2
      go_round
      case rel => exact ⟨k + 1, by omega, by go_num, by rw [HS.out, Int.emod_add_emod]; simp [List.getD_eq_getElem?_getD, hlt]⟩
      case measure => simp [intOf]; omega
    · have hke : k = xs.length := by omega
      subst hke
      clear hx hc
      go_wp2
      go_ret
      exact ⟨rfl, rfl⟩

set_option maxHeartbeats 400000 in
theorem tog4 (p q r s : Int) (w : World) (t : TypeId) (hp : 0 ≤ p ∧ p < 256) (hq : 0 ≤ q ∧ q < 256) (hr : 0 ≤ r ∧ r < 256) (hs : 0 ≤ s ∧ s < 256) :
    Calls Tryd.prog 67 #[.int .u32 256, .slice (some ⟨w.heap.size, 0, none⟩) 4 4] (w.alloc (.cells #[.int .u32 p, .int .u32 q, .int .u32 r, .int .u32 s] t)) fun e w' => e = .returned (.int .u32 (p * 16777216 + q * 65536 + r * 256 + s)) ∧ (w.alloc (.cells #[.int .u32 p, .int .u32 q, .int .u32 r, .int .u32 s] t)) = w' := by
  have h := tog32_any 256 [p, q, r, s] w.heap.size 0 4 (w.alloc (.cells #[.int .u32 p, .int .u32 q, .int .u32 r, .int .u32 s] t)) (by simp) (by simp)
    (fun k hk => by
      match k, hk with
      | 0, _ => simp; omega
      | 1, _ => simp; omega
      | 2, _ => simp; omega
      | 3, _ => simp; omega)
    (fun k hk => by
      match k, hk with
      | 0, _ => simp
      | 1, _ => simp
      | 2, _ => simp
      | 3, _ => simp)
  have e : togW 256 [p, q, r, s] 0 = p * 16777216 + q * 65536 + r * 256 + s := by simp only [togW]; omega
  rw [e] at h
  exact h

set_option maxHeartbeats 400000 in
theorem of_any (p q r s : Int) (w : World) (hp : 0 ≤ p ∧ p < 256) (hq : 0 ≤ q ∧ q < 256) (hr : 0 ≤ r ∧ r < 256) (hs : 0 ≤ s ∧ s < 256) :
    Calls Tryd.prog 55 #[.int .u8 p, .int .u8 q, .int .u8 r, .int .u8 s] w fun e w' => e = .returned (.int .u32 (p * 16777216 + q * 65536 + r * 256 + s)) ∧ Below w.heap.size w w' := by
  go_enter Tryd.func55, Tryd.ntmps55
  go_wp2_with (go_at_call 67; refine (tog4 p q r s w _ hp hq hr hs).mono ?_; rintro e w' ⟨rfl, rfl⟩)
  go_ret
  exact ⟨rfl, (Below.refl _ _).alloc (Nat.le_refl _) _⟩

set_option maxHeartbeats 400000 in
theorem tog64_any (base : Int) (x y : Int) (b : Nat) (cap : Nat) (w : World) (hb0 : base = 10) (hx0 : 0 ≤ x) (hx1 : x ≤ 255) (hy0 : 0 ≤ y) (hy1 : y ≤ 9)
    (hc0 : w.cell? ⟨b, 0, none⟩ = some (.int .i64 x)) (hc1 : w.cell? ⟨b, 1, none⟩ = some (.int .i64 y)) :
    Calls Tryd.prog 70 #[.int .i64 base, .slice (some ⟨b, 0, none⟩) 2 cap] w fun e w' => e = .returned (.int .i64 (10 * x + y)) ∧ w = w' := by
  subst hb0
  go_enter Tryd.func70, Tryd.ntmps70
  go_wp2
  go_loop [5, 10] (fun n i => (n = .int .i64 0 ∧ i = .int .i64 0) ∨ (n = .int .i64 x ∧ i = .int .i64 1) ∨ (n = .int .i64 (x * 10 + y) ∧ i = .int .i64 2)) (fun _ i => 2 - (intOf i).toNat)
  case atStart => exact .inl ⟨rfl, rfl⟩
  case round =>
    rcases hrel with ⟨rfl, rfl⟩ | ⟨rfl, rfl⟩ | ⟨rfl, rfl⟩
    · go_wp2
      go_round
      case rel => exact .inr (.inl ⟨by simp, rfl⟩)
      case measure => simp [intOf]
    · go_wp2
      go_round
      case rel => exact .inr (.inr ⟨rfl, rfl⟩)
      case measure => simp [intOf]
    · go_wp2
      go_ret
      exact ⟨by rw [Int.mul_comm 10 x]; rfl, rfl⟩
end Go.Proofs.YtabpkdblcinhjaaDoor
