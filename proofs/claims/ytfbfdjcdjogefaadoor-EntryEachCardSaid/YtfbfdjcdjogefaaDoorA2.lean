/- Contracts of layer 1: Kind, by its rules, and the reference's Kind. -/
import Derived.Test.YtfbfdjcdjogefaaDoorA1
namespace Go.Proofs.YtfbfdjcdjogefaaDoor
open Go Go.RowKit

def r1B (a : Int) : Bool := decide (a = 0)
def r2B (f : Int) : Bool := decide (f = 0)
def r3B (f : Int) : Bool := decide (f = 127)
def r4B (f : Int) : Bool := decide (224 ≤ f) && decide (f ≤ 239)
def r5B (f : Int) : Bool := decide (240 ≤ f)
def kindOf (a : Int) : Int :=
  if r1B a then 1 else if r2B (a / 16777216) then 2 else if r3B (a / 16777216) then 3 else if r4B (a / 16777216) then 4 else if r5B (a / 16777216) then 5 else 6

set_option maxHeartbeats 400000 in
theorem rule1_any (a f : Int) (w : World) :
    Calls Tryd.prog 80 #[.int .u32 a, .int .u8 f] w fun e w' => e = .returned (.bool (r1B a)) ∧ w = w' := by
  go_enter Tryd.func80, Tryd.ntmps80
  go_wp2
  go_ret
  exact ⟨rfl, rfl⟩
set_option maxHeartbeats 400000 in
theorem rule2_any (a f : Int) (w : World) :
    Calls Tryd.prog 81 #[.int .u32 a, .int .u8 f] w fun e w' => e = .returned (.bool (r2B f)) ∧ w = w' := by
  go_enter Tryd.func81, Tryd.ntmps81
  go_wp2
  go_ret
  exact ⟨rfl, rfl⟩
set_option maxHeartbeats 400000 in
theorem rule3_any (a f : Int) (w : World) :
    Calls Tryd.prog 82 #[.int .u32 a, .int .u8 f] w fun e w' => e = .returned (.bool (r3B f)) ∧ w = w' := by
  go_enter Tryd.func82, Tryd.ntmps82
  go_wp2
  go_ret
  exact ⟨rfl, rfl⟩
set_option maxHeartbeats 400000 in
theorem rule4_any (a f : Int) (w : World) :
    Calls Tryd.prog 83 #[.int .u32 a, .int .u8 f] w fun e w' => e = .returned (.bool (r4B f)) ∧ w = w' := by
  by_cases h : 224 ≤ f
  · have h' : decide (224 ≤ f) = true := by simpa using h
    go_enter Tryd.func83, Tryd.ntmps83
    go_wp2
    go_ret
    exact ⟨by simp [r4B, h], rfl⟩
  · have h' : decide (224 ≤ f) = false := by simpa using h
    go_enter Tryd.func83, Tryd.ntmps83
    go_wp2
    go_ret
    exact ⟨by have hn : ¬ 224 ≤ f := by omega
              simp [r4B, hn], rfl⟩
set_option maxHeartbeats 400000 in
theorem rule5_any (a f : Int) (w : World) :
    Calls Tryd.prog 84 #[.int .u32 a, .int .u8 f] w fun e w' => e = .returned (.bool (r5B f)) ∧ w = w' := by
  go_enter Tryd.func84, Tryd.ntmps84
  go_wp2
  go_ret
  exact ⟨rfl, rfl⟩

def rulesObj : Obj := .cells #[.int .i64 1, .func (.func 80) #[] #[], .int .i64 2, .func (.func 81) #[] #[], .int .i64 3, .func (.func 82) #[] #[], .int .i64 4, .func (.func 83) #[] #[], .int .i64 5, .func (.func 84) #[] #[]] 127

set_option maxHeartbeats 400000 in
theorem rules_any (w : World) :
    Calls Tryd.prog 77 #[] w fun e w' => e = .returned (.slice (some ⟨w.heap.size, 0, none⟩) 5 5) ∧ w' = w.alloc rulesObj := by
  go_enter Tryd.func77, Tryd.ntmps77
  go_wp2
  go_ret
  exact ⟨rfl, rfl⟩

theorem kind_of_int {k : IntKind} {a b : Int} (h : a = b) : Ending.returned (.int k a) = .returned (.int k b) := by rw [h]
theorem k1 (a : Int) (h : (a == 0) = true) : 1 = kindOf a := by simp at h; simp [kindOf, r1B, h]
theorem k2 (a : Int) (h : (a == 0) = false) (h2 : (a / 16777216 == 0) = true) : 2 = kindOf a := by
  simp at h h2; simp [kindOf, r1B, r2B, h, h2]
theorem k3 (a : Int) (h : (a == 0) = false) (h2 : (a / 16777216 == 127) = true) : 3 = kindOf a := by
  simp at h h2; simp [kindOf, r1B, r2B, r3B, h, h2]
theorem k4 (a : Int) (h2 : (a / 16777216 == 127) = false) (h3 : 224 ≤ a / 16777216) (h4 : a / 16777216 ≤ 239) : 4 = kindOf a := by
  have h0 : ¬ a = 0 := by intro e; subst e; omega
  have h1 : ¬ a / 16777216 = 0 := by omega
  have h5 : ¬ a / 16777216 = 127 := by omega
  simp [kindOf, r1B, r2B, r3B, r4B, h0, h1, h5, h3, h4]
theorem k5 (a : Int) (h3 : 240 ≤ a / 16777216) : 5 = kindOf a := by
  have h0 : ¬ a = 0 := by intro e; subst e; omega
  have h1 : ¬ a / 16777216 = 0 := by omega
  have h5 : ¬ a / 16777216 = 127 := by omega
  have h4 : ¬ a / 16777216 ≤ 239 := by omega
  simp [kindOf, r1B, r2B, r3B, r4B, r5B, h0, h1, h5, h3, h4]
theorem k6 (a : Int) (h0 : ¬ a = 0) (h1 : ¬ a / 16777216 = 0) (h5 : ¬ a / 16777216 = 127) (h4 : a / 16777216 < 224) : 6 = kindOf a := by
  have h4' : ¬ 224 ≤ a / 16777216 := by omega
  have h3 : ¬ 240 ≤ a / 16777216 := by omega
  simp [kindOf, r1B, r2B, r3B, r4B, r5B, h0, h1, h5, h3, h4']

set_option maxHeartbeats 400000 in
theorem refKind_any (a : Int) (h0 : 0 ≤ a) (h1 : a < 4294967296) (w : World) :
    Calls Tryd.prog 66 #[.int .u32 a] w fun e w' => e = .returned (.int .i64 (kindOf a)) ∧ Below w.heap.size w w' := by
  go_enter Tryd.func66, Tryd.ntmps66
  go_wp2_with (go_at_call 73; refine (refParts_any a h0 h1 _).mono ?_; rintro e w' ⟨rfl, hb⟩)
  all_goals go_ret
  all_goals (refine ⟨kind_of_int ?_, hb.alloc hb.size _⟩)
  all_goals first
    | exact k1 a ‹_›
    | exact k2 a ‹_› ‹_›
    | exact k3 a ‹_› ‹_›
    | exact k4 a ‹_› ‹_› ‹_›
    | exact k5 a ‹_›
    | (refine k6 a ?_ ?_ ?_ ?_ <;> (simp_all; done))

theorem rules_cells (w : World) (o : Nat) : (w.alloc (rulesObj)).cell? ⟨w.heap.size, o, none⟩ = #[Value.int .i64 1, .func (.func 80) #[] #[], .int .i64 2, .func (.func 81) #[] #[], .int .i64 3, .func (.func 82) #[] #[], .int .i64 4, .func (.func 83) #[] #[], .int .i64 5, .func (.func 84) #[] #[]][o]? := by
  simp [rulesObj]

def kf5 (_ : Int) : Int := 6
def kf4 (a : Int) : Int := if r5B (a / 16777216) then 5 else kf5 a
def kf3 (a : Int) : Int := if r4B (a / 16777216) then 4 else kf4 a
def kf2 (a : Int) : Int := if r3B (a / 16777216) then 3 else kf3 a
def kf1 (a : Int) : Int := if r2B (a / 16777216) then 2 else kf2 a
def kf0 (a : Int) : Int := if r1B a then 1 else kf1 a

set_option maxRecDepth 100000 in
set_option maxHeartbeats 1600000 in
theorem kind_any (a : Int) (h0 : 0 ≤ a) (h1 : a < 4294967296) (w : World) :
    Calls Tryd.prog 72 #[.int .u32 a] w fun e w' => e = .returned (.int .i64 (kindOf a)) ∧ Below w.heap.size w w' := by
  have i0 : ∀ w, (Instr.index 121 (.agg #[.int .u8 (a / 16777216), .int .u8 (a / 65536 % 256), .int .u8 (a / 256 % 256), .int .u8 (a % 256)]) (.int .i64 0)).run Tryd.prog w = .ok (.int .u8 (a / 16777216)) w := fun _ => by kernel_rfl
  go_enter Tryd.func72, Tryd.ntmps72
  go_wp2_with fail
  refine (parts_any a h0 h1 _).mono ?_
  rintro e w1 ⟨rfl, hb1⟩
  go_wp2_with fail
  refine (rules_any _).mono ?_
  rintro e w2 ⟨rfl, rfl⟩
  go_wp2
  clear i0
  go_loopw [11] (fun i wr => Hid (Below (w1.heap.size + 1) (w1.alloc rulesObj) wr) ∧ ((i = .int .i64 0 ∧ Hid (kindOf a = kf0 a)) ∨ (i = .int .i64 1 ∧ Hid (kindOf a = kf1 a)) ∨ (i = .int .i64 2 ∧ Hid (kindOf a = kf2 a)) ∨ (i = .int .i64 3 ∧ Hid (kindOf a = kf3 a)) ∨ (i = .int .i64 4 ∧ Hid (kindOf a = kf4 a)) ∨ (i = .int .i64 5 ∧ Hid (kindOf a = kf5 a)))) (fun i _ => 5 - (intOf i).toNat)
  case atStart => exact ⟨Below.refl _ _, .inl ⟨rfl, rfl⟩⟩
  case round =>
    obtain ⟨Hb, ⟨rfl, hK⟩ | ⟨rfl, hK⟩ | ⟨rfl, hK⟩ | ⟨rfl, hK⟩ | ⟨rfl, hK⟩ | ⟨rfl, hK⟩⟩ := hrel
    · have c0 := Hb.out.cell (p := ⟨w1.heap.size, 0, none⟩) (Nat.lt_succ_self _)
      have c1 := Hb.out.cell (p := ⟨w1.heap.size, 1, none⟩) (Nat.lt_succ_self _)
      rw [rules_cells] at c0 c1
      have hs : w1.heap.size + 1 ≤ wr.heap.size := by have := Hb.out.size; simpa using this
      have hbn : Below w.heap.size w (wr.alloc (.cells #[.int .i64 1, .func (.func 80) #[] #[]] 127)) := ((hb1.alloc hb1.size _).trans (Hb.out.mono (by have := hb1.size; omega))).alloc (by have := hb1.size; omega) _
      have hbr : Below (w1.heap.size + 1) (w1.alloc rulesObj) (wr.alloc (.cells #[.int .i64 1, .func (.func 80) #[] #[]] 127)) := Hb.out.alloc hs _
      have Hbn := Lib.hid hbn
      have Hbr := Lib.hid hbr
      clear hbn hbr
      rcases Bool.eq_false_or_eq_true (r1B a) with hB | hB
      · have hfin : kindOf a = 1 := by rw [hK.out]; simp [kf0, hB]
        have Hf := Lib.hid hfin
        clear hfin
        go_wp2_with (go_at_call 80; refine (rule1_any _ _ _).mono ?_; rintro e w3 ⟨rfl, rfl⟩)
        go_ret
        exact ⟨kind_of_int Hf.out.symm, Hbn.out⟩
      · have hfin : kindOf a = kf1 a := by rw [hK.out]; simp [kf0, hB]
        have Hf := Lib.hid hfin
        clear hfin
        go_wp2_with (go_at_call 80; refine (rule1_any _ _ _).mono ?_; rintro e w3 ⟨rfl, rfl⟩)
        go_roundw
        case rel => exact ⟨Hbr, .inr (.inl ⟨rfl, Hf⟩)⟩
        case measure => simp [intOf]
    · have c0 := Hb.out.cell (p := ⟨w1.heap.size, 2, none⟩) (Nat.lt_succ_self _)
      have c1 := Hb.out.cell (p := ⟨w1.heap.size, 3, none⟩) (Nat.lt_succ_self _)
      rw [rules_cells] at c0 c1
      have hs : w1.heap.size + 1 ≤ wr.heap.size := by have := Hb.out.size; simpa using this
      have hbn : Below w.heap.size w (wr.alloc (.cells #[.int .i64 2, .func (.func 81) #[] #[]] 127)) := ((hb1.alloc hb1.size _).trans (Hb.out.mono (by have := hb1.size; omega))).alloc (by have := hb1.size; omega) _
      have hbr : Below (w1.heap.size + 1) (w1.alloc rulesObj) (wr.alloc (.cells #[.int .i64 2, .func (.func 81) #[] #[]] 127)) := Hb.out.alloc hs _
      have Hbn := Lib.hid hbn
      have Hbr := Lib.hid hbr
      clear hbn hbr
      rcases Bool.eq_false_or_eq_true (r2B (a / 16777216)) with hB | hB
      · have hfin : kindOf a = 2 := by rw [hK.out]; simp [kf1, hB]
        have Hf := Lib.hid hfin
        clear hfin
        go_wp2_with (go_at_call 81; refine (rule2_any _ _ _).mono ?_; rintro e w3 ⟨rfl, rfl⟩)
        go_ret
        exact ⟨kind_of_int Hf.out.symm, Hbn.out⟩
      · have hfin : kindOf a = kf2 a := by rw [hK.out]; simp [kf1, hB]
        have Hf := Lib.hid hfin
        clear hfin
        go_wp2_with (go_at_call 81; refine (rule2_any _ _ _).mono ?_; rintro e w3 ⟨rfl, rfl⟩)
        go_roundw
        case rel => exact ⟨Hbr, .inr (.inr (.inl ⟨rfl, Hf⟩))⟩
        case measure => simp [intOf]
    · have c0 := Hb.out.cell (p := ⟨w1.heap.size, 4, none⟩) (Nat.lt_succ_self _)
      have c1 := Hb.out.cell (p := ⟨w1.heap.size, 5, none⟩) (Nat.lt_succ_self _)
      rw [rules_cells] at c0 c1
      have hs : w1.heap.size + 1 ≤ wr.heap.size := by have := Hb.out.size; simpa using this
      have hbn : Below w.heap.size w (wr.alloc (.cells #[.int .i64 3, .func (.func 82) #[] #[]] 127)) := ((hb1.alloc hb1.size _).trans (Hb.out.mono (by have := hb1.size; omega))).alloc (by have := hb1.size; omega) _
      have hbr : Below (w1.heap.size + 1) (w1.alloc rulesObj) (wr.alloc (.cells #[.int .i64 3, .func (.func 82) #[] #[]] 127)) := Hb.out.alloc hs _
      have Hbn := Lib.hid hbn
      have Hbr := Lib.hid hbr
      clear hbn hbr
      rcases Bool.eq_false_or_eq_true (r3B (a / 16777216)) with hB | hB
      · have hfin : kindOf a = 3 := by rw [hK.out]; simp [kf2, hB]
        have Hf := Lib.hid hfin
        clear hfin
        go_wp2_with (go_at_call 82; refine (rule3_any _ _ _).mono ?_; rintro e w3 ⟨rfl, rfl⟩)
        go_ret
        exact ⟨kind_of_int Hf.out.symm, Hbn.out⟩
      · have hfin : kindOf a = kf3 a := by rw [hK.out]; simp [kf2, hB]
        have Hf := Lib.hid hfin
        clear hfin
        go_wp2_with (go_at_call 82; refine (rule3_any _ _ _).mono ?_; rintro e w3 ⟨rfl, rfl⟩)
        go_roundw
        case rel => exact ⟨Hbr, .inr (.inr (.inr (.inl ⟨rfl, Hf⟩)))⟩
        case measure => simp [intOf]
    · have c0 := Hb.out.cell (p := ⟨w1.heap.size, 6, none⟩) (Nat.lt_succ_self _)
      have c1 := Hb.out.cell (p := ⟨w1.heap.size, 7, none⟩) (Nat.lt_succ_self _)
      rw [rules_cells] at c0 c1
      have hs : w1.heap.size + 1 ≤ wr.heap.size := by have := Hb.out.size; simpa using this
      have hbn : Below w.heap.size w (wr.alloc (.cells #[.int .i64 4, .func (.func 83) #[] #[]] 127)) := ((hb1.alloc hb1.size _).trans (Hb.out.mono (by have := hb1.size; omega))).alloc (by have := hb1.size; omega) _
      have hbr : Below (w1.heap.size + 1) (w1.alloc rulesObj) (wr.alloc (.cells #[.int .i64 4, .func (.func 83) #[] #[]] 127)) := Hb.out.alloc hs _
      have Hbn := Lib.hid hbn
      have Hbr := Lib.hid hbr
      clear hbn hbr
      rcases Bool.eq_false_or_eq_true (r4B (a / 16777216)) with hB | hB
      · have hfin : kindOf a = 4 := by rw [hK.out]; simp [kf3, hB]
        have Hf := Lib.hid hfin
        clear hfin
        go_wp2_with (go_at_call 83; refine (rule4_any _ _ _).mono ?_; rintro e w3 ⟨rfl, rfl⟩)
        go_ret
        exact ⟨kind_of_int Hf.out.symm, Hbn.out⟩
      · have hfin : kindOf a = kf4 a := by rw [hK.out]; simp [kf3, hB]
        have Hf := Lib.hid hfin
        clear hfin
        go_wp2_with (go_at_call 83; refine (rule4_any _ _ _).mono ?_; rintro e w3 ⟨rfl, rfl⟩)
        go_roundw
        case rel => exact ⟨Hbr, .inr (.inr (.inr (.inr (.inl ⟨rfl, Hf⟩))))⟩
        case measure => simp [intOf]
    · have c0 := Hb.out.cell (p := ⟨w1.heap.size, 8, none⟩) (Nat.lt_succ_self _)
      have c1 := Hb.out.cell (p := ⟨w1.heap.size, 9, none⟩) (Nat.lt_succ_self _)
      rw [rules_cells] at c0 c1
      have hs : w1.heap.size + 1 ≤ wr.heap.size := by have := Hb.out.size; simpa using this
      have hbn : Below w.heap.size w (wr.alloc (.cells #[.int .i64 5, .func (.func 84) #[] #[]] 127)) := ((hb1.alloc hb1.size _).trans (Hb.out.mono (by have := hb1.size; omega))).alloc (by have := hb1.size; omega) _
      have hbr : Below (w1.heap.size + 1) (w1.alloc rulesObj) (wr.alloc (.cells #[.int .i64 5, .func (.func 84) #[] #[]] 127)) := Hb.out.alloc hs _
      have Hbn := Lib.hid hbn
      have Hbr := Lib.hid hbr
      clear hbn hbr
      rcases Bool.eq_false_or_eq_true (r5B (a / 16777216)) with hB | hB
      · have hfin : kindOf a = 5 := by rw [hK.out]; simp [kf4, hB]
        have Hf := Lib.hid hfin
        clear hfin
        go_wp2_with (go_at_call 84; refine (rule5_any _ _ _).mono ?_; rintro e w3 ⟨rfl, rfl⟩)
        go_ret
        exact ⟨kind_of_int Hf.out.symm, Hbn.out⟩
      · have hfin : kindOf a = kf5 a := by rw [hK.out]; simp [kf4, hB]
        have Hf := Lib.hid hfin
        clear hfin
        go_wp2_with (go_at_call 84; refine (rule5_any _ _ _).mono ?_; rintro e w3 ⟨rfl, rfl⟩)
        go_roundw
        case rel => exact ⟨Hbr, .inr (.inr (.inr (.inr (.inr (⟨rfl, Hf⟩)))))⟩
        case measure => simp [intOf]
    · have hbn : Below w.heap.size w wr := ((hb1.alloc hb1.size _).trans (Hb.out.mono (by have := hb1.size; omega)))
      go_wp2
      go_ret
      exact ⟨kind_of_int hK.out.symm, hbn⟩
end Go.Proofs.YtfbfdjcdjogefaaDoor
