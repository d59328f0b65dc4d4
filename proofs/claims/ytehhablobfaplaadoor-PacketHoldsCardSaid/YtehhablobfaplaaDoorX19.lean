/- What PacketHolds stands on. -/
import Derived.Test.YtehhablobfaplaaDoorX18
namespace Go.Proofs.YtehhablobfaplaaDoor
open Go Go.RowKit Go.Shelf Go.Sort
attribute [local go_sem] Oper.semAt_some

theorem strD_eq {d x : Dat} (hd : encNo d = 0) (hx : encNo x = 0) (od : OkL d.l) (ox : OkL x.l) : ((strOfNums (bytesD d)).toList == (strOfNums (bytesD x)).toList) = decide (d.c = x.c ∧ d.l = x.l) := by
  rw [Bool.eq_iff_iff, beq_iff_eq, decide_eq_true_iff]
  have key : d = x ↔ d.c = x.c ∧ d.l = x.l := by
    cases d
    cases x
    simp
  rw [← key]
  refine ⟨fun h => (bytesD_inj hd hx od ox).1 (strNums_inj (bytesD_is (encNo_zero.1 hd).1) (bytesD_is (encNo_zero.1 hx).1) ?_), fun h => by rw [h]⟩
  rw [ByteArray.toList_eq, ByteArray.toList_eq] at h
  exact ByteArray.ext (Array.toList_inj.1 h)

/-- What is laid on a byte makes it another one. -/
theorem xor8 : ∀ a ∈ [(0 : Int), 1, 2], ∀ w : Fin 256, (w.val ≠ 0 → bits .xor .u8 a (w.val : Int) ≠ a) ∧ 0 ≤ bits .xor .u8 a (w.val : Int) ∧ bits .xor .u8 a (w.val : Int) < 256 := by decide +kernel
theorem xor8_ne {a w : Int} (ha : a = 0 ∨ a = 1 ∨ a = 2) (h0 : 0 ≤ w) (h1 : w < 256) (hz : ¬ w = 0) : bits .xor .u8 a w ≠ a ∧ 0 ≤ bits .xor .u8 a w ∧ bits .xor .u8 a w < 256 := by
  have h := xor8 a (by simpa using ha) ⟨w.toNat, by omega⟩
  have e : ((w.toNat : Nat) : Int) = w := by omega
  dsimp only at h
  rw [e] at h
  exact ⟨h.1 (by omega), h.2⟩
/-- The head with another byte. -/
theorem spoilD {c : Int} {l : List Ent} (h0 : encNo ⟨c, l⟩ = 0) {k : Nat} (hk : k < 4) {ob y : Int} (hob : (bytesD ⟨c, l⟩)[k]? = some ob) (hy : y ≠ ob) (y0 : 0 ≤ y) (y1 : y < 256) :
    IsBytes ((bytesD ⟨c, l⟩).set k y) ∧ ((1 ≤ k ∨ ¬ comD y) → 152 ≤ chkNo ((bytesD ⟨c, l⟩).set k y) ∧ chkNo ((bytesD ⟨c, l⟩).set k y) ≤ 154) ∧ (k = 0 → comD y → encNo ⟨y, l⟩ = 0 ∧ (bytesD ⟨c, l⟩).set k y = bytesD ⟨y, l⟩) := by
  obtain ⟨h1, h2, h3⟩ := encNo_zero.1 h0
  dsimp only at h1 h2 h3
  have hlen := bytesD_len ⟨c, l⟩
  have hf := flatE_len l
  have hfb := flatE_is l
  dsimp only at hlen
  unfold bytesD at *
  dsimp only at *
  have hkk : k = 0 ∨ k = 1 ∨ k = 2 ∨ k = 3 := by omega
  have hcb : 0 ≤ c ∧ c < 256 := by rcases h1 with rfl | rfl <;> omega
  rcases hkk with rfl | rfl | rfl | rfl
  · refine ⟨?_, fun h => ?_, fun _ hc => ⟨encNo_zero.2 ⟨hc, h2, h3⟩, rfl⟩⟩
    · intro x hx
      simp only [List.set_cons_zero, List.mem_cons] at hx
      rcases hx with rfl | rfl | rfl | rfl | hx
      · exact ⟨y0, y1⟩
      · omega
      · omega
      · omega
      · exact hfb x hx
    · have hn : ¬ comD y := h.resolve_left (by omega)
      have e : chkNo (List.set (c :: 2 :: 0 :: 0 :: flatE l) 0 y) = 153 := by
        unfold chkNo
        simp only [List.set_cons_zero, List.length_cons, hf, List.getD_cons_zero, List.getD_cons_succ]
        rw [if_neg (by omega), if_neg (by omega), if_neg (by omega), if_pos hn]
      rw [e]
      omega
  · simp at hob
    subst hob
    refine ⟨?_, fun _ => ?_, fun h => absurd h (by omega)⟩
    · intro x hx
      simp only [List.set_cons_zero, List.set_cons_succ, List.mem_cons] at hx
      rcases hx with rfl | rfl | rfl | rfl | hx
      · exact hcb
      · exact ⟨y0, y1⟩
      · omega
      · omega
      · exact hfb x hx
    · have e : chkNo (List.set (c :: 2 :: 0 :: 0 :: flatE l) 1 y) = 152 := by
        unfold chkNo
        simp only [List.set_cons_zero, List.set_cons_succ, List.length_cons, hf, List.getD_cons_zero, List.getD_cons_succ]
        rw [if_neg (by omega), if_neg (by omega), if_pos hy]
      rw [e]
      omega
  · simp at hob
    subst hob
    refine ⟨?_, fun _ => ?_, fun h => absurd h (by omega)⟩
    · intro x hx
      simp only [List.set_cons_zero, List.set_cons_succ, List.mem_cons] at hx
      rcases hx with rfl | rfl | rfl | rfl | hx
      · exact hcb
      · omega
      · exact ⟨y0, y1⟩
      · omega
      · exact hfb x hx
    · have e : chkNo (List.set (c :: 2 :: 0 :: 0 :: flatE l) 2 y) = 154 := by
        unfold chkNo
        simp only [List.set_cons_zero, List.set_cons_succ, List.length_cons, hf, List.getD_cons_zero, List.getD_cons_succ]
        rw [if_neg (by omega), if_neg (by omega), if_neg (by omega), if_neg (not_not_intro h1), if_pos (.inl hy)]
      rw [e]
      omega
  · simp at hob
    subst hob
    refine ⟨?_, fun _ => ?_, fun h => absurd h (by omega)⟩
    · intro x hx
      simp only [List.set_cons_zero, List.set_cons_succ, List.mem_cons] at hx
      rcases hx with rfl | rfl | rfl | rfl | hx
      · exact hcb
      · omega
      · omega
      · exact ⟨y0, y1⟩
      · exact hfb x hx
    · have e : chkNo (List.set (c :: 2 :: 0 :: 0 :: flatE l) 3 y) = 154 := by
        unfold chkNo
        simp only [List.set_cons_zero, List.set_cons_succ, List.length_cons, hf, List.getD_cons_zero, List.getD_cons_succ]
        rw [if_neg (by omega), if_neg (by omega), if_neg (by omega), if_neg (not_not_intro h1), if_pos (.inr hy)]
      rw [e]
      omega
theorem headD {c : Int} {l : List Ent} (h0 : encNo ⟨c, l⟩ = 0) {k : Nat} (hk : k < 4) : ∃ ob, (bytesD ⟨c, l⟩)[k]? = some ob ∧ (ob = 0 ∨ ob = 1 ∨ ob = 2) := by
  obtain ⟨h1, _, _⟩ := encNo_zero.1 h0
  dsimp only at h1
  unfold bytesD
  dsimp only
  have hkk : k = 0 ∨ k = 1 ∨ k = 2 ∨ k = 3 := by omega
  rcases hkk with rfl | rfl | rfl | rfl
  · exact ⟨c, rfl, .inr h1⟩
  · exact ⟨2, rfl, by omega⟩
  · exact ⟨0, rfl, by omega⟩
  · exact ⟨0, rfl, by omega⟩
end Go.Proofs.YtehhablobfaplaaDoor
