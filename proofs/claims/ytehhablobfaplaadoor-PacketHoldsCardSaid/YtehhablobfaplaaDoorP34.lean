/- PacketHolds of layer 5 answers true for every two datagrams, every place and every byte; each argument reads behind as it read before. The listed widths are tied to the program's text. -/
import Derived.Test.YtehhablobfaplaaDoorP32a
import Derived.Test.YtehhablobfaplaaDoorX20
import Derived.Test.YtehhablobfaplaaDoorCards
import Derived.Test.YtehhablobfaplaaDoorTie
import Derived.SevenTiedAt
namespace Go.Proofs.YtehhablobfaplaaDoor
open Go Go.RowKit Go.ChangeShapes Go.WideShapes Go.ChangeAt

set_option maxRecDepth 100000 in
theorem packetHolds_lifted (os : Os) (started : os.Started) (H : Type) (enc : TypeId × Value → H) :
    ReturnsInHanded {} Tryd.checked os 7 .any (fun w args => (Rows.packetHoldsSpec.pre enc Tryd.prog Tryd.f7 [] false w args ∧ laidMetH Tryd.prog laidW w) ∧ sizedMet enc Tryd.prog Tryd.f7 (OpenSpec.ofChange Rows.packetHoldsSpec) false w args)
      (Rows.packetHoldsSpec.post enc Tryd.prog Tryd.f7 false true false false) := by
  refine law_lifted (C := Tryd.checked) (l := laidW) own0 started (by kernel_rfl) Tryd.func7 laidOut0 rfl (by kernel_rfl) (by kernel_rfl) Tryd.underlying4 (by kernel_rfl)
    (fun ds hds => by
      match ds, hds with
      | [_, _, _, _], _ => rfl)
    (ChangeSpec.witness_shaped (enc := enc) (C := Tryd.checked) (os := os) (X := fun w _ => laidMetH Tryd.prog laidW w) false (World.doorLaid Tryd.prog 400 os) #[.agg #[.int .i64 0, .slice none 0 0], .agg #[.int .i64 0, .slice none 0 0], .int .i64 0, .int .u8 0] 8 rfl (World.shaped_of_RefB (by kernel_rfl) (by kernel_rfl)) (by kernel_rfl) (by kernel_rfl) (by kernel_rfl) (door_metW os _)) ?_
  intro W base args ds p hval hA _ hsh hL
  rw [Tryd.params7] at hA hval
  obtain ⟨v0, r0, d0, _, p0, _, e0, _, _, h0, hA⟩ := trodAll_cons hA
  obtain ⟨v1, r1, d1, _, p1, _, e1, _, _, h1, hA⟩ := trodAll_cons hA
  obtain ⟨v2, r2, d2, _, p2, _, e2, _, _, h2, hA⟩ := trodAll_cons hA
  obtain ⟨v3, r3, d3, _, p3, _, e3, _, _, h3, hA⟩ := trodAll_cons hA
  obtain ⟨e4, _, _⟩ := trodAll_nil hA
  subst e4 e3 e2 e1
  obtain ⟨args⟩ := args
  simp only at e0
  subst e0
  obtain ⟨c0, A0, l0, k0, rfl, c00, c01, hk0, ho0, hE0⟩ := open_datagram (hval 0 25 v0 rfl rfl) h0
  obtain ⟨c1, A1, l1, k1, rfl, c10, c11, hk1, ho1, hE1⟩ := open_datagram (hval 1 25 v1 rfl rfl) h1
  obtain ⟨z2, rfl, _, _, g2⟩ := open_int Tryd.underlying3 (hval 2 3 v2 rfl rfl) h2
  obtain ⟨z3, rfl, _, _, g3⟩ := open_int Tryd.underlying5 (hval 3 5 v3 rfl rfl) h3
  exact law05_holds c0 A0 k0 l0 ho0 c1 A1 k1 l1 ho1 z2 z3 (wf0_u8 g3).1 (wf0_u8 g3).2 W hE0 hE1 (laid_fit3 hL)

theorem packetHolds_holds : Rows.PacketHoldsSaid :=
  OpenClaim.holds_of_wide 7 Tryd.f7 rfl rfl rfl rfl rfl rfl rfl ⟨rfl, rfl, rfl, rfl, rfl⟩ rfl rfl rfl rfl rfl (by kernel_rfl) Tryd.func7 (by kernel_rfl)
    (of_decide_eq_true (by kernel_rfl)) (by unfold Func.isWrapper; first | (rw [if_pos (by decide +kernel)]; kernel_rfl) | (rw [if_neg (by decide +kernel)]; exact ⟨rfl, rfl⟩))
    (fun os started H enc _ => packetHolds_lifted os started H enc)

theorem packetHolds_card : Rows.PacketHoldsCardSaid :=
  Claim7.holds_tied_plain_at .later [] [.data] true _ true
    packetHolds_holds (fun _ h => by cases h) (by kernel_rfl) (fun _ h => by cases h) packetHolds_row_tie rfl ⟨rfl, rfl⟩ (by kernel_rfl) rfl
    (fun f fn hf hfn => by
      obtain rfl : f = 7 := Option.some.inj ((show Tryd.prog.funcNamed "waywarden/waywardenlaw05.PacketHolds" = some 7 by kernel_rfl).symm.trans hf) |>.symm
      obtain rfl : fn = Tryd.f7 := (Option.some.inj (Tryd.func7.symm.trans hfn)).symm
      exact ⟨by kernel_rfl, fun j t ht => by
        have hm : t ∈ Tryd.f7.params.toList := by
          rw [← Array.mem_def]; exact Array.mem_of_getElem? ht
        have hall : (Tryd.f7.params.toList.all fun u => !Tryd.prog.wantsStandIn u) = true := by kernel_rfl
        exact (show Tryd.prog.wantsStandIn t = false by simpa using List.all_eq_true.1 hall t hm)⟩)
    (by kernel_rfl)
#print axioms packetHolds_card
end Go.Proofs.YtehhablobfaplaaDoor
