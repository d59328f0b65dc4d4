/- PacketEach of layer 5 answers true for all bytes and however many; each argument reads behind as it read before. The listed widths are tied to the program's text. -/
import Derived.Test.YtehhablobfaplaaDoorP20
import Derived.Test.YtehhablobfaplaaDoorX22
import Derived.Test.YtehhablobfaplaaDoorCards
import Derived.Test.YtehhablobfaplaaDoorTie
import Derived.SevenTiedAt
namespace Go.Proofs.YtehhablobfaplaaDoor
open Go Go.RowKit Go.ChangeShapes Go.WideShapes Go.ChangeAt

set_option maxRecDepth 100000 in
theorem packetEach_lifted (os : Os) (started : os.Started) (H : Type) (enc : TypeId × Value → H) :
    ReturnsInHanded {} Tryd.checked os 6 .any (fun w args => (Rows.packetEachSpec.pre enc Tryd.prog Tryd.f6 [] false w args ∧ laidMetH Tryd.prog laidW w) ∧ sizedMet enc Tryd.prog Tryd.f6 (OpenSpec.ofChange Rows.packetEachSpec) false w args)
      (Rows.packetEachSpec.post enc Tryd.prog Tryd.f6 false true false false) := by
  refine law_lifted (C := Tryd.checked) (l := laidW) own0 started (by kernel_rfl) Tryd.func6 laidOut0 rfl (by kernel_rfl) (by kernel_rfl) Tryd.underlying4 (by kernel_rfl)
    (fun ds hds => by
      match ds, hds with
      | [_, _], _ => rfl)
    (ChangeSpec.witness_shaped (enc := enc) (C := Tryd.checked) (os := os) (X := fun w _ => laidMetH Tryd.prog laidW w) false (World.doorLaid Tryd.prog 400 os) #[.slice none 0 0, .int .i64 0] 8 rfl (World.shaped_of_RefB (by kernel_rfl) (by kernel_rfl)) (by kernel_rfl) (by kernel_rfl) (by kernel_rfl) (door_metW os _)) ?_
  intro W base args ds p hval hA _ hsh hL
  rw [Tryd.params6] at hA hval
  obtain ⟨v0, r0, d0, _, p0, _, e0, _, _, h0, hA⟩ := trodAll_cons hA
  obtain ⟨v1, r1, d1, _, p1, _, e1, _, _, h1, hA⟩ := trodAll_cons hA
  obtain ⟨e2, _, _⟩ := trodAll_nil hA
  subst e2 e1
  obtain ⟨args⟩ := args
  simp only at e0
  subst e0
  obtain ⟨a0, xs0, c0, rfl, hc0, hb0, hx0⟩ := open_bytes (hval 0 27 v0 rfl rfl) h0
  obtain ⟨z1, rfl, _, _, g1⟩ := open_int Tryd.underlying3 (hval 1 3 v1 rfl rfl) h1
  exact law05_each z1 a0 c0 xs0 hb0 hc0 W hx0 (laid_fit3 hL)

theorem packetEach_holds : Rows.PacketEachSaid :=
  OpenClaim.holds_of_wide 6 Tryd.f6 rfl rfl rfl rfl rfl rfl rfl ⟨rfl, rfl, rfl, rfl, rfl⟩ rfl rfl rfl rfl rfl (by kernel_rfl) Tryd.func6 (by kernel_rfl)
    (of_decide_eq_true (by kernel_rfl)) (by unfold Func.isWrapper; first | (rw [if_pos (by decide +kernel)]; kernel_rfl) | (rw [if_neg (by decide +kernel)]; exact ⟨rfl, rfl⟩))
    (fun os started H enc _ => packetEach_lifted os started H enc)

theorem packetEach_card : Rows.PacketEachCardSaid :=
  Claim7.holds_tied_plain_at .later [] [.data] true _ true
    packetEach_holds (fun _ h => by cases h) (by kernel_rfl) (fun _ h => by cases h) packetEach_row_tie rfl ⟨rfl, rfl⟩ (by kernel_rfl) rfl
    (fun f fn hf hfn => by
      obtain rfl : f = 6 := Option.some.inj ((show Tryd.prog.funcNamed "waywarden/waywardenlaw05.PacketEach" = some 6 by kernel_rfl).symm.trans hf) |>.symm
      obtain rfl : fn = Tryd.f6 := (Option.some.inj (Tryd.func6.symm.trans hfn)).symm
      exact ⟨by kernel_rfl, fun j t ht => by
        have hm : t ∈ Tryd.f6.params.toList := by
          rw [← Array.mem_def]; exact Array.mem_of_getElem? ht
        have hall : (Tryd.f6.params.toList.all fun u => !Tryd.prog.wantsStandIn u) = true := by kernel_rfl
        exact (show Tryd.prog.wantsStandIn t = false by simpa using List.all_eq_true.1 hall t hm)⟩)
    (by kernel_rfl)
#print axioms packetEach_card
end Go.Proofs.YtehhablobfaplaaDoor
