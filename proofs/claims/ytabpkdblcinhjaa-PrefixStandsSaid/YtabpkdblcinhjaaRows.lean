/-
  No cell of these rows narrows 'for every input' (looked for: loops, veiled, ifaces, maps, wideKeys, modest, calm, conditions, laid).
  DERIVED. THE GIVEN ROWS OF THIS SEAT. 4 by the template 'for every input the law returns true; each argument reads behind the call as it read before'; 0 by the template 'total and deterministic' (their statements: YtabpkdblcinhjaaTotals.lean).
  GIVEN WITH THE SEED: the statements are not yours to turn. If you find one false, say at which input.
  Laid BY PROGRAM, IN A SANDBOX (cutbox-rows.mjs): the forced cells as the released guide's own fill.sh prints them over the translation 1ac1b94d0d6d0fdf… (all of the seat's roots in one cut). By AI agents, Wed Nov 11 2026. No macro, syntax, notation, axiom, sorry.
-/
import Derived.Test.YtabpkdblcinhjaaChecked
import GoSem.Claim
import GoSem.ClaimJoined
import GoSem.ClaimMapViews
import Derived.JoinedTies
import Derived.KernelRfl
namespace Go.Proofs.Ytabpkdblcinhjaa
/- THE CELL 'sum', in the pinned program and in every row, IS THE sha256 OF THE DUMP (.gsa) THAT YtabpkdblcinhjaaProg.lean LOADS. Nothing in Lean hashes anything: it is a label: what it is worth is what the hold of that sum in a sandbox is worth. -/
noncomputable def Try.pinned : Pinned := { name := "ytabpkdblcinhjaa", sum := "1ac1b94d0d6d0fdfc7e3aa5354f8adb476faf38bd1062b67931c3b5aa4f95a1b", checked := Try.checked }
namespace Rows
def none {H : Type} : Left H := { results := [], args := [] }

/-- 'waywardenlaw02.PrefixBits': WHATEVER THE INPUT: true; the input reads as it did. -/
def prefixBitsSpec : ChangeSpec := { name := "prefixBits", fn := fun _ => fun
  | [d1, d2, d3] => { results := [.lit (.bool true)], args := [d1, d2, d3] }
  | _ => none }
def prefixBitsRow : OpenClaim := { program := "ytabpkdblcinhjaa", sum := "1ac1b94d0d6d0fdfc7e3aa5354f8adb476faf38bd1062b67931c3b5aa4f95a1b", func := "waywarden/waywardenlaw02.PrefixBits", spec := "prefixBits", unfollowed := true, recurses := true, apart := false }
def PrefixBitsSaid : Prop := prefixBitsRow.holds Try.pinned (OpenSpec.ofChange prefixBitsSpec)

/-- ITS FALSE NEIGHBOUR: 'it returns false'. Refute it at one input. -/
def prefixBitsWrong : ChangeSpec := { name := "prefixBits", fn := fun _ => fun
  | [d1, d2, d3] => { results := [.lit (.bool false)], args := [d1, d2, d3] }
  | _ => none }
def PrefixBitsWrongFalsely : Prop := prefixBitsRow.holds Try.pinned (OpenSpec.ofChange prefixBitsWrong)

/-- 'waywardenlaw02.PrefixStands': WHATEVER THE INPUT: true; the input reads as it did. -/
def prefixStandsSpec : ChangeSpec := { name := "prefixStands", fn := fun _ => fun
  | [d1, d2] => { results := [.lit (.bool true)], args := [d1, d2] }
  | _ => none }
def prefixStandsRow : OpenClaim := { program := "ytabpkdblcinhjaa", sum := "1ac1b94d0d6d0fdfc7e3aa5354f8adb476faf38bd1062b67931c3b5aa4f95a1b", func := "waywarden/waywardenlaw02.PrefixStands", spec := "prefixStands", unfollowed := true, recurses := true, apart := false }
def PrefixStandsSaid : Prop := prefixStandsRow.holds Try.pinned (OpenSpec.ofChange prefixStandsSpec)

/-- ITS FALSE NEIGHBOUR: 'it returns false'. Refute it at one input. -/
def prefixStandsWrong : ChangeSpec := { name := "prefixStands", fn := fun _ => fun
  | [d1, d2] => { results := [.lit (.bool false)], args := [d1, d2] }
  | _ => none }
def PrefixStandsWrongFalsely : Prop := prefixStandsRow.holds Try.pinned (OpenSpec.ofChange prefixStandsWrong)

/-- 'waywardenlaw02.PrefixAround': WHATEVER THE INPUT: true; the input reads as it did. -/
def prefixAroundSpec : ChangeSpec := { name := "prefixAround", fn := fun _ => fun
  | [d1, d2, d3] => { results := [.lit (.bool true)], args := [d1, d2, d3] }
  | _ => none }
def prefixAroundRow : OpenClaim := { program := "ytabpkdblcinhjaa", sum := "1ac1b94d0d6d0fdfc7e3aa5354f8adb476faf38bd1062b67931c3b5aa4f95a1b", func := "waywarden/waywardenlaw02.PrefixAround", spec := "prefixAround", unfollowed := true, recurses := true, apart := false }
def PrefixAroundSaid : Prop := prefixAroundRow.holds Try.pinned (OpenSpec.ofChange prefixAroundSpec)

/-- ITS FALSE NEIGHBOUR: 'it returns false'. Refute it at one input. -/
def prefixAroundWrong : ChangeSpec := { name := "prefixAround", fn := fun _ => fun
  | [d1, d2, d3] => { results := [.lit (.bool false)], args := [d1, d2, d3] }
  | _ => none }
def PrefixAroundWrongFalsely : Prop := prefixAroundRow.holds Try.pinned (OpenSpec.ofChange prefixAroundWrong)

/-- 'waywardenlaw02.PrefixHolds': WHATEVER THE INPUT: true; the input reads as it did. -/
def prefixHoldsSpec : ChangeSpec := { name := "prefixHolds", fn := fun _ => fun
  | [d1, d2, d3, d4] => { results := [.lit (.bool true)], args := [d1, d2, d3, d4] }
  | _ => none }
def prefixHoldsRow : OpenClaim := { program := "ytabpkdblcinhjaa", sum := "1ac1b94d0d6d0fdfc7e3aa5354f8adb476faf38bd1062b67931c3b5aa4f95a1b", func := "waywarden/waywardenlaw02.PrefixHolds", spec := "prefixHolds", unfollowed := true, recurses := true, apart := false }
def PrefixHoldsSaid : Prop := prefixHoldsRow.holds Try.pinned (OpenSpec.ofChange prefixHoldsSpec)

/-- ITS FALSE NEIGHBOUR: 'it returns false'. Refute it at one input. -/
def prefixHoldsWrong : ChangeSpec := { name := "prefixHolds", fn := fun _ => fun
  | [d1, d2, d3, d4] => { results := [.lit (.bool false)], args := [d1, d2, d3, d4] }
  | _ => none }
def PrefixHoldsWrongFalsely : Prop := prefixHoldsRow.holds Try.pinned (OpenSpec.ofChange prefixHoldsWrong)

/- THE SECOND FORM. 'bulk': how many values and letters a reading holds, each counted each time it is reached (what is shared counts as often as it is met; a slice's spare places count too). A statement '..UptoSaid' is the law's where the arguments, and the package variables that the reading takes, are together of bulk at most 1048576: NARROWER than '..Said'. Prove '..Said' where nothing that the law and all that it calls make is longer than what came in: it says more and counts as full. Else prove '..UptoSaid'. A law counts once. -/
mutual
def uptoBulk {H : Type} : DataW H → Nat
  | .lit (.string bytes) => bytes.length + 1
  | .lit _ => 1
  | .nil => 1
  | .ptr d => uptoBulk d + 1
  | .slice elems spare => uptoBulkAll elems + uptoBulkAll spare + 1
  | .agg parts => uptoBulkAll parts + 1
  | .iface _ d => uptoBulk d + 1
  | .map entries => uptoBulkEntries entries + 1
  | .held _ => 1
def uptoBulkAll {H : Type} : List (DataW H) → Nat
  | [] => 0
  | d :: r => uptoBulk d + uptoBulkAll r
def uptoBulkEntries {H : Type} : List (Lit × DataW H) → Nat
  | [] => 0
  | x :: r => uptoBulkEntry x + uptoBulkEntries r
def uptoBulkEntry {H : Type} : Lit × DataW H → Nat
  | (.string bytes, d) => bytes.length + uptoBulk d + 1
  | (_, d) => uptoBulk d + 1
 end
def uptoSmall : (H : Type) → List (DataW H) → Bool := fun _ ds => decide (uptoBulkAll ds ≤ 1048576)
def OpenSpec.upto (s : _root_.Go.ChangeSpec) : _root_.Go.OpenSpec := { _root_.Go.OpenSpec.ofChange s with cond := some uptoSmall }

/-- 'waywardenlaw02.PrefixBits', WHERE WHAT IT READS IS OF BULK AT MOST 1048576: true; the input reads as it did. -/
def prefixBitsUptoRow : OpenClaim := { program := "ytabpkdblcinhjaa", sum := "1ac1b94d0d6d0fdfc7e3aa5354f8adb476faf38bd1062b67931c3b5aa4f95a1b", func := "waywarden/waywardenlaw02.PrefixBits", spec := "prefixBits", unfollowed := true, recurses := true, apart := false, narrowed := true }
def PrefixBitsUptoSaid : Prop := prefixBitsUptoRow.holds Try.pinned (OpenSpec.upto prefixBitsSpec)

/-- 'waywardenlaw02.PrefixStands', WHERE WHAT IT READS IS OF BULK AT MOST 1048576: true; the input reads as it did. -/
def prefixStandsUptoRow : OpenClaim := { program := "ytabpkdblcinhjaa", sum := "1ac1b94d0d6d0fdfc7e3aa5354f8adb476faf38bd1062b67931c3b5aa4f95a1b", func := "waywarden/waywardenlaw02.PrefixStands", spec := "prefixStands", unfollowed := true, recurses := true, apart := false, narrowed := true }
def PrefixStandsUptoSaid : Prop := prefixStandsUptoRow.holds Try.pinned (OpenSpec.upto prefixStandsSpec)

/-- 'waywardenlaw02.PrefixAround', WHERE WHAT IT READS IS OF BULK AT MOST 1048576: true; the input reads as it did. -/
def prefixAroundUptoRow : OpenClaim := { program := "ytabpkdblcinhjaa", sum := "1ac1b94d0d6d0fdfc7e3aa5354f8adb476faf38bd1062b67931c3b5aa4f95a1b", func := "waywarden/waywardenlaw02.PrefixAround", spec := "prefixAround", unfollowed := true, recurses := true, apart := false, narrowed := true }
def PrefixAroundUptoSaid : Prop := prefixAroundUptoRow.holds Try.pinned (OpenSpec.upto prefixAroundSpec)

/-- 'waywardenlaw02.PrefixHolds', WHERE WHAT IT READS IS OF BULK AT MOST 1048576: true; the input reads as it did. -/
def prefixHoldsUptoRow : OpenClaim := { program := "ytabpkdblcinhjaa", sum := "1ac1b94d0d6d0fdfc7e3aa5354f8adb476faf38bd1062b67931c3b5aa4f95a1b", func := "waywarden/waywardenlaw02.PrefixHolds", spec := "prefixHolds", unfollowed := true, recurses := true, apart := false, narrowed := true }
def PrefixHoldsUptoSaid : Prop := prefixHoldsUptoRow.holds Try.pinned (OpenSpec.upto prefixHoldsSpec)

end Rows
end Go.Proofs.Ytabpkdblcinhjaa
