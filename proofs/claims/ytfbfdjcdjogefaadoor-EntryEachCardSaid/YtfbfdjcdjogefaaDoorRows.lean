/-
  NARROWER THAN 'FOR EVERY INPUT', by the rows' own cells (each row's printed sentence says how): EntryBytes: laid · EntryWhy: laid · EntryOf: laid · EntryEach: laid · EntryHolds: laid.
  DERIVED. THE GIVEN ROWS OF THIS SEAT. 5 by the template 'for every input the law returns true; each argument reads behind the call as it read before'; 0 by the template 'total and deterministic' (their statements: YtfbfdjcdjogefaaDoorTotals.lean).
  GIVEN WITH THE SEED: the statements are not yours to turn. If you find one false, say at which input.
  Laid BY PROGRAM, IN A SANDBOX (cutbox-rows.mjs): the forced cells as the released guide's own fill.sh prints them over the translation 8da1794960f1632b… (all of the seat's roots in one cut). By AI agents, Wed Nov 11 2026. No macro, syntax, notation, axiom, sorry.
-/
import Derived.Test.YtfbfdjcdjogefaaDoorChecked
import GoSem.Claim
import GoSem.ClaimJoined
import GoSem.ClaimMapViews
import Derived.JoinedTies
import Derived.KernelRfl
namespace Go.Proofs.YtfbfdjcdjogefaaDoor
/- THE CELL 'sum', in the pinned program and in every row, IS THE sha256 OF THE DUMP (.gsa) THAT YtfbfdjcdjogefaaDoorProg.lean LOADS. Nothing in Lean hashes anything: it is a label: what it is worth is what the hold of that sum in a sandbox is worth. -/
noncomputable def Tryd.pinned : Pinned := { name := "ytfbfdjcdjogefaadoor", sum := "8da1794960f1632b6799091acdfc1b7ff57f3c2a265842d5e6102d60af33671e", checked := Tryd.checked }
namespace Rows
def none {H : Type} : Left H := { results := [], args := [] }

/- WHAT THE LISTED PACKAGE-LEVEL VARIABLES READ AS WHEN THE CALL BEGINS. Each datum BY PROGRAM (the guide's laid-datum.mjs) off the statement by which the dump's own 'gosem.cut.vars' lays the variable. In a bare row this is a premise. The card (YtfbfdjcdjogefaaDoorCards.lean) ties it to the program's text. -/
def laid_waywarden_octet_widths {H : Type} : DataW H := .agg [.lit (.int .i64 1), .lit (.int .i64 2), .lit (.int .i64 4)]

/-- 'waywardenlaw04.EntryBytes': WHATEVER THE INPUT: true; the input reads as it did. -/
def entryBytesSpec : ChangeSpec := { name := "entryBytes", fn := fun _ => fun
  | [d1, d2] => { results := [.lit (.bool true)], args := [d1, d2] }
  | _ => none }
def entryBytesRow : OpenClaim := { program := "ytfbfdjcdjogefaadoor", sum := "8da1794960f1632b6799091acdfc1b7ff57f3c2a265842d5e6102d60af33671e", func := "waywarden/waywardenlaw04.EntryBytes", spec := "entryBytes", unfollowed := true, recurses := true, named := ["waywarden/octet.widths"], apart := false, laid := [("waywarden/octet.widths", laid_waywarden_octet_widths)] }
def EntryBytesSaid : Prop := entryBytesRow.holds Tryd.pinned (OpenSpec.ofChange entryBytesSpec)

/-- ITS FALSE NEIGHBOUR: 'it returns false'. Refute it at one input. -/
def entryBytesWrong : ChangeSpec := { name := "entryBytes", fn := fun _ => fun
  | [d1, d2] => { results := [.lit (.bool false)], args := [d1, d2] }
  | _ => none }
def EntryBytesWrongFalsely : Prop := entryBytesRow.holds Tryd.pinned (OpenSpec.ofChange entryBytesWrong)

/-- 'waywardenlaw04.EntryWhy': WHATEVER THE INPUT: true; the input reads as it did. -/
def entryWhySpec : ChangeSpec := { name := "entryWhy", fn := fun _ => fun
  | [d1, d2] => { results := [.lit (.bool true)], args := [d1, d2] }
  | _ => none }
def entryWhyRow : OpenClaim := { program := "ytfbfdjcdjogefaadoor", sum := "8da1794960f1632b6799091acdfc1b7ff57f3c2a265842d5e6102d60af33671e", func := "waywarden/waywardenlaw04.EntryWhy", spec := "entryWhy", unfollowed := true, recurses := true, named := ["waywarden/octet.widths"], apart := false, laid := [("waywarden/octet.widths", laid_waywarden_octet_widths)] }
def EntryWhySaid : Prop := entryWhyRow.holds Tryd.pinned (OpenSpec.ofChange entryWhySpec)

/-- ITS FALSE NEIGHBOUR: 'it returns false'. Refute it at one input. -/
def entryWhyWrong : ChangeSpec := { name := "entryWhy", fn := fun _ => fun
  | [d1, d2] => { results := [.lit (.bool false)], args := [d1, d2] }
  | _ => none }
def EntryWhyWrongFalsely : Prop := entryWhyRow.holds Tryd.pinned (OpenSpec.ofChange entryWhyWrong)

/-- 'waywardenlaw04.EntryOf': WHATEVER THE INPUT: true; the input reads as it did. -/
def entryOfSpec : ChangeSpec := { name := "entryOf", fn := fun _ => fun
  | [d1, d2] => { results := [.lit (.bool true)], args := [d1, d2] }
  | _ => none }
def entryOfRow : OpenClaim := { program := "ytfbfdjcdjogefaadoor", sum := "8da1794960f1632b6799091acdfc1b7ff57f3c2a265842d5e6102d60af33671e", func := "waywarden/waywardenlaw04.EntryOf", spec := "entryOf", unfollowed := true, recurses := true, named := ["waywarden/octet.widths"], apart := false, laid := [("waywarden/octet.widths", laid_waywarden_octet_widths)] }
def EntryOfSaid : Prop := entryOfRow.holds Tryd.pinned (OpenSpec.ofChange entryOfSpec)

/-- ITS FALSE NEIGHBOUR: 'it returns false'. Refute it at one input. -/
def entryOfWrong : ChangeSpec := { name := "entryOf", fn := fun _ => fun
  | [d1, d2] => { results := [.lit (.bool false)], args := [d1, d2] }
  | _ => none }
def EntryOfWrongFalsely : Prop := entryOfRow.holds Tryd.pinned (OpenSpec.ofChange entryOfWrong)

/-- 'waywardenlaw04.EntryEach': WHATEVER THE INPUT: true; the input reads as it did. -/
def entryEachSpec : ChangeSpec := { name := "entryEach", fn := fun _ => fun
  | [d1, d2] => { results := [.lit (.bool true)], args := [d1, d2] }
  | _ => none }
def entryEachRow : OpenClaim := { program := "ytfbfdjcdjogefaadoor", sum := "8da1794960f1632b6799091acdfc1b7ff57f3c2a265842d5e6102d60af33671e", func := "waywarden/waywardenlaw04.EntryEach", spec := "entryEach", unfollowed := true, recurses := true, named := ["waywarden/octet.widths"], apart := false, laid := [("waywarden/octet.widths", laid_waywarden_octet_widths)] }
def EntryEachSaid : Prop := entryEachRow.holds Tryd.pinned (OpenSpec.ofChange entryEachSpec)

/-- ITS FALSE NEIGHBOUR: 'it returns false'. Refute it at one input. -/
def entryEachWrong : ChangeSpec := { name := "entryEach", fn := fun _ => fun
  | [d1, d2] => { results := [.lit (.bool false)], args := [d1, d2] }
  | _ => none }
def EntryEachWrongFalsely : Prop := entryEachRow.holds Tryd.pinned (OpenSpec.ofChange entryEachWrong)

/-- 'waywardenlaw04.EntryHolds': WHATEVER THE INPUT: true; the input reads as it did. -/
def entryHoldsSpec : ChangeSpec := { name := "entryHolds", fn := fun _ => fun
  | [d1, d2] => { results := [.lit (.bool true)], args := [d1, d2] }
  | _ => none }
def entryHoldsRow : OpenClaim := { program := "ytfbfdjcdjogefaadoor", sum := "8da1794960f1632b6799091acdfc1b7ff57f3c2a265842d5e6102d60af33671e", func := "waywarden/waywardenlaw04.EntryHolds", spec := "entryHolds", unfollowed := true, recurses := true, named := ["waywarden/octet.widths"], apart := false, laid := [("waywarden/octet.widths", laid_waywarden_octet_widths)] }
def EntryHoldsSaid : Prop := entryHoldsRow.holds Tryd.pinned (OpenSpec.ofChange entryHoldsSpec)

/-- ITS FALSE NEIGHBOUR: 'it returns false'. Refute it at one input. -/
def entryHoldsWrong : ChangeSpec := { name := "entryHolds", fn := fun _ => fun
  | [d1, d2] => { results := [.lit (.bool false)], args := [d1, d2] }
  | _ => none }
def EntryHoldsWrongFalsely : Prop := entryHoldsRow.holds Tryd.pinned (OpenSpec.ofChange entryHoldsWrong)

/- THE SECOND FORM. 'bulk': how many values and letters a reading holds, each counted each time it is reached (what is shared counts as often as it is met; a slice's spare places count too). A statement '..UptoSaid' is the law's where the arguments, and the package variables that the reading takes, are together of bulk at most 1048576: NARROWER than '..Said'. Prove '..Said' where nothing that the law and all that it calls make is longer than what came in: it says more and counts as full. Else prove '..UptoSaid'. A law counts once. -/
mutual
def uptoBulk {H : Type} : DataW H → Nat
  | .lit (.string bytes) => bytes.length + 1
  | .lit _ => 1
  | .nil => 1
  | .ptr d => uptoBulk d + 1
  | .slice elems spare => uptoBulkAll elems + uptoBulkAll spare + 1
  | .agg parts => uptoBulkAll parts + 1
  | .iface _ d => uptoBulk d + 1
  | .map entries => uptoBulkEntries entries + 1
  | .held _ => 1
def uptoBulkAll {H : Type} : List (DataW H) → Nat
  | [] => 0
  | d :: r => uptoBulk d + uptoBulkAll r
def uptoBulkEntries {H : Type} : List (Lit × DataW H) → Nat
  | [] => 0
  | x :: r => uptoBulkEntry x + uptoBulkEntries r
def uptoBulkEntry {H : Type} : Lit × DataW H → Nat
  | (.string bytes, d) => bytes.length + uptoBulk d + 1
  | (_, d) => uptoBulk d + 1
 end
def uptoSmall : (H : Type) → List (DataW H) → Bool := fun _ ds => decide (uptoBulkAll ds ≤ 1048576)
def OpenSpec.upto (s : _root_.Go.ChangeSpec) : _root_.Go.OpenSpec := { _root_.Go.OpenSpec.ofChange s with cond := some uptoSmall }

/-- 'waywardenlaw04.EntryBytes', WHERE WHAT IT READS IS OF BULK AT MOST 1048576: true; the input reads as it did. -/
def entryBytesUptoRow : OpenClaim := { program := "ytfbfdjcdjogefaadoor", sum := "8da1794960f1632b6799091acdfc1b7ff57f3c2a265842d5e6102d60af33671e", func := "waywarden/waywardenlaw04.EntryBytes", spec := "entryBytes", unfollowed := true, recurses := true, named := ["waywarden/octet.widths"], apart := false, laid := [("waywarden/octet.widths", laid_waywarden_octet_widths)], narrowed := true }
def EntryBytesUptoSaid : Prop := entryBytesUptoRow.holds Tryd.pinned (OpenSpec.upto entryBytesSpec)

/-- 'waywardenlaw04.EntryWhy', WHERE WHAT IT READS IS OF BULK AT MOST 1048576: true; the input reads as it did. -/
def entryWhyUptoRow : OpenClaim := { program := "ytfbfdjcdjogefaadoor", sum := "8da1794960f1632b6799091acdfc1b7ff57f3c2a265842d5e6102d60af33671e", func := "waywarden/waywardenlaw04.EntryWhy", spec := "entryWhy", unfollowed := true, recurses := true, named := ["waywarden/octet.widths"], apart := false, laid := [("waywarden/octet.widths", laid_waywarden_octet_widths)], narrowed := true }
def EntryWhyUptoSaid : Prop := entryWhyUptoRow.holds Tryd.pinned (OpenSpec.upto entryWhySpec)

/-- 'waywardenlaw04.EntryOf', WHERE WHAT IT READS IS OF BULK AT MOST 1048576: true; the input reads as it did. -/
def entryOfUptoRow : OpenClaim := { program := "ytfbfdjcdjogefaadoor", sum := "8da1794960f1632b6799091acdfc1b7ff57f3c2a265842d5e6102d60af33671e", func := "waywarden/waywardenlaw04.EntryOf", spec := "entryOf", unfollowed := true, recurses := true, named := ["waywarden/octet.widths"], apart := false, laid := [("waywarden/octet.widths", laid_waywarden_octet_widths)], narrowed := true }
def EntryOfUptoSaid : Prop := entryOfUptoRow.holds Tryd.pinned (OpenSpec.upto entryOfSpec)

/-- 'waywardenlaw04.EntryEach', WHERE WHAT IT READS IS OF BULK AT MOST 1048576: true; the input reads as it did. -/
def entryEachUptoRow : OpenClaim := { program := "ytfbfdjcdjogefaadoor", sum := "8da1794960f1632b6799091acdfc1b7ff57f3c2a265842d5e6102d60af33671e", func := "waywarden/waywardenlaw04.EntryEach", spec := "entryEach", unfollowed := true, recurses := true, named := ["waywarden/octet.widths"], apart := false, laid := [("waywarden/octet.widths", laid_waywarden_octet_widths)], narrowed := true }
def EntryEachUptoSaid : Prop := entryEachUptoRow.holds Tryd.pinned (OpenSpec.upto entryEachSpec)

/-- 'waywardenlaw04.EntryHolds', WHERE WHAT IT READS IS OF BULK AT MOST 1048576: true; the input reads as it did. -/
def entryHoldsUptoRow : OpenClaim := { program := "ytfbfdjcdjogefaadoor", sum := "8da1794960f1632b6799091acdfc1b7ff57f3c2a265842d5e6102d60af33671e", func := "waywarden/waywardenlaw04.EntryHolds", spec := "entryHolds", unfollowed := true, recurses := true, named := ["waywarden/octet.widths"], apart := false, laid := [("waywarden/octet.widths", laid_waywarden_octet_widths)], narrowed := true }
def EntryHoldsUptoSaid : Prop := entryHoldsUptoRow.holds Tryd.pinned (OpenSpec.upto entryHoldsSpec)

end Rows
end Go.Proofs.YtfbfdjcdjogefaaDoor
