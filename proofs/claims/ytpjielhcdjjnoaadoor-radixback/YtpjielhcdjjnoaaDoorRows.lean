/-
  NARROWER THAN 'FOR EVERY INPUT', by the rows' own cells (each row's printed sentence says how): RadixTells: laid · RadixBack: laid · RadixOrder: laid.
  DERIVED. THE GIVEN ROWS OF THIS SEAT. 3 by the template 'for every input the law returns true; each argument reads behind the call as it read before'; 0 by the template 'total and deterministic' (their statements: YtpjielhcdjjnoaaDoorTotals.lean).
  GIVEN WITH THE SEED: the statements are not yours to turn. If you find one false, say at which input.
  Laid BY PROGRAM, IN A SANDBOX (cutbox-rows.mjs): the forced cells as the released guide's own fill.sh prints them over the translation 47cb7d2662d0606f… (all of the seat's roots in one cut). By AI agents, Wed Nov 11 2026. No macro, syntax, notation, axiom, sorry.
-/
import Derived.Test.YtpjielhcdjjnoaaDoorChecked
import GoSem.Claim
import GoSem.ClaimJoined
import GoSem.ClaimMapViews
import Derived.JoinedTies
import Derived.KernelRfl
namespace Go.Proofs.YtpjielhcdjjnoaaDoor
/- THE CELL 'sum', in the pinned program and in every row, IS THE sha256 OF THE DUMP (.gsa) THAT YtpjielhcdjjnoaaDoorProg.lean LOADS. Nothing in Lean hashes anything: it is a label: what it is worth is what the hold of that sum in a sandbox is worth. -/
noncomputable def Tryd.pinned : Pinned := { name := "ytpjielhcdjjnoaadoor", sum := "47cb7d2662d0606fe2a24f98c70d8a9b8cb9efac63924a247142e7d8e166fa63", checked := Tryd.checked }
namespace Rows
def none {H : Type} : Left H := { results := [], args := [] }

/- WHAT THE LISTED PACKAGE-LEVEL VARIABLES READ AS WHEN THE CALL BEGINS. Each datum BY PROGRAM (the guide's laid-datum.mjs) off the statement by which the dump's own 'gosem.cut.vars' lays the variable. In a bare row this is a premise. The card (YtpjielhcdjjnoaaDoorCards.lean) ties it to the program's text. -/
def laid_palanquin_radix_slotWidths {H : Type} : DataW H := .agg [.lit (.int .i64 4), .lit (.int .i64 4)]
def laid_palanquin_radix_pageWidths {H : Type} : DataW H := .agg [.lit (.int .i64 5), .lit (.int .i64 5), .lit (.int .i64 5)]

/-- 'palanquinlaw12.RadixTells': WHATEVER THE INPUT: true; the input reads as it did. -/
def radixTellsSpec : ChangeSpec := { name := "radixTells", fn := fun _ => fun
  | [d1, d2, d3, d4] => { results := [.lit (.bool true)], args := [d1, d2, d3, d4] }
  | _ => none }
def radixTellsRow : OpenClaim := { program := "ytpjielhcdjjnoaadoor", sum := "47cb7d2662d0606fe2a24f98c70d8a9b8cb9efac63924a247142e7d8e166fa63", func := "palanquin/palanquinlaw12.RadixTells", spec := "radixTells", unfollowed := true, recurses := true, named := ["palanquin/radix.slotWidths", "palanquin/radix.pageWidths"], apart := false, laid := [("palanquin/radix.slotWidths", laid_palanquin_radix_slotWidths), ("palanquin/radix.pageWidths", laid_palanquin_radix_pageWidths)] }
def RadixTellsSaid : Prop := radixTellsRow.holds Tryd.pinned (OpenSpec.ofChange radixTellsSpec)

/-- ITS FALSE NEIGHBOUR: 'it returns false'. Refute it at one input. -/
def radixTellsWrong : ChangeSpec := { name := "radixTells", fn := fun _ => fun
  | [d1, d2, d3, d4] => { results := [.lit (.bool false)], args := [d1, d2, d3, d4] }
  | _ => none }
def RadixTellsWrongFalsely : Prop := radixTellsRow.holds Tryd.pinned (OpenSpec.ofChange radixTellsWrong)

/-- 'palanquinlaw12.RadixBack': WHATEVER THE INPUT: true; the input reads as it did. -/
def radixBackSpec : ChangeSpec := { name := "radixBack", fn := fun _ => fun
  | [d1, d2, d3, d4] => { results := [.lit (.bool true)], args := [d1, d2, d3, d4] }
  | _ => none }
def radixBackRow : OpenClaim := { program := "ytpjielhcdjjnoaadoor", sum := "47cb7d2662d0606fe2a24f98c70d8a9b8cb9efac63924a247142e7d8e166fa63", func := "palanquin/palanquinlaw12.RadixBack", spec := "radixBack", unfollowed := true, recurses := true, named := ["palanquin/radix.slotWidths", "palanquin/radix.pageWidths"], apart := false, laid := [("palanquin/radix.slotWidths", laid_palanquin_radix_slotWidths), ("palanquin/radix.pageWidths", laid_palanquin_radix_pageWidths)] }
def RadixBackSaid : Prop := radixBackRow.holds Tryd.pinned (OpenSpec.ofChange radixBackSpec)

/-- ITS FALSE NEIGHBOUR: 'it returns false'. Refute it at one input. -/
def radixBackWrong : ChangeSpec := { name := "radixBack", fn := fun _ => fun
  | [d1, d2, d3, d4] => { results := [.lit (.bool false)], args := [d1, d2, d3, d4] }
  | _ => none }
def RadixBackWrongFalsely : Prop := radixBackRow.holds Tryd.pinned (OpenSpec.ofChange radixBackWrong)

/-- 'palanquinlaw12.RadixOrder': WHATEVER THE INPUT: true; the input reads as it did. -/
def radixOrderSpec : ChangeSpec := { name := "radixOrder", fn := fun _ => fun
  | [d1, d2] => { results := [.lit (.bool true)], args := [d1, d2] }
  | _ => none }
def radixOrderRow : OpenClaim := { program := "ytpjielhcdjjnoaadoor", sum := "47cb7d2662d0606fe2a24f98c70d8a9b8cb9efac63924a247142e7d8e166fa63", func := "palanquin/palanquinlaw12.RadixOrder", spec := "radixOrder", unfollowed := true, recurses := true, named := ["palanquin/radix.slotWidths", "palanquin/radix.pageWidths"], apart := false, laid := [("palanquin/radix.slotWidths", laid_palanquin_radix_slotWidths), ("palanquin/radix.pageWidths", laid_palanquin_radix_pageWidths)] }
def RadixOrderSaid : Prop := radixOrderRow.holds Tryd.pinned (OpenSpec.ofChange radixOrderSpec)

/-- ITS FALSE NEIGHBOUR: 'it returns false'. Refute it at one input. -/
def radixOrderWrong : ChangeSpec := { name := "radixOrder", fn := fun _ => fun
  | [d1, d2] => { results := [.lit (.bool false)], args := [d1, d2] }
  | _ => none }
def RadixOrderWrongFalsely : Prop := radixOrderRow.holds Tryd.pinned (OpenSpec.ofChange radixOrderWrong)

/- THE SECOND FORM. 'bulk': how many values and letters a reading holds, each counted each time it is reached (what is shared counts as often as it is met; a slice's spare places count too). A statement '..UptoSaid' is the law's where the arguments, and the package variables that the reading takes, are together of bulk at most 1048576: NARROWER than '..Said'. Prove '..Said' where nothing that the law and all that it calls make is longer than what came in: it says more and counts as full. Else prove '..UptoSaid'. A law counts once. -/
mutual
def uptoBulk {H : Type} : DataW H → Nat
  | .lit (.string bytes) => bytes.length + 1
  | .lit _ => 1
  | .nil => 1
  | .ptr d => uptoBulk d + 1
  | .slice elems spare => uptoBulkAll elems + uptoBulkAll spare + 1
  | .agg parts => uptoBulkAll parts + 1
  | .iface _ d => uptoBulk d + 1
  | .map entries => uptoBulkEntries entries + 1
  | .held _ => 1
def uptoBulkAll {H : Type} : List (DataW H) → Nat
  | [] => 0
  | d :: r => uptoBulk d + uptoBulkAll r
def uptoBulkEntries {H : Type} : List (Lit × DataW H) → Nat
  | [] => 0
  | x :: r => uptoBulkEntry x + uptoBulkEntries r
def uptoBulkEntry {H : Type} : Lit × DataW H → Nat
  | (.string bytes, d) => bytes.length + uptoBulk d + 1
  | (_, d) => uptoBulk d + 1
 end
def uptoSmall : (H : Type) → List (DataW H) → Bool := fun _ ds => decide (uptoBulkAll ds ≤ 1048576)
def OpenSpec.upto (s : _root_.Go.ChangeSpec) : _root_.Go.OpenSpec := { _root_.Go.OpenSpec.ofChange s with cond := some uptoSmall }

/-- 'palanquinlaw12.RadixTells', WHERE WHAT IT READS IS OF BULK AT MOST 1048576: true; the input reads as it did. -/
def radixTellsUptoRow : OpenClaim := { program := "ytpjielhcdjjnoaadoor", sum := "47cb7d2662d0606fe2a24f98c70d8a9b8cb9efac63924a247142e7d8e166fa63", func := "palanquin/palanquinlaw12.RadixTells", spec := "radixTells", unfollowed := true, recurses := true, named := ["palanquin/radix.slotWidths", "palanquin/radix.pageWidths"], apart := false, laid := [("palanquin/radix.slotWidths", laid_palanquin_radix_slotWidths), ("palanquin/radix.pageWidths", laid_palanquin_radix_pageWidths)], narrowed := true }
def RadixTellsUptoSaid : Prop := radixTellsUptoRow.holds Tryd.pinned (OpenSpec.upto radixTellsSpec)

/-- 'palanquinlaw12.RadixBack', WHERE WHAT IT READS IS OF BULK AT MOST 1048576: true; the input reads as it did. -/
def radixBackUptoRow : OpenClaim := { program := "ytpjielhcdjjnoaadoor", sum := "47cb7d2662d0606fe2a24f98c70d8a9b8cb9efac63924a247142e7d8e166fa63", func := "palanquin/palanquinlaw12.RadixBack", spec := "radixBack", unfollowed := true, recurses := true, named := ["palanquin/radix.slotWidths", "palanquin/radix.pageWidths"], apart := false, laid := [("palanquin/radix.slotWidths", laid_palanquin_radix_slotWidths), ("palanquin/radix.pageWidths", laid_palanquin_radix_pageWidths)], narrowed := true }
def RadixBackUptoSaid : Prop := radixBackUptoRow.holds Tryd.pinned (OpenSpec.upto radixBackSpec)

/-- 'palanquinlaw12.RadixOrder', WHERE WHAT IT READS IS OF BULK AT MOST 1048576: true; the input reads as it did. -/
def radixOrderUptoRow : OpenClaim := { program := "ytpjielhcdjjnoaadoor", sum := "47cb7d2662d0606fe2a24f98c70d8a9b8cb9efac63924a247142e7d8e166fa63", func := "palanquin/palanquinlaw12.RadixOrder", spec := "radixOrder", unfollowed := true, recurses := true, named := ["palanquin/radix.slotWidths", "palanquin/radix.pageWidths"], apart := false, laid := [("palanquin/radix.slotWidths", laid_palanquin_radix_slotWidths), ("palanquin/radix.pageWidths", laid_palanquin_radix_pageWidths)], narrowed := true }
def RadixOrderUptoSaid : Prop := radixOrderUptoRow.holds Tryd.pinned (OpenSpec.upto radixOrderSpec)

end Rows
end Go.Proofs.YtpjielhcdjjnoaaDoor
