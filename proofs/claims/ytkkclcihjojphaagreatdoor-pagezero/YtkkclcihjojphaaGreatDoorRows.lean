/-
  NARROWER THAN 'FOR EVERY INPUT', by the rows' own cells (each row's printed sentence says how): PageZero: laid.
  DERIVED. THE GIVEN ROWS OF THIS SEAT. 1 by the template 'for every input the law returns true; each argument reads behind the call as it read before'; 0 by the template 'total and deterministic' (their statements: YtkkclcihjojphaaGreatDoorTotals.lean).
  GIVEN WITH THE SEED: the statements are not yours to turn. If you find one false, say at which input.
  Laid BY PROGRAM, IN A SANDBOX (cutbox-rows.mjs): the forced cells as the released guide's own fill.sh prints them over the translation 9c8eb70c42d3241f… (all of the seat's roots in one cut). By AI agents, Wed Nov 11 2026. No macro, syntax, notation, axiom, sorry.
-/
import Derived.Test.YtkkclcihjojphaaGreatDoorChecked
import GoSem.Claim
import GoSem.ClaimJoined
import GoSem.ClaimMapViews
import Derived.JoinedTies
import Derived.KernelRfl
namespace Go.Proofs.YtkkclcihjojphaaGreatDoor
/- THE CELL 'sum', in the pinned program and in every row, IS THE sha256 OF THE DUMP (.gsa) THAT YtkkclcihjojphaaGreatDoorProg.lean LOADS. Nothing in Lean hashes anything: it is a label: what it is worth is what the hold of that sum in a sandbox is worth. -/
noncomputable def Tryz.pinned : Pinned := { name := "ytkkclcihjojphaagreatdoor", sum := "9c8eb70c42d3241f0c369a6e88cae18221a88c57e15c8d607620c20cdbe882e3", checked := Tryz.checked }
namespace Rows
def none {H : Type} : Left H := { results := [], args := [] }

/- WHAT THE LISTED PACKAGE-LEVEL VARIABLES READ AS WHEN THE CALL BEGINS. Each datum BY PROGRAM (the guide's laid-datum.mjs) off the statement by which the dump's own 'gosem.cut.vars' lays the variable. In a bare row this is a premise. The card (YtkkclcihjojphaaGreatDoorCards.lean) ties it to the program's text. -/
def laid_palanquin_head_widths {H : Type} : DataW H := .agg [.lit (.int .i64 4), .lit (.int .i64 1), .lit (.int .i64 1)]
def laid_palanquin_comp_most {H : Type} : DataW H := .agg [.lit (.int .u64 63), .lit (.int .u64 63), .lit (.int .u64 63), .lit (.int .u64 65535), .lit (.int .u64 64), .lit (.int .u64 1073741824)]
def laid_palanquin_pte_widths {H : Type} : DataW H := .agg [.lit (.int .i64 1), .lit (.int .i64 6), .lit (.int .i64 2), .lit (.int .i64 31)]
def laid_palanquin_radix_pageWidths {H : Type} : DataW H := .agg [.lit (.int .i64 5), .lit (.int .i64 5), .lit (.int .i64 5)]
def laid_palanquin_rcv_most {H : Type} : DataW H := .agg [.lit (.int .u64 63), .lit (.int .u64 64), .lit (.int .u64 255), .lit (.int .u64 1), .lit (.int .u64 255), .lit (.int .u64 0), .lit (.int .u64 0), .lit (.int .u64 0)]
def laid_palanquin_stack_widths {H : Type} : DataW H := .agg [.lit (.int .i64 6), .lit (.int .i64 6), .lit (.int .i64 6), .lit (.int .i64 6), .lit (.int .i64 16)]

/-- 'palanquinlaw29.PageZero': WHATEVER THE INPUT: true; the input reads as it did. -/
def pageZeroSpec : ChangeSpec := { name := "pageZero", fn := fun _ => fun
  | [d1, d2] => { results := [.lit (.bool true)], args := [d1, d2] }
  | _ => none }
def pageZeroRow : OpenClaim := { program := "ytkkclcihjojphaagreatdoor", sum := "9c8eb70c42d3241f0c369a6e88cae18221a88c57e15c8d607620c20cdbe882e3", func := "palanquin/palanquinlaw29.PageZero", spec := "pageZero", unfollowed := true, recurses := true, named := ["palanquin/radix.pageWidths", "palanquin/head.widths", "palanquin/pte.widths", "palanquin/comp.most", "palanquin/stack.widths", "palanquin/rcv.most"], plainKeys := false, apart := false, laid := [("palanquin/head.widths", laid_palanquin_head_widths), ("palanquin/comp.most", laid_palanquin_comp_most), ("palanquin/pte.widths", laid_palanquin_pte_widths), ("palanquin/radix.pageWidths", laid_palanquin_radix_pageWidths), ("palanquin/rcv.most", laid_palanquin_rcv_most), ("palanquin/stack.widths", laid_palanquin_stack_widths)] }
def PageZeroSaid : Prop := pageZeroRow.holds Tryz.pinned (OpenSpec.ofChange pageZeroSpec)

/-- ITS FALSE NEIGHBOUR: 'it returns false'. Refute it at one input. -/
def pageZeroWrong : ChangeSpec := { name := "pageZero", fn := fun _ => fun
  | [d1, d2] => { results := [.lit (.bool false)], args := [d1, d2] }
  | _ => none }
def PageZeroWrongFalsely : Prop := pageZeroRow.holds Tryz.pinned (OpenSpec.ofChange pageZeroWrong)

/- THE SECOND FORM. 'bulk': how many values and letters a reading holds, each counted each time it is reached (what is shared counts as often as it is met; a slice's spare places count too). A statement '..UptoSaid' is the law's where the arguments, and the package variables that the reading takes, are together of bulk at most 1048576: NARROWER than '..Said'. Prove '..Said' where nothing that the law and all that it calls make is longer than what came in: it says more and counts as full. Else prove '..UptoSaid'. A law counts once. -/
mutual
def uptoBulk {H : Type} : DataW H → Nat
  | .lit (.string bytes) => bytes.length + 1
  | .lit _ => 1
  | .nil => 1
  | .ptr d => uptoBulk d + 1
  | .slice elems spare => uptoBulkAll elems + uptoBulkAll spare + 1
  | .agg parts => uptoBulkAll parts + 1
  | .iface _ d => uptoBulk d + 1
  | .map entries => uptoBulkEntries entries + 1
  | .held _ => 1
def uptoBulkAll {H : Type} : List (DataW H) → Nat
  | [] => 0
  | d :: r => uptoBulk d + uptoBulkAll r
def uptoBulkEntries {H : Type} : List (Lit × DataW H) → Nat
  | [] => 0
  | x :: r => uptoBulkEntry x + uptoBulkEntries r
def uptoBulkEntry {H : Type} : Lit × DataW H → Nat
  | (.string bytes, d) => bytes.length + uptoBulk d + 1
  | (_, d) => uptoBulk d + 1
 end
def uptoSmall : (H : Type) → List (DataW H) → Bool := fun _ ds => decide (uptoBulkAll ds ≤ 1048576)
def OpenSpec.upto (s : _root_.Go.ChangeSpec) : _root_.Go.OpenSpec := { _root_.Go.OpenSpec.ofChange s with cond := some uptoSmall }

/-- 'palanquinlaw29.PageZero', WHERE WHAT IT READS IS OF BULK AT MOST 1048576: true; the input reads as it did. -/
def pageZeroUptoRow : OpenClaim := { program := "ytkkclcihjojphaagreatdoor", sum := "9c8eb70c42d3241f0c369a6e88cae18221a88c57e15c8d607620c20cdbe882e3", func := "palanquin/palanquinlaw29.PageZero", spec := "pageZero", unfollowed := true, recurses := true, named := ["palanquin/radix.pageWidths", "palanquin/head.widths", "palanquin/pte.widths", "palanquin/comp.most", "palanquin/stack.widths", "palanquin/rcv.most"], plainKeys := false, apart := false, laid := [("palanquin/head.widths", laid_palanquin_head_widths), ("palanquin/comp.most", laid_palanquin_comp_most), ("palanquin/pte.widths", laid_palanquin_pte_widths), ("palanquin/radix.pageWidths", laid_palanquin_radix_pageWidths), ("palanquin/rcv.most", laid_palanquin_rcv_most), ("palanquin/stack.widths", laid_palanquin_stack_widths)], narrowed := true }
def PageZeroUptoSaid : Prop := pageZeroUptoRow.holds Tryz.pinned (OpenSpec.upto pageZeroSpec)

end Rows
end Go.Proofs.YtkkclcihjojphaaGreatDoor
