/-
  NARROWER THAN 'FOR EVERY INPUT', by the rows' own cells (each row's printed sentence says how): RcvCounts: laid · RcvBack: laid.
  DERIVED. THE GIVEN ROWS OF THIS SEAT. 2 by the template 'for every input the law returns true; each argument reads behind the call as it read before'; 0 by the template 'total and deterministic' (their statements: YtcoggdnpjpiacaaDoorTotals.lean).
  GIVEN WITH THE SEED: the statements are not yours to turn. If you find one false, say at which input.
  Laid BY PROGRAM, IN A SANDBOX (cutbox-rows.mjs): the forced cells as the released guide's own fill.sh prints them over the translation e6d1eb48d741d320… (all of the seat's roots in one cut). By AI agents, Wed Nov 11 2026. No macro, syntax, notation, axiom, sorry.
-/
import Derived.Test.YtcoggdnpjpiacaaDoorChecked
import GoSem.Claim
import GoSem.ClaimJoined
import GoSem.ClaimMapViews
import Derived.JoinedTies
import Derived.KernelRfl
namespace Go.Proofs.YtcoggdnpjpiacaaDoor
/- THE CELL 'sum', in the pinned program and in every row, IS THE sha256 OF THE DUMP (.gsa) THAT YtcoggdnpjpiacaaDoorProg.lean LOADS. Nothing in Lean hashes anything: it is a label: what it is worth is what the hold of that sum in a sandbox is worth. -/
noncomputable def Tryd.pinned : Pinned := { name := "ytcoggdnpjpiacaadoor", sum := "e6d1eb48d741d32007dafd29b9e490e4d8a43b85c52cba0044453b7c08086a0c", checked := Tryd.checked }
namespace Rows
def none {H : Type} : Left H := { results := [], args := [] }

/- WHAT THE LISTED PACKAGE-LEVEL VARIABLES READ AS WHEN THE CALL BEGINS. Each datum BY PROGRAM (the guide's laid-datum.mjs) off the statement by which the dump's own 'gosem.cut.vars' lays the variable. In a bare row this is a premise. The card (YtcoggdnpjpiacaaDoorCards.lean) ties it to the program's text. -/
def laid_palanquin_head_widths {H : Type} : DataW H := .agg [.lit (.int .i64 4), .lit (.int .i64 1), .lit (.int .i64 1)]
def laid_palanquin_ring_widths {H : Type} : DataW H := .agg [.lit (.int .i64 4), .lit (.int .i64 6)]
def laid_palanquin_rcv_most {H : Type} : DataW H := .agg [.lit (.int .u64 63), .lit (.int .u64 64), .lit (.int .u64 255), .lit (.int .u64 1), .lit (.int .u64 255), .lit (.int .u64 0), .lit (.int .u64 0), .lit (.int .u64 0)]

/-- 'palanquinlaw22.RcvCounts': WHATEVER THE INPUT: true; the input reads as it did. -/
def rcvCountsSpec : ChangeSpec := { name := "rcvCounts", fn := fun _ => fun
  | [d1, d2, d3] => { results := [.lit (.bool true)], args := [d1, d2, d3] }
  | _ => none }
def rcvCountsRow : OpenClaim := { program := "ytcoggdnpjpiacaadoor", sum := "e6d1eb48d741d32007dafd29b9e490e4d8a43b85c52cba0044453b7c08086a0c", func := "palanquin/palanquinlaw22.RcvCounts", spec := "rcvCounts", unfollowed := true, recurses := true, named := ["palanquin/rcv.most", "palanquin/head.widths", "palanquin/ring.widths"], apart := false, laid := [("palanquin/head.widths", laid_palanquin_head_widths), ("palanquin/ring.widths", laid_palanquin_ring_widths), ("palanquin/rcv.most", laid_palanquin_rcv_most)] }
def RcvCountsSaid : Prop := rcvCountsRow.holds Tryd.pinned (OpenSpec.ofChange rcvCountsSpec)

/-- ITS FALSE NEIGHBOUR: 'it returns false'. Refute it at one input. -/
def rcvCountsWrong : ChangeSpec := { name := "rcvCounts", fn := fun _ => fun
  | [d1, d2, d3] => { results := [.lit (.bool false)], args := [d1, d2, d3] }
  | _ => none }
def RcvCountsWrongFalsely : Prop := rcvCountsRow.holds Tryd.pinned (OpenSpec.ofChange rcvCountsWrong)

/-- 'palanquinlaw22.RcvBack': WHATEVER THE INPUT: true; the input reads as it did. -/
def rcvBackSpec : ChangeSpec := { name := "rcvBack", fn := fun _ => fun
  | [d1, d2, d3] => { results := [.lit (.bool true)], args := [d1, d2, d3] }
  | _ => none }
def rcvBackRow : OpenClaim := { program := "ytcoggdnpjpiacaadoor", sum := "e6d1eb48d741d32007dafd29b9e490e4d8a43b85c52cba0044453b7c08086a0c", func := "palanquin/palanquinlaw22.RcvBack", spec := "rcvBack", unfollowed := true, recurses := true, named := ["palanquin/rcv.most", "palanquin/head.widths", "palanquin/ring.widths"], apart := false, laid := [("palanquin/head.widths", laid_palanquin_head_widths), ("palanquin/ring.widths", laid_palanquin_ring_widths), ("palanquin/rcv.most", laid_palanquin_rcv_most)] }
def RcvBackSaid : Prop := rcvBackRow.holds Tryd.pinned (OpenSpec.ofChange rcvBackSpec)

/-- ITS FALSE NEIGHBOUR: 'it returns false'. Refute it at one input. -/
def rcvBackWrong : ChangeSpec := { name := "rcvBack", fn := fun _ => fun
  | [d1, d2, d3] => { results := [.lit (.bool false)], args := [d1, d2, d3] }
  | _ => none }
def RcvBackWrongFalsely : Prop := rcvBackRow.holds Tryd.pinned (OpenSpec.ofChange rcvBackWrong)

/- THE SECOND FORM. 'bulk': how many values and letters a reading holds, each counted each time it is reached (what is shared counts as often as it is met; a slice's spare places count too). A statement '..UptoSaid' is the law's where the arguments, and the package variables that the reading takes, are together of bulk at most 1048576: NARROWER than '..Said'. Prove '..Said' where nothing that the law and all that it calls make is longer than what came in: it says more and counts as full. Else prove '..UptoSaid'. A law counts once. -/
mutual
def uptoBulk {H : Type} : DataW H → Nat
  | .lit (.string bytes) => bytes.length + 1
  | .lit _ => 1
  | .nil => 1
  | .ptr d => uptoBulk d + 1
  | .slice elems spare => uptoBulkAll elems + uptoBulkAll spare + 1
  | .agg parts => uptoBulkAll parts + 1
  | .iface _ d => uptoBulk d + 1
  | .map entries => uptoBulkEntries entries + 1
  | .held _ => 1
def uptoBulkAll {H : Type} : List (DataW H) → Nat
  | [] => 0
  | d :: r => uptoBulk d + uptoBulkAll r
def uptoBulkEntries {H : Type} : List (Lit × DataW H) → Nat
  | [] => 0
  | x :: r => uptoBulkEntry x + uptoBulkEntries r
def uptoBulkEntry {H : Type} : Lit × DataW H → Nat
  | (.string bytes, d) => bytes.length + uptoBulk d + 1
  | (_, d) => uptoBulk d + 1
 end
def uptoSmall : (H : Type) → List (DataW H) → Bool := fun _ ds => decide (uptoBulkAll ds ≤ 1048576)
def OpenSpec.upto (s : _root_.Go.ChangeSpec) : _root_.Go.OpenSpec := { _root_.Go.OpenSpec.ofChange s with cond := some uptoSmall }

/-- 'palanquinlaw22.RcvCounts', WHERE WHAT IT READS IS OF BULK AT MOST 1048576: true; the input reads as it did. -/
def rcvCountsUptoRow : OpenClaim := { program := "ytcoggdnpjpiacaadoor", sum := "e6d1eb48d741d32007dafd29b9e490e4d8a43b85c52cba0044453b7c08086a0c", func := "palanquin/palanquinlaw22.RcvCounts", spec := "rcvCounts", unfollowed := true, recurses := true, named := ["palanquin/rcv.most", "palanquin/head.widths", "palanquin/ring.widths"], apart := false, laid := [("palanquin/head.widths", laid_palanquin_head_widths), ("palanquin/ring.widths", laid_palanquin_ring_widths), ("palanquin/rcv.most", laid_palanquin_rcv_most)], narrowed := true }
def RcvCountsUptoSaid : Prop := rcvCountsUptoRow.holds Tryd.pinned (OpenSpec.upto rcvCountsSpec)

/-- 'palanquinlaw22.RcvBack', WHERE WHAT IT READS IS OF BULK AT MOST 1048576: true; the input reads as it did. -/
def rcvBackUptoRow : OpenClaim := { program := "ytcoggdnpjpiacaadoor", sum := "e6d1eb48d741d32007dafd29b9e490e4d8a43b85c52cba0044453b7c08086a0c", func := "palanquin/palanquinlaw22.RcvBack", spec := "rcvBack", unfollowed := true, recurses := true, named := ["palanquin/rcv.most", "palanquin/head.widths", "palanquin/ring.widths"], apart := false, laid := [("palanquin/head.widths", laid_palanquin_head_widths), ("palanquin/ring.widths", laid_palanquin_ring_widths), ("palanquin/rcv.most", laid_palanquin_rcv_most)], narrowed := true }
def RcvBackUptoSaid : Prop := rcvBackUptoRow.holds Tryd.pinned (OpenSpec.upto rcvBackSpec)

end Rows
end Go.Proofs.YtcoggdnpjpiacaaDoor
