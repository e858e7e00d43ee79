/-
  NARROWER THAN 'FOR EVERY INPUT', by the rows' own cells (each row's printed sentence says how): TcapPlays: laid · TcapSum: laid · TcapTwice: laid.
  DERIVED. THE GIVEN ROWS OF THIS SEAT. 3 by the template 'for every input the law returns true; each argument reads behind the call as it read before'; 0 by the template 'total and deterministic' (their statements: YtlnckhebikiclaaDoorTotals.lean).
  GIVEN WITH THE SEED: the statements are not yours to turn. If you find one false, say at which input.
  Laid BY PROGRAM, IN A SANDBOX (cutbox-rows.mjs): the forced cells as the released guide's own fill.sh prints them over the translation f4a0923a4bd16a78… (all of the seat's roots in one cut). By AI agents, Wed Nov 11 2026. No macro, syntax, notation, axiom, sorry.
-/
import Derived.Test.YtlnckhebikiclaaDoorChecked
import GoSem.Claim
import GoSem.ClaimJoined
import GoSem.ClaimMapViews
import Derived.JoinedTies
import Derived.KernelRfl
namespace Go.Proofs.YtlnckhebikiclaaDoor
/- THE CELL 'sum', in the pinned program and in every row, IS THE sha256 OF THE DUMP (.gsa) THAT YtlnckhebikiclaaDoorProg.lean LOADS. Nothing in Lean hashes anything: it is a label: what it is worth is what the hold of that sum in a sandbox is worth. -/
noncomputable def Tryd.pinned : Pinned := { name := "ytlnckhebikiclaadoor", sum := "f4a0923a4bd16a7880ca8ffa2f4f1b35a796cdd7967b3f4a1d4a0f39611b2b18", checked := Tryd.checked }
namespace Rows
def none {H : Type} : Left H := { results := [], args := [] }

/- WHAT THE LISTED PACKAGE-LEVEL VARIABLES READ AS WHEN THE CALL BEGINS. Each datum BY PROGRAM (the guide's laid-datum.mjs) off the statement by which the dump's own 'gosem.cut.vars' lays the variable. In a bare row this is a premise. The card (YtlnckhebikiclaaDoorCards.lean) ties it to the program's text. -/
def laid_palanquin_head_widths {H : Type} : DataW H := .agg [.lit (.int .i64 4), .lit (.int .i64 1), .lit (.int .i64 1)]

/-- 'palanquinlaw20.TcapPlays': WHATEVER THE INPUT: true; the input reads as it did. -/
def tcapPlaysSpec : ChangeSpec := { name := "tcapPlays", fn := fun _ => fun
  | [d1, d2, d3, d4, d5, d6] => { results := [.lit (.bool true)], args := [d1, d2, d3, d4, d5, d6] }
  | _ => none }
def tcapPlaysRow : OpenClaim := { program := "ytlnckhebikiclaadoor", sum := "f4a0923a4bd16a7880ca8ffa2f4f1b35a796cdd7967b3f4a1d4a0f39611b2b18", func := "palanquin/palanquinlaw20.TcapPlays", spec := "tcapPlays", unfollowed := true, recurses := true, named := ["palanquin/head.widths"], apart := false, laid := [("palanquin/head.widths", laid_palanquin_head_widths)] }
def TcapPlaysSaid : Prop := tcapPlaysRow.holds Tryd.pinned (OpenSpec.ofChange tcapPlaysSpec)

/-- ITS FALSE NEIGHBOUR: 'it returns false'. Refute it at one input. -/
def tcapPlaysWrong : ChangeSpec := { name := "tcapPlays", fn := fun _ => fun
  | [d1, d2, d3, d4, d5, d6] => { results := [.lit (.bool false)], args := [d1, d2, d3, d4, d5, d6] }
  | _ => none }
def TcapPlaysWrongFalsely : Prop := tcapPlaysRow.holds Tryd.pinned (OpenSpec.ofChange tcapPlaysWrong)

/-- 'palanquinlaw20.TcapSum': WHATEVER THE INPUT: true; the input reads as it did. -/
def tcapSumSpec : ChangeSpec := { name := "tcapSum", fn := fun _ => fun
  | [d1, d2, d3, d4, d5] => { results := [.lit (.bool true)], args := [d1, d2, d3, d4, d5] }
  | _ => none }
def tcapSumRow : OpenClaim := { program := "ytlnckhebikiclaadoor", sum := "f4a0923a4bd16a7880ca8ffa2f4f1b35a796cdd7967b3f4a1d4a0f39611b2b18", func := "palanquin/palanquinlaw20.TcapSum", spec := "tcapSum", unfollowed := true, recurses := true, named := ["palanquin/head.widths"], apart := false, laid := [("palanquin/head.widths", laid_palanquin_head_widths)] }
def TcapSumSaid : Prop := tcapSumRow.holds Tryd.pinned (OpenSpec.ofChange tcapSumSpec)

/-- ITS FALSE NEIGHBOUR: 'it returns false'. Refute it at one input. -/
def tcapSumWrong : ChangeSpec := { name := "tcapSum", fn := fun _ => fun
  | [d1, d2, d3, d4, d5] => { results := [.lit (.bool false)], args := [d1, d2, d3, d4, d5] }
  | _ => none }
def TcapSumWrongFalsely : Prop := tcapSumRow.holds Tryd.pinned (OpenSpec.ofChange tcapSumWrong)

/-- 'palanquinlaw20.TcapTwice': WHATEVER THE INPUT: true; the input reads as it did. -/
def tcapTwiceSpec : ChangeSpec := { name := "tcapTwice", fn := fun _ => fun
  | [d1, d2, d3] => { results := [.lit (.bool true)], args := [d1, d2, d3] }
  | _ => none }
def tcapTwiceRow : OpenClaim := { program := "ytlnckhebikiclaadoor", sum := "f4a0923a4bd16a7880ca8ffa2f4f1b35a796cdd7967b3f4a1d4a0f39611b2b18", func := "palanquin/palanquinlaw20.TcapTwice", spec := "tcapTwice", unfollowed := true, recurses := true, named := ["palanquin/head.widths"], apart := false, laid := [("palanquin/head.widths", laid_palanquin_head_widths)] }
def TcapTwiceSaid : Prop := tcapTwiceRow.holds Tryd.pinned (OpenSpec.ofChange tcapTwiceSpec)

/-- ITS FALSE NEIGHBOUR: 'it returns false'. Refute it at one input. -/
def tcapTwiceWrong : ChangeSpec := { name := "tcapTwice", fn := fun _ => fun
  | [d1, d2, d3] => { results := [.lit (.bool false)], args := [d1, d2, d3] }
  | _ => none }
def TcapTwiceWrongFalsely : Prop := tcapTwiceRow.holds Tryd.pinned (OpenSpec.ofChange tcapTwiceWrong)

/- THE SECOND FORM. 'bulk': how many values and letters a reading holds, each counted each time it is reached (what is shared counts as often as it is met; a slice's spare places count too). A statement '..UptoSaid' is the law's where the arguments, and the package variables that the reading takes, are together of bulk at most 1048576: NARROWER than '..Said'. Prove '..Said' where nothing that the law and all that it calls make is longer than what came in: it says more and counts as full. Else prove '..UptoSaid'. A law counts once. -/
mutual
def uptoBulk {H : Type} : DataW H → Nat
  | .lit (.string bytes) => bytes.length + 1
  | .lit _ => 1
  | .nil => 1
  | .ptr d => uptoBulk d + 1
  | .slice elems spare => uptoBulkAll elems + uptoBulkAll spare + 1
  | .agg parts => uptoBulkAll parts + 1
  | .iface _ d => uptoBulk d + 1
  | .map entries => uptoBulkEntries entries + 1
  | .held _ => 1
def uptoBulkAll {H : Type} : List (DataW H) → Nat
  | [] => 0
  | d :: r => uptoBulk d + uptoBulkAll r
def uptoBulkEntries {H : Type} : List (Lit × DataW H) → Nat
  | [] => 0
  | x :: r => uptoBulkEntry x + uptoBulkEntries r
def uptoBulkEntry {H : Type} : Lit × DataW H → Nat
  | (.string bytes, d) => bytes.length + uptoBulk d + 1
  | (_, d) => uptoBulk d + 1
 end
def uptoSmall : (H : Type) → List (DataW H) → Bool := fun _ ds => decide (uptoBulkAll ds ≤ 1048576)
def OpenSpec.upto (s : _root_.Go.ChangeSpec) : _root_.Go.OpenSpec := { _root_.Go.OpenSpec.ofChange s with cond := some uptoSmall }

/-- 'palanquinlaw20.TcapPlays', WHERE WHAT IT READS IS OF BULK AT MOST 1048576: true; the input reads as it did. -/
def tcapPlaysUptoRow : OpenClaim := { program := "ytlnckhebikiclaadoor", sum := "f4a0923a4bd16a7880ca8ffa2f4f1b35a796cdd7967b3f4a1d4a0f39611b2b18", func := "palanquin/palanquinlaw20.TcapPlays", spec := "tcapPlays", unfollowed := true, recurses := true, named := ["palanquin/head.widths"], apart := false, laid := [("palanquin/head.widths", laid_palanquin_head_widths)], narrowed := true }
def TcapPlaysUptoSaid : Prop := tcapPlaysUptoRow.holds Tryd.pinned (OpenSpec.upto tcapPlaysSpec)

/-- 'palanquinlaw20.TcapSum', WHERE WHAT IT READS IS OF BULK AT MOST 1048576: true; the input reads as it did. -/
def tcapSumUptoRow : OpenClaim := { program := "ytlnckhebikiclaadoor", sum := "f4a0923a4bd16a7880ca8ffa2f4f1b35a796cdd7967b3f4a1d4a0f39611b2b18", func := "palanquin/palanquinlaw20.TcapSum", spec := "tcapSum", unfollowed := true, recurses := true, named := ["palanquin/head.widths"], apart := false, laid := [("palanquin/head.widths", laid_palanquin_head_widths)], narrowed := true }
def TcapSumUptoSaid : Prop := tcapSumUptoRow.holds Tryd.pinned (OpenSpec.upto tcapSumSpec)

/-- 'palanquinlaw20.TcapTwice', WHERE WHAT IT READS IS OF BULK AT MOST 1048576: true; the input reads as it did. -/
def tcapTwiceUptoRow : OpenClaim := { program := "ytlnckhebikiclaadoor", sum := "f4a0923a4bd16a7880ca8ffa2f4f1b35a796cdd7967b3f4a1d4a0f39611b2b18", func := "palanquin/palanquinlaw20.TcapTwice", spec := "tcapTwice", unfollowed := true, recurses := true, named := ["palanquin/head.widths"], apart := false, laid := [("palanquin/head.widths", laid_palanquin_head_widths)], narrowed := true }
def TcapTwiceUptoSaid : Prop := tcapTwiceUptoRow.holds Tryd.pinned (OpenSpec.upto tcapTwiceSpec)

end Rows
end Go.Proofs.YtlnckhebikiclaaDoor
