/-
  NARROWER THAN 'FOR EVERY INPUT', by the rows' own cells (each row's printed sentence says how): RingPlays: laid · RingOrder: laid · RingWords: laid.
  DERIVED. THE GIVEN ROWS OF THIS SEAT. 3 by the template 'for every input the law returns true; each argument reads behind the call as it read before'; 0 by the template 'total and deterministic' (their statements: YtdplailaolfpkaaDoorTotals.lean).
  GIVEN WITH THE SEED: the statements are not yours to turn. If you find one false, say at which input.
  Laid BY PROGRAM, IN A SANDBOX (cutbox-rows.mjs): the forced cells as the released guide's own fill.sh prints them over the translation e5fe77363be9def5… (all of the seat's roots in one cut). By AI agents, Wed Nov 11 2026. No macro, syntax, notation, axiom, sorry.
-/
import Derived.Test.YtdplailaolfpkaaDoorChecked
import GoSem.Claim
import GoSem.ClaimJoined
import GoSem.ClaimMapViews
import Derived.JoinedTies
import Derived.KernelRfl
namespace Go.Proofs.YtdplailaolfpkaaDoor
/- THE CELL 'sum', in the pinned program and in every row, IS THE sha256 OF THE DUMP (.gsa) THAT YtdplailaolfpkaaDoorProg.lean LOADS. Nothing in Lean hashes anything: it is a label: what it is worth is what the hold of that sum in a sandbox is worth. -/
noncomputable def Tryd.pinned : Pinned := { name := "ytdplailaolfpkaadoor", sum := "e5fe77363be9def5275c44b40f61740f451c34704606cb0af9b4b48f20bdbd6d", checked := Tryd.checked }
namespace Rows
def none {H : Type} : Left H := { results := [], args := [] }

/- WHAT THE LISTED PACKAGE-LEVEL VARIABLES READ AS WHEN THE CALL BEGINS. Each datum BY PROGRAM (the guide's laid-datum.mjs) off the statement by which the dump's own 'gosem.cut.vars' lays the variable. In a bare row this is a premise. The card (YtdplailaolfpkaaDoorCards.lean) ties it to the program's text. -/
def laid_palanquin_head_widths {H : Type} : DataW H := .agg [.lit (.int .i64 4), .lit (.int .i64 1), .lit (.int .i64 1)]
def laid_palanquin_ring_widths {H : Type} : DataW H := .agg [.lit (.int .i64 4), .lit (.int .i64 6)]

/-- 'palanquinlaw21.RingPlays': WHATEVER THE INPUT: true; the input reads as it did. -/
def ringPlaysSpec : ChangeSpec := { name := "ringPlays", fn := fun _ => fun
  | [d1, d2, d3, d4, d5] => { results := [.lit (.bool true)], args := [d1, d2, d3, d4, d5] }
  | _ => none }
def ringPlaysRow : OpenClaim := { program := "ytdplailaolfpkaadoor", sum := "e5fe77363be9def5275c44b40f61740f451c34704606cb0af9b4b48f20bdbd6d", func := "palanquin/palanquinlaw21.RingPlays", spec := "ringPlays", unfollowed := true, recurses := true, named := ["palanquin/ring.widths", "palanquin/head.widths"], apart := false, laid := [("palanquin/head.widths", laid_palanquin_head_widths), ("palanquin/ring.widths", laid_palanquin_ring_widths)] }
def RingPlaysSaid : Prop := ringPlaysRow.holds Tryd.pinned (OpenSpec.ofChange ringPlaysSpec)

/-- ITS FALSE NEIGHBOUR: 'it returns false'. Refute it at one input. -/
def ringPlaysWrong : ChangeSpec := { name := "ringPlays", fn := fun _ => fun
  | [d1, d2, d3, d4, d5] => { results := [.lit (.bool false)], args := [d1, d2, d3, d4, d5] }
  | _ => none }
def RingPlaysWrongFalsely : Prop := ringPlaysRow.holds Tryd.pinned (OpenSpec.ofChange ringPlaysWrong)

/-- 'palanquinlaw21.RingOrder': WHATEVER THE INPUT: true; the input reads as it did. -/
def ringOrderSpec : ChangeSpec := { name := "ringOrder", fn := fun _ => fun
  | [d1, d2] => { results := [.lit (.bool true)], args := [d1, d2] }
  | _ => none }
def ringOrderRow : OpenClaim := { program := "ytdplailaolfpkaadoor", sum := "e5fe77363be9def5275c44b40f61740f451c34704606cb0af9b4b48f20bdbd6d", func := "palanquin/palanquinlaw21.RingOrder", spec := "ringOrder", unfollowed := true, recurses := true, named := ["palanquin/head.widths", "palanquin/ring.widths"], apart := false, laid := [("palanquin/head.widths", laid_palanquin_head_widths), ("palanquin/ring.widths", laid_palanquin_ring_widths)] }
def RingOrderSaid : Prop := ringOrderRow.holds Tryd.pinned (OpenSpec.ofChange ringOrderSpec)

/-- ITS FALSE NEIGHBOUR: 'it returns false'. Refute it at one input. -/
def ringOrderWrong : ChangeSpec := { name := "ringOrder", fn := fun _ => fun
  | [d1, d2] => { results := [.lit (.bool false)], args := [d1, d2] }
  | _ => none }
def RingOrderWrongFalsely : Prop := ringOrderRow.holds Tryd.pinned (OpenSpec.ofChange ringOrderWrong)

/-- 'palanquinlaw21.RingWords': WHATEVER THE INPUT: true; the input reads as it did. -/
def ringWordsSpec : ChangeSpec := { name := "ringWords", fn := fun _ => fun
  | [d1, d2, d3] => { results := [.lit (.bool true)], args := [d1, d2, d3] }
  | _ => none }
def ringWordsRow : OpenClaim := { program := "ytdplailaolfpkaadoor", sum := "e5fe77363be9def5275c44b40f61740f451c34704606cb0af9b4b48f20bdbd6d", func := "palanquin/palanquinlaw21.RingWords", spec := "ringWords", unfollowed := true, recurses := true, named := ["palanquin/ring.widths"], apart := false, laid := [("palanquin/ring.widths", laid_palanquin_ring_widths)] }
def RingWordsSaid : Prop := ringWordsRow.holds Tryd.pinned (OpenSpec.ofChange ringWordsSpec)

/-- ITS FALSE NEIGHBOUR: 'it returns false'. Refute it at one input. -/
def ringWordsWrong : ChangeSpec := { name := "ringWords", fn := fun _ => fun
  | [d1, d2, d3] => { results := [.lit (.bool false)], args := [d1, d2, d3] }
  | _ => none }
def RingWordsWrongFalsely : Prop := ringWordsRow.holds Tryd.pinned (OpenSpec.ofChange ringWordsWrong)

/- THE SECOND FORM. 'bulk': how many values and letters a reading holds, each counted each time it is reached (what is shared counts as often as it is met; a slice's spare places count too). A statement '..UptoSaid' is the law's where the arguments, and the package variables that the reading takes, are together of bulk at most 1048576: NARROWER than '..Said'. Prove '..Said' where nothing that the law and all that it calls make is longer than what came in: it says more and counts as full. Else prove '..UptoSaid'. A law counts once. -/
mutual
def uptoBulk {H : Type} : DataW H → Nat
  | .lit (.string bytes) => bytes.length + 1
  | .lit _ => 1
  | .nil => 1
  | .ptr d => uptoBulk d + 1
  | .slice elems spare => uptoBulkAll elems + uptoBulkAll spare + 1
  | .agg parts => uptoBulkAll parts + 1
  | .iface _ d => uptoBulk d + 1
  | .map entries => uptoBulkEntries entries + 1
  | .held _ => 1
def uptoBulkAll {H : Type} : List (DataW H) → Nat
  | [] => 0
  | d :: r => uptoBulk d + uptoBulkAll r
def uptoBulkEntries {H : Type} : List (Lit × DataW H) → Nat
  | [] => 0
  | x :: r => uptoBulkEntry x + uptoBulkEntries r
def uptoBulkEntry {H : Type} : Lit × DataW H → Nat
  | (.string bytes, d) => bytes.length + uptoBulk d + 1
  | (_, d) => uptoBulk d + 1
 end
def uptoSmall : (H : Type) → List (DataW H) → Bool := fun _ ds => decide (uptoBulkAll ds ≤ 1048576)
def OpenSpec.upto (s : _root_.Go.ChangeSpec) : _root_.Go.OpenSpec := { _root_.Go.OpenSpec.ofChange s with cond := some uptoSmall }

/-- 'palanquinlaw21.RingPlays', WHERE WHAT IT READS IS OF BULK AT MOST 1048576: true; the input reads as it did. -/
def ringPlaysUptoRow : OpenClaim := { program := "ytdplailaolfpkaadoor", sum := "e5fe77363be9def5275c44b40f61740f451c34704606cb0af9b4b48f20bdbd6d", func := "palanquin/palanquinlaw21.RingPlays", spec := "ringPlays", unfollowed := true, recurses := true, named := ["palanquin/ring.widths", "palanquin/head.widths"], apart := false, laid := [("palanquin/head.widths", laid_palanquin_head_widths), ("palanquin/ring.widths", laid_palanquin_ring_widths)], narrowed := true }
def RingPlaysUptoSaid : Prop := ringPlaysUptoRow.holds Tryd.pinned (OpenSpec.upto ringPlaysSpec)

/-- 'palanquinlaw21.RingOrder', WHERE WHAT IT READS IS OF BULK AT MOST 1048576: true; the input reads as it did. -/
def ringOrderUptoRow : OpenClaim := { program := "ytdplailaolfpkaadoor", sum := "e5fe77363be9def5275c44b40f61740f451c34704606cb0af9b4b48f20bdbd6d", func := "palanquin/palanquinlaw21.RingOrder", spec := "ringOrder", unfollowed := true, recurses := true, named := ["palanquin/head.widths", "palanquin/ring.widths"], apart := false, laid := [("palanquin/head.widths", laid_palanquin_head_widths), ("palanquin/ring.widths", laid_palanquin_ring_widths)], narrowed := true }
def RingOrderUptoSaid : Prop := ringOrderUptoRow.holds Tryd.pinned (OpenSpec.upto ringOrderSpec)

/-- 'palanquinlaw21.RingWords', WHERE WHAT IT READS IS OF BULK AT MOST 1048576: true; the input reads as it did. -/
def ringWordsUptoRow : OpenClaim := { program := "ytdplailaolfpkaadoor", sum := "e5fe77363be9def5275c44b40f61740f451c34704606cb0af9b4b48f20bdbd6d", func := "palanquin/palanquinlaw21.RingWords", spec := "ringWords", unfollowed := true, recurses := true, named := ["palanquin/ring.widths"], apart := false, laid := [("palanquin/ring.widths", laid_palanquin_ring_widths)], narrowed := true }
def RingWordsUptoSaid : Prop := ringWordsUptoRow.holds Tryd.pinned (OpenSpec.upto ringWordsSpec)

end Rows
end Go.Proofs.YtdplailaolfpkaaDoor
