/-
  NARROWER THAN 'FOR EVERY INPUT', by the rows' own cells (each row's printed sentence says how): ThdBack: laid · ThdZero: laid.
  DERIVED. THE GIVEN ROWS OF THIS SEAT. 2 by the template 'for every input the law returns true; each argument reads behind the call as it read before'; 0 by the template 'total and deterministic' (their statements: YtaajacmbnigadaaDoorTotals.lean).
  GIVEN WITH THE SEED: the statements are not yours to turn. If you find one false, say at which input.
  Laid BY PROGRAM, IN A SANDBOX (cutbox-rows.mjs): the forced cells as the released guide's own fill.sh prints them over the translation 715980cb318b39fb… (all of the seat's roots in one cut). By AI agents, Wed Nov 11 2026. No macro, syntax, notation, axiom, sorry.
-/
import Derived.Test.YtaajacmbnigadaaDoorChecked
import GoSem.Claim
import GoSem.ClaimJoined
import GoSem.ClaimMapViews
import Derived.JoinedTies
import Derived.KernelRfl
namespace Go.Proofs.YtaajacmbnigadaaDoor
/- THE CELL 'sum', in the pinned program and in every row, IS THE sha256 OF THE DUMP (.gsa) THAT YtaajacmbnigadaaDoorProg.lean LOADS. Nothing in Lean hashes anything: it is a label: what it is worth is what the hold of that sum in a sandbox is worth. -/
noncomputable def Tryd.pinned : Pinned := { name := "ytaajacmbnigadaadoor", sum := "715980cb318b39fbf61ba46f42c21490a96d0f76b2f3e29cacee8e5d5ce855d7", checked := Tryd.checked }
namespace Rows
def none {H : Type} : Left H := { results := [], args := [] }

/- WHAT THE LISTED PACKAGE-LEVEL VARIABLES READ AS WHEN THE CALL BEGINS. Each datum BY PROGRAM (the guide's laid-datum.mjs) off the statement by which the dump's own 'gosem.cut.vars' lays the variable. In a bare row this is a premise. The card (YtaajacmbnigadaaDoorCards.lean) ties it to the program's text. -/
def laid_palanquin_head_widths {H : Type} : DataW H := .agg [.lit (.int .i64 4), .lit (.int .i64 1), .lit (.int .i64 1)]

/-- 'palanquinlaw18.ThdBack': WHATEVER THE INPUT: true; the input reads as it did. -/
def thdBackSpec : ChangeSpec := { name := "thdBack", fn := fun _ => fun
  | [d1, d2, d3] => { results := [.lit (.bool true)], args := [d1, d2, d3] }
  | _ => none }
def thdBackRow : OpenClaim := { program := "ytaajacmbnigadaadoor", sum := "715980cb318b39fbf61ba46f42c21490a96d0f76b2f3e29cacee8e5d5ce855d7", func := "palanquin/palanquinlaw18.ThdBack", spec := "thdBack", unfollowed := true, recurses := true, named := ["palanquin/head.widths"], apart := false, laid := [("palanquin/head.widths", laid_palanquin_head_widths)] }
def ThdBackSaid : Prop := thdBackRow.holds Tryd.pinned (OpenSpec.ofChange thdBackSpec)

/-- ITS FALSE NEIGHBOUR: 'it returns false'. Refute it at one input. -/
def thdBackWrong : ChangeSpec := { name := "thdBack", fn := fun _ => fun
  | [d1, d2, d3] => { results := [.lit (.bool false)], args := [d1, d2, d3] }
  | _ => none }
def ThdBackWrongFalsely : Prop := thdBackRow.holds Tryd.pinned (OpenSpec.ofChange thdBackWrong)

/-- 'palanquinlaw18.ThdZero': WHATEVER THE INPUT: true; the input reads as it did. -/
def thdZeroSpec : ChangeSpec := { name := "thdZero", fn := fun _ => fun
  | [d] => { results := [.lit (.bool true)], args := [d] }
  | _ => none }
def thdZeroRow : OpenClaim := { program := "ytaajacmbnigadaadoor", sum := "715980cb318b39fbf61ba46f42c21490a96d0f76b2f3e29cacee8e5d5ce855d7", func := "palanquin/palanquinlaw18.ThdZero", spec := "thdZero", unfollowed := true, recurses := true, named := ["palanquin/head.widths"], apart := false, laid := [("palanquin/head.widths", laid_palanquin_head_widths)] }
def ThdZeroSaid : Prop := thdZeroRow.holds Tryd.pinned (OpenSpec.ofChange thdZeroSpec)

/-- ITS FALSE NEIGHBOUR: 'it returns false'. Refute it at one input. -/
def thdZeroWrong : ChangeSpec := { name := "thdZero", fn := fun _ => fun
  | [d] => { results := [.lit (.bool false)], args := [d] }
  | _ => none }
def ThdZeroWrongFalsely : Prop := thdZeroRow.holds Tryd.pinned (OpenSpec.ofChange thdZeroWrong)

/- THE SECOND FORM. 'bulk': how many values and letters a reading holds, each counted each time it is reached (what is shared counts as often as it is met; a slice's spare places count too). A statement '..UptoSaid' is the law's where the arguments, and the package variables that the reading takes, are together of bulk at most 1048576: NARROWER than '..Said'. Prove '..Said' where nothing that the law and all that it calls make is longer than what came in: it says more and counts as full. Else prove '..UptoSaid'. A law counts once. -/
mutual
def uptoBulk {H : Type} : DataW H → Nat
  | .lit (.string bytes) => bytes.length + 1
  | .lit _ => 1
  | .nil => 1
  | .ptr d => uptoBulk d + 1
  | .slice elems spare => uptoBulkAll elems + uptoBulkAll spare + 1
  | .agg parts => uptoBulkAll parts + 1
  | .iface _ d => uptoBulk d + 1
  | .map entries => uptoBulkEntries entries + 1
  | .held _ => 1
def uptoBulkAll {H : Type} : List (DataW H) → Nat
  | [] => 0
  | d :: r => uptoBulk d + uptoBulkAll r
def uptoBulkEntries {H : Type} : List (Lit × DataW H) → Nat
  | [] => 0
  | x :: r => uptoBulkEntry x + uptoBulkEntries r
def uptoBulkEntry {H : Type} : Lit × DataW H → Nat
  | (.string bytes, d) => bytes.length + uptoBulk d + 1
  | (_, d) => uptoBulk d + 1
 end
def uptoSmall : (H : Type) → List (DataW H) → Bool := fun _ ds => decide (uptoBulkAll ds ≤ 1048576)
def OpenSpec.upto (s : _root_.Go.ChangeSpec) : _root_.Go.OpenSpec := { _root_.Go.OpenSpec.ofChange s with cond := some uptoSmall }

/-- 'palanquinlaw18.ThdBack', WHERE WHAT IT READS IS OF BULK AT MOST 1048576: true; the input reads as it did. -/
def thdBackUptoRow : OpenClaim := { program := "ytaajacmbnigadaadoor", sum := "715980cb318b39fbf61ba46f42c21490a96d0f76b2f3e29cacee8e5d5ce855d7", func := "palanquin/palanquinlaw18.ThdBack", spec := "thdBack", unfollowed := true, recurses := true, named := ["palanquin/head.widths"], apart := false, laid := [("palanquin/head.widths", laid_palanquin_head_widths)], narrowed := true }
def ThdBackUptoSaid : Prop := thdBackUptoRow.holds Tryd.pinned (OpenSpec.upto thdBackSpec)

/-- 'palanquinlaw18.ThdZero', WHERE WHAT IT READS IS OF BULK AT MOST 1048576: true; the input reads as it did. -/
def thdZeroUptoRow : OpenClaim := { program := "ytaajacmbnigadaadoor", sum := "715980cb318b39fbf61ba46f42c21490a96d0f76b2f3e29cacee8e5d5ce855d7", func := "palanquin/palanquinlaw18.ThdZero", spec := "thdZero", unfollowed := true, recurses := true, named := ["palanquin/head.widths"], apart := false, laid := [("palanquin/head.widths", laid_palanquin_head_widths)], narrowed := true }
def ThdZeroUptoSaid : Prop := thdZeroUptoRow.holds Tryd.pinned (OpenSpec.upto thdZeroSpec)

end Rows
end Go.Proofs.YtaajacmbnigadaaDoor
