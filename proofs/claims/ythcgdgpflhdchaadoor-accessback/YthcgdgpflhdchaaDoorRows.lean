/-
  NARROWER THAN 'FOR EVERY INPUT', by the rows' own cells (each row's printed sentence says how): AccessBack: laid · AccessStale: laid · AccessZero: laid.
  DERIVED. THE GIVEN ROWS OF THIS SEAT. 3 by the template 'for every input the law returns true; each argument reads behind the call as it read before'; 0 by the template 'total and deterministic' (their statements: YthcgdgpflhdchaaDoorTotals.lean).
  GIVEN WITH THE SEED: the statements are not yours to turn. If you find one false, say at which input.
  Laid BY PROGRAM, IN A SANDBOX (cutbox-rows.mjs): the forced cells as the released guide's own fill.sh prints them over the translation 97e6aa4ab02cf827… (all of the seat's roots in one cut). By AI agents, Wed Nov 11 2026. No macro, syntax, notation, axiom, sorry.
-/
import Derived.Test.YthcgdgpflhdchaaDoorChecked
import GoSem.Claim
import GoSem.ClaimJoined
import GoSem.ClaimMapViews
import Derived.JoinedTies
import Derived.KernelRfl
namespace Go.Proofs.YthcgdgpflhdchaaDoor
/- THE CELL 'sum', in the pinned program and in every row, IS THE sha256 OF THE DUMP (.gsa) THAT YthcgdgpflhdchaaDoorProg.lean LOADS. Nothing in Lean hashes anything: it is a label: what it is worth is what the hold of that sum in a sandbox is worth. -/
noncomputable def Tryd.pinned : Pinned := { name := "ythcgdgpflhdchaadoor", sum := "97e6aa4ab02cf82728ee678c7fd15eec4f2c1460c9433a7bf60fcd62ac43a0c6", checked := Tryd.checked }
namespace Rows
def none {H : Type} : Left H := { results := [], args := [] }

/- WHAT THE LISTED PACKAGE-LEVEL VARIABLES READ AS WHEN THE CALL BEGINS. Each datum BY PROGRAM (the guide's laid-datum.mjs) off the statement by which the dump's own 'gosem.cut.vars' lays the variable. In a bare row this is a premise. The card (YthcgdgpflhdchaaDoorCards.lean) ties it to the program's text. -/
def laid_palanquin_head_widths {H : Type} : DataW H := .agg [.lit (.int .i64 4), .lit (.int .i64 1), .lit (.int .i64 1)]
def laid_palanquin_pte_widths {H : Type} : DataW H := .agg [.lit (.int .i64 1), .lit (.int .i64 6), .lit (.int .i64 2), .lit (.int .i64 31)]
def laid_palanquin_radix_pageWidths {H : Type} : DataW H := .agg [.lit (.int .i64 5), .lit (.int .i64 5), .lit (.int .i64 5)]
def laid_palanquin_access_needs {H : Type} : DataW H := .agg [.lit (.int .i64 1), .lit (.int .i64 2)]

/-- 'palanquinlaw16.AccessBack': WHATEVER THE INPUT: true; the input reads as it did. -/
def accessBackSpec : ChangeSpec := { name := "accessBack", fn := fun _ => fun
  | [d1, d2, d3, d4, d5] => { results := [.lit (.bool true)], args := [d1, d2, d3, d4, d5] }
  | _ => none }
def accessBackRow : OpenClaim := { program := "ythcgdgpflhdchaadoor", sum := "97e6aa4ab02cf82728ee678c7fd15eec4f2c1460c9433a7bf60fcd62ac43a0c6", func := "palanquin/palanquinlaw16.AccessBack", spec := "accessBack", unfollowed := true, recurses := true, named := ["palanquin/head.widths", "palanquin/pte.widths", "palanquin/radix.pageWidths", "palanquin/access.needs"], plainKeys := false, apart := false, laid := [("palanquin/head.widths", laid_palanquin_head_widths), ("palanquin/pte.widths", laid_palanquin_pte_widths), ("palanquin/radix.pageWidths", laid_palanquin_radix_pageWidths), ("palanquin/access.needs", laid_palanquin_access_needs)] }
def AccessBackSaid : Prop := accessBackRow.holds Tryd.pinned (OpenSpec.ofChange accessBackSpec)

/-- ITS FALSE NEIGHBOUR: 'it returns false'. Refute it at one input. -/
def accessBackWrong : ChangeSpec := { name := "accessBack", fn := fun _ => fun
  | [d1, d2, d3, d4, d5] => { results := [.lit (.bool false)], args := [d1, d2, d3, d4, d5] }
  | _ => none }
def AccessBackWrongFalsely : Prop := accessBackRow.holds Tryd.pinned (OpenSpec.ofChange accessBackWrong)

/-- 'palanquinlaw16.AccessStale': WHATEVER THE INPUT: true; the input reads as it did. -/
def accessStaleSpec : ChangeSpec := { name := "accessStale", fn := fun _ => fun
  | [d1, d2, d3] => { results := [.lit (.bool true)], args := [d1, d2, d3] }
  | _ => none }
def accessStaleRow : OpenClaim := { program := "ythcgdgpflhdchaadoor", sum := "97e6aa4ab02cf82728ee678c7fd15eec4f2c1460c9433a7bf60fcd62ac43a0c6", func := "palanquin/palanquinlaw16.AccessStale", spec := "accessStale", unfollowed := true, recurses := true, named := ["palanquin/head.widths", "palanquin/pte.widths", "palanquin/radix.pageWidths", "palanquin/access.needs"], plainKeys := false, apart := false, laid := [("palanquin/head.widths", laid_palanquin_head_widths), ("palanquin/pte.widths", laid_palanquin_pte_widths), ("palanquin/radix.pageWidths", laid_palanquin_radix_pageWidths), ("palanquin/access.needs", laid_palanquin_access_needs)] }
def AccessStaleSaid : Prop := accessStaleRow.holds Tryd.pinned (OpenSpec.ofChange accessStaleSpec)

/-- ITS FALSE NEIGHBOUR: 'it returns false'. Refute it at one input. -/
def accessStaleWrong : ChangeSpec := { name := "accessStale", fn := fun _ => fun
  | [d1, d2, d3] => { results := [.lit (.bool false)], args := [d1, d2, d3] }
  | _ => none }
def AccessStaleWrongFalsely : Prop := accessStaleRow.holds Tryd.pinned (OpenSpec.ofChange accessStaleWrong)

/-- 'palanquinlaw16.AccessZero': WHATEVER THE INPUT: true; the input reads as it did. -/
def accessZeroSpec : ChangeSpec := { name := "accessZero", fn := fun _ => fun
  | [d1, d2] => { results := [.lit (.bool true)], args := [d1, d2] }
  | _ => none }
def accessZeroRow : OpenClaim := { program := "ythcgdgpflhdchaadoor", sum := "97e6aa4ab02cf82728ee678c7fd15eec4f2c1460c9433a7bf60fcd62ac43a0c6", func := "palanquin/palanquinlaw16.AccessZero", spec := "accessZero", unfollowed := true, recurses := true, named := ["palanquin/access.needs", "palanquin/radix.pageWidths", "palanquin/head.widths", "palanquin/pte.widths"], plainKeys := false, apart := false, laid := [("palanquin/head.widths", laid_palanquin_head_widths), ("palanquin/pte.widths", laid_palanquin_pte_widths), ("palanquin/radix.pageWidths", laid_palanquin_radix_pageWidths), ("palanquin/access.needs", laid_palanquin_access_needs)] }
def AccessZeroSaid : Prop := accessZeroRow.holds Tryd.pinned (OpenSpec.ofChange accessZeroSpec)

/-- ITS FALSE NEIGHBOUR: 'it returns false'. Refute it at one input. -/
def accessZeroWrong : ChangeSpec := { name := "accessZero", fn := fun _ => fun
  | [d1, d2] => { results := [.lit (.bool false)], args := [d1, d2] }
  | _ => none }
def AccessZeroWrongFalsely : Prop := accessZeroRow.holds Tryd.pinned (OpenSpec.ofChange accessZeroWrong)

/- THE SECOND FORM. 'bulk': how many values and letters a reading holds, each counted each time it is reached (what is shared counts as often as it is met; a slice's spare places count too). A statement '..UptoSaid' is the law's where the arguments, and the package variables that the reading takes, are together of bulk at most 1048576: NARROWER than '..Said'. Prove '..Said' where nothing that the law and all that it calls make is longer than what came in: it says more and counts as full. Else prove '..UptoSaid'. A law counts once. -/
mutual
def uptoBulk {H : Type} : DataW H → Nat
  | .lit (.string bytes) => bytes.length + 1
  | .lit _ => 1
  | .nil => 1
  | .ptr d => uptoBulk d + 1
  | .slice elems spare => uptoBulkAll elems + uptoBulkAll spare + 1
  | .agg parts => uptoBulkAll parts + 1
  | .iface _ d => uptoBulk d + 1
  | .map entries => uptoBulkEntries entries + 1
  | .held _ => 1
def uptoBulkAll {H : Type} : List (DataW H) → Nat
  | [] => 0
  | d :: r => uptoBulk d + uptoBulkAll r
def uptoBulkEntries {H : Type} : List (Lit × DataW H) → Nat
  | [] => 0
  | x :: r => uptoBulkEntry x + uptoBulkEntries r
def uptoBulkEntry {H : Type} : Lit × DataW H → Nat
  | (.string bytes, d) => bytes.length + uptoBulk d + 1
  | (_, d) => uptoBulk d + 1
 end
def uptoSmall : (H : Type) → List (DataW H) → Bool := fun _ ds => decide (uptoBulkAll ds ≤ 1048576)
def OpenSpec.upto (s : _root_.Go.ChangeSpec) : _root_.Go.OpenSpec := { _root_.Go.OpenSpec.ofChange s with cond := some uptoSmall }

/-- 'palanquinlaw16.AccessBack', WHERE WHAT IT READS IS OF BULK AT MOST 1048576: true; the input reads as it did. -/
def accessBackUptoRow : OpenClaim := { program := "ythcgdgpflhdchaadoor", sum := "97e6aa4ab02cf82728ee678c7fd15eec4f2c1460c9433a7bf60fcd62ac43a0c6", func := "palanquin/palanquinlaw16.AccessBack", spec := "accessBack", unfollowed := true, recurses := true, named := ["palanquin/head.widths", "palanquin/pte.widths", "palanquin/radix.pageWidths", "palanquin/access.needs"], plainKeys := false, apart := false, laid := [("palanquin/head.widths", laid_palanquin_head_widths), ("palanquin/pte.widths", laid_palanquin_pte_widths), ("palanquin/radix.pageWidths", laid_palanquin_radix_pageWidths), ("palanquin/access.needs", laid_palanquin_access_needs)], narrowed := true }
def AccessBackUptoSaid : Prop := accessBackUptoRow.holds Tryd.pinned (OpenSpec.upto accessBackSpec)

/-- 'palanquinlaw16.AccessStale', WHERE WHAT IT READS IS OF BULK AT MOST 1048576: true; the input reads as it did. -/
def accessStaleUptoRow : OpenClaim := { program := "ythcgdgpflhdchaadoor", sum := "97e6aa4ab02cf82728ee678c7fd15eec4f2c1460c9433a7bf60fcd62ac43a0c6", func := "palanquin/palanquinlaw16.AccessStale", spec := "accessStale", unfollowed := true, recurses := true, named := ["palanquin/head.widths", "palanquin/pte.widths", "palanquin/radix.pageWidths", "palanquin/access.needs"], plainKeys := false, apart := false, laid := [("palanquin/head.widths", laid_palanquin_head_widths), ("palanquin/pte.widths", laid_palanquin_pte_widths), ("palanquin/radix.pageWidths", laid_palanquin_radix_pageWidths), ("palanquin/access.needs", laid_palanquin_access_needs)], narrowed := true }
def AccessStaleUptoSaid : Prop := accessStaleUptoRow.holds Tryd.pinned (OpenSpec.upto accessStaleSpec)

/-- 'palanquinlaw16.AccessZero', WHERE WHAT IT READS IS OF BULK AT MOST 1048576: true; the input reads as it did. -/
def accessZeroUptoRow : OpenClaim := { program := "ythcgdgpflhdchaadoor", sum := "97e6aa4ab02cf82728ee678c7fd15eec4f2c1460c9433a7bf60fcd62ac43a0c6", func := "palanquin/palanquinlaw16.AccessZero", spec := "accessZero", unfollowed := true, recurses := true, named := ["palanquin/access.needs", "palanquin/radix.pageWidths", "palanquin/head.widths", "palanquin/pte.widths"], plainKeys := false, apart := false, laid := [("palanquin/head.widths", laid_palanquin_head_widths), ("palanquin/pte.widths", laid_palanquin_pte_widths), ("palanquin/radix.pageWidths", laid_palanquin_radix_pageWidths), ("palanquin/access.needs", laid_palanquin_access_needs)], narrowed := true }
def AccessZeroUptoSaid : Prop := accessZeroUptoRow.holds Tryd.pinned (OpenSpec.upto accessZeroSpec)

end Rows
end Go.Proofs.YthcgdgpflhdchaaDoor
