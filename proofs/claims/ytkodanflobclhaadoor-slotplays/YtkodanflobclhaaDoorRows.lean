/-
  NARROWER THAN 'FOR EVERY INPUT', by the rows' own cells (each row's printed sentence says how): SlotPlays: laid · SlotOne: laid · SlotFirst: laid.
  DERIVED. THE GIVEN ROWS OF THIS SEAT. 3 by the template 'for every input the law returns true; each argument reads behind the call as it read before'; 0 by the template 'total and deterministic' (their statements: YtkodanflobclhaaDoorTotals.lean).
  GIVEN WITH THE SEED: the statements are not yours to turn. If you find one false, say at which input.
  Laid BY PROGRAM, IN A SANDBOX (cutbox-rows.mjs): the forced cells as the released guide's own fill.sh prints them over the translation 99fa976c663fd3d4… (all of the seat's roots in one cut). By AI agents, Wed Nov 11 2026. No macro, syntax, notation, axiom, sorry.
-/
import Derived.Test.YtkodanflobclhaaDoorChecked
import GoSem.Claim
import GoSem.ClaimJoined
import GoSem.ClaimMapViews
import Derived.JoinedTies
import Derived.KernelRfl
namespace Go.Proofs.YtkodanflobclhaaDoor
/- THE CELL 'sum', in the pinned program and in every row, IS THE sha256 OF THE DUMP (.gsa) THAT YtkodanflobclhaaDoorProg.lean LOADS. Nothing in Lean hashes anything: it is a label: what it is worth is what the hold of that sum in a sandbox is worth. -/
noncomputable def Tryd.pinned : Pinned := { name := "ytkodanflobclhaadoor", sum := "99fa976c663fd3d4c755aa67ccc023e9c215dc46b457629891324432d513546c", checked := Tryd.checked }
namespace Rows
def none {H : Type} : Left H := { results := [], args := [] }

/- WHAT THE LISTED PACKAGE-LEVEL VARIABLES READ AS WHEN THE CALL BEGINS. Each datum BY PROGRAM (the guide's laid-datum.mjs) off the statement by which the dump's own 'gosem.cut.vars' lays the variable. In a bare row this is a premise. The card (YtkodanflobclhaaDoorCards.lean) ties it to the program's text. -/
def laid_palanquin_cap_widths {H : Type} : DataW H := .agg [.lit (.int .i64 4), .lit (.int .i64 5), .lit (.int .i64 6), .lit (.int .i64 6), .lit (.int .i64 16)]
def laid_palanquin_cap_most {H : Type} : DataW H := .agg [.agg [.lit (.int .i64 0), .lit (.int .i64 0), .lit (.int .i64 0), .lit (.int .i64 0), .lit (.int .i64 0), .lit (.int .i64 0)], .agg [.lit (.int .i64 0), .lit (.int .i64 0), .lit (.int .i64 0), .lit (.int .i64 0), .lit (.int .i64 0), .lit (.int .i64 1073741824)], .agg [.lit (.int .i64 0), .lit (.int .i64 31), .lit (.int .i64 63), .lit (.int .i64 0), .lit (.int .i64 0), .lit (.int .i64 64)], .agg [.lit (.int .i64 0), .lit (.int .i64 31), .lit (.int .i64 63), .lit (.int .i64 0), .lit (.int .i64 0), .lit (.int .i64 0)], .agg [.lit (.int .i64 0), .lit (.int .i64 31), .lit (.int .i64 63), .lit (.int .i64 0), .lit (.int .i64 0), .lit (.int .i64 0)], .agg [.lit (.int .i64 0), .lit (.int .i64 31), .lit (.int .i64 63), .lit (.int .i64 63), .lit (.int .i64 65535), .lit (.int .i64 0)], .agg [.lit (.int .i64 0), .lit (.int .i64 31), .lit (.int .i64 63), .lit (.int .i64 0), .lit (.int .i64 0), .lit (.int .i64 0)], .agg [.lit (.int .i64 0), .lit (.int .i64 31), .lit (.int .i64 63), .lit (.int .i64 63), .lit (.int .i64 65535), .lit (.int .i64 1073741824)], .agg [.lit (.int .i64 0), .lit (.int .i64 31), .lit (.int .i64 63), .lit (.int .i64 0), .lit (.int .i64 0), .lit (.int .i64 0)], .agg [.lit (.int .i64 0), .lit (.int .i64 31), .lit (.int .i64 63), .lit (.int .i64 0), .lit (.int .i64 0), .lit (.int .i64 0)], .agg [.lit (.int .i64 0), .lit (.int .i64 31), .lit (.int .i64 63), .lit (.int .i64 0), .lit (.int .i64 0), .lit (.int .i64 0)], .agg [.lit (.int .i64 0), .lit (.int .i64 31), .lit (.int .i64 0), .lit (.int .i64 0), .lit (.int .i64 0), .lit (.int .i64 0)]]

/-- 'palanquinlaw11.SlotPlays': WHATEVER THE INPUT: true; the input reads as it did. -/
def slotPlaysSpec : ChangeSpec := { name := "slotPlays", fn := fun _ => fun
  | [d1, d2, d3, d4] => { results := [.lit (.bool true)], args := [d1, d2, d3, d4] }
  | _ => none }
def slotPlaysRow : OpenClaim := { program := "ytkodanflobclhaadoor", sum := "99fa976c663fd3d4c755aa67ccc023e9c215dc46b457629891324432d513546c", func := "palanquin/palanquinlaw11.SlotPlays", spec := "slotPlays", unfollowed := true, recurses := true, named := ["palanquin/cap.widths", "palanquin/cap.most"], apart := false, laid := [("palanquin/cap.widths", laid_palanquin_cap_widths), ("palanquin/cap.most", laid_palanquin_cap_most)] }
def SlotPlaysSaid : Prop := slotPlaysRow.holds Tryd.pinned (OpenSpec.ofChange slotPlaysSpec)

/-- ITS FALSE NEIGHBOUR: 'it returns false'. Refute it at one input. -/
def slotPlaysWrong : ChangeSpec := { name := "slotPlays", fn := fun _ => fun
  | [d1, d2, d3, d4] => { results := [.lit (.bool false)], args := [d1, d2, d3, d4] }
  | _ => none }
def SlotPlaysWrongFalsely : Prop := slotPlaysRow.holds Tryd.pinned (OpenSpec.ofChange slotPlaysWrong)

/-- 'palanquinlaw11.SlotOne': WHATEVER THE INPUT: true; the input reads as it did. -/
def slotOneSpec : ChangeSpec := { name := "slotOne", fn := fun _ => fun
  | [d1, d2, d3] => { results := [.lit (.bool true)], args := [d1, d2, d3] }
  | _ => none }
def slotOneRow : OpenClaim := { program := "ytkodanflobclhaadoor", sum := "99fa976c663fd3d4c755aa67ccc023e9c215dc46b457629891324432d513546c", func := "palanquin/palanquinlaw11.SlotOne", spec := "slotOne", unfollowed := true, recurses := true, named := ["palanquin/cap.widths", "palanquin/cap.most"], apart := false, laid := [("palanquin/cap.widths", laid_palanquin_cap_widths), ("palanquin/cap.most", laid_palanquin_cap_most)] }
def SlotOneSaid : Prop := slotOneRow.holds Tryd.pinned (OpenSpec.ofChange slotOneSpec)

/-- ITS FALSE NEIGHBOUR: 'it returns false'. Refute it at one input. -/
def slotOneWrong : ChangeSpec := { name := "slotOne", fn := fun _ => fun
  | [d1, d2, d3] => { results := [.lit (.bool false)], args := [d1, d2, d3] }
  | _ => none }
def SlotOneWrongFalsely : Prop := slotOneRow.holds Tryd.pinned (OpenSpec.ofChange slotOneWrong)

/-- 'palanquinlaw11.SlotFirst': WHATEVER THE INPUT: true; the input reads as it did. -/
def slotFirstSpec : ChangeSpec := { name := "slotFirst", fn := fun _ => fun
  | [d] => { results := [.lit (.bool true)], args := [d] }
  | _ => none }
def slotFirstRow : OpenClaim := { program := "ytkodanflobclhaadoor", sum := "99fa976c663fd3d4c755aa67ccc023e9c215dc46b457629891324432d513546c", func := "palanquin/palanquinlaw11.SlotFirst", spec := "slotFirst", unfollowed := true, recurses := true, named := ["palanquin/cap.widths", "palanquin/cap.most"], apart := false, laid := [("palanquin/cap.widths", laid_palanquin_cap_widths), ("palanquin/cap.most", laid_palanquin_cap_most)] }
def SlotFirstSaid : Prop := slotFirstRow.holds Tryd.pinned (OpenSpec.ofChange slotFirstSpec)

/-- ITS FALSE NEIGHBOUR: 'it returns false'. Refute it at one input. -/
def slotFirstWrong : ChangeSpec := { name := "slotFirst", fn := fun _ => fun
  | [d] => { results := [.lit (.bool false)], args := [d] }
  | _ => none }
def SlotFirstWrongFalsely : Prop := slotFirstRow.holds Tryd.pinned (OpenSpec.ofChange slotFirstWrong)

/- THE SECOND FORM. 'bulk': how many values and letters a reading holds, each counted each time it is reached (what is shared counts as often as it is met; a slice's spare places count too). A statement '..UptoSaid' is the law's where the arguments, and the package variables that the reading takes, are together of bulk at most 1048576: NARROWER than '..Said'. Prove '..Said' where nothing that the law and all that it calls make is longer than what came in: it says more and counts as full. Else prove '..UptoSaid'. A law counts once. -/
mutual
def uptoBulk {H : Type} : DataW H → Nat
  | .lit (.string bytes) => bytes.length + 1
  | .lit _ => 1
  | .nil => 1
  | .ptr d => uptoBulk d + 1
  | .slice elems spare => uptoBulkAll elems + uptoBulkAll spare + 1
  | .agg parts => uptoBulkAll parts + 1
  | .iface _ d => uptoBulk d + 1
  | .map entries => uptoBulkEntries entries + 1
  | .held _ => 1
def uptoBulkAll {H : Type} : List (DataW H) → Nat
  | [] => 0
  | d :: r => uptoBulk d + uptoBulkAll r
def uptoBulkEntries {H : Type} : List (Lit × DataW H) → Nat
  | [] => 0
  | x :: r => uptoBulkEntry x + uptoBulkEntries r
def uptoBulkEntry {H : Type} : Lit × DataW H → Nat
  | (.string bytes, d) => bytes.length + uptoBulk d + 1
  | (_, d) => uptoBulk d + 1
 end
def uptoSmall : (H : Type) → List (DataW H) → Bool := fun _ ds => decide (uptoBulkAll ds ≤ 1048576)
def OpenSpec.upto (s : _root_.Go.ChangeSpec) : _root_.Go.OpenSpec := { _root_.Go.OpenSpec.ofChange s with cond := some uptoSmall }

/-- 'palanquinlaw11.SlotPlays', WHERE WHAT IT READS IS OF BULK AT MOST 1048576: true; the input reads as it did. -/
def slotPlaysUptoRow : OpenClaim := { program := "ytkodanflobclhaadoor", sum := "99fa976c663fd3d4c755aa67ccc023e9c215dc46b457629891324432d513546c", func := "palanquin/palanquinlaw11.SlotPlays", spec := "slotPlays", unfollowed := true, recurses := true, named := ["palanquin/cap.widths", "palanquin/cap.most"], apart := false, laid := [("palanquin/cap.widths", laid_palanquin_cap_widths), ("palanquin/cap.most", laid_palanquin_cap_most)], narrowed := true }
def SlotPlaysUptoSaid : Prop := slotPlaysUptoRow.holds Tryd.pinned (OpenSpec.upto slotPlaysSpec)

/-- 'palanquinlaw11.SlotOne', WHERE WHAT IT READS IS OF BULK AT MOST 1048576: true; the input reads as it did. -/
def slotOneUptoRow : OpenClaim := { program := "ytkodanflobclhaadoor", sum := "99fa976c663fd3d4c755aa67ccc023e9c215dc46b457629891324432d513546c", func := "palanquin/palanquinlaw11.SlotOne", spec := "slotOne", unfollowed := true, recurses := true, named := ["palanquin/cap.widths", "palanquin/cap.most"], apart := false, laid := [("palanquin/cap.widths", laid_palanquin_cap_widths), ("palanquin/cap.most", laid_palanquin_cap_most)], narrowed := true }
def SlotOneUptoSaid : Prop := slotOneUptoRow.holds Tryd.pinned (OpenSpec.upto slotOneSpec)

/-- 'palanquinlaw11.SlotFirst', WHERE WHAT IT READS IS OF BULK AT MOST 1048576: true; the input reads as it did. -/
def slotFirstUptoRow : OpenClaim := { program := "ytkodanflobclhaadoor", sum := "99fa976c663fd3d4c755aa67ccc023e9c215dc46b457629891324432d513546c", func := "palanquin/palanquinlaw11.SlotFirst", spec := "slotFirst", unfollowed := true, recurses := true, named := ["palanquin/cap.widths", "palanquin/cap.most"], apart := false, laid := [("palanquin/cap.widths", laid_palanquin_cap_widths), ("palanquin/cap.most", laid_palanquin_cap_most)], narrowed := true }
def SlotFirstUptoSaid : Prop := slotFirstUptoRow.holds Tryd.pinned (OpenSpec.upto slotFirstSpec)

end Rows
end Go.Proofs.YtkodanflobclhaaDoor
