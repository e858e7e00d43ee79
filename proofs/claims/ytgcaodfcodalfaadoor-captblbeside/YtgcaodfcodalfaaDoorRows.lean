/-
  NARROWER THAN 'FOR EVERY INPUT', by the rows' own cells (each row's printed sentence says how): CaptblQuiet: laid · CaptblLeaf: laid · CaptblBeside: laid.
  DERIVED. THE GIVEN ROWS OF THIS SEAT. 3 by the template 'for every input the law returns true; each argument reads behind the call as it read before'; 0 by the template 'total and deterministic' (their statements: YtgcaodfcodalfaaDoorTotals.lean).
  GIVEN WITH THE SEED: the statements are not yours to turn. If you find one false, say at which input.
  Laid BY PROGRAM, IN A SANDBOX (cutbox-rows.mjs): the forced cells as the released guide's own fill.sh prints them over the translation 0360f2ff39aa2a73… (all of the seat's roots in one cut). By AI agents, Wed Nov 11 2026. No macro, syntax, notation, axiom, sorry.
-/
import Derived.Test.YtgcaodfcodalfaaDoorChecked
import GoSem.Claim
import GoSem.ClaimJoined
import GoSem.ClaimMapViews
import Derived.JoinedTies
import Derived.KernelRfl
namespace Go.Proofs.YtgcaodfcodalfaaDoor
/- THE CELL 'sum', in the pinned program and in every row, IS THE sha256 OF THE DUMP (.gsa) THAT YtgcaodfcodalfaaDoorProg.lean LOADS. Nothing in Lean hashes anything: it is a label: what it is worth is what the hold of that sum in a sandbox is worth. -/
noncomputable def Tryd.pinned : Pinned := { name := "ytgcaodfcodalfaadoor", sum := "0360f2ff39aa2a73128513320eee65c4b66e4b49f66e71e5587cffde70ecb03d", checked := Tryd.checked }
namespace Rows
def none {H : Type} : Left H := { results := [], args := [] }

/- WHAT THE LISTED PACKAGE-LEVEL VARIABLES READ AS WHEN THE CALL BEGINS. Each datum BY PROGRAM (the guide's laid-datum.mjs) off the statement by which the dump's own 'gosem.cut.vars' lays the variable. In a bare row this is a premise. The card (YtgcaodfcodalfaaDoorCards.lean) ties it to the program's text. -/
def laid_palanquin_cap_widths {H : Type} : DataW H := .agg [.lit (.int .i64 4), .lit (.int .i64 5), .lit (.int .i64 6), .lit (.int .i64 6), .lit (.int .i64 16)]
def laid_palanquin_cap_most {H : Type} : DataW H := .agg [.agg [.lit (.int .i64 0), .lit (.int .i64 0), .lit (.int .i64 0), .lit (.int .i64 0), .lit (.int .i64 0), .lit (.int .i64 0)], .agg [.lit (.int .i64 0), .lit (.int .i64 0), .lit (.int .i64 0), .lit (.int .i64 0), .lit (.int .i64 0), .lit (.int .i64 1073741824)], .agg [.lit (.int .i64 0), .lit (.int .i64 31), .lit (.int .i64 63), .lit (.int .i64 0), .lit (.int .i64 0), .lit (.int .i64 64)], .agg [.lit (.int .i64 0), .lit (.int .i64 31), .lit (.int .i64 63), .lit (.int .i64 0), .lit (.int .i64 0), .lit (.int .i64 0)], .agg [.lit (.int .i64 0), .lit (.int .i64 31), .lit (.int .i64 63), .lit (.int .i64 0), .lit (.int .i64 0), .lit (.int .i64 0)], .agg [.lit (.int .i64 0), .lit (.int .i64 31), .lit (.int .i64 63), .lit (.int .i64 63), .lit (.int .i64 65535), .lit (.int .i64 0)], .agg [.lit (.int .i64 0), .lit (.int .i64 31), .lit (.int .i64 63), .lit (.int .i64 0), .lit (.int .i64 0), .lit (.int .i64 0)], .agg [.lit (.int .i64 0), .lit (.int .i64 31), .lit (.int .i64 63), .lit (.int .i64 63), .lit (.int .i64 65535), .lit (.int .i64 1073741824)], .agg [.lit (.int .i64 0), .lit (.int .i64 31), .lit (.int .i64 63), .lit (.int .i64 0), .lit (.int .i64 0), .lit (.int .i64 0)], .agg [.lit (.int .i64 0), .lit (.int .i64 31), .lit (.int .i64 63), .lit (.int .i64 0), .lit (.int .i64 0), .lit (.int .i64 0)], .agg [.lit (.int .i64 0), .lit (.int .i64 31), .lit (.int .i64 63), .lit (.int .i64 0), .lit (.int .i64 0), .lit (.int .i64 0)], .agg [.lit (.int .i64 0), .lit (.int .i64 31), .lit (.int .i64 0), .lit (.int .i64 0), .lit (.int .i64 0), .lit (.int .i64 0)]]
def laid_palanquin_head_widths {H : Type} : DataW H := .agg [.lit (.int .i64 4), .lit (.int .i64 1), .lit (.int .i64 1)]
def laid_palanquin_radix_slotWidths {H : Type} : DataW H := .agg [.lit (.int .i64 4), .lit (.int .i64 4)]

/-- 'palanquinlaw13.CaptblQuiet': WHATEVER THE INPUT: true; the input reads as it did. -/
def captblQuietSpec : ChangeSpec := { name := "captblQuiet", fn := fun _ => fun
  | [d1, d2, d3, d4, d5] => { results := [.lit (.bool true)], args := [d1, d2, d3, d4, d5] }
  | _ => none }
def captblQuietRow : OpenClaim := { program := "ytgcaodfcodalfaadoor", sum := "0360f2ff39aa2a73128513320eee65c4b66e4b49f66e71e5587cffde70ecb03d", func := "palanquin/palanquinlaw13.CaptblQuiet", spec := "captblQuiet", unfollowed := true, recurses := true, named := ["palanquin/head.widths", "palanquin/cap.widths", "palanquin/cap.most", "palanquin/radix.slotWidths"], apart := false, laid := [("palanquin/cap.widths", laid_palanquin_cap_widths), ("palanquin/cap.most", laid_palanquin_cap_most), ("palanquin/head.widths", laid_palanquin_head_widths), ("palanquin/radix.slotWidths", laid_palanquin_radix_slotWidths)] }
def CaptblQuietSaid : Prop := captblQuietRow.holds Tryd.pinned (OpenSpec.ofChange captblQuietSpec)

/-- ITS FALSE NEIGHBOUR: 'it returns false'. Refute it at one input. -/
def captblQuietWrong : ChangeSpec := { name := "captblQuiet", fn := fun _ => fun
  | [d1, d2, d3, d4, d5] => { results := [.lit (.bool false)], args := [d1, d2, d3, d4, d5] }
  | _ => none }
def CaptblQuietWrongFalsely : Prop := captblQuietRow.holds Tryd.pinned (OpenSpec.ofChange captblQuietWrong)

/-- 'palanquinlaw13.CaptblLeaf': WHATEVER THE INPUT: true; the input reads as it did. -/
def captblLeafSpec : ChangeSpec := { name := "captblLeaf", fn := fun _ => fun
  | [d1, d2, d3, d4, d5] => { results := [.lit (.bool true)], args := [d1, d2, d3, d4, d5] }
  | _ => none }
def captblLeafRow : OpenClaim := { program := "ytgcaodfcodalfaadoor", sum := "0360f2ff39aa2a73128513320eee65c4b66e4b49f66e71e5587cffde70ecb03d", func := "palanquin/palanquinlaw13.CaptblLeaf", spec := "captblLeaf", unfollowed := true, recurses := true, named := ["palanquin/head.widths", "palanquin/cap.widths", "palanquin/cap.most", "palanquin/radix.slotWidths"], apart := false, laid := [("palanquin/cap.widths", laid_palanquin_cap_widths), ("palanquin/cap.most", laid_palanquin_cap_most), ("palanquin/head.widths", laid_palanquin_head_widths), ("palanquin/radix.slotWidths", laid_palanquin_radix_slotWidths)] }
def CaptblLeafSaid : Prop := captblLeafRow.holds Tryd.pinned (OpenSpec.ofChange captblLeafSpec)

/-- ITS FALSE NEIGHBOUR: 'it returns false'. Refute it at one input. -/
def captblLeafWrong : ChangeSpec := { name := "captblLeaf", fn := fun _ => fun
  | [d1, d2, d3, d4, d5] => { results := [.lit (.bool false)], args := [d1, d2, d3, d4, d5] }
  | _ => none }
def CaptblLeafWrongFalsely : Prop := captblLeafRow.holds Tryd.pinned (OpenSpec.ofChange captblLeafWrong)

/-- 'palanquinlaw13.CaptblBeside': WHATEVER THE INPUT: true; the input reads as it did. -/
def captblBesideSpec : ChangeSpec := { name := "captblBeside", fn := fun _ => fun
  | [d1, d2, d3, d4, d5] => { results := [.lit (.bool true)], args := [d1, d2, d3, d4, d5] }
  | _ => none }
def captblBesideRow : OpenClaim := { program := "ytgcaodfcodalfaadoor", sum := "0360f2ff39aa2a73128513320eee65c4b66e4b49f66e71e5587cffde70ecb03d", func := "palanquin/palanquinlaw13.CaptblBeside", spec := "captblBeside", unfollowed := true, recurses := true, named := ["palanquin/head.widths", "palanquin/cap.widths", "palanquin/cap.most", "palanquin/radix.slotWidths"], apart := false, laid := [("palanquin/cap.widths", laid_palanquin_cap_widths), ("palanquin/cap.most", laid_palanquin_cap_most), ("palanquin/head.widths", laid_palanquin_head_widths), ("palanquin/radix.slotWidths", laid_palanquin_radix_slotWidths)] }
def CaptblBesideSaid : Prop := captblBesideRow.holds Tryd.pinned (OpenSpec.ofChange captblBesideSpec)

/-- ITS FALSE NEIGHBOUR: 'it returns false'. Refute it at one input. -/
def captblBesideWrong : ChangeSpec := { name := "captblBeside", fn := fun _ => fun
  | [d1, d2, d3, d4, d5] => { results := [.lit (.bool false)], args := [d1, d2, d3, d4, d5] }
  | _ => none }
def CaptblBesideWrongFalsely : Prop := captblBesideRow.holds Tryd.pinned (OpenSpec.ofChange captblBesideWrong)

/- THE SECOND FORM. 'bulk': how many values and letters a reading holds, each counted each time it is reached (what is shared counts as often as it is met; a slice's spare places count too). A statement '..UptoSaid' is the law's where the arguments, and the package variables that the reading takes, are together of bulk at most 1048576: NARROWER than '..Said'. Prove '..Said' where nothing that the law and all that it calls make is longer than what came in: it says more and counts as full. Else prove '..UptoSaid'. A law counts once. -/
mutual
def uptoBulk {H : Type} : DataW H → Nat
  | .lit (.string bytes) => bytes.length + 1
  | .lit _ => 1
  | .nil => 1
  | .ptr d => uptoBulk d + 1
  | .slice elems spare => uptoBulkAll elems + uptoBulkAll spare + 1
  | .agg parts => uptoBulkAll parts + 1
  | .iface _ d => uptoBulk d + 1
  | .map entries => uptoBulkEntries entries + 1
  | .held _ => 1
def uptoBulkAll {H : Type} : List (DataW H) → Nat
  | [] => 0
  | d :: r => uptoBulk d + uptoBulkAll r
def uptoBulkEntries {H : Type} : List (Lit × DataW H) → Nat
  | [] => 0
  | x :: r => uptoBulkEntry x + uptoBulkEntries r
def uptoBulkEntry {H : Type} : Lit × DataW H → Nat
  | (.string bytes, d) => bytes.length + uptoBulk d + 1
  | (_, d) => uptoBulk d + 1
 end
def uptoSmall : (H : Type) → List (DataW H) → Bool := fun _ ds => decide (uptoBulkAll ds ≤ 1048576)
def OpenSpec.upto (s : _root_.Go.ChangeSpec) : _root_.Go.OpenSpec := { _root_.Go.OpenSpec.ofChange s with cond := some uptoSmall }

/-- 'palanquinlaw13.CaptblQuiet', WHERE WHAT IT READS IS OF BULK AT MOST 1048576: true; the input reads as it did. -/
def captblQuietUptoRow : OpenClaim := { program := "ytgcaodfcodalfaadoor", sum := "0360f2ff39aa2a73128513320eee65c4b66e4b49f66e71e5587cffde70ecb03d", func := "palanquin/palanquinlaw13.CaptblQuiet", spec := "captblQuiet", unfollowed := true, recurses := true, named := ["palanquin/head.widths", "palanquin/cap.widths", "palanquin/cap.most", "palanquin/radix.slotWidths"], apart := false, laid := [("palanquin/cap.widths", laid_palanquin_cap_widths), ("palanquin/cap.most", laid_palanquin_cap_most), ("palanquin/head.widths", laid_palanquin_head_widths), ("palanquin/radix.slotWidths", laid_palanquin_radix_slotWidths)], narrowed := true }
def CaptblQuietUptoSaid : Prop := captblQuietUptoRow.holds Tryd.pinned (OpenSpec.upto captblQuietSpec)

/-- 'palanquinlaw13.CaptblLeaf', WHERE WHAT IT READS IS OF BULK AT MOST 1048576: true; the input reads as it did. -/
def captblLeafUptoRow : OpenClaim := { program := "ytgcaodfcodalfaadoor", sum := "0360f2ff39aa2a73128513320eee65c4b66e4b49f66e71e5587cffde70ecb03d", func := "palanquin/palanquinlaw13.CaptblLeaf", spec := "captblLeaf", unfollowed := true, recurses := true, named := ["palanquin/head.widths", "palanquin/cap.widths", "palanquin/cap.most", "palanquin/radix.slotWidths"], apart := false, laid := [("palanquin/cap.widths", laid_palanquin_cap_widths), ("palanquin/cap.most", laid_palanquin_cap_most), ("palanquin/head.widths", laid_palanquin_head_widths), ("palanquin/radix.slotWidths", laid_palanquin_radix_slotWidths)], narrowed := true }
def CaptblLeafUptoSaid : Prop := captblLeafUptoRow.holds Tryd.pinned (OpenSpec.upto captblLeafSpec)

/-- 'palanquinlaw13.CaptblBeside', WHERE WHAT IT READS IS OF BULK AT MOST 1048576: true; the input reads as it did. -/
def captblBesideUptoRow : OpenClaim := { program := "ytgcaodfcodalfaadoor", sum := "0360f2ff39aa2a73128513320eee65c4b66e4b49f66e71e5587cffde70ecb03d", func := "palanquin/palanquinlaw13.CaptblBeside", spec := "captblBeside", unfollowed := true, recurses := true, named := ["palanquin/head.widths", "palanquin/cap.widths", "palanquin/cap.most", "palanquin/radix.slotWidths"], apart := false, laid := [("palanquin/cap.widths", laid_palanquin_cap_widths), ("palanquin/cap.most", laid_palanquin_cap_most), ("palanquin/head.widths", laid_palanquin_head_widths), ("palanquin/radix.slotWidths", laid_palanquin_radix_slotWidths)], narrowed := true }
def CaptblBesideUptoSaid : Prop := captblBesideUptoRow.holds Tryd.pinned (OpenSpec.upto captblBesideSpec)

end Rows
end Go.Proofs.YtgcaodfcodalfaaDoor
