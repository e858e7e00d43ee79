/-
  NARROWER THAN 'FOR EVERY INPUT', by the rows' own cells (each row's printed sentence says how): CompPlays: laid · CompBack: laid · CompWords: laid.
  DERIVED. THE GIVEN ROWS OF THIS SEAT. 3 by the template 'for every input the law returns true; each argument reads behind the call as it read before'; 0 by the template 'total and deterministic' (their statements: YtikhbohkmogffaaDoorTotals.lean).
  GIVEN WITH THE SEED: the statements are not yours to turn. If you find one false, say at which input.
  Laid BY PROGRAM, IN A SANDBOX (cutbox-rows.mjs): the forced cells as the released guide's own fill.sh prints them over the translation 045b223d3ed0acf2… (all of the seat's roots in one cut). By AI agents, Wed Nov 11 2026. No macro, syntax, notation, axiom, sorry.
-/
import Derived.Test.YtikhbohkmogffaaDoorChecked
import GoSem.Claim
import GoSem.ClaimJoined
import GoSem.ClaimMapViews
import Derived.JoinedTies
import Derived.KernelRfl
namespace Go.Proofs.YtikhbohkmogffaaDoor
/- THE CELL 'sum', in the pinned program and in every row, IS THE sha256 OF THE DUMP (.gsa) THAT YtikhbohkmogffaaDoorProg.lean LOADS. Nothing in Lean hashes anything: it is a label: what it is worth is what the hold of that sum in a sandbox is worth. -/
noncomputable def Tryd.pinned : Pinned := { name := "ytikhbohkmogffaadoor", sum := "045b223d3ed0acf2a7dfe91b09a88d86bd76c3625afb9690e75dd78be0a873fa", checked := Tryd.checked }
namespace Rows
def none {H : Type} : Left H := { results := [], args := [] }

/- WHAT THE LISTED PACKAGE-LEVEL VARIABLES READ AS WHEN THE CALL BEGINS. Each datum BY PROGRAM (the guide's laid-datum.mjs) off the statement by which the dump's own 'gosem.cut.vars' lays the variable. In a bare row this is a premise. The card (YtikhbohkmogffaaDoorCards.lean) ties it to the program's text. -/
def laid_palanquin_head_widths {H : Type} : DataW H := .agg [.lit (.int .i64 4), .lit (.int .i64 1), .lit (.int .i64 1)]
def laid_palanquin_comp_most {H : Type} : DataW H := .agg [.lit (.int .u64 63), .lit (.int .u64 63), .lit (.int .u64 63), .lit (.int .u64 65535), .lit (.int .u64 64), .lit (.int .u64 1073741824)]

/-- 'palanquinlaw17.CompPlays': WHATEVER THE INPUT: true; the input reads as it did. -/
def compPlaysSpec : ChangeSpec := { name := "compPlays", fn := fun _ => fun
  | [d1, d2, d3, d4, d5, d6] => { results := [.lit (.bool true)], args := [d1, d2, d3, d4, d5, d6] }
  | _ => none }
def compPlaysRow : OpenClaim := { program := "ytikhbohkmogffaadoor", sum := "045b223d3ed0acf2a7dfe91b09a88d86bd76c3625afb9690e75dd78be0a873fa", func := "palanquin/palanquinlaw17.CompPlays", spec := "compPlays", unfollowed := true, recurses := true, named := ["palanquin/comp.most", "palanquin/head.widths"], apart := false, laid := [("palanquin/head.widths", laid_palanquin_head_widths), ("palanquin/comp.most", laid_palanquin_comp_most)] }
def CompPlaysSaid : Prop := compPlaysRow.holds Tryd.pinned (OpenSpec.ofChange compPlaysSpec)

/-- ITS FALSE NEIGHBOUR: 'it returns false'. Refute it at one input. -/
def compPlaysWrong : ChangeSpec := { name := "compPlays", fn := fun _ => fun
  | [d1, d2, d3, d4, d5, d6] => { results := [.lit (.bool false)], args := [d1, d2, d3, d4, d5, d6] }
  | _ => none }
def CompPlaysWrongFalsely : Prop := compPlaysRow.holds Tryd.pinned (OpenSpec.ofChange compPlaysWrong)

/-- 'palanquinlaw17.CompBack': WHATEVER THE INPUT: true; the input reads as it did. -/
def compBackSpec : ChangeSpec := { name := "compBack", fn := fun _ => fun
  | [d1, d2, d3, d4] => { results := [.lit (.bool true)], args := [d1, d2, d3, d4] }
  | _ => none }
def compBackRow : OpenClaim := { program := "ytikhbohkmogffaadoor", sum := "045b223d3ed0acf2a7dfe91b09a88d86bd76c3625afb9690e75dd78be0a873fa", func := "palanquin/palanquinlaw17.CompBack", spec := "compBack", unfollowed := true, recurses := true, named := ["palanquin/comp.most", "palanquin/head.widths"], apart := false, laid := [("palanquin/head.widths", laid_palanquin_head_widths), ("palanquin/comp.most", laid_palanquin_comp_most)] }
def CompBackSaid : Prop := compBackRow.holds Tryd.pinned (OpenSpec.ofChange compBackSpec)

/-- ITS FALSE NEIGHBOUR: 'it returns false'. Refute it at one input. -/
def compBackWrong : ChangeSpec := { name := "compBack", fn := fun _ => fun
  | [d1, d2, d3, d4] => { results := [.lit (.bool false)], args := [d1, d2, d3, d4] }
  | _ => none }
def CompBackWrongFalsely : Prop := compBackRow.holds Tryd.pinned (OpenSpec.ofChange compBackWrong)

/-- 'palanquinlaw17.CompWords': WHATEVER THE INPUT: true; the input reads as it did. -/
def compWordsSpec : ChangeSpec := { name := "compWords", fn := fun _ => fun
  | [d] => { results := [.lit (.bool true)], args := [d] }
  | _ => none }
def compWordsRow : OpenClaim := { program := "ytikhbohkmogffaadoor", sum := "045b223d3ed0acf2a7dfe91b09a88d86bd76c3625afb9690e75dd78be0a873fa", func := "palanquin/palanquinlaw17.CompWords", spec := "compWords", unfollowed := true, recurses := true, named := ["palanquin/comp.most", "palanquin/head.widths"], apart := false, laid := [("palanquin/head.widths", laid_palanquin_head_widths), ("palanquin/comp.most", laid_palanquin_comp_most)] }
def CompWordsSaid : Prop := compWordsRow.holds Tryd.pinned (OpenSpec.ofChange compWordsSpec)

/-- ITS FALSE NEIGHBOUR: 'it returns false'. Refute it at one input. -/
def compWordsWrong : ChangeSpec := { name := "compWords", fn := fun _ => fun
  | [d] => { results := [.lit (.bool false)], args := [d] }
  | _ => none }
def CompWordsWrongFalsely : Prop := compWordsRow.holds Tryd.pinned (OpenSpec.ofChange compWordsWrong)

/- THE SECOND FORM. 'bulk': how many values and letters a reading holds, each counted each time it is reached (what is shared counts as often as it is met; a slice's spare places count too). A statement '..UptoSaid' is the law's where the arguments, and the package variables that the reading takes, are together of bulk at most 1048576: NARROWER than '..Said'. Prove '..Said' where nothing that the law and all that it calls make is longer than what came in: it says more and counts as full. Else prove '..UptoSaid'. A law counts once. -/
mutual
def uptoBulk {H : Type} : DataW H → Nat
  | .lit (.string bytes) => bytes.length + 1
  | .lit _ => 1
  | .nil => 1
  | .ptr d => uptoBulk d + 1
  | .slice elems spare => uptoBulkAll elems + uptoBulkAll spare + 1
  | .agg parts => uptoBulkAll parts + 1
  | .iface _ d => uptoBulk d + 1
  | .map entries => uptoBulkEntries entries + 1
  | .held _ => 1
def uptoBulkAll {H : Type} : List (DataW H) → Nat
  | [] => 0
  | d :: r => uptoBulk d + uptoBulkAll r
def uptoBulkEntries {H : Type} : List (Lit × DataW H) → Nat
  | [] => 0
  | x :: r => uptoBulkEntry x + uptoBulkEntries r
def uptoBulkEntry {H : Type} : Lit × DataW H → Nat
  | (.string bytes, d) => bytes.length + uptoBulk d + 1
  | (_, d) => uptoBulk d + 1
 end
def uptoSmall : (H : Type) → List (DataW H) → Bool := fun _ ds => decide (uptoBulkAll ds ≤ 1048576)
def OpenSpec.upto (s : _root_.Go.ChangeSpec) : _root_.Go.OpenSpec := { _root_.Go.OpenSpec.ofChange s with cond := some uptoSmall }

/-- 'palanquinlaw17.CompPlays', WHERE WHAT IT READS IS OF BULK AT MOST 1048576: true; the input reads as it did. -/
def compPlaysUptoRow : OpenClaim := { program := "ytikhbohkmogffaadoor", sum := "045b223d3ed0acf2a7dfe91b09a88d86bd76c3625afb9690e75dd78be0a873fa", func := "palanquin/palanquinlaw17.CompPlays", spec := "compPlays", unfollowed := true, recurses := true, named := ["palanquin/comp.most", "palanquin/head.widths"], apart := false, laid := [("palanquin/head.widths", laid_palanquin_head_widths), ("palanquin/comp.most", laid_palanquin_comp_most)], narrowed := true }
def CompPlaysUptoSaid : Prop := compPlaysUptoRow.holds Tryd.pinned (OpenSpec.upto compPlaysSpec)

/-- 'palanquinlaw17.CompBack', WHERE WHAT IT READS IS OF BULK AT MOST 1048576: true; the input reads as it did. -/
def compBackUptoRow : OpenClaim := { program := "ytikhbohkmogffaadoor", sum := "045b223d3ed0acf2a7dfe91b09a88d86bd76c3625afb9690e75dd78be0a873fa", func := "palanquin/palanquinlaw17.CompBack", spec := "compBack", unfollowed := true, recurses := true, named := ["palanquin/comp.most", "palanquin/head.widths"], apart := false, laid := [("palanquin/head.widths", laid_palanquin_head_widths), ("palanquin/comp.most", laid_palanquin_comp_most)], narrowed := true }
def CompBackUptoSaid : Prop := compBackUptoRow.holds Tryd.pinned (OpenSpec.upto compBackSpec)

/-- 'palanquinlaw17.CompWords', WHERE WHAT IT READS IS OF BULK AT MOST 1048576: true; the input reads as it did. -/
def compWordsUptoRow : OpenClaim := { program := "ytikhbohkmogffaadoor", sum := "045b223d3ed0acf2a7dfe91b09a88d86bd76c3625afb9690e75dd78be0a873fa", func := "palanquin/palanquinlaw17.CompWords", spec := "compWords", unfollowed := true, recurses := true, named := ["palanquin/comp.most", "palanquin/head.widths"], apart := false, laid := [("palanquin/head.widths", laid_palanquin_head_widths), ("palanquin/comp.most", laid_palanquin_comp_most)], narrowed := true }
def CompWordsUptoSaid : Prop := compWordsUptoRow.holds Tryd.pinned (OpenSpec.upto compWordsSpec)

end Rows
end Go.Proofs.YtikhbohkmogffaaDoor
