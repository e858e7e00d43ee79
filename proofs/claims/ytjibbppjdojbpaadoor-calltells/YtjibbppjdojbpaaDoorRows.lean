/-
  NARROWER THAN 'FOR EVERY INPUT', by the rows' own cells (each row's printed sentence says how): CallTells: laid · CallBack: laid · CallNeeds: laid.
  DERIVED. THE GIVEN ROWS OF THIS SEAT. 3 by the template 'for every input the law returns true; each argument reads behind the call as it read before'; 0 by the template 'total and deterministic' (their statements: YtjibbppjdojbpaaDoorTotals.lean).
  GIVEN WITH THE SEED: the statements are not yours to turn. If you find one false, say at which input.
  Laid BY PROGRAM, IN A SANDBOX (cutbox-rows.mjs): the forced cells as the released guide's own fill.sh prints them over the translation cbe72e6f09c7e847… (all of the seat's roots in one cut). By AI agents, Wed Nov 11 2026. No macro, syntax, notation, axiom, sorry.
-/
import Derived.Test.YtjibbppjdojbpaaDoorChecked
import GoSem.Claim
import GoSem.ClaimJoined
import GoSem.ClaimMapViews
import Derived.JoinedTies
import Derived.KernelRfl
namespace Go.Proofs.YtjibbppjdojbpaaDoor
/- THE CELL 'sum', in the pinned program and in every row, IS THE sha256 OF THE DUMP (.gsa) THAT YtjibbppjdojbpaaDoorProg.lean LOADS. Nothing in Lean hashes anything: it is a label: what it is worth is what the hold of that sum in a sandbox is worth. -/
noncomputable def Tryd.pinned : Pinned := { name := "ytjibbppjdojbpaadoor", sum := "cbe72e6f09c7e847d6239300b6215c1e33fe04331e99ee00e38ce7583c8fcc3e", checked := Tryd.checked }
namespace Rows
def none {H : Type} : Left H := { results := [], args := [] }

/- WHAT THE LISTED PACKAGE-LEVEL VARIABLES READ AS WHEN THE CALL BEGINS. Each datum BY PROGRAM (the guide's laid-datum.mjs) off the statement by which the dump's own 'gosem.cut.vars' lays the variable. In a bare row this is a premise. The card (YtjibbppjdojbpaaDoorCards.lean) ties it to the program's text. -/
def laid_palanquin_call_widths {H : Type} : DataW H := .agg [.lit (.int .i64 8), .lit (.int .i64 8), .lit (.int .i64 16), .lit (.int .i64 16), .lit (.int .i64 8), .lit (.int .i64 8)]
def laid_palanquin_call_kinds {H : Type} : DataW H := .agg [.agg [.lit (.string [110, 117, 108, 108]), .lit (.int .i64 0)], .agg [.lit (.string [116, 121, 112, 101]), .lit (.int .i64 3)], .agg [.lit (.string [117, 110, 116, 121, 112, 101]), .lit (.int .i64 2)], .agg [.lit (.string [116, 98, 108]), .lit (.int .i64 3)], .agg [.lit (.string [112, 103, 116]), .lit (.int .i64 3)], .agg [.lit (.string [99, 111, 109, 112]), .lit (.int .i64 5)], .agg [.lit (.string [116, 104, 100]), .lit (.int .i64 5)], .agg [.lit (.string [116, 99, 97, 112]), .lit (.int .i64 3)], .agg [.lit (.string [114, 99, 118]), .lit (.int .i64 4)], .agg [.lit (.string [99, 111, 110, 115]), .lit (.int .i64 3)], .agg [.lit (.string [100, 101, 99, 111, 110, 115]), .lit (.int .i64 2)], .agg [.lit (.string [102, 114, 101, 101, 122, 101]), .lit (.int .i64 1)], .agg [.lit (.string [99, 111, 112, 121]), .lit (.int .i64 4)], .agg [.lit (.string [100, 114, 111, 112]), .lit (.int .i64 2)], .agg [.lit (.string [105, 110, 118]), .lit (.int .i64 3)], .agg [.lit (.string [115, 110, 100]), .lit (.int .i64 2)], .agg [.lit (.string [107, 105, 108, 108]), .lit (.int .i64 1)], .agg [.lit (.string [112, 99, 111, 110, 115]), .lit (.int .i64 3)], .agg [.lit (.string [112, 100, 101, 99, 111, 110]), .lit (.int .i64 2)], .agg [.lit (.string [109, 97, 112]), .lit (.int .i64 4)], .agg [.lit (.string [117, 110, 109, 97, 112]), .lit (.int .i64 2)], .agg [.lit (.string [112, 99, 111, 112, 121]), .lit (.int .i64 5)], .agg [.lit (.string [99, 97, 108, 108]), .lit (.int .i64 1)], .agg [.lit (.string [114, 101, 116]), .lit (.int .i64 0)], .agg [.lit (.string [115, 119, 105, 116, 99, 104]), .lit (.int .i64 1)], .agg [.lit (.string [103, 105, 118, 101]), .lit (.int .i64 4)], .agg [.lit (.string [115, 101, 110, 100]), .lit (.int .i64 1)], .agg [.lit (.string [114, 101, 99, 118]), .lit (.int .i64 1)], .agg [.lit (.string [108, 105, 110, 101]), .lit (.int .i64 3)], .agg [.lit (.string [104, 97, 110, 100]), .lit (.int .i64 3)]]

/-- 'palanquinlaw24.CallTells': WHATEVER THE INPUT: true; the input reads as it did. -/
def callTellsSpec : ChangeSpec := { name := "callTells", fn := fun _ => fun
  | [d1, d2, d3, d4] => { results := [.lit (.bool true)], args := [d1, d2, d3, d4] }
  | _ => none }
def callTellsRow : OpenClaim := { program := "ytjibbppjdojbpaadoor", sum := "cbe72e6f09c7e847d6239300b6215c1e33fe04331e99ee00e38ce7583c8fcc3e", func := "palanquin/palanquinlaw24.CallTells", spec := "callTells", unfollowed := true, recurses := true, named := ["palanquin/call.widths", "palanquin/call.kinds"], apart := false, laid := [("palanquin/call.widths", laid_palanquin_call_widths), ("palanquin/call.kinds", laid_palanquin_call_kinds)] }
def CallTellsSaid : Prop := callTellsRow.holds Tryd.pinned (OpenSpec.ofChange callTellsSpec)

/-- ITS FALSE NEIGHBOUR: 'it returns false'. Refute it at one input. -/
def callTellsWrong : ChangeSpec := { name := "callTells", fn := fun _ => fun
  | [d1, d2, d3, d4] => { results := [.lit (.bool false)], args := [d1, d2, d3, d4] }
  | _ => none }
def CallTellsWrongFalsely : Prop := callTellsRow.holds Tryd.pinned (OpenSpec.ofChange callTellsWrong)

/-- 'palanquinlaw24.CallBack': WHATEVER THE INPUT: true; the input reads as it did. -/
def callBackSpec : ChangeSpec := { name := "callBack", fn := fun _ => fun
  | [d1, d2, d3] => { results := [.lit (.bool true)], args := [d1, d2, d3] }
  | _ => none }
def callBackRow : OpenClaim := { program := "ytjibbppjdojbpaadoor", sum := "cbe72e6f09c7e847d6239300b6215c1e33fe04331e99ee00e38ce7583c8fcc3e", func := "palanquin/palanquinlaw24.CallBack", spec := "callBack", unfollowed := true, recurses := true, named := ["palanquin/call.widths", "palanquin/call.kinds"], apart := false, laid := [("palanquin/call.widths", laid_palanquin_call_widths), ("palanquin/call.kinds", laid_palanquin_call_kinds)] }
def CallBackSaid : Prop := callBackRow.holds Tryd.pinned (OpenSpec.ofChange callBackSpec)

/-- ITS FALSE NEIGHBOUR: 'it returns false'. Refute it at one input. -/
def callBackWrong : ChangeSpec := { name := "callBack", fn := fun _ => fun
  | [d1, d2, d3] => { results := [.lit (.bool false)], args := [d1, d2, d3] }
  | _ => none }
def CallBackWrongFalsely : Prop := callBackRow.holds Tryd.pinned (OpenSpec.ofChange callBackWrong)

/-- 'palanquinlaw24.CallNeeds': WHATEVER THE INPUT: true; the input reads as it did. -/
def callNeedsSpec : ChangeSpec := { name := "callNeeds", fn := fun _ => fun
  | [d1, d2, d3] => { results := [.lit (.bool true)], args := [d1, d2, d3] }
  | _ => none }
def callNeedsRow : OpenClaim := { program := "ytjibbppjdojbpaadoor", sum := "cbe72e6f09c7e847d6239300b6215c1e33fe04331e99ee00e38ce7583c8fcc3e", func := "palanquin/palanquinlaw24.CallNeeds", spec := "callNeeds", unfollowed := true, recurses := true, named := ["palanquin/call.kinds", "palanquin/call.widths"], apart := false, laid := [("palanquin/call.widths", laid_palanquin_call_widths), ("palanquin/call.kinds", laid_palanquin_call_kinds)] }
def CallNeedsSaid : Prop := callNeedsRow.holds Tryd.pinned (OpenSpec.ofChange callNeedsSpec)

/-- ITS FALSE NEIGHBOUR: 'it returns false'. Refute it at one input. -/
def callNeedsWrong : ChangeSpec := { name := "callNeeds", fn := fun _ => fun
  | [d1, d2, d3] => { results := [.lit (.bool false)], args := [d1, d2, d3] }
  | _ => none }
def CallNeedsWrongFalsely : Prop := callNeedsRow.holds Tryd.pinned (OpenSpec.ofChange callNeedsWrong)

/- THE SECOND FORM. 'bulk': how many values and letters a reading holds, each counted each time it is reached (what is shared counts as often as it is met; a slice's spare places count too). A statement '..UptoSaid' is the law's where the arguments, and the package variables that the reading takes, are together of bulk at most 1048576: NARROWER than '..Said'. Prove '..Said' where nothing that the law and all that it calls make is longer than what came in: it says more and counts as full. Else prove '..UptoSaid'. A law counts once. -/
mutual
def uptoBulk {H : Type} : DataW H → Nat
  | .lit (.string bytes) => bytes.length + 1
  | .lit _ => 1
  | .nil => 1
  | .ptr d => uptoBulk d + 1
  | .slice elems spare => uptoBulkAll elems + uptoBulkAll spare + 1
  | .agg parts => uptoBulkAll parts + 1
  | .iface _ d => uptoBulk d + 1
  | .map entries => uptoBulkEntries entries + 1
  | .held _ => 1
def uptoBulkAll {H : Type} : List (DataW H) → Nat
  | [] => 0
  | d :: r => uptoBulk d + uptoBulkAll r
def uptoBulkEntries {H : Type} : List (Lit × DataW H) → Nat
  | [] => 0
  | x :: r => uptoBulkEntry x + uptoBulkEntries r
def uptoBulkEntry {H : Type} : Lit × DataW H → Nat
  | (.string bytes, d) => bytes.length + uptoBulk d + 1
  | (_, d) => uptoBulk d + 1
 end
def uptoSmall : (H : Type) → List (DataW H) → Bool := fun _ ds => decide (uptoBulkAll ds ≤ 1048576)
def OpenSpec.upto (s : _root_.Go.ChangeSpec) : _root_.Go.OpenSpec := { _root_.Go.OpenSpec.ofChange s with cond := some uptoSmall }

/-- 'palanquinlaw24.CallTells', WHERE WHAT IT READS IS OF BULK AT MOST 1048576: true; the input reads as it did. -/
def callTellsUptoRow : OpenClaim := { program := "ytjibbppjdojbpaadoor", sum := "cbe72e6f09c7e847d6239300b6215c1e33fe04331e99ee00e38ce7583c8fcc3e", func := "palanquin/palanquinlaw24.CallTells", spec := "callTells", unfollowed := true, recurses := true, named := ["palanquin/call.widths", "palanquin/call.kinds"], apart := false, laid := [("palanquin/call.widths", laid_palanquin_call_widths), ("palanquin/call.kinds", laid_palanquin_call_kinds)], narrowed := true }
def CallTellsUptoSaid : Prop := callTellsUptoRow.holds Tryd.pinned (OpenSpec.upto callTellsSpec)

/-- 'palanquinlaw24.CallBack', WHERE WHAT IT READS IS OF BULK AT MOST 1048576: true; the input reads as it did. -/
def callBackUptoRow : OpenClaim := { program := "ytjibbppjdojbpaadoor", sum := "cbe72e6f09c7e847d6239300b6215c1e33fe04331e99ee00e38ce7583c8fcc3e", func := "palanquin/palanquinlaw24.CallBack", spec := "callBack", unfollowed := true, recurses := true, named := ["palanquin/call.widths", "palanquin/call.kinds"], apart := false, laid := [("palanquin/call.widths", laid_palanquin_call_widths), ("palanquin/call.kinds", laid_palanquin_call_kinds)], narrowed := true }
def CallBackUptoSaid : Prop := callBackUptoRow.holds Tryd.pinned (OpenSpec.upto callBackSpec)

/-- 'palanquinlaw24.CallNeeds', WHERE WHAT IT READS IS OF BULK AT MOST 1048576: true; the input reads as it did. -/
def callNeedsUptoRow : OpenClaim := { program := "ytjibbppjdojbpaadoor", sum := "cbe72e6f09c7e847d6239300b6215c1e33fe04331e99ee00e38ce7583c8fcc3e", func := "palanquin/palanquinlaw24.CallNeeds", spec := "callNeeds", unfollowed := true, recurses := true, named := ["palanquin/call.kinds", "palanquin/call.widths"], apart := false, laid := [("palanquin/call.widths", laid_palanquin_call_widths), ("palanquin/call.kinds", laid_palanquin_call_kinds)], narrowed := true }
def CallNeedsUptoSaid : Prop := callNeedsUptoRow.holds Tryd.pinned (OpenSpec.upto callNeedsSpec)

end Rows
end Go.Proofs.YtjibbppjdojbpaaDoor
