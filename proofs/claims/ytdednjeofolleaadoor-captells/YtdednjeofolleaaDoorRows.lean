/-
  NARROWER THAN 'FOR EVERY INPUT', by the rows' own cells (each row's printed sentence says how): CapTells: laid · CapBack: laid · CapUnder: laid.
  DERIVED. THE GIVEN ROWS OF THIS SEAT. 3 by the template 'for every input the law returns true; each argument reads behind the call as it read before'; 0 by the template 'total and deterministic' (their statements: YtdednjeofolleaaDoorTotals.lean).
  GIVEN WITH THE SEED: the statements are not yours to turn. If you find one false, say at which input.
  Laid BY PROGRAM, IN A SANDBOX (cutbox-rows.mjs): the forced cells as the released guide's own fill.sh prints them over the translation 2db3b6667f74d991… (all of the seat's roots in one cut). By AI agents, Wed Nov 11 2026. No macro, syntax, notation, axiom, sorry.
-/
import Derived.Test.YtdednjeofolleaaDoorChecked
import GoSem.Claim
import GoSem.ClaimJoined
import GoSem.ClaimMapViews
import Derived.JoinedTies
import Derived.KernelRfl
namespace Go.Proofs.YtdednjeofolleaaDoor
/- THE CELL 'sum', in the pinned program and in every row, IS THE sha256 OF THE DUMP (.gsa) THAT YtdednjeofolleaaDoorProg.lean LOADS. Nothing in Lean hashes anything: it is a label: what it is worth is what the hold of that sum in a sandbox is worth. -/
noncomputable def Tryd.pinned : Pinned := { name := "ytdednjeofolleaadoor", sum := "2db3b6667f74d9919cce9aaacce8426584338be30fcef74b6880d257e10694ef", checked := Tryd.checked }
namespace Rows
def none {H : Type} : Left H := { results := [], args := [] }

/- WHAT THE LISTED PACKAGE-LEVEL VARIABLES READ AS WHEN THE CALL BEGINS. Each datum BY PROGRAM (the guide's laid-datum.mjs) off the statement by which the dump's own 'gosem.cut.vars' lays the variable. In a bare row this is a premise. The card (YtdednjeofolleaaDoorCards.lean) ties it to the program's text. -/
def laid_palanquin_cap_widths {H : Type} : DataW H := .agg [.lit (.int .i64 4), .lit (.int .i64 5), .lit (.int .i64 6), .lit (.int .i64 6), .lit (.int .i64 16)]
def laid_palanquin_cap_most {H : Type} : DataW H := .agg [.agg [.lit (.int .i64 0), .lit (.int .i64 0), .lit (.int .i64 0), .lit (.int .i64 0), .lit (.int .i64 0), .lit (.int .i64 0)], .agg [.lit (.int .i64 0), .lit (.int .i64 0), .lit (.int .i64 0), .lit (.int .i64 0), .lit (.int .i64 0), .lit (.int .i64 1073741824)], .agg [.lit (.int .i64 0), .lit (.int .i64 31), .lit (.int .i64 63), .lit (.int .i64 0), .lit (.int .i64 0), .lit (.int .i64 64)], .agg [.lit (.int .i64 0), .lit (.int .i64 31), .lit (.int .i64 63), .lit (.int .i64 0), .lit (.int .i64 0), .lit (.int .i64 0)], .agg [.lit (.int .i64 0), .lit (.int .i64 31), .lit (.int .i64 63), .lit (.int .i64 0), .lit (.int .i64 0), .lit (.int .i64 0)], .agg [.lit (.int .i64 0), .lit (.int .i64 31), .lit (.int .i64 63), .lit (.int .i64 63), .lit (.int .i64 65535), .lit (.int .i64 0)], .agg [.lit (.int .i64 0), .lit (.int .i64 31), .lit (.int .i64 63), .lit (.int .i64 0), .lit (.int .i64 0), .lit (.int .i64 0)], .agg [.lit (.int .i64 0), .lit (.int .i64 31), .lit (.int .i64 63), .lit (.int .i64 63), .lit (.int .i64 65535), .lit (.int .i64 1073741824)], .agg [.lit (.int .i64 0), .lit (.int .i64 31), .lit (.int .i64 63), .lit (.int .i64 0), .lit (.int .i64 0), .lit (.int .i64 0)], .agg [.lit (.int .i64 0), .lit (.int .i64 31), .lit (.int .i64 63), .lit (.int .i64 0), .lit (.int .i64 0), .lit (.int .i64 0)], .agg [.lit (.int .i64 0), .lit (.int .i64 31), .lit (.int .i64 63), .lit (.int .i64 0), .lit (.int .i64 0), .lit (.int .i64 0)], .agg [.lit (.int .i64 0), .lit (.int .i64 31), .lit (.int .i64 0), .lit (.int .i64 0), .lit (.int .i64 0), .lit (.int .i64 0)]]

/-- 'palanquinlaw09.CapTells': WHATEVER THE INPUT: true; the input reads as it did. -/
def capTellsSpec : ChangeSpec := { name := "capTells", fn := fun _ => fun
  | [d1, d2, d3, d4, d5] => { results := [.lit (.bool true)], args := [d1, d2, d3, d4, d5] }
  | _ => none }
def capTellsRow : OpenClaim := { program := "ytdednjeofolleaadoor", sum := "2db3b6667f74d9919cce9aaacce8426584338be30fcef74b6880d257e10694ef", func := "palanquin/palanquinlaw09.CapTells", spec := "capTells", unfollowed := true, recurses := true, named := ["palanquin/cap.widths", "palanquin/cap.most"], apart := false, laid := [("palanquin/cap.widths", laid_palanquin_cap_widths), ("palanquin/cap.most", laid_palanquin_cap_most)] }
def CapTellsSaid : Prop := capTellsRow.holds Tryd.pinned (OpenSpec.ofChange capTellsSpec)

/-- ITS FALSE NEIGHBOUR: 'it returns false'. Refute it at one input. -/
def capTellsWrong : ChangeSpec := { name := "capTells", fn := fun _ => fun
  | [d1, d2, d3, d4, d5] => { results := [.lit (.bool false)], args := [d1, d2, d3, d4, d5] }
  | _ => none }
def CapTellsWrongFalsely : Prop := capTellsRow.holds Tryd.pinned (OpenSpec.ofChange capTellsWrong)

/-- 'palanquinlaw09.CapBack': WHATEVER THE INPUT: true; the input reads as it did. -/
def capBackSpec : ChangeSpec := { name := "capBack", fn := fun _ => fun
  | [d1, d2, d3] => { results := [.lit (.bool true)], args := [d1, d2, d3] }
  | _ => none }
def capBackRow : OpenClaim := { program := "ytdednjeofolleaadoor", sum := "2db3b6667f74d9919cce9aaacce8426584338be30fcef74b6880d257e10694ef", func := "palanquin/palanquinlaw09.CapBack", spec := "capBack", unfollowed := true, recurses := true, named := ["palanquin/cap.widths", "palanquin/cap.most"], apart := false, laid := [("palanquin/cap.widths", laid_palanquin_cap_widths), ("palanquin/cap.most", laid_palanquin_cap_most)] }
def CapBackSaid : Prop := capBackRow.holds Tryd.pinned (OpenSpec.ofChange capBackSpec)

/-- ITS FALSE NEIGHBOUR: 'it returns false'. Refute it at one input. -/
def capBackWrong : ChangeSpec := { name := "capBack", fn := fun _ => fun
  | [d1, d2, d3] => { results := [.lit (.bool false)], args := [d1, d2, d3] }
  | _ => none }
def CapBackWrongFalsely : Prop := capBackRow.holds Tryd.pinned (OpenSpec.ofChange capBackWrong)

/-- 'palanquinlaw09.CapUnder': WHATEVER THE INPUT: true; the input reads as it did. -/
def capUnderSpec : ChangeSpec := { name := "capUnder", fn := fun _ => fun
  | [d1, d2, d3, d4] => { results := [.lit (.bool true)], args := [d1, d2, d3, d4] }
  | _ => none }
def capUnderRow : OpenClaim := { program := "ytdednjeofolleaadoor", sum := "2db3b6667f74d9919cce9aaacce8426584338be30fcef74b6880d257e10694ef", func := "palanquin/palanquinlaw09.CapUnder", spec := "capUnder", named := ["palanquin/cap.most"], apart := false, laid := [("palanquin/cap.most", laid_palanquin_cap_most)] }
def CapUnderSaid : Prop := capUnderRow.holds Tryd.pinned (OpenSpec.ofChange capUnderSpec)

/-- ITS FALSE NEIGHBOUR: 'it returns false'. Refute it at one input. -/
def capUnderWrong : ChangeSpec := { name := "capUnder", fn := fun _ => fun
  | [d1, d2, d3, d4] => { results := [.lit (.bool false)], args := [d1, d2, d3, d4] }
  | _ => none }
def CapUnderWrongFalsely : Prop := capUnderRow.holds Tryd.pinned (OpenSpec.ofChange capUnderWrong)

/- THE SECOND FORM. 'bulk': how many values and letters a reading holds, each counted each time it is reached (what is shared counts as often as it is met; a slice's spare places count too). A statement '..UptoSaid' is the law's where the arguments, and the package variables that the reading takes, are together of bulk at most 1048576: NARROWER than '..Said'. Prove '..Said' where nothing that the law and all that it calls make is longer than what came in: it says more and counts as full. Else prove '..UptoSaid'. A law counts once. -/
mutual
def uptoBulk {H : Type} : DataW H → Nat
  | .lit (.string bytes) => bytes.length + 1
  | .lit _ => 1
  | .nil => 1
  | .ptr d => uptoBulk d + 1
  | .slice elems spare => uptoBulkAll elems + uptoBulkAll spare + 1
  | .agg parts => uptoBulkAll parts + 1
  | .iface _ d => uptoBulk d + 1
  | .map entries => uptoBulkEntries entries + 1
  | .held _ => 1
def uptoBulkAll {H : Type} : List (DataW H) → Nat
  | [] => 0
  | d :: r => uptoBulk d + uptoBulkAll r
def uptoBulkEntries {H : Type} : List (Lit × DataW H) → Nat
  | [] => 0
  | x :: r => uptoBulkEntry x + uptoBulkEntries r
def uptoBulkEntry {H : Type} : Lit × DataW H → Nat
  | (.string bytes, d) => bytes.length + uptoBulk d + 1
  | (_, d) => uptoBulk d + 1
 end
def uptoSmall : (H : Type) → List (DataW H) → Bool := fun _ ds => decide (uptoBulkAll ds ≤ 1048576)
def OpenSpec.upto (s : _root_.Go.ChangeSpec) : _root_.Go.OpenSpec := { _root_.Go.OpenSpec.ofChange s with cond := some uptoSmall }

/-- 'palanquinlaw09.CapTells', WHERE WHAT IT READS IS OF BULK AT MOST 1048576: true; the input reads as it did. -/
def capTellsUptoRow : OpenClaim := { program := "ytdednjeofolleaadoor", sum := "2db3b6667f74d9919cce9aaacce8426584338be30fcef74b6880d257e10694ef", func := "palanquin/palanquinlaw09.CapTells", spec := "capTells", unfollowed := true, recurses := true, named := ["palanquin/cap.widths", "palanquin/cap.most"], apart := false, laid := [("palanquin/cap.widths", laid_palanquin_cap_widths), ("palanquin/cap.most", laid_palanquin_cap_most)], narrowed := true }
def CapTellsUptoSaid : Prop := capTellsUptoRow.holds Tryd.pinned (OpenSpec.upto capTellsSpec)

/-- 'palanquinlaw09.CapBack', WHERE WHAT IT READS IS OF BULK AT MOST 1048576: true; the input reads as it did. -/
def capBackUptoRow : OpenClaim := { program := "ytdednjeofolleaadoor", sum := "2db3b6667f74d9919cce9aaacce8426584338be30fcef74b6880d257e10694ef", func := "palanquin/palanquinlaw09.CapBack", spec := "capBack", unfollowed := true, recurses := true, named := ["palanquin/cap.widths", "palanquin/cap.most"], apart := false, laid := [("palanquin/cap.widths", laid_palanquin_cap_widths), ("palanquin/cap.most", laid_palanquin_cap_most)], narrowed := true }
def CapBackUptoSaid : Prop := capBackUptoRow.holds Tryd.pinned (OpenSpec.upto capBackSpec)

/-- 'palanquinlaw09.CapUnder', WHERE WHAT IT READS IS OF BULK AT MOST 1048576: true; the input reads as it did. -/
def capUnderUptoRow : OpenClaim := { program := "ytdednjeofolleaadoor", sum := "2db3b6667f74d9919cce9aaacce8426584338be30fcef74b6880d257e10694ef", func := "palanquin/palanquinlaw09.CapUnder", spec := "capUnder", named := ["palanquin/cap.most"], apart := false, laid := [("palanquin/cap.most", laid_palanquin_cap_most)], narrowed := true }
def CapUnderUptoSaid : Prop := capUnderUptoRow.holds Tryd.pinned (OpenSpec.upto capUnderSpec)

end Rows
end Go.Proofs.YtdednjeofolleaaDoor
