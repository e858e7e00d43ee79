/-
  No cell of these rows narrows 'for every input' (looked for: loops, veiled, ifaces, maps, wideKeys, modest, calm, conditions, laid).
  DERIVED. THE GIVEN ROWS OF THIS SEAT. 4 by the template 'for every input the law returns true; each argument reads behind the call as it read before'; 0 by the template 'total and deterministic' (their statements: YtnhdlgijjjkmdaaTotals.lean).
  GIVEN WITH THE SEED: the statements are not yours to turn. If you find one false, say at which input.
  Laid BY PROGRAM, IN A SANDBOX (cutbox-rows.mjs): the forced cells as the released guide's own fill.sh prints them over the translation 4fa307eb409efbfc… (all of the seat's roots in one cut). By AI agents, Wed Nov 11 2026. No macro, syntax, notation, axiom, sorry.
-/
import Derived.Test.YtnhdlgijjjkmdaaChecked
import GoSem.Claim
import GoSem.ClaimJoined
import GoSem.ClaimMapViews
import Derived.JoinedTies
import Derived.KernelRfl
namespace Go.Proofs.Ytnhdlgijjjkmdaa
/- THE CELL 'sum', in the pinned program and in every row, IS THE sha256 OF THE DUMP (.gsa) THAT YtnhdlgijjjkmdaaProg.lean LOADS. Nothing in Lean hashes anything: it is a label: what it is worth is what the hold of that sum in a sandbox is worth. -/
noncomputable def Try.pinned : Pinned := { name := "ytnhdlgijjjkmdaa", sum := "4fa307eb409efbfc5c1314a80ca180c37e5193aede8b516e8606f73cb56b62c5", checked := Try.checked }
namespace Rows
def none {H : Type} : Left H := { results := [], args := [] }

/-- 'palanquinlaw05.RegsPlays': WHATEVER THE INPUT: true; the input reads as it did. -/
def regsPlaysSpec : ChangeSpec := { name := "regsPlays", fn := fun _ => fun
  | [d1, d2, d3, d4] => { results := [.lit (.bool true)], args := [d1, d2, d3, d4] }
  | _ => none }
def regsPlaysRow : OpenClaim := { program := "ytnhdlgijjjkmdaa", sum := "4fa307eb409efbfc5c1314a80ca180c37e5193aede8b516e8606f73cb56b62c5", func := "palanquin/palanquinlaw05.RegsPlays", spec := "regsPlays", apart := false }
def RegsPlaysSaid : Prop := regsPlaysRow.holds Try.pinned (OpenSpec.ofChange regsPlaysSpec)

/-- ITS FALSE NEIGHBOUR: 'it returns false'. Refute it at one input. -/
def regsPlaysWrong : ChangeSpec := { name := "regsPlays", fn := fun _ => fun
  | [d1, d2, d3, d4] => { results := [.lit (.bool false)], args := [d1, d2, d3, d4] }
  | _ => none }
def RegsPlaysWrongFalsely : Prop := regsPlaysRow.holds Try.pinned (OpenSpec.ofChange regsPlaysWrong)

/-- 'palanquinlaw05.RegsSwap': WHATEVER THE INPUT: true; the input reads as it did. -/
def regsSwapSpec : ChangeSpec := { name := "regsSwap", fn := fun _ => fun
  | [d1, d2] => { results := [.lit (.bool true)], args := [d1, d2] }
  | _ => none }
def regsSwapRow : OpenClaim := { program := "ytnhdlgijjjkmdaa", sum := "4fa307eb409efbfc5c1314a80ca180c37e5193aede8b516e8606f73cb56b62c5", func := "palanquin/palanquinlaw05.RegsSwap", spec := "regsSwap", apart := false }
def RegsSwapSaid : Prop := regsSwapRow.holds Try.pinned (OpenSpec.ofChange regsSwapSpec)

/-- ITS FALSE NEIGHBOUR: 'it returns false'. Refute it at one input. -/
def regsSwapWrong : ChangeSpec := { name := "regsSwap", fn := fun _ => fun
  | [d1, d2] => { results := [.lit (.bool false)], args := [d1, d2] }
  | _ => none }
def RegsSwapWrongFalsely : Prop := regsSwapRow.holds Try.pinned (OpenSpec.ofChange regsSwapWrong)

/-- 'palanquinlaw05.RegsZero': WHATEVER THE INPUT: true; the input reads as it did. -/
def regsZeroSpec : ChangeSpec := { name := "regsZero", fn := fun _ => fun
  | [d1, d2] => { results := [.lit (.bool true)], args := [d1, d2] }
  | _ => none }
def regsZeroRow : OpenClaim := { program := "ytnhdlgijjjkmdaa", sum := "4fa307eb409efbfc5c1314a80ca180c37e5193aede8b516e8606f73cb56b62c5", func := "palanquin/palanquinlaw05.RegsZero", spec := "regsZero", apart := false }
def RegsZeroSaid : Prop := regsZeroRow.holds Try.pinned (OpenSpec.ofChange regsZeroSpec)

/-- ITS FALSE NEIGHBOUR: 'it returns false'. Refute it at one input. -/
def regsZeroWrong : ChangeSpec := { name := "regsZero", fn := fun _ => fun
  | [d1, d2] => { results := [.lit (.bool false)], args := [d1, d2] }
  | _ => none }
def RegsZeroWrongFalsely : Prop := regsZeroRow.holds Try.pinned (OpenSpec.ofChange regsZeroWrong)

/-- 'palanquinlaw05.RegsOne': WHATEVER THE INPUT: true; the input reads as it did. -/
def regsOneSpec : ChangeSpec := { name := "regsOne", fn := fun _ => fun
  | [d1, d2, d3] => { results := [.lit (.bool true)], args := [d1, d2, d3] }
  | _ => none }
def regsOneRow : OpenClaim := { program := "ytnhdlgijjjkmdaa", sum := "4fa307eb409efbfc5c1314a80ca180c37e5193aede8b516e8606f73cb56b62c5", func := "palanquin/palanquinlaw05.RegsOne", spec := "regsOne", apart := false }
def RegsOneSaid : Prop := regsOneRow.holds Try.pinned (OpenSpec.ofChange regsOneSpec)

/-- ITS FALSE NEIGHBOUR: 'it returns false'. Refute it at one input. -/
def regsOneWrong : ChangeSpec := { name := "regsOne", fn := fun _ => fun
  | [d1, d2, d3] => { results := [.lit (.bool false)], args := [d1, d2, d3] }
  | _ => none }
def RegsOneWrongFalsely : Prop := regsOneRow.holds Try.pinned (OpenSpec.ofChange regsOneWrong)

/- THE SECOND FORM. 'bulk': how many values and letters a reading holds, each counted each time it is reached (what is shared counts as often as it is met; a slice's spare places count too). A statement '..UptoSaid' is the law's where the arguments, and the package variables that the reading takes, are together of bulk at most 1048576: NARROWER than '..Said'. Prove '..Said' where nothing that the law and all that it calls make is longer than what came in: it says more and counts as full. Else prove '..UptoSaid'. A law counts once. -/
mutual
def uptoBulk {H : Type} : DataW H → Nat
  | .lit (.string bytes) => bytes.length + 1
  | .lit _ => 1
  | .nil => 1
  | .ptr d => uptoBulk d + 1
  | .slice elems spare => uptoBulkAll elems + uptoBulkAll spare + 1
  | .agg parts => uptoBulkAll parts + 1
  | .iface _ d => uptoBulk d + 1
  | .map entries => uptoBulkEntries entries + 1
  | .held _ => 1
def uptoBulkAll {H : Type} : List (DataW H) → Nat
  | [] => 0
  | d :: r => uptoBulk d + uptoBulkAll r
def uptoBulkEntries {H : Type} : List (Lit × DataW H) → Nat
  | [] => 0
  | x :: r => uptoBulkEntry x + uptoBulkEntries r
def uptoBulkEntry {H : Type} : Lit × DataW H → Nat
  | (.string bytes, d) => bytes.length + uptoBulk d + 1
  | (_, d) => uptoBulk d + 1
 end
def uptoSmall : (H : Type) → List (DataW H) → Bool := fun _ ds => decide (uptoBulkAll ds ≤ 1048576)
def OpenSpec.upto (s : _root_.Go.ChangeSpec) : _root_.Go.OpenSpec := { _root_.Go.OpenSpec.ofChange s with cond := some uptoSmall }

/-- 'palanquinlaw05.RegsPlays', WHERE WHAT IT READS IS OF BULK AT MOST 1048576: true; the input reads as it did. -/
def regsPlaysUptoRow : OpenClaim := { program := "ytnhdlgijjjkmdaa", sum := "4fa307eb409efbfc5c1314a80ca180c37e5193aede8b516e8606f73cb56b62c5", func := "palanquin/palanquinlaw05.RegsPlays", spec := "regsPlays", apart := false, narrowed := true }
def RegsPlaysUptoSaid : Prop := regsPlaysUptoRow.holds Try.pinned (OpenSpec.upto regsPlaysSpec)

/-- 'palanquinlaw05.RegsSwap', WHERE WHAT IT READS IS OF BULK AT MOST 1048576: true; the input reads as it did. -/
def regsSwapUptoRow : OpenClaim := { program := "ytnhdlgijjjkmdaa", sum := "4fa307eb409efbfc5c1314a80ca180c37e5193aede8b516e8606f73cb56b62c5", func := "palanquin/palanquinlaw05.RegsSwap", spec := "regsSwap", apart := false, narrowed := true }
def RegsSwapUptoSaid : Prop := regsSwapUptoRow.holds Try.pinned (OpenSpec.upto regsSwapSpec)

/-- 'palanquinlaw05.RegsZero', WHERE WHAT IT READS IS OF BULK AT MOST 1048576: true; the input reads as it did. -/
def regsZeroUptoRow : OpenClaim := { program := "ytnhdlgijjjkmdaa", sum := "4fa307eb409efbfc5c1314a80ca180c37e5193aede8b516e8606f73cb56b62c5", func := "palanquin/palanquinlaw05.RegsZero", spec := "regsZero", apart := false, narrowed := true }
def RegsZeroUptoSaid : Prop := regsZeroUptoRow.holds Try.pinned (OpenSpec.upto regsZeroSpec)

/-- 'palanquinlaw05.RegsOne', WHERE WHAT IT READS IS OF BULK AT MOST 1048576: true; the input reads as it did. -/
def regsOneUptoRow : OpenClaim := { program := "ytnhdlgijjjkmdaa", sum := "4fa307eb409efbfc5c1314a80ca180c37e5193aede8b516e8606f73cb56b62c5", func := "palanquin/palanquinlaw05.RegsOne", spec := "regsOne", apart := false, narrowed := true }
def RegsOneUptoSaid : Prop := regsOneUptoRow.holds Try.pinned (OpenSpec.upto regsOneSpec)

end Rows
end Go.Proofs.Ytnhdlgijjjkmdaa
