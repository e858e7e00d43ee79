/-
  No cell of these rows narrows 'for every input' (looked for: loops, veiled, ifaces, maps, wideKeys, modest, calm, conditions, laid).
  DERIVED. THE GIVEN ROWS OF THIS SEAT. 3 by the template 'for every input the law returns true; each argument reads behind the call as it read before'; 0 by the template 'total and deterministic' (their statements: YtjbchnnbphikhaaTotals.lean).
  GIVEN WITH THE SEED: the statements are not yours to turn. If you find one false, say at which input.
  Laid BY PROGRAM, IN A SANDBOX (cutbox-rows.mjs): the forced cells as the released guide's own fill.sh prints them over the translation b7195078fd9b07ce… (all of the seat's roots in one cut). By AI agents, Wed Nov 11 2026. No macro, syntax, notation, axiom, sorry.
-/
import Derived.Test.YtjbchnnbphikhaaChecked
import GoSem.Claim
import GoSem.ClaimJoined
import GoSem.ClaimMapViews
import Derived.JoinedTies
import Derived.KernelRfl
namespace Go.Proofs.Ytjbchnnbphikhaa
/- THE CELL 'sum', in the pinned program and in every row, IS THE sha256 OF THE DUMP (.gsa) THAT YtjbchnnbphikhaaProg.lean LOADS. Nothing in Lean hashes anything: it is a label: what it is worth is what the hold of that sum in a sandbox is worth. -/
noncomputable def Try.pinned : Pinned := { name := "ytjbchnnbphikhaa", sum := "b7195078fd9b07cef59c608009043edfeedc7f131b6d07d9c9ca4b4a4de7d568", checked := Try.checked }
namespace Rows
def none {H : Type} : Left H := { results := [], args := [] }

/-- 'palanquinlaw08.QuietTells': WHATEVER THE INPUT: true; the input reads as it did. -/
def quietTellsSpec : ChangeSpec := { name := "quietTells", fn := fun _ => fun
  | [d1, d2, d3, d4, d5] => { results := [.lit (.bool true)], args := [d1, d2, d3, d4, d5] }
  | _ => none }
def quietTellsRow : OpenClaim := { program := "ytjbchnnbphikhaa", sum := "b7195078fd9b07cef59c608009043edfeedc7f131b6d07d9c9ca4b4a4de7d568", func := "palanquin/palanquinlaw08.QuietTells", spec := "quietTells", unfollowed := true, recurses := true, apart := false }
def QuietTellsSaid : Prop := quietTellsRow.holds Try.pinned (OpenSpec.ofChange quietTellsSpec)

/-- ITS FALSE NEIGHBOUR: 'it returns false'. Refute it at one input. -/
def quietTellsWrong : ChangeSpec := { name := "quietTells", fn := fun _ => fun
  | [d1, d2, d3, d4, d5] => { results := [.lit (.bool false)], args := [d1, d2, d3, d4, d5] }
  | _ => none }
def QuietTellsWrongFalsely : Prop := quietTellsRow.holds Try.pinned (OpenSpec.ofChange quietTellsWrong)

/-- 'palanquinlaw08.QuietLeft': WHATEVER THE INPUT: true; the input reads as it did. -/
def quietLeftSpec : ChangeSpec := { name := "quietLeft", fn := fun _ => fun
  | [d1, d2, d3, d4] => { results := [.lit (.bool true)], args := [d1, d2, d3, d4] }
  | _ => none }
def quietLeftRow : OpenClaim := { program := "ytjbchnnbphikhaa", sum := "b7195078fd9b07cef59c608009043edfeedc7f131b6d07d9c9ca4b4a4de7d568", func := "palanquin/palanquinlaw08.QuietLeft", spec := "quietLeft", unfollowed := true, recurses := true, apart := false }
def QuietLeftSaid : Prop := quietLeftRow.holds Try.pinned (OpenSpec.ofChange quietLeftSpec)

/-- ITS FALSE NEIGHBOUR: 'it returns false'. Refute it at one input. -/
def quietLeftWrong : ChangeSpec := { name := "quietLeft", fn := fun _ => fun
  | [d1, d2, d3, d4] => { results := [.lit (.bool false)], args := [d1, d2, d3, d4] }
  | _ => none }
def QuietLeftWrongFalsely : Prop := quietLeftRow.holds Try.pinned (OpenSpec.ofChange quietLeftWrong)

/-- 'palanquinlaw08.QuietEarlier': WHATEVER THE INPUT: true; the input reads as it did. -/
def quietEarlierSpec : ChangeSpec := { name := "quietEarlier", fn := fun _ => fun
  | [d1, d2, d3, d4] => { results := [.lit (.bool true)], args := [d1, d2, d3, d4] }
  | _ => none }
def quietEarlierRow : OpenClaim := { program := "ytjbchnnbphikhaa", sum := "b7195078fd9b07cef59c608009043edfeedc7f131b6d07d9c9ca4b4a4de7d568", func := "palanquin/palanquinlaw08.QuietEarlier", spec := "quietEarlier", unfollowed := true, recurses := true, apart := false }
def QuietEarlierSaid : Prop := quietEarlierRow.holds Try.pinned (OpenSpec.ofChange quietEarlierSpec)

/-- ITS FALSE NEIGHBOUR: 'it returns false'. Refute it at one input. -/
def quietEarlierWrong : ChangeSpec := { name := "quietEarlier", fn := fun _ => fun
  | [d1, d2, d3, d4] => { results := [.lit (.bool false)], args := [d1, d2, d3, d4] }
  | _ => none }
def QuietEarlierWrongFalsely : Prop := quietEarlierRow.holds Try.pinned (OpenSpec.ofChange quietEarlierWrong)

/- THE SECOND FORM. 'bulk': how many values and letters a reading holds, each counted each time it is reached (what is shared counts as often as it is met; a slice's spare places count too). A statement '..UptoSaid' is the law's where the arguments, and the package variables that the reading takes, are together of bulk at most 1048576: NARROWER than '..Said'. Prove '..Said' where nothing that the law and all that it calls make is longer than what came in: it says more and counts as full. Else prove '..UptoSaid'. A law counts once. -/
mutual
def uptoBulk {H : Type} : DataW H → Nat
  | .lit (.string bytes) => bytes.length + 1
  | .lit _ => 1
  | .nil => 1
  | .ptr d => uptoBulk d + 1
  | .slice elems spare => uptoBulkAll elems + uptoBulkAll spare + 1
  | .agg parts => uptoBulkAll parts + 1
  | .iface _ d => uptoBulk d + 1
  | .map entries => uptoBulkEntries entries + 1
  | .held _ => 1
def uptoBulkAll {H : Type} : List (DataW H) → Nat
  | [] => 0
  | d :: r => uptoBulk d + uptoBulkAll r
def uptoBulkEntries {H : Type} : List (Lit × DataW H) → Nat
  | [] => 0
  | x :: r => uptoBulkEntry x + uptoBulkEntries r
def uptoBulkEntry {H : Type} : Lit × DataW H → Nat
  | (.string bytes, d) => bytes.length + uptoBulk d + 1
  | (_, d) => uptoBulk d + 1
 end
def uptoSmall : (H : Type) → List (DataW H) → Bool := fun _ ds => decide (uptoBulkAll ds ≤ 1048576)
def OpenSpec.upto (s : _root_.Go.ChangeSpec) : _root_.Go.OpenSpec := { _root_.Go.OpenSpec.ofChange s with cond := some uptoSmall }

/-- 'palanquinlaw08.QuietTells', WHERE WHAT IT READS IS OF BULK AT MOST 1048576: true; the input reads as it did. -/
def quietTellsUptoRow : OpenClaim := { program := "ytjbchnnbphikhaa", sum := "b7195078fd9b07cef59c608009043edfeedc7f131b6d07d9c9ca4b4a4de7d568", func := "palanquin/palanquinlaw08.QuietTells", spec := "quietTells", unfollowed := true, recurses := true, apart := false, narrowed := true }
def QuietTellsUptoSaid : Prop := quietTellsUptoRow.holds Try.pinned (OpenSpec.upto quietTellsSpec)

/-- 'palanquinlaw08.QuietLeft', WHERE WHAT IT READS IS OF BULK AT MOST 1048576: true; the input reads as it did. -/
def quietLeftUptoRow : OpenClaim := { program := "ytjbchnnbphikhaa", sum := "b7195078fd9b07cef59c608009043edfeedc7f131b6d07d9c9ca4b4a4de7d568", func := "palanquin/palanquinlaw08.QuietLeft", spec := "quietLeft", unfollowed := true, recurses := true, apart := false, narrowed := true }
def QuietLeftUptoSaid : Prop := quietLeftUptoRow.holds Try.pinned (OpenSpec.upto quietLeftSpec)

/-- 'palanquinlaw08.QuietEarlier', WHERE WHAT IT READS IS OF BULK AT MOST 1048576: true; the input reads as it did. -/
def quietEarlierUptoRow : OpenClaim := { program := "ytjbchnnbphikhaa", sum := "b7195078fd9b07cef59c608009043edfeedc7f131b6d07d9c9ca4b4a4de7d568", func := "palanquin/palanquinlaw08.QuietEarlier", spec := "quietEarlier", unfollowed := true, recurses := true, apart := false, narrowed := true }
def QuietEarlierUptoSaid : Prop := quietEarlierUptoRow.holds Try.pinned (OpenSpec.upto quietEarlierSpec)

end Rows
end Go.Proofs.Ytjbchnnbphikhaa
