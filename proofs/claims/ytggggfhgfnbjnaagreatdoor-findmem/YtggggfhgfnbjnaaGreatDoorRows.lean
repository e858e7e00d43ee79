/-
  NARROWER THAN 'FOR EVERY INPUT', by the rows' own cells (each row's printed sentence says how): FindTells: laid · FindFewer: laid · FindZero: laid · FindMem: laid.
  DERIVED. THE GIVEN ROWS OF THIS SEAT. 4 by the template 'for every input the law returns true; each argument reads behind the call as it read before'; 0 by the template 'total and deterministic' (their statements: YtggggfhgfnbjnaaGreatDoorTotals.lean).
  GIVEN WITH THE SEED: the statements are not yours to turn. If you find one false, say at which input.
  Laid BY PROGRAM, IN A SANDBOX (cutbox-rows.mjs): the forced cells as the released guide's own fill.sh prints them over the translation 2ae3fe28af7aec28… (all of the seat's roots in one cut). By AI agents, Wed Nov 11 2026. No macro, syntax, notation, axiom, sorry.
-/
import Derived.Test.YtggggfhgfnbjnaaGreatDoorChecked
import GoSem.Claim
import GoSem.ClaimJoined
import GoSem.ClaimMapViews
import Derived.JoinedTies
import Derived.KernelRfl
namespace Go.Proofs.YtggggfhgfnbjnaaGreatDoor
/- THE CELL 'sum', in the pinned program and in every row, IS THE sha256 OF THE DUMP (.gsa) THAT YtggggfhgfnbjnaaGreatDoorProg.lean LOADS. Nothing in Lean hashes anything: it is a label: what it is worth is what the hold of that sum in a sandbox is worth. -/
noncomputable def Tryz.pinned : Pinned := { name := "ytggggfhgfnbjnaagreatdoor", sum := "2ae3fe28af7aec28bdbc448c19e7fb5bf3757d59781a45e62cc7c9b7e9e4a950", checked := Tryz.checked }
namespace Rows
def none {H : Type} : Left H := { results := [], args := [] }

/- WHAT THE LISTED PACKAGE-LEVEL VARIABLES READ AS WHEN THE CALL BEGINS. Each datum BY PROGRAM (the guide's laid-datum.mjs) off the statement by which the dump's own 'gosem.cut.vars' lays the variable. In a bare row this is a premise. The card (YtggggfhgfnbjnaaGreatDoorCards.lean) ties it to the program's text. -/
def laid_palanquin_cap_widths {H : Type} : DataW H := .agg [.lit (.int .i64 4), .lit (.int .i64 5), .lit (.int .i64 6), .lit (.int .i64 6), .lit (.int .i64 16)]
def laid_palanquin_cap_most {H : Type} : DataW H := .agg [.agg [.lit (.int .i64 0), .lit (.int .i64 0), .lit (.int .i64 0), .lit (.int .i64 0), .lit (.int .i64 0), .lit (.int .i64 0)], .agg [.lit (.int .i64 0), .lit (.int .i64 0), .lit (.int .i64 0), .lit (.int .i64 0), .lit (.int .i64 0), .lit (.int .i64 1073741824)], .agg [.lit (.int .i64 0), .lit (.int .i64 31), .lit (.int .i64 63), .lit (.int .i64 0), .lit (.int .i64 0), .lit (.int .i64 64)], .agg [.lit (.int .i64 0), .lit (.int .i64 31), .lit (.int .i64 63), .lit (.int .i64 0), .lit (.int .i64 0), .lit (.int .i64 0)], .agg [.lit (.int .i64 0), .lit (.int .i64 31), .lit (.int .i64 63), .lit (.int .i64 0), .lit (.int .i64 0), .lit (.int .i64 0)], .agg [.lit (.int .i64 0), .lit (.int .i64 31), .lit (.int .i64 63), .lit (.int .i64 63), .lit (.int .i64 65535), .lit (.int .i64 0)], .agg [.lit (.int .i64 0), .lit (.int .i64 31), .lit (.int .i64 63), .lit (.int .i64 0), .lit (.int .i64 0), .lit (.int .i64 0)], .agg [.lit (.int .i64 0), .lit (.int .i64 31), .lit (.int .i64 63), .lit (.int .i64 63), .lit (.int .i64 65535), .lit (.int .i64 1073741824)], .agg [.lit (.int .i64 0), .lit (.int .i64 31), .lit (.int .i64 63), .lit (.int .i64 0), .lit (.int .i64 0), .lit (.int .i64 0)], .agg [.lit (.int .i64 0), .lit (.int .i64 31), .lit (.int .i64 63), .lit (.int .i64 0), .lit (.int .i64 0), .lit (.int .i64 0)], .agg [.lit (.int .i64 0), .lit (.int .i64 31), .lit (.int .i64 63), .lit (.int .i64 0), .lit (.int .i64 0), .lit (.int .i64 0)], .agg [.lit (.int .i64 0), .lit (.int .i64 31), .lit (.int .i64 0), .lit (.int .i64 0), .lit (.int .i64 0), .lit (.int .i64 0)]]
def laid_palanquin_head_widths {H : Type} : DataW H := .agg [.lit (.int .i64 4), .lit (.int .i64 1), .lit (.int .i64 1)]
def laid_palanquin_comp_most {H : Type} : DataW H := .agg [.lit (.int .u64 63), .lit (.int .u64 63), .lit (.int .u64 63), .lit (.int .u64 65535), .lit (.int .u64 64), .lit (.int .u64 1073741824)]
def laid_palanquin_radix_slotWidths {H : Type} : DataW H := .agg [.lit (.int .i64 4), .lit (.int .i64 4)]

/-- 'palanquinlaw26.FindTells': WHATEVER THE INPUT: true; the input reads as it did. -/
def findTellsSpec : ChangeSpec := { name := "findTells", fn := fun _ => fun
  | [d1, d2, d3, d4, d5, d6, d7] => { results := [.lit (.bool true)], args := [d1, d2, d3, d4, d5, d6, d7] }
  | _ => none }
def findTellsRow : OpenClaim := { program := "ytggggfhgfnbjnaagreatdoor", sum := "2ae3fe28af7aec28bdbc448c19e7fb5bf3757d59781a45e62cc7c9b7e9e4a950", func := "palanquin/palanquinlaw26.FindTells", spec := "findTells", unfollowed := true, recurses := true, named := ["palanquin/head.widths", "palanquin/cap.widths", "palanquin/cap.most", "palanquin/radix.slotWidths", "palanquin/comp.most"], plainKeys := false, apart := false, laid := [("palanquin/cap.widths", laid_palanquin_cap_widths), ("palanquin/cap.most", laid_palanquin_cap_most), ("palanquin/head.widths", laid_palanquin_head_widths), ("palanquin/comp.most", laid_palanquin_comp_most), ("palanquin/radix.slotWidths", laid_palanquin_radix_slotWidths)] }
def FindTellsSaid : Prop := findTellsRow.holds Tryz.pinned (OpenSpec.ofChange findTellsSpec)

/-- ITS FALSE NEIGHBOUR: 'it returns false'. Refute it at one input. -/
def findTellsWrong : ChangeSpec := { name := "findTells", fn := fun _ => fun
  | [d1, d2, d3, d4, d5, d6, d7] => { results := [.lit (.bool false)], args := [d1, d2, d3, d4, d5, d6, d7] }
  | _ => none }
def FindTellsWrongFalsely : Prop := findTellsRow.holds Tryz.pinned (OpenSpec.ofChange findTellsWrong)

/-- 'palanquinlaw26.FindFewer': WHATEVER THE INPUT: true; the input reads as it did. -/
def findFewerSpec : ChangeSpec := { name := "findFewer", fn := fun _ => fun
  | [d1, d2, d3, d4, d5] => { results := [.lit (.bool true)], args := [d1, d2, d3, d4, d5] }
  | _ => none }
def findFewerRow : OpenClaim := { program := "ytggggfhgfnbjnaagreatdoor", sum := "2ae3fe28af7aec28bdbc448c19e7fb5bf3757d59781a45e62cc7c9b7e9e4a950", func := "palanquin/palanquinlaw26.FindFewer", spec := "findFewer", unfollowed := true, recurses := true, named := ["palanquin/head.widths", "palanquin/cap.widths", "palanquin/cap.most", "palanquin/radix.slotWidths"], plainKeys := false, apart := false, laid := [("palanquin/cap.widths", laid_palanquin_cap_widths), ("palanquin/cap.most", laid_palanquin_cap_most), ("palanquin/head.widths", laid_palanquin_head_widths), ("palanquin/radix.slotWidths", laid_palanquin_radix_slotWidths)] }
def FindFewerSaid : Prop := findFewerRow.holds Tryz.pinned (OpenSpec.ofChange findFewerSpec)

/-- ITS FALSE NEIGHBOUR: 'it returns false'. Refute it at one input. -/
def findFewerWrong : ChangeSpec := { name := "findFewer", fn := fun _ => fun
  | [d1, d2, d3, d4, d5] => { results := [.lit (.bool false)], args := [d1, d2, d3, d4, d5] }
  | _ => none }
def FindFewerWrongFalsely : Prop := findFewerRow.holds Tryz.pinned (OpenSpec.ofChange findFewerWrong)

/-- 'palanquinlaw26.FindZero': WHATEVER THE INPUT: true; the input reads as it did. -/
def findZeroSpec : ChangeSpec := { name := "findZero", fn := fun _ => fun
  | [d1, d2] => { results := [.lit (.bool true)], args := [d1, d2] }
  | _ => none }
def findZeroRow : OpenClaim := { program := "ytggggfhgfnbjnaagreatdoor", sum := "2ae3fe28af7aec28bdbc448c19e7fb5bf3757d59781a45e62cc7c9b7e9e4a950", func := "palanquin/palanquinlaw26.FindZero", spec := "findZero", unfollowed := true, recurses := true, named := ["palanquin/radix.slotWidths", "palanquin/head.widths", "palanquin/cap.widths", "palanquin/cap.most", "palanquin/comp.most"], plainKeys := false, apart := false, laid := [("palanquin/cap.widths", laid_palanquin_cap_widths), ("palanquin/cap.most", laid_palanquin_cap_most), ("palanquin/head.widths", laid_palanquin_head_widths), ("palanquin/comp.most", laid_palanquin_comp_most), ("palanquin/radix.slotWidths", laid_palanquin_radix_slotWidths)] }
def FindZeroSaid : Prop := findZeroRow.holds Tryz.pinned (OpenSpec.ofChange findZeroSpec)

/-- ITS FALSE NEIGHBOUR: 'it returns false'. Refute it at one input. -/
def findZeroWrong : ChangeSpec := { name := "findZero", fn := fun _ => fun
  | [d1, d2] => { results := [.lit (.bool false)], args := [d1, d2] }
  | _ => none }
def FindZeroWrongFalsely : Prop := findZeroRow.holds Tryz.pinned (OpenSpec.ofChange findZeroWrong)

/-- 'palanquinlaw26.FindMem': WHATEVER THE INPUT: true; the input reads as it did. -/
def findMemSpec : ChangeSpec := { name := "findMem", fn := fun _ => fun
  | [d1, d2, d3] => { results := [.lit (.bool true)], args := [d1, d2, d3] }
  | _ => none }
def findMemRow : OpenClaim := { program := "ytggggfhgfnbjnaagreatdoor", sum := "2ae3fe28af7aec28bdbc448c19e7fb5bf3757d59781a45e62cc7c9b7e9e4a950", func := "palanquin/palanquinlaw26.FindMem", spec := "findMem", unfollowed := true, recurses := true, named := ["palanquin/head.widths", "palanquin/cap.widths", "palanquin/cap.most", "palanquin/radix.slotWidths"], plainKeys := false, apart := false, laid := [("palanquin/cap.widths", laid_palanquin_cap_widths), ("palanquin/cap.most", laid_palanquin_cap_most), ("palanquin/head.widths", laid_palanquin_head_widths), ("palanquin/radix.slotWidths", laid_palanquin_radix_slotWidths)] }
def FindMemSaid : Prop := findMemRow.holds Tryz.pinned (OpenSpec.ofChange findMemSpec)

/-- ITS FALSE NEIGHBOUR: 'it returns false'. Refute it at one input. -/
def findMemWrong : ChangeSpec := { name := "findMem", fn := fun _ => fun
  | [d1, d2, d3] => { results := [.lit (.bool false)], args := [d1, d2, d3] }
  | _ => none }
def FindMemWrongFalsely : Prop := findMemRow.holds Tryz.pinned (OpenSpec.ofChange findMemWrong)

/- THE SECOND FORM. 'bulk': how many values and letters a reading holds, each counted each time it is reached (what is shared counts as often as it is met; a slice's spare places count too). A statement '..UptoSaid' is the law's where the arguments, and the package variables that the reading takes, are together of bulk at most 1048576: NARROWER than '..Said'. Prove '..Said' where nothing that the law and all that it calls make is longer than what came in: it says more and counts as full. Else prove '..UptoSaid'. A law counts once. -/
mutual
def uptoBulk {H : Type} : DataW H → Nat
  | .lit (.string bytes) => bytes.length + 1
  | .lit _ => 1
  | .nil => 1
  | .ptr d => uptoBulk d + 1
  | .slice elems spare => uptoBulkAll elems + uptoBulkAll spare + 1
  | .agg parts => uptoBulkAll parts + 1
  | .iface _ d => uptoBulk d + 1
  | .map entries => uptoBulkEntries entries + 1
  | .held _ => 1
def uptoBulkAll {H : Type} : List (DataW H) → Nat
  | [] => 0
  | d :: r => uptoBulk d + uptoBulkAll r
def uptoBulkEntries {H : Type} : List (Lit × DataW H) → Nat
  | [] => 0
  | x :: r => uptoBulkEntry x + uptoBulkEntries r
def uptoBulkEntry {H : Type} : Lit × DataW H → Nat
  | (.string bytes, d) => bytes.length + uptoBulk d + 1
  | (_, d) => uptoBulk d + 1
 end
def uptoSmall : (H : Type) → List (DataW H) → Bool := fun _ ds => decide (uptoBulkAll ds ≤ 1048576)
def OpenSpec.upto (s : _root_.Go.ChangeSpec) : _root_.Go.OpenSpec := { _root_.Go.OpenSpec.ofChange s with cond := some uptoSmall }

/-- 'palanquinlaw26.FindTells', WHERE WHAT IT READS IS OF BULK AT MOST 1048576: true; the input reads as it did. -/
def findTellsUptoRow : OpenClaim := { program := "ytggggfhgfnbjnaagreatdoor", sum := "2ae3fe28af7aec28bdbc448c19e7fb5bf3757d59781a45e62cc7c9b7e9e4a950", func := "palanquin/palanquinlaw26.FindTells", spec := "findTells", unfollowed := true, recurses := true, named := ["palanquin/head.widths", "palanquin/cap.widths", "palanquin/cap.most", "palanquin/radix.slotWidths", "palanquin/comp.most"], plainKeys := false, apart := false, laid := [("palanquin/cap.widths", laid_palanquin_cap_widths), ("palanquin/cap.most", laid_palanquin_cap_most), ("palanquin/head.widths", laid_palanquin_head_widths), ("palanquin/comp.most", laid_palanquin_comp_most), ("palanquin/radix.slotWidths", laid_palanquin_radix_slotWidths)], narrowed := true }
def FindTellsUptoSaid : Prop := findTellsUptoRow.holds Tryz.pinned (OpenSpec.upto findTellsSpec)

/-- 'palanquinlaw26.FindFewer', WHERE WHAT IT READS IS OF BULK AT MOST 1048576: true; the input reads as it did. -/
def findFewerUptoRow : OpenClaim := { program := "ytggggfhgfnbjnaagreatdoor", sum := "2ae3fe28af7aec28bdbc448c19e7fb5bf3757d59781a45e62cc7c9b7e9e4a950", func := "palanquin/palanquinlaw26.FindFewer", spec := "findFewer", unfollowed := true, recurses := true, named := ["palanquin/head.widths", "palanquin/cap.widths", "palanquin/cap.most", "palanquin/radix.slotWidths"], plainKeys := false, apart := false, laid := [("palanquin/cap.widths", laid_palanquin_cap_widths), ("palanquin/cap.most", laid_palanquin_cap_most), ("palanquin/head.widths", laid_palanquin_head_widths), ("palanquin/radix.slotWidths", laid_palanquin_radix_slotWidths)], narrowed := true }
def FindFewerUptoSaid : Prop := findFewerUptoRow.holds Tryz.pinned (OpenSpec.upto findFewerSpec)

/-- 'palanquinlaw26.FindZero', WHERE WHAT IT READS IS OF BULK AT MOST 1048576: true; the input reads as it did. -/
def findZeroUptoRow : OpenClaim := { program := "ytggggfhgfnbjnaagreatdoor", sum := "2ae3fe28af7aec28bdbc448c19e7fb5bf3757d59781a45e62cc7c9b7e9e4a950", func := "palanquin/palanquinlaw26.FindZero", spec := "findZero", unfollowed := true, recurses := true, named := ["palanquin/radix.slotWidths", "palanquin/head.widths", "palanquin/cap.widths", "palanquin/cap.most", "palanquin/comp.most"], plainKeys := false, apart := false, laid := [("palanquin/cap.widths", laid_palanquin_cap_widths), ("palanquin/cap.most", laid_palanquin_cap_most), ("palanquin/head.widths", laid_palanquin_head_widths), ("palanquin/comp.most", laid_palanquin_comp_most), ("palanquin/radix.slotWidths", laid_palanquin_radix_slotWidths)], narrowed := true }
def FindZeroUptoSaid : Prop := findZeroUptoRow.holds Tryz.pinned (OpenSpec.upto findZeroSpec)

/-- 'palanquinlaw26.FindMem', WHERE WHAT IT READS IS OF BULK AT MOST 1048576: true; the input reads as it did. -/
def findMemUptoRow : OpenClaim := { program := "ytggggfhgfnbjnaagreatdoor", sum := "2ae3fe28af7aec28bdbc448c19e7fb5bf3757d59781a45e62cc7c9b7e9e4a950", func := "palanquin/palanquinlaw26.FindMem", spec := "findMem", unfollowed := true, recurses := true, named := ["palanquin/head.widths", "palanquin/cap.widths", "palanquin/cap.most", "palanquin/radix.slotWidths"], plainKeys := false, apart := false, laid := [("palanquin/cap.widths", laid_palanquin_cap_widths), ("palanquin/cap.most", laid_palanquin_cap_most), ("palanquin/head.widths", laid_palanquin_head_widths), ("palanquin/radix.slotWidths", laid_palanquin_radix_slotWidths)], narrowed := true }
def FindMemUptoSaid : Prop := findMemUptoRow.holds Tryz.pinned (OpenSpec.upto findMemSpec)

end Rows
end Go.Proofs.YtggggfhgfnbjnaaGreatDoor
