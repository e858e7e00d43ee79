/- Texts on finished packages, joined. -/
import Derived.Test.YtcgekcjnaadcmaaGreatDoorBunBase
import Derived.Test.YtcgekcjnaadcmaaGreatDoorRows
import Derived.Laws.CopyRow
import Derived.Below
import Derived.RowKit3
import Derived.WalkKit
import Derived.Maps.RangeRun
import Derived.Laws.StructEq
import Derived.Maps.OwnSet
import Derived.ProofKit
import Derived.OpenShut
import Derived.Outline
import Derived.Deep.QuietTactic
import Derived.Deep.RegionHeld3
import Derived.Carry
import Derived.Deep.RegionWith

/- What is remembered, as a list of entries, the oldest first; a map in one block that holds them; what look-up, store, delete, clear and len make of it. -/
namespace Go.Proofs.YtcgekcjnaadcmaaGreatDoor.Ptlb
open Go.Proofs.YtcgekcjnaadcmaaGreatDoor.Pbase
open Go.RowKit Go.ChangeMaps
set_option linter.unusedVariables false

/-- A key; a mapping; an entry: its key, its mapping, its turn. -/
abbrev Ky := Int × Int
abbrev Pt := Bool × Int × Int × Int
abbrev En := Ky × Pt × Int
def kv (k : Ky) : Value := .agg #[.int .i64 k.1, .int .i64 k.2]
def ev (p : Pt) (t : Int) : Value := .agg #[.bool p.1, .int .i64 p.2.1, .int .i64 p.2.2.1, .int .i64 p.2.2.2, .int .i64 t]
/-! ### The list -/
/-! ### The model's map -/
/-- The entries of the map in block b are S's, in S's order; their stamps rise. -/
structure Ents (es : Array MapEntry) (clock : Nat) (S : List En) : Prop where
  ents : es.toList.map (fun e => (e.key, e.val)) = S.map fun x => (kv x.1, ev x.2.1 x.2.2)
  rise : (es.toList.map (·.born)).Pairwise (· < ·)
  old : ∀ e ∈ es.toList, e.born < clock
def MapIs (w : World) (b : Nat) (S : List En) : Prop := ∃ es clock, w.heap[b]? = some (.map es clock) ∧ Ents es clock S
theorem MapIs.on {w w' : World} {b : Nat} {S : List En} (h : MapIs w b S) (hb : w'.heap[b]? = w.heap[b]?) : MapIs w' b S := by
  obtain ⟨es, clock, h1, h2⟩ := h
  exact ⟨es, clock, hb.trans h1, h2⟩
theorem MapIs.lt {w : World} {b : Nat} {S : List En} (h : MapIs w b S) : b < w.heap.size := by
  obtain ⟨es, clock, h1, h2⟩ := h
  exact (Array.getElem?_eq_some_iff.1 h1).1
/-! ### The operations -/
/-! ### Store, delete, clear -/
end Go.Proofs.YtcgekcjnaadcmaaGreatDoor.Ptlb

/- What Made, Len, Get, Flush of package tlb answer, for every argument that their types allow. -/
namespace Go.Proofs.YtcgekcjnaadcmaaGreatDoor.Ptlb
open Go.Proofs.YtcgekcjnaadcmaaGreatDoor.Pbase
open Go.RowKit Go.ChangeMaps
set_option linter.unusedVariables false

/-- One that New made lies behind the pointer to block p; its map in block b. -/
structure TlbIs (w : World) (p b : Nat) (room : Int) (S : List En) : Prop where
  row : w.heap[p]? = some (.cells #[.int .i64 room, .map (some b)] 238 (0, 0))
  map : MapIs w b S
theorem TlbIs.lt {w : World} {p b : Nat} {r : Int} {S : List En} (h : TlbIs w p b r S) : p < w.heap.size := (Array.getElem?_eq_some_iff.1 h.row).1
theorem TlbIs.on {w w' : World} {p b : Nat} {r : Int} {S : List En} (h : TlbIs w p b r S) (hp : w'.heap[p]? = w.heap[p]?) (hb : w'.heap[b]? = w.heap[b]?) : TlbIs w' p b r S := ⟨hp.trans h.row, h.map.on hb⟩
/-! ### Made, Len -/
/-! ### Get -/
/-! ### Flush -/
end Go.Proofs.YtcgekcjnaadcmaaGreatDoor.Ptlb

/- New and Flush of package tlb, apart from Put and Keys (the texts of TlbP and TlbK). -/
namespace Go.Proofs.YtcgekcjnaadcmaaGreatDoor.Ptlb
open Go.Proofs.YtcgekcjnaadcmaaGreatDoor.Pbase
open Go.RowKit Go.ChangeMaps
set_option linter.unusedVariables false

/-! ### New -/
theorem mapIs_new (w : World) : MapIs (w.alloc (.map #[] 0)) w.heap.size [] := ⟨#[], 0, (MapKept.heap_alloc w _).1, rfl, by simp, by simp⟩
set_option maxRecDepth 100000 in
theorem new_ok (r : Int) (w : World) (h0 : 0 ≤ r) (h1 : r ≤ 8) :
    Calls Tryz.prog 69 #[.int .i64 r] w fun e w' => e = .returned (.tuple #[.pointer (some ⟨w.heap.size + 1, 0, none⟩), .int .i64 0]) ∧ TlbIs w' (w.heap.size + 1) w.heap.size r [] ∧ Below w.heap.size w w' := by
  have hmm := @run_makeMap Tryz.prog
  have n0 : ¬ r < 0 := by omega
  have n1 : ¬ 8 < r := by omega
  go_enter Tryz.func69, Tryz.ntmps69
  go_wp2
  go_ret2
  refine ⟨rfl, ⟨?_, ?_⟩, bal (bal (Below.refl _ _) _) _⟩
  · have := heap_alloc_new (w.alloc (.map #[] 0)) (.cells #[.int .i64 r, .map (some w.heap.size)] 238)
    simpa using this
  · exact (mapIs_new w).on (Below.heap_alloc _ _ _ (by simp))

/-! ### Flush once more -/
end Go.Proofs.YtcgekcjnaadcmaaGreatDoor.Ptlb
