/- A memory of the call's own, and capabilities in blocks beside it; capabilities held against each other. -/
import Derived.Test.YtgcaodfcodalfaaGreatDoorCtbL
import Derived.Test.YtgcaodfcodalfaaGreatDoorBunSlot
import Derived.Deep.CutBlock
namespace Go.Proofs.YtgcaodfcodalfaaGreatDoor.Pcaptbl
open Go.Proofs.YtgcaodfcodalfaaGreatDoor.Pbase Go.Proofs.YtgcaodfcodalfaaGreatDoor.Pmem Go.Proofs.YtgcaodfcodalfaaGreatDoor.Pradix Go.Proofs.YtgcaodfcodalfaaGreatDoor.Pslot
open Go.RowKit
set_option linter.unusedVariables false

theorem eqlC (k r t l e a : Int) (w : World) : (binOp .eql 32 (.agg #[.int .i64 k, .int .i64 r, .int .i64 t, .int .i64 l, .int .i64 e, .int .i64 a]) (.agg #[.int .i64 k, .int .i64 r, .int .i64 t, .int .i64 l, .int .i64 e, .int .i64 a])).run Tryz.prog w = .ok (.bool true) w := by
  rw [run_eql_struct, eqC]
  simp
/-- Six numbers. -/
abbrev S6 := Int × Int × Int × Int × Int × Int
def Bx (w : World) (D : Nat) (x : S6) : Prop := Pcap.Box6 w D x.1 x.2.1 x.2.2.1 x.2.2.2.1 x.2.2.2.2.1 x.2.2.2.2.2
/-- A memory of the call's own, and capabilities in blocks beside it. -/
structure Qs (w0 w : World) (p b N : Nat) (M : Nat → Nat → Int) (x : List (Nat × S6)) : Prop where
  own : Own w0 w p b N M
  bx : ∀ c ∈ x, Bx w c.1 c.2 ∧ c.1 ≠ b
section
variable {w0 w w' : World} {p b N : Nat} {M M' : Nat → Nat → Int} {x : List (Nat × S6)}
theorem Qs.on (h : Qs w0 w p b N M x) (hB : Below w.heap.size w w') : Qs w0 w' p b N M x := ⟨h.own.on hB, fun c hc => ⟨(h.bx c hc).1.on hB, (h.bx c hc).2⟩⟩
theorem Qs.but (h : Qs w0 w p b N M x) (hm : Mx w' p b N M') (hB : But b w w') : Qs w0 w' p b N M' x := ⟨h.own.but hm hB, fun c hc => ⟨box6_but (h.bx c hc).1 hB (h.bx c hc).2, (h.bx c hc).2⟩⟩
theorem Qs.more (h : Qs w0 w p b N M x) (k r t l e a : Int) (ty : TypeId) : Qs w0 (w.alloc (.cells #[.int .i64 k, .int .i64 r, .int .i64 t, .int .i64 l, .int .i64 e, .int .i64 a] ty)) p b N M ((w.heap.size, (k, r, t, l, e, a)) :: x) := by
  refine ⟨h.own.on (bal (Below.refl _ _) _), fun c hc => ?_⟩
  rcases List.mem_cons.1 hc with rfl | hc
  · exact ⟨Pcap.box6_new w k r t l e a ty, Nat.ne_of_gt h.own.mx.mt.mem.lt.2⟩
  · exact ⟨(h.bx c hc).1.on (bal (Below.refl _ _) _), (h.bx c hc).2⟩
theorem Qs.less (h : Qs w0 w p b N M x) {z : List (Nat × S6)} (hz : ∀ c ∈ z, c ∈ x) : Qs w0 w p b N M z := ⟨h.own, fun c hc => h.bx c (hz c hc)⟩
theorem Qs.first {D : Nat} {y : S6} (h : Qs w0 w p b N M ((D, y) :: x)) : Bx w D y := (h.bx _ (List.mem_cons_self ..)).1
theorem Qs.second {D : Nat} {c : Nat × S6} {y : S6} (h : Qs w0 w p b N M (c :: (D, y) :: x)) : Bx w D y := (h.bx _ (List.mem_cons_of_mem _ (List.mem_cons_self ..))).1
theorem Qs.third {D : Nat} {c c' : Nat × S6} {y : S6} (h : Qs w0 w p b N M (c :: c' :: (D, y) :: x)) : Bx w D y := (h.bx _ (List.mem_cons_of_mem _ (List.mem_cons_of_mem _ (List.mem_cons_self ..)))).1
end
theorem qs_two {w : World} (h : Tb w) {N : Nat} (h1 : 1 ≤ N) (h2 : N ≤ 64) (k r t l e c k' r' t' l' e' c' : Int) : Qs w (newW ((w.alloc (.cells #[.int .i64 k, .int .i64 r, .int .i64 t, .int .i64 l, .int .i64 e, .int .i64 c] 32)).alloc (.cells #[.int .i64 k', .int .i64 r', .int .i64 t', .int .i64 l', .int .i64 e', .int .i64 c'] 32)) N) (w.heap.size + 1 + 1 + 1) (w.heap.size + 1 + 1) N (fun _ _ => 0) [(w.heap.size, (k, r, t, l, e, c)), (w.heap.size + 1, (k', r', t', l', e', c'))] := by
  have hb := bal (bal (Below.refl w.heap.size w) (.cells #[.int .i64 k, .int .i64 r, .int .i64 t, .int .i64 l, .int .i64 e, .int .i64 c] 32)) (.cells #[.int .i64 k', .int .i64 r', .int .i64 t', .int .i64 l', .int .i64 e', .int .i64 c'] 32)
  have h0 := own_new (h.on hb) h1 h2
  have hs : ((w.alloc (.cells #[.int .i64 k, .int .i64 r, .int .i64 t, .int .i64 l, .int .i64 e, .int .i64 c] 32)).alloc (.cells #[.int .i64 k', .int .i64 r', .int .i64 t', .int .i64 l', .int .i64 e', .int .i64 c'] 32)).heap.size = w.heap.size + 1 + 1 := by simp
  have hl := h0.lo
  rw [hs] at h0 hl
  refine ⟨⟨h0.mx, hb.trans (h0.below.mono (by rw [hs]; omega)), by omega⟩, fun q hq => ?_⟩
  rcases List.mem_cons.1 hq with rfl | hq
  · exact ⟨((Pcap.box6_new w k r t l e c 32).on (bal (Below.refl _ _) _)).on h0.below, by show w.heap.size ≠ _; omega⟩
  · rcases List.mem_cons.1 hq with rfl | hq
    · have := Pcap.box6_new (w.alloc (.cells #[.int .i64 k, .int .i64 r, .int .i64 t, .int .i64 l, .int .i64 e, .int .i64 c] 32)) k' r' t' l' e' c' 32
      rw [World.size_alloc] at this
      exact ⟨this.on h0.below, by show w.heap.size + 1 ≠ _; omega⟩
    · cases hq
end Go.Proofs.YtgcaodfcodalfaaGreatDoor.Pcaptbl
