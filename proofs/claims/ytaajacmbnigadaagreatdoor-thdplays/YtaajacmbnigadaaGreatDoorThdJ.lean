/- Both memories and both files of registers side by side, as ThdPlays lays them; what turns leaves the others. The program's tables stand apart. -/
import Derived.Test.YtaajacmbnigadaaGreatDoorThdW
import Derived.Test.YtaajacmbnigadaaGreatDoorBunRegs
import Derived.Test.YtaajacmbnigadaaGreatDoorBunMem
namespace Go.Proofs.YtaajacmbnigadaaGreatDoor.Pthd
open Go.Proofs.YtaajacmbnigadaaGreatDoor.Pbase Go.Proofs.YtaajacmbnigadaaGreatDoor.Play Go.Proofs.YtaajacmbnigadaaGreatDoor.Pmem
open Go.RowKit
set_option linter.unusedVariables false

/-- What turns nothing from base on, turns nothing of where a memory ends. -/
theorem top_on {w w' : World} {base p N T : Nat} {M : Nat → Nat → Int} (h : Top w p T) (hR : RefIs w base p N M) (hs : w.heap.size ≤ w'.heap.size) (hk : ∀ k, base ≤ k → k < w.heap.size → w'.heap[k]? = w.heap[k]?) (hN : 1 ≤ N) : Top w' p T := by
  obtain ⟨hp, v, hv, r, c, h1, h2, h3⟩ := hR
  rcases h1.2 with ⟨_, e⟩ | ⟨g, cap, cur, rfl, hg, hh, _⟩
  · omega
  · have hpl : p < w.heap.size := (Array.getElem?_eq_some_iff.1 hv).1
    have hgl : g < w.heap.size := (Array.getElem?_eq_some_iff.1 hh).1
    have hcp : w.cell? ⟨p, 0, none⟩ = some (.slice (some ⟨g, 0, none⟩) N cap) := by rw [cell_of_row w p 0 _ _ _ hv]; rfl
    refine ⟨Nat.le_trans h.1 hs, h.2.1, fun g' n' cap' e => ?_⟩
    rw [World.cell?_of_block (hk p hp hpl), hcp] at e
    simp only [Option.some.injEq, Value.slice.injEq, Addr.mk.injEq, and_true] at e
    obtain ⟨rfl, rfl, rfl⟩ := e
    obtain ⟨a1, a2⟩ := h.2.2 g N cap hcp
    refine ⟨a1, fun f x l c' hf e2 => ?_⟩
    rw [World.cell?_of_block (hk g hg hgl)] at e2
    exact a2 f x l c' hf e2
structure Jt (w W : World) (M M' : Nat → Nat → Int) (pr T R s : Nat) (L L' : Nat → Int) : Prop where
  mem : MemIs W (w.heap.size + 1) w.heap.size 3 M
  fm : Fit M
  file : Pregs.FileIs W pr L
  fl : FitL L
  rr : Rr W (w.heap.size + 2) (w.heap.size + 2) 3 M' T R s L'
  below : Below w.heap.size w W
  lo : T ≤ pr
  hi : pr < R
section
variable {w W W' : World} {M M' M1 : Nat → Nat → Int} {pr T R s : Nat} {L L' L1 : Nat → Int}
theorem Jt.two (h : Jt w W M M' pr T R s L L') : w.heap.size + 2 < T := h.rr.top.2.1
theorem Jt.on (h : Jt w W M M' pr T R s L L') (hB : Below W.heap.size W W') : Jt w W' M M' pr T R s L L' :=
  ⟨h.mem.grown hB, h.fm, h.file.on (hB.block pr h.file.lt), h.fl, h.rr.on hB, h.below.trans (hB.mono h.below.size), h.lo, h.hi⟩
/-- The program's memory has turned. -/
theorem Jt.pm (h : Jt w W M M' pr T R s L L') (hM : MemIs W' (w.heap.size + 1) w.heap.size 3 M1) (hF : Fit M1) (hB : But w.heap.size W W') : Jt w W' M1 M' pr T R s L L' := by
  have h2 := h.two
  have h3 := h.lo
  have h4 := h.rr.le
  refine ⟨hM, hF, h.file.on (hB.block pr h.file.lt (by omega)), h.fl, ?_, h.below.trans (hB.below (Nat.le_refl _) h.below.size), h.lo, h.hi⟩
  have hk : ∀ k, w.heap.size + 2 ≤ k → k < W.heap.size → W'.heap[k]? = W.heap[k]? := fun k h1 h2 => hB.block k h2 (by omega)
  exact ⟨⟨h.rr.rx.ref.on hk, h.rr.rx.fit, h.rr.rx.n1, h.rr.rx.n64⟩, top_on h.rr.top h.rr.rx.ref hB.size hk (by omega), h.rr.le, h.rr.rf.on fun k h1 h2 => hk k (by omega) h2, h.rr.fl⟩
/-- The document's has. -/
theorem Jt.dm (h : Jt w W M M' pr T R s L L') (hR : Rx W' (w.heap.size + 2) (w.heap.size + 2) 3 M1) (hB : Below (w.heap.size + 2) W W') (hK : KeepX (w.heap.size + 2) W W') : Jt w W' M M1 pr T R s L L' :=
  ⟨h.mem.below hB (by omega) (by omega), h.fm, h.file.on ((hK.up T h.rr.top).2 pr h.lo h.file.lt), h.fl, h.rr.mem hR hK, h.below.trans (hB.mono (by omega)), h.lo, h.hi⟩
/-- The program's registers have turned. -/
theorem Jt.pg (h : Jt w W M M' pr T R s L L') (hf : Pregs.FileIs W' pr L1) (hF : FitL L1) (hB : But pr W W') : Jt w W' M M' pr T R s L1 L' := by
  have h2 := h.two
  have h3 := h.lo
  have h4 := h.hi
  have hT : Below T W W' := ⟨hB.os, hB.tape, hB.output, hB.size, fun i hi => hB.block i (Nat.lt_of_lt_of_le hi h.rr.top.1) (by omega)⟩
  refine ⟨h.mem.below hT (by omega) (by omega), h.fm, hf, hF, ?_, h.below.trans (hT.mono (by omega)), h.lo, h.hi⟩
  exact ⟨⟨h.rr.rx.ref.under h.rr.top hT, h.rr.rx.fit, h.rr.rx.n1, h.rr.rx.n64⟩, h.rr.top.under hT, h.rr.le, h.rr.rf.on fun k h1 h2 => hB.block k h2 (by omega), h.rr.fl⟩
/-- The document's have. -/
theorem Jt.dg (h : Jt w W M M' pr T R s L L') (hR : Pregs.RefIs W' R s L1) (hF : FitL L1) (hB : Below R W W') : Jt w W' M M' pr T R s L L1 := by
  have h2 := h.two
  have h3 := h.lo
  have h4 := h.hi
  exact ⟨h.mem.below hB (by omega) (by omega), h.fm, h.file.on (hB.block pr h.hi), h.fl, h.rr.reg hR hB hF, h.below.trans (hB.mono (by omega)), h.lo, h.hi⟩
end
theorem fitL_zero : FitL fun _ => 0 := fun _ _ => ⟨Int.le_refl _, by show (0 : Int) ≤ _; decide⟩
/-- As ThdPlays lays them. -/
theorem jt_new {w w1 w3 : World} {M : Nat → Nat → Int} (hF : Fit M) (h : Both w w1 3 M) (hR : Pregs.RefIs w3 (Pregs.newW w1).heap.size (Pregs.newW w1).heap.size fun _ => 0) (hB : Below (Pregs.newW w1).heap.size (Pregs.newW w1) w3) :
    Jt w w3 M M w1.heap.size w1.heap.size (w1.heap.size + 1) (w1.heap.size + 1) (fun _ => 0) (fun _ => 0) := by
  have hb := Pregs.newW_below w1
  rw [Pregs.newW_size] at hR
  have hb3 : Below w1.heap.size w1 w3 := hb.trans (hB.mono hb.size)
  have ht := h.ref.top (by omega)
  refine ⟨h.mem.grown hb3, hF, (Pregs.newW_is w1).on (hB.block _ (by rw [Pregs.newW_size]; omega)), fitL_zero, ⟨⟨h.ref.grown hb3, hF, by omega, by omega⟩, ht.under hb3, by omega, hR, fitL_zero⟩, h.below.trans (hb3.mono h.below.size), Nat.le_refl _, by omega⟩
end Go.Proofs.YtaajacmbnigadaaGreatDoor.Pthd
