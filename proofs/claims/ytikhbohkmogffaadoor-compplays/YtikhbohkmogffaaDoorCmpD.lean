/- What write of package comp does: the six words of a component stored into a frame that the memory has. -/
import Derived.Test.YtikhbohkmogffaaDoorCmpC
namespace Go.Proofs.YtikhbohkmogffaaDoor.Pcomp
open Go.Proofs.YtikhbohkmogffaaDoor.Pbase Go.Proofs.YtikhbohkmogffaaDoor.Pfield Go.Proofs.YtikhbohkmogffaaDoor.Pmem
open Go.RowKit Go.Shelf M
attribute [local go_sem] Oper.semAt_some
set_option linter.unusedVariables false

/-- The memory behind the stores of these. -/
def stP (N : Nat) (M : Nat → Nat → Int) (f : Int) (x : Cp) (pre : List (Fin 6)) : Nat → Nat → Int := pre.foldl (fun M i => stW N M f (4 + (i.1 : Nat)) (wd x i.1)) M
theorem stP_snoc (N : Nat) (M : Nat → Nat → Int) (f : Int) (x : Cp) (pre : List (Fin 6)) (i : Fin 6) : stP N M f x (pre ++ [i]) = stW N (stP N M f x pre) f (4 + (i.1 : Nat)) (wd x i.1) := by simp [stP]
theorem stP_upto (N : Nat) (M : Nat → Nat → Int) (f : Int) (x : Cp) : ∀ k : Nat, k ≤ 6 → stP N M f x (upto 6 k) = layF N M f (x.ws.take k)
  | 0, _ => by rw [List.take_zero, lay_nil]; rfl
  | k + 1, h => by
    have hk : k < x.ws.length := by rw [ws_len]; omega
    have e := lay_step (N := N) (M := M) (f := f) (l := x.ws.take k) (by rw [List.length_take]; omega) (wd x k)
    rw [List.length_take, Nat.min_eq_left (by omega)] at e
    rw [upto_succ (show k < 6 by omega), stP_snoc, stP_upto N M f x k (by omega), e]
    congr 1
    unfold wd
    rw [List.take_add_one, List.getElem?_eq_getElem hk]
    rfl
theorem keeps_but {b : Nat} {W W' : World} (h : But b W W') {cs : Array Value} {t : TypeId} {fr : Nat × Nat} (hb : W.heap[b]? = some (.cells cs t fr)) : KeepsOthers W W' := ⟨h.size, fun k o hk ho => by
  by_cases e : k = b
  · subst e
    rw [hb] at hk
    cases hk
    cases ho
  · exact (h.block k (Array.getElem?_eq_some_iff.1 hk).1 e).trans hk⟩
/-- What the variables of write hold between two rounds. B: where it began. -/
structure WrI (w : World) (B p b N : Nat) (M : Nat → Nat → Int) (f : Int) (x : Cp) (pre : List (Fin 6)) (W : World) : Prop where
  bm : Boxed W B 26 (.pointer (some ⟨p, 0, none⟩))
  bf : Boxed W (B + 1) 3 (.int .i64 f)
  be : Boxed W (B + 1 + 1 + 1) 30 (.int .i64 0)
  mem : MemIs W p b N (stP N M f x pre)
  but : But b w W
theorem but_own {b : Nat} {w A C : World} {row : Option Nat} (h : But b w A) (hg : A.grownBy C row) (hr : ∀ r, row = some r → w.heap.size ≤ r) : But b w C :=
  ⟨hg.os.trans h.os, hg.tape.trans h.tape, hg.output.trans h.output, Nat.le_trans h.size hg.size, fun i hi hn => (hg.block i (Nat.lt_of_lt_of_le hi h.size) (fun e => by have := hr i e.symm; omega)).trans (h.block i hi hn)⟩
theorem wrI_own (w : World) (B p b N : Nat) (M : Nat → Nat → Int) (f : Int) (x : Cp) {B' : Nat} (hw : w.heap.size ≤ B') : OwnFrom B' (WrI w B p b N M f x) := fun pre A C row hs hg hr => by
  have hr' : ∀ r, row = some r → ∃ o : Obj, A.heap[r]? = some o ∧ o.isCells = false := fun r e => (hr r e).2
  exact ⟨row_own hs.bm hg hr', row_own hs.bf hg hr', row_own hs.be hg hr', hs.mem.on ((row_own hs.mem.head hg hr').trans hs.mem.head.symm) ((row_own hs.mem.row hg hr').trans hs.mem.row.symm), but_own hs.but hg (fun r e => Nat.le_trans hw (hr r e).1)⟩
def WrA (B p : Nat) (f : Int) (c x : Cp) (i : Fin 6) (a' : Act) (_ : World) : Prop := a' = { tmps := #[.pointer (some ⟨p, 0, none⟩), .int .i64 f, .agg #[.int .i64 c.tb, .int .i64 c.pg, .int .i64 c.l, .int .i64 c.e, .int .i64 c.fa, .int .i64 c.wh], .pointer (some ⟨B, 0, none⟩), .pointer (some ⟨B + 1, 0, none⟩), .pointer (some ⟨B + 1 + 1, 0, none⟩), .pointer (some ⟨B + 1 + 1 + 1, 0, none⟩), .int .i64 (i.1 : Nat), .int .u64 (wd x i.1), undef, .agg #[.int .i64 c.tb, .int .i64 c.pg, .int .i64 c.l, .int .i64 c.e, .int .i64 c.fa, .int .i64 c.wh], .func (.func 52) #[] #[.pointer (some ⟨B + 1 + 1 + 1 + 1 + 1, 0, none⟩)], .int .i64 (i.1 : Nat), .int .u64 (wd x i.1), undef, undef, undef, undef, undef, undef, undef, undef, undef], defers := [] }
theorem WrI.step {w W : World} {B p b N : Nat} {M : Nat → Nat → Int} {f : Int} {x : Cp} {pre : List (Fin 6)} (h : WrI w B p b N M f x pre W) (i : Fin 6) (hB : b < B) {W' : World} (hW : W' = W.setRow b (cellsM N (stW N (stP N M f x pre) f (4 + (i.1 : Nat)) (wd x i.1)))) : WrI w B p b N M f x (pre ++ [i]) W' ∧ But b W W' := by
  have hb : But b W W' := by rw [hW]; exact (But.refl b W).setRow _
  refine ⟨⟨(hb.block _ h.bm.lt (by omega)).trans h.bm, (hb.block _ h.bf.lt (by omega)).trans h.bf, (hb.block _ h.be.lt (by omega)).trans h.be, ?_, h.but.trans hb⟩, hb⟩
  rw [stP_snoc, hW]
  exact h.mem.set _
theorem wr_new {w w1 : World} {p b N : Nat} {M : Nat → Nat → Int} (f : Int) (c x : Cp) (h : MemIs w p b N M) (hB : Below ((((w.alloc (.cells #[.pointer (some ⟨p, 0, none⟩)] 26)).alloc (.cells #[.int .i64 f] 3)).alloc (.cells #[.int .i64 c.tb, .int .i64 c.pg, .int .i64 c.l, .int .i64 c.e, .int .i64 c.fa, .int .i64 c.wh] 33)).alloc (.cells #[.int .i64 0] 30)).heap.size ((((w.alloc (.cells #[.pointer (some ⟨p, 0, none⟩)] 26)).alloc (.cells #[.int .i64 f] 3)).alloc (.cells #[.int .i64 c.tb, .int .i64 c.pg, .int .i64 c.l, .int .i64 c.e, .int .i64 c.fa, .int .i64 c.wh] 33)).alloc (.cells #[.int .i64 0] 30)) w1) : WrI w w.heap.size p b N M f x [] w1 := by
  have b0 := Boxed.new w 26 (.pointer (some ⟨p, 0, none⟩))
  have b1 := Boxed.new (w.alloc (.cells #[.pointer (some ⟨p, 0, none⟩)] 26)) 3 (.int .i64 f)
  have b3 := Boxed.new (((w.alloc (.cells #[.pointer (some ⟨p, 0, none⟩)] 26)).alloc (.cells #[.int .i64 f] 3)).alloc (.cells #[.int .i64 c.tb, .int .i64 c.pg, .int .i64 c.l, .int .i64 c.e, .int .i64 c.fa, .int .i64 c.wh] 33)) 30 (.int .i64 0)
  simp only [World.size_alloc] at b1 b3
  have hw : Below w.heap.size w ((((w.alloc (.cells #[.pointer (some ⟨p, 0, none⟩)] 26)).alloc (.cells #[.int .i64 f] 3)).alloc (.cells #[.int .i64 c.tb, .int .i64 c.pg, .int .i64 c.l, .int .i64 c.e, .int .i64 c.fa, .int .i64 c.wh] 33)).alloc (.cells #[.int .i64 0] 30)) := bal (bal (bal (bal (Below.refl _ _) _) _) _) _
  exact ⟨(((b0.alloc _).alloc _).alloc _).kept (grown_none hB) (by simp), ((b1.alloc _).alloc _).kept (grown_none hB) (by simp), b3.kept (grown_none hB) (by simp), (h.grown hw).grown hB, But.of_below b (hw.trans (hB.mono hw.size))⟩
set_option maxRecDepth 100000 in
set_option maxHeartbeats 2000000 in
theorem write_any (p b N : Nat) (f : Int) (c : Cp) (M : Nat → Nat → Int) (w : World) (hM : Mx w p b N M) (hc : Co c) (hf : okF N f = true) :
    Calls Tryd.prog 25 #[.pointer (some ⟨p, 0, none⟩), .int .i64 f, .agg #[.int .i64 c.tb, .int .i64 c.pg, .int .i64 c.l, .int .i64 c.e, .int .i64 c.fa, .int .i64 c.wh]] w fun e W' => e = .returned (.int .i64 0) ∧ Mx W' p b N (layF N M f c.ws) ∧ But b w W' := by
  have n1 := hM.n1
  have n64 := hM.n64
  have hx := w_co hc
  have hfi := hc.fi
  have HM := rhide hM
  have HC : Hid (Co c) := hc
  have hb := hM.mem.lt.2
  have hp := hM.mem.lt.1
  clear hM hc
  refine (callsIn_wide (n := 9)).1 ?_
  refine callsIn_of_wp_marks Tryd.func25 rfl trivial ?_ rfl
  simp only [Tryd.ntmps25, List.size_toArray, List.length_cons, List.length_nil, Nat.reduceAdd, Nat.reduceSub, Array.replicate_succ, Array.replicate_zero, List.push_toArray, List.append_toArray, List.nil_append, List.cons_append]
  gi_wp2_with (first | (refine ⟨trivial, ?_⟩; gi_at_call 36; refine (of_in _ c hfi _).mono ?_; rintro e w1 ⟨rfl, hr1, hb1, hs1⟩) | fail)
  have hI0 := wr_new f c c HM.out.mem hb1
  rw [hx] at hr1
  simp only [World.size_alloc] at hr1 hs1
  clear hb1
  refine wpIn_rangeFunc_ownH rfl (by omega) (gf := 52) (lb := #[.pointer (some ⟨w.heap.size + 1 + 1 + 1 + 1 + 1, 0, none⟩)]) rfl trivial (enters_of Tryd.func52 (by kernel_rfl) rfl)
    (of_stops 8 (by omega) (w.heap.size + 1 + 1 + 1 + 1 + 1) c w1 hr1) (fun h k => fun x => k (h x)) (fun W l o o' hl hWl ho hw hx => hx.on (belowK_b (w := w1) (Nat.le_refl _) W l o o' hl hWl ho hw) (by omega)) (Below.refl _ _) (fun _ => rfl)
    (WrI w w.heap.size p b N M f c) (fun _ _ _ => False)
    (wrI_own w w.heap.size p b N M f c (by omega)) (fun _ _ _ _ _ h _ _ => h) hI0
    (WrA w.heap.size p f c c) (fun i a' => ownFrom_pure _ (fun _ : Unit => _)) ?assign ?body ?done ?stop
  case assign =>
    intro l pre i W K' hI hK'
    unfold encW
    gi_wp2
    exact hK' _ _ ((KeepsOthers.refl W).from _) (fun h => h) hI rfl
  case body =>
    rintro l pre i a' W hl _ hI rfl hlt
    have k0 := hI.bm.cell
    have k1 := hI.bf.cell
    have hi := i.2
    have hw4 : wrap64 (4 + ((i.1 : Nat) : Int)) = 4 + ((i.1 : Nat) : Int) := by unfold wrap64; omega
    have he : errW N f (4 + ((i.1 : Nat) : Int)) = 0 := by unfold errW okW; rw [hf]; simp; omega
    have HS : Hid (Calls Tryd.prog 22 #[.pointer (some ⟨p, 0, none⟩), .int .i64 f, .int .i64 (4 + ((i.1 : Nat) : Int)), .int .u64 (wd c i.1)] W fun e w' => e = .returned (.int .i64 0) ∧ w' = W.setRow b (cellsM N (stW N (stP N M f c pre) f (4 + ((i.1 : Nat) : Int)) (wd c i.1)))) := by
      have := store_any p b N f (4 + ((i.1 : Nat) : Int)) (wd c i.1) (stP N M f c pre) W n1 n64 hI.mem
      rwa [he] at this
    have HI := rhide hI
    clear hI he
    gi_wp2_with (first | (refine ⟨trivial, ?_⟩; gi_at_call 22; refine (callsIn_wide.2 HS.out).mono ?_; rintro e W1 ⟨rfl, hW1⟩; have H1 := rhide (HI.out.step i hb hW1); clear hW1 HS) | fail)
    exact ⟨(keeps_but H1.out.2 HI.out.mem.row).from _, fun h => (H1.out.2.block _ h.lt (by omega)).trans h, H1.out.1⟩
  case done =>
    rintro D ys W hD rfl hI hKD
    have ke := hI.be.cell
    have fe := hI.be.frozen
    have hm := hI.mem
    rw [stP_upto N M f c 6 (Nat.le_refl _), show c.ws.take 6 = c.ws from rfl] at hm
    have Hm := rhide hm
    have HI := rhide hI
    clear hI hm
    gi_wp2
    have hK2 := (KeepsOthers.setCell W ⟨w.heap.size + 1 + 1 + 1, 0, none⟩ (.int .i64 0)).same D _ hKD rfl
    refine ⟨by simp, .inl ⟨_, _, rfl, run_takeDeferred hK2, ?_⟩⟩
    have e2 := cell_kept (HI.out.be.set (.int .i64 0)).cell (grownBy_putObj' _ D (.deferred none)) (fun r e => by cases e; exact ⟨_, hK2, rfl⟩)
    have bl := ((Below.refl w.heap.size W).setCell (p := ⟨w.heap.size + 1 + 1 + 1, 0, none⟩) (by show w.heap.size ≤ w.heap.size + 1 + 1 + 1; omega) (.int .i64 0)).trans (belowK_b (w := w) (Nat.le_refl _) _ D _ (.deferred none) (by omega) hK2 rfl rfl)
    have bb := but_on HI.out.but bl
    exact ⟨.int .i64 0, by simp [results, Tryd.f25, go_sem, e2], rfl, HM.out.but (Hm.out.below bl hp hb) (fit_lay HM.out.fit N f HC.out.fit) bb, bb⟩
  case stop =>
    rintro D c' pre W hD _ hX hKD
    exact hX.elim
end Go.Proofs.YtikhbohkmogffaaDoor.Pcomp
