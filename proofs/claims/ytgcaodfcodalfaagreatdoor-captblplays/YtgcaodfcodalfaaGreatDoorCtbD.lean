/- Rows of steps over walks, from the root to what is at an address; what is put there; times, slots, frames that are settled. -/
import Derived.Test.YtgcaodfcodalfaaGreatDoorCtbC
namespace Go.Proofs.YtgcaodfcodalfaaGreatDoor.Pcaptbl
open Go.Proofs.YtgcaodfcodalfaaGreatDoor.Pbase Go.Proofs.YtgcaodfcodalfaaGreatDoor.Pmem Go.Proofs.YtgcaodfcodalfaaGreatDoor.Pradix Go.Proofs.YtgcaodfcodalfaaGreatDoor.Pslot
open Go.RowKit
set_option linter.unusedVariables false

/-! ### rows of steps -/
/-- A step that can be taken: a function with a body; what it answers and leaves, and that the row of steps stays. -/
def Good {σ : Type} (J : σ → World → Prop) (D : Nat) (c : Stp σ) : Prop :=
  (∀ (ar : Array Value) (w : World), (callFunc c.1 ar).run Tryz.prog w = .ok (.enter c.1 ar) w) ∧
  ∀ (s : σ) (w : World), J s w → D < w.heap.size → Calls Tryz.prog c.1 #[c.2.1] w fun x w' => x = .returned (.int .i64 (c.2.2 s).2) ∧ J (c.2.2 s).1 w' ∧ w'.heap[D]? = w.heap[D]?
def Goods {σ : Type} (J : σ → World → Prop) (D : Nat) : List (Stp σ) → Prop
  | [] => True
  | c :: r => Good J D c ∧ Goods J D r
theorem Goods.at {σ : Type} {J : σ → World → Prop} {D : Nat} : ∀ {fs : List (Stp σ)}, Goods J D fs → ∀ (j : Nat) (c : Stp σ), fs[j]? = some c → Good J D c
  | [], _, j, c, h => by simp at h
  | a :: r, hg, 0, c, h => by simp at h; subst h; exact hg.1
  | a :: r, hg, j + 1, c, h => Goods.at hg.2 j c (by simpa using h)
theorem follow_gen {σ : Type} (J : σ → World → Prop) (w : World) (s : σ) (fs : List (Stp σ)) (n : Nat) (ty : TypeId) (cs : Array Value) (hn : n = fs.length) (hn16 : n ≤ 16) (hcs : cs = (fs.map fun c => Value.func (.func c.1) #[c.2.1] #[]).toArray)
    (hJ : ∀ o, J s (w.alloc o)) (hg : Goods J w.heap.size fs) :
    Calls Tryz.prog 45 #[.slice (some ⟨w.heap.size, 0, none⟩) n n] (w.alloc (.cells cs ty)) fun x w' => x = .returned (.int .i64 (chain fs s).2) ∧ J (chain fs s).1 w' := by
  refine (follow_any (fun s w' => J s w' ∧ w'.heap[w.heap.size]? = some (.cells cs ty (0, 0))) w.heap.size n fs _ s hn hn16 ⟨hJ _, heap_alloc_new w _⟩ (fun j c hc => (hg.at j c hc).1) (fun j c s' w' hc hP => ?_) (fun j c s' w' hc hP => ?_)).mono ?_
  · rw [cell_of_row _ _ _ _ _ _ hP.2, hcs]
    simp [hc]
  · refine ((hg.at j c hc).2 s' w' hP.1 (Array.getElem?_eq_some_iff.1 hP.2).1).mono ?_
    rintro x w'' ⟨rfl, h1, h2⟩
    exact ⟨rfl, h1, h2.trans hP.2⟩
  · rintro x w' ⟨rfl, h1, h2⟩
    exact ⟨rfl, h1⟩

/-! ### from the root to what is at an address -/
def stLook (N : Nat) (M : Nat → Nat → Int) (v : Wk) : Wk × Int := chain [(0, undef, stCut), (0, undef, stIn N M 0), (0, undef, stDesc N M), (0, undef, stIn N M 1), (0, undef, stRead N M), (0, undef, stTaken)] v
def stRoom (N : Nat) (M : Nat → Nat → Int) (v : Wk) : Wk × Int := chain [(0, undef, stCut), (0, undef, stIn N M 0), (0, undef, stDesc N M), (0, undef, stIn N M 1), (0, undef, stThaw), (0, undef, stRead N M), (0, undef, stFree)] v
def stTake (N : Nat) (M : Nat → Nat → Int) (v : Wk) : Wk × Int := chain [(0, undef, stIn N M 0), (0, undef, stRead N M), (0, undef, stLeaf)] v
theorem look_run (N : Nat) (M : Nat → Nat → Int) (v : Wk) : (stLook N M v).2 = lkE N M v.fr v.a ∧ (lkE N M v.fr v.a = 0 → ((stLook N M v).1.k = lkC N M v.fr v.a 0 ∧ (stLook N M v).1.r = lkC N M v.fr v.a 1 ∧ (stLook N M v).1.t = lkC N M v.fr v.a 2 ∧ (stLook N M v).1.l = lkC N M v.fr v.a 3 ∧ (stLook N M v).1.e = lkC N M v.fr v.a 4 ∧ (stLook N M v).1.x = lkC N M v.fr v.a 5) ∧ (stLook N M v).1.fr = lfF N M v.fr v.a ∧ (stLook N M v).1.at_ = lfI N M v.fr v.a ∧ (stLook N M v).1.hz = lfZ N M v.fr v.a) := by
  by_cases h1 : slE v.a = 0
  case neg => simp [stLook, chain, stCut, lkE, lfE, h1]
  by_cases h2 : tbB N M v.fr 0 = true
  case neg => simp [stLook, chain, stCut, stIn, lkE, lfE, h1, h2]
  by_cases h3 : sE N M v.fr (slH v.a) = 0 ∧ sC N M v.fr (slH v.a) 0 = 3
  case neg => simp [stLook, chain, stCut, stIn, stDesc, lkE, lfE, h1, h2, h3]
  by_cases h4 : tbB N M (sC N M v.fr (slH v.a) 2) 1 = true
  case neg => simp [stLook, chain, stCut, stIn, stDesc, stSee, lkE, lfE, h1, h2, h3, h4]
  have e0 : lfE N M v.fr v.a = 0 := by simp [lfE, h1, h2, h3, h4]
  have e1 : lfF N M v.fr v.a = sC N M v.fr (slH v.a) 2 := by simp [lfF, e0]
  have e2 : lfI N M v.fr v.a = slL v.a := by simp [lfI, e0]
  have e3 : lfZ N M v.fr v.a = Phead.ghZ N M (sC N M v.fr (slH v.a) 2) := by simp [lfZ, e0, e1]
  by_cases h5 : sE N M (sC N M v.fr (slH v.a) 2) (slL v.a) = 0
  case neg => simp [stLook, chain, stCut, stIn, stDesc, stSee, stRead, lkE, e0, e1, e2, h1, h2, h3, h4, h5]
  by_cases h6 : 1 < sC N M (sC N M v.fr (slH v.a) 2) (slL v.a) 0
  case neg => simp [stLook, chain, stCut, stIn, stDesc, stSee, stRead, stTaken, lkE, e0, e1, e2, h1, h2, h3, h4, h5, h6]
  simp [stLook, chain, stCut, stIn, stDesc, stSee, stRead, stTaken, lkE, lkC, e0, e1, e2, e3, h1, h2, h3, h4, h5, h6]
theorem sC_low {N : Nat} {M : Nat → Nat → Int} {f i : Int} : 0 ≤ sC N M f i 0 := by
  unfold sC
  split
  · by_cases h : Pcap.Got (w1 M f i) (w2 M f i)
    · rw [(Pcap.getC_yes h).1]
      exact h.2.2.1
    · rw [Pcap.getC_no h]
      exact Int.le_refl _
  · exact Int.le_refl _
theorem room_run (N : Nat) (M : Nat → Nat → Int) (v : Wk) : (stRoom N M v).2 = roE N M v.fr v.a v.fl ∧ (roE N M v.fr v.a v.fl = 0 → (stRoom N M v).1.fr = lfF N M v.fr v.a ∧ (stRoom N M v).1.at_ = lfI N M v.fr v.a) := by
  by_cases h1 : slE v.a = 0
  case neg => simp [stRoom, chain, stCut, roE, lfE, h1]
  by_cases h2 : tbB N M v.fr 0 = true
  case neg => simp [stRoom, chain, stCut, stIn, roE, lfE, h1, h2]
  by_cases h3 : sE N M v.fr (slH v.a) = 0 ∧ sC N M v.fr (slH v.a) 0 = 3
  case neg => simp [stRoom, chain, stCut, stIn, stDesc, roE, lfE, h1, h2, h3]
  by_cases h4 : tbB N M (sC N M v.fr (slH v.a) 2) 1 = true
  case neg => simp [stRoom, chain, stCut, stIn, stDesc, stSee, roE, lfE, h1, h2, h3, h4]
  have e0 : lfE N M v.fr v.a = 0 := by simp [lfE, h1, h2, h3, h4]
  have e1 : lfF N M v.fr v.a = sC N M v.fr (slH v.a) 2 := by simp [lfF, e0]
  have e2 : lfI N M v.fr v.a = slL v.a := by simp [lfI, e0]
  have e3 : lfZ N M v.fr v.a = Phead.ghZ N M (sC N M v.fr (slH v.a) 2) := by simp [lfZ, e0, e1]
  by_cases h7 : Phead.ghZ N M (sC N M v.fr (slH v.a) 2) = true
  case pos => simp [stRoom, chain, stCut, stIn, stDesc, stSee, stThaw, roE, e0, e1, e2, e3, h1, h2, h3, h4, h7]
  by_cases h5 : sE N M (sC N M v.fr (slH v.a) 2) (slL v.a) = 0
  case neg => simp [stRoom, chain, stCut, stIn, stDesc, stSee, stThaw, stRead, roE, e0, e1, e2, e3, h1, h2, h3, h4, h5, h7]
  have hk0 := sC_low (N := N) (M := M) (f := sC N M v.fr (slH v.a) 2) (i := slL v.a)
  by_cases h6 : sC N M (sC N M v.fr (slH v.a) 2) (slL v.a) 0 = 1
  · by_cases h8 : v.fl ≤ sC N M (sC N M v.fr (slH v.a) 2) (slL v.a) 5
    · simp [stRoom, chain, stCut, stIn, stDesc, stSee, stThaw, stRead, stFree, roE, quB, e0, e1, e2, e3, h1, h2, h3, h4, h5, h7, h6, h8]
    · simp [stRoom, chain, stCut, stIn, stDesc, stSee, stThaw, stRead, stFree, roE, quB, e0, e1, e2, e3, h1, h2, h3, h4, h5, h7, h6, h8]
  · by_cases h9 : sC N M (sC N M v.fr (slH v.a) 2) (slL v.a) 0 = 0
    · simp [stRoom, chain, stCut, stIn, stDesc, stSee, stThaw, stRead, stFree, roE, quB, e0, e1, e2, e3, h1, h2, h3, h4, h5, h7, h9]
    · have h10 : 1 < sC N M (sC N M v.fr (slH v.a) 2) (slL v.a) 0 := by omega
      simp [stRoom, chain, stCut, stIn, stDesc, stSee, stThaw, stRead, stFree, roE, e0, e1, e2, e3, h1, h2, h3, h4, h5, h7, h6, h9, h10]
section
variable {w0 w : World} {p b N : Nat} {M : Nat → Nat → Int} {B : Nat} {v : Wk}
/-- A step of one walk. -/
theorem good_one {f : Nat} {st : Wk → Wk × Int} (h : Wi w0 w p b N M B v) (he : ∀ (ar : Array Value) (w : World), (callFunc f ar).run Tryz.prog w = .ok (.enter f ar) w)
    (hs : ∀ (u : Wk) (w : World), Wi w0 w p b N M B u → Calls Tryz.prog f #[.pointer (some ⟨B, 0, none⟩)] w fun x w' => x = .returned (.int .i64 (st u).2) ∧ Wi w0 w' p b N M B (st u).1 ∧ But B w w') :
    Good (fun s w' => Wi w0 w' p b N M B s ∧ But B w w') w.heap.size (f, .pointer (some ⟨B, 0, none⟩), st) := by
  refine ⟨he, fun s w' hJ hD => (hs s w' hJ.1).mono ?_⟩
  rintro x w'' ⟨rfl, h1, h2⟩
  exact ⟨rfl, ⟨h1, hJ.2.trans h2⟩, h2.block _ hD (Nat.ne_of_gt h.lt)⟩
set_option maxRecDepth 100000 in
theorem look_any (h : Wi w0 w p b N M B v) : Calls Tryz.prog 46 #[.pointer (some ⟨B, 0, none⟩)] w fun x w' => x = .returned (.int .i64 (stLook N M v).2) ∧ Wi w0 w' p b N M B (stLook N M v).1 ∧ But B w w' := by
  have HF : Hid (∀ ty, Calls Tryz.prog 45 #[.slice (some ⟨w.heap.size, 0, none⟩) 6 6] (w.alloc (.cells #[.func (.func 69) #[.pointer (some ⟨B, 0, none⟩)] #[], .func (.func 51) #[.pointer (some ⟨B, 0, none⟩)] #[], .func (.func 70) #[.pointer (some ⟨B, 0, none⟩)] #[], .func (.func 52) #[.pointer (some ⟨B, 0, none⟩)] #[], .func (.func 53) #[.pointer (some ⟨B, 0, none⟩)] #[], .func (.func 77) #[.pointer (some ⟨B, 0, none⟩)] #[]] ty)) fun x w' => x = .returned (.int .i64 (stLook N M v).2) ∧ Wi w0 w' p b N M B (stLook N M v).1 ∧ But B w w') := fun ty => follow_gen (fun s w' => Wi w0 w' p b N M B s ∧ But B w w') w v [(69, .pointer (some ⟨B, 0, none⟩), stCut), (51, .pointer (some ⟨B, 0, none⟩), stIn N M 0), (70, .pointer (some ⟨B, 0, none⟩), stDesc N M), (52, .pointer (some ⟨B, 0, none⟩), stIn N M 1), (53, .pointer (some ⟨B, 0, none⟩), stRead N M), (77, .pointer (some ⟨B, 0, none⟩), stTaken)] 6 ty _ rfl (by decide) rfl (fun o => ⟨h.on (bal (Below.refl _ _) o), But.of_below _ (bal (Below.refl _ _) o)⟩) ⟨good_one h (fun _ _ => by kernel_rfl) fun _ _ hw => cut_any hw, good_one h (fun _ _ => by kernel_rfl) fun _ _ hw => inRoot_any hw, good_one h (fun _ _ => by kernel_rfl) fun _ _ hw => descend_any hw, good_one h (fun _ _ => by kernel_rfl) fun _ _ hw => inLeaf_any hw, good_one h (fun _ _ => by kernel_rfl) fun _ _ hw => read_any hw, good_one h (fun _ _ => by kernel_rfl) fun _ _ hw => taken_any hw, trivial⟩
  have hmf : ∀ (fn : Fn) (first cap : Array Value) (w : World), (Instr.makeFunc fn first cap).run Tryz.prog w = .ok (.func fn first cap) w := fun _ _ _ _ => rfl
  clear h
  go_enter Tryz.func46, Tryz.ntmps46
  go_wp2_with (first
    | (go_at_call 45; refine (HF.out _).mono ?_; rintro e1 w1 ⟨rfl, hb⟩; have H1 : Hid (Wi w0 w1 p b N M B (stLook N M v).1 ∧ But B w w1) := hb; clear hb)
    | fail)
  go_ret
  exact ⟨rfl, H1.out⟩
set_option maxRecDepth 100000 in
theorem room_any (h : Wi w0 w p b N M B v) : Calls Tryz.prog 37 #[.pointer (some ⟨B, 0, none⟩)] w fun x w' => x = .returned (.int .i64 (stRoom N M v).2) ∧ Wi w0 w' p b N M B (stRoom N M v).1 ∧ But B w w' := by
  have HF : Hid (∀ ty, Calls Tryz.prog 45 #[.slice (some ⟨w.heap.size, 0, none⟩) 7 7] (w.alloc (.cells #[.func (.func 69) #[.pointer (some ⟨B, 0, none⟩)] #[], .func (.func 51) #[.pointer (some ⟨B, 0, none⟩)] #[], .func (.func 70) #[.pointer (some ⟨B, 0, none⟩)] #[], .func (.func 52) #[.pointer (some ⟨B, 0, none⟩)] #[], .func (.func 47) #[.pointer (some ⟨B, 0, none⟩)] #[], .func (.func 53) #[.pointer (some ⟨B, 0, none⟩)] #[], .func (.func 54) #[.pointer (some ⟨B, 0, none⟩)] #[]] ty)) fun x w' => x = .returned (.int .i64 (stRoom N M v).2) ∧ Wi w0 w' p b N M B (stRoom N M v).1 ∧ But B w w') := fun ty => follow_gen (fun s w' => Wi w0 w' p b N M B s ∧ But B w w') w v [(69, .pointer (some ⟨B, 0, none⟩), stCut), (51, .pointer (some ⟨B, 0, none⟩), stIn N M 0), (70, .pointer (some ⟨B, 0, none⟩), stDesc N M), (52, .pointer (some ⟨B, 0, none⟩), stIn N M 1), (47, .pointer (some ⟨B, 0, none⟩), stThaw), (53, .pointer (some ⟨B, 0, none⟩), stRead N M), (54, .pointer (some ⟨B, 0, none⟩), stFree)] 7 ty _ rfl (by decide) rfl (fun o => ⟨h.on (bal (Below.refl _ _) o), But.of_below _ (bal (Below.refl _ _) o)⟩) ⟨good_one h (fun _ _ => by kernel_rfl) fun _ _ hw => cut_any hw, good_one h (fun _ _ => by kernel_rfl) fun _ _ hw => inRoot_any hw, good_one h (fun _ _ => by kernel_rfl) fun _ _ hw => descend_any hw, good_one h (fun _ _ => by kernel_rfl) fun _ _ hw => inLeaf_any hw, good_one h (fun _ _ => by kernel_rfl) fun _ _ hw => thawed_any hw, good_one h (fun _ _ => by kernel_rfl) fun _ _ hw => read_any hw, good_one h (fun _ _ => by kernel_rfl) fun _ _ hw => free_any hw, trivial⟩
  have hmf : ∀ (fn : Fn) (first cap : Array Value) (w : World), (Instr.makeFunc fn first cap).run Tryz.prog w = .ok (.func fn first cap) w := fun _ _ _ _ => rfl
  clear h
  go_enter Tryz.func37, Tryz.ntmps37
  go_wp2_with (first
    | (go_at_call 45; refine (HF.out _).mono ?_; rintro e1 w1 ⟨rfl, hb⟩; have H1 : Hid (Wi w0 w1 p b N M B (stRoom N M v).1 ∧ But B w w1) := hb; clear hb)
    | fail)
  go_ret
  exact ⟨rfl, H1.out⟩

/-! ### what is put -/
theorem wput_keep {w1 w2 : World} {D : Nat} {k r t l e a : Int} (h : Wi w0 w1 p b N M B v) (hx : Pcap.Box6 w1 D k r t l e a) (hD : D ≠ b) (hB : But b w1 w2) :
    w2.cell? ⟨B, 0, none⟩ = some (.pointer (some ⟨p, 0, none⟩)) ∧ w2.cell? ⟨B, 3, none⟩ = some (.int .i64 v.fr) ∧ w2.cell? ⟨B, 4, none⟩ = some (.int .i64 v.at_) ∧
    w2.cell? ⟨D, 0, none⟩ = some (.int .i64 k) ∧ w2.cell? ⟨D, 1, none⟩ = some (.int .i64 r) ∧ w2.cell? ⟨D, 2, none⟩ = some (.int .i64 t) ∧ w2.cell? ⟨D, 3, none⟩ = some (.int .i64 l) ∧ w2.cell? ⟨D, 4, none⟩ = some (.int .i64 e) ∧ w2.cell? ⟨D, 5, none⟩ = some (.int .i64 a) := by
  have hn : B ≠ b := Nat.ne_of_gt (Nat.lt_of_lt_of_le h.mx0.mt.mem.lt.2 h.lo)
  exact ⟨(hB.cell h.lt hn).trans h.c0, (hB.cell h.lt hn).trans h.c3, (hB.cell h.lt hn).trans h.c4, (hB.cell hx.lt hD).trans hx.c0, (hB.cell hx.lt hD).trans hx.c1, (hB.cell hx.lt hD).trans hx.c2, (hB.cell hx.lt hD).trans hx.c3, (hB.cell hx.lt hD).trans hx.c4, (hB.cell hx.lt hD).trans hx.c5⟩
theorem wput_laid (h : Wi w0 w p b N M B v) (k r t l e a : Int) : Wi w0 (w.alloc (.cells #[.int .i64 k, .int .i64 r, .int .i64 t, .int .i64 l, .int .i64 e, .int .i64 a] 32)) p b N M B v ∧ Pcap.Box6 (w.alloc (.cells #[.int .i64 k, .int .i64 r, .int .i64 t, .int .i64 l, .int .i64 e, .int .i64 a] 32)) w.heap.size k r t l e a ∧ w.heap.size ≠ b ∧ But b w (w.alloc (.cells #[.int .i64 k, .int .i64 r, .int .i64 t, .int .i64 l, .int .i64 e, .int .i64 a] 32)) :=
  ⟨h.on (bal (Below.refl _ _) _), Pcap.box6_new w k r t l e a 32, Nat.ne_of_gt h.mx.mt.mem.lt.2, But.of_below b (bal (Below.refl _ _) _)⟩
set_option maxRecDepth 100000 in
set_option maxHeartbeats 1000000 in
theorem wput_any (k r t l e a : Int) (h : Wi w0 w p b N M B v) : Calls Tryz.prog 38 #[.pointer (some ⟨B, 0, none⟩), .agg #[.int .i64 k, .int .i64 r, .int .i64 t, .int .i64 l, .int .i64 e, .int .i64 a]] w fun x w' => x = .returned (.int .i64 (pE N v.fr v.at_ k r t l e a)) ∧ Mx w' p b N (pM N M v.fr v.at_ k r t l e a) ∧ But b w w' := by
  have HL := wput_laid h k r t l e a
  clear h
  go_enter Tryz.func38, Tryz.ntmps38
  go_upto_region 1 with fail
  generalize w.alloc _ = w1 at HL ⊢
  generalize w.heap.size = D at HL ⊢
  have H1 : Hid (Wi w0 w1 p b N M B v) := HL.1
  have HX : Hid (Pcap.Box6 w1 D k r t l e a) := HL.2.1
  have HD : Hid (D ≠ b) := HL.2.2.1
  have HB : Hid (But b w w1) := HL.2.2.2
  clear HL
  go_region_held3 (fun w' => w'.cell? ⟨B, 0, none⟩ = some (.pointer (some ⟨p, 0, none⟩)) ∧ w'.cell? ⟨B, 3, none⟩ = some (.int .i64 v.fr) ∧ w'.cell? ⟨B, 4, none⟩ = some (.int .i64 v.at_) ∧ w'.cell? ⟨D, 0, none⟩ = some (.int .i64 k) ∧ w'.cell? ⟨D, 1, none⟩ = some (.int .i64 r) ∧ w'.cell? ⟨D, 2, none⟩ = some (.int .i64 t) ∧ w'.cell? ⟨D, 3, none⟩ = some (.int .i64 l) ∧ w'.cell? ⟨D, 4, none⟩ = some (.int .i64 e) ∧ w'.cell? ⟨D, 5, none⟩ = some (.int .i64 a)) (first | with_reducible exact wput_keep H1.out HX.out HD.out HB2.out | with_reducible exact wput_keep H1.out HX.out HD.out (But.of_below b (Below.refl _ _).drew))
  (first
    | (go_at_call 71; refine (sput_any p b N v.fr v.at_ k r t l e a M _ (by first | exact (H1.out.on (Below.refl _ _).drew).mx.mt | exact H1.out.mx.mt)).mono ?_; rintro e1 w2 ⟨rfl, hm, hb⟩; have HB2 : Hid (But b w1 w2) := (by first | exact hb | exact (But.of_below b (Below.refl _ _).drew).trans hb); have HM : Hid (Mx w2 p b N (pM N M v.fr v.at_ k r t l e a)) := H1.out.mx.but hm.mem hm.fit HB2.out; clear hb hm)
    | fail)
  go_wp2
  go_ret
  exact ⟨rfl, HM.out, HB.out.trans HB2.out⟩
end

/-! ### times, slots; what is left of a capability; frames that are settled -/
theorem isTime_any (now : Int) (w : World) : Calls Tryz.prog 44 #[.int .i64 now] w fun x w' => x = .returned (.bool (tiB now)) ∧ w' = w := by
  unfold tiB
  by_cases h1 : 1 ≤ now
  · by_cases h2 : now ≤ 1073741824
    · simp only [h1, h2, decide_true, Bool.and_self]
      go_enter Tryz.func44, Tryz.ntmps44
      go_wp2
      go_ret
      exact ⟨rfl, rfl⟩
    · simp only [h1, h2, decide_true, decide_false, Bool.and_false]
      go_enter Tryz.func44, Tryz.ntmps44
      go_wp2
      go_ret
      exact ⟨rfl, rfl⟩
  · simp only [h1, decide_false, Bool.false_and]
    go_enter Tryz.func44, Tryz.ntmps44
    go_wp2
    go_ret
    exact ⟨rfl, rfl⟩
theorem isSlot_any (high : Int) (w : World) : Calls Tryz.prog 50 #[.int .i64 high] w fun x w' => x = .returned (.bool (okS high)) ∧ w' = w := by
  cases hs : okS high
  · rcases okS_no hs with h1 | h1
    · clear hs
      have h1' : ¬ 0 ≤ high := by omega
      go_enter Tryz.func50, Tryz.ntmps50
      go_wp2
      go_ret
      exact ⟨rfl, rfl⟩
    · clear hs
      have h0 : 0 ≤ high := by omega
      have h1' : ¬ high < 16 := by omega
      go_enter Tryz.func50, Tryz.ntmps50
      go_wp2
      go_ret
      exact ⟨rfl, rfl⟩
  · obtain ⟨h0, h1⟩ := okS_yes hs
    clear hs
    go_enter Tryz.func50, Tryz.ntmps50
    go_wp2
    go_ret
    exact ⟨rfl, rfl⟩
theorem was_any (now : Int) (w : World) : Calls Tryz.prog 48 #[.int .i64 now] w fun x w' => x = .returned (.agg #[.int .i64 1, .int .i64 0, .int .i64 0, .int .i64 0, .int .i64 0, .int .i64 now]) ∧ Below w.heap.size w w' := by
  go_enter Tryz.func48, Tryz.ntmps48
  go_wp2
  refine bodyPost_ret (v := .agg #[.int .i64 1, .int .i64 0, .int .i64 0, .int .i64 0, .int .i64 0, .int .i64 now]) (by simp [results, Tryz.results48, go_sem]) rfl ⟨rfl, ?_⟩
  exact bal (Below.refl _ _) _
/-- Is a frame settled, for a floor? -/
def seE (N : Nat) (M : Nat → Nat → Int) (f floor : Int) : Int := if Phead.ghE N M f = 0 ∧ Phead.ghK N M f = 1 ∧ Phead.ghZ N M f = true ∧ Phead.ghT N M f < floor then 0 else 6
theorem frozen_kind {N : Nat} {M : Nat → Nat → Int} {f : Int} (he : Phead.ghE N M f = 0) (hz : Phead.ghZ N M f = true) : Phead.ghK N M f = 1 := by
  unfold Phead.ghE at he
  unfold Phead.ghZ at hz
  unfold Phead.ghK
  by_cases ho : okF N f = true
  · rw [if_pos ho] at he ⊢
    rw [ho, Bool.true_and] at hz
    by_cases hg : Phead.Got (M f.toNat 0) (M f.toNat 1) (M f.toNat 2) (M f.toNat 3)
    · obtain ⟨e0, _, e2, _, _⟩ := Phead.hget_yes hg
      rw [e2] at hz
      rw [e0]
      exact hg.2.2.2.2.2.2.2.2.2.1 hz
    · obtain ⟨_, _, _, _, e4⟩ := Phead.hget_no hg
      rw [e4] at he
      cases he
  · rw [if_neg ho] at he
    cases he
theorem ok_of_gh {N : Nat} {M : Nat → Nat → Int} {f : Int} (he : Phead.ghE N M f = 0) : okF N f = true := by
  unfold Phead.ghE at he
  by_cases ho : okF N f = true
  · exact ho
  · rw [if_neg ho] at he; cases he
set_option maxRecDepth 100000 in
theorem settled_any (p b N : Nat) (f floor : Int) (M : Nat → Nat → Int) (w : World) (h : Mx w p b N M) : Calls Tryz.prog 57 #[.pointer (some ⟨p, 0, none⟩), .int .i64 f, .int .i64 floor] w fun x w' => x = .returned (.int .i64 (seE N M f floor)) ∧ Below w.heap.size w w' := by
  have HG : Hid (Calls Tryz.prog 59 #[.pointer (some ⟨p, 0, none⟩), .int .i64 f] w fun x w' => x = .returned (.tuple #[.agg #[.int .i64 (Phead.ghK N M f), .int .i64 (Phead.ghL N M f), .bool (Phead.ghZ N M f), .int .i64 (Phead.ghT N M f)], .int .i64 (Phead.ghE N M f)]) ∧ Below w.heap.size w w') := Phead.hget_any p b N f M w h.mt.n1 h.mt.n64 h.mt.mem h.th h.mt.fit
  have HK : Hid (Phead.ghE N M f = 0 → Phead.ghZ N M f = true → Phead.ghK N M f = 1) := fun h1 h2 => frozen_kind h1 h2
  clear h
  unfold seE
  generalize Phead.ghK N M f = K at HG HK ⊢
  generalize Phead.ghL N M f = L at HG
  generalize Phead.ghZ N M f = Z at HG HK ⊢
  generalize Phead.ghT N M f = T at HG ⊢
  generalize Phead.ghE N M f = E at HG HK ⊢
  by_cases hE : E = 0
  · subst hE
    cases Z
    · rw [if_neg (by simp)]
      go_enter Tryz.func57, Tryz.ntmps57
      go_wp2_with (first
        | (go_at_call 59; refine HG.out.mono ?_; rintro e1 w1 ⟨rfl, hb⟩; have H1 : Hid (Below w.heap.size w w1) := hb; clear hb)
        | fail)
      go_ret
      exact ⟨rfl, bal H1.out _⟩
    · obtain rfl := HK.out rfl rfl
      by_cases hT : T < floor
      · rw [if_pos ⟨rfl, rfl, rfl, hT⟩]
        go_enter Tryz.func57, Tryz.ntmps57
        go_wp2_with (first
          | (go_at_call 59; refine HG.out.mono ?_; rintro e1 w1 ⟨rfl, hb⟩; have H1 : Hid (Below w.heap.size w w1) := hb; clear hb)
          | fail)
        go_ret
        exact ⟨rfl, bal H1.out _⟩
      · rw [if_neg (fun h => hT h.2.2.2)]
        go_enter Tryz.func57, Tryz.ntmps57
        go_wp2_with (first
          | (go_at_call 59; refine HG.out.mono ?_; rintro e1 w1 ⟨rfl, hb⟩; have H1 : Hid (Below w.heap.size w w1) := hb; clear hb)
          | fail)
        go_ret
        exact ⟨rfl, bal H1.out _⟩
  · rw [if_neg (fun h => hE h.1)]
    have hE' : (E != 0) = true := by simp [hE]
    go_enter Tryz.func57, Tryz.ntmps57
    go_wp2_with (first
      | (go_at_call 59; refine HG.out.mono ?_; rintro e1 w1 ⟨rfl, hb⟩; have H1 : Hid (Below w.heap.size w w1) := hb; clear hb)
      | fail)
    go_ret
    exact ⟨rfl, bal H1.out _⟩
end Go.Proofs.YtgcaodfcodalfaaGreatDoor.Pcaptbl
