/- What Get and Is of package head answer, for every frame, over a memory that New made. -/
import Derived.Test.YtlpnnpapeoahkaaDoorHdF
namespace Go.Proofs.YtlpnnpapeoahkaaDoor
open Go.RowKit M
set_option linter.unusedVariables false

/-- A memory, the table and the result's head, all of one world. -/
structure GtI (w0 w : World) (p b N : Nat) (M : Nat → Nat → Int) : Prop where
  mem : MemIs w p b N M
  tab : TabW w
  below : Below w0.heap.size w0 w
  res : Box4 w w0.heap.size 0 0 false 0
theorem GtI.on {w0 w w' : World} {p b N : Nat} {M : Nat → Nat → Int} (h : GtI w0 w p b N M) (hB : Below w.heap.size w w') : GtI w0 w' p b N M :=
  ⟨h.mem.grown hB, h.tab.on hB, h.below.trans (hB.mono h.below.size), h.res.on hB⟩
theorem gtI_new {w : World} {p b N : Nat} {M : Nat → Nat → Int} (hM : MemIs w p b N M) (hW : TabW w) (ty : TypeId) : GtI w (w.alloc (.cells #[.int .i64 0, .int .i64 0, .bool false, .int .i64 0] ty)) p b N M :=
  ⟨hM.grown (bal (Below.refl _ _) _), hW.on (bal (Below.refl _ _) _), bal (Below.refl _ _) _, box4_new w 0 0 false 0 ty⟩
theorem gt_laid {w0 w : World} {p b N : Nat} {M : Nat → Nat → Int} (h : GtI w0 w p b N M) (x y s r : Int) : GtI w0 (w.alloc (.cells #[.int .u64 x, .int .u64 y, .int .u64 s, .int .u64 r] 60)) p b N M ∧ Row4 (w.alloc (.cells #[.int .u64 x, .int .u64 y, .int .u64 s, .int .u64 r] 60)) w.heap.size x y s r :=
  ⟨h.on (bal (Below.refl _ _) _), row4_new w x y s r 60⟩
set_option maxRecDepth 100000 in
set_option maxHeartbeats 1000000 in
theorem hget_any (p b N : Nat) (f : Int) (M : Nat → Nat → Int) (w : World) (hN1 : 1 ≤ N) (hN : N ≤ 64) (hM : MemIs w p b N M) (hW : TabW w) (hF : Fit M) :
    Calls Tryd.prog 13 #[.pointer (some ⟨p, 0, none⟩), .int .i64 f] w fun e w' => e = .returned (.tuple #[.agg #[.int .i64 (ghK N M f), .int .i64 (ghL N M f), .bool (ghZ N M f), .int .i64 (ghT N M f)], .int .i64 (ghE N M f)]) ∧ Below w.heap.size w w' := by
  have HI : Hid (∀ ty, GtI w (w.alloc (.cells #[.int .i64 0, .int .i64 0, .bool false, .int .i64 0] ty)) p b N M) := fun ty => gtI_new hM hW ty
  clear hM hW
  have hmf : ∀ (fn : Fn) (first cap : Array Value) (w : World), (Instr.makeFunc fn first cap).run Tryd.prog w = .ok (.func fn first cap) w := fun _ _ _ _ => rfl
  cases hf : okF N f
  case false =>
    simp only [ghK, ghL, ghZ, ghT, ghE, hf, Bool.false_and, Bool.false_eq_true, if_false]
    have he : errF N f = 1 := by simp [errF, hf]
    have r0 : ∀ j, rdM N M f j = 0 := fun j => by simp [rdM, hf]
    clear hf
    go_enter Tryd.func13, Tryd.ntmps13
    go_upto_region 2 with (first
      | (go_at_call 35; refine (out_any f p _).mono ?_; rintro e1 w1 ⟨rfl, hF1, hb⟩; have H1 : Hid (GtI w w1 p b N M) := (HI.out _).on hb; have HF1 : Hid (BoxF w1 (w.heap.size + 1) f (loadV p)) := (by rw [World.size_alloc] at hF1; exact hF1); clear hb hF1 HI)
      | (go_at_call 34; refine (read_any (w.heap.size + 1) p b N f M _ hN1 hN H1.out.mem HF1.out).mono ?_; rintro e2 w2 ⟨rfl, hb⟩; rw [he, r0, r0, r0, r0]; have H2 : Hid (GtI w w2 p b N M) := H1.out.on hb; clear hb)
      | fail)
    have hK := gt_laid H2.out 0 0 0 0
    generalize w2.alloc _ = w3 at hK ⊢
    generalize w2.heap.size = E at hK ⊢
    have H3 : Hid (GtI w w3 p b N M) := hK.1
    clear hK H1 H2 HF1
    have x0 := H3.out.res.c0
    have x1 := H3.out.res.c1
    have x2 := H3.out.res.c2
    have x3 := H3.out.res.c3
    have z0 := H3.out.res.fz 0
    have z1 := H3.out.res.fz 1
    have z2 := H3.out.res.fz 2
    have z3 := H3.out.res.fz 3
    go_wp2
    refine bodyPost_ret (v := .tuple #[.agg #[.int .i64 0, .int .i64 0, .bool false, .int .i64 0], .int .i64 1]) (by simp [results, Tryd.results13, go_sem, x0, x1, x2, x3]) rfl ⟨rfl, ?_⟩
    exact bst (bst (bst (bst H3.out.below (Nat.le_refl _) _ _) (Nat.le_refl _) _ _) (Nat.le_refl _) _ _) (Nat.le_refl _) _ _
  case true =>
    simp only [ghK, ghL, ghZ, ghT, ghE, hf, Bool.true_and, if_true]
    have he : errF N f = 0 := by simp [errF, hf]
    have r0 : ∀ j, rdM N M f j = M f.toNat j := fun j => by simp [rdM, hf]
    clear hf
    have hx := hF f.toNat 0
    have hy := hF f.toNat 1
    have R0 := r0 0
    have R1 := r0 1
    have R2 := r0 2
    have R3 := r0 3
    clear r0
    generalize M f.toNat 0 = x at hx R0 ⊢
    generalize M f.toNat 1 = y at hy R1 ⊢
    generalize M f.toNat 2 = s at R2 ⊢
    generalize M f.toNat 3 = r at R3 ⊢
    have HX : Hid (∀ wc, TabW wc → Calls Tryd.prog 37 #[.agg #[.int .u64 x, .int .u64 y, .int .u64 s, .int .u64 r]] wc fun e w' => e = .returned (.tuple #[.agg #[.int .i64 (getK x y s r), .int .i64 (getL x y s r), .bool (getZ x y s r), .int .i64 (getT x y s r)], .int .i64 (getE x y s r)]) ∧ Below wc.heap.size wc w') := fun wc h => head_of x y s r wc hx hy h
    clear hx hy
    generalize getK x y s r = K at HX ⊢
    generalize getL x y s r = L at HX ⊢
    generalize getZ x y s r = Z at HX ⊢
    generalize getT x y s r = T at HX ⊢
    generalize getE x y s r = E at HX ⊢
    go_enter Tryd.func13, Tryd.ntmps13
    go_upto_region 2 with (first
      | (go_at_call 35; refine (out_any f p _).mono ?_; rintro e1 w1 ⟨rfl, hF1, hb⟩; have H1 : Hid (GtI w w1 p b N M) := (HI.out _).on hb; have HF1 : Hid (BoxF w1 (w.heap.size + 1) f (loadV p)) := (by rw [World.size_alloc] at hF1; exact hF1); clear hb hF1 HI)
      | (go_at_call 34; refine (read_any (w.heap.size + 1) p b N f M _ hN1 hN H1.out.mem HF1.out).mono ?_; rintro e2 w2 ⟨rfl, hb⟩; rw [he, R0, R1, R2, R3]; have H2 : Hid (GtI w w2 p b N M) := H1.out.on hb; clear hb)
      | fail)
    have hK := gt_laid H2.out x y s r
    generalize w2.alloc _ = w3 at hK ⊢
    generalize w2.heap.size = D at hK ⊢
    have H3 : Hid (GtI w w3 p b N M) := hK.1
    have b0 := hK.2.c0
    have b1 := hK.2.c1
    have b2 := hK.2.c2
    have b3 := hK.2.c3
    clear hK H1 H2 HF1
    go_wp2_with (first
      | (go_at_call 37; refine (HX.out _ H3.out.tab).mono ?_; rintro e4 w4 ⟨rfl, hb⟩; have H4 : Hid (GtI w w4 p b N M) := H3.out.on hb; clear hb b0 b1 b2 b3; have x0 := H4.out.res.c0; have x1 := H4.out.res.c1; have x2 := H4.out.res.c2; have x3 := H4.out.res.c3; have z0 := H4.out.res.fz 0; have z1 := H4.out.res.fz 1; have z2 := H4.out.res.fz 2; have z3 := H4.out.res.fz 3)
      | fail)
    refine bodyPost_ret (v := .tuple #[.agg #[.int .i64 K, .int .i64 L, .bool Z, .int .i64 T], .int .i64 E]) (by simp [results, Tryd.results13, go_sem, x0, x1, x2, x3]) rfl ⟨rfl, ?_⟩
    exact bst (bst (bst (bst H4.out.below (Nat.le_refl _) _ _) (Nat.le_refl _) _ _) (Nat.le_refl _) _ _) (Nat.le_refl _) _ _
set_option maxRecDepth 100000 in
theorem his_any (p b N : Nat) (f q : Int) (M : Nat → Nat → Int) (w : World) (hN1 : 1 ≤ N) (hN : N ≤ 64) (hM : MemIs w p b N M) (hW : TabW w) (hF : Fit M) :
    Calls Tryd.prog 15 #[.pointer (some ⟨p, 0, none⟩), .int .i64 f, .int .i64 q] w fun e w' => e = .returned (.int .i64 (isE N M f q)) ∧ Below w.heap.size w w' := by
  have HG : Hid (Calls Tryd.prog 13 #[.pointer (some ⟨p, 0, none⟩), .int .i64 f] w fun e w' => e = .returned (.tuple #[.agg #[.int .i64 (ghK N M f), .int .i64 (ghL N M f), .bool (ghZ N M f), .int .i64 (ghT N M f)], .int .i64 (ghE N M f)]) ∧ Below w.heap.size w w') := hget_any p b N f M w hN1 hN hM hW hF
  clear hM hW hF
  unfold isE
  generalize ghK N M f = K at HG ⊢
  generalize ghL N M f = L at HG
  generalize ghZ N M f = Z at HG
  generalize ghT N M f = T at HG
  generalize ghE N M f = E at HG ⊢
  by_cases hE : E = 0
  · subst hE
    simp only [if_true]
    by_cases hK : K = q
    · subst hK
      simp only [if_true]
      go_enter Tryd.func15, Tryd.ntmps15
      go_wp2_with (first
        | (go_at_call 13; refine HG.out.mono ?_; rintro e1 w1 ⟨rfl, hb⟩; have H1 : Hid (Below w.heap.size w w1) := hb; clear hb)
        | fail)
      go_ret
      exact ⟨rfl, bal H1.out _⟩
    · have hk : (K != q) = true := by simp [hK]
      simp only [hK, if_false]
      go_enter Tryd.func15, Tryd.ntmps15
      go_wp2_with (first
        | (go_at_call 13; refine HG.out.mono ?_; rintro e1 w1 ⟨rfl, hb⟩; have H1 : Hid (Below w.heap.size w w1) := hb; clear hb)
        | fail)
      go_ret
      exact ⟨rfl, bal H1.out _⟩
  · have he : (E != 0) = true := by simp [hE]
    simp only [hE, if_false]
    go_enter Tryd.func15, Tryd.ntmps15
    go_wp2_with (first
      | (go_at_call 13; refine HG.out.mono ?_; rintro e1 w1 ⟨rfl, hb⟩; have H1 : Hid (Below w.heap.size w w1) := hb; clear hb)
      | fail)
    go_ret
    exact ⟨rfl, bal H1.out _⟩
end Go.Proofs.YtlpnnpapeoahkaaDoor
