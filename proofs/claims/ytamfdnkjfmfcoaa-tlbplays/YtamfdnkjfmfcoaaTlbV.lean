/- The document's Put, its new list: one statement whose order Go leaves open, in every order. -/
import Derived.Test.YtamfdnkjfmfcoaaTlbU
import Derived.Deep.RegionHeld3
namespace Go.Proofs.Ytamfdnkjfmfcoaa
open Go.RowKit Go.ChangeMaps
set_option linter.unusedVariables false

theorem at_of_drop {ops : Array Oper} {i : Nat} {oi : Oper} {tl : List Oper} (h : ops.toList.drop i = oi :: tl) : ops[i]? = some oi := by
  have h1 : (ops.toList.drop i)[0]? = some oi := by rw [h]; rfl
  rw [List.getElem?_drop] at h1
  simpa using h1
/-- Operation i yields its value in every world that meets S: it is taken first. -/
theorem takeV {P : Program} {ops : Array Oper} {Q : Exit → Act → World → Prop} {md : Region.Mode} {S : World → Prop} {i : Nat} {oi : Oper} {tl : List Oper} {v : Value} {fuel : Nat} {listed : Array Bool} {a : Act} {w : World}
    (hi : ops.toList.drop i = oi :: tl) (hs : Region.noSelect ops = true) (hf : Region.free md ops listed i = true) (hr : (Region.ready md ops listed).contains i = true)
    (hQ : ∀ c a w, Q (.panic c) (a.put oi.dst v) w → Q (.panic c) a w) (hw : Region.wanted oi (yielded ops a.tmps) = true) (hS : S w)
    (hy : ∀ w, S w → (execOp a.eval oi).run P w = .ok (.value v) w)
    (h : wpAnyH P md ops Q S fuel (listed.setIfInBounds i true) (a.put oi.dst v) w) : wpAnyH P md ops Q S (fuel + 1) listed a w :=
  wpAnyH_take (at_of_drop hi) hs hf hr hQ (Or.inl ⟨hw, hy⟩) hS h
/-- Operation i alone may come up. -/
theorem stepOne {P : Program} {ops : Array Oper} {Q : Exit → Act → World → Prop} {md : Region.Mode} {S : World → Prop} {i : Nat} {oi : Oper} {tl : List Oper} {fuel : Nat} {listed : Array Bool} {a : Act} {w : World}
    (hi : ops.toList.drop i = oi :: tl) (hr : Region.ready md ops listed = [i])
    (h : ∀ K' : Act → World → Prop, Shut (∀ a w, S w → (S w → wpAnyH P md ops Q S fuel (listed.setIfInBounds i true) a w) → K' a w) → if Region.wanted oi (yielded ops a.tmps) = true then Oper.wp P oi a w K' Q else K' (a.put oi.dst undef) w) :
    wpAnyH P md ops Q S (fuel + 1) listed a w :=
  wpAnyH_ready hr (by simp) (AllReadyH.cons (at_of_drop hi) h AllReadyH.nil)
/-- Operation i is one of those that may come up. -/
theorem consOne {P : Program} {ops : Array Oper} {Q : Exit → Act → World → Prop} {md : Region.Mode} {S : World → Prop} {i : Nat} {oi : Oper} {tl : List Oper} {fuel : Nat} {listed : Array Bool} {a : Act} {w : World} {rs : List Nat}
    (hi : ops.toList.drop i = oi :: tl)
    (h : ∀ K' : Act → World → Prop, Shut (∀ a w, S w → (S w → wpAnyH P md ops Q S fuel (listed.setIfInBounds i true) a w) → K' a w) → if Region.wanted oi (yielded ops a.tmps) = true then Oper.wp P oi a w K' Q else K' (a.put oi.dst undef) w)
    (hs : AllReadyH P md ops Q S fuel listed a w rs) : AllReadyH P md ops Q S fuel listed a w (i :: rs) := AllReadyH.cons (at_of_drop hi) h hs
theorem RefIs.src {n₀ : Nat} {w : World} {q : Nat} {room : Int} {ao : Option Addr} {cap : Nat} {S : List En} (h : RefIs n₀ w q room ao cap S) : ∀ b, ao = some b → ∀ j u, (rcells S)[j]? = some u → w.cell? (b.add j) = some u := by
  intro b hb j u hu
  rcases h.held with ⟨rfl, _⟩ | ⟨g, off, cur, e, hg, hr, hc⟩
  · simp [rcells] at hu
  · rw [e] at hb
    cases hb
    have hj : j < S.length * 6 := by
      rw [← rcells_len]
      exact (List.getElem?_eq_some_iff.1 hu).1
    rw [Addr.add_lit, cell_of_row w g _ _ _ _ hr, hc j hj]
    exact hu
theorem RefIs.nil {n₀ : Nat} {w : World} {q : Nat} {room : Int} {ao : Option Addr} {cap : Nat} {S : List En} (h : RefIs n₀ w q room ao cap S) (e : ao = none) : S.length = 0 := by
  rcases h.held with ⟨rfl, _⟩ | ⟨g, off, cur, e', _⟩
  · rfl
  · rw [e] at e'
    cases e'
/-- Region n of a text. -/
def regionOf (n : Nat) : Code → Option Code
  | .region id ops d => if id = n then some (.region id ops d) else none
  | .seq a b => match regionOf n a with
    | some c => some c
    | none => regionOf n b
  | .block _ c => regionOf n c
  | .loop c => regionOf n c
  | .cond _ a b => match regionOf n a with
    | some c => some c
    | none => regionOf n b
  | _ => none
theorem rcells_one (S : List En) : ∀ u ∈ rcells S, u.oneCell' = true := by
  intro u hu
  simp only [rcells, List.mem_flatMap] at hu
  obtain ⟨x, _, hx⟩ := hu
  simp [rc] at hx
  rcases hx with rfl | rfl | rfl | rfl | rfl | rfl <;> rfl
theorem own_empty (w : World) {base : Nat} (hb : base ≤ w.heap.size) : (w.alloc (.cells #[] 47)).ownsRow base 47 6 (.slice (some ⟨w.heap.size, 0, none⟩) 0 0) 0 [] :=
  World.ownsRow_made w #[] 0 hb (by decide) rfl
theorem six_cells {w : World} {b : Nat} {x0 x1 x2 x3 x4 x5 : Value} {t : TypeId} (h : w.heap[b]? = some (.cells #[x0, x1, x2, x3, x4, x5] t (0, 0))) : ∀ ad, some (⟨b, 0, none⟩ : Addr) = some ad → ∀ j u, [x0, x1, x2, x3, x4, x5][j]? = some u → w.cell? (ad.add j) = some u := by
  intro ad e j u hj
  cases e
  rw [Addr.add_lit, Nat.zero_add, cell_of_row w b j _ _ _ h]
  have : #[x0, x1, x2, x3, x4, x5][j]? = [x0, x1, x2, x3, x4, x5][j]? := by simp
  rw [this]
  exact hj
set_option maxRecDepth 1000000 in
set_option maxHeartbeats 16000000 in
theorem region6 (q kb pb N cap : Nat) (ao : Option Addr) (S : List En) (a c : Int) (q0 : Bool) (q1 q2 q3 : Int) (w : World) (Q : Exit → Act → World → Prop)
    (u1 u2 u3 u6 u7 u8 u9 u10 u11 u12 u13 u14 u15 u16 u17 u18 u19 u20 u21 u22 u23 u24 u25 u26 u27 u28 u29 u30 u31 u32 u33 u34 u35 u36 u37 u38 u39 u40 u41 u42 u43 u44 u45 u46 u47 u48 u49 u50 u51 u52 u53 u54 u55 u56 u57 u58 u59 u60 u61 u62 u63 u64 u65 : Value)
    (HN : Hid (N = S.length)) (hN8 : N ≤ 8) (hq : q < w.heap.size) (hqk : q ≠ kb) (hqp : q ≠ pb)
    (hc0 : Hid (w.cell? ⟨q, 0, none⟩ = some (.slice ao N cap))) (hz0 : Hid (w.frozen? ⟨q, 0, none⟩ = false))
    (hsB : Hid (∀ w', Below w.heap.size w w' → ∀ b, ao = some b → ∀ j u, (rcells S)[j]? = some u → w'.cell? (b.add j) = some u)) (hnone : Hid (ao = none → N = 0))
    (hkey : Hid (w.cell? ⟨kb, 0, none⟩ = some (.int .i64 a) ∧ w.cell? ⟨kb, 1, none⟩ = some (.int .i64 c) ∧ w.cell? ⟨pb, 0, none⟩ = some (.bool q0) ∧ w.cell? ⟨pb, 1, none⟩ = some (.int .i64 q1) ∧ w.cell? ⟨pb, 2, none⟩ = some (.int .i64 q2) ∧ w.cell? ⟨pb, 3, none⟩ = some (.int .i64 q3)))
    (hQ : Hid (∀ (v34 v35 v36 v37 v38 v39 v40 v41 v42 v43 v44 v45 v46 v47 : Value) (g6 c6 : Nat) (w6 : World), w6.ownsRow w.heap.size 47 6 (.slice (some ⟨g6, 0, none⟩) (N + 1) c6) (N + 1) (rcells S ++ [.int .i64 a, .int .i64 c, .bool q0, .int .i64 q1, .int .i64 q2, .int .i64 q3]) → Below w.heap.size w w6 →
      Q .normal ⟨#[.pointer (some ⟨q, 0, none⟩), u1, u2, u3, .pointer (some ⟨kb, 0, none⟩), .pointer (some ⟨pb, 0, none⟩), u6, u7, u8, u9, u10, u11, u12, u13, u14, u15, u16, u17, u18, u19, u20, u21, u22, u23, u24, u25, u26, u27, u28, u29, u30, u31, u32, u33, v34, v35, v36, v37, v38, v39, v40, v41, v42, v43, v44, v45, v46, v47, u48, u49, u50, u51, u52, u53, u54, u55, u56, u57, u58, u59, u60, u61, u62, u63, u64, u65], []⟩ (w6.setCell ⟨q, 0, none⟩ (.slice (some ⟨g6, 0, none⟩) (N + 1) c6))))
    (hpan : Hid (∀ c a (d : Option Tmp) (v : Value) w, Q (.panic c) (a.put d v) w → Q (.panic c) a w)) :
    Code.wp Try.prog ((Try.f13.body.bind (regionOf 6)).getD .skip) Q ⟨#[.pointer (some ⟨q, 0, none⟩), u1, u2, u3, .pointer (some ⟨kb, 0, none⟩), .pointer (some ⟨pb, 0, none⟩), u6, u7, u8, u9, u10, u11, u12, u13, u14, u15, u16, u17, u18, u19, u20, u21, u22, u23, u24, u25, u26, u27, u28, u29, u30, u31, u32, u33, u34, u35, u36, u37, u38, u39, u40, u41, u42, u43, u44, u45, u46, u47, u48, u49, u50, u51, u52, u53, u54, u55, u56, u57, u58, u59, u60, u61, u62, u63, u64, u65], []⟩ w := by
  obtain ⟨i0, hi, hz0', hz1, hz2⟩ := info_parts infoEnt
  have HI : Hid (Try.prog.info? 47 = some i0) := hi
  have HZ0 : Hid (i0.zero = some (.agg #[.int .i64 0, .int .i64 0, .bool false, .int .i64 0, .int .i64 0, .int .i64 0])) := hz0'
  have HZ1 : Hid (i0.size = 6) := hz1
  have HZ2 : Hid (i0.bytes = 48) := hz2
  clear hi hz0' hz1 hz2
  have hS : Hid (∀ w', Below w.heap.size w w' → w'.cell? ⟨kb, 0, none⟩ = some (.int .i64 a) ∧ w'.cell? ⟨kb, 1, none⟩ = some (.int .i64 c) ∧ w'.cell? ⟨pb, 0, none⟩ = some (.bool q0) ∧ w'.cell? ⟨pb, 1, none⟩ = some (.int .i64 q1) ∧ w'.cell? ⟨pb, 2, none⟩ = some (.int .i64 q2) ∧ w'.cell? ⟨pb, 3, none⟩ = some (.int .i64 q3)) := fun w' hB => ⟨keeps hB hkey.out.1, keeps hB hkey.out.2.1, keeps hB hkey.out.2.2.1, keeps hB hkey.out.2.2.2.1, keeps hB hkey.out.2.2.2.2.1, keeps hB hkey.out.2.2.2.2.2⟩
  have hcB : Hid (∀ w', Below w.heap.size w w' → w'.cell? ⟨q, 0, none⟩ = some (.slice ao N cap)) := fun w' hB => keeps hB hc0.out
  conv => arg 2; whnf
  refine wp_region_held_drew (S := fun w' => w'.cell? ⟨kb, 0, none⟩ = some (.int .i64 a) ∧ w'.cell? ⟨kb, 1, none⟩ = some (.int .i64 c) ∧ w'.cell? ⟨pb, 0, none⟩ = some (.bool q0) ∧ w'.cell? ⟨pb, 1, none⟩ = some (.int .i64 q1) ∧ w'.cell? ⟨pb, 2, none⟩ = some (.int .i64 q2) ∧ w'.cell? ⟨pb, 3, none⟩ = some (.int .i64 q3)) (by kernel_rfl) ?_ (fun hHeld => ?_)
  · exact hS.out _ (Below.refl _ w).drew
  obtain ⟨w0, hw0⟩ : ∃ x, x = w.drew := ⟨_, rfl⟩
  rw [← hw0] at hHeld ⊢
  have HB0 : Hid (Below w.heap.size w w0) := by rw [hw0]; exact (Below.refl _ w).drew
  clear hw0
  refine takeV (i := 0) (v := ?_) rfl (by kernel_rfl) (by kernel_rfl) (by kernel_rfl) (fun _ _ _ h => hpan.out _ _ _ _ _ h) (by rfl) (by assumption) ?_ ?_
  rotate_left
  · (intro w' hSw; (try dsimp only at hSw); go_simp; try (with_reducible rfl))
  try simp only [Act.put, List.setIfInBounds_toArray, List.set_cons_zero, List.set_cons_succ]
  refine takeV (i := 2) (v := ?_) rfl (by kernel_rfl) (by kernel_rfl) (by kernel_rfl) (fun _ _ _ h => hpan.out _ _ _ _ _ h) (by rfl) (by assumption) ?_ ?_
  rotate_left
  · (intro w' hSw; (try dsimp only at hSw); go_simp; try (with_reducible rfl))
  try simp only [Act.put, List.setIfInBounds_toArray, List.set_cons_zero, List.set_cons_succ]
  refine takeV (i := 3) (v := ?_) rfl (by kernel_rfl) (by kernel_rfl) (by kernel_rfl) (fun _ _ _ h => hpan.out _ _ _ _ _ h) (by rfl) (by assumption) ?_ ?_
  rotate_left
  · (intro w' hSw; (try dsimp only at hSw); go_simp; try (with_reducible rfl))
  try simp only [Act.put, List.setIfInBounds_toArray, List.set_cons_zero, List.set_cons_succ]
  refine takeV (i := 4) (v := ?_) rfl (by kernel_rfl) (by kernel_rfl) (by kernel_rfl) (fun _ _ _ h => hpan.out _ _ _ _ _ h) (by rfl) (by assumption) ?_ ?_
  rotate_left
  · (intro w' hSw; (try dsimp only at hSw); go_simp; try (with_reducible rfl))
  try simp only [Act.put, List.setIfInBounds_toArray, List.set_cons_zero, List.set_cons_succ]
  refine takeV (i := 7) (v := ?_) rfl (by kernel_rfl) (by kernel_rfl) (by kernel_rfl) (fun _ _ _ h => hpan.out _ _ _ _ _ h) (by rfl) (by assumption) ?_ ?_
  rotate_left
  · (intro w' hSw; (try dsimp only at hSw); go_simp; try (with_reducible rfl))
  try simp only [Act.put, List.setIfInBounds_toArray, List.set_cons_zero, List.set_cons_succ]
  refine takeV (i := 8) (v := ?_) rfl (by kernel_rfl) (by kernel_rfl) (by kernel_rfl) (fun _ _ _ h => hpan.out _ _ _ _ _ h) (by rfl) (by assumption) ?_ ?_
  rotate_left
  · (intro w' hSw; (try dsimp only at hSw); go_simp; try (with_reducible rfl))
  try simp only [Act.put, List.setIfInBounds_toArray, List.set_cons_zero, List.set_cons_succ]
  refine takeV (i := 9) (v := ?_) rfl (by kernel_rfl) (by kernel_rfl) (by kernel_rfl) (fun _ _ _ h => hpan.out _ _ _ _ _ h) (by rfl) (by assumption) ?_ ?_
  rotate_left
  · (intro w' hSw; (try dsimp only at hSw); go_simp; try (with_reducible rfl))
  try simp only [Act.put, List.setIfInBounds_toArray, List.set_cons_zero, List.set_cons_succ]
  refine wpAnyH_ready (rs := [1, 5, 10]) (by kernel_rfl) (by simp) ?_
  refine consOne (i := 1) rfl (fun K hK => ?_) ?_
  · go_simp
    obtain ⟨wA, hx⟩ : ∃ x, x = w0.alloc (.cells #[] 47) := ⟨_, rfl⟩
    rw [← hx]
    have HB1 : Hid (Below w.heap.size w wA) := by rw [hx]; exact bal HB0.out _
    have HOA : Hid (wA.ownsRow w.heap.size 47 6 (.slice (some ⟨w0.heap.size, 0, none⟩) 0 0) 0 []) := by rw [hx]; exact own_empty _ HB0.out.size
    have HAB : Hid (w.heap.size ≤ w0.heap.size) := HB0.out.size
    clear hx
    refine hK.out _ _ ?_ (fun hHeld => ?_)
    · exact hS.out _ HB1.out
    clear hK K
    try simp only [Act.put, List.setIfInBounds_toArray, List.set_cons_zero, List.set_cons_succ]
    refine wpAnyH_ready (rs := [5, 10]) (by kernel_rfl) (by simp) ?_
    refine consOne (i := 5) rfl (fun K hK => ?_) ?_
    · have hcx := hcB.out wA HB1.out
      go_simp
      clear hcx
      refine hK.out _ _ ?_ (fun hHeld => ?_)
      · exact hS.out _ HB1.out
      clear hK K
      try simp only [Act.put, List.setIfInBounds_toArray, List.set_cons_zero, List.set_cons_succ]
      refine wpAnyH_ready (rs := [6, 10]) (by kernel_rfl) (by simp) ?_
      refine consOne (i := 6) rfl (fun K hK => ?_) ?_
      · refine step_append_list rfl (.tmp 35) (.tmp 39) 41 rfl w.heap.size 47 i0 _ 6 48 Try.underlying41 HI.out HZ0.out HZ1.out HZ2.out rfl (by decide) w0.heap.size 0 0 [] rfl HOA.out ao N cap (rcells S) rfl (by rw [rcells_len, HN.out]) (hsB.out _ HB1.out) hnone.out (rcells_one S) (by unfold maxLen; omega) (by omega) HB1.out.size ?_
        intro gC cC wC hoC hgC
        rw [Nat.zero_add] at hoC ⊢
        rw [List.nil_append] at hoC
        have HB2 : Hid (Below w.heap.size w wC) := HB1.out.grown hgC HB1.out.size (fun k hk => by cases hk; exact HAB.out)
        have HOC : Hid (wC.ownsRow w.heap.size 47 6 (.slice (some ⟨gC, 0, none⟩) N cC) N (rcells S)) := hoC
        clear hoC hgC
        refine hK.out _ _ ?_ (fun hHeld => ?_)
        · exact hS.out _ HB2.out
        clear hK K
        try simp only [Act.put, List.setIfInBounds_toArray, List.set_cons_zero, List.set_cons_succ]
        refine stepOne (i := 10) rfl (by kernel_rfl) (fun K hK => ?_)
        go_simp
        obtain ⟨wF, hx⟩ : ∃ x, x = wC.alloc (.cells #[.int .i64 a, .int .i64 c, .bool q0, .int .i64 q1, .int .i64 q2, .int .i64 q3] 47) := ⟨_, rfl⟩
        rw [← hx]
        have HB3 : Hid (Below w.heap.size w wF) := by rw [hx]; exact bal HB2.out _
        have HF3 : Hid (wF.heap[wC.heap.size]? = some (.cells #[.int .i64 a, .int .i64 c, .bool q0, .int .i64 q1, .int .i64 q2, .int .i64 q3] 47 (0, 0))) := by rw [hx]; exact heap_alloc_new _ _
        have HOC3 : Hid (wF.ownsRow w.heap.size 47 6 (.slice (some ⟨gC, 0, none⟩) N cC) N (rcells S)) := by rw [hx]; exact HOC.out.alloc _
        clear hx
        refine hK.out _ _ ?_ (fun hHeld => ?_)
        · exact hS.out _ HB3.out
        clear hK K
        try simp only [Act.put, List.setIfInBounds_toArray, List.set_cons_zero, List.set_cons_succ]
        refine stepOne (i := 11) rfl (by kernel_rfl) (fun K hK => ?_)
        refine step_append_list rfl (.tmp 40) (.tmp 44) 41 rfl w.heap.size 47 i0 _ 6 48 Try.underlying41 HI.out HZ0.out HZ1.out HZ2.out rfl (by decide) gC N cC (rcells S) rfl HOC3.out (some ⟨wC.heap.size, 0, none⟩) 1 1 [.int .i64 a, .int .i64 c, .bool q0, .int .i64 q1, .int .i64 q2, .int .i64 q3] rfl rfl (six_cells HF3.out) (fun e => by cases e) (by simp [Value.oneCell']) (by unfold maxLen; omega) (by omega) HB3.out.size ?_
        intro g6 c6 w6 ho6 hg6
        have HB4 : Hid (Below w.heap.size w w6) := HB3.out.grown hg6 HB3.out.size (fun k hk => by cases hk; exact (own_lt HOC3.out).1)
        have HO6 : Hid (w6.ownsRow w.heap.size 47 6 (.slice (some ⟨g6, 0, none⟩) (N + 1) c6) (N + 1) (rcells S ++ [.int .i64 a, .int .i64 c, .bool q0, .int .i64 q1, .int .i64 q2, .int .i64 q3])) := ho6
        clear ho6 hg6
        refine hK.out _ _ ?_ (fun hHeld => ?_)
        · exact hS.out _ HB4.out
        clear hK K
        try simp only [Act.put, List.setIfInBounds_toArray, List.set_cons_zero, List.set_cons_succ]
        refine takeV (i := 12) (v := ?_) rfl (by kernel_rfl) (by kernel_rfl) (by kernel_rfl) (fun _ _ _ h => hpan.out _ _ _ _ _ h) (by rfl) (by assumption) ?_ ?_
        rotate_left
        · (intro w' hSw; (try dsimp only at hSw); go_simp; try (with_reducible rfl))
        try simp only [Act.put, List.setIfInBounds_toArray, List.set_cons_zero, List.set_cons_succ]
        refine takeV (i := 13) (v := ?_) rfl (by kernel_rfl) (by kernel_rfl) (by kernel_rfl) (fun _ _ _ h => hpan.out _ _ _ _ _ h) (by rfl) (by assumption) ?_ ?_
        rotate_left
        · (intro w' hSw; (try dsimp only at hSw); go_simp; try (with_reducible rfl))
        try simp only [Act.put, List.setIfInBounds_toArray, List.set_cons_zero, List.set_cons_succ]
        refine stepOne (i := 14) rfl (by kernel_rfl) (fun K hK => ?_)
        have hcx := hcB.out w6 HB4.out
        have hzx : w6.frozen? ⟨q, 0, none⟩ = false := (HB4.out.frozen (p := ⟨q, 0, none⟩) hq).trans hz0.out
        go_simp
        clear hcx hzx
        refine hK.out _ _ ?_ (fun hHeld => ?_)
        · have hs6 := hS.out _ HB4.out
          exact ⟨(World.cell?_setCell_far _ _ _ _ hqk).trans hs6.1, (World.cell?_setCell_far _ _ _ _ hqk).trans hs6.2.1, (World.cell?_setCell_far _ _ _ _ hqp).trans hs6.2.2.1, (World.cell?_setCell_far _ _ _ _ hqp).trans hs6.2.2.2.1, (World.cell?_setCell_far _ _ _ _ hqp).trans hs6.2.2.2.2.1, (World.cell?_setCell_far _ _ _ _ hqp).trans hs6.2.2.2.2.2⟩
        clear hK K
        try simp only [Act.put, List.setIfInBounds_toArray, List.set_cons_zero, List.set_cons_succ]
        refine wpAnyH_done (by kernel_rfl) ?_ _
        exact hQ.out _ _ _ _ _ _ _ _ _ _ _ _ _ _ g6 c6 w6 HO6.out HB4.out
      refine consOne (i := 10) rfl (fun K hK => ?_) ?_
      · go_simp
        obtain ⟨wF, hx⟩ : ∃ x, x = wA.alloc (.cells #[.int .i64 a, .int .i64 c, .bool q0, .int .i64 q1, .int .i64 q2, .int .i64 q3] 47) := ⟨_, rfl⟩
        rw [← hx]
        have HB2 : Hid (Below w.heap.size w wF) := by rw [hx]; exact bal HB1.out _
        have HF2 : Hid (wF.heap[wA.heap.size]? = some (.cells #[.int .i64 a, .int .i64 c, .bool q0, .int .i64 q1, .int .i64 q2, .int .i64 q3] 47 (0, 0))) := by rw [hx]; exact heap_alloc_new _ _
        have HOA2 : Hid (wF.ownsRow w.heap.size 47 6 (.slice (some ⟨w0.heap.size, 0, none⟩) 0 0) 0 []) := by rw [hx]; exact HOA.out.alloc _
        have HNE : Hid (wA.heap.size ≠ w0.heap.size) := fun e => by have := (own_lt HOA.out).2; omega
        clear hx
        refine hK.out _ _ ?_ (fun hHeld => ?_)
        · exact hS.out _ HB2.out
        clear hK K
        try simp only [Act.put, List.setIfInBounds_toArray, List.set_cons_zero, List.set_cons_succ]
        refine stepOne (i := 6) rfl (by kernel_rfl) (fun K hK => ?_)
        refine step_append_list rfl (.tmp 35) (.tmp 39) 41 rfl w.heap.size 47 i0 _ 6 48 Try.underlying41 HI.out HZ0.out HZ1.out HZ2.out rfl (by decide) w0.heap.size 0 0 [] rfl HOA2.out ao N cap (rcells S) rfl (by rw [rcells_len, HN.out]) (hsB.out _ HB2.out) hnone.out (rcells_one S) (by unfold maxLen; omega) (by omega) HB2.out.size ?_
        intro gC cC wC hoC hgC
        rw [Nat.zero_add] at hoC ⊢
        rw [List.nil_append] at hoC
        have HB3 : Hid (Below w.heap.size w wC) := HB2.out.grown hgC HB2.out.size (fun k hk => by cases hk; exact HAB.out)
        have HOC : Hid (wC.ownsRow w.heap.size 47 6 (.slice (some ⟨gC, 0, none⟩) N cC) N (rcells S)) := hoC
        have HF3 : Hid (wC.heap[wA.heap.size]? = some (.cells #[.int .i64 a, .int .i64 c, .bool q0, .int .i64 q1, .int .i64 q2, .int .i64 q3] 47 (0, 0))) := (hgC.block _ (Array.getElem?_eq_some_iff.1 HF2.out).1 (fun e => HNE.out (Option.some.inj e))).trans HF2.out
        clear hoC hgC
        refine hK.out _ _ ?_ (fun hHeld => ?_)
        · exact hS.out _ HB3.out
        clear hK K
        try simp only [Act.put, List.setIfInBounds_toArray, List.set_cons_zero, List.set_cons_succ]
        refine stepOne (i := 11) rfl (by kernel_rfl) (fun K hK => ?_)
        refine step_append_list rfl (.tmp 40) (.tmp 44) 41 rfl w.heap.size 47 i0 _ 6 48 Try.underlying41 HI.out HZ0.out HZ1.out HZ2.out rfl (by decide) gC N cC (rcells S) rfl HOC.out (some ⟨wA.heap.size, 0, none⟩) 1 1 [.int .i64 a, .int .i64 c, .bool q0, .int .i64 q1, .int .i64 q2, .int .i64 q3] rfl rfl (six_cells HF3.out) (fun e => by cases e) (by simp [Value.oneCell']) (by unfold maxLen; omega) (by omega) HB3.out.size ?_
        intro g6 c6 w6 ho6 hg6
        have HB4 : Hid (Below w.heap.size w w6) := HB3.out.grown hg6 HB3.out.size (fun k hk => by cases hk; exact (own_lt HOC.out).1)
        have HO6 : Hid (w6.ownsRow w.heap.size 47 6 (.slice (some ⟨g6, 0, none⟩) (N + 1) c6) (N + 1) (rcells S ++ [.int .i64 a, .int .i64 c, .bool q0, .int .i64 q1, .int .i64 q2, .int .i64 q3])) := ho6
        clear ho6 hg6
        refine hK.out _ _ ?_ (fun hHeld => ?_)
        · exact hS.out _ HB4.out
        clear hK K
        try simp only [Act.put, List.setIfInBounds_toArray, List.set_cons_zero, List.set_cons_succ]
        refine takeV (i := 12) (v := ?_) rfl (by kernel_rfl) (by kernel_rfl) (by kernel_rfl) (fun _ _ _ h => hpan.out _ _ _ _ _ h) (by rfl) (by assumption) ?_ ?_
        rotate_left
        · (intro w' hSw; (try dsimp only at hSw); go_simp; try (with_reducible rfl))
        try simp only [Act.put, List.setIfInBounds_toArray, List.set_cons_zero, List.set_cons_succ]
        refine takeV (i := 13) (v := ?_) rfl (by kernel_rfl) (by kernel_rfl) (by kernel_rfl) (fun _ _ _ h => hpan.out _ _ _ _ _ h) (by rfl) (by assumption) ?_ ?_
        rotate_left
        · (intro w' hSw; (try dsimp only at hSw); go_simp; try (with_reducible rfl))
        try simp only [Act.put, List.setIfInBounds_toArray, List.set_cons_zero, List.set_cons_succ]
        refine stepOne (i := 14) rfl (by kernel_rfl) (fun K hK => ?_)
        have hcx := hcB.out w6 HB4.out
        have hzx : w6.frozen? ⟨q, 0, none⟩ = false := (HB4.out.frozen (p := ⟨q, 0, none⟩) hq).trans hz0.out
        go_simp
        clear hcx hzx
        refine hK.out _ _ ?_ (fun hHeld => ?_)
        · have hs6 := hS.out _ HB4.out
          exact ⟨(World.cell?_setCell_far _ _ _ _ hqk).trans hs6.1, (World.cell?_setCell_far _ _ _ _ hqk).trans hs6.2.1, (World.cell?_setCell_far _ _ _ _ hqp).trans hs6.2.2.1, (World.cell?_setCell_far _ _ _ _ hqp).trans hs6.2.2.2.1, (World.cell?_setCell_far _ _ _ _ hqp).trans hs6.2.2.2.2.1, (World.cell?_setCell_far _ _ _ _ hqp).trans hs6.2.2.2.2.2⟩
        clear hK K
        try simp only [Act.put, List.setIfInBounds_toArray, List.set_cons_zero, List.set_cons_succ]
        refine wpAnyH_done (by kernel_rfl) ?_ _
        exact hQ.out _ _ _ _ _ _ _ _ _ _ _ _ _ _ g6 c6 w6 HO6.out HB4.out
      exact AllReadyH.nil
    refine consOne (i := 10) rfl (fun K hK => ?_) ?_
    · go_simp
      obtain ⟨wF, hx⟩ : ∃ x, x = wA.alloc (.cells #[.int .i64 a, .int .i64 c, .bool q0, .int .i64 q1, .int .i64 q2, .int .i64 q3] 47) := ⟨_, rfl⟩
      rw [← hx]
      have HB2 : Hid (Below w.heap.size w wF) := by rw [hx]; exact bal HB1.out _
      have HF2 : Hid (wF.heap[wA.heap.size]? = some (.cells #[.int .i64 a, .int .i64 c, .bool q0, .int .i64 q1, .int .i64 q2, .int .i64 q3] 47 (0, 0))) := by rw [hx]; exact heap_alloc_new _ _
      have HOA2 : Hid (wF.ownsRow w.heap.size 47 6 (.slice (some ⟨w0.heap.size, 0, none⟩) 0 0) 0 []) := by rw [hx]; exact HOA.out.alloc _
      have HNE : Hid (wA.heap.size ≠ w0.heap.size) := fun e => by have := (own_lt HOA.out).2; omega
      clear hx
      refine hK.out _ _ ?_ (fun hHeld => ?_)
      · exact hS.out _ HB2.out
      clear hK K
      try simp only [Act.put, List.setIfInBounds_toArray, List.set_cons_zero, List.set_cons_succ]
      refine stepOne (i := 5) rfl (by kernel_rfl) (fun K hK => ?_)
      have hcx := hcB.out wF HB2.out
      go_simp
      clear hcx
      refine hK.out _ _ ?_ (fun hHeld => ?_)
      · exact hS.out _ HB2.out
      clear hK K
      try simp only [Act.put, List.setIfInBounds_toArray, List.set_cons_zero, List.set_cons_succ]
      refine stepOne (i := 6) rfl (by kernel_rfl) (fun K hK => ?_)
      refine step_append_list rfl (.tmp 35) (.tmp 39) 41 rfl w.heap.size 47 i0 _ 6 48 Try.underlying41 HI.out HZ0.out HZ1.out HZ2.out rfl (by decide) w0.heap.size 0 0 [] rfl HOA2.out ao N cap (rcells S) rfl (by rw [rcells_len, HN.out]) (hsB.out _ HB2.out) hnone.out (rcells_one S) (by unfold maxLen; omega) (by omega) HB2.out.size ?_
      intro gC cC wC hoC hgC
      rw [Nat.zero_add] at hoC ⊢
      rw [List.nil_append] at hoC
      have HB3 : Hid (Below w.heap.size w wC) := HB2.out.grown hgC HB2.out.size (fun k hk => by cases hk; exact HAB.out)
      have HOC : Hid (wC.ownsRow w.heap.size 47 6 (.slice (some ⟨gC, 0, none⟩) N cC) N (rcells S)) := hoC
      have HF3 : Hid (wC.heap[wA.heap.size]? = some (.cells #[.int .i64 a, .int .i64 c, .bool q0, .int .i64 q1, .int .i64 q2, .int .i64 q3] 47 (0, 0))) := (hgC.block _ (Array.getElem?_eq_some_iff.1 HF2.out).1 (fun e => HNE.out (Option.some.inj e))).trans HF2.out
      clear hoC hgC
      refine hK.out _ _ ?_ (fun hHeld => ?_)
      · exact hS.out _ HB3.out
      clear hK K
      try simp only [Act.put, List.setIfInBounds_toArray, List.set_cons_zero, List.set_cons_succ]
      refine stepOne (i := 11) rfl (by kernel_rfl) (fun K hK => ?_)
      refine step_append_list rfl (.tmp 40) (.tmp 44) 41 rfl w.heap.size 47 i0 _ 6 48 Try.underlying41 HI.out HZ0.out HZ1.out HZ2.out rfl (by decide) gC N cC (rcells S) rfl HOC.out (some ⟨wA.heap.size, 0, none⟩) 1 1 [.int .i64 a, .int .i64 c, .bool q0, .int .i64 q1, .int .i64 q2, .int .i64 q3] rfl rfl (six_cells HF3.out) (fun e => by cases e) (by simp [Value.oneCell']) (by unfold maxLen; omega) (by omega) HB3.out.size ?_
      intro g6 c6 w6 ho6 hg6
      have HB4 : Hid (Below w.heap.size w w6) := HB3.out.grown hg6 HB3.out.size (fun k hk => by cases hk; exact (own_lt HOC.out).1)
      have HO6 : Hid (w6.ownsRow w.heap.size 47 6 (.slice (some ⟨g6, 0, none⟩) (N + 1) c6) (N + 1) (rcells S ++ [.int .i64 a, .int .i64 c, .bool q0, .int .i64 q1, .int .i64 q2, .int .i64 q3])) := ho6
      clear ho6 hg6
      refine hK.out _ _ ?_ (fun hHeld => ?_)
      · exact hS.out _ HB4.out
      clear hK K
      try simp only [Act.put, List.setIfInBounds_toArray, List.set_cons_zero, List.set_cons_succ]
      refine takeV (i := 12) (v := ?_) rfl (by kernel_rfl) (by kernel_rfl) (by kernel_rfl) (fun _ _ _ h => hpan.out _ _ _ _ _ h) (by rfl) (by assumption) ?_ ?_
      rotate_left
      · (intro w' hSw; (try dsimp only at hSw); go_simp; try (with_reducible rfl))
      try simp only [Act.put, List.setIfInBounds_toArray, List.set_cons_zero, List.set_cons_succ]
      refine takeV (i := 13) (v := ?_) rfl (by kernel_rfl) (by kernel_rfl) (by kernel_rfl) (fun _ _ _ h => hpan.out _ _ _ _ _ h) (by rfl) (by assumption) ?_ ?_
      rotate_left
      · (intro w' hSw; (try dsimp only at hSw); go_simp; try (with_reducible rfl))
      try simp only [Act.put, List.setIfInBounds_toArray, List.set_cons_zero, List.set_cons_succ]
      refine stepOne (i := 14) rfl (by kernel_rfl) (fun K hK => ?_)
      have hcx := hcB.out w6 HB4.out
      have hzx : w6.frozen? ⟨q, 0, none⟩ = false := (HB4.out.frozen (p := ⟨q, 0, none⟩) hq).trans hz0.out
      go_simp
      clear hcx hzx
      refine hK.out _ _ ?_ (fun hHeld => ?_)
      · have hs6 := hS.out _ HB4.out
        exact ⟨(World.cell?_setCell_far _ _ _ _ hqk).trans hs6.1, (World.cell?_setCell_far _ _ _ _ hqk).trans hs6.2.1, (World.cell?_setCell_far _ _ _ _ hqp).trans hs6.2.2.1, (World.cell?_setCell_far _ _ _ _ hqp).trans hs6.2.2.2.1, (World.cell?_setCell_far _ _ _ _ hqp).trans hs6.2.2.2.2.1, (World.cell?_setCell_far _ _ _ _ hqp).trans hs6.2.2.2.2.2⟩
      clear hK K
      try simp only [Act.put, List.setIfInBounds_toArray, List.set_cons_zero, List.set_cons_succ]
      refine wpAnyH_done (by kernel_rfl) ?_ _
      exact hQ.out _ _ _ _ _ _ _ _ _ _ _ _ _ _ g6 c6 w6 HO6.out HB4.out
    exact AllReadyH.nil
  refine consOne (i := 5) rfl (fun K hK => ?_) ?_
  · have hcx := hcB.out w0 HB0.out
    go_simp
    clear hcx
    refine hK.out _ _ ?_ (fun hHeld => ?_)
    · exact hS.out _ HB0.out
    clear hK K
    try simp only [Act.put, List.setIfInBounds_toArray, List.set_cons_zero, List.set_cons_succ]
    refine wpAnyH_ready (rs := [1, 10]) (by kernel_rfl) (by simp) ?_
    refine consOne (i := 1) rfl (fun K hK => ?_) ?_
    · go_simp
      obtain ⟨wA, hx⟩ : ∃ x, x = w0.alloc (.cells #[] 47) := ⟨_, rfl⟩
      rw [← hx]
      have HB1 : Hid (Below w.heap.size w wA) := by rw [hx]; exact bal HB0.out _
      have HOA : Hid (wA.ownsRow w.heap.size 47 6 (.slice (some ⟨w0.heap.size, 0, none⟩) 0 0) 0 []) := by rw [hx]; exact own_empty _ HB0.out.size
      have HAB : Hid (w.heap.size ≤ w0.heap.size) := HB0.out.size
      clear hx
      refine hK.out _ _ ?_ (fun hHeld => ?_)
      · exact hS.out _ HB1.out
      clear hK K
      try simp only [Act.put, List.setIfInBounds_toArray, List.set_cons_zero, List.set_cons_succ]
      refine wpAnyH_ready (rs := [6, 10]) (by kernel_rfl) (by simp) ?_
      refine consOne (i := 6) rfl (fun K hK => ?_) ?_
      · refine step_append_list rfl (.tmp 35) (.tmp 39) 41 rfl w.heap.size 47 i0 _ 6 48 Try.underlying41 HI.out HZ0.out HZ1.out HZ2.out rfl (by decide) w0.heap.size 0 0 [] rfl HOA.out ao N cap (rcells S) rfl (by rw [rcells_len, HN.out]) (hsB.out _ HB1.out) hnone.out (rcells_one S) (by unfold maxLen; omega) (by omega) HB1.out.size ?_
        intro gC cC wC hoC hgC
        rw [Nat.zero_add] at hoC ⊢
        rw [List.nil_append] at hoC
        have HB2 : Hid (Below w.heap.size w wC) := HB1.out.grown hgC HB1.out.size (fun k hk => by cases hk; exact HAB.out)
        have HOC : Hid (wC.ownsRow w.heap.size 47 6 (.slice (some ⟨gC, 0, none⟩) N cC) N (rcells S)) := hoC
        clear hoC hgC
        refine hK.out _ _ ?_ (fun hHeld => ?_)
        · exact hS.out _ HB2.out
        clear hK K
        try simp only [Act.put, List.setIfInBounds_toArray, List.set_cons_zero, List.set_cons_succ]
        refine stepOne (i := 10) rfl (by kernel_rfl) (fun K hK => ?_)
        go_simp
        obtain ⟨wF, hx⟩ : ∃ x, x = wC.alloc (.cells #[.int .i64 a, .int .i64 c, .bool q0, .int .i64 q1, .int .i64 q2, .int .i64 q3] 47) := ⟨_, rfl⟩
        rw [← hx]
        have HB3 : Hid (Below w.heap.size w wF) := by rw [hx]; exact bal HB2.out _
        have HF3 : Hid (wF.heap[wC.heap.size]? = some (.cells #[.int .i64 a, .int .i64 c, .bool q0, .int .i64 q1, .int .i64 q2, .int .i64 q3] 47 (0, 0))) := by rw [hx]; exact heap_alloc_new _ _
        have HOC3 : Hid (wF.ownsRow w.heap.size 47 6 (.slice (some ⟨gC, 0, none⟩) N cC) N (rcells S)) := by rw [hx]; exact HOC.out.alloc _
        clear hx
        refine hK.out _ _ ?_ (fun hHeld => ?_)
        · exact hS.out _ HB3.out
        clear hK K
        try simp only [Act.put, List.setIfInBounds_toArray, List.set_cons_zero, List.set_cons_succ]
        refine stepOne (i := 11) rfl (by kernel_rfl) (fun K hK => ?_)
        refine step_append_list rfl (.tmp 40) (.tmp 44) 41 rfl w.heap.size 47 i0 _ 6 48 Try.underlying41 HI.out HZ0.out HZ1.out HZ2.out rfl (by decide) gC N cC (rcells S) rfl HOC3.out (some ⟨wC.heap.size, 0, none⟩) 1 1 [.int .i64 a, .int .i64 c, .bool q0, .int .i64 q1, .int .i64 q2, .int .i64 q3] rfl rfl (six_cells HF3.out) (fun e => by cases e) (by simp [Value.oneCell']) (by unfold maxLen; omega) (by omega) HB3.out.size ?_
        intro g6 c6 w6 ho6 hg6
        have HB4 : Hid (Below w.heap.size w w6) := HB3.out.grown hg6 HB3.out.size (fun k hk => by cases hk; exact (own_lt HOC3.out).1)
        have HO6 : Hid (w6.ownsRow w.heap.size 47 6 (.slice (some ⟨g6, 0, none⟩) (N + 1) c6) (N + 1) (rcells S ++ [.int .i64 a, .int .i64 c, .bool q0, .int .i64 q1, .int .i64 q2, .int .i64 q3])) := ho6
        clear ho6 hg6
        refine hK.out _ _ ?_ (fun hHeld => ?_)
        · exact hS.out _ HB4.out
        clear hK K
        try simp only [Act.put, List.setIfInBounds_toArray, List.set_cons_zero, List.set_cons_succ]
        refine takeV (i := 12) (v := ?_) rfl (by kernel_rfl) (by kernel_rfl) (by kernel_rfl) (fun _ _ _ h => hpan.out _ _ _ _ _ h) (by rfl) (by assumption) ?_ ?_
        rotate_left
        · (intro w' hSw; (try dsimp only at hSw); go_simp; try (with_reducible rfl))
        try simp only [Act.put, List.setIfInBounds_toArray, List.set_cons_zero, List.set_cons_succ]
        refine takeV (i := 13) (v := ?_) rfl (by kernel_rfl) (by kernel_rfl) (by kernel_rfl) (fun _ _ _ h => hpan.out _ _ _ _ _ h) (by rfl) (by assumption) ?_ ?_
        rotate_left
        · (intro w' hSw; (try dsimp only at hSw); go_simp; try (with_reducible rfl))
        try simp only [Act.put, List.setIfInBounds_toArray, List.set_cons_zero, List.set_cons_succ]
        refine stepOne (i := 14) rfl (by kernel_rfl) (fun K hK => ?_)
        have hcx := hcB.out w6 HB4.out
        have hzx : w6.frozen? ⟨q, 0, none⟩ = false := (HB4.out.frozen (p := ⟨q, 0, none⟩) hq).trans hz0.out
        go_simp
        clear hcx hzx
        refine hK.out _ _ ?_ (fun hHeld => ?_)
        · have hs6 := hS.out _ HB4.out
          exact ⟨(World.cell?_setCell_far _ _ _ _ hqk).trans hs6.1, (World.cell?_setCell_far _ _ _ _ hqk).trans hs6.2.1, (World.cell?_setCell_far _ _ _ _ hqp).trans hs6.2.2.1, (World.cell?_setCell_far _ _ _ _ hqp).trans hs6.2.2.2.1, (World.cell?_setCell_far _ _ _ _ hqp).trans hs6.2.2.2.2.1, (World.cell?_setCell_far _ _ _ _ hqp).trans hs6.2.2.2.2.2⟩
        clear hK K
        try simp only [Act.put, List.setIfInBounds_toArray, List.set_cons_zero, List.set_cons_succ]
        refine wpAnyH_done (by kernel_rfl) ?_ _
        exact hQ.out _ _ _ _ _ _ _ _ _ _ _ _ _ _ g6 c6 w6 HO6.out HB4.out
      refine consOne (i := 10) rfl (fun K hK => ?_) ?_
      · go_simp
        obtain ⟨wF, hx⟩ : ∃ x, x = wA.alloc (.cells #[.int .i64 a, .int .i64 c, .bool q0, .int .i64 q1, .int .i64 q2, .int .i64 q3] 47) := ⟨_, rfl⟩
        rw [← hx]
        have HB2 : Hid (Below w.heap.size w wF) := by rw [hx]; exact bal HB1.out _
        have HF2 : Hid (wF.heap[wA.heap.size]? = some (.cells #[.int .i64 a, .int .i64 c, .bool q0, .int .i64 q1, .int .i64 q2, .int .i64 q3] 47 (0, 0))) := by rw [hx]; exact heap_alloc_new _ _
        have HOA2 : Hid (wF.ownsRow w.heap.size 47 6 (.slice (some ⟨w0.heap.size, 0, none⟩) 0 0) 0 []) := by rw [hx]; exact HOA.out.alloc _
        have HNE : Hid (wA.heap.size ≠ w0.heap.size) := fun e => by have := (own_lt HOA.out).2; omega
        clear hx
        refine hK.out _ _ ?_ (fun hHeld => ?_)
        · exact hS.out _ HB2.out
        clear hK K
        try simp only [Act.put, List.setIfInBounds_toArray, List.set_cons_zero, List.set_cons_succ]
        refine stepOne (i := 6) rfl (by kernel_rfl) (fun K hK => ?_)
        refine step_append_list rfl (.tmp 35) (.tmp 39) 41 rfl w.heap.size 47 i0 _ 6 48 Try.underlying41 HI.out HZ0.out HZ1.out HZ2.out rfl (by decide) w0.heap.size 0 0 [] rfl HOA2.out ao N cap (rcells S) rfl (by rw [rcells_len, HN.out]) (hsB.out _ HB2.out) hnone.out (rcells_one S) (by unfold maxLen; omega) (by omega) HB2.out.size ?_
        intro gC cC wC hoC hgC
        rw [Nat.zero_add] at hoC ⊢
        rw [List.nil_append] at hoC
        have HB3 : Hid (Below w.heap.size w wC) := HB2.out.grown hgC HB2.out.size (fun k hk => by cases hk; exact HAB.out)
        have HOC : Hid (wC.ownsRow w.heap.size 47 6 (.slice (some ⟨gC, 0, none⟩) N cC) N (rcells S)) := hoC
        have HF3 : Hid (wC.heap[wA.heap.size]? = some (.cells #[.int .i64 a, .int .i64 c, .bool q0, .int .i64 q1, .int .i64 q2, .int .i64 q3] 47 (0, 0))) := (hgC.block _ (Array.getElem?_eq_some_iff.1 HF2.out).1 (fun e => HNE.out (Option.some.inj e))).trans HF2.out
        clear hoC hgC
        refine hK.out _ _ ?_ (fun hHeld => ?_)
        · exact hS.out _ HB3.out
        clear hK K
        try simp only [Act.put, List.setIfInBounds_toArray, List.set_cons_zero, List.set_cons_succ]
        refine stepOne (i := 11) rfl (by kernel_rfl) (fun K hK => ?_)
        refine step_append_list rfl (.tmp 40) (.tmp 44) 41 rfl w.heap.size 47 i0 _ 6 48 Try.underlying41 HI.out HZ0.out HZ1.out HZ2.out rfl (by decide) gC N cC (rcells S) rfl HOC.out (some ⟨wA.heap.size, 0, none⟩) 1 1 [.int .i64 a, .int .i64 c, .bool q0, .int .i64 q1, .int .i64 q2, .int .i64 q3] rfl rfl (six_cells HF3.out) (fun e => by cases e) (by simp [Value.oneCell']) (by unfold maxLen; omega) (by omega) HB3.out.size ?_
        intro g6 c6 w6 ho6 hg6
        have HB4 : Hid (Below w.heap.size w w6) := HB3.out.grown hg6 HB3.out.size (fun k hk => by cases hk; exact (own_lt HOC.out).1)
        have HO6 : Hid (w6.ownsRow w.heap.size 47 6 (.slice (some ⟨g6, 0, none⟩) (N + 1) c6) (N + 1) (rcells S ++ [.int .i64 a, .int .i64 c, .bool q0, .int .i64 q1, .int .i64 q2, .int .i64 q3])) := ho6
        clear ho6 hg6
        refine hK.out _ _ ?_ (fun hHeld => ?_)
        · exact hS.out _ HB4.out
        clear hK K
        try simp only [Act.put, List.setIfInBounds_toArray, List.set_cons_zero, List.set_cons_succ]
        refine takeV (i := 12) (v := ?_) rfl (by kernel_rfl) (by kernel_rfl) (by kernel_rfl) (fun _ _ _ h => hpan.out _ _ _ _ _ h) (by rfl) (by assumption) ?_ ?_
        rotate_left
        · (intro w' hSw; (try dsimp only at hSw); go_simp; try (with_reducible rfl))
        try simp only [Act.put, List.setIfInBounds_toArray, List.set_cons_zero, List.set_cons_succ]
        refine takeV (i := 13) (v := ?_) rfl (by kernel_rfl) (by kernel_rfl) (by kernel_rfl) (fun _ _ _ h => hpan.out _ _ _ _ _ h) (by rfl) (by assumption) ?_ ?_
        rotate_left
        · (intro w' hSw; (try dsimp only at hSw); go_simp; try (with_reducible rfl))
        try simp only [Act.put, List.setIfInBounds_toArray, List.set_cons_zero, List.set_cons_succ]
        refine stepOne (i := 14) rfl (by kernel_rfl) (fun K hK => ?_)
        have hcx := hcB.out w6 HB4.out
        have hzx : w6.frozen? ⟨q, 0, none⟩ = false := (HB4.out.frozen (p := ⟨q, 0, none⟩) hq).trans hz0.out
        go_simp
        clear hcx hzx
        refine hK.out _ _ ?_ (fun hHeld => ?_)
        · have hs6 := hS.out _ HB4.out
          exact ⟨(World.cell?_setCell_far _ _ _ _ hqk).trans hs6.1, (World.cell?_setCell_far _ _ _ _ hqk).trans hs6.2.1, (World.cell?_setCell_far _ _ _ _ hqp).trans hs6.2.2.1, (World.cell?_setCell_far _ _ _ _ hqp).trans hs6.2.2.2.1, (World.cell?_setCell_far _ _ _ _ hqp).trans hs6.2.2.2.2.1, (World.cell?_setCell_far _ _ _ _ hqp).trans hs6.2.2.2.2.2⟩
        clear hK K
        try simp only [Act.put, List.setIfInBounds_toArray, List.set_cons_zero, List.set_cons_succ]
        refine wpAnyH_done (by kernel_rfl) ?_ _
        exact hQ.out _ _ _ _ _ _ _ _ _ _ _ _ _ _ g6 c6 w6 HO6.out HB4.out
      exact AllReadyH.nil
    refine consOne (i := 10) rfl (fun K hK => ?_) ?_
    · go_simp
      obtain ⟨wF, hx⟩ : ∃ x, x = w0.alloc (.cells #[.int .i64 a, .int .i64 c, .bool q0, .int .i64 q1, .int .i64 q2, .int .i64 q3] 47) := ⟨_, rfl⟩
      rw [← hx]
      have HB1 : Hid (Below w.heap.size w wF) := by rw [hx]; exact bal HB0.out _
      have HF1 : Hid (wF.heap[w0.heap.size]? = some (.cells #[.int .i64 a, .int .i64 c, .bool q0, .int .i64 q1, .int .i64 q2, .int .i64 q3] 47 (0, 0))) := by rw [hx]; exact heap_alloc_new _ _
      clear hx
      refine hK.out _ _ ?_ (fun hHeld => ?_)
      · exact hS.out _ HB1.out
      clear hK K
      try simp only [Act.put, List.setIfInBounds_toArray, List.set_cons_zero, List.set_cons_succ]
      refine stepOne (i := 1) rfl (by kernel_rfl) (fun K hK => ?_)
      go_simp
      obtain ⟨wA, hx⟩ : ∃ x, x = wF.alloc (.cells #[] 47) := ⟨_, rfl⟩
      rw [← hx]
      have HB2 : Hid (Below w.heap.size w wA) := by rw [hx]; exact bal HB1.out _
      have HOA : Hid (wA.ownsRow w.heap.size 47 6 (.slice (some ⟨wF.heap.size, 0, none⟩) 0 0) 0 []) := by rw [hx]; exact own_empty _ HB1.out.size
      have HF2 : Hid (wA.heap[w0.heap.size]? = some (.cells #[.int .i64 a, .int .i64 c, .bool q0, .int .i64 q1, .int .i64 q2, .int .i64 q3] 47 (0, 0))) := by rw [hx]; exact (Below.heap_alloc _ _ _ (Array.getElem?_eq_some_iff.1 HF1.out).1).trans HF1.out
      have HAB : Hid (w.heap.size ≤ wF.heap.size) := HB1.out.size
      have HNE : Hid (w0.heap.size ≠ wF.heap.size) := Nat.ne_of_lt (Array.getElem?_eq_some_iff.1 HF1.out).1
      clear hx
      refine hK.out _ _ ?_ (fun hHeld => ?_)
      · exact hS.out _ HB2.out
      clear hK K
      try simp only [Act.put, List.setIfInBounds_toArray, List.set_cons_zero, List.set_cons_succ]
      refine stepOne (i := 6) rfl (by kernel_rfl) (fun K hK => ?_)
      refine step_append_list rfl (.tmp 35) (.tmp 39) 41 rfl w.heap.size 47 i0 _ 6 48 Try.underlying41 HI.out HZ0.out HZ1.out HZ2.out rfl (by decide) wF.heap.size 0 0 [] rfl HOA.out ao N cap (rcells S) rfl (by rw [rcells_len, HN.out]) (hsB.out _ HB2.out) hnone.out (rcells_one S) (by unfold maxLen; omega) (by omega) HB2.out.size ?_
      intro gC cC wC hoC hgC
      rw [Nat.zero_add] at hoC ⊢
      rw [List.nil_append] at hoC
      have HB3 : Hid (Below w.heap.size w wC) := HB2.out.grown hgC HB2.out.size (fun k hk => by cases hk; exact HAB.out)
      have HOC : Hid (wC.ownsRow w.heap.size 47 6 (.slice (some ⟨gC, 0, none⟩) N cC) N (rcells S)) := hoC
      have HF3 : Hid (wC.heap[w0.heap.size]? = some (.cells #[.int .i64 a, .int .i64 c, .bool q0, .int .i64 q1, .int .i64 q2, .int .i64 q3] 47 (0, 0))) := (hgC.block _ (Array.getElem?_eq_some_iff.1 HF2.out).1 (fun e => HNE.out (Option.some.inj e))).trans HF2.out
      clear hoC hgC
      refine hK.out _ _ ?_ (fun hHeld => ?_)
      · exact hS.out _ HB3.out
      clear hK K
      try simp only [Act.put, List.setIfInBounds_toArray, List.set_cons_zero, List.set_cons_succ]
      refine stepOne (i := 11) rfl (by kernel_rfl) (fun K hK => ?_)
      refine step_append_list rfl (.tmp 40) (.tmp 44) 41 rfl w.heap.size 47 i0 _ 6 48 Try.underlying41 HI.out HZ0.out HZ1.out HZ2.out rfl (by decide) gC N cC (rcells S) rfl HOC.out (some ⟨w0.heap.size, 0, none⟩) 1 1 [.int .i64 a, .int .i64 c, .bool q0, .int .i64 q1, .int .i64 q2, .int .i64 q3] rfl rfl (six_cells HF3.out) (fun e => by cases e) (by simp [Value.oneCell']) (by unfold maxLen; omega) (by omega) HB3.out.size ?_
      intro g6 c6 w6 ho6 hg6
      have HB4 : Hid (Below w.heap.size w w6) := HB3.out.grown hg6 HB3.out.size (fun k hk => by cases hk; exact (own_lt HOC.out).1)
      have HO6 : Hid (w6.ownsRow w.heap.size 47 6 (.slice (some ⟨g6, 0, none⟩) (N + 1) c6) (N + 1) (rcells S ++ [.int .i64 a, .int .i64 c, .bool q0, .int .i64 q1, .int .i64 q2, .int .i64 q3])) := ho6
      clear ho6 hg6
      refine hK.out _ _ ?_ (fun hHeld => ?_)
      · exact hS.out _ HB4.out
      clear hK K
      try simp only [Act.put, List.setIfInBounds_toArray, List.set_cons_zero, List.set_cons_succ]
      refine takeV (i := 12) (v := ?_) rfl (by kernel_rfl) (by kernel_rfl) (by kernel_rfl) (fun _ _ _ h => hpan.out _ _ _ _ _ h) (by rfl) (by assumption) ?_ ?_
      rotate_left
      · (intro w' hSw; (try dsimp only at hSw); go_simp; try (with_reducible rfl))
      try simp only [Act.put, List.setIfInBounds_toArray, List.set_cons_zero, List.set_cons_succ]
      refine takeV (i := 13) (v := ?_) rfl (by kernel_rfl) (by kernel_rfl) (by kernel_rfl) (fun _ _ _ h => hpan.out _ _ _ _ _ h) (by rfl) (by assumption) ?_ ?_
      rotate_left
      · (intro w' hSw; (try dsimp only at hSw); go_simp; try (with_reducible rfl))
      try simp only [Act.put, List.setIfInBounds_toArray, List.set_cons_zero, List.set_cons_succ]
      refine stepOne (i := 14) rfl (by kernel_rfl) (fun K hK => ?_)
      have hcx := hcB.out w6 HB4.out
      have hzx : w6.frozen? ⟨q, 0, none⟩ = false := (HB4.out.frozen (p := ⟨q, 0, none⟩) hq).trans hz0.out
      go_simp
      clear hcx hzx
      refine hK.out _ _ ?_ (fun hHeld => ?_)
      · have hs6 := hS.out _ HB4.out
        exact ⟨(World.cell?_setCell_far _ _ _ _ hqk).trans hs6.1, (World.cell?_setCell_far _ _ _ _ hqk).trans hs6.2.1, (World.cell?_setCell_far _ _ _ _ hqp).trans hs6.2.2.1, (World.cell?_setCell_far _ _ _ _ hqp).trans hs6.2.2.2.1, (World.cell?_setCell_far _ _ _ _ hqp).trans hs6.2.2.2.2.1, (World.cell?_setCell_far _ _ _ _ hqp).trans hs6.2.2.2.2.2⟩
      clear hK K
      try simp only [Act.put, List.setIfInBounds_toArray, List.set_cons_zero, List.set_cons_succ]
      refine wpAnyH_done (by kernel_rfl) ?_ _
      exact hQ.out _ _ _ _ _ _ _ _ _ _ _ _ _ _ g6 c6 w6 HO6.out HB4.out
    exact AllReadyH.nil
  refine consOne (i := 10) rfl (fun K hK => ?_) ?_
  · go_simp
    obtain ⟨wF, hx⟩ : ∃ x, x = w0.alloc (.cells #[.int .i64 a, .int .i64 c, .bool q0, .int .i64 q1, .int .i64 q2, .int .i64 q3] 47) := ⟨_, rfl⟩
    rw [← hx]
    have HB1 : Hid (Below w.heap.size w wF) := by rw [hx]; exact bal HB0.out _
    have HF1 : Hid (wF.heap[w0.heap.size]? = some (.cells #[.int .i64 a, .int .i64 c, .bool q0, .int .i64 q1, .int .i64 q2, .int .i64 q3] 47 (0, 0))) := by rw [hx]; exact heap_alloc_new _ _
    clear hx
    refine hK.out _ _ ?_ (fun hHeld => ?_)
    · exact hS.out _ HB1.out
    clear hK K
    try simp only [Act.put, List.setIfInBounds_toArray, List.set_cons_zero, List.set_cons_succ]
    refine wpAnyH_ready (rs := [1, 5]) (by kernel_rfl) (by simp) ?_
    refine consOne (i := 1) rfl (fun K hK => ?_) ?_
    · go_simp
      obtain ⟨wA, hx⟩ : ∃ x, x = wF.alloc (.cells #[] 47) := ⟨_, rfl⟩
      rw [← hx]
      have HB2 : Hid (Below w.heap.size w wA) := by rw [hx]; exact bal HB1.out _
      have HOA : Hid (wA.ownsRow w.heap.size 47 6 (.slice (some ⟨wF.heap.size, 0, none⟩) 0 0) 0 []) := by rw [hx]; exact own_empty _ HB1.out.size
      have HF2 : Hid (wA.heap[w0.heap.size]? = some (.cells #[.int .i64 a, .int .i64 c, .bool q0, .int .i64 q1, .int .i64 q2, .int .i64 q3] 47 (0, 0))) := by rw [hx]; exact (Below.heap_alloc _ _ _ (Array.getElem?_eq_some_iff.1 HF1.out).1).trans HF1.out
      have HAB : Hid (w.heap.size ≤ wF.heap.size) := HB1.out.size
      have HNE : Hid (w0.heap.size ≠ wF.heap.size) := Nat.ne_of_lt (Array.getElem?_eq_some_iff.1 HF1.out).1
      clear hx
      refine hK.out _ _ ?_ (fun hHeld => ?_)
      · exact hS.out _ HB2.out
      clear hK K
      try simp only [Act.put, List.setIfInBounds_toArray, List.set_cons_zero, List.set_cons_succ]
      refine stepOne (i := 5) rfl (by kernel_rfl) (fun K hK => ?_)
      have hcx := hcB.out wA HB2.out
      go_simp
      clear hcx
      refine hK.out _ _ ?_ (fun hHeld => ?_)
      · exact hS.out _ HB2.out
      clear hK K
      try simp only [Act.put, List.setIfInBounds_toArray, List.set_cons_zero, List.set_cons_succ]
      refine stepOne (i := 6) rfl (by kernel_rfl) (fun K hK => ?_)
      refine step_append_list rfl (.tmp 35) (.tmp 39) 41 rfl w.heap.size 47 i0 _ 6 48 Try.underlying41 HI.out HZ0.out HZ1.out HZ2.out rfl (by decide) wF.heap.size 0 0 [] rfl HOA.out ao N cap (rcells S) rfl (by rw [rcells_len, HN.out]) (hsB.out _ HB2.out) hnone.out (rcells_one S) (by unfold maxLen; omega) (by omega) HB2.out.size ?_
      intro gC cC wC hoC hgC
      rw [Nat.zero_add] at hoC ⊢
      rw [List.nil_append] at hoC
      have HB3 : Hid (Below w.heap.size w wC) := HB2.out.grown hgC HB2.out.size (fun k hk => by cases hk; exact HAB.out)
      have HOC : Hid (wC.ownsRow w.heap.size 47 6 (.slice (some ⟨gC, 0, none⟩) N cC) N (rcells S)) := hoC
      have HF3 : Hid (wC.heap[w0.heap.size]? = some (.cells #[.int .i64 a, .int .i64 c, .bool q0, .int .i64 q1, .int .i64 q2, .int .i64 q3] 47 (0, 0))) := (hgC.block _ (Array.getElem?_eq_some_iff.1 HF2.out).1 (fun e => HNE.out (Option.some.inj e))).trans HF2.out
      clear hoC hgC
      refine hK.out _ _ ?_ (fun hHeld => ?_)
      · exact hS.out _ HB3.out
      clear hK K
      try simp only [Act.put, List.setIfInBounds_toArray, List.set_cons_zero, List.set_cons_succ]
      refine stepOne (i := 11) rfl (by kernel_rfl) (fun K hK => ?_)
      refine step_append_list rfl (.tmp 40) (.tmp 44) 41 rfl w.heap.size 47 i0 _ 6 48 Try.underlying41 HI.out HZ0.out HZ1.out HZ2.out rfl (by decide) gC N cC (rcells S) rfl HOC.out (some ⟨w0.heap.size, 0, none⟩) 1 1 [.int .i64 a, .int .i64 c, .bool q0, .int .i64 q1, .int .i64 q2, .int .i64 q3] rfl rfl (six_cells HF3.out) (fun e => by cases e) (by simp [Value.oneCell']) (by unfold maxLen; omega) (by omega) HB3.out.size ?_
      intro g6 c6 w6 ho6 hg6
      have HB4 : Hid (Below w.heap.size w w6) := HB3.out.grown hg6 HB3.out.size (fun k hk => by cases hk; exact (own_lt HOC.out).1)
      have HO6 : Hid (w6.ownsRow w.heap.size 47 6 (.slice (some ⟨g6, 0, none⟩) (N + 1) c6) (N + 1) (rcells S ++ [.int .i64 a, .int .i64 c, .bool q0, .int .i64 q1, .int .i64 q2, .int .i64 q3])) := ho6
      clear ho6 hg6
      refine hK.out _ _ ?_ (fun hHeld => ?_)
      · exact hS.out _ HB4.out
      clear hK K
      try simp only [Act.put, List.setIfInBounds_toArray, List.set_cons_zero, List.set_cons_succ]
      refine takeV (i := 12) (v := ?_) rfl (by kernel_rfl) (by kernel_rfl) (by kernel_rfl) (fun _ _ _ h => hpan.out _ _ _ _ _ h) (by rfl) (by assumption) ?_ ?_
      rotate_left
      · (intro w' hSw; (try dsimp only at hSw); go_simp; try (with_reducible rfl))
      try simp only [Act.put, List.setIfInBounds_toArray, List.set_cons_zero, List.set_cons_succ]
      refine takeV (i := 13) (v := ?_) rfl (by kernel_rfl) (by kernel_rfl) (by kernel_rfl) (fun _ _ _ h => hpan.out _ _ _ _ _ h) (by rfl) (by assumption) ?_ ?_
      rotate_left
      · (intro w' hSw; (try dsimp only at hSw); go_simp; try (with_reducible rfl))
      try simp only [Act.put, List.setIfInBounds_toArray, List.set_cons_zero, List.set_cons_succ]
      refine stepOne (i := 14) rfl (by kernel_rfl) (fun K hK => ?_)
      have hcx := hcB.out w6 HB4.out
      have hzx : w6.frozen? ⟨q, 0, none⟩ = false := (HB4.out.frozen (p := ⟨q, 0, none⟩) hq).trans hz0.out
      go_simp
      clear hcx hzx
      refine hK.out _ _ ?_ (fun hHeld => ?_)
      · have hs6 := hS.out _ HB4.out
        exact ⟨(World.cell?_setCell_far _ _ _ _ hqk).trans hs6.1, (World.cell?_setCell_far _ _ _ _ hqk).trans hs6.2.1, (World.cell?_setCell_far _ _ _ _ hqp).trans hs6.2.2.1, (World.cell?_setCell_far _ _ _ _ hqp).trans hs6.2.2.2.1, (World.cell?_setCell_far _ _ _ _ hqp).trans hs6.2.2.2.2.1, (World.cell?_setCell_far _ _ _ _ hqp).trans hs6.2.2.2.2.2⟩
      clear hK K
      try simp only [Act.put, List.setIfInBounds_toArray, List.set_cons_zero, List.set_cons_succ]
      refine wpAnyH_done (by kernel_rfl) ?_ _
      exact hQ.out _ _ _ _ _ _ _ _ _ _ _ _ _ _ g6 c6 w6 HO6.out HB4.out
    refine consOne (i := 5) rfl (fun K hK => ?_) ?_
    · have hcx := hcB.out wF HB1.out
      go_simp
      clear hcx
      refine hK.out _ _ ?_ (fun hHeld => ?_)
      · exact hS.out _ HB1.out
      clear hK K
      try simp only [Act.put, List.setIfInBounds_toArray, List.set_cons_zero, List.set_cons_succ]
      refine stepOne (i := 1) rfl (by kernel_rfl) (fun K hK => ?_)
      go_simp
      obtain ⟨wA, hx⟩ : ∃ x, x = wF.alloc (.cells #[] 47) := ⟨_, rfl⟩
      rw [← hx]
      have HB2 : Hid (Below w.heap.size w wA) := by rw [hx]; exact bal HB1.out _
      have HOA : Hid (wA.ownsRow w.heap.size 47 6 (.slice (some ⟨wF.heap.size, 0, none⟩) 0 0) 0 []) := by rw [hx]; exact own_empty _ HB1.out.size
      have HF2 : Hid (wA.heap[w0.heap.size]? = some (.cells #[.int .i64 a, .int .i64 c, .bool q0, .int .i64 q1, .int .i64 q2, .int .i64 q3] 47 (0, 0))) := by rw [hx]; exact (Below.heap_alloc _ _ _ (Array.getElem?_eq_some_iff.1 HF1.out).1).trans HF1.out
      have HAB : Hid (w.heap.size ≤ wF.heap.size) := HB1.out.size
      have HNE : Hid (w0.heap.size ≠ wF.heap.size) := Nat.ne_of_lt (Array.getElem?_eq_some_iff.1 HF1.out).1
      clear hx
      refine hK.out _ _ ?_ (fun hHeld => ?_)
      · exact hS.out _ HB2.out
      clear hK K
      try simp only [Act.put, List.setIfInBounds_toArray, List.set_cons_zero, List.set_cons_succ]
      refine stepOne (i := 6) rfl (by kernel_rfl) (fun K hK => ?_)
      refine step_append_list rfl (.tmp 35) (.tmp 39) 41 rfl w.heap.size 47 i0 _ 6 48 Try.underlying41 HI.out HZ0.out HZ1.out HZ2.out rfl (by decide) wF.heap.size 0 0 [] rfl HOA.out ao N cap (rcells S) rfl (by rw [rcells_len, HN.out]) (hsB.out _ HB2.out) hnone.out (rcells_one S) (by unfold maxLen; omega) (by omega) HB2.out.size ?_
      intro gC cC wC hoC hgC
      rw [Nat.zero_add] at hoC ⊢
      rw [List.nil_append] at hoC
      have HB3 : Hid (Below w.heap.size w wC) := HB2.out.grown hgC HB2.out.size (fun k hk => by cases hk; exact HAB.out)
      have HOC : Hid (wC.ownsRow w.heap.size 47 6 (.slice (some ⟨gC, 0, none⟩) N cC) N (rcells S)) := hoC
      have HF3 : Hid (wC.heap[w0.heap.size]? = some (.cells #[.int .i64 a, .int .i64 c, .bool q0, .int .i64 q1, .int .i64 q2, .int .i64 q3] 47 (0, 0))) := (hgC.block _ (Array.getElem?_eq_some_iff.1 HF2.out).1 (fun e => HNE.out (Option.some.inj e))).trans HF2.out
      clear hoC hgC
      refine hK.out _ _ ?_ (fun hHeld => ?_)
      · exact hS.out _ HB3.out
      clear hK K
      try simp only [Act.put, List.setIfInBounds_toArray, List.set_cons_zero, List.set_cons_succ]
      refine stepOne (i := 11) rfl (by kernel_rfl) (fun K hK => ?_)
      refine step_append_list rfl (.tmp 40) (.tmp 44) 41 rfl w.heap.size 47 i0 _ 6 48 Try.underlying41 HI.out HZ0.out HZ1.out HZ2.out rfl (by decide) gC N cC (rcells S) rfl HOC.out (some ⟨w0.heap.size, 0, none⟩) 1 1 [.int .i64 a, .int .i64 c, .bool q0, .int .i64 q1, .int .i64 q2, .int .i64 q3] rfl rfl (six_cells HF3.out) (fun e => by cases e) (by simp [Value.oneCell']) (by unfold maxLen; omega) (by omega) HB3.out.size ?_
      intro g6 c6 w6 ho6 hg6
      have HB4 : Hid (Below w.heap.size w w6) := HB3.out.grown hg6 HB3.out.size (fun k hk => by cases hk; exact (own_lt HOC.out).1)
      have HO6 : Hid (w6.ownsRow w.heap.size 47 6 (.slice (some ⟨g6, 0, none⟩) (N + 1) c6) (N + 1) (rcells S ++ [.int .i64 a, .int .i64 c, .bool q0, .int .i64 q1, .int .i64 q2, .int .i64 q3])) := ho6
      clear ho6 hg6
      refine hK.out _ _ ?_ (fun hHeld => ?_)
      · exact hS.out _ HB4.out
      clear hK K
      try simp only [Act.put, List.setIfInBounds_toArray, List.set_cons_zero, List.set_cons_succ]
      refine takeV (i := 12) (v := ?_) rfl (by kernel_rfl) (by kernel_rfl) (by kernel_rfl) (fun _ _ _ h => hpan.out _ _ _ _ _ h) (by rfl) (by assumption) ?_ ?_
      rotate_left
      · (intro w' hSw; (try dsimp only at hSw); go_simp; try (with_reducible rfl))
      try simp only [Act.put, List.setIfInBounds_toArray, List.set_cons_zero, List.set_cons_succ]
      refine takeV (i := 13) (v := ?_) rfl (by kernel_rfl) (by kernel_rfl) (by kernel_rfl) (fun _ _ _ h => hpan.out _ _ _ _ _ h) (by rfl) (by assumption) ?_ ?_
      rotate_left
      · (intro w' hSw; (try dsimp only at hSw); go_simp; try (with_reducible rfl))
      try simp only [Act.put, List.setIfInBounds_toArray, List.set_cons_zero, List.set_cons_succ]
      refine stepOne (i := 14) rfl (by kernel_rfl) (fun K hK => ?_)
      have hcx := hcB.out w6 HB4.out
      have hzx : w6.frozen? ⟨q, 0, none⟩ = false := (HB4.out.frozen (p := ⟨q, 0, none⟩) hq).trans hz0.out
      go_simp
      clear hcx hzx
      refine hK.out _ _ ?_ (fun hHeld => ?_)
      · have hs6 := hS.out _ HB4.out
        exact ⟨(World.cell?_setCell_far _ _ _ _ hqk).trans hs6.1, (World.cell?_setCell_far _ _ _ _ hqk).trans hs6.2.1, (World.cell?_setCell_far _ _ _ _ hqp).trans hs6.2.2.1, (World.cell?_setCell_far _ _ _ _ hqp).trans hs6.2.2.2.1, (World.cell?_setCell_far _ _ _ _ hqp).trans hs6.2.2.2.2.1, (World.cell?_setCell_far _ _ _ _ hqp).trans hs6.2.2.2.2.2⟩
      clear hK K
      try simp only [Act.put, List.setIfInBounds_toArray, List.set_cons_zero, List.set_cons_succ]
      refine wpAnyH_done (by kernel_rfl) ?_ _
      exact hQ.out _ _ _ _ _ _ _ _ _ _ _ _ _ _ g6 c6 w6 HO6.out HB4.out
    exact AllReadyH.nil
  exact AllReadyH.nil
end Go.Proofs.Ytamfdnkjfmfcoaa
