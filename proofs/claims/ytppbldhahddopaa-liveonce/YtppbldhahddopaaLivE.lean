/- Three lists of the statement's own (ids, epochs, who is dead) beside the table, and what binds them to it. -/
import Derived.Test.YtppbldhahddopaaLivC
import Derived.Maps.AppendAt
import Derived.Laws.OwnMore
import Derived.Deep.AppendLies
import Derived.OwnWalk
namespace Go.Proofs.Ytppbldhahddopaa
open Go.RowKit
set_option linter.unusedVariables false

/-- An id that was taken, in which epoch, and whether it was killed since. -/
structure En where
  x : Int
  y : Int
  d : Bool
def iv (l : List Int) : List Value := l.map (.int .i64)
def bv (l : List Bool) : List Value := l.map .bool
theorem iv_len (l : List Int) : (iv l).length = l.length := by simp [iv]
theorem iv_push (l : List Int) (x : Int) : iv (l ++ [x]) = iv l ++ [.int .i64 x] := by simp [iv]
theorem bv_push (l : List Bool) (x : Bool) : bv (l ++ [x]) = bv l ++ [.bool x] := by simp [bv]

/-! ### What binds them: plain -/
structure Inv (S : Nat → LS) (E : List En) : Prop where
  each : ∀ e, e ∈ E → okF 64 e.x = true ∧ (e.d = false → inE e.y (S e.x.toNat) = true) ∧ (e.d = true → e.y < (S e.x.toNat).ep)
  once : E.Pairwise fun a b => ¬ (a.x = b.x ∧ a.y = b.y)
theorem inE_no_of_lt {s : LS} {y : Int} (h : y < s.ep) : inE y s = false := by
  have : ¬ s.ep = y := by omega
  simp [inE, this]
theorem Inv.valid {S : Nat → LS} {E : List En} (h : Inv S E) {e : En} (he : e ∈ E) : vaA 64 S e.x e.y = !e.d := by
  obtain ⟨h1, h2, h3⟩ := h.each e he
  simp only [vaA, h1, Bool.true_and]
  cases hd : e.d
  · exact h2 hd
  · exact inE_no_of_lt (h3 hd)
theorem Inv.fresh {S : Nat → LS} {E : List En} (h : Inv S E) {fl : Int} {k : Nat} (hm : may fl (S k) = true) {e : En} (he : e ∈ E) : ¬ (e.x = k ∧ e.y = (S k).ep) := by
  rintro ⟨h1, h2⟩
  obtain ⟨_, g2, g3⟩ := h.each e he
  rw [h1] at g2 g3
  simp only [Int.toNat_natCast] at g2 g3
  cases hd : e.d
  · have := (inE_yes (g2 hd)).1
    rw [(may_lt hm).1] at this
    cases this
  · have := g3 hd
    omega
theorem Inv.take {S : Nat → LS} {E : List En} (h : Inv S E) {fl : Int} {k : Nat} (hk : k < 64) (hm : may fl (S k) = true) : Inv (upd S k { S k with on := true }) (E ++ [⟨k, (S k).ep, false⟩]) := by
  refine ⟨fun e he => ?_, ?_⟩
  · rcases List.mem_append.1 he with he | he
    · obtain ⟨g1, g2, g3⟩ := h.each e he
      refine ⟨g1, ?_, ?_⟩
      · intro hd
        by_cases q : e.x.toNat = k
        · have := (inE_yes (g2 hd)).1
          rw [q, (may_lt hm).1] at this
          cases this
        · rw [upd_other _ _ q]; exact g2 hd
      · intro hd
        by_cases q : e.x.toNat = k
        · have := g3 hd
          rw [q] at this
          rw [q, upd_same]
          exact this
        · rw [upd_other _ _ q]; exact g3 hd
    · have := List.mem_singleton.1 he
      subst this
      refine ⟨okF_nat hk, fun _ => ?_, fun hd => by cases hd⟩
      simp only [Int.toNat_natCast, upd_same]
      simp [inE]
  · rw [List.pairwise_append]
    refine ⟨h.once, by simp, fun a ha b hb => ?_⟩
    have := List.mem_singleton.1 hb
    subst this
    exact h.fresh hm ha
theorem mem_set {E : List En} {k : Nat} {e a : En} (h : a ∈ E.set k e) : a = e ∨ ∃ j, j ≠ k ∧ E[j]? = some a := by
  obtain ⟨j, hj⟩ := List.mem_iff_getElem?.1 h
  rw [List.getElem?_set] at hj
  by_cases q : k = j
  · rw [if_pos q] at hj
    split at hj
    · left; simp at hj; exact hj.symm
    · cases hj
  · rw [if_neg q] at hj
    exact .inr ⟨j, fun c => q c.symm, hj⟩
theorem pair_of {E : List En} (h : E.Pairwise fun a b => ¬ (a.x = b.x ∧ a.y = b.y)) {i j : Nat} {a b : En} (ha : E[i]? = some a) (hb : E[j]? = some b) (hne : i ≠ j) : ¬ (a.x = b.x ∧ a.y = b.y) := by
  obtain ⟨hi, rfl⟩ := List.getElem?_eq_some_iff.1 ha
  obtain ⟨hj, rfl⟩ := List.getElem?_eq_some_iff.1 hb
  rw [List.pairwise_iff_getElem] at h
  rcases Nat.lt_or_gt_of_ne hne with q | q
  · exact h i j hi hj q
  · intro ⟨c1, c2⟩
    exact h j i hj hi q ⟨c1.symm, c2.symm⟩
theorem pair_set {E : List En} (h : E.Pairwise fun a b => ¬ (a.x = b.x ∧ a.y = b.y)) {k : Nat} {e : En} (he : E[k]? = some e) (d : Bool) : (E.set k ⟨e.x, e.y, d⟩).Pairwise fun a b => ¬ (a.x = b.x ∧ a.y = b.y) := by
  rw [List.pairwise_iff_getElem]
  intro i j hi hj hij
  have hi' : i < E.length := by simpa using hi
  have hj' : j < E.length := by simpa using hj
  have key : ∀ m (hm : m < (E.set k ⟨e.x, e.y, d⟩).length) (hm' : m < E.length), ((E.set k ⟨e.x, e.y, d⟩)[m]'hm).x = (E[m]'hm').x ∧ ((E.set k ⟨e.x, e.y, d⟩)[m]'hm).y = (E[m]'hm').y := by
    intro m hm hm'
    rw [List.getElem_set]
    split
    · subst_vars
      obtain ⟨_, e1⟩ := List.getElem?_eq_some_iff.1 he
      exact ⟨by rw [e1], by rw [e1]⟩
    · exact ⟨rfl, rfl⟩
  rw [(key i hi hi').1, (key i hi hi').2, (key j hj hj').1, (key j hj hj').2]
  rw [List.pairwise_iff_getElem] at h
  exact h i j hi' hj' hij
theorem Inv.kill {S : Nat → LS} {E : List En} (h : Inv S E) {k : Nat} {e : En} (he : E[k]? = some e) (now : Int) :
    klR 64 S e.x e.y = (if e.d = true then 7 else 0) ∧ Inv (klS 64 S e.x e.y now) (E.set k ⟨e.x, e.y, true⟩) := by
  have hmem : e ∈ E := List.mem_of_getElem? he
  obtain ⟨g1, g2, g3⟩ := h.each e hmem
  obtain ⟨n, hx, hn⟩ := okF_split g1
  have hk : okF 64 (n : Int) = true := okF_nat hn
  rw [hx] at g2 g3
  simp only [Int.toNat_natCast] at g2 g3
  cases hd : e.d
  · have hl := g2 hd
    obtain ⟨q1, q2⟩ := kl_yes (now := now) hk hl
    obtain ⟨l1, l2⟩ := inE_yes hl
    rw [hx, q1, q2]
    refine ⟨by simp, fun a ha => ?_, by rw [← hx]; exact pair_set h.once he true⟩
    rcases mem_set ha with rfl | ⟨j, hj, ha⟩
    · refine ⟨hk, fun c => by simp at c, fun _ => ?_⟩
      simp only [Int.toNat_natCast, upd_same]
      omega
    · obtain ⟨f1, f2, f3⟩ := h.each a (List.mem_of_getElem? ha)
      refine ⟨f1, ?_, ?_⟩
      · intro hd2
        by_cases q : a.x.toNat = n
        · exfalso
          have hax : a.x = e.x := by have := (okF_yes f1).1; omega
          have h2 := (inE_yes (f2 hd2)).2
          rw [q] at h2
          exact pair_of h.once ha he hj ⟨hax, by omega⟩
        · rw [upd_other _ _ q]; exact f2 hd2
      · intro hd2
        by_cases q : a.x.toNat = n
        · have := f3 hd2
          rw [q] at this
          rw [q, upd_same]
          simp only
          omega
        · rw [upd_other _ _ q]; exact f3 hd2
  · have hl := inE_no_of_lt (g3 hd)
    obtain ⟨q1, q2⟩ := kl_no (now := now) hk hl
    have hE : E.set k ⟨e.x, e.y, true⟩ = E := by
      have : (⟨e.x, e.y, true⟩ : En) = e := by cases e; simp at hd; simp [hd]
      rw [this]
      apply List.ext_getElem?
      intro i
      rw [List.getElem?_set]
      split
      · subst_vars
        split
        · exact he.symm
        · rename_i c; rw [List.getElem?_eq_none (by omega)]
      · rfl
    rw [hE, hx, q1, q2]
    exact ⟨by simp, h⟩

/-! ### Where they lie -/
structure L3 (B : Nat) (w : World) (v0 v1 v2 : Value) (X Y : List Int) (D : List Bool) : Prop where
  o0 : w.ownsRow B 3 1 v0 X.length (iv X)
  o1 : w.ownsRow B 3 1 v1 Y.length (iv Y)
  o2 : w.ownsRow B 4 1 v2 D.length (bv D)
  ap : ∀ b, v0.ownBlock = some b → v1.ownBlock ≠ some b
theorem own_ge {w : World} {base : Nat} {e : TypeId} {size : Nat} {v : Value} {n : Nat} {xs : List Value} (h : w.ownsRow base e size v n xs) : ∀ k, v.ownBlock = some k → base ≤ k := fun k hk => (h.lt k hk).1
theorem ownsRow_on {w w' : World} {base : Nat} {e : TypeId} {size : Nat} {v : Value} {n : Nat} {xs : List Value} (h : w.ownsRow base e size v n xs) (hk : ∀ k, base ≤ k → k < w.heap.size → w'.heap[k]? = w.heap[k]?) : w'.ownsRow base e size v n xs := by
  refine ⟨h.1, h.2.imp id ?_⟩
  rintro ⟨g, cap, cur, hv, hg, hh, r⟩
  exact ⟨g, cap, cur, hv, hg, by rw [hk g hg (Array.getElem?_eq_some_iff.1 hh).1]; exact hh, r⟩
theorem ownsRow_succ {w : World} {base : Nat} {e : TypeId} {size : Nat} {v : Value} {n : Nat} {xs : List Value} (h : w.ownsRow base e size v (n + 1) xs) : ∃ g cap, v = .slice (some ⟨g, 0, none⟩) (n + 1) cap := by
  rcases h.2 with ⟨_, e⟩ | ⟨g, cap, _, e, _⟩
  · cases e
  · exact ⟨g, cap, e⟩
theorem row_tag {w : World} {base : Nat} {e : TypeId} {size : Nat} {v : Value} {n : Nat} {xs : List Value} (h : w.ownsRow base e size v n xs) {b : Nat} (hb : v.ownBlock = some b) : ∃ cur, w.heap[b]? = some (.cells cur e (0, 0)) := by
  rcases h.2 with ⟨e1, _⟩ | ⟨g, cap, cur, e1, _, hh, _⟩
  · rw [e1] at hb; cases hb
  · rw [e1] at hb
    simp [Value.ownBlock] at hb
    subst hb
    exact ⟨cur, hh⟩
theorem tags {w : World} {base base' : Nat} {v v' : Value} {n n' : Nat} {xs xs' : List Value} (h : w.ownsRow base 3 1 v n xs) (h' : w.ownsRow base' 4 1 v' n' xs') {b : Nat} (hb : v.ownBlock = some b) : v'.ownBlock ≠ some b := by
  intro hb'
  obtain ⟨c1, h1⟩ := row_tag h hb
  obtain ⟨c2, h2⟩ := row_tag h' hb'
  have := h1.symm.trans h2
  simp at this
theorem none_or {w w' : World} {base : Nat} {e : TypeId} {size : Nat} {v : Value} {n : Nat} {xs : List Value} {row : Option Nat} (h : w.ownsRow base e size v n xs) (hg : w.grownBy w' row) (hne : ∀ b, v.ownBlock = some b → row ≠ some b) : w'.ownsRow base e size v n xs := by
  refine h.kept hg ?_
  cases hb : v.ownBlock with
  | none => exact .inl rfl
  | some b => exact .inr fun hc => hne b hb hc.symm
theorem L3.on {B : Nat} {w w' : World} {v0 v1 v2 : Value} {X Y : List Int} {D : List Bool} (h : L3 B w v0 v1 v2 X Y D) (hk : ∀ k, B ≤ k → k < w.heap.size → w'.heap[k]? = w.heap[k]?) : L3 B w' v0 v1 v2 X Y D :=
  ⟨ownsRow_on h.o0 hk, ownsRow_on h.o1 hk, ownsRow_on h.o2 hk, h.ap⟩
theorem L3.push0 {B : Nat} {w w1 : World} {v0 v1 v2 v' : Value} {X Y : List Int} {D : List Bool} {o : Obj} {x : Int} (h : L3 B w v0 v1 v2 X Y D)
    (hown : w1.ownsRow B 3 1 v' (X.length + 1) (iv X ++ [.int .i64 x])) (hg : (w.alloc o).grownBy w1 v0.ownBlock) (hat : v'.ownBlock = v0.ownBlock ∨ v'.ownBlock = some (w.alloc o).heap.size) : L3 B w1 v' v1 v2 (X ++ [x]) Y D := by
  refine ⟨?_, none_or (h.o1.alloc o) hg (fun b hb hc => h.ap b hc hb), none_or (h.o2.alloc o) hg (fun b hb hc => tags h.o0 h.o2 hc hb), ?_⟩
  · rw [iv_push, List.length_append]; exact hown
  · intro b hb hb1
    rcases hat with hat | hat
    · exact h.ap b (by rw [← hat]; exact hb) hb1
    · rw [hat] at hb
      have := (h.o1.lt b hb1).2
      simp at hb
      omega
theorem L3.push1 {B : Nat} {w w1 : World} {v0 v1 v2 v' : Value} {X Y : List Int} {D : List Bool} {o : Obj} {x : Int} (h : L3 B w v0 v1 v2 X Y D)
    (hown : w1.ownsRow B 3 1 v' (Y.length + 1) (iv Y ++ [.int .i64 x])) (hg : (w.alloc o).grownBy w1 v1.ownBlock) (hat : v'.ownBlock = v1.ownBlock ∨ v'.ownBlock = some (w.alloc o).heap.size) : L3 B w1 v0 v' v2 X (Y ++ [x]) D := by
  refine ⟨none_or (h.o0.alloc o) hg (fun b hb hc => h.ap b hb hc), ?_, none_or (h.o2.alloc o) hg (fun b hb hc => tags h.o1 h.o2 hc hb), ?_⟩
  · rw [iv_push, List.length_append]; exact hown
  · intro b hb hb1
    rcases hat with hat | hat
    · exact h.ap b hb (by rw [← hat]; exact hb1)
    · rw [hat] at hb1
      have := (h.o0.lt b hb).2
      simp at hb1
      omega
theorem L3.push2 {B : Nat} {w w1 : World} {v0 v1 v2 v' : Value} {X Y : List Int} {D : List Bool} {o : Obj} {x : Bool} (h : L3 B w v0 v1 v2 X Y D)
    (hown : w1.ownsRow B 4 1 v' (D.length + 1) (bv D ++ [.bool x])) (hg : (w.alloc o).grownBy w1 v2.ownBlock) : L3 B w1 v0 v1 v' X Y (D ++ [x]) := by
  refine ⟨none_or (h.o0.alloc o) hg (fun b hb hc => tags h.o0 h.o2 hb hc), none_or (h.o1.alloc o) hg (fun b hb hc => tags h.o1 h.o2 hb hc), ?_, h.ap⟩
  rw [bv_push, List.length_append]; exact hown
theorem L3.dead {B : Nat} {w : World} {v0 v1 : Value} {g n c : Nat} {X Y : List Int} {D : List Bool} (h : L3 B w v0 v1 (.slice (some ⟨g, 0, none⟩) n c) X Y D) (hD : D.length = n) (k : Nat) :
    L3 B (w.setCell ⟨g, k, none⟩ (.bool true)) v0 v1 (.slice (some ⟨g, 0, none⟩) n c) X Y (D.set k true) := by
  subst hD
  obtain ⟨h1, h2⟩ := h.o2.stored k (.bool true)
  refine ⟨none_or h.o0 h2 (fun b hb hc => tags h.o0 h.o2 hb (by rw [← hc]; rfl)), none_or h.o1 h2 (fun b hb hc => tags h.o1 h.o2 hb (by rw [← hc]; rfl)), ?_, h.ap⟩
  have e : (bv D).set k (.bool true) = bv (D.set k true) := by simp [bv, List.map_set]
  rw [← e, List.length_set]
  exact h1
/-- The table is left as it was by what is done from the lists' blocks on. -/
theorem Own.above {w wr w' : World} {S : Nat → LS} (h : Own w wr S) (k : Below (w.heap.size + 2) wr w') : Own w w' S :=
  ⟨h.tbl.on (k.block _ (by omega)) (k.block _ (by omega)), h.below.trans (k.mono (by omega))⟩

/-! ### Both together -/
structure Once (w wr : World) (S : Nat → LS) (n : Nat) (E : List En) (a0 : Option Addr) (c0 : Nat) (a1 : Option Addr) (c1 : Nat) (a2 : Option Addr) (c2 : Nat) : Prop where
  own : Own w wr S
  len : E.length = n
  ls : L3 (w.heap.size + 2) wr (.slice a0 n c0) (.slice a1 n c1) (.slice a2 n c2) (E.map En.x) (E.map En.y) (E.map En.d)
  inv : Inv S E
theorem Once.nil {w wr : World} {S : Nat → LS} (h : Own w wr S) : Once w wr S 0 [] none 0 none 0 none 0 :=
  ⟨h, rfl, ⟨World.ownsRow_nil .., World.ownsRow_nil .., World.ownsRow_nil .., fun b hb => by cases hb⟩, ⟨fun e he => absurd he (by simp), List.Pairwise.nil⟩⟩
theorem Once.more {w wr w' : World} {S : Nat → LS} {n : Nat} {E : List En} {a0 a1 a2 : Option Addr} {c0 c1 c2 : Nat} (h : Once w wr S n E a0 c0 a1 c1 a2 c2) (k : Below wr.heap.size wr w') : Once w w' S n E a0 c0 a1 c1 a2 c2 :=
  ⟨h.own.more k, h.len, h.ls.on fun b _ hb => k.block b hb, h.inv⟩
theorem Once.drew {w wr : World} {S : Nat → LS} {n : Nat} {E : List En} {a0 a1 a2 : Option Addr} {c0 c1 c2 : Nat} (h : Once w wr S n E a0 c0 a1 c1 a2 c2) : Once w wr.drew S n E a0 c0 a1 c1 a2 c2 :=
  ⟨h.own.drew, h.len, h.ls.on fun b _ hb => rfl, h.inv⟩
theorem Once.form {w wr : World} {S : Nat → LS} {n : Nat} {E : List En} {a0 a1 a2 : Option Addr} {c0 c1 c2 : Nat} (h : Once w wr S n E a0 c0 a1 c1 a2 c2) (hn : 0 < n) :
    ∃ g0 g1 g2, a0 = some ⟨g0, 0, none⟩ ∧ a1 = some ⟨g1, 0, none⟩ ∧ a2 = some ⟨g2, 0, none⟩ := by
  have hl := h.len
  obtain ⟨g0, q0, e0, _⟩ := h.ls.o0.form (by simp; omega)
  obtain ⟨g1, q1, e1, _⟩ := h.ls.o1.form (by simp; omega)
  obtain ⟨g2, q2, e2, _⟩ := h.ls.o2.form (by simp; omega)
  simp at e0 e1 e2
  exact ⟨g0, g1, g2, e0.1, e1.1, e2.1⟩
theorem L3.cells {B : Nat} {wr : World} {n : Nat} {E : List En} {g0 g1 g2 : Nat} {c0 c1 c2 : Nat} (h : L3 B wr (.slice (some ⟨g0, 0, none⟩) n c0) (.slice (some ⟨g1, 0, none⟩) n c1) (.slice (some ⟨g2, 0, none⟩) n c2) (E.map En.x) (E.map En.y) (E.map En.d)) (hl : E.length = n) {k : Nat} {e : En} (he : E[k]? = some e) :
    wr.cell? ⟨g0, k, none⟩ = some (.int .i64 e.x) ∧ wr.cell? ⟨g1, k, none⟩ = some (.int .i64 e.y) ∧ wr.cell? ⟨g2, k, none⟩ = some (.bool e.d) ∧ wr.frozen? ⟨g2, k, none⟩ = false := by
  have hk : k < n := by rw [← hl]; exact (List.getElem?_eq_some_iff.1 he).1
  subst hl
  have l0 : (E.map En.x).length = E.length := List.length_map _
  have l1 : (E.map En.y).length = E.length := List.length_map _
  have l2 : (E.map En.d).length = E.length := List.length_map _
  have o0 := h.o0; rw [l0] at o0
  have o1 := h.o1; rw [l1] at o1
  have o2 := h.o2; rw [l2] at o2
  refine ⟨?_, ?_, ?_, o2.frozenAt k⟩
  · rw [o0.cellAt k (by omega)]; simp [iv, he]
  · rw [o1.cellAt k (by omega)]; simp [iv, he]
  · rw [o2.cellAt k (by omega)]; simp [bv, he]
theorem Once.cells {w wr : World} {S : Nat → LS} {n : Nat} {E : List En} {g0 g1 g2 : Nat} {c0 c1 c2 : Nat} (h : Once w wr S n E (some ⟨g0, 0, none⟩) c0 (some ⟨g1, 0, none⟩) c1 (some ⟨g2, 0, none⟩) c2) {k : Nat} {e : En} (he : E[k]? = some e) :
    wr.cell? ⟨g0, k, none⟩ = some (.int .i64 e.x) ∧ wr.cell? ⟨g1, k, none⟩ = some (.int .i64 e.y) ∧ wr.cell? ⟨g2, k, none⟩ = some (.bool e.d) ∧ wr.frozen? ⟨g2, k, none⟩ = false := h.ls.cells h.len he
theorem Once.ent {w wr : World} {S : Nat → LS} {n : Nat} {E : List En} {a0 a1 a2 : Option Addr} {c0 c1 c2 : Nat} (h : Once w wr S n E a0 c0 a1 c1 a2 c2) {k : Nat} (hk : k < n) : ∃ e, E[k]? = some e := by
  have := h.len
  exact ⟨_, List.getElem?_eq_getElem (by omega)⟩
/-- A Kill, ahead of the note that it is dead. -/
theorem Once.killed {w wr w' : World} {S : Nat → LS} {n : Nat} {E : List En} {g0 g1 g2 : Nat} {c0 c1 c2 : Nat} (h : Once w wr S n E (some ⟨g0, 0, none⟩) c0 (some ⟨g1, 0, none⟩) c1 (some ⟨g2, 0, none⟩) c2) {k : Nat} {e : En} (he : E[k]? = some e) {now : Int} (hd : Did wr w' w.heap.size 64 (klS 64 S e.x e.y now)) :
    w'.cell? ⟨g2, k, none⟩ = some (.bool e.d) ∧ w'.frozen? ⟨g2, k, none⟩ = false ∧ Below w.heap.size w w' ∧ Once w (w'.setCell ⟨g2, k, none⟩ (.bool true)) (klS 64 S e.x e.y now) n (E.set k ⟨e.x, e.y, true⟩) (some ⟨g0, 0, none⟩) c0 (some ⟨g1, 0, none⟩) c1 (some ⟨g2, 0, none⟩) c2 := by
  have hL : L3 (w.heap.size + 2) w' (.slice (some ⟨g0, 0, none⟩) n c0) (.slice (some ⟨g1, 0, none⟩) n c1) (.slice (some ⟨g2, 0, none⟩) n c2) (E.map En.x) (E.map En.y) (E.map En.d) :=
    h.ls.on fun b hb hlt => hd.block hlt (by omega)
  obtain ⟨_, _, q2, q3⟩ := hL.cells h.len he
  have hg2 : w.heap.size + 2 ≤ g2 := (hL.o2.lt g2 rfl).1
  have hO := h.own.did hd (ok_kl h.own.tbl.ok 64 e.x e.y now)
  refine ⟨q2, q3, hO.below, hO.above ((Below.refl _ _).setCell (p := ⟨g2, k, none⟩) hg2 _), by rw [List.length_set]; exact h.len, ?_, (h.inv.kill he now).2⟩
  have hx : ∀ {α : Type} (f : En → α), f ⟨e.x, e.y, true⟩ = f e → (E.set k ⟨e.x, e.y, true⟩).map f = E.map f := by
    intro α f hf
    apply List.ext_getElem?
    intro i
    rw [List.map_set, hf, List.getElem?_set]
    split
    · subst_vars
      split
      · simp [he]
      · rename_i c; rw [List.getElem?_eq_none (by omega)]
    · rfl
  have hdd : (E.set k ⟨e.x, e.y, true⟩).map En.d = (E.map En.d).set k true := by rw [List.map_set]
  rw [hx En.x rfl, hx En.y rfl, hdd]
  exact hL.dead (by rw [List.length_map]; exact h.len) k
end Go.Proofs.Ytppbldhahddopaa
