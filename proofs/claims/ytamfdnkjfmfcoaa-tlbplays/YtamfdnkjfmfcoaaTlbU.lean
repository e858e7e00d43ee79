/- What Put of the document's answer does. -/
import Derived.Test.YtamfdnkjfmfcoaaTlbT
import Derived.Deep.RegionLaw
namespace Go.Proofs.Ytamfdnkjfmfcoaa
open Go.RowKit Go.ChangeMaps
set_option linter.unusedVariables false

theorem run_append_none {P : Program} (w : World) (t ty e : TypeId) (i : TypeInfo) (ht : P.underlying t = some (.slice e)) (hi : P.info? e = some i) (g n cap c : Nat) (hn : n ≤ cap) :
    (Builtin.append_ #[t, t] ty #[.slice (some ⟨g, 0, none⟩) n cap, .slice none 0 c]).run P w = .ok (.slice (some ⟨g, 0, none⟩) n cap) w := by
  simp [Builtin.append_, run_underlying ht, sizeOf, typeInfo, hi, Builtin.lenOf, Builtin.firstCells, loadCells, hn, storeCells]
theorem step_append_list {P : Program} {ops : Array Oper} {o : Oper} {a : Act} {w : World} {K : Act → World → Prop} {Q : Exit → Act → World → Prop} {E : Prop}
    (hg : o.guard = none) (s x : Operand) (t : TypeId) (hop : o.op = Op.call { callee := Callee.builtin Builtin.append, args := #[s, x], argTypes := #[t, t] })
    (base : Nat) (e : TypeId) (i : TypeInfo) (z : Value) (size bytes : Nat) (h1 : P.underlying t = some (.slice e)) (h2 : P.info? e = some i) (h3 : i.zero = some z) (h4 : i.size = size) (h5 : i.bytes = bytes) (h6 : z.cells.size = size) (h7 : 0 < size)
    (g n cap : Nat) (xs : List Value) (hs : a.eval s = .slice (some ⟨g, 0, none⟩) n cap) (hown : w.ownsRow base e size (.slice (some ⟨g, 0, none⟩) n cap) n xs)
    (ao : Option Addr) (m c : Nat) (news : List Value) (hx : a.eval x = .slice ao m c) (hn : news.length = m * size) (hc : ∀ b, ao = some b → ∀ j u, news[j]? = some u → w.cell? (b.add j) = some u) (hnone : ao = none → m = 0) (h1c : ∀ u ∈ news, u.oneCell' = true)
    (b1 : n + m ≤ maxLen) (b2 : (n + m) * bytes ≤ 140737488355328) (hbase : base ≤ w.heap.size)
    (hK : ∀ g' cap' w', w'.ownsRow base e size (.slice (some ⟨g', 0, none⟩) (n + m) cap') (n + m) (xs ++ news) → w.grownBy w' (some g) → K (a.put o.dst (.slice (some ⟨g', 0, none⟩) (n + m) cap')) w') :
    if Region.wanted o (yielded ops a.tmps) = true then Oper.wp P o a w K Q else E := by
  have hw : Region.wanted o (yielded ops a.tmps) = true := by simp [Region.wanted, hg]
  rw [if_pos hw]
  cases ao with
  | some b =>
    obtain ⟨v', w', hrun, r1, r2, r3⟩ := run_append_own (P := P) w base t o.type e i z size bytes h1 h2 h3 h4 h5 h6 h7 _ n xs hown b m c news hn (hc b rfl) h1c b1 b2 hbase
    have hv : ∃ g' cap', v' = .slice (some ⟨g', 0, none⟩) (n + m) cap' := by
      rcases r1.2 with ⟨e0, _⟩ | ⟨g', cap', cur, e0, _⟩
      · exact absurd (r3.1 e0).1 (by simp)
      · exact ⟨g', cap', e0⟩
    obtain ⟨g', cap', rfl⟩ := hv
    unfold Oper.wp
    simp [execOp, hop, resolve, invoke, builtin, hs, hx, hrun, Result.andThen]
    exact hK g' cap' w' r1 r2
  | none =>
    obtain rfl := hnone rfl
    obtain rfl : news = [] := List.eq_nil_of_length_eq_zero (by simpa using hn)
    have hcap : n ≤ cap := by
      rcases hown.2 with ⟨e0, _⟩ | ⟨g', cap', cur, e0, _, _, hle, _⟩
      · cases e0
      · cases e0
        exact hle
    have hrun := run_append_none (P := P) w t o.type e i h1 h2 g n cap c hcap
    have hk := hK g cap w (by simpa using hown) ⟨rfl, rfl, rfl, Nat.le_refl _, fun _ _ _ => rfl⟩
    unfold Oper.wp
    simp [execOp, hop, resolve, invoke, builtin, hs, hx, hrun, Result.andThen]
    simp only [Nat.add_zero] at hk
    exact hk

theorem other_set {w : World} {g : Nat} {c : Array Value} {t : TypeId} {f : Nat × Nat} (hr : w.heap[g]? = some (.cells c t f)) (ht : t = 43 ∨ t = 47) {w' : World} (h1 : w'.os = w.os) (h2 : w'.tape = w.tape) (h3 : w'.output = w.output) (h4 : w'.heap.size = w.heap.size) (h5 : ∀ i, i ≠ g → w'.heap[i]? = w.heap[i]?) : Other w w' :=
  ⟨h1, h2, h3, Nat.le_of_eq h4.symm, fun i hi a b => h5 i (fun e => by
    subst e
    rcases ht with rfl | rfl
    · exact a _ _ hr
    · exact b _ _ hr)⟩
theorem Other.trans {a b c : World} (h : Other a b) (k : Other b c) : Other a c :=
  ⟨k.os.trans h.os, k.tape.trans h.tape, k.output.trans h.output, Nat.le_trans h.size k.size, fun i hi x y => by
    have e := h.block i hi x y
    exact (k.block i (Nat.lt_of_lt_of_le hi h.size) (fun c f => by rw [e]; exact x c f) (fun c f => by rw [e]; exact y c f)).trans e⟩
end Go.Proofs.Ytamfdnkjfmfcoaa
