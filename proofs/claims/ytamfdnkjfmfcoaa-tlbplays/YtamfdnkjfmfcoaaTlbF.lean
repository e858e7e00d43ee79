/- What Keys of package tlb answers: the keys, the oldest first, in a slice of its own. -/
import Derived.Test.YtamfdnkjfmfcoaaTlbE
import Derived.Maps.AppendAt
namespace Go.Proofs.Ytamfdnkjfmfcoaa
open Go.Shelf Go.RowKit Go.Lib Go.Sort Go.ChangeMaps
set_option linter.unusedVariables false

/-! ### append where there is room -/
theorem run_append_roomy {P : Program} (w : World) (base : Nat) (t ty e : TypeId) (i : TypeInfo) (size : Nat) (ht : P.underlying t = some (.slice e)) (hi : P.info? e = some i) (hsize : i.size = size)
    (g n cap : Nat) (xs : List Value) (hown : w.ownsRow base e size (.slice (some ⟨g, 0, none⟩) n cap) n xs) (a : Addr) (m c : Nat) (news : List Value) (hl : news.length = m * size) (hnews : ∀ j u, news[j]? = some u → w.cell? (a.add j) = some u) (h1 : ∀ u ∈ news, u.oneCell' = true) (hroom : n + m ≤ cap) :
    ∃ w', (Builtin.append_ #[t, t] ty #[.slice (some ⟨g, 0, none⟩) n cap, .slice (some a) m c]).run P w = .ok (.slice (some ⟨g, 0, none⟩) (n + m) cap) w' ∧ w'.ownsRow base e size (.slice (some ⟨g, 0, none⟩) (n + m) cap) (n + m) (xs ++ news) ∧ w.grownBy w' (some g) := by
  subst hsize
  have hlen : (xs ++ news).length = (n + m) * i.size := by rw [List.length_append, hown.1, hl, Nat.add_mul]
  rcases hown.2 with ⟨e0, _⟩ | ⟨g', cap', cur, e0, hbg, hg, hnc, hcm, hcs, htake⟩
  · cases e0
  · cases e0
    have hfit : n * i.size + news.length ≤ cur.size := by rw [hl, hcs, ← Nat.add_mul]; exact Nat.mul_le_mul_right _ hroom
    have hr := run_append_room (P := P) w t ty e i ht hi g n cap cur hg a m c news hl hnews h1 hroom hfit
    refine ⟨_, hr, ⟨hlen, .inr ⟨g, cap, _, rfl, hbg, setRow_heap w g cur _ e _ hg, hroom, hcm, ?_, ?_⟩⟩, ⟨rfl, rfl, rfl, by simp, fun k _ hk => setRow_other w g k _ (fun e => hk (by rw [e]))⟩⟩
    · simp only [List.size_toArray, List.length_append, List.length_take, List.length_drop, Array.length_toList]
      omega
    · rw [htake, ← hlen]
      exact List.take_left
theorem wpList_append_roomy {P : Program} (w : World) {ops : Array Oper} {rest : List Oper} {o : Oper} {a : Act} {Q : Exit → Act → World → Prop} (hgd : o.guard = none) (s x : Operand) (t : TypeId)
    (ho : o.op = .call { callee := .builtin .append, args := #[s, x], argTypes := #[t, t] })
    (base : Nat) (e : TypeId) (i : TypeInfo) (size : Nat) (ht : P.underlying t = some (.slice e)) (hi : P.info? e = some i) (hsize : i.size = size)
    (g n cap : Nat) (xs : List Value) (hs : a.eval s = .slice (some ⟨g, 0, none⟩) n cap) (hown : w.ownsRow base e size (.slice (some ⟨g, 0, none⟩) n cap) n xs)
    (ad : Addr) (m c : Nat) (news : List Value) (hx : a.eval x = .slice (some ad) m c) (hl : news.length = m * size) (hnews : ∀ j u, news[j]? = some u → w.cell? (ad.add j) = some u) (h1 : ∀ u ∈ news, u.oneCell' = true) (hroom : n + m ≤ cap)
    (h : ∀ w', w'.ownsRow base e size (.slice (some ⟨g, 0, none⟩) (n + m) cap) (n + m) (xs ++ news) → w.grownBy w' (some g) → wpList P ops Q rest (a.put o.dst (.slice (some ⟨g, 0, none⟩) (n + m) cap)) w') :
    wpList P ops Q (o :: rest) a w := by
  refine wpList_plain hgd fun K hK => ?_
  obtain ⟨w', hr, h2, h3⟩ := run_append_roomy (P := P) w base t o.type e i size ht hi hsize g n cap xs hown ad m c news hl hnews h1 hroom
  unfold Oper.wp execOp
  simp only [ho, resolve, invoke, builtin, Sem.run_bind, Sem.run_pure, Result.andThen_ok, List.map_toArray, List.map_cons, List.map_nil, hs, hx, hr]
  exact hK _ _ (h w' h2 h3)
/-- The cells of the keys of D. -/
def keyCells (D : List En) : List Value := D.flatMap fun x => encK x.1
theorem keyCells_snoc (D : List En) (x : En) : keyCells (D ++ [x]) = keyCells D ++ [.int .i64 x.1.1, .int .i64 x.1.2] := by simp [keyCells, encK]
theorem keyCells_len (D : List En) : (keyCells D).length = D.length * 2 := by
  induction D with
  | nil => rfl
  | cons x D ih =>
    have : keyCells (x :: D) = encK x.1 ++ keyCells D := rfl
    rw [this, List.length_append, ih]
    simp [encK]; omega
theorem keyCells_get : ∀ (D : List En) (j : Nat) (x : En), D[j]? = some x → (keyCells D)[j * 2]? = some (.int .i64 x.1.1) ∧ (keyCells D)[j * 2 + 1]? = some (.int .i64 x.1.2)
  | [], j, x, h => by simp at h
  | y :: D, 0, x, h => by
    simp at h
    subst h
    exact ⟨rfl, rfl⟩
  | y :: D, j + 1, x, h => by
    have := keyCells_get D j x (by simpa using h)
    have e1 : (j + 1) * 2 = j * 2 + 1 + 1 := by omega
    have e2 : keyCells (y :: D) = .int .i64 y.1.1 :: .int .i64 y.1.2 :: keyCells D := rfl
    rw [e1, e2]
    simpa using this
/-- A row that owns the keys' cells holds the keys, as the sort asks it. -/
theorem holds_of_own {w : World} {base g n cap : Nat} {D : List En} (h : w.ownsRow base 36 2 (.slice (some ⟨g, 0, none⟩) n cap) D.length (keyCells D)) : HoldsK encK 2 w g 0 (D.map (·.1)).toArray := by
  rcases h.2 with ⟨e0, _⟩ | ⟨g', cap', cur, e0, hbg, hg, hnc, hcm, hcs, htake⟩
  · cases e0
  · cases e0
    intro j hj
    simp only [size_flatK, List.size_toArray, List.length_map] at hj
    rw [get_flatK _ _ _ _ (by simpa using hj), Nat.zero_add]
    have hx : j / 2 < D.length := by omega
    have hd : ((D.map (·.1)).toArray)[j / 2]! = (D[j / 2]).1 := by
      rw [getElem!_pos _ _ (by simpa using hx)]; simp
    refine ⟨?_, frozen_of_row w g j _ _ hg⟩
    rw [cell_of_row w g j _ _ _ hg]
    have hk := keyCells_get D (j / 2) D[j / 2] (List.getElem?_eq_getElem hx)
    have hcur : ∀ i, i < D.length * 2 → cur[i]? = (keyCells D)[i]? := fun i hi => by
      rw [← htake, List.getElem?_take, if_pos (by simpa using hi), Array.getElem?_toList]
    rw [hcur j hj, hd]
    rcases Nat.mod_two_eq_zero_or_one j with hm | hm
    · have : j = j / 2 * 2 := by omega
      rw [hm]
      conv => lhs; rw [this]
      rw [hk.1]; rfl
    · have : j = j / 2 * 2 + 1 := by omega
      rw [hm]
      conv => lhs; rw [this]
      rw [hk.2]; rfl
theorem infoKey : (Try.prog.info? 36).map (fun i => (i.zero, i.size, i.bytes)) = some (some (.agg #[.int .i64 0, .int .i64 0]), 2, 16) := by kernel_rfl
theorem cell_two_new (w : World) (x y : Value) (t : TypeId) : ∀ j u, [x, y][j]? = some u → (w.alloc (.cells #[x, y] t)).cell? ((⟨w.heap.size, 0, none⟩ : Addr).add j) = some u := by
  intro j u hj
  match j, hj with
  | 0, hj => simp at hj; subst hj; simp [Addr.add]
  | 1, hj => simp at hj; subst hj; simp [Addr.add]
  | j + 2, hj => simp at hj
end Go.Proofs.Ytamfdnkjfmfcoaa
