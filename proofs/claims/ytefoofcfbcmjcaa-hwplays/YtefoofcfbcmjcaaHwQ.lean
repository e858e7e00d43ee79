/- Lines told by the pairs of a map: what put and delete make of them, how many lead to a frame. No program is named here. -/
import Derived.Test.YtefoofcfbcmjcaaHwM
namespace Go.Proofs.Ytefoofcfbcmjcaa.Phw
open Go.Proofs.Ytefoofcfbcmjcaa.Pbase
open Go.RowKit
set_option linter.unusedVariables false

/-- The pairs of L are the lines of S that lead somewhere. -/
structure Rl (L : List En) (S : Nat → Int) : Prop where
  nd : (L.map Prod.fst).Nodup
  iff : ∀ k v, (k, v) ∈ L ↔ (0 ≤ k ∧ k < 8) ∧ 0 ≤ v ∧ S k.toNat = v + 1
theorem rl_nil : Rl [] fun _ => 0 := ⟨by simp, fun k v => by
  constructor
  · intro h
    cases h
  · rintro ⟨_, h1, h2⟩
    exfalso
    have h2' : (0 : Int) = v + 1 := h2
    omega⟩
theorem has_iff (L : List En) (k : Int) : hasK L k = true ↔ ∃ v, (k, v) ∈ L := by
  unfold hasK
  rw [List.any_eq_true]
  constructor
  · rintro ⟨⟨a, v⟩, h, e⟩
    have : a = k := by simpa using e
    subst this
    exact ⟨v, h⟩
  · rintro ⟨v, h⟩
    exact ⟨(k, v), h, by simp⟩
theorem val_of : ∀ {L : List En} {k v : Int}, (L.map Prod.fst).Nodup → (k, v) ∈ L → vlK L k = v
  | [], _, _, _, h => by cases h
  | x :: r, k, v, hn, h => by
    simp only [List.map_cons, List.nodup_cons] at hn
    rcases List.mem_cons.1 h with e | h
    · subst e
      simp [vlK]
    · have hne : x.1 ≠ k := fun e => hn.1 (List.mem_map.2 ⟨(k, v), h, e.symm⟩)
      simp only [vlK, if_neg hne]
      exact val_of hn.2 h
theorem del_iff : ∀ {L : List En} (k : Int), (L.map Prod.fst).Nodup → (∀ a v, (a, v) ∈ delM L k ↔ (a, v) ∈ L ∧ a ≠ k) ∧ (delM L k).Sublist L
  | [], k, _ => ⟨fun a v => by simp [delM], by simp [delM]⟩
  | x :: r, k, hn => by
    simp only [List.map_cons, List.nodup_cons] at hn
    by_cases hx : x.1 = k
    · simp only [delM, if_pos hx]
      refine ⟨fun a v => ?_, List.sublist_cons_self _ _⟩
      constructor
      · intro h
        exact ⟨List.mem_cons_of_mem _ h, fun e => hn.1 (List.mem_map.2 ⟨(a, v), h, by rw [hx]; exact e⟩)⟩
      · rintro ⟨h, hne⟩
        rcases List.mem_cons.1 h with e | h
        · exfalso
          rw [← e] at hx
          exact hne hx
        · exact h
    · simp only [delM, if_neg hx]
      obtain ⟨h1, h2⟩ := del_iff (L := r) k hn.2
      refine ⟨fun a v => ?_, h2.cons_cons x⟩
      rw [List.mem_cons, List.mem_cons, h1]
      constructor
      · rintro (e | ⟨h, hne⟩)
        · exact ⟨.inl e, by rw [← e] at hx; exact hx⟩
        · exact ⟨.inr h, hne⟩
      · rintro ⟨e | h, hne⟩
        · exact .inl e
        · exact .inr ⟨h, hne⟩
section
variable {L : List En} {S : Nat → Int}
theorem Rl.has (h : Rl L S) (hS : Gd S) {k : Nat} (hk : k < 8) : hasK L k = decide (S k ≠ 0) := by
  have hg := hS k
  by_cases h0 : S k = 0
  · rw [show hasK L k = false from Bool.eq_false_iff.2 fun e => ?_]
    · simp [h0]
    · obtain ⟨v, hv⟩ := (has_iff L k).1 e
      obtain ⟨_, h1, h2⟩ := (h.iff k v).1 hv
      rw [Int.toNat_natCast] at h2
      omega
  · have : (((k : Nat) : Int), S k - 1) ∈ L := (h.iff k (S k - 1)).2 ⟨by omega, by omega, by rw [Int.toNat_natCast]; omega⟩
    rw [(has_iff L k).2 ⟨_, this⟩]
    simp [h0]
theorem Rl.val (h : Rl L S) (hS : Gd S) {k : Nat} (hk : k < 8) (h0 : S k ≠ 0) : vlK L k = S k - 1 := by
  have hg := hS k
  exact val_of h.nd ((h.iff k (S k - 1)).2 ⟨by omega, by omega, by rw [Int.toNat_natCast]; omega⟩)
theorem Rl.put (h : Rl L S) {k : Nat} (hk : k < 8) (h0 : S k = 0) {f : Int} (hf : 0 ≤ f) : Rl (putM L k f) (upL S k (f + 1)) := by
  have hno : hasK L k = false := Bool.eq_false_iff.2 fun e => by
    obtain ⟨v, hv⟩ := (has_iff L k).1 e
    obtain ⟨_, h1, h2⟩ := (h.iff k v).1 hv
    rw [Int.toNat_natCast] at h2
    omega
  rw [put_none k f L hno]
  refine ⟨?_, fun a v => ?_⟩
  · rw [List.map_append, List.nodup_append]
    refine ⟨h.nd, by simp, fun a ha c hc => ?_⟩
    simp only [List.map_cons, List.map_nil, List.mem_singleton] at hc
    rw [hc]
    rintro rfl
    obtain ⟨⟨a', v⟩, hm, e⟩ := List.mem_map.1 ha
    have e' : a' = (k : Int) := e
    rw [e'] at hm
    rw [(has_iff L k).2 ⟨v, hm⟩] at hno
    cases hno
  · rw [List.mem_append, h.iff, List.mem_singleton]
    constructor
    · rintro (⟨h1, h2, h3⟩ | e)
      · have hne : a.toNat ≠ k := fun e => by rw [e] at h3; omega
        exact ⟨h1, h2, by rw [up_out hne]; exact h3⟩
      · simp only [Prod.mk.injEq] at e
        obtain ⟨rfl, rfl⟩ := e
        exact ⟨by omega, hf, by rw [Int.toNat_natCast, up_own]⟩
    · rintro ⟨h1, h2, h3⟩
      by_cases e : a.toNat = k
      · right
        rw [e, up_own] at h3
        have e1 : a = (k : Int) := by omega
        have e2 : v = f := by omega
        rw [e1, e2]
      · left
        rw [up_out e] at h3
        exact ⟨h1, h2, h3⟩
theorem Rl.del (h : Rl L S) {k : Nat} : Rl (delM L k) (upL S k 0) := by
  obtain ⟨h1, h2⟩ := del_iff (L := L) k h.nd
  refine ⟨h.nd.sublist (h2.map _), fun a v => ?_⟩
  rw [h1, h.iff]
  constructor
  · rintro ⟨⟨q1, q2, q3⟩, hne⟩
    exact ⟨q1, q2, by rw [up_out (by omega)]; exact q3⟩
  · rintro ⟨q1, q2, q3⟩
    have hne : a.toNat ≠ k := fun e => by rw [e, up_own] at q3; omega
    rw [up_out hne] at q3
    exact ⟨⟨q1, q2, q3⟩, by omega⟩
end
/-! ### how many lead there -/
def cntL (L : List En) (f : Int) : Nat := (L.filter fun x => decide (x.2 = f)).length
theorem cnt_nil (f : Int) : cntL [] f = 0 := rfl
theorem cnt_yes (L : List En) {k f : Int} : cntL (L ++ [(k, f)]) f = cntL L f + 1 := by simp [cntL]
theorem cnt_no (L : List En) {k v f : Int} (h : v ≠ f) : cntL (L ++ [(k, v)]) f = cntL L f := by simp [cntL, h]
theorem cnt_perm {L D : List En} (h : L.Perm D) (f : Int) : cntL L f = cntL D f := (h.filter _).length_eq
def indK (L : List En) (f : Int) : Nat → Nat
  | 0 => 0
  | m + 1 => indK L f m + if ((m : Int), f) ∈ L then 1 else 0
theorem ind_nil (f : Int) (m : Nat) : indK [] f m = 0 := by
  induction m with
  | zero => rfl
  | succ m ih => unfold indK; rw [ih, if_neg (by simp)]
theorem ind_cons (x : En) (r : List En) (f : Int) (h0 : 0 ≤ x.1) (hn : ∀ v, (x.1, v) ∉ r) (m : Nat) : indK (x :: r) f m = indK r f m + if x.1.toNat < m ∧ x.2 = f then 1 else 0 := by
  induction m with
  | zero => simp [indK]
  | succ m ih =>
    unfold indK
    rw [ih]
    by_cases e : x.1 = (m : Int)
    · have e' : x.1.toNat = m := by omega
      have hr : ((m : Int), f) ∉ r := by rw [← e]; exact hn f
      rw [if_neg hr, if_neg (by omega)]
      by_cases hf : x.2 = f
      · have hx : x = ((m : Int), f) := Prod.ext e hf
        rw [if_pos (by rw [hx]; exact List.mem_cons_self), if_pos ⟨by omega, hf⟩]
      · rw [if_neg (fun h => by
          rcases List.mem_cons.1 h with h | h
          · exact hf (by rw [← h])
          · exact hr h), if_neg (fun h => hf h.2)]
    · have hx : (((m : Int), f) ∈ x :: r) ↔ (((m : Int), f) ∈ r) := by
        rw [List.mem_cons]
        constructor
        · rintro (h | h)
          · exact absurd (by rw [← h]) e
          · exact h
        · exact .inr
      have hlt : (x.1.toNat < m + 1 ∧ x.2 = f) ↔ (x.1.toNat < m ∧ x.2 = f) := by omega
      simp only [hx, hlt]
      omega
theorem cnt_ind (f : Int) : ∀ (L : List En), (L.map Prod.fst).Nodup → (∀ k v, (k, v) ∈ L → 0 ≤ k ∧ k < 8) → cntL L f = indK L f 8
  | [], _, _ => by rw [ind_nil]; rfl
  | x :: r, hn, hb => by
    simp only [List.map_cons, List.nodup_cons] at hn
    have hx := hb x.1 x.2 List.mem_cons_self
    rw [ind_cons x r f hx.1 (fun v h => hn.1 (List.mem_map.2 ⟨(x.1, v), h, rfl⟩)), ← cnt_ind f r hn.2 fun k v h => hb k v (List.mem_cons_of_mem _ h)]
    have hlt : x.1.toNat < 8 := by omega
    unfold cntL
    by_cases hf : x.2 = f
    · rw [if_pos ⟨hlt, hf⟩]
      simp [hf]
    · rw [if_neg (fun h => hf h.2)]
      simp [hf]
theorem Rl.cnt {L : List En} {S : Nat → Int} (h : Rl L S) (hS : Gd S) (f : Int) : cntL L f = hsK S f 8 := by
  rw [cnt_ind f L h.nd fun k v hm => ((h.iff k v).1 hm).1]
  have key : ∀ m, m ≤ 8 → indK L f m = hsK S f m := fun m => by
    induction m with
    | zero => intro _; rfl
    | succ m ih =>
      intro hm
      have hg := hS m
      unfold indK hsK
      rw [ih (by omega)]
      have e : (((m : Nat) : Int), f) ∈ L ↔ okG f = true ∧ S m = f + 1 := by
        rw [h.iff, okG_iff, Int.toNat_natCast]
        omega
      simp only [e]
  exact key 8 (Nat.le_refl _)
end Go.Proofs.Ytefoofcfbcmjcaa.Phw
