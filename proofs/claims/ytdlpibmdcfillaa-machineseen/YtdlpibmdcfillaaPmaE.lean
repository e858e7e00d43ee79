/- MachineSeen in plain words: a frame that was untyped, and who has seen it. -/
import Derived.Test.YtdlpibmdcfillaaBunPmach
import Derived.Test.YtdlpibmdcfillaaBunPquiet
namespace Go.Proofs.Ytdlpibmdcfillaa.Ppmach
open Go.Proofs.Ytdlpibmdcfillaa.Pbase Go.Proofs.Ytdlpibmdcfillaa.Pchold Go.Proofs.Ytdlpibmdcfillaa.Pmst Go.Proofs.Ytdlpibmdcfillaa.Ptint
open Go.RowKit
set_option linter.unusedVariables false
set_option linter.unusedSimpArgs false

def kdI (user : Bool) : Int := if user = true then 1 else 2
def wasI (user pages : Bool) : Int := if user = true then 1 else if pages = true then 3 else 2
def allB (E : Nat → Bool) : Nat → Bool
  | 0 => true
  | k + 1 => allB E k && E k
theorem allB_iff (E : Nat → Bool) : ∀ n, allB E n = true ↔ ∀ i, i < n → E i = true
  | 0 => by simp [allB]
  | n + 1 => by
    simp only [allB, Bool.and_eq_true, allB_iff E n]
    constructor
    · rintro ⟨h1, h2⟩ i hi
      by_cases e : i = n
      · rw [e]; exact h2
      · exact h1 i (by omega)
    · exact fun h => ⟨fun i hi => h i (by omega), h n (by omega)⟩
def needB (user pages A B : Bool) : Bool := (user && B) || (!user && A && (B || !pages))
structure Sn (s : St) (n : Nat) (user pages : Bool) (v : Int) (E F : Nat → Bool) : Prop where
  hN : s.N = 1
  hn : s.n = n
  t : s.T 0 = ⟨0, wasI user pages, 0, 1⟩
  m : s.M 0 7 = v
  now : s.C.now = 2
  en : ∀ i, i < n → s.C.en i = if E i = true then 2 else -1
  fl : ∀ i, i < n → s.C.fl i = if F i = true then 2 else -1
section
variable {s : St} {n : Nat} {user pages : Bool} {v : Int} {E F : Nat → Bool}
theorem sn_seen (h : Sn s n user pages v E F) (hn : 1 ≤ n) : rtB s 0 = needB user pages (allB E n) (allB F n) := by
  have hen : ∀ i, i < n → (decide ((1 : Int) < Pclock.enS n s.C i) = E i) := fun i hi => by
    rw [Pquiet.enS_at hi, h.en i hi]
    cases E i <;> simp
  have hfl : ∀ i, i < n → (decide ((1 : Int) < Pclock.flS n s.C i) = F i) := fun i hi => by
    rw [Pquiet.flS_at hi, h.fl i hi]
    cases F i <;> simp
  have ht : Ptyp.toldA s.N s.T 0 = ⟨0, wasI user pages, 0, 1⟩ := by
    unfold Ptyp.toldA Ptyp.okF
    rw [h.hN]
    simp [h.t]
  unfold rtB
  rw [ht, h.hn, Bool.eq_iff_iff, Pquiet.quF_iff]
  show (∀ i, i < n → Pquiet.seenC n s.C (wasI user pages) 1 (i : Nat) = true) ↔ _
  have hs : ∀ i, i < n → Pquiet.seenC n s.C (wasI user pages) 1 (i : Nat) = (if user = true then F i else if pages = true then (F i && E i) else E i) := fun i hi => by
    unfold Pquiet.seenC wasI
    rw [hen i hi, hfl i hi]
    cases user <;> cases pages <;> simp
  have hx : (∀ i, i < n → Pquiet.seenC n s.C (wasI user pages) 1 (i : Nat) = true) ↔ ∀ i, i < n → (if user = true then F i else if pages = true then (F i && E i) else E i) = true := by
    constructor
    · exact fun g i hi => by rw [← hs i hi]; exact g i hi
    · exact fun g i hi => by rw [hs i hi]; exact g i hi
  rw [hx]
  unfold needB
  have hA := allB_iff E n
  have hB := allB_iff F n
  cases user <;> cases pages
  · simp only [Bool.false_and, Bool.false_or, Bool.not_false, Bool.true_and, Bool.or_true, Bool.and_true, hA]
    simp
  · simp only [Bool.false_and, Bool.false_or, Bool.not_false, Bool.true_and, Bool.not_true, Bool.or_false, Bool.and_eq_true, hA, hB]
    simp only [Bool.false_eq_true, if_false, if_true, Bool.and_eq_true]
    exact ⟨fun g => ⟨fun i hi => (g i hi).2, fun i hi => (g i hi).1⟩, fun g i hi => ⟨g.2 i hi, g.1 i hi⟩⟩
  · simp only [Bool.true_and, Bool.not_true, Bool.false_and, Bool.or_false, hB]
    simp
  · simp only [Bool.true_and, Bool.not_true, Bool.false_and, Bool.or_false, hB]
    simp
theorem sn_retype (h : Sn s n user pages v E F) (hn : 1 ≤ n) : rtE s 0 (kdI user) = (if needB user pages (allB E n) (allB F n) = true then 0 else 6) ∧ Pmem.ldM s.N (rtM s 0 (kdI user)) 0 7 = (if needB user pages (allB E n) (allB F n) = true then 0 else v) := by
  have hb := sn_seen h hn
  have hk : kdI user = 1 ∨ kdI user = 2 := by unfold kdI; cases user <;> simp
  have hx : rtX s 0 (kdI user) = if needB user pages (allB E n) (allB F n) = true then 0 else 6 := by
    unfold rtX Ptyp.errA Ptyp.okF Ptyp.hRt
    rw [hb, h.hN, if_pos hk]
    simp [h.t]
  unfold rtE rtM Pmem.ldM
  rw [hx, h.hN]
  cases needB user pages (allB E n) (allB F n)
  · simp [Pmem.okW, Pmem.okF, h.m]
  · simp [Pmem.okW, Pmem.okF, Pmem.errF, Pmem.clM]
theorem sn_enter (h : Sn s n user pages v E F) {k : Nat} (hk : k < n) : Sn { s with C := Pclock.enterS s.n s.C k } n user pages v (fun i => if i = k then true else E i) F := by
  have e : Pclock.enterS s.n s.C k = ⟨s.C.now, s.C.cy, fun i => if i = k then s.C.now else s.C.en i, s.C.fl⟩ := by
    unfold Pclock.enterS
    rw [h.hn, Pclock.okF_nat hk, if_pos rfl, Int.toNat_natCast]
  refine ⟨h.hN, h.hn, h.t, h.m, ?_, fun i hi => ?_, fun i hi => ?_⟩
  · rw [e]; exact h.now
  · rw [e]
    show (if i = k then s.C.now else s.C.en i) = _
    by_cases ei : i = k
    · simp [ei, h.now]
    · simp [ei, h.en i hi]
  · rw [e]; exact h.fl i hi
theorem sn_flush (h : Sn s n user pages v E F) {k : Nat} (hk : k < n) : Sn { s with C := vfC s k, K := vfK s k } n user pages v E (fun i => if i = k then true else F i) := by
  have e : vfC s k = ⟨s.C.now, s.C.cy, s.C.en, fun i => if i = k then s.C.now else s.C.fl i⟩ := by
    unfold vfC Pclock.flushS
    rw [h.hn, Pclock.okF_nat hk, if_pos rfl, Int.toNat_natCast]
  refine ⟨h.hN, h.hn, h.t, h.m, ?_, fun i hi => ?_, fun i hi => ?_⟩
  · show (vfC s k).now = 2
    rw [e]; exact h.now
  · show (vfC s k).en i = _
    rw [e]; exact h.en i hi
  · show (vfC s k).fl i = _
    rw [e]
    show (if i = k then s.C.now else s.C.fl i) = _
    by_cases ei : i = k
    · simp [ei, h.now]
    · simp [ei, h.fl i hi]
end
/-! ### The beginning -/
def seA (n : Nat) : St := { nwS 1 n 0 with C := Pclock.stepS n (Pclock.newS n) 0 }
def seB (n : Nat) (user : Bool) : St := { seA n with T := rtT (seA n) 0 (kdI user), M := rtM (seA n) 0 (kdI user) }
def seC (n : Nat) (user : Bool) (v : Int) : St := { seB n user with M := Pmem.stW 1 (seB n user).M 0 7 v }
def seD (n : Nat) (user pages : Bool) (v : Int) : St := { seC n user v with T := Ptyp.mapA 1 (seC n user v).T 0 (Ptyp.gUt 1 pages) }
def seE (n : Nat) (user pages : Bool) (v : Int) : St := { seD n user pages v with C := Pclock.stepS n (seD n user pages v).C 0 }
section
variable {n : Nat} (user pages : Bool) (v : Int)
theorem step0 (hn : 1 ≤ n) (C : Pclock.CS) (h : C.now < 1073741824) : Pclock.stepS n C 0 = ⟨C.now + 1, fun i => if i = 0 then C.cy i + 1 else C.cy i, C.en, C.fl⟩ := by
  have h0 : Pclock.okF n 0 = true := by unfold Pclock.okF; simp; omega
  unfold Pclock.stepS
  rw [if_pos h0, if_pos h]
  rfl
theorem seA_is (hn : 1 ≤ n) : (seA n).C = ⟨1, fun i => if i = 0 then 0 + 1 else 0, fun i => if i < n then -1 else 0, fun i => if i < n then -1 else 0⟩ := by
  show Pclock.stepS n (Pclock.newS n) 0 = _
  rw [step0 hn _ (by show (0 : Int) < _; omega)]
  rfl
theorem se_err (hn : 1 ≤ n) : Pclock.errS n (Pclock.newS n) 0 = 0 ∧ rtE (seA n) 0 (kdI user) = 0 ∧ Ptyp.errA 1 (seC n user v).T 0 Ptyp.hUt = 0 ∧ (seC n user v).C.now = 1 ∧ Pclock.errS n (seD n user pages v).C 0 = 0 := by
  have h0 : Pclock.okF n 0 = true := by unfold Pclock.okF; simp; omega
  have hA := seA_is hn
  have hq : rtB (seA n) 0 = true := Pquiet.quF_zero _ _ _
  refine ⟨?_, ?_, ?_, ?_, ?_⟩
  · unfold Pclock.errS; rw [if_pos h0]; rfl
  · unfold rtE rtX
    rw [hq]
    cases user <;> rfl
  · have e : (seC n user v).T = rtT (seA n) 0 (kdI user) := rfl
    rw [e]
    unfold rtT
    rw [hq]
    cases user <;> rfl
  · show (seA n).C.now = 1
    rw [hA]
  · have e : (seD n user pages v).C = (seA n).C := rfl
    rw [e, hA]
    unfold Pclock.errS; rw [if_pos h0]; rfl
theorem se_start (hn : 1 ≤ n) : Sn (seE n user pages v) n user pages v (fun _ => false) (fun _ => false) := by
  have hA := seA_is hn
  have hq : rtB (seA n) 0 = true := Pquiet.quF_zero _ _ _
  have hC : (seE n user pages v).C = ⟨2, fun i => if i = 0 then (if i = 0 then 0 + 1 else 0) + 1 else (if i = 0 then 0 + 1 else 0), fun i => if i < n then -1 else 0, fun i => if i < n then -1 else 0⟩ := by
    show Pclock.stepS n (seA n).C 0 = _
    rw [hA, step0 hn _ (by show (1 : Int) < _; omega)]
    rfl
  refine ⟨rfl, rfl, ?_, ?_, by rw [hC], fun i hi => by rw [hC]; simp [hi], fun i hi => by rw [hC]; simp [hi]⟩
  · show Ptyp.mapA 1 (rtT (seA n) 0 (kdI user)) 0 (Ptyp.gUt 1 pages) 0 = _
    unfold rtT
    rw [hq]
    cases user <;> cases pages <;> rfl
  · show Pmem.stW 1 (seB n user).M 0 7 v 0 7 = v
    simp [Pmem.stW, Pmem.okW, Pmem.okF]
end
end Go.Proofs.Ytdlpibmdcfillaa.Ppmach
