/- build's Tbl, Pgt, Tcap and Rcv in a machine, where nothing is refused (written by mk_gg.py). -/
import Derived.Test.YtcgekcjnaadcmaaGreatDoorGonA
namespace Go.Proofs.YtcgekcjnaadcmaaGreatDoor.Pbuild
open Go.Proofs.YtcgekcjnaadcmaaGreatDoor.Pbase Go.Proofs.YtcgekcjnaadcmaaGreatDoor.Pchold Go.Proofs.YtcgekcjnaadcmaaGreatDoor.Pfind Go.Proofs.YtcgekcjnaadcmaaGreatDoor.Play Go.Proofs.YtcgekcjnaadcmaaGreatDoor.Pmem Go.Proofs.YtcgekcjnaadcmaaGreatDoor.Pmst Go.Proofs.YtcgekcjnaadcmaaGreatDoor.Ppmach Go.Proofs.YtcgekcjnaadcmaaGreatDoor.Ptint
open Go.RowKit Go.Shelf
set_option linter.unusedVariables false
set_option linter.unusedSimpArgs false

theorem cell_new {w : World} {v : Value} {cs : Array Value} {t : TypeId} (j : Nat) (h : cs[j]? = some v) : (w.alloc (.cells cs t)).cell? ⟨w.heap.size, j, none⟩ = some v := (cell_of_row _ _ j _ _ _ (heap_alloc_new w _)).trans h
theorem zeros3 (j : Nat) (h : j < 3) : (#[Value.int .i64 0, .int .i64 0, .int .i64 0])[j]? = some (.int .i64 0) := by
  rcases (show j = 0 ∨ j = 1 ∨ j = 2 by omega) with rfl | rfl | rfl <;> rfl
theorem zeros4 (j : Nat) (h : j < 4) : (#[Value.int .i64 0, .int .i64 0, .int .i64 0, .int .i64 0])[j]? = some (.int .i64 0) := by
  rcases (show j = 0 ∨ j = 1 ∨ j = 2 ∨ j = 3 by omega) with rfl | rfl | rfl | rfl <;> rfl
theorem zeros2 (j : Nat) (h : j < 2) : (#[Value.int .i64 0, .int .i64 0])[j]? = some (.int .i64 0) := by
  rcases (show j = 0 ∨ j = 1 by omega) with rfl | rfl <;> rfl
section
variable {w0 w : World} {p : Nat} {o : Nat → Nat} {P : Pq} {s : St}
set_option maxRecDepth 100000 in
theorem btbl_ok (f l : Int) (h : Fx w0 w p o P s) (hf : frshE s f = 0) : Calls Tryz.prog 6 #[.pointer (some ⟨p, 0, none⟩), .int .i64 f, .int .i64 l] w fun e w' => e = .returned (.int .i64 (Phead.errP s.N f 1 l false 0)) ∧ Lv w0 w w' p o P { s with M := Phead.mkM s.N s.M f 1 l false 0 } := by
  have HF := ghide (fresh_any f h)
  rw [hf] at HF
  have H0 := ghide (lv_refl h)
  have HM : Hid (∀ wx, Lv w0 w wx p o P s → Calls Tryz.prog 15 #[.pointer (some ⟨p, 0, none⟩)] wx fun e w' => e = .returned (.pointer (some ⟨P.pm, 0, none⟩)) ∧ Lv w0 w w' p o P s) := fun wx hx => (gx_mem hx.fx).mono (by rintro e w' ⟨h1, h2⟩; exact ⟨h1, hx.then h2⟩)
  have HK : Hid (∀ wx, Lv w0 w wx p o P s → Calls Tryz.prog 28 #[.pointer (some ⟨P.pm, 0, none⟩), .int .i64 f, .int .i64 l] wx fun e w' => e = .returned (.int .i64 (Phead.errP s.N f 1 l false 0)) ∧ Lv w0 w w' p o P { s with M := Phead.mkM s.N s.M f 1 l false 0 }) := fun wx hx => (gx_ctmake f l hx.fx).mono (by rintro e w' ⟨h1, h2⟩; exact ⟨h1, hx.then h2⟩)
  clear h hf
  generalize { s with M := Phead.mkM s.N s.M f 1 l false 0 } = s2 at HK ⊢
  generalize Phead.errP s.N f 1 l false 0 = E at HK ⊢
  go_enter Tryz.func6, Tryz.ntmps6
  go_wp2_with (first
    | (go_at_call 27; refine HF.out.mono ?_; rintro e w1 ⟨rfl, hb⟩; have H1 := ghide (H0.out.on hb); clear hb HF H0)
    | (go_at_call 15; refine (HM.out _ H1.out).mono ?_; rintro e w2 ⟨rfl, hb⟩; have H2 := ghide hb; clear hb HM H1)
    | (go_at_call 28; refine (HK.out _ H2.out).mono ?_; rintro e w3 ⟨rfl, hb⟩; have H3 := ghide hb; clear hb HK H2)
    | fail)
  go_ret
  exact ⟨rfl, H3.out⟩
set_option maxRecDepth 100000 in
theorem bpgt_ok (f l : Int) (h : Fx w0 w p o P s) (hf : frshE s f = 0) : Calls Tryz.prog 7 #[.pointer (some ⟨p, 0, none⟩), .int .i64 f, .int .i64 l] w fun e w' => e = .returned (.int .i64 (Phead.errP s.N f 2 l false 0)) ∧ Lv w0 w w' p o P { s with M := Phead.mkM s.N s.M f 2 l false 0 } := by
  have HF := ghide (fresh_any f h)
  rw [hf] at HF
  have H0 := ghide (lv_refl h)
  have HM : Hid (∀ wx, Lv w0 w wx p o P s → Calls Tryz.prog 15 #[.pointer (some ⟨p, 0, none⟩)] wx fun e w' => e = .returned (.pointer (some ⟨P.pm, 0, none⟩)) ∧ Lv w0 w w' p o P s) := fun wx hx => (gx_mem hx.fx).mono (by rintro e w' ⟨h1, h2⟩; exact ⟨h1, hx.then h2⟩)
  have HK : Hid (∀ wx, Lv w0 w wx p o P s → Calls Tryz.prog 29 #[.pointer (some ⟨P.pm, 0, none⟩), .int .i64 f, .int .i64 l] wx fun e w' => e = .returned (.int .i64 (Phead.errP s.N f 2 l false 0)) ∧ Lv w0 w w' p o P { s with M := Phead.mkM s.N s.M f 2 l false 0 }) := fun wx hx => (gx_pgmake f l hx.fx).mono (by rintro e w' ⟨h1, h2⟩; exact ⟨h1, hx.then h2⟩)
  clear h hf
  generalize { s with M := Phead.mkM s.N s.M f 2 l false 0 } = s2 at HK ⊢
  generalize Phead.errP s.N f 2 l false 0 = E at HK ⊢
  go_enter Tryz.func7, Tryz.ntmps7
  go_wp2_with (first
    | (go_at_call 27; refine HF.out.mono ?_; rintro e w1 ⟨rfl, hb⟩; have H1 := ghide (H0.out.on hb); clear hb HF H0)
    | (go_at_call 15; refine (HM.out _ H1.out).mono ?_; rintro e w2 ⟨rfl, hb⟩; have H2 := ghide hb; clear hb HM H1)
    | (go_at_call 29; refine (HK.out _ H2.out).mono ?_; rintro e w3 ⟨rfl, hb⟩; have H3 := ghide hb; clear hb HK H2)
    | fail)
  go_ret
  exact ⟨rfl, H3.out⟩
set_option maxRecDepth 100000 in
theorem btcp_ok (f : Int) (h : Fx w0 w p o P s) (hf : frshE s f = 0) : Calls Tryz.prog 9 #[.pointer (some ⟨p, 0, none⟩), .int .i64 f] w fun e w' => e = .returned (.int .i64 (Ptcap.mkE s.N f Ptcap.bd0)) ∧ Lv w0 w w' p o P { s with M := Ptcap.mkM s.N s.M f Ptcap.bd0 } := by
  have HF := ghide (fresh_any f h)
  rw [hf] at HF
  have H0 := ghide (lv_refl h)
  have HM : Hid (∀ wx, Lv w0 w wx p o P s → Calls Tryz.prog 15 #[.pointer (some ⟨p, 0, none⟩)] wx fun e w' => e = .returned (.pointer (some ⟨P.pm, 0, none⟩)) ∧ Lv w0 w w' p o P s) := fun wx hx => (gx_mem hx.fx).mono (by rintro e w' ⟨h1, h2⟩; exact ⟨h1, hx.then h2⟩)
  have HK : Hid (∀ wx, Lv w0 w wx p o P s → Calls Tryz.prog 39 #[.pointer (some ⟨P.pm, 0, none⟩), .int .i64 f, .agg #[.bool false, .int .i64 0, .int .i64 0]] wx fun e w' => e = .returned (.int .i64 (Ptcap.mkE s.N f Ptcap.bd0)) ∧ Lv w0 w w' p o P { s with M := Ptcap.mkM s.N s.M f Ptcap.bd0 }) := fun wx hx => (gx_tcmake f Ptcap.bd0 (by unfold Ptcap.Fb Ptcap.bd0 In64; simp) hx.fx).mono (by rintro e w' ⟨h1, h2⟩; exact ⟨h1, hx.then h2⟩)
  clear h hf
  generalize { s with M := Ptcap.mkM s.N s.M f Ptcap.bd0 } = s2 at HK ⊢
  generalize Ptcap.mkE s.N f Ptcap.bd0 = E at HK ⊢
  go_enter Tryz.func9, Tryz.ntmps9
  go_wp2_with (first
    | (go_at_call 27; refine HF.out.mono ?_; rintro e w1 ⟨rfl, hb⟩; have H1 := ghide (H0.out.on hb); clear hb HF H0)
    | (go_at_call 15; refine (HM.out _ H1.out).mono ?_; rintro e w2 ⟨rfl, hb⟩; have H2 := ghide hb; clear hb HM H1)
    | (go_at_call 39; refine (HK.out _ H2.out).mono ?_; rintro e w3 ⟨rfl, hb⟩; have H3 := ghide hb; clear hb HK H2)
    | fail)
  go_ret
  exact ⟨rfl, H3.out⟩
end
end Go.Proofs.YtcgekcjnaadcmaaGreatDoor.Pbuild
