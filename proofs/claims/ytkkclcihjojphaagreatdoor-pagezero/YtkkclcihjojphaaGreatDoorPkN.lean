import Derived.Test.YtkkclcihjojphaaGreatDoorBunVmach
import Derived.Test.YtkkclcihjojphaaGreatDoorPkI
import Derived.Test.YtkkclcihjojphaaGreatDoorPkK
import Derived.Test.YtkkclcihjojphaaGreatDoorPkH
import Derived.Test.YtkkclcihjojphaaGreatDoorPkG
set_option linter.unusedVariables false
set_option linter.unusedSimpArgs false
set_option maxRecDepth 100000
set_option maxHeartbeats 20000000
namespace Go.Proofs.YtkkclcihjojphaaGreatDoor
namespace Pvobj
open Pbase Pchold Pmem Pmst Ptint Pvmach Go.RowKit
theorem below_dN {B : Nat} {a w : World} (h : Below B a w) (n : Nat) : Below B a (w.drewN n) := ⟨h.os, h.tape, h.output, h.size, h.block⟩
structure Vy (w0 w : World) (q : Nat) (o : Nat -> Nat) (P : Pl) (s : St) : Prop where
 x : Vx w0 w q o P s
 ws : Ws s
 fit : Fit s.M
def frG (s : St) (f : Int) : Prop := (Ptyp.toldA s.N s.T f).is = 2 /\ (Ptyp.toldA s.N s.T f).cnt = 0 /\ Phead.ghE s.N s.M f = 0 /\ Phead.ghK s.N s.M f = 0
def hvG (s : St) (f k : Int) : Prop := Phead.ghE s.N s.M f = 0 /\ Phead.ghK s.N s.M f = k /\ Phead.ghL s.N s.M f = 0
section
variable {w0 w w' : World} {q : Nat} {o : Nat -> Nat} {P : Pl} {s s' : St}
theorem Vy.v (h : Vy w0 w q o P s) : VIs w q o P s := h.x.v
theorem Vy.here (h : Vy w0 w q o P s) : Vy w w q o P s := ⟨vx_refl h.v, h.ws, h.fit⟩
theorem Vy.on (h : Vy w0 w q o P s) (hB : Below w.heap.size w w') : Vy w0 w' q o P s := ⟨h.x.on h.ws hB, h.ws, h.fit⟩
theorem Vy.drew (h : Vy w0 w q o P s) : Vy w0 w.drew q o P s := ⟨h.x.drew h.ws, h.ws, h.fit⟩
theorem Vy.go (h : Vy w0 w q o P s) (k : Vy w w' q o P s') : Vy w0 w' q o P s' := ⟨⟨k.v, h.x.k.trans k.x.k⟩, k.ws, k.fit⟩
theorem Vy.mem {M' : Nat -> Nat -> Int} (h : Vy w0 w q o P s) (hF : Fit M') (hR : Pvmem.RefM w' (fun i => o i = 1) P.pm s.N P.bm P.tm M') (k : Tint (fun i => o i = 1) w w') : Vy w0 w' q o P { s with M := M' } :=
 ⟨⟨h.v.turnM hR k, h.x.k.trans (wide 1 (by omega) k)⟩, ⟨h.ws.n1, h.ws.n64, h.ws.c1, h.ws.c4⟩, hF⟩
theorem Vy.typ {T' : Nat -> Ptyp.FS} (h : Vy w0 w q o P s) (hR : Pvtyp.RefIs w' (fun i => o i = 3) P.pt s.N T') (k : Tint (fun i => o i = 3) w w') : Vy w0 w' q o P { s with T := T' } :=
 ⟨⟨h.v.turnT hR k, h.x.k.trans (wide 3 (by omega) k)⟩, ⟨h.ws.n1, h.ws.n64, h.ws.c1, h.ws.c4⟩, h.fit⟩
theorem Vy.memk {M' : Nat -> Nat -> Int} (h : Vy w0 w q o P s) (hF : Fit M') (hR : RefIs w' P.bm P.pm s.N M') (hB : Below P.bm w w') (hK : KeepX P.pm w w') : Vy w0 w' q o P { s with M := M' } := by
 obtain ⟨h1, h2⟩ := h.v.mem.turn hR hB hK
 exact h.mem hF h1 h2
theorem vof_any (f : Int) (h : Vy w0 w q o P s) : Calls Tryz.prog 95 #[.pointer (some ⟨P.pt, 0, none⟩), .int .i64 f] w fun x w' => x = .returned (.agg #[.int .i64 (Ptyp.toldA s.N s.T f).is, .int .i64 (Ptyp.toldA s.N s.T f).cnt, .int .i64 (Ptyp.toldA s.N s.T f).fr, .int .i64 (Ptyp.toldA s.N s.T f).was]) /\ Below w.heap.size w w' := Pvtyp.rof_any _ _ _ _ _ w h.ws.n64 h.v.typ
theorem vhget_any (f : Int) (h : Vy w0 w q o P s) : Calls Tryz.prog 178 #[.pointer (some ⟨P.pm, 0, none⟩), .int .i64 f] w fun e w' => e = .returned (.tuple #[.agg #[.int .i64 (Phead.ghK s.N s.M f), .int .i64 (Phead.ghL s.N s.M f), .bool (Phead.ghZ s.N s.M f), .int .i64 (Phead.ghT s.N s.M f)], .int .i64 (Phead.ghE s.N s.M f)]) /\ Below w.heap.size w w' := Phead.hrget_any _ _ _ _ _ w h.ws.n1 h.ws.n64 h.v.mem.ref h.fit
theorem vhmake_ok (f k l : Int) (h : Vy w0 w q o P s) : Calls Tryz.prog 179 #[.pointer (some ⟨P.pm, 0, none⟩), .int .i64 f, .agg #[.int .i64 k, .int .i64 l, .bool false, .int .i64 0]] w fun e w' => e = .returned (.int .i64 (Phead.errP s.N f k l false 0)) /\ Vy w0 w' q o P { s with M := Phead.mkM s.N s.M f k l false 0 } :=
 (Phead.hrmake_k _ _ _ f k l false 0 _ w h.ws.n1 h.ws.n64 h.v.mem.ref).mono fun _ _ ⟨h1, h2, h3, h4⟩ => ⟨h1, h.memk (Phead.fit_mk h.fit s.N f k l false 0) h2 h3 h4⟩
theorem fr_laid (w1 : World) (a b c d : Int) : (w1.alloc (.cells #[.int .i64 a, .int .i64 b, .int .i64 c, .int .i64 d] 139)).cell? ⟨w1.heap.size, 0, none⟩ = some (.int .i64 a) /\ (w1.alloc (.cells #[.int .i64 a, .int .i64 b, .int .i64 c, .int .i64 d] 139)).cell? ⟨w1.heap.size, 1, none⟩ = some (.int .i64 b) :=
 ⟨World.cell?_alloc_new .., World.cell?_alloc_new ..⟩
theorem rfresh_ok (f : Int) (h : Vy w0 w q o P s) (hf : frG s f) : Calls Tryz.prog 102 #[.pointer (some ⟨q, 0, none⟩), .int .i64 f] w fun e w' => e = .returned (.int .i64 0) /\ Below w.heap.size w w' := by
 obtain ⟨h1, h2, h3, h4⟩ := hf
 have HO := vhide (vof_any f h)
 rw [h1, h2] at HO
 have HG : Hid (∀ wx, Vy w wx q o P s -> Calls Tryz.prog 178 #[.pointer (some ⟨P.pm, 0, none⟩), .int .i64 f] wx fun e w' => e = .returned (.tuple #[.agg #[.int .i64 0, .int .i64 (Phead.ghL s.N s.M f), .bool (Phead.ghZ s.N s.M f), .int .i64 (Phead.ghT s.N s.M f)], .int .i64 0]) /\ Below wx.heap.size wx w') := fun wx hx => by
  have := vhget_any f hx
  rwa [h3, h4] at this
 have H0 := vhide h.here
 have HB := vhide (Below.refl w.heap.size w)
 have c4 := h.v.cells.2.2.2.2.1
 clear h h1 h2 h3 h4
 generalize Phead.ghL s.N s.M f = L at HG
 generalize Phead.ghZ s.N s.M f = Z at HG
 generalize Phead.ghT s.N s.M f = T at HG
 generalize (Ptyp.toldA s.N s.T f).fr = r at HO
 generalize (Ptyp.toldA s.N s.T f).was = u at HO
 go_enter Tryz.func102, Tryz.ntmps102
 go_upto_region 2 with (first
  | (go_at_call 95; refine HO.out.mono ?_; rintro e1 w1 ⟨rfl, hb⟩; have H1 := vhide (And.intro (H0.out.on hb) hb); clear hb HO H0 c4)
  | fail)
 have x0 := (fr_laid w1 2 0 r u).1
 have x1 := (fr_laid w1 2 0 r u).2
 have hD : w1.heap.size < (w1.alloc (.cells #[.int .i64 2, .int .i64 0, .int .i64 r, .int .i64 u] 139)).heap.size := by simp
 have H2 := vhide (And.intro (H1.out.1.on (bal (Below.refl _ _) (.cells #[.int .i64 2, .int .i64 0, .int .i64 r, .int .i64 u] 139))) (bal H1.out.2 (.cells #[.int .i64 2, .int .i64 0, .int .i64 r, .int .i64 u] 139)))
 clear H1
 generalize w1.alloc _ = w2 at x0 x1 hD H2 ⊢
 generalize w1.heap.size = D at x0 x1 hD ⊢
 have c0 := H2.out.1.v.cells.1
 go_upto_region 5 with (first
  | (go_at_call 178; refine (HG.out _ H2.out.1).mono ?_; rintro e2 w3 ⟨rfl, hb⟩; have y1 := (hb.cell (p := ⟨D, 1, none⟩) hD).trans x1; have H3 := vhide (H2.out.2.trans (hb.mono H2.out.2.size)); have hD3 := Nat.lt_of_lt_of_le hD hb.size; clear hb HG H2 c0 x0 x1 hD)
  | fail)
 have k0 : (w3.alloc (.cells #[.int .i64 0, .int .i64 L, .bool Z, .int .i64 T] 114)).cell? ⟨w3.heap.size, 0, none⟩ = some (.int .i64 0) := World.cell?_alloc_new ..
 have k1 : (w3.alloc (.cells #[.int .i64 0, .int .i64 L, .bool Z, .int .i64 T] 114)).cell? ⟨D, 1, none⟩ = some (.int .i64 0) := ((bal (Below.refl _ w3) _).cell (p := ⟨D, 1, none⟩) hD3).trans y1
 have H4 := vhide (bal H3.out (.cells #[.int .i64 0, .int .i64 L, .bool Z, .int .i64 T] 114))
 clear H3 y1 hD3
 generalize w3.alloc _ = w4 at k0 k1 H4 ⊢
 generalize w3.heap.size = E at k0 ⊢
 go_wp2
 go_ret
 exact ⟨rfl, H4.out⟩
theorem risk_yes (f k : Int) (h : Vy w0 w q o P s) (he : Phead.ghE s.N s.M f = 0) (hk : Phead.ghK s.N s.M f = k) : Calls Tryz.prog 127 #[.pointer (some ⟨q, 0, none⟩), .int .i64 f, .int .i64 k] w fun e w' => e = .returned (.bool true) /\ Below w.heap.size w w' := by
 have HI := vhide (Phead.hris_any _ _ _ f k _ w h.ws.n1 h.ws.n64 h.v.mem.ref h.fit)
 have e0 : Phead.isE s.N s.M f k = 0 := by unfold Phead.isE; rw [if_pos he, if_pos hk]
 rw [e0] at HI
 have c0 := h.v.cells.1
 clear h he hk e0
 go_enter Tryz.func127, Tryz.ntmps127
 go_wp2_with (first
  | (go_at_call 208; refine HI.out.mono ?_; rintro e1 w1 ⟨rfl, hb⟩; have H1 := vhide hb; clear hb HI)
  | fail)
 go_ret
 exact ⟨rfl, H1.out⟩
theorem rsome_no (g : Option Addr) (n c : Nat) (w : World) : Calls Tryz.prog 128 #[.slice g n c, .int .i64 0] w fun e w' => e = .returned (.slice g n c) /\ w' = w := by
 go_enter Tryz.func128, Tryz.ntmps128
 go_wp2
 go_ret
 exact ⟨rfl, rfl⟩
theorem vtmake_ok (f l : Int) (h : Vy w0 w q o P s) : Calls Tryz.prog 103 #[.pointer (some ⟨P.pm, 0, none⟩), .int .i64 f, .int .i64 l] w fun e w' => e = .returned (.int .i64 (Phead.errP s.N f 1 l false 0)) /\ Vy w0 w' q o P { s with M := Phead.mkM s.N s.M f 1 l false 0 } := by
 have HM := vhide (vhmake_ok f 1 l h)
 clear h
 go_enter Tryz.func103, Tryz.ntmps103
 go_wp2_with (first
  | (go_at_call 179; refine HM.out.mono ?_; rintro e1 w1 ⟨rfl, hb⟩; have H1 := vhide hb; clear hb HM)
  | fail)
 go_ret
 exact ⟨rfl, H1.out⟩
theorem vpmake_ok (f l : Int) (h : Vy w0 w q o P s) : Calls Tryz.prog 104 #[.pointer (some ⟨P.pm, 0, none⟩), .int .i64 f, .int .i64 l] w fun e w' => e = .returned (.int .i64 (Phead.errP s.N f 2 l false 0)) /\ Vy w0 w' q o P { s with M := Phead.mkM s.N s.M f 2 l false 0 } := by
 have HM := vhide (vhmake_ok f 2 l h)
 clear h
 go_enter Tryz.func104, Tryz.ntmps104
 go_wp2_with (first
  | (go_at_call 179; refine HM.out.mono ?_; rintro e1 w1 ⟨rfl, hb⟩; have H1 := vhide hb; clear hb HM)
  | fail)
 go_ret
 exact ⟨rfl, H1.out⟩
theorem hd_laid (w1 : World) (k l : Int) (z : Bool) (t : Int) : (w1.alloc (.cells #[.int .i64 k, .int .i64 l, .bool z, .int .i64 t] 114)).cell? ⟨w1.heap.size, 0, none⟩ = some (.int .i64 k) /\ (w1.alloc (.cells #[.int .i64 k, .int .i64 l, .bool z, .int .i64 t] 114)).cell? ⟨w1.heap.size, 1, none⟩ = some (.int .i64 l) /\ (w1.alloc (.cells #[.int .i64 k, .int .i64 l, .bool z, .int .i64 t] 114)).cell? ⟨w1.heap.size, 2, none⟩ = some (.bool z) :=
 ⟨World.cell?_alloc_new .., World.cell?_alloc_new .., World.cell?_alloc_new ..⟩
theorem vttable_yes (f : Int) (h : Vy w0 w q o P s) (hv : hvG s f 1) : Calls Tryz.prog 113 #[.pointer (some ⟨P.pm, 0, none⟩), .int .i64 f, .int .i64 0] w fun e w' => e = .returned (.tuple #[.bool true, .bool (Phead.ghZ s.N s.M f)]) /\ Below w.heap.size w w' := by
 obtain ⟨h1, h2, h3⟩ := hv
 have HG := vhide (vhget_any f h)
 rw [h1, h2, h3] at HG
 clear h h1 h2 h3
 generalize Phead.ghZ s.N s.M f = Z at HG ⊢
 generalize Phead.ghT s.N s.M f = T at HG
 go_enter Tryz.func113, Tryz.ntmps113
 go_upto_region 2 with (first
  | (go_at_call 178; refine HG.out.mono ?_; rintro e1 w1 ⟨rfl, hb⟩; have H1 := vhide hb; clear hb HG)
  | fail)
 obtain ⟨x0, x1, x2⟩ := hd_laid w1 1 0 Z T
 have H2 := vhide (bal H1.out (.cells #[.int .i64 1, .int .i64 0, .bool Z, .int .i64 T] 114))
 clear H1
 generalize w1.alloc _ = w2 at x0 x1 x2 H2 ⊢
 generalize w1.heap.size = D at x0 x1 x2 ⊢
 go_quiet (fail)
 go_wp2
 go_ret2
 exact ⟨rfl, below_dN H2.out _⟩
theorem vptable_yes (f : Int) (h : Vy w0 w q o P s) (hv : hvG s f 2) : Calls Tryz.prog 114 #[.pointer (some ⟨P.pm, 0, none⟩), .int .i64 f, .int .i64 0] w fun e w' => e = .returned (.bool true) /\ Below w.heap.size w w' := by
 obtain ⟨h1, h2, h3⟩ := hv
 have HG := vhide (vhget_any f h)
 rw [h1, h2, h3] at HG
 clear h h1 h2 h3
 generalize Phead.ghZ s.N s.M f = Z at HG
 generalize Phead.ghT s.N s.M f = T at HG
 go_enter Tryz.func114, Tryz.ntmps114
 go_upto_region 2 with (first
  | (go_at_call 178; refine HG.out.mono ?_; rintro e1 w1 ⟨rfl, hb⟩; have H1 := vhide hb; clear hb HG)
  | fail)
 obtain ⟨x0, x1, x2⟩ := hd_laid w1 2 0 Z T
 have H2 := vhide (bal H1.out (.cells #[.int .i64 2, .int .i64 0, .bool Z, .int .i64 T] 114))
 clear H1
 generalize w1.alloc _ = w2 at x0 x1 x2 H2 ⊢
 generalize w1.heap.size = D at x0 x1 x2 ⊢
 first
  | (go_quiet (fail)
     go_wp2
     go_ret
     exact ⟨rfl, below_dN H2.out _⟩)
  | (go_wp2
     go_ret
     exact ⟨rfl, H2.out⟩)
theorem vtbl_ok (f l : Int) (h : Vy w0 w q o P s) (hf : frG s f) (hl : ¬ l < 0 /\ ¬ 1 < l) : Calls Tryz.prog 64 #[.pointer (some ⟨q, 0, none⟩), .int .i64 f, .int .i64 l] w fun e w' => e = .returned (.int .i64 (Phead.errP s.N f 1 l false 0)) /\ Vy w w' q o P { s with M := Phead.mkM s.N s.M f 1 l false 0 } := by
 have HF := vhide (rfresh_ok f h hf)
 have HM : Hid (∀ wx, Vy w wx q o P s -> Calls Tryz.prog 103 #[.pointer (some ⟨P.pm, 0, none⟩), .int .i64 f, .int .i64 l] wx fun e w' => e = .returned (.int .i64 (Phead.errP s.N f 1 l false 0)) /\ Vy w w' q o P { s with M := Phead.mkM s.N s.M f 1 l false 0 }) := fun wx hx => vtmake_ok f l hx
 have H0 := vhide h.here
 obtain ⟨l0, l1⟩ := hl
 clear h hf
 go_enter Tryz.func64, Tryz.ntmps64
 go_wp2_with (first
  | (go_at_call 102; refine HF.out.mono ?_; rintro e1 w1 ⟨rfl, hb⟩; have H1 := vhide (H0.out.on hb); have c0 := H1.out.v.cells.1; clear hb HF H0)
  | (go_at_call 103; refine (HM.out _ H1.out).mono ?_; rintro e2 w2 ⟨rfl, hb⟩; have H2 := vhide hb; clear hb HM H1 c0)
  | fail)
 go_ret
 exact ⟨rfl, H2.out⟩
theorem vpgt_ok (f l : Int) (h : Vy w0 w q o P s) (hf : frG s f) (hl : ¬ l < 0 /\ ¬ 1 < l) : Calls Tryz.prog 65 #[.pointer (some ⟨q, 0, none⟩), .int .i64 f, .int .i64 l] w fun e w' => e = .returned (.int .i64 (Phead.errP s.N f 2 l false 0)) /\ Vy w w' q o P { s with M := Phead.mkM s.N s.M f 2 l false 0 } := by
 have HF := vhide (rfresh_ok f h hf)
 have HM : Hid (∀ wx, Vy w wx q o P s -> Calls Tryz.prog 104 #[.pointer (some ⟨P.pm, 0, none⟩), .int .i64 f, .int .i64 l] wx fun e w' => e = .returned (.int .i64 (Phead.errP s.N f 2 l false 0)) /\ Vy w w' q o P { s with M := Phead.mkM s.N s.M f 2 l false 0 }) := fun wx hx => vpmake_ok f l hx
 have H0 := vhide h.here
 obtain ⟨l0, l1⟩ := hl
 clear h hf
 go_enter Tryz.func65, Tryz.ntmps65
 go_wp2_with (first
  | (go_at_call 102; refine HF.out.mono ?_; rintro e1 w1 ⟨rfl, hb⟩; have H1 := vhide (H0.out.on hb); have c0 := H1.out.v.cells.1; clear hb HF H0)
  | (go_at_call 104; refine (HM.out _ H1.out).mono ?_; rintro e2 w2 ⟨rfl, hb⟩; have H2 := vhide hb; clear hb HM H1 c0)
  | fail)
 go_ret
 exact ⟨rfl, H2.out⟩
end
end Pvobj
namespace Pvobj
open Pbase Pchold Play Pmem Pmst Ptint Pvmach Go.RowKit
def rmV (s : St) (x : Int) : Prop := (Ptyp.toldA s.N s.T x).is = 2 /\ (Ptyp.toldA s.N s.T x).cnt < 1000
def refV (N : Nat) (T : Nat -> Ptyp.FS) (l : List Int) : Nat -> Ptyp.FS := l.foldl (fun T x => Ptyp.mapA N T x Ptyp.gRf) T
theorem refV_snoc (N : Nat) (T : Nat -> Ptyp.FS) (l : List Int) (x : Int) : refV N T (l ++ [x]) = Ptyp.mapA N (refV N T l) x Ptyp.gRf := by simp [refV]
section
variable {w0 w w' : World} {q : Nat} {o : Nat -> Nat} {P : Pl} {s s' : St}
theorem Vy.rx (h : Vy w0 w q o P s) : Rx w P.bm P.pm s.N s.M := ⟨h.v.mem.ref, h.fit, h.ws.n1, h.ws.n64⟩
theorem Vy.rxk {M' : Nat -> Nat -> Int} (h : Vy w0 w q o P s) (hR : Rx w' P.bm P.pm s.N M') (hB : Below P.bm w w') (hK : KeepX P.pm w w') : Vy w0 w' q o P { s with M := M' } := h.memk hR.fit hR.ref hB hK
theorem Vy.far (h : Vy w0 w q o P s) {D : Nat} (hD : 17 < o D) (h0 : D < w0.heap.size) : w.heap[D]? = w0.heap[D]? := h.x.k.block D h0 fun (e : o D <= 17) => by omega
theorem nums_far {D : Nat} {l : List Int} (hN : Nums w0 D l) (h : Vy w0 w q o P s) (hD : 17 < o D) : Nums w D l := by
 obtain ⟨cs, h1, h2⟩ := hN.row
 exact ⟨cs, (h.far hD (Array.getElem?_eq_some_iff.1 h1).1).trans h1, h2⟩
theorem nums_at {D : Nat} {l : List Int} (h : Nums w D l) {k : Nat} (hk : k < l.length) : w.cell? ⟨D, k, none⟩ = some (.int .i64 l[k]) := by
 have := h.cell hk
 rwa [List.getElem?_eq_getElem hk] at this
theorem valzd {A w2 : World} {o : Obj} (h : Below (A.alloc o).drew.heap.size (A.alloc o).drew w2) : w2.heap[A.heap.size]? = some o := (h.block _ (by show A.heap.size < (A.alloc o).heap.size; simp)).trans (heap_alloc_new A o)
theorem vz8 {w : World} {b : Nat} {t : TypeId} {c0 c1 c2 c3 : Value} (h : w.heap[b]? = some (.cells #[c0, c1, c2, c3] t (0, 0))) : w.cell? ⟨b, 0, none⟩ = some c0 /\ w.cell? ⟨b, 1, none⟩ = some c1 /\ w.cell? ⟨b, 2, none⟩ = some c2 /\ w.cell? ⟨b, 3, none⟩ = some c3 /\ w.frozen? ⟨b, 0, none⟩ = false /\ w.frozen? ⟨b, 1, none⟩ = false /\ w.frozen? ⟨b, 2, none⟩ = false /\ w.frozen? ⟨b, 3, none⟩ = false :=
 ⟨(cell_of_row _ _ _ _ _ _ h).trans rfl, (cell_of_row _ _ _ _ _ _ h).trans rfl, (cell_of_row _ _ _ _ _ _ h).trans rfl, (cell_of_row _ _ _ _ _ _ h).trans rfl, frozen_of_row _ _ _ _ _ h, frozen_of_row _ _ _ _ _ h, frozen_of_row _ _ _ _ _ h, frozen_of_row _ _ _ _ _ h⟩
theorem vfour_below {B : Nat} {a x : World} {b : Nat} (h : Below B a x) (hb : B <= b) (d0 d1 d2 d3 : Value) : Below B a ((((x.setCell ⟨b, 0, none⟩ d0).setCell ⟨b, 1, none⟩ d1).setCell ⟨b, 2, none⟩ d2).setCell ⟨b, 3, none⟩ d3) := (((h.setCell (p := ⟨b, 0, none⟩) hb _).setCell (p := ⟨b, 1, none⟩) hb _).setCell (p := ⟨b, 2, none⟩) hb _).setCell (p := ⟨b, 3, none⟩) hb _
theorem vfour_same {w : World} {B : Nat} {c0 c1 c2 c3 : Value} {t : TypeId} (d0 d1 d2 d3 : Value) (h : w.heap[B]? = some (.cells #[c0, c1, c2, c3] t (0, 0))) : ((((w.setCell ⟨B, 0, none⟩ d0).setCell ⟨B, 1, none⟩ d1).setCell ⟨B, 2, none⟩ d2).setCell ⟨B, 3, none⟩ d3).heap[B]? = some (.cells #[d0, d1, d2, d3] t (0, 0)) := by
 have e0 := heap_setCell_same w B 0 _ _ d0 h
 have e1 := heap_setCell_same _ B 1 _ _ d1 e0
 have e2 := heap_setCell_same _ B 2 _ _ d2 e1
 have e3 := heap_setCell_same _ B 3 _ _ d3 e2
 rw [e3]
 rfl
theorem rroom_yes {D cap : Nat} (l : List Int) (hl : l.length <= 64) (h : Vy w0 w q o P s) (hD : Nums w D l) (hm : ∀ x ∈ l, rmV s x) : Calls Tryz.prog 115 #[.pointer (some ⟨q, 0, none⟩), .slice (some ⟨D, 0, none⟩) l.length cap] w fun e w' => e = .returned (.bool true) /\ Below w.heap.size w w' := by
 have HL := vhide hl
 have H0 := vhide h.here
 have HD := vhide hD
 have HM : Hid (∀ (v : Int), v ∈ l -> ∃ c r u, c < 1000 /\ ∀ wx, Vy w wx q o P s -> Calls Tryz.prog 95 #[.pointer (some ⟨P.pt, 0, none⟩), .int .i64 v] wx fun x w' => x = .returned (.agg #[.int .i64 2, .int .i64 c, .int .i64 r, .int .i64 u]) /\ Below wx.heap.size wx w') := fun v hv => by
  obtain ⟨m1, m2⟩ := hm v hv
  refine ⟨(Ptyp.toldA s.N s.T v).cnt, (Ptyp.toldA s.N s.T v).fr, (Ptyp.toldA s.N s.T v).was, m2, fun wx hx => ?_⟩
  have := vof_any v hx
  rw [m1] at this
  exact this
 clear h hD hm
 go_enter Tryz.func115, Tryz.ntmps115
 go_wp2
 go_loopw [5] (fun i wr => ∃ k : Nat, k <= l.length /\ i = .int .i64 k /\ Below w.heap.size w wr) (fun i _ => l.length - (intOf i).toNat)
 case atStart => exact ⟨0, by omega, rfl, Below.refl _ _⟩
 case round =>
  obtain ⟨k, hk, rfl, hB⟩ := hrel
  have HB := vhide hB
  clear hB
  by_cases hlt : k < l.length
  · have hki : (k : Int) < (l.length : Int) := by omega
    obtain ⟨v, hv, cD⟩ : ∃ v, v ∈ l /\ wr.cell? ⟨D, k, none⟩ = some (.int .i64 v) := ⟨l[k], List.getElem_mem hlt, nums_at (HD.out.on HB.out) hlt⟩
    have H1 := vhide (H0.out.on HB.out)
    obtain ⟨c, r, u, hc, hO⟩ := HM.out v hv
    have HO : Hid (∀ wx, Below wr.heap.size wr wx -> Calls Tryz.prog 95 #[.pointer (some ⟨P.pt, 0, none⟩), .int .i64 v] wx fun x w' => x = .returned (.agg #[.int .i64 2, .int .i64 c, .int .i64 r, .int .i64 u]) /\ Below wr.heap.size wr w' /\ Below wx.heap.size wx w') := fun wx hx => (hO wx (H1.out.on hx)).mono fun _ _ ⟨g1, g2⟩ => ⟨g1, hx.trans (g2.mono hx.size), g2⟩
    have hc' : ¬ 1000 <= c := by omega
    have hDl : D < wr.heap.size := by
     obtain ⟨cs, e, _⟩ := (HD.out.on HB.out).row
     exact (Array.getElem?_eq_some_iff.1 e).1
    have HQ : Hid (∀ wx, Below wr.heap.size wr wx -> wx.cell? ⟨q, 4, none⟩ = some (.pointer (some ⟨P.pt, 0, none⟩)) /\ wx.cell? ⟨D, k, none⟩ = some (.int .i64 v)) := fun wx hx => ⟨(H1.out.on hx).v.cells.2.2.2.2.1, (hx.cell (p := ⟨D, k, none⟩) hDl).trans cD⟩
    have HB0 : Hid (Below wr.heap.size wr wr) := Below.refl _ _
    have ka0 : ∀ o, (wr.alloc o).cell? ⟨q, 4, none⟩ = some (.pointer (some ⟨P.pt, 0, none⟩)) := fun o => (HQ.out _ (bal (Below.refl _ _) o)).1
    have ka1 : ∀ o, (wr.alloc o).cell? ⟨D, k, none⟩ = some (.int .i64 v) := fun o => (HQ.out _ (bal (Below.refl _ _) o)).2
    obtain ⟨k0, k1⟩ := HQ.out _ HB0.out
    have hw : wrap64 ((k : Int) + 1) = (k : Int) + 1 := by have := HL.out; unfold wrap64; omega
    clear hO cD hc hDl
    go_upto_region 4 with fail
    go_region_with (first
     | (go_at_call 95; refine (HO.out _ ?hb).mono ?_; (case hb => (repeat (first | exact HB0.out | refine bal ?_ _ | refine Below.drew ?_))); rintro e1 w1 ⟨rfl, hb, hb2⟩; have HB1 := vhide hb; (try (have hz1 := valzd hb2; obtain ⟨z10, z11, z12, z13, z14, z15, z16, z17⟩ := vz8 hz1)); clear hb hb2; obtain ⟨k2, k3⟩ := HQ.out _ HB1.out)
     | fail)
    all_goals
     first
      | (have hr := vfour_same (.int .i64 2) (.int .i64 c) (.int .i64 r) (.int .i64 u) hz1
         have HB2 := vhide (HB.out.trans ((vfour_below HB1.out (Nat.le_refl _) (.int .i64 2) (.int .i64 c) (.int .i64 r) (.int .i64 u)).mono HB.out.size))
         generalize ((((w1.setCell _ _).setCell _ _).setCell _ _).setCell _ _) = w2 at hr HB2 ⊢
         generalize wr.heap.size = E at hr ⊢)
      | (have hr := heap_alloc_new w1 (.cells #[.int .i64 2, .int .i64 c, .int .i64 r, .int .i64 u] 139)
         have HB2 := vhide (HB.out.trans ((bal HB1.out (.cells #[.int .i64 2, .int .i64 c, .int .i64 r, .int .i64 u] 139)).mono HB.out.size))
         generalize w1.alloc _ = w2 at hr HB2 ⊢
         generalize w1.heap.size = E at hr ⊢)
     obtain ⟨x0, x1, _⟩ := vz8 hr
     clear hr
     go_wp2
     go_roundw
     case rel => exact ⟨k + 1, by omega, by go_num, HB2.out⟩
     case measure => simp only [intOf]; omega
  · obtain rfl : k = l.length := by omega
    go_wp2
    go_ret
    exact ⟨rfl, HB.out⟩
theorem rrefs_yes {D cap : Nat} (l : List Int) (hl : l.length <= 64) (h : Vy w0 w q o P s) (hD : Nums w D l) (hoD : 17 < o D) (hm : ∀ x ∈ l, rmV s x) : Calls Tryz.prog 118 #[.pointer (some ⟨q, 0, none⟩), .slice (some ⟨D, 0, none⟩) l.length cap] w fun e w' => e = .returned (.int .i64 0) /\ Vy w w' q o P { s with T := refV s.N s.T l } := by
 have HR := vhide (rroom_yes (cap := cap) l hl h hD hm)
 have HL := vhide hl
 have H0 := vhide h.here
 have HD := vhide hD
 have HoD := vhide hoD
 have HF : Hid (∀ (v : Int) (T : Nat -> Ptyp.FS) wx, Vy w wx q o P { s with T := T } -> Calls Tryz.prog 187 #[.pointer (some ⟨P.pt, 0, none⟩), .int .i64 v] wx fun x w' => x = .returned (.int .i64 (Ptyp.errA s.N T v Ptyp.hRf)) /\ Vy w w' q o P { s with T := Ptyp.mapA s.N T v Ptyp.gRf }) := fun v T wx hx =>
  (Pvtyp.rref_any _ _ _ v T wx hx.ws.n64 hx.v.typ).mono fun _ _ ⟨h1, h2, h3⟩ => ⟨h1, hx.typ h2 h3⟩
 clear h hD hm hoD
 go_enter Tryz.func118, Tryz.ntmps118
 go_wp2_with (first
  | (go_at_call 115; refine HR.out.mono ?_; rintro e1 w1 ⟨rfl, hb⟩; have H1 := vhide (H0.out.on hb); clear hb HR)
  | fail)
 go_loopw [5] (fun i wr => ∃ k : Nat, k <= l.length /\ i = .int .i64 k /\ Vy w wr q o P { s with T := refV s.N s.T (l.take k) }) (fun i _ => l.length - (intOf i).toNat)
 case atStart => exact ⟨0, by omega, rfl, by simpa [refV] using H1.out⟩
 case round =>
  obtain ⟨k, hk, rfl, hI⟩ := hrel
  have HI := vhide hI
  clear hI H1
  by_cases hlt : k < l.length
  · have hki : (k : Int) < (l.length : Int) := by omega
    have cD : wr.cell? ⟨D, k, none⟩ = some (.int .i64 l[k]) := nums_at (nums_far HD.out HI.out HoD.out) hlt
    have hw : wrap64 ((k : Int) + 1) = (k : Int) + 1 := by have := HL.out; unfold wrap64; omega
    have e1 : refV s.N s.T (l.take (k + 1)) = Ptyp.mapA s.N (refV s.N s.T (l.take k)) l[k] Ptyp.gRf := by rw [<- refV_snoc, List.take_add_one, List.getElem?_eq_getElem hlt]; rfl
    have HO := vhide (HF.out l[k] _ wr.drew HI.out.drew)
    rw [<- e1] at HO
    clear e1
    generalize l[k] = v at cD HO
    have kS0 : wr.drew.cell? ⟨q, 4, none⟩ = some (.pointer (some ⟨P.pt, 0, none⟩)) /\ wr.drew.cell? ⟨D, k, none⟩ = some (.int .i64 v) := ⟨HI.out.v.cells.2.2.2.2.1, cD⟩
    have hDl : D < w.heap.size := by
     obtain ⟨cs, e, _⟩ := HD.out.row
     exact (Array.getElem?_eq_some_iff.1 e).1
    clear cD
    go_upto_region 6 with fail
    go_region_held3 (fun x => x.cell? ⟨q, 4, none⟩ = some (.pointer (some ⟨P.pt, 0, none⟩)) /\ x.cell? ⟨D, k, none⟩ = some (.int .i64 v)) (first | with_reducible assumption | with_reducible exact kS0 | with_reducible exact kS1 | go_keep) (first
     | (go_at_call 187; refine HO.out.mono ?_; rintro e1 w1 ⟨rfl, hk2⟩; have HI1 := vhide hk2; have kS1 : w1.cell? ⟨q, 4, none⟩ = some (.pointer (some ⟨P.pt, 0, none⟩)) /\ w1.cell? ⟨D, k, none⟩ = some (.int .i64 v) := ⟨hk2.v.cells.2.2.2.2.1, (World.cell?_of_block (w := wr) ((hk2.far HoD.out hDl).trans (HI.out.far HoD.out hDl).symm)).trans kS0.2⟩; clear hk2 HO)
     | fail)
    all_goals
     clear HI kS0 kS1
     go_wp2
     go_roundw
     case rel => exact ⟨k + 1, by omega, by go_num, HI1.out⟩
     case measure => simp only [intOf]; omega
  · obtain rfl : k = l.length := by omega
    rw [List.take_length] at HI
    go_wp2
    go_ret
    exact ⟨rfl, HI.out⟩
end
structure Vr (w0 w : World) (q : Nat) (o : Nat -> Nat) (P : Pl) (s : St) (R : Nat) (c : Obj) : Prop where
 y : Vy w0 w q o P s
 row : w.heap[R]? = some c
 far : 17 < o R
def six0 (t : TypeId) : Obj := .cells #[.int .i64 0, .int .i64 0, .int .i64 0, .int .i64 0, .int .i64 0, .int .i64 0] t (0, 0)
section
variable {w0 w w' : World} {q : Nat} {o : Nat -> Nat} {P : Pl} {s s' : St} {R : Nat} {c : Obj}
theorem Vr.on (h : Vr w0 w q o P s R c) (hB : Below w.heap.size w w') : Vr w0 w' q o P s R c := ⟨h.y.on hB, (hB.block R (Array.getElem?_eq_some_iff.1 h.row).1).trans h.row, h.far⟩
theorem Vr.go (h : Vr w0 w q o P s R c) (k : Vy w w' q o P s') : Vr w0 w' q o P s' R c := ⟨h.y.go k, (k.far h.far (Array.getElem?_eq_some_iff.1 h.row).1).trans h.row, h.far⟩
theorem Vy.high (h : Vy w0 w q o P s) {D : Nat} (hD : w.heap.size <= D) : 17 < o D := by
 rcases Nat.lt_or_ge 17 (o D) with e | e
 · exact e
 · exact absurd (h.v.own D e) (by omega)
theorem vr_new (h : Vy w0 w q o P s) (cs : Array Value) (t : TypeId) : Vr w0 (w.alloc (.cells cs t)) q o P s w.heap.size (.cells cs t (0, 0)) := ⟨h.on (bal (Below.refl _ _) _), heap_alloc_new _ _, h.high (Nat.le_refl _)⟩
theorem Vr.cell {cs : Array Value} {t : TypeId} (h : Vr w0 w q o P s R (.cells cs t (0, 0))) (j : Nat) {v : Value} (hv : cs[j]? = some v) : w.cell? ⟨R, j, none⟩ = some v := by
 rw [cell_of_row w R j _ _ _ h.row]
 exact hv
theorem Vr.frz {cs : Array Value} {t : TypeId} (h : Vr w0 w q o P s R (.cells cs t (0, 0))) (j : Nat) : w.frozen? ⟨R, j, none⟩ = false := frozen_of_row _ _ _ _ _ h.row
theorem Vy.live {L' : Nat -> Plive.LS} (h : Vy w0 w q o P s) (hR : Pvlive.RefIs w' (fun i => o i = 4) P.pl 64 L') (k : Tint (fun i => o i = 4) w w') : Vy w0 w' q o P { s with L := L' } :=
 ⟨⟨h.v.turnL hR k, h.x.k.trans (wide 4 (by omega) k)⟩, ⟨h.ws.n1, h.ws.n64, h.ws.c1, h.ws.c4⟩, h.fit⟩
theorem nums_new (w : World) (l : List Int) : Nums (w.alloc (.cells (l.map (Value.int .i64)).toArray 3)) w.heap.size l := ⟨_, heap_alloc_new _ _, fun j hj => by simp [hj]⟩
theorem room2 (a b : Int) (h : Vy w0 w q o P s) (hm : rmV s a /\ rmV s b) : Calls Tryz.prog 115 #[.pointer (some ⟨q, 0, none⟩), .slice (some ⟨w.heap.size, 0, none⟩) 2 2] (w.alloc (.cells #[.int .i64 a, .int .i64 b] 3)) fun e w' => e = .returned (.bool true) /\ Below w.heap.size w w' :=
 (rroom_yes (cap := 2) [a, b] (by simp) (h.on (bal (Below.refl _ _) _)) (nums_new w [a, b]) (by simpa using hm)).mono fun _ _ ⟨h1, h2⟩ => ⟨h1, (bal (Below.refl _ _) _).trans (h2.mono (by simp))⟩
theorem vgo_alloc (h : Vy w0 w q o P s) {ob : Obj} (k : Vy (w.alloc ob) w' q o P s') : Vy w w' q o P s' := (h.here.on (bal (Below.refl _ _) ob)).go k
theorem refs1 (a : Int) (h : Vy w0 w q o P s) (hm : rmV s a) : Calls Tryz.prog 118 #[.pointer (some ⟨q, 0, none⟩), .slice (some ⟨w.heap.size, 0, none⟩) 1 1] (w.alloc (.cells #[.int .i64 a] 3)) fun e w' => e = .returned (.int .i64 0) /\ Vy w w' q o P { s with T := refV s.N s.T [a] } :=
 (rrefs_yes (cap := 1) [a] (by simp) (h.on (bal (Below.refl _ _) _)) (nums_new w [a]) (h.high (Nat.le_refl _)) (by simpa using hm)).mono fun _ _ ⟨h1, h2⟩ => ⟨h1, vgo_alloc h h2⟩
theorem refs2 (a b : Int) (h : Vy w0 w q o P s) (hm : rmV s a /\ rmV s b) : Calls Tryz.prog 118 #[.pointer (some ⟨q, 0, none⟩), .slice (some ⟨w.heap.size, 0, none⟩) 2 2] (w.alloc (.cells #[.int .i64 a, .int .i64 b] 3)) fun e w' => e = .returned (.int .i64 0) /\ Vy w w' q o P { s with T := refV s.N s.T [a, b] } :=
 (rrefs_yes (cap := 2) [a, b] (by simp) (h.on (bal (Below.refl _ _) _)) (nums_new w [a, b]) (h.high (Nat.le_refl _)) (by simpa using hm)).mono fun _ _ ⟨h1, h2⟩ => ⟨h1, vgo_alloc h h2⟩
theorem vset {d : World} {W : World} {cs : Array Value} {t : TypeId} (h : Vr d W q o P s R (.cells cs t (0, 0))) (hR : d.heap.size <= R) (j : Nat) (v : Value) : Vr d (W.setCell ⟨R, j, none⟩ v) q o P s R (.cells (cs.setIfInBounds j v) t (0, 0)) := by
 have hk : ∀ i, o i <= 17 -> i < W.heap.size -> (W.setCell ⟨R, j, none⟩ v).heap[i]? = W.heap[i]? := fun i hi _ => heap_setCell_other _ _ _ _ (by
  show i ≠ R
  rintro rfl
  have := h.far
  omega)
 refine ⟨⟨⟨h.y.v.keep (by simp) hk h.y.ws.c4, ⟨h.y.x.k.os, h.y.x.k.tape, h.y.x.k.output, Nat.le_trans h.y.x.k.size (by simp), fun i hi hn => ?_⟩⟩, h.y.ws, h.y.fit⟩, heap_setCell_same _ _ _ _ _ _ h.row, h.far⟩
 exact (heap_setCell_other _ _ _ _ (by show i ≠ R; omega)).trans (h.y.x.k.block i hi hn)
theorem rfcomp_yes (f : Int) (c : Pcomp.Cp) (h : Vy w0 w q o P s) (hE : Pcomp.gtE s.N s.M f = 0) (hC : Pcomp.gtC s.N s.M f = c) (hL : Plive.vaA 64 s.L c.l c.e = true) : Calls Tryz.prog 126 #[.pointer (some ⟨q, 0, none⟩), .int .i64 f] w fun e w' => e = .returned (.tuple #[.agg #[.int .i64 c.tb, .int .i64 c.pg, .int .i64 c.l, .int .i64 c.e, .int .i64 c.fa, .int .i64 c.wh], .int .i64 0]) /\ Below w.heap.size w w' := by
 have HG : Hid (∀ wx, Vy w wx q o P s -> Calls Tryz.prog 206 #[.pointer (some ⟨P.pm, 0, none⟩), .int .i64 f] wx fun e w' => e = .returned (.tuple #[.agg #[.int .i64 c.tb, .int .i64 c.pg, .int .i64 c.l, .int .i64 c.e, .int .i64 c.fa, .int .i64 c.wh], .int .i64 0]) /\ Below wx.heap.size wx w') := fun wx hx => by
  have := Pcomp.rget_any _ _ _ f _ wx hx.rx
  rwa [hE, hC] at this
 have HV : Hid (∀ wx, Vy w wx q o P s -> Calls Tryz.prog 207 #[.pointer (some ⟨P.pl, 0, none⟩), .int .i64 c.l, .int .i64 c.e] wx fun e w' => e = .returned (.bool true) /\ w' = wx) := fun wx hx => by
  have := Pvlive.rvalid_any _ _ _ _ c.l c.e wx (by omega) hx.v.live
  rwa [hL] at this
 have H0 := vhide (vr_new h.here #[.int .i64 0, .int .i64 0, .int .i64 0, .int .i64 0, .int .i64 0, .int .i64 0] 156)
 have HB0 := vhide (bal (Below.refl w.heap.size w) (.cells #[.int .i64 0, .int .i64 0, .int .i64 0, .int .i64 0, .int .i64 0, .int .i64 0] 156))
 clear h hE hC hL
 obtain ⟨y0, y1, y2, y3, y4, y5⟩ := c
 dsimp only at HG HV ⊢
 go_enter Tryz.func126, Tryz.ntmps126
 go_upto_region 1 with fail
 generalize w.alloc _ = w1 at H0 HB0 ⊢
 generalize hR : w.heap.size = R at H0 HB0 ⊢
 have c0 := H0.out.y.v.cells.1
 go_upto_region 2 with (first
  | (go_at_call 206; refine (HG.out _ H0.out.y).mono ?_; rintro e1 w2 ⟨rfl, hb⟩; have H1 := vhide (H0.out.on hb); have HB1 := vhide (HB0.out.trans (hb.mono (by have := HB0.out.size; omega))); clear hb HG H0 HB0 c0)
  | fail)
 have H2 := vhide (And.intro (H1.out.on (bal (Below.refl _ _) (.cells #[.int .i64 y0, .int .i64 y1, .int .i64 y2, .int .i64 y3, .int .i64 y4, .int .i64 y5] 156))) (heap_alloc_new w2 (.cells #[.int .i64 y0, .int .i64 y1, .int .i64 y2, .int .i64 y3, .int .i64 y4, .int .i64 y5] 156)))
 have HB2 : Hid (Below R w (w2.alloc (.cells #[.int .i64 y0, .int .i64 y1, .int .i64 y2, .int .i64 y3, .int .i64 y4, .int .i64 y5] 156))) := by
  have hb := HB1.out
  rw [<- hR] at hb ⊢
  exact bal hb _
 clear H1 HB1
 generalize w2.alloc _ = w3 at H2 HB2 ⊢
 generalize w2.heap.size = E at H2 ⊢
 go_upto_region 4 with fail
 have HBd : Hid (Below R w w3.drew) := HB2.out.drew
 have kS0 : w3.drew.cell? ⟨q, 5, none⟩ = some (.pointer (some ⟨P.pl, 0, none⟩)) /\ w3.drew.cell? ⟨E, 2, none⟩ = some (.int .i64 y2) /\ w3.drew.cell? ⟨E, 3, none⟩ = some (.int .i64 y3) := ⟨H2.out.1.y.v.cells.2.2.2.2.2.1, (by rw [cell_of_row w3.drew E 2 _ _ _ H2.out.2]; rfl), (by rw [cell_of_row w3.drew E 3 _ _ _ H2.out.2]; rfl)⟩
 have HVd := vhide (HV.out _ H2.out.1.y.drew)
 go_region_held3 (fun x => x.cell? ⟨q, 5, none⟩ = some (.pointer (some ⟨P.pl, 0, none⟩)) /\ x.cell? ⟨E, 2, none⟩ = some (.int .i64 y2) /\ x.cell? ⟨E, 3, none⟩ = some (.int .i64 y3)) (first | with_reducible assumption | with_reducible exact kS0 | go_keep) (first
  | (go_at_call 207; refine HVd.out.mono ?_; rintro e1 w4 ⟨rfl, rfl⟩)
  | fail)
 all_goals
  have z0 : w3.drew.cell? ⟨E, 0, none⟩ = some (.int .i64 y0) := (by rw [cell_of_row w3.drew E 0 _ _ _ H2.out.2]; rfl)
  have z1 : w3.drew.cell? ⟨E, 1, none⟩ = some (.int .i64 y1) := (by rw [cell_of_row w3.drew E 1 _ _ _ H2.out.2]; rfl)
  have z2 := kS0.2.1
  have z3 := kS0.2.2
  have z4 : w3.drew.cell? ⟨E, 4, none⟩ = some (.int .i64 y4) := (by rw [cell_of_row w3.drew E 4 _ _ _ H2.out.2]; rfl)
  have z5 : w3.drew.cell? ⟨E, 5, none⟩ = some (.int .i64 y5) := (by rw [cell_of_row w3.drew E 5 _ _ _ H2.out.2]; rfl)
  have HRw : Hid (Vr w w3.drew q o P s R (six0 156)) := ⟨H2.out.1.y.drew, H2.out.1.row, H2.out.1.far⟩
  clear H2 HB2 HV HVd kS0
  generalize w3.drew = w4 at HRw HBd z0 z1 z2 z3 z4 z5 ⊢
  have x0 := HRw.out.cell 0 rfl
  have x1 := HRw.out.cell 1 rfl
  have x2 := HRw.out.cell 2 rfl
  have x3 := HRw.out.cell 3 rfl
  have x4 := HRw.out.cell 4 rfl
  have x5 := HRw.out.cell 5 rfl
  have f0 := HRw.out.frz 0
  have f1 := HRw.out.frz 1
  have f2 := HRw.out.frz 2
  have f3 := HRw.out.frz 3
  have f4 := HRw.out.frz 4
  have f5 := HRw.out.frz 5
  have hbw : Below w.heap.size w w4 := by
   have := HBd.out
   rwa [<- hR] at this
  have HE := vhide (And.intro (Nat.le_of_eq hR) (And.intro hbw HRw.out.far))
  clear hbw
  clear HRw HBd
  go_wp2
  refine bodyPost_ret (v := .tuple #[.agg #[.int .i64 y0, .int .i64 y1, .int .i64 y2, .int .i64 y3, .int .i64 y4, .int .i64 y5], .int .i64 0]) (by simp [results, Tryz.results126, go_sem, x0, x1, x2, x3, x4, x5]) rfl ⟨rfl, ?_⟩
  exact bst (bst (bst (bst (bst (bst HE.out.2.1 HE.out.1 _ _) HE.out.1 _ _) HE.out.1 _ _) HE.out.1 _ _) HE.out.1 _ _) HE.out.1 _ _
theorem vcomp_ok (f a b ID EP fl : Int) (TL : Nat -> Plive.LS) (h : Vy w0 w q o P s) (hf : frG s f) (ha : hvG s a 1) (hb : hvG s b 2) (hm : rmV s a /\ rmV s b) (hfl : Pclock.floE s.n s.C = fl) (hID : Plive.tkI 64 s.L fl = ID) (hEP : Plive.tkE 64 s.L fl = EP) (hTL : Plive.tkS 64 s.L fl = TL) (hl : Plive.tkR 64 s.L fl = 0) :
 Calls Tryz.prog 67 #[.pointer (some ⟨q, 0, none⟩), .int .i64 f, .int .i64 a, .int .i64 b] w fun e w' => e = .returned (.tuple #[.agg #[.int .i64 5, .int .i64 31, .int .i64 f, .int .i64 ID, .int .i64 EP, .int .i64 0], .int .i64 0]) /\ Vy w w' q o P { s with L := TL, T := refV s.N s.T [a, b], M := Pcomp.mkM s.N s.M f ⟨a, b, ID, EP, 0, 0⟩ } := by
 have HF : Hid (∀ wx, Vy w wx q o P s -> Calls Tryz.prog 102 #[.pointer (some ⟨q, 0, none⟩), .int .i64 f] wx fun e w' => e = .returned (.int .i64 0) /\ Below wx.heap.size wx w') := fun wx hx => rfresh_ok f hx hf
 have HT : Hid (∀ wx, Vy w wx q o P s -> Calls Tryz.prog 113 #[.pointer (some ⟨P.pm, 0, none⟩), .int .i64 a, .int .i64 0] wx fun e w' => e = .returned (.tuple #[.bool true, .bool (Phead.ghZ s.N s.M a)]) /\ Below wx.heap.size wx w') := fun wx hx => vttable_yes a hx ha
 have HP : Hid (∀ wx, Vy w wx q o P s -> Calls Tryz.prog 114 #[.pointer (some ⟨P.pm, 0, none⟩), .int .i64 b, .int .i64 0] wx fun e w' => e = .returned (.bool true) /\ Below wx.heap.size wx w') := fun wx hx => vptable_yes b hx hb
 have HRo : Hid (∀ wx, Vy w wx q o P s -> Calls Tryz.prog 115 #[.pointer (some ⟨q, 0, none⟩), .slice (some ⟨wx.heap.size, 0, none⟩) 2 2] (wx.alloc (.cells #[.int .i64 a, .int .i64 b] 3)) fun e w' => e = .returned (.bool true) /\ Below wx.heap.size wx w') := fun wx hx => room2 a b hx hm
 have HFl : Hid (∀ wx, Vy w wx q o P s -> Calls Tryz.prog 116 #[.pointer (some ⟨P.pc, 0, none⟩)] wx fun e w' => e = .returned (.tuple #[.int .i64 fl, .int .i64 (Pclock.floF s.n s.C)]) /\ Below wx.heap.size wx w') := fun wx hx => by
  have := Pvclock.rfloor_any _ _ _ s.C wx hx.ws.c1 hx.ws.c4 hx.v.clock
  rw [hfl] at this
  refine this.mono ?_
  rintro e w' ⟨h1, n, rfl⟩
  exact ⟨h1, below_dN (Below.refl _ _) _⟩
 have HTk : Hid (∀ wx, Vy w wx q o P s -> Calls Tryz.prog 117 #[.pointer (some ⟨P.pl, 0, none⟩), .int .i64 fl] wx fun e w' => e = .returned (.tuple #[.int .i64 ID, .int .i64 EP, .int .i64 0]) /\ Vy wx w' q o P { s with L := TL }) := fun wx hx => by
  have := Pvlive.rtake_any _ _ _ _ fl wx (by omega) hx.v.live
  rw [hID, hEP, hTL, hl] at this
  exact this.mono fun _ _ ⟨h1, h2, h3⟩ => ⟨h1, hx.here.live h2 h3⟩
 have HRf : Hid (∀ wx, Vy w wx q o P { s with L := TL } -> Calls Tryz.prog 118 #[.pointer (some ⟨q, 0, none⟩), .slice (some ⟨wx.heap.size, 0, none⟩) 2 2] (wx.alloc (.cells #[.int .i64 a, .int .i64 b] 3)) fun e w' => e = .returned (.int .i64 0) /\ Vy wx w' q o P { s with L := TL, T := refV s.N s.T [a, b] }) := fun wx hx => refs2 a b hx hm
 have HMk : Hid (∀ wx, Vy w wx q o P { s with L := TL, T := refV s.N s.T [a, b] } -> Calls Tryz.prog 119 #[.pointer (some ⟨P.pm, 0, none⟩), .int .i64 f, .agg #[.int .i64 a, .int .i64 b, .int .i64 ID, .int .i64 EP, .int .i64 0, .int .i64 0]] wx fun e w' => e = .returned (.int .i64 (Pcomp.mkE s.N f ⟨a, b, ID, EP, 0, 0⟩)) /\ Vy wx w' q o P { s with L := TL, T := refV s.N s.T [a, b], M := Pcomp.mkM s.N s.M f ⟨a, b, ID, EP, 0, 0⟩ }) := fun wx hx =>
  (Pcomp.rmakek_any _ _ _ f ⟨a, b, ID, EP, 0, 0⟩ _ wx hx.rx).mono fun _ _ ⟨h1, h2, h3, h4⟩ => ⟨h1, hx.here.rxk h2 h3 h4⟩
 have H0 := vhide (vr_new h.here #[.int .i64 0, .int .i64 0, .int .i64 0, .int .i64 0, .int .i64 0, .int .i64 0] 91)
 clear h hf ha hb hm hfl hID hEP hTL hl
 generalize Pcomp.mkM s.N s.M f ⟨a, b, ID, EP, 0, 0⟩ = M' at HMk ⊢
 generalize Pcomp.mkE s.N f ⟨a, b, ID, EP, 0, 0⟩ = E' at HMk
 generalize refV s.N s.T [a, b] = T' at HRf HMk ⊢
 generalize Phead.ghZ s.N s.M a = Z at HT
 generalize Pclock.floF s.n s.C = F2 at HFl
 go_enter Tryz.func67, Tryz.ntmps67
 go_upto_region 1 with fail
 generalize w.alloc _ = w1 at H0 ⊢
 generalize hR : w.heap.size = R at H0 ⊢
 have HR0 : w.heap.size <= R := Nat.le_of_eq hR
 clear hR
 go_upto_region 15 with (first
  | (go_at_call 102; refine (HF.out _ H0.out.y).mono ?_; rintro e1 w2 ⟨rfl, hb⟩; have H1 := vhide (H0.out.on hb); have c0 := H1.out.y.v.cells.1; clear hb HF H0)
  | (go_at_call 113; refine (HT.out _ H1.out.y).mono ?_; rintro e1 w3 ⟨rfl, hb⟩; have H2 := vhide (H1.out.on hb); clear c0; have c0 := H2.out.y.v.cells.1; clear hb HT H1)
  | (go_at_call 114; refine (HP.out _ H2.out.y).mono ?_; rintro e1 w4 ⟨rfl, hb⟩; have H3 := vhide (H2.out.on hb); clear hb HP H2 c0)
  | (go_at_call 115; refine (HRo.out _ H3.out.y).mono ?_; rintro e1 w5 ⟨rfl, hb⟩; have H4 := vhide (H3.out.on hb); have c1 := H4.out.y.v.cells.2.1; clear hb HRo H3)
  | (go_at_call 116; refine (HFl.out _ H4.out.y).mono ?_; rintro e1 w6 ⟨rfl, hb⟩; have H5 := vhide (H4.out.on hb); have c5 := H5.out.y.v.cells.2.2.2.2.2.1; clear hb HFl H4 c1)
  | (go_at_call 117; refine (HTk.out _ H5.out.y).mono ?_; rintro e1 w7 ⟨rfl, hk⟩; have H6 := vhide (H5.out.go hk); clear hk HTk H5 c5)
  | (go_at_call 118; refine (HRf.out _ H6.out.y).mono ?_; rintro e1 w8 ⟨rfl, hk⟩; have H7 := vhide (H6.out.go hk); have c0 := H7.out.y.v.cells.1; clear hk HRf H6)
  | (go_at_call 119; refine (HMk.out _ H7.out.y).mono ?_; rintro e1 w9 ⟨rfl, hk⟩; have H8 := vhide (H7.out.go hk); clear hk HMk H7 c0)
  | fail)
 have x0 := H8.out.cell 0 rfl
 have x1 := H8.out.cell 1 rfl
 have x2 := H8.out.cell 2 rfl
 have x3 := H8.out.cell 3 rfl
 have x4 := H8.out.cell 4 rfl
 have x5 := H8.out.cell 5 rfl
 have f0 := H8.out.frz 0
 have f1 := H8.out.frz 1
 have f2 := H8.out.frz 2
 have f3 := H8.out.frz 3
 have f4 := H8.out.frz 4
 have f5 := H8.out.frz 5
 go_wp2
 refine bodyPost_ret (v := .tuple #[.agg #[.int .i64 5, .int .i64 31, .int .i64 f, .int .i64 ID, .int .i64 EP, .int .i64 0], .int .i64 0]) (by simp [results, Tryz.results67, go_sem, x0, x1, x2, x3, x4, x5]) rfl ⟨rfl, ?_⟩
 exact (vset (vset (vset (vset (vset (vset H8.out HR0 0 _) HR0 1 _) HR0 2 _) HR0 3 _) HR0 4 _) HR0 5 _).y
theorem vtcap_ok (f : Int) (h : Vy w0 w q o P s) (hf : frG s f) : Calls Tryz.prog 69 #[.pointer (some ⟨q, 0, none⟩), .int .i64 f] w fun e w' => e = .returned (.int .i64 (Ptcap.mkE s.N f Ptcap.bd0)) /\ Vy w w' q o P { s with M := Ptcap.mkM s.N s.M f Ptcap.bd0 } := by
 have HF := vhide (rfresh_ok f h hf)
 have HM : Hid (∀ wx, Vy w wx q o P s -> Calls Tryz.prog 121 #[.pointer (some ⟨P.pm, 0, none⟩), .int .i64 f, .agg #[.bool false, .int .i64 0, .int .i64 0]] wx fun e w' => e = .returned (.int .i64 (Ptcap.mkE s.N f Ptcap.bd0)) /\ Vy wx w' q o P { s with M := Ptcap.mkM s.N s.M f Ptcap.bd0 }) := fun wx hx =>
  (Ptcap.rmake_any _ _ _ f Ptcap.bd0 _ wx hx.rx).mono fun _ _ ⟨h1, h2, h3, h4⟩ => ⟨h1, hx.here.rxk h2 h3 h4⟩
 have H0 := vhide h.here
 clear h hf
 generalize Ptcap.mkM s.N s.M f Ptcap.bd0 = M' at HM ⊢
 generalize Ptcap.mkE s.N f Ptcap.bd0 = E' at HM ⊢
 go_enter Tryz.func69, Tryz.ntmps69
 go_wp2_with (first
  | (go_at_call 102; refine HF.out.mono ?_; rintro e1 w1 ⟨rfl, hb⟩; have H1 := vhide (H0.out.on hb); have c0 := H1.out.v.cells.1; clear hb HF H0)
  | (go_at_call 121; refine (HM.out _ H1.out).mono ?_; rintro e2 w2 ⟨rfl, hk⟩; have H2 := vhide (H1.out.go hk); clear hk HM H1 c0)
  | fail)
 go_ret
 exact ⟨rfl, H2.out⟩
theorem vthd_ok (f c a : Int) (x : Pcomp.Cp) (h : Vy w0 w q o P s) (hf : frG s f) (hE : Pcomp.gtE s.N s.M c = 0) (hC : Pcomp.gtC s.N s.M c = x) (hL : Plive.vaA 64 s.L x.l x.e = true) (he : Phead.ghE s.N s.M a = 0) (hk : Phead.ghK s.N s.M a = 5) (hm : rmV s a) :
 Calls Tryz.prog 71 #[.pointer (some ⟨q, 0, none⟩), .int .i64 f, .int .i64 c, .int .i64 a, .int .i64 0] w fun e w' => e = .returned (.int .i64 (Pstack.psE s.N (Pthd.mkM s.N s.M f ⟨0, 0, a, 0, 0⟩) f ⟨c, x.tb, x.pg, x.l, x.e, 0⟩)) /\ Vy w w' q o P { s with T := refV s.N s.T [a], M := Pstack.psM s.N (Pthd.mkM s.N s.M f ⟨0, 0, a, 0, 0⟩) f ⟨c, x.tb, x.pg, x.l, x.e, 0⟩ } := by
 have HF := vhide (rfresh_ok f h hf)
 have HC : Hid (∀ wx, Vy w wx q o P s -> Calls Tryz.prog 126 #[.pointer (some ⟨q, 0, none⟩), .int .i64 c] wx fun e w' => e = .returned (.tuple #[.agg #[.int .i64 x.tb, .int .i64 x.pg, .int .i64 x.l, .int .i64 x.e, .int .i64 x.fa, .int .i64 x.wh], .int .i64 0]) /\ Below wx.heap.size wx w') := fun wx hx => rfcomp_yes c x hx hE hC hL
 have HI : Hid (∀ wx, Vy w wx q o P s -> Calls Tryz.prog 127 #[.pointer (some ⟨q, 0, none⟩), .int .i64 a, .int .i64 5] wx fun e w' => e = .returned (.bool true) /\ Below wx.heap.size wx w') := fun wx hx => risk_yes a 5 hx he hk
 have HRf : Hid (∀ wx, Vy w wx q o P s -> Calls Tryz.prog 118 #[.pointer (some ⟨q, 0, none⟩), .slice (some ⟨wx.heap.size, 0, none⟩) 1 1] (wx.alloc (.cells #[.int .i64 a] 3)) fun e w' => e = .returned (.int .i64 0) /\ Vy wx w' q o P { s with T := refV s.N s.T [a] }) := fun wx hx => refs1 a hx hm
 have HMk : Hid (∀ wx, Vy w wx q o P { s with T := refV s.N s.T [a] } -> Calls Tryz.prog 129 #[.pointer (some ⟨P.pm, 0, none⟩), .int .i64 f, .agg #[.int .i64 0, .int .i64 0, .int .i64 a, .int .i64 0, .int .i64 0]] wx fun e w' => e = .returned (.int .i64 (Pthd.mkE s.N f ⟨0, 0, a, 0, 0⟩)) /\ Vy wx w' q o P { s with T := refV s.N s.T [a], M := Pthd.mkM s.N s.M f ⟨0, 0, a, 0, 0⟩ }) := fun wx hx =>
  (Pthd.rmake_any _ _ _ f ⟨0, 0, a, 0, 0⟩ _ wx hx.rx).mono fun _ _ ⟨h1, h2, h3, h4⟩ => ⟨h1, hx.here.rxk h2 h3 h4⟩
 have HPs : Hid (∀ wx, Vy w wx q o P { s with T := refV s.N s.T [a], M := Pthd.mkM s.N s.M f ⟨0, 0, a, 0, 0⟩ } -> Calls Tryz.prog 130 #[.pointer (some ⟨P.pm, 0, none⟩), .int .i64 f, .agg #[.int .i64 c, .int .i64 x.tb, .int .i64 x.pg, .int .i64 x.l, .int .i64 x.e, .int .i64 0]] wx fun e w' => e = .returned (.int .i64 (Pstack.psE s.N (Pthd.mkM s.N s.M f ⟨0, 0, a, 0, 0⟩) f ⟨c, x.tb, x.pg, x.l, x.e, 0⟩)) /\ Vy wx w' q o P { s with T := refV s.N s.T [a], M := Pstack.psM s.N (Pthd.mkM s.N s.M f ⟨0, 0, a, 0, 0⟩) f ⟨c, x.tb, x.pg, x.l, x.e, 0⟩ }) := fun wx hx =>
  (Pstack.rpush_any _ _ _ f ⟨c, x.tb, x.pg, x.l, x.e, 0⟩ _ wx hx.rx).mono fun _ _ ⟨h1, h2, h3, h4⟩ => ⟨h1, hx.here.rxk h2 h3 h4⟩
 have H0 := vhide h.here
 clear h hf hE hC hL he hk hm
 generalize Pstack.psM s.N (Pthd.mkM s.N s.M f ⟨0, 0, a, 0, 0⟩) f ⟨c, x.tb, x.pg, x.l, x.e, 0⟩ = M2 at HPs ⊢
 generalize Pstack.psE s.N (Pthd.mkM s.N s.M f ⟨0, 0, a, 0, 0⟩) f ⟨c, x.tb, x.pg, x.l, x.e, 0⟩ = E2 at HPs ⊢
 generalize Pthd.mkM s.N s.M f ⟨0, 0, a, 0, 0⟩ = M1 at HMk HPs
 generalize Pthd.mkE s.N f ⟨0, 0, a, 0, 0⟩ = E1 at HMk
 generalize refV s.N s.T [a] = T' at HRf HMk HPs ⊢
 obtain ⟨y0, y1, y2, y3, y4, y5⟩ := x
 dsimp only at HC HPs ⊢
 go_enter Tryz.func71, Tryz.ntmps71
 go_upto_region 5 with (first
  | (go_at_call 102; refine HF.out.mono ?_; rintro e1 w1 ⟨rfl, hb⟩; have H1 := vhide (H0.out.on hb); clear hb HF H0)
  | (go_at_call 126; refine (HC.out _ H1.out).mono ?_; rintro e1 w2 ⟨rfl, hb⟩; have H2 := vhide (H1.out.on hb); clear hb HC H1)
  | fail)
 have H3 := vhide (vr_new H2.out #[.int .i64 y0, .int .i64 y1, .int .i64 y2, .int .i64 y3, .int .i64 y4, .int .i64 y5] 156)
 clear H2
 generalize w2.alloc _ = w3 at H3 ⊢
 generalize w2.heap.size = E at H3 ⊢
 go_upto_region 12 with (first
  | (go_at_call 127; refine (HI.out _ H3.out.y).mono ?_; rintro e1 w4 ⟨rfl, hb⟩; have H4 := vhide (H3.out.on hb); clear hb HI H3)
  | (go_at_call 128; refine (rsome_no _ _ _ _).mono ?_; rintro e1 w5 ⟨rfl, rfl⟩)
  | (go_at_call 118; refine (HRf.out _ H4.out.y).mono ?_; rintro e1 w6 ⟨rfl, hk⟩; have H5 := vhide (H4.out.go hk); have c0 := H5.out.y.v.cells.1; clear hk HRf H4)
  | (go_at_call 129; refine (HMk.out _ H5.out.y).mono ?_; rintro e1 w7 ⟨rfl, hk⟩; have H6 := vhide (H5.out.go hk); clear hk HMk H5 c0)
  | fail)
 have HPd := vhide (HPs.out _ H6.out.y.drew)
 have kS0 : w7.drew.cell? ⟨q, 0, none⟩ = some (.pointer (some ⟨P.pm, 0, none⟩)) /\ w7.drew.cell? ⟨E, 0, none⟩ = some (.int .i64 y0) /\ w7.drew.cell? ⟨E, 1, none⟩ = some (.int .i64 y1) /\ w7.drew.cell? ⟨E, 2, none⟩ = some (.int .i64 y2) /\ w7.drew.cell? ⟨E, 3, none⟩ = some (.int .i64 y3) := ⟨H6.out.y.v.cells.1, H6.out.cell 0 rfl, H6.out.cell 1 rfl, H6.out.cell 2 rfl, H6.out.cell 3 rfl⟩
 go_region_held3 (fun x => x.cell? ⟨q, 0, none⟩ = some (.pointer (some ⟨P.pm, 0, none⟩)) /\ x.cell? ⟨E, 0, none⟩ = some (.int .i64 y0) /\ x.cell? ⟨E, 1, none⟩ = some (.int .i64 y1) /\ x.cell? ⟨E, 2, none⟩ = some (.int .i64 y2) /\ x.cell? ⟨E, 3, none⟩ = some (.int .i64 y3)) (first | with_reducible assumption | with_reducible exact kS0 | with_reducible exact kS1 | go_keep) (first
  | (go_at_call 130; refine HPd.out.mono ?_; rintro e1 w8 ⟨rfl, hk⟩; have kS1 : w8.cell? ⟨q, 0, none⟩ = some (.pointer (some ⟨P.pm, 0, none⟩)) /\ w8.cell? ⟨E, 0, none⟩ = some (.int .i64 y0) /\ w8.cell? ⟨E, 1, none⟩ = some (.int .i64 y1) /\ w8.cell? ⟨E, 2, none⟩ = some (.int .i64 y2) /\ w8.cell? ⟨E, 3, none⟩ = some (.int .i64 y3) := (by have h7 := (Vr.mk H6.out.y.drew H6.out.row H6.out.far : Vr w w7.drew q o P _ E _).go hk; exact ⟨h7.y.v.cells.1, h7.cell 0 rfl, h7.cell 1 rfl, h7.cell 2 rfl, h7.cell 3 rfl⟩); have H7 := vhide (H6.out.y.drew.go hk); clear hk HPd HPs)
  | fail)
 all_goals
  go_wp2
  go_ret
  exact ⟨rfl, H7.out⟩
theorem vrcv_ok (f t : Int) (h : Vy w0 w q o P s) (hf : frG s f) (he : Phead.ghE s.N s.M t = 0) (hk : Phead.ghK s.N s.M t = 4) (hm : rmV s t) :
 Calls Tryz.prog 73 #[.pointer (some ⟨q, 0, none⟩), .int .i64 f, .int .i64 t, .int .i64 0] w fun e w' => e = .returned (.int .i64 (Pqrcv.vmE s.N f ⟨t, 0, 0, false, 0⟩)) /\ Vy w w' q o P { s with T := refV s.N s.T [t], M := Pqrcv.vmM s.N s.M f ⟨t, 0, 0, false, 0⟩ } := by
 have HF := vhide (rfresh_ok f h hf)
 have HI : Hid (∀ wx, Vy w wx q o P s -> Calls Tryz.prog 127 #[.pointer (some ⟨q, 0, none⟩), .int .i64 t, .int .i64 4] wx fun e w' => e = .returned (.bool true) /\ Below wx.heap.size wx w') := fun wx hx => risk_yes t 4 hx he hk
 have HRf : Hid (∀ wx, Vy w wx q o P s -> Calls Tryz.prog 118 #[.pointer (some ⟨q, 0, none⟩), .slice (some ⟨wx.heap.size, 0, none⟩) 1 1] (wx.alloc (.cells #[.int .i64 t] 3)) fun e w' => e = .returned (.int .i64 0) /\ Vy wx w' q o P { s with T := refV s.N s.T [t] }) := fun wx hx => refs1 t hx hm
 have HMk : Hid (∀ wx, Vy w wx q o P { s with T := refV s.N s.T [t] } -> Calls Tryz.prog 133 #[.pointer (some ⟨P.pm, 0, none⟩), .int .i64 f, .agg #[.int .i64 t, .int .i64 0, .int .i64 0, .bool false, .int .i64 0]] wx fun e w' => e = .returned (.int .i64 (Pqrcv.vmE s.N f ⟨t, 0, 0, false, 0⟩)) /\ Vy wx w' q o P { s with T := refV s.N s.T [t], M := Pqrcv.vmM s.N s.M f ⟨t, 0, 0, false, 0⟩ }) := fun wx hx =>
  (Pqrcv.vmake_any _ _ _ f ⟨t, 0, 0, false, 0⟩ _ wx hx.rx).mono fun _ _ ⟨h1, h2⟩ => ⟨h1, hx.here.rxk h2.rx h2.below h2.kp⟩
 have H0 := vhide h.here
 clear h hf he hk hm
 generalize Pqrcv.vmM s.N s.M f ⟨t, 0, 0, false, 0⟩ = M' at HMk ⊢
 generalize Pqrcv.vmE s.N f ⟨t, 0, 0, false, 0⟩ = E' at HMk ⊢
 generalize refV s.N s.T [t] = T' at HRf HMk ⊢
 go_enter Tryz.func73, Tryz.ntmps73
 go_wp2_with (first
  | (go_at_call 102; refine HF.out.mono ?_; rintro e1 w1 ⟨rfl, hb⟩; have H1 := vhide (H0.out.on hb); clear hb HF H0)
  | (go_at_call 127; refine (HI.out _ H1.out).mono ?_; rintro e1 w4 ⟨rfl, hb⟩; have H4 := vhide (H1.out.on hb); clear hb HI H1)
  | (go_at_call 128; refine (rsome_no _ _ _ _).mono ?_; rintro e1 w5 ⟨rfl, rfl⟩)
  | (go_at_call 118; refine (HRf.out _ H4.out).mono ?_; rintro e1 w6 ⟨rfl, hk⟩; have H5 := vhide (H4.out.go hk); have c0 := H5.out.v.cells.1; clear hk HRf H4)
  | (go_at_call 133; refine (HMk.out _ H5.out).mono ?_; rintro e1 w7 ⟨rfl, hk⟩; have H6 := vhide (H5.out.go hk); clear hk HMk H5 c0)
  | fail)
 go_ret
 exact ⟨rfl, H6.out⟩
end
end Pvobj
end Go.Proofs.YtkkclcihjojphaaGreatDoor
