/- What the walks ask of the program, paid by its contracts. -/
import Derived.Test.YtcoggdnpjpiacaaGreatDoorRcvE
import Derived.Test.YtcoggdnpjpiacaaGreatDoorRcvP
import Derived.Test.YtcoggdnpjpiacaaGreatDoorRcvU
namespace Go.Proofs.YtcoggdnpjpiacaaGreatDoor.Prcv
open Go.Proofs.YtcoggdnpjpiacaaGreatDoor.Pbase Go.Proofs.YtcoggdnpjpiacaaGreatDoor.Pfield Go.Proofs.YtcoggdnpjpiacaaGreatDoor.Play Go.Proofs.YtcoggdnpjpiacaaGreatDoor.Pmem Go.Proofs.YtcoggdnpjpiacaaGreatDoor.Pring
open Go.RowKit M
set_option linter.unusedVariables false

theorem mv_of {w W : World} {p b N : Nat} {M : Nat → Nat → Int} (hT : Tv w) (hB : Below w.heap.size w W) (hM : MemIs W p b N M) (hF : Fit M) (h1 : 1 ≤ N) (h2 : N ≤ 64) : Mv W p b N M := ⟨mx_of hT.ts hB hM hF h1 h2, hT.vt.on hB⟩
theorem prd (N : Nat) {w : World} (h1 : 1 ≤ N) (h2 : N ≤ 64) (hT : Tv w) : Prd N w where
  make wc M f c hc hM hF hB := (make_any _ _ N f c M wc (mv_of hT hB hM hF h1 h2) hc).mono fun e w' ⟨q1, q2, q3⟩ => ⟨q1, q2.mx.mem, q3⟩
  put wc M f c hc hM hF hB := (put_any _ _ N f c M wc (mv_of hT hB hM hF h1 h2) hc).mono fun e w' ⟨q1, q2, q3⟩ => ⟨q1, q2.mx.mem, q3⟩
  tell wc M f c hc hM hF hB := (tell_any _ _ N f c M wc (mv_of hT hB hM hF h1 h2)).mono fun e w' ⟨q1, q2, q3⟩ => ⟨q1, q2.mx.mem, q3⟩
  more wc M f hM hF hB := (more_any _ _ N f M wc (mv_of hT hB hM hF h1 h2)).mono fun e w' ⟨q1, q2, q3⟩ => ⟨q1, q2.mx.mem, q3⟩
  less wc M f hM hF hB := (less_any _ _ N f M wc (mv_of hT hB hM hF h1 h2)).mono fun e w' ⟨q1, q2, q3⟩ => ⟨q1, q2.mx.mem, q3⟩
  get wc M f hM hF hB := get_any _ _ N f M wc (mv_of hT hB hM hF h1 h2)
  check wc c hc hB := check_any c hc wc (hT.vt.on hB)
  awake wc hB := awake_any wc (hT.vt.on hB)
theorem prg (N : Nat) {w : World} (h1 : 1 ≤ N) (h2 : N ≤ 64) (hT : Tv w) : Prg N w where
  make wc M f c hc hM hF hB := (make_any _ _ N f c M wc (mv_of hT hB hM hF h1 h2) hc).mono fun e w' ⟨q1, q2, q3⟩ => ⟨q1, q2.mx.mem, q3⟩
  put wc M f c hc hM hF hB := (put_any _ _ N f c M wc (mv_of hT hB hM hF h1 h2) hc).mono fun e w' ⟨q1, q2, q3⟩ => ⟨q1, q2.mx.mem, q3⟩
  tell wc M f c hc hM hF hB := (tell_any _ _ N f c M wc (mv_of hT hB hM hF h1 h2)).mono fun e w' ⟨q1, q2, q3⟩ => ⟨q1, q2.mx.mem, q3⟩
  more wc M f hM hF hB := (more_any _ _ N f M wc (mv_of hT hB hM hF h1 h2)).mono fun e w' ⟨q1, q2, q3⟩ => ⟨q1, q2.mx.mem, q3⟩
  less wc M f hM hF hB := (less_any _ _ N f M wc (mv_of hT hB hM hF h1 h2)).mono fun e w' ⟨q1, q2, q3⟩ => ⟨q1, q2.mx.mem, q3⟩
  wait wc M f c hM hF hB := (wait_any _ _ N f M wc c (mv_of hT hB hM hF h1 h2)).mono fun e w' ⟨q1, q2, q3⟩ => ⟨q1, q2.mx.mem, q3⟩
  get wc M f hM hF hB := get_any _ _ N f M wc (mv_of hT hB hM hF h1 h2)
  check wc c hc hB := check_any c hc wc (hT.vt.on hB)
  awake wc hB := awake_any wc (hT.vt.on hB)
end Go.Proofs.YtcoggdnpjpiacaaGreatDoor.Prcv
