/- What the walk of ThdPlays asks of the program, paid by its contracts. -/
import Derived.Test.YtaajacmbnigadaaGreatDoorThdE
import Derived.Test.YtaajacmbnigadaaGreatDoorThdX
namespace Go.Proofs.YtaajacmbnigadaaGreatDoor.Pthd
open Go.Proofs.YtaajacmbnigadaaGreatDoor.Pbase Go.Proofs.YtaajacmbnigadaaGreatDoor.Pfield Go.Proofs.YtaajacmbnigadaaGreatDoor.Play Go.Proofs.YtaajacmbnigadaaGreatDoor.Pmem
open Go.RowKit M
set_option linter.unusedVariables false

theorem prg {w : World} (hT : Phead.TabW w) : Prg w where
  make wc M f t ht hM hF hB := (make_any _ _ 3 f t M wc ⟨hM, hT.on hB, hF, by omega, by omega⟩ ht).mono fun e w' ⟨h1, h2, h3⟩ => ⟨h1, h2.mem, h3⟩
  put wc M f t ht hM hF hB := (put_any _ _ 3 f t M wc ⟨hM, hT.on hB, hF, by omega, by omega⟩ ht).mono fun e w' ⟨h1, h2, h3⟩ => ⟨h1, h2.mem, h3⟩
  state wc M f x hx hM hF hB := (state_any _ _ 3 f x M wc ⟨hM, hT.on hB, hF, by omega, by omega⟩ hx).mono fun e w' ⟨h1, h2, h3⟩ => ⟨h1, h2.mem, h3⟩
  reg wc M f i v hv hM hF hB := (reg_any _ _ 3 f i v M wc ⟨hM, hT.on hB, hF, by omega, by omega⟩ hv).mono fun e w' ⟨h1, h2, h3⟩ => ⟨h1, h2.mem, h3⟩
  save wc M f r L hr hL hM hF hB := (save_any _ _ 3 r f M L wc ⟨hM, hT.on hB, hF, by omega, by omega⟩ hr hL).mono fun e w' ⟨h1, h2, _, h3⟩ => ⟨h1, h2.mem, h3⟩
  load wc M f r L hr hL hM hF hB := (load_any _ _ 3 r f M L wc ⟨hM, hT.on hB, hF, by omega, by omega⟩ hr).mono fun e w' ⟨h1, _, h2, h3⟩ => ⟨h1, h2, h3⟩
  get wc M f hM hF hB := get_any _ _ 3 f M wc ⟨hM, hT.on hB, hF, by omega, by omega⟩
  check wc t ht hB := check_any t ht wc
  awake wc hB := awake_any wc
end Go.Proofs.YtaajacmbnigadaaGreatDoor.Pthd
