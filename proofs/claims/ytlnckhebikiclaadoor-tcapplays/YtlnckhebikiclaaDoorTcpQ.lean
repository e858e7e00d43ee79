/- What the walk of TcapPlays asks of the program, paid by its contracts. -/
import Derived.Test.YtlnckhebikiclaaDoorTcpE
import Derived.Test.YtlnckhebikiclaaDoorTcpX
namespace Go.Proofs.YtlnckhebikiclaaDoor.Ptcap
open Go.Proofs.YtlnckhebikiclaaDoor.Pbase Go.Proofs.YtlnckhebikiclaaDoor.Pfield Go.Proofs.YtlnckhebikiclaaDoor.Play Go.Proofs.YtlnckhebikiclaaDoor.Pmem
open Go.RowKit M
set_option linter.unusedVariables false

theorem prg {w : World} (hT : Phead.TabW w) : Prg w where
  make wc M f c hc hM hF hB := (make_any _ _ 4 f c M wc ⟨hM, hT.on hB, hF, by omega, by omega⟩ hc).mono fun e w' ⟨h1, h2, h3⟩ => ⟨h1, h2.mem, h3⟩
  put wc M f c hc hM hF hB := (put_any _ _ 4 f c M wc ⟨hM, hT.on hB, hF, by omega, by omega⟩ hc).mono fun e w' ⟨h1, h2, h3⟩ => ⟨h1, h2.mem, h3⟩
  give wc M f g n p hn hp hM hF hB := (give_any _ _ 4 f g n p M wc ⟨hM, hT.on hB, hF, by omega, by omega⟩).mono fun e w' ⟨h1, h2, h3⟩ => ⟨h1, h2.mem, h3⟩
  charge wc M f n hn hM hF hB := (charge_any _ _ 4 f n M wc ⟨hM, hT.on hB, hF, by omega, by omega⟩ hn).mono fun e w' ⟨h1, h2, h3⟩ => ⟨h1, h2.mem, h3⟩
  get wc M f hM hF hB := get_any _ _ 4 f M wc ⟨hM, hT.on hB, hF, by omega, by omega⟩
  can wc M f hM hF hB := can_any _ _ 4 f M wc ⟨hM, hT.on hB, hF, by omega, by omega⟩
  sum wc M hM hF hB := sum_any _ _ 4 M wc ⟨hM, hT.on hB, hF, by omega, by omega⟩
  check wc c hc hB := check_any c hc wc
  awake wc hB := awake_any wc
end Go.Proofs.YtlnckhebikiclaaDoor.Ptcap
