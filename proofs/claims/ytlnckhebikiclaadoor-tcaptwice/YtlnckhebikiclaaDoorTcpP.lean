/- What the walks of TcapSum and TcapTwice ask of the program, paid by its contracts. -/
import Derived.Test.YtlnckhebikiclaaDoorTcpE
import Derived.Test.YtlnckhebikiclaaDoorTcpK
namespace Go.Proofs.YtlnckhebikiclaaDoor.Ptcap
open Go.Proofs.YtlnckhebikiclaaDoor.Pbase Go.Proofs.YtlnckhebikiclaaDoor.Pfield Go.Proofs.YtlnckhebikiclaaDoor.Play Go.Proofs.YtlnckhebikiclaaDoor.Pmem
open Go.RowKit M
set_option linter.unusedVariables false

theorem pr2 {w : World} (hT : Phead.TabW w) : Pr2 w where
  make wc p b M f c hc hM hF hB := (make_any p b 2 f c M wc ⟨hM, hT.on hB, hF, by omega, by omega⟩ hc).mono fun e w' ⟨h1, h2, h3⟩ => ⟨h1, h2.mem, h3⟩
  give wc p b M f g n q hn hq hM hF hB := (give_any p b 2 f g n q M wc ⟨hM, hT.on hB, hF, by omega, by omega⟩).mono fun e w' ⟨h1, h2, h3⟩ => ⟨h1, h2.mem, h3⟩
  charge wc p b M f n hn hM hF hB := (charge_any p b 2 f n M wc ⟨hM, hT.on hB, hF, by omega, by omega⟩ hn).mono fun e w' ⟨h1, h2, h3⟩ => ⟨h1, h2.mem, h3⟩
  get wc p b M f hM hF hB := get_any p b 2 f M wc ⟨hM, hT.on hB, hF, by omega, by omega⟩
  can wc p b M f hM hF hB := can_any p b 2 f M wc ⟨hM, hT.on hB, hF, by omega, by omega⟩
  sum wc p b M hM hF hB := sum_any p b 2 M wc ⟨hM, hT.on hB, hF, by omega, by omega⟩
  check wc c hc hB := check_any c hc wc
  awake wc hB := awake_any wc
end Go.Proofs.YtlnckhebikiclaaDoor.Ptcap
