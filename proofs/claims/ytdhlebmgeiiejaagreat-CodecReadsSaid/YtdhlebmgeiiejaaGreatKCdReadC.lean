/- The code's codec: a command is read. Written by wip/tools/genrd.py. -/
import Derived.Test.YtdhlebmgeiiejaaGreatKCdReadCa
import Derived.Test.YtdhlebmgeiiejaaGreatKCdReadCb
namespace Go.Proofs.YtdhlebmgeiiejaaGreat
open Go.RowKit Pz Cd
set_option linter.unusedVariables false
set_option linter.unusedSimpArgs false

theorem creadcmd_any {b : Nat} {w : World} {q : Rr} (h : CQ b w q w) : Calls Tryz.prog 51 #[.pointer (some ⟨b, 0, none⟩)] w fun e W' => e = .returned (rawTC q).1.val ∧ CQ b w (rawTC q).2 W' := by
  by_cases h1 : (tInt q).1 = 1
  · exact creadcmd_1 h h1
  · by_cases h2 : (tInt q).1 = 2
    · exact creadcmd_2 h h2
    · by_cases h3 : (tInt q).1 = 3
      · exact creadcmd_3 h h3
      · by_cases h4 : (tInt q).1 = 4
        · exact creadcmd_4 h h4
        · exact creadcmd_5 h h1 h2 h3 h4
end Go.Proofs.YtdhlebmgeiiejaaGreat
