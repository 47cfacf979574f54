/- What the laws ask of the code, told by the code. Written by wip/tools/gensc.py. -/
import Derived.Test.YtfmbldjaknjgbaaKScK
import Derived.Test.YtfmbldjaknjgbaaKSyLaw1
import Derived.Test.YtfmbldjaknjgbaaKSyLaw2
import Derived.Test.YtfmbldjaknjgbaaKSyLaw3
import Derived.Test.YtfmbldjaknjgbaaKSyLaw4
import Derived.Test.YtfmbldjaknjgbaaKSyLaw5
import Derived.Test.YtfmbldjaknjgbaaKSyLaw6
import Derived.Test.YtfmbldjaknjgbaaKSyLaw7
import Derived.Test.YtfmbldjaknjgbaaKSyLaw8
import Derived.Test.YtfmbldjaknjgbaaKBase
namespace Go.Proofs.Ytfmbldjaknjgbaa
open Go.RowKit Pz Sp
set_option linter.unusedVariables false
theorem ct : SyCt where
  hurt := fun b n W hb hn => churt_any b.s b.i b.g b.m b.x b.y b.vx b.vy b.h b.p b.l n hb.h hn W
  age := fun b W hb => cage_any b.s b.i b.g b.m b.x b.y b.vx b.vy b.h b.p b.l hb.l W
  obey := fun b c W hb hc hm => cobey_any b.s b.i b.g b.m b.x b.y b.vx b.vy b.h b.p b.l c.k c.s c.i c.g c.b.s c.b.i c.b.g c.b.m c.b.x c.b.y c.b.vx c.b.vy c.b.h c.b.p c.b.l c.m W
  move := fun q C R S D V N Q b W h ok hb => cmove_any C R S D V N Q h ok b.s b.i b.g b.m b.x b.y b.vx b.vy b.h b.p b.l hb.x hb.y hb.vx hb.vy
  moveNil := fun b W => cmove_nil b.s b.i b.g b.m b.x b.y b.vx b.vy b.h b.p b.l W
  hits := fun W A A2 c c2 own others r R R2 hl hl2 _ _ => chits_any R R2 hl hl2 r
  awake := cawake_any
end Go.Proofs.Ytfmbldjaknjgbaa
