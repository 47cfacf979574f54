/- A law's walk over the code, as its frame takes it. -/
import Derived.Test.YtljaahemlcaffaaGreatK36
import Derived.Test.YtljaahemlcaffaaGreatK38
import Derived.Test.YtljaahemlcaffaaGreatK39
import Derived.Test.YtljaahemlcaffaaGreatK40

