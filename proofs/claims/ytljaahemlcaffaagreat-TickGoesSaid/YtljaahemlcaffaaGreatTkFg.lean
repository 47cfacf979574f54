/- A law's walk over the code, as its frame takes it. -/
import Derived.Test.YtljaahemlcaffaaGreatK36
import Derived.Test.YtljaahemlcaffaaGreatTkL5
import Derived.Test.YtljaahemlcaffaaGreatK43
import Derived.Test.YtljaahemlcaffaaGreatK44
