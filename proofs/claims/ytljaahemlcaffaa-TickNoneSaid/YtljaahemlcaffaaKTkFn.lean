/- A law's walk over the code, as its frame takes it. -/
import Derived.Test.YtljaahemlcaffaaK36
import Derived.Test.YtljaahemlcaffaaK37
import Derived.Test.YtljaahemlcaffaaK38
import Derived.Test.YtljaahemlcaffaaK39

