/- The program's items, messages and views: all contracts. -/
import Derived.Test.YtbkhhkknhbddeaaItO
import Derived.Test.YtbkhhkknhbddeaaPuI
import Derived.Test.YtbkhhkknhbddeaaViI
import Derived.Test.YtbkhhkknhbddeaaMoI
