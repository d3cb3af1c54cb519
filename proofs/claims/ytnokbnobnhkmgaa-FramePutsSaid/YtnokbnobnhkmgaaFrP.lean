/- Layer 7's program, all of it but streams that are there. -/
import Derived.Test.YtnokbnobnhkmgaaFrJ
import Derived.Test.YtnokbnobnhkmgaaFrB
import Derived.Test.YtnokbnobnhkmgaaFrG
import Derived.Test.YtnokbnobnhkmgaaFrN
