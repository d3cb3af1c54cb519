/- Layer 7's program, its streams too. -/
import Derived.Test.YtnokbnobnhkmgaaFrP
import Derived.Test.YtnokbnobnhkmgaaFrX
