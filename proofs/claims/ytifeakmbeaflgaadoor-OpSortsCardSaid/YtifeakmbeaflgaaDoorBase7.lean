/- The texts of name, stamp and wire at this seat. -/
import Derived.Test.YtifeakmbeaflgaaDoorNAll
import Derived.Test.YtifeakmbeaflgaaDoorSAll
import Derived.Test.YtifeakmbeaflgaaDoorWOnceBase
import Derived.Test.YtifeakmbeaflgaaDoorWOnce
import Derived.Test.YtifeakmbeaflgaaDoorWSame
import Derived.Test.YtifeakmbeaflgaaDoorWRText
import Derived.Test.YtifeakmbeaflgaaDoorWWRef
