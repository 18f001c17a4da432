/- Package right: what the program answers, beside the four laws. -/
import Derived.Test.YteolenhgaekihaaRightGoU
import Derived.Test.YteolenhgaekihaaRightLawG
import Derived.Test.YteolenhgaekihaaRightLawL
import Derived.Test.YteolenhgaekihaaRightLawA
import Derived.Test.YteolenhgaekihaaRightLawB
