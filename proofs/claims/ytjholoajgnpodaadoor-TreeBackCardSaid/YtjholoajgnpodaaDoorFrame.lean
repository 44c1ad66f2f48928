/-
  What every proof of a card of this seat uses: the frame of a law's row, the tables out of the rows' lists.
-/
import Derived.Test.YtjholoajgnpodaaDoorCards
import Derived.Test.YtjholoajgnpodaaDoorTie
import Derived.Test.YtjholoajgnpodaaDoorLawPost
