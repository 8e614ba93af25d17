/- What the library's sort of ints is asked for stands beside the keys of a map, in the text that this one imports. -/
import Derived.Test.YtdgkhjgnjfgnlaaGreatSorted
