/- No function of the library is called that the shelf has. -/
import Derived.Shelf.Strconv.Itoa0
import Derived.Test.YtjnccpbedffijaaProg
