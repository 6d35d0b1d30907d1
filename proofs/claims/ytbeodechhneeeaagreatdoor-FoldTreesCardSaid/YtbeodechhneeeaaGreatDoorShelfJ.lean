/- The shelf (all of it lies in Shelf). -/
import Derived.Test.YtbeodechhneeeaaGreatDoorShelf
