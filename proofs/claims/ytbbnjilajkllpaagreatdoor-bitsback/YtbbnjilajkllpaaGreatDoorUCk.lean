/- The numbers that may be. -/
import Derived.Test.YtbbnjilajkllpaaGreatDoorBase
