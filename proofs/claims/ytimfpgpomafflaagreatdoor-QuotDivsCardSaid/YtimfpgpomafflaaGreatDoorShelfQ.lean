/- The contract of LeadingZeros64 stands in Shelf. -/
import Derived.Test.YtimfpgpomafflaaGreatDoorShelf
