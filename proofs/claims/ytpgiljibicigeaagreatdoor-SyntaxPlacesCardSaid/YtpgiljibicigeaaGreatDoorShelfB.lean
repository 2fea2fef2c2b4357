/- Nothing more: all stands in Shelf. -/
import Derived.Test.YtpgiljibicigeaaGreatDoorShelf
