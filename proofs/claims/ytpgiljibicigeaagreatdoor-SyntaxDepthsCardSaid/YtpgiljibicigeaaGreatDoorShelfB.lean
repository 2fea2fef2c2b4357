/- Nothing more: all stands in Shelf. -/
import Derived.Test.YtpgiljibicigeaaGreatDoorShelf
set_option linter.unusedVariables false
set_option linter.unusedSimpArgs false
