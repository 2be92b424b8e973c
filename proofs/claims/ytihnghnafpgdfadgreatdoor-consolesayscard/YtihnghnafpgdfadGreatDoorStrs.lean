/- The contracts of strings.Builder and the like stand beside those of numbers. -/
import Derived.Test.YtihnghnafpgdfadGreatDoorNums
