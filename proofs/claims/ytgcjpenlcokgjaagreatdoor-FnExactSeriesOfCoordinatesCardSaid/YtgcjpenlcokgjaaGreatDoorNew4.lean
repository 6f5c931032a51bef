/-
  newSeries of the program at longer rows of terms (sums of two series): New has it.
-/
import Derived.Test.YtgcjpenlcokgjaaGreatDoorNew
