/-
  The code's Bound, Pack (of at most 65536 bytes), Size, Unpack: what the plain lists say.
-/
import Derived.Test.YtoohkhcmakcggaaLzPack
import Derived.Test.YtoohkhcmakcggaaLzUnp
