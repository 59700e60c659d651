/- Values, as they are told. -/
import Derived.Test.YtcibcfghkidncaaGreatDoorProg
namespace Go.Proofs.YtcibcfghkidncaaGreatDoor

structure Vl where
 k:Int
 n:Int
 f:Nat
 s:ByteArray

end Go.Proofs.YtcibcfghkidncaaGreatDoor
