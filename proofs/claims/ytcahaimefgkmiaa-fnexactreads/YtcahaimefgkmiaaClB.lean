/- Calls, plain. -/
import Derived.Test.YtcahaimefgkmiaaPlain
namespace Go.Proofs.Ytcahaimefgkmiaa

structure Cl where
  op : Int
  key : ByteArray
  val : ByteArray
  wh : Int
  dn : Int
  vr : Int
  ep : Int
  nu : Int
  gt : ByteArray
def zeroCl : Cl := ⟨0, ⟨#[]⟩, ⟨#[]⟩, 0, 0, 0, 0, 0, ⟨#[]⟩⟩
end Go.Proofs.Ytcahaimefgkmiaa
