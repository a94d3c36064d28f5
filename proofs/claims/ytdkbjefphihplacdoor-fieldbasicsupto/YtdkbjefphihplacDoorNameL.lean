import Derived.Test.YtdkbjefphihplacDoorFieldMath
namespace Go.Proofs.YtdkbjefphihplacDoor.fd
/-- the scheme's name -/
def nameL : List UInt8 := [66, 97, 115, 105, 99]
end Go.Proofs.YtdkbjefphihplacDoor.fd
