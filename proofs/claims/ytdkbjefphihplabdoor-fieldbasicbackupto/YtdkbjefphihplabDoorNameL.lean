import Derived.Test.YtdkbjefphihplabDoorFieldMath
namespace Go.Proofs.YtdkbjefphihplabDoor.fd
/-- the scheme's name -/
def nameL : List UInt8 := [66, 97, 115, 105, 99]
end Go.Proofs.YtdkbjefphihplabDoor.fd
