import Derived.Test.YtocpikgcbibcoaaGreatDoorMTmRed
namespace Go.Proofs.YtocpikgcbibcoaaGreatDoor.tm
open Go.Proofs.YtocpikgcbibcoaaGreatDoor.fd (before behind cut_no cut_at index_cases)
open Go.Proofs.YtocpikgcbibcoaaGreatDoor.common Go.Proofs.YtocpikgcbibcoaaGreatDoor.bk

end Go.Proofs.YtocpikgcbibcoaaGreatDoor.tm

namespace Go.Proofs.YtocpikgcbibcoaaGreatDoor.tm
open Go.Proofs.YtocpikgcbibcoaaGreatDoor.fd (before behind cut_no cut_at index_cases)
open Go.Proofs.YtocpikgcbibcoaaGreatDoor.common Go.Proofs.YtocpikgcbibcoaaGreatDoor.bk

end Go.Proofs.YtocpikgcbibcoaaGreatDoor.tm
