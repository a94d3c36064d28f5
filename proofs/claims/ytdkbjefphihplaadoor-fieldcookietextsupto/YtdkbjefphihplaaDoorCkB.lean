import Derived.Test.YtdkbjefphihplaaDoorFieldCk
namespace Go.Proofs.YtdkbjefphihplaaDoor.fd
open Go.ChangeShapes Go.WideShapes Go.ChangeAt Go.RowKit Go.Proofs.YtdkbjefphihplaaDoor.common Go.Proofs.YtdkbjefphihplaaDoor.bk
attribute [local go_sem ↓] Go.wp_at_zero Go.wp_at_succ

def ckB (n v : ByteArray) : ByteArray := (n ++ ⟨#[61]⟩) ++ v
theorem ckB_size (n v : ByteArray) : (ckB n v).size = n.size + 1 + v.size := by
  unfold ckB; rw [ByteArray.size_append, ByteArray.size_append]; rfl

theorem cookieText1_any (n v : ByteArray) (w : World) (hs : n.size + v.size ≤ 4611686018427387904) :
    Calls Tryd.prog 43 #[.string n, .string v] w fun e w' => e = .returned (.string (ckB n v)) ∧ w' = w := by
  have h1 : n.size ≤ 4611686018427387904 := by omega
  go_enter Tryd.func43, Tryd.ntmps43
  go_wp2_with fail
  go_ret
  exact ⟨rfl, rfl⟩

end Go.Proofs.YtdkbjefphihplaaDoor.fd
