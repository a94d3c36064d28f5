import Derived.Test.YthhkhpgffamdhaaDoorFieldCk
namespace Go.Proofs.YthhkhpgffamdhaaDoor.fd
open Go.ChangeShapes Go.WideShapes Go.ChangeAt Go.RowKit Go.Proofs.YthhkhpgffamdhaaDoor.common Go.Proofs.YthhkhpgffamdhaaDoor.bk
attribute [local go_sem ↓] Go.wp_at_zero Go.wp_at_succ

def ckB (n v : ByteArray) : ByteArray := (n ++ ⟨#[61]⟩) ++ v
theorem ckB_size (n v : ByteArray) : (ckB n v).size = n.size + 1 + v.size := by
  unfold ckB; rw [ByteArray.size_append, ByteArray.size_append]; rfl

theorem cookieText1_any (n v : ByteArray) (w : World) (hs : n.size + v.size ≤ 4611686018427387904) :
    Calls Tryd.prog 38 #[.string n, .string v] w fun e w' => e = .returned (.string (ckB n v)) ∧ w' = w := by
  have h1 : n.size ≤ 4611686018427387904 := by omega
  go_enter Tryd.func38, Tryd.ntmps38
  go_wp2_with fail
  go_ret
  exact ⟨rfl, rfl⟩

abbrev X (a : Addr) : Value := .iface 172 (.pointer (some a))
/-- a refusal lies in its variable -/
def Ev (g : Nat) (w : World) (x : Value) : Prop := w.cell? ⟨g, 0, none⟩ = some x
theorem Ev.lt {g : Nat} {w : World} {x : Value} (h : Ev g w x) : g < w.heap.size := World.block_lt_of_cell? w _ h
theorem Ev.below {g : Nat} {w w' : World} {x : Value} (h : Ev g w x) (hb : Below w.heap.size w w') : Ev g w' x := (hb.cell (p := ⟨g, 0, none⟩) h.lt).trans h

end Go.Proofs.YthhkhpgffamdhaaDoor.fd
