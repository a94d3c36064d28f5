import Derived.Test.YtjalggkhpnfbiaaDoorMPageEsc
namespace Go.Proofs.YtjalggkhpnfbiaaDoor.pg
open Go.ChangeShapes Go.WideShapes Go.ChangeAt Go.RowKit Go.Proofs.YtjalggkhpnfbiaaDoor.common
attribute [local go_sem ↓] Go.wp_at_zero Go.wp_at_succ

theorem flat_snoc (s : ByteArray) (k : Nat) (h : k < s.size) : Pg.esc (s.data.toList.take (k + 1)) = Pg.esc (s.data.toList.take k) ++ Pg.esc1 s[k] := by
  rw [take_snoc s k h, Pg.esc_append, Pg.esc_cons, Pg.esc_nil, List.append_nil]
theorem esc_take (s : ByteArray) (k : Nat) : (Pg.esc (s.data.toList.take k)).length ≤ 6 * k := by
  have h1 := (Pg.esc_len (s.data.toList.take k)).2
  have h2 : (s.data.toList.take k).length ≤ k := by rw [List.length_take]; omega
  omega

end Go.Proofs.YtjalggkhpnfbiaaDoor.pg
