import Derived.Test.YtkmhhodapnlkiaaDoorMacWalks
import Derived.Maps.AppendAt
namespace Go.Proofs.YtkmhhodapnlkiaaDoor.shaw
open Go.ChangeShapes Go.WideShapes Go.ChangeAt Go.RowKit Go.Proofs.YtkmhhodapnlkiaaDoor.common
attribute [local go_sem ↓] Go.wp_at_zero Go.wp_at_succ

theorem infoB : (Tryd.prog.info? 5).map (fun i => (i.zero, i.size, i.bytes)) = some (some (.int .u8 0), 1, 1) := by kernel_rfl
theorem own_ge {w : World} {base : Nat} {e : TypeId} {size : Nat} {v : Value} {n : Nat} {xs : List Value} (h : w.ownsRow base e size v n xs) : ∀ b, v.ownBlock = some b → base ≤ b := by
  intro b hb
  rcases h.2 with ⟨rfl, _⟩ | ⟨g, cap, cur, rfl, hg, _⟩
  · cases hb
  · cases hb; exact hg
theorem conv_own {w : World} {base : Nat} {e : TypeId} {v : Value} {l : List UInt8} {n : Nat} (h : w.ownsRow base e 1 v n (l.map B)) (hn : l.length = n) :
    (convert 34 9 v).run Tryd.prog w = .ok (.string ⟨l.toArray⟩) w := by
  subst hn
  rcases h.2 with ⟨rfl, h0⟩ | ⟨g, cap, cur, rfl, hg, hh, hn, _, hsz, htk⟩
  · rw [run_convert_bytes_nil (P := Tryd.prog) w 34 5 Tryd.underlying34 Tryd.underlying5 0 0 9 Tryd.underlying9]
    obtain rfl : l = [] := List.eq_nil_of_length_eq_zero h0
    rfl
  · refine run_convert_bytes_back (P := Tryd.prog) w 34 9 5 ⟨g, 0, none⟩ cap l Tryd.underlying34 Tryd.underlying5 Tryd.underlying9 ?_
    intro j hj
    rw [Addr.add_mid, Nat.zero_add]
    have : (cur.toList.take (l.length * 1))[j]? = (l.map B)[j]? := by rw [htk]
    rw [List.getElem?_take_of_lt (by omega)] at this
    simp only [World.cell?, hh]
    simp [hj] at this
    simpa using this
/-- a key's block, its first i bytes -/
def padL (k : List UInt8) (c : UInt8) (i : Nat) : List UInt8 := ((zpad k).take i).map (· ^^^ c)
theorem padL_succ (k : List UInt8) (c : UInt8) (i : Nat) (hk : k.length ≤ 64) (hi : i < 64) : padL k c (i + 1) = padL k c i ++ [(zpad k).getD i 0 ^^^ c] := by
  have h : i < (zpad k).length := by rw [zpad_length k hk]; exact hi
  unfold padL
  rw [List.take_succ_eq_append_getElem h, List.map_append, List.getD_eq_getElem?_getD, List.getElem?_eq_getElem h]
  rfl
theorem padL_all (k : List UInt8) (c : UInt8) (hk : k.length ≤ 64) : padL k c 64 = blk k c := by
  unfold padL blk; rw [List.take_of_length_le (by rw [zpad_length k hk]; exact Nat.le_refl _)]
theorem padL_len (k : List UInt8) (c : UInt8) (i : Nat) (hk : k.length ≤ 64) (hi : i ≤ 64) : (padL k c i).length = i := by
  unfold padL; rw [List.length_map, List.length_take, zpad_length k hk]; omega
theorem zpad_in (s : ByteArray) (i : Nat) (h : i < s.size) : (zpad s.data.toList).getD i 0 = s[i] := by
  have h' : i < s.data.toList.length := by rw [lenL]; exact h
  unfold zpad
  rw [List.getD_eq_getElem?_getD, List.getElem?_append_left h', List.getElem?_eq_getElem h']
  rfl
theorem zpad_out (s : ByteArray) (i : Nat) (h : ¬ i < s.size) : (zpad s.data.toList).getD i 0 = 0 := by
  unfold zpad
  rw [List.getD_eq_getElem?_getD, List.getElem?_append_right (by rw [lenL]; omega), List.getElem?_replicate]
  split <;> rfl

end Go.Proofs.YtkmhhodapnlkiaaDoor.shaw
