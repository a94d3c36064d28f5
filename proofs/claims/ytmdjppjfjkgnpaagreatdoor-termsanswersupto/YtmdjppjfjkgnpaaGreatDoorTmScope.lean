import Derived.Test.YtmdjppjfjkgnpaaGreatDoorTmAll
import Derived.Test.YtmdjppjfjkgnpaaGreatDoorTmSeq
namespace Go.Proofs.YtmdjppjfjkgnpaaGreatDoor.tm
open Go.ChangeShapes Go.WideShapes Go.ChangeAt Go.RowKit Go.Proofs.YtmdjppjfjkgnpaaGreatDoor.common Go.Proofs.YtmdjppjfjkgnpaaGreatDoor.bk
attribute [local go_sem ↓] Go.wp_at_zero Go.wp_at_succ

/-- a scope's byte -/
def scB (b : UInt8) : Bool := Tm.btw 33 126 b && decide (b.toNat ≠ 34) && decide (b.toNat ≠ 92)

set_option maxRecDepth 100000 in
set_option maxHeartbeats 1600000 in
/-- of a text of any length -/
theorem isWord_most (s : ByteArray) (most : Nat) (g : Nat) (p : UInt8 → Bool) (w : World) (hmost : most ≤ 4611686018427387904) (eg : Enters g) (hf : Tests g p) :
    Calls Tryz.prog 67 #[.string s, .int .i64 most, .func (.func g) #[] #[]] w fun e w' => e = .returned (.bool (Tm.word most p s.data.toList)) ∧ w' = w := by
  by_cases hm : s.size ≤ most
  · exact isWord_any s most g p w (Nat.le_trans hm hmost) eg hf
  · clear hf eg
    have he : s ≠ ⟨#[]⟩ := fun e => hm (by rw [e]; exact Nat.zero_le _)
    obtain ⟨h1, h2, h3⟩ := word_ne he
    have hmi : ¬ (s.size : Int) ≤ (most : Int) := by omega
    have HR : Hid (Tm.word most p s.data.toList = false) := by
      show _ = _
      unfold Tm.word
      rw [len_list, decide_eq_false hm]; simp
    rw [HR.out]
    go_enter Tryz.func67, Tryz.ntmps67
    go_wp2_with fail
    go_ret
    exact ⟨rfl, rfl⟩

/-- one result, a bool in a cell -/
theorem results_bool {fn : Func} {p : Tmp} {w : World} {b : Nat} {v : Value} (h : fn.results = #[.cell p 4]) (tmps : Array Value) (hx : tmps.getD p undef = .pointer (some ⟨b, 0, none⟩)) (hc : w.cell? ⟨b, 0, none⟩ = some v) :
    (results fn tmps).run Tryz.prog w = .ok v w := by
  have hx' : tmps[p]?.getD undef = .pointer (some ⟨b, 0, none⟩) := by simpa using hx
  simp only [results, h]
  simp [hx', asAddr, loadVar, Tryz.isAgg4, hc]

/-- one scope -/
def isSc (s : ByteArray) : Bool := Tm.word 32 scB s.data.toList
/-- scopes with one blank between each two -/
def areSc (s : ByteArray) : Bool := (tsq.parts 32 s).all isSc

end Go.Proofs.YtmdjppjfjkgnpaaGreatDoor.tm

namespace Go.Proofs.YtmdjppjfjkgnpaaGreatDoor.tm
open Go.RowKit Go.Shelf Go.Proofs.YtmdjppjfjkgnpaaGreatDoor.common Go.Proofs.YtmdjppjfjkgnpaaGreatDoor.bk
open Go.Proofs.YtmdjppjfjkgnpaaGreatDoor.rgr (Seq range_law post)
open Go.Proofs.YtmdjppjfjkgnpaaGreatDoor.tsq
attribute [local go_sem] Oper.semAt_some

/-- the walk's own cell, and nothing below it -/
def ScInv (w : World) (v : Value) (W : World) : Prop := Boxed W w.heap.size 4 v ∧ Below w.heap.size w W
theorem sc_abides (w : World) (N b : Nat) (v : Value) (p : List ByteArray → Prop) (hN : w.heap.size < N) (hb : w.heap.size < b) : rgr.Abides (α := ByteArray) N b (fun pre W => ScInv w v W ∧ p pre) where
  put := by
    rintro pre A l o o' ⟨⟨hv, hB⟩, hp⟩ hl ho hc
    refine ⟨⟨hv.kept (grownBy_putObj' A l o') (fun e => by cases e; omega), ?_⟩, hp⟩
    exact hB.trans ((Below.refl _ A).grown (grownBy_putObj' A l o') hB.size (fun k e => by cases e; omega))
  alloc := by
    rintro pre A o ⟨⟨hv, hB⟩, hp⟩
    exact ⟨⟨hv.alloc o, hB.alloc hB.size o⟩, hp⟩
  set := by
    rintro pre A u ⟨⟨hv, hB⟩, hp⟩
    exact ⟨⟨hv.other (by omega) u, hB.setCell (p := ⟨b, 0, none⟩) (by show w.heap.size ≤ b; omega) u⟩, hp⟩
  drew := by
    rintro pre A ⟨⟨hv, hB⟩, hp⟩
    exact ⟨⟨hv, hB.drew⟩, hp⟩

end Go.Proofs.YtmdjppjfjkgnpaaGreatDoor.tm
