import Derived.Test.YtaejlcffimkopaaDoorRdPage
namespace Go.Proofs.YtaejlcffimkopaaDoor.pg
open Go.ChangeShapes Go.WideShapes Go.ChangeAt Go.RowKit Go.Proofs.YtaejlcffimkopaaDoor.common Go.Maps
attribute [local go_sem ↓] Go.wp_at_zero Go.wp_at_succ

/-- what is left behind markup -/
def cutB (s p : ByteArray) : ByteArray × Bool := if p.data.toList.isPrefixOf s.data.toList then (s.extract p.size s.size, true) else (s, false)

set_option maxRecDepth 100000 in
set_option maxHeartbeats 800000 in
theorem slcut_any (s p : ByteArray) (w : World) :
    Calls Tryd.prog 81 #[.string s, .string p] w fun e w' => e = .returned (.tuple #[.string (cutB s p).1, .bool (cutB s p).2]) ∧ w' = w := by
  unfold cutB
  have HC := hide (fun W => slite_any s p W)
  cases hp : p.data.toList.isPrefixOf s.data.toList with
  | true =>
    rw [hp] at HC
    have hle : p.size ≤ s.size := by
      obtain ⟨r, hr⟩ := List.isPrefixOf_iff_prefix.1 hp
      have := congrArg List.length hr
      rw [List.length_append, len_list, len_list] at this
      omega
    have h1 : (p.size : Int) ≤ (s.size : Int) := by omega
    clear hp
    go_enter Tryd.func81, Tryd.ntmps81
    go_wp2_with (go_at_call 92; refine (HC.out _).mono ?_; rintro e w' ⟨rfl, rfl⟩)
    go_ret2
    exact ⟨rfl, rfl⟩
  | false =>
    rw [hp] at HC
    clear hp
    go_enter Tryd.func81, Tryd.ntmps81
    go_wp2_with (go_at_call 92; refine (HC.out _).mono ?_; rintro e w' ⟨rfl, rfl⟩)
    go_ret2
    exact ⟨rfl, rfl⟩
set_option maxRecDepth 100000 in
theorem cutPrefix_any (s p : ByteArray) (w : World) :
    Calls Tryd.prog 65 #[.string s, .string p] w fun e w' => e = .returned (.tuple #[.string (cutB s p).1, .bool (cutB s p).2]) ∧ w' = w := by
  have HC := hide (fun W => slcut_any s p W)
  generalize (cutB s p).1 = x at *
  generalize (cutB s p).2 = y at *
  go_enter Tryd.func65, Tryd.ntmps65
  go_wp2_with (go_at_call 81; refine (HC.out _).mono ?_; rintro e w' ⟨rfl, rfl⟩)
  go_ret2
  exact ⟨rfl, rfl⟩

/-- the reader, at what is left of the text -/
def Rr (w : World) (b : Nat) (s : ByteArray) : Prop := w.heap[b]? = some (.cells #[.string s] 65)
theorem Rr.lt {w : World} {b : Nat} {s : ByteArray} (h : Rr w b s) : b < w.heap.size := (Array.getElem?_eq_some_iff.1 h).1
theorem Rr.set {w : World} {b : Nat} {s : ByteArray} (h : Rr w b s) (r : ByteArray) : Rr (w.setCell ⟨b, 0, none⟩ (.string r)) b r := by
  have h' : w.heap[b]? = some (.cells #[.string s] 65) := h
  unfold Rr
  simp [World.setCell, Array.getElem?_modify, h']
theorem skp_cut (s m : ByteArray) : skp m.data.toList s.data.toList = if (cutB s m).2 then some (cutB s m).1.data.toList else none := by
  unfold skp cutB
  rw [pre_take]
  by_cases h : s.data.toList.take m.data.toList.length = m.data.toList
  · rw [if_pos h, decide_eq_true h, if_pos rfl]
    show some _ = some (s.extract m.size s.size).data.toList
    rw [ext_list, len_list]
    rw [List.take_of_length_le (by rw [List.length_drop, len_list]; omega)]
  · rw [if_neg h, decide_eq_false h]
    rfl

set_option maxRecDepth 100000 in
set_option maxHeartbeats 800000 in
theorem skip_any (b : Nat) (s m : ByteArray) (w : World) (h : Rr w b s) :
    Calls Tryd.prog 46 #[ptr b, .string m] w fun e w' => e = .returned (.bool (cutB s m).2) ∧ w' = w.setCell ⟨b, 0, none⟩ (.string (cutB s m).1) := by
  have HC := hide (fun W => cutPrefix_any s m W)
  have h' : w.heap[b]? = some (.cells #[.string s] 65) := h
  have c0 : w.cell? ⟨b, 0, none⟩ = some (.string s) := by simp [World.cell?, h']
  have z0 : w.frozen? ⟨b, 0, none⟩ = false := by simp [World.frozen?, h']
  clear h h'
  generalize (cutB s m).1 = x at *
  generalize (cutB s m).2 = y at *
  go_enter Tryd.func46, Tryd.ntmps46
  go_wp2_with (go_at_call 65; refine (HC.out _).mono ?_; rintro e w' ⟨rfl, rfl⟩)
  go_ret
  exact ⟨rfl, rfl⟩
end Go.Proofs.YtaejlcffimkopaaDoor.pg
