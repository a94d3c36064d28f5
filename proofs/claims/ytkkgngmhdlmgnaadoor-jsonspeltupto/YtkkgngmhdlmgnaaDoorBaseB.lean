import Derived.Test.YtkkgngmhdlmgnaaDoorSameM
import Derived.Test.YtkkgngmhdlmgnaaDoorReadWalk11
namespace Go.Proofs.YtkkgngmhdlmgnaaDoor.jw
open Go.ChangeShapes Go.WideShapes Go.ChangeAt Go.RowKit Go.Proofs.YtkkgngmhdlmgnaaDoor.common

/-- all that the laws lean on -/
structure Base (w : World) (e : Nat → Addr) : Prop where
  four : Four w e
  short : Short w
  tabs : Tabs w
  syn : ∃ te pe, w.cell? ⟨20, 0, none⟩ = some (.iface te pe)
  rng : ∃ te pe, w.cell? ⟨21, 0, none⟩ = some (.iface te pe)
  pow : Pow w.heap.size w
theorem Base.below {w w' : World} {e : Nat → Addr} (h : Base w e) (hb : Below w.heap.size w w') : Base w' e := by
  obtain ⟨te, pe, hs⟩ := h.syn
  obtain ⟨tr, pr, hr⟩ := h.rng
  exact ⟨h.four.below hb, h.short.under hb h.short.lt, tabs_below h.tabs hb, ⟨te, pe, (hb.cell (World.block_lt_of_cell? w _ hs)).trans hs⟩, ⟨tr, pr, (hb.cell (World.block_lt_of_cell? w _ hr)).trans hr⟩,
    fun w'' h'' => h.pow w'' (hb.trans (h''.mono hb.size))⟩
theorem objectB {vl : Value} {l : List Mem} {w : World} {e : Nat → Addr} (h : Base w e) (hl : Lies w vl l) (hln : l.length ≤ 4611686018427387904) (hr : ∀ m ∈ l, Json.inRange m.num) (hlen : tot l + 100 ≤ 140737488355328) :
    Calls Tryd.prog 13 #[vl] w fun x w' => x = .returned (objAns e l) ∧ Below w.heap.size w w' :=
  object_any vl l w hl hln h.short h.tabs hr hlen h.pow e h.four
theorem readB {s : ByteArray} {w : World} {e : Nat → Addr} (h : Base w e) (hs : s.size ≤ reachBytes) :
    Calls Tryd.prog 6 #[.string s] w fun x w' => RAns e w.heap.size s.data.toList x w' ∧ Below w.heap.size w w' :=
  read_any s w hs e h.four h.short h.tabs h.syn h.rng

end Go.Proofs.YtkkgngmhdlmgnaaDoor.jw
