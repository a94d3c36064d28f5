import Derived.Test.YtkmhhodapnlkiaaDoorShaWalks
import Derived.Test.YtkmhhodapnlkiaaDoorRefDigest
import Derived.Stop.LaidErr
namespace Go.Proofs.YtkmhhodapnlkiaaDoor.refw
open Go.ChangeShapes Go.WideShapes Go.ChangeAt Go.RowKit Go.Proofs.YtkmhhodapnlkiaaDoor.common Go.Proofs.YtkmhhodapnlkiaaDoor.shaw

theorem gFirst : Tryd.prog.globalNamed "usher/usherref1.first" = some 1 := by kernel_rfl
theorem gFirstType : (Tryd.prog.globals[1]?).map (·.type) = some 38 := by kernel_rfl
theorem gRound : Tryd.prog.globalNamed "usher/usherref1.round" = some 2 := by kernel_rfl
theorem gRoundType : (Tryd.prog.globals[2]?).map (·.type) = some 60 := by kernel_rfl
theorem fGet : ∀ k : Fin 8, ([1779033703, 3144134277, 1013904242, 2773480762, 1359893119, 2600822924, 528734635, 1541459225] : List Int).getD k.val 0 = (((Sha.words Sha.first).getD k.val 0#32).toNat : Int) := by decide

theorem frTab {W : World} {rest : List (String × DataW Unit)} (h : laidMet Tryd.prog (("usher/usherref1.first", Rows.laid_usher_usherref1_first) :: rest) W) : FR W := by
  have t : Lib.TabIs Tryd.prog W "usher/usherref1.first" .u32 [1779033703, 3144134277, 1013904242, 2773480762, 1359893119, 2600822924, 528734635, 1541459225] :=
    Lib.tabIs_of_head (rest := rest) gFirst gFirstType Tryd.underlying38 Tryd.underlying37 cells1 cells8 h
  intro i hi
  have h1 := t.cell gFirst i (by simpa using hi)
  rw [h1, fGet ⟨i, hi⟩]

theorem rrTab {W : World} {rest : List (String × DataW Unit)} (h : laidMet Tryd.prog (("usher/usherref1.round", Rows.laid_usher_usherref1_round) :: rest) W) : RR W := by
  have t : Lib.TabIs Tryd.prog W "usher/usherref1.round" .u32 [1116352408, 1899447441, 3049323471, 3921009573, 961987163, 1508970993, 2453635748, 2870763221, 3624381080, 310598401, 607225278, 1426881987, 1925078388, 2162078206, 2614888103, 3248222580, 3835390401, 4022224774, 264347078, 604807628, 770255983, 1249150122, 1555081692, 1996064986, 2554220882, 2821834349, 2952996808, 3210313671, 3336571891, 3584528711, 113926993, 338241895, 666307205, 773529912, 1294757372, 1396182291, 1695183700, 1986661051, 2177026350, 2456956037, 2730485921, 2820302411, 3259730800, 3345764771, 3516065817, 3600352804, 4094571909, 275423344, 430227734, 506948616, 659060556, 883997877, 958139571, 1322822218, 1537002063, 1747873779, 1955562222, 2024104815, 2227730452, 2361852424, 2428436474, 2756734187, 3204031479, 3329325298] :=
    Lib.tabIs_of_head (rest := rest) gRound gRoundType Tryd.underlying60 Tryd.underlying37 cells1 cells64 h
  intro i hi
  have h1 := t.cell gRound i (by simpa using hi)
  rw [h1, kGet ⟨i, hi⟩]

/-- all four tables -/
structure Tabs (W : World) : Prop where
  rw : RW W
  fw : FW W
  rr : RR W
  fr : FR W

theorem Tabs.below {w w' : World} (h : Tabs w) (hb : Below w.heap.size w w') : Tabs w' :=
  ⟨h.rw.below hb h.rw.lt, h.fw.below hb h.fw.lt, h.rr.below hb h.rr.lt, h.fr.below hb h.fr.lt⟩

theorem tabs {W : World} (h : laidMet Tryd.prog [("usher/sums.firstWords", Rows.laid_usher_sums_firstWords), ("usher/sums.roundWords", Rows.laid_usher_sums_roundWords), ("usher/usherref1.first", Rows.laid_usher_usherref1_first), ("usher/usherref1.round", Rows.laid_usher_usherref1_round)] W) : Tabs W :=
  ⟨rwTab h.tail, fwTab h, rrTab h.tail.tail.tail, frTab h.tail.tail⟩

end Go.Proofs.YtkmhhodapnlkiaaDoor.refw
