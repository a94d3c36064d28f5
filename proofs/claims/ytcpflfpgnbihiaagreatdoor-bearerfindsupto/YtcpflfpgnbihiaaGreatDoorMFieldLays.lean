import Derived.Test.YtcpflfpgnbihiaaGreatDoorMFieldTok
import Derived.Shelf.Lays
import Derived.Shelf.Lays2
import Derived.Shelf.LaysM
import Derived.Shelf.LaysC
import Derived.Ground.NamesProg
import Derived.Ground.Names2Prog
import Derived.Test.YtcpflfpgnbihiaaGreatDoorProg

namespace Go.Proofs.YtcpflfpgnbihiaaGreatDoor.fd
open Go.ChangeShapes Go.WideShapes Go.ChangeAt Go.RowKit Go.Proofs.YtcpflfpgnbihiaaGreatDoor.common Go.Proofs.YtcpflfpgnbihiaaGreatDoor.bk
attribute [local go_sem ↓] Go.wp_at_zero Go.wp_at_succ

def ckB (n v : ByteArray) : ByteArray := (n ++ ⟨#[61]⟩) ++ v
theorem ckB_size (n v : ByteArray) : (ckB n v).size = n.size + 1 + v.size := by
  unfold ckB; rw [ByteArray.size_append, ByteArray.size_append]; rfl

abbrev X (a : Addr) : Value := .iface 149 (.pointer (some a))
/-- a refusal lies in its variable -/
def Ev (g : Nat) (w : World) (x : Value) : Prop := w.cell? ⟨g, 0, none⟩ = some x
theorem Ev.lt {g : Nat} {w : World} {x : Value} (h : Ev g w x) : g < w.heap.size := World.block_lt_of_cell? w _ h
theorem Ev.below {g : Nat} {w w' : World} {x : Value} (h : Ev g w x) (hb : Below w.heap.size w w') : Ev g w' x := (hb.cell (p := ⟨g, 0, none⟩) h.lt).trans h

end Go.Proofs.YtcpflfpgnbihiaaGreatDoor.fd

namespace Go.Proofs.YtcpflfpgnbihiaaGreatDoor.jl
open Go.Shelf
def lays159_ren : Go.Shelf.Ren := ⟨fun | 159 => 65 | 165 => 86 | 166 => 87 | 167 => 88 | 169 => 89 | 230 => 90 | 204 => 91 | 240 => 103 | 241 => 104 | 197 => 44 | 118 => 105 | 168 => 106 | 270 => 107 | 262 => 108 | 276 => 114 | 277 => 115 | 260 => 66 | 242 => 116 | 313 => 117 | 278 => 119 | 274 => 67 | 275 => 68 | n => n, fun | 9 => 9 | 4 => 4 | 3 => 3 | 5 => 5 | 72 => 114 | 0 => 0 | 76 => 116 | 75 => 27 | 107 => 68 | 70 => 112 | 20 => 20 | 37 => 80 | 127 => 135 | 21 => 21 | 105 => 66 | 164 => 143 | 162 => 101 | 203 => 147 | 119 => 87 | 46 => 96 | 139 => 123 | 138 => 122 | 51 => 124 | 160 => 99 | 208 => 128 | 206 => 126 | 80 => 119 | n => n, fun | 13 => 15 | 3 => 16 | 4 => 17 | n => n⟩
theorem lays159 : Go.Proofs.Lays.n159 Tryz.prog lays159_ren := {
  mixed := by kernel_rfl
  f118 := Tryz.func105.trans (congrArg some (by kernel_rfl))
  f159 := Tryz.func65.trans (congrArg some (by kernel_rfl))
  f165 := Tryz.func86.trans (congrArg some (by kernel_rfl))
  f166 := Tryz.func87.trans (congrArg some (by kernel_rfl))
  f167 := Tryz.func88.trans (congrArg some (by kernel_rfl))
  f168 := Tryz.func106.trans (congrArg some (by kernel_rfl))
  f169 := Tryz.func89.trans (congrArg some (by kernel_rfl))
  f197 := Tryz.func44.trans (congrArg some (by kernel_rfl))
  f204 := Tryz.func91.trans (congrArg some (by kernel_rfl))
  f230 := Tryz.func90.trans (congrArg some (by kernel_rfl))
  f240 := Tryz.func103.trans (congrArg some (by kernel_rfl))
  f241 := Tryz.func104.trans (congrArg some (by kernel_rfl))
  f242 := Tryz.func116.trans (congrArg some (by kernel_rfl))
  f260 := Tryz.func66.trans (congrArg some (by kernel_rfl))
  f262 := Tryz.func108.trans (congrArg some (by kernel_rfl))
  f270 := Tryz.func107.trans (congrArg some (by kernel_rfl))
  f274 := Tryz.func67.trans (congrArg some (by kernel_rfl))
  f275 := Tryz.func68.trans (congrArg some (by kernel_rfl))
  f276 := Tryz.func114.trans (congrArg some (by kernel_rfl))
  f277 := Tryz.func115.trans (congrArg some (by kernel_rfl))
  f278 := Tryz.func119.trans (congrArg some (by kernel_rfl))
  f313 := Tryz.func117.trans (congrArg some (by kernel_rfl))
  t0 := Tryz.underlying0
  a0 := Tryz.isAgg0
  z0 := Tryz.sizeOf0
  v0 := Tryz.zeroValue0
  t3 := Tryz.underlying3
  a3 := Tryz.isAgg3
  z3 := Tryz.sizeOf3
  v3 := Tryz.zeroValue3
  t4 := Tryz.underlying4
  a4 := Tryz.isAgg4
  z4 := Tryz.sizeOf4
  v4 := Tryz.zeroValue4
  t5 := Tryz.underlying5
  a5 := Tryz.isAgg5
  z5 := Tryz.sizeOf5
  v5 := Tryz.zeroValue5
  t9 := Tryz.underlying9
  a9 := Tryz.isAgg9
  z9 := Tryz.sizeOf9
  v9 := Tryz.zeroValue9
  t20 := Tryz.underlying20
  a20 := Tryz.isAgg20
  z20 := Tryz.sizeOf20
  v20 := Tryz.zeroValue20
  t21 := Tryz.underlying21
  a21 := Tryz.isAgg21
  z21 := Tryz.sizeOf21
  v21 := Tryz.zeroValue21
  t37 := Tryz.underlying80
  a37 := Tryz.isAgg80
  z37 := Tryz.sizeOf80
  v37 := Tryz.zeroValue80
  t46 := Tryz.underlying96
  a46 := Tryz.isAgg96
  z46 := Tryz.sizeOf96
  v46 := Tryz.zeroValue96
  t51 := Tryz.underlying124
  a51 := Tryz.isAgg124
  z51 := Tryz.sizeOf124
  v51 := Tryz.zeroValue124
  t70 := Tryz.underlying112
  a70 := Tryz.isAgg112
  z70 := Tryz.sizeOf112
  v70 := Tryz.zeroValue112
  t72 := Tryz.underlying114
  a72 := Tryz.isAgg114
  z72 := Tryz.sizeOf114
  v72 := Tryz.zeroValue114
  t75 := Tryz.underlying27
  a75 := Tryz.isAgg27
  z75 := Tryz.sizeOf27
  v75 := Tryz.zeroValue27
  t76 := Tryz.underlying116
  a76 := Tryz.isAgg116
  z76 := Tryz.sizeOf116
  v76 := Tryz.zeroValue116
  t105 := Tryz.underlying66
  a105 := Tryz.isAgg66
  z105 := Tryz.sizeOf66
  v105 := Tryz.zeroValue66
  t107 := Tryz.underlying68
  a107 := Tryz.isAgg68
  z107 := Tryz.sizeOf68
  v107 := Tryz.zeroValue68
  t119 := Tryz.underlying87
  a119 := Tryz.isAgg87
  z119 := Tryz.sizeOf87
  t127 := Tryz.underlying135
  a127 := Tryz.isAgg135
  z127 := Tryz.sizeOf135
  v127 := Tryz.zeroValue135
  t138 := Tryz.underlying122
  a138 := Tryz.isAgg122
  z138 := Tryz.sizeOf122
  v138 := Tryz.zeroValue122
  t139 := Tryz.underlying123
  a139 := Tryz.isAgg123
  z139 := Tryz.sizeOf123
  v139 := Tryz.zeroValue123
  t160 := Tryz.underlying99
  a160 := Tryz.isAgg99
  z160 := Tryz.sizeOf99
  v160 := Tryz.zeroValue99
  t162 := Tryz.underlying101
  a162 := Tryz.isAgg101
  z162 := Tryz.sizeOf101
  v162 := Tryz.zeroValue101
  t164 := Tryz.underlying143
  a164 := Tryz.isAgg143
  z164 := Tryz.sizeOf143
  v164 := Tryz.zeroValue143
  t203 := Tryz.underlying147
  a203 := Tryz.isAgg147
  z203 := Tryz.sizeOf147
  v203 := Tryz.zeroValue147
  t206 := Tryz.underlying126
  a206 := Tryz.isAgg126
  z206 := Tryz.sizeOf126
  v206 := Tryz.zeroValue126
  t208 := Tryz.underlying128
  a208 := Tryz.isAgg128
  z208 := Tryz.sizeOf128
  v208 := Tryz.zeroValue128
  g3 := by kernel_rfl
  g4 := by kernel_rfl
  g13 := by kernel_rfl }
end Go.Proofs.YtcpflfpgnbihiaaGreatDoor.jl
