import Derived.Test.YtilhfmhjgfmejaaGreatDoorMRcList
import Derived.Test.YtilhfmhjgfmejaaGreatDoorMTmSeq
import Derived.Shelf.Lays
import Derived.Shelf.Lays2
import Derived.Shelf.LaysM
import Derived.Shelf.LaysC
import Derived.Ground.NamesProg
import Derived.Ground.Names2Prog
import Derived.Test.YtilhfmhjgfmejaaGreatDoorProg
namespace Go.Proofs.YtilhfmhjgfmejaaGreatDoor.tm
open Go.ChangeShapes Go.WideShapes Go.ChangeAt Go.RowKit Go.Proofs.YtilhfmhjgfmejaaGreatDoor.common Go.Proofs.YtilhfmhjgfmejaaGreatDoor.bk
attribute [local go_sem ↓] Go.wp_at_zero Go.wp_at_succ

/-- a scope's byte -/
def scB (b : UInt8) : Bool := Tm.btw 33 126 b && decide (b.toNat ≠ 34) && decide (b.toNat ≠ 92)

set_option maxHeartbeats 1600000 in
theorem sc_tests : Tests 120 scB := by
  intro w c
  have HV := hide (vis_tests w c)
  have HS : Hid (scB c = (Tm.btw 33 126 c && decide (c.toNat ≠ 34) && decide (c.toNat ≠ 92))) := rfl
  generalize Tm.btw 33 126 c = t at *
  cases t with
  | false =>
    go_enter Tryz.func120, Tryz.ntmps120
    go_wp2_with (go_at_call 69; refine HV.out.mono ?_; rintro x w2 ⟨rfl, rfl⟩)
    go_ret
    exact ⟨by rw [HS.out]; rfl, rfl⟩
  | true =>
    by_cases h1 : c.toNat = 34
    · have h1i : (c.toNat : Int) = 34 := by omega
      have HR : Hid (scB c = false) := by show _ = _; rw [HS.out, h1]; rfl
      go_enter Tryz.func120, Tryz.ntmps120
      go_wp2_with (go_at_call 69; refine HV.out.mono ?_; rintro x w2 ⟨rfl, rfl⟩)
      go_ret
      exact ⟨by rw [HR.out]; rfl, rfl⟩
    · have h1i : ¬ (c.toNat : Int) = 34 := by omega
      have h1b : ((c.toNat : Int) == 34) = false := beq_false_of_ne h1i
      by_cases h2 : c.toNat = 92
      · have h2i : (c.toNat : Int) = 92 := by omega
        have HR : Hid (scB c = false) := by show _ = _; rw [HS.out, h2]; rfl
        go_enter Tryz.func120, Tryz.ntmps120
        go_wp2_with (go_at_call 69; refine HV.out.mono ?_; rintro x w2 ⟨rfl, rfl⟩)
        go_ret
        exact ⟨by rw [HR.out]; rfl, rfl⟩
      · have h2i : ¬ (c.toNat : Int) = 92 := by omega
        have h2b : ((c.toNat : Int) == 92) = false := beq_false_of_ne h2i
        have HR : Hid (scB c = true) := by show _ = _; rw [HS.out, decide_eq_true h1, decide_eq_true h2]; rfl
        go_enter Tryz.func120, Tryz.ntmps120
        go_wp2_with (go_at_call 69; refine HV.out.mono ?_; rintro x w2 ⟨rfl, rfl⟩)
        go_ret
        exact ⟨by rw [HR.out]; show Ending.returned (Value.bool ((c.toNat : Int) != 34 && (c.toNat : Int) != 92)) = _; rw [bne_iff_ne.2 h1i, bne_iff_ne.2 h2i]; rfl, rfl⟩
theorem sc_enters : Enters 120 := enters_of Tryz.func120 (by kernel_rfl) rfl

set_option maxRecDepth 100000 in
set_option maxHeartbeats 1600000 in
/-- of a text of any length -/
theorem isWord_most (s : ByteArray) (most : Nat) (g : Nat) (p : UInt8 → Bool) (w : World) (hmost : most ≤ 4611686018427387904) (eg : Enters g) (hf : Tests g p) :
    Calls Tryz.prog 68 #[.string s, .int .i64 most, .func (.func g) #[] #[]] w fun e w' => e = .returned (.bool (Tm.word most p s.data.toList)) ∧ w' = w := by
  by_cases hm : s.size ≤ most
  · exact isWord_any s most g p w (Nat.le_trans hm hmost) eg hf
  · clear hf eg
    have he : s ≠ ⟨#[]⟩ := fun e => hm (by rw [e]; exact Nat.zero_le _)
    obtain ⟨h1, h2, h3⟩ := word_ne he
    have hmi : ¬ (s.size : Int) ≤ (most : Int) := by omega
    have HR : Hid (Tm.word most p s.data.toList = false) := by
      show _ = _
      unfold Tm.word
      rw [len_list, decide_eq_false hm]; simp
    rw [HR.out]
    go_enter Tryz.func68, Tryz.ntmps68
    go_wp2_with fail
    go_ret
    exact ⟨rfl, rfl⟩

/-- one result, a bool in a cell -/
theorem results_bool {fn : Func} {p : Tmp} {w : World} {b : Nat} {v : Value} (h : fn.results = #[.cell p 4]) (tmps : Array Value) (hx : tmps.getD p undef = .pointer (some ⟨b, 0, none⟩)) (hc : w.cell? ⟨b, 0, none⟩ = some v) :
    (results fn tmps).run Tryz.prog w = .ok v w := by
  have hx' : tmps[p]?.getD undef = .pointer (some ⟨b, 0, none⟩) := by simpa using hx
  simp only [results, h]
  simp [hx', asAddr, loadVar, Tryz.isAgg4, hc]

/-- one scope -/
def isSc (s : ByteArray) : Bool := Tm.word 32 scB s.data.toList
/-- scopes with one blank between each two -/
def areSc (s : ByteArray) : Bool := (tsq.parts 32 s).all isSc

end Go.Proofs.YtilhfmhjgfmejaaGreatDoor.tm

namespace Go.Proofs.YtilhfmhjgfmejaaGreatDoor.tm
open Go.RowKit Go.Shelf Go.Proofs.YtilhfmhjgfmejaaGreatDoor.common Go.Proofs.YtilhfmhjgfmejaaGreatDoor.bk
open Go.Proofs.YtilhfmhjgfmejaaGreatDoor.rgr (Seq range_law post)
open Go.Proofs.YtilhfmhjgfmejaaGreatDoor.tsq
attribute [local go_sem] Oper.semAt_some

/-- the walk's own cell, and nothing below it -/
def ScInv (w : World) (v : Value) (W : World) : Prop := Boxed W w.heap.size 4 v ∧ Below w.heap.size w W
theorem sc_abides (w : World) (N b : Nat) (v : Value) (p : List ByteArray → Prop) (hN : w.heap.size < N) (hb : w.heap.size < b) : rgr.Abides (α := ByteArray) N b (fun pre W => ScInv w v W ∧ p pre) where
  put := by
    rintro pre A l o o' ⟨⟨hv, hB⟩, hp⟩ hl ho hc
    refine ⟨⟨hv.kept (grownBy_putObj' A l o') (fun e => by cases e; omega), ?_⟩, hp⟩
    exact hB.trans ((Below.refl _ A).grown (grownBy_putObj' A l o') hB.size (fun k e => by cases e; omega))
  alloc := by
    rintro pre A o ⟨⟨hv, hB⟩, hp⟩
    exact ⟨⟨hv.alloc o, hB.alloc hB.size o⟩, hp⟩
  set := by
    rintro pre A u ⟨⟨hv, hB⟩, hp⟩
    exact ⟨⟨hv.other (by omega) u, hB.setCell (p := ⟨b, 0, none⟩) (by show w.heap.size ≤ b; omega) u⟩, hp⟩
  drew := by
    rintro pre A ⟨⟨hv, hB⟩, hp⟩
    exact ⟨⟨hv, hB.drew⟩, hp⟩

set_option maxRecDepth 100000 in
set_option maxHeartbeats 6400000 in
theorem areScopes_any (s : ByteArray) (w : World) (hs : s.size ≤ reachBytes) :
    Calls Tryz.prog 93 #[.string s] w fun e w' => e = .returned (.bool (areSc s)) ∧ Below w.heap.size w w' := by
  refine (callsIn_wide (n := 5)).1 ?_
  refine callsIn_of_wp_marks Tryz.func93 rfl trivial ?_ rfl
  simp only [Tryz.ntmps93, List.size_toArray, List.length_cons, List.length_nil, Nat.reduceAdd, Nat.reduceSub, Array.replicate_succ, Array.replicate_zero, List.push_toArray, List.append_toArray, List.nil_append, List.cons_append]
  gi_wp2
  refine ⟨trivial, (callsIn_wide.2 (splitFace_any 32 s _)).mono ?_⟩
  rintro e w' ⟨rfl, rfl⟩
  gi_wp2
  have hsz : (w.alloc (.cells #[.bool false] 4)).heap.size = w.heap.size + 1 := by simp
  have hN := boxes_size 32 (w.alloc (.cells #[.bool false] 4)) s
  have hBX := boxes_new 32 (w.alloc (.cells #[.bool false] 4)) s
  have hB0 := ((Below.refl _ w).alloc (Nat.le_refl _) (.cells #[.bool false] 4)).trans ((boxes_below 32 (w.alloc (.cells #[.bool false] 4)) s).mono (by rw [hsz]; omega))
  have hbo : Boxed (boxesOf 32 (w.alloc (.cells #[.bool false] 4)) s) w.heap.size 4 (.bool false) := (((Boxed.new w 4 (.bool false)).alloc _).alloc _).alloc _
  rw [hsz] at hN hBX
  generalize boxesOf 32 (w.alloc (.cells #[.bool false] 4)) s = W0 at *
  refine range_law (b := w.heap.size + 1) rfl (by omega) (gf := 159) rfl trivial (enters_of Tryz.func159 (by kernel_rfl) rfl) (enc := fun x : ByteArray => #[Value.string x]) (fun _ => rfl) (by omega)
    (split_seq 32 4 s hs (w.heap.size + 1 + 1) (w.heap.size + 1) (w.heap.size + 1 + 2) (by omega) (by omega) W0 hBX)
    (fun h k => ⟨k.1.trans h.1, k.2.1.trans h.2.1, k.2.2.trans h.2.2⟩)
    (fun A l o hl => ⟨World.putObj_heap_other (by omega), World.putObj_heap_other (by omega), World.putObj_heap_other (by omega)⟩)
    (fun o o' => ⟨?n1, ?n2, ?n3⟩)
    (fun pre W => ScInv w (.bool false) W ∧ pre.all isSc = true) (fun pre W => ScInv w (.bool false) W ∧ pre.all isSc = false)
    (sc_abides w _ _ _ (fun pre => pre.all isSc = true) (by omega) (by omega)) (sc_abides w _ _ _ (fun pre => pre.all isSc = false) (by omega) (by omega))
    ⟨⟨hbo, hB0⟩, rfl⟩
    (fun x => { tmps := #[.string s, undef, .pointer (some ⟨w.heap.size, 0, none⟩), .string x, .string s, .func (.func 159) #[] #[.pointer (some ⟨w.heap.size + 1 + 1, 0, none⟩), .pointer (some ⟨w.heap.size + 1, 0, none⟩), .pointer (some ⟨w.heap.size + 1 + 2, 0, none⟩)], .string x, undef, undef, undef], defers := [] }) ?assign ?body ?done ?stop
  case n1 => exact ((Below.heap_alloc _ _ _ (by simp; omega)).trans (Below.heap_alloc _ _ _ (by omega)))
  case n2 => exact ((Below.heap_alloc _ _ _ (by simp; omega)).trans (Below.heap_alloc _ _ _ (by omega)))
  case n3 => exact ((Below.heap_alloc _ _ _ (by simp; omega)).trans (Below.heap_alloc _ _ _ (by omega)))
  case assign =>
    intro l x W K hK
    gi_wp2
    exact hK
  case body =>
    rintro l pre x W ⟨⟨hv, hB⟩, hp⟩
    have HW := hide (isWord_most x 32 _ scB W (by decide) sc_enters sc_tests)
    have HA : Hid ((pre ++ [x]).all isSc = Tm.word 32 scB x.data.toList) := by show _ = _; rw [List.all_append, hp]; simp [isSc]
    have HV := hide hv
    have HB := hide hB
    clear hv hB hp
    gi_wp2
    refine ⟨trivial, ((callsIn_wide.2 HW.out).inRound l).mono ?_⟩
    rintro e W2 ⟨rfl, rfl⟩
    have hc := HV.out.cell
    have hf := HV.out.frozen
    cases ht : Tm.word 32 scB x.data.toList with
    | true =>
      rw [ht] at HA
      gi_wp2
      exact ⟨KeepsOthers.refl _, ⟨rfl, rfl, rfl⟩, ⟨HV.out, HB.out⟩, HA.out⟩
    | false =>
      rw [ht] at HA
      gi_wp2
      exact ⟨KeepsOthers.setCell _ _ _, ⟨HV.out.set _, HB.out.setCell (p := ⟨w.heap.size, 0, none⟩) (Nat.le_refl _) _⟩, HA.out⟩
  case done =>
    rintro D xs W hD rfl ⟨⟨hv, hB⟩, hp⟩ hK
    have hc := hv.cell
    have hf := hv.frozen
    gi_wp2
    have hv2 := hv.set (.bool true)
    have hB2 := hB.setCell (p := ⟨w.heap.size, 0, none⟩) (Nat.le_refl _) (.bool true)
    have hK2 : (W.setCell ⟨w.heap.size, 0, none⟩ (.bool true)).heap[D]? = some (.deferred (some [])) := (rgr.set_heap_other W w.heap.size D (.bool true) (by omega)).trans hK
    refine ⟨by simp, .inl ⟨_, _, rfl, run_takeDeferred hK2, ?_⟩⟩
    refine ⟨_, results_bool rfl _ rfl (hv2.kept (grownBy_putObj' _ D _) (fun e => by cases e; omega)).cell, ?_, hB2.trans ((Below.refl _ _).grown (grownBy_putObj' _ D _) hB2.size (fun k e => by cases e; omega))⟩
    show Ending.returned (.bool true) = _
    unfold areSc
    rw [hp]
  case stop =>
    rintro D pre W hD hpre ⟨⟨hv, hB⟩, hp⟩ hK
    gi_wp2
    refine ⟨by simp, .inl ⟨_, _, rfl, run_takeDeferred hK, ?_⟩⟩
    refine ⟨_, results_bool rfl _ rfl (hv.kept (grownBy_putObj' W D _) (fun e => by cases e; omega)).cell, ?_, hB.trans ((Below.refl _ W).grown (grownBy_putObj' W D _) hB.size (fun k e => by cases e; omega))⟩
    show Ending.returned (.bool false) = _
    obtain ⟨t, ht⟩ := hpre
    unfold areSc
    rw [← ht, List.all_append, hp]; rfl

end Go.Proofs.YtilhfmhjgfmejaaGreatDoor.tm

namespace Go.Proofs.YtilhfmhjgfmejaaGreatDoor.jl
open Go.Shelf
def lays216_ren : Go.Shelf.Ren := ⟨fun | 16 => 121 | n => n, fun | 24 => 43 | 9 => 9 | 4 => 4 | n => n, fun | n => n⟩
theorem lays216 : Go.Proofs.Lays2.n16 Tryz.prog lays216_ren := {
  mixed := by kernel_rfl
  f16 := Tryz.func121.trans (congrArg some (by kernel_rfl))
  t4 := Tryz.underlying4
  a4 := Tryz.isAgg4
  z4 := Tryz.sizeOf4
  v4 := Tryz.zeroValue4
  t9 := Tryz.underlying9
  a9 := Tryz.isAgg9
  z9 := Tryz.sizeOf9
  v9 := Tryz.zeroValue9
  t24 := Tryz.underlying43
  a24 := Tryz.isAgg43
  z24 := Tryz.sizeOf43
  v24 := Tryz.zeroValue43
  i9 := by kernel_rfl }
def lays190_ren : Go.Shelf.Ren := ⟨fun | 190 => 122 | 125 => 143 | 258 => 142 | 128 => 170 | 129 => 106 | 302 => 161 | 303 => 162 | 304 => 163 | 305 => 164 | 306 => 165 | 307 => 166 | 308 => 167 | 309 => 168 | 310 => 169 | 333 => 184 | 329 => 185 | 330 => 186 | 334 => 187 | 335 => 188 | 336 => 189 | 344 => 198 | n => n, fun | 31 => 43 | 9 => 9 | 3 => 3 | 46 => 98 | 0 => 0 | 51 => 137 | 53 => 121 | 4 => 4 | 183 => 167 | 182 => 166 | 131 => 171 | 5 => 5 | 218 => 178 | 222 => 62 | 228 => 194 | 229 => 195 | n => n, fun | n => n⟩
theorem lays190 : Go.Proofs.Lays.n190 Tryz.prog lays190_ren := {
  mixed := by kernel_rfl
  f125 := Tryz.func143.trans (congrArg some (by kernel_rfl))
  f128 := Tryz.func170.trans (congrArg some (by kernel_rfl))
  f129 := Tryz.func106.trans (congrArg some (by kernel_rfl))
  f190 := Tryz.func122.trans (congrArg some (by kernel_rfl))
  f258 := Tryz.func142.trans (congrArg some (by kernel_rfl))
  f302 := Tryz.func161.trans (congrArg some (by kernel_rfl))
  f303 := Tryz.func162.trans (congrArg some (by kernel_rfl))
  f304 := Tryz.func163.trans (congrArg some (by kernel_rfl))
  f305 := Tryz.func164.trans (congrArg some (by kernel_rfl))
  f306 := Tryz.func165.trans (congrArg some (by kernel_rfl))
  f307 := Tryz.func166.trans (congrArg some (by kernel_rfl))
  f308 := Tryz.func167.trans (congrArg some (by kernel_rfl))
  f309 := Tryz.func168.trans (congrArg some (by kernel_rfl))
  f310 := Tryz.func169.trans (congrArg some (by kernel_rfl))
  f329 := Tryz.func185.trans (congrArg some (by kernel_rfl))
  f330 := Tryz.func186.trans (congrArg some (by kernel_rfl))
  f333 := Tryz.func184.trans (congrArg some (by kernel_rfl))
  f334 := Tryz.func187.trans (congrArg some (by kernel_rfl))
  f335 := Tryz.func188.trans (congrArg some (by kernel_rfl))
  f336 := Tryz.func189.trans (congrArg some (by kernel_rfl))
  f344 := Tryz.func198.trans (congrArg some (by kernel_rfl))
  t0 := Tryz.underlying0
  a0 := Tryz.isAgg0
  z0 := Tryz.sizeOf0
  v0 := Tryz.zeroValue0
  t3 := Tryz.underlying3
  a3 := Tryz.isAgg3
  z3 := Tryz.sizeOf3
  v3 := Tryz.zeroValue3
  t4 := Tryz.underlying4
  a4 := Tryz.isAgg4
  z4 := Tryz.sizeOf4
  v4 := Tryz.zeroValue4
  t5 := Tryz.underlying5
  a5 := Tryz.isAgg5
  z5 := Tryz.sizeOf5
  v5 := Tryz.zeroValue5
  t9 := Tryz.underlying9
  a9 := Tryz.isAgg9
  z9 := Tryz.sizeOf9
  v9 := Tryz.zeroValue9
  t31 := Tryz.underlying43
  a31 := Tryz.isAgg43
  z31 := Tryz.sizeOf43
  v31 := Tryz.zeroValue43
  t46 := Tryz.underlying98
  a46 := Tryz.isAgg98
  z46 := Tryz.sizeOf98
  v46 := Tryz.zeroValue98
  t51 := Tryz.underlying137
  a51 := Tryz.isAgg137
  z51 := Tryz.sizeOf137
  v51 := Tryz.zeroValue137
  t53 := Tryz.underlying121
  a53 := Tryz.isAgg121
  z53 := Tryz.sizeOf121
  v53 := Tryz.zeroValue121
  t131 := Tryz.underlying171
  a131 := Tryz.isAgg171
  z131 := Tryz.sizeOf171
  v131 := Tryz.zeroValue171
  t182 := Tryz.underlying166
  a182 := Tryz.isAgg166
  z182 := Tryz.sizeOf166
  v182 := Tryz.zeroValue166
  t183 := Tryz.underlying167
  a183 := Tryz.isAgg167
  z183 := Tryz.sizeOf167
  v183 := Tryz.zeroValue167
  t218 := Tryz.underlying178
  a218 := Tryz.isAgg178
  z218 := Tryz.sizeOf178
  v218 := Tryz.zeroValue178
  t222 := Tryz.underlying62
  a222 := Tryz.isAgg62
  z222 := Tryz.sizeOf62
  v222 := Tryz.zeroValue62
  t228 := Tryz.underlying194
  a228 := Tryz.isAgg194
  z228 := Tryz.sizeOf194
  v228 := Tryz.zeroValue194
  t229 := Tryz.underlying195
  a229 := Tryz.isAgg195
  z229 := Tryz.sizeOf195
  v229 := Tryz.zeroValue195 }
def lays194_ren : Go.Shelf.Ren := ⟨fun | 194 => 123 | n => n, fun | 31 => 43 | 9 => 9 | 3 => 3 | 4 => 4 | 0 => 0 | n => n, fun | n => n⟩
theorem lays194 : Go.Proofs.Lays.n194 Tryz.prog lays194_ren := {
  mixed := by kernel_rfl
  f194 := Tryz.func123.trans (congrArg some (by kernel_rfl))
  t0 := Tryz.underlying0
  a0 := Tryz.isAgg0
  z0 := Tryz.sizeOf0
  v0 := Tryz.zeroValue0
  t3 := Tryz.underlying3
  a3 := Tryz.isAgg3
  z3 := Tryz.sizeOf3
  v3 := Tryz.zeroValue3
  t4 := Tryz.underlying4
  a4 := Tryz.isAgg4
  z4 := Tryz.sizeOf4
  v4 := Tryz.zeroValue4
  t9 := Tryz.underlying9
  a9 := Tryz.isAgg9
  z9 := Tryz.sizeOf9
  v9 := Tryz.zeroValue9
  t31 := Tryz.underlying43
  a31 := Tryz.isAgg43
  z31 := Tryz.sizeOf43
  v31 := Tryz.zeroValue43 }
def lays146_ren : Go.Shelf.Ren := ⟨fun | 146 => 95 | 221 => 124 | 268 => 144 | 138 => 145 | 143 => 146 | 195 => 171 | 197 => 160 | 218 => 172 | 219 => 148 | 260 => 183 | 217 => 174 | 225 => 175 | 224 => 176 | 267 => 177 | 266 => 190 | 314 => 191 | n => n, fun | 9 => 9 | 31 => 43 | 3 => 3 | 4 => 4 | 0 => 0 | 105 => 163 | 21 => 21 | 5 => 5 | 46 => 98 | 119 => 190 | 139 => 193 | 138 => 192 | 146 => 183 | 51 => 137 | n => n, fun | 1 => 20 | 3 => 23 | 4 => 24 | n => n⟩
theorem lays146 : Go.Proofs.LaysM.n146 Tryz.prog lays146_ren := {
  mixed := by kernel_rfl
  f138 := Tryz.func145.trans (congrArg some (by kernel_rfl))
  f143 := Tryz.func146.trans (congrArg some (by kernel_rfl))
  f146 := Tryz.func95.trans (congrArg some (by kernel_rfl))
  f195 := Tryz.func171.trans (congrArg some (by kernel_rfl))
  f197 := Tryz.func160.trans (congrArg some (by kernel_rfl))
  f217 := Tryz.func174.trans (congrArg some (by kernel_rfl))
  f218 := Tryz.func172.trans (congrArg some (by kernel_rfl))
  f219 := Tryz.func148.trans (congrArg some (by kernel_rfl))
  f221 := Tryz.func124.trans (congrArg some (by kernel_rfl))
  f224 := Tryz.func176.trans (congrArg some (by kernel_rfl))
  f225 := Tryz.func175.trans (congrArg some (by kernel_rfl))
  f260 := Tryz.func183.trans (congrArg some (by kernel_rfl))
  f266 := Tryz.func190.trans (congrArg some (by kernel_rfl))
  f267 := Tryz.func177.trans (congrArg some (by kernel_rfl))
  f268 := Tryz.func144.trans (congrArg some (by kernel_rfl))
  f314 := Tryz.func191.trans (congrArg some (by kernel_rfl))
  t0 := Tryz.underlying0
  a0 := Tryz.isAgg0
  z0 := Tryz.sizeOf0
  v0 := Tryz.zeroValue0
  t3 := Tryz.underlying3
  a3 := Tryz.isAgg3
  z3 := Tryz.sizeOf3
  v3 := Tryz.zeroValue3
  t4 := Tryz.underlying4
  a4 := Tryz.isAgg4
  z4 := Tryz.sizeOf4
  v4 := Tryz.zeroValue4
  t5 := Tryz.underlying5
  a5 := Tryz.isAgg5
  z5 := Tryz.sizeOf5
  v5 := Tryz.zeroValue5
  t9 := Tryz.underlying9
  a9 := Tryz.isAgg9
  z9 := Tryz.sizeOf9
  v9 := Tryz.zeroValue9
  t21 := Tryz.underlying21
  a21 := Tryz.isAgg21
  z21 := Tryz.sizeOf21
  v21 := Tryz.zeroValue21
  t31 := Tryz.underlying43
  a31 := Tryz.isAgg43
  z31 := Tryz.sizeOf43
  v31 := Tryz.zeroValue43
  t46 := Tryz.underlying98
  a46 := Tryz.isAgg98
  z46 := Tryz.sizeOf98
  v46 := Tryz.zeroValue98
  t51 := Tryz.underlying137
  a51 := Tryz.isAgg137
  z51 := Tryz.sizeOf137
  v51 := Tryz.zeroValue137
  t105 := Tryz.underlying163
  a105 := Tryz.isAgg163
  z105 := Tryz.sizeOf163
  v105 := Tryz.zeroValue163
  t119 := Tryz.underlying190
  a119 := Tryz.isAgg190
  z119 := Tryz.sizeOf190
  t138 := Tryz.underlying192
  a138 := Tryz.isAgg192
  z138 := Tryz.sizeOf192
  v138 := Tryz.zeroValue192
  t139 := Tryz.underlying193
  a139 := Tryz.isAgg193
  z139 := Tryz.sizeOf193
  v139 := Tryz.zeroValue193
  t146 := Tryz.underlying183
  a146 := Tryz.isAgg183
  z146 := Tryz.sizeOf183
  v146 := Tryz.zeroValue183
  g1 := by kernel_rfl
  g3 := by kernel_rfl
  g4 := by kernel_rfl
  i0 := by kernel_rfl
  i3 := by kernel_rfl
  i4 := by kernel_rfl
  i5 := by kernel_rfl
  i9 := by kernel_rfl
  i21 := by kernel_rfl
  i31 := by kernel_rfl
  i46 := by kernel_rfl
  i51 := by kernel_rfl
  i105 := by kernel_rfl
  i138 := by kernel_rfl
  i139 := by kernel_rfl
  i146 := by kernel_rfl
  m1 := by kernel_rfl
  s1_3 := fun w h => Go.Proofs.cell_of_shapedOpen_int (zero := #[.int .i64 0]) (t := 3) h (of_decide_eq_true (by kernel_rfl)) (by kernel_rfl) rfl (by kernel_rfl) (by kernel_rfl) Tryz.underlying3
  m3 := by kernel_rfl
  m4 := by kernel_rfl }
end Go.Proofs.YtilhfmhjgfmejaaGreatDoor.jl
