import Derived.Shelf.Lays
import Derived.Shelf.Lays2
import Derived.Shelf.LaysM
import Derived.Shelf.LaysC
import Derived.Ground.NamesProg
import Derived.Ground.Names2Prog
import Derived.Test.YtlefalplljgkeaaGreatDoorProg
import Derived.Test.YtlefalplljgkeaaGreatDoorMAgDrop
import Derived.Shelf.Strconv.Clone
import Derived.Deep.RegionHeld3
namespace Go.Proofs.YtlefalplljgkeaaGreatDoor.jl
open Go.Shelf
def lays316_ren : Go.Shelf.Ren := ⟨fun | 316 => 55 | n => n, fun | 9 => 9 | 3 => 3 | 4 => 4 | 37 => 60 | 0 => 0 | 127 => 99 | 5 => 5 | n => n, fun | n => n⟩
theorem lays316 : Go.Proofs.LaysM.n316 Tryz.prog lays316_ren := {
  mixed := by kernel_rfl
  f316 := Tryz.func55.trans (congrArg some (by kernel_rfl))
  t0 := Tryz.underlying0
  a0 := Tryz.isAgg0
  z0 := Tryz.sizeOf0
  v0 := Tryz.zeroValue0
  t3 := Tryz.underlying3
  a3 := Tryz.isAgg3
  z3 := Tryz.sizeOf3
  v3 := Tryz.zeroValue3
  t4 := Tryz.underlying4
  a4 := Tryz.isAgg4
  z4 := Tryz.sizeOf4
  v4 := Tryz.zeroValue4
  t9 := Tryz.underlying9
  a9 := Tryz.isAgg9
  z9 := Tryz.sizeOf9
  v9 := Tryz.zeroValue9
  t37 := Tryz.underlying60
  a37 := Tryz.isAgg60
  z37 := Tryz.sizeOf60
  v37 := Tryz.zeroValue60
  t127 := Tryz.underlying99
  a127 := Tryz.isAgg99
  z127 := Tryz.sizeOf99
  v127 := Tryz.zeroValue99
  t5 := Tryz.underlying5
  a5 := Tryz.isAgg5
  z5 := Tryz.sizeOf5
  v5 := Tryz.zeroValue5
  i0 := by kernel_rfl
  i3 := by kernel_rfl
  i4 := by kernel_rfl
  i5 := by kernel_rfl
  i9 := by kernel_rfl
  i37 := by kernel_rfl
  i127 := by kernel_rfl }
end Go.Proofs.YtlefalplljgkeaaGreatDoor.jl

namespace Go.Proofs.YtlefalplljgkeaaGreatDoor.ag
open Go.ChangeShapes Go.WideShapes Go.ChangeAt Go.RowKit Go.Proofs.YtlefalplljgkeaaGreatDoor.common Go.Maps Go.WideElems
attribute [local go_sem ↓] Go.wp_at_zero Go.wp_at_succ

theorem lclone_any (s : ByteArray) (w : World) (hs : s.size ≤ 281474976710656) : Calls Tryz.prog 55 #[.string s] w fun e w' => e = .returned (.string s) ∧ Below w.heap.size w w' :=
  Any.stringslite_Clone jl.lays316 s w hs
set_option maxRecDepth 100000 in
set_option maxHeartbeats 800000 in
theorem sclone_any (s : ByteArray) (w : World) (hs : s.size ≤ 281474976710656) : Calls Tryz.prog 43 #[.string s] w fun e w' => e = .returned (.string s) ∧ Below w.heap.size w w' := by
  have HC := hide (lclone_any s w hs)
  go_enter Tryz.func43, Tryz.ntmps43
  go_wp2_with fail
  refine HC.out.mono ?_
  rintro x w1 ⟨rfl, b1⟩
  have HB := hide b1
  clear b1
  go_wp2_with fail
  go_ret
  exact ⟨rfl, HB.out⟩

abbrev ckO (n v : ByteArray) (m : Int) : Obj := .cells #[.string n, .string v, .int .i64 m] 30
theorem cko_cells {w : World} {F : Nat} {n v : ByteArray} {m : Int} (h : w.heap[F]? = some (ckO n v m)) : w.cell? ⟨F, 0, none⟩ = some (.string n) ∧ w.cell? ⟨F, 1, none⟩ = some (.string v) ∧ w.cell? ⟨F, 2, none⟩ = some (.int .i64 m) := by
  refine ⟨?_, ?_, ?_⟩ <;> simp [World.cell?, h]
theorem zT_run2 (w : World) : (zeroValue 94).run Tryz.prog w = .ok zT w := by kernel_rfl

theorem keepP {w w1 w2 : World} (h : Below w.heap.size w w1) (h2 : Below w1.heap.size w1 w2) : Below w.heap.size w w2 := h.trans (h2.mono h.size)
theorem look_none {D : DataW Value} (h : Hs D []) {n : ByteArray} {u : Value} {ps : List MemPlace} (hu : rdV u = some (D.atKey (keyL n) (.held zT), ps)) : u = zT := by
  have h1 := Maps.atKey_of_not_has (h.not (t := n) (fun r hr => by cases hr)) (.held zT)
  rw [h1] at hu
  have := congrArg Prod.fst (Option.some.inj hu)
  injection this

set_option maxRecDepth 100000 in
set_option maxHeartbeats 3200000 in
/-- a cookie is taken out of an empty jar -/
theorem put_gone (mb : Nat) (now : Int) (n v : ByteArray) (w : World) (hJ : Jar w mb []) (hn : n.size ≤ maxLen) :
    Calls Tryz.prog 42 #[.map (some mb), .int .i64 now, .agg #[.string n, .string v, .int .i64 0]] w fun e w' => e = .returned (.tuple #[]) ∧ Jar w' mb [] ∧ Tn (fun k => k = mb) w w' := by
  have BA := al w (ckO n v 0)
  obtain ⟨D, k, hO, hH⟩ := hJ.below BA
  have HT := hide (Tn.of (S := fun k => k = mb) BA)
  have HH := hide hH
  have HTD := hide (hO.tidy keyed)
  obtain ⟨c0, c1, c2⟩ := cko_cells (heap_at w (ckO n v 0))
  clear BA hJ hH
  go_enter Tryz.func42, Tryz.ntmps42
  go_wp2_with (first
    | (at_lookup; refine wpList_lookup_own_ok _ rfl _ _ 53 rfl 9 94 keyed Tryz.underlying53 rdV (zT_run2 _) (.held zT) [] rfl mb k D rfl hO (.string n) (keyL n) rfl (keyL_of n hn) ?_; intro u ps hu; obtain rfl := look_none HH.out hu; clear hu; rw [HH.out.not (t := n) (fun r hr => absurd hr (by simp))]; unfold zT)
    | (at_delete; refine wpList_delete_own _ rfl _ _ 53 9 rfl 94 keyed Tryz.underlying53 rdV mb k D rfl (hO.alloc _) (.string n) (keyL n) rfl (keyL_of n hn) ?_; intro w1 hown1 hturn1))
  have HE : Hid (Jar w1 mb [] ∧ Tn (fun k => k = mb) w w1) := ⟨⟨_, _, hown1, HH.out.del HTD.out n⟩, (HT.out.trans (Tn.alloc _ _)).trans (turn_tn hturn1 rfl)⟩
  clear hown1 hturn1 hO
  go_wp2_with fail
  go_end0
  exact ⟨rfl, HE.out⟩

/-- a cookie's cells -/
abbrev Sk (mb B : Nat) (n v : ByteArray) (m : Int) (W X : World) : Prop := X.cell? ⟨B, 0, none⟩ = some (.string n) ∧ X.cell? ⟨B, 1, none⟩ = some (.string v) ∧ X.cell? ⟨B, 2, none⟩ = some (.int .i64 m) ∧ Hid (Tn (fun k => k = mb) W X)
theorem sk_keep {mb B : Nat} {n v : ByteArray} {m : Int} {W X Y : World} (hB : B < W.heap.size) (hne : B ≠ mb) (h : Sk mb B n v m W X) (hb : Tn (fun k => k = mb) X Y) : Sk mb B n v m W Y := by
  have h1 := h.2.2.2.out.size
  have e : ∀ j, Y.cell? ⟨B, j, none⟩ = X.cell? ⟨B, j, none⟩ := fun j => World.cell?_of_block (hb.block B (Nat.lt_of_lt_of_le hB h1) hne)
  exact ⟨(e _).trans h.1, (e _).trans h.2.1, (e _).trans h.2.2.1, h.2.2.2.out.trans hb⟩

set_option maxRecDepth 100000 in
set_option maxHeartbeats 3200000 in
/-- a cookie is put into an empty jar -/
theorem put_one (mb : Nat) (now : Int) (n v : ByteArray) (m : Int) (w : World) (hJ : Jar w mb []) (hn : n.size ≤ 140737488355328) (hv : v.size ≤ 140737488355328) (hm : m ≠ 0) :
    Calls Tryz.prog 42 #[.map (some mb), .int .i64 now, .agg #[.string n, .string v, .int .i64 m]] w fun e w' => e = .returned (.tuple #[]) ∧ Jar w' mb [⟨n, v, m, now⟩] ∧ Tn (fun k => k = mb) w w' := by
  have hnl : n.size ≤ maxLen := by unfold maxLen; omega
  have BA := al w (ckO n v m)
  obtain ⟨D, k, hO, hH⟩ := hJ.below BA
  have hO := owns_tight hO
  have h0 : Maps.size D = 0 := hH.len
  rw [h0] at hO
  have HT := hide (Tn.of (S := fun k => k = mb) BA)
  have HH := hide hH
  have HTD := hide (hO.tidy keyed)
  have hlen := fun ty => (hO.alloc (.cells #[.string emB, .int .i64 0, .int .i64 0] 94)).len Tryz.underlying53 ty
  rw [h0] at hlen
  obtain ⟨c0, c1, c2⟩ := cko_cells (heap_at w (ckO n v m))
  have HCN := hide (fun W => sclone_any n W (by omega))
  have HCV := hide (fun W => sclone_any v W (by omega))
  have HOO := hide hO
  clear BA hJ hH
  go_enter Tryz.func42, Tryz.ntmps42
  go_wp2_with (first
    | (at_lookup; refine wpList_lookup_own_ok _ rfl _ _ 53 rfl 9 94 keyed Tryz.underlying53 rdV (zT_run2 _) (.held zT) [] rfl mb 0 D rfl hO (.string n) (keyL n) rfl (keyL_of n hnl) ?_; intro u ps hu; obtain rfl := look_none HH.out hu; clear hu; rw [HH.out.not (t := n) (fun r hr => absurd hr (by simp))]; unfold zT))
  obtain ⟨W0, hW0⟩ : ∃ W0, W0 = (w.alloc (ckO n v m)).alloc (.cells #[.string emB, .int .i64 0, .int .i64 0] 94) := ⟨_, rfl⟩
  rw [← hW0]
  have HO0 : Hid (Owns W0 mb 0 D) := by rw [hW0]; exact hO.alloc _
  have HT0 : Hid (Tn (fun k => k = mb) w W0) := by rw [hW0]; exact HT.out.trans (Tn.alloc _ _)
  obtain ⟨d0, d1, d2⟩ := cko_cells (w := W0) (by rw [hW0]; exact blk (heap_at w (ckO n v m)) (al _ _))
  have hlb : w.heap.size < W0.heap.size ∧ w.heap.size ≠ mb := ⟨by rw [hW0]; simp; omega, fun e => by
    have h1 : W0.heap[w.heap.size]? = some (ckO n v m) := by rw [hW0]; exact blk (heap_at w (ckO n v m)) (al _ _)
    obtain ⟨es, clock, hb, _⟩ := HO0.out
    rw [e, hb] at h1; cases h1⟩
  clear hW0 hO hlen
  have HS0 : Sk mb w.heap.size n v m W0 W0.drew := ⟨d0, d1, d2, (Tn.refl _ _).drew⟩
  have hex : ∀ X : World, ∃ X' : World, Below W0.heap.size W0 X → ((Instr.mapUpdate 53 (.map (some mb)) (.string n) (.agg #[.string v, .int .i64 m, .int .i64 now])).run Tryz.prog X = .ok () X' ∧ Jar X' mb [⟨n, v, m, now⟩] ∧ Tn (fun k => k = mb) X X') := fun X => by
    by_cases hX : Below W0.heap.size W0 X
    · obtain ⟨X', h1, h2, h3⟩ := (HO0.out.kept (gb_of hX) (by simp)).store keyed Tryz.underlying53 (by decide) (keyL_of n hnl) (show rdV (.agg #[.string v, .int .i64 m, .int .i64 now]) = some (.held _, []) from rfl)
      exact ⟨X', fun _ => ⟨h1, ⟨_, _, h2, HH.out.put HTD.out ⟨n, v, m, now⟩ (fun x hx => absurd hx (by simp))⟩, turn_tn h3 rfl⟩⟩
    · exact ⟨X, fun h => absurd h hX⟩
  obtain ⟨st, hst⟩ := Classical.axiomOfChoice hex
  have HST := hide hst
  clear hex hst
  have hB0 : Below W0.heap.size W0 W0.drew := (Below.refl _ _).drew
  go_region_held3 (fun X => X.cell? ⟨w.heap.size, 0, none⟩ = some (.string n) ∧ X.cell? ⟨w.heap.size, 1, none⟩ = some (.string v) ∧ X.cell? ⟨w.heap.size, 2, none⟩ = some (.int .i64 m) ∧ Hid (Tn (fun k => k = mb) W0 X))
    (first
      | assumption
      | exact sk_keep hlb.1 hlb.2 (by assumption) (Tn.of (by assumption))
      | exact sk_keep hlb.1 hlb.2 (by assumption) (by assumption)
      | trivial)
    (first
      | (go_at_call 43; refine (HCN.out _).mono ?_; rintro y wa ⟨rfl, ba⟩; have hBa : Below W0.heap.size W0 wa := keepP (by assumption) ba; obtain ⟨ra, ja, ta⟩ := HST.out wa hBa)
      | (go_at_call 43; refine (HCV.out _).mono ?_; rintro y wb ⟨rfl, bb⟩; have hBb : Below W0.heap.size W0 wb := keepP (by assumption) bb; obtain ⟨rb, jb, tb⟩ := HST.out wb hBb))
  all_goals
    go_wp2_with fail
    go_end0
    refine ⟨rfl, by assumption, ?_⟩
    first
      | exact (HT0.out.trans (Tn.of hBa)).trans ta
      | exact (HT0.out.trans (Tn.of hBb)).trans tb
end Go.Proofs.YtlefalplljgkeaaGreatDoor.ag
