import Derived.Test.YtpnckklnmbfokaaDoorSameM
import Derived.Test.YtpnckklnmbfokaaDoorReadWalk11
import Derived.Test.YtpnckklnmbfokaaDoorRoomMath
namespace Go.Proofs.YtpnckklnmbfokaaDoor.jw
open Go.ChangeShapes Go.WideShapes Go.ChangeAt Go.RowKit Go.Proofs.YtpnckklnmbfokaaDoor.common
attribute [local go_sem ↓] Go.wp_at_zero Go.wp_at_succ

/-- the object that the chapter fixes -/
def am : Mem := ⟨[97], 2, [], 1, false⟩
theorem am_check : Json.check [am] = 0 := by
  have h : Lib.validD [97] = true := by rw [Lib.validD_cons 97 [] (by decide)]; rfl
  simp [Json.check, Json.known, Json.plainMem, am, Json.twice, h]
theorem am_obj : Json.objOf [am] = [123, 34, 97, 34, 58, 49, 125] := by
  have h : Lib.itoa 1 = [49] := by
    unfold Lib.itoa
    rw [if_neg (by decide)]
    rw [show (1 : Int).toNat = 1 from rfl, Lib.decDigits_one (by decide)]
    decide
  have hv : Json.valueOf am = [49] := by
    unfold Json.valueOf am
    rw [if_neg (by decide), if_pos rfl]
    exact h
  unfold Json.objOf Json.rowOf Json.memberOf
  rw [hv]
  decide
theorem am_range : ∀ m ∈ [am], Json.inRange m.num := by
  intro m hm
  simp only [List.mem_singleton] at hm
  subst hm
  exact ⟨by decide, by decide⟩
theorem am_read : Json.read [123, 34, 97, 34, 58, 49, 125] = (0, [am]) := by
  rw [← am_obj, Json.read_back [am] am_check am_range]; rfl

/-- all that the laws lean on -/
structure Base (w : World) (e : Nat → Addr) : Prop where
  four : Four w e
  short : Short w
  tabs : Tabs w
  syn : ∃ te pe, w.cell? ⟨19, 0, none⟩ = some (.iface te pe)
  rng : ∃ te pe, w.cell? ⟨20, 0, none⟩ = some (.iface te pe)
  pow : Pow w.heap.size w
theorem Base.below {w w' : World} {e : Nat → Addr} (h : Base w e) (hb : Below w.heap.size w w') : Base w' e := by
  obtain ⟨te, pe, hs⟩ := h.syn
  obtain ⟨tr, pr, hr⟩ := h.rng
  exact ⟨h.four.below hb, h.short.under hb h.short.lt, tabs_below h.tabs hb, ⟨te, pe, (hb.cell (World.block_lt_of_cell? w _ hs)).trans hs⟩, ⟨tr, pr, (hb.cell (World.block_lt_of_cell? w _ hr)).trans hr⟩,
    fun w'' h'' => h.pow w'' (hb.trans (h''.mono hb.size))⟩
theorem objectB {vl : Value} {l : List Mem} {w : World} {e : Nat → Addr} (h : Base w e) (hl : Lies w vl l) (hln : l.length ≤ 4611686018427387904) (hr : ∀ m ∈ l, Json.inRange m.num) (hlen : tot l + 100 ≤ 140737488355328) :
    Calls Tryd.prog 13 #[vl] w fun x w' => x = .returned (objAns e l) ∧ Below w.heap.size w w' :=
  object_any vl l w hl hln h.short h.tabs hr hlen h.pow e h.four
theorem readB {s : ByteArray} {w : World} {e : Nat → Addr} (h : Base w e) (hs : s.size ≤ reachBytes) :
    Calls Tryd.prog 17 #[.string s] w fun x w' => RAns e w.heap.size s.data.toList x w' ∧ Below w.heap.size w w' :=
  read_any s w hs e h.four h.short h.tabs h.syn h.rng

set_option maxRecDepth 100000 in
set_option maxHeartbeats 3200000 in
theorem begun_any (w : World) (e : Nat → Addr) (h : Base w e) :
    Calls Tryd.prog 16 #[] w fun x w' => x = .returned (.bool true) ∧ Below w.heap.size w w' := by
  obtain ⟨i0, hi, hz0, hz1, hz2⟩ := info_parts infoM
  have HB := hide h
  clear h
  go_enter Tryd.func16, Tryd.ntmps16
  go_wp2_with (at_builtin; refine wpList_append_own _ rfl _ _ 30 rfl w.heap.size 33 i0 _ 5 56 Tryd.underlying30 hi hz0 hz1 hz2 rfl (by decide) _ _ _ rfl ((World.ownsRow_nil _ _ _ _).alloc _) ⟨w.heap.size, 0, none⟩ 1 1 (cm am) rfl rfl (cells_new w (cm am) 33) ?c2 ?c3 ?c4 ?c5 ?_)
  case c2 => intro u hu; simp [cm] at hu; rcases hu with rfl | rfl | rfl | rfl | rfl <;> rfl
  case c3 => unfold maxLen; omega
  case c4 => omega
  case c5 => simp
  intro v1 w1 hown1 hgrow1 _
  have hb1 : Below w.heap.size w w1 := ((Below.refl w.heap.size w).alloc (Nat.le_refl _) _).grown hgrow1 (by simp) (fun k hk => by cases hk)
  have HL1 : Hid (Lies w1 v1 [am]) := lies_of_own (l := [am]) hown1
  have HX1 := hide hb1
  clear hown1 hgrow1 hb1
  go_wp2_with fail
  refine (objectB (HB.out.below HX1.out) HL1.out (by decide) am_range (by decide)).mono ?_
  rintro x w2 ⟨rfl, hb2⟩
  have HX2 := hide (HX1.out.trans (hb2.mono HX1.out.size))
  have HL2 := hide (HL1.out.below hb2)
  have hans : objAns e [am] = .tuple #[S [123, 34, 97, 34, 58, 49, 125], .nilIface] := by unfold objAns; rw [if_pos am_check, am_obj]
  rw [hans]
  clear hb2 hans
  go_wp2_with fail
  refine (readB (s := ⟨#[123, 34, 97, 34, 58, 49, 125]⟩) (HB.out.below HX2.out) (by unfold reachBytes; decide)).mono ?_
  rintro x w3 ⟨⟨mv, rfl, hown3⟩, hb3⟩
  have hrd : Json.read ((⟨#[123, 34, 97, 34, 58, 49, 125]⟩ : ByteArray).data.toList) = (0, [am]) := am_read
  rw [hrd] at hown3 ⊢
  have HX3 := hide (HX2.out.trans (hb3.mono HX2.out.size))
  have HL3 := hide (HL2.out.below hb3)
  have HM3 := hide (lies_of_own hown3)
  have hev : errV e (0, [am]).1 = .nilIface := rfl
  rw [hev]
  clear hb3 hown3 hrd hev
  go_wp2_with fail
  refine (sameM_any v1 mv [am] w3 HL3.out HM3.out (by decide)).mono ?_
  rintro x w4 ⟨rfl, hb4⟩
  have HX4 := hide (HX3.out.trans (hb4.mono HX3.out.size))
  clear hb4
  go_wp2
  go_ret
  exact ⟨rfl, HX4.out⟩
end Go.Proofs.YtpnckklnmbfokaaDoor.jw
