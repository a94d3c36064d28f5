import Derived.Test.YtkamnkldgeaaaaaDoorDaAd
import Derived.Test.YtkamnkldgeaaaaaDoorDaStrewn
import Derived.Test.YtkamnkldgeaaaaaDoorKitBw
import Derived.Deep.DeepCutAuto
namespace Go.Proofs.YtkamnkldgeaaaaaDoor.da
open Go.ChangeShapes Go.WideShapes Go.ChangeAt Go.RowKit Go.Proofs.YtkamnkldgeaaaaaDoor.common Go.Proofs.YtkamnkldgeaaaaaDoor.dk Go.Proofs.YtkamnkldgeaaaaaDoor.dr

abbrev beh : ByteArray := ⟨#[98, 101, 104, 105, 110, 100]⟩
/-- a text with six bytes behind it -/
structure Bh (t Z : ByteArray) : Prop where
  eq : t ++ beh = Z
  sz : Z.size = t.size + 6
  ls : Z.data.toList = t.data.toList ++ beh.data.toList
theorem bh_of (t : ByteArray) : Bh t (t ++ beh) := ⟨rfl, by rw [ByteArray.size_append]; rfl, by rw [ByteArray.data_append, Array.toList_append]⟩
/-- its bytes, and the head of them -/
theorem Bh.own {t Z : ByteArray} {w : World} {base : Nat} {v : Value} (h : Bh t Z) (ho : w.ownsRow base 5 1 v Z.size (Z.data.toList.map B)) : ∃ g c, v = .slice (some ⟨g, 0, none⟩) Z.size c ∧ t.size ≤ c ∧ w.ownsRow base 5 1 (.slice (some ⟨g, 0, none⟩) t.size c) t.data.toList.length (t.data.toList.map B) ∧ base ≤ g ∧ g < w.heap.size := by
  have hz := h.sz
  have hle : t.data.toList.length = t.size := Array.length_toList
  obtain ⟨g, c, hv, hg, _⟩ := own_cell1 ho (by omega)
  subst hv
  have hc : Z.size ≤ c := by
    rcases ho.2 with ⟨hx, _⟩ | ⟨g', c', cur, hx, _, _, h3, _⟩
    · cases hx
    · cases hx; exact h3
  have h1 : w.ownsRow base 5 1 (.slice (some ⟨g, 0, none⟩) Z.size c) (t.data.toList ++ beh.data.toList).length ((t.data.toList ++ beh.data.toList).map B) := by
    rw [← h.ls, Array.length_toList]
    exact ho
  have h2 := own_head h1
  rw [hle] at h2 ⊢
  exact ⟨g, c, rfl, by omega, h2, own_ge ho g rfl, hg⟩
theorem kp_start (w : World) (base : Nat) (hb : base ≤ w.heap.size) : Kp base (w.alloc (.cells #[.slice none 0 0, .slice none 0 0] 35)) w.heap.size [w.heap.size] [] [] :=
  ⟨⟨.slice none 0 0, .slice none 0 0, rfl, ⟨heap_alloc_new _ _, World.ownsRow_nil _ _ _ _, World.ownsRow_nil _ _ _ _⟩⟩, fun k hk => (by cases hk), fun b hb' => (by cases hb'), fun b hb' => (by cases hb'), fun b hb' => (by rw [List.mem_singleton.1 hb']; exact hb), fun k hk => (by cases hk)⟩

theorem sizeScript : (Tryd.prog.info? 24).map (·.size) = some 4 := by kernel_rfl
/-- what is held within a region: what lies below, and a step's box -/
def Sx (base : Nat) (W0 : World) (b : Nat) (s : Sp) (X : World) : Prop := Below base W0 X ∧ X.heap[b]? = some (stcQ s)
theorem Sx.drew {base : Nat} {W0 : World} {b : Nat} {s : Sp} {X : World} (h : Sx base W0 b s X) : Sx base W0 b s X.drew := ⟨h.1.drew, h.2⟩
theorem Sx.next {base : Nat} {W0 : World} {b : Nat} {s : Sp} {X Y : World} (h : Sx base W0 b s X) (hb : base ≤ X.heap.size) (hy : Below X.heap.size X Y) : Sx base W0 b s Y := ⟨h.1.trans (hy.mono hb), (hy.block _ (Array.getElem?_eq_some_iff.1 h.2).1).trans h.2⟩
/-- behind k steps -/
def ApI (base : Nat) (W0 : World) (e : Nat → Addr) (pa pc pk n : Nat) (i : Value) (wr : World) : Prop := ∃ (k : Nat) (Fa Fc FK Q : List Nat) (x : St) (ks : List (Value × Nat × UInt8)), k ≤ n ∧ k ≤ 60 ∧ i = .int .i64 k ∧ Ad base W0 wr e pa pc pk Fa Fc FK Q x x ks k ∧ ks.length = 4 + 8 * k
/-- amid a step: it is done, its list is kept -/
def ApJ (base : Nat) (W0 : World) (e : Nat → Addr) (pa pc pk k : Nat) (wr : World) : Prop := ∃ (Fa Fc FK Q : List Nat) (x : St) (ks : List (Value × Nat × UInt8)), Ad base W0 wr e pa pc pk Fa Fc FK Q x x ks (k + 1) ∧ ks.length = 8 + 8 * k

set_option maxRecDepth 100000 in
set_option maxHeartbeats 25600000 in
theorem lawApart0 (STREWN : ∀ (w : World) (room : Int) (data : ByteArray) (other : Int) (vs : Value) (ss : List Sp), LiesP w vs ss → dk.Steps ss → data.size ≤ reachBytes → ∀ e : Nat → Addr, errw.Errs w e → Calls Tryd.prog 17 #[scvQ room data other vs] w fun r' w' => r' = .returned (.bool true) ∧ Below w.heap.size w w') (w : World) (room : Int) (data : ByteArray) (other : Int) (vs : Value) (ss : List Sp) (hs : LiesP w vs ss) (hS : dk.Steps ss) (hdt : data.size ≤ reachBytes) (e : Nat → Addr) (he : errw.Errs w e) :
    Calls Tryd.prog 3 #[scvQ room data other vs] w fun r' w' => r' = .returned (.bool true) ∧ Below w.heap.size w w' := by
  have HLI := hide hs
  obtain ⟨oa, cap, rfl, _⟩ := hs
  obtain ⟨W0, hW0⟩ : ∃ W0, W0 = w.alloc (.cells #[.int .i64 room, .string data, .int .i64 other, .slice oa ss.length cap] 24) := ⟨_, rfl⟩
  have hB0 : Below w.heap.size w W0 := by rw [hW0]; exact (Below.refl _ _).alloc (Nat.le_refl _) _
  have hX0 : W0.heap[w.heap.size]? = some (.cells #[.int .i64 room, .string data, .int .i64 other, .slice oa ss.length cap] 24) := by rw [hW0]; exact heap_alloc_new _ _
  have hz0 : w.heap.size < W0.heap.size := by rw [hW0]; simp
  have HB0 := hide hB0
  have HX0 := hide hX0
  have HLP := hide (HLI.out.below hB0)
  have HER := hide (he.below hB0)
  have HE0 := hide (er_of (he.below hB0))
  have HSS := hide hS
  have HW0 := hide hW0
  have hlen : ss.length ≤ 8796093022207 := by have := hS.len; omega
  obtain ⟨D, hD⟩ : ∃ D, D = data.data.toList := ⟨_, rfl⟩
  have hDl : D.length = data.size := by rw [hD, Array.length_toList]; rfl
  have hdl : data.size ≤ 140737488351232 := hdt
  have HDT := hide hdt
  have HD := hide hD
  have HDL := hide hDl
  obtain ⟨Z, hZb⟩ : ∃ Z, Bh data Z := ⟨_, bh_of data⟩
  have hZ := hZb.eq
  have HBH := hide hZb
  have HZS : Hid (Z.size ≤ 140737488355328) := by show _ ≤ _; rw [hZb.sz]; omega
  have g1 : ¬ (9223372036854775807 < data.size + 6) := by omega
  have v0 : W0.cell? ⟨w.heap.size, 0, none⟩ = some (.int .i64 room) := cell_of hX0 0
  have v1 : W0.cell? ⟨w.heap.size, 1, none⟩ = some (.string data) := cell_of hX0 1
  have u1 : (w.alloc (.cells #[.int .i64 room, .string data, .int .i64 other, .slice oa ss.length cap] 24)).cell? ⟨w.heap.size, 1, none⟩ = some (.string data) := by rw [← hW0]; exact v1
  have HBY := hide (kitw.bytes_wide Z W0 HZS.out)
  clear hX0 hB0 hS he hW0 hdt hD hDl hZb
  go_enter Tryd.func3, Tryd.ntmps3
  go_wp2_with fail
  rw [← HW0.out]
  refine HBY.out.mono ?_
  rintro r' w1 ⟨v8, rfl, o8, _, b8⟩
  obtain ⟨ga, ca, hva, hca, hoa, hga, hgl⟩ := HBH.out.own o8
  subst hva
  have HOA := hide o8
  have HOD := hide hoa
  have HB1 := hide b8
  have x1 : w1.cell? ⟨w.heap.size, 1, none⟩ = some (.string data) := cell_of ((b8.block _ hz0).trans HX0.out) 1
  have x0 : w1.cell? ⟨w.heap.size, 0, none⟩ = some (.int .i64 room) := cell_of ((b8.block _ hz0).trans HX0.out) 0
  have y0 : (0 : Int) ≤ (data.size : Int) := Int.natCast_nonneg _
  have y1 : (data.size : Int) ≤ (ca : Int) := by omega
  have HOP := hide (open_any w1 (.slice (some ⟨ga, 0, none⟩) data.size ca) D room (by rw [HD.out]; have h1 := rd_own (l := data.data.toList) (v := .slice (some ⟨ga, 0, none⟩) data.size ca) hoa; exact h1) (by rw [HDL.out]; omega))
  clear o8 hoa b8 v0 v1 u1 HBY
  go_wp2_with fail
  refine HOP.out.mono ?_
  rintro r' w2 ho
  obtain ⟨pa, Fa, rfl, hRa, hFa, hb2⟩ := opened_run (base := W0.heap.size) ho HB1.out.size (HE0.out.below HB1.out) (fine_new D D.length room (Nat.le_refl _) (by rw [HDL.out]; omega)) rfl
  have HRa := hide hRa
  have HFA := hide hFa
  have HB2 := hide (keepD HB1.out hb2)
  have HOA2 := hide (own_below HOA.out hb2)
  have HOD2 := hide (own_below HOD.out hb2)
  have hzw2 : w1.heap.size ≤ w2.heap.size := hb2.size
  have v1 : ∀ X, Below w2.heap.size w2 X → X.cell? ⟨w.heap.size, 1, none⟩ = some (.string data) := fun X hX => cell_of (((hX.block _ (by have := HB2.out.size; omega)).trans (HB2.out.block _ hz0)).trans HX0.out) 1
  have v2 : ∀ X, Below w2.heap.size w2 X → X.cell? ⟨w.heap.size, 0, none⟩ = some (.int .i64 room) := fun X hX => cell_of (((hX.block _ (by have := HB2.out.size; omega)).trans (HB2.out.block _ hz0)).trans HX0.out) 0
  have HGA : Hid (W0.heap.size ≤ ga ∧ ga < w1.heap.size) := ⟨hga, hgl⟩
  clear hRa hFa hb2 ho HOA HOD x0 x1 HOP hga hgl
  go_wp2_with fail
  go_region_held3 (fun X => Below w2.heap.size w2 X)
    (first
      | exact Below.refl _ _
      | assumption
      | exact keepD (by assumption) (by assumption)
      | exact Below.drew (by assumption)
      | exact (Below.refl _ _).drew)
    (first
      | (go_at_call 4; refine (kitw.bytes_any data _ HDT.out).mono ?_; rintro x' w3 ⟨v3, rfl, o3, n3, b3⟩)
      | (go_at_call 6; refine (dopen_any _ _ D room (rd_own (by rw [HDL.out, HD.out]; assumption)) (by rw [HDL.out]; omega)).mono ?_; rintro x' w4 ⟨pc, Fc, rfl, d4, f4, b4⟩))
  have hB4 : Below w2.heap.size w2 w4 := by assumption
  have hw3 : w2.heap.size ≤ w3.heap.size := b3.size
  obtain ⟨o33, c33, rfl⟩ : ∃ o c, v3 = .slice o data.size c := by
    obtain ⟨o, c, e8, _⟩ := own_slice o3
    exact ⟨o, c, e8⟩
  have HB4 := hide (keepD HB2.out hB4)
  have HZ4 : Hid (w2.heap.size ≤ w4.heap.size) := hB4.size
  have HD4 := hide d4
  have HFC : Hid (∀ q ∈ Fc, w2.heap.size ≤ q) := fun q hq => Nat.le_trans hw3 (f4 q hq)
  have HRa4 := hide (HRa.out.keep hB4)
  have HFL : Hid (∀ q ∈ Fa, q < w2.heap.size) := HRa.out.disk.lt
  have HOA4 := hide (own_below HOA2.out hB4)
  have HOD4 := hide (own_below HOD2.out hB4)
  have x1 : w4.cell? ⟨w.heap.size, 1, none⟩ = some (.string data) := v1 w4 hB4
  have HBY := hide (kitw.bytes_wide Z w4 HZS.out)
  clear o3 n3 b3 d4 f4 b4 v1 v2 HRa HOA2 HOD2 hB4 hw3
  go_wp2_with fail
  refine HBY.out.mono ?_
  rintro r' w5 ⟨v5, rfl, o5, _, b5⟩
  have hZle : Z.data.toList.length ≤ 4611686018427387904 := by have := HZS.out; rw [Array.length_toList]; show Z.size ≤ _; omega
  have HSB := hide (sameBytes_eq w5 (.slice (some ⟨ga, 0, none⟩) Z.size ca) v5 Z.data.toList (rd_own (by rw [Array.length_toList]; exact own_below HOA4.out b5)) (rd_own (by rw [Array.length_toList]; exact o5)) hZle)
  obtain ⟨o55, c55, hv5, _⟩ := own_slice o5
  subst hv5
  have HB5 := hide (keepD HB4.out b5)
  have HZ56 : Hid (w4.heap.size ≤ w5.heap.size) := b5.size
  have HRa5 := hide (HRa4.out.keep b5)
  have HD5 := hide (HD4.out.below b5)
  have HOD5 := hide (own_below HOD4.out b5)
  clear o5 b5 HBY HRa4 HD4 HOA4 HOD4 x1 hZle
  go_wp2_with fail
  refine HSB.out.mono ?_
  rintro r' w6 ⟨rfl, b6⟩
  have HZ5 : Hid (w4.heap.size ≤ w6.heap.size) := Nat.le_trans HZ56.out b6.size
  obtain ⟨X6, hX6⟩ : ∃ X, X = w6.alloc (.cells #[.slice none 0 0, .slice none 0 0] 35) := ⟨_, rfl⟩
  have bX6 : Below w6.heap.size w6 X6 := by rw [hX6]; exact (Below.refl _ _).alloc (Nat.le_refl _) _
  have b66 := keepD b6 bX6
  obtain ⟨base, hbase⟩ : ∃ base, base = W0.heap.size := ⟨_, rfl⟩
  have hkp : Kp base X6 w6.heap.size [w6.heap.size] [] [] := by rw [hX6]; exact kp_start w6 base (by rw [hbase]; have := (keepD HB5.out b6).size; omega)
  have hFcl : ∀ q ∈ Fc, q < w6.heap.size := fun q hq => Nat.lt_of_lt_of_le (HD5.out.lt q hq) b6.size
  have hAD : Ad base W0 X6 e pa pc w6.heap.size Fa Fc [w6.heap.size] [] ⟨D, D.length, roomOf room, [], false⟩ ⟨D, D.length, roomOf room, [], false⟩ [] 0 := by
    refine ⟨by rw [hbase]; exact HRa5.out.keep b66, by rw [sq_new]; exact HD5.out.below b66, hkp, fun q hq => ?_, fun q hq hm => ?_, fun q hq => ⟨fun hm => ?_, fun hm => by cases hm⟩, fun q hq => ⟨fun hm => ?_, fun hm => by cases hm⟩, by rw [hbase]; exact keepD HB5.out b66⟩
    · have h1 := HFC.out q hq; have h2 := HB2.out.size; rw [hbase]; omega
    · have h1 := HFC.out q hm; have h2 := HFL.out q hq; omega
    · have h1 := HFL.out q hq; rw [List.mem_singleton.1 hm] at h1; have h2 := HZ4.out; have h3 := HZ5.out; omega
    · have h1 := hFcl q hq; rw [List.mem_singleton.1 hm] at h1; omega
  have hoff : Ad.Off Fa Fc [w6.heap.size] [] (.slice (some ⟨ga, 0, none⟩) data.size ca) X6 := fun g hg => by
    cases hg
    have h0 := HGA.out
    have h2 := HZ4.out
    have h3 := HZ5.out
    have h4 := bX6.size
    refine ⟨fun hm => ?_, fun hm => ?_, fun hm => ?_, fun hm => (by cases hm), ?_⟩
    · have := HFA.out _ hm; have h5 : w1.heap.size ≤ ga := this; omega
    · have := HFC.out _ hm; have h5 : w2.heap.size ≤ ga := this; omega
    · have := List.mem_singleton.1 hm; have h5 : ga = w6.heap.size := this; omega
    · show ga < _; omega
  have hdl' : data.data.toList.length ≤ 140737488355328 := by rw [Array.length_toList]; show data.size ≤ _; omega
  have HKP := hide (hAD.kept data.data.toList 200 (by rw [hbase]; exact own_below HOD5.out b66) hoff hdl' (by decide))
  have HX6 := hide hX6
  have HBS := hide hbase
  have hbz : w.heap.size < base := by omega
  clear b6 hX6 bX6 b66 hbase hkp hFcl hAD hoff hdl' HRa5 HD5 HOD5 HB5 HSB HFC HFA HFL HGA HB4 HB2 HB1 HZ4 HZ5 HZ56
  go_wp2_with fail
  rw [← HX6.out]
  refine HKP.out.mono ?_
  rintro r' w7 ⟨rfl, FK1, Q1, ks1, hA1, hl1, _⟩
  have HA1 := hide hA1
  have HL1 : Hid (ks1.length = 4 + 8 * 0) := hl1
  obtain ⟨pk, hpk⟩ : ∃ pk, pk = w6.heap.size := ⟨_, rfl⟩
  rw [← hpk] at HA1 ⊢
  clear hA1 hl1 HKP HX6 hpk
  go_wp2_with fail
  go_loopw [8] (fun i wr => ApI base W0 e pa pc pk ss.length i wr) (fun i _ => ss.length - (intOf i).toNat)
  case atStart => exact ⟨0, _, _, _, _, _, _, Nat.zero_le _, Nat.zero_le _, rfl, HA1.out, HL1.out⟩
  case round =>
    clear HA1 HL1
    obtain ⟨k, Fa, Fc, FK, Q, x, ks, hk, hk6, rfl, hAd, hks⟩ := hrel
    have HA := hide hAd
    have HKL := hide hks
    have hzw : base ≤ wr.heap.size := hAd.run.err.size
    have hX1 := (hAd.low.block _ hbz).trans HX0.out
    have x3 : wr.cell? ⟨w.heap.size, 3, none⟩ = some (.slice oa ss.length cap) := cell_of hX1 3
    clear hAd hks
    by_cases hlt : k < ss.length ∧ k < 60
    · obtain ⟨hlt, h60⟩ := hlt
      clear hX1
      have HPk := hide (HLP.out.below (by rw [← HBS.out]; exact HA.out.low))
      obtain ⟨oa', cap', hv', hst⟩ := HPk.out
      cases hv'
      obtain ⟨bs, os, rfl, hbs, hrs⟩ := hst k hlt
      have HRS := hide hrs
      have HSN := hide (HSS.out.num ss[k] (List.getElem_mem hlt))
      have HST := hide (HSS.out.text ss[k] (List.getElem_mem hlt))
      have hj1 : (k + 1) * 16 ≤ 140737488355328 := by omega
      have hj2 : (k + 1 + 1) * 16 ≤ 140737488355328 := by omega
      clear hst hrs HPk
      generalize ss[k] = s at *
      have k0 : (0 : Int) ≤ (k : Int) := Int.natCast_nonneg _
      have k1 : (k : Int) < (ss.length : Int) := by omega
      have k2 : (k : Int) < 60 := by omega
      have r1 : wrap64 (3 * (k : Int)) = 3 * (k : Int) := by unfold wrap64; omega
      have r2 : IntKind.u8.wrap (3 * (k : Int)) = ((UInt8.ofNat (3 * k)).toNat : Int) := by unfold IntKind.wrap; simp [IntKind.bits, IntKind.signed, UInt8.toNat_ofNat']
      generalize UInt8.ofNat (3 * k) = mk at *
      have s0' : (wr.alloc (stcQ s)).cell? ⟨wr.heap.size, 0, none⟩ = some (.int .i64 s.k) := cell_of (heap_alloc_new wr _) 0
      go_upto_if 72 with (refine wpList_load_mid rfl 38 (.tmp 65) rfl bs (os + k * 5) rfl _ _ HRS.out Tryd.underlying38 rfl sizeStep ?_)
      go_cut [14] (fun _ wx => ApJ base W0 e pa pc pk k wx)
      case first =>
        obtain ⟨X1, hX1⟩ : ∃ X, X = wr.alloc (stcQ s) := ⟨_, rfl⟩
        have bX1 : Below wr.heap.size wr X1 := by rw [hX1]; exact (Below.refl _ _).alloc (Nat.le_refl _) _
        have HBX1 : Hid (X1.heap[wr.heap.size]? = some (stcQ s)) := by show _ = _; rw [hX1]; exact heap_alloc_new _ _
        have HRX : Hid (X1.rangeAt wr.heap.size 0 (spc s)) := range_of (t := 38) HBX1.out
        have HA1 := hide (HA.out.keep bX1)
        have hzX1 : wr.heap.size < X1.heap.size := by rw [hX1]; simp
        have HX1 := hide hX1
        have HNF : Hid (wr.heap.size ∉ Fa ∧ wr.heap.size ∉ Fc) := ⟨fun hm => by have := HA.out.run.disk.lt _ hm; omega, fun hm => by have := HA.out.doc.lt _ hm; omega⟩
        have HXA : Hid ((x.a.length + 1) * 16 ≤ 140737488355328) := Nat.le_trans (Nat.mul_le_mul_right _ (Nat.succ_le_succ HA.out.run.arms)) hj1
        have HKB : Hid (ks.length ≤ 100000) := by show _ ≤ _; rw [HKL.out]; omega
        rw [← hX1] at s0'
        clear hX1 bX1 x3
        by_cases hk1 : s.k = 1
        · have sb : (s.k == 1) = true := by rw [hk1]; rfl
          obtain ⟨Zs, hZsb⟩ : ∃ Z, Bh s.t Z := ⟨_, bh_of s.t⟩
          have hZs := hZsb.eq
          have HBS2 := hide hZsb
          have hst : s.t.size ≤ 140737488351232 := HST.out
          have g2 : ¬ (9223372036854775807 < s.t.size + 6) := by omega
          have HZ2 : Hid (Zs.size ≤ 140737488355328) := by show _ ≤ _; rw [hZsb.sz]; omega
          obtain ⟨l, hl⟩ : ∃ l, l = s.t.data.toList := ⟨_, rfl⟩
          have HLL : Hid (l.length = s.t.size) := by show _ = _; rw [hl, Array.length_toList]; rfl
          have HLE := hide hl
          have HSTP : Hid (x.step s = ((x.append l).1, ⟨[], 0, (x.append l).2⟩)) := by show _ = _; unfold St.step; rw [if_pos hk1, hl]
          have HERR : Hid ((x.append l).2 = 0 ∨ (x.append l).2 = 1 ∨ (x.append l).2 = 9 ∨ (x.append l).2 = 10) := by refine oper_err _ _ _ _ ?_; split; exact Or.inl rfl; exact Or.inr (Or.inr (Or.inl rfl))
          have HBY := hide (kitw.bytes_wide Zs X1 HZ2.out)
          have s4 : X1.cell? ⟨wr.heap.size, 4, none⟩ = some (.string s.t) := cell_of HBX1.out 4
          have hzb : base ≤ X1.heap.size := by omega
          clear hZsb hl HRX
          rw [← HX1.out]
          go_wp2_with fail
          refine HBY.out.mono ?_
          rintro r' w2 ⟨v2, rfl, o2, _, b2⟩
          obtain ⟨gp, cp, hvp, hcp, hop, hgp, hgl⟩ := HBS2.out.own o2
          subst hvp
          rw [← HLE.out] at hop
          have hA2 := HA1.out.keep b2
          have hbx2 := (b2.block _ hzX1).trans HBX1.out
          have s4 : w2.cell? ⟨wr.heap.size, 4, none⟩ = some (.string s.t) := cell_of hbx2 4
          have y0 : (0 : Int) ≤ (s.t.size : Int) := Int.natCast_nonneg _
          have y1 : (s.t.size : Int) ≤ (cp : Int) := by omega
          have hrd : Rd w2 (.slice (some ⟨gp, 0, none⟩) s.t.size cp) l := rd_own hop
          have HAP := hide (append_any w2 base pa Fa x hA2.run.disk (.slice (some ⟨gp, 0, none⟩) s.t.size cp) l hrd (fun _ a n c hv hm => by cases hv; have := HA1.out.run.disk.lt _ hm; have h5 : gp < X1.heap.size := this; omega) (fun _ a n c hv => by cases hv; exact hgl) e hA2.run.err hA2.run.low hA2.run.fine (by rw [HLL.out]; omega))
          have hopb := own_least' hop hzb
          have o2b := own_least' o2 hzb
          have hoff2 : Ad.Off Fa Fc FK Q (.slice (some ⟨gp, 0, none⟩) s.t.size cp) w2 := HA1.out.fresh (fun g hg => by cases hg; exact ⟨hgp, hgl⟩)
          have HA2 := hide hA2
          have HBX2 := hide hbx2
          have HOP := hide hopb
          have HOF := hide o2b
          have HOFF := hide hoff2
          have hz2 := b2.size
          clear o2 b2 hop hA2 hbx2 hrd hopb o2b hoff2 HBY HA1 HBX1 hgp hgl
          go_wp2_with fail
          refine HAP.out.mono ?_
          rintro r' w3 ⟨rfl, Fa3, hD3, hf3, hs3⟩
          have hfin : Fine (x.append l).1 := by
            have h1 := HA2.out.run.fine.step s HSN.out.1 HSN.out.2.1 HSN.out.2.2
            rw [HSTP.out] at h1
            exact h1
          have harm : (x.append l).1.a.length ≤ k + 1 := by
            have h1 := step_arms x s
            rw [HSTP.out] at h1
            exact Nat.le_trans h1 (Nat.succ_le_succ HA2.out.run.arms)
          have hR3 : Run base w3 e pa Fa3 (x.append l).1 (k + 1) := ⟨hD3, fun q hq => by
            rcases hs3 q hq with h | h
            · exact HA2.out.run.low q h
            · exact Nat.le_trans HA2.out.run.err.size h, HA2.out.run.err.fr hf3 HA2.out.run.low, hfin, harm⟩
          have hA3 := HA2.out.moved hR3 hf3 hs3
          have hO3 := own_fr HOP.out hf3 (fun g hg hm => (HOFF.out g hg).1 hm)
          have hO3f := own_fr HOF.out hf3 (fun g hg hm => (HOFF.out g hg).1 hm)
          have hoff3 := HOFF.out.moved hs3 hf3.size
          have hbx3 := (hf3.block _ (by omega) HNF.out.1).trans HBX2.out
          have hz3 := hf3.size
          obtain ⟨en, hen⟩ : ∃ en, en = (x.append l).2 := ⟨_, rfl⟩
          obtain ⟨x1, hx1⟩ : ∃ x1, x1 = (x.append l).1 := ⟨_, rfl⟩
          rw [← hx1] at hA3
          rw [← hen]
          have HNUM : Hid (∀ X, Below base W0 X → Calls Tryd.prog 10 #[errV e en] X fun r' w' => r' = .returned (.int .i64 (en : Int)) ∧ w' = X) := fun X hX => num_errV X e (HER.out.below (by rw [← HBS.out]; exact hX)) en (by rw [hen]; exact HERR.out)
          obtain ⟨EV, hEV⟩ : ∃ EV, EV = errV e en := ⟨_, rfl⟩
          rw [← hEV] at HNUM ⊢
          have HB3 : Hid (∀ X, Below w3.heap.size w3 X → Ad base W0 X e pa pc pk Fa3 Fc FK Q x1 x ks (k + 1) ∧ X.ownsRow base 5 1 (.slice (some ⟨gp, 0, none⟩) s.t.size cp) l.length (l.map B) ∧ X.ownsRow base 5 1 (.slice (some ⟨gp, 0, none⟩) Zs.size cp) Zs.size (Zs.data.toList.map B) ∧ Ad.Off Fa3 Fc FK Q (.slice (some ⟨gp, 0, none⟩) s.t.size cp) X ∧ X.heap[wr.heap.size]? = some (stcQ s)) := fun X hX => ⟨hA3.keep hX, own_below hO3 hX, own_below hO3f hX, hoff3.keep hX.size, (hX.block _ (by omega)).trans hbx3⟩
          have HCA : Hid (∀ X v, Below w3.heap.size w3 X → X.ownsRow w3.heap.size 5 1 v s.t.size (s.t.data.toList.map B) → Calls Tryd.prog 11 #[ptr pc, v] X fun r' w' => ∃ Fc4, r' = .returned (.int .i64 (en : Int)) ∧ Hid (∀ Y, Below w'.heap.size w' Y → Ad base W0 Y e pa pc pk Fa3 Fc4 FK Q x1 x1 ks (k + 1) ∧ Y.ownsRow base 5 1 (.slice (some ⟨gp, 0, none⟩) s.t.size cp) l.length (l.map B) ∧ Y.ownsRow base 5 1 (.slice (some ⟨gp, 0, none⟩) Zs.size cp) Zs.size (Zs.data.toList.map B) ∧ Ad.Off Fa3 Fc4 FK Q (.slice (some ⟨gp, 0, none⟩) s.t.size cp) Y ∧ Y.heap[wr.heap.size]? = some (stcQ s))) := fun X v hX hv => by
            obtain ⟨q1, q2, q3, q4, q5⟩ := HB3.out X hX
            rw [← HLE.out, ← HLL.out] at hv
            refine (dappend_any X pc Fc x q1.doc HA2.out.run.fine HXA.out v l (rd_own hv) (fun _ a n c hva => by
              have h1 : v.ownBlock = some a.block := by rw [hva]; rfl
              have h2 := own_ge hv _ h1
              exact ⟨fun hm => by have := HA2.out.doc.lt _ hm; omega, (hv.lt _ h1).2⟩) (by rw [HLL.out]; omega)).mono ?_
            rintro r' w' ⟨rfl, Fc4, hd4, hf4, hs4⟩
            rw [← hx1] at hd4
            have n4 : gp ∉ Fc := (q4 gp rfl).2.1
            have hO4 := own_fr q2 hf4 (fun g hg hm => (q4 g hg).2.1 hm)
            have hO4f := own_fr q3 hf4 (fun g hg hm => by cases hg; exact n4 hm)
            have hb4 := (hf4.block _ (Array.getElem?_eq_some_iff.1 q5).1 HNF.out.2).trans q5
            exact ⟨Fc4, by rw [hen], fun Y hY => ⟨(q1.told hd4 hf4 hs4).keep hY, own_below hO4 hY, own_below hO4f hY, (q4.told hs4 hf4.size).keep hY.size, (hY.block _ (Array.getElem?_eq_some_iff.1 hb4).1).trans hb4⟩⟩
          have HBZ : Hid (∀ (t : ByteArray) (X : World), t = Zs → Calls Tryd.prog 4 #[.string t] X fun e w' => ∃ v, e = .returned v ∧ w'.ownsRow X.heap.size 5 1 v Zs.size (Zs.data.toList.map B) ∧ (Zs.size = 0 → v = .slice none 0 0) ∧ Below X.heap.size X w') := fun t X ht => by rw [ht]; exact kitw.bytes_wide Zs X HZ2.out
          have HLO3 : Hid (Below base W0 w3) := hA3.low
          have HZB3 : Hid (base ≤ w3.heap.size) := by show _ ≤ _; omega
          have HBOX := hide hbx3
          have HZL : Hid (Zs.data.toList.length ≤ 4611686018427387904) := by show _ ≤ _; rw [Array.length_toList]; have := HZ2.out; show Zs.size ≤ _; omega
          clear hR3 hA3 hO3 hO3f hoff3 hbx3 hf3 hs3 hD3 hfin harm hen hx1 hEV HAP HBX2 HOP HOF HOFF HA2 s4
          go_wp2_with fail
          have hs0 : Sx base W0 wr.heap.size s w3 := ⟨HLO3.out, HBOX.out⟩
          have v4 : ∀ X, Sx base W0 wr.heap.size s X → X.cell? ⟨wr.heap.size, 4, none⟩ = some (.string s.t) := fun X hX => cell_of hX.2 4
          go_region_held3 (fun X => Sx base W0 wr.heap.size s X)
            (first
              | assumption
              | exact Sx.drew (by assumption))
            (first
              | (go_at_call 10; refine (HNUM.out _ (Sx.drew hs0).1).mono ?_; rintro r' Yn ⟨rfl, hnn⟩; obtain rfl := hnn.symm; clear hnn)
              | (go_at_call 4; with_reducible refine (kitw.bytes_any s.t _ HST.out).mono ?_; rintro r' Y1 ⟨v1, rfl, o1, _, b1⟩; have hB1 : Below w3.heap.size w3 Y1 := keepD ((Below.refl _ _).drew) b1; have o1w := own_least' o1 (by first | exact (Below.refl _ _).drew.size | exact Nat.le_refl _); obtain ⟨oo1, cc1, rfl, _⟩ := own_slice o1; have hs1 : Sx base W0 wr.heap.size s Y1 := hs0.next HZB3.out hB1)
              | (go_at_call 11; refine (HCA.out _ _ hB1 o1w).mono ?_; rintro r' Y2 ⟨Fc4, rfl, hY2⟩; have hs2 : Sx base W0 wr.heap.size s Y2 := ⟨(hY2.out Y2 (Below.refl _ _)).1.low, (hY2.out Y2 (Below.refl _ _)).2.2.2.2⟩)
              | (go_at_call 4; refine (HBZ.out _ _ (by first | exact hZs | rfl)).mono ?_; rintro r' Y3 ⟨v3, rfl, o3, _, b3⟩; have ra3 := rd_own (l := Zs.data.toList) (by rw [Array.length_toList]; exact (hY2.out Y3 b3).2.2.1); have rb3 := rd_own (l := Zs.data.toList) (by rw [Array.length_toList]; exact o3); obtain ⟨oo3, cc3, rfl, _⟩ := own_slice o3; have hs3 : Sx base W0 wr.heap.size s Y3 := ⟨(hY2.out Y3 b3).1.low, (hY2.out Y3 b3).2.2.2.2⟩)
              | (go_at_call 7; refine (sameBytes_eq _ _ _ Zs.data.toList ra3 rb3 HZL.out).mono ?_; rintro r' Y4 ⟨rfl, b4⟩; have hY4 := hY2.out Y4 (keepD b3 b4); have hs4 : Sx base W0 wr.heap.size s Y4 := ⟨hY4.1.low, hY4.2.2.2.2⟩))
          all_goals
            have HY4 := hide hY4
            have HKP := hide (HY4.out.1.kept l mk HY4.out.2.1 HY4.out.2.2.2.1 (by rw [HLL.out]; omega) HKB.out)
            clear hY4 hY2 ra3 rb3 o3 b3 b4 o1 o1w b1 hB1 hs0 hs1 hs2 hs3 hs4 v4
            go_wp2_with fail
            refine HKP.out.mono ?_
            rintro r' Y5 ⟨rfl, FK5, Q5, ks5, hA5, hl5, _⟩
            have HJ : Hid (ApJ base W0 e pa pc pk k Y5) := ⟨_, _, _, _, _, _, hA5, by rw [hl5, HKL.out]; omega⟩
            clear hA5 hl5 HKP HY4
            go_wp2_with fail
            go_meet
            case rel => exact HJ.out
        · have sb : (s.k == 1) = false := beq_false_of_ne hk1
          have HAC := hide (HA1.out.run.act s HST.out hj1 HSN.out.1 HSN.out.2.1 HSN.out.2.2)
          have HLL := hide (step_len x s HA1.out.run.fine)
          have HTX : Hid (∀ X F', Dq X pc F' (sq x) → Calls Tryd.prog 14 #[ptr pc, spv s] X fun r' w' => ActsQ X pc F' (x.step s).1 (x.step s).2 r' w') := fun X F' hd => told_any X pc F' x s ⟨hd, HA1.out.run.fine, HST.out, HXA.out⟩
          unfold ActsQ at HTX
          obtain ⟨an, han⟩ : ∃ an, x.step s = an := ⟨_, rfl⟩
          rw [han] at HAC HLL HTX
          clear han
          obtain ⟨x1, l1, n1, e1⟩ := an
          dsimp only at HAC HLL HTX
          unfold Ran at HAC
          dsimp only at HAC
          rw [← HX1.out]
          go_wp2_with (refine wpList_load_mid rfl 38 (.tmp 9) rfl wr.heap.size 0 rfl _ _ HRX.out Tryd.underlying38 rfl sizeStep ?_)
          refine HAC.out.mono ?_
          rintro r' w2 ⟨u1, Fa2, rfl, hAn, hR2, hf2, hs2⟩
          obtain ⟨o1, c1, hu1⟩ := hAn.form
          have hA2 := HA1.out.moved hR2 hf2 hs2
          obtain ⟨hO1, hb1⟩ := ans_own (base := base) hAn (by omega) HLL.out
          have hoff : Ad.Off Fa2 Fc FK Q u1 w2 := fun g hg => by
            have h1 := hb1 g hg
            exact ⟨h1.2.1, fun hm => by have := HA1.out.doc.lt g hm; omega, fun hm => by have := HA1.out.kep.ltf g hm; omega, fun hm => by have := (HA1.out.kep.lq g hm).2; omega, h1.2.2⟩
          have hbs2 := (hf2.block _ hzX1 HNF.out.1).trans HBX1.out
          subst hu1
          obtain ⟨X2, hX2⟩ : ∃ X, X = w2.alloc (.cells #[.slice o1 l1.length c1, .int .i64 n1, .int .i64 (e1 : Int)] 45) := ⟨_, rfl⟩
          have bX2 : Below w2.heap.size w2 X2 := by rw [hX2]; exact (Below.refl _ _).alloc (Nat.le_refl _) _
          have hz2 := hf2.size
          have hbg : X2.heap[w2.heap.size]? = some (.cells #[.slice o1 l1.length c1, .int .i64 n1, .int .i64 (e1 : Int)] 45) := by rw [hX2]; exact heap_alloc_new _ _
          have hzX2 : w2.heap.size < X2.heap.size := by rw [hX2]; simp
          have HB2 : Hid (∀ X, Below X2.heap.size X2 X → X.heap[w2.heap.size]? = some (.cells #[.slice o1 l1.length c1, .int .i64 n1, .int .i64 (e1 : Int)] 45) ∧ X.heap[wr.heap.size]? = some (stcQ s) ∧ Ad base W0 X e pa pc pk Fa2 Fc FK Q x1 x ks (k + 1) ∧ X.ownsRow base 5 1 (.slice o1 l1.length c1) l1.length (l1.map B) ∧ Ad.Off Fa2 Fc FK Q (.slice o1 l1.length c1) X) := fun X hX =>
            ⟨(hX.block _ hzX2).trans hbg, (hX.block _ (by omega)).trans ((bX2.block _ (by omega)).trans hbs2), (hA2.keep bX2).keep hX, own_below (own_below hO1 bX2) hX, (hoff.keep (by omega)).keep hX.size⟩
          have HTO : Hid (∀ X, Below X2.heap.size X2 X → Calls Tryd.prog 14 #[ptr pc, spv s] X fun r' w' => ∃ ow cw Fc2, r' = .returned (sdv (.slice ow l1.length cw) n1 e1) ∧ Hid (Rd w' (.slice o1 l1.length c1) l1) ∧ Hid (Rd w' (.slice ow l1.length cw) l1) ∧ Hid (∀ Y, Below w'.heap.size w' Y → Y.heap[w2.heap.size]? = some (.cells #[.slice o1 l1.length c1, .int .i64 n1, .int .i64 (e1 : Int)] 45) ∧ Ad base W0 Y e pa pc pk Fa2 Fc2 FK Q x1 x1 ks (k + 1) ∧ Y.ownsRow base 5 1 (.slice o1 l1.length c1) l1.length (l1.map B) ∧ Ad.Off Fa2 Fc2 FK Q (.slice o1 l1.length c1) Y)) := fun X hX => by
            obtain ⟨q1, q2, q3, q4, q5⟩ := HB2.out X hX
            refine (HTX.out X Fc q3.doc).mono ?_
            rintro r' w' ⟨v2, Fc2, rfl, hA3, hC3, hf3, hs3⟩
            obtain ⟨ow, cw, hvw, _⟩ := own_slice hA3.1
            subst hvw
            have hO3 := own_fr q4 hf3 (fun g hg hm => (q5 g hg).2.1 hm)
            have hq1 := (hf3.block _ (Array.getElem?_eq_some_iff.1 q1).1 (fun hm => by have := HA1.out.doc.lt _ hm; omega)).trans q1
            exact ⟨ow, cw, Fc2, rfl, rd_own hO3, rd_own hA3.1, fun Y hY => ⟨(hY.block _ (Array.getElem?_eq_some_iff.1 hq1).1).trans hq1, (q3.told hC3 hf3 hs3).keep hY, own_below hO3 hY, (q5.told hs3 hf3.size).keep hY.size⟩⟩
          have HX2 := hide hX2
          obtain ⟨p1, p2, _, _, _⟩ := HB2.out X2.drew (Below.refl _ _).drew
          obtain ⟨p1', p2', _, _, _⟩ := HB2.out X2 (Below.refl _ _)
          have s0 : X2.cell? ⟨wr.heap.size, 0, none⟩ = some (.int .i64 s.k) := cell_of p2' 0
          have s1 : X2.cell? ⟨wr.heap.size, 0 + 1, none⟩ = some (.int .i64 s.o) := cell_of p2' 1
          have s2 : X2.cell? ⟨wr.heap.size, 0 + 2, none⟩ = some (.int .i64 s.n) := cell_of p2' 2
          have s3 : X2.cell? ⟨wr.heap.size, 0 + 3, none⟩ = some (.int .i64 s.m) := cell_of p2' 3
          have s4 : X2.cell? ⟨wr.heap.size, 0 + 4, none⟩ = some (.string s.t) := cell_of p2' 4
          have t0 : X2.cell? ⟨w2.heap.size, 0, none⟩ = some (.slice o1 l1.length c1) := cell_of p1' 0
          have t1 : X2.cell? ⟨w2.heap.size, 0 + 1, none⟩ = some (.int .i64 n1) := cell_of p1' 1
          have t2 : X2.cell? ⟨w2.heap.size, 0 + 2, none⟩ = some (.int .i64 (e1 : Int)) := cell_of p1' 2
          clear p1 p2 p1' p2' hX2 hbg hbs2 hA2 hO1 hb1 hoff hf2 hs2 hR2 hAn bX2 HAC HTX HB2 hzX2 hz2
          go_wp2_with fail
          rw [← HX2.out]
          go_region_with (first
            | (go_at_call 14; refine (HTO.out _ (Below.refl _ _).drew).mono ?_; rintro r' Y2 ⟨ow, cw, Fc2, rfl, hr1, hr2, hY⟩; have t0' : Y2.cell? ⟨w2.heap.size, 0, none⟩ = some (.slice o1 l1.length c1) := cell_of (hY.out Y2 (Below.refl _ _)).1 0; have t1' : Y2.cell? ⟨w2.heap.size, 0 + 1, none⟩ = some (.int .i64 n1) := cell_of (hY.out Y2 (Below.refl _ _)).1 1; have t2' : Y2.cell? ⟨w2.heap.size, 0 + 2, none⟩ = some (.int .i64 (e1 : Int)) := cell_of (hY.out Y2 (Below.refl _ _)).1 2)
            | (go_at_call 13; refine (same_eq _ _ _ ⟨l1, n1, e1⟩ hr1.out hr2.out (by have := HLL.out; dsimp only; omega)).mono ?_; rintro r' Y3 ⟨rfl, b3⟩))
          all_goals
            have HY3 := hide (hY.out Y3 b3)
            have q0 : Y3.cell? ⟨w2.heap.size, 0, none⟩ = some (.slice o1 l1.length c1) := cell_of HY3.out.1 0
            have HKP := hide (HY3.out.2.1.kept l1 mk HY3.out.2.2.1 HY3.out.2.2.2 HLL.out HKB.out)
            clear hr1 hr2 hY b3 s0 s1 s2 s3 s4 t0 t1 t2 t0' t1' t2'
            go_wp2_with fail
            refine HKP.out.mono ?_
            rintro r' Y4 ⟨rfl, FK4, Q4, ks4, hA4, hl4, _⟩
            have HJ : Hid (ApJ base W0 e pa pc pk k Y4) := ⟨_, _, _, _, _, _, hA4, by rw [hl4, HKL.out]; omega⟩
            clear hA4 hl4 HKP HY3
            go_wp2_with fail
            go_meet
            case rel => exact HJ.out
      obtain ⟨Fa3, Fc3, FK3, Q3, x3, ks3, hA3, hl3⟩ := hcut
      have HA3 := hide hA3
      have HL3 := hide hl3
      have HKB : Hid (ks3.length ≤ 100000) := by show _ ≤ _; rw [hl3]; omega
      have hzc : base ≤ wc.heap.size := hA3.run.err.size
      have HXL : Hid (x3.b.length ≤ 140737488355328) := hA3.run.fine.ok.most
      have HXA : Hid ((x3.a.length + 1) * 16 ≤ 140737488355328) := Nat.le_trans (Nat.mul_le_mul_right _ (Nat.succ_le_succ hA3.run.arms)) hj2
      have HFN : Hid (Fine x3) := hA3.run.fine
      have w1 : IntKind.u8.wrap ((mk.toNat : Int) + 1) = (((mk + 1).toNat : Nat) : Int) := wrap_b mk 1
      generalize mk + 1 = mk1 at *
      clear hA3 hl3 HA HKL s0' HSN HST HRS hzw
      go_wp2_with fail
      refine (lookS_any wc).mono ?_
      rintro r' w4 ⟨rfl, b4⟩
      have HA4 := hide (HA3.out.keep b4)
      have HLK := hide (HA4.out.run.look hj2)
      have hz4 := b4.size
      clear b4 HA3
      go_wp2_with fail
      refine HLK.out.mono ?_
      rintro r' w5 ⟨u1, Fa5, rfl, hAn, hR5, hf5, hs5⟩
      obtain ⟨o1, c1, hu1⟩ := hAn.form
      have hA5 := HA4.out.moved hR5 hf5 hs5
      obtain ⟨hO1, hb1⟩ := ans_own (base := base) hAn (by omega) HXL.out
      have hoff : Ad.Off Fa5 Fc3 FK3 Q3 u1 w5 := fun g hg => by
        have h1 := hb1 g hg
        exact ⟨h1.2.1, fun hm => by have := HA4.out.doc.lt g hm; omega, fun hm => by have := HA4.out.kep.ltf g hm; omega, fun hm => by have := (HA4.out.kep.lq g hm).2; omega, h1.2.2⟩
      have HFC4 : Hid (∀ q ∈ Fc3, q < w4.heap.size) := HA4.out.doc.lt
      obtain ⟨m1, hm1⟩ : ∃ m, m = x3.b.length := ⟨_, rfl⟩
      rw [← hm1] at hu1
      subst hu1
      have HM1 := hide hm1
      obtain ⟨ns, hns⟩ : ∃ ns : Int, ns = (x3.s : Int) := ⟨_, rfl⟩
      have HNS := hide hns
      rw [← hns]
      obtain ⟨X5, hX5⟩ : ∃ X, X = w5.alloc (.cells #[.slice o1 m1 c1, .int .i64 ns, .int .i64 0] 45) := ⟨_, rfl⟩
      have bX5 : Below w5.heap.size w5 X5 := by rw [hX5]; exact (Below.refl _ _).alloc (Nat.le_refl _) _
      have hz5 := hf5.size
      have hbg : X5.heap[w5.heap.size]? = some (.cells #[.slice o1 m1 c1, .int .i64 ns, .int .i64 0] 45) := by rw [hX5]; exact heap_alloc_new _ _
      have hzX5 : w5.heap.size < X5.heap.size := by rw [hX5]; simp
      have HB5 : Hid (∀ X, Below X5.heap.size X5 X → X.heap[w5.heap.size]? = some (.cells #[.slice o1 m1 c1, .int .i64 ns, .int .i64 0] 45) ∧ Ad base W0 X e pa pc pk Fa5 Fc3 FK3 Q3 x3 x3 ks3 (k + 1) ∧ X.ownsRow base 5 1 (.slice o1 m1 c1) x3.b.length (x3.b.map B) ∧ Ad.Off Fa5 Fc3 FK3 Q3 (.slice o1 m1 c1) X) := fun X hX =>
        ⟨(hX.block _ hzX5).trans hbg, (hA5.keep bX5).keep hX, own_below (own_below hO1 bX5) hX, (hoff.keep (by omega)).keep hX.size⟩
      have HCL : Hid (∀ X, Below X5.heap.size X5 X → X.cell? ⟨w5.heap.size, 0, none⟩ = some (.slice o1 m1 c1) ∧ X.cell? ⟨w5.heap.size, 0 + 1, none⟩ = some (.int .i64 ns) ∧ X.cell? ⟨w5.heap.size, 0 + 2, none⟩ = some (.int .i64 0)) := fun X hX => ⟨cell_of (HB5.out X hX).1 0, cell_of (HB5.out X hX).1 1, cell_of (HB5.out X hX).1 2⟩
      have HWH : Hid (∀ X, Below X5.heap.size X5 X → Calls Tryd.prog 16 #[ptr pk] X fun r' w' => r' = .returned (.bool true) ∧ Below X.heap.size X w') := fun X hX => whole_any base X pk FK3 Q3 ks3 (HB5.out X hX).2.1.kep HKB.out
      have HTO : Hid (∀ X, Below X5.heap.size X5 X → Calls Tryd.prog 14 #[ptr pc, spv lk] X fun r' w' => ∃ ow cw Fc6, r' = .returned (sdv (.slice ow m1 cw) ns 0) ∧ Hid (Rd w' (.slice o1 m1 c1) x3.b) ∧ Hid (Rd w' (.slice ow m1 cw) x3.b) ∧ Hid (∀ Y, Below w'.heap.size w' Y → Y.heap[w5.heap.size]? = some (.cells #[.slice o1 m1 c1, .int .i64 ns, .int .i64 0] 45) ∧ Ad base W0 Y e pa pc pk Fa5 Fc6 FK3 Q3 x3 x3 ks3 (k + 1) ∧ Y.ownsRow base 5 1 (.slice o1 m1 c1) x3.b.length (x3.b.map B) ∧ Ad.Off Fa5 Fc6 FK3 Q3 (.slice o1 m1 c1) Y)) := fun X hX => by
        obtain ⟨q1, q3, q4, q5⟩ := HB5.out X hX
        have ht := told_any X pc Fc3 x3 lk ⟨q3.doc, HFN.out, by decide, HXA.out⟩
        rw [look_step] at ht
        refine ht.mono ?_
        rintro r' w' ⟨v2, Fc6, rfl, hA3, hC3, hf3, hs3⟩
        obtain ⟨ow, cw, hvw, _⟩ := own_slice hA3.1
        have hO3 := own_fr q4 hf3 (fun g hg hm => (q5 g hg).2.1 hm)
        have hq1 := (hf3.block _ (Array.getElem?_eq_some_iff.1 q1).1 (fun hm => by have := HFC4.out _ hm; omega)).trans q1
        have hvw' : v2 = .slice ow m1 cw := by rw [hvw, HM1.out]
        have hr3 := rd_own hA3.1
        rw [hvw'] at hr3
        refine ⟨ow, cw, Fc6, by rw [hvw', HNS.out], rd_own hO3, hr3, fun Y hY => ⟨(hY.block _ (Array.getElem?_eq_some_iff.1 hq1).1).trans hq1, (q3.told hC3 hf3 hs3).keep hY, own_below hO3 hY, (q5.told hs3 hf3.size).keep hY.size⟩⟩
      have HSM : Hid (∀ X va vb, Rd X va x3.b → Rd X vb x3.b → Calls Tryd.prog 13 #[sdv va ns 0, sdv vb ns 0] X fun r' w' => r' = .returned (.bool true) ∧ Below X.heap.size X w') := fun X va vb h1 h2 => same_eq X va vb ⟨x3.b, ns, 0⟩ h1 h2 (by have := HXL.out; dsimp only; omega)
      have HX5 := hide hX5
      obtain ⟨t0, t1, t2⟩ := HCL.out X5 (Below.refl _ _)
      clear hX5 hbg hA5 hO1 hb1 hoff hf5 hs5 hR5 hAn bX5 HLK HA4 HB5 hzX5 hz5 hm1 hns
      go_wp2_with fail
      rw [← HX5.out]
      go_region_with (first
        | (go_at_call 16; refine (HWH.out _ (Below.refl _ _).drew).mono ?_; rintro r' Y1 ⟨rfl, hb1⟩; have hY1 : Below X5.heap.size X5 Y1 := keepD ((Below.refl _ _).drew) hb1; obtain ⟨ta0, ta1, ta2⟩ := HCL.out Y1 hY1)
        | (go_at_call 15; refine (lookS_any _).mono ?_; rintro r' Y2 ⟨rfl, hb2⟩; have hY2 : Below X5.heap.size X5 Y2 := keepD hY1 hb2; obtain ⟨tb0, tb1, tb2⟩ := HCL.out Y2 hY2)
        | (go_at_call 14; refine (HTO.out _ hY2).mono ?_; rintro r' Y3 ⟨ow, cw, Fc6, rfl, hr1, hr2, hY⟩; have td0 : Y3.cell? ⟨w5.heap.size, 0, none⟩ = some (.slice o1 m1 c1) := cell_of (hY.out Y3 (Below.refl _ _)).1 0; have td1 : Y3.cell? ⟨w5.heap.size, 0 + 1, none⟩ = some (.int .i64 ns) := cell_of (hY.out Y3 (Below.refl _ _)).1 1; have td2 : Y3.cell? ⟨w5.heap.size, 0 + 2, none⟩ = some (.int .i64 0) := cell_of (hY.out Y3 (Below.refl _ _)).1 2)
        | (go_at_call 13; refine (HSM.out _ _ _ hr1.out hr2.out).mono ?_; rintro r' Y4 ⟨rfl, b3⟩))
      all_goals
        have HY3 := hide (hY.out Y4 b3)
        have q0 : Y4.cell? ⟨w5.heap.size, 0, none⟩ = some (.slice o1 m1 c1) := cell_of HY3.out.1 0
        have HKP := hide (HY3.out.2.1.kept x3.b mk1 HY3.out.2.2.1 HY3.out.2.2.2 HXL.out HKB.out)
        clear hr1 hr2 hY b3 t0 t1 t2 ta0 ta1 ta2 tb0 tb1 tb2 td0 td1 td2 hb1 hb2 hY1 hY2
        go_wp2_with fail
        refine HKP.out.mono ?_
        rintro r' Y5 ⟨rfl, FK5, Q5, ks5, hA5, hl5, _⟩
        have HN5 := hide hA5
        have HL5 : Hid (ks5.length = 4 + 8 * (k + 1)) := by show _ = _; rw [hl5, HL3.out]; omega
        clear hA5 hl5 HKP HY3
        go_wp2_with fail
        go_roundw
        case rel => exact ⟨k + 1, _, _, _, _, _, _, by omega, by omega, by go_num, HN5.out, HL5.out⟩
        case measure => simp [intOf]; omega
    · have hcase : ((k : Int) < (ss.length : Int) ∧ ¬ (k : Int) < 60) ∨ ¬ (k : Int) < (ss.length : Int) := by omega
      have HKB : Hid (ks.length ≤ 100000) := by show _ ≤ _; rw [HKL.out]; omega
      have HWH := hide (whole_any base wr pk FK Q ks HA.out.kep HKB.out)
      have HLW : Hid (Below W0.heap.size W0 wr) := by show Below _ _ _; rw [← HBS.out]; exact HA.out.low
      rcases hcase with ⟨a1, a2⟩ | a1
      all_goals
        go_wp2_with fail
        refine HWH.out.mono ?_
        rintro r' w2 ⟨rfl, b2⟩
        have HB2 := hide (keepD HLW.out b2)
        have hbw := (HB2.out.block _ hz0).trans HX0.out
        have z0 : w2.cell? ⟨w.heap.size, 0, none⟩ = some (.int .i64 room) := cell_of hbw 0
        have z1 : w2.cell? ⟨w.heap.size, 1, none⟩ = some (.string data) := cell_of hbw 1
        have z2 : w2.cell? ⟨w.heap.size, 2, none⟩ = some (.int .i64 other) := cell_of hbw 2
        have z3 : w2.cell? ⟨w.heap.size, 3, none⟩ = some (.slice oa ss.length cap) := cell_of hbw 3
        have z1' : w2.cell? ⟨w.heap.size, 0 + 1, none⟩ = some (.string data) := z1
        have z2' : w2.cell? ⟨w.heap.size, 0 + 2, none⟩ = some (.int .i64 other) := z2
        have z3' : w2.cell? ⟨w.heap.size, 0 + 3, none⟩ = some (.slice oa ss.length cap) := z3
        clear hbw
        have HST := hide (STREWN w2 room data other (.slice oa ss.length cap) ss (HLP.out.below HB2.out) HSS.out HDT.out e (HER.out.below HB2.out))
        clear b2 HWH x3
        go_wp2_with fail
        refine HST.out.mono ?_
        rintro r' w3 ⟨rfl, b3⟩
        have HFIN : Hid (Below w.heap.size w w3) := keepD HB0.out (keepD HB2.out b3)
        clear b3
        go_wp2_with fail
        go_ret
        exact ⟨rfl, HFIN.out⟩
theorem lawApart (w : World) (room : Int) (data : ByteArray) (other : Int) (vs : Value) (ss : List Sp) (hs : LiesP w vs ss) (hS : dk.Steps ss) (hdt : data.size ≤ reachBytes) (e : Nat → Addr) (he : errw.Errs w e) :
    Calls Tryd.prog 3 #[scvQ room data other vs] w fun r' w' => r' = .returned (.bool true) ∧ Below w.heap.size w w' :=
  lawApart0 (fun w room data other vs ss h1 h2 h3 e h4 => strewn_any w room data other vs ss h1 h2 h3 e h4) w room data other vs ss hs hS hdt e he
end Go.Proofs.YtkamnkldgeaaaaaDoor.da
