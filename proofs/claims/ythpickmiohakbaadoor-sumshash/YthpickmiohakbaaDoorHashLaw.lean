import Derived.Test.YthpickmiohakbaaDoorSumIs
namespace Go.Proofs.YthpickmiohakbaaDoor.refw
open Go.ChangeShapes Go.WideShapes Go.ChangeAt Go.RowKit Go.Proofs.YthpickmiohakbaaDoor.common Go.Proofs.YthpickmiohakbaaDoor.shaw
attribute [local go_sem ↓] Go.wp_at_zero Go.wp_at_succ

/-- the pieces of a script -/
def Pieces (w : World) (oa : Option Addr) (len : Nat) : Prop := ∀ i, i < len → ∃ (b o : Nat) (x y : Int) (t : ByteArray), oa = some ⟨b, o, none⟩ ∧ b < w.heap.size ∧
  w.cell? ⟨b, o + i * 3, none⟩ = some (.int .i64 x) ∧ w.cell? ⟨b, o + i * 3 + 1, none⟩ = some (.string t) ∧ w.cell? ⟨b, o + i * 3 + 2, none⟩ = some (.int .i64 y) ∧
  (-9223372036854775808 ≤ x ∧ x ≤ 9223372036854775807) ∧ (-9223372036854775808 ≤ y ∧ y ≤ 9223372036854775807) ∧ t.size ≤ 140737488351232

/-- where the three digests lie -/
def gOf (g0 g1 g2 : Nat) : Nat → Nat
  | 0 => g0
  | 1 => g1
  | _ => g2

/-- three digests that have taken in three texts, the texts in an array -/
structure Three (w : World) (gA g0 g1 g2 : Nat) (S : Nat → ByteArray) : Prop where
  cell : ∀ c, c < 3 → w.cell? ⟨gA, c, none⟩ = some (.string (S c))
  soft : ∀ c, c < 3 → w.frozen? ⟨gA, c, none⟩ = false
  size : ∀ c, c < 3 → (S c).size ≤ 16777216
  hash : ∀ c, c < 3 → HashOf w (gOf g0 g1 g2 c) 0 (S c).data.toList

theorem Three.lt {w : World} {gA g0 g1 g2 : Nat} {S : Nat → ByteArray} (h : Three w gA g0 g1 g2 S) : gA < w.heap.size := World.block_lt_of_cell? w _ (h.cell 0 (by decide))

theorem Three.below {w w' : World} {gA g0 g1 g2 : Nat} {S : Nat → ByteArray} (h : Three w gA g0 g1 g2 S) (hb : Below w.heap.size w w') : Three w' gA g0 g1 g2 S :=
  ⟨fun c hc => (hb.cell (p := ⟨gA, c, none⟩) h.lt).trans (h.cell c hc), fun c hc => (hb.frozen (p := ⟨gA, c, none⟩) h.lt).trans (h.soft c hc), h.size, fun c hc => (h.hash c hc).below hb⟩

theorem cell_kept {w w' : World} {b g : Nat} (k : Kept w w' b 0 73) (hg : g < w.heap.size) (hne : g ≠ b) (i : Nat) : w'.cell? ⟨g, i, none⟩ = w.cell? ⟨g, i, none⟩ ∧ w'.frozen? ⟨g, i, none⟩ = w.frozen? ⟨g, i, none⟩ := by
  have := k.block g hg hne
  exact ⟨by simp only [World.cell?, this], by simp only [World.frozen?, this]⟩

theorem Three.there {w : World} {gA g0 g1 g2 : Nat} {S : Nat → ByteArray} (h : Three w gA g0 g1 g2 S) : w.there gA 0 3 := fun j hj => by
  rw [Nat.zero_add, h.cell j hj]
  exact ⟨rfl, h.soft j hj⟩

theorem gOf_ne {g0 g1 g2 gA : Nat} (hl : g0 < g1 ∧ g1 < g2 ∧ g2 < gA) (c : Nat) : gOf g0 g1 g2 c ≠ gA ∧ ∀ d, d < 3 → c < 3 → d ≠ c → gOf g0 g1 g2 d ≠ gOf g0 g1 g2 c := by
  refine ⟨?_, fun d hd hc hne => ?_⟩
  · unfold gOf; split <;> omega
  · obtain rfl | rfl | rfl : c = 0 ∨ c = 1 ∨ c = 2 := by omega
    all_goals
      obtain rfl | rfl | rfl : d = 0 ∨ d = 1 ∨ d = 2 := by omega
      all_goals first | exact absurd rfl hne | (show _ ≠ _; simp only [gOf]; omega)

/-- a text has been added to one of the three, and then to its text -/
theorem Three.added {w w' : World} {gA g0 g1 g2 : Nat} {S : Nat → ByteArray} (h : Three w gA g0 g1 g2 S) (hl : g0 < g1 ∧ g1 < g2 ∧ g2 < gA) (c : Nat) (hc : c < 3) (Z : ByteArray)
    (kp : Kept w w' (gOf g0 g1 g2 c) 0 73) (hh : HashOf w' (gOf g0 g1 g2 c) 0 Z.data.toList) (hz : Z.size ≤ 16777216) :
    Three (w'.setCell ⟨gA, c, none⟩ (.string Z)) gA g0 g1 g2 fun d => if d = c then Z else S d := by
  obtain ⟨n1, n2⟩ := gOf_ne hl c
  have hk : ∀ i, _ := fun i => cell_kept kp h.lt (Ne.symm n1) i
  have ht : w'.there gA 0 3 := fun j hj => by
    rw [(hk _).1, (hk _).2]; exact h.there j hj
  have k2 : Kept w' (w'.setCell ⟨gA, c, none⟩ (.string Z)) gA 0 73 := (Kept.refl _ _ _ _).setCell c (by omega) _
  refine ⟨fun d hd => ?_, fun d hd => ?_, fun d hd => ?_, fun d hd => ?_⟩
  · by_cases e : d = c
    · subst e
      rw [if_pos rfl, World.cell?_setCell_same _ _ _ ((hk d).1.trans (h.cell d hd))]
    · have hne : (⟨gA, c, none⟩ : Addr) ≠ ⟨gA, d, none⟩ := fun he => e (Addr.mk.inj he).2.1.symm
      rw [if_neg e, World.cell?_setCell_other _ _ _ _ hne, (hk d).1, h.cell d hd]
  · have := (there_set ht ⟨gA, c, none⟩ (.string Z) d hd).2
    rw [Nat.zero_add] at this
    exact this
  · show (if d = c then Z else S d).size ≤ _
    by_cases e : d = c
    · rw [if_pos e]; exact hz
    · rw [if_neg e]; exact h.size d hd
  · show HashOf _ _ 0 (if d = c then Z else S d).data.toList
    by_cases e : d = c
    · subst e
      rw [if_pos rfl]
      exact hh.kept k2 (Or.inl n1)
    · rw [if_neg e]
      exact ((h.hash d hd).kept kp (Or.inl (n2 d hd hc e))).kept k2 (Or.inl (gOf_ne hl d).1)

set_option maxRecDepth 100000 in
set_option maxHeartbeats 3200000 in
theorem lawHash (oa : Option Addr) (len cap : Nat) (w : World) (hlen : len ≤ 9223372036854775807) (hP : Pieces w oa len) (ht : Tabs w) :
    Calls Tryd.prog 5 #[.slice oa len cap] w fun e w' => e = .returned (.bool true) ∧ Below w.heap.size w w' := by
  have HP := hide hP
  have HT := hide ht
  have HLEN := hide hlen
  clear hP ht
  go_enter Tryd.func5, Tryd.ntmps5
  go_wp2_with fail
  refine (newHash_any w HT.out.fw).mono ?_
  rintro e w1 ⟨rfl, q1, hb1, hz1⟩
  have Q1 := hide q1
  have K1 := hide hb1
  have Z1 := hide hz1
  clear q1 hb1 hz1
  go_wp2_with fail
  refine (newHash_any w1 (HT.out.below K1.out).fw).mono ?_
  rintro e w2 ⟨rfl, q2, hb2, hz2⟩
  have Q2 := hide q2
  have Q12 := hide (Q1.out.below hb2)
  have K2 := hide (K1.out.trans (hb2.mono K1.out.size))
  have Z2 := hide hz2
  clear q2 hb2 hz2 Q1
  go_wp2_with fail
  refine (newHash_any w2 (HT.out.below K2.out).fw).mono ?_
  rintro e w3 ⟨rfl, q3, hb3, hz3⟩
  have Q3 := hide q3
  have Q23 := hide (Q2.out.below hb3)
  have Q13 := hide (Q12.out.below hb3)
  have K3 := hide (K2.out.trans (hb3.mono K2.out.size))
  clear q3 hb3 hz3 Q2 Q12
  have HG : Hid (w.heap.size < w1.heap.size ∧ w1.heap.size < w2.heap.size) := by
    show _ ∧ _
    have := Z1.out; have := Z2.out; omega
  clear Z1 Z2
  generalize w1.heap.size = g1 at *
  generalize w2.heap.size = g2 at *
  have HTH : Hid (Three (w3.alloc (.cells #[.string ⟨#[]⟩, .string ⟨#[]⟩, .string ⟨#[]⟩] 31)) w3.heap.size w.heap.size g1 g2 fun _ => ⟨#[]⟩) := by
    have hb4 : Below w3.heap.size w3 (w3.alloc (.cells #[.string ⟨#[]⟩, .string ⟨#[]⟩, .string ⟨#[]⟩] 31)) := (Below.refl _ _).alloc (Nat.le_refl _) _
    refine ⟨fun c hc => ?_, fun c hc => ?_, fun c _ => by decide, fun c hc => ?_⟩
    · obtain rfl | rfl | rfl : c = 0 ∨ c = 1 ∨ c = 2 := by omega
      all_goals simp
    · have hth : (w3.alloc (.cells #[.string ⟨#[]⟩, .string ⟨#[]⟩, .string ⟨#[]⟩] 31)).there w3.heap.size 0 3 := there_new_at w3 _ _ _ 3 rfl rfl
      have := (hth c hc).2
      rw [Nat.zero_add] at this
      exact this
    · obtain rfl | rfl | rfl : c = 0 ∨ c = 1 ∨ c = 2 := by omega
      · exact Q13.out.below hb4
      · exact Q23.out.below hb4
      · exact Q3.out.below hb4
  have K4 : Hid (Below w.heap.size w (w3.alloc (.cells #[.string ⟨#[]⟩, .string ⟨#[]⟩, .string ⟨#[]⟩] 31))) := K3.out.alloc K3.out.size _
  have HGA : Hid (g2 < w3.heap.size) := by
    show _ < _
    obtain ⟨pc, h, _⟩ := Q3.out
    exact h.lt
  clear Q3 Q23 Q13 K3 K2 K1
  go_wp2_with fail
  generalize w3.alloc (.cells #[.string ⟨#[]⟩, .string ⟨#[]⟩, .string ⟨#[]⟩] 31) = W4 at *
  generalize w3.heap.size = gA at *
  go_loopw [7] (fun i wr => ∃ k : Nat, k ≤ len ∧ i = .int .i64 k ∧ (∃ S, Three wr gA w.heap.size g1 g2 S) ∧ Below w.heap.size w wr) (fun i _ => len - (intOf i).toNat)
  case atStart => exact ⟨0, Nat.zero_le _, rfl, ⟨_, HTH.out⟩, K4.out⟩
  case round =>
    obtain ⟨k, hk, rfl, ⟨S, hS⟩, hB⟩ := hrel
    have TS := hide hS
    have KB := hide hB
    clear hS hB
    by_cases hlt : k < len
    · have hki : (k : Int) < (len : Int) := by omega
      have k0 : (0 : Int) ≤ (k : Int) := Int.natCast_nonneg _
      obtain ⟨b, o, x, y, t, rfl, hbl, cx0, ct0, cy0, bx, by', ts⟩ := HP.out k hlt
      have cx := (KB.out.cell (p := ⟨b, o + k * 3, none⟩) hbl).trans cx0
      have ct := (KB.out.cell (p := ⟨b, o + k * 3 + 1, none⟩) hbl).trans ct0
      have cy := (KB.out.cell (p := ⟨b, o + k * 3 + 2, none⟩) hbl).trans cy0
      have HBL := hide hbl
      obtain ⟨n, hn, hpn⟩ : ∃ n : Nat, n ≤ 2 ∧ kitw.pick y 3 = (n : Int) := by
        obtain ⟨p0, p1⟩ := kitw.pick_bounds y 3
        have p2 := p1 (by decide)
        exact ⟨(kitw.pick y 3).toNat, by omega, by omega⟩
      have HPK : Hid (∀ W, Calls Tryd.prog 13 #[.int .i64 y, .int .i64 3] W fun e w' => e = .returned (.int .i64 (n : Int)) ∧ w' = W) := fun W => by
        rw [← hpn]; exact kitw.pick_any y 3 W (by decide) (by decide) by'.1 by'.2
      clear cx0 ct0 cy0 hbl hpn
      have BX := hide bx
      have BY := hide by'
      have TSZ := hide ts
      clear bx by'
      obtain ⟨p0, p1⟩ := kitw.pick_bounds x 3
      have p2 := p1 (by decide)
      have HPC : Hid (kitw.pick x 3 = 0 ∨ kitw.pick x 3 = 1 ∨ kitw.pick x 3 = 2) := by show _ ∨ _; omega
      clear p0 p1 p2
      go_wp2_with fail
      refine (kitw.pick_any x 3 wr (by decide) (by decide) BX.out.1 BX.out.2).mono ?_
      rintro e w5 ⟨rfl, rfl⟩
      rcases HPC.out with hpc | hpc | hpc
      · rw [hpc]
        have sc := TS.out.cell 0 (by decide)
        have sf := TS.out.soft 0 (by decide)
        have ss := TS.out.size 0 (by decide)
        have sh := TS.out.hash 0 (by decide)
        obtain ⟨s, hs⟩ : ∃ s, S 0 = s := ⟨_, rfl⟩
        rw [hs] at sc ss sh
        have HSC := hide hs
        have SH := hide sh
        clear hs hpc sh
        by_cases hbig : (16777216 : Int) < (s.size : Int) + (t.size : Int)
        · go_wp2_with fail
          go_region
          go_wp2
          go_ret
          exact ⟨rfl, KB.out.drew⟩
        · go_wp2_with fail
          go_region
          go_wp2_with fail
          have KD := hide KB.out.drew
          have TD : Hid (Three w5.drew gA w.heap.size g1 g2 S) := TS.out.below (Below.refl _ _).drew
          have HGG : Hid (w.heap.size ≤ w.heap.size) := by show _ ≤ _; have := HG.out; omega
          have HGAL := hide TD.out.lt
          have HLS : Hid (s.data.toList.length + t.size ≤ 1125899906842624) := by
            show _ ≤ _
            have : s.data.toList.length = s.size := by simp
            omega
          refine (add_any w.heap.size 0 s.data.toList t w5.drew (HLS.out) (SH.out.below (Below.refl _ _).drew) (HT.out.below KD.out).rw (by have := HT.out.rw.lt; have := HGG.out; omega)).mono ?_
          rintro e w6 ⟨rfl, hh6, kp⟩
          have hneg : ¬ (9223372036854775807 < s.size + t.size) := by omega
          have hzs : (s ++ t).size ≤ 16777216 := by rw [ByteArray.size_append]; omega
          have hzl : (s ++ t).data.toList = s.data.toList ++ t.data.toList := by simp
          obtain ⟨Z, hZ⟩ : ∃ Z, s ++ t = Z := ⟨_, rfl⟩
          rw [hZ] at hzs hzl
          have hl3 : w.heap.size < g1 ∧ g1 < g2 ∧ g2 < gA := ⟨HG.out.1, HG.out.2, HGA.out⟩
          have T7 := hide (TD.out.added hl3 0 (by decide) Z kp (by rw [hzl]; exact hh6) hzs)
          have hkk := cell_kept kp HGAL.out (Ne.symm (gOf_ne hl3 0).1) 0
          have sc6 : w6.cell? ⟨gA, 0, none⟩ = some (.string s) := hkk.1.trans sc
          have sf6 : w6.frozen? ⟨gA, 0, none⟩ = false := hkk.2.trans sf
          have hkb := kp.Below HGG.out KD.out.size
          have ct6 : w6.cell? ⟨b, o + k * 3 + 1, none⟩ = some (.string t) := (hkb.cell (p := ⟨b, o + k * 3 + 1, none⟩) HBL.out).trans ct
          have cy6 : w6.cell? ⟨b, o + k * 3 + 2, none⟩ = some (.int .i64 y) := (hkb.cell (p := ⟨b, o + k * 3 + 2, none⟩) HBL.out).trans cy
          have K6 : Hid (Below w.heap.size w w6) := KD.out.trans hkb
          have K7 : Hid (Below w.heap.size w (w6.setCell ⟨gA, 0, none⟩ (.string Z))) := K6.out.setCell (by show _ ≤ gA; omega) _
          have cy7 : (w6.setCell ⟨gA, 0, none⟩ (.string Z)).cell? ⟨b, o + k * 3 + 2, none⟩ = some (.int .i64 y) := (World.cell?_setCell_other _ _ _ _ (fun h => by have h1 := (Addr.mk.inj h).1; have := HBL.out; omega)).trans cy6
          have sc7 := T7.out.cell 0 (by decide)
          rw [if_pos rfl] at sc7
          have SH7 := T7.out.hash 0 (by decide)
          have HZS := hide hzs
          have T8 : Hid (Three (w6.setCell ⟨gA, 0, none⟩ (.string Z)).drew gA w.heap.size g1 g2 fun d => if d = 0 then Z else S d) := T7.out.below (Below.refl _ _).drew
          have K8 : Hid (Below w.heap.size w (w6.setCell ⟨gA, 0, none⟩ (.string Z)).drew) := K7.out.drew
          have SC8 : Hid ((w6.setCell ⟨gA, 0, none⟩ (.string Z)).drew.cell? ⟨gA, 0, none⟩ = some (.string Z)) := sc7
          have CY8 : Hid ((w6.setCell ⟨gA, 0, none⟩ (.string Z)).drew.cell? ⟨b, o + k * 3 + 2, none⟩ = some (.int .i64 y)) := cy7
          have SH8 : Hid (HashOf (w6.setCell ⟨gA, 0, none⟩ (.string Z)).drew w.heap.size 0 Z.data.toList) := HashOf.below SH7 (Below.refl _ _).drew
          clear hkb hkk kp hh6 sc sf ct cx cy TS TD KB KD SH hzl cy6 hzs hl3 HGAL K6 K7 T7 sc7 cy7 SH7 HLS
          go_wp2_with fail
          go_region
          go_wp2_with fail
          clear sc6 sf6 ct6 hZ hneg
          generalize (w6.setCell ⟨gA, 0, none⟩ (.string Z)).drew = W8 at *
          have sc8 := SC8.out
          have cy8 := CY8.out
          go_region_held3 (fun W => W.cell? ⟨gA, 0, none⟩ = some (.string Z) ∧ W.cell? ⟨b, o + k * 3 + 2, none⟩ = some (.int .i64 y))
            (first | go_keep | exact ⟨(hb9.cell (p := ⟨gA, 0, none⟩) T8.out.lt).trans SC8.out, (hb9.cell (p := ⟨b, o + k * 3 + 2, none⟩) (Nat.lt_of_lt_of_le HBL.out K8.out.size)).trans CY8.out⟩)
            (first
              | (go_at_call 13; refine (HPK.out _).mono ?_; rintro e w8 ⟨rfl, rfl⟩)
              | (go_at_call 15; refine (sumIs_any w.heap.size Z n _ (by have := HZS.out; omega) (by omega) (SH8.out.below (Below.refl _ _).drew) (HT.out.below K8.out.drew)).mono ?_; rintro e w9 ⟨rfl, hb9⟩))
          all_goals
            have K9 := hide (K8.out.drew.trans (hb9.mono K8.out.size))
            have T9 := hide ((T8.out.below (Below.refl _ _).drew).below hb9)
            clear hb9 sc8 cy8
            go_wp2
            go_roundw
            case rel => exact ⟨k + 1, by omega, by go_num, ⟨_, T9.out⟩, K9.out⟩
            case measure => simp [intOf]; omega
      · rw [hpc]
        have sc := TS.out.cell 1 (by decide)
        have sf := TS.out.soft 1 (by decide)
        have ss := TS.out.size 1 (by decide)
        have sh := TS.out.hash 1 (by decide)
        obtain ⟨s, hs⟩ : ∃ s, S 1 = s := ⟨_, rfl⟩
        rw [hs] at sc ss sh
        have HSC := hide hs
        have SH := hide sh
        clear hs hpc sh
        by_cases hbig : (16777216 : Int) < (s.size : Int) + (t.size : Int)
        · go_wp2_with fail
          go_region
          go_wp2
          go_ret
          exact ⟨rfl, KB.out.drew⟩
        · go_wp2_with fail
          go_region
          go_wp2_with fail
          have KD := hide KB.out.drew
          have TD : Hid (Three w5.drew gA w.heap.size g1 g2 S) := TS.out.below (Below.refl _ _).drew
          have HGG : Hid (w.heap.size ≤ g1) := by show _ ≤ _; have := HG.out; omega
          have HGAL := hide TD.out.lt
          have HLS : Hid (s.data.toList.length + t.size ≤ 1125899906842624) := by
            show _ ≤ _
            have : s.data.toList.length = s.size := by simp
            omega
          refine (add_any g1 0 s.data.toList t w5.drew (HLS.out) (SH.out.below (Below.refl _ _).drew) (HT.out.below KD.out).rw (by have := HT.out.rw.lt; have := HGG.out; omega)).mono ?_
          rintro e w6 ⟨rfl, hh6, kp⟩
          have hneg : ¬ (9223372036854775807 < s.size + t.size) := by omega
          have hzs : (s ++ t).size ≤ 16777216 := by rw [ByteArray.size_append]; omega
          have hzl : (s ++ t).data.toList = s.data.toList ++ t.data.toList := by simp
          obtain ⟨Z, hZ⟩ : ∃ Z, s ++ t = Z := ⟨_, rfl⟩
          rw [hZ] at hzs hzl
          have hl3 : w.heap.size < g1 ∧ g1 < g2 ∧ g2 < gA := ⟨HG.out.1, HG.out.2, HGA.out⟩
          have T7 := hide (TD.out.added hl3 1 (by decide) Z kp (by rw [hzl]; exact hh6) hzs)
          have hkk := cell_kept kp HGAL.out (Ne.symm (gOf_ne hl3 1).1) 1
          have sc6 : w6.cell? ⟨gA, 1, none⟩ = some (.string s) := hkk.1.trans sc
          have sf6 : w6.frozen? ⟨gA, 1, none⟩ = false := hkk.2.trans sf
          have hkb := kp.Below HGG.out KD.out.size
          have ct6 : w6.cell? ⟨b, o + k * 3 + 1, none⟩ = some (.string t) := (hkb.cell (p := ⟨b, o + k * 3 + 1, none⟩) HBL.out).trans ct
          have cy6 : w6.cell? ⟨b, o + k * 3 + 2, none⟩ = some (.int .i64 y) := (hkb.cell (p := ⟨b, o + k * 3 + 2, none⟩) HBL.out).trans cy
          have K6 : Hid (Below w.heap.size w w6) := KD.out.trans hkb
          have K7 : Hid (Below w.heap.size w (w6.setCell ⟨gA, 1, none⟩ (.string Z))) := K6.out.setCell (by show _ ≤ gA; omega) _
          have cy7 : (w6.setCell ⟨gA, 1, none⟩ (.string Z)).cell? ⟨b, o + k * 3 + 2, none⟩ = some (.int .i64 y) := (World.cell?_setCell_other _ _ _ _ (fun h => by have h1 := (Addr.mk.inj h).1; have := HBL.out; omega)).trans cy6
          have sc7 := T7.out.cell 1 (by decide)
          rw [if_pos rfl] at sc7
          have SH7 := T7.out.hash 1 (by decide)
          have HZS := hide hzs
          have T8 : Hid (Three (w6.setCell ⟨gA, 1, none⟩ (.string Z)).drew gA w.heap.size g1 g2 fun d => if d = 1 then Z else S d) := T7.out.below (Below.refl _ _).drew
          have K8 : Hid (Below w.heap.size w (w6.setCell ⟨gA, 1, none⟩ (.string Z)).drew) := K7.out.drew
          have SC8 : Hid ((w6.setCell ⟨gA, 1, none⟩ (.string Z)).drew.cell? ⟨gA, 1, none⟩ = some (.string Z)) := sc7
          have CY8 : Hid ((w6.setCell ⟨gA, 1, none⟩ (.string Z)).drew.cell? ⟨b, o + k * 3 + 2, none⟩ = some (.int .i64 y)) := cy7
          have SH8 : Hid (HashOf (w6.setCell ⟨gA, 1, none⟩ (.string Z)).drew g1 0 Z.data.toList) := HashOf.below SH7 (Below.refl _ _).drew
          clear hkb hkk kp hh6 sc sf ct cx cy TS TD KB KD SH hzl cy6 hzs hl3 HGAL K6 K7 T7 sc7 cy7 SH7 HLS
          go_wp2_with fail
          go_region
          go_wp2_with fail
          clear sc6 sf6 ct6 hZ hneg
          generalize (w6.setCell ⟨gA, 1, none⟩ (.string Z)).drew = W8 at *
          have sc8 := SC8.out
          have cy8 := CY8.out
          go_region_held3 (fun W => W.cell? ⟨gA, 1, none⟩ = some (.string Z) ∧ W.cell? ⟨b, o + k * 3 + 2, none⟩ = some (.int .i64 y))
            (first | go_keep | exact ⟨(hb9.cell (p := ⟨gA, 1, none⟩) T8.out.lt).trans SC8.out, (hb9.cell (p := ⟨b, o + k * 3 + 2, none⟩) (Nat.lt_of_lt_of_le HBL.out K8.out.size)).trans CY8.out⟩)
            (first
              | (go_at_call 13; refine (HPK.out _).mono ?_; rintro e w8 ⟨rfl, rfl⟩)
              | (go_at_call 15; refine (sumIs_any g1 Z n _ (by have := HZS.out; omega) (by omega) (SH8.out.below (Below.refl _ _).drew) (HT.out.below K8.out.drew)).mono ?_; rintro e w9 ⟨rfl, hb9⟩))
          all_goals
            have K9 := hide (K8.out.drew.trans (hb9.mono K8.out.size))
            have T9 := hide ((T8.out.below (Below.refl _ _).drew).below hb9)
            clear hb9 sc8 cy8
            go_wp2
            go_roundw
            case rel => exact ⟨k + 1, by omega, by go_num, ⟨_, T9.out⟩, K9.out⟩
            case measure => simp [intOf]; omega
      · rw [hpc]
        have sc := TS.out.cell 2 (by decide)
        have sf := TS.out.soft 2 (by decide)
        have ss := TS.out.size 2 (by decide)
        have sh := TS.out.hash 2 (by decide)
        obtain ⟨s, hs⟩ : ∃ s, S 2 = s := ⟨_, rfl⟩
        rw [hs] at sc ss sh
        have HSC := hide hs
        have SH := hide sh
        clear hs hpc sh
        by_cases hbig : (16777216 : Int) < (s.size : Int) + (t.size : Int)
        · go_wp2_with fail
          go_region
          go_wp2
          go_ret
          exact ⟨rfl, KB.out.drew⟩
        · go_wp2_with fail
          go_region
          go_wp2_with fail
          have KD := hide KB.out.drew
          have TD : Hid (Three w5.drew gA w.heap.size g1 g2 S) := TS.out.below (Below.refl _ _).drew
          have HGG : Hid (w.heap.size ≤ g2) := by show _ ≤ _; have := HG.out; omega
          have HGAL := hide TD.out.lt
          have HLS : Hid (s.data.toList.length + t.size ≤ 1125899906842624) := by
            show _ ≤ _
            have : s.data.toList.length = s.size := by simp
            omega
          refine (add_any g2 0 s.data.toList t w5.drew (HLS.out) (SH.out.below (Below.refl _ _).drew) (HT.out.below KD.out).rw (by have := HT.out.rw.lt; have := HGG.out; omega)).mono ?_
          rintro e w6 ⟨rfl, hh6, kp⟩
          have hneg : ¬ (9223372036854775807 < s.size + t.size) := by omega
          have hzs : (s ++ t).size ≤ 16777216 := by rw [ByteArray.size_append]; omega
          have hzl : (s ++ t).data.toList = s.data.toList ++ t.data.toList := by simp
          obtain ⟨Z, hZ⟩ : ∃ Z, s ++ t = Z := ⟨_, rfl⟩
          rw [hZ] at hzs hzl
          have hl3 : w.heap.size < g1 ∧ g1 < g2 ∧ g2 < gA := ⟨HG.out.1, HG.out.2, HGA.out⟩
          have T7 := hide (TD.out.added hl3 2 (by decide) Z kp (by rw [hzl]; exact hh6) hzs)
          have hkk := cell_kept kp HGAL.out (Ne.symm (gOf_ne hl3 2).1) 2
          have sc6 : w6.cell? ⟨gA, 2, none⟩ = some (.string s) := hkk.1.trans sc
          have sf6 : w6.frozen? ⟨gA, 2, none⟩ = false := hkk.2.trans sf
          have hkb := kp.Below HGG.out KD.out.size
          have ct6 : w6.cell? ⟨b, o + k * 3 + 1, none⟩ = some (.string t) := (hkb.cell (p := ⟨b, o + k * 3 + 1, none⟩) HBL.out).trans ct
          have cy6 : w6.cell? ⟨b, o + k * 3 + 2, none⟩ = some (.int .i64 y) := (hkb.cell (p := ⟨b, o + k * 3 + 2, none⟩) HBL.out).trans cy
          have K6 : Hid (Below w.heap.size w w6) := KD.out.trans hkb
          have K7 : Hid (Below w.heap.size w (w6.setCell ⟨gA, 2, none⟩ (.string Z))) := K6.out.setCell (by show _ ≤ gA; omega) _
          have cy7 : (w6.setCell ⟨gA, 2, none⟩ (.string Z)).cell? ⟨b, o + k * 3 + 2, none⟩ = some (.int .i64 y) := (World.cell?_setCell_other _ _ _ _ (fun h => by have h1 := (Addr.mk.inj h).1; have := HBL.out; omega)).trans cy6
          have sc7 := T7.out.cell 2 (by decide)
          rw [if_pos rfl] at sc7
          have SH7 := T7.out.hash 2 (by decide)
          have HZS := hide hzs
          have T8 : Hid (Three (w6.setCell ⟨gA, 2, none⟩ (.string Z)).drew gA w.heap.size g1 g2 fun d => if d = 2 then Z else S d) := T7.out.below (Below.refl _ _).drew
          have K8 : Hid (Below w.heap.size w (w6.setCell ⟨gA, 2, none⟩ (.string Z)).drew) := K7.out.drew
          have SC8 : Hid ((w6.setCell ⟨gA, 2, none⟩ (.string Z)).drew.cell? ⟨gA, 2, none⟩ = some (.string Z)) := sc7
          have CY8 : Hid ((w6.setCell ⟨gA, 2, none⟩ (.string Z)).drew.cell? ⟨b, o + k * 3 + 2, none⟩ = some (.int .i64 y)) := cy7
          have SH8 : Hid (HashOf (w6.setCell ⟨gA, 2, none⟩ (.string Z)).drew g2 0 Z.data.toList) := HashOf.below SH7 (Below.refl _ _).drew
          clear hkb hkk kp hh6 sc sf ct cx cy TS TD KB KD SH hzl cy6 hzs hl3 HGAL K6 K7 T7 sc7 cy7 SH7 HLS
          go_wp2_with fail
          go_region
          go_wp2_with fail
          clear sc6 sf6 ct6 hZ hneg
          generalize (w6.setCell ⟨gA, 2, none⟩ (.string Z)).drew = W8 at *
          have sc8 := SC8.out
          have cy8 := CY8.out
          go_region_held3 (fun W => W.cell? ⟨gA, 2, none⟩ = some (.string Z) ∧ W.cell? ⟨b, o + k * 3 + 2, none⟩ = some (.int .i64 y))
            (first | go_keep | exact ⟨(hb9.cell (p := ⟨gA, 2, none⟩) T8.out.lt).trans SC8.out, (hb9.cell (p := ⟨b, o + k * 3 + 2, none⟩) (Nat.lt_of_lt_of_le HBL.out K8.out.size)).trans CY8.out⟩)
            (first
              | (go_at_call 13; refine (HPK.out _).mono ?_; rintro e w8 ⟨rfl, rfl⟩)
              | (go_at_call 15; refine (sumIs_any g2 Z n _ (by have := HZS.out; omega) (by omega) (SH8.out.below (Below.refl _ _).drew) (HT.out.below K8.out.drew)).mono ?_; rintro e w9 ⟨rfl, hb9⟩))
          all_goals
            have K9 := hide (K8.out.drew.trans (hb9.mono K8.out.size))
            have T9 := hide ((T8.out.below (Below.refl _ _).drew).below hb9)
            clear hb9 sc8 cy8
            go_wp2
            go_roundw
            case rel => exact ⟨k + 1, by omega, by go_num, ⟨_, T9.out⟩, K9.out⟩
            case measure => simp [intOf]; omega
    · obtain rfl : k = len := by omega
      have hki : ¬ (k : Int) < (k : Int) := by omega
      have s0 := TS.out.cell 0 (by decide)
      have s1 := TS.out.cell 1 (by decide)
      have s2 := TS.out.cell 2 (by decide)
      have hgA := TS.out.lt
      go_wp2_with fail
      refine (sumIs_any w.heap.size (S 0) 2 wr (by have := TS.out.size 0 (by decide); omega) (by decide) (TS.out.hash 0 (by decide)) (HT.out.below KB.out)).mono ?_
      rintro e w5 ⟨rfl, hb5⟩
      have s1' := (hb5.cell (p := ⟨gA, 1, none⟩) hgA).trans s1
      have s2' := (hb5.cell (p := ⟨gA, 2, none⟩) hgA).trans s2
      have T5 := hide (TS.out.below hb5)
      have K5 := hide (KB.out.trans (hb5.mono KB.out.size))
      clear hb5 s0 s1 s2 hgA
      have hgA := T5.out.lt
      go_wp2_with fail
      refine (sumIs_any g1 (S 1) 2 w5 (by have := TS.out.size 1 (by decide); omega) (by decide) (T5.out.hash 1 (by decide)) (HT.out.below K5.out)).mono ?_
      rintro e w6 ⟨rfl, hb6⟩
      have s2'' := (hb6.cell (p := ⟨gA, 2, none⟩) hgA).trans s2'
      have T6 := hide (T5.out.below hb6)
      have K6 := hide (K5.out.trans (hb6.mono K5.out.size))
      clear hb6 s1' s2' hgA
      go_wp2_with fail
      refine (sumIs_any g2 (S 2) 2 w6 (by have := TS.out.size 2 (by decide); omega) (by decide) (T6.out.hash 2 (by decide)) (HT.out.below K6.out)).mono ?_
      rintro e w7 ⟨rfl, hb7⟩
      have K7 := hide (K6.out.trans (hb7.mono K6.out.size))
      clear hb7 s2''
      go_wp2
      go_ret
      exact ⟨rfl, K7.out⟩

end Go.Proofs.YthpickmiohakbaaDoor.refw
