import Derived.Test.YthobocfpfolhiaaDoorFlipWalks
import Derived.Deep.RegionHeld3
import Derived.Deep.AppendLies
import Derived.Deep.DeepCutAuto
import Derived.Deep.DrawnRows
namespace Go.Proofs.YthobocfpfolhiaaDoor.affw
open Go.ChangeShapes Go.WideShapes Go.ChangeAt Go.RowKit Go.Proofs.YthobocfpfolhiaaDoor.common Go.Proofs.YthobocfpfolhiaaDoor.kitw Go.Proofs.YthobocfpfolhiaaDoor.flipw
open Go.Proofs.YthobocfpfolhiaaDoor.crcw (V Tab crc_any)
attribute [local go_sem ↓] Go.wp_at_zero Go.wp_at_succ

theorem cellsThree : Tryd.prog.cellsOf 23 = 3 := by kernel_rfl

/-- the three texts xored -/
def mix (a b c : List UInt8) : List UInt8 := List.zipWith (· ^^^ ·) (List.zipWith (· ^^^ ·) a b) c

theorem mix_take (a b c : List UInt8) (n k : Nat) (hk : k ≤ n) : mix (a.take k) (b.take k) (c.take k) = (mix (a.take n) (b.take n) (c.take n)).take k := by
  unfold mix
  rw [List.take_zipWith, List.take_zipWith, List.take_take, List.take_take, List.take_take, Nat.min_eq_left hk]

theorem mix_snoc (a b c : ByteArray) (k : Nat) (ha : k < a.size) (hb : k < b.size) (hc : k < c.size) :
    mix (a.data.toList.take (k + 1)) (b.data.toList.take (k + 1)) (c.data.toList.take (k + 1)) = mix (a.data.toList.take k) (b.data.toList.take k) (c.data.toList.take k) ++ [a[k] ^^^ b[k] ^^^ c[k]] := by
  rw [take_snoc a k ha, take_snoc b k hb, take_snoc c k hc]
  unfold mix
  rw [List.zipWith_append (by simp; omega), List.zipWith_append (by simp; omega)]
  rfl

theorem mix_length (a b c : List UInt8) (hb : b.length = a.length) (hc : c.length = a.length) : (mix a b c).length = a.length := by
  simp [mix, hb, hc]

theorem xor8 (x y : UInt8) : bits .xor .u8 (x.toNat : Int) (y.toNat : Int) = ((x ^^^ y).toNat : Int) := by
  rw [u8_xor_nat _ _ x.toNat_lt y.toNat_lt, UInt8.toNat_xor]

theorem conv_own {w : World} {base : Nat} {e : TypeId} {v : Value} {l : List UInt8} {n : Nat} (h : w.ownsRow base e 1 v n (l.map B)) (hn : l.length = n) :
    (convert 24 9 v).run Tryd.prog w = .ok (.string ⟨l.toArray⟩) w := by
  subst hn
  rcases h.2 with ⟨rfl, h0⟩ | ⟨g, cap, cur, rfl, hg, hh, hn, _, hsz, htk⟩
  · rw [run_convert_bytes_nil (P := Tryd.prog) w 24 5 Tryd.underlying24 Tryd.underlying5 0 0 9 Tryd.underlying9]
    obtain rfl : l = [] := List.eq_nil_of_length_eq_zero h0
    rfl
  · refine run_convert_bytes_back (P := Tryd.prog) w 24 9 5 ⟨g, 0, none⟩ cap l Tryd.underlying24 Tryd.underlying5 Tryd.underlying9 ?_
    intro j hj
    rw [add_at]
    have : (cur.toList.take (l.length * 1))[j]? = (l.map B)[j]? := by rw [htk]
    rw [List.getElem?_take_of_lt (by omega)] at this
    simp only [World.cell?, hh]
    simp [hj] at this
    simpa using this

theorem crc_to (s : ByteArray) (X : BitVec 32) (hX : Crc.more 0#32 s.data.toList = X) (w : World) (hs : s.size ≤ maxLen) (ht : Tab w) :
    Calls Tryd.prog 9 #[.string s] w fun e w' => e = .returned (V X) ∧ w' = w := by
  subst hX; exact crc_any s w hs ht

theorem ext_list (a : ByteArray) (k : Nat) : (a.extract 0 k).data.toList = a.data.toList.take k := by
  simp

theorem known : Crc.more 0#32 [49, 50, 51, 52, 53, 54, 55, 56, 57] = 3421780262#32 := by decide +kernel

set_option maxRecDepth 100000 in
set_option maxHeartbeats 3200000 in
theorem lawAffine (a b c : ByteArray) (w : World) (ha : a.size ≤ reachBytes) (_hb : b.size ≤ reachBytes) (_hc : c.size ≤ reachBytes) (ht : Tab w) :
    Calls Tryd.prog 3 #[.agg #[.string a, .string b, .string c]] w fun e w' => e = .returned (.bool true) ∧ Below w.heap.size w w' := by
  unfold reachBytes at ha _hb _hc
  obtain ⟨i0, hi, hz0, hz1, hz2⟩ := info_parts info8
  have HT := hide ht
  clear ht
  go_enter Tryd.func3, Tryd.ntmps3
  go_upto_if 16 with fail
  go_cut [3] (fun s wx => (∃ k : Nat, s = .int .i64 k ∧ k ≤ a.size ∧ k ≤ b.size) ∧ wx = w.alloc (.cells #[.string a, .string b, .string c] 23))
  case first =>
    by_cases h : b.size < a.size
    · go_wp2_with fail
      go_meet
      case rel => exact ⟨⟨b.size, rfl, by omega, by omega⟩, rfl⟩
    · go_wp2_with fail
      go_meet
      case rel => exact ⟨⟨a.size, rfl, by omega, by omega⟩, rfl⟩
  case rest =>
    obtain ⟨⟨n0, rfl, hn1, hn2⟩, rfl⟩ := hcut
    go_upto_if 24 with fail
    go_cut [3] (fun s wx => (∃ k : Nat, s = .int .i64 k ∧ k ≤ a.size ∧ k ≤ b.size ∧ k ≤ c.size) ∧ wx = w.alloc (.cells #[.string a, .string b, .string c] 23))
    case first =>
      by_cases h : c.size < n0
      · go_wp2_with fail
        go_meet
        case rel => exact ⟨⟨c.size, rfl, by omega, by omega, by omega⟩, rfl⟩
      · go_wp2_with fail
        go_meet
        case rel => exact ⟨⟨n0, rfl, by omega, by omega, by omega⟩, rfl⟩
    case rest =>
      obtain ⟨⟨n, rfl, hna, hnb, hnc⟩, rfl⟩ := hcut
      clear hn1 hn2
      go_wp2_with fail
      go_loopw [4, 5] (fun v i wr => ∃ k : Nat, k ≤ n ∧ i = .int .i64 k ∧ wr.ownsRow (w.heap.size + 1) 5 1 v k ((mix (a.data.toList.take k) (b.data.toList.take k) (c.data.toList.take k)).map B) ∧ Below (w.heap.size + 1) (w.alloc (.cells #[.string a, .string b, .string c] 23)) wr) (fun _ i _ => n - (intOf i).toNat)
      case atStart => exact ⟨0, Nat.zero_le _, rfl, World.ownsRow_nil _ _ _ _, Below.refl _ _⟩
      case round =>
        obtain ⟨k, hk, rfl, hown, hnx⟩ := hrel
        by_cases hlt : k < n
        · have hsz := hnx.size
          simp only [World.size_alloc] at hsz
          have q0 : wr.cell? ⟨w.heap.size, 0, none⟩ = some (.string a) := by rw [hnx.cell (p := ⟨w.heap.size, 0, none⟩) (by simp)]; simp
          have q1 : wr.cell? ⟨w.heap.size, 1, none⟩ = some (.string b) := by rw [hnx.cell (p := ⟨w.heap.size, 1, none⟩) (by simp)]; simp
          have q2 : wr.cell? ⟨w.heap.size, 2, none⟩ = some (.string c) := by rw [hnx.cell (p := ⟨w.heap.size, 2, none⟩) (by simp)]; simp
          have hag : u4.ownBlock ≠ some w.heap.size := by
            intro he
            have := own_ge hown _ he
            omega
          have hka : k < a.size := by omega
          have hkb : k < b.size := by omega
          have hkc : k < c.size := by omega
          have k0 : (0 : Int) ≤ (k : Int) := Int.natCast_nonneg _
          have ka : (k : Int) < (a.size : Int) := by omega
          have kb : (k : Int) < (b.size : Int) := by omega
          have kc : (k : Int) < (c.size : Int) := by omega
          have hsn := hide (mix_snoc a b c k hka hkb hkc)
          have x1 := xor8 a[k] b[k]
          have x2 := xor8 (a[k] ^^^ b[k]) c[k]
          generalize a[k] ^^^ b[k] = p at x1 x2 hsn
          generalize p ^^^ c[k] = q at x2 hsn
          have HX := hide hnx
          clear hnx
          go_wp2_with fail
          go_region_held3 (fun w' => w'.cell? ⟨w.heap.size, 0, none⟩ = some (.string a) ∧ w'.cell? ⟨w.heap.size, 1, none⟩ = some (.string b) ∧ w'.cell? ⟨w.heap.size, 2, none⟩ = some (.string c))
            (first
              | go_keep
              | (go_split_ands
                 refine ⟨?_, ?_, ?_⟩
                 · (rw [hgrow.cell_far _ (by simp; omega) (Ne.symm hag)]; assumption)
                 · (rw [hgrow.cell_far _ (by simp; omega) (Ne.symm hag)]; assumption)
                 · (rw [hgrow.cell_far _ (by simp; omega) (Ne.symm hag)]; assumption)))
            ((refine step_append_lies _ (by rfl) _ _ _ (by rfl) (w.heap.size + 1) 5 i0 _ 1 1 Tryd.underlying24 hi hz0 hz1 hz2 rfl (by omega) u4 k _ (by rfl) ((hown.alloc _).drew)
                ⟨wr.heap.size, 0, none⟩ 1 1 [B q] (by rfl) (by rfl) (World.news_of_block (cs := #[B q]) (t := 5) (fr := (0, 0)) (heap_alloc_new wr _)) (by simp [Value.oneCell'])
                (by omega) (by unfold maxLen; omega) (by omega) (by simp; omega) (wr.heap.size + 1) (by simp) ?_; intro gg cap w1 hown1 hgrow hat hlt2))
          all_goals
            have R1 : Hid (w1.ownsRow (w.heap.size + 1) 5 1 (.slice (some ⟨gg, 0, none⟩) (k + 1) cap) (k + 1) ((mix (a.data.toList.take (k + 1)) (b.data.toList.take (k + 1)) (c.data.toList.take (k + 1))).map B)) := by
              show w1.ownsRow _ _ _ _ _ _
              rw [hsn.out, List.map_append]
              exact hown1
            have R2 : Hid (Below (w.heap.size + 1) (w.alloc (.cells #[.string a, .string b, .string c] 23)) w1) := ((HX.out.alloc hsz _).drew).grown hgrow (by simp; omega) (own_ge hown)
            clear hown hown1 hgrow hat hlt2 q0 q1 q2 hag x1 x2
            go_wp2
            go_roundw
            case rel => exact ⟨k + 1, by omega, by go_num, R1.out, R2.out⟩
            case measure => simp [intOf]; omega
        · obtain rfl : k = n := by omega
          have hlen : (mix (a.data.toList.take k) (b.data.toList.take k) (c.data.toList.take k)).length = k := by
            rw [mix_length _ _ _ (by simp; omega) (by simp; omega)]; simp; omega
          have hconv := conv_own hown hlen
          have h3 : Crc.more 0#32 (a.data.toList.take k) ^^^ Crc.more 0#32 (b.data.toList.take k) ^^^ Crc.more 0#32 (c.data.toList.take k) = Crc.more 0#32 (mix (a.data.toList.take k) (b.data.toList.take k) (c.data.toList.take k)) :=
            Crc.more_three (a.data.toList.take k) (b.data.toList.take k) (c.data.toList.take k) (by simp; omega) (by simp; omega)
          have q0 : wr.cell? ⟨w.heap.size, 0, none⟩ = some (.string a) := by rw [hnx.cell (p := ⟨w.heap.size, 0, none⟩) (by simp)]; simp
          have q1 : wr.cell? ⟨w.heap.size, 1, none⟩ = some (.string b) := by rw [hnx.cell (p := ⟨w.heap.size, 1, none⟩) (by simp)]; simp
          have q2 : wr.cell? ⟨w.heap.size, 2, none⟩ = some (.string c) := by rw [hnx.cell (p := ⟨w.heap.size, 2, none⟩) (by simp)]; simp
          have HTR := hide ((HT.out.alloc (.cells #[.string a, .string b, .string c] 23)).below hnx (by have := HT.out.lt; omega))
          have HW : Hid (Below w.heap.size w wr) := ((Below.refl w.heap.size w).alloc (Nat.le_refl _) _).trans (hnx.mono (by simp))
          clear hnx hown
          generalize mix (a.data.toList.take k) (b.data.toList.take k) (c.data.toList.take k) = d at *
          obtain ⟨X, hX⟩ : ∃ X, Crc.more 0#32 (a.extract 0 k).data.toList = X := ⟨_, rfl⟩
          obtain ⟨Y, hY⟩ : ∃ X, Crc.more 0#32 (b.extract 0 k).data.toList = X := ⟨_, rfl⟩
          obtain ⟨Z, hZ⟩ : ∃ X, Crc.more 0#32 (c.extract 0 k).data.toList = X := ⟨_, rfl⟩
          obtain ⟨D, hD⟩ : ∃ X, Crc.more 0#32 (⟨d.toArray⟩ : ByteArray).data.toList = X := ⟨_, rfl⟩
          obtain ⟨P, hP⟩ : ∃ P, X ^^^ Y = P := ⟨_, rfl⟩
          have hPD : P ^^^ Z = D := by
            rw [← hP, ← hX, ← hY, ← hZ, ← hD, ext_list, ext_list, ext_list, h3]
          have x1 := crcw.bits_xor X Y
          rw [hP] at x1
          have x2 := crcw.bits_xor P Z
          rw [hPD] at x2
          have GX := hide hX
          have GY := hide hY
          have GZ := hide hZ
          have GD := hide hD
          have HL := hide hlen
          clear hX hY hZ hD hP hPD h3 hlen
          have s1 : Hid ((a.extract 0 k).size ≤ maxLen) := by show (a.extract 0 k).size ≤ maxLen; rw [ByteArray.size_extract]; unfold maxLen; omega
          have s2 : Hid ((b.extract 0 k).size ≤ maxLen) := by show (b.extract 0 k).size ≤ maxLen; rw [ByteArray.size_extract]; unfold maxLen; omega
          have s3 : Hid ((c.extract 0 k).size ≤ maxLen) := by show (c.extract 0 k).size ≤ maxLen; rw [ByteArray.size_extract]; unfold maxLen; omega
          have s4 : Hid ((⟨d.toArray⟩ : ByteArray).size ≤ maxLen) := by
            show (⟨d.toArray⟩ : ByteArray).size ≤ maxLen
            simp only [ByteArray.size, List.size_toArray, HL.out]; unfold maxLen; omega
          go_wp2_with fail
          refine (crc_to (a.extract 0 k) X GX.out _ s1.out HTR.out).mono ?_
          rintro e w2 ⟨rfl, rfl⟩
          go_wp2_with fail
          refine (crc_to (b.extract 0 k) Y GY.out _ s2.out HTR.out).mono ?_
          rintro e w2 ⟨rfl, rfl⟩
          go_wp2_with fail
          refine (crc_to (c.extract 0 k) Z GZ.out _ s3.out HTR.out).mono ?_
          rintro e w2 ⟨rfl, rfl⟩
          go_wp2_with fail
          refine (crc_to ⟨d.toArray⟩ D GD.out _ s4.out HTR.out).mono ?_
          rintro e w2 ⟨rfl, rfl⟩
          go_wp2_with fail
          refine (crc_to ⟨#[49, 50, 51, 52, 53, 54, 55, 56, 57]⟩ 3421780262#32 known _ (by decide) HTR.out).mono ?_
          rintro e w2 ⟨rfl, rfl⟩
          go_wp2_with fail
          go_ret
          exact ⟨rfl, HW.out⟩
end Go.Proofs.YthobocfpfolhiaaDoor.affw
