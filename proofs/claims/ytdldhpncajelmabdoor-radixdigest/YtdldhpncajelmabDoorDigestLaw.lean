import Derived.Test.YtdldhpncajelmabDoorDigestMath
namespace Go.Proofs.YtdldhpncajelmabDoor.radw
open Go.ChangeShapes Go.WideShapes Go.ChangeAt Go.RowKit Go.Proofs.YtdldhpncajelmabDoor.common
open Go.Proofs.YtdldhpncajelmabDoor.errw (Errs E num_1)
attribute [local go_sem ↓] Go.wp_at_zero Go.wp_at_succ

theorem dsz (l : List UInt8) : (⟨l.toArray⟩ : ByteArray).size = l.length := by
  show l.toArray.size = _; simp
theorem ext_take (s : ByteArray) (k : Nat) : (s.extract 0 k).data.toList = s.data.toList.take k := by simp

set_option maxRecDepth 100000 in
set_option maxHeartbeats 3200000 in
theorem lawDigest (s : ByteArray) (w : World) (hs : s.size ≤ 562949953421312) (e : Nat → Addr) (he : Errs w e) (hu : UrlTab w) (hx : HexTab w) (hk : shaw.RW w) (hf : shaw.FW w) :
    Calls Tryd.prog 7 #[.string s] w fun x w' => x = .returned (.bool true) ∧ Below w.heap.size w w' := by
  have HE := hide he
  have HU := hide hu
  have HX := hide hx
  have GU := hide (hu.lt (by decide))
  have GX := hide (hx.lt (by decide))
  have HSH := hide (shaw.sha_any s w hs hk hf)
  have HR : Hid (∀ p : ByteArray, p.size ≤ 1000 → p.size ≤ reachBytes) := fun p h => by unfold reachBytes; omega
  have dl := digest_len s.data.toList
  clear he hu hx hk hf hs
  go_enter Tryd.func7, Tryd.ntmps7
  go_wp2_with fail
  refine HSH.out.mono ?_
  rintro x w1 ⟨rfl, h1⟩
  have K1 := hide h1
  clear h1 HSH
  have hD : (⟨(Sha.digest s.data.toList).toArray⟩ : ByteArray).data.toList = Sha.digest s.data.toList := rfl
  have hDs : (⟨(Sha.digest s.data.toList).toArray⟩ : ByteArray).size = 32 := by rw [dsz, dl]
  generalize (⟨(Sha.digest s.data.toList).toArray⟩ : ByteArray) = D at *
  generalize Sha.digest s.data.toList = d at *
  subst hD
  have HD := hide dl
  clear dl
  go_wp2_with fail
  refine (url_any D w1 (HR.out _ (by omega)) (HU.out.below K1.out GU.out)).mono ?_
  rintro x w2 ⟨rfl, h2⟩
  have K2 := hide (K1.out.trans (h2.mono K1.out.size))
  clear h2 K1
  have hU : (⟨(Rad.b64 Rad.urlT D.data.toList).toArray⟩ : ByteArray).data.toList = Rad.b64 Rad.urlT D.data.toList := rfl
  have hUs : (⟨(Rad.b64 Rad.urlT D.data.toList).toArray⟩ : ByteArray).size = 43 := by rw [dsz, u_len _ HD.out]
  generalize (⟨(Rad.b64 Rad.urlT D.data.toList).toArray⟩ : ByteArray) = U at *
  have HUL := hide hU
  clear hU
  go_wp2_with fail
  refine (hex_any D w2 (HR.out _ (by omega)) (HX.out.below K2.out GX.out)).mono ?_
  rintro x w3 ⟨rfl, h3⟩
  have K3 := hide (K2.out.trans (h3.mono K2.out.size))
  clear h3 K2
  have hHs : (⟨(Rad.hex D.data.toList).toArray⟩ : ByteArray).size = 64 := by rw [dsz, Rad.hex_len, HD.out]
  generalize (⟨(Rad.hex D.data.toList).toArray⟩ : ByteArray) = H at *
  go_wp2_with fail
  refine (unurl_any U w3 (HR.out _ (by omega)) (e 1) (Txt.of (HE.out.below K3.out)) (HU.out.below K3.out GU.out)).mono ?_
  rintro x w4 ⟨h4, ⟨_, rfl⟩ | ⟨hno, _⟩⟩
  case inr => exact absurd ⟨by rw [HUL.out]; exact Rad.valid_b64 Rad.urlGood _, by rw [HUL.out]; exact Rad.rest_b64 Rad.urlGood _⟩ hno
  have K4 := hide (K3.out.trans (h4.mono K3.out.size))
  clear h4 K3
  rw [HUL.out, Rad.un64_b64 Rad.urlGood]
  have hss : (⟨D.data.toList.toArray⟩ : ByteArray) = D := rfl
  rw [hss]
  clear hss
  go_wp2_with fail
  have HDs := hide hDs
  have HUs := hide hUs
  clear hDs hUs hHs
  go_loopw [8] (fun i wr => ∃ k : Nat, k ≤ 64 ∧ i = .int .i64 k ∧ Below w.heap.size w wr) (fun i _ => 64 - (intOf i).toNat)
  case atStart => exact ⟨0, Nat.zero_le _, rfl, K4.out⟩
  case round =>
    obtain ⟨k, hk, rfl, hb⟩ := hrel
    have KB := hide hb
    clear hb
    by_cases hlt : k < 64
    · have hki : (k : Int) < 64 := by omega
      have n1 : ((k : Int) + 1).toNat = k + 1 := by omega
      have b1 : (0 : Int) ≤ (k : Int) ∧ (k : Int) + 1 ≤ 64 := by omega
      have hUs := HUs.out
      have LA := hide (lit_at k hlt)
      go_wp2_with fail
      go_region
      generalize hS : U.extract 0 42 ++ (⟨#[65, 66, 67, 68, 69, 70, 71, 72, 73, 74, 75, 76, 77, 78, 79, 80, 81, 82, 83, 84, 85, 86, 87, 88, 89, 90, 97, 98, 99, 100, 101, 102, 103, 104, 105, 106, 107, 108, 109, 110, 111, 112, 113, 114, 115, 116, 117, 118, 119, 120, 121, 122, 48, 49, 50, 51, 52, 53, 54, 55, 56, 57, 45, 95]⟩ : ByteArray).extract k (k + 1) = S at *
      have hSl : S.data.toList = last D.data.toList k := by
        rw [← hS]
        unfold last
        rw [← LA.out, ← HUL.out, ← ext_take]
        simp
      have HSL := hide hSl
      have HSZ : Hid (S.size ≤ reachBytes) := by
        show _ ≤ _
        rw [← len_list, hSl, last_len _ HD.out]; decide
      clear hS hSl LA n1 b1 hUs
      have HUR := hide (unurl_any S wr.drew HSZ.out (e 1) (Txt.of (HE.out.below KB.out.drew)) (HU.out.below KB.out.drew GU.out))
      by_cases h4 : k % 4 = 0
      · have h4i : (k : Int) % 4 = 0 := by omega
        go_wp2_with fail
        refine HUR.out.mono ?_
        rintro x w5 ⟨h5, ⟨_, rfl⟩ | ⟨hno, _⟩⟩
        case inr => exact absurd ⟨by rw [HSL.out]; exact last_valid _ HD.out k hlt, by rw [HSL.out]; exact (last_rest _ HD.out k hlt).2 h4⟩ hno
        have K5 := hide (KB.out.drew.trans (h5.mono KB.out.drew.size))
        clear h5 HUR
        rw [HSL.out]
        have hP : (⟨(Rad.un64 Rad.urlT (last D.data.toList k)).toArray⟩ : ByteArray).data.toList = Rad.un64 Rad.urlT (last D.data.toList k) := rfl
        have hPs : (⟨(Rad.un64 Rad.urlT (last D.data.toList k)).toArray⟩ : ByteArray).size = 32 := by rw [dsz, Rad.un64_len, last_len _ HD.out]; rfl
        generalize (⟨(Rad.un64 Rad.urlT (last D.data.toList k)).toArray⟩ : ByteArray) = P at *
        have hDs := HDs.out
        have e31 := eq_list (a := P.extract 0 31) (b := D.extract 0 31) (by apply ba_ext; rw [ext_take, ext_take, hP]; exact last_head _ HD.out k)
        have hsame : (S.toList == U.toList) = (P.toList == D.toList) := by
          by_cases hq : last D.data.toList k = Rad.b64 Rad.urlT D.data.toList
          · rw [eq_list (a := S) (b := U) (by apply ba_ext; rw [HSL.out, HUL.out]; exact hq), eq_list (a := P) (b := D) (by apply ba_ext; rw [hP]; exact (last_same _ HD.out k hlt h4).1 hq)]
          · rw [ne_list (a := S) (b := U) (fun h => hq (by rw [← HSL.out, h, HUL.out])), ne_list (a := P) (b := D) (fun h => hq ((last_same _ HD.out k hlt h4).2 (by rw [← hP, h])))]
        have HP := hide hP
        clear hP
        generalize hbb : (P.toList == D.toList) = bb at *
        cases bb
        all_goals
          go_wp2_with fail
          first | go_region | go_quiet (fail)
          go_wp2
          go_roundw
          case rel => exact ⟨k + 1, by omega, by go_num, K5.out.drew⟩
          case measure => simp [intOf]; omega
      · have h4i : ¬ (k : Int) % 4 = 0 := by omega
        go_wp2_with fail
        refine HUR.out.mono ?_
        rintro x w5 ⟨h5, ⟨hok, _⟩ | ⟨_, rfl⟩⟩
        case inl => exact absurd ((last_rest _ HD.out k hlt).1 (by have := hok.2; rw [HSL.out] at this; exact this)) h4
        have K5 := hide (KB.out.drew.trans (h5.mono KB.out.drew.size))
        clear h5 HUR
        have ce : w5.cell? ⟨0, 0, none⟩ = some (E e 1) := (HE.out.below K5.out).cell 1 (by decide)
        go_wp2_with fail
        go_region_with (go_at_call 10; refine (num_1 _ e (HE.out.below K5.out.drew)).mono ?_; rintro x w' ⟨rfl, rfl⟩)
        all_goals
          go_wp2
          go_roundw
          case rel => exact ⟨k + 1, by omega, by go_num, K5.out.drew⟩
          case measure => simp [intOf]; omega
    · obtain rfl : k = 64 := by omega
      go_wp2
      go_ret
      exact ⟨rfl, KB.out⟩

end Go.Proofs.YtdldhpncajelmabDoor.radw
