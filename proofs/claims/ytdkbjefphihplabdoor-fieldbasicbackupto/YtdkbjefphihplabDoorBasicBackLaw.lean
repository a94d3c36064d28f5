import Derived.Test.YtdkbjefphihplabDoorBasicMath6
import Derived.Test.YtdkbjefphihplabDoorFlipName
import Derived.Test.YtdkbjefphihplabDoorPctTab
import Derived.Stop.LaidErr
namespace Go.Proofs.YtdkbjefphihplabDoor.fd
open Go.ChangeShapes Go.WideShapes Go.ChangeAt Go.RowKit Go.Proofs.YtdkbjefphihplabDoor.common Go.Proofs.YtdkbjefphihplabDoor.bk
attribute [local go_sem ↓] Go.wp_at_zero Go.wp_at_succ

theorem cellsShown : Tryd.prog.cellsOf 50 = 4 := by kernel_rfl
theorem basicB_cut (u p : ByteArray) : (basicB u p).extract 6 (basicB u p).size = stdB (pairB u p) := by
  apply ba_ext
  rw [Lib.extract_data]
  have hb := basicB_big u p
  unfold basicB at hb ⊢
  rw [ByteArray.data_append, Array.toList_append]
  rw [show (⟨#[66, 97, 115, 105, 99, 32]⟩ : ByteArray).data.toList = [66, 97, 115, 105, 99, 32] from rfl]
  rw [show List.drop 6 ([66, 97, 115, 105, 99, 32] ++ (stdB (pairB u p)).data.toList) = (stdB (pairB u p)).data.toList from rfl]
  exact List.take_of_length_le (by rw [len_list]; omega)

/-- a struct of four cells in a new block -/
theorem box4 (w : World) (x y z q : Value) (t : TypeId) : (∀ X, Below (w.alloc (.cells #[x, y, z, q] t)).heap.size (w.alloc (.cells #[x, y, z, q] t)) X → X.cell? ⟨w.heap.size, 0, none⟩ = some x ∧ X.cell? ⟨w.heap.size, 1, none⟩ = some y ∧ X.cell? ⟨w.heap.size, 2, none⟩ = some z ∧ X.cell? ⟨w.heap.size, 3, none⟩ = some q) ∧ Below w.heap.size w (w.alloc (.cells #[x, y, z, q] t)) := by
  have hlt : w.heap.size < (w.alloc (.cells #[x, y, z, q] t)).heap.size := by simp
  exact ⟨fun X hX => ⟨(hX.cell hlt).trans (range_new w #[x, y, z, q] t 0 x rfl), (hX.cell hlt).trans (range_new w #[x, y, z, q] t 1 y rfl), (hX.cell hlt).trans (range_new w #[x, y, z, q] t 2 z rfl), (hX.cell hlt).trans (range_new w #[x, y, z, q] t 3 q rfl)⟩, (Below.refl _ _).alloc (Nat.le_refl _) _⟩

/-- the four answers that the law asks for -/
theorem basic_is (s : ByteArray) (w : World) (hs : s.size ≤ reachBytes) (ea es : Addr) (he : Ev 1 w (X ea)) (hes : Ev 4 w (X es)) (ht : radw.StdTab w) (V : Value → Prop)
    (hV : ∀ ok : Bool, (ok = true ↔ radw.okStd ((s.data.toList.dropWhile Fd.tok).dropWhile isBl)) → V (basicV ok (X ea) (X es) s.data.toList)) :
    Calls Tryd.prog 23 #[.string s] w fun e w' => (∃ v, e = .returned v ∧ V v) ∧ Below w.heap.size w w' :=
  (basic_any s w hs ea es he hes ht).mono fun _ _ ⟨⟨ok, h1, h2⟩, hb⟩ => ⟨⟨_, h2, hV ok h1⟩, hb⟩

theorem txt_eql (w : World) (a : Addr) : (binOp .eql 23 (X a) (X a)).run Tryd.prog w = .ok (.bool true) w := by
  obtain ⟨info, hinfo, hcomp⟩ := Option.map_eq_some_iff.1 errw.compErr
  obtain ⟨jinfo, hj1, hj2⟩ := Option.map_eq_some_iff.1 errw.sizeErr
  exact run_eql_iface_ptr_same w a Tryd.underlying23 Tryd.underlying184 hinfo hcomp hj1

set_option maxRecDepth 100000 in
set_option maxHeartbeats 6400000 in
theorem lawBasicBack (u p : ByteArray) (mask bl : Int) (w : World) (hs : u.size + p.size ≤ 1048576) (ea es : Addr) (he : Ev 1 w (X ea)) (hes : Ev 4 w (X es)) (htp : pctw.Tab w) (ht : radw.StdTab w) :
    Calls Tryd.prog 7 #[.agg #[.string u, .string p, .int .i64 mask, .int .i64 bl]] w fun x w' => x = .returned (.bool true) ∧ Below w.heap.size w w' := by
  obtain ⟨x0, hbl0⟩ := box4 w (.string u) (.string p) (.int .i64 mask) (.int .i64 bl) 50
  have HX0 := hide x0
  have HBL := hide hbl0
  have hz1 := pairB_size u p
  have hz2 := stdB_size (pairB u p)
  have hz3 := basicB_big u p
  have hgt : 13 < w.heap.size := ht.lt (by decide)
  have HE : Hid (∀ W, Below w.heap.size w W → Ev 1 W (X ea)) := fun W hW => he.below hW
  have HES : Hid (∀ W, Below w.heap.size w W → Ev 4 W (X es)) := fun W hW => hes.below hW
  have HT : Hid (∀ W, Below w.heap.size w W → radw.StdTab W) := fun W hW => ht.below hW hgt
  have HOF : Hid (∀ W, Below w.heap.size w W → Calls Tryd.prog 17 #[.string u, .string p] W fun e w' => e = .returned (.string (basicB u p)) ∧ Below W.heap.size W w') := fun W hW => basicOf_any u p W (by omega) (htp.below hW (Nat.le_refl _)) (ht.below hW hgt)
  have HQ : Hid (∀ (t : List UInt8) (n : Nat) (W : World) (s : ByteArray), s.data.toList = t ++ (List.replicate n 32 ++ Rad.std (pairL u.data.toList p.data.toList)) → s.size ≤ reachBytes → Fd.lows t = Fd.lows nameL → 0 < n → Below w.heap.size w W → Calls Tryd.prog 23 #[.string s] W fun e w' => e = .returned (.tuple #[.string u, .string p, .nilIface]) ∧ Below W.heap.size W w') := by
    intro t n W s hsl hsz htn hn hW
    refine (basic_any s W hsz ea es (HE.out W hW) (HES.out W hW) (HT.out W hW)).mono ?_
    rintro e w' ⟨⟨ok, h1, h2⟩, hb⟩
    rw [hsl] at h1 h2
    rw [basic_good (X ea) (X es) t u.data.toList p.data.toList n htn hn ok h1] at h2
    exact ⟨h2, hb⟩
  have HN : Hid (∀ (W : World) (s : ByteArray), s.data.toList = nameL ++ Rad.std (pairL u.data.toList p.data.toList) → s.size ≤ reachBytes → Below w.heap.size w W → Calls Tryd.prog 23 #[.string s] W fun e w' => (∃ a, e = .returned (.tuple #[.string ⟨#[]⟩, .string ⟨#[]⟩, X a])) ∧ Below W.heap.size W w') := by
    intro W s hsl hsz hW
    refine (basic_any s W hsz ea es (HE.out W hW) (HES.out W hW) (HT.out W hW)).mono ?_
    rintro e w' ⟨⟨ok, h1, h2⟩, hb⟩
    rw [hsl] at h2
    rcases basic_none (X ea) (X es) (pairL u.data.toList p.data.toList) ok with h3 | h3
    · rw [h3] at h2; exact ⟨⟨ea, h2⟩, hb⟩
    · rw [h3] at h2; exact ⟨⟨es, h2⟩, hb⟩
  have HM : Hid (∀ (W : World) (s : ByteArray), s.data.toList = nameL ++ (List.replicate 1 32 ++ (Rad.std (pairL u.data.toList p.data.toList) ++ [32])) → s.size ≤ reachBytes → Below w.heap.size w W → Calls Tryd.prog 23 #[.string s] W fun e w' => e = .returned (.tuple #[.string ⟨#[]⟩, .string ⟨#[]⟩, X ea]) ∧ Below W.heap.size W w') := by
    intro W s hsl hsz hW
    refine (basic_any s W hsz ea es (HE.out W hW) (HES.out W hW) (HT.out W hW)).mono ?_
    rintro e w' ⟨⟨ok, h1, h2⟩, hb⟩
    rw [hsl] at h1 h2
    rw [basic_more (X ea) (X es) _ ok h1 (by unfold pairL; simp)] at h2
    exact ⟨h2, hb⟩
  have HBL2 := hide (basicB_list u p)
  have HCUT := hide (basicB_cut u p)
  have HST : Hid ((stdB (pairB u p)).data.toList = Rad.std (pairL u.data.toList p.data.toList)) := by show _ = _; unfold stdB; rw [str_list, pairB_list]
  clear he hes htp ht x0 hbl0
  generalize hBB : basicB u p = BB at *
  generalize hSS : stdB (pairB u p) = SS at *
  clear hBB hSS
  have y0 := (HX0.out _ (Below.refl _ _)).1
  have y1 := (HX0.out _ (Below.refl _ _)).2.1
  go_enter Tryd.func7, Tryd.ntmps7
  go_wp2_with fail
  generalize w.alloc (.cells #[.string u, .string p, .int .i64 mask, .int .i64 bl] 50) = W at *
  refine (HOF.out W HBL.out).mono ?_
  rintro x w1 ⟨rfl, hb1⟩
  have HB1 := hide (keepD HBL.out hb1)
  have HW1 := hide hb1
  clear hb1 y0 y1
  go_wp2_with fail
  refine (HQ.out nameL 1 w1 BB HBL2.out (by unfold reachBytes; omega) rfl (by decide) HB1.out).mono ?_
  rintro x w2 ⟨rfl, hb2⟩
  have HB2 := hide (keepD HB1.out hb2)
  have HW2 := hide (keepD HW1.out hb2)
  clear hb2
  obtain ⟨y0, y1, y2, y3⟩ := HX0.out _ HW2.out
  have hb6 : ¬ (BB.size : Int) < 6 := by omega
  go_wp2_with fail
  refine (lnm.flipped_any ⟨#[66, 97, 115, 105, 99]⟩ mask w2 (by decide)).mono ?_
  rintro x w3 ⟨t, rfl, htl, hb3⟩
  have HTL : Hid (Fd.lows t.data.toList = Fd.lows nameL) := htl
  have HB3 := hide (keepD HB2.out hb3)
  have HW3 := hide (keepD HW2.out hb3)
  clear hb3 htl y0 y1 y2 y3
  obtain ⟨y0, y1, y2, y3⟩ := HX0.out _ HW3.out
  go_wp2_with fail
  have hZ : -9 < bl.tmod 9 ∧ bl.tmod 9 < 9 := ⟨Int.lt_tmod_of_pos bl (by decide), Int.tmod_lt_of_pos bl (by decide)⟩
  generalize bl.tmod 9 = Z at *
  have HZ := hide hZ
  obtain ⟨hZ1, hZ2⟩ := hZ
  have hts : t.size = 5 := by
    have := congrArg List.length HTL.out
    unfold Fd.lows at this
    rw [List.length_map, List.length_map, len_list] at this
    exact this
  go_loopw [7, 9] (fun f i wr => ∃ (k : Nat), k ≤ 9 ∧ i = .int .i64 (k : Int) ∧ f = .string ⟨(t.data.toList ++ List.replicate k 32).toArray⟩ ∧ ((k : Int) ≤ Z + 1 ∨ k = 0) ∧ wr = w3) (fun _ i _ => 20 - (intOf i).toNat)
  case atStart => exact ⟨0, by decide, rfl, by simp, Or.inr rfl, rfl⟩
  case round =>
    obtain ⟨k, hk, rfl, rfl, hkz, rfl⟩ := hrel
    by_cases hlt : (k : Int) ≤ Z
    · have hsz : (⟨(t.data.toList ++ List.replicate k 32).toArray⟩ : ByteArray).size ≤ 14 := by rw [str_size, List.length_append, len_list, List.length_replicate]; omega
      have HAP : Hid ((⟨(t.data.toList ++ List.replicate k 32).toArray⟩ : ByteArray) ++ ⟨#[32]⟩ = ⟨(t.data.toList ++ List.replicate (k + 1) 32).toArray⟩) := by
        show _ = _
        apply ba_ext
        simp [List.replicate_succ']
      generalize (⟨(t.data.toList ++ List.replicate k 32).toArray⟩ : ByteArray) = FR at *
      go_wp2_with fail
      go_roundw
      case rel => exact ⟨k + 1, by omega, by go_num, by rw [HAP.out], Or.inl (by omega), by trivial⟩
      case measure => simp [intOf]; omega
    · -- the blanks are there
      obtain ⟨m, hm0, hm, hmf⟩ : ∃ m : Nat, 0 < m ∧ m ≤ 9 ∧ ((Z < 0 ∧ k = 0 ∧ m = 1) ∨ (¬ Z < 0 ∧ m = k)) := by
        by_cases hz : Z < 0
        · exact ⟨1, by decide, by decide, Or.inl ⟨hz, by omega, rfl⟩⟩
        · exact ⟨k, by omega, hk, Or.inr ⟨hz, rfl⟩⟩
      have hss : SS.size ≤ 6291464 := by omega
      obtain ⟨FR, hFR⟩ : ∃ FR : ByteArray, FR = ⟨(t.data.toList ++ List.replicate m 32).toArray⟩ := ⟨_, rfl⟩
      have hfs : FR.size ≤ 14 := by rw [hFR, str_size, List.length_append, len_list, List.length_replicate]; omega
      have HF1 : Hid ((FR ++ SS).data.toList = t.data.toList ++ (List.replicate m 32 ++ Rad.std (pairL u.data.toList p.data.toList))) := by
        show _ = _
        rw [hFR, ByteArray.data_append, Array.toList_append, HST.out]
        simp
      have HF2 : Hid (((⟨#[66, 97, 115, 105, 99]⟩ : ByteArray) ++ SS).data.toList = nameL ++ Rad.std (pairL u.data.toList p.data.toList)) := by
        show _ = _
        rw [ByteArray.data_append, Array.toList_append, HST.out]
        rfl
      have HF3 : Hid ((BB ++ (⟨#[32]⟩ : ByteArray)).data.toList = nameL ++ (List.replicate 1 32 ++ (Rad.std (pairL u.data.toList p.data.toList) ++ [32]))) := by
        show _ = _
        rw [ByteArray.data_append, Array.toList_append, HBL2.out]
        simp
      have h6 : (6 : Int) ≤ (BB.size : Int) := by omega
      have HFS : Hid ((FR ++ SS).size ≤ reachBytes) := by
        show _ ≤ _
        rw [ByteArray.size_append]; unfold reachBytes; omega
      have HNS : Hid (((⟨#[66, 97, 115, 105, 99]⟩ : ByteArray) ++ SS).size ≤ reachBytes) := by
        show _ ≤ _
        rw [ByteArray.size_append]; show 5 + _ ≤ _; unfold reachBytes; omega
      have HBS : Hid ((BB ++ (⟨#[32]⟩ : ByteArray)).size ≤ reachBytes) := by
        show _ ≤ _
        rw [ByteArray.size_append]; show _ + 1 ≤ _; unfold reachBytes; omega
      have HC2 : Hid (BB.extract 6 (6 + SS.size) = SS) := by show _ = _; rw [← hz3.2]; exact HCUT.out
      rcases hmf with ⟨hz, rfl, rfl⟩ | ⟨hz, rfl⟩
      · have HFE : Hid ((⟨(t.data.toList ++ List.replicate 0 32).toArray⟩ : ByteArray) ++ ⟨#[32]⟩ = FR) := by
          show _ = _
          rw [hFR]
          apply ba_ext
          simp
        have hsz : (⟨(t.data.toList ++ List.replicate 0 32).toArray⟩ : ByteArray).size ≤ 14 := by rw [str_size, List.length_append, len_list, List.length_replicate]; omega
        clear hFR
        generalize (⟨(t.data.toList ++ List.replicate 0 32).toArray⟩ : ByteArray) = FR0 at *
        go_wp2_with fail
        rw [HFE.out, HC2.out]
        refine (HQ.out t.data.toList 1 _ (FR ++ SS) HF1.out HFS.out HTL.out (by decide) HB3.out).mono ?_
        rintro x w4 ⟨rfl, hb4⟩
        have HB4 := hide (keepD HB3.out hb4)
        have HW4 := hide (keepD HW3.out hb4)
        clear hb4 y0 y1 y2 y3
        obtain ⟨y0, y1, y2, y3⟩ := HX0.out _ HW4.out
        go_wp2_with fail
        rw [HC2.out]
        refine (HN.out w4 _ HF2.out HNS.out HB4.out).mono ?_
        rintro x w5 ⟨⟨a, rfl⟩, hb5⟩
        have HB5 := hide (keepD HB4.out hb5)
        clear hb5
        go_wp2_with fail
        refine (HM.out w5 _ HF3.out HBS.out HB5.out).mono ?_
        rintro x w6 ⟨rfl, hb6⟩
        have HB6 := hide (keepD HB5.out hb6)
        have hx : w6.cell? ⟨1, 0, none⟩ = some (X ea) := HE.out w6 HB6.out
        have hq := txt_eql w6 ea
        clear hb6
        go_wp2_with fail
        go_ret
        exact ⟨by simp, HB6.out⟩
      · rw [← hFR]
        clear hFR
        go_wp2_with fail
        rw [HC2.out]
        refine (HQ.out t.data.toList m _ (FR ++ SS) HF1.out HFS.out HTL.out hm0 HB3.out).mono ?_
        rintro x w4 ⟨rfl, hb4⟩
        have HB4 := hide (keepD HB3.out hb4)
        have HW4 := hide (keepD HW3.out hb4)
        clear hb4 y0 y1 y2 y3
        obtain ⟨y0, y1, y2, y3⟩ := HX0.out _ HW4.out
        go_wp2_with fail
        rw [HC2.out]
        refine (HN.out w4 _ HF2.out HNS.out HB4.out).mono ?_
        rintro x w5 ⟨⟨a, rfl⟩, hb5⟩
        have HB5 := hide (keepD HB4.out hb5)
        clear hb5
        go_wp2_with fail
        refine (HM.out w5 _ HF3.out HBS.out HB5.out).mono ?_
        rintro x w6 ⟨rfl, hb6⟩
        have HB6 := hide (keepD HB5.out hb6)
        have hx : w6.cell? ⟨1, 0, none⟩ = some (X ea) := HE.out w6 HB6.out
        have hq := txt_eql w6 ea
        clear hb6
        go_wp2_with fail
        go_ret
        exact ⟨by simp, HB6.out⟩

end Go.Proofs.YtdkbjefphihplabDoor.fd
