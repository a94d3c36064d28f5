import Derived.Test.YtimbhneegphhbaaGreatDoorRcUnD
import Derived.Test.YtimbhneegphhbaaGreatDoorRefMeant
namespace Go.Proofs.YtimbhneegphhbaaGreatDoor.rc
open Go.ChangeShapes Go.WideShapes Go.ChangeAt Go.RowKit Go.Proofs.YtimbhneegphhbaaGreatDoor.common Go.Proofs.YtimbhneegphhbaaGreatDoor.dk
attribute [local go_sem ↓] Go.wp_at_zero Go.wp_at_succ

/-- '[]byte(s)' -/
theorem bytes_conv (w : World) (s : ByteArray) : ∃ cap X, (convert 9 27 (.string s)).run Tryz.prog w = .ok (.slice (some ⟨w.heap.size, 0, none⟩) s.size cap) X ∧ Below w.heap.size w X ∧ Lo X.heap.size X (.slice (some ⟨w.heap.size, 0, none⟩) s.size cap) s.data.toList := by
  refine ⟨_, _, run_bytes_of_string w 9 27 5 s Tryz.underlying9 Tryz.underlying27 Tryz.underlying5, ?_, ?_⟩
  · exact ((Below.refl _ _).drew).alloc (Nat.le_refl _) _
  · have hl : s.data.toList.length = s.size := by simp
    have hsz : (w.drew.alloc (.cells (bytesRow s (grownCap w s.size 0 5)) 5 ((bytesRow s (grownCap w s.size 0 5)).size, (bytesRow s (grownCap w s.size 0 5)).size + 1))).heap.size = w.heap.size + 1 := by rw [World.size_alloc]; rfl
    refine ⟨_, _, by rw [hl], by rw [hl]; exact grownCap_ge .., fun _ => ⟨w.heap.size, 0, rfl, by rw [hsz]; omega, by rw [hsz]; omega, fun j u hu => ?_⟩⟩
    have hn := heap_alloc_new w.drew (.cells (bytesRow s (grownCap w s.size 0 5)) 5 ((bytesRow s (grownCap w s.size 0 5)).size, (bytesRow s (grownCap w s.size 0 5)).size + 1))
    have hn' : (w.drew.alloc (.cells (bytesRow s (grownCap w s.size 0 5)) 5 ((bytesRow s (grownCap w s.size 0 5)).size, (bytesRow s (grownCap w s.size 0 5)).size + 1))).heap[w.heap.size]? = some (.cells (bytesRow s (grownCap w s.size 0 5)) 5 ((bytesRow s (grownCap w s.size 0 5)).size, (bytesRow s (grownCap w s.size 0 5)).size + 1)) := hn
    rw [Nat.zero_add]
    have hj : j < s.data.size := by
      have := (List.getElem?_eq_some_iff.1 hu).1
      simpa using this
    simp only [World.cell?, hn']
    rw [bytesRow_at s _ j hj, ← hu]
    simp
    rw [Array.getElem?_eq_getElem hj]
    rfl

set_option maxRecDepth 100000 in
set_option maxHeartbeats 12800000 in
theorem refUnpack_any (l : List UInt8) (v : Value) (w : World) (hv : Lo w.heap.size w v l) (hl : l.length ≤ 1048576) (ht : HTab w) :
    Calls Tryz.prog 18 #[v] w (UnOut l (.int .i64 0) (.int .i64 2) w) := by
  obtain ⟨i0, hi, hz0, hz1, hz2⟩ := info_parts infoRc
  obtain ⟨ov, cv, hvv⟩ : ∃ ov cv, v = .slice ov l.length cv := by obtain ⟨a, b, h, _⟩ := hv; exact ⟨a, b, h⟩
  obtain ⟨W, hW⟩ : ∃ W, W = w.alloc (.cells #[v, .int .i64 0, .bool false] 63) := ⟨_, rfl⟩
  have hbW : Below w.heap.size w W := by rw [hW]; exact (Below.refl _ _).alloc (Nat.le_refl _) _
  have h1 : W.heap[w.heap.size]? = some (.cells #[v, .int .i64 0, .bool false] 63 (0, 0)) := by rw [hW]; exact heap_alloc_new w _
  have hpl : Pl w.heap.size w.heap.size v l W 0 false := ⟨h1, hv.keep (fun g hg _ => hbW.block g hg) hbW.size, Nat.zero_le _, hl⟩
  have HFB : Hid (∀ X Y, Below w.heap.size w X → Fr [w.heap.size] X Y → Below w.heap.size w Y) := fun X Y hX hY => hX.trans (hY.below (fun k hk => by rw [List.mem_singleton.1 hk]; exact Nat.le_refl _) hX.size)
  have HDN := hide (dnumber_any w.heap.size w.heap.size v l 0 false W hpl (Nat.le_refl _))
  have HT := hide ht
  have HV := hide hv
  have HBW := hide hbW
  have HW := hide hW
  subst hvv
  clear hv ht h1 hW hpl hbW
  go_enter Tryz.func18, Tryz.ntmps18
  go_wp2_with fail
  rw [← HW.out]
  refine HDN.out.mono ?_
  rintro x w1 ⟨n, a1, b1, rfl, hpl, hfr, hn56, hon⟩
  have c2 : w1.cell? ⟨w.heap.size, 2, none⟩ = some (.bool b1) := cell_of hpl.1 2
  have hon : On numL (fun y => y < 72057594037927936) (some l) n (stP l a1 b1) := hon
  have HON := hide hon
  have HPL := hide hpl
  have HB1 := hide (HFB.out W w1 HBW.out hfr)
  have hs1 : w.heap.size + 1 ≤ w1.heap.size := (Array.getElem?_eq_some_iff.1 hpl.1).1
  clear hpl hfr hon HDN
  by_cases hbad : b1 = true ∨ 4 < n
  · have HUN : Hid (UnR l none) := un_lostN HON.out (by
      rcases hbad with h | h
      · exact Or.inl (by rw [h]; rfl)
      · exact Or.inr h)
    have hb2 : b1 = true ∨ (b1 = false ∧ 4 < n) := by
      cases b1 with
      | true => exact Or.inl rfl
      | false => exact Or.inr ⟨rfl, by rcases hbad with h | h; · cases h
                                       · exact h⟩
    clear hbad
    rcases hb2 with rfl | ⟨rfl, h4⟩
    · go_wp2_with fail
      go_ret2
      unfold UnOut
      exact ⟨none, .slice none 0 0, rfl, liesR_nil _, HB1.out, HUN.out⟩
    · have k2 : (4 : Int) < (n : Int) := by omega
      have k2b : decide ((4 : Int) < (n : Int)) = true := decide_eq_true k2
      go_wp2_with fail
      go_ret2
      unfold UnOut
      exact ⟨none, .slice none 0 0, rfl, liesR_nil _, HB1.out, HUN.out⟩
  have hb0 : b1 = false := by cases b1 with
    | true => exact absurd (Or.inl rfl) hbad
    | false => rfl
  have hn4 : n ≤ 4 := by omega
  subst hb0
  clear hbad
  have k2 : ¬ (4 : Int) < (n : Int) := by omega
  have k2b : decide ((4 : Int) < (n : Int)) = false := decide_eq_false k2
  go_wp2_with fail
  go_loopw [6, 7] (fun vo i wr => ∃ (xs : List Rec) (vs : List Value) (a : Nat), xs.length ≤ n ∧ i = .int .i64 (xs.length : Int) ∧ OwnR (w.heap.size + 1) wr vo xs vs ∧ Pl w.heap.size w.heap.size (.slice ov l.length cv) l wr a false ∧ Below w.heap.size w wr ∧ GoodL xs ∧ UOn xs.length (stP l a1 false) xs (stP l a false)) (fun _ i _ => n - (intOf i).toNat)
  case atStart => exact ⟨[], [], a1, Nat.zero_le _, rfl, OwnR.nil _ _, HPL.out, HB1.out, (fun r hr => by cases hr), uon_zero _⟩
  case round =>
    obtain ⟨xs, vs, a, hxn, rfl, hown, hpl, hbl, hgood, huon⟩ := hrel
    obtain ⟨oo, co, rfl⟩ := own_slice hown.row
    have HOW := hide hown
    have HPR := hide hpl
    have HBL := hide hbl
    have HG := hide hgood
    have HUO := hide huon
    have hsz := hbl.size
    have hszp : w.heap.size + 1 ≤ wr.heap.size := (Array.getElem?_eq_some_iff.1 hpl.1).1
    clear hown hpl hbl hgood huon
    obtain ⟨L, hL⟩ : ∃ L, L = xs.length := ⟨_, rfl⟩
    rw [← hL] at hxn HOW ⊢
    have HLL := hide hL
    clear hL
    by_cases hlt : L < n
    · have j1 : (L : Int) < (n : Int) := by omega
      have HTX := hide (dtext_any w.heap.size w.heap.size _ l a false wr HPR.out (Nat.le_refl _))
      go_wp2_with fail
      refine HTX.out.mono ?_
      rintro x y1 ⟨tx, a2, b2, rfl, hpl2, hfr2, hty, hon2⟩
      obtain ⟨cap, X, hrun, bX, hlo⟩ := bytes_conv y1 tx
      have HB2 := hide (HFB.out wr y1 HBL.out hfr2)
      have htl : tx.data.toList.length ≤ 1048576 := by
        have h9 : tx.data.toList.length = tx.size := by simp
        omega
      have HBX := hide bX
      have HDE := hide (refDecode_any tx.data.toList _ X hlo htl (HT.out.below (keepW HB2.out bX)))
      unfold DecOut at HDE
      have HP2 := hide (hpl2.low bX (Nat.lt_of_lt_of_le hszp hfr2.size) (Nat.le_refl _))
      have HO2 := hide ((HOW.out.fr hfr2 (by omega)).below bX)
      have HN2 := hide hon2
      have hszX : y1.heap.size ≤ X.heap.size := bX.size
      have hszy : wr.heap.size ≤ y1.heap.size := hfr2.size
      clear hpl2 hfr2 hty hon2 bX hlo HTX htl
      go_wp2_with fail
      refine HDE.out.mono ?_
      rintro x y2 ⟨o, v1, rfl, own1, b3, hd⟩
      obtain ⟨oo1, cc1, rfl⟩ := own_slice own1
      have HPX := hide (HP2.out.low b3 (Nat.lt_of_lt_of_le (Nat.lt_of_lt_of_le hszp hszy) hszX) (Nat.le_refl _))
      have HBY := hide (keepW (keepW HB2.out HBX.out) b3)
      have hszZ : X.heap.size ≤ y2.heap.size := b3.size
      have hw2 : w.heap.size < y2.heap.size := by omega
      cases o with
      | none =>
        have HBZ : Hid (Below w.heap.size w (y2.alloc (.cells (rcs zR (.slice oo1 zR.ss.length cc1)) 26))) := keepW HBY.out ((Below.refl _ _).alloc (Nat.le_refl _) _)
        have HUN := hide (uon_none (n := n) (dnum_on HON.out) HUO.out (by rw [← HLL.out]; exact hlt) (fun y t p q => (d_on HN2.out hl y t p q).1) hd)
        have c3 : (y2.alloc (.cells (rcs zR (.slice oo1 zR.ss.length cc1)) 26)).cell? ⟨w.heap.size, 2, none⟩ = some (.bool b2) := cell_of (HPX.out.low ((Below.refl y2.heap.size y2).alloc (Nat.le_refl _) _) hw2 (Nat.le_refl _)).1 2
        clear own1 b3 hd HDE
        cases b2 with
        | true =>
          go_wp2_with fail
          go_ret2
          unfold UnOut
          exact ⟨none, .slice none 0 0, rfl, liesR_nil _, HBZ.out, HUN.out⟩
        | false =>
          go_wp2_with fail
          go_ret2
          unfold UnOut
          exact ⟨none, .slice none 0 0, rfl, liesR_nil _, HBZ.out, HUN.out⟩
      | some r =>
        have bA : Below y2.heap.size y2 (y2.alloc (.cells (rcs r (.slice oo1 r.ss.length cc1)) 26)) := (Below.refl _ _).alloc (Nat.le_refl _) _
        have HPA := hide (HPX.out.low bA hw2 (Nat.le_refl _))
        have HBA := hide (keepW HBY.out bA)
        have c3 : (y2.alloc (.cells (rcs r (.slice oo1 r.ss.length cc1)) 26)).cell? ⟨w.heap.size, 2, none⟩ = some (.bool b2) := cell_of HPA.out.1 2
        cases b2 with
        | true =>
          have HUN : Hid (UnR l none) := un_lostT (n := n) (dnum_on HON.out) HUO.out (by rw [← HLL.out]; exact hlt) (d_on HN2.out hl)
          clear own1 b3 hd HDE bA
          go_wp2_with fail
          go_ret2
          unfold UnOut
          exact ⟨none, .slice none 0 0, rfl, liesR_nil _, HBA.out, HUN.out⟩
        | false =>
          have HUX := hide (uon_next HUO.out (d_on HN2.out hl) hd)
          have hgr : mayB r = true ∧ r.Low ∧ r.ss.length ≤ 16 := by
            obtain ⟨p1, p2, p3, _⟩ := hd.is r rfl
            exact ⟨p1, p2, p3⟩
          have HGR := hide hgr
          have bB : Below (y2.alloc (.cells (rcs r (.slice oo1 r.ss.length cc1)) 26)).heap.size (y2.alloc (.cells (rcs r (.slice oo1 r.ss.length cc1)) 26)) ((y2.alloc (.cells (rcs r (.slice oo1 r.ss.length cc1)) 26)).alloc (.cells (rcs r (.slice oo1 r.ss.length cc1)) 26)) := (Below.refl _ _).alloc (Nat.le_refl _) _
          have HRX : Hid ((y2.alloc (.cells (rcs r (.slice oo1 r.ss.length cc1)) 26)).rangeAt y2.heap.size 0 (rcl9 r (.slice oo1 r.ss.length cc1))) := range_of (t := 26) (heap_alloc_new y2 _)
          have HO4 := hide (((HO2.out.below b3).below bA).below bB)
          have HU4 := hide (own_least (base' := w.heap.size + 1) (own_below (own_below own1 bA) bB) (by omega))
          have HB4 := hide (keepW HBA.out bB)
          have HP4 := hide (HPA.out.low bB (by simp; omega) (Nat.le_refl _))
          have HC9 := hide (cells9 (y2.alloc (.cells (rcs r (.slice oo1 r.ss.length cc1)) 26)) r (.slice oo1 r.ss.length cc1) 26)
          have HROW := hide HO4.out.row
          rw [← HLL.out] at HROW
          clear own1 b3 hd HDE bA bB hgr
          go_wp2_with (first
            | (refine wpList_load_mid rfl 26 (.tmp 9) rfl y2.heap.size 0 rfl _ _ HRX.out Tryz.underlying26 rfl sizeRec ?_)
            | (at_builtin; refine wpList_append_own _ rfl _ _ 22 rfl (w.heap.size + 1) 26 i0 (.agg zrec) 9 136 Tryz.underlying22 hi hz0 hz1 hz2 rfl (by decide) _ L _ rfl HROW.out ⟨(y2.alloc (.cells (rcs r (.slice oo1 r.ss.length cc1)) 26)).heap.size, 0, none⟩ 1 1 (rcl9 r (.slice oo1 r.ss.length cc1)) ?c0 rfl HC9.out (rcl_one _ _ _ _) ?c3 ?c4 ?c5 ?_))
          case c0 => first | rfl | (rw [World.size_alloc]; rfl)
          case c3 => unfold maxLen; omega
          case c4 => omega
          case c5 => first | omega | (simp; omega)
          intro v' w5 hown' hgrow _
          have HBG : Hid (Below (w.heap.size + 1) ((y2.alloc (.cells (rcs r (.slice oo1 r.ss.length cc1)) 26)).alloc (.cells (rcs r (.slice oo1 r.ss.length cc1)) 26)) w5) := (Below.refl _ _).grown hgrow (by simp; omega) (fun k hk => (HROW.out.lt k hk).1)
          have HNX : Hid (∃ (xs' : List Rec) (vs' : List Value), xs'.length = L + 1 ∧ OwnR (w.heap.size + 1) w5 v' xs' vs' ∧ GoodL xs' ∧ UOn xs'.length (stP l a1 false) xs' (stP l a2 false)) := by
            have hl2 : (xs ++ [r]).length = L + 1 := by rw [List.length_append, HLL.out]; rfl
            refine ⟨xs ++ [r], vs ++ [.slice oo1 r.ss.length cc1], hl2, HO4.out.snoc r _ HU4.out (by rw [← HLL.out]; exact hown') hgrow, fun q hq => ?_, ?_⟩
            · rcases List.mem_append.1 hq with h | h
              · exact HG.out q h
              · rw [List.mem_singleton.1 h]; exact HGR.out
            · rw [hl2, HLL.out]; exact HUX.out
          have HP5 := hide (HP4.out.low HBG.out (Nat.lt_succ_self _) (Nat.le_refl _))
          have HB5 : Hid (Below w.heap.size w w5) := HB4.out.trans (HBG.out.mono (Nat.le_succ _))
          clear hown' hgrow HROW HC9 HO4 HU4
          go_wp2_with fail
          obtain ⟨xs', vs', hl3, e1, e2, e3⟩ := HNX.out
          go_roundw
          case rel => exact ⟨xs', vs', a2, by omega, by rw [hl3]; go_num, e1, HP5.out, HB5.out, e2, e3⟩
          case measure => simp [intOf]; omega
    · have j1 : ¬ (L : Int) < (n : Int) := by omega
      have hLn : L = n := by omega
      have HUN : Hid (UOn n (stP l a1 false) xs (stP l a false)) := by rw [← hLn, HLL.out]; exact HUO.out
      have HLI : Hid (∀ Y, Below wr.heap.size wr Y → LiesR Y (.slice oo L co) xs) := fun Y hY => by
        have := (HOW.out.below hY).lies L (by rw [HLL.out]; exact Nat.le_refl _)
        rwa [List.take_of_length_le (by rw [HLL.out]; exact Nat.le_refl _)] at this
      have HPK := hide (refPack_any xs (.slice oo L co) wr (HLI.out wr (Below.refl _ _)) (good_small HG.out) (HT.out.below HBL.out))
      unfold PackOut at HPK
      dsimp only at HPK
      obtain ⟨A, hA⟩ : ∃ A, A = pkL xs := ⟨_, rfl⟩
      obtain ⟨N, hN⟩ : ∃ N, N = pkE xs := ⟨_, rfl⟩
      have hAl : A.length ≤ 200000000 := by
        rw [hA]
        by_cases he0 : pkE xs = 0
        · rw [(pk_zero he0).2.2, List.length_append]
          have q1 := flat_one xs (fun r hr => ⟨(HG.out r hr).2.1, (HG.out r hr).2.2⟩)
          have q2 : (numL xs.length).length ≤ 10 := (numF_len 9 _).2
          have q3 := Nat.mul_le_mul_right 30000010 (pk_zero he0).2.1
          omega
        · unfold pkE at he0
          unfold pkL
          by_cases h4 : 4 < xs.length
          · rw [if_pos h4]; simp
          rw [if_neg h4] at he0 ⊢
          by_cases h0 : xs.length = 0
          · rw [if_pos h0]; simp
          rw [if_neg h0] at he0 ⊢
          cases hok : pkOk xs with
          | false => simp
          | true => rw [hok] at he0; exact absurd rfl he0
      rw [← hA, ← hN] at HPK
      have HA := hide hA
      have HNN := hide hN
      clear hA hN hLn
      go_wp2_with fail
      refine HPK.out.mono ?_
      rintro x y1 ⟨vq, rfl, ownq, c1⟩
      obtain ⟨oq, cq, rfl⟩ := own_slice ownq
      have HSB := hide (sameBytes_dec y1 (.slice ov l.length cv) _ l A (HV.out.rd.below (keepW HBL.out c1)) (rd_own ownq) (by omega) (by omega))
      obtain ⟨D, hD⟩ : ∃ D, D = decide (l = A) := ⟨_, rfl⟩
      rw [← hD] at HSB
      have HD := hide hD
      have HC1 := hide c1
      clear ownq c1 hD HPK
      go_wp2_with fail
      refine HSB.out.mono ?_
      rintro x y2 ⟨rfl, c2'⟩
      have HC2 := hide (keepW HC1.out c2')
      have HBE := hide (keepW HBL.out HC2.out)
      have HLE := hide (HLI.out y2 HC2.out)
      clear c2' HSB
      by_cases hyes : N = 0 ∧ D = true
      · obtain ⟨rfl, rfl⟩ := hyes
        have HUY : Hid (UnR l (some xs)) := un_dyes HON.out HUN.out HG.out HNN.out.symm (by rw [← HA.out]; exact of_decide_eq_true HD.out.symm)
        go_wp2_with fail
        go_ret2
        unfold UnOut
        exact ⟨some xs, _, rfl, HLE.out, HBE.out, HUY.out⟩
      · have HUNO : Hid (UnR l none) := un_dno HON.out HUN.out (fun h => hyes ⟨by rw [HNN.out]; exact h.1, by rw [HD.out, HA.out]; exact decide_eq_true h.2⟩)
        have hcs : ¬ N = 0 ∨ (N = 0 ∧ D = false) := by
          by_cases h0 : N = 0
          · exact Or.inr ⟨h0, by cases D with
              | false => rfl
              | true => exact absurd ⟨h0, rfl⟩ hyes⟩
          · exact Or.inl h0
        clear hyes
        rcases hcs with h0 | ⟨rfl, rfl⟩
        · have z0 : ¬ (N : Int) = 0 := by omega
          have z0b : ((N : Int) == 0) = false := beq_false_of_ne z0
          go_wp2_with fail
          go_ret2
          unfold UnOut
          exact ⟨none, .slice none 0 0, rfl, liesR_nil _, HBE.out, HUNO.out⟩
        · go_wp2_with fail
          go_ret2
          unfold UnOut
          exact ⟨none, .slice none 0 0, rfl, liesR_nil _, HBE.out, HUNO.out⟩
end Go.Proofs.YtimbhneegphhbaaGreatDoor.rc

namespace Go.Proofs.YtimbhneegphhbaaGreatDoor.rc
open Go.ChangeShapes Go.WideShapes Go.ChangeAt Go.RowKit Go.Proofs.YtimbhneegphhbaaGreatDoor.common Go.Proofs.YtimbhneegphhbaaGreatDoor.dk
attribute [local go_sem ↓] Go.wp_at_zero Go.wp_at_succ

abbrev m77 : List UInt8 := [77, 77, 77, 77]
abbrev c77b : Array Value := #[.int .u8 77, .int .u8 77, .int .u8 77, .int .u8 77]
theorem rd_m77 (w : World) : Rd (w.alloc (.cells c77b 5)) (.slice (some ⟨w.heap.size, 0, none⟩) 4 4) m77 := by
  refine ⟨_, 4, rfl, fun _ => ⟨w.heap.size, 0, rfl, by simp, range_of (t := 5) (heap_alloc_new w _)⟩⟩
set_option maxRecDepth 100000 in
set_option maxHeartbeats 3200000 in
theorem lentBytes_any (l : List UInt8) (v : Value) (w : World) (hv : Rd w v l) (hl : l.length ≤ 1048576) :
    Calls Tryz.prog 12 #[v] w fun e w' => ∃ v', e = .returned v' ∧ w'.ownsRow w.heap.size 5 1 v' (l ++ m77).length ((l ++ m77).map B) ∧ Below w.heap.size w w' := by
  obtain ⟨ov, cv, rfl⟩ := Rd.len hv
  obtain ⟨v1, w1, hrun1, own1, fr1, at1⟩ := dr.append_rd w w.heap.size (.slice none 0 0) [] (World.ownsRow_nil _ _ _ _) ov cv l hv (by simp; omega) (Nat.le_refl _)
  have B1 : Below w.heap.size w w1 := fr1.below (fun k hk => by simp [Value.ownBlock] at hk) (Nat.le_refl _)
  obtain ⟨o1, c1, hv1⟩ := own_slice own1
  have own1' := own1.alloc (.cells c77b 5)
  have hb2 : Below w1.heap.size w1 (w1.alloc (.cells c77b 5)) := (Below.refl _ _).alloc (Nat.le_refl _) _
  obtain ⟨v2, w2, hrun2, own2, fr2, at2⟩ := dr.append_rd (w1.alloc (.cells c77b 5)) w.heap.size v1 _ own1' (some ⟨w1.heap.size, 0, none⟩) 4 m77 (rd_m77 w1) (by simp; omega) (keepW B1 hb2).size
  have B2 : Below w.heap.size w w2 := (keepW B1 hb2).trans (fr2.below (fun k hk => by have := own1'.lt k (by simpa using hk); omega) (keepW B1 hb2).size)
  have HO2 := hide own2
  have HB2 := hide B2
  subst hv1
  clear own1 own1' fr1 at1 fr2 at2 own2 B1 B2 hb2 hv
  go_enter Tryz.func12, Tryz.ntmps12
  go_wp2_with (at_builtin; first
    | (refine wpList_appendX rfl _ _ 27 27 rfl _ _ rfl rfl _ _ hrun1 ?_)
    | (refine wpList_appendX rfl _ _ 27 27 rfl _ _ rfl rfl _ _ hrun2 ?_))
  go_ret
  exact ⟨_, rfl, by simpa using HO2.out, HB2.out⟩

theorem row_bytes {w : World} {base : Nat} {v : Value} {l : List UInt8} (h : w.ownsRow base 5 1 v l.length (l.map B)) (h0 : 0 < l.length) : ∃ g cap, v = .slice (some ⟨g, 0, none⟩) l.length cap ∧ base ≤ g ∧ g < w.heap.size ∧ l.length ≤ cap ∧ w.rangeAt g 0 (l.map B) := by
  rcases h.2 with ⟨_, h1⟩ | ⟨g, cap, cur, rfl, hg, hh, hn, _, hsz, htk⟩
  · omega
  · refine ⟨g, cap, rfl, hg, (Array.getElem?_eq_some_iff.1 hh).1, hn, fun j u hu => ?_⟩
    rw [← htk, List.getElem?_take] at hu
    split at hu
    · rw [Nat.zero_add]
      simp only [World.cell?, hh]
      simpa using hu
    · cases hu
theorem rd_part {w : World} {g k n cap : Nat} {l : List UInt8} (h : w.rangeAt g 0 (l.map B)) (hg : g < w.heap.size) (hk : k + n ≤ l.length) : Rd w (.slice (some ⟨g, k, none⟩) n cap) ((l.drop k).take n) := by
  have hl : ((l.drop k).take n).length = n := by rw [List.length_take, List.length_drop]; omega
  refine ⟨_, cap, by rw [hl], fun _ => ⟨g, k, rfl, hg, fun j u hu => ?_⟩⟩
  rw [List.map_take, List.map_drop, List.getElem?_take] at hu
  split at hu
  · rw [List.getElem?_drop] at hu
    have := h (k + j) u hu
    rwa [Nat.zero_add] at this
  · cases hu
set_option maxRecDepth 100000 in
set_option maxHeartbeats 3200000 in
theorem whole_any (l : List UInt8) (g cap base : Nat) (vp : Value) (w : World) (ha : w.ownsRow base 5 1 (.slice (some ⟨g, 0, none⟩) (l.length + 4) cap) (l ++ m77).length ((l ++ m77).map B)) (hp : Rd w vp l) (hl : l.length ≤ 1048576) :
    Calls Tryz.prog 16 #[.slice (some ⟨g, 0, none⟩) (l.length + 4) cap, vp] w fun e w' => e = .returned (.bool true) ∧ Below w.heap.size w w' := by
  obtain ⟨op, cp, rfl⟩ := Rd.len hp
  obtain ⟨g', cap', hq, _, hg, hc, hr⟩ := row_bytes ha (by simp)
  have hlen : (l ++ m77).length = l.length + 4 := by simp
  rw [hlen] at hq hc
  cases hq
  have h1 : Rd w (.slice (some ⟨g, 0, none⟩) l.length cap) l := by
    have := rd_part (k := 0) (n := l.length) (cap := cap) hr hg (by rw [hlen]; omega)
    rwa [List.drop_zero, List.take_left] at this
  have h2 : Rd w (.slice (some ⟨g, l.length, none⟩) 4 (cap - l.length)) m77 := by
    have := rd_part (k := l.length) (n := 4) (cap := cap - l.length) hr hg (by rw [hlen]; omega)
    rwa [List.drop_left] at this
  have HS1 := hide (dk.sameBytes_eq w _ _ l h1 hp (by omega))
  have HS2 : Hid (∀ X, Below w.heap.size w X → Calls Tryz.prog 9 #[.slice (some ⟨g, l.length, none⟩) 4 (cap - l.length), .slice (some ⟨X.heap.size, 0, none⟩) 4 4] (X.alloc (.cells c77b 5)) fun r' w' => r' = .returned (.bool true) ∧ Below (X.alloc (.cells c77b 5)).heap.size (X.alloc (.cells c77b 5)) w') := fun X hX =>
    dk.sameBytes_eq (X.alloc (.cells c77b 5)) _ _ m77 (h2.below (keepW hX ((Below.refl _ _).alloc (Nat.le_refl _) _))) (rd_m77 X) (by decide)
  have k0 : (0 : Int) ≤ (l.length : Int) := Int.natCast_nonneg _
  have k1 : (l.length : Int) ≤ (cap : Int) := by omega
  have k2 : (l.length : Int) ≤ (l.length : Int) + 4 := by omega
  have k3 : ((l.length + 4 : Nat) : Int) ≤ (cap : Int) := by omega
  have k4 : ¬ cap - l.length = 0 := by omega
  have k5 : l.length + 4 - l.length = 4 := by omega
  clear ha hp hr h1 h2
  go_enter Tryz.func16, Tryz.ntmps16
  go_wp2_with fail
  refine HS1.out.mono ?_
  rintro x w1 ⟨rfl, b1⟩
  have HB1 := hide b1
  clear b1
  go_wp2_with fail
  refine (HS2.out _ HB1.out).mono ?_
  rintro x w2 ⟨rfl, b2⟩
  have HB2 := hide (keepW (keepW HB1.out ((Below.refl _ _).alloc (Nat.le_refl _) _)) b2)
  clear b2
  go_wp2_with fail
  go_ret
  exact ⟨rfl, HB2.out⟩

theorem lo_of {w : World} {v : Value} {l : List UInt8} (h : Rd w v l) (hc : ∀ oa m c, v = .slice oa m c → m ≤ c) : Lo w.heap.size w v l := by
  obtain ⟨oa, cap, rfl, h2⟩ := h
  exact ⟨oa, cap, rfl, hc _ _ _ rfl, fun h0 => by obtain ⟨g, o, e1, e2, e3⟩ := h2 h0; exact ⟨g, o, e1, e2, e2, e3⟩⟩
end Go.Proofs.YtimbhneegphhbaaGreatDoor.rc
