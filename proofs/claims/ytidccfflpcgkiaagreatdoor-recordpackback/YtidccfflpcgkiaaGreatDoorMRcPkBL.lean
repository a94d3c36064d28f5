import Derived.Test.YtidccfflpcgkiaaGreatDoorMRcPkB
namespace Go.Proofs.YtidccfflpcgkiaaGreatDoor.rc
open Go.ChangeShapes Go.WideShapes Go.ChangeAt Go.RowKit Go.Proofs.YtidccfflpcgkiaaGreatDoor.common Go.Proofs.YtidccfflpcgkiaaGreatDoor.dk
attribute [local go_sem ↓] Go.wp_at_zero Go.wp_at_succ

set_option maxRecDepth 100000 in
set_option maxHeartbeats 12800000 in
theorem lawPackBack (l : List Rec) (v : Value) (w : World) (e : Nat → Addr) (hv : LiesR w v l) (hs : ∀ r ∈ l, TidIn r) (he : Env (e 1) (e 2) (errw.E e 0) w) (hE : errw.Errs w e) (hp : pk.Env w) :
    Calls Tryz.prog 6 #[v] w fun x w' => x = .returned (.bool true) ∧ Below w.heap.size w w' := by
  obtain ⟨i0, hi, hz0, hz1, hz2⟩ := info_parts infoRc
  have HENV : Hid (∀ X, Below w.heap.size w X → Env (e 1) (e 2) (errw.E e 0) X ∧ errw.Errs X e) := fun X hX => ⟨he.below hX, hE.below hX⟩
  have HTA := hide (tidyAll_any l v w hv hs hp)
  unfold TaOut at HTA
  obtain ⟨ov, cv, hvv⟩ : ∃ ov cv, v = .slice ov l.length cv := by obtain ⟨a, b, h, _⟩ := hv; exact ⟨a, b, h⟩
  subst hvv
  clear hv hs he hE hp
  go_enter Tryz.func6, Tryz.ntmps6
  go_wp2_with fail
  refine HTA.out.mono ?_
  rintro x w1 ⟨vq, q, sq, rfl, hown, q0, q4, hqm, b1⟩
  obtain ⟨g, cap, rfl, hgb, hg, hcap, hr⟩ := hown.slot q0
  have HB1 := hide b1
  have HO1 := hide hown
  have hgood := pk_good q0 q4 hqm
  have HU : Hid (∀ o, UnR (pkL q) o → o = some q) := fun o h => un_of q0 q4 hqm h
  have HSL : Hid (∀ r ∈ q, r.Small ∧ r.Low) := fun r hr => ⟨(may_sz (hqm r hr)).small, (may_sz (hqm r hr)).low⟩
  have HQS : Hid (∀ r ∈ q, r.ss.length ≤ 16) := fun r hr => (may_sz (hqm r hr)).len
  have HLQ : Hid (∀ X, Below w1.heap.size w1 X → LiesR X (.slice (some ⟨g, 0, none⟩) q.length cap) q) := fun X hX => by
    have := ((hown.below hX).lies q.length (Nat.le_refl _))
    rwa [List.take_length] at this
  have HPK := hide (pack_any q _ (e 1) (e 2) e w1 (HLQ.out w1 (Below.refl _ _)) HSL.out (HENV.out w1 b1).1 ((HENV.out w1 b1).2.cell 2 (by decide)))
  unfold PackOut at HPK
  rw [hgood.1] at HPK
  simp only [if_true] at HPK
  -- the last one
  obtain ⟨m, hm⟩ : ∃ m, q.length = m + 1 := ⟨q.length - 1, by omega⟩
  have hms : m < sq.length := by rw [← hown.len]; omega
  have hml : m < q.length := by omega
  obtain ⟨ou, cu, hul⟩ := own_slice (hown.each m hms)
  obtain ⟨last, hla⟩ : ∃ last, last = q[m]'hml := ⟨_, rfl⟩
  have HRG : Hid (∀ X, Below w1.heap.size w1 X → X.rangeAt g (m * 9) (rcl9 last (.slice ou last.ss.length cu))) := fun X hX j u hu => by
    have h1 := rcc_get q sq hown.len m hml j u (by rw [hla] at hu; rw [hul]; exact hu)
    have h2 := range_block hr (hX.block g hg) (m * 9 + j) u h1
    rw [← h2]
    congr 2
    omega
  have hl9 : last ∈ q := by rw [hla]; exact List.getElem_mem hml
  have HEL : Hid (∀ X, Below w1.heap.size w1 X → X.ownsRow w.heap.size 9 1 (.slice ou last.ss.length cu) last.ss.length (last.ss.map Value.string)) := fun X hX => by
    have h1 := hown.each m hms
    rw [hul, ← hla] at h1
    exact own_below h1 hX
  have HBS := hide (bad_small (HSL.out last hl9).1)
  have HBW := hide (bad_low (HSL.out last hl9).2)
  have HG := hide hg
  have HRR := hide hr
  have HGB := hide hgb
  have HQ4 := hide q4
  have HMQ := hide hm
  have HLL := hide (hgood.2.2)
  have HPL : Hid (0 < (pkL q).length) := by show _ < _; omega
  obtain ⟨n, hn⟩ : ∃ n, n = q.length := ⟨_, rfl⟩
  have HN := hide hn
  rw [← hn] at HLQ HPK hcap
  clear hown hr hgb hg hqm hgood b1 hul hla hl9 hms hml q0
  obtain ⟨L, hL⟩ : ∃ L, L = (pkL q).length := ⟨_, rfl⟩
  rw [← hn]
  have nm1 : wrap64 ((n : Int) - 1) = (m : Int) := by unfold wrap64; omega
  have n0 : (0 : Int) ≤ (m : Int) := by omega
  have n1 : (m : Int) < (n : Int) := by omega
  have n2 : (m : Int) ≤ (cap : Int) := by omega
  have HCAP := hide hcap
  clear hm hn q4 hcap
  go_wp2_with fail
  refine HPK.out.mono ?_
  rintro x w2 ⟨vp, rfl, own2, b2⟩
  have hlo := lo_own own2 HPL.out
  obtain ⟨op, cp, rfl⟩ := own_slice own2
  have HB2 := hide (keepW HB1.out b2)
  have HUN := hide (unpack_any (pkL q) _ (e 1) (e 2) e w2 hlo (by have := HLL.out; omega) (HENV.out w2 HB2.out).1 ((HENV.out w2 HB2.out).2.cell 1 (by decide)))
  unfold UnOut at HUN
  have HW2 := hide b2
  rw [← hL] at HUN ⊢
  have HLL2 : Hid (3 ≤ L ∧ L ≤ 5425) := by show _ ∧ _; rw [hL]; exact HLL.out
  clear own2 b2 hlo HPK hL HLL HPL
  go_wp2_with fail
  refine HUN.out.mono ?_
  rintro x w3 ⟨o, v3, rfl, l3, b3, hu⟩
  have ho := HU.out o hu
  subst ho
  simp only [Option.getD_some, Option.isSome_some, if_true] at l3 ⊢
  obtain ⟨o3, c3, hv3⟩ : ∃ o3 c3, v3 = .slice o3 n c3 := by obtain ⟨a, b, h, _⟩ := l3; exact ⟨a, b, by rw [h, HN.out]⟩
  have HB3 := hide (keepW HB2.out b3)
  have HW3 := hide (keepW HW2.out b3)
  have HSR := hide (sameRecs_any q (.slice (some ⟨g, 0, none⟩) n cap) v3 w3 (HLQ.out w3 HW3.out) l3 (fun r hr => by have := HQS.out r hr; omega) (by have := HQ4.out; omega))
  subst hv3
  clear l3 b3 hu HUN
  go_wp2_with fail
  refine HSR.out.mono ?_
  rintro x w4 ⟨rfl, b4⟩
  have HB4 := hide (keepW HB3.out b4)
  have HW4 := hide (keepW HW3.out b4)
  have k1 : ¬ (L : Int) < 3 := by have := HLL2.out; omega
  have k2 : ¬ (5425 : Int) < (L : Int) := by have := HLL2.out; omega
  have k3 : ¬ (8192 : Int) < (L : Int) := by have := HLL2.out; omega
  have HRG4 := hide (HRG.out w4 HW4.out)
  have hszw : w.heap.size ≤ w4.heap.size := HB4.out.size
  -- the row that is grown: the first m of them
  obtain ⟨Y, hY⟩ : ∃ Y, Y = (w4.alloc (.cells (rcs (badR last) (.slice ou last.ss.length cu)) 24)).alloc (.cells #[] 24) := ⟨_, rfl⟩
  have bY : Below w4.heap.size w4 Y := by rw [hY]; exact ((Below.refl _ _).alloc (Nat.le_refl _) _).alloc (by simp) _
  have HE0 : Hid (Y.ownsRow (w4.heap.size + 1) 24 9 (.slice (some ⟨w4.heap.size + 1, 0, none⟩) 0 0) 0 []) := by
    show World.ownsRow _ _ _ _ _ _ _
    have h1 := own_empty (w4.alloc (.cells (rcs (badR last) (.slice ou last.ss.length cu)) 24)) (w4.heap.size + 1) (by simp) 24 9
    rw [World.size_alloc] at h1
    rw [hY]
    exact h1
  have HOY := hide (HO1.out.below (keepW HW4.out bY))
  have HBX : Hid (Y.heap[w4.heap.size]? = some (.cells (rcs (badR last) (.slice ou last.ss.length cu)) 24 (0, 0))) := by
    show _ = _
    rw [hY]
    exact (heap_alloc_old _ _ (by simp)).trans (heap_alloc_new w4 _)
  have HBY := hide (keepW HB4.out bY)
  have HELY := hide (HEL.out Y (keepW HW4.out bY))
  have HNEWS : Hid (∀ j u, (rcc (q.take m) (sq.take m))[j]? = some u → Y.cell? ((⟨g, 0, none⟩ : Addr).add j) = some u) := rcc_news (range_block (HRR.out) ((keepW HW4.out bY).block g HG.out)) HO1.out.len
  have HNL : Hid ((rcc (q.take m) (sq.take m)).length = m * 9) := by
    show _ = _
    have h1 := HO1.out.len
    have h2 := HMQ.out
    rw [rcc_len _ _ (by rw [List.length_take, List.length_take]; omega), List.length_take, Nat.min_eq_left (by omega)]
  have HN1 : Hid (∀ u ∈ rcc (q.take m) (sq.take m), u.oneCell' = true) := rcc_one _ _ (fun x hx => HO1.out.slices x (List.mem_of_mem_take hx))
  have hm3 : m ≤ 3 := by have := HMQ.out; have := HQ4.out; omega
  have HYZ : Hid (Y.heap.size = w4.heap.size + 2) := by show _ = _; rw [hY]; simp
  rw [hY] at HE0 HNEWS
  have HY := hide hY
  clear b4 HSR bY hY
  go_wp2_with (first
    | (refine wpList_load_mid rfl 24 (.tmp 60) rfl g (m * 9) rfl _ _ HRG4.out Tryz.underlying24 rfl sizeRec ?_)
    | (at_builtin; refine wpList_append_own _ rfl _ _ 42 rfl (w4.heap.size + 1) 24 i0 (.agg zrec) 9 136 Tryz.underlying42 hi hz0 hz1 hz2 rfl (by decide) _ 0 _ rfl HE0.out ⟨g, 0, none⟩ m cap (rcc (q.take m) (sq.take m)) ?c0 HNL.out HNEWS.out HN1.out ?c3 ?c4 ?c5 ?_))
  case c0 => rfl
  case c3 => unfold maxLen; omega
  case c4 => omega
  case c5 => first | omega | (simp; done) | (simp; omega)
  intro v5 w5 hown5 hgrow5 _
  have hgrow5 : Y.grownBy w5 (Value.slice (some ⟨w4.heap.size + 1, 0, none⟩) 0 0).ownBlock := by rw [HY.out]; exact hgrow5
  have HE0' : Hid (Y.ownsRow w.heap.size 24 9 (.slice (some ⟨w4.heap.size + 1, 0, none⟩) 0 0) 0 []) := by show World.ownsRow _ _ _ _ _ _ _; rw [HY.out]; exact own_least HE0.out (by omega)
  have HR5 := hide hown5
  have HO5 := hide (HOY.out.copy HE0'.out (by have := HMQ.out; omega : m ≤ q.length) (by rw [Nat.zero_add, List.nil_append]; exact own_least hown5 (by omega)) hgrow5)
  have HBX5 := hide (grown_blk hgrow5 HBX.out (fun k hk => by simp [Value.ownBlock] at hk; omega))
  have HEL5 := hide (HELY.out.kept hgrow5 (rows_ne (show (9 : TypeId) ≠ 24 by decide) HELY.out HE0'.out))
  have HB5 : Hid (Below w.heap.size w w5) := HBY.out.grown hgrow5 (by have := HYZ.out; omega) (fun k hk => by simp [Value.ownBlock] at hk; omega)
  have hs5 : w.heap.size ≤ w5.heap.size := HB5.out.size
  have h45 : w4.heap.size < w5.heap.size := (Array.getElem?_eq_some_iff.1 HBX5.out).1
  have HTM : Hid ((q.take m).length = m) := by show _ = _; rw [List.length_take]; have := HMQ.out; omega
  obtain ⟨o5, c5, hv5⟩ := own_slice HO5.out.row
  rw [HTM.out] at hv5
  subst hv5
  obtain ⟨Z, hZ⟩ : ∃ Z, Z = w5.alloc (.cells (rcs (badR last) (.slice ou last.ss.length cu)) 24) := ⟨_, rfl⟩
  have bZ : Below w5.heap.size w5 Z := by rw [hZ]; exact (Below.refl _ _).alloc (Nat.le_refl _) _
  have HRX : Hid (w5.rangeAt w4.heap.size 0 (rcl9 (badR last) (.slice ou last.ss.length cu))) := range_of (t := 24) HBX5.out
  have HOZ := hide (HO5.out.below bZ)
  have HROW := hide (own_below HR5.out bZ)
  have HC9 := hide (cells9 w5 (badR last) (.slice ou last.ss.length cu) 24)
  have HELZ := hide (own_below HEL5.out bZ)
  have HBZ := hide (keepW HB5.out bZ)
  have HBXZ := hide ((bZ.block _ (Array.getElem?_eq_some_iff.1 HBX5.out).1).trans HBX5.out)
  have HROW6 := hide (own_below HR5.out bZ)
  rw [hZ] at HROW
  have HZ := hide hZ
  clear hown5 hgrow5 bZ hZ HE0 HNEWS HNL HN1 HE0' HELY HOY HBY HRG4 HYZ
  go_wp2_with (first
    | (refine wpList_load_mid rfl 24 (.tmp 9) rfl w4.heap.size 0 rfl _ _ HRX.out Tryz.underlying24 rfl sizeRec ?_)
    | (at_builtin; refine wpList_append_own _ rfl _ _ 42 rfl (w4.heap.size + 1) 24 i0 (.agg zrec) 9 136 Tryz.underlying42 hi hz0 hz1 hz2 rfl (by decide) _ m _ rfl HROW.out ⟨w5.heap.size, 0, none⟩ 1 1 (rcl9 (badR last) (.slice ou last.ss.length cu)) ?d0 rfl HC9.out (rcl_one _ _ _ _) ?d3 ?d4 ?d5 ?_))
  case d0 => rfl
  case d3 => unfold maxLen; omega
  case d4 => omega
  case d5 => first | omega | (simp; done) | (simp; omega)
  intro v6 w6 hown6 hgrow6 _
  have hgrow6 : Z.grownBy w6 (Value.slice o5 m c5).ownBlock := by rw [HZ.out]; exact hgrow6
  have HO6 := hide (HOZ.out.snoc (badR last) (.slice ou last.ss.length cu) HELZ.out (by rw [HTM.out]; exact own_least hown6 (by omega)) hgrow6)
  have HBX6 := hide (grown_blk hgrow6 HBXZ.out (fun k hk => by have := (HROW6.out.lt k hk).1; omega))
  have HEL6 := hide (HELZ.out.kept hgrow6 (rows_ne (show (9 : TypeId) ≠ 24 by decide) HELZ.out HROW6.out))
  have HB6 : Hid (Below w.heap.size w w6) := HBZ.out.grown hgrow6 (by rw [HZ.out]; simp; omega) (fun k hk => by have := (HROW6.out.lt k hk).1; omega)
  obtain ⟨o6, c6, hv6⟩ := own_slice HO6.out.row
  have hl6 : (q.take m ++ [badR last]).length = n := by rw [List.length_append, HTM.out, HN.out, HMQ.out]; rfl
  have hL6 : LiesR w6 v6 (q.take m ++ [badR last]) := by
    rw [hv6] at HO6 ⊢
    have := HO6.out.lies (q.take m ++ [badR last]).length (Nat.le_refl _)
    rwa [List.take_length] at this
  rw [hl6] at hv6
  have HSL6 : Hid (∀ r ∈ q.take m ++ [badR last], r.Small ∧ r.Low) := fun r hr => by
    rcases List.mem_append.1 hr with h | h
    · exact HSL.out r (List.mem_of_mem_take h)
    · rw [List.mem_singleton.1 h]; exact ⟨HBS.out, HBW.out⟩
  have HPK6 := hide (pack_any _ v6 (e 1) (e 2) e w6 hL6 HSL6.out (HENV.out w6 HB6.out).1 ((HENV.out w6 HB6.out).2.cell 2 (by decide)))
  unfold PackOut at HPK6
  have hpb := pk_bad (l := q.take m) (r := last) (by rw [HTM.out]; omega)
  rw [hpb.1, hpb.2] at HPK6
  simp only [List.length_nil, List.map_nil, Nat.succ_ne_zero, if_false, Nat.sub_self] at HPK6
  subst hv6
  clear hown6 hgrow6 hl6 hL6 hpb HROW HROW6 HC9 HELZ HBZ HBXZ HRX HOZ HR5
  go_wp2_with fail
  refine HPK6.out.mono ?_
  rintro x w7 ⟨v7, rfl, own7, b7⟩
  obtain ⟨o7, c7, rfl⟩ := own_slice own7
  have HB7 := hide (keepW HB6.out b7)
  have HBX7 := hide ((b7.block _ (Array.getElem?_eq_some_iff.1 HBX6.out).1).trans HBX6.out)
  have HEL7 := hide (own_below HEL6.out b7)
  have hs7 : w.heap.size ≤ w7.heap.size := HB7.out.size
  obtain ⟨V, hV⟩ : ∃ V, V = w7.alloc (.cells #[] 24) := ⟨_, rfl⟩
  have bV : Below w7.heap.size w7 V := by rw [hV]; exact (Below.refl _ _).alloc (Nat.le_refl _) _
  have HZV : Hid (V.heap.size = w7.heap.size + 1) := by show _ = _; rw [hV]; simp
  obtain ⟨U, hU⟩ : ∃ U, U = V.alloc (.cells #[.int .i64 last.k, .string last.id, .string last.us, .string last.cl, .string last.rd, .string last.ch, .string last.cd, .slice ou last.ss.length cu, .int .i64 (-1), .int .i64 last.k, .string last.id, .string last.us, .string last.cl, .string last.rd, .string last.ch, .string last.cd, .slice ou last.ss.length cu, .int .i64 (-1), .int .i64 last.k, .string last.id, .string last.us, .string last.cl, .string last.rd, .string last.ch, .string last.cd, .slice ou last.ss.length cu, .int .i64 (-1), .int .i64 last.k, .string last.id, .string last.us, .string last.cl, .string last.rd, .string last.ch, .string last.cd, .slice ou last.ss.length cu, .int .i64 (-1), .int .i64 last.k, .string last.id, .string last.us, .string last.cl, .string last.rd, .string last.ch, .string last.cd, .slice ou last.ss.length cu, .int .i64 (-1)] 24) := ⟨_, rfl⟩
  have bU : Below V.heap.size V U := by rw [hU]; exact (Below.refl _ _).alloc (Nat.le_refl _) _
  have HRXV : Hid (V.rangeAt w4.heap.size 0 (rcl9 (badR last) (.slice ou last.ss.length cu))) := range_of (t := 24) ((bV.block _ (Array.getElem?_eq_some_iff.1 HBX7.out).1).trans HBX7.out)
  have HE7 : Hid (U.ownsRow w.heap.size 24 9 (.slice (some ⟨w7.heap.size, 0, none⟩) 0 0) 0 []) := by
    show World.ownsRow _ _ _ _ _ _ _
    have h1 := own_empty w7 w.heap.size hs7 24 9
    rw [← hV] at h1
    exact own_below h1 bU
  have HELU := hide (own_below HEL7.out (keepW bV bU))
  have HNEW : Hid (∀ j u, (rcc [badR last, badR last, badR last, badR last, badR last] [.slice ou last.ss.length cu, .slice ou last.ss.length cu, .slice ou last.ss.length cu, .slice ou last.ss.length cu, .slice ou last.ss.length cu])[j]? = some u → U.cell? ((⟨w7.heap.size + 1, 0, none⟩ : Addr).add j) = some u) := fun j u hu => by
    have h1 := heap_alloc_new V (.cells #[.int .i64 last.k, .string last.id, .string last.us, .string last.cl, .string last.rd, .string last.ch, .string last.cd, .slice ou last.ss.length cu, .int .i64 (-1), .int .i64 last.k, .string last.id, .string last.us, .string last.cl, .string last.rd, .string last.ch, .string last.cd, .slice ou last.ss.length cu, .int .i64 (-1), .int .i64 last.k, .string last.id, .string last.us, .string last.cl, .string last.rd, .string last.ch, .string last.cd, .slice ou last.ss.length cu, .int .i64 (-1), .int .i64 last.k, .string last.id, .string last.us, .string last.cl, .string last.rd, .string last.ch, .string last.cd, .slice ou last.ss.length cu, .int .i64 (-1), .int .i64 last.k, .string last.id, .string last.us, .string last.cl, .string last.rd, .string last.ch, .string last.cd, .slice ou last.ss.length cu, .int .i64 (-1)] 24 (0, 0))
    rw [← hU, HZV.out] at h1
    rw [Addr.add_mid, Nat.zero_add]
    have h2 := range_of (l := rcc [badR last, badR last, badR last, badR last, badR last] [.slice ou last.ss.length cu, .slice ou last.ss.length cu, .slice ou last.ss.length cu, .slice ou last.ss.length cu, .slice ou last.ss.length cu]) (t := 24) h1 j u hu
    rw [Nat.zero_add] at h2
    exact h2
  have HONE : Hid (∀ u ∈ rcc [badR last, badR last, badR last, badR last, badR last] [.slice ou last.ss.length cu, .slice ou last.ss.length cu, .slice ou last.ss.length cu, .slice ou last.ss.length cu, .slice ou last.ss.length cu], u.oneCell' = true) := rcc_one _ _ (fun x hx => by
    simp only [List.mem_cons, List.not_mem_nil, or_false, or_self] at hx
    exact ⟨_, _, _, hx⟩)
  have HBU := hide (keepW HB7.out (keepW bV bU))
  have HUZ : Hid (w.heap.size ≤ U.heap.size) := HBU.out.size
  have hE7 := HE7.out
  rw [hU, hV] at HE7 HNEW
  rw [hV] at HRXV
  have HUU : Hid (U = (w7.alloc (.cells #[] 24)).alloc (.cells #[.int .i64 last.k, .string last.id, .string last.us, .string last.cl, .string last.rd, .string last.ch, .string last.cd, .slice ou last.ss.length cu, .int .i64 (-1), .int .i64 last.k, .string last.id, .string last.us, .string last.cl, .string last.rd, .string last.ch, .string last.cd, .slice ou last.ss.length cu, .int .i64 (-1), .int .i64 last.k, .string last.id, .string last.us, .string last.cl, .string last.rd, .string last.ch, .string last.cd, .slice ou last.ss.length cu, .int .i64 (-1), .int .i64 last.k, .string last.id, .string last.us, .string last.cl, .string last.rd, .string last.ch, .string last.cd, .slice ou last.ss.length cu, .int .i64 (-1), .int .i64 last.k, .string last.id, .string last.us, .string last.cl, .string last.rd, .string last.ch, .string last.cd, .slice ou last.ss.length cu, .int .i64 (-1)] 24)) := by show _ = _; rw [hU, hV]
  have HEU := hide hE7
  clear own7 b7 bV bU hV hU hE7 HPK6
  go_wp2_with (first
    | (refine wpList_load_mid rfl 24 (.tmp 9) rfl w4.heap.size 0 rfl _ _ HRXV.out Tryz.underlying24 rfl sizeRec ?_)
    | (at_builtin; refine wpList_append_own _ rfl _ _ 42 rfl w.heap.size 24 i0 (.agg zrec) 9 136 Tryz.underlying42 hi hz0 hz1 hz2 rfl (by decide) _ 0 _ rfl HE7.out ⟨w7.heap.size + 1, 0, none⟩ 5 5 (rcc [badR last, badR last, badR last, badR last, badR last] [.slice ou last.ss.length cu, .slice ou last.ss.length cu, .slice ou last.ss.length cu, .slice ou last.ss.length cu, .slice ou last.ss.length cu]) ?e0 rfl HNEW.out HONE.out ?e3 ?e4 ?e5 ?_))
  case e0 => first | rfl | (rw [World.size_alloc]; rfl)
  case e3 => unfold maxLen; omega
  case e4 => omega
  case e5 => first | omega | (simp; done) | (simp; omega)
  intro v8 w8 hown8 hgrow8 _
  have hgrow8 : U.grownBy w8 (Value.slice (some ⟨w7.heap.size, 0, none⟩) 0 0).ownBlock := by rw [HUU.out]; exact hgrow8
  have HO8 := hide (OwnR.five (r := badR last) HELU.out HEU.out (by rw [Nat.zero_add, List.nil_append]; exact hown8) hgrow8)
  have HB8 : Hid (Below w.heap.size w w8) := HBU.out.grown hgrow8 HUZ.out (fun k hk => by simp [Value.ownBlock] at hk; omega)
  obtain ⟨o8, c8, hv8⟩ := own_slice HO8.out.row
  have hL8 : LiesR w8 v8 [badR last, badR last, badR last, badR last, badR last] := by
    rw [hv8] at HO8 ⊢
    exact HO8.out.lies 5 (Nat.le_refl _)
  have HPK8 := hide (pack_any _ v8 (e 1) (e 2) e w8 hL8 (fun r hr => by
    simp only [List.mem_cons, List.not_mem_nil, or_false, or_self] at hr
    rw [hr]
    exact ⟨HBS.out, HBW.out⟩) (HENV.out w8 HB8.out).1 ((HENV.out w8 HB8.out).2.cell 2 (by decide)))
  unfold PackOut at HPK8
  have hpm := pk_many (l := [badR last, badR last, badR last, badR last, badR last]) (by simp)
  rw [hpm.1, hpm.2] at HPK8
  simp only [List.length_nil, List.map_nil, Nat.succ_ne_zero, if_false, Nat.reduceSub] at HPK8
  simp only [List.length_cons, List.length_nil] at hv8
  subst hv8
  clear hown8 hgrow8 hL8 hpm HE7 HNEW HONE HRXV HELU HBU HUZ HEU
  go_wp2_with fail
  refine HPK8.out.mono ?_
  rintro x w9 ⟨v9, rfl, own9, b9⟩
  obtain ⟨o9, c9, rfl⟩ := own_slice own9
  have HB9 := hide (keepW HB8.out b9)
  have HN0 := hide (errw.num_0 w9 e (HENV.out w9 HB9.out).2)
  have HN2 := hide (errw.num_2 w9 e (HENV.out w9 HB9.out).2)
  clear own9 b9 HPK8
  go_wp2_with fail
  refine HN0.out.mono ?_
  rintro x wA ⟨rfl, hA⟩
  obtain rfl := hA.symm
  clear hA
  go_wp2_with fail
  refine HN2.out.mono ?_
  rintro x wA ⟨rfl, hA⟩
  obtain rfl := hA.symm
  clear hA
  go_wp2_with fail
  go_ret
  exact ⟨rfl, HB9.out⟩
end Go.Proofs.YtidccfflpcgkiaaGreatDoor.rc
