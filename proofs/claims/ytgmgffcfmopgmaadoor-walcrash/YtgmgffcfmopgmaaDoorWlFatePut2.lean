import Derived.Test.YtgmgffcfmopgmaaDoorWlFatePut
namespace Go.Proofs.YtgmgffcfmopgmaaDoor.wl
open Go.ChangeShapes Go.WideShapes Go.ChangeAt Go.RowKit Go.Proofs.YtgmgffcfmopgmaaDoor.common Go.Proofs.YtgmgffcfmopgmaaDoor.dk

theorem own_capF {W : World} {base : Nat} {e : TypeId} {v : Value} {n : Nat} {xs : List Value} (h : W.ownsRow base e 1 v n xs) : ∃ oa cap, v = .slice oa n cap ∧ n ≤ cap := by
  rcases h.2 with ⟨rfl, h0⟩ | ⟨g, cap, cur, rfl, _, _, h1, _⟩
  · exact ⟨none, 0, by rw [h0], by omega⟩
  · exact ⟨_, cap, rfl, h1⟩
theorem erLow {w w' : World} {K : Nat} {e : Nat → Addr} (h : Er w K e) (hb : Below K w w') : Er w' K e := by
  refine ⟨⟨fun i hi => ?_, h.errs.ne, fun i hi => ?_⟩, Nat.le_trans h.size hb.size, h.lt⟩
  · rw [← h.errs.cell i hi]
    exact World.cell?_of_block (hb.block _ (h.lt i hi).1)
  · obtain ⟨c, t, hr⟩ := h.errs.row i hi
    exact ⟨c, t, (hb.block _ (h.lt i hi).2).trans hr⟩
/-- the state behind the log's own Put, before the fate is told -/
structure Mid (w w2 : World) (K : Nat) (e : Nat → Addr) (p f g : Nat) (F2 G2 : List Nat) (y' : Lg) (rm : Nat) (a0 : Nat) : Prop where
  lg : LgD w2 g p F2 y'
  ff : f ∉ F2
  sub : ∀ k ∈ F2, k ∈ G2
  mem : f ∈ G2
  gmem : g ∈ G2
  ne : f ≠ g
  low : ∀ k ∈ G2, K ≤ k
  gl : ∀ k ∈ G2, k < w2.heap.size
  er : Er w2 K e
  fine : Fine y'.x
  arms : y'.x.a.length ≤ a0
  room : y'.x.r = rm
  below : Below K w w2
theorem Mid.fin {w w2 X : World} {K : Nat} {e : Nat → Addr} {p f g : Nat} {F2 G2 : List Nat} {y' : Lg} {rm : Nat} {x : St} {T S' W' : List (List UInt8)} {arm : Bool} {sz' : Int} (h : Mid w w2 K e p f g F2 G2 y' rm x.a.length) (hk : ∀ k ∈ G2, k ≠ f → X.heap[k]? = w2.heap[k]?) (hb : Below K w2 X) (ft : Ft X K f G2 T S' W' arm sz' y'.d) (hc : Cr (T ++ S') W' y'.x) (hle : y'.x.b.length ≤ rm)
    (harm : y'.x.a ≠ [] → arm = true) (hn : y'.n = (T ++ S').length) (hz : y'.z = (Wl.flat (T ++ S')).length) (hal : y'.d = false → W' = [] ∧ y'.x.b = Wl.flat (T ++ S') ∧ sz' = (y'.x.b.length : Int)) : Fp w K e p f x T arm rm g X := by
  have hlt := h.lg.1.lt
  refine ⟨F2, G2, y'.x, S', W', sz', y'.d, y'.n, y'.z, ⟨h.lg.1.keep fun k hk' => hk k (h.sub k hk') (fun e => h.ff (e ▸ hk')), ft, h.ff, h.sub, h.mem, h.low, fun k hk' => Nat.lt_of_lt_of_le (h.gl k hk') hb.size, erLow h.er hb, h.fine, hc, h.room, hle, harm⟩, ⟨(hk g h.gmem (fun e => h.ne e.symm)).trans h.lg.2.1, h.lg.2.2, h.gmem, h.ne, hn, hz, hal⟩, h.arms, h.below.trans hb⟩
theorem below_set {K : Nat} {w w2 : World} (hb : Below K w w2) (f o : Nat) (v : Value) (hf : K ≤ f) : Below K w (w2.setCell ⟨f, o, none⟩ v) := hb.setCell (p := ⟨f, o, none⟩) hf v

set_option maxRecDepth 100000 in
set_option maxHeartbeats 6400000 in
/-- a payload that may be -/
theorem fput_ok (w : World) (K : Nat) (e : Nat → Addr) (p f : Nat) (F G : List Nat) (x : St) (T S W : List (List UInt8)) (arm : Bool) (sz : Int) (lost : Bool) (rm : Nat) (hc : Co w K e p f F G x T S W arm sz lost rm) (g n z : Nat) (hl : Lp w p f F G x T S W sz lost g n z) (hrm : rm ≤ 20000) (ht : crcw.Tab w) (v : Value) (q : List UInt8) (hv : Rd w v q) (hf : Wl.fit q.length = true) :
    Calls Tryd.prog 28 #[ptr f, ptr p, ptr g, v, .int .i64 (rm : Int)] w fun r' w' => r' = .returned (.bool true) ∧ Fp w K e p f x T arm rm g w' := by
  obtain ⟨i0, hi, hz0, hz1, hz2⟩ := info_parts infoLs
  have hfl := hc.flat
  have hFK : ∀ k ∈ F, K ≤ k := fun k hk => hc.low k (hc.sub k hk)
  have hcase := put_cases ⟨x, n, z, lost⟩ q hf (fun _ => hc.cr.syn) (by show x.b.length ≤ x.r; rw [hc.room]; exact hc.le)
  obtain ⟨oq, cq, rfl⟩ := hv.len
  have hfit := (Wl.fit_iff _).1 hf
  have HCP := hide (copy_any w _ q hv (by omega))
  have hz : z ≤ 20000 := by rw [hl.z]; omega
  have hn : n ≤ 20000 := by rw [hl.n, List.length_append]; omega
  have HLG : Hid (LgD w g p F ⟨x, n, z, lost⟩) := ⟨hc.dk, hl.ly, hl.far⟩
  have HX := hide (put_fine ⟨x, n, z, lost⟩ q hc.fine)
  have hfrl := Wl.fr_len q
  have HFRL := hide hfrl
  obtain ⟨xd, hxd⟩ : ∃ b, b = x.d := ⟨_, rfl⟩
  obtain ⟨y', m, hym⟩ : ∃ y' m, Lg.put ⟨x, n, z, lost⟩ q = (y', m) := ⟨_, _, rfl⟩
  rw [hym] at hcase HX
  obtain ⟨yd, hyd⟩ : ∃ b, b = y'.x.d := ⟨_, rfl⟩
  obtain ⟨I, hI⟩ : ∃ I : Int, (m : Int) = I := ⟨_, rfl⟩
  have hm4 : m = 0 ∨ m = 1 ∨ m = 9 ∨ m = 10 := by
    rcases hcase with ⟨_, h⟩ | ⟨_, _, h⟩ | ⟨_, _, _, h, _⟩ | ⟨_, _, _, h, _⟩ | ⟨_, _, _, _, h, _, _⟩ <;> (have := congrArg Prod.snd h; simp at this; omega)
  have HC := hide hc
  have HL := hide hl
  have HV := hide hv
  have HT := hide ht
  have HFK := hide hFK
  have HM4 := hide hm4
  have HCASE := hide hcase
  have HYM := hide hym
  have HYD := hide hyd
  have HXD := hide hxd
  have HI := hide hI
  have z1 : decide ((1 : Int) ≤ (q.length : Int)) = true := by rw [decide_eq_true_eq]; omega
  have z1' : (1 : Int) ≤ (q.length : Int) := by omega
  have z2 : decide ((q.length : Int) ≤ 8192) = true := by rw [decide_eq_true_eq]; omega
  have z2' : (q.length : Int) ≤ 8192 := by omega
  clear hc hl hv ht hf hfl hFK hfrl hm4 hcase hym hyd hxd hI hfit
  go_enter Tryd.func28, Tryd.ntmps28
  go_wp2_with fail
  refine HCP.out.mono ?_
  rintro r' w1 ⟨v1, rfl, h1, b1⟩
  obtain ⟨o1, c1, rfl⟩ := (rd_own h1).len
  have hLG1 := lgD_below HLG.out b1
  have HD1 := hide (dead_any w1 p F x hLG1.1)
  rw [← HXD.out] at HD1
  have HP1 := hide (put_any w1 K p g F ⟨x, n, z, lost⟩ hLG1 _ q (HV.out.below b1) (by omega) (HT.out.below b1 HT.out.lt) e (HC.out.er.below b1) HFK.out HC.out.fine HX.out.1 (by show n ≤ _; omega) (by show z ≤ _; omega))
  rw [HYM.out] at HP1
  have HB1 := hide b1
  have HO1 := hide h1
  clear h1 b1 hLG1 HCP
  go_wp2_with fail
  refine HD1.out.mono ?_
  rintro r' w1' ⟨rfl, hw⟩
  subst hw
  clear HD1
  go_wp2_with fail
  refine HP1.out.mono ?_
  rintro r' w2 ⟨F2, rfl, hlg2, hf2, hs2⟩
  have hgF : ∀ k ∈ g :: F, k ∈ G := fun k hk => by
    rcases List.mem_cons.1 hk with rfl | h4
    · exact HL.out.mem
    · exact HC.out.sub k h4
  have hfr : Fr (g :: F) w w2 := (Fr.of HB1.out).trans hf2 (fun i hi => Or.inl hi)
  have hu : ∀ k ∈ G ++ F2, k ∈ G ∨ w.heap.size ≤ k := fun k hk => by
    rcases List.mem_append.1 hk with h4 | h4
    · exact Or.inl h4
    · rcases hs2 k h4 with h5 | h5
      · exact Or.inl (HC.out.sub k h5)
      · exact Or.inr (Nat.le_trans HB1.out.size h5)
  have hfn : f ∉ g :: F := fun hm => by
    rcases List.mem_cons.1 hm with h4 | h4
    · exact HL.out.ne h4
    · exact HC.out.ff h4
  have hrm2 : y'.x.r = rm := by
    rcases HCASE.out with ⟨_, h⟩ | ⟨_, _, h⟩ | ⟨_, _, _, h, _⟩ | ⟨_, _, _, h, _⟩ | ⟨_, _, _, _, h, _, _⟩ <;> (obtain ⟨rfl, _⟩ := Prod.mk.inj h; exact HC.out.room)
  have HMID : Hid (Mid w w2 K e p f g F2 (G ++ F2) y' rm x.a.length) := by
    refine ⟨hlg2, fun hm => ?_, fun k hk => List.mem_append_right _ hk, List.mem_append_left _ HC.out.mem, List.mem_append_left _ HL.out.mem, HL.out.ne, fun k hk => ?_, fun k hk => ?_, HC.out.er.fr hfr (fun k hk => HC.out.low k (hgF k hk)), HX.out.2.1, HX.out.2.2, hrm2, hfr.below (fun k hk => HC.out.low k (hgF k hk)) HC.out.er.size⟩
    · rcases hs2 f hm with h4 | h4
      · exact HC.out.ff h4
      · have := HC.out.gl f HC.out.mem; have := HB1.out.size; omega
    · rcases hu k hk with h4 | h4
      · exact HC.out.low k h4
      · exact Nat.le_trans HC.out.er.size h4
    · rcases List.mem_append.1 hk with h4 | h4
      · exact Nat.lt_of_lt_of_le (HC.out.gl k h4) hfr.size
      · exact hlg2.1.lt k h4
  obtain ⟨vT, vS, vW, uT, uS, uW, hX⟩ := HC.out.ft.fr hfr hgF hfn hu (List.mem_append_left _ HC.out.mem)
  have HXX := hide hX
  have HN2 := hide (num_err4 w2 e HMID.out.er.errs m HM4.out)
  rw [HI.out] at HN2
  have HD2 := hide (dead_any w2 p F2 y'.x hlg2.1)
  rw [← HYD.out] at HD2
  have hone : Rd w2 (.slice o1 q.length c1) q ∧ ∀ a n c, Value.slice o1 q.length c1 = .slice (some a) n c → a.block ∉ G ++ F2 ∧ ∃ cur, w2.heap[a.block]? = some (.cells cur 5 (0, 0)) := by
    have hB : ∀ a n c, Value.slice o1 q.length c1 = .slice (some a) n c → w.heap.size ≤ a.block ∧ a.block < w1'.heap.size ∧ ∃ cur, w1'.heap[a.block]? = some (.cells cur 5 (0, 0)) := fun a n c ea => by
      rcases HO1.out.2 with ⟨h5, _⟩ | ⟨b, cap, cur, h5, hb, hh, _⟩
      · rw [h5] at ea; cases ea
      · cases h5; cases ea
        exact ⟨hb, (Array.getElem?_eq_some_iff.1 hh).1, cur, hh⟩
    have hG1 : ∀ a n c, Value.slice o1 q.length c1 = .slice (some a) n c → a.block ∉ g :: F := fun a n c ea hm => by
      have h5 := (hB a n c ea).1
      have h6 := HC.out.gl _ (hgF _ hm)
      omega
    refine ⟨(rd_own HO1.out).keep (fun a n c ea => hf2.block _ (hB a n c ea).2.1 (hG1 a n c ea)) hf2.size, fun a n c ea => ⟨fun hm => ?_, ?_⟩⟩
    · obtain ⟨h5, h6, _⟩ := hB a n c ea
      rcases List.mem_append.1 hm with h7 | h7
      · have := HC.out.gl _ h7; omega
      · rcases hs2 _ h7 with h8 | h8
        · have := HC.out.gl _ (HC.out.sub _ h8); omega
        · omega
    · obtain ⟨_, h6, cur, h8⟩ := hB a n c ea
      exact ⟨cur, (hf2.block _ h6 (hG1 a n c ea)).trans h8⟩
  have HONE := hide hone
  have y1 : w2.cell? ⟨f, 1, none⟩ = some vS := cell_of hX.cell 1
  have y2 : w2.cell? ⟨f, 2, none⟩ = some vW := cell_of hX.cell 2
  have y4 : w2.cell? ⟨f, 4, none⟩ = some (.int .i64 sz) := cell_of hX.cell 4
  have y5 : w2.cell? ⟨f, 5, none⟩ = some (.bool lost) := cell_of hX.cell 5
  have f5 : w2.frozen? ⟨f, 5, none⟩ = false := free_of hX.cell 5
  obtain ⟨oS, cS, eS⟩ := hX.s.form
  obtain ⟨oW, cW, eW⟩ := hX.y.form
  have HF5 := hide (ft_set5 hX.cell true)
  clear hlg2 hf2 hs2 HP1 hgF hfr hu hfn hrm2 hX hone
  go_wp2_with fail
  refine HN2.out.mono ?_
  rintro r' w2' ⟨rfl, hw⟩
  subst hw
  clear HN2
  go_wp2_with fail
  refine HD2.out.mono ?_
  rintro r' w2'' ⟨rfl, hw⟩
  subst hw
  clear HD2
  have hFf : ∀ {X : World} {o : Nat} {u : Value}, ∀ k ∈ G ++ F2, k ≠ f → (X.setCell ⟨f, o, none⟩ u).heap[k]? = X.heap[k]? := fun {X o u} k _ hk => set_other _ _ _ _ hk
  have HFF : Hid (∀ {X : World} {o : Nat} {u : Value}, ∀ k ∈ G ++ F2, k ≠ f → (X.setCell ⟨f, o, none⟩ u).heap[k]? = X.heap[k]?) := hFf
  have HKF : Hid (K ≤ f) := HMID.out.low f HMID.out.mem
  have HSF : Hid (∀ k ∈ [f], k ∈ G ++ F2) := fun k hk => by rw [List.mem_singleton.1 hk]; exact HMID.out.mem
  clear hFf
  have hfr5 : Fr [f] w2'' (w2''.setCell ⟨f, 5, none⟩ (.bool true)) := (Fr.refl _ _).set ⟨f, 5, none⟩ _ (Or.inl (by simp))
  have HFT5 : Hid (Ft (w2''.setCell ⟨f, 5, none⟩ (.bool true)) K f (G ++ F2) T S W arm sz true) :=
    ⟨vT, vS, vW, uT, uS, uW, HF5.out, HXX.out.t.fr hfr5 HSF.out (fun _ h => Or.inl h), HXX.out.s.fr hfr5 HSF.out (fun _ h => Or.inl h), HXX.out.y.fr hfr5 HSF.out (fun _ h => Or.inl h), HXX.out.mem, HXX.out.ts, HXX.out.ys, HXX.out.nil, HXX.out.low⟩
  have HB5 : Hid (Below K w2'' (w2''.setCell ⟨f, 5, none⟩ (.bool true))) := below_set (Below.refl _ _) f 5 _ HKF.out
  clear hfr5 HF5
  have HARM : Hid (∀ a' : List (Nat × Int), a'.length ≤ x.a.length → a' ≠ [] → arm = true) := fun a' h1 h2 => HC.out.arm (fun e0 => by
    rw [e0] at h1
    exact h2 (List.eq_nil_of_length_eq_zero (Nat.le_zero.1 h1)))
  rcases HCASE.out with ⟨hd, hp⟩ | ⟨hd, hxx, hp⟩ | ⟨a', hd, hxx, hp, hroom⟩ | ⟨a', hd, hxx, hp, hroom⟩ | ⟨a', m', hd, hxx, hp, hmm, haa, hlr⟩
  · obtain ⟨hy, hm⟩ := Prod.mk.inj hp
    have hlo : lost = true := hd
    obtain rfl : I = 10 := by rw [← HI.out, hm]; rfl
    have HZ : Hid (Fp w K e p f x T arm rm g (w2''.setCell ⟨f, 5, none⟩ (.bool true))) := by
      have hM := HMID.out
      rw [hy] at hM
      refine hM.fin HFF.out HB5.out ?_ HC.out.cr HC.out.le HC.out.arm HL.out.n HL.out.z HL.out.al
      show Ft _ K f _ T S W arm sz lost
      rw [hlo]
      exact HFT5.out
    have hyx : yd = xd := by rw [HYD.out, HXD.out, hy]
    subst hyx hlo
    clear hp hd hy hm HFT5 HB5 HARM y1 y2 y4 eS eW
    cases yd with
    | true =>
      go_wp2_with fail
      go_ret
      exact ⟨rfl, HZ.out⟩
    | false =>
      go_wp2_with fail
      go_ret
      exact ⟨rfl, HZ.out⟩
  · obtain ⟨hy, hm⟩ := Prod.mk.inj hp
    have hlo : lost = false := hd
    have hx2 : x.d = true := hxx
    obtain rfl : I = 10 := by rw [← HI.out, hm]; rfl
    have HZ : Hid (Fp w K e p f x T arm rm g (w2''.setCell ⟨f, 5, none⟩ (.bool true))) := by
      have hM := HMID.out
      rw [hy] at hM
      exact hM.fin HFF.out HB5.out HFT5.out HC.out.cr HC.out.le HC.out.arm HL.out.n HL.out.z (fun h => by cases h)
    obtain rfl : yd = true := by rw [HYD.out, hy]; exact hx2
    obtain rfl : xd = true := by rw [HXD.out]; exact hx2
    subst hlo
    clear hp hd hy hm hxx hx2 HFT5 HB5 HARM y1 y2 y4 eS eW
    go_wp2_with fail
    go_ret
    exact ⟨rfl, HZ.out⟩
  · obtain ⟨hy, hm⟩ := Prod.mk.inj hp
    have hlo : lost = false := hd
    have hx2 : x.d = false := hxx
    obtain rfl : I = 0 := by rw [← HI.out, hm]; rfl
    obtain rfl : yd = false := by rw [HYD.out, hy]
    obtain rfl : xd = false := by rw [HXD.out]; exact hx2
    obtain ⟨hW0, hxb, hsz⟩ := HL.out.al hlo
    obtain ⟨bl, hbl⟩ : ∃ bl, bl = x.b.length := ⟨_, rfl⟩
    rw [← hbl] at hsz
    have hblr : bl ≤ 20000 := by have := HC.out.le; omega
    subst hsz hlo
    have hr2 : x.b.length + (Wl.fr q).length ≤ rm := by rw [← HC.out.room]; exact hroom
    have HZ : Hid (∀ X, (∀ k ∈ G ++ F2, k ≠ f → X.heap[k]? = w2''.heap[k]?) → Below K w2'' X → Ft X K f (G ++ F2) T (S ++ [q]) W arm ((bl : Int) + 8 + (q.length : Int)) false → Fp w K e p f x T arm rm g X) := fun X hk hb ft => by
      have hM := HMID.out
      rw [hy] at hM
      have hfl : x.b ++ Wl.fr q = Wl.flat (T ++ (S ++ [q])) := by rw [hxb, ← List.append_assoc, Wl.flat_snoc]
      have hfits : ∀ p ∈ T ++ (S ++ [q]), Wl.fit p.length = true := fun p hp' => by
        rw [← List.append_assoc] at hp'
        rcases List.mem_append.1 hp' with h5 | h5
        · exact HC.out.cr.fits p (List.mem_append_left _ h5)
        · rw [List.mem_singleton.1 h5, Wl.fit_iff]; omega
      refine hM.fin hk hb ft ?_ ?_ (HARM.out a' hM.arms) ?_ ?_ (fun _ => ⟨hW0, hfl, ?_⟩)
      · rw [hW0]
        exact Cr.whole rfl hfl hfits
      · show (x.b ++ Wl.fr q).length ≤ rm
        rw [List.length_append]; exact hr2
      · show n + 1 = _
        rw [HL.out.n, ← List.append_assoc, List.length_append (bs := [q])]; rfl
      · show z + (Wl.fr q).length = _
        rw [HL.out.z, ← hfl, hxb, List.length_append]
      · show _ = ((x.b ++ Wl.fr q).length : Int)
        rw [List.length_append, HFRL.out, ← hbl]; omega
    have hqn : uS.length ≤ 20000 := by have := HC.out.flat; have := HXX.out.s.len; omega
    have hown := HXX.out.s.row
    clear hp hd hy hm hxx hx2 HFT5 HB5 HARM y2 y4 hroom hr2 hW0 hxb hbl f5 eW HI HYM HYD HXD HCASE HM4 HX
    subst eS
    go_wp2_with (at_builtin; refine wpList_append_own_at _ rfl _ _ 28 rfl 0 22 i0 (.slice none 0 0) 1 24 Tryd.underlying28 hi hz0 hz1 hz2 rfl (by decide) _ _ _ rfl (hown.alloc _) ⟨w2''.heap.size, 0, none⟩ 1 1 [.slice o1 q.length c1] rfl rfl ?c1 ?c2 ?c3 ?c4 ?c5 ?_)
    case c1 => exact cell_one_new _ _ _
    case c2 => intro u hu; simp at hu; subst hu; rfl
    case c3 => unfold maxLen; omega
    case c4 => omega
    case c5 => exact Nat.zero_le _
    intro v' w3 hown' hgrow _ hat
    have hpu := HXX.out.pushS hown' hgrow hat HONE.out.1 HONE.out.2 HMID.out.gl HMID.out.er.size
    obtain ⟨o', c', hv'⟩ : ∃ o' c', v' = .slice o' (uS.length + 1) c' := by
      obtain ⟨o', c', h5, _⟩ := own_capF hown'
      exact ⟨o', c', h5⟩
    have y1' : w3.cell? ⟨f, 1, none⟩ = some (.slice oS S.length cS) := cell_of hpu.cell 1
    have f1' : w3.frozen? ⟨f, 1, none⟩ = false := free_of hpu.cell 1
    have hA1 := ft_set1 hpu.cell v'
    subst hv'
    have y4' : (w3.setCell ⟨f, 1, none⟩ (.slice o' (uS.length + 1) c')).cell? ⟨f, 4, none⟩ = some (.int .i64 (bl : Int)) := cell_of hA1 4
    have f4' : (w3.setCell ⟨f, 1, none⟩ (.slice o' (uS.length + 1) c')).frozen? ⟨f, 4, none⟩ = false := free_of hA1 4
    have hA2 := ft_set4 hA1 ((bl : Int) + 8 + (q.length : Int))
    obtain ⟨X, hX⟩ : ∃ X, X = (w3.setCell ⟨f, 1, none⟩ (.slice o' (uS.length + 1) c')).setCell ⟨f, 4, none⟩ (.int .i64 ((bl : Int) + 8 + (q.length : Int))) := ⟨_, rfl⟩
    have y5' : ((w3.setCell ⟨f, 1, none⟩ (.slice o' (uS.length + 1) c')).setCell ⟨f, 4, none⟩ (.int .i64 ((bl : Int) + 8 + (q.length : Int)))).cell? ⟨f, 5, none⟩ = some (.bool false) := cell_of hA2 5
    have hfr3 : Fr [f] w3 X := by rw [hX]; exact ((Fr.refl _ _).set ⟨f, 1, none⟩ _ (Or.inl (by simp))).set ⟨f, 4, none⟩ _ (Or.inl (by simp))
    have HFIN : Hid (Fp w K e p f x T arm rm g X) := by
      refine HZ.out X (fun k hk hne => ?_) ?_ ?_
      · rw [hfr3.block k (by have := HMID.out.gl k hk; have := hpu.fr.size; omega) (by simp [hne])]
        exact hpu.keep k hk
      · refine ⟨(hfr3.os).trans hpu.fr.os, hfr3.tape.trans hpu.fr.tape, hfr3.output.trans hpu.fr.output, Nat.le_trans hpu.fr.size hfr3.size, fun k hk => ?_⟩
        have h6 := HMID.out.er.size
        rw [hfr3.block k (by have := hpu.fr.size; omega) (fun hm => by rw [List.mem_singleton.1 hm] at hk; have := HKF.out; omega)]
        exact hpu.fr.block k (by omega) (fun hm => by have := HXX.out.low k (by simpa using hm); omega)
      · rw [← hX] at hA2
        exact ⟨vT, _, vW, uT, _, uW, hA2, hpu.t.fr hfr3 HSF.out (fun _ h => Or.inl h), hpu.s.fr hfr3 HSF.out (fun _ h => Or.inl h), hpu.y.fr hfr3 HSF.out (fun _ h => Or.inl h), HXX.out.mem, hpu.ts, hpu.ys, HXX.out.nil, hpu.low⟩
    have HXE := hide hX
    clear hown' hgrow hat hpu hA1 hA2 hfr3 hX HZ hown
    go_wp2_with fail
    rw [← HXE.out]
    go_ret
    exact ⟨rfl, HFIN.out⟩
  · obtain ⟨hy, hm⟩ := Prod.mk.inj hp
    have hlo : lost = false := hd
    have hx2 : x.d = false := hxx
    obtain rfl : I = 9 := by rw [← HI.out, hm]; rfl
    obtain rfl : yd = false := by rw [HYD.out, hy]
    obtain rfl : xd = false := by rw [HXD.out]; exact hx2
    obtain ⟨hW0, hxb, hsz⟩ := HL.out.al hlo
    obtain ⟨bl, hbl⟩ : ∃ bl, bl = x.b.length := ⟨_, rfl⟩
    rw [← hbl] at hsz
    have hblr : bl ≤ 20000 := by have := HC.out.le; omega
    have hr2 : rm < x.b.length + (Wl.fr q).length := by rw [← HC.out.room]; exact hroom
    have hr3 : (rm : Int) < (bl : Int) + 8 + (q.length : Int) := by rw [HFRL.out] at hr2; omega
    have z3 : decide ((rm : Int) < (bl : Int) + 8 + (q.length : Int)) = true := decide_eq_true hr3
    have HZ : Hid (Fp w K e p f x T arm rm g w2'') := by
      have hM := HMID.out
      rw [hy] at hM
      refine hM.fin (fun _ _ _ => rfl) (Below.refl _ _) (S' := S) (W' := W) (sz' := sz) ?_ (HC.out.cr.of rfl (by show x.b.length = x.s; exact HC.out.cr.syn.symm)) HC.out.le (HARM.out a' hM.arms) HL.out.n HL.out.z (fun _ => HL.out.al hlo)
      show Ft _ K f _ T S W arm sz false
      rw [← hlo]
      exact ⟨_, _, _, _, _, _, HXX.out⟩
    subst hsz hlo
    clear hp hd hy hm hxx hx2 HFT5 HB5 HARM y1 y2 f5 eS eW hroom hr2 hW0 hxb hbl
    go_wp2_with fail
    go_ret
    exact ⟨rfl, HZ.out⟩
  · obtain ⟨hy, hm⟩ := Prod.mk.inj hp
    have hlo : lost = false := hd
    have hx2 : x.d = false := hxx
    obtain rfl : I = 10 := by rw [← HI.out, hm]; rfl
    obtain rfl : yd = true := by rw [HYD.out, hy]
    obtain rfl : xd = false := by rw [HXD.out]; exact hx2
    obtain ⟨hW0, hxb, hsz⟩ := HL.out.al hlo
    have hv0 := HXX.out.nil hW0
    have HZ : Hid (∀ X, (∀ k ∈ G ++ F2, k ≠ f → X.heap[k]? = w2''.heap[k]?) → Below K w2'' X → Ft X K f (G ++ F2) T S [q] arm sz true → Fp w K e p f x T arm rm g X) := fun X hk hb ft => by
      have hM := HMID.out
      rw [hy] at hM
      refine hM.fin hk hb ft ⟨rfl, ⟨m', by rw [← hxb]; exact hmm, ?_⟩, Nat.le_refl _, fun p hp' => ?_⟩ ?_ (HARM.out a' hM.arms) HL.out.n HL.out.z (fun h => by cases h)
      · show (x.b ++ Wl.fr q).take m' = _
        rw [hxb, Wl.flat_snoc]
      · rcases List.mem_append.1 hp' with h5 | h5
        · exact HC.out.cr.fits p (List.mem_append_left _ h5)
        · rw [List.mem_singleton.1 h5, Wl.fit_iff]; omega
      · have h5 : ((x.b ++ Wl.fr q).take m').length ≤ x.r := hlr
        rw [HC.out.room] at h5
        exact h5
    subst hlo
    clear hp hd hy hm hxx hx2 HFT5 HB5 HARM y1 y4 eS hxb hsz
    subst hv0
    obtain rfl : uW = [] := List.eq_nil_of_length_eq_zero (by rw [HXX.out.y.len, hW0]; rfl)
    clear eW hW0
    go_wp2_with (at_builtin; refine wpList_append_own_at _ rfl _ _ 28 rfl 0 22 i0 (.slice none 0 0) 1 24 Tryd.underlying28 hi hz0 hz1 hz2 rfl (by decide) _ _ _ rfl (World.ownsRow_nil _ _ _ _) ⟨w2''.heap.size, 0, none⟩ 1 1 [.slice o1 q.length c1] rfl rfl ?e1 ?e2 ?e3 ?e4 ?e5 ?_)
    case e1 => exact cell_one_new _ _ _
    case e2 => intro u hu; simp at hu; subst hu; rfl
    case e3 => unfold maxLen; omega
    case e4 => omega
    case e5 => exact Nat.zero_le _
    intro v' w3 hown' hgrow _ hat
    have hat2 : v'.ownBlock = some (w2''.heap.size + 1) := by
      rcases hat with h5 | h5
      · rcases hown'.2 with ⟨_, h6⟩ | ⟨_, _, _, h6, _⟩
        · cases h6
        · rw [h6] at h5; cases h5
      · exact h5
    have hpw : Rw w3 (G ++ F2) v' [.slice o1 q.length c1] [q] := (rw_nil w2'' (G ++ F2)).push hown' hgrow (Or.inr hat2) HONE.out.1 HONE.out.2 HMID.out.gl
    have hfr2 : Fr [] w2'' w3 := grown_fr hgrow
    obtain ⟨o', c', hv', _⟩ := own_capF hown'
    subst hv'
    have hA0 := HXX.out.cell.fr hfr2 (by simp)
    have y2' : w3.cell? ⟨f, 2, none⟩ = some (.slice none 0 0) := cell_of hA0 2
    have f2' : w3.frozen? ⟨f, 2, none⟩ = false := free_of hA0 2
    have hA1 := ft_set2 hA0 (.slice o' 1 c')
    have y5' : (w3.setCell ⟨f, 2, none⟩ (.slice o' 1 c')).cell? ⟨f, 5, none⟩ = some (.bool false) := cell_of hA1 5
    have f5' : (w3.setCell ⟨f, 2, none⟩ (.slice o' 1 c')).frozen? ⟨f, 5, none⟩ = false := free_of hA1 5
    have hA2 := ft_set5 hA1 true
    obtain ⟨X, hX⟩ : ∃ X, X = (w3.setCell ⟨f, 2, none⟩ (.slice o' 1 c')).setCell ⟨f, 5, none⟩ (.bool true) := ⟨_, rfl⟩
    have hfr3 : Fr [f] w3 X := by rw [hX]; exact ((Fr.refl _ _).set ⟨f, 2, none⟩ _ (Or.inl (by simp))).set ⟨f, 5, none⟩ _ (Or.inl (by simp))
    have hfrX : Fr [f] w2'' X := (hfr2.mono (fun k hk => by cases hk)).trans hfr3 (fun i hi => Or.inl hi)
    have HFIN : Hid (Fp w K e p f x T arm rm g X) := by
      refine HZ.out X (fun k hk hne => hfrX.block k (HMID.out.gl k hk) (by simp [hne])) (hfrX.below (fun k hk => by rw [List.mem_singleton.1 hk]; exact HKF.out) HMID.out.er.size) ?_
      rw [← hX] at hA2
      refine ⟨vT, vS, _, uT, uS, _, hA2, HXX.out.t.fr hfrX HSF.out (fun _ h => Or.inl h), HXX.out.s.fr hfrX HSF.out (fun _ h => Or.inl h), hpw.fr hfr3 HSF.out (fun _ h => Or.inl h), HXX.out.mem, HXX.out.ts, fun b hb => ?_, fun h => (by cases h), HXX.out.low⟩
      intro h5
      rw [hat2] at h5
      cases h5
      have := HXX.out.s.lt _ hb
      omega
    have HXE := hide hX
    clear hown' hgrow hat hat2 hpw hfr2 hA0 hA1 hA2 hfr3 hfrX hX HZ y2 y5 f5
    go_wp2_with fail
    rw [← HXE.out]
    go_ret
    exact ⟨rfl, HFIN.out⟩
end Go.Proofs.YtgmgffcfmopgmaaDoor.wl
