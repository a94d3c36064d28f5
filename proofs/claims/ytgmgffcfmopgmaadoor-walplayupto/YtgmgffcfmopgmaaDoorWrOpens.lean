import Derived.Test.YtgmgffcfmopgmaaDoorWrPair
import Derived.Test.YtgmgffcfmopgmaaDoorWlRows
import Derived.Test.YtgmgffcfmopgmaaDoorWlFullL
namespace Go.Proofs.YtgmgffcfmopgmaaDoor.wl
open Go.ChangeShapes Go.WideShapes Go.ChangeAt Go.RowKit Go.Proofs.YtgmgffcfmopgmaaDoor.common Go.Proofs.YtgmgffcfmopgmaaDoor.dk Go.Proofs.YtgmgffcfmopgmaaDoor.dr

theorem num_four (w : World) (e : Nat → Addr) (h : errw.Errs w e) (n : Nat) (hn : n = 0 ∨ n = 1 ∨ n = 9 ∨ n = 10) : Calls Tryd.prog 23 #[errV e n] w fun r' w' => r' = .returned (.int .i64 (n : Int)) ∧ w' = w := by
  rcases hn with rfl | rfl | rfl | rfl
  · exact errw.num_nil w
  · exact errw.num_0 w e h
  · exact errw.num_8 w e h
  · exact errw.num_9 w e h
theorem app_num (x : St) (l : List UInt8) : (x.append l).2 = 0 ∨ (x.append l).2 = 9 ∨ (x.append l).2 = 10 := by
  have h5 := oper_num x (fun y => y.put l) (fun y => y.put l) (if x.fits l then 0 else 9)
  have e5 : (x.append l).2 = (x.oper (fun y => y.put l) (fun y => y.put l) (if x.fits l then 0 else 9)).2 := rfl
  rw [e5]
  rcases h5 with h5 | h5
  · rw [h5]
    split
    · exact Or.inl rfl
    · exact Or.inr (Or.inl rfl)
  · exact Or.inr (Or.inr h5)
theorem wr_num (x : St) (l : List UInt8) : (wrS x l).2 = 0 ∨ (wrS x l).2 = 9 ∨ (wrS x l).2 = 10 := by
  unfold wrS
  split
  · rcases oper_num (x.append l).1 id St.sync 0 with h | h
    · exact Or.inl h
    · exact Or.inr (Or.inr h)
  · exact app_num x l
theorem put_num (y : Lg) (q : List UInt8) : (y.put q).2 = 0 ∨ (y.put q).2 = 1 ∨ (y.put q).2 = 9 ∨ (y.put q).2 = 10 := by
  have h := wr_num y.x (Wl.fr q)
  unfold Lg.put
  split
  · exact Or.inr (Or.inl rfl)
  · split
    · exact Or.inr (Or.inr (Or.inr rfl))
    · split
      · exact Or.inl rfl
      · rcases h with h | h | h
        · exact Or.inl h
        · exact Or.inr (Or.inr (Or.inl h))
        · exact Or.inr (Or.inr (Or.inr h))
theorem put_nz (y : Lg) (q : List UInt8) : (y.put q).1.n ≤ y.n + 1 ∧ (y.put q).1.z ≤ y.z + 8200 := by
  unfold Lg.put
  split
  · exact ⟨Nat.le_succ _, Nat.le_add_right _ _⟩
  · rename_i hf
    split
    · exact ⟨Nat.le_succ _, Nat.le_add_right _ _⟩
    · split
      · refine ⟨Nat.le_refl _, ?_⟩
        have h1 := ((Wl.fit_iff _).1 (by cases h : Wl.fit q.length with | true => rfl | false => exact absurd h hf)).2
        have h2 := Wl.fr_len q
        show y.z + (Wl.fr q).length ≤ _
        omega
      · exact ⟨Nat.le_succ _, Nat.le_add_right _ _⟩
theorem put_keeps (y : Lg) (q : List UInt8) (hx : Fine y.x) (hl : y.x.b.length ≤ 1074790400) : Fine (y.x.append (Wl.fr q)).1 ∧ Fine (y.put q).1.x ∧ (y.put q).1.x.a.length ≤ y.x.a.length ∧ (y.put q).1.x.b.length ≤ 1074790400 := by
  have ap : ∀ (x : St) (l : List UInt8), Fine x → x.Ok 1074790400 → Fine (x.append l).1 ∧ (x.append l).1.a.length ≤ x.a.length ∧ (x.append l).1.Ok 1074790400 := fun x l h ho =>
    ⟨⟨h.ok.oper (fun y hy => hy.put _ (by decide)) (fun y hy => hy.put _ (by decide)), oper_mem (fun y => put_arms y _) (fun y => put_arms y _) h.arms (fun n k hn => by dsimp only at hn ⊢; omega), oper_mem (fun y => put_arms y _) (fun y => put_arms y _) h.keep (fun n k hn => hn)⟩, oper_arms x _ _ _ (fun y => put_arms y _) (fun y => put_arms y _), ho.oper (fun y hy => hy.put _ (by decide)) (fun y hy => hy.put _ (by decide))⟩
  have sy : ∀ (x : St), Fine x → x.Ok 1074790400 → Fine x.syncs.1 ∧ x.syncs.1.a.length ≤ x.a.length ∧ x.syncs.1.Ok 1074790400 := fun x h ho =>
    ⟨⟨h.ok.oper (fun y hy => hy) (fun y hy => hy.sync), oper_mem (dying := id) (on := St.sync) (fun y => rfl) (fun y => rfl) h.arms (fun n k hn => by dsimp only at hn ⊢; omega), oper_mem (dying := id) (on := St.sync) (fun y => rfl) (fun y => rfl) h.keep (fun n k hn => hn)⟩, oper_arms x _ _ _ (fun y => rfl) (fun y => rfl), ho.oper (fun y hy => hy) (fun y hy => hy.sync)⟩
  have h0 : y.x.Ok 1074790400 := ⟨hx.ok.syn, hx.ok.room, hl⟩
  have wr : Fine (wrS y.x (Wl.fr q)).1 ∧ (wrS y.x (Wl.fr q)).1.a.length ≤ y.x.a.length ∧ (wrS y.x (Wl.fr q)).1.b.length ≤ 1074790400 := by
    unfold wrS
    split
    · have h1 := ap y.x (Wl.fr q) hx h0
      have h2 := sy _ h1.1 h1.2.2
      exact ⟨h2.1, Nat.le_trans h2.2.1 h1.2.1, h2.2.2.most⟩
    · have h1 := ap y.x (Wl.fr q) hx h0
      exact ⟨h1.1, h1.2.1, h1.2.2.most⟩
  refine ⟨(ap y.x _ hx h0).1, ?_⟩
  unfold Lg.put
  split
  · exact ⟨hx, Nat.le_refl _, hl⟩
  · split
    · exact ⟨hx, Nat.le_refl _, hl⟩
    · split
      · exact wr
      · exact wr

/-- the two logs beside the two disks -/
structure Lw (base : Nat) (w : World) (p pc : Nat) (F Fc : List Nat) (g g' n z : Nat) (d : Bool) : Prop where
  lg : LgAt w g p n z d
  lr : LrAt w g' pc n z d
  f1 : g ∉ F
  f2 : g ∉ Fc
  f3 : g' ∉ F
  f4 : g' ∉ Fc
  ne : g ≠ g'
  b1 : base ≤ g
  b2 : base ≤ g'
theorem Lw.l1 {base : Nat} {w : World} {p pc : Nat} {F Fc : List Nat} {g g' n z : Nat} {d : Bool} (h : Lw base w p pc F Fc g g' n z d) : g < w.heap.size := (Array.getElem?_eq_some_iff.1 h.lg).1
theorem Lw.l2 {base : Nat} {w : World} {p pc : Nat} {F Fc : List Nat} {g g' n z : Nat} {d : Bool} (h : Lw base w p pc F Fc g g' n z d) : g' < w.heap.size := (Array.getElem?_eq_some_iff.1 h.lr).1
theorem Lw.keep {base : Nat} {w w' : World} {p pc : Nat} {F Fc : List Nat} {g g' n z : Nat} {d : Bool} (h : Lw base w p pc F Fc g g' n z d) (hb : Below w.heap.size w w') : Lw base w' p pc F Fc g g' n z d :=
  ⟨(hb.block g h.l1).trans h.lg, (hb.block g' h.l2).trans h.lr, h.f1, h.f2, h.f3, h.f4, h.ne, h.b1, h.b2⟩
/-- the logs behind a step of the disks alone -/
theorem Lw.step {base : Nat} {w w' : World} {p pc : Nat} {F Fc F' Fc' : List Nat} {g g' n z : Nat} {d : Bool} (h : Lw base w p pc F Fc g g' n z d) (hf : Fr (F ++ Fc) w w') (hs : ∀ q ∈ F' ++ Fc', q ∈ F ++ Fc ∨ w.heap.size ≤ q) : Lw base w' p pc F' Fc' g g' n z d := by
  have h1 : g ∉ F ++ Fc := fun hm => by rcases List.mem_append.1 hm with h5 | h5; exact h.f1 h5; exact h.f2 h5
  have h2 : g' ∉ F ++ Fc := fun hm => by rcases List.mem_append.1 hm with h5 | h5; exact h.f3 h5; exact h.f4 h5
  have h3 : g ∉ F' ++ Fc' := fun hm => by
    rcases hs g hm with h5 | h5
    · exact h1 h5
    · have := h.l1; omega
  have h4 : g' ∉ F' ++ Fc' := fun hm => by
    rcases hs g' hm with h5 | h5
    · exact h2 h5
    · have := h.l2; omega
  exact ⟨(hf.block g h.l1 h1).trans h.lg, (hf.block g' h.l2 h2).trans h.lr, fun hm => h3 (List.mem_append_left _ hm), fun hm => h3 (List.mem_append_right _ hm), fun hm => h4 (List.mem_append_left _ hm), fun hm => h4 (List.mem_append_right _ hm), h.ne, h.b1, h.b2⟩
/-- both behind a Put to each -/
theorem Wp.puts {base : Nat} {W0 w w1 w2 : World} {e : Nat → Addr} {p pc : Nat} {F Fc F1 Fc2 : List Nat} {x : St} {k : Nat} (h : Wp base W0 w e p pc F Fc x k) {g g' n z : Nat} {d : Bool} (hL : Lw base w p pc F Fc g g' n z d) (y : Lg)
    (h1 : LgD w1 g p F1 y) (f1 : Fr (g :: F) w w1) (s1 : ∀ k ∈ F1, k ∈ F ∨ w.heap.size ≤ k) (h2 : Dq w2 pc Fc2 (sq y.x)) (l2 : LrAt w2 g' pc y.n y.z y.d) (hg2 : g' ∉ Fc2) (f2 : Fr (g' :: Fc) w1 w2) (s2 : ∀ k ∈ Fc2, k ∈ Fc ∨ w1.heap.size ≤ k) (hf : Fine y.x) (ha : y.x.a.length ≤ k) (hl : y.x.b.length ≤ 1074790400) :
    Wp base W0 w2 e p pc F1 Fc2 y.x k ∧ Lw base w2 p pc F1 Fc2 g g' y.n y.z y.d := by
  have hd1 : ∀ q ∈ F1, q ∉ g' :: Fc := fun q hq hm => by
    rcases List.mem_cons.1 hm with h6 | h6
    · rcases s1 q hq with h5 | h5
      · exact hL.f3 (by rw [← h6]; exact h5)
      · have := hL.l2; omega
    · rcases s1 q hq with h5 | h5
      · exact h.dis q h5 h6
      · have := h.c.lt q h6; omega
  have k1 : ∀ q ∈ g :: F, base ≤ q := fun q hq => by
    rcases List.mem_cons.1 hq with h6 | h6
    · rw [h6]; exact hL.b1
    · exact h.ld q h6
  have k2 : ∀ q ∈ g' :: Fc, base ≤ q := fun q hq => by
    rcases List.mem_cons.1 hq with h6 | h6
    · rw [h6]; exact hL.b2
    · exact h.lc q h6
  have er1 := h.er.fr f1 k1
  have hgl1 : g < w1.heap.size := Nat.lt_of_lt_of_le hL.l1 f1.size
  have hgn : g ∉ g' :: Fc := fun hm => by
    rcases List.mem_cons.1 hm with h6 | h6
    · exact hL.ne h6
    · exact hL.f2 h6
  refine ⟨⟨h1.1.other f2 hd1, h2, fun q hq => ?_, fun q hq => ?_, er1.fr f2 k2, hf, ha, fun q hq hm => ?_, (h.low.trans (f1.below k1 h.er.size)).trans (f2.below k2 er1.size), hl⟩, ⟨(f2.block g hgl1 hgn).trans h1.2.1, l2, h1.2.2, fun hm => ?_, fun hm => hd1 g' hm (List.mem_cons_self ..), hg2, hL.ne, hL.b1, hL.b2⟩⟩
  · rcases s1 q hq with h5 | h5
    · exact h.ld q h5
    · exact Nat.le_trans h.er.size h5
  · rcases s2 q hq with h5 | h5
    · exact h.lc q h5
    · exact Nat.le_trans er1.size h5
  · rcases s2 q hm with h5 | h5
    · exact hd1 q hq (List.mem_cons_of_mem _ h5)
    · have := h1.1.lt q hq; omega
  · rcases s2 g hm with h5 | h5
    · exact hL.f2 h5
    · omega
/-- both behind changes of a block that is neither's -/
theorem Wp.aside {base : Nat} {W0 w w' : World} {e : Nat → Addr} {p pc : Nat} {F Fc : List Nat} {x : St} {k : Nat} (h : Wp base W0 w e p pc F Fc x k) {g g' n z : Nat} {d : Bool} (hL : Lw base w p pc F Fc g g' n z d) (q : Nat) (hf : Fr [q] w w') (h1 : q ∉ F) (h2 : q ∉ Fc) (h3 : g ≠ q) (h4 : g' ≠ q) (h5 : base ≤ q) : Wp base W0 w' e p pc F Fc x k ∧ Lw base w' p pc F Fc g g' n z d := by
  have k1 : ∀ i ∈ [q], base ≤ i := fun i hi => by rw [List.mem_singleton.1 hi]; exact h5
  exact ⟨⟨h.d.other hf (fun i hi hm => h1 (by rw [← List.mem_singleton.1 hm]; exact hi)), h.c.other hf (fun i hi hm => h2 (by rw [← List.mem_singleton.1 hm]; exact hi)), h.ld, h.lc, h.er.fr hf k1, h.fine, h.arms, h.dis, h.low.trans (hf.below k1 h.er.size), h.len⟩,
    ⟨(hf.block g hL.l1 (fun hm => h3 (List.mem_singleton.1 hm))).trans hL.lg, (hf.block g' hL.l2 (fun hm => h4 (List.mem_singleton.1 hm))).trans hL.lr, hL.f1, hL.f2, hL.f3, hL.f4, hL.ne, hL.b1, hL.b2⟩⟩
/-- behind the law's put -/
def Lpt (base : Nat) (W0 : World) (e : Nat → Addr) (p pc g g' k : Nat) (y : Lg) (w' : World) : Prop := ∃ F' Fc', Wp base W0 w' e p pc F' Fc' y.x k ∧ Lw base w' p pc F' Fc' g g' y.n y.z y.d

set_option maxRecDepth 100000 in
set_option maxHeartbeats 6400000 in
theorem lput_any {base : Nat} {W0 w : World} {e : Nat → Addr} {p pc : Nat} {F Fc : List Nat} {x : St} {k : Nat} (h : Wp base W0 w e p pc F Fc x k) {g g' n z : Nat} {d : Bool} (hL : Lw base w p pc F Fc g g' n z d) (ht : crcw.Tab w) (v : Value) (l : List UInt8) (hv : Rd w v l) (hl : l.length ≤ 140737488351232) (hj : (k + 1) * 16 ≤ 140737488355328) (hn : n ≤ 4611686018427387904) (hz : z ≤ 4611686018427387904) :
    Calls Tryd.prog 34 #[ptr g, ptr g', v] w fun r' w' => r' = .returned (.bool true) ∧ Lpt base W0 e p pc g g' k (Lg.put ⟨x, n, z, d⟩ l).1 w' := by
  obtain ⟨hk1, hk2, hk3, hk4⟩ := put_keeps ⟨x, n, z, d⟩ l h.fine h.len
  have HK2 := hide hk2
  have HK4 := hide hk4
  have HK3 : Hid ((Lg.put ⟨x, n, z, d⟩ l).1.x.a.length ≤ k) := Nat.le_trans hk3 h.arms
  have HNUM := hide (put_num ⟨x, n, z, d⟩ l)
  have HP : Hid (∀ Y, Below w.heap.size w Y → ∀ u, Rd Y u l → Calls Tryd.prog 22 #[ptr g, u] Y fun r' w' => ∃ F', r' = .returned (errV e (Lg.put ⟨x, n, z, d⟩ l).2) ∧ LgD w' g p F' (Lg.put ⟨x, n, z, d⟩ l).1 ∧ Fr (g :: F) Y w' ∧ ∀ k ∈ F', k ∈ F ∨ Y.heap.size ≤ k) := fun Y hY u hu =>
    put_any Y base p g F ⟨x, n, z, d⟩ ⟨h.d.below hY, (hL.keep hY).lg, hL.f1⟩ u l hu (by omega) (ht.below hY ht.lt) e (h.er.below hY) h.ld h.fine hk1 hn hz
  have hja : (x.a.length + 1) * 16 ≤ 140737488355328 := Nat.le_trans (Nat.mul_le_mul_right 16 (Nat.succ_le_succ h.arms)) hj
  have HQ : Hid (∀ Y Z, Below w.heap.size w Y → Fr (g :: F) Y Z → ∀ u, Rd Z u l → Calls Tryd.prog 55 #[ptr g', u] Z fun r' w' => Rp Z g' pc Fc (Lg.put ⟨x, n, z, d⟩ l) r' w') := fun Y Z hY hZ u hu => by
    have h5 : ∀ q ∈ Fc, q ∉ g :: F := fun q hq hm => by
      rcases List.mem_cons.1 hm with h6 | h6
      · exact hL.f2 (by rw [← h6]; exact hq)
      · exact h.dis q h6 hq
    have h7 : g' ∉ g :: F := fun hm => by
      rcases List.mem_cons.1 hm with h6 | h6
      · exact hL.ne h6.symm
      · exact hL.f3 h6
    exact rput_any Z pc g' Fc ⟨x, n, z, d⟩ ((h.c.below hY).other hZ h5) ((hZ.block g' (hL.keep hY).l2 h7).trans (hL.keep hY).lr) hL.f4 u l hu (by omega) h.fine hk1 hja hn hz
  have HW := hide h
  have HL := hide hL
  have hgl := hL.l1
  have hgl' := hL.l2
  have HFl := hide h.d.lt
  have HFcl := hide h.c.lt
  have hbw : base ≤ w.heap.size := h.er.size
  obtain ⟨yy, nn, hyn⟩ : ∃ yy nn, Lg.put ⟨x, n, z, d⟩ l = (yy, nn) := ⟨_, _, rfl⟩
  rw [hyn] at HK2 HK4 HK3 HNUM HP HQ ⊢
  dsimp only at HK2 HK4 HK3 HNUM HP ⊢
  have HR := hide hv
  obtain ⟨i0, hi, hz0, hz1, hz2⟩ := info_parts info8
  obtain ⟨oa, cap, rfl⟩ := hv.len
  clear hyn hk1 hk2 hk3 hk4 h hL hv ht hja
  go_enter Tryd.func34, Tryd.ntmps34
  go_wp2_with fail
  refine (copy_any w _ l HR.out (by omega)).mono ?_
  rintro r w1 ⟨v1, rfl, h1, b1⟩
  have H1 := hide (ow_of h1)
  have HB1 := hide b1
  obtain ⟨o1, c1, rfl⟩ := (rd_own h1).len
  clear h1 b1
  go_wp2_with fail
  refine (copy_any w1 _ l (HR.out.below HB1.out) (by omega)).mono ?_
  rintro r w2 ⟨v2, rfl, h2, b2⟩
  have H2 := hide h2
  have HB2 := hide b2
  obtain ⟨o2, c2, rfl⟩ := (rd_own h2).len
  have hs2 := b2.size
  clear h2 b2
  go_wp2_with (at_builtin; refine wpList_append_own _ rfl _ _ 22 rfl w1.heap.size 5 i0 (.int .u8 0) 1 1 Tryd.underlying22 hi hz0 hz1 hz2 rfl (by decide) _ _ _ rfl (H2.out.alloc _) ⟨w2.heap.size, 0, none⟩ 2 2 [.int .u8 170, .int .u8 187] rfl rfl ?c1 ?c2 ?c3 ?c4 ?c5 ?_)
  case c1 => exact World.news_of_block (heap_alloc_new _ _)
  case c2 => exact b_one [170, 187]
  case c3 => unfold maxLen; omega
  case c4 => omega
  case c5 => simp; omega
  intro v3 w3 hown' hgrow _
  have hown3 : w3.ownsRow w1.heap.size 5 1 v3 (l ++ [170, 187]).length ((l ++ [170, 187]).map B) := by
    rw [List.map_append, List.length_append]; exact hown'
  have b3 : Below w1.heap.size w2 w3 := grown_below _ hs2 H2.out hgrow
  have HB3 : Hid (Below w.heap.size w w3) := (keepD HB1.out HB2.out).trans (b3.mono HB1.out.size)
  have H1' := hide ((H1.out.below HB2.out).low b3 (Nat.le_refl _))
  have H3 := hide (ow_of hown3)
  obtain ⟨g3, c3, rfl, hg3, hg3', hcap3⟩ := H3.out.slot (by simp)
  rw [List.length_append] at hcap3
  simp only [List.length_cons, List.length_nil, Nat.zero_add, Nat.reduceAdd] at hcap3
  have hc3 : l.length ≤ c3 := by omega
  have hc3' : (l.length : Int) ≤ (c3 : Int) := by omega
  have HR3 : Hid (Rd w3 (.slice (some ⟨g3, 0, none⟩) l.length c3) l) := by
    have := Rd.take H3.out.rd l.length (by simp) c3
    rwa [List.take_left] at this
  have hl2 : (l ++ [170, 187] : List UInt8).length = l.length + 2 := by simp
  rw [hl2]
  have hsw1 : w.heap.size ≤ w1.heap.size := HB1.out.size
  have HS1 : Hid (w1.heap.size ≤ w3.heap.size) := Nat.le_trans hs2 b3.size
  have HPC := hide (HP.out w3 HB3.out _ HR3.out)
  clear hown' hgrow hown3 b3 H1 H2 hs2 HP
  go_wp2_with fail
  refine HPC.out.mono ?_
  rintro r w4 ⟨F4, rfl, hlg4, f4, s4⟩
  have hlow4 : ∀ q ∈ g :: F, q < w.heap.size := fun q hq => by
    rcases List.mem_cons.1 hq with h6 | h6
    · rw [h6]; exact hgl
    · exact HFl.out q h6
  have H14 := hide (H1'.out.fr f4 (fun q hq => Or.inl (hlow4 q hq)))
  have H34 := hide (H3.out.fr f4 (fun q hq => Or.inl (by have := hlow4 q hq; omega)))
  have HQC := hide (HQ.out w3 w4 HB3.out f4 _ H14.out.rd)
  have HLG4 := hide hlg4
  have HF4 := hide f4
  have HS4 := hide s4
  clear hlg4 f4 s4 hlow4 HPC HQ H1' H3 HR3
  go_wp2_with fail
  refine HQC.out.mono ?_
  rintro r w5 ⟨F5, rfl, hd5, hl5, hg5, f5, s5⟩
  have hlow5 : ∀ q ∈ g' :: Fc, q < w.heap.size := fun q hq => by
    rcases List.mem_cons.1 hq with h6 | h6
    · rw [h6]; exact hgl'
    · exact HFcl.out q h6
  have H15 := hide (H14.out.fr f5 (fun q hq => Or.inl (hlow5 q hq)))
  have H35 := hide (H34.out.fr f5 (fun q hq => Or.inl (by have := hlow5 q hq; omega)))
  have HPU := hide ((HW.out.keep HB3.out).puts (HL.out.keep HB3.out) yy HLG4.out HF4.out HS4.out hd5 hl5 hg5 f5 s5 HK2.out HK3.out HK4.out)
  have hz34 : w3.heap.size ≤ w4.heap.size := HF4.out.size
  have HG4 : Hid (g3 ∉ F4) := fun hm => by
    rcases HS4.out g3 hm with h6 | h6
    · have := HFl.out g3 h6; omega
    · omega
  have HG5 : Hid (g3 ∉ F5) := fun hm => by
    rcases s5 g3 hm with h6 | h6
    · have := HFcl.out g3 h6; omega
    · omega
  have HR5 : Hid (Rd w5 (.slice (some ⟨g3, 0, none⟩) l.length c3) l) := by
    have := Rd.take H35.out.rd l.length (by simp) c3
    rwa [List.take_left] at this
  have HSB := hide (sameBytes_eq w5 _ _ l HR5.out H15.out.rd (by omega))
  clear hd5 hl5 hg5 f5 s5 hlow5 HQC H14 H34 HLG4 HF4 HS4 HW HL HK2 HK3 HK4 hz34 HR5
  go_wp2_with fail
  refine HSB.out.mono ?_
  rintro r w6 ⟨rfl, b6⟩
  have H36 := hide (H35.out.below b6)
  have HWP := hide (HPU.out.1.keep b6)
  have HLW := hide (HPU.out.2.keep b6)
  have q1 := (H36.out.cell l.length (by simp)).1
  have q2 := (H36.out.cell (l.length + 1) (by simp)).1
  have e1 : (l ++ [170, 187])[l.length]'(by simp) = (170 : UInt8) := by simp
  have e2 : (l ++ [170, 187])[l.length + 1]'(by simp) = (187 : UInt8) := by simp
  rw [e1] at q1
  rw [e2] at q2
  have q1' : w6.cell? ⟨g3, l.length, none⟩ = some (.int .u8 170) := q1
  have q2' : w6.cell? ⟨g3, l.length + 1, none⟩ = some (.int .u8 187) := q2
  clear e1 e2 q1 q2 b6 H35 H15 HPU HSB
  go_wp2_with fail
  go_loopw [12] (fun i wr => ∃ k : Nat, k ≤ l.length ∧ i = .int .i64 k ∧ ∃ x : List UInt8, x.length = l.length + 2 ∧ Ow wr w1.heap.size w3.heap.size (.slice (some ⟨g3, 0, none⟩) x.length c3) x ∧ Fr [g3] w6 wr) (fun i _ => l.length - (intOf i).toNat)
  case atStart => exact ⟨0, Nat.zero_le _, rfl, l ++ [170, 187], by simp, H36.out, Fr.refl _ _⟩
  case round =>
    obtain ⟨k, hk, rfl, x, hx, hown, hfr⟩ := hrel
    by_cases hlt : k < l.length
    · have hcl := hown.cell k (by omega)
      have q1 := hcl.1
      have f1 := hcl.2
      have hX := xor255 x[k]
      have HO := hide (hown.set k (x[k] ^^^ 255))
      have HX := hide hfr
      have HL := hide hx
      have k0 : (0 : Int) ≤ (k : Int) := Int.natCast_nonneg _
      have k1 : (k : Int) < (l.length : Int) := by omega
      clear hown hcl hfr
      generalize x[k] = c at *
      generalize hc' : c ^^^ 255 = c' at *
      clear hc' hx
      go_wp2
      go_roundw
      case rel => exact ⟨k + 1, by omega, by go_num, _, by rw [List.length_set]; exact HL.out, HO.out, HX.out.set _ _ (Or.inl (by simp))⟩
      case measure => simp [intOf]; omega
    · obtain rfl : k = l.length := by omega
      obtain ⟨hwp, hlw⟩ := HWP.out.aside HLW.out g3 hfr HG4.out HG5.out (by omega) (by omega) (by omega)
      have HN := hide (num_four wr e hwp.er.errs nn HNUM.out)
      have HC1 := hide (count_any wr g p yy.n yy.z yy.d hlw.lg)
      have HC2 := hide (size_any wr g p yy.n yy.z yy.d hlw.lg)
      have HC3 := hide (rcount_any wr g' pc yy.n yy.z yy.d hlw.lr)
      have HC4 := hide (rsize_any wr g' pc yy.n yy.z yy.d hlw.lr)
      have HZ : Hid (Lpt base W0 e p pc g g' _ yy wr) := ⟨_, _, hwp, hlw⟩
      clear hwp hlw hown hfr hx HWP HLW HNUM H36 q1' q2'
      go_wp2_with (first
        | (go_at_call 23; refine HN.out.mono ?_; rintro r' w7 ⟨rfl, rfl⟩)
        | (go_at_call 18; refine HC1.out.mono ?_; rintro r' w7 ⟨rfl, rfl⟩)
        | (go_at_call 19; refine HC2.out.mono ?_; rintro r' w7 ⟨rfl, rfl⟩)
        | (go_at_call 35; refine HC3.out.mono ?_; rintro r' w7 ⟨rfl, rfl⟩)
        | (go_at_call 36; refine HC4.out.mono ?_; rintro r' w7 ⟨rfl, rfl⟩))
      go_ret
      exact ⟨by simp, HZ.out⟩
end Go.Proofs.YtgmgffcfmopgmaaDoor.wl

namespace Go.Proofs.YtgmgffcfmopgmaaDoor.wl
open Go.ChangeShapes Go.WideShapes Go.ChangeAt Go.RowKit Go.Proofs.YtgmgffcfmopgmaaDoor.common Go.Proofs.YtgmgffcfmopgmaaDoor.dk Go.Proofs.YtgmgffcfmopgmaaDoor.dr

/-- a step of the law as a step of a disk -/
def spOf (s : Stp) : Sp := ⟨if s.k = 3 then 6 else if s.k = 4 then 5 else if s.k = 5 then 8 else if s.k = 6 then 1 else if s.k = 7 then 4 else 0, 0, s.n, s.m, ⟨s.q.toArray⟩⟩
def pwS (x : St) (s : Stp) : St := (x.step (spOf s)).1
theorem pw3 (x : St) (s : Stp) (h : s.k = 3) : pwS x s = x.crash s.n := by unfold pwS spOf; rw [if_pos h]; simp [St.step]
theorem pw4 (x : St) (s : Stp) (h : s.k = 4) : pwS x s = x.arm s.n s.m := by unfold pwS spOf; rw [if_neg (by rw [h]; decide), if_pos h]; simp [St.step]
theorem pw5 (x : St) (s : Stp) (h : s.k = 5) : pwS x s = x.revive := by unfold pwS spOf; rw [if_neg (by rw [h]; decide), if_neg (by rw [h]; decide), if_pos h]; simp [St.step]
theorem pw6 (x : St) (s : Stp) (h : s.k = 6) : pwS x s = (x.append s.q).1 := by unfold pwS spOf; rw [if_neg (by rw [h]; decide), if_neg (by rw [h]; decide), if_neg (by rw [h]; decide), if_pos h]; simp [St.step]
theorem pw7 (x : St) (s : Stp) (h : s.k = 7) : pwS x s = (x.trunc s.n).1 := by unfold pwS spOf; rw [if_neg (by rw [h]; decide), if_neg (by rw [h]; decide), if_neg (by rw [h]; decide), if_neg (by rw [h]; decide), if_pos h]; simp [St.step]
theorem pw0 (x : St) (s : Stp) (h3 : s.k ≠ 3) (h4 : s.k ≠ 4) (h5 : s.k ≠ 5) (h6 : s.k ≠ 6) (h7 : s.k ≠ 7) : pwS x s = x := by unfold pwS spOf; rw [if_neg h3, if_neg h4, if_neg h5, if_neg h6, if_neg h7]; simp [St.step]
theorem pw_fine {x : St} (h : Fine x) (s : Stp) (hs : StpOk s) : Fine (pwS x s) := Fine.step h (spOf s) hs.2.1 hs.2.2.1 hs.2.2.2
theorem pw_arms (x : St) (s : Stp) : (pwS x s).a.length ≤ x.a.length + 1 := step_arms x (spOf s)
theorem pw_len {x : St} (h : Fine x) (s : Stp) (hl : x.b.length ≤ 1074790400) : (pwS x s).b.length ≤ 1074790400 := by
  have h1 : x.Ok 1074790400 := ⟨h.ok.syn, h.ok.room, hl⟩
  exact (h1.step (by decide) (spOf s)).most
/-- behind a step that touches the disks alone -/
def Pw (base : Nat) (W0 w : World) (e : Nat → Addr) (p pc : Nat) (F Fc : List Nat) (x' : St) (j : Nat) (w' : World) : Prop :=
  ∃ F' Fc', Wp base W0 w' e p pc F' Fc' x' j ∧ Fr (F ++ Fc) w w' ∧ ∀ q ∈ F' ++ Fc', q ∈ F ++ Fc ∨ w.heap.size ≤ q
theorem Pw.back {base : Nat} {W0 w V w' : World} {e : Nat → Addr} {p pc : Nat} {F Fc : List Nat} {x' : St} {j : Nat} (h : Pw base W0 V e p pc F Fc x' j w') (hb : Below w.heap.size w V) : Pw base W0 w e p pc F Fc x' j w' := by
  obtain ⟨F', Fc', q1, q2, q3⟩ := h
  refine ⟨F', Fc', q1, (Fr.of hb).trans q2 (fun i hi => Or.inl hi), fun q hq => ?_⟩
  rcases q3 q hq with h5 | h5
  · exact Or.inl h5
  · exact Or.inr (Nat.le_trans hb.size h5)

set_option maxRecDepth 100000 in
set_option maxHeartbeats 3200000 in
theorem power_3 {base : Nat} {W0 w : World} {e : Nat → Addr} {p pc : Nat} {F Fc : List Nat} {x : St} {k : Nat} (h : Wp base W0 w e p pc F Fc x k) (s : Stp) (hs : StpOk s) (u : Value) (hu : Rd w u s.q) (hub : 0 < s.q.length → ∀ a n c, u = .slice (some a) n c → a.block < base) (hj : (k + 1) * 16 ≤ 140737488355328) (hk : s.k = 3) :
    Calls Tryd.prog 37 #[ptr p, ptr pc, .agg #[.int .i64 s.k, .int .i64 s.n, .int .i64 s.m, u]] w fun r' w' => r' = .returned (.tuple #[]) ∧ Pw base W0 w e p pc F Fc (pwS x s) (k + 1) w' := by
  obtain ⟨ou, cu, rfl⟩ := hu.len
  obtain ⟨V, hV⟩ : ∃ V, V = w.alloc (.cells #[.int .i64 s.k, .int .i64 s.n, .int .i64 s.m, .slice ou s.q.length cu] 48) := ⟨_, rfl⟩
  have bV : Below w.heap.size w V := by rw [hV]; exact (Below.refl _ _).alloc (Nat.le_refl _) _
  have hX : V.heap[w.heap.size]? = some (.cells #[.int .i64 s.k, .int .i64 s.n, .int .i64 s.m, .slice ou s.q.length cu] 48) := by rw [hV]; exact heap_alloc_new _ _
  have hzV : w.heap.size < V.heap.size := (Array.getElem?_eq_some_iff.1 hX).1
  have HW := hide (h.keep bV)
  have hpf := pw_fine h.fine s hs
  have hpa : (pwS x s).a.length ≤ k + 1 := Nat.le_trans (pw_arms x s) (Nat.succ_le_succ h.arms)
  have hpl := pw_len h.fine s h.len
  have hja : (x.a.length + 1) * 16 ≤ 140737488355328 := Nat.le_trans (Nat.mul_le_mul_right 16 (Nat.succ_le_succ h.arms)) hj
  have HN1 : Hid (w.heap.size ∉ F) := fun hm => by have := h.d.lt _ hm; omega
  have HN2 : Hid (w.heap.size ∉ Fc) := fun hm => by have := h.c.lt _ hm; omega
  have s0 : V.cell? ⟨w.heap.size, 0, none⟩ = some (.int .i64 s.k) := cell_of hX 0
  have s1 : V.cell? ⟨w.heap.size, 1, none⟩ = some (.int .i64 s.n) := cell_of hX 1
  have s2 : V.cell? ⟨w.heap.size, 2, none⟩ = some (.int .i64 s.m) := cell_of hX 2
  have s3 : V.cell? ⟨w.heap.size, 3, none⟩ = some (.slice ou s.q.length cu) := cell_of hX 3
  have HV := hide hV
  have HX := hide hX
  have HBV := hide bV
  have HS := hide hs
  have HJA := hide hja
  have HU := hide (hu.below bV)
  have HUB := hide hub
  have hpw := pw3 x s hk
  have e3 : (s.k == 3) = true := by rw [hk]; rfl
  rw [hpw] at hpf hpa hpl ⊢
  have HM1 := hide (crash_any V p F x s.n HW.out.d HW.out.fine)
  have HPF := hide hpf
  have HPA := hide hpa
  have HPL := hide hpl
  clear h hs hu hub hV hX bV hpf hpa hpl hja
  clear hpw hk
  go_enter Tryd.func37, Tryd.ntmps37
  go_wp2_with fail
  rw [← HV.out]
  refine HM1.out.mono ?_
  rintro r' w1 ⟨rfl, hm1⟩
  have hm1' := hm1
  obtain ⟨F1, d1, f1, q1⟩ := hm1
  have hX1 := (f1.block _ hzV HN1.out).trans HX.out
  have t1 : w1.cell? ⟨w.heap.size, 1, none⟩ = some (.int .i64 s.n) := cell_of hX1 1
  have t2 : w1.cell? ⟨w.heap.size, 2, none⟩ = some (.int .i64 s.m) := cell_of hX1 2
  have hC1 : Dq w1 pc Fc (sq x) := HW.out.c.other f1 (fun q hq hm => HW.out.dis q hm hq)
  have HM2 := hide (dcrash_any w1 pc Fc x s.n hC1 HW.out.fine)
  have HMV := hide hm1'
  clear hm1' d1 f1 q1 hX1 hC1 HM1
  go_wp2_with fail
  refine HM2.out.mono ?_
  rintro r' w2 ⟨rfl, hm2⟩
  have HZ : Hid (Pw base W0 w e p pc F Fc (x.crash s.n) (k + 1) w2) := Pw.back (HW.out.step HMV.out (fun _ e0 => by rw [e0]; exact hm2) HPF.out HPA.out HPL.out) HBV.out
  clear hm2 HM2
  go_wp2_with fail
  go_end0
  exact ⟨rfl, HZ.out⟩

set_option maxRecDepth 100000 in
set_option maxHeartbeats 3200000 in
theorem power_4 {base : Nat} {W0 w : World} {e : Nat → Addr} {p pc : Nat} {F Fc : List Nat} {x : St} {k : Nat} (h : Wp base W0 w e p pc F Fc x k) (s : Stp) (hs : StpOk s) (u : Value) (hu : Rd w u s.q) (hub : 0 < s.q.length → ∀ a n c, u = .slice (some a) n c → a.block < base) (hj : (k + 1) * 16 ≤ 140737488355328) (hk : s.k = 4) :
    Calls Tryd.prog 37 #[ptr p, ptr pc, .agg #[.int .i64 s.k, .int .i64 s.n, .int .i64 s.m, u]] w fun r' w' => r' = .returned (.tuple #[]) ∧ Pw base W0 w e p pc F Fc (pwS x s) (k + 1) w' := by
  obtain ⟨ou, cu, rfl⟩ := hu.len
  obtain ⟨V, hV⟩ : ∃ V, V = w.alloc (.cells #[.int .i64 s.k, .int .i64 s.n, .int .i64 s.m, .slice ou s.q.length cu] 48) := ⟨_, rfl⟩
  have bV : Below w.heap.size w V := by rw [hV]; exact (Below.refl _ _).alloc (Nat.le_refl _) _
  have hX : V.heap[w.heap.size]? = some (.cells #[.int .i64 s.k, .int .i64 s.n, .int .i64 s.m, .slice ou s.q.length cu] 48) := by rw [hV]; exact heap_alloc_new _ _
  have hzV : w.heap.size < V.heap.size := (Array.getElem?_eq_some_iff.1 hX).1
  have HW := hide (h.keep bV)
  have hpf := pw_fine h.fine s hs
  have hpa : (pwS x s).a.length ≤ k + 1 := Nat.le_trans (pw_arms x s) (Nat.succ_le_succ h.arms)
  have hpl := pw_len h.fine s h.len
  have hja : (x.a.length + 1) * 16 ≤ 140737488355328 := Nat.le_trans (Nat.mul_le_mul_right 16 (Nat.succ_le_succ h.arms)) hj
  have HN1 : Hid (w.heap.size ∉ F) := fun hm => by have := h.d.lt _ hm; omega
  have HN2 : Hid (w.heap.size ∉ Fc) := fun hm => by have := h.c.lt _ hm; omega
  have s0 : V.cell? ⟨w.heap.size, 0, none⟩ = some (.int .i64 s.k) := cell_of hX 0
  have s1 : V.cell? ⟨w.heap.size, 1, none⟩ = some (.int .i64 s.n) := cell_of hX 1
  have s2 : V.cell? ⟨w.heap.size, 2, none⟩ = some (.int .i64 s.m) := cell_of hX 2
  have s3 : V.cell? ⟨w.heap.size, 3, none⟩ = some (.slice ou s.q.length cu) := cell_of hX 3
  have HV := hide hV
  have HX := hide hX
  have HBV := hide bV
  have HS := hide hs
  have HJA := hide hja
  have HU := hide (hu.below bV)
  have HUB := hide hub
  have hpw := pw4 x s hk
  have e3 : (s.k == 3) = false := by rw [hk]; rfl
  have e4 : (s.k == 4) = true := by rw [hk]; rfl
  rw [hpw] at hpf hpa hpl ⊢
  have HM1 := hide (arm_any V p F x s.n s.m HW.out.d HJA.out)
  have HPF := hide hpf
  have HPA := hide hpa
  have HPL := hide hpl
  clear h hs hu hub hV hX bV hpf hpa hpl hja
  clear hpw hk
  go_enter Tryd.func37, Tryd.ntmps37
  go_wp2_with fail
  rw [← HV.out]
  refine HM1.out.mono ?_
  rintro r' w1 ⟨rfl, hm1⟩
  have hm1' := hm1
  obtain ⟨F1, d1, f1, q1⟩ := hm1
  have hX1 := (f1.block _ hzV HN1.out).trans HX.out
  have t1 : w1.cell? ⟨w.heap.size, 1, none⟩ = some (.int .i64 s.n) := cell_of hX1 1
  have t2 : w1.cell? ⟨w.heap.size, 2, none⟩ = some (.int .i64 s.m) := cell_of hX1 2
  have hC1 : Dq w1 pc Fc (sq x) := HW.out.c.other f1 (fun q hq hm => HW.out.dis q hm hq)
  have HM2 := hide (darm_any w1 pc Fc x s.n s.m hC1 HJA.out)
  have HMV := hide hm1'
  clear hm1' d1 f1 q1 hX1 hC1 HM1
  go_wp2_with fail
  refine HM2.out.mono ?_
  rintro r' w2 ⟨rfl, hm2⟩
  have HZ : Hid (Pw base W0 w e p pc F Fc (x.arm s.n s.m) (k + 1) w2) := Pw.back (HW.out.step HMV.out (fun _ e0 => by rw [e0]; exact hm2) HPF.out HPA.out HPL.out) HBV.out
  clear hm2 HM2
  go_wp2_with fail
  go_end0
  exact ⟨rfl, HZ.out⟩

set_option maxRecDepth 100000 in
set_option maxHeartbeats 3200000 in
theorem power_5 {base : Nat} {W0 w : World} {e : Nat → Addr} {p pc : Nat} {F Fc : List Nat} {x : St} {k : Nat} (h : Wp base W0 w e p pc F Fc x k) (s : Stp) (hs : StpOk s) (u : Value) (hu : Rd w u s.q) (hub : 0 < s.q.length → ∀ a n c, u = .slice (some a) n c → a.block < base) (hj : (k + 1) * 16 ≤ 140737488355328) (hk : s.k = 5) :
    Calls Tryd.prog 37 #[ptr p, ptr pc, .agg #[.int .i64 s.k, .int .i64 s.n, .int .i64 s.m, u]] w fun r' w' => r' = .returned (.tuple #[]) ∧ Pw base W0 w e p pc F Fc (pwS x s) (k + 1) w' := by
  obtain ⟨ou, cu, rfl⟩ := hu.len
  obtain ⟨V, hV⟩ : ∃ V, V = w.alloc (.cells #[.int .i64 s.k, .int .i64 s.n, .int .i64 s.m, .slice ou s.q.length cu] 48) := ⟨_, rfl⟩
  have bV : Below w.heap.size w V := by rw [hV]; exact (Below.refl _ _).alloc (Nat.le_refl _) _
  have hX : V.heap[w.heap.size]? = some (.cells #[.int .i64 s.k, .int .i64 s.n, .int .i64 s.m, .slice ou s.q.length cu] 48) := by rw [hV]; exact heap_alloc_new _ _
  have hzV : w.heap.size < V.heap.size := (Array.getElem?_eq_some_iff.1 hX).1
  have HW := hide (h.keep bV)
  have hpf := pw_fine h.fine s hs
  have hpa : (pwS x s).a.length ≤ k + 1 := Nat.le_trans (pw_arms x s) (Nat.succ_le_succ h.arms)
  have hpl := pw_len h.fine s h.len
  have hja : (x.a.length + 1) * 16 ≤ 140737488355328 := Nat.le_trans (Nat.mul_le_mul_right 16 (Nat.succ_le_succ h.arms)) hj
  have HN1 : Hid (w.heap.size ∉ F) := fun hm => by have := h.d.lt _ hm; omega
  have HN2 : Hid (w.heap.size ∉ Fc) := fun hm => by have := h.c.lt _ hm; omega
  have s0 : V.cell? ⟨w.heap.size, 0, none⟩ = some (.int .i64 s.k) := cell_of hX 0
  have s1 : V.cell? ⟨w.heap.size, 1, none⟩ = some (.int .i64 s.n) := cell_of hX 1
  have s2 : V.cell? ⟨w.heap.size, 2, none⟩ = some (.int .i64 s.m) := cell_of hX 2
  have s3 : V.cell? ⟨w.heap.size, 3, none⟩ = some (.slice ou s.q.length cu) := cell_of hX 3
  have HV := hide hV
  have HX := hide hX
  have HBV := hide bV
  have HS := hide hs
  have HJA := hide hja
  have HU := hide (hu.below bV)
  have HUB := hide hub
  have hpw := pw5 x s hk
  have e3 : (s.k == 3) = false := by rw [hk]; rfl
  have e4 : (s.k == 4) = false := by rw [hk]; rfl
  have e5 : (s.k == 5) = true := by rw [hk]; rfl
  rw [hpw] at hpf hpa hpl ⊢
  have HM1 := hide (revive_any V p F x HW.out.d)
  have HPF := hide hpf
  have HPA := hide hpa
  have HPL := hide hpl
  clear h hs hu hub hV hX bV hpf hpa hpl hja
  clear hpw hk
  go_enter Tryd.func37, Tryd.ntmps37
  go_wp2_with fail
  rw [← HV.out]
  refine HM1.out.mono ?_
  rintro r' w1 ⟨rfl, hm1⟩
  have hm1' := hm1
  obtain ⟨F1, d1, f1, q1⟩ := hm1
  have hX1 := (f1.block _ hzV HN1.out).trans HX.out
  have t1 : w1.cell? ⟨w.heap.size, 1, none⟩ = some (.int .i64 s.n) := cell_of hX1 1
  have t2 : w1.cell? ⟨w.heap.size, 2, none⟩ = some (.int .i64 s.m) := cell_of hX1 2
  have hC1 : Dq w1 pc Fc (sq x) := HW.out.c.other f1 (fun q hq hm => HW.out.dis q hm hq)
  have HM2 := hide (drevive_any w1 pc Fc (sq x) hC1)
  have HMV := hide hm1'
  clear hm1' d1 f1 q1 hX1 hC1 HM1
  go_wp2_with fail
  refine HM2.out.mono ?_
  rintro r' w2 ⟨rfl, hm2⟩
  have HZ : Hid (Pw base W0 w e p pc F Fc x.revive (k + 1) w2) := Pw.back (HW.out.step HMV.out (fun _ e0 => by rw [e0]; exact hm2) HPF.out HPA.out HPL.out) HBV.out
  clear hm2 HM2
  go_wp2_with fail
  go_end0
  exact ⟨rfl, HZ.out⟩

set_option maxRecDepth 100000 in
set_option maxHeartbeats 3200000 in
theorem power_7 {base : Nat} {W0 w : World} {e : Nat → Addr} {p pc : Nat} {F Fc : List Nat} {x : St} {k : Nat} (h : Wp base W0 w e p pc F Fc x k) (s : Stp) (hs : StpOk s) (u : Value) (hu : Rd w u s.q) (hub : 0 < s.q.length → ∀ a n c, u = .slice (some a) n c → a.block < base) (hj : (k + 1) * 16 ≤ 140737488355328) (hk : s.k = 7) :
    Calls Tryd.prog 37 #[ptr p, ptr pc, .agg #[.int .i64 s.k, .int .i64 s.n, .int .i64 s.m, u]] w fun r' w' => r' = .returned (.tuple #[]) ∧ Pw base W0 w e p pc F Fc (pwS x s) (k + 1) w' := by
  obtain ⟨ou, cu, rfl⟩ := hu.len
  obtain ⟨V, hV⟩ : ∃ V, V = w.alloc (.cells #[.int .i64 s.k, .int .i64 s.n, .int .i64 s.m, .slice ou s.q.length cu] 48) := ⟨_, rfl⟩
  have bV : Below w.heap.size w V := by rw [hV]; exact (Below.refl _ _).alloc (Nat.le_refl _) _
  have hX : V.heap[w.heap.size]? = some (.cells #[.int .i64 s.k, .int .i64 s.n, .int .i64 s.m, .slice ou s.q.length cu] 48) := by rw [hV]; exact heap_alloc_new _ _
  have hzV : w.heap.size < V.heap.size := (Array.getElem?_eq_some_iff.1 hX).1
  have HW := hide (h.keep bV)
  have hpf := pw_fine h.fine s hs
  have hpa : (pwS x s).a.length ≤ k + 1 := Nat.le_trans (pw_arms x s) (Nat.succ_le_succ h.arms)
  have hpl := pw_len h.fine s h.len
  have hja : (x.a.length + 1) * 16 ≤ 140737488355328 := Nat.le_trans (Nat.mul_le_mul_right 16 (Nat.succ_le_succ h.arms)) hj
  have HN1 : Hid (w.heap.size ∉ F) := fun hm => by have := h.d.lt _ hm; omega
  have HN2 : Hid (w.heap.size ∉ Fc) := fun hm => by have := h.c.lt _ hm; omega
  have s0 : V.cell? ⟨w.heap.size, 0, none⟩ = some (.int .i64 s.k) := cell_of hX 0
  have s1 : V.cell? ⟨w.heap.size, 1, none⟩ = some (.int .i64 s.n) := cell_of hX 1
  have s2 : V.cell? ⟨w.heap.size, 2, none⟩ = some (.int .i64 s.m) := cell_of hX 2
  have s3 : V.cell? ⟨w.heap.size, 3, none⟩ = some (.slice ou s.q.length cu) := cell_of hX 3
  have HV := hide hV
  have HX := hide hX
  have HBV := hide bV
  have HS := hide hs
  have HJA := hide hja
  have HU := hide (hu.below bV)
  have HUB := hide hub
  have hpw := pw7 x s hk
  have e3 : (s.k == 3) = false := by rw [hk]; rfl
  have e4 : (s.k == 4) = false := by rw [hk]; rfl
  have e5 : (s.k == 5) = false := by rw [hk]; rfl
  have e6 : (s.k == 6) = false := by rw [hk]; rfl
  have e7 : (s.k == 7) = true := by rw [hk]; rfl
  rw [hpw] at hpf hpa hpl ⊢
  have HM1 := hide (trunc_any V base p F x HW.out.d e HW.out.er.ed HW.out.ld HW.out.fine s.n (gate_onB x))
  have HPF := hide hpf
  have HPA := hide hpa
  have HPL := hide hpl
  clear h hs hu hub hV hX bV hpf hpa hpl hja
  clear hpw hk
  go_enter Tryd.func37, Tryd.ntmps37
  go_wp2_with fail
  rw [← HV.out]
  refine HM1.out.mono ?_
  rintro r' w1 ⟨rfl, hm1⟩
  have hm1' := hm1
  obtain ⟨F1, d1, f1, q1⟩ := hm1
  have hX1 := (f1.block _ hzV HN1.out).trans HX.out
  have t1 : w1.cell? ⟨w.heap.size, 1, none⟩ = some (.int .i64 s.n) := cell_of hX1 1
  have t2 : w1.cell? ⟨w.heap.size, 2, none⟩ = some (.int .i64 s.m) := cell_of hX1 2
  have hC1 : Dq w1 pc Fc (sq x) := HW.out.c.other f1 (fun q hq hm => HW.out.dis q hm hq)
  have HM2 := hide (dtrunc_any w1 pc Fc x s.n hC1 HW.out.fine HJA.out)
  have HMV := hide hm1'
  clear hm1' d1 f1 q1 hX1 hC1 HM1
  go_wp2_with fail
  refine HM2.out.mono ?_
  rintro r' w2 ⟨rfl, hm2⟩
  have HZ : Hid (Pw base W0 w e p pc F Fc (x.trunc s.n).1 (k + 1) w2) := Pw.back (HW.out.step HMV.out (fun _ e0 => by rw [e0]; exact hm2) HPF.out HPA.out HPL.out) HBV.out
  clear hm2 HM2
  go_wp2_with fail
  go_end0
  exact ⟨rfl, HZ.out⟩

set_option maxRecDepth 100000 in
set_option maxHeartbeats 3200000 in
theorem power_6 {base : Nat} {W0 w : World} {e : Nat → Addr} {p pc : Nat} {F Fc : List Nat} {x : St} {k : Nat} (h : Wp base W0 w e p pc F Fc x k) (s : Stp) (hs : StpOk s) (u : Value) (hu : Rd w u s.q) (hub : 0 < s.q.length → ∀ a n c, u = .slice (some a) n c → a.block < base) (hj : (k + 1) * 16 ≤ 140737488355328) (hk : s.k = 6) :
    Calls Tryd.prog 37 #[ptr p, ptr pc, .agg #[.int .i64 s.k, .int .i64 s.n, .int .i64 s.m, u]] w fun r' w' => r' = .returned (.tuple #[]) ∧ Pw base W0 w e p pc F Fc (pwS x s) (k + 1) w' := by
  obtain ⟨ou, cu, rfl⟩ := hu.len
  obtain ⟨V, hV⟩ : ∃ V, V = w.alloc (.cells #[.int .i64 s.k, .int .i64 s.n, .int .i64 s.m, .slice ou s.q.length cu] 48) := ⟨_, rfl⟩
  have bV : Below w.heap.size w V := by rw [hV]; exact (Below.refl _ _).alloc (Nat.le_refl _) _
  have hX : V.heap[w.heap.size]? = some (.cells #[.int .i64 s.k, .int .i64 s.n, .int .i64 s.m, .slice ou s.q.length cu] 48) := by rw [hV]; exact heap_alloc_new _ _
  have hzV : w.heap.size < V.heap.size := (Array.getElem?_eq_some_iff.1 hX).1
  have HW := hide (h.keep bV)
  have hpf := pw_fine h.fine s hs
  have hpa : (pwS x s).a.length ≤ k + 1 := Nat.le_trans (pw_arms x s) (Nat.succ_le_succ h.arms)
  have hpl := pw_len h.fine s h.len
  have hja : (x.a.length + 1) * 16 ≤ 140737488355328 := Nat.le_trans (Nat.mul_le_mul_right 16 (Nat.succ_le_succ h.arms)) hj
  have HN1 : Hid (w.heap.size ∉ F) := fun hm => by have := h.d.lt _ hm; omega
  have HN2 : Hid (w.heap.size ∉ Fc) := fun hm => by have := h.c.lt _ hm; omega
  have s0 : V.cell? ⟨w.heap.size, 0, none⟩ = some (.int .i64 s.k) := cell_of hX 0
  have s1 : V.cell? ⟨w.heap.size, 1, none⟩ = some (.int .i64 s.n) := cell_of hX 1
  have s2 : V.cell? ⟨w.heap.size, 2, none⟩ = some (.int .i64 s.m) := cell_of hX 2
  have s3 : V.cell? ⟨w.heap.size, 3, none⟩ = some (.slice ou s.q.length cu) := cell_of hX 3
  have HV := hide hV
  have HX := hide hX
  have HBV := hide bV
  have HS := hide hs
  have HJA := hide hja
  have HU := hide (hu.below bV)
  have HUB := hide hub
  have hpw := pw6 x s hk
  have e3 : (s.k == 3) = false := by rw [hk]; rfl
  have e4 : (s.k == 4) = false := by rw [hk]; rfl
  have e5 : (s.k == 5) = false := by rw [hk]; rfl
  have e6 : (s.k == 6) = true := by rw [hk]; rfl
  rw [hpw] at hpf hpa hpl ⊢
  have hql : s.q.length ≤ 140737488351232 := hs.1
  have HCP := hide (copy_any V _ s.q HU.out (by omega))
  have HPF := hide hpf
  have HPA := hide hpa
  have HPL := hide hpl
  clear h hs hu hub hV hX bV hpf hpa hpl hja
  clear hpw hk
  go_enter Tryd.func37, Tryd.ntmps37
  go_wp2_with fail
  rw [← HV.out]
  refine HCP.out.mono ?_
  rintro r' w1 ⟨v1, rfl, ho1, b1⟩
  have hW1 := HW.out.keep b1
  have HMC := hide (dappend_any w1 pc Fc x hW1.c hW1.fine HJA.out v1 s.q (rd_own ho1) (fun _ a n c ea => by
    rcases ho1.2 with ⟨e1, _⟩ | ⟨g', cap, cur, e1, e2, e3, _⟩
    · rw [ea] at e1; cases e1
    · rw [ea] at e1; cases e1
      exact ⟨fun hm => absurd (HW.out.c.lt _ hm) (Nat.not_lt.2 e2), (Array.getElem?_eq_some_iff.1 e3).1⟩) (by omega))
  obtain ⟨o1, c1, e1', _⟩ := own_slice ho1
  have HW1 := hide hW1
  have HB1 := hide b1
  have hX1 := (b1.block _ hzV).trans HX.out
  have HX1 := hide hX1
  clear ho1 b1 hW1 hX1 HCP
  subst e1'
  go_wp2_with fail
  refine HMC.out.mono ?_
  rintro r' w2 ⟨rfl, hm1⟩
  have hm1' := hm1
  obtain ⟨Fc1, d1, f1, q1⟩ := hm1
  have hX2 := (f1.block _ (by have := HB1.out.size; omega) HN2.out).trans HX1.out
  have t3 : w2.cell? ⟨w.heap.size, 3, none⟩ = some (.slice ou s.q.length cu) := cell_of hX2 3
  have hD2 : Dk w2 p F x := HW1.out.d.other f1 HW1.out.dis
  have hub2 : 0 < s.q.length → ∀ a n c, Value.slice ou s.q.length cu = .slice (some a) n c → a.block ∉ F ∧ a.block ∉ Fc ∧ a.block < V.heap.size := fun h0 a n c ea => by
    have h5 := HUB.out h0 a n c ea
    exact ⟨fun hm => by have := HW.out.ld _ hm; omega, fun hm => by have := HW.out.lc _ hm; omega, Nat.lt_of_lt_of_le h5 HW.out.er.size⟩
  have hR2 : Rd w2 (.slice ou s.q.length cu) s.q := (HU.out.below HB1.out).keepL (fun h0 a n c ea => f1.block _ (by have := (hub2 h0 a n c ea).2.2; have := HB1.out.size; omega) (hub2 h0 a n c ea).2.1) f1.size
  have HMD := hide (append_any w2 base p F x hD2 _ s.q hR2 (fun h0 a n c ea => (hub2 h0 a n c ea).1) (fun h0 a n c ea => by have := (hub2 h0 a n c ea).2.2; have := HB1.out.size; have := f1.size; omega) e (HW1.out.er.fr f1 HW1.out.lc) HW.out.ld HW.out.fine (by omega))
  have HMV := hide hm1'
  clear hm1' d1 f1 q1 hX2 hD2 hub2 hR2 HMC
  go_wp2_with fail
  refine HMD.out.mono ?_
  rintro r' w3 ⟨rfl, hm2⟩
  have HZ : Hid (Pw base W0 w e p pc F Fc (x.append s.q).1 (k + 1) w3) := Pw.back (HW1.out.stepR HMV.out hm2 HPF.out HPA.out HPL.out) (keepD HBV.out HB1.out)
  clear hm2 HMD
  go_wp2_with fail
  go_end0
  exact ⟨rfl, HZ.out⟩

set_option maxRecDepth 100000 in
set_option maxHeartbeats 3200000 in
theorem power_0 {base : Nat} {W0 w : World} {e : Nat → Addr} {p pc : Nat} {F Fc : List Nat} {x : St} {k : Nat} (h : Wp base W0 w e p pc F Fc x k) (s : Stp) (hs : StpOk s) (u : Value) (hu : Rd w u s.q) (hub : 0 < s.q.length → ∀ a n c, u = .slice (some a) n c → a.block < base) (hj : (k + 1) * 16 ≤ 140737488355328) (h3 : s.k ≠ 3) (h4 : s.k ≠ 4) (h5 : s.k ≠ 5) (h6 : s.k ≠ 6) (h7 : s.k ≠ 7) :
    Calls Tryd.prog 37 #[ptr p, ptr pc, .agg #[.int .i64 s.k, .int .i64 s.n, .int .i64 s.m, u]] w fun r' w' => r' = .returned (.tuple #[]) ∧ Pw base W0 w e p pc F Fc (pwS x s) (k + 1) w' := by
  obtain ⟨ou, cu, rfl⟩ := hu.len
  obtain ⟨V, hV⟩ : ∃ V, V = w.alloc (.cells #[.int .i64 s.k, .int .i64 s.n, .int .i64 s.m, .slice ou s.q.length cu] 48) := ⟨_, rfl⟩
  have bV : Below w.heap.size w V := by rw [hV]; exact (Below.refl _ _).alloc (Nat.le_refl _) _
  have hX : V.heap[w.heap.size]? = some (.cells #[.int .i64 s.k, .int .i64 s.n, .int .i64 s.m, .slice ou s.q.length cu] 48) := by rw [hV]; exact heap_alloc_new _ _
  have hzV : w.heap.size < V.heap.size := (Array.getElem?_eq_some_iff.1 hX).1
  have HW := hide (h.keep bV)
  have hpf := pw_fine h.fine s hs
  have hpa : (pwS x s).a.length ≤ k + 1 := Nat.le_trans (pw_arms x s) (Nat.succ_le_succ h.arms)
  have hpl := pw_len h.fine s h.len
  have hja : (x.a.length + 1) * 16 ≤ 140737488355328 := Nat.le_trans (Nat.mul_le_mul_right 16 (Nat.succ_le_succ h.arms)) hj
  have HN1 : Hid (w.heap.size ∉ F) := fun hm => by have := h.d.lt _ hm; omega
  have HN2 : Hid (w.heap.size ∉ Fc) := fun hm => by have := h.c.lt _ hm; omega
  have s0 : V.cell? ⟨w.heap.size, 0, none⟩ = some (.int .i64 s.k) := cell_of hX 0
  have s1 : V.cell? ⟨w.heap.size, 1, none⟩ = some (.int .i64 s.n) := cell_of hX 1
  have s2 : V.cell? ⟨w.heap.size, 2, none⟩ = some (.int .i64 s.m) := cell_of hX 2
  have s3 : V.cell? ⟨w.heap.size, 3, none⟩ = some (.slice ou s.q.length cu) := cell_of hX 3
  have HV := hide hV
  have HX := hide hX
  have HBV := hide bV
  have HS := hide hs
  have HJA := hide hja
  have HU := hide (hu.below bV)
  have HUB := hide hub
  have hpw := pw0 x s h3 h4 h5 h6 h7
  have e3 : (s.k == 3) = false := beq_false_of_ne h3
  have e4 : (s.k == 4) = false := beq_false_of_ne h4
  have e5 : (s.k == 5) = false := beq_false_of_ne h5
  have e6 : (s.k == 6) = false := beq_false_of_ne h6
  have e7 : (s.k == 7) = false := beq_false_of_ne h7
  rw [hpw] at hpf hpa hpl ⊢
  have HZ : Hid (Pw base W0 w e p pc F Fc x (k + 1) V) := Pw.back ⟨F, Fc, ⟨HW.out.d, HW.out.c, HW.out.ld, HW.out.lc, HW.out.er, HW.out.fine, hpa, HW.out.dis, HW.out.low, HW.out.len⟩, Fr.refl _ _, fun _ hq => Or.inl hq⟩ HBV.out
  have HPF := hide hpf
  have HPA := hide hpa
  have HPL := hide hpl
  clear h hs hu hub hV hX bV hpf hpa hpl hja
  clear hpw h3 h4 h5 h6 h7
  rw [HV.out] at s0 s1 s2 s3
  go_enter Tryd.func37, Tryd.ntmps37
  go_wp2
  rw [← HV.out]
  go_end0
  exact ⟨rfl, HZ.out⟩
theorem power_any {base : Nat} {W0 w : World} {e : Nat → Addr} {p pc : Nat} {F Fc : List Nat} {x : St} {k : Nat} (h : Wp base W0 w e p pc F Fc x k) (s : Stp) (hs : StpOk s) (u : Value) (hu : Rd w u s.q) (hub : 0 < s.q.length → ∀ a n c, u = .slice (some a) n c → a.block < base) (hj : (k + 1) * 16 ≤ 140737488355328) :
    Calls Tryd.prog 37 #[ptr p, ptr pc, .agg #[.int .i64 s.k, .int .i64 s.n, .int .i64 s.m, u]] w fun r' w' => r' = .returned (.tuple #[]) ∧ Pw base W0 w e p pc F Fc (pwS x s) (k + 1) w' := by
  by_cases h3 : s.k = 3
  · exact power_3 h s hs u hu hub hj h3
  by_cases h4 : s.k = 4
  · exact power_4 h s hs u hu hub hj h4
  by_cases h5 : s.k = 5
  · exact power_5 h s hs u hu hub hj h5
  by_cases h6 : s.k = 6
  · exact power_6 h s hs u hu hub hj h6
  by_cases h7 : s.k = 7
  · exact power_7 h s hs u hu hub hj h7
  exact power_0 h s hs u hu hub hj h3 h4 h5 h6 h7
end Go.Proofs.YtgmgffcfmopgmaaDoor.wl

namespace Go.Proofs.YtgmgffcfmopgmaaDoor.wl
open Go.ChangeShapes Go.WideShapes Go.ChangeAt Go.RowKit Go.Proofs.YtgmgffcfmopgmaaDoor.common Go.Proofs.YtgmgffcfmopgmaaDoor.dk Go.Proofs.YtgmgffcfmopgmaaDoor.dr

theorem sq_begun (l : List UInt8) (r : Nat) : sq ⟨l, l.length, r, [], false⟩ = ⟨l, [], r, [], false⟩ := by
  unfold sq
  dsimp only
  rw [List.take_length, List.drop_length]
theorem op_keeps {x : St} (h : Fine x) (hl : x.b.length ≤ 1074790400) : Fine (opS x).1 ∧ (opS x).1.a.length ≤ x.a.length ∧ (opS x).1.b.length ≤ 1074790400 := by
  have rd : ∀ (x : St), Fine x → x.Ok 1074790400 → Fine x.reads.1 ∧ x.reads.1.a.length ≤ x.a.length ∧ x.reads.1.Ok 1074790400 := fun x h ho => ⟨fineR h, reads_arms x, ho.oper (fun y hy => hy) (fun y hy => hy)⟩
  have sy : ∀ (x : St), Fine x → x.Ok 1074790400 → Fine x.syncs.1 ∧ x.syncs.1.a.length ≤ x.a.length ∧ x.syncs.1.Ok 1074790400 := fun x h ho =>
    ⟨⟨h.ok.oper (fun y hy => hy) (fun y hy => hy.sync), oper_mem (dying := id) (on := St.sync) (fun y => rfl) (fun y => rfl) h.arms (fun n k hn => by dsimp only at hn ⊢; omega), oper_mem (dying := id) (on := St.sync) (fun y => rfl) (fun y => rfl) h.keep (fun n k hn => hn)⟩, oper_arms x _ _ _ (fun y => rfl) (fun y => rfl), ho.oper (fun y hy => hy) (fun y hy => hy.sync)⟩
  have tr : ∀ (x : St) (n : Nat), n ≤ 9223372036854775807 → Fine x → x.Ok 1074790400 → Fine (x.trunc (n : Int)).1 ∧ (x.trunc (n : Int)).1.a.length ≤ x.a.length ∧ (x.trunc (n : Int)).1.Ok 1074790400 := fun x n hn h ho => ⟨fineT h n hn, trunc_arms x _, by
    have := ho.step (by decide) ⟨4, 0, (n : Int), 0, ByteArray.empty⟩
    simpa [St.step] using this⟩
  obtain ⟨r1, r2, r3⟩ := rd x h ⟨h.ok.syn, h.ok.room, hl⟩
  have hg := Wl.good_le x.reads.1.b
  have hm := r3.most
  obtain ⟨t1, t2, t3⟩ := tr x.reads.1 (Wl.good x.reads.1.b) (by omega) r1 r3
  unfold opS
  split
  · unfold kpS
    split
    · split
      · obtain ⟨s1, s2, s3⟩ := sy _ t1 t3
        exact ⟨s1, Nat.le_trans s2 (Nat.le_trans t2 r2), s3.most⟩
      · exact ⟨t1, Nat.le_trans t2 r2, t3.most⟩
    · obtain ⟨s1, s2, s3⟩ := sy _ r1 r3
      exact ⟨s1, Nat.le_trans s2 r2, s3.most⟩
  · exact ⟨r1, r2, r3.most⟩
theorem op_num (x : St) : (opS x).2 = 0 ∨ (opS x).2 = 1 ∨ (opS x).2 = 9 ∨ (opS x).2 = 10 := by
  have sy : ∀ x : St, x.syncs.2 = 0 ∨ x.syncs.2 = 1 ∨ x.syncs.2 = 9 ∨ x.syncs.2 = 10 := fun x => by
    rcases oper_num x id St.sync 0 with h | h
    · exact Or.inl h
    · exact Or.inr (Or.inr (Or.inr h))
  have tr : ∀ (x : St) (n : Int), (x.trunc n).2 = 0 ∨ (x.trunc n).2 = 1 ∨ (x.trunc n).2 = 9 ∨ (x.trunc n).2 = 10 := fun x n => by
    unfold St.trunc
    split
    · exact Or.inr (Or.inl rfl)
    · rcases oper_num x id (fun y => y.cut n.toNat) 0 with h | h
      · exact Or.inl h
      · exact Or.inr (Or.inr (Or.inr h))
  unfold opS
  split
  · unfold kpS
    split
    · split
      · exact sy _
      · exact tr _ _
    · exact sy _
  · rcases oper_num x id id 0 with h | h
    · exact Or.inl h
    · exact Or.inr (Or.inr (Or.inr h))
theorem scan_count (l : List UInt8) : (Wl.scan l).length ≤ l.length := by
  have h1 : (Wl.scan l).length ≤ (Wl.flat (Wl.scan l)).length := by
    generalize Wl.scan l = L
    induction L with
    | nil => exact Nat.le_refl _
    | cons a r ih => rw [Wl.flat_cons, List.length_append, Wl.fr_len, List.length_cons]; omega
  rw [← Wl.good_take l, List.length_take] at h1
  omega
/-- both disks behind a call on each, the disk first -/
theorem Wp.steps {base : Nat} {W0 w w1 w2 : World} {e : Nat → Addr} {p pc : Nat} {F Fc F' Fc' : List Nat} {x x' : St} {k j : Nat} (h : Wp base W0 w e p pc F Fc x k) (d1 : Dk w1 p F' x') (f1 : Fr F w w1) (s1 : ∀ q ∈ F', q ∈ F ∨ w.heap.size ≤ q) (c2 : Dq w2 pc Fc' (sq x')) (f2 : Fr Fc w1 w2) (s2 : ∀ q ∈ Fc', q ∈ Fc ∨ w1.heap.size ≤ q) (hf : Fine x') (ha : x'.a.length ≤ j) (hl : x'.b.length ≤ 1074790400) : Wp base W0 w2 e p pc F' Fc' x' j := by
  have hd1 : ∀ q ∈ F', q ∉ Fc := fun q hq hm => by
    rcases s1 q hq with h5 | h5
    · exact h.dis q h5 hm
    · have := h.c.lt q hm; omega
  have er1 := h.er.fr f1 h.ld
  refine ⟨d1.other f2 hd1, c2, fun q hq => ?_, fun q hq => ?_, er1.fr f2 h.lc, hf, ha, fun q hq hm => ?_, (h.low.trans (f1.below h.ld h.er.size)).trans (f2.below h.lc er1.size), hl⟩
  · rcases s1 q hq with h5 | h5
    · exact h.ld q h5
    · exact Nat.le_trans h.er.size h5
  · rcases s2 q hq with h5 | h5
    · exact h.lc q h5
    · exact Nat.le_trans er1.size h5
  · rcases s2 q hm with h5 | h5
    · exact hd1 q hq h5
    · have := d1.lt q hq; omega
theorem Wp.mid {base : Nat} {W0 w w1 : World} {e : Nat → Addr} {p pc : Nat} {F Fc : List Nat} {x : St} {k : Nat} (h : Wp base W0 w e p pc F Fc x k) (f1 : Fr F w w1) : Dq w1 pc Fc (sq x) := h.c.other f1 (fun q hq hm => h.dis q hm hq)
/-- both Opens have answered -/
theorem opens_ok {base : Nat} {W0 w w1 w2 : World} {e : Nat → Addr} {p pc : Nat} {F Fc F' Fc' : List Nat} {x : St} {k g g' : Nat} {v v' : Value} {us us' : List Value} (h : Wp base W0 w e p pc F Fc x k) (h1 : PoK w w1 p F F' x g v us) (h2 : RoK w1 w2 pc Fc Fc' x g' v' us') :
    Ls w2 v (Wl.scan x.b) ∧ Ls w2 v' (Wl.scan x.b) ∧ Wp base W0 w2 e p pc F' Fc' (opS x).1 k ∧ Lw base w2 p pc F' Fc' g g' (Wl.scan x.b).length (Wl.good x.b) false := by
  obtain ⟨k1, k2, k3⟩ := op_keeps h.fine h.len
  have hgl : g < w1.heap.size := (Array.getElem?_eq_some_iff.1 h1.log).1
  have hgn := h1.new
  have hgn' := h2.new
  have hgc : g ∉ Fc := fun hm => by have := h.c.lt g hm; omega
  have hbw : base ≤ w.heap.size := h.er.size
  have hz := h1.fr.size
  refine ⟨(h1.row.keep (fun q h5 h6 => h2.fr.block q h6 (fun hm => by have := h.c.lt q hm; omega))).ls, h2.row.ls, h.steps h1.disk h1.fr h1.sub h2.disk h2.fr h2.sub k1 (Nat.le_trans k2 h.arms) k3, ⟨(h2.fr.block g hgl hgc).trans h1.log, h2.log, h1.far, fun hm => ?_, fun hm => ?_, h2.far, by omega, by omega, by omega⟩⟩
  · rcases h2.sub g hm with h5 | h5
    · exact hgc h5
    · omega
  · have := h1.disk.lt g' hm; omega
/-- neither has -/
theorem opens_no {base : Nat} {W0 w w1 w2 : World} {e : Nat → Addr} {p pc : Nat} {F Fc : List Nat} {x : St} {k : Nat} (h : Wp base W0 w e p pc F Fc x k) (h1 : Mv w p F (opS x).1 w1) (h2 : Mq w1 pc Fc (sq (opS x).1) w2) : ∃ F' Fc', Wp base W0 w2 e p pc F' Fc' (opS x).1 k := by
  obtain ⟨k1, k2, k3⟩ := op_keeps h.fine h.len
  obtain ⟨F', d1, f1, s1⟩ := h1
  obtain ⟨Fc', c2, f2, s2⟩ := h2
  exact ⟨F', Fc', h.steps d1 f1 s1 c2 f2 s2 k1 (Nat.le_trans k2 h.arms) k3⟩
theorem ls_none (w : World) : Ls w (.slice none 0 0) [] := ⟨none, 0, rfl, fun h => absurd h (by decide)⟩
/-- the state between two steps -/
structure PlI (base : Nat) (W0 wr : World) (e : Nat → Addr) (p pc k : Nat) (lv kv : Value) : Prop where
  ex : ∃ F Fc x, Wp base W0 wr e p pc F Fc x k ∧ ((lv = .pointer none ∧ kv = .pointer none) ∨ ∃ g g' n z d, lv = ptr g ∧ kv = ptr g' ∧ Lw base wr p pc F Fc g g' n z d ∧ n ≤ 1074790400 + k ∧ z ≤ 1074790400 + 8200 * k)
theorem PlI.up {base : Nat} {W0 wr X : World} {e : Nat → Addr} {p pc k : Nat} {lv kv : Value} (h : PlI base W0 wr e p pc k lv kv) (hb : Below wr.heap.size wr X) : PlI base W0 X e p pc k lv kv := by
  obtain ⟨F, Fc, x, h1, h2⟩ := h.ex
  refine ⟨F, Fc, x, h1.keep hb, ?_⟩
  rcases h2 with h3 | ⟨g, g', n, z, d, q1, q2, q3, q4, q5⟩
  · exact Or.inl h3
  · exact Or.inr ⟨g, g', n, z, d, q1, q2, q3.keep hb, q4, q5⟩
theorem Wp.more {base : Nat} {W0 w : World} {e : Nat → Addr} {p pc : Nat} {F Fc : List Nat} {x : St} {k : Nat} (h : Wp base W0 w e p pc F Fc x k) : Wp base W0 w e p pc F Fc x (k + 1) := ⟨h.d, h.c, h.ld, h.lc, h.er, h.fine, Nat.le_succ_of_le h.arms, h.dis, h.low, h.len⟩
theorem PlI.later {base : Nat} {W0 wr : World} {e : Nat → Addr} {p pc k : Nat} {lv kv : Value} (h : PlI base W0 wr e p pc k lv kv) : PlI base W0 wr e p pc (k + 1) lv kv := by
  obtain ⟨F, Fc, x, h1, h2⟩ := h.ex
  refine ⟨F, Fc, x, h1.more, ?_⟩
  rcases h2 with h3 | ⟨g, g', n, z, d, q1, q2, q3, q4, q5⟩
  · exact Or.inl h3
  · exact Or.inr ⟨g, g', n, z, d, q1, q2, q3, by omega, by omega⟩
theorem PlI.low {base : Nat} {W0 wr : World} {e : Nat → Addr} {p pc k : Nat} {lv kv : Value} (h : PlI base W0 wr e p pc k lv kv) : Below base W0 wr := by
  obtain ⟨F, Fc, x, h1, h2⟩ := h.ex
  exact h1.low
/-- behind a step of the disks alone -/
theorem PlI.power {base : Nat} {W0 w w' : World} {e : Nat → Addr} {p pc k : Nat} {lv kv : Value} {F Fc : List Nat} {x' : St} (hl : (lv = .pointer none ∧ kv = .pointer none) ∨ ∃ g g' n z d, lv = ptr g ∧ kv = ptr g' ∧ Lw base w p pc F Fc g g' n z d ∧ n ≤ 1074790400 + k ∧ z ≤ 1074790400 + 8200 * k) (h : Pw base W0 w e p pc F Fc x' (k + 1) w') : PlI base W0 w' e p pc (k + 1) lv kv := by
  obtain ⟨F', Fc', q1, q2, q3⟩ := h
  refine ⟨F', Fc', x', q1, ?_⟩
  rcases hl with h3 | ⟨g, g', n, z, d, r1, r2, r3, r4, r5⟩
  · exact Or.inl h3
  · exact Or.inr ⟨g, g', n, z, d, r1, r2, r3.step q2 q3, by omega, by omega⟩
theorem PlI.put {base : Nat} {W0 w' : World} {e : Nat → Addr} {p pc g g' k : Nat} {x : St} {n z : Nat} {d : Bool} {l : List UInt8} (hn : n ≤ 1074790400 + k) (hz : z ≤ 1074790400 + 8200 * k) (h : Lpt base W0 e p pc g g' k (Lg.put ⟨x, n, z, d⟩ l).1 w') : PlI base W0 w' e p pc (k + 1) (ptr g) (ptr g') := by
  obtain ⟨F', Fc', q1, q2⟩ := h
  obtain ⟨h1, h2⟩ := put_nz ⟨x, n, z, d⟩ l
  dsimp only at h1 h2
  generalize (Lg.put ⟨x, n, z, d⟩ l).1 = yy at q1 q2 h1 h2
  obtain ⟨yx, yn, yz, yd⟩ := yy
  dsimp only at q1 q2 h1 h2
  have m1 : yn ≤ 1074790400 + (k + 1) := by clear h2 hz; omega
  have m2 : yz ≤ 1074790400 + 8200 * (k + 1) := by
    clear h1 hn m1
    have m3 : 8200 * (k + 1) = 8200 * k + 8200 := Nat.mul_succ 8200 k
    rw [m3]
    exact Nat.le_trans h2 (Nat.le_trans (Nat.add_le_add_right hz 8200) (Nat.le_of_eq (Nat.add_assoc _ _ _)))
  exact ⟨F', Fc', _, q1.more, Or.inr ⟨g, g', _, _, _, rfl, rfl, q2, m1, m2⟩⟩
theorem PlI.opened {base : Nat} {W0 w' : World} {e : Nat → Addr} {p pc g g' k : Nat} {F' Fc' : List Nat} {x x' : St} (hx : x.b.length ≤ 1074790400) (h1 : Wp base W0 w' e p pc F' Fc' x' k) (h2 : Lw base w' p pc F' Fc' g g' (Wl.scan x.b).length (Wl.good x.b) false) : PlI base W0 w' e p pc k (ptr g) (ptr g') := by
  have h3 := scan_count x.b
  have h4 := Wl.good_le x.b
  exact ⟨F', Fc', _, h1, Or.inr ⟨g, g', _, _, _, rfl, rfl, h2, Nat.le_trans (Nat.le_trans h3 hx) (Nat.le_add_right _ _), Nat.le_trans (Nat.le_trans h4 hx) (Nat.le_add_right _ _)⟩⟩
end Go.Proofs.YtgmgffcfmopgmaaDoor.wl
