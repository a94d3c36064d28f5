import Derived.Test.YtgmgffcfmopgmaaDoorWlCrashO
import Derived.Test.YtgmgffcfmopgmaaDoorWlArgS
namespace Go.Proofs.YtgmgffcfmopgmaaDoor.wl
open Go.ChangeShapes Go.WideShapes Go.ChangeAt Go.RowKit Go.Proofs.YtgmgffcfmopgmaaDoor.common Go.Proofs.YtgmgffcfmopgmaaDoor.dk

theorem sizeStepS : (Tryd.prog.info? 48).map (·.size) = some 4 := by kernel_rfl
/-- the state between two steps -/
structure CrI (w0 wr : World) (K : Nat) (e : Nat → Addr) (p f : Nat) (rm k : Nat) (lv : Value) : Prop where
  ex : ∃ F G x T S W arm sz lost, Co wr K e p f F G x T S W arm sz lost rm ∧ (lv = .pointer none ∨ ∃ g n z, lv = ptr g ∧ Lp wr p f F G x T S W sz lost g n z) ∧ x.a.length ≤ k
  below : Below K w0 wr
theorem co_below {w w' : World} {K : Nat} {e : Nat → Addr} {p f : Nat} {F G : List Nat} {x : St} {T S W : List (List UInt8)} {arm lost : Bool} {sz : Int} {rm : Nat} (h : Co w K e p f F G x T S W arm sz lost rm) (hb : Below w.heap.size w w') : Co w' K e p f F G x T S W arm sz lost rm :=
  ⟨h.dk.below hb, h.ft.below hb, h.ff, h.sub, h.mem, h.low, fun k hk => Nat.lt_of_lt_of_le (h.gl k hk) hb.size, h.er.below hb, h.fine, h.cr, h.room, h.le, h.arm⟩
theorem lp_below {w w' : World} {p f : Nat} {F G : List Nat} {x : St} {T S W : List (List UInt8)} {sz : Int} {lost : Bool} {g n z : Nat} (h : Lp w p f F G x T S W sz lost g n z) (hb : Below w.heap.size w w') : Lp w' p f F G x T S W sz lost g n z :=
  ⟨(hb.block g (Array.getElem?_eq_some_iff.1 h.ly).1).trans h.ly, h.far, h.mem, h.ne, h.n, h.z, h.al⟩
theorem fine_crash {x : St} (h : Fine x) (n : Int) (hn : n ≤ 9223372036854775807) : Fine (x.crash n) := by
  have := Fine.step h ⟨6, 0, n, 0, ByteArray.empty⟩ hn (by show _ ≤ (0 : Int); decide) (by show (0 : Int) ≤ _; decide)
  simpa [St.step] using this
theorem fine_arm {x : St} (h : Fine x) (n m : Int) (hn : n ≤ 9223372036854775807) (h1 : -9223372036854775808 ≤ m) (h2 : m ≤ 9223372036854775807) : Fine (x.arm n m) := by
  have := Fine.step h ⟨5, 0, n, m, ByteArray.empty⟩ hn h1 h2
  simpa [St.step] using this
theorem fine_revive {x : St} (h : Fine x) : Fine x.revive := ⟨⟨h.ok.syn, h.ok.room, h.ok.most⟩, h.arms, h.keep⟩
/-- a power failure takes nothing of what is wholly synced -/
theorem crash_syn {x : St} (h : x.s = x.b.length) (n : Int) : (x.crash n).b = x.b ∧ (x.crash n).s = x.s ∧ (x.crash n).r = x.r ∧ (x.crash n).a = x.a := by
  unfold St.crash
  split
  · exact ⟨rfl, rfl, rfl, rfl⟩
  · refine ⟨?_, ?_, rfl, rfl⟩
    · show x.b.take (x.left n) = x.b
      unfold St.left
      rw [h, Nat.sub_self, Nat.min_zero, Nat.add_zero, List.take_length]
    · show x.left n = x.s
      unfold St.left
      rw [h, Nat.sub_self, Nat.min_zero, Nat.add_zero]
/-- the fate told by an Open that answered -/
theorem Op.told {w w' X : World} {K : Nat} {e : Nat → Addr} {p f : Nat} {G F' : List Nat} {x x' : St} {T S W : List (List UInt8)} {arm : Bool} {sz : Int} {lost : Bool} {rm g : Nat} {v : Value} {ug : List Value} {Q : List (List UInt8)} (h : Op w w' K e p f G F' x x' T S W arm sz lost rm g v ug Q)
    (hft : Ft X K f (g :: (G ++ F')) Q [] [] arm ((Wl.flat Q).length : Int) false) (hf : Fr [f] w' X) : Co X K e p f F' (g :: (G ++ F')) x' Q [] [] arm ((Wl.flat Q).length : Int) false rm ∧ Lp X p f F' (g :: (G ++ F')) x' Q [] [] ((Wl.flat Q).length : Int) false g Q.length (Wl.flat Q).length := by
  have hc := h.co
  have hn : ∀ k ∈ F', k ∉ [f] := fun k hk hm => hc.ff (by rw [← List.mem_singleton.1 hm]; exact hk)
  have hfits : ∀ q ∈ Q, Wl.fit q.length = true := by
    rcases h.is with e0 | e0 <;> rw [e0]
    · exact fun q hq => hc.cr.fits q (List.mem_append_left _ hq)
    · exact hc.cr.fits
  refine ⟨⟨hc.dk.other hf hn, hft, hc.ff, hc.sub, hc.mem, hc.low, fun k hk => Nat.lt_of_lt_of_le (hc.gl k hk) hf.size, hc.er.fr hf (fun k hk => by rw [List.mem_singleton.1 hk]; exact hc.low f hc.mem), hc.fine, ?_, hc.room, hc.le, hc.arm⟩, ⟨?_, h.far, List.mem_cons_self .., h.ne, by rw [List.append_nil], by rw [List.append_nil], fun _ => ⟨rfl, by rw [List.append_nil]; exact h.b, by rw [h.b]⟩⟩⟩
  · rw [List.append_nil]
    exact Cr.whole hc.cr.syn h.b hfits
  · exact (hf.block g (Array.getElem?_eq_some_iff.1 h.ly).1 (by simp [Ne.symm h.ne])).trans h.ly
theorem tab_low {w w' : World} {K : Nat} (ht : crcw.Tab w) (hK : 13 < K) (hb : Below K w w') : crcw.Tab w' := fun i hi => by
  rw [← ht i hi]
  exact World.cell?_of_block (hb.block _ hK)

theorem fput_any (w : World) (K : Nat) (e : Nat → Addr) (p f : Nat) (F G : List Nat) (x : St) (T S W : List (List UInt8)) (arm : Bool) (sz : Int) (lost : Bool) (rm : Nat) (hc : Co w K e p f F G x T S W arm sz lost rm) (g n z : Nat) (hl : Lp w p f F G x T S W sz lost g n z) (hrm : rm ≤ 20000) (ht : crcw.Tab w) (v : Value) (q : List UInt8) (hv : Rd w v q) (hq : q.length ≤ 140737488351232) :
    Calls Tryd.prog 28 #[ptr f, ptr p, ptr g, v, .int .i64 (rm : Int)] w fun r' w' => r' = .returned (.bool true) ∧ Fp w K e p f x T arm rm g w' := by
  cases hf : Wl.fit q.length with
  | true => exact fput_ok w K e p f F G x T S W arm sz lost rm hc g n z hl hrm ht v q hv hf
  | false => exact fput_bad w K e p f F G x T S W arm sz lost rm hc g n z hl hrm ht v q hv hq hf
theorem CrI.up {w0 wr X : World} {K : Nat} {e : Nat → Addr} {p f rm k : Nat} {lv : Value} (h : CrI w0 wr K e p f rm k lv) (hb : Below wr.heap.size wr X) : CrI w0 X K e p f rm k lv := by
  obtain ⟨F, G, x, T, S, W, arm, sz, lost, hc, hl, ha⟩ := h.ex
  refine ⟨⟨F, G, x, T, S, W, arm, sz, lost, co_below hc hb, ?_, ha⟩, h.below.trans (hb.mono hc.er.size)⟩
  rcases hl with h1 | ⟨g, n, z, h1, h2⟩
  · exact Or.inl h1
  · exact Or.inr ⟨g, n, z, h1, lp_below h2 hb⟩
theorem CrI.later {w0 wr : World} {K : Nat} {e : Nat → Addr} {p f rm k : Nat} {lv : Value} (h : CrI w0 wr K e p f rm k lv) : CrI w0 wr K e p f rm (k + 1) lv := by
  obtain ⟨F, G, x, T, S, W, arm, sz, lost, hc, hl, ha⟩ := h.ex
  exact ⟨⟨F, G, x, T, S, W, arm, sz, lost, hc, hl, by omega⟩, h.below⟩
/-- what happens to the disk alone, and takes no byte of it -/
theorem CrI.moved {w0 w w' : World} {K : Nat} {e : Nat → Addr} {p f rm k : Nat} {lv : Value} {F G : List Nat} {x x' : St} {T S W : List (List UInt8)} {arm lost : Bool} {sz : Int} (hb0 : Below K w0 w) (hc : Co w K e p f F G x T S W arm sz lost rm) (hl : lv = .pointer none ∨ ∃ g n z, lv = ptr g ∧ Lp w p f F G x T S W sz lost g n z) (hm : Mv w p F x' w') (hx : Fine x') (hb : x'.b = x.b) (hs : x'.s = x.s) (hr : x'.r = x.r) (ha : x'.a = x.a) (hk : x.a.length ≤ k) : CrI w0 w' K e p f rm k lv := by
  obtain ⟨F', h1, h2, h3⟩ := hc.move hm hx (hc.cr.of hb hs) (by rw [hr]; exact hc.room) (by rw [hb]; exact hc.le) (by rw [ha]; exact hc.arm)
  refine ⟨⟨F', G ++ F', x', T, S, W, arm, sz, lost, h1, ?_, by rw [ha]; exact hk⟩, hb0.trans (h2.below (fun i hi => hc.low i (hc.sub i hi)) hc.er.size)⟩
  rcases hl with h5 | ⟨g, n, z, h5, h6⟩
  · exact Or.inl h5
  · exact Or.inr ⟨g, n, z, h5, h6.move h2 h3 hb⟩
/-- an arm is laid down -/
theorem CrI.armed {w0 w w' : World} {K : Nat} {e : Nat → Addr} {p f rm k : Nat} {lv : Value} {F G : List Nat} {x : St} {T S W : List (List UInt8)} {arm lost : Bool} {sz n m : Int} (hb0 : Below K w0 w) (hc : Co w K e p f F G x T S W arm sz lost rm) (hl : lv = .pointer none ∨ ∃ g n z, lv = ptr g ∧ Lp w p f F G x T S W sz lost g n z) (hm : Mv w p F (x.arm n m) w') (hx : Fine (x.arm n m)) (hk : x.a.length ≤ k) :
    w'.cell? ⟨f, 3, none⟩ = some (.bool arm) ∧ w'.frozen? ⟨f, 3, none⟩ = false ∧ CrI w0 (w'.setCell ⟨f, 3, none⟩ (.bool true)) K e p f rm (k + 1) lv := by
  obtain ⟨F', h1, h2, h3⟩ := hm
  obtain ⟨vT, vS, vW, uT, uS, uW, hX⟩ := hc.ft
  have hcell := hX.cell.fr h2 hc.ff
  have hu : ∀ i ∈ G ++ F', i ∈ G ∨ w.heap.size ≤ i := fun i hi => by
    rcases List.mem_append.1 hi with h4 | h4
    · exact Or.inl h4
    · rcases h3 i h4 with h5 | h5
      · exact Or.inl (hc.sub i h5)
      · exact Or.inr h5
  have hff : f ∉ F' := fun hf => by
    rcases h3 f hf with h4 | h4
    · exact hc.ff h4
    · have := hc.gl f hc.mem; omega
  have hfr : Fr [f] w' (w'.setCell ⟨f, 3, none⟩ (.bool true)) := (Fr.refl _ _).set ⟨f, 3, none⟩ _ (Or.inl (by simp))
  have hmf : ∀ i ∈ [f], i ∈ G ++ F' := fun i hi => by rw [List.mem_singleton.1 hi]; exact List.mem_append_left _ hc.mem
  have hKf : ∀ i ∈ [f], K ≤ i := fun i hi => by rw [List.mem_singleton.1 hi]; exact hc.low f hc.mem
  have hFK : ∀ i ∈ F, K ≤ i := fun i hi => hc.low i (hc.sub i hi)
  have her := (hc.er.fr h2 hFK).fr hfr hKf
  refine ⟨cell_of hcell 3, free_of hcell 3, ⟨⟨F', G ++ F', x.arm n m, T, S, W, true, sz, lost, ⟨h1.other hfr (fun i hi hm => hff (by rw [← List.mem_singleton.1 hm]; exact hi)), ⟨vT, vS, vW, uT, uS, uW, ft_set3 hcell true, (hX.t.fr h2 hc.sub hu).fr hfr hmf (fun _ h => Or.inl h), (hX.s.fr h2 hc.sub hu).fr hfr hmf (fun _ h => Or.inl h), (hX.y.fr h2 hc.sub hu).fr hfr hmf (fun _ h => Or.inl h), List.mem_append_left _ hc.mem, hX.ts, hX.ys, hX.nil, hX.low⟩, hff, fun i hi => List.mem_append_right _ hi, List.mem_append_left _ hc.mem, fun i hi => ?_, fun i hi => ?_, her, hx, hc.cr.of rfl rfl, hc.room, hc.le, fun _ => rfl⟩, ?_, ?_⟩, (hb0.trans (h2.below hFK hc.er.size)).trans (hfr.below hKf (Nat.le_trans hc.er.size h2.size))⟩⟩
  · rcases hu i hi with h4 | h4
    · exact hc.low i h4
    · exact Nat.le_trans hc.er.size h4
  · rw [size_set]
    rcases List.mem_append.1 hi with h4 | h4
    · exact Nat.lt_of_lt_of_le (hc.gl i h4) h2.size
    · exact h1.lt i h4
  · rcases hl with h5 | ⟨g, n', z, h5, h6⟩
    · exact Or.inl h5
    · refine Or.inr ⟨g, n', z, h5, ?_⟩
      have h7 := h6.move (x' := x.arm n m) h2 h3 rfl
      exact ⟨(hfr.block g (Array.getElem?_eq_some_iff.1 h7.ly).1 (by simp [Ne.symm h7.ne])).trans h7.ly, h7.far, h7.mem, h7.ne, h7.n, h7.z, h7.al⟩
  · show (x.a ++ [_]).length ≤ _
    rw [List.length_append]
    simp
    omega

set_option maxRecDepth 100000 in
set_option maxHeartbeats 12800000 in
theorem lawCrash (w : World) (od : Option Addr) (nd cd : Nat) (room : Int) (vs : Value) (L : List Stp) (hs : LsS w vs L) (hL : L.length ≤ 2932031007402) (hq : ∀ s ∈ L, StpOk s) (hr0 : -9223372036854775808 ≤ room) (hr1 : room ≤ 9223372036854775807) (ht : crcw.Tab w) (e : Nat → Addr) (he : errw.Errs w e) :
    Calls Tryd.prog 6 #[.agg #[.slice od nd cd, .int .i64 room, vs]] w fun r' w' => r' = .returned (.bool true) ∧ Below w.heap.size w w' := by
  obtain ⟨os, cs, rfl, _⟩ : ∃ os cs, vs = .slice os L.length cs ∧ True := by
    obtain ⟨os, cs, h, _⟩ := hs
    exact ⟨os, cs, h, trivial⟩
  obtain ⟨W0, hW0⟩ : ∃ W0, W0 = w.alloc (.cells #[.slice od nd cd, .int .i64 room, .slice os L.length cs] 44) := ⟨_, rfl⟩
  have hB0 : Below w.heap.size w W0 := by rw [hW0]; exact (Below.refl _ _).alloc (Nat.le_refl _) _
  have hX0 : W0.heap[w.heap.size]? = some (.cells #[.slice od nd cd, .int .i64 room, .slice os L.length cs] 44) := by rw [hW0]; exact heap_alloc_new _ _
  have hz0 : w.heap.size < W0.heap.size := by rw [hW0]; simp
  obtain ⟨K, hK⟩ : ∃ K, K = W0.heap.size := ⟨_, rfl⟩
  have HTE : Hid (∀ Y, Below W0.heap.size W0 Y → crcw.Tab Y) := fun Y hY => (ht.below hB0 ht.lt).below hY (Nat.lt_of_lt_of_le ht.lt hB0.size)
  have HE0 : Hid (Er W0 K e) := by rw [hK]; exact er_of (he.below hB0)
  have HLS := hide (hs.below hB0)
  have HQ := hide hq
  have HTL : Hid (13 < K) := by rw [hK]; exact Nat.lt_of_lt_of_le ht.lt hB0.size
  have HEA : Hid (1 < W0.heap.size) := World.block_lt_of_cell? _ _ (he.below hB0 |>.cell 0 (by decide))
  have HX0 := hide hX0
  have HB0 := hide hB0
  have x1 : W0.cell? ⟨w.heap.size, 1, none⟩ = some (.int .i64 room) := cell_of hX0 1
  have hpb := kitw.pick_bounds room 20000
  obtain ⟨rm, hrm⟩ : ∃ rm : Nat, kitw.pick room 20000 = (rm : Int) := ⟨(kitw.pick room 20000).toNat, by omega⟩
  have hrl : rm ≤ 20000 := by have := hpb.2 (by decide); omega
  have HPK := hide (kitw.pick_any room 20000 W0 (by decide) (by decide) hr0 hr1)
  rw [hrm] at HPK
  have HW0 := hide hW0
  clear hpb hrm ht he hs hq hB0 hX0 hW0
  go_enter Tryd.func6, Tryd.ntmps6
  go_wp2_with fail
  rw [← HW0.out]
  refine HPK.out.mono ?_
  rintro r' w0 ⟨rfl, hw0⟩
  subst hw0
  clear HPK x1 HW0
  go_wp2_with fail
  refine (new_any w0 (rm : Int)).mono ?_
  rintro r' w1 ⟨p, F, rfl, hD1, hF1, b1⟩
  have hroom : roomOf (rm : Int) = rm := by
    unfold roomOf
    split
    · omega
    · split <;> omega
  rw [hroom] at hD1
  have hE1 := HE0.out.below b1
  have HB1 := hide b1
  have hFK : ∀ k ∈ F, K ≤ k := fun k hk => by have := hF1 k hk; omega
  have HOP := hide (openL_ok w1 K p F ⟨[], 0, rm, [], false⟩ hD1 e hE1.ed hFK (fine_plain [] rm (by decide) (by omega)) (HTE.out _ b1) ⟨[], 0, rm, [], false⟩ rfl (fine_plain [] rm (by decide) (by omega)) (by
      have hg0 : Wl.good [] = 0 := rfl
      show Fine (St.trunc ⟨[], 0, rm, [], false⟩ ((Wl.good [] : Nat) : Int)).1
      rw [hg0]
      exact fine_plain [] rm (by decide) (by omega)) (Nat.zero_le _) ⟨[], 0, rm, [], false⟩ rfl HTL.out)
  clear hD1 hF1 b1 hE1 hroom
  go_wp2_with fail
  refine HOP.out.mono ?_
  rintro r' w2 ⟨g, F2, v', its, rfl, hlg, hps, hown, hits, hf2, hs2, hg2, _⟩
  have hits0 : its = [] := by
    have h1 : ps its = [] := hps
    unfold ps at h1
    exact List.map_eq_nil_iff.1 h1
  subst hits0
  obtain ⟨ov, cv, rfl⟩ : ∃ ov cv, v' = .slice ov 0 cv := by
    rcases hown.2 with ⟨rfl, h0⟩ | ⟨g', c, cur, rfl, _⟩
    · exact ⟨none, 0, rfl⟩
    · exact ⟨_, c, rfl⟩
  have hlg' : LgD w2 g p F2 ⟨⟨[], 0, rm, [], false⟩, 0, 0, false⟩ := hlg
  have hb2 : Below w0.heap.size w0 w2 := HB1.out.trans (hf2.below (fun k hk => by have := hFK k hk; omega) HB1.out.size)
  have hF2K : ∀ k ∈ F2, K ≤ k := fun k hk => by
    rcases hs2 k hk with h1 | h1
    · exact hFK k h1
    · have := HB1.out.size; omega
  have hgK : K ≤ g := by have := HB1.out.size; omega
  have HE2 : Hid (Er w2 K e) := HE0.out.below hb2
  have HBG := hide (begun_any w2 (HTE.out _ hb2) _ (HE2.out.arg) (by have := hb2.size; have := HEA.out; omega))
  have HLG2 := hide hlg'
  have HB2 := hide hb2
  have HF2K := hide hF2K
  clear hlg hlg' hps hown hits hf2 hs2 hb2 hF2K HOP
  go_wp2_with fail
  refine HBG.out.mono ?_
  rintro r' w3 ⟨rfl, b3⟩
  have hLG3 : LgD w3 g p F2 ⟨⟨[], 0, rm, [], false⟩, 0, 0, false⟩ := lgD_below HLG2.out b3
  have hB3 : Below w0.heap.size w0 w3 := HB2.out.trans (b3.mono HB2.out.size)
  obtain ⟨W4, hW4⟩ : ∃ W4, W4 = w3.alloc (.cells #[.slice none 0 0, .slice none 0 0, .slice none 0 0, .bool false, .int .i64 0, .bool false] 59) := ⟨_, rfl⟩
  have b4 : Below w3.heap.size w3 W4 := by rw [hW4]; exact (Below.refl _ _).alloc (Nat.le_refl _) _
  have hg3 := (Array.getElem?_eq_some_iff.1 hLG3.2.1).1
  obtain ⟨f, hf⟩ : ∃ f, f = w3.heap.size := ⟨_, rfl⟩
  have hFl := hLG3.1.lt
  have HI : Hid (CrI w0 W4 K e p f rm 0 (ptr g)) := by
    have hB4 : Below w0.heap.size w0 W4 := keepD hB3 b4
    refine ⟨⟨F2, f :: g :: F2, ⟨[], 0, rm, [], false⟩, [], [], [], false, 0, false, ⟨hLG3.1.below b4, ?_, fun hm => ?_, fun k hk => List.mem_cons_of_mem _ (List.mem_cons_of_mem _ hk), List.mem_cons_self .., fun k hk => ?_, fun k hk => ?_, HE0.out.below hB4, fine_plain [] rm (by decide) (by omega), Cr.whole rfl rfl (fun q hq => by cases hq), rfl, Nat.zero_le _, fun h => absurd rfl h⟩, Or.inr ⟨g, 0, 0, rfl, ⟨(b4.block g hg3).trans hLG3.2.1, hLG3.2.2, by simp, by omega, rfl, rfl, fun _ => ⟨rfl, rfl, rfl⟩⟩⟩, Nat.le_refl _⟩, by rw [hK]; exact hB4⟩
    · refine ⟨_, _, _, _, _, _, ?_, rw_nil _ _, rw_nil _ _, rw_nil _ _, by simp, fun b hb => (by cases hb), fun b hb => (by cases hb), fun _ => rfl, fun b hb => (by cases hb)⟩
      show W4.heap[f]? = _
      rw [hW4, hf]
      exact heap_alloc_new _ _
    · have := hFl _ hm; omega
    · rcases List.mem_cons.1 hk with rfl | hk
      · have := hB3.size; omega
      · rcases List.mem_cons.1 hk with rfl | hk
        · exact hgK
        · exact HF2K.out k hk
    · have h5 : W4.heap.size = w3.heap.size + 1 := by rw [hW4]; simp
      rcases List.mem_cons.1 hk with rfl | hk
      · omega
      · rcases List.mem_cons.1 hk with rfl | hk
        · omega
        · have := hFl k hk; omega
  have HW4 := hide hW4
  clear hLG3 hB3 b4 hg3 hFl hW4 b3 HBG HLG2 HB2 HF2K hgK HE2 hFK HB1 HEA
  go_wp2_with fail
  rw [← HW4.out, ← hf]
  go_loopw [5, 6, 7, 8, 10] (fun lv gv ev ok i wr => ∃ k : Nat, k ≤ L.length ∧ i = .int .i64 k ∧ ok = .bool true ∧ Hid (CrI w0 wr K e p f rm k lv)) (fun _ _ _ _ i _ => L.length - (intOf i).toNat)
  case atStart => exact ⟨0, Nat.zero_le _, rfl, rfl, HI⟩
  case round =>
    clear HI HW4 hf
    obtain ⟨k, hk, rfl, rfl, HI⟩ := hrel
    have hBK : Below K w0 wr := HI.out.below
    have x2 : wr.cell? ⟨w.heap.size, 2, none⟩ = some (.slice os L.length cs) := cell_of ((hBK.block _ (by omega)).trans HX0.out) 2
    have hB0r : Below w0.heap.size w0 wr := by rw [← hK]; exact hBK
    have hTB : crcw.Tab wr := HTE.out _ hB0r
    have HTB := hide hTB
    have HBK := hide hBK
    have HB0r := hide hB0r
    clear hTB hB0r hBK
    by_cases hlt : k < L.length
    · obtain ⟨_, _, es, hsp⟩ := HLS.out.below HB0r.out
      cases es
      obtain ⟨gs, oo, rfl, hgs, hsp⟩ := hsp (by omega)
      obtain ⟨u, hru, hrd⟩ := hsp k hlt
      have HOK := hide (HQ.out L[k] (List.getElem_mem hlt))
      generalize L[k] = s at *
      obtain ⟨xo, xc, hxu⟩ := hrd.len
      subst hxu
      obtain ⟨X1, hX1⟩ : ∃ X1, X1 = wr.alloc (.cells #[.int .i64 s.k, .int .i64 s.n, .int .i64 s.m, .slice xo s.q.length xc] 48) := ⟨_, rfl⟩
      have b1 : Below wr.heap.size wr X1 := by rw [hX1]; exact (Below.refl _ _).alloc (Nat.le_refl _) _
      have hS1 : X1.heap[wr.heap.size]? = some (.cells #[.int .i64 s.k, .int .i64 s.n, .int .i64 s.m, .slice xo s.q.length xc] 48) := by rw [hX1]; exact heap_alloc_new _ _
      have d0 : X1.cell? ⟨wr.heap.size, 0, none⟩ = some (.int .i64 s.k) := cell_of hS1 0
      have d1 : X1.cell? ⟨wr.heap.size, 1, none⟩ = some (.int .i64 s.n) := cell_of hS1 1
      have d2 : X1.cell? ⟨wr.heap.size, 2, none⟩ = some (.int .i64 s.m) := cell_of hS1 2
      have d3 : X1.cell? ⟨wr.heap.size, 3, none⟩ = some (.slice xo s.q.length xc) := cell_of hS1 3
      have HRU := hide hru
      have HRD := hide (hrd.below b1)
      have HI1 := hide (HI.out.up b1)
      have HTB1 := hide (HTB.out.below b1 HTB.out.lt)
      have HX1 := hide hX1
      have z0 : (0 : Int) ≤ (k : Int) := Int.natCast_nonneg _
      have z1 : (k : Int) < (L.length : Int) := by omega
      obtain ⟨F, G, x, T, S, W, arm, sz, lost, hc, hlv, ha⟩ := HI1.out.ex
      have HBX : Hid (Below K w0 X1) := HI1.out.below
      have hfl := hc.flat
      have HC := hide hc
      have HLV := hide hlv
      have hql := HOK.out.1
      unfold reachBytes at hql
      have HKL : Hid (K ≤ X1.heap.size) := hc.er.size
      clear hsp hru hrd b1 hS1 hX1 hc hlv
      by_cases k1 : s.k = 1
      · have e1 : (s.k == 1) = true := by rw [k1]; rfl
        clear k1
        rcases HLV.out with hl0 | ⟨g, n, z, hl0, hl1⟩
        · subst hl0
          go_wp2_with (refine wpList_load_mid rfl 48 (.tmp 51) rfl gs (oo + k * 4) rfl _ _ HRU.out Tryd.underlying48 rfl sizeStepS ?_)
          rw [← HX1.out]
          go_roundw
          case rel => exact ⟨k + 1, by omega, by go_num, rfl, HI1.out.later⟩
          case measure => simp [intOf]; omega
        · subst hl0
          have HP := hide (fput_any X1 K e p f F G x T S W arm sz lost rm HC.out g n z hl1 hrl HTB1.out _ s.q HRD.out (by omega))
          clear hl1 HLV
          go_wp2_with (first
            | (refine wpList_load_mid rfl 48 (.tmp 51) rfl gs (oo + k * 4) rfl _ _ HRU.out Tryd.underlying48 rfl sizeStepS ?_))
          rw [← HX1.out]
          go_wp2_with fail
          refine HP.out.mono ?_
          rintro r' w3 ⟨rfl, F', G', x', S', W', sz', lost', n', z', hco, hlp, hax, hbx⟩
          have HI2 : Hid (CrI w0 w3 K e p f rm (k + 1) (ptr g)) := ⟨⟨F', G', x', T, S', W', arm, sz', lost', hco, Or.inr ⟨g, n', z', rfl, hlp⟩, by omega⟩, HBX.out.trans hbx⟩
          clear hco hlp hax hbx HP
          go_wp2_with fail
          go_roundw
          case rel => exact ⟨k + 1, by omega, by go_num, rfl, HI2⟩
          case measure => simp [intOf]; omega
      have e1 : (s.k == 1) = false := beq_false_of_ne k1
      by_cases k3 : s.k = 3
      · have e3 : (s.k == 3) = true := by rw [k3]; rfl
        clear k1 k3
        have HCR := hide (crash_any X1 p F x s.n HC.out.dk HC.out.fine)
        go_wp2_with (refine wpList_load_mid rfl 48 (.tmp 51) rfl gs (oo + k * 4) rfl _ _ HRU.out Tryd.underlying48 rfl sizeStepS ?_)
        rw [← HX1.out]
        go_wp2_with fail
        refine HCR.out.mono ?_
        rintro r' w3 ⟨rfl, hm⟩
        obtain ⟨q1, q2, q3, q4⟩ := crash_syn HC.out.cr.syn s.n
        have HI2 : Hid (CrI w0 w3 K e p f rm (k + 1) u5) := (CrI.moved HBX.out HC.out HLV.out hm (fine_crash HC.out.fine s.n HOK.out.2.1) q1 q2 q3 q4 ha).later
        clear hm q1 q2 q3 q4 HCR
        go_wp2_with fail
        go_roundw
        case rel => exact ⟨k + 1, by omega, by go_num, rfl, HI2⟩
        case measure => simp [intOf]; omega
      have e3 : (s.k == 3) = false := beq_false_of_ne k3
      by_cases k4 : s.k = 4
      · have e4 : (s.k == 4) = true := by rw [k4]; rfl
        clear k1 k3 k4
        have HAR := hide (arm_any X1 p F x s.n s.m HC.out.dk (by omega))
        go_wp2_with (refine wpList_load_mid rfl 48 (.tmp 51) rfl gs (oo + k * 4) rfl _ _ HRU.out Tryd.underlying48 rfl sizeStepS ?_)
        rw [← HX1.out]
        go_wp2_with fail
        refine HAR.out.mono ?_
        rintro r' w3 ⟨rfl, hm⟩
        obtain ⟨q1, q2, q3⟩ := CrI.armed HBX.out HC.out HLV.out hm (fine_arm HC.out.fine s.n s.m HOK.out.2.1 HOK.out.2.2.1 HOK.out.2.2.2) ha
        have HI2 := hide q3
        clear hm HAR q3
        go_wp2_with fail
        go_roundw
        case rel => exact ⟨k + 1, by omega, by go_num, rfl, HI2⟩
        case measure => simp [intOf]; omega
      have e4 : (s.k == 4) = false := beq_false_of_ne k4
      by_cases k5 : s.k = 5
      · have e5 : (s.k == 5) = true := by rw [k5]; rfl
        clear k1 k3 k4 k5
        have HRV := hide (revive_any X1 p F x HC.out.dk)
        go_wp2_with (refine wpList_load_mid rfl 48 (.tmp 51) rfl gs (oo + k * 4) rfl _ _ HRU.out Tryd.underlying48 rfl sizeStepS ?_)
        rw [← HX1.out]
        go_wp2_with fail
        refine HRV.out.mono ?_
        rintro r' w3 ⟨rfl, hm⟩
        have HI2 : Hid (CrI w0 w3 K e p f rm (k + 1) u5) := (CrI.moved HBX.out HC.out HLV.out hm (fine_revive HC.out.fine) rfl rfl rfl rfl ha).later
        clear hm HRV
        go_wp2_with fail
        go_roundw
        case rel => exact ⟨k + 1, by omega, by go_num, rfl, HI2⟩
        case measure => simp [intOf]; omega
      have e5 : (s.k == 5) = false := beq_false_of_ne k5
      by_cases k2 : s.k = 2
      · have e2 : (s.k == 2) = true := by rw [k2]; rfl
        clear k1 k2 k3 k4 k5
        have HRV := hide (revive_any X1 p F x HC.out.dk)
        go_wp2_with (refine wpList_load_mid rfl 48 (.tmp 51) rfl gs (oo + k * 4) rfl _ _ HRU.out Tryd.underlying48 rfl sizeStepS ?_)
        rw [← HX1.out]
        go_wp2_with fail
        refine HRV.out.mono ?_
        rintro r' w2' ⟨rfl, hm⟩
        obtain ⟨F2', h1, h2, h3⟩ := HC.out.move hm (fine_revive HC.out.fine) (HC.out.cr.of rfl rfl) HC.out.room HC.out.le HC.out.arm
        have hB2 : Below K X1 w2' := h2.below (fun i hi => HC.out.low i (HC.out.sub i hi)) HC.out.er.size
        have HROP := hide (reopen w2' K e p f F2' (G ++ F2') x.revive T S W arm sz lost rm h1 rfl (tab_low HTB1.out HTL.out hB2) HTL.out hrl)
        have HB2 : Hid (Below K w0 w2') := HBX.out.trans hB2
        have HARV : Hid (x.revive.a.length = x.a.length) := rfl
        clear hm h1 h2 h3 hB2 HRV
        go_wp2_with fail
        refine HROP.out.mono ?_
        rintro r' w3 (⟨g, v, ug, Q, F', x', rfl, hop⟩ | ⟨F', x', rfl, hon⟩)
        · have HOPN := hide hop
          have HOD := hide (opened_any w3 K f _ T S W arm sz lost hop.co.ft hop.co.gl _ _ Q hop.row hop.is (by omega) (by
          have h5 := hop.co.le
          rw [hop.b] at h5
          omega) (fun q hq => by have := ((Wl.fit_iff _).1 (hop.co.cr.fits q hq)).2; omega))
          obtain ⟨ov', cv', hvv⟩ := hop.row.form
          subst hvv
          clear hop HROP
          go_wp2_with fail
          refine HOD.out.mono ?_
          rintro r' w4 ⟨rfl, hft, hfr⟩
          obtain ⟨q1, q2⟩ := HOPN.out.told hft hfr
          have HI2 : Hid (CrI w0 w4 K e p f rm (k + 1) (ptr g)) := ⟨⟨_, _, x', Q, [], [], arm, _, false, q1, Or.inr ⟨g, _, _, rfl, q2⟩, by have := HOPN.out.arms; have := HARV.out; omega⟩, (HB2.out.trans HOPN.out.below).trans (hfr.below (fun i hi => by rw [List.mem_singleton.1 hi]; exact HOPN.out.co.low f HOPN.out.co.mem) HOPN.out.co.er.size)⟩
          clear hft hfr q1 q2 HOD
          go_wp2_with fail
          go_roundw
          case rel => exact ⟨k + 1, by omega, by go_num, rfl, HI2⟩
          case measure => simp [intOf]; omega
        · have HI2 : Hid (CrI w0 w3 K e p f rm (k + 1) (.pointer none)) := ⟨⟨F', _, x', T, S, W, arm, sz, lost, hon.co, Or.inl rfl, by have := hon.arms; have := HARV.out; omega⟩, HB2.out.trans hon.below⟩
          have HN := hide (num_err4 w3 e hon.co.er.errs 10 (by omega))
          have hev : errV e 10 = errw.E e 9 := rfl
          rw [hev] at HN
          have HD := hide (dead_any w3 p F' x' hon.co.dk)
          rw [hon.d] at HD
          obtain ⟨vT, vS, vW, uT, uS, uW, hX⟩ := hon.co.ft
          have y3 : w3.cell? ⟨f, 3, none⟩ = some (.bool arm) := cell_of hX.cell 3
          rw [hon.arm] at y3
          clear hX hon HROP hev
          go_wp2_with (first
            | (go_at_call 23; refine HN.out.mono ?_; rintro r' w7 ⟨rfl, rfl⟩)
            | (go_at_call 31; refine HD.out.mono ?_; rintro r' w7 ⟨rfl, rfl⟩))
          go_roundw
          case rel => exact ⟨k + 1, by omega, by go_num, rfl, HI2⟩
          case measure => simp [intOf]; omega
      · have e2 : (s.k == 2) = false := beq_false_of_ne k2
        clear k1 k2 k3 k4 k5
        go_wp2_with (refine wpList_load_mid rfl 48 (.tmp 51) rfl gs (oo + k * 4) rfl _ _ HRU.out Tryd.underlying48 rfl sizeStepS ?_)
        rw [← HX1.out]
        go_roundw
        case rel => exact ⟨k + 1, by omega, by go_num, rfl, HI1.out.later⟩
        case measure => simp [intOf]; omega
    · obtain rfl : k = L.length := by omega
      have k1 : ¬ ((L.length : Nat) : Int) < ((L.length : Nat) : Int) := by omega
      obtain ⟨F, G, x, T, S, W, arm, sz, lost, hc, hlv, ha⟩ := HI.out.ex
      have hfl := hc.flat
      have HC := hide hc
      have HRV := hide (revive_any wr p F x hc.dk)
      clear hc hlv
      go_wp2_with fail
      refine HRV.out.mono ?_
      rintro r' w2' ⟨rfl, hm⟩
      obtain ⟨F2', h1, h2, h3⟩ := HC.out.move hm (fine_revive HC.out.fine) (HC.out.cr.of rfl rfl) HC.out.room HC.out.le HC.out.arm
      have hB2 : Below K wr w2' := h2.below (fun i hi => HC.out.low i (HC.out.sub i hi)) HC.out.er.size
      have HROP := hide (reopen w2' K e p f F2' (G ++ F2') x.revive T S W arm sz lost rm h1 rfl (tab_low HTB.out HTL.out hB2) HTL.out hrl)
      have HB2 : Hid (Below K w0 w2') := HBK.out.trans hB2
      clear hm h1 h2 h3 hB2 HRV
      go_wp2_with fail
      refine HROP.out.mono ?_
      have HEND : Hid (∀ X, Below K w0 X → Below w.heap.size w X) := fun X hX => HB0.out.trans (hX.mono (by rw [hK]; exact HB0.out.size))
      rintro r' w3 (⟨g, v, ug, Q, F', x', rfl, hop⟩ | ⟨F', x', rfl, hon⟩)
      · have HOPN := hide hop
        have HOD := hide (opened_any w3 K f _ T S W arm sz lost hop.co.ft hop.co.gl _ _ Q hop.row hop.is (by omega) (by
          have h5 := hop.co.le
          rw [hop.b] at h5
          omega) (fun q hq => by have := ((Wl.fit_iff _).1 (hop.co.cr.fits q hq)).2; omega))
        obtain ⟨ov', cv', hvv⟩ := hop.row.form
        subst hvv
        clear hop HROP
        go_wp2_with fail
        refine HOD.out.mono ?_
        rintro r' w4 ⟨rfl, hft, hfr⟩
        have HZ : Hid (Below w.heap.size w w4) := HEND.out _ ((HB2.out.trans HOPN.out.below).trans (hfr.below (fun i hi => by rw [List.mem_singleton.1 hi]; exact HOPN.out.co.low f HOPN.out.co.mem) HOPN.out.co.er.size))
        clear hft hfr HOD
        go_wp2_with fail
        go_ret
        exact ⟨rfl, HZ.out⟩
      · have HZ : Hid (Below w.heap.size w w3) := HEND.out _ (HB2.out.trans hon.below)
        have HD := hide (dead_any w3 p F' x' hon.co.dk)
        rw [hon.d] at HD
        obtain ⟨vT, vS, vW, uT, uS, uW, hX⟩ := hon.co.ft
        have y3 : w3.cell? ⟨f, 3, none⟩ = some (.bool arm) := cell_of hX.cell 3
        rw [hon.arm] at y3
        clear hX hon HROP
        go_wp2_with (first
          | (go_at_call 31; refine HD.out.mono ?_; rintro r' w7 ⟨rfl, rfl⟩))
        go_ret
        exact ⟨rfl, HZ.out⟩
end Go.Proofs.YtgmgffcfmopgmaaDoor.wl
