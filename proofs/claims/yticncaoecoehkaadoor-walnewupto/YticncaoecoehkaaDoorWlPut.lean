import Derived.Test.YticncaoecoehkaaDoorWlLog
namespace Go.Proofs.YticncaoecoehkaaDoor.wl
open Go.ChangeShapes Go.WideShapes Go.ChangeAt Go.RowKit Go.Proofs.YticncaoecoehkaaDoor.common Go.Proofs.YticncaoecoehkaaDoor.dk

theorem oper_num (x : St) (dying on : St → St) (err : Nat) : (x.oper dying on err).2 = err ∨ (x.oper dying on err).2 = 10 := by
  unfold St.oper
  split
  · exact Or.inr rfl
  · split
    · exact Or.inl rfl
    · exact Or.inr rfl
    · exact Or.inl rfl
theorem wrS_num (x : St) (l : List UInt8) : (wrS x l).2 = 0 ∨ (wrS x l).2 = 9 ∨ (wrS x l).2 = 10 := by
  unfold wrS
  split
  · unfold St.syncs
    rcases oper_num (x.append l).1 id St.sync 0 with h | h
    · exact Or.inl h
    · exact Or.inr (Or.inr h)
  · have h := oper_num x (fun y => y.put l) (fun y => y.put l) (if x.fits l then 0 else 9)
    have e : (x.append l).2 = (x.oper (fun y => y.put l) (fun y => y.put l) (if x.fits l then 0 else 9)).2 := rfl
    rw [e]
    rcases h with h | h
    · rw [h]
      split
      · exact Or.inl rfl
      · exact Or.inr (Or.inl rfl)
    · exact Or.inr (Or.inr h)
theorem ow_notin {w : World} {lo hi : Nat} {v : Value} {l : List UInt8} {F : List Nat} (h : w.ownsRow lo 5 1 v l.length (l.map B)) (hF : ∀ k ∈ F, k < lo) (_ : hi = 0) : (∀ a n c, v = .slice (some a) n c → a.block ∉ F) ∧ (∀ a n c, v = .slice (some a) n c → a.block < w.heap.size) := by
  rcases h.2 with ⟨rfl, _⟩ | ⟨g, cap, cur, rfl, hg, hh, _⟩
  · exact ⟨fun a n c e => (by cases e), fun a n c e => (by cases e)⟩
  · refine ⟨fun a n c e hm => ?_, fun a n c e => ?_⟩
    · cases e
      have h1 : g < lo := hF g hm
      omega
    · cases e
      exact (Array.getElem?_eq_some_iff.1 hh).1

set_option maxRecDepth 100000 in
set_option maxHeartbeats 1600000 in
theorem put_any (w : World) (K p g : Nat) (F : List Nat) (y : Lg) (h : LgD w g p F y) (v : Value) (l : List UInt8) (hv : Rd w v l) (hl : l.length ≤ 4611686018427387904) (ht : crcw.Tab w) (e : Nat → Addr) (he : Er w K e) (hF : ∀ k ∈ F, K ≤ k) (hx : Fine y.x) (hx2 : Fine (y.x.append (Wl.fr l)).1) (hn : y.n ≤ 4611686018427387904) (hz : y.z ≤ 4611686018427387904) :
    Calls Tryd.prog 22 #[ptr g, v] w fun r' w' => ∃ F', r' = .returned (errV e (y.put l).2) ∧ LgD w' g p F' (y.put l).1 ∧ Fr (g :: F) w w' ∧ ∀ k ∈ F', k ∈ F ∨ w.heap.size ≤ k := by
  obtain ⟨hD, hLg, hgF⟩ := h
  have hFlt := hD.lt
  have hgl : g < w.heap.size := (Array.getElem?_eq_some_iff.1 hLg).1
  have HFA := hide (frame_any w v l hv hl ht (errw.E e 0) he.arg)
  obtain ⟨oa, c, rfl⟩ := hv.len
  have HD := hide hD
  have HLG := hide hLg
  have HE := hide he
  clear hv ht he hD hLg
  go_enter Tryd.func22, Tryd.ntmps22
  go_wp2_with fail
  refine HFA.out.mono ?_
  rintro r' w1 ⟨vf, rfl, hof, b1⟩
  have hD1 := HD.out.below b1
  have hL1 : LgAt w1 g p y.n y.z y.d := (b1.block g hgl).trans HLG.out
  have hE1 := HE.out.below b1
  have HB1 := hide b1
  have hfr0 : Fr (g :: F) w w1 := Fr.of b1
  cases hf : Wl.fit l.length with
  | false =>
    have hp : y.put l = (y, 1) := by unfold Lg.put; rw [if_pos hf]
    have hfe : frE (errw.E e 0) l.length = errw.E e 0 := by unfold frE; rw [hf]; rfl
    rw [hfe]
    obtain ⟨of, cf, rfl⟩ := (rd_own hof).len
    have HP := hide hp
    have HDD := hide hD1
    have HLL := hide hL1
    clear hp hfe hf hof b1 hD1 hL1 hE1
    go_wp2_with fail
    go_ret
    refine ⟨F, ?_, ?_, hfr0, fun k hk => Or.inl hk⟩
    · rw [HP.out]; rfl
    · rw [HP.out]; exact ⟨HDD.out, HLL.out, hgF⟩
  | true =>
    have hfe : frE (errw.E e 0) l.length = .nilIface := by unfold frE; rw [hf]; rfl
    have hfl : frL l = Wl.fr l := by unfold frL; rw [hf]; rfl
    rw [hfe]
    rw [hfl] at hof
    have c3 : w1.cell? ⟨g, 3, none⟩ = some (.bool y.d) := cell_of hL1 3
    cases hd : y.d with
    | true =>
      have hp : y.put l = (y, 10) := by unfold Lg.put; rw [if_neg (by rw [hf]; decide), if_pos hd]
      rw [hd] at c3
      have cD := hE1.dead
      obtain ⟨of, cf, rfl⟩ := (rd_own hof).len
      have HP := hide hp
      have HDD := hide hD1
      have HLL := hide hL1
      clear hp hfe hf hof b1 hD1 hL1 hE1 hfl hd
      go_wp2_with fail
      go_ret
      refine ⟨F, ?_, ?_, hfr0, fun k hk => Or.inl hk⟩
      · rw [HP.out]; rfl
      · rw [HP.out]; exact ⟨HDD.out, HLL.out, hgF⟩
    | false =>
      rw [hd] at c3
      have hfl8 := Wl.fr_len l
      have hfit := (Wl.fit_iff _).1 hf
      obtain ⟨nf1, nf2⟩ := ow_notin (hi := 0) hof hFlt rfl
      have HWR := hide (write_any w1 K p g F y.x hD1 y.n y.z y.d hL1 hgF vf (Wl.fr l) (rd_own hof) nf1 nf2 e hE1 hF hx hx2 (by omega))
      obtain ⟨of, cf, rfl⟩ := (rd_own hof).len
      have hp0 : y.put l = if (wrS y.x (Wl.fr l)).2 = 0 then (⟨(wrS y.x (Wl.fr l)).1, y.n + 1, y.z + (Wl.fr l).length, y.d⟩, 0) else (⟨(wrS y.x (Wl.fr l)).1, y.n, y.z, decide ((wrS y.x (Wl.fr l)).2 = 10)⟩, (wrS y.x (Wl.fr l)).2) := by
        unfold Lg.put
        rw [if_neg (by rw [hf]; decide), if_neg (by rw [hd]; decide)]
      have HP0 := hide hp0
      have HL1 := hide hL1
      have HE1 := hide hE1
      have HDE := hide hd
      have hnum := wrS_num y.x (Wl.fr l)
      obtain ⟨m, hm⟩ : ∃ m, m = (Wl.fr l).length := ⟨_, rfl⟩
      have hmb : m ≤ 8200 := by omega
      rw [← hm] at HWR ⊢
      have HM := hide hm
      clear hp0 hfe hf hof hD1 hL1 hE1 hfl nf1 nf2 hfl8 hm hd
      go_wp2_with fail
      refine HWR.out.mono ?_
      rintro r' w2 ⟨rfl, F2, hD2, hf2, hs2⟩
      have hL2 : LgAt w2 g p y.n y.z y.d := (hf2.block g (by have := HB1.out.size; omega) hgF).trans HL1.out
      have HFR2 : Hid (Fr (g :: F) w w2) := hfr0.trans hf2 (fun i hi => Or.inl (List.mem_cons_of_mem _ hi))
      have HS2 : Hid (∀ k ∈ F2, k ∈ F ∨ w.heap.size ≤ k) := fun k hk => by
        rcases hs2 k hk with h1 | h1
        · exact Or.inl h1
        · exact Or.inr (Nat.le_trans HB1.out.size h1)
      have hgF2 : g ∉ F2 := fun hm => by
        rcases hs2 g hm with h1 | h1
        · exact hgF h1
        · have := HB1.out.size; omega
      have HD2 := hide hD2
      have HE2 := hide (HE1.out.fr hf2 hF)
      by_cases h0 : (wrS y.x (Wl.fr l)).2 = 0
      · rw [h0, errV_zero]
        have hp1 : y.put l = (⟨(wrS y.x (Wl.fr l)).1, y.n + 1, y.z + (Wl.fr l).length, y.d⟩, 0) := by rw [HP0.out, if_pos h0]
        have c1 : w2.cell? ⟨g, 1, none⟩ = some (.int .i64 (y.n : Int)) := cell_of hL2 1
        have f1 : w2.frozen? ⟨g, 1, none⟩ = false := free_of hL2 1
        have hL3 := lg_set1 hL2 (y.n + 1)
        have hcn : ((y.n + 1 : Nat) : Int) = (y.n : Int) + 1 := by omega
        rw [hcn] at hL3
        have c2 : (w2.setCell ⟨g, 1, none⟩ (.int .i64 ((y.n : Int) + 1))).cell? ⟨g, 2, none⟩ = some (.int .i64 (y.z : Int)) := cell_of hL3 2
        have f2 : (w2.setCell ⟨g, 1, none⟩ (.int .i64 ((y.n : Int) + 1))).frozen? ⟨g, 2, none⟩ = false := free_of hL3 2
        have hL4 := lg_set2 hL3 (y.z + m)
        have hcz : ((y.z + m : Nat) : Int) = (y.z : Int) + (m : Int) := by omega
        rw [hcz] at hL4
        have HL4 := hide hL4
        have HDX := hide (dk_apart (dk_apart HD2.out g hgF2 1 (.int .i64 ((y.n : Int) + 1))) g hgF2 2 (.int .i64 ((y.z : Int) + (m : Int))))
        have HFX := hide ((HFR2.out.set ⟨g, 1, none⟩ (.int .i64 ((y.n : Int) + 1)) (Or.inl (List.mem_cons_self ..))).set ⟨g, 2, none⟩ (.int .i64 ((y.z : Int) + (m : Int))) (Or.inl (List.mem_cons_self ..)))
        have HP1 := hide hp1
        clear hp1 hL2 hL3 hL4 hcn hcz hD2 hf2 hs2 hnum h0
        go_wp2_with fail
        go_ret
        refine ⟨F2, ?_, ?_, HFX.out, HS2.out⟩
        · rw [HP1.out]; rfl
        · rw [HP1.out]
          refine ⟨HDX.out, ?_, hgF2⟩
          show LgAt _ g p (y.n + 1) (y.z + (Wl.fr l).length) y.d
          rw [← HM.out]
          exact HL4.out
      · have hp1 : y.put l = (⟨(wrS y.x (Wl.fr l)).1, y.n, y.z, decide ((wrS y.x (Wl.fr l)).2 = 10)⟩, (wrS y.x (Wl.fr l)).2) := by rw [HP0.out, if_neg h0]
        obtain ⟨n, hnn⟩ : ∃ n, n = (wrS y.x (Wl.fr l)).2 := ⟨_, rfl⟩
        rw [← hnn] at hp1 h0 hnum ⊢
        have hev : errV e n = errw.E e (n - 1) := by unfold errV; rw [if_neg h0]
        have cD := HE2.out.dead
        have hq := HE2.out.errs.eql (n - 1) 9 (by omega) (by decide)
        obtain ⟨dd, hdd⟩ : ∃ dd, dd = decide (n - 1 = 9) := ⟨_, rfl⟩
        rw [← hdd] at hq
        have hdd2 : dd = decide (n = 10) := by
          rw [hdd]
          rcases hnum with h | h | h <;> subst h <;> first | rfl | exact absurd rfl h0
        have c3' : w2.cell? ⟨g, 3, none⟩ = some (.bool y.d) := cell_of hL2 3
        have f3 : w2.frozen? ⟨g, 3, none⟩ = false := free_of hL2 3
        have HL4 := hide (lg_set3 hL2 dd)
        have HDX := hide (dk_apart HD2.out g hgF2 3 (.bool dd))
        have HFX := hide (HFR2.out.set ⟨g, 3, none⟩ (.bool dd) (Or.inl (List.mem_cons_self ..)))
        have HP1 := hide hp1
        have HEV := hide hev
        have HDD2 := hide hdd2
        rw [hev]
        clear hp1 hL2 hD2 hf2 hs2 hnum h0 hev hdd hdd2 hnn
        go_wp2_with fail
        go_ret
        refine ⟨F2, ?_, ?_, HFX.out, HS2.out⟩
        · rw [HP1.out]
          show _ = Ending.returned (errV e n)
          rw [HEV.out]
          rfl
        · rw [HP1.out, ← HDD2.out]
          exact ⟨HDX.out, HL4.out, hgF2⟩
end Go.Proofs.YticncaoecoehkaaDoor.wl
