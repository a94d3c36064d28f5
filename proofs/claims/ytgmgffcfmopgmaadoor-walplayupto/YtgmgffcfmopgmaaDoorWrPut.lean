import Derived.Test.YtgmgffcfmopgmaaDoorDrTrunc
import Derived.Test.YtgmgffcfmopgmaaDoorWlOpenA
import Derived.Test.YtgmgffcfmopgmaaDoorWlRefS
import Derived.Test.YtgmgffcfmopgmaaDoorWlRef
namespace Go.Proofs.YtgmgffcfmopgmaaDoor.wl
open Go.ChangeShapes Go.WideShapes Go.ChangeAt Go.RowKit Go.Proofs.YtgmgffcfmopgmaaDoor.common Go.Proofs.YtgmgffcfmopgmaaDoor.dk Go.Proofs.YtgmgffcfmopgmaaDoor.dr

/-- the document's log in memory -/
def LrAt (w : World) (g p count size : Nat) (dead : Bool) : Prop := w.heap[g]? = some (.cells #[ptr p, .bool dead, .int .i64 (count : Int), .int .i64 (size : Int)] 93)
theorem lr_set1 {w : World} {g p n z : Nat} {d : Bool} (h : LrAt w g p n z d) (d' : Bool) : LrAt (w.setCell ⟨g, 1, none⟩ (.bool d')) g p n z d' := set_of h 1 _
theorem lr_set2 {w : World} {g p n z : Nat} {d : Bool} (h : LrAt w g p n z d) (n' : Nat) : LrAt (w.setCell ⟨g, 2, none⟩ (.int .i64 (n' : Int))) g p n' z d := set_of h 2 _
theorem lr_set3 {w : World} {g p n z : Nat} {d : Bool} (h : LrAt w g p n z d) (z' : Nat) : LrAt (w.setCell ⟨g, 3, none⟩ (.int .i64 (z' : Int))) g p n z' d := set_of h 3 _
theorem dq_apart {w : World} {p : Nat} {F : List Nat} {x : Sq} (h : Dq w p F x) (g : Nat) (hg : g ∉ F) (o : Nat) (v : Value) : Dq (w.setCell ⟨g, o, none⟩ v) p F x := h.keep fun k hk => set_other _ _ _ _ (fun e => hg (by rw [← show k = g from e]; exact hk))
theorem rcount_any (w : World) (g p n z : Nat) (d : Bool) (h : LrAt w g p n z d) : Calls Tryd.prog 35 #[ptr g] w fun r' w' => r' = .returned (.int .i64 (n : Int)) ∧ w' = w := by
  have c1 : w.cell? ⟨g, 2, none⟩ = some (.int .i64 (n : Int)) := cell_of h 2
  clear h
  go_enter Tryd.func35, Tryd.ntmps35
  go_wp2
  go_ret
  exact ⟨rfl, rfl⟩
theorem rsize_any (w : World) (g p n z : Nat) (d : Bool) (h : LrAt w g p n z d) : Calls Tryd.prog 36 #[ptr g] w fun r' w' => r' = .returned (.int .i64 (z : Int)) ∧ w' = w := by
  have c1 : w.cell? ⟨g, 3, none⟩ = some (.int .i64 (z : Int)) := cell_of h 3
  clear h
  go_enter Tryd.func36, Tryd.ntmps36
  go_wp2
  go_ret
  exact ⟨rfl, rfl⟩
/-- an Open of the document's that answers -/
structure RoK (w w' : World) (p : Nat) (F F' : List Nat) (x : St) (g : Nat) (v : Value) (us : List Value) : Prop where
  row : Ow2 w' w.heap.size v us (Wl.scan x.b)
  log : LrAt w' g p (Wl.scan x.b).length (Wl.good x.b) false
  new : w.heap.size ≤ g
  far : g ∉ F'
  disk : Dq w' p F' (sq (opS x).1)
  fr : Fr F w w'
  sub : ∀ k ∈ F', k ∈ F ∨ w.heap.size ≤ k
/-- what an Open of the document's has told -/
def Ro (w : World) (p : Nat) (F : List Nat) (x : St) (r' : Ending) (w' : World) : Prop :=
  ((opS x).2 = 0 ∧ ∃ g v us F', r' = .returned (.tuple #[ptr g, v, .int .i64 0]) ∧ RoK w w' p F F' x g v us) ∨
  ((opS x).2 ≠ 0 ∧ r' = .returned (.tuple #[.pointer none, .slice none 0 0, .int .i64 ((opS x).2 : Int)]) ∧ Mq w p F (sq (opS x).1) w')
theorem fineR {x : St} (h : Fine x) : Fine x.reads.1 := by
  have := Fine.step h ⟨3, 0, 0, 0, ByteArray.empty⟩ (by show (0 : Int) ≤ _; decide) (by show _ ≤ (0 : Int); decide) (by show (0 : Int) ≤ _; decide)
  simpa [St.step] using this
theorem fineT {x : St} (h : Fine x) (n : Nat) (hn : n ≤ 9223372036854775807) : Fine (x.trunc (n : Int)).1 := by
  have := Fine.step h ⟨4, 0, (n : Int), 0, ByteArray.empty⟩ (by show (n : Int) ≤ _; omega) (by show _ ≤ (0 : Int); decide) (by show (0 : Int) ≤ _; decide)
  simpa [St.step] using this
theorem reads_arms (x : St) : x.reads.1.a.length ≤ x.a.length := oper_arms x id id 0 (fun _ => rfl) (fun _ => rfl)
theorem trunc_arms (x : St) (n : Int) : (x.trunc n).1.a.length ≤ x.a.length := by
  unfold St.trunc
  split
  · exact Nat.le_refl _
  · exact oper_arms x id (fun y => y.cut n.toNat) 0 (fun _ => rfl) (fun _ => rfl)
theorem reads_b (x : St) (h : x.reads.2 = 0) : x.reads.1.b = x.b := by
  obtain ⟨b, s, r, a, d⟩ := x
  unfold St.reads St.oper at h ⊢
  cases d with
  | true => cases h
  | false =>
    match a with
    | [] => rfl
    | (0, k) :: t => cases h
    | (n + 1, k) :: t => rfl
theorem arm16 {x y : St} (h : y.a.length ≤ x.a.length) (hb : (x.a.length + 1) * 16 ≤ 140737488355328) : (y.a.length + 1) * 16 ≤ 140737488355328 := Nat.le_trans (Nat.mul_le_mul_right 16 (Nat.succ_le_succ h)) hb

set_option maxRecDepth 100000 in
set_option maxHeartbeats 6400000 in
theorem ropen_any (w : World) (p : Nat) (F : List Nat) (x : St) (h : Dq w p F (sq x)) (hx : Fine x) (hb : (x.a.length + 1) * 16 ≤ 140737488355328) (hbl : x.b.length ≤ 4398046511104) :
    Calls Tryd.prog 33 #[ptr p] w fun r' w' => Ro w p F x r' w' := by
  have HR := hide (dread_any w p F x h hx hb)
  have hrb := reads_b x
  obtain ⟨y, n, hy⟩ : ∃ y n, x.reads = (y, n) := ⟨_, _, rfl⟩
  have HOP : Hid (opS x = if n = 0 then kpS y (Wl.good y.b) y.b.length else (y, n)) := by show _ = _; unfold opS; rw [hy]
  have HFY : Hid (Fine y) := by have := fineR hx; rw [hy] at this; exact this
  have HAY : Hid ((y.a.length + 1) * 16 ≤ 140737488355328) := by have := arm16 (reads_arms x) hb; rw [hy] at this; exact this
  have HRL : Hid (n = 0 → x.readL = x.b) := fun h0 => by unfold St.readL; rw [hy]; exact if_pos h0
  have HRN : Hid (n ≠ 0 → x.readL = []) := fun h0 => by unfold St.readL; rw [hy]; exact if_neg h0
  rw [hy] at HR hrb
  have hrb' : n = 0 → y.b = x.b := hrb
  have HYB := hide hrb'
  dsimp only at HR
  have hnn : n ≤ 10 := by
    have h5 := oper_num x id id 0
    have e5 : x.reads.2 = (x.oper id id 0).2 := rfl
    rw [hy] at e5
    dsimp only at e5
    omega
  clear h hb hrb hrb' hy
  by_cases h0 : n = 0
  · subst h0
    have hyb : y.b = x.b := HYB.out rfl
    have HOP' : Hid (opS x = kpS y (Wl.good x.b) x.b.length) := by show _ = _; rw [HOP.out, if_pos rfl, hyb]
    rw [HRL.out rfl] at HR
    have hgl := Wl.good_le x.b
    have hcast : ((0 : Nat) : Int) = 0 := rfl
    rw [hcast] at HR
    clear HOP HRN HRL hcast
    go_enter Tryd.func33, Tryd.ntmps33
    go_wp2_with fail
    refine HR.out.mono ?_
    rintro r' w1 ⟨v1, F1, rfl, h1, hap, hD1, hf1, hs1⟩
    have HSC := hide (refScan_own w1 v1 x.b (rc_own h1) hbl)
    obtain ⟨o1, c1, rfl⟩ := (rd_own h1).len
    have HD1 := hide hD1
    have HF1 := hide hf1
    have HS1 := hide hs1
    clear h1 hap hD1 hf1 hs1 HR
    go_wp2_with fail
    refine HSC.out.mono ?_
    rintro r' w2 ⟨v2, us, rfl, hrow, b2⟩
    have HROW := hide hrow
    have HB2 := hide b2
    have hD2 := HD1.out.below b2
    obtain ⟨o2, c2, rfl⟩ := hrow.ls.len
    have HFIN : Hid (∀ (w3 : World) (F3 : List Nat) (z : St), Dq w3 p F3 (sq z) → Fr F1 w2 w3 → (∀ k ∈ F3, k ∈ F1 ∨ w2.heap.size ≤ k) → opS x = (z, 0) → Ro w p F x (.returned (.tuple #[ptr w3.heap.size, .slice o2 (Wl.scan x.b).length c2, .int .i64 0])) (w3.alloc (.cells #[ptr p, .bool false, .int .i64 ((Wl.scan x.b).length : Int), .int .i64 (Wl.good x.b : Int)] 93))) := fun w3 F3 z hD3 hf3 hs3 ho => by
      refine Or.inl ⟨by rw [ho], w3.heap.size, _, us, F3, rfl, ?_⟩
      have b4 : Below w3.heap.size w3 (w3.alloc (.cells #[ptr p, .bool false, .int .i64 ((Wl.scan x.b).length : Int), .int .i64 (Wl.good x.b : Int)] 93)) := (Below.refl _ _).alloc (Nat.le_refl _) _
      have hz1 := HF1.out.size
      have hz2 := HB2.out.size
      have hz3 := hf3.size
      have hkeep : ∀ g, w1.heap.size ≤ g → g < w2.heap.size → (w3.alloc (.cells #[ptr p, .bool false, .int .i64 ((Wl.scan x.b).length : Int), .int .i64 (Wl.good x.b : Int)] 93)).heap[g]? = w2.heap[g]? := fun g hg1 hg2 => by
        rw [b4.block g (by omega)]
        exact hf3.block g hg2 (fun hm => by have := HD1.out.lt g hm; omega)
      refine ⟨⟨own_monoW (own_keepW hrow.row hkeep) hz1, hrow.len, fun j q1 q2 => own_monoW (own_keepW (hrow.el j q1 q2) hkeep) hz1⟩, heap_alloc_new _ _, by omega, fun hm => by have := hD3.lt _ hm; omega, by rw [ho]; exact hD3.below b4, ((HF1.out.next HB2.out).trans hf3 (fun i hi => HS1.out i hi)).next b4, fun k hk => ?_⟩
      rcases hs3 k hk with h5 | h5
      · exact HS1.out k h5
      · exact Or.inr (by omega)
    have HBAD : Hid (∀ (w3 : World) (z : St) (m : Nat), Mq w2 p F1 (sq z) w3 → opS x = (z, m) → m ≠ 0 → Ro w p F x (.returned (.tuple #[.pointer none, .slice none 0 0, .int .i64 (m : Int)])) w3) := fun w3 z m hm ho h5 => by
      refine Or.inr ⟨by rw [ho]; exact h5, by rw [ho], ?_⟩
      rw [ho]
      exact Mq.trans (HF1.out.next HB2.out) HS1.out hm
    clear hrow b2 HSC
    by_cases hlt : Wl.good x.b < x.b.length
    · have q1 : (Wl.good x.b : Int) < (x.b.length : Int) := by omega
      have q1' : decide ((Wl.good x.b : Int) < (x.b.length : Int)) = true := decide_eq_true q1
      have HTR := hide (dtrunc_any w2 p F1 y (Wl.good x.b : Int) hD2 HFY.out HAY.out)
      have hFU := fineT HFY.out (Wl.good x.b) (by omega)
      have hAU := arm16 (trunc_arms y (Wl.good x.b : Int)) HAY.out
      obtain ⟨u, m, hu⟩ : ∃ u m, y.trunc (Wl.good x.b : Int) = (u, m) := ⟨_, _, rfl⟩
      rw [hu] at HTR hFU hAU
      dsimp only at HTR hFU hAU
      have HKP : Hid (kpS y (Wl.good x.b) x.b.length = if m = 0 then u.syncs else (u, m)) := by show _ = _; unfold kpS; rw [if_pos hlt, hu]
      have HFU := hide hFU
      have HAU := hide hAU
      clear hu hD2 hlt hFU hAU
      go_wp2_with fail
      refine HTR.out.mono ?_
      rintro r' w3 ⟨rfl, hm⟩
      by_cases hm0 : m = 0
      · subst hm0
        obtain ⟨F3, hD3, hf3, hs3⟩ := hm
        have HSY := hide (dsync_any w3 p F3 u hD3 HFU.out HAU.out)
        have HF3 := hide hf3
        have HS3 := hide hs3
        have hcast : ((0 : Nat) : Int) = 0 := rfl
        rw [hcast]
        clear hD3 hf3 hs3 HTR hcast
        obtain ⟨z, k, hz⟩ : ∃ z k, u.syncs = (z, k) := ⟨_, _, rfl⟩
        rw [hz] at HSY
        dsimp only at HSY
        have HOZ : Hid (opS x = (z, k)) := by show _ = _; rw [HOP'.out]; rw [HKP.out, if_pos rfl, hz]
        clear hz
        go_wp2_with fail
        refine HSY.out.mono ?_
        rintro r' w4 ⟨rfl, hm4⟩
        by_cases hk0 : k = 0
        · subst hk0
          obtain ⟨F4, hD4, hf4, hs4⟩ := hm4
          have HZ := hide (HFIN.out w4 F4 z hD4 (HF3.out.trans hf4 HS3.out) (fun k hk => by
            rcases hs4 k hk with h5 | h5
            · exact HS3.out k h5
            · exact Or.inr (Nat.le_trans HF3.out.size h5)) HOZ.out)
          have hcast : ((0 : Nat) : Int) = 0 := rfl
          rw [hcast]
          clear hD4 hf4 hs4 HSY HFIN HBAD hcast
          go_wp2_with fail
          go_ret3
          exact HZ.out
        · have hbne : ((k : Int) != 0) = true := by rw [bne_iff_ne]; omega
          have HZ := hide (HBAD.out w4 z k (Mq.trans HF3.out HS3.out hm4) HOZ.out hk0)
          clear hm4 HSY HFIN HBAD hk0
          go_wp2_with fail
          go_ret3
          exact HZ.out
      · have hbne : ((m : Int) != 0) = true := by rw [bne_iff_ne]; omega
        have HZ := hide (HBAD.out w3 u m hm (by rw [HOP'.out, HKP.out, if_neg hm0]) hm0)
        clear hm HTR HFIN HBAD hm0
        go_wp2_with fail
        go_ret3
        exact HZ.out
    · have q1 : ¬ (Wl.good x.b : Int) < (x.b.length : Int) := by omega
      have q1' : decide ((Wl.good x.b : Int) < (x.b.length : Int)) = false := decide_eq_false q1
      have HSY := hide (dsync_any w2 p F1 y hD2 HFY.out HAY.out)
      have HKP : Hid (kpS y (Wl.good x.b) x.b.length = y.syncs) := by show _ = _; unfold kpS; rw [if_neg hlt]
      clear hD2 hlt
      obtain ⟨z, k, hz⟩ : ∃ z k, y.syncs = (z, k) := ⟨_, _, rfl⟩
      rw [hz] at HSY
      dsimp only at HSY
      have HOZ : Hid (opS x = (z, k)) := by show _ = _; rw [HOP'.out]; rw [HKP.out, hz]
      clear hz
      go_wp2_with fail
      refine HSY.out.mono ?_
      rintro r' w4 ⟨rfl, hm4⟩
      by_cases hk0 : k = 0
      · subst hk0
        obtain ⟨F4, hD4, hf4, hs4⟩ := hm4
        have HZ := hide (HFIN.out w4 F4 z hD4 hf4 hs4 HOZ.out)
        have hcast : ((0 : Nat) : Int) = 0 := rfl
        rw [hcast]
        clear hD4 hf4 hs4 HSY HFIN HBAD hcast
        go_wp2_with fail
        go_ret3
        exact HZ.out
      · have hbne : ((k : Int) != 0) = true := by rw [bne_iff_ne]; omega
        have HZ := hide (HBAD.out w4 z k hm4 HOZ.out hk0)
        clear hm4 HSY HFIN HBAD hk0
        go_wp2_with fail
        go_ret3
        exact HZ.out
  · have hbne : ((n : Int) != 0) = true := by rw [bne_iff_ne]; omega
    have HOP' : Hid (opS x = (y, n)) := by show _ = _; rw [HOP.out, if_neg h0]
    rw [HRN.out h0] at HR
    have HN0 := hide h0
    clear HOP HRN HRL h0
    go_enter Tryd.func33, Tryd.ntmps33
    go_wp2_with fail
    refine HR.out.mono ?_
    rintro r' w1 ⟨v1, F1, rfl, h1, hap, hD1, hf1, hs1⟩
    obtain ⟨o1, c1, rfl⟩ : ∃ o1 c1, v1 = .slice o1 0 c1 := by
      obtain ⟨o1, c1, e1⟩ := (rd_own h1).len
      exact ⟨o1, c1, e1⟩
    have HZ : Hid (Ro w p F x (.returned (.tuple #[.pointer none, .slice none 0 0, .int .i64 (n : Int)])) w1) := Or.inr ⟨by rw [HOP'.out]; exact HN0.out, by rw [HOP'.out], by rw [HOP'.out]; exact ⟨F1, hD1, hf1, hs1⟩⟩
    clear h1 hap hD1 hf1 hs1 HR
    go_wp2_with fail
    go_ret3
    exact HZ.out
end Go.Proofs.YtgmgffcfmopgmaaDoor.wl

namespace Go.Proofs.YtgmgffcfmopgmaaDoor.wl
open Go.ChangeShapes Go.WideShapes Go.ChangeAt Go.RowKit Go.Proofs.YtgmgffcfmopgmaaDoor.common Go.Proofs.YtgmgffcfmopgmaaDoor.dk Go.Proofs.YtgmgffcfmopgmaaDoor.dr

/-- a Put of the document's -/
def Rp (w : World) (g p : Nat) (F : List Nat) (y : Lg × Nat) (r' : Ending) (w' : World) : Prop :=
  ∃ F', r' = .returned (.int .i64 (y.2 : Int)) ∧ Dq w' p F' (sq y.1.x) ∧ LrAt w' g p y.1.n y.1.z y.1.d ∧ g ∉ F' ∧ Fr (g :: F) w w' ∧ ∀ k ∈ F', k ∈ F ∨ w.heap.size ≤ k
theorem append_arms (x : St) (l : List UInt8) : (x.append l).1.a.length ≤ x.a.length := oper_arms x _ _ _ (fun y => put_arms y _) (fun y => put_arms y _)

set_option maxRecDepth 100000 in
set_option maxHeartbeats 6400000 in
theorem rput_any (w : World) (p g : Nat) (F : List Nat) (y : Lg) (hD : Dq w p F (sq y.x)) (hL : LrAt w g p y.n y.z y.d) (hg : g ∉ F) (v : Value) (l : List UInt8) (hv : Rd w v l) (hl : l.length ≤ 4611686018427387904) (hx : Fine y.x) (hx2 : Fine (y.x.append (Wl.fr l)).1) (hb : (y.x.a.length + 1) * 16 ≤ 140737488355328) (hn : y.n ≤ 4611686018427387904) (hz : y.z ≤ 4611686018427387904) :
    Calls Tryd.prog 55 #[ptr g, v] w fun r' w' => Rp w g p F (y.put l) r' w' := by
  have HFR := hide (refFrame_any w v l hv hl)
  have hgl : g < w.heap.size := (Array.getElem?_eq_some_iff.1 hL).1
  obtain ⟨oa, ca, rfl⟩ := hv.len
  have HD := hide hD
  have HL := hide hL
  have hFlt := hD.lt
  have HFLT := hide hFlt
  clear hv hD hL hFlt
  cases hf : Wl.fit l.length with
  | false =>
    have hp : y.put l = (y, 1) := by unfold Lg.put; rw [if_pos hf]
    have hfn : frN l.length = 1 := by unfold frN; rw [hf]; rfl
    rw [hfn] at HFR
    rw [hp]
    clear hp hfn hf
    go_enter Tryd.func55, Tryd.ntmps55
    go_wp2_with fail
    refine HFR.out.mono ?_
    rintro r' w1 ⟨vf, rfl, hof, b1⟩
    obtain ⟨of, cf, rfl⟩ := (rd_own hof).len
    have HZ : Hid (Rp w g p F (y, 1) (.returned (.int .i64 1)) w1) := ⟨F, rfl, HD.out.below b1, (b1.block g hgl).trans HL.out, hg, Fr.of b1, fun k hk => Or.inl hk⟩
    clear hof b1 HFR
    go_wp2_with fail
    go_ret
    exact HZ.out
  | true =>
    have hfn : frN l.length = 0 := by unfold frN; rw [hf]; rfl
    have hfl : frL l = Wl.fr l := by unfold frL; rw [hf]; rfl
    rw [hfn, hfl] at HFR
    have hfit := (Wl.fit_iff _).1 hf
    have hfl8 := Wl.fr_len l
    have hp0 : y.put l = if y.d = true then (y, 10) else if (wrS y.x (Wl.fr l)).2 = 0 then (⟨(wrS y.x (Wl.fr l)).1, y.n + 1, y.z + (Wl.fr l).length, y.d⟩, 0) else (⟨(wrS y.x (Wl.fr l)).1, y.n, y.z, decide ((wrS y.x (Wl.fr l)).2 = 10)⟩, (wrS y.x (Wl.fr l)).2) := by
      unfold Lg.put
      rw [if_neg (by rw [hf]; decide)]
    have HP0 := hide hp0
    clear hfn hfl hf hp0
    cases hd : y.d with
    | true =>
      have hp : y.put l = (y, 10) := by rw [HP0.out, if_pos hd]
      rw [hp]
      have hLd := HL.out
      rw [hd] at hLd
      have HLd := hide hLd
      have HYD := hide hd
      clear hp HP0 hd hLd
      go_enter Tryd.func55, Tryd.ntmps55
      go_wp2_with fail
      refine HFR.out.mono ?_
      rintro r' w1 ⟨vf, rfl, hof, b1⟩
      obtain ⟨of, cf, rfl⟩ := (rd_own hof).len
      have hL1 : LrAt w1 g p y.n y.z true := (b1.block g hgl).trans HLd.out
      have c1 : w1.cell? ⟨g, 1, none⟩ = some (.bool true) := cell_of hL1 1
      have HZ : Hid (Rp w g p F (y, 10) (.returned (.int .i64 10)) w1) := ⟨F, rfl, HD.out.below b1, (b1.block g hgl).trans HL.out, hg, Fr.of b1, fun k hk => Or.inl hk⟩
      clear hof b1 HFR hL1
      go_wp2_with fail
      go_ret
      exact HZ.out
    | false =>
      have HP1 : Hid (y.put l = if (wrS y.x (Wl.fr l)).2 = 0 then (⟨(wrS y.x (Wl.fr l)).1, y.n + 1, y.z + (Wl.fr l).length, false⟩, 0) else (⟨(wrS y.x (Wl.fr l)).1, y.n, y.z, decide ((wrS y.x (Wl.fr l)).2 = 10)⟩, (wrS y.x (Wl.fr l)).2)) := by show _ = _; rw [HP0.out, if_neg (by rw [hd]; decide), hd]
      have hLd := HL.out
      rw [hd] at hLd
      have HLd := hide hLd
      have HARM := hide (arm16 (append_arms y.x (Wl.fr l)) hb)
      have hnum : (y.x.append (Wl.fr l)).2 = 0 ∨ (y.x.append (Wl.fr l)).2 = 9 ∨ (y.x.append (Wl.fr l)).2 = 10 := by
        have h5 := oper_num y.x (fun y => y.put (Wl.fr l)) (fun y => y.put (Wl.fr l)) (if y.x.fits (Wl.fr l) then 0 else 9)
        have e5 : (y.x.append (Wl.fr l)).2 = (y.x.oper (fun y => y.put (Wl.fr l)) (fun y => y.put (Wl.fr l)) (if y.x.fits (Wl.fr l) then 0 else 9)).2 := rfl
        rw [e5]
        rcases h5 with h5 | h5
        · rw [h5]
          split
          · exact Or.inl rfl
          · exact Or.inr (Or.inl rfl)
        · exact Or.inr (Or.inr h5)
      have HWR : Hid (wrS y.x (Wl.fr l) = if (y.x.append (Wl.fr l)).2 = 0 then (y.x.append (Wl.fr l)).1.syncs else y.x.append (Wl.fr l)) := rfl
      have HAP : Hid (∀ w1, Below w.heap.size w w1 → ∀ vf, w1.ownsRow w.heap.size 5 1 vf (Wl.fr l).length ((Wl.fr l).map B) → Calls Tryd.prog 59 #[ptr p, vf] w1 fun r' w' => r' = .returned (.int .i64 ((y.x.append (Wl.fr l)).2 : Int)) ∧ Mq w1 p F (sq (y.x.append (Wl.fr l)).1) w') := fun w1 b1 vf hof => dappend_any w1 p F y.x (HD.out.below b1) hx hb vf (Wl.fr l) (rd_own hof) (fun _ a n c ea => by
        rcases hof.2 with ⟨e1, _⟩ | ⟨g', cap, cur, e1, e2, e3, _⟩
        · rw [ea] at e1; cases e1
        · rw [ea] at e1; cases e1
          exact ⟨fun hm => absurd (HFLT.out _ hm) (Nat.not_lt.2 e2), (Array.getElem?_eq_some_iff.1 e3).1⟩) (by omega)
      obtain ⟨u, a, hu⟩ : ∃ u a, y.x.append (Wl.fr l) = (u, a) := ⟨_, _, rfl⟩
      rw [hu] at HAP HWR hnum hx2 HARM
      dsimp only at HAP HWR hnum hx2 HARM
      have HX2 := hide hx2
      obtain ⟨fl, hfl⟩ : ∃ fl, fl = (Wl.fr l).length := ⟨_, rfl⟩
      have hflb : fl ≤ 8200 := by omega
      have HFL := hide hfl
      rw [← hfl] at HAP HFR
      clear HP0 hd hLd hu hx2 hfl hfl8
      -- what is told of a Put that did not go through
      have HBAD : Hid (∀ (w3 : World) (F3 : List Nat) (m : Nat) (dd : Bool), Dq w3 p F3 (sq (wrS y.x (Wl.fr l)).1) → LrAt w3 g p y.n y.z false → g ∉ F3 → Fr (g :: F) w w3 → (∀ k ∈ F3, k ∈ F ∨ w.heap.size ≤ k) → (wrS y.x (Wl.fr l)).2 = m → m ≠ 0 → dd = decide (m = 10) → Rp w g p F (y.put l) (.returned (.int .i64 (m : Int))) (w3.setCell ⟨g, 1, none⟩ (.bool dd))) := fun w3 F3 m dd q1 q2 q3 q4 q5 q6 q7 q8 => by
        rw [HP1.out, if_neg (by rw [q6]; exact q7), q6, ← q8]
        exact ⟨F3, rfl, dq_apart q1 g q3 1 _, lr_set1 q2 dd, q3, q4.set ⟨g, 1, none⟩ _ (Or.inl (List.mem_cons_self ..)), q5⟩
      go_enter Tryd.func55, Tryd.ntmps55
      go_wp2_with fail
      refine HFR.out.mono ?_
      rintro r' w1 ⟨vf, rfl, hof, b1⟩
      have hL1 : LrAt w1 g p y.n y.z false := (b1.block g hgl).trans HLd.out
      have c0 : w1.cell? ⟨g, 0, none⟩ = some (ptr p) := cell_of hL1 0
      have c1 : w1.cell? ⟨g, 1, none⟩ = some (.bool false) := cell_of hL1 1
      have HAC := hide (HAP.out w1 b1 vf hof)
      obtain ⟨of, cf, e0, _⟩ := own_slice hof
      have HB1 := hide b1
      have HL1 := hide hL1
      have hg1 : g < w1.heap.size := Nat.lt_of_lt_of_le hgl b1.size
      clear hof b1 hL1 HFR HAP
      subst e0
      go_wp2_with fail
      refine HAC.out.mono ?_
      rintro r' w2 ⟨rfl, F2, hD2, hf2, hs2⟩
      have hL2 : LrAt w2 g p y.n y.z false := (hf2.block g hg1 hg).trans HL1.out
      have d0 : w2.cell? ⟨g, 0, none⟩ = some (ptr p) := cell_of hL2 0
      have d1 : w2.cell? ⟨g, 1, none⟩ = some (.bool false) := cell_of hL2 1
      have e1 : w2.frozen? ⟨g, 1, none⟩ = false := free_of hL2 1
      have hg2F : g ∉ F2 := fun hm => by
        rcases hs2 g hm with h5 | h5
        · exact hg h5
        · omega
      have HFRw : Hid (Fr (g :: F) w w2) := (Fr.of HB1.out).trans (hf2.mono (fun k hk => List.mem_cons_of_mem _ hk)) (fun i hi => Or.inl hi)
      have HSw : Hid (∀ k ∈ F2, k ∈ F ∨ w.heap.size ≤ k) := fun k hk => by
        rcases hs2 k hk with h5 | h5
        · exact Or.inl h5
        · exact Or.inr (Nat.le_trans HB1.out.size h5)
      have HD2 := hide hD2
      have HL2 := hide hL2
      have hg2 : g < w2.heap.size := (Array.getElem?_eq_some_iff.1 hL2).1
      clear hD2 hL2 hf2 hs2 HAC
      rcases hnum with rfl | rfl | rfl
      · have HSY := hide (dsync_any w2 p F2 u HD2.out HX2.out HARM.out)
        have hsn : u.syncs.2 = 0 ∨ u.syncs.2 = 10 := oper_num u id St.sync 0
        have HWR' : Hid (wrS y.x (Wl.fr l) = u.syncs) := by show _ = _; rw [HWR.out, if_pos rfl]
        obtain ⟨z, m, hzz⟩ : ∃ z m, u.syncs = (z, m) := ⟨_, _, rfl⟩
        rw [hzz] at HSY hsn HWR'
        dsimp only at HSY hsn
        have hcast : ((0 : Nat) : Int) = 0 := rfl
        rw [hcast]
        clear hzz HWR hcast
        go_wp2_with fail
        refine HSY.out.mono ?_
        rintro r' w3 ⟨rfl, F3, hD3, hf3, hs3⟩
        have hL3 : LrAt w3 g p y.n y.z false := (hf3.block g hg2 hg2F).trans HL2.out
        have hg3F : g ∉ F3 := fun hm => by
          rcases hs3 g hm with h5 | h5
          · exact hg2F h5
          · omega
        have hfrW : Fr (g :: F) w w3 := HFRw.out.trans hf3 (fun i hi => by
          rcases HSw.out i hi with h5 | h5
          · exact Or.inl (List.mem_cons_of_mem _ h5)
          · exact Or.inr h5)
        have hsW : ∀ k ∈ F3, k ∈ F ∨ w.heap.size ≤ k := fun k hk => by
          rcases hs3 k hk with h5 | h5
          · exact HSw.out k h5
          · exact Or.inr (Nat.le_trans HFRw.out.size h5)
        rcases hsn with rfl | rfl
        · have d2 : w3.cell? ⟨g, 2, none⟩ = some (.int .i64 (y.n : Int)) := cell_of hL3 2
          have e2 : w3.frozen? ⟨g, 2, none⟩ = false := free_of hL3 2
          have hA1 := lr_set2 hL3 (y.n + 1)
          have hcn : ((y.n + 1 : Nat) : Int) = (y.n : Int) + 1 := by omega
          rw [hcn] at hA1
          have d3 : (w3.setCell ⟨g, 2, none⟩ (.int .i64 ((y.n : Int) + 1))).cell? ⟨g, 3, none⟩ = some (.int .i64 (y.z : Int)) := cell_of hA1 3
          have e3 : (w3.setCell ⟨g, 2, none⟩ (.int .i64 ((y.n : Int) + 1))).frozen? ⟨g, 3, none⟩ = false := free_of hA1 3
          have hA2 := lr_set3 hA1 (y.z + fl)
          have hcz : ((y.z + fl : Nat) : Int) = (y.z : Int) + (fl : Int) := by omega
          rw [hcz] at hA2
          have HZ : Hid (Rp w g p F (y.put l) (.returned (.int .i64 0)) ((w3.setCell ⟨g, 2, none⟩ (.int .i64 ((y.n : Int) + 1))).setCell ⟨g, 3, none⟩ (.int .i64 ((y.z : Int) + (fl : Int))))) := by
            show Rp _ _ _ _ _ _ _
            rw [HP1.out, HWR'.out]
            refine ⟨F3, rfl, dq_apart (dq_apart hD3 g hg3F 2 _) g hg3F 3 _, ?_, hg3F, (hfrW.set ⟨g, 2, none⟩ _ (Or.inl (List.mem_cons_self ..))).set ⟨g, 3, none⟩ _ (Or.inl (List.mem_cons_self ..)), hsW⟩
            show LrAt _ g p (y.n + 1) (y.z + (Wl.fr l).length) false
            rw [← HFL.out]
            exact hA2
          have hcast : ((0 : Nat) : Int) = 0 := rfl
          rw [hcast]
          clear hL3 hA1 hA2 hcn hcz hD3 hf3 hs3 hfrW hsW HSY HBAD hcast
          go_wp2_with fail
          go_ret
          exact HZ.out
        · have d1' : w3.cell? ⟨g, 1, none⟩ = some (.bool false) := cell_of hL3 1
          have e1' : w3.frozen? ⟨g, 1, none⟩ = false := free_of hL3 1
          have HZ := hide (HBAD.out w3 F3 10 true (by rw [HWR'.out]; exact hD3) hL3 hg3F hfrW hsW (by rw [HWR'.out]) (by decide) rfl)
          have hcast : ((10 : Nat) : Int) = 10 := rfl
          rw [hcast] at HZ ⊢
          clear hL3 hD3 hf3 hs3 hfrW hsW HSY HBAD hcast
          go_wp2_with fail
          go_ret
          exact HZ.out
      · have HWR' : Hid (wrS y.x (Wl.fr l) = (u, 9)) := by show _ = _; rw [HWR.out, if_neg (by decide)]
        have HZ := hide (HBAD.out w2 F2 9 false (by rw [HWR'.out]; exact HD2.out) HL2.out hg2F HFRw.out HSw.out (by rw [HWR'.out]) (by decide) rfl)
        have hcast : ((9 : Nat) : Int) = 9 := rfl
        rw [hcast] at HZ ⊢
        clear HWR HBAD hcast
        go_wp2_with fail
        go_ret
        exact HZ.out
      · have HWR' : Hid (wrS y.x (Wl.fr l) = (u, 10)) := by show _ = _; rw [HWR.out, if_neg (by decide)]
        have HZ := hide (HBAD.out w2 F2 10 true (by rw [HWR'.out]; exact HD2.out) HL2.out hg2F HFRw.out HSw.out (by rw [HWR'.out]) (by decide) rfl)
        have hcast : ((10 : Nat) : Int) = 10 := rfl
        rw [hcast] at HZ ⊢
        clear HWR HBAD hcast
        go_wp2_with fail
        go_ret
        exact HZ.out
end Go.Proofs.YtgmgffcfmopgmaaDoor.wl
