import Derived.Test.YtgmgffcfmopgmaaDoorWlFate2
import Derived.Test.YtgmgffcfmopgmaaDoorRdCopy
namespace Go.Proofs.YtgmgffcfmopgmaaDoor.wl
open Go.ChangeShapes Go.WideShapes Go.ChangeAt Go.RowKit Go.Proofs.YtgmgffcfmopgmaaDoor.common Go.Proofs.YtgmgffcfmopgmaaDoor.dk

/-- behind an append to the row of those that were put -/
structure Pushed (X w1 : World) (K f : Nat) (G : List Nat) (vT vS vW v' : Value) (uT us uW : List Value) (T S W : List (List UInt8)) (arm : Bool) (sz : Int) (lost : Bool) : Prop where
  cell : FtAt w1 f vT vS vW arm sz lost
  t : Rw w1 G vT uT T
  s : Rw w1 G v' us S
  y : Rw w1 G vW uW W
  ts : ∀ b, v'.ownBlock = some b → vT.ownBlock ≠ some b
  ys : ∀ b, v'.ownBlock = some b → vW.ownBlock ≠ some b
  low : ∀ b, v'.ownBlock = some b → K ≤ b
  fr : Fr vS.ownBlock.toList X w1
  keep : ∀ k ∈ G, w1.heap[k]? = X.heap[k]?
theorem FtX.pushS {X w1 : World} {K f : Nat} {G : List Nat} {vT vS vW v' x : Value} {uT uS uW : List Value} {T S W : List (List UInt8)} {arm lost : Bool} {sz : Int} {q : List UInt8} {tmp : Obj} (h : FtX X K f G vT vS vW uT uS uW T S W arm sz lost)
    (hown : w1.ownsRow 0 22 1 v' (uS.length + 1) (uS ++ [x])) (hgrow : (X.alloc tmp).grownBy w1 vS.ownBlock) (hat : v'.ownBlock = vS.ownBlock ∨ v'.ownBlock = some (X.heap.size + 1)) (hx : Rd X x q) (hxa : ∀ a n c, x = .slice (some a) n c → a.block ∉ G ∧ ∃ cur, X.heap[a.block]? = some (.cells cur 5 (0, 0))) (hG : ∀ k ∈ G, k < X.heap.size) (hK : K ≤ X.heap.size) :
    Pushed X w1 K f G vT vS vW v' uT (uS ++ [x]) uW T (S ++ [q]) W arm sz lost := by
  have hf := grown_fr hgrow
  have far : ∀ k ∈ G, k ∉ vS.ownBlock.toList := fun k hk hm => h.s.far k (by simpa using hm) hk
  have kp : ∀ {v : Value} {us : List Value} {L : List (List UInt8)}, Rw X G v us L → (∀ b, vS.ownBlock = some b → v.ownBlock ≠ some b) → Rw w1 G v us L := fun {v us L} hr hne => by
    cases hb : vS.ownBlock with
    | none =>
      rw [hb] at hf
      exact hr.fr hf (fun k hk => (by cases hk)) (fun _ hk => Or.inl hk)
    | some b =>
      obtain ⟨cur, hc⟩ := own_cur h.s.row hb
      rw [hb] at hf
      exact (hr.beside b hc (hne b hb)).fr hf (fun k hk => by simp at hk; rw [hk]; simp) (fun k hk => Or.inl (List.mem_cons_of_mem _ hk))
  have nw : ∀ b, v'.ownBlock = some b → vS.ownBlock = some b ∨ b = X.heap.size + 1 := fun b hb => by
    rcases hat with e | e
    · exact Or.inl (e ▸ hb)
    · rw [e] at hb
      cases hb
      exact Or.inr rfl
  refine ⟨h.cell.fr hf (far f h.mem), kp h.t h.ts, h.s.push hown hgrow hat hx hxa hG, kp h.y h.ys, fun b hb => ?_, fun b hb => ?_, fun b hb => ?_, hf, fun k hk => hf.block k (hG k hk) (far k hk)⟩
  · rcases nw b hb with e | e
    · exact h.ts b e
    · intro ht
      have := h.t.lt b ht
      omega
  · rcases nw b hb with e | e
    · exact h.ys b e
    · intro ht
      have := h.y.lt b ht
      omega
  · rcases nw b hb with e | e
    · exact h.low b e
    · omega
/-- what stands behind a Put -/
def Fp (w : World) (K : Nat) (e : Nat → Addr) (p f : Nat) (x : St) (T : List (List UInt8)) (arm : Bool) (rm g : Nat) (w' : World) : Prop :=
  ∃ F' G' x' S' W' sz' lost' n' z', Co w' K e p f F' G' x' T S' W' arm sz' lost' rm ∧ Lp w' p f F' G' x' T S' W' sz' lost' g n' z' ∧ x'.a.length ≤ x.a.length ∧ Below K w w'
theorem below_of {w w' : World} {K : Nat} (hs : w.heap.size ≤ w'.heap.size) (ho : w'.os = w.os) (ht : w'.tape = w.tape) (hp : w'.output = w.output) (hb : ∀ k, k < K → w'.heap[k]? = w.heap[k]?) : Below K w w' := ⟨ho, ht, hp, hs, hb⟩

set_option maxRecDepth 100000 in
set_option maxHeartbeats 6400000 in
/-- a payload that may not be -/
theorem fput_bad (w : World) (K : Nat) (e : Nat → Addr) (p f : Nat) (F G : List Nat) (x : St) (T S W : List (List UInt8)) (arm : Bool) (sz : Int) (lost : Bool) (rm : Nat) (hc : Co w K e p f F G x T S W arm sz lost rm) (g n z : Nat) (hl : Lp w p f F G x T S W sz lost g n z) (hrm : rm ≤ 20000) (ht : crcw.Tab w) (v : Value) (q : List UInt8) (hv : Rd w v q) (hq : q.length ≤ 140737488351232) (hf : Wl.fit q.length = false) :
    Calls Tryd.prog 28 #[ptr f, ptr p, ptr g, v, .int .i64 (rm : Int)] w fun r' w' => r' = .returned (.bool true) ∧ Fp w K e p f x T arm rm g w' := by
  have hfl := hc.flat
  have hFK : ∀ k ∈ F, K ≤ k := fun k hk => hc.low k (hc.sub k hk)
  obtain ⟨oq, cq, rfl⟩ := hv.len
  have HC := hide hc
  have HL := hide hl
  have HV := hide hv
  have HT := hide ht
  have hnf : ¬ (1 ≤ q.length ∧ q.length ≤ 8192) := fun h => by rw [(Wl.fit_iff _).2 h] at hf; cases hf
  have HCP := hide (copy_any w _ q hv (by omega))
  have hz : z ≤ 20000 := by rw [hl.z]; omega
  have hn : n ≤ 20000 := by rw [hl.n, List.length_append]; omega
  have HLG : Hid (LgD w g p F ⟨x, n, z, lost⟩) := ⟨hc.dk, hl.ly, hl.far⟩
  have HPUT : Hid (Lg.put ⟨x, n, z, lost⟩ q = (⟨x, n, z, lost⟩, 1)) := by show _ = _; unfold Lg.put; rw [if_pos hf]
  have HFIN : Hid (∀ w1 w2, Below w.heap.size w w1 → ∀ F2, LgD w2 g p F2 ⟨x, n, z, lost⟩ → Fr (g :: F) w1 w2 → (∀ k ∈ F2, k ∈ F ∨ w1.heap.size ≤ k) → Fp w K e p f x T arm rm g w2) := fun w1 w2 b1 F2 h2 hf2 hs2 => by
    have hfr : Fr (g :: F) w w2 := (Fr.of b1).trans hf2 (fun i hi => Or.inl hi)
    have hu : ∀ k ∈ G ++ F2, k ∈ G ∨ w.heap.size ≤ k := fun k hk => by
      rcases List.mem_append.1 hk with h4 | h4
      · exact Or.inl h4
      · rcases hs2 k h4 with h5 | h5
        · exact Or.inl (hc.sub k h5)
        · exact Or.inr (Nat.le_trans b1.size h5)
    have hgF : ∀ k ∈ g :: F, k ∈ G := fun k hk => by
      rcases List.mem_cons.1 hk with rfl | h4
      · exact hl.mem
      · exact hc.sub k h4
    have hfn : f ∉ g :: F := fun hm => by
      rcases List.mem_cons.1 hm with h4 | h4
      · exact hl.ne h4
      · exact hc.ff h4
    refine ⟨F2, G ++ F2, x, S, W, sz, lost, n, z, ⟨h2.1, hc.ft.fr hfr hgF hfn hu (List.mem_append_left _ hc.mem), fun hm => ?_, fun k hk => List.mem_append_right _ hk, List.mem_append_left _ hc.mem, fun k hk => ?_, fun k hk => ?_, hc.er.fr hfr (fun k hk => hc.low k (hgF k hk)), hc.fine, hc.cr, hc.room, hc.le, hc.arm⟩, ⟨h2.2.1, h2.2.2, List.mem_append_left _ hl.mem, hl.ne, hl.n, hl.z, hl.al⟩, Nat.le_refl _, hfr.below (fun k hk => hc.low k (hgF k hk)) hc.er.size⟩
    · rcases hs2 f hm with h4 | h4
      · exact hc.ff h4
      · have := hc.gl f hc.mem; have := b1.size; omega
    · rcases hu k hk with h4 | h4
      · exact hc.low k h4
      · exact Nat.le_trans hc.er.size h4
    · rcases List.mem_append.1 hk with h4 | h4
      · exact Nat.lt_of_lt_of_le (hc.gl k h4) hfr.size
      · exact h2.1.lt k h4
  have HX := hide (put_fine ⟨x, n, z, lost⟩ q hc.fine)
  have HFK := hide hFK
  clear hc hl hv ht hf hfl hFK
  by_cases h0 : q.length = 0
  · obtain rfl : q = [] := List.eq_nil_of_length_eq_zero h0
    clear hnf h0 hq
    have HCPZ : Hid (Calls Tryd.prog 9 #[.slice oq 0 cq] w fun r' w' => ∃ v, r' = .returned v ∧ w'.ownsRow w.heap.size 5 1 v 0 [] ∧ Below w.heap.size w w') := HCP.out
    have HVZ : Hid (Rd w (.slice oq 0 cq) []) := HV.out
    clear HCP
    go_enter Tryd.func28, Tryd.ntmps28
    go_wp2_with fail
    refine HCPZ.out.mono ?_
    rintro r' w1 ⟨v1, rfl, h1, b1⟩
    obtain ⟨o1, c1, rfl⟩ : ∃ o1 c1, v1 = .slice o1 0 c1 := by
      rcases h1.2 with ⟨rfl, _⟩ | ⟨_, c, _, rfl, _⟩
      · exact ⟨none, 0, rfl⟩
      · exact ⟨_, c, rfl⟩
    have hLG1 := lgD_below HLG.out b1
    have HD1 := hide (dead_any w1 p F x hLG1.1)
    have HP1 := hide (put_any w1 K p g F ⟨x, n, z, lost⟩ hLG1 _ [] (HVZ.out.below b1) (by decide) (HT.out.below b1 HT.out.lt) e (HC.out.er.below b1) HFK.out HC.out.fine HX.out.1 (by show n ≤ _; omega) (by show z ≤ _; omega))
    rw [HPUT.out] at HP1
    have HB1 := hide b1
    clear h1 b1 hLG1 HCPZ HVZ
    go_wp2_with fail
    refine HD1.out.mono ?_
    rintro r' w1' ⟨rfl, hw⟩
    subst hw
    clear HD1
    go_wp2_with fail
    refine HP1.out.mono ?_
    rintro r' w2 ⟨F2, rfl, hlg2, hf2, hs2⟩
    have HN2 := hide (num_err4 w2 e (HC.out.er.below HB1.out |>.fr hf2 (fun k hk => by
      rcases List.mem_cons.1 hk with rfl | h4
      · exact HC.out.low _ HL.out.mem
      · exact HFK.out k h4)).errs 1 (by omega))
    have HD2 := hide (dead_any w2 p F2 x hlg2.1)
    have HZ := hide (HFIN.out _ w2 HB1.out F2 hlg2 hf2 hs2)
    clear hlg2 hf2 hs2 HP1
    go_wp2_with (first
      | (go_at_call 23; refine HN2.out.mono ?_; rintro r' w7 ⟨rfl, rfl⟩)
      | (go_at_call 31; refine HD2.out.mono ?_; rintro r' w7 ⟨rfl, rfl⟩))
    go_ret
    exact ⟨rfl, HZ.out⟩
  · have z1 : decide ((1 : Int) ≤ (q.length : Int)) = true := by rw [decide_eq_true_eq]; omega
    have z1' : (1 : Int) ≤ (q.length : Int) := by omega
    have z2 : decide ((q.length : Int) ≤ 8192) = false := by rw [decide_eq_false_iff_not]; omega
    have z2' : ¬ (q.length : Int) ≤ 8192 := by omega
    clear hnf h0
    go_enter Tryd.func28, Tryd.ntmps28
    go_wp2_with fail
    refine HCP.out.mono ?_
    rintro r' w1 ⟨v1, rfl, h1, b1⟩
    obtain ⟨o1, c1, rfl⟩ := (rd_own h1).len
    have hLG1 := lgD_below HLG.out b1
    have HD1 := hide (dead_any w1 p F x hLG1.1)
    have HP1 := hide (put_any w1 K p g F ⟨x, n, z, lost⟩ hLG1 _ q (HV.out.below b1) (by omega) (HT.out.below b1 HT.out.lt) e (HC.out.er.below b1) HFK.out HC.out.fine HX.out.1 (by show n ≤ _; omega) (by show z ≤ _; omega))
    rw [HPUT.out] at HP1
    have HB1 := hide b1
    clear h1 b1 hLG1 HCP
    go_wp2_with fail
    refine HD1.out.mono ?_
    rintro r' w1' ⟨rfl, hw⟩
    subst hw
    clear HD1
    go_wp2_with fail
    refine HP1.out.mono ?_
    rintro r' w2 ⟨F2, rfl, hlg2, hf2, hs2⟩
    have HN2 := hide (num_err4 w2 e (HC.out.er.below HB1.out |>.fr hf2 (fun k hk => by
      rcases List.mem_cons.1 hk with rfl | h4
      · exact HC.out.low _ HL.out.mem
      · exact HFK.out k h4)).errs 1 (by omega))
    have HD2 := hide (dead_any w2 p F2 x hlg2.1)
    have HZ := hide (HFIN.out _ w2 HB1.out F2 hlg2 hf2 hs2)
    clear hlg2 hf2 hs2 HP1
    go_wp2_with (first
      | (go_at_call 23; refine HN2.out.mono ?_; rintro r' w7 ⟨rfl, rfl⟩)
      | (go_at_call 31; refine HD2.out.mono ?_; rintro r' w7 ⟨rfl, rfl⟩))
    go_ret
    exact ⟨rfl, HZ.out⟩
end Go.Proofs.YtgmgffcfmopgmaaDoor.wl
