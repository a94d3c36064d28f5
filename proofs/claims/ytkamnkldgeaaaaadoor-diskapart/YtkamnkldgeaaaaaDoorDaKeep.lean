import Derived.Test.YtkamnkldgeaaaaaDoorDaKept
namespace Go.Proofs.YtkamnkldgeaaaaaDoor.da
open Go.ChangeShapes Go.WideShapes Go.ChangeAt Go.RowKit Go.Proofs.YtkamnkldgeaaaaaDoor.common Go.Proofs.YtkamnkldgeaaaaaDoor.dk Go.Proofs.YtkamnkldgeaaaaaDoor.dr

/-- a list that was grown out of v: its head reads as v does -/
def Gw (base : Nat) (w W : World) (v : Value) (L : List UInt8) (n : Nat) (u : Value) : Prop :=
  ∃ g cap, u = .slice (some ⟨g, 0, none⟩) (n + 64) cap ∧ n + 64 ≤ cap ∧ (v.ownBlock = some g ∨ w.heap.size ≤ g) ∧ base ≤ g ∧ g < W.heap.size ∧ Rd W (.slice (some ⟨g, 0, none⟩) L.length cap) L
theorem Gw.keep {base : Nat} {w W W' : World} {v u : Value} {L : List UInt8} {n : Nat} {F : List Nat} (h : Gw base w W v L n u) (hf : Fr F W W') (hF : ∀ b ∈ F, v.ownBlock ≠ some b ∧ b < w.heap.size) : Gw base w W' v L n u := by
  obtain ⟨g, cap, h1, h2, h3, h4, h5, h6⟩ := h
  refine ⟨g, cap, h1, h2, h3, h4, Nat.lt_of_lt_of_le h5 hf.size, h6.keep (fun a m c e => ?_) hf.size⟩
  cases e
  exact hf.block g h5 (fun hm => by
    have k := hF g hm
    rcases h3 with h3 | h3
    · exact k.1 h3
    · omega)
theorem Gw.below {base : Nat} {w W W' : World} {v u : Value} {L : List UInt8} {n : Nat} (h : Gw base w W v L n u) (hb : Below W.heap.size W W') : Gw base w W' v L n u := h.keep (Fr.of (F := []) hb) (fun b hb => by cases hb)
/-- the row v is put on once more -/
theorem Gw.next {base : Nat} {w W W' : World} {v u : Value} {L : List UInt8} {n : Nat} (h : Gw base w W v L n u) (hf : Fr v.ownBlock.toList W W') (hv : W'.ownsRow base 5 1 v L.length (L.map B)) : Gw base w W' v L n u := by
  obtain ⟨g, cap, h1, h2, h3, h4, h5, h6⟩ := h
  refine ⟨g, cap, h1, h2, h3, h4, Nat.lt_of_lt_of_le h5 hf.size, ?_⟩
  by_cases hg : v.ownBlock = some g
  · exact rd_at hv hg cap
  · exact h6.keep (fun a m c e => by cases e; exact hf.block g h5 (fun hm => hg (Option.mem_toList.1 hm))) hf.size
theorem wrap_b (m : UInt8) (k : Nat) : IntKind.u8.wrap ((m.toNat : Int) + (k : Int)) = (((m + UInt8.ofNat k).toNat : Nat) : Int) := by
  unfold IntKind.wrap
  simp [IntKind.bits, IntKind.signed]

/-- what is kept at the end -/
def KeepOut (base : Nat) (w : World) (pk : Nat) (FK Q : List Nat) (n : Nat) (vb : Option Nat) (w' : World) : Prop :=
  ∃ FK' Q' ks', Kp base w' pk FK' Q' ks' ∧ ks'.length = n + 4 ∧ Fr (FK ++ vb.toList) w w' ∧ (∀ b ∈ FK', b ∈ FK ∨ w.heap.size ≤ b) ∧ (∀ b ∈ Q', b ∈ Q ∨ vb = some b ∨ w.heap.size ≤ b)
theorem Gw.blk {base : Nat} {w W : World} {v : Value} {L : List UInt8} {n g x c : Nat} (h : Gw base w W v L n (.slice (some ⟨g, 0, none⟩) x c)) : (v.ownBlock = some g ∨ w.heap.size ≤ g) ∧ base ≤ g ∧ g < W.heap.size ∧ Rd W (.slice (some ⟨g, 0, none⟩) L.length c) L := by
  obtain ⟨g', c', h1, h2, h3, h4, h5, h6⟩ := h
  cases h1
  exact ⟨h3, h4, h5, h6⟩
theorem keep_fin {base : Nat} {w C Y : World} {pk : Nat} {vl vm vl' vm' : Value} {Q : List Nat} {ks : List (Value × Nat × UInt8)} {v : Value} {L : List UInt8} {k : Nat} {m : UInt8} {g1 g2 g3 c1 c2 c3 : Nat} {us' : List Value} {ms' : List UInt8} (hK : Kp base w pk (fk pk vl vm) Q ks) (hF : ∀ g, v.ownBlock = some g → g ∉ fk pk vl vm ∧ g ∉ Q) (_hb : base ≤ w.heap.size) (hwC : Fr v.ownBlock.toList w C) (hv : C.ownsRow base 5 1 v L.length (L.map B)) (hvw : ∀ g, v.ownBlock = some g → g < w.heap.size)
    (hL : L = List.replicate k m) (hkn : k ≤ 140737488355328) (w1 : Gw base w C v L k (.slice (some ⟨g1, 0, none⟩) (k + 64) c1)) (w2 : Gw base w C v L k (.slice (some ⟨g2, 0, none⟩) (k + 64) c2)) (w3 : Gw base w C v L k (.slice (some ⟨g3, 0, none⟩) (k + 64) c3)) (hCY : Fr (fk pk vl vm) C Y) (hS : ∀ b ∈ fk pk vl' vm', b ∈ fk pk vl vm ∨ C.heap.size ≤ b)
    (hus : us' = ks.map (·.1) ++ [v] ++ [.slice (some ⟨g1, 0, none⟩) k c1] ++ [.slice (some ⟨g2, 0, none⟩) k c2] ++ [.slice (some ⟨g3, 0, none⟩) k c3]) (hms : ms' = ks.map (·.2.2) ++ [m] ++ [m] ++ [m] ++ [m]) (hq : Kq Y pk vl' vm' us' ms') : KeepOut base w pk (fk pk vl vm) Q ks.length v.ownBlock Y := by
  have hkf := hK.ltf
  have hfk : ∀ b ∈ fk pk vl vm, v.ownBlock ≠ some b ∧ b < w.heap.size := fun b hb' => ⟨fun e => (hF b e).1 hb', hkf b hb'⟩
  have hwY : Fr (fk pk vl vm ++ v.ownBlock.toList) w Y := (hwC.mono (fun b hb' => List.mem_append.2 (Or.inr hb'))).trans hCY (fun b hb' => Or.inl (List.mem_append.2 (Or.inl hb')))
  have hwCs := hwC.size
  have hCYs := hCY.size
  have hlen : L.length = k := by rw [hL, List.length_replicate]
  have hvY : Y.ownsRow base 5 1 v L.length (L.map B) := own_fr hv hCY (fun g hg hm => (hF g hg).1 hm)
  obtain ⟨a1, b1, d1, r1⟩ := (w1.keep hCY hfk).blk
  obtain ⟨a2, b2, d2, r2⟩ := (w2.keep hCY hfk).blk
  obtain ⟨a3, b3, d3, r3⟩ := (w3.keep hCY hfk).blk
  have e1 := w1.blk.2.2.1
  have e2 := w2.blk.2.2.1
  have e3 := w3.blk.2.2.1
  rw [hlen] at r1 r2 r3
  have gout : ∀ g, (v.ownBlock = some g ∨ w.heap.size ≤ g) → g < C.heap.size → g ∉ fk pk vl' vm' := fun g hg hgC hm => by
    rcases hS g hm with h | h
    · have := hkf g h
      rcases hg with hg | hg
      · exact (hF g hg).1 h
      · omega
    · omega
  refine ⟨fk pk vl' vm', Q ++ v.ownBlock.toList ++ [g1, g2, g3], ks ++ [(v, k, m), (.slice (some ⟨g1, 0, none⟩) k c1, k, m), (.slice (some ⟨g2, 0, none⟩) k c2, k, m), (.slice (some ⟨g3, 0, none⟩) k c3, k, m)], ⟨⟨vl', vm', rfl, ?_⟩, ?_, ?_, ?_, ?_, ?_⟩, by simp, hwY, fun b hb' => ?_, fun b hb' => ?_⟩
  · have h1 : us' = (ks ++ [(v, k, m), (.slice (some ⟨g1, 0, none⟩) k c1, k, m), (.slice (some ⟨g2, 0, none⟩) k c2, k, m), (.slice (some ⟨g3, 0, none⟩) k c3, k, m)]).map (·.1) := by rw [hus]; simp
    have h2 : ms' = (ks ++ [(v, k, m), (.slice (some ⟨g1, 0, none⟩) k c1, k, m), (.slice (some ⟨g2, 0, none⟩) k c2, k, m), (.slice (some ⟨g3, 0, none⟩) k c3, k, m)]).map (·.2.2) := by rw [hms]; simp
    rw [← h1, ← h2]
    exact hq
  · intro x hx
    rcases List.mem_append.1 hx with h | h
    · obtain ⟨h1, h2⟩ := hK.con x h
      refine ⟨h1.keep (fun a n c e => hwY.block _ (hK.lq _ (h2 a n c e)).2 (fun hm => ?_)) hwY.size, fun a n c e => List.mem_append.2 (Or.inl (List.mem_append.2 (Or.inl (h2 a n c e))))⟩
      rcases List.mem_append.1 hm with q | q
      · exact hK.dis _ (h2 a n c e) q
      · exact (hF _ (Option.mem_toList.1 q)).2 (h2 a n c e)
    · simp only [List.mem_cons, List.mem_nil_iff, or_false] at h
      rcases h with rfl | rfl | rfl | rfl
      · refine ⟨by have := rd_own hvY; rw [hL] at this; exact this, fun a n c e => List.mem_append.2 (Or.inl (List.mem_append.2 (Or.inr (Option.mem_toList.2 ?_))))⟩
        show v.ownBlock = _
        have e' : v = .slice (some a) n c := e
        rw [e']
        rfl
      · exact ⟨by rw [← hL]; exact r1, fun a n c e => by cases e; exact List.mem_append.2 (Or.inr (by simp))⟩
      · exact ⟨by rw [← hL]; exact r2, fun a n c e => by cases e; exact List.mem_append.2 (Or.inr (by simp))⟩
      · exact ⟨by rw [← hL]; exact r3, fun a n c e => by cases e; exact List.mem_append.2 (Or.inr (by simp))⟩
  · intro b hb' hm
    rcases List.mem_append.1 hb' with h | h
    · rcases List.mem_append.1 h with h | h
      · rcases hS b hm with q | q
        · exact hK.dis b h q
        · have := (hK.lq b h).2; omega
      · exact gout b (Or.inl (Option.mem_toList.1 h)) (Nat.lt_of_lt_of_le (hvw b (Option.mem_toList.1 h)) hwCs) hm
    · simp only [List.mem_cons, List.mem_nil_iff, or_false] at h
      rcases h with rfl | rfl | rfl
      · exact gout _ a1 e1 hm
      · exact gout _ a2 e2 hm
      · exact gout _ a3 e3 hm
  · intro b hb'
    rcases List.mem_append.1 hb' with h | h
    · rcases List.mem_append.1 h with h | h
      · exact ⟨(hK.lq b h).1, Nat.lt_of_lt_of_le (hK.lq b h).2 hwY.size⟩
      · exact ⟨own_ge hv b (Option.mem_toList.1 h), (hvY.lt b (Option.mem_toList.1 h)).2⟩
    · simp only [List.mem_cons, List.mem_nil_iff, or_false] at h
      rcases h with rfl | rfl | rfl
      · exact ⟨b1, d1⟩
      · exact ⟨b2, d2⟩
      · exact ⟨b3, d3⟩
  · intro b hb'
    rcases hS b hb' with h | h
    · exact hK.lf b h
    · omega
  · intro y hy
    rcases List.mem_append.1 hy with h | h
    · exact hK.sz y h
    · simp only [List.mem_cons, List.mem_nil_iff, or_false] at h
      rcases h with rfl | rfl | rfl | rfl <;> exact hkn
  · rcases hS b hb' with h | h
    · exact Or.inl h
    · exact Or.inr (by omega)
  · rcases List.mem_append.1 hb' with h | h
    · rcases List.mem_append.1 h with h | h
      · exact Or.inl h
      · exact Or.inr (Or.inl (Option.mem_toList.1 h))
    · simp only [List.mem_cons, List.mem_nil_iff, or_false] at h
      rcases h with rfl | rfl | rfl
      · exact Or.inr a1
      · exact Or.inr a2
      · exact Or.inr a3

set_option maxRecDepth 100000 in
set_option maxHeartbeats 12800000 in
theorem keep_any (base : Nat) (w : World) (pk : Nat) (FK Q : List Nat) (ks : List (Value × Nat × UInt8)) (v : Value) (l : List UInt8) (m : UInt8) (hK : Kp base w pk FK Q ks) (hv : w.ownsRow base 5 1 v l.length (l.map B)) (hF : ∀ g, v.ownBlock = some g → g ∉ FK ∧ g ∉ Q) (hl : l.length ≤ 140737488355328) (hn : ks.length ≤ 100000) (hb : base ≤ w.heap.size) :
    Calls Tryd.prog 8 #[ptr pk, v, .int .u8 (m.toNat : Int)] w fun e w' => e = .returned (.tuple #[]) ∧ KeepOut base w pk FK Q ks.length v.ownBlock w' := by
  obtain ⟨i0, hi, hz0, hz1, hz2⟩ := info_parts info8
  obtain ⟨j0, hj, hy0, hy1, hy2⟩ := info_parts infoSl
  obtain ⟨vl, vm, hFK, hq⟩ := hK.q
  subst hFK
  obtain ⟨us, hus⟩ : ∃ us, us = ks.map (·.1) := ⟨_, rfl⟩
  obtain ⟨ms, hms⟩ : ∃ ms, ms = ks.map (·.2.2) := ⟨_, rfl⟩
  rw [← hus, ← hms] at hq
  have HUL : Hid (us.length = ks.length) := by show _ = _; rw [hus, List.length_map]
  have HML : Hid (ms.length = ks.length) := by show _ = _; rw [hms, List.length_map]
  obtain ⟨n, hln⟩ : ∃ n, n = l.length := ⟨_, rfl⟩
  have hv' := hv
  rw [← hln] at hv'
  obtain ⟨ov, cv, hvv, hcv⟩ := own_slice hv'
  have hv0 : 0 < n → ∃ g, ov = some ⟨g, 0, none⟩ := fun h0 => by
    rcases hv'.2 with ⟨hx, h1⟩ | ⟨g, cap, cur, hx, _⟩
    · omega
    · rw [hvv] at hx; cases hx; exact ⟨g, rfl⟩
  have hnl : n ≤ 140737488355328 := by rw [hln]; exact hl
  obtain ⟨vb, hvb⟩ : ∃ vb, vb = v.ownBlock := ⟨_, rfl⟩
  have HVB : Hid (∀ g, ov = some ⟨g, 0, none⟩ → vb = some g) := fun g hg => by rw [hvb, hvv, hg]; rfl
  have HK := hide hK
  have HV := hide hv
  have HFF := hide hF
  have HLN := hide hln
  have HN := hide hn
  have HVV := hide hvv
  have HBV := hide hvb
  have HQ0 := hide hq
  have HBS := hide hb
  have HUS := hide hus
  have HMS := hide hms
  have hu1 := HUL.out
  obtain ⟨ol, cl, hvl, hcl⟩ := own_slice hq.rl
  obtain ⟨om, cm, hvm, hcm⟩ := own_slice hq.rm
  subst hvl hvm
  rw [hvv]
  clear hK hv hF hl hn hq hv' hvv hvb hb hu1 hus hms hcl hcm hln
  go_enter Tryd.func8, Tryd.ntmps8
  go_wp2_with fail
  go_loopw [6] (fun i wr => ∃ k : Nat, k ≤ n ∧ i = .int .i64 k ∧ Hid (wr.ownsRow base 5 1 (.slice ov n cv) n ((hlf l k m).map B)) ∧ Hid (Fr vb.toList w wr)) (fun i _ => n - (intOf i).toNat)
  case atStart => exact ⟨0, Nat.zero_le _, rfl, by show World.ownsRow _ _ _ _ _ _ _; rw [hlf_zero, ← HVV.out]; have h1 := HV.out; rw [← HLN.out] at h1; exact h1, Fr.refl _ _⟩
  case round =>
    obtain ⟨k, hk, rfl, HR, HF⟩ := hrel
    by_cases hlt : k < n
    · have k0 : (0 : Int) ≤ (k : Int) := Int.natCast_nonneg _
      have k1 : (k : Int) < (n : Int) := by omega
      obtain ⟨g, rfl⟩ := hv0 (by omega)
      have hlen := hlf_len l k m (by rw [← HLN.out]; exact hk)
      have hr1 : wr.ownsRow base 5 1 (.slice (some ⟨g, 0, none⟩) (hlf l k m).length cv) (hlf l k m).length ((hlf l k m).map B) := by rw [hlen, ← HLN.out]; exact HR.out
      have hk2 : k < (hlf l k m).length := by rw [hlen, ← HLN.out]; exact hlt
      obtain ⟨c0, f0⟩ := own_byte_cell hr1 k hk2
      have HNX : Hid ((wr.setCell ⟨g, k, none⟩ (B m)).ownsRow base 5 1 (.slice (some ⟨g, 0, none⟩) n cv) n ((hlf l (k + 1) m).map B)) := by
        have h2 := own_byte_set hr1 k m
        rw [List.length_set, hlen, hlf_set l k m (by rw [← HLN.out]; exact hlt), ← HLN.out] at h2
        exact h2
      have HFX : Hid (Fr vb.toList w (wr.setCell ⟨g, k, none⟩ (B m))) := HF.out.set _ _ (Or.inl (Option.mem_toList.2 (HVB.out g rfl)))
      generalize (hlf l k m)[k]'hk2 = x0 at *
      clear hr1 hk2 hlen
      go_wp2_with fail
      go_roundw
      case rel => exact ⟨k + 1, by omega, by go_num, HNX, HFX⟩
      case measure => simp [intOf]; omega
    · obtain rfl : k = n := by omega
      have k1 : ¬ (k : Int) < (k : Int) := by omega
      obtain ⟨L, hL⟩ : ∃ L, L = List.replicate k m := ⟨_, rfl⟩
      have HLL : Hid (L.length = k) := by show _ = _; rw [hL, List.length_replicate]
      have HLE := hide hL
      have HW0 : Hid (wr.ownsRow base 5 1 (.slice ov k cv) L.length (L.map B)) := by
        show World.ownsRow _ _ _ _ _ _ _
        have h1 := HR.out
        rw [show hlf l k m = L by rw [hL, HLN.out]; exact hlf_full l m] at h1
        rw [HLL.out]
        exact h1
      have HS0 : Hid (w.heap.size ≤ wr.heap.size) := HF.out.size
      have w1 : IntKind.u8.wrap ((m.toNat : Int) + 1) = (((m + 1).toNat : Nat) : Int) := wrap_b m 1
      have w2 : IntKind.u8.wrap ((m.toNat : Int) + 2) = (((m + 2).toNat : Nat) : Int) := wrap_b m 2
      have w3 : IntKind.u8.wrap ((m.toNat : Int) + 3) = (((m + 3).toNat : Nat) : Int) := wrap_b m 3
      generalize m + 1 = m1 at *
      generalize m + 2 = m2 at *
      generalize m + 3 = m3 at *
      clear hL HR
      have HFr0 := hide HF.out
      go_wp2_with fail
      refine (run_any m1 _).mono ?_
      rintro x A1 ⟨vr1, rfl, or1, br1⟩
      obtain ⟨ox1, cx1, hx1, _⟩ := own_slice or1
      have hrd1 : Rd A1 (.slice ox1 (List.replicate 64 m1).length cx1) (List.replicate 64 m1) := by rw [List.length_replicate, ← hx1]; exact rd_own (by rw [List.length_replicate]; exact or1)
      obtain ⟨vg1, C1, hrun1, hfr1, hov1, gg1, cc1, hvg1, hcc1, hgb1, hba1, hog1⟩ := append_two A1 base (.slice ov k cv) L (own_below HW0.out br1) ox1 cx1 (List.replicate 64 m1) hrd1 (by rw [List.length_replicate]; decide) (by rw [List.length_replicate, HLL.out]; omega) (by have := HBS.out; have := HS0.out;  have := br1.size; omega)
      rw [List.length_replicate, HLL.out] at hvg1 hcc1
      rw [List.length_replicate] at hrun1
      have HW1 := hide hov1
      have hfv1 : Fr vb.toList A1 C1 := by have h1 := hfr1; rw [← HVV.out, ← HBV.out] at h1; exact h1
      have HSZ1 : Hid (wr.heap.size ≤ C1.heap.size) := Nat.le_trans br1.size hfr1.size
      have HFr1 : Hid (Fr vb.toList w C1) := (HFr0.out.next br1).trans hfv1 (fun i hi => Or.inl hi)
      have HG1 : Hid (Gw base w C1 (.slice ov k cv) L k vg1) := ⟨gg1, cc1, hvg1, hcc1, by rcases hgb1 with h | h; exact Or.inl h; exact Or.inr (by have := HS0.out;  have := br1.size; omega), hba1, (hog1.lt gg1 rfl).2, rd_own hog1⟩
      have HRUN1 := hide hrun1
      subst hx1 hvg1
      clear or1 br1 hrd1 hfr1 hov1 hgb1 hba1 hog1 hfv1 hrun1
      go_wp2_with (at_builtin; refine appendX rfl _ _ 25 25 rfl _ _ rfl rfl _ _ HRUN1.out ?_)
      go_wp2_with fail
      refine (run_any m2 _).mono ?_
      rintro x A2 ⟨vr2, rfl, or2, br2⟩
      obtain ⟨ox2, cx2, hx2, _⟩ := own_slice or2
      have hrd2 : Rd A2 (.slice ox2 (List.replicate 64 m2).length cx2) (List.replicate 64 m2) := by rw [List.length_replicate, ← hx2]; exact rd_own (by rw [List.length_replicate]; exact or2)
      obtain ⟨vg2, C2, hrun2, hfr2, hov2, gg2, cc2, hvg2, hcc2, hgb2, hba2, hog2⟩ := append_two A2 base (.slice ov k cv) L (own_below HW1.out br2) ox2 cx2 (List.replicate 64 m2) hrd2 (by rw [List.length_replicate]; decide) (by rw [List.length_replicate, HLL.out]; omega) (by have := HBS.out; have := HS0.out; have := HSZ1.out; have := br2.size; omega)
      rw [List.length_replicate, HLL.out] at hvg2 hcc2
      rw [List.length_replicate] at hrun2
      have HW2 := hide hov2
      have hfv2 : Fr vb.toList A2 C2 := by have h1 := hfr2; rw [← HVV.out, ← HBV.out] at h1; exact h1
      have HSZ2 : Hid (C1.heap.size ≤ C2.heap.size) := Nat.le_trans br2.size hfr2.size
      have HFr2 : Hid (Fr vb.toList w C2) := (HFr1.out.next br2).trans hfv2 (fun i hi => Or.inl hi)
      have HG2 : Hid (Gw base w C2 (.slice ov k cv) L k vg2) := ⟨gg2, cc2, hvg2, hcc2, by rcases hgb2 with h | h; exact Or.inl h; exact Or.inr (by have := HS0.out; have := HSZ1.out; have := br2.size; omega), hba2, (hog2.lt gg2 rfl).2, rd_own hog2⟩
      have HG1 := hide ((HG1.out.below br2).next hfr2 hov2)
      have HRUN2 := hide hrun2
      subst hx2 hvg2
      clear or2 br2 hrd2 hfr2 hov2 hgb2 hba2 hog2 hfv2 hrun2
      go_wp2_with (at_builtin; refine appendX rfl _ _ 25 25 rfl _ _ rfl rfl _ _ HRUN2.out ?_)
      go_wp2_with fail
      refine (run_any m3 _).mono ?_
      rintro x A3 ⟨vr3, rfl, or3, br3⟩
      obtain ⟨ox3, cx3, hx3, _⟩ := own_slice or3
      have hrd3 : Rd A3 (.slice ox3 (List.replicate 64 m3).length cx3) (List.replicate 64 m3) := by rw [List.length_replicate, ← hx3]; exact rd_own (by rw [List.length_replicate]; exact or3)
      obtain ⟨vg3, C3, hrun3, hfr3, hov3, gg3, cc3, hvg3, hcc3, hgb3, hba3, hog3⟩ := append_two A3 base (.slice ov k cv) L (own_below HW2.out br3) ox3 cx3 (List.replicate 64 m3) hrd3 (by rw [List.length_replicate]; decide) (by rw [List.length_replicate, HLL.out]; omega) (by have := HBS.out; have := HS0.out; have := HSZ1.out; have := HSZ2.out; have := br3.size; omega)
      rw [List.length_replicate, HLL.out] at hvg3 hcc3
      rw [List.length_replicate] at hrun3
      have HW3 := hide hov3
      have hfv3 : Fr vb.toList A3 C3 := by have h1 := hfr3; rw [← HVV.out, ← HBV.out] at h1; exact h1
      have HSZ3 : Hid (C2.heap.size ≤ C3.heap.size) := Nat.le_trans br3.size hfr3.size
      have HFr3 : Hid (Fr vb.toList w C3) := (HFr2.out.next br3).trans hfv3 (fun i hi => Or.inl hi)
      have HG3 : Hid (Gw base w C3 (.slice ov k cv) L k vg3) := ⟨gg3, cc3, hvg3, hcc3, by rcases hgb3 with h | h; exact Or.inl h; exact Or.inr (by have := HS0.out; have := HSZ1.out; have := HSZ2.out; have := br3.size; omega), hba3, (hog3.lt gg3 rfl).2, rd_own hog3⟩
      have HG1 := hide ((HG1.out.below br3).next hfr3 hov3)
      have HG2 := hide ((HG2.out.below br3).next hfr3 hov3)
      have HRUN3 := hide hrun3
      subst hx3 hvg3
      clear or3 br3 hrd3 hfr3 hov3 hgb3 hba3 hog3 hfv3 hrun3
      have HQ3 : Hid (Kq C3 pk (.slice ol us.length cl) (.slice om ms.length cm) us ms) := HQ0.out.other HFr3.out (fun b hb' hm => (HFF.out b (by rw [← HBV.out]; exact Option.mem_toList.1 hm)).1 hb')
      have HY0 : Hid (Fr (fk pk (.slice ol us.length cl) (.slice om ms.length cm)) C3 C3) := Fr.refl _ _
      have HT0 : Hid (∀ b ∈ fk pk (.slice ol us.length cl) (.slice om ms.length cm), b ∈ fk pk (.slice ol us.length cl) (.slice om ms.length cm) ∨ C3.heap.size ≤ b) := fun b hb' => Or.inl hb'
      have HQY0 := HQ3
      have g1' : (k : Int) ≤ (cc1 : Int) := by omega
      have g2' : (k : Int) ≤ (cc2 : Int) := by omega
      have g3' : (k : Int) ≤ (cc3 : Int) := by omega
      have g0' : (0 : Int) ≤ (k : Int) := Int.natCast_nonneg _
      have HU0 : Hid (us.length ≤ 100000) := by show _ ≤ _; rw [HUL.out]; exact HN.out
      have HM0 : Hid (ms.length ≤ 100000) := by show _ ≤ _; rw [HML.out]; exact HN.out
      have HSC : Hid (w.heap.size ≤ C3.heap.size) := HFr3.out.size
      have q0 : C3.cell? ⟨pk, 0, none⟩ = some (.slice ol us.length cl) := cell_of HQY0.out.box 0
      have q1 : C3.frozen? ⟨pk, 0, none⟩ = false := free_of HQY0.out.box 0
      have q2 : C3.cell? ⟨pk, 1, none⟩ = some (.slice om ms.length cm) := cell_of HQY0.out.box 1
      have q3 : C3.frozen? ⟨pk, 1, none⟩ = false := free_of HQY0.out.box 1
      have hpk : pk < C3.heap.size := (Array.getElem?_eq_some_iff.1 HQY0.out.box).1
      have HRW := hide (HQY0.out.rl.alloc (.cells #[.slice ov k cv] 25))
      have HNEW : Hid (∀ j u, [.slice ov k cv][j]? = some u → (World.alloc C3 (.cells #[.slice ov k cv] 25)).cell? ((⟨C3.heap.size, 0, none⟩ : Addr).add j) = some u) := by have h1 := cell_one_new C3 (.slice ov k cv) 25;  exact h1
      go_wp2_with (first | (at_builtin; refine appendX rfl _ _ 25 25 rfl _ _ rfl rfl _ _ HRUN3.out ?_) | (at_builtin; refine ak.wpList_append_keep _ rfl _ _ 33 rfl 0 25 j0 (.slice none 0 0) 1 24 Tryd.underlying33 hj hy0 hy1 hy2 rfl (by decide) (.slice ol us.length cl) us.length _ rfl HRW.out ⟨C3.heap.size, 0, none⟩ 1 [.slice ov k cv] rfl rfl HNEW.out ?d02 ?d03 ?d04 ?d05 ?_))
      case d02 => intro u hu; simp at hu; rw [hu]; rfl
      case d03 => have := HU0.out;  unfold maxLen; omega
      case d04 => have := HU0.out;  omega
      case d05 => exact Nat.zero_le _
      intro v' X0 hown hw
      have hgrow : (World.alloc C3 (.cells #[.slice ov k cv] 25)).grownBy X0 (Value.ownBlock (.slice ol us.length cl)) := by
        rcases hw with ⟨g, cap, e1, _, hg⟩ | ⟨_, hg⟩
        · first | (rw [e1.1]; exact hg) | (rw [e1]; exact hg)
        · exact ⟨hg.os, hg.tape, hg.output, hg.size, fun k hk _ => hg.block k hk (by simp)⟩
      have hat : ∀ b, v'.ownBlock = some b → Value.ownBlock (.slice ol us.length cl) = some b ∨ (World.heap C3).size ≤ b := fun b hb' => by
        rcases hw with ⟨g, cap, e1, e2, _⟩ | ⟨e1, _⟩
        · rw [e2] at hb'; first | (rw [e1.1]; exact Or.inl hb') | (rw [e1]; exact Or.inl hb')
        · rw [e1] at hb'; cases hb'; exact Or.inr (by simp)
      have hfx : Fr (Value.ownBlock (.slice ol us.length cl)).toList C3 X0 := ((Fr.refl _ _).alloc _).trans (fr_grown' hgrow) (fun i hi => Or.inl hi)
      clear hw hgrow
      have hbx : X0.heap[pk]? = some (.cells #[(.slice ol us.length cl), (.slice om ms.length cm)] 35 (0, 0)) := (hfx.block pk hpk (fun hm => box_apart (by decide) HQY0.out.rl HQY0.out.box (Option.mem_toList.1 hm))).trans HQY0.out.box
      obtain ⟨oN0, cN0, hvX, _⟩ := own_slice hown
      obtain ⟨N0, hN0⟩ : ∃ N, N = us.length + 1 := ⟨_, rfl⟩
      rw [← hN0] at hvX
      have HN0 := hide hN0
      subst hvX
      clear hN0
      clear q0 q1 q2 q3 hpk
      have s0 : X0.cell? ⟨pk, 0, none⟩ = some (.slice ol us.length cl) := cell_of hbx 0
      have s1 : X0.frozen? ⟨pk, 0, none⟩ = false := free_of hbx 0
      obtain ⟨hq1, hf1, hs1⟩ := HQY0.out.pushL hfx hown hat
      have HY1 : Hid (Fr (fk pk (.slice ol us.length cl) (.slice om ms.length cm)) C3 (X0.setCell ⟨pk, 0, none⟩ (.slice oN0 N0 cN0))) := HY0.out.trans hf1 HT0.out
      have HT1 : Hid (∀ b ∈ fk pk (.slice oN0 N0 cN0) (.slice om ms.length cm), b ∈ fk pk (.slice ol us.length cl) (.slice om ms.length cm) ∨ C3.heap.size ≤ b) := fun b hb' => by
        rcases hs1 b hb' with h | h
        · exact HT0.out b h
        · exact Or.inr (Nat.le_trans HY0.out.size h)
      obtain ⟨us1, hus1⟩ : ∃ l, l = us ++ [.slice ov k cv] := ⟨_, rfl⟩
      rw [← hus1] at hq1
      have HQY1 := hide hq1
      have HEus1 := hide hus1
      have HLus1 : Hid (us1.length = us.length + 1) := by show _ = _; rw [hus1, List.length_append]; rfl
      clear hus1 hown hat hfx hbx hq1 hf1 hs1 HRW HNEW HQY0 HY0 HT0
      have q2 : (X0.setCell ⟨pk, 0, none⟩ (.slice oN0 N0 cN0)).cell? ⟨pk, 1, none⟩ = some (.slice om ms.length cm) := cell_of HQY1.out.box 1
      have q3 : (X0.setCell ⟨pk, 0, none⟩ (.slice oN0 N0 cN0)).frozen? ⟨pk, 1, none⟩ = false := free_of HQY1.out.box 1
      have q0 := 0
      have q1 := 0
      have hpk : pk < (X0.setCell ⟨pk, 0, none⟩ (.slice oN0 N0 cN0)).heap.size := (Array.getElem?_eq_some_iff.1 HQY1.out.box).1
      have HRW := hide (HQY1.out.rm.alloc (.cells #[B m] 5))
      have HNEW : Hid (∀ j u, [B m][j]? = some u → (World.alloc (X0.setCell ⟨pk, 0, none⟩ (.slice oN0 N0 cN0)) (.cells #[B m] 5)).cell? ((⟨X0.heap.size, 0, none⟩ : Addr).add j) = some u) := by have h1 := cell_one_new (X0.setCell ⟨pk, 0, none⟩ (.slice oN0 N0 cN0)) (B m) 5; rw [size_set] at h1; exact h1
      go_wp2_with (at_builtin; refine ak.wpList_append_keep _ rfl _ _ 25 rfl 0 5 i0 (.int .u8 0) 1 1 Tryd.underlying25 hi hz0 hz1 hz2 rfl (by decide) (.slice om ms.length cm) ms.length _ rfl HRW.out ⟨X0.heap.size, 0, none⟩ 1 [B m] rfl rfl HNEW.out ?d12 ?d13 ?d14 ?d15 ?_)
      clear s0 s1
      case d12 => intro u hu; simp at hu; rw [hu]; rfl
      case d13 => have := HM0.out;  unfold maxLen; omega
      case d14 => have := HM0.out;  omega
      case d15 => exact Nat.zero_le _
      intro v' X1 hown hw
      have hgrow : (World.alloc (X0.setCell ⟨pk, 0, none⟩ (.slice oN0 N0 cN0)) (.cells #[B m] 5)).grownBy X1 (Value.ownBlock (.slice om ms.length cm)) := by
        rcases hw with ⟨g, cap, e1, _, hg⟩ | ⟨_, hg⟩
        · first | (rw [e1.1]; exact hg) | (rw [e1]; exact hg)
        · exact ⟨hg.os, hg.tape, hg.output, hg.size, fun k hk _ => hg.block k hk (by simp)⟩
      have hat : ∀ b, v'.ownBlock = some b → Value.ownBlock (.slice om ms.length cm) = some b ∨ (World.heap (X0.setCell ⟨pk, 0, none⟩ (.slice oN0 N0 cN0))).size ≤ b := fun b hb' => by
        rcases hw with ⟨g, cap, e1, e2, _⟩ | ⟨e1, _⟩
        · rw [e2] at hb'; first | (rw [e1.1]; exact Or.inl hb') | (rw [e1]; exact Or.inl hb')
        · rw [e1] at hb'; cases hb'; exact Or.inr (by simp)
      have hfx : Fr (Value.ownBlock (.slice om ms.length cm)).toList (X0.setCell ⟨pk, 0, none⟩ (.slice oN0 N0 cN0)) X1 := ((Fr.refl _ _).alloc _).trans (fr_grown' hgrow) (fun i hi => Or.inl hi)
      clear hw hgrow
      have hbx : X1.heap[pk]? = some (.cells #[(.slice oN0 N0 cN0), (.slice om ms.length cm)] 35 (0, 0)) := (hfx.block pk hpk (fun hm => box_apart (by decide) HQY1.out.rm HQY1.out.box (Option.mem_toList.1 hm))).trans HQY1.out.box
      obtain ⟨oN1, cN1, hvX, _⟩ := own_slice hown
      obtain ⟨N1, hN1⟩ : ∃ N, N = ms.length + 1 := ⟨_, rfl⟩
      rw [← hN1] at hvX
      have HN1 := hide hN1
      subst hvX
      clear hN1
      clear q0 q1 q2 q3 hpk
      have s0 : X1.cell? ⟨pk, 1, none⟩ = some (.slice om ms.length cm) := cell_of hbx 1
      have s1 : X1.frozen? ⟨pk, 1, none⟩ = false := free_of hbx 1
      obtain ⟨hq1, hf1, hs1⟩ := HQY1.out.pushM hfx hown hat
      have HY2 : Hid (Fr (fk pk (.slice ol us.length cl) (.slice om ms.length cm)) C3 (X1.setCell ⟨pk, 1, none⟩ (.slice oN1 N1 cN1))) := HY1.out.trans hf1 HT1.out
      have HT2 : Hid (∀ b ∈ fk pk (.slice oN0 N0 cN0) (.slice oN1 N1 cN1), b ∈ fk pk (.slice ol us.length cl) (.slice om ms.length cm) ∨ C3.heap.size ≤ b) := fun b hb' => by
        rcases hs1 b hb' with h | h
        · exact HT1.out b h
        · exact Or.inr (Nat.le_trans HY1.out.size h)
      obtain ⟨ms1, hms1⟩ : ∃ l, l = ms ++ [m] := ⟨_, rfl⟩
      rw [← hms1] at hq1
      have HQY2 := hide hq1
      have HEms1 := hide hms1
      have HLms1 : Hid (ms1.length = ms.length + 1) := by show _ = _; rw [hms1, List.length_append]; rfl
      clear hms1 hown hat hfx hbx hq1 hf1 hs1 HRW HNEW HQY1 HY1 HT1
      obtain ⟨Z1, hZ1⟩ : ∃ X, X = (X1.setCell ⟨pk, 1, none⟩ (.slice oN1 N1 cN1)) := ⟨_, rfl⟩
      rw [← hZ1] at HQY2 HY2
      have HX := hide hZ1
      clear hZ1
      go_wp2_with fail
      rw [← HX.out]
      clear s0 s1 HX
      have q0 : Z1.cell? ⟨pk, 0, none⟩ = some (.slice oN0 N0 cN0) := cell_of HQY2.out.box 0
      have q1 : Z1.frozen? ⟨pk, 0, none⟩ = false := free_of HQY2.out.box 0
      have q2 : Z1.cell? ⟨pk, 1, none⟩ = some (.slice oN1 N1 cN1) := cell_of HQY2.out.box 1
      have q3 : Z1.frozen? ⟨pk, 1, none⟩ = false := free_of HQY2.out.box 1
      have hpk : pk < Z1.heap.size := (Array.getElem?_eq_some_iff.1 HQY2.out.box).1
      have HRW := hide (HQY2.out.rl.alloc (.cells #[.slice (some ⟨gg1, 0, none⟩) k cc1] 25))
      have HNEW : Hid (∀ j u, [.slice (some ⟨gg1, 0, none⟩) k cc1][j]? = some u → (World.alloc Z1 (.cells #[.slice (some ⟨gg1, 0, none⟩) k cc1] 25)).cell? ((⟨Z1.heap.size, 0, none⟩ : Addr).add j) = some u) := by have h1 := cell_one_new Z1 (.slice (some ⟨gg1, 0, none⟩) k cc1) 25;  exact h1
      go_region_law ((refine step_append_lies _ (by rfl) _ _ _ (by rfl) 0 25 j0 _ 1 24 Tryd.underlying33 hj hy0 hy1 hy2 rfl (by omega) (.slice oN0 N0 cN0) us1.length _ (by rfl) (HRW.out.drew) ⟨Z1.heap.size, 0, none⟩ 1 1 [.slice (some ⟨gg1, 0, none⟩) k cc1] (by rfl) (by rfl) (World.news_of_block (cs := #[.slice (some ⟨gg1, 0, none⟩) k cc1]) (t := 25) (fr := (0, 0)) (heap_alloc_new Z1 _)) (by simp [Value.oneCell']) (by omega) (by have := HU0.out; have := HLus1.out; unfold maxLen; omega) (by have := HU0.out; have := HLus1.out; omega) (Nat.zero_le _) (Z1.heap.size + 1) (by simp) ?_; intro hg2 kp2 X2 hown hgrow hw hlt2; have hfx : Fr (Value.ownBlock (.slice oN0 N0 cN0)).toList Z1 X2 := (((Fr.refl _ _).alloc _).drew).trans (fr_grown' hgrow) (fun i hi => Or.inl hi); have hbx : X2.heap[pk]? = some (.cells #[(.slice oN0 N0 cN0), (.slice oN1 N1 cN1)] 35 (0, 0)) := (hfx.block pk hpk (fun hm => box_apart (by decide) HQY2.out.rl HQY2.out.box (Option.mem_toList.1 hm))).trans HQY2.out.box; have s0 : X2.cell? ⟨pk, 0, none⟩ = some (.slice oN0 N0 cN0) := cell_of hbx 0; have s1 : X2.frozen? ⟨pk, 0, none⟩ = false := free_of hbx 0))
      all_goals
        obtain ⟨N2, hN2⟩ : ∃ N, N = us1.length + 1 := ⟨_, rfl⟩
        have hat : ∀ b, (Value.slice (some ⟨hg2, 0, none⟩) N2 kp2).ownBlock = some b → Value.ownBlock (.slice oN0 N0 cN0) = some b ∨ (World.heap Z1).size ≤ b := fun b hb' => by
          cases hb'
          rcases hw with h | h
          · exact Or.inl h
          · exact Or.inr (show Z1.heap.size ≤ hg2 by omega)
        have hown : X2.ownsRow 0 25 1 (.slice (some ⟨hg2, 0, none⟩) N2 kp2) (us1.length + 1) (us1 ++ [.slice (some ⟨gg1, 0, none⟩) k cc1]) := by rw [hN2]; exact hown
        rw [← hN2]
        have HN2 := hide hN2
        clear hN2 hw hgrow hlt2 s0 s1
        clear q0 q1 q2 q3 hpk
        have s0 := 0
        have s1 := 0
        obtain ⟨hq1, hf1, hs1⟩ := HQY2.out.pushL hfx hown hat
        have HY3 : Hid (Fr (fk pk (.slice ol us.length cl) (.slice om ms.length cm)) C3 (X2.setCell ⟨pk, 0, none⟩ (.slice (some ⟨hg2, 0, none⟩) N2 kp2))) := HY2.out.trans hf1 HT2.out
        have HT3 : Hid (∀ b ∈ fk pk (.slice (some ⟨hg2, 0, none⟩) N2 kp2) (.slice oN1 N1 cN1), b ∈ fk pk (.slice ol us.length cl) (.slice om ms.length cm) ∨ C3.heap.size ≤ b) := fun b hb' => by
          rcases hs1 b hb' with h | h
          · exact HT2.out b h
          · exact Or.inr (Nat.le_trans HY2.out.size h)
        obtain ⟨us2, hus2⟩ : ∃ l, l = us1 ++ [.slice (some ⟨gg1, 0, none⟩) k cc1] := ⟨_, rfl⟩
        rw [← hus2] at hq1
        have HQY3 := hide hq1
        have HEus2 := hide hus2
        have HLus2 : Hid (us2.length = us1.length + 1) := by show _ = _; rw [hus2, List.length_append]; rfl
        clear hus2 hown hat hfx hbx hq1 hf1 hs1 HRW HNEW HQY2 HY2 HT2
        have q2 : (X2.setCell ⟨pk, 0, none⟩ (.slice (some ⟨hg2, 0, none⟩) N2 kp2)).cell? ⟨pk, 1, none⟩ = some (.slice oN1 N1 cN1) := cell_of HQY3.out.box 1
        have q3 : (X2.setCell ⟨pk, 0, none⟩ (.slice (some ⟨hg2, 0, none⟩) N2 kp2)).frozen? ⟨pk, 1, none⟩ = false := free_of HQY3.out.box 1
        have q0 := 0
        have q1 := 0
        have hpk : pk < (X2.setCell ⟨pk, 0, none⟩ (.slice (some ⟨hg2, 0, none⟩) N2 kp2)).heap.size := (Array.getElem?_eq_some_iff.1 HQY3.out.box).1
        have HRW := hide (HQY3.out.rm.alloc (.cells #[B m] 5))
        have HNEW : Hid (∀ j u, [B m][j]? = some u → (World.alloc (X2.setCell ⟨pk, 0, none⟩ (.slice (some ⟨hg2, 0, none⟩) N2 kp2)) (.cells #[B m] 5)).cell? ((⟨X2.heap.size, 0, none⟩ : Addr).add j) = some u) := by have h1 := cell_one_new (X2.setCell ⟨pk, 0, none⟩ (.slice (some ⟨hg2, 0, none⟩) N2 kp2)) (B m) 5; rw [size_set] at h1; exact h1
        go_wp2_with (at_builtin; refine ak.wpList_append_keep _ rfl _ _ 25 rfl 0 5 i0 (.int .u8 0) 1 1 Tryd.underlying25 hi hz0 hz1 hz2 rfl (by decide) (.slice oN1 N1 cN1) ms1.length _ rfl HRW.out ⟨X2.heap.size, 0, none⟩ 1 [B m] rfl rfl HNEW.out ?d32 ?d33 ?d34 ?d35 ?_)
        clear s0 s1
        case d32 => intro u hu; simp at hu; rw [hu]; rfl
        case d33 => have := HM0.out; have := HLms1.out; unfold maxLen; omega
        case d34 => have := HM0.out; have := HLms1.out; omega
        case d35 => exact Nat.zero_le _
        intro v' X3 hown hw
        have hgrow : (World.alloc (X2.setCell ⟨pk, 0, none⟩ (.slice (some ⟨hg2, 0, none⟩) N2 kp2)) (.cells #[B m] 5)).grownBy X3 (Value.ownBlock (.slice oN1 N1 cN1)) := by
          rcases hw with ⟨g, cap, e1, _, hg⟩ | ⟨_, hg⟩
          · first | (rw [e1.1]; exact hg) | (rw [e1]; exact hg)
          · exact ⟨hg.os, hg.tape, hg.output, hg.size, fun k hk _ => hg.block k hk (by simp)⟩
        have hat : ∀ b, v'.ownBlock = some b → Value.ownBlock (.slice oN1 N1 cN1) = some b ∨ (World.heap (X2.setCell ⟨pk, 0, none⟩ (.slice (some ⟨hg2, 0, none⟩) N2 kp2))).size ≤ b := fun b hb' => by
          rcases hw with ⟨g, cap, e1, e2, _⟩ | ⟨e1, _⟩
          · rw [e2] at hb'; first | (rw [e1.1]; exact Or.inl hb') | (rw [e1]; exact Or.inl hb')
          · rw [e1] at hb'; cases hb'; exact Or.inr (by simp)
        have hfx : Fr (Value.ownBlock (.slice oN1 N1 cN1)).toList (X2.setCell ⟨pk, 0, none⟩ (.slice (some ⟨hg2, 0, none⟩) N2 kp2)) X3 := ((Fr.refl _ _).alloc _).trans (fr_grown' hgrow) (fun i hi => Or.inl hi)
        clear hw hgrow
        have hbx : X3.heap[pk]? = some (.cells #[(.slice (some ⟨hg2, 0, none⟩) N2 kp2), (.slice oN1 N1 cN1)] 35 (0, 0)) := (hfx.block pk hpk (fun hm => box_apart (by decide) HQY3.out.rm HQY3.out.box (Option.mem_toList.1 hm))).trans HQY3.out.box
        obtain ⟨oN3, cN3, hvX, _⟩ := own_slice hown
        obtain ⟨N3, hN3⟩ : ∃ N, N = ms1.length + 1 := ⟨_, rfl⟩
        rw [← hN3] at hvX
        have HN3 := hide hN3
        subst hvX
        clear hN3
        clear q0 q1 q2 q3 hpk
        have s0 : X3.cell? ⟨pk, 1, none⟩ = some (.slice oN1 N1 cN1) := cell_of hbx 1
        have s1 : X3.frozen? ⟨pk, 1, none⟩ = false := free_of hbx 1
        obtain ⟨hq1, hf1, hs1⟩ := HQY3.out.pushM hfx hown hat
        have HY4 : Hid (Fr (fk pk (.slice ol us.length cl) (.slice om ms.length cm)) C3 (X3.setCell ⟨pk, 1, none⟩ (.slice oN3 N3 cN3))) := HY3.out.trans hf1 HT3.out
        have HT4 : Hid (∀ b ∈ fk pk (.slice (some ⟨hg2, 0, none⟩) N2 kp2) (.slice oN3 N3 cN3), b ∈ fk pk (.slice ol us.length cl) (.slice om ms.length cm) ∨ C3.heap.size ≤ b) := fun b hb' => by
          rcases hs1 b hb' with h | h
          · exact HT3.out b h
          · exact Or.inr (Nat.le_trans HY3.out.size h)
        obtain ⟨ms2, hms2⟩ : ∃ l, l = ms1 ++ [m] := ⟨_, rfl⟩
        rw [← hms2] at hq1
        have HQY4 := hide hq1
        have HEms2 := hide hms2
        have HLms2 : Hid (ms2.length = ms1.length + 1) := by show _ = _; rw [hms2, List.length_append]; rfl
        clear hms2 hown hat hfx hbx hq1 hf1 hs1 HRW HNEW HQY3 HY3 HT3
        obtain ⟨Z2, hZ2⟩ : ∃ X, X = (X3.setCell ⟨pk, 1, none⟩ (.slice oN3 N3 cN3)) := ⟨_, rfl⟩
        rw [← hZ2] at HQY4 HY4
        have HX := hide hZ2
        clear hZ2
        go_wp2_with fail
        rw [← HX.out]
        clear s0 s1 HX
        have q0 : Z2.cell? ⟨pk, 0, none⟩ = some (.slice (some ⟨hg2, 0, none⟩) N2 kp2) := cell_of HQY4.out.box 0
        have q1 : Z2.frozen? ⟨pk, 0, none⟩ = false := free_of HQY4.out.box 0
        have q2 : Z2.cell? ⟨pk, 1, none⟩ = some (.slice oN3 N3 cN3) := cell_of HQY4.out.box 1
        have q3 : Z2.frozen? ⟨pk, 1, none⟩ = false := free_of HQY4.out.box 1
        have hpk : pk < Z2.heap.size := (Array.getElem?_eq_some_iff.1 HQY4.out.box).1
        have HRW := hide (HQY4.out.rl.alloc (.cells #[.slice (some ⟨gg2, 0, none⟩) k cc2] 25))
        have HNEW : Hid (∀ j u, [.slice (some ⟨gg2, 0, none⟩) k cc2][j]? = some u → (World.alloc Z2 (.cells #[.slice (some ⟨gg2, 0, none⟩) k cc2] 25)).cell? ((⟨Z2.heap.size, 0, none⟩ : Addr).add j) = some u) := by have h1 := cell_one_new Z2 (.slice (some ⟨gg2, 0, none⟩) k cc2) 25;  exact h1
        go_region_law ((refine step_append_lies _ (by rfl) _ _ _ (by rfl) 0 25 j0 _ 1 24 Tryd.underlying33 hj hy0 hy1 hy2 rfl (by omega) (.slice (some ⟨hg2, 0, none⟩) N2 kp2) us2.length _ (by rfl) (HRW.out.drew) ⟨Z2.heap.size, 0, none⟩ 1 1 [.slice (some ⟨gg2, 0, none⟩) k cc2] (by rfl) (by rfl) (World.news_of_block (cs := #[.slice (some ⟨gg2, 0, none⟩) k cc2]) (t := 25) (fr := (0, 0)) (heap_alloc_new Z2 _)) (by simp [Value.oneCell']) (by omega) (by have := HU0.out; have := HLus1.out; have := HLus2.out; unfold maxLen; omega) (by have := HU0.out; have := HLus1.out; have := HLus2.out; omega) (Nat.zero_le _) (Z2.heap.size + 1) (by simp) ?_; intro hg4 kp4 X4 hown hgrow hw hlt2; have hfx : Fr (Value.ownBlock (.slice (some ⟨hg2, 0, none⟩) N2 kp2)).toList Z2 X4 := (((Fr.refl _ _).alloc _).drew).trans (fr_grown' hgrow) (fun i hi => Or.inl hi); have hbx : X4.heap[pk]? = some (.cells #[(.slice (some ⟨hg2, 0, none⟩) N2 kp2), (.slice oN3 N3 cN3)] 35 (0, 0)) := (hfx.block pk hpk (fun hm => box_apart (by decide) HQY4.out.rl HQY4.out.box (Option.mem_toList.1 hm))).trans HQY4.out.box; have s0 : X4.cell? ⟨pk, 0, none⟩ = some (.slice (some ⟨hg2, 0, none⟩) N2 kp2) := cell_of hbx 0; have s1 : X4.frozen? ⟨pk, 0, none⟩ = false := free_of hbx 0))
        all_goals
          obtain ⟨N4, hN4⟩ : ∃ N, N = us2.length + 1 := ⟨_, rfl⟩
          have hat : ∀ b, (Value.slice (some ⟨hg4, 0, none⟩) N4 kp4).ownBlock = some b → Value.ownBlock (.slice (some ⟨hg2, 0, none⟩) N2 kp2) = some b ∨ (World.heap Z2).size ≤ b := fun b hb' => by
            cases hb'
            rcases hw with h | h
            · exact Or.inl h
            · exact Or.inr (show Z2.heap.size ≤ hg4 by omega)
          have hown : X4.ownsRow 0 25 1 (.slice (some ⟨hg4, 0, none⟩) N4 kp4) (us2.length + 1) (us2 ++ [.slice (some ⟨gg2, 0, none⟩) k cc2]) := by rw [hN4]; exact hown
          rw [← hN4]
          have HN4 := hide hN4
          clear hN4 hw hgrow hlt2 s0 s1
          clear q0 q1 q2 q3 hpk
          have s0 := 0
          have s1 := 0
          obtain ⟨hq1, hf1, hs1⟩ := HQY4.out.pushL hfx hown hat
          have HY5 : Hid (Fr (fk pk (.slice ol us.length cl) (.slice om ms.length cm)) C3 (X4.setCell ⟨pk, 0, none⟩ (.slice (some ⟨hg4, 0, none⟩) N4 kp4))) := HY4.out.trans hf1 HT4.out
          have HT5 : Hid (∀ b ∈ fk pk (.slice (some ⟨hg4, 0, none⟩) N4 kp4) (.slice oN3 N3 cN3), b ∈ fk pk (.slice ol us.length cl) (.slice om ms.length cm) ∨ C3.heap.size ≤ b) := fun b hb' => by
            rcases hs1 b hb' with h | h
            · exact HT4.out b h
            · exact Or.inr (Nat.le_trans HY4.out.size h)
          obtain ⟨us3, hus3⟩ : ∃ l, l = us2 ++ [.slice (some ⟨gg2, 0, none⟩) k cc2] := ⟨_, rfl⟩
          rw [← hus3] at hq1
          have HQY5 := hide hq1
          have HEus3 := hide hus3
          have HLus3 : Hid (us3.length = us2.length + 1) := by show _ = _; rw [hus3, List.length_append]; rfl
          clear hus3 hown hat hfx hbx hq1 hf1 hs1 HRW HNEW HQY4 HY4 HT4
          have q2 : (X4.setCell ⟨pk, 0, none⟩ (.slice (some ⟨hg4, 0, none⟩) N4 kp4)).cell? ⟨pk, 1, none⟩ = some (.slice oN3 N3 cN3) := cell_of HQY5.out.box 1
          have q3 : (X4.setCell ⟨pk, 0, none⟩ (.slice (some ⟨hg4, 0, none⟩) N4 kp4)).frozen? ⟨pk, 1, none⟩ = false := free_of HQY5.out.box 1
          have q0 := 0
          have q1 := 0
          have hpk : pk < (X4.setCell ⟨pk, 0, none⟩ (.slice (some ⟨hg4, 0, none⟩) N4 kp4)).heap.size := (Array.getElem?_eq_some_iff.1 HQY5.out.box).1
          have HRW := hide (HQY5.out.rm.alloc (.cells #[B m] 5))
          have HNEW : Hid (∀ j u, [B m][j]? = some u → (World.alloc (X4.setCell ⟨pk, 0, none⟩ (.slice (some ⟨hg4, 0, none⟩) N4 kp4)) (.cells #[B m] 5)).cell? ((⟨X4.heap.size, 0, none⟩ : Addr).add j) = some u) := by have h1 := cell_one_new (X4.setCell ⟨pk, 0, none⟩ (.slice (some ⟨hg4, 0, none⟩) N4 kp4)) (B m) 5; rw [size_set] at h1; exact h1
          go_wp2_with (at_builtin; refine ak.wpList_append_keep _ rfl _ _ 25 rfl 0 5 i0 (.int .u8 0) 1 1 Tryd.underlying25 hi hz0 hz1 hz2 rfl (by decide) (.slice oN3 N3 cN3) ms2.length _ rfl HRW.out ⟨X4.heap.size, 0, none⟩ 1 [B m] rfl rfl HNEW.out ?d52 ?d53 ?d54 ?d55 ?_)
          clear s0 s1
          case d52 => intro u hu; simp at hu; rw [hu]; rfl
          case d53 => have := HM0.out; have := HLms1.out; have := HLms2.out; unfold maxLen; omega
          case d54 => have := HM0.out; have := HLms1.out; have := HLms2.out; omega
          case d55 => exact Nat.zero_le _
          intro v' X5 hown hw
          have hgrow : (World.alloc (X4.setCell ⟨pk, 0, none⟩ (.slice (some ⟨hg4, 0, none⟩) N4 kp4)) (.cells #[B m] 5)).grownBy X5 (Value.ownBlock (.slice oN3 N3 cN3)) := by
            rcases hw with ⟨g, cap, e1, _, hg⟩ | ⟨_, hg⟩
            · first | (rw [e1.1]; exact hg) | (rw [e1]; exact hg)
            · exact ⟨hg.os, hg.tape, hg.output, hg.size, fun k hk _ => hg.block k hk (by simp)⟩
          have hat : ∀ b, v'.ownBlock = some b → Value.ownBlock (.slice oN3 N3 cN3) = some b ∨ (World.heap (X4.setCell ⟨pk, 0, none⟩ (.slice (some ⟨hg4, 0, none⟩) N4 kp4))).size ≤ b := fun b hb' => by
            rcases hw with ⟨g, cap, e1, e2, _⟩ | ⟨e1, _⟩
            · rw [e2] at hb'; first | (rw [e1.1]; exact Or.inl hb') | (rw [e1]; exact Or.inl hb')
            · rw [e1] at hb'; cases hb'; exact Or.inr (by simp)
          have hfx : Fr (Value.ownBlock (.slice oN3 N3 cN3)).toList (X4.setCell ⟨pk, 0, none⟩ (.slice (some ⟨hg4, 0, none⟩) N4 kp4)) X5 := ((Fr.refl _ _).alloc _).trans (fr_grown' hgrow) (fun i hi => Or.inl hi)
          clear hw hgrow
          have hbx : X5.heap[pk]? = some (.cells #[(.slice (some ⟨hg4, 0, none⟩) N4 kp4), (.slice oN3 N3 cN3)] 35 (0, 0)) := (hfx.block pk hpk (fun hm => box_apart (by decide) HQY5.out.rm HQY5.out.box (Option.mem_toList.1 hm))).trans HQY5.out.box
          obtain ⟨oN5, cN5, hvX, _⟩ := own_slice hown
          obtain ⟨N5, hN5⟩ : ∃ N, N = ms2.length + 1 := ⟨_, rfl⟩
          rw [← hN5] at hvX
          have HN5 := hide hN5
          subst hvX
          clear hN5
          clear q0 q1 q2 q3 hpk
          have s0 : X5.cell? ⟨pk, 1, none⟩ = some (.slice oN3 N3 cN3) := cell_of hbx 1
          have s1 : X5.frozen? ⟨pk, 1, none⟩ = false := free_of hbx 1
          obtain ⟨hq1, hf1, hs1⟩ := HQY5.out.pushM hfx hown hat
          have HY6 : Hid (Fr (fk pk (.slice ol us.length cl) (.slice om ms.length cm)) C3 (X5.setCell ⟨pk, 1, none⟩ (.slice oN5 N5 cN5))) := HY5.out.trans hf1 HT5.out
          have HT6 : Hid (∀ b ∈ fk pk (.slice (some ⟨hg4, 0, none⟩) N4 kp4) (.slice oN5 N5 cN5), b ∈ fk pk (.slice ol us.length cl) (.slice om ms.length cm) ∨ C3.heap.size ≤ b) := fun b hb' => by
            rcases hs1 b hb' with h | h
            · exact HT5.out b h
            · exact Or.inr (Nat.le_trans HY5.out.size h)
          obtain ⟨ms3, hms3⟩ : ∃ l, l = ms2 ++ [m] := ⟨_, rfl⟩
          rw [← hms3] at hq1
          have HQY6 := hide hq1
          have HEms3 := hide hms3
          have HLms3 : Hid (ms3.length = ms2.length + 1) := by show _ = _; rw [hms3, List.length_append]; rfl
          clear hms3 hown hat hfx hbx hq1 hf1 hs1 HRW HNEW HQY5 HY5 HT5
          obtain ⟨Z3, hZ3⟩ : ∃ X, X = (X5.setCell ⟨pk, 1, none⟩ (.slice oN5 N5 cN5)) := ⟨_, rfl⟩
          rw [← hZ3] at HQY6 HY6
          have HX := hide hZ3
          clear hZ3
          go_wp2_with fail
          rw [← HX.out]
          clear s0 s1 HX
          have q0 : Z3.cell? ⟨pk, 0, none⟩ = some (.slice (some ⟨hg4, 0, none⟩) N4 kp4) := cell_of HQY6.out.box 0
          have q1 : Z3.frozen? ⟨pk, 0, none⟩ = false := free_of HQY6.out.box 0
          have q2 : Z3.cell? ⟨pk, 1, none⟩ = some (.slice oN5 N5 cN5) := cell_of HQY6.out.box 1
          have q3 : Z3.frozen? ⟨pk, 1, none⟩ = false := free_of HQY6.out.box 1
          have hpk : pk < Z3.heap.size := (Array.getElem?_eq_some_iff.1 HQY6.out.box).1
          have HRW := hide (HQY6.out.rl.alloc (.cells #[.slice (some ⟨gg3, 0, none⟩) k cc3] 25))
          have HNEW : Hid (∀ j u, [.slice (some ⟨gg3, 0, none⟩) k cc3][j]? = some u → (World.alloc Z3 (.cells #[.slice (some ⟨gg3, 0, none⟩) k cc3] 25)).cell? ((⟨Z3.heap.size, 0, none⟩ : Addr).add j) = some u) := by have h1 := cell_one_new Z3 (.slice (some ⟨gg3, 0, none⟩) k cc3) 25;  exact h1
          go_region_law ((refine step_append_lies _ (by rfl) _ _ _ (by rfl) 0 25 j0 _ 1 24 Tryd.underlying33 hj hy0 hy1 hy2 rfl (by omega) (.slice (some ⟨hg4, 0, none⟩) N4 kp4) us3.length _ (by rfl) (HRW.out.drew) ⟨Z3.heap.size, 0, none⟩ 1 1 [.slice (some ⟨gg3, 0, none⟩) k cc3] (by rfl) (by rfl) (World.news_of_block (cs := #[.slice (some ⟨gg3, 0, none⟩) k cc3]) (t := 25) (fr := (0, 0)) (heap_alloc_new Z3 _)) (by simp [Value.oneCell']) (by omega) (by have := HU0.out; have := HLus1.out; have := HLus2.out; have := HLus3.out; unfold maxLen; omega) (by have := HU0.out; have := HLus1.out; have := HLus2.out; have := HLus3.out; omega) (Nat.zero_le _) (Z3.heap.size + 1) (by simp) ?_; intro hg6 kp6 X6 hown hgrow hw hlt2; have hfx : Fr (Value.ownBlock (.slice (some ⟨hg4, 0, none⟩) N4 kp4)).toList Z3 X6 := (((Fr.refl _ _).alloc _).drew).trans (fr_grown' hgrow) (fun i hi => Or.inl hi); have hbx : X6.heap[pk]? = some (.cells #[(.slice (some ⟨hg4, 0, none⟩) N4 kp4), (.slice oN5 N5 cN5)] 35 (0, 0)) := (hfx.block pk hpk (fun hm => box_apart (by decide) HQY6.out.rl HQY6.out.box (Option.mem_toList.1 hm))).trans HQY6.out.box; have s0 : X6.cell? ⟨pk, 0, none⟩ = some (.slice (some ⟨hg4, 0, none⟩) N4 kp4) := cell_of hbx 0; have s1 : X6.frozen? ⟨pk, 0, none⟩ = false := free_of hbx 0))
          all_goals
            obtain ⟨N6, hN6⟩ : ∃ N, N = us3.length + 1 := ⟨_, rfl⟩
            have hat : ∀ b, (Value.slice (some ⟨hg6, 0, none⟩) N6 kp6).ownBlock = some b → Value.ownBlock (.slice (some ⟨hg4, 0, none⟩) N4 kp4) = some b ∨ (World.heap Z3).size ≤ b := fun b hb' => by
              cases hb'
              rcases hw with h | h
              · exact Or.inl h
              · exact Or.inr (show Z3.heap.size ≤ hg6 by omega)
            have hown : X6.ownsRow 0 25 1 (.slice (some ⟨hg6, 0, none⟩) N6 kp6) (us3.length + 1) (us3 ++ [.slice (some ⟨gg3, 0, none⟩) k cc3]) := by rw [hN6]; exact hown
            rw [← hN6]
            have HN6 := hide hN6
            clear hN6 hw hgrow hlt2 s0 s1
            clear q0 q1 q2 q3 hpk
            have s0 := 0
            have s1 := 0
            obtain ⟨hq1, hf1, hs1⟩ := HQY6.out.pushL hfx hown hat
            have HY7 : Hid (Fr (fk pk (.slice ol us.length cl) (.slice om ms.length cm)) C3 (X6.setCell ⟨pk, 0, none⟩ (.slice (some ⟨hg6, 0, none⟩) N6 kp6))) := HY6.out.trans hf1 HT6.out
            have HT7 : Hid (∀ b ∈ fk pk (.slice (some ⟨hg6, 0, none⟩) N6 kp6) (.slice oN5 N5 cN5), b ∈ fk pk (.slice ol us.length cl) (.slice om ms.length cm) ∨ C3.heap.size ≤ b) := fun b hb' => by
              rcases hs1 b hb' with h | h
              · exact HT6.out b h
              · exact Or.inr (Nat.le_trans HY6.out.size h)
            obtain ⟨us4, hus4⟩ : ∃ l, l = us3 ++ [.slice (some ⟨gg3, 0, none⟩) k cc3] := ⟨_, rfl⟩
            rw [← hus4] at hq1
            have HQY7 := hide hq1
            have HEus4 := hide hus4
            have HLus4 : Hid (us4.length = us3.length + 1) := by show _ = _; rw [hus4, List.length_append]; rfl
            clear hus4 hown hat hfx hbx hq1 hf1 hs1 HRW HNEW HQY6 HY6 HT6
            have q2 : (X6.setCell ⟨pk, 0, none⟩ (.slice (some ⟨hg6, 0, none⟩) N6 kp6)).cell? ⟨pk, 1, none⟩ = some (.slice oN5 N5 cN5) := cell_of HQY7.out.box 1
            have q3 : (X6.setCell ⟨pk, 0, none⟩ (.slice (some ⟨hg6, 0, none⟩) N6 kp6)).frozen? ⟨pk, 1, none⟩ = false := free_of HQY7.out.box 1
            have q0 := 0
            have q1 := 0
            have hpk : pk < (X6.setCell ⟨pk, 0, none⟩ (.slice (some ⟨hg6, 0, none⟩) N6 kp6)).heap.size := (Array.getElem?_eq_some_iff.1 HQY7.out.box).1
            have HRW := hide (HQY7.out.rm.alloc (.cells #[B m] 5))
            have HNEW : Hid (∀ j u, [B m][j]? = some u → (World.alloc (X6.setCell ⟨pk, 0, none⟩ (.slice (some ⟨hg6, 0, none⟩) N6 kp6)) (.cells #[B m] 5)).cell? ((⟨X6.heap.size, 0, none⟩ : Addr).add j) = some u) := by have h1 := cell_one_new (X6.setCell ⟨pk, 0, none⟩ (.slice (some ⟨hg6, 0, none⟩) N6 kp6)) (B m) 5; rw [size_set] at h1; exact h1
            go_wp2_with (at_builtin; refine ak.wpList_append_keep _ rfl _ _ 25 rfl 0 5 i0 (.int .u8 0) 1 1 Tryd.underlying25 hi hz0 hz1 hz2 rfl (by decide) (.slice oN5 N5 cN5) ms3.length _ rfl HRW.out ⟨X6.heap.size, 0, none⟩ 1 [B m] rfl rfl HNEW.out ?d72 ?d73 ?d74 ?d75 ?_)
            clear s0 s1
            case d72 => intro u hu; simp at hu; rw [hu]; rfl
            case d73 => have := HM0.out; have := HLms1.out; have := HLms2.out; have := HLms3.out; unfold maxLen; omega
            case d74 => have := HM0.out; have := HLms1.out; have := HLms2.out; have := HLms3.out; omega
            case d75 => exact Nat.zero_le _
            intro v' X7 hown hw
            have hgrow : (World.alloc (X6.setCell ⟨pk, 0, none⟩ (.slice (some ⟨hg6, 0, none⟩) N6 kp6)) (.cells #[B m] 5)).grownBy X7 (Value.ownBlock (.slice oN5 N5 cN5)) := by
              rcases hw with ⟨g, cap, e1, _, hg⟩ | ⟨_, hg⟩
              · first | (rw [e1.1]; exact hg) | (rw [e1]; exact hg)
              · exact ⟨hg.os, hg.tape, hg.output, hg.size, fun k hk _ => hg.block k hk (by simp)⟩
            have hat : ∀ b, v'.ownBlock = some b → Value.ownBlock (.slice oN5 N5 cN5) = some b ∨ (World.heap (X6.setCell ⟨pk, 0, none⟩ (.slice (some ⟨hg6, 0, none⟩) N6 kp6))).size ≤ b := fun b hb' => by
              rcases hw with ⟨g, cap, e1, e2, _⟩ | ⟨e1, _⟩
              · rw [e2] at hb'; first | (rw [e1.1]; exact Or.inl hb') | (rw [e1]; exact Or.inl hb')
              · rw [e1] at hb'; cases hb'; exact Or.inr (by simp)
            have hfx : Fr (Value.ownBlock (.slice oN5 N5 cN5)).toList (X6.setCell ⟨pk, 0, none⟩ (.slice (some ⟨hg6, 0, none⟩) N6 kp6)) X7 := ((Fr.refl _ _).alloc _).trans (fr_grown' hgrow) (fun i hi => Or.inl hi)
            clear hw hgrow
            have hbx : X7.heap[pk]? = some (.cells #[(.slice (some ⟨hg6, 0, none⟩) N6 kp6), (.slice oN5 N5 cN5)] 35 (0, 0)) := (hfx.block pk hpk (fun hm => box_apart (by decide) HQY7.out.rm HQY7.out.box (Option.mem_toList.1 hm))).trans HQY7.out.box
            obtain ⟨oN7, cN7, hvX, _⟩ := own_slice hown
            obtain ⟨N7, hN7⟩ : ∃ N, N = ms3.length + 1 := ⟨_, rfl⟩
            rw [← hN7] at hvX
            have HN7 := hide hN7
            subst hvX
            clear hN7
            clear q0 q1 q2 q3 hpk
            have s0 : X7.cell? ⟨pk, 1, none⟩ = some (.slice oN5 N5 cN5) := cell_of hbx 1
            have s1 : X7.frozen? ⟨pk, 1, none⟩ = false := free_of hbx 1
            obtain ⟨hq1, hf1, hs1⟩ := HQY7.out.pushM hfx hown hat
            have HY8 : Hid (Fr (fk pk (.slice ol us.length cl) (.slice om ms.length cm)) C3 (X7.setCell ⟨pk, 1, none⟩ (.slice oN7 N7 cN7))) := HY7.out.trans hf1 HT7.out
            have HT8 : Hid (∀ b ∈ fk pk (.slice (some ⟨hg6, 0, none⟩) N6 kp6) (.slice oN7 N7 cN7), b ∈ fk pk (.slice ol us.length cl) (.slice om ms.length cm) ∨ C3.heap.size ≤ b) := fun b hb' => by
              rcases hs1 b hb' with h | h
              · exact HT7.out b h
              · exact Or.inr (Nat.le_trans HY7.out.size h)
            obtain ⟨ms4, hms4⟩ : ∃ l, l = ms3 ++ [m] := ⟨_, rfl⟩
            rw [← hms4] at hq1
            have HQY8 := hide hq1
            have HEms4 := hide hms4
            have HLms4 : Hid (ms4.length = ms3.length + 1) := by show _ = _; rw [hms4, List.length_append]; rfl
            clear hms4 hown hat hfx hbx hq1 hf1 hs1 HRW HNEW HQY7 HY7 HT7
            obtain ⟨Z4, hZ4⟩ : ∃ X, X = (X7.setCell ⟨pk, 1, none⟩ (.slice oN7 N7 cN7)) := ⟨_, rfl⟩
            rw [← hZ4] at HQY8 HY8
            have HX := hide hZ4
            clear hZ4
            go_wp2_with fail
            rw [← HX.out]
            clear s0 s1 HX
            have q0 : Z4.cell? ⟨pk, 0, none⟩ = some (.slice (some ⟨hg6, 0, none⟩) N6 kp6) := cell_of HQY8.out.box 0
            have q1 : Z4.frozen? ⟨pk, 0, none⟩ = false := free_of HQY8.out.box 0
            have q2 : Z4.cell? ⟨pk, 1, none⟩ = some (.slice oN7 N7 cN7) := cell_of HQY8.out.box 1
            have q3 : Z4.frozen? ⟨pk, 1, none⟩ = false := free_of HQY8.out.box 1
            have hpk : pk < Z4.heap.size := (Array.getElem?_eq_some_iff.1 HQY8.out.box).1
            first | go_end0 | refine bodyPost_end (results_none rfl _ _ _) rfl ?_
            refine ⟨rfl, ?_⟩
            have hFr := HFr3.out
            rw [HBV.out] at hFr
            rw [← HVV.out]
            exact keep_fin (L := L) (k := k) (m := m) HK.out HFF.out HBS.out hFr (by rw [HVV.out]; exact HW3.out) (fun g hg => (HV.out.lt g hg).2) HLE.out hnl (by rw [HVV.out]; exact HG1.out) (by rw [HVV.out]; exact HG2.out) (by rw [HVV.out]; exact HG3.out) HY8.out HT8.out (by rw [HEus4.out, HEus3.out, HEus2.out, HEus1.out, HUS.out, HVV.out]) (by rw [HEms4.out, HEms3.out, HEms2.out, HEms1.out, HMS.out]) HQY8.out
end Go.Proofs.YtkamnkldgeaaaaaDoor.da
