import Derived.Test.YtiplhmamcghehaaGreatDoorRcRdM
import Derived.Test.YtiplhmamcghehaaGreatDoorRcEnc
import Derived.Laws.Shifts
namespace Go.Proofs.YtiplhmamcghehaaGreatDoor.rc
open Go.Proofs.YtiplhmamcghehaaGreatDoor.common

theorem step_seq {α β : Type} {e1 : α → List UInt8} {e2 : β → List UInt8} {o1 : α → Prop} {o2 : β → Prop} {s s1 s2 : St} {x : α} {y : β} (h1 : Step e1 o1 s x s1) (h2 : Step e2 o2 s1 y s2) :
    Step (fun z : α × β => e1 z.1 ++ e2 z.2) (fun z => o1 z.1 ∧ o2 z.2) s (x, y) s2 := by
  refine ⟨?_, fun z l hz e => ?_⟩
  · rcases h2.back with h | ⟨t, a1, a2⟩
    · exact Or.inl h
    · rcases h1.back with h | ⟨t', b1, b2⟩
      · rw [h] at a1; cases a1
      · rw [b2] at a1
        cases a1
        exact Or.inr ⟨t, by rw [b1]; simp, a2⟩
  · obtain ⟨a, b⟩ := z
    simp only [List.append_assoc] at e
    obtain ⟨c1, c2⟩ := h1.on a _ hz.1 e
    obtain ⟨d1, d2⟩ := h2.on b l hz.2 c2
    exact ⟨by rw [c1, d1], d2⟩
/-- what a reading of l says: r, and what is left -/
structure Fin (l : List UInt8) (r : Rec) (s : St) : Prop where
  back : isK r.k = true → s = none ∨ ∃ t, s = some t ∧ l = recL r ++ t
  on : ∀ y : Rec, mayB y = true → y.Low → l = recL y → r = y ∧ s = some []
theorem low_lt {s : ByteArray} (h : s.size ≤ 1048576) : s.size < 9223372036854775808 := by omega
theorem emp_of {s : ByteArray} (h : s.size = 0) : s = ⟨#[]⟩ := by
  obtain ⟨a⟩ := s
  have : a.size = 0 := h
  rw [Array.eq_empty_of_size_eq_zero this]
theorem kind_of {y : Rec} {b : UInt8} {r : List UInt8} (hm : mayB y = true) (h : b :: r = recL y) : y.k = ((b.toNat : Nat) : Int) ∧ 0 < y.k ∧ y.k < 12 := by
  unfold mayB isK at hm
  simp only [Bool.and_eq_true, decide_eq_true_eq] at hm
  obtain ⟨⟨k0, k1⟩, _⟩ := hm
  unfold recL at h
  have hb : b = UInt8.ofNat y.k.toNat := by
    have := (List.cons.inj h).1
    exact this
  have : (UInt8.ofNat y.k.toNat).toNat = y.k.toNat := by rw [UInt8.toNat_ofNat']; omega
  rw [hb, this]
  exact ⟨by omega, k0, k1⟩
theorem fin_none {y : Rec} (hk : ([] : List UInt8) = recL y) : False := by
  unfold recL at hk
  cases hk
theorem fin_1 {b : UInt8} {r : List UInt8} (hb : b.toNat = 1) {y_id : ByteArray} {s1 : St} (h1 : TStep (some r) y_id s1) {y_us : ByteArray} {s2 : St} (h2 : TStep s1 y_us s2) {y_at : Nat} {s3 : St} (h3 : NStep s2 y_at s3) : Fin (b :: r) ⟨1, y_id, y_us, ⟨#[]⟩, ⟨#[]⟩, ⟨#[]⟩, ⟨#[]⟩, [], ((y_at : Nat) : Int)⟩ s3 := by
  have hS := (step_seq (step_seq h1 h2) h3)
  have hnm : nm (1 : Int) 1 = true := by decide
  refine ⟨fun _ => ?_, fun y hm hl e => ?_⟩
  · rcases hS.back with h | ⟨t, a1, a2⟩
    · exact Or.inl h
    · refine Or.inr ⟨t, a2, ?_⟩
      cases a1
      have hbb : b = UInt8.ofNat 1 := by rw [← hb]; exact (u8_of b _ rfl).symm
      unfold recL idL midL endL
      simp [hnm, hbb]
  · obtain ⟨hk, k0, k1⟩ := kind_of hm e
    rw [hb] at hk
    have hk : y.k = 1 := hk
    have hF := (fine_of hm hl).2.2
    have e2 : some r = some ((fun z => ((txL ((z).1).1) ++ txL ((z).1).2) ++ numL (z).2) ((y.id, y.us), y.at_.toNat) ++ []) := by
      unfold recL idL midL endL at e
      rw [hk, hnm] at e
      have := (List.cons.inj e).2
      rw [this]
      simp
    obtain ⟨c1, c2⟩ := hS.on ((y.id, y.us), y.at_.toNat) [] ⟨⟨(low_lt hl.id), (low_lt hl.us)⟩, (by have := hF.at1; omega)⟩ e2
    refine ⟨?_, c2⟩
    simp only [Prod.mk.injEq] at c1
    obtain ⟨⟨c_id, c_us⟩, c_at⟩ := c1
    unfold mayB t_id t_us t_cl t_rd t_ch t_cd fitS fitL fitT at hm
    rw [hk] at hm
    have n_id : nm (1 : Int) 1 = true := by decide
    have n_us : nm (1 : Int) 2 = true := by decide
    have n_cl : nm (1 : Int) 4 = false := by decide
    have n_rd : nm (1 : Int) 8 = false := by decide
    have n_ch : nm (1 : Int) 16 = false := by decide
    have n_cd : nm (1 : Int) 32 = false := by decide
    have n_ss : nm (1 : Int) 64 = false := by decide
    have n_at : nm (1 : Int) 128 = true := by decide
    rw [n_id, n_us, n_cl, n_rd, n_ch, n_cd, n_ss, n_at] at hm
    simp only [Bool.and_eq_true, Bool.false_eq_true, if_false, if_true, decide_eq_true_eq] at hm
    obtain ⟨_, m_id, m_us, m_cl, m_rd, m_ch, m_cd, m_ss, m_at⟩ := hm
    obtain ⟨yk, yid, yus, ycl, yrd, ych, ycd, yss, yat⟩ := y
    simp only at hk c_id c_us c_at m_id m_us m_cl m_rd m_ch m_cd m_ss m_at
    have := hF.at0
    simp only at this
    rw [Rec.mk.injEq]
    exact ⟨hk.symm, c_id, c_us, (emp_of m_cl).symm, (emp_of m_rd).symm, (emp_of m_ch).symm, (emp_of m_cd).symm, (List.eq_nil_of_length_eq_zero m_ss).symm, by omega⟩
theorem fin_2 {b : UInt8} {r : List UInt8} (hb : b.toNat = 2) {y_id : ByteArray} {s1 : St} (h1 : TStep (some r) y_id s1) : Fin (b :: r) ⟨2, y_id, ⟨#[]⟩, ⟨#[]⟩, ⟨#[]⟩, ⟨#[]⟩, ⟨#[]⟩, [], 0⟩ s1 := by
  have hS := h1
  have hnm : nm (2 : Int) 1 = true := by decide
  refine ⟨fun _ => ?_, fun y hm hl e => ?_⟩
  · rcases hS.back with h | ⟨t, a1, a2⟩
    · exact Or.inl h
    · refine Or.inr ⟨t, a2, ?_⟩
      cases a1
      have hbb : b = UInt8.ofNat 2 := by rw [← hb]; exact (u8_of b _ rfl).symm
      unfold recL idL midL endL
      simp [hnm, hbb]
  · obtain ⟨hk, k0, k1⟩ := kind_of hm e
    rw [hb] at hk
    have hk : y.k = 2 := hk
    have hF := (fine_of hm hl).2.2
    have e2 : some r = some ((fun z => txL z) y.id ++ []) := by
      unfold recL idL midL endL at e
      rw [hk, hnm] at e
      have := (List.cons.inj e).2
      rw [this]
      simp
    obtain ⟨c1, c2⟩ := hS.on y.id [] (low_lt hl.id) e2
    refine ⟨?_, c2⟩
    have c_id := c1
    unfold mayB t_id t_us t_cl t_rd t_ch t_cd fitS fitL fitT at hm
    rw [hk] at hm
    have n_id : nm (2 : Int) 1 = true := by decide
    have n_us : nm (2 : Int) 2 = false := by decide
    have n_cl : nm (2 : Int) 4 = false := by decide
    have n_rd : nm (2 : Int) 8 = false := by decide
    have n_ch : nm (2 : Int) 16 = false := by decide
    have n_cd : nm (2 : Int) 32 = false := by decide
    have n_ss : nm (2 : Int) 64 = false := by decide
    have n_at : nm (2 : Int) 128 = false := by decide
    rw [n_id, n_us, n_cl, n_rd, n_ch, n_cd, n_ss, n_at] at hm
    simp only [Bool.and_eq_true, Bool.false_eq_true, if_false, if_true, decide_eq_true_eq] at hm
    obtain ⟨_, m_id, m_us, m_cl, m_rd, m_ch, m_cd, m_ss, m_at⟩ := hm
    obtain ⟨yk, yid, yus, ycl, yrd, ych, ycd, yss, yat⟩ := y
    simp only at hk c_id m_id m_us m_cl m_rd m_ch m_cd m_ss m_at
    have := hF.at0
    simp only at this
    rw [Rec.mk.injEq]
    exact ⟨hk.symm, c_id, (emp_of m_us).symm, (emp_of m_cl).symm, (emp_of m_rd).symm, (emp_of m_ch).symm, (emp_of m_cd).symm, (List.eq_nil_of_length_eq_zero m_ss).symm, m_at.symm⟩
theorem fin_3 {b : UInt8} {r : List UInt8} (hb : b.toNat = 3) {y_cl : ByteArray} {s1 : St} (h1 : TStep (some r) y_cl s1) {y_ss : List ByteArray} {s2 : St} (h2 : LStep s1 y_ss s2) {y_us : ByteArray} {s3 : St} (h3 : TStep s2 y_us s3) {y_at : Nat} {s4 : St} (h4 : NStep s3 y_at s4) : Fin (b :: r) ⟨3, ⟨#[]⟩, y_us, y_cl, ⟨#[]⟩, ⟨#[]⟩, ⟨#[]⟩, y_ss, ((y_at : Nat) : Int)⟩ s4 := by
  have hS := (step_seq (step_seq (step_seq h1 h2) h3) h4)
  have hnm : nm (3 : Int) 1 = false := by decide
  refine ⟨fun _ => ?_, fun y hm hl e => ?_⟩
  · rcases hS.back with h | ⟨t, a1, a2⟩
    · exact Or.inl h
    · refine Or.inr ⟨t, a2, ?_⟩
      cases a1
      have hbb : b = UInt8.ofNat 3 := by rw [← hb]; exact (u8_of b _ rfl).symm
      unfold recL idL midL endL
      simp [hnm, hbb]
  · obtain ⟨hk, k0, k1⟩ := kind_of hm e
    rw [hb] at hk
    have hk : y.k = 3 := hk
    have hF := (fine_of hm hl).2.2
    have e2 : some r = some ((fun z => (((txL (((z).1).1).1) ++ lsL (((z).1).1).2) ++ txL ((z).1).2) ++ numL (z).2) (((y.cl, y.ss), y.us), y.at_.toNat) ++ []) := by
      unfold recL idL midL endL at e
      rw [hk, hnm] at e
      have := (List.cons.inj e).2
      rw [this]
      simp
    obtain ⟨c1, c2⟩ := hS.on (((y.cl, y.ss), y.us), y.at_.toNat) [] ⟨⟨⟨(low_lt hl.cl), ⟨hF.len, fun s hs => low_lt (hl.ss s hs)⟩⟩, (low_lt hl.us)⟩, (by have := hF.at1; omega)⟩ e2
    refine ⟨?_, c2⟩
    simp only [Prod.mk.injEq] at c1
    obtain ⟨⟨⟨c_cl, c_ss⟩, c_us⟩, c_at⟩ := c1
    unfold mayB t_id t_us t_cl t_rd t_ch t_cd fitS fitL fitT at hm
    rw [hk] at hm
    have n_id : nm (3 : Int) 1 = false := by decide
    have n_us : nm (3 : Int) 2 = true := by decide
    have n_cl : nm (3 : Int) 4 = true := by decide
    have n_rd : nm (3 : Int) 8 = false := by decide
    have n_ch : nm (3 : Int) 16 = false := by decide
    have n_cd : nm (3 : Int) 32 = false := by decide
    have n_ss : nm (3 : Int) 64 = true := by decide
    have n_at : nm (3 : Int) 128 = true := by decide
    rw [n_id, n_us, n_cl, n_rd, n_ch, n_cd, n_ss, n_at] at hm
    simp only [Bool.and_eq_true, Bool.false_eq_true, if_false, if_true, decide_eq_true_eq] at hm
    obtain ⟨_, m_id, m_us, m_cl, m_rd, m_ch, m_cd, m_ss, m_at⟩ := hm
    obtain ⟨yk, yid, yus, ycl, yrd, ych, ycd, yss, yat⟩ := y
    simp only at hk c_cl c_ss c_us c_at m_id m_us m_cl m_rd m_ch m_cd m_ss m_at
    have := hF.at0
    simp only at this
    rw [Rec.mk.injEq]
    exact ⟨hk.symm, (emp_of m_id).symm, c_us, c_cl, (emp_of m_rd).symm, (emp_of m_ch).symm, (emp_of m_cd).symm, c_ss, by omega⟩
theorem fin_4 {b : UInt8} {r : List UInt8} (hb : b.toNat = 4) {y_id : ByteArray} {s1 : St} (h1 : TStep (some r) y_id s1) {y_rd : ByteArray} {s2 : St} (h2 : TStep s1 y_rd s2) {y_ch : ByteArray} {s3 : St} (h3 : TStep s2 y_ch s3) {y_cl : ByteArray} {s4 : St} (h4 : TStep s3 y_cl s4) {y_ss : List ByteArray} {s5 : St} (h5 : LStep s4 y_ss s5) {y_us : ByteArray} {s6 : St} (h6 : TStep s5 y_us s6) {y_at : Nat} {s7 : St} (h7 : NStep s6 y_at s7) : Fin (b :: r) ⟨4, y_id, y_us, y_cl, y_rd, y_ch, ⟨#[]⟩, y_ss, ((y_at : Nat) : Int)⟩ s7 := by
  have hS := (step_seq (step_seq (step_seq (step_seq (step_seq (step_seq h1 h2) h3) h4) h5) h6) h7)
  have hnm : nm (4 : Int) 1 = true := by decide
  refine ⟨fun _ => ?_, fun y hm hl e => ?_⟩
  · rcases hS.back with h | ⟨t, a1, a2⟩
    · exact Or.inl h
    · refine Or.inr ⟨t, a2, ?_⟩
      cases a1
      have hbb : b = UInt8.ofNat 4 := by rw [← hb]; exact (u8_of b _ rfl).symm
      unfold recL idL midL endL
      simp [hnm, hbb]
  · obtain ⟨hk, k0, k1⟩ := kind_of hm e
    rw [hb] at hk
    have hk : y.k = 4 := hk
    have hF := (fine_of hm hl).2.2
    have e2 : some r = some ((fun z => ((((((txL ((((((z).1).1).1).1).1).1) ++ txL ((((((z).1).1).1).1).1).2) ++ txL (((((z).1).1).1).1).2) ++ txL ((((z).1).1).1).2) ++ lsL (((z).1).1).2) ++ txL ((z).1).2) ++ numL (z).2) ((((((y.id, y.rd), y.ch), y.cl), y.ss), y.us), y.at_.toNat) ++ []) := by
      unfold recL idL midL endL at e
      rw [hk, hnm] at e
      have := (List.cons.inj e).2
      rw [this]
      simp
    obtain ⟨c1, c2⟩ := hS.on ((((((y.id, y.rd), y.ch), y.cl), y.ss), y.us), y.at_.toNat) [] ⟨⟨⟨⟨⟨⟨(low_lt hl.id), (low_lt hl.rd)⟩, (low_lt hl.ch)⟩, (low_lt hl.cl)⟩, ⟨hF.len, fun s hs => low_lt (hl.ss s hs)⟩⟩, (low_lt hl.us)⟩, (by have := hF.at1; omega)⟩ e2
    refine ⟨?_, c2⟩
    simp only [Prod.mk.injEq] at c1
    obtain ⟨⟨⟨⟨⟨⟨c_id, c_rd⟩, c_ch⟩, c_cl⟩, c_ss⟩, c_us⟩, c_at⟩ := c1
    unfold mayB t_id t_us t_cl t_rd t_ch t_cd fitS fitL fitT at hm
    rw [hk] at hm
    have n_id : nm (4 : Int) 1 = true := by decide
    have n_us : nm (4 : Int) 2 = true := by decide
    have n_cl : nm (4 : Int) 4 = true := by decide
    have n_rd : nm (4 : Int) 8 = true := by decide
    have n_ch : nm (4 : Int) 16 = true := by decide
    have n_cd : nm (4 : Int) 32 = false := by decide
    have n_ss : nm (4 : Int) 64 = true := by decide
    have n_at : nm (4 : Int) 128 = true := by decide
    rw [n_id, n_us, n_cl, n_rd, n_ch, n_cd, n_ss, n_at] at hm
    simp only [Bool.and_eq_true, Bool.false_eq_true, if_false, if_true, decide_eq_true_eq] at hm
    obtain ⟨_, m_id, m_us, m_cl, m_rd, m_ch, m_cd, m_ss, m_at⟩ := hm
    obtain ⟨yk, yid, yus, ycl, yrd, ych, ycd, yss, yat⟩ := y
    simp only at hk c_id c_rd c_ch c_cl c_ss c_us c_at m_id m_us m_cl m_rd m_ch m_cd m_ss m_at
    have := hF.at0
    simp only at this
    rw [Rec.mk.injEq]
    exact ⟨hk.symm, c_id, c_us, c_cl, c_rd, c_ch, (emp_of m_cd).symm, c_ss, by omega⟩
theorem fin_5 {b : UInt8} {r : List UInt8} (hb : b.toNat = 5) {y_id : ByteArray} {s1 : St} (h1 : TStep (some r) y_id s1) : Fin (b :: r) ⟨5, y_id, ⟨#[]⟩, ⟨#[]⟩, ⟨#[]⟩, ⟨#[]⟩, ⟨#[]⟩, [], 0⟩ s1 := by
  have hS := h1
  have hnm : nm (5 : Int) 1 = true := by decide
  refine ⟨fun _ => ?_, fun y hm hl e => ?_⟩
  · rcases hS.back with h | ⟨t, a1, a2⟩
    · exact Or.inl h
    · refine Or.inr ⟨t, a2, ?_⟩
      cases a1
      have hbb : b = UInt8.ofNat 5 := by rw [← hb]; exact (u8_of b _ rfl).symm
      unfold recL idL midL endL
      simp [hnm, hbb]
  · obtain ⟨hk, k0, k1⟩ := kind_of hm e
    rw [hb] at hk
    have hk : y.k = 5 := hk
    have hF := (fine_of hm hl).2.2
    have e2 : some r = some ((fun z => txL z) y.id ++ []) := by
      unfold recL idL midL endL at e
      rw [hk, hnm] at e
      have := (List.cons.inj e).2
      rw [this]
      simp
    obtain ⟨c1, c2⟩ := hS.on y.id [] (low_lt hl.id) e2
    refine ⟨?_, c2⟩
    have c_id := c1
    unfold mayB t_id t_us t_cl t_rd t_ch t_cd fitS fitL fitT at hm
    rw [hk] at hm
    have n_id : nm (5 : Int) 1 = true := by decide
    have n_us : nm (5 : Int) 2 = false := by decide
    have n_cl : nm (5 : Int) 4 = false := by decide
    have n_rd : nm (5 : Int) 8 = false := by decide
    have n_ch : nm (5 : Int) 16 = false := by decide
    have n_cd : nm (5 : Int) 32 = false := by decide
    have n_ss : nm (5 : Int) 64 = false := by decide
    have n_at : nm (5 : Int) 128 = false := by decide
    rw [n_id, n_us, n_cl, n_rd, n_ch, n_cd, n_ss, n_at] at hm
    simp only [Bool.and_eq_true, Bool.false_eq_true, if_false, if_true, decide_eq_true_eq] at hm
    obtain ⟨_, m_id, m_us, m_cl, m_rd, m_ch, m_cd, m_ss, m_at⟩ := hm
    obtain ⟨yk, yid, yus, ycl, yrd, ych, ycd, yss, yat⟩ := y
    simp only at hk c_id m_id m_us m_cl m_rd m_ch m_cd m_ss m_at
    have := hF.at0
    simp only at this
    rw [Rec.mk.injEq]
    exact ⟨hk.symm, c_id, (emp_of m_us).symm, (emp_of m_cl).symm, (emp_of m_rd).symm, (emp_of m_ch).symm, (emp_of m_cd).symm, (List.eq_nil_of_length_eq_zero m_ss).symm, m_at.symm⟩
theorem fin_6 {b : UInt8} {r : List UInt8} (hb : b.toNat = 6) {y_id : ByteArray} {s1 : St} (h1 : TStep (some r) y_id s1) {y_cd : ByteArray} {s2 : St} (h2 : TStep s1 y_cd s2) {y_cl : ByteArray} {s3 : St} (h3 : TStep s2 y_cl s3) {y_ss : List ByteArray} {s4 : St} (h4 : LStep s3 y_ss s4) {y_us : ByteArray} {s5 : St} (h5 : TStep s4 y_us s5) {y_at : Nat} {s6 : St} (h6 : NStep s5 y_at s6) : Fin (b :: r) ⟨6, y_id, y_us, y_cl, ⟨#[]⟩, ⟨#[]⟩, y_cd, y_ss, ((y_at : Nat) : Int)⟩ s6 := by
  have hS := (step_seq (step_seq (step_seq (step_seq (step_seq h1 h2) h3) h4) h5) h6)
  have hnm : nm (6 : Int) 1 = true := by decide
  refine ⟨fun _ => ?_, fun y hm hl e => ?_⟩
  · rcases hS.back with h | ⟨t, a1, a2⟩
    · exact Or.inl h
    · refine Or.inr ⟨t, a2, ?_⟩
      cases a1
      have hbb : b = UInt8.ofNat 6 := by rw [← hb]; exact (u8_of b _ rfl).symm
      unfold recL idL midL endL
      simp [hnm, hbb]
  · obtain ⟨hk, k0, k1⟩ := kind_of hm e
    rw [hb] at hk
    have hk : y.k = 6 := hk
    have hF := (fine_of hm hl).2.2
    have e2 : some r = some ((fun z => (((((txL (((((z).1).1).1).1).1) ++ txL (((((z).1).1).1).1).2) ++ txL ((((z).1).1).1).2) ++ lsL (((z).1).1).2) ++ txL ((z).1).2) ++ numL (z).2) (((((y.id, y.cd), y.cl), y.ss), y.us), y.at_.toNat) ++ []) := by
      unfold recL idL midL endL at e
      rw [hk, hnm] at e
      have := (List.cons.inj e).2
      rw [this]
      simp
    obtain ⟨c1, c2⟩ := hS.on (((((y.id, y.cd), y.cl), y.ss), y.us), y.at_.toNat) [] ⟨⟨⟨⟨⟨(low_lt hl.id), (low_lt hl.cd)⟩, (low_lt hl.cl)⟩, ⟨hF.len, fun s hs => low_lt (hl.ss s hs)⟩⟩, (low_lt hl.us)⟩, (by have := hF.at1; omega)⟩ e2
    refine ⟨?_, c2⟩
    simp only [Prod.mk.injEq] at c1
    obtain ⟨⟨⟨⟨⟨c_id, c_cd⟩, c_cl⟩, c_ss⟩, c_us⟩, c_at⟩ := c1
    unfold mayB t_id t_us t_cl t_rd t_ch t_cd fitS fitL fitT at hm
    rw [hk] at hm
    have n_id : nm (6 : Int) 1 = true := by decide
    have n_us : nm (6 : Int) 2 = true := by decide
    have n_cl : nm (6 : Int) 4 = true := by decide
    have n_rd : nm (6 : Int) 8 = false := by decide
    have n_ch : nm (6 : Int) 16 = false := by decide
    have n_cd : nm (6 : Int) 32 = true := by decide
    have n_ss : nm (6 : Int) 64 = true := by decide
    have n_at : nm (6 : Int) 128 = true := by decide
    rw [n_id, n_us, n_cl, n_rd, n_ch, n_cd, n_ss, n_at] at hm
    simp only [Bool.and_eq_true, Bool.false_eq_true, if_false, if_true, decide_eq_true_eq] at hm
    obtain ⟨_, m_id, m_us, m_cl, m_rd, m_ch, m_cd, m_ss, m_at⟩ := hm
    obtain ⟨yk, yid, yus, ycl, yrd, ych, ycd, yss, yat⟩ := y
    simp only at hk c_id c_cd c_cl c_ss c_us c_at m_id m_us m_cl m_rd m_ch m_cd m_ss m_at
    have := hF.at0
    simp only at this
    rw [Rec.mk.injEq]
    exact ⟨hk.symm, c_id, c_us, c_cl, (emp_of m_rd).symm, (emp_of m_ch).symm, c_cd, c_ss, by omega⟩
theorem fin_7 {b : UInt8} {r : List UInt8} (hb : b.toNat = 7) {y_id : ByteArray} {s1 : St} (h1 : TStep (some r) y_id s1) : Fin (b :: r) ⟨7, y_id, ⟨#[]⟩, ⟨#[]⟩, ⟨#[]⟩, ⟨#[]⟩, ⟨#[]⟩, [], 0⟩ s1 := by
  have hS := h1
  have hnm : nm (7 : Int) 1 = true := by decide
  refine ⟨fun _ => ?_, fun y hm hl e => ?_⟩
  · rcases hS.back with h | ⟨t, a1, a2⟩
    · exact Or.inl h
    · refine Or.inr ⟨t, a2, ?_⟩
      cases a1
      have hbb : b = UInt8.ofNat 7 := by rw [← hb]; exact (u8_of b _ rfl).symm
      unfold recL idL midL endL
      simp [hnm, hbb]
  · obtain ⟨hk, k0, k1⟩ := kind_of hm e
    rw [hb] at hk
    have hk : y.k = 7 := hk
    have hF := (fine_of hm hl).2.2
    have e2 : some r = some ((fun z => txL z) y.id ++ []) := by
      unfold recL idL midL endL at e
      rw [hk, hnm] at e
      have := (List.cons.inj e).2
      rw [this]
      simp
    obtain ⟨c1, c2⟩ := hS.on y.id [] (low_lt hl.id) e2
    refine ⟨?_, c2⟩
    have c_id := c1
    unfold mayB t_id t_us t_cl t_rd t_ch t_cd fitS fitL fitT at hm
    rw [hk] at hm
    have n_id : nm (7 : Int) 1 = true := by decide
    have n_us : nm (7 : Int) 2 = false := by decide
    have n_cl : nm (7 : Int) 4 = false := by decide
    have n_rd : nm (7 : Int) 8 = false := by decide
    have n_ch : nm (7 : Int) 16 = false := by decide
    have n_cd : nm (7 : Int) 32 = false := by decide
    have n_ss : nm (7 : Int) 64 = false := by decide
    have n_at : nm (7 : Int) 128 = false := by decide
    rw [n_id, n_us, n_cl, n_rd, n_ch, n_cd, n_ss, n_at] at hm
    simp only [Bool.and_eq_true, Bool.false_eq_true, if_false, if_true, decide_eq_true_eq] at hm
    obtain ⟨_, m_id, m_us, m_cl, m_rd, m_ch, m_cd, m_ss, m_at⟩ := hm
    obtain ⟨yk, yid, yus, ycl, yrd, ych, ycd, yss, yat⟩ := y
    simp only at hk c_id m_id m_us m_cl m_rd m_ch m_cd m_ss m_at
    have := hF.at0
    simp only at this
    rw [Rec.mk.injEq]
    exact ⟨hk.symm, c_id, (emp_of m_us).symm, (emp_of m_cl).symm, (emp_of m_rd).symm, (emp_of m_ch).symm, (emp_of m_cd).symm, (List.eq_nil_of_length_eq_zero m_ss).symm, m_at.symm⟩
theorem fin_8 {b : UInt8} {r : List UInt8} (hb : b.toNat = 8) {y_id : ByteArray} {s1 : St} (h1 : TStep (some r) y_id s1) : Fin (b :: r) ⟨8, y_id, ⟨#[]⟩, ⟨#[]⟩, ⟨#[]⟩, ⟨#[]⟩, ⟨#[]⟩, [], 0⟩ s1 := by
  have hS := h1
  have hnm : nm (8 : Int) 1 = true := by decide
  refine ⟨fun _ => ?_, fun y hm hl e => ?_⟩
  · rcases hS.back with h | ⟨t, a1, a2⟩
    · exact Or.inl h
    · refine Or.inr ⟨t, a2, ?_⟩
      cases a1
      have hbb : b = UInt8.ofNat 8 := by rw [← hb]; exact (u8_of b _ rfl).symm
      unfold recL idL midL endL
      simp [hnm, hbb]
  · obtain ⟨hk, k0, k1⟩ := kind_of hm e
    rw [hb] at hk
    have hk : y.k = 8 := hk
    have hF := (fine_of hm hl).2.2
    have e2 : some r = some ((fun z => txL z) y.id ++ []) := by
      unfold recL idL midL endL at e
      rw [hk, hnm] at e
      have := (List.cons.inj e).2
      rw [this]
      simp
    obtain ⟨c1, c2⟩ := hS.on y.id [] (low_lt hl.id) e2
    refine ⟨?_, c2⟩
    have c_id := c1
    unfold mayB t_id t_us t_cl t_rd t_ch t_cd fitS fitL fitT at hm
    rw [hk] at hm
    have n_id : nm (8 : Int) 1 = true := by decide
    have n_us : nm (8 : Int) 2 = false := by decide
    have n_cl : nm (8 : Int) 4 = false := by decide
    have n_rd : nm (8 : Int) 8 = false := by decide
    have n_ch : nm (8 : Int) 16 = false := by decide
    have n_cd : nm (8 : Int) 32 = false := by decide
    have n_ss : nm (8 : Int) 64 = false := by decide
    have n_at : nm (8 : Int) 128 = false := by decide
    rw [n_id, n_us, n_cl, n_rd, n_ch, n_cd, n_ss, n_at] at hm
    simp only [Bool.and_eq_true, Bool.false_eq_true, if_false, if_true, decide_eq_true_eq] at hm
    obtain ⟨_, m_id, m_us, m_cl, m_rd, m_ch, m_cd, m_ss, m_at⟩ := hm
    obtain ⟨yk, yid, yus, ycl, yrd, ych, ycd, yss, yat⟩ := y
    simp only at hk c_id m_id m_us m_cl m_rd m_ch m_cd m_ss m_at
    have := hF.at0
    simp only at this
    rw [Rec.mk.injEq]
    exact ⟨hk.symm, c_id, (emp_of m_us).symm, (emp_of m_cl).symm, (emp_of m_rd).symm, (emp_of m_ch).symm, (emp_of m_cd).symm, (List.eq_nil_of_length_eq_zero m_ss).symm, m_at.symm⟩
theorem fin_9 {b : UInt8} {r : List UInt8} (hb : b.toNat = 9) {y_id : ByteArray} {s1 : St} (h1 : TStep (some r) y_id s1) {y_cd : ByteArray} {s2 : St} (h2 : TStep s1 y_cd s2) {y_cl : ByteArray} {s3 : St} (h3 : TStep s2 y_cl s3) {y_ss : List ByteArray} {s4 : St} (h4 : LStep s3 y_ss s4) {y_us : ByteArray} {s5 : St} (h5 : TStep s4 y_us s5) {y_at : Nat} {s6 : St} (h6 : NStep s5 y_at s6) : Fin (b :: r) ⟨9, y_id, y_us, y_cl, ⟨#[]⟩, ⟨#[]⟩, y_cd, y_ss, ((y_at : Nat) : Int)⟩ s6 := by
  have hS := (step_seq (step_seq (step_seq (step_seq (step_seq h1 h2) h3) h4) h5) h6)
  have hnm : nm (9 : Int) 1 = true := by decide
  refine ⟨fun _ => ?_, fun y hm hl e => ?_⟩
  · rcases hS.back with h | ⟨t, a1, a2⟩
    · exact Or.inl h
    · refine Or.inr ⟨t, a2, ?_⟩
      cases a1
      have hbb : b = UInt8.ofNat 9 := by rw [← hb]; exact (u8_of b _ rfl).symm
      unfold recL idL midL endL
      simp [hnm, hbb]
  · obtain ⟨hk, k0, k1⟩ := kind_of hm e
    rw [hb] at hk
    have hk : y.k = 9 := hk
    have hF := (fine_of hm hl).2.2
    have e2 : some r = some ((fun z => (((((txL (((((z).1).1).1).1).1) ++ txL (((((z).1).1).1).1).2) ++ txL ((((z).1).1).1).2) ++ lsL (((z).1).1).2) ++ txL ((z).1).2) ++ numL (z).2) (((((y.id, y.cd), y.cl), y.ss), y.us), y.at_.toNat) ++ []) := by
      unfold recL idL midL endL at e
      rw [hk, hnm] at e
      have := (List.cons.inj e).2
      rw [this]
      simp
    obtain ⟨c1, c2⟩ := hS.on (((((y.id, y.cd), y.cl), y.ss), y.us), y.at_.toNat) [] ⟨⟨⟨⟨⟨(low_lt hl.id), (low_lt hl.cd)⟩, (low_lt hl.cl)⟩, ⟨hF.len, fun s hs => low_lt (hl.ss s hs)⟩⟩, (low_lt hl.us)⟩, (by have := hF.at1; omega)⟩ e2
    refine ⟨?_, c2⟩
    simp only [Prod.mk.injEq] at c1
    obtain ⟨⟨⟨⟨⟨c_id, c_cd⟩, c_cl⟩, c_ss⟩, c_us⟩, c_at⟩ := c1
    unfold mayB t_id t_us t_cl t_rd t_ch t_cd fitS fitL fitT at hm
    rw [hk] at hm
    have n_id : nm (9 : Int) 1 = true := by decide
    have n_us : nm (9 : Int) 2 = true := by decide
    have n_cl : nm (9 : Int) 4 = true := by decide
    have n_rd : nm (9 : Int) 8 = false := by decide
    have n_ch : nm (9 : Int) 16 = false := by decide
    have n_cd : nm (9 : Int) 32 = true := by decide
    have n_ss : nm (9 : Int) 64 = true := by decide
    have n_at : nm (9 : Int) 128 = true := by decide
    rw [n_id, n_us, n_cl, n_rd, n_ch, n_cd, n_ss, n_at] at hm
    simp only [Bool.and_eq_true, Bool.false_eq_true, if_false, if_true, decide_eq_true_eq] at hm
    obtain ⟨_, m_id, m_us, m_cl, m_rd, m_ch, m_cd, m_ss, m_at⟩ := hm
    obtain ⟨yk, yid, yus, ycl, yrd, ych, ycd, yss, yat⟩ := y
    simp only at hk c_id c_cd c_cl c_ss c_us c_at m_id m_us m_cl m_rd m_ch m_cd m_ss m_at
    have := hF.at0
    simp only at this
    rw [Rec.mk.injEq]
    exact ⟨hk.symm, c_id, c_us, c_cl, (emp_of m_rd).symm, (emp_of m_ch).symm, c_cd, c_ss, by omega⟩
theorem fin_10 {b : UInt8} {r : List UInt8} (hb : b.toNat = 10) {y_id : ByteArray} {s1 : St} (h1 : TStep (some r) y_id s1) : Fin (b :: r) ⟨10, y_id, ⟨#[]⟩, ⟨#[]⟩, ⟨#[]⟩, ⟨#[]⟩, ⟨#[]⟩, [], 0⟩ s1 := by
  have hS := h1
  have hnm : nm (10 : Int) 1 = true := by decide
  refine ⟨fun _ => ?_, fun y hm hl e => ?_⟩
  · rcases hS.back with h | ⟨t, a1, a2⟩
    · exact Or.inl h
    · refine Or.inr ⟨t, a2, ?_⟩
      cases a1
      have hbb : b = UInt8.ofNat 10 := by rw [← hb]; exact (u8_of b _ rfl).symm
      unfold recL idL midL endL
      simp [hnm, hbb]
  · obtain ⟨hk, k0, k1⟩ := kind_of hm e
    rw [hb] at hk
    have hk : y.k = 10 := hk
    have hF := (fine_of hm hl).2.2
    have e2 : some r = some ((fun z => txL z) y.id ++ []) := by
      unfold recL idL midL endL at e
      rw [hk, hnm] at e
      have := (List.cons.inj e).2
      rw [this]
      simp
    obtain ⟨c1, c2⟩ := hS.on y.id [] (low_lt hl.id) e2
    refine ⟨?_, c2⟩
    have c_id := c1
    unfold mayB t_id t_us t_cl t_rd t_ch t_cd fitS fitL fitT at hm
    rw [hk] at hm
    have n_id : nm (10 : Int) 1 = true := by decide
    have n_us : nm (10 : Int) 2 = false := by decide
    have n_cl : nm (10 : Int) 4 = false := by decide
    have n_rd : nm (10 : Int) 8 = false := by decide
    have n_ch : nm (10 : Int) 16 = false := by decide
    have n_cd : nm (10 : Int) 32 = false := by decide
    have n_ss : nm (10 : Int) 64 = false := by decide
    have n_at : nm (10 : Int) 128 = false := by decide
    rw [n_id, n_us, n_cl, n_rd, n_ch, n_cd, n_ss, n_at] at hm
    simp only [Bool.and_eq_true, Bool.false_eq_true, if_false, if_true, decide_eq_true_eq] at hm
    obtain ⟨_, m_id, m_us, m_cl, m_rd, m_ch, m_cd, m_ss, m_at⟩ := hm
    obtain ⟨yk, yid, yus, ycl, yrd, ych, ycd, yss, yat⟩ := y
    simp only at hk c_id m_id m_us m_cl m_rd m_ch m_cd m_ss m_at
    have := hF.at0
    simp only at this
    rw [Rec.mk.injEq]
    exact ⟨hk.symm, c_id, (emp_of m_us).symm, (emp_of m_cl).symm, (emp_of m_rd).symm, (emp_of m_ch).symm, (emp_of m_cd).symm, (List.eq_nil_of_length_eq_zero m_ss).symm, m_at.symm⟩
theorem fin_11 {b : UInt8} {r : List UInt8} (hb : b.toNat = 11) {y_cl : ByteArray} {s1 : St} (h1 : TStep (some r) y_cl s1) {y_us : ByteArray} {s2 : St} (h2 : TStep s1 y_us s2) : Fin (b :: r) ⟨11, ⟨#[]⟩, y_us, y_cl, ⟨#[]⟩, ⟨#[]⟩, ⟨#[]⟩, [], 0⟩ s2 := by
  have hS := (step_seq h1 h2)
  have hnm : nm (11 : Int) 1 = false := by decide
  refine ⟨fun _ => ?_, fun y hm hl e => ?_⟩
  · rcases hS.back with h | ⟨t, a1, a2⟩
    · exact Or.inl h
    · refine Or.inr ⟨t, a2, ?_⟩
      cases a1
      have hbb : b = UInt8.ofNat 11 := by rw [← hb]; exact (u8_of b _ rfl).symm
      unfold recL idL midL endL
      simp [hnm, hbb]
  · obtain ⟨hk, k0, k1⟩ := kind_of hm e
    rw [hb] at hk
    have hk : y.k = 11 := hk
    have hF := (fine_of hm hl).2.2
    have e2 : some r = some ((fun z => (txL (z).1) ++ txL (z).2) (y.cl, y.us) ++ []) := by
      unfold recL idL midL endL at e
      rw [hk, hnm] at e
      have := (List.cons.inj e).2
      rw [this]
      simp
    obtain ⟨c1, c2⟩ := hS.on (y.cl, y.us) [] ⟨(low_lt hl.cl), (low_lt hl.us)⟩ e2
    refine ⟨?_, c2⟩
    simp only [Prod.mk.injEq] at c1
    obtain ⟨c_cl, c_us⟩ := c1
    unfold mayB t_id t_us t_cl t_rd t_ch t_cd fitS fitL fitT at hm
    rw [hk] at hm
    have n_id : nm (11 : Int) 1 = false := by decide
    have n_us : nm (11 : Int) 2 = true := by decide
    have n_cl : nm (11 : Int) 4 = true := by decide
    have n_rd : nm (11 : Int) 8 = false := by decide
    have n_ch : nm (11 : Int) 16 = false := by decide
    have n_cd : nm (11 : Int) 32 = false := by decide
    have n_ss : nm (11 : Int) 64 = false := by decide
    have n_at : nm (11 : Int) 128 = false := by decide
    rw [n_id, n_us, n_cl, n_rd, n_ch, n_cd, n_ss, n_at] at hm
    simp only [Bool.and_eq_true, Bool.false_eq_true, if_false, if_true, decide_eq_true_eq] at hm
    obtain ⟨_, m_id, m_us, m_cl, m_rd, m_ch, m_cd, m_ss, m_at⟩ := hm
    obtain ⟨yk, yid, yus, ycl, yrd, ych, ycd, yss, yat⟩ := y
    simp only at hk c_cl c_us m_id m_us m_cl m_rd m_ch m_cd m_ss m_at
    have := hF.at0
    simp only at this
    rw [Rec.mk.injEq]
    exact ⟨hk.symm, (emp_of m_id).symm, c_us, c_cl, (emp_of m_rd).symm, (emp_of m_ch).symm, (emp_of m_cd).symm, (List.eq_nil_of_length_eq_zero m_ss).symm, m_at.symm⟩
end Go.Proofs.YtiplhmamcghehaaGreatDoor.rc

namespace Go.Proofs.YtiplhmamcghehaaGreatDoor.rc
open Go.ChangeShapes Go.WideShapes Go.ChangeAt Go.RowKit Go.Proofs.YtiplhmamcghehaaGreatDoor.common Go.Proofs.YtiplhmamcghehaaGreatDoor.dk

theorem wrap64_nat (n : Nat) (h : n < 9223372036854775808) : IntKind.i64.wrap (n : Int) = (n : Int) := by
  simp [IntKind.wrap, IntKind.bits, IntKind.signed]
  split <;> omega
theorem or64_nat (a b : Nat) (ha : a < 9223372036854775808) (hb : b < 9223372036854775808) : bits .or .i64 (a : Int) (b : Int) = ((a ||| b : Nat) : Int) := by
  have hx : a ||| b < 2 ^ 63 := Nat.or_lt_two_pow (by omega) (by omega)
  have h1 : (BitVec.ofInt 64 (a : Int)).toNat = a := by
    rw [BitVec.ofInt_natCast, BitVec.toNat_ofNat]; exact Nat.mod_eq_of_lt (by omega)
  have h2 : (BitVec.ofInt 64 (b : Int)).toNat = b := by
    rw [BitVec.ofInt_natCast, BitVec.toNat_ofNat]; exact Nat.mod_eq_of_lt (by omega)
  show IntKind.i64.wrap ((BitVec.ofInt 64 (a : Int) ||| BitVec.ofInt 64 (b : Int)).toNat : Int) = _
  rw [BitVec.toNat_or, h1, h2, wrap64_nat _ (by omega)]
/-- a group put above those below it -/
theorem or_group (a g i : Nat) (hi : i ≤ 8) (ha : a < 128 ^ i) (hg : g < 128) : bits .or .i64 (a : Int) (IntKind.i64.wrap ((g : Int) * 2 ^ (7 * i))) = ((a + 128 ^ i * g : Nat) : Int) := by
  have e1 : (128 : Nat) ^ i = 2 ^ (7 * i) := by rw [Nat.pow_mul]
  have e2 : ((g : Int) * 2 ^ (7 * i)) = ((g * 128 ^ i : Nat) : Int) := by rw [e1]; simp
  have h3 : 128 ^ i ≤ 128 ^ 8 := Nat.pow_le_pow_right (by decide) hi
  have h4 : g * 128 ^ i ≤ 127 * 128 ^ 8 := Nat.mul_le_mul (by omega) h3
  have h5 : (128 : Nat) ^ 8 = 72057594037927936 := by decide
  rw [e2, wrap64_nat _ (by omega), or64_nat _ _ (by omega) (by omega)]
  congr 1
  rw [Nat.or_comm, e1, ← Nat.shiftLeft_eq, ← Nat.shiftLeft_add_eq_or_of_lt (by rw [← e1]; exact ha), Nat.shiftLeft_eq, Nat.add_comm, Nat.mul_comm]

/-- what headNumber answers -/
theorem wrap_is (n : Int) : IntKind.i64.wrap n = wrap64 n := by unfold wrap64; exact IntKind.wrap_i64 n
def hnV (l : List UInt8) : Nat := match rdN l with | none => 0 | some (n, _) => n
def hnS (l : List UInt8) : Nat := match rdN l with | none => 0 | some (_, r) => l.length - r.length
/-- i groups were read, their number is a -/
def HI (l : List UInt8) (i a : Nat) : Prop := a < 128 ^ i ∧ rdN l = match rdF (9 - i) (decide (i = 0)) (l.drop i) with | none => none | some (m, r) => some (a + 128 ^ i * m, r)
theorem hi_zero (l : List UInt8) : HI l 0 0 := by
  refine ⟨by decide, ?_⟩
  show rdF 9 true l = match rdF 9 true l with | none => none | some (m, r) => some (0 + 128 ^ 0 * m, r)
  cases rdF 9 true l with
  | none => rfl
  | some x => obtain ⟨m, r⟩ := x; simp
theorem hi_at {l : List UInt8} {i a : Nat} (h : HI l i a) (hi : i < l.length) (h9 : i < 9) :
    (l[i].toNat = 0 ∧ 0 < i → rdN l = none) ∧ (¬ (l[i].toNat = 0 ∧ 0 < i) → l[i].toNat < 128 → rdN l = some (a + 128 ^ i * (l[i].toNat % 128), l.drop (i + 1))) ∧
      (¬ l[i].toNat < 128 → HI l (i + 1) (a + 128 ^ i * (l[i].toNat % 128))) := by
  obtain ⟨h1, h2⟩ := h
  have e9 : 9 - i = (8 - i) + 1 := by omega
  have ed : l.drop i = l[i] :: l.drop (i + 1) := List.drop_eq_getElem_cons hi
  rw [e9, ed] at h2
  unfold rdF at h2
  refine ⟨fun hc => ?_, fun hc hl => ?_, fun hl => ⟨?_, ?_⟩⟩
  · rw [h2, if_pos ⟨hc.1, decide_eq_false (by omega)⟩]
  · rw [h2, if_neg (by rintro ⟨x, y⟩; exact hc ⟨x, by have := of_decide_eq_false y; omega⟩), if_pos hl, Nat.mod_eq_of_lt hl]
  · rw [Nat.pow_succ]
    have := Nat.mul_le_mul_left (128 ^ i) (show l[i].toNat % 128 ≤ 127 by omega)
    omega
  · rw [h2, if_neg (by rintro ⟨x, _⟩; omega), if_neg hl]
    rw [show 9 - (i + 1) = 8 - i by omega, show decide (i + 1 = 0) = false by simp]
    cases rdF (8 - i) false (l.drop (i + 1)) with
    | none => rfl
    | some x =>
      obtain ⟨m, r⟩ := x
      simp only [Option.some.injEq, Prod.mk.injEq, and_true]
      rw [Nat.pow_succ, Nat.mul_add, Nat.mul_assoc, Nat.add_assoc]
theorem hi_end {l : List UInt8} {i a : Nat} (h : HI l i a) (hi : i = l.length ∨ i = 9) : rdN l = none := by
  obtain ⟨_, h2⟩ := h
  rw [h2]
  rcases hi with h | h
  · rw [List.drop_eq_nil_of_le (by omega)]
    cases 9 - i <;> rfl
  · rw [h]; rfl
theorem hn_none {l : List UInt8} (h : rdN l = none) : hnV l = 0 ∧ hnS l = 0 := by unfold hnV hnS; rw [h]; exact ⟨rfl, rfl⟩
theorem hn_some {l r : List UInt8} {n : Nat} (h : rdN l = some (n, r)) : hnV l = n ∧ hnS l = l.length - r.length := by unfold hnV hnS; rw [h]; exact ⟨rfl, rfl⟩

set_option maxRecDepth 100000 in
set_option maxHeartbeats 6400000 in
theorem headA (l : List UInt8) (v : Value) (w : World) (h : Rd w v l) (hl : l.length ≤ 4611686018427387904) (hc9 : l.length ≤ 9) :
    Calls Tryz.prog 39 #[v] w fun e w' => e = .returned (.tuple #[.int .i64 (hnV l : Int), .int .i64 (hnS l : Int)]) ∧ w' = w := by
  obtain ⟨oa, c, rfl⟩ := Rd.len h
  have km : (l.length : Int) ≤ 9 := by omega
  have km2 : decide ((l.length : Int) ≤ 9) = true := decide_eq_true km
  have HR := hide h
  clear h
  go_enter Tryz.func39, Tryz.ntmps39
  go_wp2_with fail
  go_loopw [2, 8] (fun acc i wr => ∃ j a : Nat, j ≤ l.length ∧ i = .int .i64 (j : Int) ∧ acc = .int .i64 (a : Int) ∧ HI l j a ∧ wr = w) (fun _ i _ => l.length - (intOf i).toNat)
  case atStart => exact ⟨0, 0, Nat.zero_le _, rfl, rfl, hi_zero l, rfl⟩
  case round =>
    obtain ⟨j, a, hj, rfl, rfl, hI, rfl⟩ := hrel
    by_cases hlt : j < l.length
    · have hjl : j < l.length := by omega
      have j0 : (0 : Int) ≤ (j : Int) := Int.natCast_nonneg _
      have j1 : (j : Int) < (l.length : Int) := by omega
      have j2 : (j : Int) < (l.length : Int) := by omega
      obtain ⟨q1, q2, q3⟩ := hi_at hI hjl (by omega)
      obtain ⟨g, o, rfl, hcell⟩ := HR.out.cell (by omega)
      have c0 := hcell j hjl
      have hor := or_group a (l[j].toNat % 128) j (by omega) hI.1 (Nat.mod_lt _ (by decide))
      have hc256 : l[j].toNat < 256 := u8_lt _
      have hdl : l.length - (l.length - (j + 1)) = j + 1 := by omega
      have hdr : (l.drop (j + 1)).length = l.length - (j + 1) := List.length_drop
      generalize l[j]'hjl = cc at *
      have HOR : Hid (bits .or .i64 (a : Int) (wrap64 (((cc.toNat : Nat) : Int) % 128 * 2 ^ (7 * j))) = ((a + 128 ^ j * (cc.toNat % 128) : Nat) : Int)) := by
        show _ = _
        rw [← hor, Int.natCast_emod, wrap_is, show ((128 : Nat) : Int) = 128 from rfl]
      clear hor hcell
      by_cases hc1 : cc.toNat < 128
      · by_cases hc0 : cc.toNat = 0
        · have k2b : (((cc.toNat : Nat) : Int) == 0) = true := by rw [hc0]; rfl
          by_cases hj0 : 0 < j
          · have HN := hide (hn_none (q1 ⟨hc0, hj0⟩))
            have k3 : (0 : Int) < (j : Int) := by omega
            have k3b : decide ((0 : Int) < (j : Int)) = true := decide_eq_true k3
            clear q1 q2 q3 hI hdl hdr hc0
            go_wp2_with fail
            go_ret2
            exact ⟨by rw [HN.out.1, HN.out.2]; rfl, rfl⟩
          · have HN := hide (hn_some (q2 (by omega) hc1))
            rw [hdr, hdl] at HN
            have k3 : ¬ (0 : Int) < (j : Int) := by omega
            have k3b : decide ((0 : Int) < (j : Int)) = false := decide_eq_false k3
            have k1 : ((cc.toNat : Nat) : Int) < 128 := by omega
            clear q1 q2 q3 hI hdl hdr hc0
            go_wp2_with fail
            go_ret2
            refine ⟨?_, rfl⟩
            rw [HN.out.1, HN.out.2, ← HOR.out]
            simp
        · have HN := hide (hn_some (q2 (by omega) hc1))
          rw [hdr, hdl] at HN
          have k2 : ¬ ((cc.toNat : Nat) : Int) = 0 := by omega
          have k2b : (((cc.toNat : Nat) : Int) == 0) = false := beq_false_of_ne k2
          have k1 : ((cc.toNat : Nat) : Int) < 128 := by omega
          clear q1 q2 q3 hI hdl hdr
          go_wp2_with fail
          go_ret2
          refine ⟨?_, rfl⟩
          rw [HN.out.1, HN.out.2, ← HOR.out]
          simp
      · have k1 : ¬ ((cc.toNat : Nat) : Int) < 128 := by omega
        have k2 : ¬ ((cc.toNat : Nat) : Int) = 0 := by omega
        have k2b : (((cc.toNat : Nat) : Int) == 0) = false := beq_false_of_ne k2
        have Q3 := hide (q3 hc1)
        clear q1 q2 q3 hI hdl hdr
        go_wp2_with fail
        refine ⟨⟨j + 1, _, by omega, by go_num, by rw [HOR.out], Q3.out, trivial⟩, by simp [intOf]; omega⟩
    · have HN := hide (hn_none (hi_end hI (by omega)))
      have j1 : ¬ (j : Int) < (l.length : Int) := by omega
      clear hI
      go_wp2_with fail
      go_ret2
      exact ⟨by rw [HN.out.1, HN.out.2]; rfl, rfl⟩
set_option maxRecDepth 100000 in
set_option maxHeartbeats 6400000 in
theorem headB (l : List UInt8) (v : Value) (w : World) (h : Rd w v l) (hl : l.length ≤ 4611686018427387904) (hc9 : 9 < l.length) :
    Calls Tryz.prog 39 #[v] w fun e w' => e = .returned (.tuple #[.int .i64 (hnV l : Int), .int .i64 (hnS l : Int)]) ∧ w' = w := by
  obtain ⟨oa, c, rfl⟩ := Rd.len h
  have km : ¬ (l.length : Int) ≤ 9 := by omega
  have km2 : decide ((l.length : Int) ≤ 9) = false := decide_eq_false km
  have HR := hide h
  clear h
  go_enter Tryz.func39, Tryz.ntmps39
  go_wp2_with fail
  go_loopw [2, 8] (fun acc i wr => ∃ j a : Nat, j ≤ 9 ∧ i = .int .i64 (j : Int) ∧ acc = .int .i64 (a : Int) ∧ HI l j a ∧ wr = w) (fun _ i _ => 9 - (intOf i).toNat)
  case atStart => exact ⟨0, 0, Nat.zero_le _, rfl, rfl, hi_zero l, rfl⟩
  case round =>
    obtain ⟨j, a, hj, rfl, rfl, hI, rfl⟩ := hrel
    by_cases hlt : j < 9
    · have hjl : j < l.length := by omega
      have j0 : (0 : Int) ≤ (j : Int) := Int.natCast_nonneg _
      have j1 : (j : Int) < (9 : Int) := by omega
      have j2 : (j : Int) < (l.length : Int) := by omega
      obtain ⟨q1, q2, q3⟩ := hi_at hI hjl (by omega)
      obtain ⟨g, o, rfl, hcell⟩ := HR.out.cell (by omega)
      have c0 := hcell j hjl
      have hor := or_group a (l[j].toNat % 128) j (by omega) hI.1 (Nat.mod_lt _ (by decide))
      have hc256 : l[j].toNat < 256 := u8_lt _
      have hdl : l.length - (l.length - (j + 1)) = j + 1 := by omega
      have hdr : (l.drop (j + 1)).length = l.length - (j + 1) := List.length_drop
      generalize l[j]'hjl = cc at *
      have HOR : Hid (bits .or .i64 (a : Int) (wrap64 (((cc.toNat : Nat) : Int) % 128 * 2 ^ (7 * j))) = ((a + 128 ^ j * (cc.toNat % 128) : Nat) : Int)) := by
        show _ = _
        rw [← hor, Int.natCast_emod, wrap_is, show ((128 : Nat) : Int) = 128 from rfl]
      clear hor hcell
      by_cases hc1 : cc.toNat < 128
      · by_cases hc0 : cc.toNat = 0
        · have k2b : (((cc.toNat : Nat) : Int) == 0) = true := by rw [hc0]; rfl
          by_cases hj0 : 0 < j
          · have HN := hide (hn_none (q1 ⟨hc0, hj0⟩))
            have k3 : (0 : Int) < (j : Int) := by omega
            have k3b : decide ((0 : Int) < (j : Int)) = true := decide_eq_true k3
            clear q1 q2 q3 hI hdl hdr hc0
            go_wp2_with fail
            go_ret2
            exact ⟨by rw [HN.out.1, HN.out.2]; rfl, rfl⟩
          · have HN := hide (hn_some (q2 (by omega) hc1))
            rw [hdr, hdl] at HN
            have k3 : ¬ (0 : Int) < (j : Int) := by omega
            have k3b : decide ((0 : Int) < (j : Int)) = false := decide_eq_false k3
            have k1 : ((cc.toNat : Nat) : Int) < 128 := by omega
            clear q1 q2 q3 hI hdl hdr hc0
            go_wp2_with fail
            go_ret2
            refine ⟨?_, rfl⟩
            rw [HN.out.1, HN.out.2, ← HOR.out]
            simp
        · have HN := hide (hn_some (q2 (by omega) hc1))
          rw [hdr, hdl] at HN
          have k2 : ¬ ((cc.toNat : Nat) : Int) = 0 := by omega
          have k2b : (((cc.toNat : Nat) : Int) == 0) = false := beq_false_of_ne k2
          have k1 : ((cc.toNat : Nat) : Int) < 128 := by omega
          clear q1 q2 q3 hI hdl hdr
          go_wp2_with fail
          go_ret2
          refine ⟨?_, rfl⟩
          rw [HN.out.1, HN.out.2, ← HOR.out]
          simp
      · have k1 : ¬ ((cc.toNat : Nat) : Int) < 128 := by omega
        have k2 : ¬ ((cc.toNat : Nat) : Int) = 0 := by omega
        have k2b : (((cc.toNat : Nat) : Int) == 0) = false := beq_false_of_ne k2
        have Q3 := hide (q3 hc1)
        clear q1 q2 q3 hI hdl hdr
        go_wp2_with fail
        refine ⟨⟨j + 1, _, by omega, by go_num, by rw [HOR.out], Q3.out, trivial⟩, by simp [intOf]; omega⟩
    · have HN := hide (hn_none (hi_end hI (by omega)))
      have j1 : ¬ (j : Int) < (9 : Int) := by omega
      clear hI
      go_wp2_with fail
      go_ret2
      exact ⟨by rw [HN.out.1, HN.out.2]; rfl, rfl⟩
theorem headNumber_any (l : List UInt8) (v : Value) (w : World) (h : Rd w v l) (hl : l.length ≤ 4611686018427387904) :
    Calls Tryz.prog 39 #[v] w fun e w' => e = .returned (.tuple #[.int .i64 (hnV l : Int), .int .i64 (hnS l : Int)]) ∧ w' = w := by
  by_cases h9 : l.length ≤ 9
  · exact headA l v w h hl h9
  · exact headB l v w h hl (by omega)
end Go.Proofs.YtiplhmamcghehaaGreatDoor.rc

namespace Go.Proofs.YtiplhmamcghehaaGreatDoor.rc
open Go.ChangeShapes Go.WideShapes Go.ChangeAt Go.RowKit Go.Proofs.YtiplhmamcghehaaGreatDoor.common Go.Proofs.YtiplhmamcghehaaGreatDoor.dk
attribute [local go_sem ↓] Go.wp_at_zero Go.wp_at_succ

/-- bytes in the memory below K, in a slice whose room holds them -/
def Lo (K : Nat) (w : World) (v : Value) (l : List UInt8) : Prop := ∃ oa cap, v = .slice oa l.length cap ∧ l.length ≤ cap ∧ (0 < l.length → ∃ g o, oa = some ⟨g, o, none⟩ ∧ g < K ∧ g < w.heap.size ∧ w.rangeAt g o (l.map B))
theorem Lo.rd {K : Nat} {w : World} {v : Value} {l : List UInt8} (h : Lo K w v l) : Rd w v l := by
  obtain ⟨oa, cap, rfl, _, h⟩ := h
  exact ⟨oa, cap, rfl, fun hl => by obtain ⟨g, o, h1, _, h3, h4⟩ := h hl; exact ⟨g, o, h1, h3, h4⟩⟩
theorem Lo.keep {K : Nat} {w w' : World} {v : Value} {l : List UInt8} (h : Lo K w v l) (hk : ∀ g, g < K → g < w.heap.size → w'.heap[g]? = w.heap[g]?) (hs : w.heap.size ≤ w'.heap.size) : Lo K w' v l := by
  obtain ⟨oa, cap, rfl, hc, h⟩ := h
  refine ⟨oa, cap, rfl, hc, fun hl => ?_⟩
  obtain ⟨g, o, h1, h2, h3, h4⟩ := h hl
  exact ⟨g, o, h1, h2, Nat.lt_of_lt_of_le h3 hs, range_block h4 (hk g h2 h3)⟩
theorem Lo.fr {K : Nat} {F : List Nat} {w w' : World} {v : Value} {l : List UInt8} (h : Lo K w v l) (hf : Fr F w w') (hF : ∀ k ∈ F, K ≤ k) : Lo K w' v l :=
  h.keep (fun g hg hs => hf.block g hs (fun hm => by have := hF g hm; omega)) hf.size
theorem Lo.from {K : Nat} {w : World} {oa : Option Addr} {cap : Nat} {l : List UInt8} (h : Lo K w (.slice oa l.length cap) l) (k : Nat) (hk : k ≤ l.length) (oa' : Option Addr) (ho : ∀ g o, oa = some ⟨g, o, none⟩ → ¬ cap = k → oa' = some ⟨g, o + k, none⟩) : Lo K w (.slice oa' (l.length - k) (cap - k)) (l.drop k) := by
  obtain ⟨oa2, c2, e, hc, hr⟩ := h
  cases e
  refine ⟨oa', cap - k, by rw [List.length_drop], by rw [List.length_drop]; omega, fun h0 => ?_⟩
  rw [List.length_drop] at h0
  obtain ⟨g, o, rfl, hK, hg, hr⟩ := hr (by omega)
  refine ⟨g, o + k, ho g o rfl (by omega), hK, hg, fun j u hu => ?_⟩
  have := hr (k + j) u (by rw [List.map_drop, List.getElem?_drop] at hu; exact hu)
  rwa [← Nat.add_assoc] at this
theorem Lo.upto {K : Nat} {w : World} {oa : Option Addr} {cap : Nat} {l : List UInt8} (h : Lo K w (.slice oa l.length cap) l) (k : Nat) (hk : k ≤ l.length) : Lo K w (.slice oa k cap) (l.take k) := by
  obtain ⟨oa2, c2, e, hc, hr⟩ := h
  cases e
  have hlen : (l.take k).length = k := by rw [List.length_take]; omega
  refine ⟨oa, cap, by rw [hlen], by omega, fun h0 => ?_⟩
  rw [hlen] at h0
  obtain ⟨g, o, rfl, hK, hg, hr⟩ := hr (by omega)
  refine ⟨g, o, rfl, hK, hg, fun j u hu => hr j u ?_⟩
  rw [List.map_take, List.getElem?_take] at hu
  split at hu
  · exact hu
  · cases hu
theorem lo_nil (K : Nat) (w : World) : Lo K w (.slice none 0 0) [] := ⟨none, 0, rfl, Nat.le_refl _, fun h => absurd h (by decide)⟩

/-- at p lies a reader that has s left -/
def Rs (K p : Nat) (w : World) : St → Prop
  | none => w.heap[p]? = some (.cells #[.slice none 0 0, .bool true] 44 (0, 0))
  | some l => l.length ≤ 1048576 ∧ ∃ v, w.heap[p]? = some (.cells #[v, .bool false] 44 (0, 0)) ∧ Lo K w v l
theorem Rs.keep {K p : Nat} {w w' : World} {s : St} (h : Rs K p w s) (hk : ∀ g, g < K → g < w.heap.size → w'.heap[g]? = w.heap[g]?) (hp : w'.heap[p]? = w.heap[p]?) (hs : w.heap.size ≤ w'.heap.size) : Rs K p w' s := by
  cases s with
  | none => exact hp.trans h
  | some l => obtain ⟨h1, v, h2, h3⟩ := h; exact ⟨h1, v, hp.trans h2, h3.keep hk hs⟩
theorem Rs.lt {K p : Nat} {w : World} {s : St} (h : Rs K p w s) : p < w.heap.size := by
  cases s with
  | none => exact (Array.getElem?_eq_some_iff.1 h).1
  | some l => obtain ⟨_, v, h2, _⟩ := h; exact (Array.getElem?_eq_some_iff.1 h2).1
/-- what lies at p and how -/
theorem Rs.form {K p : Nat} {w : World} {s : St} (h : Rs K p w s) : ∃ oa n c f, w.heap[p]? = some (.cells #[.slice oa n c, .bool f] 44 (0, 0)) := by
  cases s with
  | none => exact ⟨none, 0, 0, true, h⟩
  | some l => obtain ⟨_, v, h2, oa, c, rfl, _⟩ := h; exact ⟨oa, _, c, false, h2⟩
theorem fr_set {F : List Nat} {w w' : World} (h : Fr F w w') (p j : Nat) (u : Value) (hp : p ∈ F) : Fr F w (w'.setCell ⟨p, j, none⟩ u) :=
  ⟨h.os, h.tape, h.output, by rw [size_set]; exact h.size, fun k hk hn => (set_other _ _ _ _ (show k ≠ p from fun e => hn (e ▸ hp))).trans (h.block k hk hn)⟩
theorem at_set {w : World} {p j : Nat} {cs : Array Value} {t : TypeId} (h : w.heap[p]? = some (.cells cs t (0, 0))) (u : Value) : (w.setCell ⟨p, j, none⟩ u).heap[p]? = some (.cells (cs.setIfInBounds j u) t (0, 0)) := by
  simp [World.setCell, Array.getElem?_modify, h]

theorem fail_any (K p : Nat) (oa : Option Addr) (n c : Nat) (f : Bool) (w : World) (h : w.heap[p]? = some (.cells #[.slice oa n c, .bool f] 44 (0, 0))) :
    Calls Tryz.prog 40 #[.pointer (some ⟨p, 0, none⟩)] w fun e w' => e = .returned (.tuple #[]) ∧ Rs K p w' none ∧ Fr [p] w w' := by
  have c0 : w.cell? ⟨p, 0, none⟩ = some (.slice oa n c) := cell_of h 0
  have f0 : w.frozen? ⟨p, 0, none⟩ = false := free_of h 0
  have h1 := at_set (j := 0) h (.slice none 0 0)
  have c1 : (w.setCell ⟨p, 0, none⟩ (.slice none 0 0)).cell? ⟨p, 1, none⟩ = some (.bool f) := cell_of h1 1
  have f1 : (w.setCell ⟨p, 0, none⟩ (.slice none 0 0)).frozen? ⟨p, 1, none⟩ = false := free_of h1 1
  have H2 := hide (at_set (j := 1) h1 (.bool true))
  clear h h1
  go_enter Tryz.func40, Tryz.ntmps40
  go_wp2_with fail
  first | go_end0 | refine bodyPost_end (results_none rfl _ _ _) rfl ?_
  exact ⟨rfl, H2.out, fr_set (fr_set (Fr.refl _ _) p 0 _ (List.mem_singleton.2 rfl)) p 1 _ (List.mem_singleton.2 rfl)⟩
end Go.Proofs.YtiplhmamcghehaaGreatDoor.rc
