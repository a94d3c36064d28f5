import Derived.Test.YtocpikgcbibcoaaGreatDoorMRcTidM
import Derived.Test.YtocpikgcbibcoaaGreatDoorMRcKept
import Derived.Test.YtocpikgcbibcoaaGreatDoorMRcRd5
namespace Go.Proofs.YtocpikgcbibcoaaGreatDoor.rc
open Go.Proofs.YtocpikgcbibcoaaGreatDoor.common

theorem step_seq {α β : Type} {e1 : α → List UInt8} {e2 : β → List UInt8} {o1 : α → Prop} {o2 : β → Prop} {s s1 s2 : St} {x : α} {y : β} (h1 : Step e1 o1 s x s1) (h2 : Step e2 o2 s1 y s2) :
    Step (fun z : α × β => e1 z.1 ++ e2 z.2) (fun z => o1 z.1 ∧ o2 z.2) s (x, y) s2 := by
  refine ⟨?_, fun z l hz e => ?_⟩
  · rcases h2.back with h | ⟨t, a1, a2⟩
    · exact Or.inl h
    · rcases h1.back with h | ⟨t', b1, b2⟩
      · rw [h] at a1; cases a1
      · rw [b2] at a1
        cases a1
        exact Or.inr ⟨t, by rw [b1]; simp, a2⟩
  · obtain ⟨a, b⟩ := z
    simp only [List.append_assoc] at e
    obtain ⟨c1, c2⟩ := h1.on a _ hz.1 e
    obtain ⟨d1, d2⟩ := h2.on b l hz.2 c2
    exact ⟨by rw [c1, d1], d2⟩
/-- what a reading of l says: r, and what is left -/
structure Fin (l : List UInt8) (r : Rec) (s : St) : Prop where
  back : isK r.k = true → s = none ∨ ∃ t, s = some t ∧ l = recL r ++ t
  on : ∀ y : Rec, mayB y = true → y.Low → l = recL y → r = y ∧ s = some []
theorem low_lt {s : ByteArray} (h : s.size ≤ 1048576) : s.size < 9223372036854775808 := by omega
theorem emp_of {s : ByteArray} (h : s.size = 0) : s = ⟨#[]⟩ := by
  obtain ⟨a⟩ := s
  have : a.size = 0 := h
  rw [Array.eq_empty_of_size_eq_zero this]
theorem kind_of {y : Rec} {b : UInt8} {r : List UInt8} (hm : mayB y = true) (h : b :: r = recL y) : y.k = ((b.toNat : Nat) : Int) ∧ 0 < y.k ∧ y.k < 12 := by
  unfold mayB isK at hm
  simp only [Bool.and_eq_true, decide_eq_true_eq] at hm
  obtain ⟨⟨k0, k1⟩, _⟩ := hm
  unfold recL at h
  have hb : b = UInt8.ofNat y.k.toNat := by
    have := (List.cons.inj h).1
    exact this
  have : (UInt8.ofNat y.k.toNat).toNat = y.k.toNat := by rw [UInt8.toNat_ofNat']; omega
  rw [hb, this]
  exact ⟨by omega, k0, k1⟩
theorem fin_none {y : Rec} (hk : ([] : List UInt8) = recL y) : False := by
  unfold recL at hk
  cases hk
theorem fin_1 {b : UInt8} {r : List UInt8} (hb : b.toNat = 1) {y_id : ByteArray} {s1 : St} (h1 : TStep (some r) y_id s1) {y_us : ByteArray} {s2 : St} (h2 : TStep s1 y_us s2) {y_at : Nat} {s3 : St} (h3 : NStep s2 y_at s3) : Fin (b :: r) ⟨1, y_id, y_us, ⟨#[]⟩, ⟨#[]⟩, ⟨#[]⟩, ⟨#[]⟩, [], ((y_at : Nat) : Int)⟩ s3 := by
  have hS := (step_seq (step_seq h1 h2) h3)
  have hnm : nm (1 : Int) 1 = true := by decide
  refine ⟨fun _ => ?_, fun y hm hl e => ?_⟩
  · rcases hS.back with h | ⟨t, a1, a2⟩
    · exact Or.inl h
    · refine Or.inr ⟨t, a2, ?_⟩
      cases a1
      have hbb : b = UInt8.ofNat 1 := by rw [← hb]; exact (u8_of b _ rfl).symm
      unfold recL idL midL endL
      simp [hnm, hbb]
  · obtain ⟨hk, k0, k1⟩ := kind_of hm e
    rw [hb] at hk
    have hk : y.k = 1 := hk
    have hF := (fine_of hm hl).2.2
    have e2 : some r = some ((fun z => ((txL ((z).1).1) ++ txL ((z).1).2) ++ numL (z).2) ((y.id, y.us), y.at_.toNat) ++ []) := by
      unfold recL idL midL endL at e
      rw [hk, hnm] at e
      have := (List.cons.inj e).2
      rw [this]
      simp
    obtain ⟨c1, c2⟩ := hS.on ((y.id, y.us), y.at_.toNat) [] ⟨⟨(low_lt hl.id), (low_lt hl.us)⟩, (by have := hF.at1; omega)⟩ e2
    refine ⟨?_, c2⟩
    simp only [Prod.mk.injEq] at c1
    obtain ⟨⟨c_id, c_us⟩, c_at⟩ := c1
    unfold mayB t_id t_us t_cl t_rd t_ch t_cd fitS fitL fitT at hm
    rw [hk] at hm
    have n_id : nm (1 : Int) 1 = true := by decide
    have n_us : nm (1 : Int) 2 = true := by decide
    have n_cl : nm (1 : Int) 4 = false := by decide
    have n_rd : nm (1 : Int) 8 = false := by decide
    have n_ch : nm (1 : Int) 16 = false := by decide
    have n_cd : nm (1 : Int) 32 = false := by decide
    have n_ss : nm (1 : Int) 64 = false := by decide
    have n_at : nm (1 : Int) 128 = true := by decide
    rw [n_id, n_us, n_cl, n_rd, n_ch, n_cd, n_ss, n_at] at hm
    simp only [Bool.and_eq_true, Bool.false_eq_true, if_false, if_true, decide_eq_true_eq] at hm
    obtain ⟨_, m_id, m_us, m_cl, m_rd, m_ch, m_cd, m_ss, m_at⟩ := hm
    obtain ⟨yk, yid, yus, ycl, yrd, ych, ycd, yss, yat⟩ := y
    simp only at hk c_id c_us c_at m_id m_us m_cl m_rd m_ch m_cd m_ss m_at
    have := hF.at0
    simp only at this
    rw [Rec.mk.injEq]
    exact ⟨hk.symm, c_id, c_us, (emp_of m_cl).symm, (emp_of m_rd).symm, (emp_of m_ch).symm, (emp_of m_cd).symm, (List.eq_nil_of_length_eq_zero m_ss).symm, by omega⟩
theorem fin_2 {b : UInt8} {r : List UInt8} (hb : b.toNat = 2) {y_id : ByteArray} {s1 : St} (h1 : TStep (some r) y_id s1) : Fin (b :: r) ⟨2, y_id, ⟨#[]⟩, ⟨#[]⟩, ⟨#[]⟩, ⟨#[]⟩, ⟨#[]⟩, [], 0⟩ s1 := by
  have hS := h1
  have hnm : nm (2 : Int) 1 = true := by decide
  refine ⟨fun _ => ?_, fun y hm hl e => ?_⟩
  · rcases hS.back with h | ⟨t, a1, a2⟩
    · exact Or.inl h
    · refine Or.inr ⟨t, a2, ?_⟩
      cases a1
      have hbb : b = UInt8.ofNat 2 := by rw [← hb]; exact (u8_of b _ rfl).symm
      unfold recL idL midL endL
      simp [hnm, hbb]
  · obtain ⟨hk, k0, k1⟩ := kind_of hm e
    rw [hb] at hk
    have hk : y.k = 2 := hk
    have hF := (fine_of hm hl).2.2
    have e2 : some r = some ((fun z => txL z) y.id ++ []) := by
      unfold recL idL midL endL at e
      rw [hk, hnm] at e
      have := (List.cons.inj e).2
      rw [this]
      simp
    obtain ⟨c1, c2⟩ := hS.on y.id [] (low_lt hl.id) e2
    refine ⟨?_, c2⟩
    have c_id := c1
    unfold mayB t_id t_us t_cl t_rd t_ch t_cd fitS fitL fitT at hm
    rw [hk] at hm
    have n_id : nm (2 : Int) 1 = true := by decide
    have n_us : nm (2 : Int) 2 = false := by decide
    have n_cl : nm (2 : Int) 4 = false := by decide
    have n_rd : nm (2 : Int) 8 = false := by decide
    have n_ch : nm (2 : Int) 16 = false := by decide
    have n_cd : nm (2 : Int) 32 = false := by decide
    have n_ss : nm (2 : Int) 64 = false := by decide
    have n_at : nm (2 : Int) 128 = false := by decide
    rw [n_id, n_us, n_cl, n_rd, n_ch, n_cd, n_ss, n_at] at hm
    simp only [Bool.and_eq_true, Bool.false_eq_true, if_false, if_true, decide_eq_true_eq] at hm
    obtain ⟨_, m_id, m_us, m_cl, m_rd, m_ch, m_cd, m_ss, m_at⟩ := hm
    obtain ⟨yk, yid, yus, ycl, yrd, ych, ycd, yss, yat⟩ := y
    simp only at hk c_id m_id m_us m_cl m_rd m_ch m_cd m_ss m_at
    have := hF.at0
    simp only at this
    rw [Rec.mk.injEq]
    exact ⟨hk.symm, c_id, (emp_of m_us).symm, (emp_of m_cl).symm, (emp_of m_rd).symm, (emp_of m_ch).symm, (emp_of m_cd).symm, (List.eq_nil_of_length_eq_zero m_ss).symm, m_at.symm⟩
theorem fin_3 {b : UInt8} {r : List UInt8} (hb : b.toNat = 3) {y_cl : ByteArray} {s1 : St} (h1 : TStep (some r) y_cl s1) {y_ss : List ByteArray} {s2 : St} (h2 : LStep s1 y_ss s2) {y_us : ByteArray} {s3 : St} (h3 : TStep s2 y_us s3) {y_at : Nat} {s4 : St} (h4 : NStep s3 y_at s4) : Fin (b :: r) ⟨3, ⟨#[]⟩, y_us, y_cl, ⟨#[]⟩, ⟨#[]⟩, ⟨#[]⟩, y_ss, ((y_at : Nat) : Int)⟩ s4 := by
  have hS := (step_seq (step_seq (step_seq h1 h2) h3) h4)
  have hnm : nm (3 : Int) 1 = false := by decide
  refine ⟨fun _ => ?_, fun y hm hl e => ?_⟩
  · rcases hS.back with h | ⟨t, a1, a2⟩
    · exact Or.inl h
    · refine Or.inr ⟨t, a2, ?_⟩
      cases a1
      have hbb : b = UInt8.ofNat 3 := by rw [← hb]; exact (u8_of b _ rfl).symm
      unfold recL idL midL endL
      simp [hnm, hbb]
  · obtain ⟨hk, k0, k1⟩ := kind_of hm e
    rw [hb] at hk
    have hk : y.k = 3 := hk
    have hF := (fine_of hm hl).2.2
    have e2 : some r = some ((fun z => (((txL (((z).1).1).1) ++ lsL (((z).1).1).2) ++ txL ((z).1).2) ++ numL (z).2) (((y.cl, y.ss), y.us), y.at_.toNat) ++ []) := by
      unfold recL idL midL endL at e
      rw [hk, hnm] at e
      have := (List.cons.inj e).2
      rw [this]
      simp
    obtain ⟨c1, c2⟩ := hS.on (((y.cl, y.ss), y.us), y.at_.toNat) [] ⟨⟨⟨(low_lt hl.cl), ⟨hF.len, fun s hs => low_lt (hl.ss s hs)⟩⟩, (low_lt hl.us)⟩, (by have := hF.at1; omega)⟩ e2
    refine ⟨?_, c2⟩
    simp only [Prod.mk.injEq] at c1
    obtain ⟨⟨⟨c_cl, c_ss⟩, c_us⟩, c_at⟩ := c1
    unfold mayB t_id t_us t_cl t_rd t_ch t_cd fitS fitL fitT at hm
    rw [hk] at hm
    have n_id : nm (3 : Int) 1 = false := by decide
    have n_us : nm (3 : Int) 2 = true := by decide
    have n_cl : nm (3 : Int) 4 = true := by decide
    have n_rd : nm (3 : Int) 8 = false := by decide
    have n_ch : nm (3 : Int) 16 = false := by decide
    have n_cd : nm (3 : Int) 32 = false := by decide
    have n_ss : nm (3 : Int) 64 = true := by decide
    have n_at : nm (3 : Int) 128 = true := by decide
    rw [n_id, n_us, n_cl, n_rd, n_ch, n_cd, n_ss, n_at] at hm
    simp only [Bool.and_eq_true, Bool.false_eq_true, if_false, if_true, decide_eq_true_eq] at hm
    obtain ⟨_, m_id, m_us, m_cl, m_rd, m_ch, m_cd, m_ss, m_at⟩ := hm
    obtain ⟨yk, yid, yus, ycl, yrd, ych, ycd, yss, yat⟩ := y
    simp only at hk c_cl c_ss c_us c_at m_id m_us m_cl m_rd m_ch m_cd m_ss m_at
    have := hF.at0
    simp only at this
    rw [Rec.mk.injEq]
    exact ⟨hk.symm, (emp_of m_id).symm, c_us, c_cl, (emp_of m_rd).symm, (emp_of m_ch).symm, (emp_of m_cd).symm, c_ss, by omega⟩
theorem fin_4 {b : UInt8} {r : List UInt8} (hb : b.toNat = 4) {y_id : ByteArray} {s1 : St} (h1 : TStep (some r) y_id s1) {y_rd : ByteArray} {s2 : St} (h2 : TStep s1 y_rd s2) {y_ch : ByteArray} {s3 : St} (h3 : TStep s2 y_ch s3) {y_cl : ByteArray} {s4 : St} (h4 : TStep s3 y_cl s4) {y_ss : List ByteArray} {s5 : St} (h5 : LStep s4 y_ss s5) {y_us : ByteArray} {s6 : St} (h6 : TStep s5 y_us s6) {y_at : Nat} {s7 : St} (h7 : NStep s6 y_at s7) : Fin (b :: r) ⟨4, y_id, y_us, y_cl, y_rd, y_ch, ⟨#[]⟩, y_ss, ((y_at : Nat) : Int)⟩ s7 := by
  have hS := (step_seq (step_seq (step_seq (step_seq (step_seq (step_seq h1 h2) h3) h4) h5) h6) h7)
  have hnm : nm (4 : Int) 1 = true := by decide
  refine ⟨fun _ => ?_, fun y hm hl e => ?_⟩
  · rcases hS.back with h | ⟨t, a1, a2⟩
    · exact Or.inl h
    · refine Or.inr ⟨t, a2, ?_⟩
      cases a1
      have hbb : b = UInt8.ofNat 4 := by rw [← hb]; exact (u8_of b _ rfl).symm
      unfold recL idL midL endL
      simp [hnm, hbb]
  · obtain ⟨hk, k0, k1⟩ := kind_of hm e
    rw [hb] at hk
    have hk : y.k = 4 := hk
    have hF := (fine_of hm hl).2.2
    have e2 : some r = some ((fun z => ((((((txL ((((((z).1).1).1).1).1).1) ++ txL ((((((z).1).1).1).1).1).2) ++ txL (((((z).1).1).1).1).2) ++ txL ((((z).1).1).1).2) ++ lsL (((z).1).1).2) ++ txL ((z).1).2) ++ numL (z).2) ((((((y.id, y.rd), y.ch), y.cl), y.ss), y.us), y.at_.toNat) ++ []) := by
      unfold recL idL midL endL at e
      rw [hk, hnm] at e
      have := (List.cons.inj e).2
      rw [this]
      simp
    obtain ⟨c1, c2⟩ := hS.on ((((((y.id, y.rd), y.ch), y.cl), y.ss), y.us), y.at_.toNat) [] ⟨⟨⟨⟨⟨⟨(low_lt hl.id), (low_lt hl.rd)⟩, (low_lt hl.ch)⟩, (low_lt hl.cl)⟩, ⟨hF.len, fun s hs => low_lt (hl.ss s hs)⟩⟩, (low_lt hl.us)⟩, (by have := hF.at1; omega)⟩ e2
    refine ⟨?_, c2⟩
    simp only [Prod.mk.injEq] at c1
    obtain ⟨⟨⟨⟨⟨⟨c_id, c_rd⟩, c_ch⟩, c_cl⟩, c_ss⟩, c_us⟩, c_at⟩ := c1
    unfold mayB t_id t_us t_cl t_rd t_ch t_cd fitS fitL fitT at hm
    rw [hk] at hm
    have n_id : nm (4 : Int) 1 = true := by decide
    have n_us : nm (4 : Int) 2 = true := by decide
    have n_cl : nm (4 : Int) 4 = true := by decide
    have n_rd : nm (4 : Int) 8 = true := by decide
    have n_ch : nm (4 : Int) 16 = true := by decide
    have n_cd : nm (4 : Int) 32 = false := by decide
    have n_ss : nm (4 : Int) 64 = true := by decide
    have n_at : nm (4 : Int) 128 = true := by decide
    rw [n_id, n_us, n_cl, n_rd, n_ch, n_cd, n_ss, n_at] at hm
    simp only [Bool.and_eq_true, Bool.false_eq_true, if_false, if_true, decide_eq_true_eq] at hm
    obtain ⟨_, m_id, m_us, m_cl, m_rd, m_ch, m_cd, m_ss, m_at⟩ := hm
    obtain ⟨yk, yid, yus, ycl, yrd, ych, ycd, yss, yat⟩ := y
    simp only at hk c_id c_rd c_ch c_cl c_ss c_us c_at m_id m_us m_cl m_rd m_ch m_cd m_ss m_at
    have := hF.at0
    simp only at this
    rw [Rec.mk.injEq]
    exact ⟨hk.symm, c_id, c_us, c_cl, c_rd, c_ch, (emp_of m_cd).symm, c_ss, by omega⟩
theorem fin_5 {b : UInt8} {r : List UInt8} (hb : b.toNat = 5) {y_id : ByteArray} {s1 : St} (h1 : TStep (some r) y_id s1) : Fin (b :: r) ⟨5, y_id, ⟨#[]⟩, ⟨#[]⟩, ⟨#[]⟩, ⟨#[]⟩, ⟨#[]⟩, [], 0⟩ s1 := by
  have hS := h1
  have hnm : nm (5 : Int) 1 = true := by decide
  refine ⟨fun _ => ?_, fun y hm hl e => ?_⟩
  · rcases hS.back with h | ⟨t, a1, a2⟩
    · exact Or.inl h
    · refine Or.inr ⟨t, a2, ?_⟩
      cases a1
      have hbb : b = UInt8.ofNat 5 := by rw [← hb]; exact (u8_of b _ rfl).symm
      unfold recL idL midL endL
      simp [hnm, hbb]
  · obtain ⟨hk, k0, k1⟩ := kind_of hm e
    rw [hb] at hk
    have hk : y.k = 5 := hk
    have hF := (fine_of hm hl).2.2
    have e2 : some r = some ((fun z => txL z) y.id ++ []) := by
      unfold recL idL midL endL at e
      rw [hk, hnm] at e
      have := (List.cons.inj e).2
      rw [this]
      simp
    obtain ⟨c1, c2⟩ := hS.on y.id [] (low_lt hl.id) e2
    refine ⟨?_, c2⟩
    have c_id := c1
    unfold mayB t_id t_us t_cl t_rd t_ch t_cd fitS fitL fitT at hm
    rw [hk] at hm
    have n_id : nm (5 : Int) 1 = true := by decide
    have n_us : nm (5 : Int) 2 = false := by decide
    have n_cl : nm (5 : Int) 4 = false := by decide
    have n_rd : nm (5 : Int) 8 = false := by decide
    have n_ch : nm (5 : Int) 16 = false := by decide
    have n_cd : nm (5 : Int) 32 = false := by decide
    have n_ss : nm (5 : Int) 64 = false := by decide
    have n_at : nm (5 : Int) 128 = false := by decide
    rw [n_id, n_us, n_cl, n_rd, n_ch, n_cd, n_ss, n_at] at hm
    simp only [Bool.and_eq_true, Bool.false_eq_true, if_false, if_true, decide_eq_true_eq] at hm
    obtain ⟨_, m_id, m_us, m_cl, m_rd, m_ch, m_cd, m_ss, m_at⟩ := hm
    obtain ⟨yk, yid, yus, ycl, yrd, ych, ycd, yss, yat⟩ := y
    simp only at hk c_id m_id m_us m_cl m_rd m_ch m_cd m_ss m_at
    have := hF.at0
    simp only at this
    rw [Rec.mk.injEq]
    exact ⟨hk.symm, c_id, (emp_of m_us).symm, (emp_of m_cl).symm, (emp_of m_rd).symm, (emp_of m_ch).symm, (emp_of m_cd).symm, (List.eq_nil_of_length_eq_zero m_ss).symm, m_at.symm⟩
theorem fin_6 {b : UInt8} {r : List UInt8} (hb : b.toNat = 6) {y_id : ByteArray} {s1 : St} (h1 : TStep (some r) y_id s1) {y_cd : ByteArray} {s2 : St} (h2 : TStep s1 y_cd s2) {y_cl : ByteArray} {s3 : St} (h3 : TStep s2 y_cl s3) {y_ss : List ByteArray} {s4 : St} (h4 : LStep s3 y_ss s4) {y_us : ByteArray} {s5 : St} (h5 : TStep s4 y_us s5) {y_at : Nat} {s6 : St} (h6 : NStep s5 y_at s6) : Fin (b :: r) ⟨6, y_id, y_us, y_cl, ⟨#[]⟩, ⟨#[]⟩, y_cd, y_ss, ((y_at : Nat) : Int)⟩ s6 := by
  have hS := (step_seq (step_seq (step_seq (step_seq (step_seq h1 h2) h3) h4) h5) h6)
  have hnm : nm (6 : Int) 1 = true := by decide
  refine ⟨fun _ => ?_, fun y hm hl e => ?_⟩
  · rcases hS.back with h | ⟨t, a1, a2⟩
    · exact Or.inl h
    · refine Or.inr ⟨t, a2, ?_⟩
      cases a1
      have hbb : b = UInt8.ofNat 6 := by rw [← hb]; exact (u8_of b _ rfl).symm
      unfold recL idL midL endL
      simp [hnm, hbb]
  · obtain ⟨hk, k0, k1⟩ := kind_of hm e
    rw [hb] at hk
    have hk : y.k = 6 := hk
    have hF := (fine_of hm hl).2.2
    have e2 : some r = some ((fun z => (((((txL (((((z).1).1).1).1).1) ++ txL (((((z).1).1).1).1).2) ++ txL ((((z).1).1).1).2) ++ lsL (((z).1).1).2) ++ txL ((z).1).2) ++ numL (z).2) (((((y.id, y.cd), y.cl), y.ss), y.us), y.at_.toNat) ++ []) := by
      unfold recL idL midL endL at e
      rw [hk, hnm] at e
      have := (List.cons.inj e).2
      rw [this]
      simp
    obtain ⟨c1, c2⟩ := hS.on (((((y.id, y.cd), y.cl), y.ss), y.us), y.at_.toNat) [] ⟨⟨⟨⟨⟨(low_lt hl.id), (low_lt hl.cd)⟩, (low_lt hl.cl)⟩, ⟨hF.len, fun s hs => low_lt (hl.ss s hs)⟩⟩, (low_lt hl.us)⟩, (by have := hF.at1; omega)⟩ e2
    refine ⟨?_, c2⟩
    simp only [Prod.mk.injEq] at c1
    obtain ⟨⟨⟨⟨⟨c_id, c_cd⟩, c_cl⟩, c_ss⟩, c_us⟩, c_at⟩ := c1
    unfold mayB t_id t_us t_cl t_rd t_ch t_cd fitS fitL fitT at hm
    rw [hk] at hm
    have n_id : nm (6 : Int) 1 = true := by decide
    have n_us : nm (6 : Int) 2 = true := by decide
    have n_cl : nm (6 : Int) 4 = true := by decide
    have n_rd : nm (6 : Int) 8 = false := by decide
    have n_ch : nm (6 : Int) 16 = false := by decide
    have n_cd : nm (6 : Int) 32 = true := by decide
    have n_ss : nm (6 : Int) 64 = true := by decide
    have n_at : nm (6 : Int) 128 = true := by decide
    rw [n_id, n_us, n_cl, n_rd, n_ch, n_cd, n_ss, n_at] at hm
    simp only [Bool.and_eq_true, Bool.false_eq_true, if_false, if_true, decide_eq_true_eq] at hm
    obtain ⟨_, m_id, m_us, m_cl, m_rd, m_ch, m_cd, m_ss, m_at⟩ := hm
    obtain ⟨yk, yid, yus, ycl, yrd, ych, ycd, yss, yat⟩ := y
    simp only at hk c_id c_cd c_cl c_ss c_us c_at m_id m_us m_cl m_rd m_ch m_cd m_ss m_at
    have := hF.at0
    simp only at this
    rw [Rec.mk.injEq]
    exact ⟨hk.symm, c_id, c_us, c_cl, (emp_of m_rd).symm, (emp_of m_ch).symm, c_cd, c_ss, by omega⟩
theorem fin_7 {b : UInt8} {r : List UInt8} (hb : b.toNat = 7) {y_id : ByteArray} {s1 : St} (h1 : TStep (some r) y_id s1) : Fin (b :: r) ⟨7, y_id, ⟨#[]⟩, ⟨#[]⟩, ⟨#[]⟩, ⟨#[]⟩, ⟨#[]⟩, [], 0⟩ s1 := by
  have hS := h1
  have hnm : nm (7 : Int) 1 = true := by decide
  refine ⟨fun _ => ?_, fun y hm hl e => ?_⟩
  · rcases hS.back with h | ⟨t, a1, a2⟩
    · exact Or.inl h
    · refine Or.inr ⟨t, a2, ?_⟩
      cases a1
      have hbb : b = UInt8.ofNat 7 := by rw [← hb]; exact (u8_of b _ rfl).symm
      unfold recL idL midL endL
      simp [hnm, hbb]
  · obtain ⟨hk, k0, k1⟩ := kind_of hm e
    rw [hb] at hk
    have hk : y.k = 7 := hk
    have hF := (fine_of hm hl).2.2
    have e2 : some r = some ((fun z => txL z) y.id ++ []) := by
      unfold recL idL midL endL at e
      rw [hk, hnm] at e
      have := (List.cons.inj e).2
      rw [this]
      simp
    obtain ⟨c1, c2⟩ := hS.on y.id [] (low_lt hl.id) e2
    refine ⟨?_, c2⟩
    have c_id := c1
    unfold mayB t_id t_us t_cl t_rd t_ch t_cd fitS fitL fitT at hm
    rw [hk] at hm
    have n_id : nm (7 : Int) 1 = true := by decide
    have n_us : nm (7 : Int) 2 = false := by decide
    have n_cl : nm (7 : Int) 4 = false := by decide
    have n_rd : nm (7 : Int) 8 = false := by decide
    have n_ch : nm (7 : Int) 16 = false := by decide
    have n_cd : nm (7 : Int) 32 = false := by decide
    have n_ss : nm (7 : Int) 64 = false := by decide
    have n_at : nm (7 : Int) 128 = false := by decide
    rw [n_id, n_us, n_cl, n_rd, n_ch, n_cd, n_ss, n_at] at hm
    simp only [Bool.and_eq_true, Bool.false_eq_true, if_false, if_true, decide_eq_true_eq] at hm
    obtain ⟨_, m_id, m_us, m_cl, m_rd, m_ch, m_cd, m_ss, m_at⟩ := hm
    obtain ⟨yk, yid, yus, ycl, yrd, ych, ycd, yss, yat⟩ := y
    simp only at hk c_id m_id m_us m_cl m_rd m_ch m_cd m_ss m_at
    have := hF.at0
    simp only at this
    rw [Rec.mk.injEq]
    exact ⟨hk.symm, c_id, (emp_of m_us).symm, (emp_of m_cl).symm, (emp_of m_rd).symm, (emp_of m_ch).symm, (emp_of m_cd).symm, (List.eq_nil_of_length_eq_zero m_ss).symm, m_at.symm⟩
theorem fin_8 {b : UInt8} {r : List UInt8} (hb : b.toNat = 8) {y_id : ByteArray} {s1 : St} (h1 : TStep (some r) y_id s1) : Fin (b :: r) ⟨8, y_id, ⟨#[]⟩, ⟨#[]⟩, ⟨#[]⟩, ⟨#[]⟩, ⟨#[]⟩, [], 0⟩ s1 := by
  have hS := h1
  have hnm : nm (8 : Int) 1 = true := by decide
  refine ⟨fun _ => ?_, fun y hm hl e => ?_⟩
  · rcases hS.back with h | ⟨t, a1, a2⟩
    · exact Or.inl h
    · refine Or.inr ⟨t, a2, ?_⟩
      cases a1
      have hbb : b = UInt8.ofNat 8 := by rw [← hb]; exact (u8_of b _ rfl).symm
      unfold recL idL midL endL
      simp [hnm, hbb]
  · obtain ⟨hk, k0, k1⟩ := kind_of hm e
    rw [hb] at hk
    have hk : y.k = 8 := hk
    have hF := (fine_of hm hl).2.2
    have e2 : some r = some ((fun z => txL z) y.id ++ []) := by
      unfold recL idL midL endL at e
      rw [hk, hnm] at e
      have := (List.cons.inj e).2
      rw [this]
      simp
    obtain ⟨c1, c2⟩ := hS.on y.id [] (low_lt hl.id) e2
    refine ⟨?_, c2⟩
    have c_id := c1
    unfold mayB t_id t_us t_cl t_rd t_ch t_cd fitS fitL fitT at hm
    rw [hk] at hm
    have n_id : nm (8 : Int) 1 = true := by decide
    have n_us : nm (8 : Int) 2 = false := by decide
    have n_cl : nm (8 : Int) 4 = false := by decide
    have n_rd : nm (8 : Int) 8 = false := by decide
    have n_ch : nm (8 : Int) 16 = false := by decide
    have n_cd : nm (8 : Int) 32 = false := by decide
    have n_ss : nm (8 : Int) 64 = false := by decide
    have n_at : nm (8 : Int) 128 = false := by decide
    rw [n_id, n_us, n_cl, n_rd, n_ch, n_cd, n_ss, n_at] at hm
    simp only [Bool.and_eq_true, Bool.false_eq_true, if_false, if_true, decide_eq_true_eq] at hm
    obtain ⟨_, m_id, m_us, m_cl, m_rd, m_ch, m_cd, m_ss, m_at⟩ := hm
    obtain ⟨yk, yid, yus, ycl, yrd, ych, ycd, yss, yat⟩ := y
    simp only at hk c_id m_id m_us m_cl m_rd m_ch m_cd m_ss m_at
    have := hF.at0
    simp only at this
    rw [Rec.mk.injEq]
    exact ⟨hk.symm, c_id, (emp_of m_us).symm, (emp_of m_cl).symm, (emp_of m_rd).symm, (emp_of m_ch).symm, (emp_of m_cd).symm, (List.eq_nil_of_length_eq_zero m_ss).symm, m_at.symm⟩
theorem fin_9 {b : UInt8} {r : List UInt8} (hb : b.toNat = 9) {y_id : ByteArray} {s1 : St} (h1 : TStep (some r) y_id s1) {y_cd : ByteArray} {s2 : St} (h2 : TStep s1 y_cd s2) {y_cl : ByteArray} {s3 : St} (h3 : TStep s2 y_cl s3) {y_ss : List ByteArray} {s4 : St} (h4 : LStep s3 y_ss s4) {y_us : ByteArray} {s5 : St} (h5 : TStep s4 y_us s5) {y_at : Nat} {s6 : St} (h6 : NStep s5 y_at s6) : Fin (b :: r) ⟨9, y_id, y_us, y_cl, ⟨#[]⟩, ⟨#[]⟩, y_cd, y_ss, ((y_at : Nat) : Int)⟩ s6 := by
  have hS := (step_seq (step_seq (step_seq (step_seq (step_seq h1 h2) h3) h4) h5) h6)
  have hnm : nm (9 : Int) 1 = true := by decide
  refine ⟨fun _ => ?_, fun y hm hl e => ?_⟩
  · rcases hS.back with h | ⟨t, a1, a2⟩
    · exact Or.inl h
    · refine Or.inr ⟨t, a2, ?_⟩
      cases a1
      have hbb : b = UInt8.ofNat 9 := by rw [← hb]; exact (u8_of b _ rfl).symm
      unfold recL idL midL endL
      simp [hnm, hbb]
  · obtain ⟨hk, k0, k1⟩ := kind_of hm e
    rw [hb] at hk
    have hk : y.k = 9 := hk
    have hF := (fine_of hm hl).2.2
    have e2 : some r = some ((fun z => (((((txL (((((z).1).1).1).1).1) ++ txL (((((z).1).1).1).1).2) ++ txL ((((z).1).1).1).2) ++ lsL (((z).1).1).2) ++ txL ((z).1).2) ++ numL (z).2) (((((y.id, y.cd), y.cl), y.ss), y.us), y.at_.toNat) ++ []) := by
      unfold recL idL midL endL at e
      rw [hk, hnm] at e
      have := (List.cons.inj e).2
      rw [this]
      simp
    obtain ⟨c1, c2⟩ := hS.on (((((y.id, y.cd), y.cl), y.ss), y.us), y.at_.toNat) [] ⟨⟨⟨⟨⟨(low_lt hl.id), (low_lt hl.cd)⟩, (low_lt hl.cl)⟩, ⟨hF.len, fun s hs => low_lt (hl.ss s hs)⟩⟩, (low_lt hl.us)⟩, (by have := hF.at1; omega)⟩ e2
    refine ⟨?_, c2⟩
    simp only [Prod.mk.injEq] at c1
    obtain ⟨⟨⟨⟨⟨c_id, c_cd⟩, c_cl⟩, c_ss⟩, c_us⟩, c_at⟩ := c1
    unfold mayB t_id t_us t_cl t_rd t_ch t_cd fitS fitL fitT at hm
    rw [hk] at hm
    have n_id : nm (9 : Int) 1 = true := by decide
    have n_us : nm (9 : Int) 2 = true := by decide
    have n_cl : nm (9 : Int) 4 = true := by decide
    have n_rd : nm (9 : Int) 8 = false := by decide
    have n_ch : nm (9 : Int) 16 = false := by decide
    have n_cd : nm (9 : Int) 32 = true := by decide
    have n_ss : nm (9 : Int) 64 = true := by decide
    have n_at : nm (9 : Int) 128 = true := by decide
    rw [n_id, n_us, n_cl, n_rd, n_ch, n_cd, n_ss, n_at] at hm
    simp only [Bool.and_eq_true, Bool.false_eq_true, if_false, if_true, decide_eq_true_eq] at hm
    obtain ⟨_, m_id, m_us, m_cl, m_rd, m_ch, m_cd, m_ss, m_at⟩ := hm
    obtain ⟨yk, yid, yus, ycl, yrd, ych, ycd, yss, yat⟩ := y
    simp only at hk c_id c_cd c_cl c_ss c_us c_at m_id m_us m_cl m_rd m_ch m_cd m_ss m_at
    have := hF.at0
    simp only at this
    rw [Rec.mk.injEq]
    exact ⟨hk.symm, c_id, c_us, c_cl, (emp_of m_rd).symm, (emp_of m_ch).symm, c_cd, c_ss, by omega⟩
theorem fin_10 {b : UInt8} {r : List UInt8} (hb : b.toNat = 10) {y_id : ByteArray} {s1 : St} (h1 : TStep (some r) y_id s1) : Fin (b :: r) ⟨10, y_id, ⟨#[]⟩, ⟨#[]⟩, ⟨#[]⟩, ⟨#[]⟩, ⟨#[]⟩, [], 0⟩ s1 := by
  have hS := h1
  have hnm : nm (10 : Int) 1 = true := by decide
  refine ⟨fun _ => ?_, fun y hm hl e => ?_⟩
  · rcases hS.back with h | ⟨t, a1, a2⟩
    · exact Or.inl h
    · refine Or.inr ⟨t, a2, ?_⟩
      cases a1
      have hbb : b = UInt8.ofNat 10 := by rw [← hb]; exact (u8_of b _ rfl).symm
      unfold recL idL midL endL
      simp [hnm, hbb]
  · obtain ⟨hk, k0, k1⟩ := kind_of hm e
    rw [hb] at hk
    have hk : y.k = 10 := hk
    have hF := (fine_of hm hl).2.2
    have e2 : some r = some ((fun z => txL z) y.id ++ []) := by
      unfold recL idL midL endL at e
      rw [hk, hnm] at e
      have := (List.cons.inj e).2
      rw [this]
      simp
    obtain ⟨c1, c2⟩ := hS.on y.id [] (low_lt hl.id) e2
    refine ⟨?_, c2⟩
    have c_id := c1
    unfold mayB t_id t_us t_cl t_rd t_ch t_cd fitS fitL fitT at hm
    rw [hk] at hm
    have n_id : nm (10 : Int) 1 = true := by decide
    have n_us : nm (10 : Int) 2 = false := by decide
    have n_cl : nm (10 : Int) 4 = false := by decide
    have n_rd : nm (10 : Int) 8 = false := by decide
    have n_ch : nm (10 : Int) 16 = false := by decide
    have n_cd : nm (10 : Int) 32 = false := by decide
    have n_ss : nm (10 : Int) 64 = false := by decide
    have n_at : nm (10 : Int) 128 = false := by decide
    rw [n_id, n_us, n_cl, n_rd, n_ch, n_cd, n_ss, n_at] at hm
    simp only [Bool.and_eq_true, Bool.false_eq_true, if_false, if_true, decide_eq_true_eq] at hm
    obtain ⟨_, m_id, m_us, m_cl, m_rd, m_ch, m_cd, m_ss, m_at⟩ := hm
    obtain ⟨yk, yid, yus, ycl, yrd, ych, ycd, yss, yat⟩ := y
    simp only at hk c_id m_id m_us m_cl m_rd m_ch m_cd m_ss m_at
    have := hF.at0
    simp only at this
    rw [Rec.mk.injEq]
    exact ⟨hk.symm, c_id, (emp_of m_us).symm, (emp_of m_cl).symm, (emp_of m_rd).symm, (emp_of m_ch).symm, (emp_of m_cd).symm, (List.eq_nil_of_length_eq_zero m_ss).symm, m_at.symm⟩
theorem fin_11 {b : UInt8} {r : List UInt8} (hb : b.toNat = 11) {y_cl : ByteArray} {s1 : St} (h1 : TStep (some r) y_cl s1) {y_us : ByteArray} {s2 : St} (h2 : TStep s1 y_us s2) : Fin (b :: r) ⟨11, ⟨#[]⟩, y_us, y_cl, ⟨#[]⟩, ⟨#[]⟩, ⟨#[]⟩, [], 0⟩ s2 := by
  have hS := (step_seq h1 h2)
  have hnm : nm (11 : Int) 1 = false := by decide
  refine ⟨fun _ => ?_, fun y hm hl e => ?_⟩
  · rcases hS.back with h | ⟨t, a1, a2⟩
    · exact Or.inl h
    · refine Or.inr ⟨t, a2, ?_⟩
      cases a1
      have hbb : b = UInt8.ofNat 11 := by rw [← hb]; exact (u8_of b _ rfl).symm
      unfold recL idL midL endL
      simp [hnm, hbb]
  · obtain ⟨hk, k0, k1⟩ := kind_of hm e
    rw [hb] at hk
    have hk : y.k = 11 := hk
    have hF := (fine_of hm hl).2.2
    have e2 : some r = some ((fun z => (txL (z).1) ++ txL (z).2) (y.cl, y.us) ++ []) := by
      unfold recL idL midL endL at e
      rw [hk, hnm] at e
      have := (List.cons.inj e).2
      rw [this]
      simp
    obtain ⟨c1, c2⟩ := hS.on (y.cl, y.us) [] ⟨(low_lt hl.cl), (low_lt hl.us)⟩ e2
    refine ⟨?_, c2⟩
    simp only [Prod.mk.injEq] at c1
    obtain ⟨c_cl, c_us⟩ := c1
    unfold mayB t_id t_us t_cl t_rd t_ch t_cd fitS fitL fitT at hm
    rw [hk] at hm
    have n_id : nm (11 : Int) 1 = false := by decide
    have n_us : nm (11 : Int) 2 = true := by decide
    have n_cl : nm (11 : Int) 4 = true := by decide
    have n_rd : nm (11 : Int) 8 = false := by decide
    have n_ch : nm (11 : Int) 16 = false := by decide
    have n_cd : nm (11 : Int) 32 = false := by decide
    have n_ss : nm (11 : Int) 64 = false := by decide
    have n_at : nm (11 : Int) 128 = false := by decide
    rw [n_id, n_us, n_cl, n_rd, n_ch, n_cd, n_ss, n_at] at hm
    simp only [Bool.and_eq_true, Bool.false_eq_true, if_false, if_true, decide_eq_true_eq] at hm
    obtain ⟨_, m_id, m_us, m_cl, m_rd, m_ch, m_cd, m_ss, m_at⟩ := hm
    obtain ⟨yk, yid, yus, ycl, yrd, ych, ycd, yss, yat⟩ := y
    simp only at hk c_cl c_us m_id m_us m_cl m_rd m_ch m_cd m_ss m_at
    have := hF.at0
    simp only at this
    rw [Rec.mk.injEq]
    exact ⟨hk.symm, (emp_of m_id).symm, c_us, c_cl, (emp_of m_rd).symm, (emp_of m_ch).symm, (emp_of m_cd).symm, (List.eq_nil_of_length_eq_zero m_ss).symm, m_at.symm⟩
end Go.Proofs.YtocpikgcbibcoaaGreatDoor.rc

namespace Go.Proofs.YtocpikgcbibcoaaGreatDoor.rc
open Go.ChangeShapes Go.WideShapes Go.ChangeAt Go.RowKit Go.Proofs.YtocpikgcbibcoaaGreatDoor.common Go.Proofs.YtocpikgcbibcoaaGreatDoor.dk

theorem rnil_kind (a : Addr) (W : World) : (nilAhead 320 60 (.pointer (some a)) "usher/record.kind").run Tryz.prog W = .ok (some false) W := by kernel_rfl
theorem rmet_kind (a : Addr) (W : World) : (method 320 60 (.pointer (some a)) "usher/record.kind").run Tryz.prog W = .ok (209, .pointer (some a)) W := by kernel_rfl
theorem rnil_text (a : Addr) (W : World) : (nilAhead 320 60 (.pointer (some a)) "usher/record.text").run Tryz.prog W = .ok (some false) W := by kernel_rfl
theorem rmet_text (a : Addr) (W : World) : (method 320 60 (.pointer (some a)) "usher/record.text").run Tryz.prog W = .ok (211, .pointer (some a)) W := by kernel_rfl
theorem rnil_list (a : Addr) (W : World) : (nilAhead 320 60 (.pointer (some a)) "usher/record.list").run Tryz.prog W = .ok (some false) W := by kernel_rfl
theorem rmet_list (a : Addr) (W : World) : (method 320 60 (.pointer (some a)) "usher/record.list").run Tryz.prog W = .ok (210, .pointer (some a)) W := by kernel_rfl
theorem rnil_number (a : Addr) (W : World) : (nilAhead 320 60 (.pointer (some a)) "usher/record.number").run Tryz.prog W = .ok (some false) W := by kernel_rfl
theorem rmet_number (a : Addr) (W : World) : (method 320 60 (.pointer (some a)) "usher/record.number").run Tryz.prog W = .ok (23, .pointer (some a)) W := by kernel_rfl
theorem Rs.drew {K p : Nat} {w : World} {s : St} (h : Rs K p w s) : Rs K p w.drew s := h.keep (fun _ _ _ => rfl) rfl (Nat.le_refl _)
theorem frD (F : List Nat) (w : World) : Fr F w w.drew := (Fr.refl F w).next ((Below.refl _ _).drew)
theorem frN {F : List Nat} {a w w' : World} (h : Fr F a w) (k : Fr F w.drew w') : Fr F a w' := (h.trans (frD F w) (fun _ hi => Or.inl hi)).trans k (fun _ hi => Or.inl hi)
theorem ktab_fr {p q : Nat} {w w' : World} (h : KTab w) (hf : Fr [p, q] w w') (hp : 7 < p) (hq : 7 < q) : KTab w' := fun i hi => by
  rw [← h i hi]
  refine World.cell?_of_block (hf.block _ (World.block_lt_of_cell? w _ (h i hi)) (fun hm => ?_))
  rcases List.mem_cons.1 hm with e | e
  · have e' : 7 = p := e
    omega
  · have e' : 7 = q := List.mem_singleton.1 e
    omega
theorem own_pq {p q base : Nat} {w w' : World} {t : TypeId} {z : Nat} {v : Value} {n : Nat} {xs : List Value} (h : w.ownsRow base t z v n xs) (hf : Fr [p, q] w w') (hp : p < base) (hq : q < base) : w'.ownsRow base t z v n xs := by
  refine ⟨h.1, ?_⟩
  rcases h.2 with hh | ⟨g, cap, cur, rfl, hg, hh, hn⟩
  · exact Or.inl hh
  · refine Or.inr ⟨g, cap, cur, rfl, hg, (hf.block g (Array.getElem?_eq_some_iff.1 hh).1 (fun hm => ?_)).trans hh, hn⟩
    rcases List.mem_cons.1 hm with e | e
    · omega
    · have := List.mem_singleton.1 e; omega
/-- how the walk ends -/
def WalkOut (K p q : Nat) (l : List UInt8) (w : World) (x : Ending) (w' : World) : Prop :=
  x = .returned (.tuple #[]) ∧ ∃ (r : Rec) (v : Value) (s : St), w'.heap[q]? = some (.cells (rcs r v) 26 (0, 0)) ∧ w'.ownsRow w.heap.size 9 1 v r.ss.length (r.ss.map Value.string) ∧ Rs K p w' s ∧ Fr [p, q] w w' ∧ (r.Low ∧ r.ss.length ≤ 16) ∧ Fin l r s
theorem rkind_cons (K p q : Nat) (cs : Array Value) (t : TypeId) (n0 : Int) (b : UInt8) (l : List UInt8) (w : World) (hr : Rs K p w (some (b :: l))) (hq : w.heap[q]? = some (.cells cs t (0, 0))) (hj : cs[0]? = some (.int .i64 n0)) (hpq : p ≠ q) (hKp : K ≤ p) (hKq : K ≤ q) :
    Calls Tryz.prog 209 #[.pointer (some ⟨p, 0, none⟩), .pointer (some ⟨q, 0, none⟩)] w fun x w' => x = .returned (.tuple #[]) ∧ Fr [p, q] w w' ∧ Rs K p w' (some l) ∧ w'.heap[q]? = some (.cells (cs.setIfInBounds 0 (.int .i64 ((b.toNat : Nat) : Int))) t (0, 0)) := by
  refine (rkind_any K p q cs t n0 _ w hr hq hj hpq hKp hKq).mono ?_
  rintro x w' ⟨h1, h2, h3⟩
  rcases h3 with ⟨h, _⟩ | ⟨b', r', h, h4, h5⟩
  · cases h
  · cases h; exact ⟨h1, h2, h4, h5⟩
theorem rkind_nil (K p q : Nat) (cs : Array Value) (t : TypeId) (n0 : Int) (w : World) (hr : Rs K p w (some [])) (hq : w.heap[q]? = some (.cells cs t (0, 0))) (hj : cs[0]? = some (.int .i64 n0)) (hpq : p ≠ q) (hKp : K ≤ p) (hKq : K ≤ q) :
    Calls Tryz.prog 209 #[.pointer (some ⟨p, 0, none⟩), .pointer (some ⟨q, 0, none⟩)] w fun x w' => x = .returned (.tuple #[]) ∧ Fr [p, q] w w' ∧ Rs K p w' none ∧ w'.heap[q]? = some (.cells cs t (0, 0)) := by
  refine (rkind_any K p q cs t n0 _ w hr hq hj hpq hKp hKq).mono ?_
  rintro x w' ⟨h1, h2, h3⟩
  rcases h3 with ⟨_, h4, h5⟩ | ⟨b', r', h, _⟩
  · exact ⟨h1, h2, h4, h5⟩
  · cases h
theorem e_low : (⟨#[]⟩ : ByteArray).size ≤ 1048576 := by decide
end Go.Proofs.YtocpikgcbibcoaaGreatDoor.rc

namespace Go.Proofs.YtocpikgcbibcoaaGreatDoor.rc
open Go.ChangeShapes Go.WideShapes Go.ChangeAt Go.RowKit Go.Proofs.YtocpikgcbibcoaaGreatDoor.common Go.Proofs.YtocpikgcbibcoaaGreatDoor.dk

set_option maxRecDepth 100000 in
set_option maxHeartbeats 25600000 in
theorem walkR_nil (K p q : Nat) (w : World) (hr : Rs K p w (some [])) (hq : w.heap[q]? = some (.cells zrec 26 (0, 0))) (hT : KTab w) (hG : 7 < K) (hpq : p ≠ q) (hKp : K ≤ p) (hKq : K ≤ q) :
    Calls Tryz.prog 22 #[.pointer (some ⟨q, 0, none⟩), .iface 60 (.pointer (some ⟨p, 0, none⟩))] w (WalkOut K p q [] w) := by
  have n_kind := rnil_kind ⟨p, 0, none⟩
  have m_kind := rmet_kind ⟨p, 0, none⟩
  have HPL : Hid (p < w.heap.size ∧ q < w.heap.size) := ⟨hr.lt, (Array.getElem?_eq_some_iff.1 hq).1⟩
  have HTT : Hid (∀ X, Fr [p, q] w X → KTab X) := fun X hX => ktab_fr hT hX (by omega) (by omega)
  have HK := hide (rkind_nil K p q zrec 26 0 w.drew hr.drew hq rfl hpq hKp hKq)
  have hnm : nm (0 : Int) 1 = false := by decide
  have HN : Hid (∀ X, Fr [p, q] w X → Calls Tryz.prog 37 #[.int .i64 0, .int .i64 1] X fun e w' => e = .returned (.bool false) ∧ w' = X) := fun X hX => by
    have h := names_any 0 1 X (HTT.out X hX)
    rw [hnm] at h
    exact h
  clear hr hq hT hnm
  unfold WalkOut
  go_enter Tryz.func22, Tryz.ntmps22
  go_wp2_with fail
  go_region_with (go_at_call 209; refine HK.out.mono ?_; rintro x w0 ⟨rfl, hF0, hR0, hq0⟩)
  have HF0 : Hid (Fr [p, q] w w0) := frN (Fr.refl _ _) hF0
  have HR0 : Hid (Rs K p w0 none) := hR0
  have HQ0 : Hid (w0.heap[q]? = some (.cells (rcs ⟨0, ⟨#[]⟩, ⟨#[]⟩, ⟨#[]⟩, ⟨#[]⟩, ⟨#[]⟩, ⟨#[]⟩, [], 0⟩ (.slice none 0 0)) 26 (0, 0))) := hq0
  clear HK hF0 hR0 hq0
  have c0 : w0.cell? ⟨q, 0, none⟩ = some (.int .i64 0) := cell_of HQ0.out 0
  have HNN := hide (HN.out w0 HF0.out)
  go_wp2_with (go_at_call 37; refine HNN.out.mono ?_; rintro x w9 ⟨rfl, h9⟩; obtain rfl := h9.symm)
  first | go_end0 | refine bodyPost_end (results_none rfl _ _ _) rfl ?_
  exact ⟨rfl, ⟨0, ⟨#[]⟩, ⟨#[]⟩, ⟨#[]⟩, ⟨#[]⟩, ⟨#[]⟩, ⟨#[]⟩, [], 0⟩, _, none, HQ0.out, World.ownsRow_nil _ _ _ _, HR0.out, HF0.out, ⟨⟨e_low, e_low, e_low, e_low, e_low, e_low, fun s hs => by cases hs⟩, Nat.zero_le _⟩, ⟨fun h => (by cases h), fun y _ _ e => (fin_none e).elim⟩⟩

set_option maxRecDepth 100000 in
set_option maxHeartbeats 25600000 in
theorem walkR_2 (K p q : Nat) (b : UInt8) (r0 : List UInt8) (w : World) (hb : b.toNat = 2) (hr : Rs K p w (some (b :: r0))) (hq : w.heap[q]? = some (.cells zrec 26 (0, 0))) (hT : KTab w) (hG : 7 < K) (hpq : p ≠ q) (hKp : K ≤ p) (hKq : K ≤ q) :
    Calls Tryz.prog 22 #[.pointer (some ⟨q, 0, none⟩), .iface 60 (.pointer (some ⟨p, 0, none⟩))] w (WalkOut K p q (b :: r0) w) := by
  have n_kind := rnil_kind ⟨p, 0, none⟩
  have m_kind := rmet_kind ⟨p, 0, none⟩
  have n_text := rnil_text ⟨p, 0, none⟩
  have m_text := rmet_text ⟨p, 0, none⟩
  have HPL : Hid (p < w.heap.size ∧ q < w.heap.size) := ⟨hr.lt, (Array.getElem?_eq_some_iff.1 hq).1⟩
  have HTT : Hid (∀ X, Fr [p, q] w X → KTab X) := fun X hX => ktab_fr hT hX (by omega) (by omega)
  have HK := hide (rkind_cons K p q zrec 26 0 b r0 w.drew hr.drew hq rfl hpq hKp hKq)
  have hbi : ((b.toNat : Nat) : Int) = 2 := by rw [hb]; rfl
  rw [hbi] at HK
  have HHB := hide hb
  clear hb hbi
  have hnm : nm (2 : Int) 1 = true := by decide
  have HN : Hid (∀ X, Fr [p, q] w X → Calls Tryz.prog 37 #[.int .i64 2, .int .i64 1] X fun e w' => e = .returned (.bool true) ∧ w' = X) := fun X hX => by
    have h := names_any 2 1 X (HTT.out X hX)
    rw [hnm] at h
    exact h
  clear hr hq hT hnm
  unfold WalkOut
  go_enter Tryz.func22, Tryz.ntmps22
  go_wp2_with fail
  go_region_with (go_at_call 209; refine HK.out.mono ?_; rintro x w0 ⟨rfl, hF0, hR0, hq0⟩)
  have HF0 : Hid (Fr [p, q] w w0) := frN (Fr.refl _ _) hF0
  have HR0 : Hid (Rs K p w0 (some r0)) := hR0
  have HQ0 : Hid (w0.heap[q]? = some (.cells (rcs ⟨2, ⟨#[]⟩, ⟨#[]⟩, ⟨#[]⟩, ⟨#[]⟩, ⟨#[]⟩, ⟨#[]⟩, [], 0⟩ (.slice none 0 0)) 26 (0, 0))) := hq0
  clear HK hF0 hR0 hq0
  have c0 : w0.cell? ⟨q, 0, none⟩ = some (.int .i64 2) := cell_of HQ0.out 0
  have HNN := hide (HN.out w0 HF0.out)
  have HT := hide (rtext_any K p q 1 (rcs ⟨2, ⟨#[]⟩, ⟨#[]⟩, ⟨#[]⟩, ⟨#[]⟩, ⟨#[]⟩, ⟨#[]⟩, [], 0⟩ (.slice none 0 0)) 26 ⟨#[]⟩ (some r0) w0.drew HR0.out.drew HQ0.out rfl hpq hKp hKq)
  go_wp2_with (go_at_call 37; refine HNN.out.mono ?_; rintro x w9 ⟨rfl, h9⟩; obtain rfl := h9.symm)
  go_region_with (go_at_call 211; refine HT.out.mono ?_; rintro x w1 ⟨rfl, y_id, s1, hst, hy, hR, hq, hF⟩)
  have HF1 : Hid (Fr [p, q] w w1) := frN HF0.out hF
  have HR1 := hide hR
  have HQ1 : Hid (w1.heap[q]? = some (.cells (rcs ⟨2, y_id, ⟨#[]⟩, ⟨#[]⟩, ⟨#[]⟩, ⟨#[]⟩, ⟨#[]⟩, [], 0⟩ (.slice none 0 0)) 26 (0, 0))) := hq
  have HS1 := hide hst
  have HY_id := hide hy
  clear HT hst hy hR hq hF c0 HNN
  have c0 : w1.cell? ⟨q, 0, none⟩ = some (.int .i64 2) := cell_of HQ1.out 0
  go_wp2_with fail
  first | go_end0 | refine bodyPost_end (results_none rfl _ _ _) rfl ?_
  exact ⟨rfl, ⟨2, y_id, ⟨#[]⟩, ⟨#[]⟩, ⟨#[]⟩, ⟨#[]⟩, ⟨#[]⟩, [], 0⟩, _, s1, HQ1.out, World.ownsRow_nil _ _ _ _, HR1.out, HF1.out, ⟨⟨HY_id.out, e_low, e_low, e_low, e_low, e_low, fun s hs => by cases hs⟩, Nat.zero_le _⟩, fin_2 HHB.out HS1.out⟩

set_option maxRecDepth 100000 in
set_option maxHeartbeats 25600000 in
theorem walkR_5 (K p q : Nat) (b : UInt8) (r0 : List UInt8) (w : World) (hb : b.toNat = 5) (hr : Rs K p w (some (b :: r0))) (hq : w.heap[q]? = some (.cells zrec 26 (0, 0))) (hT : KTab w) (hG : 7 < K) (hpq : p ≠ q) (hKp : K ≤ p) (hKq : K ≤ q) :
    Calls Tryz.prog 22 #[.pointer (some ⟨q, 0, none⟩), .iface 60 (.pointer (some ⟨p, 0, none⟩))] w (WalkOut K p q (b :: r0) w) := by
  have n_kind := rnil_kind ⟨p, 0, none⟩
  have m_kind := rmet_kind ⟨p, 0, none⟩
  have n_text := rnil_text ⟨p, 0, none⟩
  have m_text := rmet_text ⟨p, 0, none⟩
  have HPL : Hid (p < w.heap.size ∧ q < w.heap.size) := ⟨hr.lt, (Array.getElem?_eq_some_iff.1 hq).1⟩
  have HTT : Hid (∀ X, Fr [p, q] w X → KTab X) := fun X hX => ktab_fr hT hX (by omega) (by omega)
  have HK := hide (rkind_cons K p q zrec 26 0 b r0 w.drew hr.drew hq rfl hpq hKp hKq)
  have hbi : ((b.toNat : Nat) : Int) = 5 := by rw [hb]; rfl
  rw [hbi] at HK
  have HHB := hide hb
  clear hb hbi
  have hnm : nm (5 : Int) 1 = true := by decide
  have HN : Hid (∀ X, Fr [p, q] w X → Calls Tryz.prog 37 #[.int .i64 5, .int .i64 1] X fun e w' => e = .returned (.bool true) ∧ w' = X) := fun X hX => by
    have h := names_any 5 1 X (HTT.out X hX)
    rw [hnm] at h
    exact h
  clear hr hq hT hnm
  unfold WalkOut
  go_enter Tryz.func22, Tryz.ntmps22
  go_wp2_with fail
  go_region_with (go_at_call 209; refine HK.out.mono ?_; rintro x w0 ⟨rfl, hF0, hR0, hq0⟩)
  have HF0 : Hid (Fr [p, q] w w0) := frN (Fr.refl _ _) hF0
  have HR0 : Hid (Rs K p w0 (some r0)) := hR0
  have HQ0 : Hid (w0.heap[q]? = some (.cells (rcs ⟨5, ⟨#[]⟩, ⟨#[]⟩, ⟨#[]⟩, ⟨#[]⟩, ⟨#[]⟩, ⟨#[]⟩, [], 0⟩ (.slice none 0 0)) 26 (0, 0))) := hq0
  clear HK hF0 hR0 hq0
  have c0 : w0.cell? ⟨q, 0, none⟩ = some (.int .i64 5) := cell_of HQ0.out 0
  have HNN := hide (HN.out w0 HF0.out)
  have HT := hide (rtext_any K p q 1 (rcs ⟨5, ⟨#[]⟩, ⟨#[]⟩, ⟨#[]⟩, ⟨#[]⟩, ⟨#[]⟩, ⟨#[]⟩, [], 0⟩ (.slice none 0 0)) 26 ⟨#[]⟩ (some r0) w0.drew HR0.out.drew HQ0.out rfl hpq hKp hKq)
  go_wp2_with (go_at_call 37; refine HNN.out.mono ?_; rintro x w9 ⟨rfl, h9⟩; obtain rfl := h9.symm)
  go_region_with (go_at_call 211; refine HT.out.mono ?_; rintro x w1 ⟨rfl, y_id, s1, hst, hy, hR, hq, hF⟩)
  have HF1 : Hid (Fr [p, q] w w1) := frN HF0.out hF
  have HR1 := hide hR
  have HQ1 : Hid (w1.heap[q]? = some (.cells (rcs ⟨5, y_id, ⟨#[]⟩, ⟨#[]⟩, ⟨#[]⟩, ⟨#[]⟩, ⟨#[]⟩, [], 0⟩ (.slice none 0 0)) 26 (0, 0))) := hq
  have HS1 := hide hst
  have HY_id := hide hy
  clear HT hst hy hR hq hF c0 HNN
  have c0 : w1.cell? ⟨q, 0, none⟩ = some (.int .i64 5) := cell_of HQ1.out 0
  go_wp2_with fail
  first | go_end0 | refine bodyPost_end (results_none rfl _ _ _) rfl ?_
  exact ⟨rfl, ⟨5, y_id, ⟨#[]⟩, ⟨#[]⟩, ⟨#[]⟩, ⟨#[]⟩, ⟨#[]⟩, [], 0⟩, _, s1, HQ1.out, World.ownsRow_nil _ _ _ _, HR1.out, HF1.out, ⟨⟨HY_id.out, e_low, e_low, e_low, e_low, e_low, fun s hs => by cases hs⟩, Nat.zero_le _⟩, fin_5 HHB.out HS1.out⟩

set_option maxRecDepth 100000 in
set_option maxHeartbeats 25600000 in
theorem walkR_7 (K p q : Nat) (b : UInt8) (r0 : List UInt8) (w : World) (hb : b.toNat = 7) (hr : Rs K p w (some (b :: r0))) (hq : w.heap[q]? = some (.cells zrec 26 (0, 0))) (hT : KTab w) (hG : 7 < K) (hpq : p ≠ q) (hKp : K ≤ p) (hKq : K ≤ q) :
    Calls Tryz.prog 22 #[.pointer (some ⟨q, 0, none⟩), .iface 60 (.pointer (some ⟨p, 0, none⟩))] w (WalkOut K p q (b :: r0) w) := by
  have n_kind := rnil_kind ⟨p, 0, none⟩
  have m_kind := rmet_kind ⟨p, 0, none⟩
  have n_text := rnil_text ⟨p, 0, none⟩
  have m_text := rmet_text ⟨p, 0, none⟩
  have HPL : Hid (p < w.heap.size ∧ q < w.heap.size) := ⟨hr.lt, (Array.getElem?_eq_some_iff.1 hq).1⟩
  have HTT : Hid (∀ X, Fr [p, q] w X → KTab X) := fun X hX => ktab_fr hT hX (by omega) (by omega)
  have HK := hide (rkind_cons K p q zrec 26 0 b r0 w.drew hr.drew hq rfl hpq hKp hKq)
  have hbi : ((b.toNat : Nat) : Int) = 7 := by rw [hb]; rfl
  rw [hbi] at HK
  have HHB := hide hb
  clear hb hbi
  have hnm : nm (7 : Int) 1 = true := by decide
  have HN : Hid (∀ X, Fr [p, q] w X → Calls Tryz.prog 37 #[.int .i64 7, .int .i64 1] X fun e w' => e = .returned (.bool true) ∧ w' = X) := fun X hX => by
    have h := names_any 7 1 X (HTT.out X hX)
    rw [hnm] at h
    exact h
  clear hr hq hT hnm
  unfold WalkOut
  go_enter Tryz.func22, Tryz.ntmps22
  go_wp2_with fail
  go_region_with (go_at_call 209; refine HK.out.mono ?_; rintro x w0 ⟨rfl, hF0, hR0, hq0⟩)
  have HF0 : Hid (Fr [p, q] w w0) := frN (Fr.refl _ _) hF0
  have HR0 : Hid (Rs K p w0 (some r0)) := hR0
  have HQ0 : Hid (w0.heap[q]? = some (.cells (rcs ⟨7, ⟨#[]⟩, ⟨#[]⟩, ⟨#[]⟩, ⟨#[]⟩, ⟨#[]⟩, ⟨#[]⟩, [], 0⟩ (.slice none 0 0)) 26 (0, 0))) := hq0
  clear HK hF0 hR0 hq0
  have c0 : w0.cell? ⟨q, 0, none⟩ = some (.int .i64 7) := cell_of HQ0.out 0
  have HNN := hide (HN.out w0 HF0.out)
  have HT := hide (rtext_any K p q 1 (rcs ⟨7, ⟨#[]⟩, ⟨#[]⟩, ⟨#[]⟩, ⟨#[]⟩, ⟨#[]⟩, ⟨#[]⟩, [], 0⟩ (.slice none 0 0)) 26 ⟨#[]⟩ (some r0) w0.drew HR0.out.drew HQ0.out rfl hpq hKp hKq)
  go_wp2_with (go_at_call 37; refine HNN.out.mono ?_; rintro x w9 ⟨rfl, h9⟩; obtain rfl := h9.symm)
  go_region_with (go_at_call 211; refine HT.out.mono ?_; rintro x w1 ⟨rfl, y_id, s1, hst, hy, hR, hq, hF⟩)
  have HF1 : Hid (Fr [p, q] w w1) := frN HF0.out hF
  have HR1 := hide hR
  have HQ1 : Hid (w1.heap[q]? = some (.cells (rcs ⟨7, y_id, ⟨#[]⟩, ⟨#[]⟩, ⟨#[]⟩, ⟨#[]⟩, ⟨#[]⟩, [], 0⟩ (.slice none 0 0)) 26 (0, 0))) := hq
  have HS1 := hide hst
  have HY_id := hide hy
  clear HT hst hy hR hq hF c0 HNN
  have c0 : w1.cell? ⟨q, 0, none⟩ = some (.int .i64 7) := cell_of HQ1.out 0
  go_wp2_with fail
  first | go_end0 | refine bodyPost_end (results_none rfl _ _ _) rfl ?_
  exact ⟨rfl, ⟨7, y_id, ⟨#[]⟩, ⟨#[]⟩, ⟨#[]⟩, ⟨#[]⟩, ⟨#[]⟩, [], 0⟩, _, s1, HQ1.out, World.ownsRow_nil _ _ _ _, HR1.out, HF1.out, ⟨⟨HY_id.out, e_low, e_low, e_low, e_low, e_low, fun s hs => by cases hs⟩, Nat.zero_le _⟩, fin_7 HHB.out HS1.out⟩

set_option maxRecDepth 100000 in
set_option maxHeartbeats 25600000 in
theorem walkR_8 (K p q : Nat) (b : UInt8) (r0 : List UInt8) (w : World) (hb : b.toNat = 8) (hr : Rs K p w (some (b :: r0))) (hq : w.heap[q]? = some (.cells zrec 26 (0, 0))) (hT : KTab w) (hG : 7 < K) (hpq : p ≠ q) (hKp : K ≤ p) (hKq : K ≤ q) :
    Calls Tryz.prog 22 #[.pointer (some ⟨q, 0, none⟩), .iface 60 (.pointer (some ⟨p, 0, none⟩))] w (WalkOut K p q (b :: r0) w) := by
  have n_kind := rnil_kind ⟨p, 0, none⟩
  have m_kind := rmet_kind ⟨p, 0, none⟩
  have n_text := rnil_text ⟨p, 0, none⟩
  have m_text := rmet_text ⟨p, 0, none⟩
  have HPL : Hid (p < w.heap.size ∧ q < w.heap.size) := ⟨hr.lt, (Array.getElem?_eq_some_iff.1 hq).1⟩
  have HTT : Hid (∀ X, Fr [p, q] w X → KTab X) := fun X hX => ktab_fr hT hX (by omega) (by omega)
  have HK := hide (rkind_cons K p q zrec 26 0 b r0 w.drew hr.drew hq rfl hpq hKp hKq)
  have hbi : ((b.toNat : Nat) : Int) = 8 := by rw [hb]; rfl
  rw [hbi] at HK
  have HHB := hide hb
  clear hb hbi
  have hnm : nm (8 : Int) 1 = true := by decide
  have HN : Hid (∀ X, Fr [p, q] w X → Calls Tryz.prog 37 #[.int .i64 8, .int .i64 1] X fun e w' => e = .returned (.bool true) ∧ w' = X) := fun X hX => by
    have h := names_any 8 1 X (HTT.out X hX)
    rw [hnm] at h
    exact h
  clear hr hq hT hnm
  unfold WalkOut
  go_enter Tryz.func22, Tryz.ntmps22
  go_wp2_with fail
  go_region_with (go_at_call 209; refine HK.out.mono ?_; rintro x w0 ⟨rfl, hF0, hR0, hq0⟩)
  have HF0 : Hid (Fr [p, q] w w0) := frN (Fr.refl _ _) hF0
  have HR0 : Hid (Rs K p w0 (some r0)) := hR0
  have HQ0 : Hid (w0.heap[q]? = some (.cells (rcs ⟨8, ⟨#[]⟩, ⟨#[]⟩, ⟨#[]⟩, ⟨#[]⟩, ⟨#[]⟩, ⟨#[]⟩, [], 0⟩ (.slice none 0 0)) 26 (0, 0))) := hq0
  clear HK hF0 hR0 hq0
  have c0 : w0.cell? ⟨q, 0, none⟩ = some (.int .i64 8) := cell_of HQ0.out 0
  have HNN := hide (HN.out w0 HF0.out)
  have HT := hide (rtext_any K p q 1 (rcs ⟨8, ⟨#[]⟩, ⟨#[]⟩, ⟨#[]⟩, ⟨#[]⟩, ⟨#[]⟩, ⟨#[]⟩, [], 0⟩ (.slice none 0 0)) 26 ⟨#[]⟩ (some r0) w0.drew HR0.out.drew HQ0.out rfl hpq hKp hKq)
  go_wp2_with (go_at_call 37; refine HNN.out.mono ?_; rintro x w9 ⟨rfl, h9⟩; obtain rfl := h9.symm)
  go_region_with (go_at_call 211; refine HT.out.mono ?_; rintro x w1 ⟨rfl, y_id, s1, hst, hy, hR, hq, hF⟩)
  have HF1 : Hid (Fr [p, q] w w1) := frN HF0.out hF
  have HR1 := hide hR
  have HQ1 : Hid (w1.heap[q]? = some (.cells (rcs ⟨8, y_id, ⟨#[]⟩, ⟨#[]⟩, ⟨#[]⟩, ⟨#[]⟩, ⟨#[]⟩, [], 0⟩ (.slice none 0 0)) 26 (0, 0))) := hq
  have HS1 := hide hst
  have HY_id := hide hy
  clear HT hst hy hR hq hF c0 HNN
  have c0 : w1.cell? ⟨q, 0, none⟩ = some (.int .i64 8) := cell_of HQ1.out 0
  go_wp2_with fail
  first | go_end0 | refine bodyPost_end (results_none rfl _ _ _) rfl ?_
  exact ⟨rfl, ⟨8, y_id, ⟨#[]⟩, ⟨#[]⟩, ⟨#[]⟩, ⟨#[]⟩, ⟨#[]⟩, [], 0⟩, _, s1, HQ1.out, World.ownsRow_nil _ _ _ _, HR1.out, HF1.out, ⟨⟨HY_id.out, e_low, e_low, e_low, e_low, e_low, fun s hs => by cases hs⟩, Nat.zero_le _⟩, fin_8 HHB.out HS1.out⟩

set_option maxRecDepth 100000 in
set_option maxHeartbeats 25600000 in
theorem walkR_10 (K p q : Nat) (b : UInt8) (r0 : List UInt8) (w : World) (hb : b.toNat = 10) (hr : Rs K p w (some (b :: r0))) (hq : w.heap[q]? = some (.cells zrec 26 (0, 0))) (hT : KTab w) (hG : 7 < K) (hpq : p ≠ q) (hKp : K ≤ p) (hKq : K ≤ q) :
    Calls Tryz.prog 22 #[.pointer (some ⟨q, 0, none⟩), .iface 60 (.pointer (some ⟨p, 0, none⟩))] w (WalkOut K p q (b :: r0) w) := by
  have n_kind := rnil_kind ⟨p, 0, none⟩
  have m_kind := rmet_kind ⟨p, 0, none⟩
  have n_text := rnil_text ⟨p, 0, none⟩
  have m_text := rmet_text ⟨p, 0, none⟩
  have HPL : Hid (p < w.heap.size ∧ q < w.heap.size) := ⟨hr.lt, (Array.getElem?_eq_some_iff.1 hq).1⟩
  have HTT : Hid (∀ X, Fr [p, q] w X → KTab X) := fun X hX => ktab_fr hT hX (by omega) (by omega)
  have HK := hide (rkind_cons K p q zrec 26 0 b r0 w.drew hr.drew hq rfl hpq hKp hKq)
  have hbi : ((b.toNat : Nat) : Int) = 10 := by rw [hb]; rfl
  rw [hbi] at HK
  have HHB := hide hb
  clear hb hbi
  have hnm : nm (10 : Int) 1 = true := by decide
  have HN : Hid (∀ X, Fr [p, q] w X → Calls Tryz.prog 37 #[.int .i64 10, .int .i64 1] X fun e w' => e = .returned (.bool true) ∧ w' = X) := fun X hX => by
    have h := names_any 10 1 X (HTT.out X hX)
    rw [hnm] at h
    exact h
  clear hr hq hT hnm
  unfold WalkOut
  go_enter Tryz.func22, Tryz.ntmps22
  go_wp2_with fail
  go_region_with (go_at_call 209; refine HK.out.mono ?_; rintro x w0 ⟨rfl, hF0, hR0, hq0⟩)
  have HF0 : Hid (Fr [p, q] w w0) := frN (Fr.refl _ _) hF0
  have HR0 : Hid (Rs K p w0 (some r0)) := hR0
  have HQ0 : Hid (w0.heap[q]? = some (.cells (rcs ⟨10, ⟨#[]⟩, ⟨#[]⟩, ⟨#[]⟩, ⟨#[]⟩, ⟨#[]⟩, ⟨#[]⟩, [], 0⟩ (.slice none 0 0)) 26 (0, 0))) := hq0
  clear HK hF0 hR0 hq0
  have c0 : w0.cell? ⟨q, 0, none⟩ = some (.int .i64 10) := cell_of HQ0.out 0
  have HNN := hide (HN.out w0 HF0.out)
  have HT := hide (rtext_any K p q 1 (rcs ⟨10, ⟨#[]⟩, ⟨#[]⟩, ⟨#[]⟩, ⟨#[]⟩, ⟨#[]⟩, ⟨#[]⟩, [], 0⟩ (.slice none 0 0)) 26 ⟨#[]⟩ (some r0) w0.drew HR0.out.drew HQ0.out rfl hpq hKp hKq)
  go_wp2_with (go_at_call 37; refine HNN.out.mono ?_; rintro x w9 ⟨rfl, h9⟩; obtain rfl := h9.symm)
  go_region_with (go_at_call 211; refine HT.out.mono ?_; rintro x w1 ⟨rfl, y_id, s1, hst, hy, hR, hq, hF⟩)
  have HF1 : Hid (Fr [p, q] w w1) := frN HF0.out hF
  have HR1 := hide hR
  have HQ1 : Hid (w1.heap[q]? = some (.cells (rcs ⟨10, y_id, ⟨#[]⟩, ⟨#[]⟩, ⟨#[]⟩, ⟨#[]⟩, ⟨#[]⟩, [], 0⟩ (.slice none 0 0)) 26 (0, 0))) := hq
  have HS1 := hide hst
  have HY_id := hide hy
  clear HT hst hy hR hq hF c0 HNN
  have c0 : w1.cell? ⟨q, 0, none⟩ = some (.int .i64 10) := cell_of HQ1.out 0
  go_wp2_with fail
  first | go_end0 | refine bodyPost_end (results_none rfl _ _ _) rfl ?_
  exact ⟨rfl, ⟨10, y_id, ⟨#[]⟩, ⟨#[]⟩, ⟨#[]⟩, ⟨#[]⟩, ⟨#[]⟩, [], 0⟩, _, s1, HQ1.out, World.ownsRow_nil _ _ _ _, HR1.out, HF1.out, ⟨⟨HY_id.out, e_low, e_low, e_low, e_low, e_low, fun s hs => by cases hs⟩, Nat.zero_le _⟩, fin_10 HHB.out HS1.out⟩
end Go.Proofs.YtocpikgcbibcoaaGreatDoor.rc
