import Derived.Test.YtimbhneegphhbaaGreatDoorRcRdM
import Derived.Test.YtimbhneegphhbaaGreatDoorRcEnc
namespace Go.Proofs.YtimbhneegphhbaaGreatDoor.rc
open Go.Proofs.YtimbhneegphhbaaGreatDoor.common

theorem step_seq {α β : Type} {e1 : α → List UInt8} {e2 : β → List UInt8} {o1 : α → Prop} {o2 : β → Prop} {s s1 s2 : St} {x : α} {y : β} (h1 : Step e1 o1 s x s1) (h2 : Step e2 o2 s1 y s2) :
    Step (fun z : α × β => e1 z.1 ++ e2 z.2) (fun z => o1 z.1 ∧ o2 z.2) s (x, y) s2 := by
  refine ⟨?_, fun z l hz e => ?_⟩
  · rcases h2.back with h | ⟨t, a1, a2⟩
    · exact Or.inl h
    · rcases h1.back with h | ⟨t', b1, b2⟩
      · rw [h] at a1; cases a1
      · rw [b2] at a1
        cases a1
        exact Or.inr ⟨t, by rw [b1]; simp, a2⟩
  · obtain ⟨a, b⟩ := z
    simp only [List.append_assoc] at e
    obtain ⟨c1, c2⟩ := h1.on a _ hz.1 e
    obtain ⟨d1, d2⟩ := h2.on b l hz.2 c2
    exact ⟨by rw [c1, d1], d2⟩
/-- what a reading of l says: r, and what is left -/
structure Fin (l : List UInt8) (r : Rec) (s : St) : Prop where
  back : isK r.k = true → s = none ∨ ∃ t, s = some t ∧ l = recL r ++ t
  on : ∀ y : Rec, mayB y = true → y.Low → l = recL y → r = y ∧ s = some []
theorem low_lt {s : ByteArray} (h : s.size ≤ 1048576) : s.size < 9223372036854775808 := by omega
theorem emp_of {s : ByteArray} (h : s.size = 0) : s = ⟨#[]⟩ := by
  obtain ⟨a⟩ := s
  have : a.size = 0 := h
  rw [Array.eq_empty_of_size_eq_zero this]
theorem kind_of {y : Rec} {b : UInt8} {r : List UInt8} (hm : mayB y = true) (h : b :: r = recL y) : y.k = ((b.toNat : Nat) : Int) ∧ 0 < y.k ∧ y.k < 12 := by
  unfold mayB isK at hm
  simp only [Bool.and_eq_true, decide_eq_true_eq] at hm
  obtain ⟨⟨k0, k1⟩, _⟩ := hm
  unfold recL at h
  have hb : b = UInt8.ofNat y.k.toNat := by
    have := (List.cons.inj h).1
    exact this
  have : (UInt8.ofNat y.k.toNat).toNat = y.k.toNat := by rw [UInt8.toNat_ofNat']; omega
  rw [hb, this]
  exact ⟨by omega, k0, k1⟩
theorem fin_none {y : Rec} (hk : ([] : List UInt8) = recL y) : False := by
  unfold recL at hk
  cases hk
theorem fin_1 {b : UInt8} {r : List UInt8} (hb : b.toNat = 1) {y_id : ByteArray} {s1 : St} (h1 : TStep (some r) y_id s1) {y_us : ByteArray} {s2 : St} (h2 : TStep s1 y_us s2) {y_at : Nat} {s3 : St} (h3 : NStep s2 y_at s3) : Fin (b :: r) ⟨1, y_id, y_us, ⟨#[]⟩, ⟨#[]⟩, ⟨#[]⟩, ⟨#[]⟩, [], ((y_at : Nat) : Int)⟩ s3 := by
  have hS := (step_seq (step_seq h1 h2) h3)
  have hnm : nm (1 : Int) 1 = true := by decide
  refine ⟨fun _ => ?_, fun y hm hl e => ?_⟩
  · rcases hS.back with h | ⟨t, a1, a2⟩
    · exact Or.inl h
    · refine Or.inr ⟨t, a2, ?_⟩
      cases a1
      have hbb : b = UInt8.ofNat 1 := by rw [← hb]; exact (u8_of b _ rfl).symm
      unfold recL idL midL endL
      simp [hnm, hbb]
  · obtain ⟨hk, k0, k1⟩ := kind_of hm e
    rw [hb] at hk
    have hk : y.k = 1 := hk
    have hF := (fine_of hm hl).2.2
    have e2 : some r = some ((fun z => ((txL ((z).1).1) ++ txL ((z).1).2) ++ numL (z).2) ((y.id, y.us), y.at_.toNat) ++ []) := by
      unfold recL idL midL endL at e
      rw [hk, hnm] at e
      have := (List.cons.inj e).2
      rw [this]
      simp
    obtain ⟨c1, c2⟩ := hS.on ((y.id, y.us), y.at_.toNat) [] ⟨⟨(low_lt hl.id), (low_lt hl.us)⟩, (by have := hF.at1; omega)⟩ e2
    refine ⟨?_, c2⟩
    simp only [Prod.mk.injEq] at c1
    obtain ⟨⟨c_id, c_us⟩, c_at⟩ := c1
    unfold mayB t_id t_us t_cl t_rd t_ch t_cd fitS fitL fitT at hm
    rw [hk] at hm
    have n_id : nm (1 : Int) 1 = true := by decide
    have n_us : nm (1 : Int) 2 = true := by decide
    have n_cl : nm (1 : Int) 4 = false := by decide
    have n_rd : nm (1 : Int) 8 = false := by decide
    have n_ch : nm (1 : Int) 16 = false := by decide
    have n_cd : nm (1 : Int) 32 = false := by decide
    have n_ss : nm (1 : Int) 64 = false := by decide
    have n_at : nm (1 : Int) 128 = true := by decide
    rw [n_id, n_us, n_cl, n_rd, n_ch, n_cd, n_ss, n_at] at hm
    simp only [Bool.and_eq_true, Bool.false_eq_true, if_false, if_true, decide_eq_true_eq] at hm
    obtain ⟨_, m_id, m_us, m_cl, m_rd, m_ch, m_cd, m_ss, m_at⟩ := hm
    obtain ⟨yk, yid, yus, ycl, yrd, ych, ycd, yss, yat⟩ := y
    simp only at hk c_id c_us c_at m_id m_us m_cl m_rd m_ch m_cd m_ss m_at
    have := hF.at0
    simp only at this
    rw [Rec.mk.injEq]
    exact ⟨hk.symm, c_id, c_us, (emp_of m_cl).symm, (emp_of m_rd).symm, (emp_of m_ch).symm, (emp_of m_cd).symm, (List.eq_nil_of_length_eq_zero m_ss).symm, by omega⟩
theorem fin_2 {b : UInt8} {r : List UInt8} (hb : b.toNat = 2) {y_id : ByteArray} {s1 : St} (h1 : TStep (some r) y_id s1) : Fin (b :: r) ⟨2, y_id, ⟨#[]⟩, ⟨#[]⟩, ⟨#[]⟩, ⟨#[]⟩, ⟨#[]⟩, [], 0⟩ s1 := by
  have hS := h1
  have hnm : nm (2 : Int) 1 = true := by decide
  refine ⟨fun _ => ?_, fun y hm hl e => ?_⟩
  · rcases hS.back with h | ⟨t, a1, a2⟩
    · exact Or.inl h
    · refine Or.inr ⟨t, a2, ?_⟩
      cases a1
      have hbb : b = UInt8.ofNat 2 := by rw [← hb]; exact (u8_of b _ rfl).symm
      unfold recL idL midL endL
      simp [hnm, hbb]
  · obtain ⟨hk, k0, k1⟩ := kind_of hm e
    rw [hb] at hk
    have hk : y.k = 2 := hk
    have hF := (fine_of hm hl).2.2
    have e2 : some r = some ((fun z => txL z) y.id ++ []) := by
      unfold recL idL midL endL at e
      rw [hk, hnm] at e
      have := (List.cons.inj e).2
      rw [this]
      simp
    obtain ⟨c1, c2⟩ := hS.on y.id [] (low_lt hl.id) e2
    refine ⟨?_, c2⟩
    have c_id := c1
    unfold mayB t_id t_us t_cl t_rd t_ch t_cd fitS fitL fitT at hm
    rw [hk] at hm
    have n_id : nm (2 : Int) 1 = true := by decide
    have n_us : nm (2 : Int) 2 = false := by decide
    have n_cl : nm (2 : Int) 4 = false := by decide
    have n_rd : nm (2 : Int) 8 = false := by decide
    have n_ch : nm (2 : Int) 16 = false := by decide
    have n_cd : nm (2 : Int) 32 = false := by decide
    have n_ss : nm (2 : Int) 64 = false := by decide
    have n_at : nm (2 : Int) 128 = false := by decide
    rw [n_id, n_us, n_cl, n_rd, n_ch, n_cd, n_ss, n_at] at hm
    simp only [Bool.and_eq_true, Bool.false_eq_true, if_false, if_true, decide_eq_true_eq] at hm
    obtain ⟨_, m_id, m_us, m_cl, m_rd, m_ch, m_cd, m_ss, m_at⟩ := hm
    obtain ⟨yk, yid, yus, ycl, yrd, ych, ycd, yss, yat⟩ := y
    simp only at hk c_id m_id m_us m_cl m_rd m_ch m_cd m_ss m_at
    have := hF.at0
    simp only at this
    rw [Rec.mk.injEq]
    exact ⟨hk.symm, c_id, (emp_of m_us).symm, (emp_of m_cl).symm, (emp_of m_rd).symm, (emp_of m_ch).symm, (emp_of m_cd).symm, (List.eq_nil_of_length_eq_zero m_ss).symm, m_at.symm⟩
theorem fin_3 {b : UInt8} {r : List UInt8} (hb : b.toNat = 3) {y_cl : ByteArray} {s1 : St} (h1 : TStep (some r) y_cl s1) {y_ss : List ByteArray} {s2 : St} (h2 : LStep s1 y_ss s2) {y_us : ByteArray} {s3 : St} (h3 : TStep s2 y_us s3) {y_at : Nat} {s4 : St} (h4 : NStep s3 y_at s4) : Fin (b :: r) ⟨3, ⟨#[]⟩, y_us, y_cl, ⟨#[]⟩, ⟨#[]⟩, ⟨#[]⟩, y_ss, ((y_at : Nat) : Int)⟩ s4 := by
  have hS := (step_seq (step_seq (step_seq h1 h2) h3) h4)
  have hnm : nm (3 : Int) 1 = false := by decide
  refine ⟨fun _ => ?_, fun y hm hl e => ?_⟩
  · rcases hS.back with h | ⟨t, a1, a2⟩
    · exact Or.inl h
    · refine Or.inr ⟨t, a2, ?_⟩
      cases a1
      have hbb : b = UInt8.ofNat 3 := by rw [← hb]; exact (u8_of b _ rfl).symm
      unfold recL idL midL endL
      simp [hnm, hbb]
  · obtain ⟨hk, k0, k1⟩ := kind_of hm e
    rw [hb] at hk
    have hk : y.k = 3 := hk
    have hF := (fine_of hm hl).2.2
    have e2 : some r = some ((fun z => (((txL (((z).1).1).1) ++ lsL (((z).1).1).2) ++ txL ((z).1).2) ++ numL (z).2) (((y.cl, y.ss), y.us), y.at_.toNat) ++ []) := by
      unfold recL idL midL endL at e
      rw [hk, hnm] at e
      have := (List.cons.inj e).2
      rw [this]
      simp
    obtain ⟨c1, c2⟩ := hS.on (((y.cl, y.ss), y.us), y.at_.toNat) [] ⟨⟨⟨(low_lt hl.cl), ⟨hF.len, fun s hs => low_lt (hl.ss s hs)⟩⟩, (low_lt hl.us)⟩, (by have := hF.at1; omega)⟩ e2
    refine ⟨?_, c2⟩
    simp only [Prod.mk.injEq] at c1
    obtain ⟨⟨⟨c_cl, c_ss⟩, c_us⟩, c_at⟩ := c1
    unfold mayB t_id t_us t_cl t_rd t_ch t_cd fitS fitL fitT at hm
    rw [hk] at hm
    have n_id : nm (3 : Int) 1 = false := by decide
    have n_us : nm (3 : Int) 2 = true := by decide
    have n_cl : nm (3 : Int) 4 = true := by decide
    have n_rd : nm (3 : Int) 8 = false := by decide
    have n_ch : nm (3 : Int) 16 = false := by decide
    have n_cd : nm (3 : Int) 32 = false := by decide
    have n_ss : nm (3 : Int) 64 = true := by decide
    have n_at : nm (3 : Int) 128 = true := by decide
    rw [n_id, n_us, n_cl, n_rd, n_ch, n_cd, n_ss, n_at] at hm
    simp only [Bool.and_eq_true, Bool.false_eq_true, if_false, if_true, decide_eq_true_eq] at hm
    obtain ⟨_, m_id, m_us, m_cl, m_rd, m_ch, m_cd, m_ss, m_at⟩ := hm
    obtain ⟨yk, yid, yus, ycl, yrd, ych, ycd, yss, yat⟩ := y
    simp only at hk c_cl c_ss c_us c_at m_id m_us m_cl m_rd m_ch m_cd m_ss m_at
    have := hF.at0
    simp only at this
    rw [Rec.mk.injEq]
    exact ⟨hk.symm, (emp_of m_id).symm, c_us, c_cl, (emp_of m_rd).symm, (emp_of m_ch).symm, (emp_of m_cd).symm, c_ss, by omega⟩
theorem fin_4 {b : UInt8} {r : List UInt8} (hb : b.toNat = 4) {y_id : ByteArray} {s1 : St} (h1 : TStep (some r) y_id s1) {y_rd : ByteArray} {s2 : St} (h2 : TStep s1 y_rd s2) {y_ch : ByteArray} {s3 : St} (h3 : TStep s2 y_ch s3) {y_cl : ByteArray} {s4 : St} (h4 : TStep s3 y_cl s4) {y_ss : List ByteArray} {s5 : St} (h5 : LStep s4 y_ss s5) {y_us : ByteArray} {s6 : St} (h6 : TStep s5 y_us s6) {y_at : Nat} {s7 : St} (h7 : NStep s6 y_at s7) : Fin (b :: r) ⟨4, y_id, y_us, y_cl, y_rd, y_ch, ⟨#[]⟩, y_ss, ((y_at : Nat) : Int)⟩ s7 := by
  have hS := (step_seq (step_seq (step_seq (step_seq (step_seq (step_seq h1 h2) h3) h4) h5) h6) h7)
  have hnm : nm (4 : Int) 1 = true := by decide
  refine ⟨fun _ => ?_, fun y hm hl e => ?_⟩
  · rcases hS.back with h | ⟨t, a1, a2⟩
    · exact Or.inl h
    · refine Or.inr ⟨t, a2, ?_⟩
      cases a1
      have hbb : b = UInt8.ofNat 4 := by rw [← hb]; exact (u8_of b _ rfl).symm
      unfold recL idL midL endL
      simp [hnm, hbb]
  · obtain ⟨hk, k0, k1⟩ := kind_of hm e
    rw [hb] at hk
    have hk : y.k = 4 := hk
    have hF := (fine_of hm hl).2.2
    have e2 : some r = some ((fun z => ((((((txL ((((((z).1).1).1).1).1).1) ++ txL ((((((z).1).1).1).1).1).2) ++ txL (((((z).1).1).1).1).2) ++ txL ((((z).1).1).1).2) ++ lsL (((z).1).1).2) ++ txL ((z).1).2) ++ numL (z).2) ((((((y.id, y.rd), y.ch), y.cl), y.ss), y.us), y.at_.toNat) ++ []) := by
      unfold recL idL midL endL at e
      rw [hk, hnm] at e
      have := (List.cons.inj e).2
      rw [this]
      simp
    obtain ⟨c1, c2⟩ := hS.on ((((((y.id, y.rd), y.ch), y.cl), y.ss), y.us), y.at_.toNat) [] ⟨⟨⟨⟨⟨⟨(low_lt hl.id), (low_lt hl.rd)⟩, (low_lt hl.ch)⟩, (low_lt hl.cl)⟩, ⟨hF.len, fun s hs => low_lt (hl.ss s hs)⟩⟩, (low_lt hl.us)⟩, (by have := hF.at1; omega)⟩ e2
    refine ⟨?_, c2⟩
    simp only [Prod.mk.injEq] at c1
    obtain ⟨⟨⟨⟨⟨⟨c_id, c_rd⟩, c_ch⟩, c_cl⟩, c_ss⟩, c_us⟩, c_at⟩ := c1
    unfold mayB t_id t_us t_cl t_rd t_ch t_cd fitS fitL fitT at hm
    rw [hk] at hm
    have n_id : nm (4 : Int) 1 = true := by decide
    have n_us : nm (4 : Int) 2 = true := by decide
    have n_cl : nm (4 : Int) 4 = true := by decide
    have n_rd : nm (4 : Int) 8 = true := by decide
    have n_ch : nm (4 : Int) 16 = true := by decide
    have n_cd : nm (4 : Int) 32 = false := by decide
    have n_ss : nm (4 : Int) 64 = true := by decide
    have n_at : nm (4 : Int) 128 = true := by decide
    rw [n_id, n_us, n_cl, n_rd, n_ch, n_cd, n_ss, n_at] at hm
    simp only [Bool.and_eq_true, Bool.false_eq_true, if_false, if_true, decide_eq_true_eq] at hm
    obtain ⟨_, m_id, m_us, m_cl, m_rd, m_ch, m_cd, m_ss, m_at⟩ := hm
    obtain ⟨yk, yid, yus, ycl, yrd, ych, ycd, yss, yat⟩ := y
    simp only at hk c_id c_rd c_ch c_cl c_ss c_us c_at m_id m_us m_cl m_rd m_ch m_cd m_ss m_at
    have := hF.at0
    simp only at this
    rw [Rec.mk.injEq]
    exact ⟨hk.symm, c_id, c_us, c_cl, c_rd, c_ch, (emp_of m_cd).symm, c_ss, by omega⟩
theorem fin_5 {b : UInt8} {r : List UInt8} (hb : b.toNat = 5) {y_id : ByteArray} {s1 : St} (h1 : TStep (some r) y_id s1) : Fin (b :: r) ⟨5, y_id, ⟨#[]⟩, ⟨#[]⟩, ⟨#[]⟩, ⟨#[]⟩, ⟨#[]⟩, [], 0⟩ s1 := by
  have hS := h1
  have hnm : nm (5 : Int) 1 = true := by decide
  refine ⟨fun _ => ?_, fun y hm hl e => ?_⟩
  · rcases hS.back with h | ⟨t, a1, a2⟩
    · exact Or.inl h
    · refine Or.inr ⟨t, a2, ?_⟩
      cases a1
      have hbb : b = UInt8.ofNat 5 := by rw [← hb]; exact (u8_of b _ rfl).symm
      unfold recL idL midL endL
      simp [hnm, hbb]
  · obtain ⟨hk, k0, k1⟩ := kind_of hm e
    rw [hb] at hk
    have hk : y.k = 5 := hk
    have hF := (fine_of hm hl).2.2
    have e2 : some r = some ((fun z => txL z) y.id ++ []) := by
      unfold recL idL midL endL at e
      rw [hk, hnm] at e
      have := (List.cons.inj e).2
      rw [this]
      simp
    obtain ⟨c1, c2⟩ := hS.on y.id [] (low_lt hl.id) e2
    refine ⟨?_, c2⟩
    have c_id := c1
    unfold mayB t_id t_us t_cl t_rd t_ch t_cd fitS fitL fitT at hm
    rw [hk] at hm
    have n_id : nm (5 : Int) 1 = true := by decide
    have n_us : nm (5 : Int) 2 = false := by decide
    have n_cl : nm (5 : Int) 4 = false := by decide
    have n_rd : nm (5 : Int) 8 = false := by decide
    have n_ch : nm (5 : Int) 16 = false := by decide
    have n_cd : nm (5 : Int) 32 = false := by decide
    have n_ss : nm (5 : Int) 64 = false := by decide
    have n_at : nm (5 : Int) 128 = false := by decide
    rw [n_id, n_us, n_cl, n_rd, n_ch, n_cd, n_ss, n_at] at hm
    simp only [Bool.and_eq_true, Bool.false_eq_true, if_false, if_true, decide_eq_true_eq] at hm
    obtain ⟨_, m_id, m_us, m_cl, m_rd, m_ch, m_cd, m_ss, m_at⟩ := hm
    obtain ⟨yk, yid, yus, ycl, yrd, ych, ycd, yss, yat⟩ := y
    simp only at hk c_id m_id m_us m_cl m_rd m_ch m_cd m_ss m_at
    have := hF.at0
    simp only at this
    rw [Rec.mk.injEq]
    exact ⟨hk.symm, c_id, (emp_of m_us).symm, (emp_of m_cl).symm, (emp_of m_rd).symm, (emp_of m_ch).symm, (emp_of m_cd).symm, (List.eq_nil_of_length_eq_zero m_ss).symm, m_at.symm⟩
theorem fin_6 {b : UInt8} {r : List UInt8} (hb : b.toNat = 6) {y_id : ByteArray} {s1 : St} (h1 : TStep (some r) y_id s1) {y_cd : ByteArray} {s2 : St} (h2 : TStep s1 y_cd s2) {y_cl : ByteArray} {s3 : St} (h3 : TStep s2 y_cl s3) {y_ss : List ByteArray} {s4 : St} (h4 : LStep s3 y_ss s4) {y_us : ByteArray} {s5 : St} (h5 : TStep s4 y_us s5) {y_at : Nat} {s6 : St} (h6 : NStep s5 y_at s6) : Fin (b :: r) ⟨6, y_id, y_us, y_cl, ⟨#[]⟩, ⟨#[]⟩, y_cd, y_ss, ((y_at : Nat) : Int)⟩ s6 := by
  have hS := (step_seq (step_seq (step_seq (step_seq (step_seq h1 h2) h3) h4) h5) h6)
  have hnm : nm (6 : Int) 1 = true := by decide
  refine ⟨fun _ => ?_, fun y hm hl e => ?_⟩
  · rcases hS.back with h | ⟨t, a1, a2⟩
    · exact Or.inl h
    · refine Or.inr ⟨t, a2, ?_⟩
      cases a1
      have hbb : b = UInt8.ofNat 6 := by rw [← hb]; exact (u8_of b _ rfl).symm
      unfold recL idL midL endL
      simp [hnm, hbb]
  · obtain ⟨hk, k0, k1⟩ := kind_of hm e
    rw [hb] at hk
    have hk : y.k = 6 := hk
    have hF := (fine_of hm hl).2.2
    have e2 : some r = some ((fun z => (((((txL (((((z).1).1).1).1).1) ++ txL (((((z).1).1).1).1).2) ++ txL ((((z).1).1).1).2) ++ lsL (((z).1).1).2) ++ txL ((z).1).2) ++ numL (z).2) (((((y.id, y.cd), y.cl), y.ss), y.us), y.at_.toNat) ++ []) := by
      unfold recL idL midL endL at e
      rw [hk, hnm] at e
      have := (List.cons.inj e).2
      rw [this]
      simp
    obtain ⟨c1, c2⟩ := hS.on (((((y.id, y.cd), y.cl), y.ss), y.us), y.at_.toNat) [] ⟨⟨⟨⟨⟨(low_lt hl.id), (low_lt hl.cd)⟩, (low_lt hl.cl)⟩, ⟨hF.len, fun s hs => low_lt (hl.ss s hs)⟩⟩, (low_lt hl.us)⟩, (by have := hF.at1; omega)⟩ e2
    refine ⟨?_, c2⟩
    simp only [Prod.mk.injEq] at c1
    obtain ⟨⟨⟨⟨⟨c_id, c_cd⟩, c_cl⟩, c_ss⟩, c_us⟩, c_at⟩ := c1
    unfold mayB t_id t_us t_cl t_rd t_ch t_cd fitS fitL fitT at hm
    rw [hk] at hm
    have n_id : nm (6 : Int) 1 = true := by decide
    have n_us : nm (6 : Int) 2 = true := by decide
    have n_cl : nm (6 : Int) 4 = true := by decide
    have n_rd : nm (6 : Int) 8 = false := by decide
    have n_ch : nm (6 : Int) 16 = false := by decide
    have n_cd : nm (6 : Int) 32 = true := by decide
    have n_ss : nm (6 : Int) 64 = true := by decide
    have n_at : nm (6 : Int) 128 = true := by decide
    rw [n_id, n_us, n_cl, n_rd, n_ch, n_cd, n_ss, n_at] at hm
    simp only [Bool.and_eq_true, Bool.false_eq_true, if_false, if_true, decide_eq_true_eq] at hm
    obtain ⟨_, m_id, m_us, m_cl, m_rd, m_ch, m_cd, m_ss, m_at⟩ := hm
    obtain ⟨yk, yid, yus, ycl, yrd, ych, ycd, yss, yat⟩ := y
    simp only at hk c_id c_cd c_cl c_ss c_us c_at m_id m_us m_cl m_rd m_ch m_cd m_ss m_at
    have := hF.at0
    simp only at this
    rw [Rec.mk.injEq]
    exact ⟨hk.symm, c_id, c_us, c_cl, (emp_of m_rd).symm, (emp_of m_ch).symm, c_cd, c_ss, by omega⟩
theorem fin_7 {b : UInt8} {r : List UInt8} (hb : b.toNat = 7) {y_id : ByteArray} {s1 : St} (h1 : TStep (some r) y_id s1) : Fin (b :: r) ⟨7, y_id, ⟨#[]⟩, ⟨#[]⟩, ⟨#[]⟩, ⟨#[]⟩, ⟨#[]⟩, [], 0⟩ s1 := by
  have hS := h1
  have hnm : nm (7 : Int) 1 = true := by decide
  refine ⟨fun _ => ?_, fun y hm hl e => ?_⟩
  · rcases hS.back with h | ⟨t, a1, a2⟩
    · exact Or.inl h
    · refine Or.inr ⟨t, a2, ?_⟩
      cases a1
      have hbb : b = UInt8.ofNat 7 := by rw [← hb]; exact (u8_of b _ rfl).symm
      unfold recL idL midL endL
      simp [hnm, hbb]
  · obtain ⟨hk, k0, k1⟩ := kind_of hm e
    rw [hb] at hk
    have hk : y.k = 7 := hk
    have hF := (fine_of hm hl).2.2
    have e2 : some r = some ((fun z => txL z) y.id ++ []) := by
      unfold recL idL midL endL at e
      rw [hk, hnm] at e
      have := (List.cons.inj e).2
      rw [this]
      simp
    obtain ⟨c1, c2⟩ := hS.on y.id [] (low_lt hl.id) e2
    refine ⟨?_, c2⟩
    have c_id := c1
    unfold mayB t_id t_us t_cl t_rd t_ch t_cd fitS fitL fitT at hm
    rw [hk] at hm
    have n_id : nm (7 : Int) 1 = true := by decide
    have n_us : nm (7 : Int) 2 = false := by decide
    have n_cl : nm (7 : Int) 4 = false := by decide
    have n_rd : nm (7 : Int) 8 = false := by decide
    have n_ch : nm (7 : Int) 16 = false := by decide
    have n_cd : nm (7 : Int) 32 = false := by decide
    have n_ss : nm (7 : Int) 64 = false := by decide
    have n_at : nm (7 : Int) 128 = false := by decide
    rw [n_id, n_us, n_cl, n_rd, n_ch, n_cd, n_ss, n_at] at hm
    simp only [Bool.and_eq_true, Bool.false_eq_true, if_false, if_true, decide_eq_true_eq] at hm
    obtain ⟨_, m_id, m_us, m_cl, m_rd, m_ch, m_cd, m_ss, m_at⟩ := hm
    obtain ⟨yk, yid, yus, ycl, yrd, ych, ycd, yss, yat⟩ := y
    simp only at hk c_id m_id m_us m_cl m_rd m_ch m_cd m_ss m_at
    have := hF.at0
    simp only at this
    rw [Rec.mk.injEq]
    exact ⟨hk.symm, c_id, (emp_of m_us).symm, (emp_of m_cl).symm, (emp_of m_rd).symm, (emp_of m_ch).symm, (emp_of m_cd).symm, (List.eq_nil_of_length_eq_zero m_ss).symm, m_at.symm⟩
theorem fin_8 {b : UInt8} {r : List UInt8} (hb : b.toNat = 8) {y_id : ByteArray} {s1 : St} (h1 : TStep (some r) y_id s1) : Fin (b :: r) ⟨8, y_id, ⟨#[]⟩, ⟨#[]⟩, ⟨#[]⟩, ⟨#[]⟩, ⟨#[]⟩, [], 0⟩ s1 := by
  have hS := h1
  have hnm : nm (8 : Int) 1 = true := by decide
  refine ⟨fun _ => ?_, fun y hm hl e => ?_⟩
  · rcases hS.back with h | ⟨t, a1, a2⟩
    · exact Or.inl h
    · refine Or.inr ⟨t, a2, ?_⟩
      cases a1
      have hbb : b = UInt8.ofNat 8 := by rw [← hb]; exact (u8_of b _ rfl).symm
      unfold recL idL midL endL
      simp [hnm, hbb]
  · obtain ⟨hk, k0, k1⟩ := kind_of hm e
    rw [hb] at hk
    have hk : y.k = 8 := hk
    have hF := (fine_of hm hl).2.2
    have e2 : some r = some ((fun z => txL z) y.id ++ []) := by
      unfold recL idL midL endL at e
      rw [hk, hnm] at e
      have := (List.cons.inj e).2
      rw [this]
      simp
    obtain ⟨c1, c2⟩ := hS.on y.id [] (low_lt hl.id) e2
    refine ⟨?_, c2⟩
    have c_id := c1
    unfold mayB t_id t_us t_cl t_rd t_ch t_cd fitS fitL fitT at hm
    rw [hk] at hm
    have n_id : nm (8 : Int) 1 = true := by decide
    have n_us : nm (8 : Int) 2 = false := by decide
    have n_cl : nm (8 : Int) 4 = false := by decide
    have n_rd : nm (8 : Int) 8 = false := by decide
    have n_ch : nm (8 : Int) 16 = false := by decide
    have n_cd : nm (8 : Int) 32 = false := by decide
    have n_ss : nm (8 : Int) 64 = false := by decide
    have n_at : nm (8 : Int) 128 = false := by decide
    rw [n_id, n_us, n_cl, n_rd, n_ch, n_cd, n_ss, n_at] at hm
    simp only [Bool.and_eq_true, Bool.false_eq_true, if_false, if_true, decide_eq_true_eq] at hm
    obtain ⟨_, m_id, m_us, m_cl, m_rd, m_ch, m_cd, m_ss, m_at⟩ := hm
    obtain ⟨yk, yid, yus, ycl, yrd, ych, ycd, yss, yat⟩ := y
    simp only at hk c_id m_id m_us m_cl m_rd m_ch m_cd m_ss m_at
    have := hF.at0
    simp only at this
    rw [Rec.mk.injEq]
    exact ⟨hk.symm, c_id, (emp_of m_us).symm, (emp_of m_cl).symm, (emp_of m_rd).symm, (emp_of m_ch).symm, (emp_of m_cd).symm, (List.eq_nil_of_length_eq_zero m_ss).symm, m_at.symm⟩
theorem fin_9 {b : UInt8} {r : List UInt8} (hb : b.toNat = 9) {y_id : ByteArray} {s1 : St} (h1 : TStep (some r) y_id s1) {y_cd : ByteArray} {s2 : St} (h2 : TStep s1 y_cd s2) {y_cl : ByteArray} {s3 : St} (h3 : TStep s2 y_cl s3) {y_ss : List ByteArray} {s4 : St} (h4 : LStep s3 y_ss s4) {y_us : ByteArray} {s5 : St} (h5 : TStep s4 y_us s5) {y_at : Nat} {s6 : St} (h6 : NStep s5 y_at s6) : Fin (b :: r) ⟨9, y_id, y_us, y_cl, ⟨#[]⟩, ⟨#[]⟩, y_cd, y_ss, ((y_at : Nat) : Int)⟩ s6 := by
  have hS := (step_seq (step_seq (step_seq (step_seq (step_seq h1 h2) h3) h4) h5) h6)
  have hnm : nm (9 : Int) 1 = true := by decide
  refine ⟨fun _ => ?_, fun y hm hl e => ?_⟩
  · rcases hS.back with h | ⟨t, a1, a2⟩
    · exact Or.inl h
    · refine Or.inr ⟨t, a2, ?_⟩
      cases a1
      have hbb : b = UInt8.ofNat 9 := by rw [← hb]; exact (u8_of b _ rfl).symm
      unfold recL idL midL endL
      simp [hnm, hbb]
  · obtain ⟨hk, k0, k1⟩ := kind_of hm e
    rw [hb] at hk
    have hk : y.k = 9 := hk
    have hF := (fine_of hm hl).2.2
    have e2 : some r = some ((fun z => (((((txL (((((z).1).1).1).1).1) ++ txL (((((z).1).1).1).1).2) ++ txL ((((z).1).1).1).2) ++ lsL (((z).1).1).2) ++ txL ((z).1).2) ++ numL (z).2) (((((y.id, y.cd), y.cl), y.ss), y.us), y.at_.toNat) ++ []) := by
      unfold recL idL midL endL at e
      rw [hk, hnm] at e
      have := (List.cons.inj e).2
      rw [this]
      simp
    obtain ⟨c1, c2⟩ := hS.on (((((y.id, y.cd), y.cl), y.ss), y.us), y.at_.toNat) [] ⟨⟨⟨⟨⟨(low_lt hl.id), (low_lt hl.cd)⟩, (low_lt hl.cl)⟩, ⟨hF.len, fun s hs => low_lt (hl.ss s hs)⟩⟩, (low_lt hl.us)⟩, (by have := hF.at1; omega)⟩ e2
    refine ⟨?_, c2⟩
    simp only [Prod.mk.injEq] at c1
    obtain ⟨⟨⟨⟨⟨c_id, c_cd⟩, c_cl⟩, c_ss⟩, c_us⟩, c_at⟩ := c1
    unfold mayB t_id t_us t_cl t_rd t_ch t_cd fitS fitL fitT at hm
    rw [hk] at hm
    have n_id : nm (9 : Int) 1 = true := by decide
    have n_us : nm (9 : Int) 2 = true := by decide
    have n_cl : nm (9 : Int) 4 = true := by decide
    have n_rd : nm (9 : Int) 8 = false := by decide
    have n_ch : nm (9 : Int) 16 = false := by decide
    have n_cd : nm (9 : Int) 32 = true := by decide
    have n_ss : nm (9 : Int) 64 = true := by decide
    have n_at : nm (9 : Int) 128 = true := by decide
    rw [n_id, n_us, n_cl, n_rd, n_ch, n_cd, n_ss, n_at] at hm
    simp only [Bool.and_eq_true, Bool.false_eq_true, if_false, if_true, decide_eq_true_eq] at hm
    obtain ⟨_, m_id, m_us, m_cl, m_rd, m_ch, m_cd, m_ss, m_at⟩ := hm
    obtain ⟨yk, yid, yus, ycl, yrd, ych, ycd, yss, yat⟩ := y
    simp only at hk c_id c_cd c_cl c_ss c_us c_at m_id m_us m_cl m_rd m_ch m_cd m_ss m_at
    have := hF.at0
    simp only at this
    rw [Rec.mk.injEq]
    exact ⟨hk.symm, c_id, c_us, c_cl, (emp_of m_rd).symm, (emp_of m_ch).symm, c_cd, c_ss, by omega⟩
theorem fin_10 {b : UInt8} {r : List UInt8} (hb : b.toNat = 10) {y_id : ByteArray} {s1 : St} (h1 : TStep (some r) y_id s1) : Fin (b :: r) ⟨10, y_id, ⟨#[]⟩, ⟨#[]⟩, ⟨#[]⟩, ⟨#[]⟩, ⟨#[]⟩, [], 0⟩ s1 := by
  have hS := h1
  have hnm : nm (10 : Int) 1 = true := by decide
  refine ⟨fun _ => ?_, fun y hm hl e => ?_⟩
  · rcases hS.back with h | ⟨t, a1, a2⟩
    · exact Or.inl h
    · refine Or.inr ⟨t, a2, ?_⟩
      cases a1
      have hbb : b = UInt8.ofNat 10 := by rw [← hb]; exact (u8_of b _ rfl).symm
      unfold recL idL midL endL
      simp [hnm, hbb]
  · obtain ⟨hk, k0, k1⟩ := kind_of hm e
    rw [hb] at hk
    have hk : y.k = 10 := hk
    have hF := (fine_of hm hl).2.2
    have e2 : some r = some ((fun z => txL z) y.id ++ []) := by
      unfold recL idL midL endL at e
      rw [hk, hnm] at e
      have := (List.cons.inj e).2
      rw [this]
      simp
    obtain ⟨c1, c2⟩ := hS.on y.id [] (low_lt hl.id) e2
    refine ⟨?_, c2⟩
    have c_id := c1
    unfold mayB t_id t_us t_cl t_rd t_ch t_cd fitS fitL fitT at hm
    rw [hk] at hm
    have n_id : nm (10 : Int) 1 = true := by decide
    have n_us : nm (10 : Int) 2 = false := by decide
    have n_cl : nm (10 : Int) 4 = false := by decide
    have n_rd : nm (10 : Int) 8 = false := by decide
    have n_ch : nm (10 : Int) 16 = false := by decide
    have n_cd : nm (10 : Int) 32 = false := by decide
    have n_ss : nm (10 : Int) 64 = false := by decide
    have n_at : nm (10 : Int) 128 = false := by decide
    rw [n_id, n_us, n_cl, n_rd, n_ch, n_cd, n_ss, n_at] at hm
    simp only [Bool.and_eq_true, Bool.false_eq_true, if_false, if_true, decide_eq_true_eq] at hm
    obtain ⟨_, m_id, m_us, m_cl, m_rd, m_ch, m_cd, m_ss, m_at⟩ := hm
    obtain ⟨yk, yid, yus, ycl, yrd, ych, ycd, yss, yat⟩ := y
    simp only at hk c_id m_id m_us m_cl m_rd m_ch m_cd m_ss m_at
    have := hF.at0
    simp only at this
    rw [Rec.mk.injEq]
    exact ⟨hk.symm, c_id, (emp_of m_us).symm, (emp_of m_cl).symm, (emp_of m_rd).symm, (emp_of m_ch).symm, (emp_of m_cd).symm, (List.eq_nil_of_length_eq_zero m_ss).symm, m_at.symm⟩
theorem fin_11 {b : UInt8} {r : List UInt8} (hb : b.toNat = 11) {y_cl : ByteArray} {s1 : St} (h1 : TStep (some r) y_cl s1) {y_us : ByteArray} {s2 : St} (h2 : TStep s1 y_us s2) : Fin (b :: r) ⟨11, ⟨#[]⟩, y_us, y_cl, ⟨#[]⟩, ⟨#[]⟩, ⟨#[]⟩, [], 0⟩ s2 := by
  have hS := (step_seq h1 h2)
  have hnm : nm (11 : Int) 1 = false := by decide
  refine ⟨fun _ => ?_, fun y hm hl e => ?_⟩
  · rcases hS.back with h | ⟨t, a1, a2⟩
    · exact Or.inl h
    · refine Or.inr ⟨t, a2, ?_⟩
      cases a1
      have hbb : b = UInt8.ofNat 11 := by rw [← hb]; exact (u8_of b _ rfl).symm
      unfold recL idL midL endL
      simp [hnm, hbb]
  · obtain ⟨hk, k0, k1⟩ := kind_of hm e
    rw [hb] at hk
    have hk : y.k = 11 := hk
    have hF := (fine_of hm hl).2.2
    have e2 : some r = some ((fun z => (txL (z).1) ++ txL (z).2) (y.cl, y.us) ++ []) := by
      unfold recL idL midL endL at e
      rw [hk, hnm] at e
      have := (List.cons.inj e).2
      rw [this]
      simp
    obtain ⟨c1, c2⟩ := hS.on (y.cl, y.us) [] ⟨(low_lt hl.cl), (low_lt hl.us)⟩ e2
    refine ⟨?_, c2⟩
    simp only [Prod.mk.injEq] at c1
    obtain ⟨c_cl, c_us⟩ := c1
    unfold mayB t_id t_us t_cl t_rd t_ch t_cd fitS fitL fitT at hm
    rw [hk] at hm
    have n_id : nm (11 : Int) 1 = false := by decide
    have n_us : nm (11 : Int) 2 = true := by decide
    have n_cl : nm (11 : Int) 4 = true := by decide
    have n_rd : nm (11 : Int) 8 = false := by decide
    have n_ch : nm (11 : Int) 16 = false := by decide
    have n_cd : nm (11 : Int) 32 = false := by decide
    have n_ss : nm (11 : Int) 64 = false := by decide
    have n_at : nm (11 : Int) 128 = false := by decide
    rw [n_id, n_us, n_cl, n_rd, n_ch, n_cd, n_ss, n_at] at hm
    simp only [Bool.and_eq_true, Bool.false_eq_true, if_false, if_true, decide_eq_true_eq] at hm
    obtain ⟨_, m_id, m_us, m_cl, m_rd, m_ch, m_cd, m_ss, m_at⟩ := hm
    obtain ⟨yk, yid, yus, ycl, yrd, ych, ycd, yss, yat⟩ := y
    simp only at hk c_cl c_us m_id m_us m_cl m_rd m_ch m_cd m_ss m_at
    have := hF.at0
    simp only at this
    rw [Rec.mk.injEq]
    exact ⟨hk.symm, (emp_of m_id).symm, c_us, c_cl, (emp_of m_rd).symm, (emp_of m_ch).symm, (emp_of m_cd).symm, (List.eq_nil_of_length_eq_zero m_ss).symm, m_at.symm⟩
end Go.Proofs.YtimbhneegphhbaaGreatDoor.rc
