import Derived.Test.YtimbhneegphhbaaGreatDoorRcFin
import Derived.Test.YtimbhneegphhbaaGreatDoorRcDl
import Derived.Test.YtimbhneegphhbaaGreatDoorRcDec
import Derived.Test.YtimbhneegphhbaaGreatDoorRedLaid
namespace Go.Proofs.YtimbhneegphhbaaGreatDoor.rc
open Go.Proofs.YtimbhneegphhbaaGreatDoor.common

abbrev NOn := On numL (fun y => y < 72057594037927936)
theorem on_seq {α β : Type} {e1 : α → List UInt8} {e2 : β → List UInt8} {o1 : α → Prop} {o2 : β → Prop} {s s1 s2 : St} {x : α} {y : β} (h1 : On e1 o1 s x s1) (h2 : On e2 o2 s1 y s2) :
    On (fun z : α × β => e1 z.1 ++ e2 z.2) (fun z => o1 z.1 ∧ o2 z.2) s (x, y) s2 := fun z l hz e => by
  obtain ⟨a, b⟩ := z
  simp only [List.append_assoc] at e
  obtain ⟨c1, c2⟩ := h1 a _ hz.1 e
  obtain ⟨d1, d2⟩ := h2 b l hz.2 c2
  exact ⟨by rw [c1, d1], d2⟩
theorem at_small {y : Rec} (hm : mayB y = true) : y.at_ ≤ 1099511627776 := by
  unfold mayB at hm
  simp only [Bool.and_eq_true] at hm
  obtain ⟨_, _, _, _, _, _, _, _, hT⟩ := hm
  unfold fitT at hT
  split at hT
  · simp only [Bool.and_eq_true, decide_eq_true_eq] at hT; exact hT.2
  · simp only [decide_eq_true_eq] at hT; omega
theorem find_1 {b : UInt8} {r : List UInt8} (hb : b.toNat = 1) {y_id : ByteArray} {s1 : St} (h1 : TOn (some r) y_id s1) {y_us : ByteArray} {s2 : St} (h2 : TOn s1 y_us s2) {y_at : Nat} {s3 : St} (h3 : NOn s2 y_at s3) : ∀ y : Rec, mayB y = true → y.Low → b :: r = recL y → (⟨1, y_id, y_us, ⟨#[]⟩, ⟨#[]⟩, ⟨#[]⟩, ⟨#[]⟩, [], ((y_at : Nat) : Int)⟩ : Rec) = y ∧ s3 = some [] := by
  have hS := (on_seq (on_seq h1 h2) h3)
  have hnm : nm (1 : Int) 1 = true := by decide
  intro y hm hl e
  have hat := at_small hm
  obtain ⟨hk, k0, k1⟩ := kind_of hm e
  rw [hb] at hk
  have hk : y.k = 1 := hk
  have hF := (fine_of hm hl).2.2
  have e2 : some r = some ((fun z => ((txL ((z).1).1) ++ txL ((z).1).2) ++ numL (z).2) ((y.id, y.us), y.at_.toNat) ++ []) := by
    unfold recL idL midL endL at e
    rw [hk, hnm] at e
    have := (List.cons.inj e).2
    rw [this]
    simp
  obtain ⟨c1, c2⟩ := hS ((y.id, y.us), y.at_.toNat) [] ⟨⟨hl.id, hl.us⟩, (by show _ < _; omega)⟩ e2
  refine ⟨?_, c2⟩
  simp only [Prod.mk.injEq] at c1
  obtain ⟨⟨c_id, c_us⟩, c_at⟩ := c1
  unfold mayB t_id t_us t_cl t_rd t_ch t_cd fitS fitL fitT at hm
  rw [hk] at hm
  have n_id : nm (1 : Int) 1 = true := by decide
  have n_us : nm (1 : Int) 2 = true := by decide
  have n_cl : nm (1 : Int) 4 = false := by decide
  have n_rd : nm (1 : Int) 8 = false := by decide
  have n_ch : nm (1 : Int) 16 = false := by decide
  have n_cd : nm (1 : Int) 32 = false := by decide
  have n_ss : nm (1 : Int) 64 = false := by decide
  have n_at : nm (1 : Int) 128 = true := by decide
  rw [n_id, n_us, n_cl, n_rd, n_ch, n_cd, n_ss, n_at] at hm
  simp only [Bool.and_eq_true, Bool.false_eq_true, if_false, if_true, decide_eq_true_eq] at hm
  obtain ⟨_, m_id, m_us, m_cl, m_rd, m_ch, m_cd, m_ss, m_at⟩ := hm
  obtain ⟨yk, yid, yus, ycl, yrd, ych, ycd, yss, yat⟩ := y
  simp only at hk c_id c_us c_at m_id m_us m_cl m_rd m_ch m_cd m_ss m_at
  have := hF.at0
  simp only at this
  rw [Rec.mk.injEq]
  exact ⟨hk.symm, c_id, c_us, (emp_of m_cl).symm, (emp_of m_rd).symm, (emp_of m_ch).symm, (emp_of m_cd).symm, (List.eq_nil_of_length_eq_zero m_ss).symm, by omega⟩
theorem find_2 {b : UInt8} {r : List UInt8} (hb : b.toNat = 2) {y_id : ByteArray} {s1 : St} (h1 : TOn (some r) y_id s1) : ∀ y : Rec, mayB y = true → y.Low → b :: r = recL y → (⟨2, y_id, ⟨#[]⟩, ⟨#[]⟩, ⟨#[]⟩, ⟨#[]⟩, ⟨#[]⟩, [], 0⟩ : Rec) = y ∧ s1 = some [] := by
  have hS := h1
  have hnm : nm (2 : Int) 1 = true := by decide
  intro y hm hl e
  have hat := at_small hm
  obtain ⟨hk, k0, k1⟩ := kind_of hm e
  rw [hb] at hk
  have hk : y.k = 2 := hk
  have hF := (fine_of hm hl).2.2
  have e2 : some r = some ((fun z => txL z) y.id ++ []) := by
    unfold recL idL midL endL at e
    rw [hk, hnm] at e
    have := (List.cons.inj e).2
    rw [this]
    simp
  obtain ⟨c1, c2⟩ := hS y.id [] hl.id e2
  refine ⟨?_, c2⟩
  have c_id := c1
  unfold mayB t_id t_us t_cl t_rd t_ch t_cd fitS fitL fitT at hm
  rw [hk] at hm
  have n_id : nm (2 : Int) 1 = true := by decide
  have n_us : nm (2 : Int) 2 = false := by decide
  have n_cl : nm (2 : Int) 4 = false := by decide
  have n_rd : nm (2 : Int) 8 = false := by decide
  have n_ch : nm (2 : Int) 16 = false := by decide
  have n_cd : nm (2 : Int) 32 = false := by decide
  have n_ss : nm (2 : Int) 64 = false := by decide
  have n_at : nm (2 : Int) 128 = false := by decide
  rw [n_id, n_us, n_cl, n_rd, n_ch, n_cd, n_ss, n_at] at hm
  simp only [Bool.and_eq_true, Bool.false_eq_true, if_false, if_true, decide_eq_true_eq] at hm
  obtain ⟨_, m_id, m_us, m_cl, m_rd, m_ch, m_cd, m_ss, m_at⟩ := hm
  obtain ⟨yk, yid, yus, ycl, yrd, ych, ycd, yss, yat⟩ := y
  simp only at hk c_id m_id m_us m_cl m_rd m_ch m_cd m_ss m_at
  have := hF.at0
  simp only at this
  rw [Rec.mk.injEq]
  exact ⟨hk.symm, c_id, (emp_of m_us).symm, (emp_of m_cl).symm, (emp_of m_rd).symm, (emp_of m_ch).symm, (emp_of m_cd).symm, (List.eq_nil_of_length_eq_zero m_ss).symm, m_at.symm⟩
theorem find_3 {b : UInt8} {r : List UInt8} (hb : b.toNat = 3) {y_cl : ByteArray} {s1 : St} (h1 : TOn (some r) y_cl s1) {y_ss : List ByteArray} {s2 : St} (h2 : LOn s1 y_ss s2) {y_us : ByteArray} {s3 : St} (h3 : TOn s2 y_us s3) {y_at : Nat} {s4 : St} (h4 : NOn s3 y_at s4) : ∀ y : Rec, mayB y = true → y.Low → b :: r = recL y → (⟨3, ⟨#[]⟩, y_us, y_cl, ⟨#[]⟩, ⟨#[]⟩, ⟨#[]⟩, y_ss, ((y_at : Nat) : Int)⟩ : Rec) = y ∧ s4 = some [] := by
  have hS := (on_seq (on_seq (on_seq h1 h2) h3) h4)
  have hnm : nm (3 : Int) 1 = false := by decide
  intro y hm hl e
  have hat := at_small hm
  obtain ⟨hk, k0, k1⟩ := kind_of hm e
  rw [hb] at hk
  have hk : y.k = 3 := hk
  have hF := (fine_of hm hl).2.2
  have e2 : some r = some ((fun z => (((txL (((z).1).1).1) ++ lsL (((z).1).1).2) ++ txL ((z).1).2) ++ numL (z).2) (((y.cl, y.ss), y.us), y.at_.toNat) ++ []) := by
    unfold recL idL midL endL at e
    rw [hk, hnm] at e
    have := (List.cons.inj e).2
    rw [this]
    simp
  obtain ⟨c1, c2⟩ := hS (((y.cl, y.ss), y.us), y.at_.toNat) [] ⟨⟨⟨hl.cl, ⟨hF.len, hl.ss⟩⟩, hl.us⟩, (by show _ < _; omega)⟩ e2
  refine ⟨?_, c2⟩
  simp only [Prod.mk.injEq] at c1
  obtain ⟨⟨⟨c_cl, c_ss⟩, c_us⟩, c_at⟩ := c1
  unfold mayB t_id t_us t_cl t_rd t_ch t_cd fitS fitL fitT at hm
  rw [hk] at hm
  have n_id : nm (3 : Int) 1 = false := by decide
  have n_us : nm (3 : Int) 2 = true := by decide
  have n_cl : nm (3 : Int) 4 = true := by decide
  have n_rd : nm (3 : Int) 8 = false := by decide
  have n_ch : nm (3 : Int) 16 = false := by decide
  have n_cd : nm (3 : Int) 32 = false := by decide
  have n_ss : nm (3 : Int) 64 = true := by decide
  have n_at : nm (3 : Int) 128 = true := by decide
  rw [n_id, n_us, n_cl, n_rd, n_ch, n_cd, n_ss, n_at] at hm
  simp only [Bool.and_eq_true, Bool.false_eq_true, if_false, if_true, decide_eq_true_eq] at hm
  obtain ⟨_, m_id, m_us, m_cl, m_rd, m_ch, m_cd, m_ss, m_at⟩ := hm
  obtain ⟨yk, yid, yus, ycl, yrd, ych, ycd, yss, yat⟩ := y
  simp only at hk c_cl c_ss c_us c_at m_id m_us m_cl m_rd m_ch m_cd m_ss m_at
  have := hF.at0
  simp only at this
  rw [Rec.mk.injEq]
  exact ⟨hk.symm, (emp_of m_id).symm, c_us, c_cl, (emp_of m_rd).symm, (emp_of m_ch).symm, (emp_of m_cd).symm, c_ss, by omega⟩
theorem find_4 {b : UInt8} {r : List UInt8} (hb : b.toNat = 4) {y_id : ByteArray} {s1 : St} (h1 : TOn (some r) y_id s1) {y_rd : ByteArray} {s2 : St} (h2 : TOn s1 y_rd s2) {y_ch : ByteArray} {s3 : St} (h3 : TOn s2 y_ch s3) {y_cl : ByteArray} {s4 : St} (h4 : TOn s3 y_cl s4) {y_ss : List ByteArray} {s5 : St} (h5 : LOn s4 y_ss s5) {y_us : ByteArray} {s6 : St} (h6 : TOn s5 y_us s6) {y_at : Nat} {s7 : St} (h7 : NOn s6 y_at s7) : ∀ y : Rec, mayB y = true → y.Low → b :: r = recL y → (⟨4, y_id, y_us, y_cl, y_rd, y_ch, ⟨#[]⟩, y_ss, ((y_at : Nat) : Int)⟩ : Rec) = y ∧ s7 = some [] := by
  have hS := (on_seq (on_seq (on_seq (on_seq (on_seq (on_seq h1 h2) h3) h4) h5) h6) h7)
  have hnm : nm (4 : Int) 1 = true := by decide
  intro y hm hl e
  have hat := at_small hm
  obtain ⟨hk, k0, k1⟩ := kind_of hm e
  rw [hb] at hk
  have hk : y.k = 4 := hk
  have hF := (fine_of hm hl).2.2
  have e2 : some r = some ((fun z => ((((((txL ((((((z).1).1).1).1).1).1) ++ txL ((((((z).1).1).1).1).1).2) ++ txL (((((z).1).1).1).1).2) ++ txL ((((z).1).1).1).2) ++ lsL (((z).1).1).2) ++ txL ((z).1).2) ++ numL (z).2) ((((((y.id, y.rd), y.ch), y.cl), y.ss), y.us), y.at_.toNat) ++ []) := by
    unfold recL idL midL endL at e
    rw [hk, hnm] at e
    have := (List.cons.inj e).2
    rw [this]
    simp
  obtain ⟨c1, c2⟩ := hS ((((((y.id, y.rd), y.ch), y.cl), y.ss), y.us), y.at_.toNat) [] ⟨⟨⟨⟨⟨⟨hl.id, hl.rd⟩, hl.ch⟩, hl.cl⟩, ⟨hF.len, hl.ss⟩⟩, hl.us⟩, (by show _ < _; omega)⟩ e2
  refine ⟨?_, c2⟩
  simp only [Prod.mk.injEq] at c1
  obtain ⟨⟨⟨⟨⟨⟨c_id, c_rd⟩, c_ch⟩, c_cl⟩, c_ss⟩, c_us⟩, c_at⟩ := c1
  unfold mayB t_id t_us t_cl t_rd t_ch t_cd fitS fitL fitT at hm
  rw [hk] at hm
  have n_id : nm (4 : Int) 1 = true := by decide
  have n_us : nm (4 : Int) 2 = true := by decide
  have n_cl : nm (4 : Int) 4 = true := by decide
  have n_rd : nm (4 : Int) 8 = true := by decide
  have n_ch : nm (4 : Int) 16 = true := by decide
  have n_cd : nm (4 : Int) 32 = false := by decide
  have n_ss : nm (4 : Int) 64 = true := by decide
  have n_at : nm (4 : Int) 128 = true := by decide
  rw [n_id, n_us, n_cl, n_rd, n_ch, n_cd, n_ss, n_at] at hm
  simp only [Bool.and_eq_true, Bool.false_eq_true, if_false, if_true, decide_eq_true_eq] at hm
  obtain ⟨_, m_id, m_us, m_cl, m_rd, m_ch, m_cd, m_ss, m_at⟩ := hm
  obtain ⟨yk, yid, yus, ycl, yrd, ych, ycd, yss, yat⟩ := y
  simp only at hk c_id c_rd c_ch c_cl c_ss c_us c_at m_id m_us m_cl m_rd m_ch m_cd m_ss m_at
  have := hF.at0
  simp only at this
  rw [Rec.mk.injEq]
  exact ⟨hk.symm, c_id, c_us, c_cl, c_rd, c_ch, (emp_of m_cd).symm, c_ss, by omega⟩
theorem find_5 {b : UInt8} {r : List UInt8} (hb : b.toNat = 5) {y_id : ByteArray} {s1 : St} (h1 : TOn (some r) y_id s1) : ∀ y : Rec, mayB y = true → y.Low → b :: r = recL y → (⟨5, y_id, ⟨#[]⟩, ⟨#[]⟩, ⟨#[]⟩, ⟨#[]⟩, ⟨#[]⟩, [], 0⟩ : Rec) = y ∧ s1 = some [] := by
  have hS := h1
  have hnm : nm (5 : Int) 1 = true := by decide
  intro y hm hl e
  have hat := at_small hm
  obtain ⟨hk, k0, k1⟩ := kind_of hm e
  rw [hb] at hk
  have hk : y.k = 5 := hk
  have hF := (fine_of hm hl).2.2
  have e2 : some r = some ((fun z => txL z) y.id ++ []) := by
    unfold recL idL midL endL at e
    rw [hk, hnm] at e
    have := (List.cons.inj e).2
    rw [this]
    simp
  obtain ⟨c1, c2⟩ := hS y.id [] hl.id e2
  refine ⟨?_, c2⟩
  have c_id := c1
  unfold mayB t_id t_us t_cl t_rd t_ch t_cd fitS fitL fitT at hm
  rw [hk] at hm
  have n_id : nm (5 : Int) 1 = true := by decide
  have n_us : nm (5 : Int) 2 = false := by decide
  have n_cl : nm (5 : Int) 4 = false := by decide
  have n_rd : nm (5 : Int) 8 = false := by decide
  have n_ch : nm (5 : Int) 16 = false := by decide
  have n_cd : nm (5 : Int) 32 = false := by decide
  have n_ss : nm (5 : Int) 64 = false := by decide
  have n_at : nm (5 : Int) 128 = false := by decide
  rw [n_id, n_us, n_cl, n_rd, n_ch, n_cd, n_ss, n_at] at hm
  simp only [Bool.and_eq_true, Bool.false_eq_true, if_false, if_true, decide_eq_true_eq] at hm
  obtain ⟨_, m_id, m_us, m_cl, m_rd, m_ch, m_cd, m_ss, m_at⟩ := hm
  obtain ⟨yk, yid, yus, ycl, yrd, ych, ycd, yss, yat⟩ := y
  simp only at hk c_id m_id m_us m_cl m_rd m_ch m_cd m_ss m_at
  have := hF.at0
  simp only at this
  rw [Rec.mk.injEq]
  exact ⟨hk.symm, c_id, (emp_of m_us).symm, (emp_of m_cl).symm, (emp_of m_rd).symm, (emp_of m_ch).symm, (emp_of m_cd).symm, (List.eq_nil_of_length_eq_zero m_ss).symm, m_at.symm⟩
theorem find_6 {b : UInt8} {r : List UInt8} (hb : b.toNat = 6) {y_id : ByteArray} {s1 : St} (h1 : TOn (some r) y_id s1) {y_cd : ByteArray} {s2 : St} (h2 : TOn s1 y_cd s2) {y_cl : ByteArray} {s3 : St} (h3 : TOn s2 y_cl s3) {y_ss : List ByteArray} {s4 : St} (h4 : LOn s3 y_ss s4) {y_us : ByteArray} {s5 : St} (h5 : TOn s4 y_us s5) {y_at : Nat} {s6 : St} (h6 : NOn s5 y_at s6) : ∀ y : Rec, mayB y = true → y.Low → b :: r = recL y → (⟨6, y_id, y_us, y_cl, ⟨#[]⟩, ⟨#[]⟩, y_cd, y_ss, ((y_at : Nat) : Int)⟩ : Rec) = y ∧ s6 = some [] := by
  have hS := (on_seq (on_seq (on_seq (on_seq (on_seq h1 h2) h3) h4) h5) h6)
  have hnm : nm (6 : Int) 1 = true := by decide
  intro y hm hl e
  have hat := at_small hm
  obtain ⟨hk, k0, k1⟩ := kind_of hm e
  rw [hb] at hk
  have hk : y.k = 6 := hk
  have hF := (fine_of hm hl).2.2
  have e2 : some r = some ((fun z => (((((txL (((((z).1).1).1).1).1) ++ txL (((((z).1).1).1).1).2) ++ txL ((((z).1).1).1).2) ++ lsL (((z).1).1).2) ++ txL ((z).1).2) ++ numL (z).2) (((((y.id, y.cd), y.cl), y.ss), y.us), y.at_.toNat) ++ []) := by
    unfold recL idL midL endL at e
    rw [hk, hnm] at e
    have := (List.cons.inj e).2
    rw [this]
    simp
  obtain ⟨c1, c2⟩ := hS (((((y.id, y.cd), y.cl), y.ss), y.us), y.at_.toNat) [] ⟨⟨⟨⟨⟨hl.id, hl.cd⟩, hl.cl⟩, ⟨hF.len, hl.ss⟩⟩, hl.us⟩, (by show _ < _; omega)⟩ e2
  refine ⟨?_, c2⟩
  simp only [Prod.mk.injEq] at c1
  obtain ⟨⟨⟨⟨⟨c_id, c_cd⟩, c_cl⟩, c_ss⟩, c_us⟩, c_at⟩ := c1
  unfold mayB t_id t_us t_cl t_rd t_ch t_cd fitS fitL fitT at hm
  rw [hk] at hm
  have n_id : nm (6 : Int) 1 = true := by decide
  have n_us : nm (6 : Int) 2 = true := by decide
  have n_cl : nm (6 : Int) 4 = true := by decide
  have n_rd : nm (6 : Int) 8 = false := by decide
  have n_ch : nm (6 : Int) 16 = false := by decide
  have n_cd : nm (6 : Int) 32 = true := by decide
  have n_ss : nm (6 : Int) 64 = true := by decide
  have n_at : nm (6 : Int) 128 = true := by decide
  rw [n_id, n_us, n_cl, n_rd, n_ch, n_cd, n_ss, n_at] at hm
  simp only [Bool.and_eq_true, Bool.false_eq_true, if_false, if_true, decide_eq_true_eq] at hm
  obtain ⟨_, m_id, m_us, m_cl, m_rd, m_ch, m_cd, m_ss, m_at⟩ := hm
  obtain ⟨yk, yid, yus, ycl, yrd, ych, ycd, yss, yat⟩ := y
  simp only at hk c_id c_cd c_cl c_ss c_us c_at m_id m_us m_cl m_rd m_ch m_cd m_ss m_at
  have := hF.at0
  simp only at this
  rw [Rec.mk.injEq]
  exact ⟨hk.symm, c_id, c_us, c_cl, (emp_of m_rd).symm, (emp_of m_ch).symm, c_cd, c_ss, by omega⟩
theorem find_7 {b : UInt8} {r : List UInt8} (hb : b.toNat = 7) {y_id : ByteArray} {s1 : St} (h1 : TOn (some r) y_id s1) : ∀ y : Rec, mayB y = true → y.Low → b :: r = recL y → (⟨7, y_id, ⟨#[]⟩, ⟨#[]⟩, ⟨#[]⟩, ⟨#[]⟩, ⟨#[]⟩, [], 0⟩ : Rec) = y ∧ s1 = some [] := by
  have hS := h1
  have hnm : nm (7 : Int) 1 = true := by decide
  intro y hm hl e
  have hat := at_small hm
  obtain ⟨hk, k0, k1⟩ := kind_of hm e
  rw [hb] at hk
  have hk : y.k = 7 := hk
  have hF := (fine_of hm hl).2.2
  have e2 : some r = some ((fun z => txL z) y.id ++ []) := by
    unfold recL idL midL endL at e
    rw [hk, hnm] at e
    have := (List.cons.inj e).2
    rw [this]
    simp
  obtain ⟨c1, c2⟩ := hS y.id [] hl.id e2
  refine ⟨?_, c2⟩
  have c_id := c1
  unfold mayB t_id t_us t_cl t_rd t_ch t_cd fitS fitL fitT at hm
  rw [hk] at hm
  have n_id : nm (7 : Int) 1 = true := by decide
  have n_us : nm (7 : Int) 2 = false := by decide
  have n_cl : nm (7 : Int) 4 = false := by decide
  have n_rd : nm (7 : Int) 8 = false := by decide
  have n_ch : nm (7 : Int) 16 = false := by decide
  have n_cd : nm (7 : Int) 32 = false := by decide
  have n_ss : nm (7 : Int) 64 = false := by decide
  have n_at : nm (7 : Int) 128 = false := by decide
  rw [n_id, n_us, n_cl, n_rd, n_ch, n_cd, n_ss, n_at] at hm
  simp only [Bool.and_eq_true, Bool.false_eq_true, if_false, if_true, decide_eq_true_eq] at hm
  obtain ⟨_, m_id, m_us, m_cl, m_rd, m_ch, m_cd, m_ss, m_at⟩ := hm
  obtain ⟨yk, yid, yus, ycl, yrd, ych, ycd, yss, yat⟩ := y
  simp only at hk c_id m_id m_us m_cl m_rd m_ch m_cd m_ss m_at
  have := hF.at0
  simp only at this
  rw [Rec.mk.injEq]
  exact ⟨hk.symm, c_id, (emp_of m_us).symm, (emp_of m_cl).symm, (emp_of m_rd).symm, (emp_of m_ch).symm, (emp_of m_cd).symm, (List.eq_nil_of_length_eq_zero m_ss).symm, m_at.symm⟩
theorem find_8 {b : UInt8} {r : List UInt8} (hb : b.toNat = 8) {y_id : ByteArray} {s1 : St} (h1 : TOn (some r) y_id s1) : ∀ y : Rec, mayB y = true → y.Low → b :: r = recL y → (⟨8, y_id, ⟨#[]⟩, ⟨#[]⟩, ⟨#[]⟩, ⟨#[]⟩, ⟨#[]⟩, [], 0⟩ : Rec) = y ∧ s1 = some [] := by
  have hS := h1
  have hnm : nm (8 : Int) 1 = true := by decide
  intro y hm hl e
  have hat := at_small hm
  obtain ⟨hk, k0, k1⟩ := kind_of hm e
  rw [hb] at hk
  have hk : y.k = 8 := hk
  have hF := (fine_of hm hl).2.2
  have e2 : some r = some ((fun z => txL z) y.id ++ []) := by
    unfold recL idL midL endL at e
    rw [hk, hnm] at e
    have := (List.cons.inj e).2
    rw [this]
    simp
  obtain ⟨c1, c2⟩ := hS y.id [] hl.id e2
  refine ⟨?_, c2⟩
  have c_id := c1
  unfold mayB t_id t_us t_cl t_rd t_ch t_cd fitS fitL fitT at hm
  rw [hk] at hm
  have n_id : nm (8 : Int) 1 = true := by decide
  have n_us : nm (8 : Int) 2 = false := by decide
  have n_cl : nm (8 : Int) 4 = false := by decide
  have n_rd : nm (8 : Int) 8 = false := by decide
  have n_ch : nm (8 : Int) 16 = false := by decide
  have n_cd : nm (8 : Int) 32 = false := by decide
  have n_ss : nm (8 : Int) 64 = false := by decide
  have n_at : nm (8 : Int) 128 = false := by decide
  rw [n_id, n_us, n_cl, n_rd, n_ch, n_cd, n_ss, n_at] at hm
  simp only [Bool.and_eq_true, Bool.false_eq_true, if_false, if_true, decide_eq_true_eq] at hm
  obtain ⟨_, m_id, m_us, m_cl, m_rd, m_ch, m_cd, m_ss, m_at⟩ := hm
  obtain ⟨yk, yid, yus, ycl, yrd, ych, ycd, yss, yat⟩ := y
  simp only at hk c_id m_id m_us m_cl m_rd m_ch m_cd m_ss m_at
  have := hF.at0
  simp only at this
  rw [Rec.mk.injEq]
  exact ⟨hk.symm, c_id, (emp_of m_us).symm, (emp_of m_cl).symm, (emp_of m_rd).symm, (emp_of m_ch).symm, (emp_of m_cd).symm, (List.eq_nil_of_length_eq_zero m_ss).symm, m_at.symm⟩
theorem find_9 {b : UInt8} {r : List UInt8} (hb : b.toNat = 9) {y_id : ByteArray} {s1 : St} (h1 : TOn (some r) y_id s1) {y_cd : ByteArray} {s2 : St} (h2 : TOn s1 y_cd s2) {y_cl : ByteArray} {s3 : St} (h3 : TOn s2 y_cl s3) {y_ss : List ByteArray} {s4 : St} (h4 : LOn s3 y_ss s4) {y_us : ByteArray} {s5 : St} (h5 : TOn s4 y_us s5) {y_at : Nat} {s6 : St} (h6 : NOn s5 y_at s6) : ∀ y : Rec, mayB y = true → y.Low → b :: r = recL y → (⟨9, y_id, y_us, y_cl, ⟨#[]⟩, ⟨#[]⟩, y_cd, y_ss, ((y_at : Nat) : Int)⟩ : Rec) = y ∧ s6 = some [] := by
  have hS := (on_seq (on_seq (on_seq (on_seq (on_seq h1 h2) h3) h4) h5) h6)
  have hnm : nm (9 : Int) 1 = true := by decide
  intro y hm hl e
  have hat := at_small hm
  obtain ⟨hk, k0, k1⟩ := kind_of hm e
  rw [hb] at hk
  have hk : y.k = 9 := hk
  have hF := (fine_of hm hl).2.2
  have e2 : some r = some ((fun z => (((((txL (((((z).1).1).1).1).1) ++ txL (((((z).1).1).1).1).2) ++ txL ((((z).1).1).1).2) ++ lsL (((z).1).1).2) ++ txL ((z).1).2) ++ numL (z).2) (((((y.id, y.cd), y.cl), y.ss), y.us), y.at_.toNat) ++ []) := by
    unfold recL idL midL endL at e
    rw [hk, hnm] at e
    have := (List.cons.inj e).2
    rw [this]
    simp
  obtain ⟨c1, c2⟩ := hS (((((y.id, y.cd), y.cl), y.ss), y.us), y.at_.toNat) [] ⟨⟨⟨⟨⟨hl.id, hl.cd⟩, hl.cl⟩, ⟨hF.len, hl.ss⟩⟩, hl.us⟩, (by show _ < _; omega)⟩ e2
  refine ⟨?_, c2⟩
  simp only [Prod.mk.injEq] at c1
  obtain ⟨⟨⟨⟨⟨c_id, c_cd⟩, c_cl⟩, c_ss⟩, c_us⟩, c_at⟩ := c1
  unfold mayB t_id t_us t_cl t_rd t_ch t_cd fitS fitL fitT at hm
  rw [hk] at hm
  have n_id : nm (9 : Int) 1 = true := by decide
  have n_us : nm (9 : Int) 2 = true := by decide
  have n_cl : nm (9 : Int) 4 = true := by decide
  have n_rd : nm (9 : Int) 8 = false := by decide
  have n_ch : nm (9 : Int) 16 = false := by decide
  have n_cd : nm (9 : Int) 32 = true := by decide
  have n_ss : nm (9 : Int) 64 = true := by decide
  have n_at : nm (9 : Int) 128 = true := by decide
  rw [n_id, n_us, n_cl, n_rd, n_ch, n_cd, n_ss, n_at] at hm
  simp only [Bool.and_eq_true, Bool.false_eq_true, if_false, if_true, decide_eq_true_eq] at hm
  obtain ⟨_, m_id, m_us, m_cl, m_rd, m_ch, m_cd, m_ss, m_at⟩ := hm
  obtain ⟨yk, yid, yus, ycl, yrd, ych, ycd, yss, yat⟩ := y
  simp only at hk c_id c_cd c_cl c_ss c_us c_at m_id m_us m_cl m_rd m_ch m_cd m_ss m_at
  have := hF.at0
  simp only at this
  rw [Rec.mk.injEq]
  exact ⟨hk.symm, c_id, c_us, c_cl, (emp_of m_rd).symm, (emp_of m_ch).symm, c_cd, c_ss, by omega⟩
theorem find_10 {b : UInt8} {r : List UInt8} (hb : b.toNat = 10) {y_id : ByteArray} {s1 : St} (h1 : TOn (some r) y_id s1) : ∀ y : Rec, mayB y = true → y.Low → b :: r = recL y → (⟨10, y_id, ⟨#[]⟩, ⟨#[]⟩, ⟨#[]⟩, ⟨#[]⟩, ⟨#[]⟩, [], 0⟩ : Rec) = y ∧ s1 = some [] := by
  have hS := h1
  have hnm : nm (10 : Int) 1 = true := by decide
  intro y hm hl e
  have hat := at_small hm
  obtain ⟨hk, k0, k1⟩ := kind_of hm e
  rw [hb] at hk
  have hk : y.k = 10 := hk
  have hF := (fine_of hm hl).2.2
  have e2 : some r = some ((fun z => txL z) y.id ++ []) := by
    unfold recL idL midL endL at e
    rw [hk, hnm] at e
    have := (List.cons.inj e).2
    rw [this]
    simp
  obtain ⟨c1, c2⟩ := hS y.id [] hl.id e2
  refine ⟨?_, c2⟩
  have c_id := c1
  unfold mayB t_id t_us t_cl t_rd t_ch t_cd fitS fitL fitT at hm
  rw [hk] at hm
  have n_id : nm (10 : Int) 1 = true := by decide
  have n_us : nm (10 : Int) 2 = false := by decide
  have n_cl : nm (10 : Int) 4 = false := by decide
  have n_rd : nm (10 : Int) 8 = false := by decide
  have n_ch : nm (10 : Int) 16 = false := by decide
  have n_cd : nm (10 : Int) 32 = false := by decide
  have n_ss : nm (10 : Int) 64 = false := by decide
  have n_at : nm (10 : Int) 128 = false := by decide
  rw [n_id, n_us, n_cl, n_rd, n_ch, n_cd, n_ss, n_at] at hm
  simp only [Bool.and_eq_true, Bool.false_eq_true, if_false, if_true, decide_eq_true_eq] at hm
  obtain ⟨_, m_id, m_us, m_cl, m_rd, m_ch, m_cd, m_ss, m_at⟩ := hm
  obtain ⟨yk, yid, yus, ycl, yrd, ych, ycd, yss, yat⟩ := y
  simp only at hk c_id m_id m_us m_cl m_rd m_ch m_cd m_ss m_at
  have := hF.at0
  simp only at this
  rw [Rec.mk.injEq]
  exact ⟨hk.symm, c_id, (emp_of m_us).symm, (emp_of m_cl).symm, (emp_of m_rd).symm, (emp_of m_ch).symm, (emp_of m_cd).symm, (List.eq_nil_of_length_eq_zero m_ss).symm, m_at.symm⟩
theorem find_11 {b : UInt8} {r : List UInt8} (hb : b.toNat = 11) {y_cl : ByteArray} {s1 : St} (h1 : TOn (some r) y_cl s1) {y_us : ByteArray} {s2 : St} (h2 : TOn s1 y_us s2) : ∀ y : Rec, mayB y = true → y.Low → b :: r = recL y → (⟨11, ⟨#[]⟩, y_us, y_cl, ⟨#[]⟩, ⟨#[]⟩, ⟨#[]⟩, [], 0⟩ : Rec) = y ∧ s2 = some [] := by
  have hS := (on_seq h1 h2)
  have hnm : nm (11 : Int) 1 = false := by decide
  intro y hm hl e
  have hat := at_small hm
  obtain ⟨hk, k0, k1⟩ := kind_of hm e
  rw [hb] at hk
  have hk : y.k = 11 := hk
  have hF := (fine_of hm hl).2.2
  have e2 : some r = some ((fun z => (txL (z).1) ++ txL (z).2) (y.cl, y.us) ++ []) := by
    unfold recL idL midL endL at e
    rw [hk, hnm] at e
    have := (List.cons.inj e).2
    rw [this]
    simp
  obtain ⟨c1, c2⟩ := hS (y.cl, y.us) [] ⟨hl.cl, hl.us⟩ e2
  refine ⟨?_, c2⟩
  simp only [Prod.mk.injEq] at c1
  obtain ⟨c_cl, c_us⟩ := c1
  unfold mayB t_id t_us t_cl t_rd t_ch t_cd fitS fitL fitT at hm
  rw [hk] at hm
  have n_id : nm (11 : Int) 1 = false := by decide
  have n_us : nm (11 : Int) 2 = true := by decide
  have n_cl : nm (11 : Int) 4 = true := by decide
  have n_rd : nm (11 : Int) 8 = false := by decide
  have n_ch : nm (11 : Int) 16 = false := by decide
  have n_cd : nm (11 : Int) 32 = false := by decide
  have n_ss : nm (11 : Int) 64 = false := by decide
  have n_at : nm (11 : Int) 128 = false := by decide
  rw [n_id, n_us, n_cl, n_rd, n_ch, n_cd, n_ss, n_at] at hm
  simp only [Bool.and_eq_true, Bool.false_eq_true, if_false, if_true, decide_eq_true_eq] at hm
  obtain ⟨_, m_id, m_us, m_cl, m_rd, m_ch, m_cd, m_ss, m_at⟩ := hm
  obtain ⟨yk, yid, yus, ycl, yrd, ych, ycd, yss, yat⟩ := y
  simp only at hk c_cl c_us m_id m_us m_cl m_rd m_ch m_cd m_ss m_at
  have := hF.at0
  simp only at this
  rw [Rec.mk.injEq]
  exact ⟨hk.symm, (emp_of m_id).symm, c_us, c_cl, (emp_of m_rd).symm, (emp_of m_ch).symm, (emp_of m_cd).symm, (List.eq_nil_of_length_eq_zero m_ss).symm, m_at.symm⟩
end Go.Proofs.YtimbhneegphhbaaGreatDoor.rc

namespace Go.Proofs.YtimbhneegphhbaaGreatDoor.rc
open Go.ChangeShapes Go.WideShapes Go.ChangeAt Go.RowKit Go.Proofs.YtimbhneegphhbaaGreatDoor.common Go.Proofs.YtimbhneegphhbaaGreatDoor.dk

/-- how the document's reading of a record ends -/
def DrOut (K p : Nat) (v : Value) (l : List UInt8) (w : World) (x : Ending) (w' : World) : Prop :=
  ∃ (r : Rec) (v' : Value) (a' : Nat) (b' : Bool), x = .returned (.agg (rcs r v')) ∧ Pl K p v l w' a' b' ∧ Fr [p] w w' ∧ w'.ownsRow w.heap.size 9 1 v' r.ss.length (r.ss.map Value.string) ∧ (r.Low ∧ r.ss.length ≤ 16) ∧ ∀ y : Rec, mayB y = true → y.Low → l = recL y → r = y ∧ b' = false
theorem st_end {l : List UInt8} {a : Nat} {b : Bool} {t : List UInt8} (h : stP l a b = some t) : b = false := by
  cases b with
  | false => rfl
  | true => cases h
/-- the box of the record, its result's, the place, within the walk -/
structure Dq (K p : Nat) (v : Value) (l : List UInt8) (w : World) (r : Rec) (u : Value) (a : Nat) (b : Bool) (X : World) : Prop where
  box : X.heap[w.heap.size + 1]? = some (.cells (rcs r u) 26 (0, 0))
  out : X.heap[w.heap.size]? = some (.cells zrec 26 (0, 0))
  pl : Pl K p v l X a b
  fr : Fr [p] w X
theorem Dq.next {K p : Nat} {v : Value} {l : List UInt8} {w : World} {r : Rec} {u : Value} {a a' : Nat} {b b' : Bool} {X Y : World} (h : Dq K p v l w r u a b X) (hp : p < w.heap.size) (hK : K ≤ p) (hf : Fr [p] X Y) (hpl : Pl K p v l Y a' b') (j : Nat) (z : Value) (r' : Rec) (u' : Value) (hr : (rcs r u).setIfInBounds j z = rcs r' u') : Dq K p v l w r' u' a' b' (Y.setCell ⟨w.heap.size + 1, j, none⟩ z) := by
  have hn : ∀ k, k ≠ p → k ∉ [p] := fun k hk hm => hk (List.mem_singleton.1 hm)
  have hb : Y.heap[w.heap.size + 1]? = some (.cells (rcs r u) 26 (0, 0)) := (hf.block _ (Array.getElem?_eq_some_iff.1 h.box).1 (hn _ (by omega))).trans h.box
  refine ⟨?_, ?_, ?_, ?_⟩
  · rw [← hr]; exact at_set (j := j) hb z
  · exact (set_other _ _ _ _ (show w.heap.size ≠ w.heap.size + 1 by omega)).trans ((hf.block _ (Array.getElem?_eq_some_iff.1 h.out).1 (hn _ (by omega))).trans h.out)
  · exact ⟨(set_other _ _ _ _ (show p ≠ w.heap.size + 1 by omega)).trans hpl.1, hpl.2.1.keep (fun g hg _ => set_other _ _ _ _ (show g ≠ w.heap.size + 1 by omega)) (by rw [size_set]; exact Nat.le_refl _), hpl.2.2⟩
  · have h1 := h.fr.trans hf (fun _ hi => Or.inl hi)
    exact ⟨h1.os, h1.tape, h1.output, by rw [size_set]; exact h1.size, fun k hk hm => (set_other _ _ _ _ (show k ≠ w.heap.size + 1 by omega)).trans (h1.block k hk hm)⟩
theorem Dq.boxed {K p : Nat} {v : Value} {l : List UInt8} {w : World} {r : Rec} {u : Value} {a : Nat} {b : Bool} {X Y : World} (h : Dq K p v l w r u a b X) (hp : p < w.heap.size) (hf : Fr [p] X Y) (j : Nat) : Y.cell? ⟨w.heap.size + 1, j, none⟩ = (rcs r u)[j]? ∧ Y.frozen? ⟨w.heap.size + 1, j, none⟩ = false := by
  have hb : Y.heap[w.heap.size + 1]? = some (.cells (rcs r u) 26 (0, 0)) := (hf.block _ (Array.getElem?_eq_some_iff.1 h.box).1 (fun hm => by have := List.mem_singleton.1 hm; omega)).trans h.box
  exact ⟨cell_of hb j, free_of hb j⟩
theorem own_one {p base q : Nat} {w w' : World} {t : TypeId} {z : Nat} {v : Value} {n : Nat} {xs : List Value} (h : w.ownsRow base t z v n xs) (hf : Fr [p] w w') (hp : p < base) (j : Nat) (u : Value) (hq : q < base) : (w'.setCell ⟨q, j, none⟩ u).ownsRow base t z v n xs :=
  own_at (own_pq h (q := p) (hf.mono (fun k hk => by rw [List.mem_singleton.1 hk]; exact List.mem_cons_self ..)) hp hp) (fun g hg => set_other _ _ _ _ (show g ≠ q by omega))
theorem Dq.fin {K p : Nat} {v : Value} {l : List UInt8} {w : World} {r : Rec} {u : Value} {a : Nat} {b : Bool} {X : World} (h : Dq K p v l w r u a b X) (hp : p < w.heap.size) (hK : K ≤ p) (cs : List Value) : Pl K p v l (X.setCells w.heap.size 0 cs) a b ∧ Fr [p] w (X.setCells w.heap.size 0 cs) := by
  have hb : Below w.heap.size X (X.setCells w.heap.size 0 cs) := ((Fr.refl [w.heap.size] X).sets w.heap.size 0 _ (Or.inl (List.mem_singleton.2 rfl))).below (fun k hk => by rw [List.mem_singleton.1 hk]; exact Nat.le_refl _) h.fr.size
  exact ⟨h.pl.low hb hp hK, fr_low h.fr hb⟩
end Go.Proofs.YtimbhneegphhbaaGreatDoor.rc
