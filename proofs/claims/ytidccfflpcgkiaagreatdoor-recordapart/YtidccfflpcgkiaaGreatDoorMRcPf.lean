import Derived.Test.YtidccfflpcgkiaaGreatDoorMRcTidM
import Derived.Test.YtidccfflpcgkiaaGreatDoorMRcWqA
namespace Go.Proofs.YtidccfflpcgkiaaGreatDoor.rc
open Go.Proofs.YtidccfflpcgkiaaGreatDoor.common

theorem pf_1 {a b : Rec} {t u : List UInt8} (ha : a.k = 1) (hb : b.k = 1) (ma : mayB a = true) (mb : mayB b = true) (e : recL a ++ t = recL b ++ u) : a = b ∧ t = u := by
  have za := may_sz ma
  have zb := may_sz mb
  have n_id : nm (1 : Int) 1 = true := by decide
  have n_us : nm (1 : Int) 2 = true := by decide
  have n_cl : nm (1 : Int) 4 = false := by decide
  have n_rd : nm (1 : Int) 8 = false := by decide
  have n_ch : nm (1 : Int) 16 = false := by decide
  have n_cd : nm (1 : Int) 32 = false := by decide
  have n_ss : nm (1 : Int) 64 = false := by decide
  have n_at : nm (1 : Int) 128 = true := by decide
  have e0 : txL a.id ++ (txL a.us ++ (numL a.at_.toNat ++ t)) = txL b.id ++ (txL b.us ++ (numL b.at_.toNat ++ u)) := by
    unfold recL idL midL endL at e
    rw [ha, hb, n_id] at e
    have := (List.cons.inj e).2
    simpa [List.append_assoc] using this
  obtain ⟨c_id, e1⟩ := tx_pf (by have := za.id; omega) (by have := zb.id; omega) e0
  obtain ⟨c_us, e2⟩ := tx_pf (by have := za.us; omega) (by have := zb.us; omega) e1
  obtain ⟨c_at, e3⟩ := num_pf (by have := za.at1; omega) (by have := zb.at1; omega) e2
  unfold mayB t_id t_us t_cl t_rd t_ch t_cd fitS fitL fitT at ma mb
  rw [ha] at ma
  rw [hb] at mb
  rw [n_id, n_us, n_cl, n_rd, n_ch, n_cd, n_ss, n_at] at ma mb
  simp only [Bool.and_eq_true, Bool.false_eq_true, if_false, if_true, decide_eq_true_eq] at ma mb
  obtain ⟨_, a_id, a_us, a_cl, a_rd, a_ch, a_cd, a_ss, a_at⟩ := ma
  obtain ⟨_, b_id, b_us, b_cl, b_rd, b_ch, b_cd, b_ss, b_at⟩ := mb
  have t0 := za.at0
  have t1 := zb.at0
  have c_cl : a.cl = b.cl := (emp_of a_cl).trans (emp_of b_cl).symm
  have c_rd : a.rd = b.rd := (emp_of a_rd).trans (emp_of b_rd).symm
  have c_ch : a.ch = b.ch := (emp_of a_ch).trans (emp_of b_ch).symm
  have c_cd : a.cd = b.cd := (emp_of a_cd).trans (emp_of b_cd).symm
  have c_ss : a.ss = b.ss := (List.eq_nil_of_length_eq_zero a_ss).trans (List.eq_nil_of_length_eq_zero b_ss).symm
  have c_at2 : a.at_ = b.at_ := by omega
  obtain ⟨ak, aid, aus, acl, ard, ach, acd, ass, aat⟩ := a
  obtain ⟨bk, bid, bus, bcl, brd, bch, bcd, bss, bat⟩ := b
  simp only at ha hb c_id c_us c_cl c_rd c_ch c_cd c_ss c_at2
  exact ⟨by rw [Rec.mk.injEq]; exact ⟨ha.trans hb.symm, c_id, c_us, c_cl, c_rd, c_ch, c_cd, c_ss, c_at2⟩, e3⟩
theorem pf_2 {a b : Rec} {t u : List UInt8} (ha : a.k = 2) (hb : b.k = 2) (ma : mayB a = true) (mb : mayB b = true) (e : recL a ++ t = recL b ++ u) : a = b ∧ t = u := by
  have za := may_sz ma
  have zb := may_sz mb
  have n_id : nm (2 : Int) 1 = true := by decide
  have n_us : nm (2 : Int) 2 = false := by decide
  have n_cl : nm (2 : Int) 4 = false := by decide
  have n_rd : nm (2 : Int) 8 = false := by decide
  have n_ch : nm (2 : Int) 16 = false := by decide
  have n_cd : nm (2 : Int) 32 = false := by decide
  have n_ss : nm (2 : Int) 64 = false := by decide
  have n_at : nm (2 : Int) 128 = false := by decide
  have e0 : txL a.id ++ t = txL b.id ++ u := by
    unfold recL idL midL endL at e
    rw [ha, hb, n_id] at e
    have := (List.cons.inj e).2
    simpa [List.append_assoc] using this
  obtain ⟨c_id, e1⟩ := tx_pf (by have := za.id; omega) (by have := zb.id; omega) e0
  unfold mayB t_id t_us t_cl t_rd t_ch t_cd fitS fitL fitT at ma mb
  rw [ha] at ma
  rw [hb] at mb
  rw [n_id, n_us, n_cl, n_rd, n_ch, n_cd, n_ss, n_at] at ma mb
  simp only [Bool.and_eq_true, Bool.false_eq_true, if_false, if_true, decide_eq_true_eq] at ma mb
  obtain ⟨_, a_id, a_us, a_cl, a_rd, a_ch, a_cd, a_ss, a_at⟩ := ma
  obtain ⟨_, b_id, b_us, b_cl, b_rd, b_ch, b_cd, b_ss, b_at⟩ := mb
  have t0 := za.at0
  have t1 := zb.at0
  have c_us : a.us = b.us := (emp_of a_us).trans (emp_of b_us).symm
  have c_cl : a.cl = b.cl := (emp_of a_cl).trans (emp_of b_cl).symm
  have c_rd : a.rd = b.rd := (emp_of a_rd).trans (emp_of b_rd).symm
  have c_ch : a.ch = b.ch := (emp_of a_ch).trans (emp_of b_ch).symm
  have c_cd : a.cd = b.cd := (emp_of a_cd).trans (emp_of b_cd).symm
  have c_ss : a.ss = b.ss := (List.eq_nil_of_length_eq_zero a_ss).trans (List.eq_nil_of_length_eq_zero b_ss).symm
  have c_at2 : a.at_ = b.at_ := by omega
  obtain ⟨ak, aid, aus, acl, ard, ach, acd, ass, aat⟩ := a
  obtain ⟨bk, bid, bus, bcl, brd, bch, bcd, bss, bat⟩ := b
  simp only at ha hb c_id c_us c_cl c_rd c_ch c_cd c_ss c_at2
  exact ⟨by rw [Rec.mk.injEq]; exact ⟨ha.trans hb.symm, c_id, c_us, c_cl, c_rd, c_ch, c_cd, c_ss, c_at2⟩, e1⟩
theorem pf_3 {a b : Rec} {t u : List UInt8} (ha : a.k = 3) (hb : b.k = 3) (ma : mayB a = true) (mb : mayB b = true) (e : recL a ++ t = recL b ++ u) : a = b ∧ t = u := by
  have za := may_sz ma
  have zb := may_sz mb
  have n_id : nm (3 : Int) 1 = false := by decide
  have n_us : nm (3 : Int) 2 = true := by decide
  have n_cl : nm (3 : Int) 4 = true := by decide
  have n_rd : nm (3 : Int) 8 = false := by decide
  have n_ch : nm (3 : Int) 16 = false := by decide
  have n_cd : nm (3 : Int) 32 = false := by decide
  have n_ss : nm (3 : Int) 64 = true := by decide
  have n_at : nm (3 : Int) 128 = true := by decide
  have e0 : txL a.cl ++ (lsL a.ss ++ (txL a.us ++ (numL a.at_.toNat ++ t))) = txL b.cl ++ (lsL b.ss ++ (txL b.us ++ (numL b.at_.toNat ++ u))) := by
    unfold recL idL midL endL at e
    rw [ha, hb, n_id] at e
    have := (List.cons.inj e).2
    simpa [List.append_assoc] using this
  obtain ⟨c_cl, e1⟩ := tx_pf (by have := za.cl; omega) (by have := zb.cl; omega) e0
  obtain ⟨c_ss, e2⟩ := ls_pf za.len zb.len za.ss zb.ss e1
  obtain ⟨c_us, e3⟩ := tx_pf (by have := za.us; omega) (by have := zb.us; omega) e2
  obtain ⟨c_at, e4⟩ := num_pf (by have := za.at1; omega) (by have := zb.at1; omega) e3
  unfold mayB t_id t_us t_cl t_rd t_ch t_cd fitS fitL fitT at ma mb
  rw [ha] at ma
  rw [hb] at mb
  rw [n_id, n_us, n_cl, n_rd, n_ch, n_cd, n_ss, n_at] at ma mb
  simp only [Bool.and_eq_true, Bool.false_eq_true, if_false, if_true, decide_eq_true_eq] at ma mb
  obtain ⟨_, a_id, a_us, a_cl, a_rd, a_ch, a_cd, a_ss, a_at⟩ := ma
  obtain ⟨_, b_id, b_us, b_cl, b_rd, b_ch, b_cd, b_ss, b_at⟩ := mb
  have t0 := za.at0
  have t1 := zb.at0
  have c_id : a.id = b.id := (emp_of a_id).trans (emp_of b_id).symm
  have c_rd : a.rd = b.rd := (emp_of a_rd).trans (emp_of b_rd).symm
  have c_ch : a.ch = b.ch := (emp_of a_ch).trans (emp_of b_ch).symm
  have c_cd : a.cd = b.cd := (emp_of a_cd).trans (emp_of b_cd).symm
  have c_at2 : a.at_ = b.at_ := by omega
  obtain ⟨ak, aid, aus, acl, ard, ach, acd, ass, aat⟩ := a
  obtain ⟨bk, bid, bus, bcl, brd, bch, bcd, bss, bat⟩ := b
  simp only at ha hb c_id c_us c_cl c_rd c_ch c_cd c_ss c_at2
  exact ⟨by rw [Rec.mk.injEq]; exact ⟨ha.trans hb.symm, c_id, c_us, c_cl, c_rd, c_ch, c_cd, c_ss, c_at2⟩, e4⟩
theorem pf_4 {a b : Rec} {t u : List UInt8} (ha : a.k = 4) (hb : b.k = 4) (ma : mayB a = true) (mb : mayB b = true) (e : recL a ++ t = recL b ++ u) : a = b ∧ t = u := by
  have za := may_sz ma
  have zb := may_sz mb
  have n_id : nm (4 : Int) 1 = true := by decide
  have n_us : nm (4 : Int) 2 = true := by decide
  have n_cl : nm (4 : Int) 4 = true := by decide
  have n_rd : nm (4 : Int) 8 = true := by decide
  have n_ch : nm (4 : Int) 16 = true := by decide
  have n_cd : nm (4 : Int) 32 = false := by decide
  have n_ss : nm (4 : Int) 64 = true := by decide
  have n_at : nm (4 : Int) 128 = true := by decide
  have e0 : txL a.id ++ (txL a.rd ++ (txL a.ch ++ (txL a.cl ++ (lsL a.ss ++ (txL a.us ++ (numL a.at_.toNat ++ t)))))) = txL b.id ++ (txL b.rd ++ (txL b.ch ++ (txL b.cl ++ (lsL b.ss ++ (txL b.us ++ (numL b.at_.toNat ++ u)))))) := by
    unfold recL idL midL endL at e
    rw [ha, hb, n_id] at e
    have := (List.cons.inj e).2
    simpa [List.append_assoc] using this
  obtain ⟨c_id, e1⟩ := tx_pf (by have := za.id; omega) (by have := zb.id; omega) e0
  obtain ⟨c_rd, e2⟩ := tx_pf (by have := za.rd; omega) (by have := zb.rd; omega) e1
  obtain ⟨c_ch, e3⟩ := tx_pf (by have := za.ch; omega) (by have := zb.ch; omega) e2
  obtain ⟨c_cl, e4⟩ := tx_pf (by have := za.cl; omega) (by have := zb.cl; omega) e3
  obtain ⟨c_ss, e5⟩ := ls_pf za.len zb.len za.ss zb.ss e4
  obtain ⟨c_us, e6⟩ := tx_pf (by have := za.us; omega) (by have := zb.us; omega) e5
  obtain ⟨c_at, e7⟩ := num_pf (by have := za.at1; omega) (by have := zb.at1; omega) e6
  unfold mayB t_id t_us t_cl t_rd t_ch t_cd fitS fitL fitT at ma mb
  rw [ha] at ma
  rw [hb] at mb
  rw [n_id, n_us, n_cl, n_rd, n_ch, n_cd, n_ss, n_at] at ma mb
  simp only [Bool.and_eq_true, Bool.false_eq_true, if_false, if_true, decide_eq_true_eq] at ma mb
  obtain ⟨_, a_id, a_us, a_cl, a_rd, a_ch, a_cd, a_ss, a_at⟩ := ma
  obtain ⟨_, b_id, b_us, b_cl, b_rd, b_ch, b_cd, b_ss, b_at⟩ := mb
  have t0 := za.at0
  have t1 := zb.at0
  have c_cd : a.cd = b.cd := (emp_of a_cd).trans (emp_of b_cd).symm
  have c_at2 : a.at_ = b.at_ := by omega
  obtain ⟨ak, aid, aus, acl, ard, ach, acd, ass, aat⟩ := a
  obtain ⟨bk, bid, bus, bcl, brd, bch, bcd, bss, bat⟩ := b
  simp only at ha hb c_id c_us c_cl c_rd c_ch c_cd c_ss c_at2
  exact ⟨by rw [Rec.mk.injEq]; exact ⟨ha.trans hb.symm, c_id, c_us, c_cl, c_rd, c_ch, c_cd, c_ss, c_at2⟩, e7⟩
theorem pf_5 {a b : Rec} {t u : List UInt8} (ha : a.k = 5) (hb : b.k = 5) (ma : mayB a = true) (mb : mayB b = true) (e : recL a ++ t = recL b ++ u) : a = b ∧ t = u := by
  have za := may_sz ma
  have zb := may_sz mb
  have n_id : nm (5 : Int) 1 = true := by decide
  have n_us : nm (5 : Int) 2 = false := by decide
  have n_cl : nm (5 : Int) 4 = false := by decide
  have n_rd : nm (5 : Int) 8 = false := by decide
  have n_ch : nm (5 : Int) 16 = false := by decide
  have n_cd : nm (5 : Int) 32 = false := by decide
  have n_ss : nm (5 : Int) 64 = false := by decide
  have n_at : nm (5 : Int) 128 = false := by decide
  have e0 : txL a.id ++ t = txL b.id ++ u := by
    unfold recL idL midL endL at e
    rw [ha, hb, n_id] at e
    have := (List.cons.inj e).2
    simpa [List.append_assoc] using this
  obtain ⟨c_id, e1⟩ := tx_pf (by have := za.id; omega) (by have := zb.id; omega) e0
  unfold mayB t_id t_us t_cl t_rd t_ch t_cd fitS fitL fitT at ma mb
  rw [ha] at ma
  rw [hb] at mb
  rw [n_id, n_us, n_cl, n_rd, n_ch, n_cd, n_ss, n_at] at ma mb
  simp only [Bool.and_eq_true, Bool.false_eq_true, if_false, if_true, decide_eq_true_eq] at ma mb
  obtain ⟨_, a_id, a_us, a_cl, a_rd, a_ch, a_cd, a_ss, a_at⟩ := ma
  obtain ⟨_, b_id, b_us, b_cl, b_rd, b_ch, b_cd, b_ss, b_at⟩ := mb
  have t0 := za.at0
  have t1 := zb.at0
  have c_us : a.us = b.us := (emp_of a_us).trans (emp_of b_us).symm
  have c_cl : a.cl = b.cl := (emp_of a_cl).trans (emp_of b_cl).symm
  have c_rd : a.rd = b.rd := (emp_of a_rd).trans (emp_of b_rd).symm
  have c_ch : a.ch = b.ch := (emp_of a_ch).trans (emp_of b_ch).symm
  have c_cd : a.cd = b.cd := (emp_of a_cd).trans (emp_of b_cd).symm
  have c_ss : a.ss = b.ss := (List.eq_nil_of_length_eq_zero a_ss).trans (List.eq_nil_of_length_eq_zero b_ss).symm
  have c_at2 : a.at_ = b.at_ := by omega
  obtain ⟨ak, aid, aus, acl, ard, ach, acd, ass, aat⟩ := a
  obtain ⟨bk, bid, bus, bcl, brd, bch, bcd, bss, bat⟩ := b
  simp only at ha hb c_id c_us c_cl c_rd c_ch c_cd c_ss c_at2
  exact ⟨by rw [Rec.mk.injEq]; exact ⟨ha.trans hb.symm, c_id, c_us, c_cl, c_rd, c_ch, c_cd, c_ss, c_at2⟩, e1⟩
theorem pf_6 {a b : Rec} {t u : List UInt8} (ha : a.k = 6) (hb : b.k = 6) (ma : mayB a = true) (mb : mayB b = true) (e : recL a ++ t = recL b ++ u) : a = b ∧ t = u := by
  have za := may_sz ma
  have zb := may_sz mb
  have n_id : nm (6 : Int) 1 = true := by decide
  have n_us : nm (6 : Int) 2 = true := by decide
  have n_cl : nm (6 : Int) 4 = true := by decide
  have n_rd : nm (6 : Int) 8 = false := by decide
  have n_ch : nm (6 : Int) 16 = false := by decide
  have n_cd : nm (6 : Int) 32 = true := by decide
  have n_ss : nm (6 : Int) 64 = true := by decide
  have n_at : nm (6 : Int) 128 = true := by decide
  have e0 : txL a.id ++ (txL a.cd ++ (txL a.cl ++ (lsL a.ss ++ (txL a.us ++ (numL a.at_.toNat ++ t))))) = txL b.id ++ (txL b.cd ++ (txL b.cl ++ (lsL b.ss ++ (txL b.us ++ (numL b.at_.toNat ++ u))))) := by
    unfold recL idL midL endL at e
    rw [ha, hb, n_id] at e
    have := (List.cons.inj e).2
    simpa [List.append_assoc] using this
  obtain ⟨c_id, e1⟩ := tx_pf (by have := za.id; omega) (by have := zb.id; omega) e0
  obtain ⟨c_cd, e2⟩ := tx_pf (by have := za.cd; omega) (by have := zb.cd; omega) e1
  obtain ⟨c_cl, e3⟩ := tx_pf (by have := za.cl; omega) (by have := zb.cl; omega) e2
  obtain ⟨c_ss, e4⟩ := ls_pf za.len zb.len za.ss zb.ss e3
  obtain ⟨c_us, e5⟩ := tx_pf (by have := za.us; omega) (by have := zb.us; omega) e4
  obtain ⟨c_at, e6⟩ := num_pf (by have := za.at1; omega) (by have := zb.at1; omega) e5
  unfold mayB t_id t_us t_cl t_rd t_ch t_cd fitS fitL fitT at ma mb
  rw [ha] at ma
  rw [hb] at mb
  rw [n_id, n_us, n_cl, n_rd, n_ch, n_cd, n_ss, n_at] at ma mb
  simp only [Bool.and_eq_true, Bool.false_eq_true, if_false, if_true, decide_eq_true_eq] at ma mb
  obtain ⟨_, a_id, a_us, a_cl, a_rd, a_ch, a_cd, a_ss, a_at⟩ := ma
  obtain ⟨_, b_id, b_us, b_cl, b_rd, b_ch, b_cd, b_ss, b_at⟩ := mb
  have t0 := za.at0
  have t1 := zb.at0
  have c_rd : a.rd = b.rd := (emp_of a_rd).trans (emp_of b_rd).symm
  have c_ch : a.ch = b.ch := (emp_of a_ch).trans (emp_of b_ch).symm
  have c_at2 : a.at_ = b.at_ := by omega
  obtain ⟨ak, aid, aus, acl, ard, ach, acd, ass, aat⟩ := a
  obtain ⟨bk, bid, bus, bcl, brd, bch, bcd, bss, bat⟩ := b
  simp only at ha hb c_id c_us c_cl c_rd c_ch c_cd c_ss c_at2
  exact ⟨by rw [Rec.mk.injEq]; exact ⟨ha.trans hb.symm, c_id, c_us, c_cl, c_rd, c_ch, c_cd, c_ss, c_at2⟩, e6⟩
theorem pf_7 {a b : Rec} {t u : List UInt8} (ha : a.k = 7) (hb : b.k = 7) (ma : mayB a = true) (mb : mayB b = true) (e : recL a ++ t = recL b ++ u) : a = b ∧ t = u := by
  have za := may_sz ma
  have zb := may_sz mb
  have n_id : nm (7 : Int) 1 = true := by decide
  have n_us : nm (7 : Int) 2 = false := by decide
  have n_cl : nm (7 : Int) 4 = false := by decide
  have n_rd : nm (7 : Int) 8 = false := by decide
  have n_ch : nm (7 : Int) 16 = false := by decide
  have n_cd : nm (7 : Int) 32 = false := by decide
  have n_ss : nm (7 : Int) 64 = false := by decide
  have n_at : nm (7 : Int) 128 = false := by decide
  have e0 : txL a.id ++ t = txL b.id ++ u := by
    unfold recL idL midL endL at e
    rw [ha, hb, n_id] at e
    have := (List.cons.inj e).2
    simpa [List.append_assoc] using this
  obtain ⟨c_id, e1⟩ := tx_pf (by have := za.id; omega) (by have := zb.id; omega) e0
  unfold mayB t_id t_us t_cl t_rd t_ch t_cd fitS fitL fitT at ma mb
  rw [ha] at ma
  rw [hb] at mb
  rw [n_id, n_us, n_cl, n_rd, n_ch, n_cd, n_ss, n_at] at ma mb
  simp only [Bool.and_eq_true, Bool.false_eq_true, if_false, if_true, decide_eq_true_eq] at ma mb
  obtain ⟨_, a_id, a_us, a_cl, a_rd, a_ch, a_cd, a_ss, a_at⟩ := ma
  obtain ⟨_, b_id, b_us, b_cl, b_rd, b_ch, b_cd, b_ss, b_at⟩ := mb
  have t0 := za.at0
  have t1 := zb.at0
  have c_us : a.us = b.us := (emp_of a_us).trans (emp_of b_us).symm
  have c_cl : a.cl = b.cl := (emp_of a_cl).trans (emp_of b_cl).symm
  have c_rd : a.rd = b.rd := (emp_of a_rd).trans (emp_of b_rd).symm
  have c_ch : a.ch = b.ch := (emp_of a_ch).trans (emp_of b_ch).symm
  have c_cd : a.cd = b.cd := (emp_of a_cd).trans (emp_of b_cd).symm
  have c_ss : a.ss = b.ss := (List.eq_nil_of_length_eq_zero a_ss).trans (List.eq_nil_of_length_eq_zero b_ss).symm
  have c_at2 : a.at_ = b.at_ := by omega
  obtain ⟨ak, aid, aus, acl, ard, ach, acd, ass, aat⟩ := a
  obtain ⟨bk, bid, bus, bcl, brd, bch, bcd, bss, bat⟩ := b
  simp only at ha hb c_id c_us c_cl c_rd c_ch c_cd c_ss c_at2
  exact ⟨by rw [Rec.mk.injEq]; exact ⟨ha.trans hb.symm, c_id, c_us, c_cl, c_rd, c_ch, c_cd, c_ss, c_at2⟩, e1⟩
theorem pf_8 {a b : Rec} {t u : List UInt8} (ha : a.k = 8) (hb : b.k = 8) (ma : mayB a = true) (mb : mayB b = true) (e : recL a ++ t = recL b ++ u) : a = b ∧ t = u := by
  have za := may_sz ma
  have zb := may_sz mb
  have n_id : nm (8 : Int) 1 = true := by decide
  have n_us : nm (8 : Int) 2 = false := by decide
  have n_cl : nm (8 : Int) 4 = false := by decide
  have n_rd : nm (8 : Int) 8 = false := by decide
  have n_ch : nm (8 : Int) 16 = false := by decide
  have n_cd : nm (8 : Int) 32 = false := by decide
  have n_ss : nm (8 : Int) 64 = false := by decide
  have n_at : nm (8 : Int) 128 = false := by decide
  have e0 : txL a.id ++ t = txL b.id ++ u := by
    unfold recL idL midL endL at e
    rw [ha, hb, n_id] at e
    have := (List.cons.inj e).2
    simpa [List.append_assoc] using this
  obtain ⟨c_id, e1⟩ := tx_pf (by have := za.id; omega) (by have := zb.id; omega) e0
  unfold mayB t_id t_us t_cl t_rd t_ch t_cd fitS fitL fitT at ma mb
  rw [ha] at ma
  rw [hb] at mb
  rw [n_id, n_us, n_cl, n_rd, n_ch, n_cd, n_ss, n_at] at ma mb
  simp only [Bool.and_eq_true, Bool.false_eq_true, if_false, if_true, decide_eq_true_eq] at ma mb
  obtain ⟨_, a_id, a_us, a_cl, a_rd, a_ch, a_cd, a_ss, a_at⟩ := ma
  obtain ⟨_, b_id, b_us, b_cl, b_rd, b_ch, b_cd, b_ss, b_at⟩ := mb
  have t0 := za.at0
  have t1 := zb.at0
  have c_us : a.us = b.us := (emp_of a_us).trans (emp_of b_us).symm
  have c_cl : a.cl = b.cl := (emp_of a_cl).trans (emp_of b_cl).symm
  have c_rd : a.rd = b.rd := (emp_of a_rd).trans (emp_of b_rd).symm
  have c_ch : a.ch = b.ch := (emp_of a_ch).trans (emp_of b_ch).symm
  have c_cd : a.cd = b.cd := (emp_of a_cd).trans (emp_of b_cd).symm
  have c_ss : a.ss = b.ss := (List.eq_nil_of_length_eq_zero a_ss).trans (List.eq_nil_of_length_eq_zero b_ss).symm
  have c_at2 : a.at_ = b.at_ := by omega
  obtain ⟨ak, aid, aus, acl, ard, ach, acd, ass, aat⟩ := a
  obtain ⟨bk, bid, bus, bcl, brd, bch, bcd, bss, bat⟩ := b
  simp only at ha hb c_id c_us c_cl c_rd c_ch c_cd c_ss c_at2
  exact ⟨by rw [Rec.mk.injEq]; exact ⟨ha.trans hb.symm, c_id, c_us, c_cl, c_rd, c_ch, c_cd, c_ss, c_at2⟩, e1⟩
theorem pf_9 {a b : Rec} {t u : List UInt8} (ha : a.k = 9) (hb : b.k = 9) (ma : mayB a = true) (mb : mayB b = true) (e : recL a ++ t = recL b ++ u) : a = b ∧ t = u := by
  have za := may_sz ma
  have zb := may_sz mb
  have n_id : nm (9 : Int) 1 = true := by decide
  have n_us : nm (9 : Int) 2 = true := by decide
  have n_cl : nm (9 : Int) 4 = true := by decide
  have n_rd : nm (9 : Int) 8 = false := by decide
  have n_ch : nm (9 : Int) 16 = false := by decide
  have n_cd : nm (9 : Int) 32 = true := by decide
  have n_ss : nm (9 : Int) 64 = true := by decide
  have n_at : nm (9 : Int) 128 = true := by decide
  have e0 : txL a.id ++ (txL a.cd ++ (txL a.cl ++ (lsL a.ss ++ (txL a.us ++ (numL a.at_.toNat ++ t))))) = txL b.id ++ (txL b.cd ++ (txL b.cl ++ (lsL b.ss ++ (txL b.us ++ (numL b.at_.toNat ++ u))))) := by
    unfold recL idL midL endL at e
    rw [ha, hb, n_id] at e
    have := (List.cons.inj e).2
    simpa [List.append_assoc] using this
  obtain ⟨c_id, e1⟩ := tx_pf (by have := za.id; omega) (by have := zb.id; omega) e0
  obtain ⟨c_cd, e2⟩ := tx_pf (by have := za.cd; omega) (by have := zb.cd; omega) e1
  obtain ⟨c_cl, e3⟩ := tx_pf (by have := za.cl; omega) (by have := zb.cl; omega) e2
  obtain ⟨c_ss, e4⟩ := ls_pf za.len zb.len za.ss zb.ss e3
  obtain ⟨c_us, e5⟩ := tx_pf (by have := za.us; omega) (by have := zb.us; omega) e4
  obtain ⟨c_at, e6⟩ := num_pf (by have := za.at1; omega) (by have := zb.at1; omega) e5
  unfold mayB t_id t_us t_cl t_rd t_ch t_cd fitS fitL fitT at ma mb
  rw [ha] at ma
  rw [hb] at mb
  rw [n_id, n_us, n_cl, n_rd, n_ch, n_cd, n_ss, n_at] at ma mb
  simp only [Bool.and_eq_true, Bool.false_eq_true, if_false, if_true, decide_eq_true_eq] at ma mb
  obtain ⟨_, a_id, a_us, a_cl, a_rd, a_ch, a_cd, a_ss, a_at⟩ := ma
  obtain ⟨_, b_id, b_us, b_cl, b_rd, b_ch, b_cd, b_ss, b_at⟩ := mb
  have t0 := za.at0
  have t1 := zb.at0
  have c_rd : a.rd = b.rd := (emp_of a_rd).trans (emp_of b_rd).symm
  have c_ch : a.ch = b.ch := (emp_of a_ch).trans (emp_of b_ch).symm
  have c_at2 : a.at_ = b.at_ := by omega
  obtain ⟨ak, aid, aus, acl, ard, ach, acd, ass, aat⟩ := a
  obtain ⟨bk, bid, bus, bcl, brd, bch, bcd, bss, bat⟩ := b
  simp only at ha hb c_id c_us c_cl c_rd c_ch c_cd c_ss c_at2
  exact ⟨by rw [Rec.mk.injEq]; exact ⟨ha.trans hb.symm, c_id, c_us, c_cl, c_rd, c_ch, c_cd, c_ss, c_at2⟩, e6⟩
theorem pf_10 {a b : Rec} {t u : List UInt8} (ha : a.k = 10) (hb : b.k = 10) (ma : mayB a = true) (mb : mayB b = true) (e : recL a ++ t = recL b ++ u) : a = b ∧ t = u := by
  have za := may_sz ma
  have zb := may_sz mb
  have n_id : nm (10 : Int) 1 = true := by decide
  have n_us : nm (10 : Int) 2 = false := by decide
  have n_cl : nm (10 : Int) 4 = false := by decide
  have n_rd : nm (10 : Int) 8 = false := by decide
  have n_ch : nm (10 : Int) 16 = false := by decide
  have n_cd : nm (10 : Int) 32 = false := by decide
  have n_ss : nm (10 : Int) 64 = false := by decide
  have n_at : nm (10 : Int) 128 = false := by decide
  have e0 : txL a.id ++ t = txL b.id ++ u := by
    unfold recL idL midL endL at e
    rw [ha, hb, n_id] at e
    have := (List.cons.inj e).2
    simpa [List.append_assoc] using this
  obtain ⟨c_id, e1⟩ := tx_pf (by have := za.id; omega) (by have := zb.id; omega) e0
  unfold mayB t_id t_us t_cl t_rd t_ch t_cd fitS fitL fitT at ma mb
  rw [ha] at ma
  rw [hb] at mb
  rw [n_id, n_us, n_cl, n_rd, n_ch, n_cd, n_ss, n_at] at ma mb
  simp only [Bool.and_eq_true, Bool.false_eq_true, if_false, if_true, decide_eq_true_eq] at ma mb
  obtain ⟨_, a_id, a_us, a_cl, a_rd, a_ch, a_cd, a_ss, a_at⟩ := ma
  obtain ⟨_, b_id, b_us, b_cl, b_rd, b_ch, b_cd, b_ss, b_at⟩ := mb
  have t0 := za.at0
  have t1 := zb.at0
  have c_us : a.us = b.us := (emp_of a_us).trans (emp_of b_us).symm
  have c_cl : a.cl = b.cl := (emp_of a_cl).trans (emp_of b_cl).symm
  have c_rd : a.rd = b.rd := (emp_of a_rd).trans (emp_of b_rd).symm
  have c_ch : a.ch = b.ch := (emp_of a_ch).trans (emp_of b_ch).symm
  have c_cd : a.cd = b.cd := (emp_of a_cd).trans (emp_of b_cd).symm
  have c_ss : a.ss = b.ss := (List.eq_nil_of_length_eq_zero a_ss).trans (List.eq_nil_of_length_eq_zero b_ss).symm
  have c_at2 : a.at_ = b.at_ := by omega
  obtain ⟨ak, aid, aus, acl, ard, ach, acd, ass, aat⟩ := a
  obtain ⟨bk, bid, bus, bcl, brd, bch, bcd, bss, bat⟩ := b
  simp only at ha hb c_id c_us c_cl c_rd c_ch c_cd c_ss c_at2
  exact ⟨by rw [Rec.mk.injEq]; exact ⟨ha.trans hb.symm, c_id, c_us, c_cl, c_rd, c_ch, c_cd, c_ss, c_at2⟩, e1⟩
theorem pf_11 {a b : Rec} {t u : List UInt8} (ha : a.k = 11) (hb : b.k = 11) (ma : mayB a = true) (mb : mayB b = true) (e : recL a ++ t = recL b ++ u) : a = b ∧ t = u := by
  have za := may_sz ma
  have zb := may_sz mb
  have n_id : nm (11 : Int) 1 = false := by decide
  have n_us : nm (11 : Int) 2 = true := by decide
  have n_cl : nm (11 : Int) 4 = true := by decide
  have n_rd : nm (11 : Int) 8 = false := by decide
  have n_ch : nm (11 : Int) 16 = false := by decide
  have n_cd : nm (11 : Int) 32 = false := by decide
  have n_ss : nm (11 : Int) 64 = false := by decide
  have n_at : nm (11 : Int) 128 = false := by decide
  have e0 : txL a.cl ++ (txL a.us ++ t) = txL b.cl ++ (txL b.us ++ u) := by
    unfold recL idL midL endL at e
    rw [ha, hb, n_id] at e
    have := (List.cons.inj e).2
    simpa [List.append_assoc] using this
  obtain ⟨c_cl, e1⟩ := tx_pf (by have := za.cl; omega) (by have := zb.cl; omega) e0
  obtain ⟨c_us, e2⟩ := tx_pf (by have := za.us; omega) (by have := zb.us; omega) e1
  unfold mayB t_id t_us t_cl t_rd t_ch t_cd fitS fitL fitT at ma mb
  rw [ha] at ma
  rw [hb] at mb
  rw [n_id, n_us, n_cl, n_rd, n_ch, n_cd, n_ss, n_at] at ma mb
  simp only [Bool.and_eq_true, Bool.false_eq_true, if_false, if_true, decide_eq_true_eq] at ma mb
  obtain ⟨_, a_id, a_us, a_cl, a_rd, a_ch, a_cd, a_ss, a_at⟩ := ma
  obtain ⟨_, b_id, b_us, b_cl, b_rd, b_ch, b_cd, b_ss, b_at⟩ := mb
  have t0 := za.at0
  have t1 := zb.at0
  have c_id : a.id = b.id := (emp_of a_id).trans (emp_of b_id).symm
  have c_rd : a.rd = b.rd := (emp_of a_rd).trans (emp_of b_rd).symm
  have c_ch : a.ch = b.ch := (emp_of a_ch).trans (emp_of b_ch).symm
  have c_cd : a.cd = b.cd := (emp_of a_cd).trans (emp_of b_cd).symm
  have c_ss : a.ss = b.ss := (List.eq_nil_of_length_eq_zero a_ss).trans (List.eq_nil_of_length_eq_zero b_ss).symm
  have c_at2 : a.at_ = b.at_ := by omega
  obtain ⟨ak, aid, aus, acl, ard, ach, acd, ass, aat⟩ := a
  obtain ⟨bk, bid, bus, bcl, brd, bch, bcd, bss, bat⟩ := b
  simp only at ha hb c_id c_us c_cl c_rd c_ch c_cd c_ss c_at2
  exact ⟨by rw [Rec.mk.injEq]; exact ⟨ha.trans hb.symm, c_id, c_us, c_cl, c_rd, c_ch, c_cd, c_ss, c_at2⟩, e2⟩
theorem rec_pf {a b : Rec} {t u : List UInt8} (ma : mayB a = true) (mb : mayB b = true) (e : recL a ++ t = recL b ++ u) : a = b ∧ t = u := by
  have za := may_sz ma
  have zb := may_sz mb
  have a0 := za.k0
  have a1 := za.k1
  have b0 := zb.k0
  have b1 := zb.k1
  have hk : b.k = a.k := by
    have h : UInt8.ofNat a.k.toNat = UInt8.ofNat b.k.toNat := (List.cons.inj e).1
    have h1 : (UInt8.ofNat a.k.toNat).toNat = a.k.toNat := by rw [UInt8.toNat_ofNat']; omega
    have h2 : (UInt8.ofNat b.k.toNat).toNat = b.k.toNat := by rw [UInt8.toNat_ofNat']; omega
    rw [h, h2] at h1
    omega
  have hc : a.k = 1 ∨ a.k = 2 ∨ a.k = 3 ∨ a.k = 4 ∨ a.k = 5 ∨ a.k = 6 ∨ a.k = 7 ∨ a.k = 8 ∨ a.k = 9 ∨ a.k = 10 ∨ a.k = 11 := by omega
  rcases hc with h | h | h | h | h | h | h | h | h | h | h
  · exact pf_1 h (hk.trans h) ma mb e
  · exact pf_2 h (hk.trans h) ma mb e
  · exact pf_3 h (hk.trans h) ma mb e
  · exact pf_4 h (hk.trans h) ma mb e
  · exact pf_5 h (hk.trans h) ma mb e
  · exact pf_6 h (hk.trans h) ma mb e
  · exact pf_7 h (hk.trans h) ma mb e
  · exact pf_8 h (hk.trans h) ma mb e
  · exact pf_9 h (hk.trans h) ma mb e
  · exact pf_10 h (hk.trans h) ma mb e
  · exact pf_11 h (hk.trans h) ma mb e
end Go.Proofs.YtidccfflpcgkiaaGreatDoor.rc
