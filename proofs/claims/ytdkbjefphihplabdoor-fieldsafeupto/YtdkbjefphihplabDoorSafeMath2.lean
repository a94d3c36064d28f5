import Derived.Test.YtdkbjefphihplabDoorSetW
import Derived.Test.YtdkbjefphihplabDoorCkText
import Derived.Test.YtdkbjefphihplabDoorBasicOfL
import Derived.Test.YtdkbjefphihplabDoorSafeMath
namespace Go.Proofs.YtdkbjefphihplabDoor.fd
open Go.ChangeShapes Go.WideShapes Go.ChangeAt Go.RowKit Go.Proofs.YtdkbjefphihplabDoor.common Go.Proofs.YtdkbjefphihplabDoor.bk
open Go.Proofs.YtdkbjefphihplabDoor.lst (PB Lies)

theorem ck_parts_good {n v : ByteArray} (h : isCk n v = true) : (∃ c r, n.data.toList = c :: r) ∧ (∀ c ∈ n.data.toList, Fd.tok c = true) ∧ (∀ c ∈ v.data.toList, Fd.ck c = true) := by
  unfold isCk Fd.token at h
  simp only [Bool.and_eq_true, Bool.not_eq_true'] at h
  refine ⟨?_, List.all_eq_true.1 h.1.2, List.all_eq_true.1 h.2⟩
  cases hn : n.data.toList with
  | nil => rw [hn] at h; cases h.1.1
  | cons c r => exact ⟨c, r, rfl⟩
theorem one_good {n v : ByteArray} (h : isCk n v = true) : (∀ c ∈ (ckB n v).data.toList, Fd.val c = true ∧ c ≠ 59) ∧ (∃ c r, (ckB n v).data.toList = c :: r ∧ Fd.white c = false) ∧ (∃ m c, (ckB n v).data.toList = m ++ [c] ∧ Fd.white c = false) := by
  obtain ⟨⟨c0, r0, h0⟩, h1, h2⟩ := ck_parts_good h
  have e : (ckB n v).data.toList = n.data.toList ++ (61 :: v.data.toList) := by unfold ckB; simp
  refine ⟨?_, ?_, ?_⟩
  · intro c hc
    rw [e] at hc
    rcases List.mem_append.1 hc with hc | hc
    · have := Fd.tok_good c (h1 c hc); exact ⟨this.1, this.2.1⟩
    · rcases List.mem_cons.1 hc with rfl | hc
      · decide +kernel
      · have := Fd.ck_good c (h2 c hc); exact ⟨this.1, this.2.1⟩
  · refine ⟨c0, r0 ++ (61 :: v.data.toList), by rw [e, h0]; rfl, (Fd.tok_good c0 (h1 c0 (by rw [h0]; simp))).2.2⟩
  · rcases List.eq_nil_or_concat v.data.toList with hv | ⟨q, c, hv⟩
    · exact ⟨n.data.toList, 61, by rw [e, hv], by decide +kernel⟩
    · refine ⟨n.data.toList ++ 61 :: q, c, by rw [e, hv]; simp, (Fd.ck_good c (h2 c (by rw [hv]; simp))).2.2⟩
theorem attr_good (m : Int) : (∀ c ∈ (attrB m).data.toList, Fd.val c = true) ∧ (∃ q, (attrB m).data.toList = q ++ [120]) ∧ Fd.semis (attrB m).data.toList = if 0 ≤ m then 5 else 4 := by
  have hp : ∀ c ∈ pathB.data.toList, Fd.val c = true := by decide +kernel
  have ha : ∀ c ∈ ageB.data.toList, Fd.val c = true := by decide +kernel
  have hl : ∀ c ∈ lastB.data.toList, Fd.val c = true := by decide +kernel
  have ql : lastB.data.toList = lastB.data.toList.dropLast ++ [120] := by decide +kernel
  unfold attrB
  by_cases h : 0 ≤ m
  · rw [if_pos h, if_pos h]
    have e : ((pathB ++ (ageB ++ itoaB m)) ++ lastB).data.toList = pathB.data.toList ++ (ageB.data.toList ++ ((itoaB m).data.toList ++ lastB.data.toList)) := by simp
    obtain ⟨N, rfl⟩ : ∃ N : Nat, m = (N : Int) := ⟨m.toNat, by omega⟩
    have hi : (itoaB (N : Int)).data.toList = Lib.decDigits N := by unfold itoaB; rw [str_list, Lib.itoa_nonneg]
    rw [e, hi]
    refine ⟨?_, ?_, ?_⟩
    · intro c hc
      rcases List.mem_append.1 hc with hc | hc
      · exact hp c hc
      · rcases List.mem_append.1 hc with hc | hc
        · exact ha c hc
        · rcases List.mem_append.1 hc with hc | hc
          · exact (Fd.dec_good N c hc).1
          · exact hl c hc
    · rw [ql]
      exact ⟨pathB.data.toList ++ (ageB.data.toList ++ (Lib.decDigits N ++ lastB.data.toList.dropLast)), by simp⟩
    · rw [Fd.semis_app, Fd.semis_app, Fd.semis_app, Fd.semis_none (l := Lib.decDigits N) fun c hc => (Fd.dec_good N c hc).2]
      decide +kernel
  · rw [if_neg h, if_neg h]
    have e : (pathB ++ lastB).data.toList = pathB.data.toList ++ lastB.data.toList := by simp
    rw [e]
    refine ⟨?_, ?_, by decide +kernel⟩
    · intro c hc
      rcases List.mem_append.1 hc with hc | hc
      · exact hp c hc
      · exact hl c hc
    · rw [ql]
      exact ⟨pathB.data.toList ++ lastB.data.toList.dropLast, by simp⟩
theorem set_good {n v : ByteArray} (m : Int) (h : isCk n v = true) : Fd.value (setB n v m).data.toList = true ∧ Fd.semis (setB n v m).data.toList = if 0 ≤ m then 5 else 4 := by
  obtain ⟨h1, ⟨c0, r0, e0, w0⟩, _⟩ := one_good h
  obtain ⟨a1, ⟨q, e1⟩, a3⟩ := attr_good m
  have e : (setB n v m).data.toList = (ckB n v).data.toList ++ (attrB m).data.toList := by unfold setB; simp
  constructor
  · refine Fd.value_of (c0 := c0) (r := r0 ++ (attrB m).data.toList) (m := (ckB n v).data.toList ++ q) (cl := 120) ?_ (by rw [e, e0]; rfl) w0 (by rw [e, e1]; simp) (by decide +kernel)
    intro c hc
    rw [e] at hc
    rcases List.mem_append.1 hc with hc | hc
    · exact (h1 c hc).1
    · exact a1 c hc
  · rw [e, Fd.semis_app, a3, Fd.semis_none (fun c hc => (h1 c hc).2), Nat.zero_add]
theorem join_good (l : List PB) (h : allCk l = true) (hne : l ≠ []) : Fd.value (joinL l) = true ∧ Fd.semis (joinL l) = l.length - 1 := by
  have hall : ∀ p ∈ l, isCk p.1 p.2 = true := List.all_eq_true.1 h
  have key : ∀ n (l : List PB), l.length = n → l ≠ [] → (∀ p ∈ l, isCk p.1 p.2 = true) → (∀ c ∈ joinL l, Fd.val c = true) ∧ (∃ c r, joinL l = c :: r ∧ Fd.white c = false) ∧ (∃ m c, joinL l = m ++ [c] ∧ Fd.white c = false) ∧ Fd.semis (joinL l) = l.length - 1 := by
    intro n
    induction n with
    | zero => intro l hl hne _; exact absurd (List.eq_nil_of_length_eq_zero hl) hne
    | succ n ih =>
      intro l hl hne hal
      rw [← List.dropLast_concat_getLast hne] at hal ⊢
      generalize hp : l.getLast hne = p at *
      have hdl : l.dropLast.length = n := by rw [List.length_dropLast, hl]; rfl
      generalize l.dropLast = d at *
      obtain ⟨o1, ⟨oc, orr, oe, ow⟩, om, ocl, oe2, ow2⟩ := one_good (hal p (by simp))
      change ∀ c ∈ (one p).data.toList, _ at o1
      change (one p).data.toList = _ at oe oe2
      rw [joinL_snoc]
      by_cases hd0 : d = []
      · subst hd0
        rw [if_pos rfl, joinL_nil]
        refine ⟨fun c hc => (o1 c (by simpa using hc)).1, ⟨oc, orr, by simpa using oe, ow⟩, ⟨om, ocl, by simpa using oe2, ow2⟩, ?_⟩
        show Fd.semis ([] ++ ([] ++ (one p).data.toList)) = 1 - 1
        rw [List.nil_append, List.nil_append, Fd.semis_none fun c hc => (o1 c hc).2]
      · obtain ⟨i1, ⟨ic, ir, ie, iw⟩, _, i4⟩ := ih d hdl hd0 fun q hq => hal q (by simp [hq])
        rw [if_neg hd0]
        have hpos : 0 < d.length := List.length_pos_iff.2 hd0
        refine ⟨?_, ⟨ic, ir ++ ([59, 32] ++ (one p).data.toList), by rw [ie]; rfl, iw⟩, ⟨joinL d ++ ([59, 32] ++ om), ocl, by rw [oe2]; simp, ow2⟩, ?_⟩
        · intro c hc
          rcases List.mem_append.1 hc with hc | hc
          · exact i1 c hc
          · rcases List.mem_append.1 hc with hc | hc
            · exact (show ∀ c ∈ ([59, 32] : List UInt8), Fd.val c = true by decide +kernel) c hc
            · exact (o1 c hc).1
        · rw [Fd.semis_app, Fd.semis_app, i4, Fd.semis_none fun c hc => (o1 c hc).2, List.length_append]
          have : Fd.semis [59, 32] = 1 := by decide +kernel
          rw [this]
          show d.length - 1 + (1 + 0) = d.length + 1 - 1
          omega
  obtain ⟨k1, ⟨c, r, e, hw⟩, ⟨m, cl, e2, hw2⟩, k4⟩ := key _ l rfl hne hall
  exact ⟨Fd.value_of k1 c r e hw m cl e2 hw2, k4⟩
theorem std_val : ∀ v : Fin 64, Fd.val (Rad.stdT.getD v.val 0) = true ∧ Fd.white (Rad.stdT.getD v.val 0) = false := by decide +kernel
theorem std_good (l : List UInt8) : ∀ c ∈ Rad.std l, Fd.val c = true ∧ Fd.white c = false := by
  intro c hc
  unfold Rad.std at hc
  rcases List.mem_append.1 hc with hc | hc
  · unfold Rad.b64 at hc
    obtain ⟨m, _, rfl⟩ := List.mem_map.1 hc
    exact std_val ⟨_, Rad.six_lt l m⟩
  · rw [Rad.pad_all _ _ hc]; decide +kernel
theorem basic_value (u p : ByteArray) : Fd.value (basicB u p).data.toList = true := by
  rw [basicB_list]
  have hne : Rad.std (pairL u.data.toList p.data.toList) ≠ [] := by
    intro e
    have h1 := congrArg List.length e
    rw [Rad.std_len, List.length_nil] at h1
    have h2 : 0 < (pairL u.data.toList p.data.toList).length := by unfold pairL; rw [List.length_append, List.length_cons]; omega
    omega
  have hg := std_good (pairL u.data.toList p.data.toList)
  generalize Rad.std (pairL u.data.toList p.data.toList) = L at *
  refine Fd.value_of (c0 := 66) (r := [97, 115, 105, 99] ++ (List.replicate 1 32 ++ L)) (m := nameL ++ (List.replicate 1 32 ++ L.dropLast)) (cl := L.getLast hne) ?_ rfl (by decide +kernel) ?_ (hg _ (List.getLast_mem hne)).2
  · intro c hc
    rcases List.mem_append.1 hc with hc | hc
    · exact (show ∀ c ∈ nameL, Fd.val c = true by decide +kernel) c hc
    · rcases List.mem_append.1 hc with hc | hc
      · rw [(List.mem_replicate.1 hc).2]; decide +kernel
      · exact (hg c hc).1
  · conv => lhs; rw [← List.dropLast_concat_getLast hne]
    simp

end Go.Proofs.YtdkbjefphihplabDoor.fd
