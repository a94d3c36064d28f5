import Derived.Test.YtaejlcffimkopaaDoorRdPd
namespace Go.Proofs.YtaejlcffimkopaaDoor.pg
open Go.Proofs.YtaejlcffimkopaaDoor.common

theorem txt_wt {c : UInt8} {s r : List UInt8} {t : ByteArray} (h : txtL c s = some (t, r)) : t.size + r.length ≤ s.length := by
  have e := congrArg List.length (txtL_is h).1
  rw [List.length_append] at e
  have := (Pg.esc_len t.data.toList).1
  rw [len_list] at this
  omega
theorem nmD_wt {s r : List UInt8} {n : ByteArray} (h : nmD s = some (n, r)) : n.size + r.length + 1 ≤ s.length := by
  obtain ⟨⟨t, q⟩, h1, h2⟩ := bind_some h
  obtain ⟨r', h3, h4⟩ := bind_some h2
  cases h4
  have e1 := txt_wt h1
  have e3 : r.length + 1 = q.length := skp_lt h3
  simp only
  omega
theorem vlD_wt {s r : List UInt8} {n : ByteArray} (h : vlD s = some (n, r)) : n.size + r.length + 1 ≤ s.length := by
  obtain ⟨q, h1, h2⟩ := bind_some h
  have e1 := skp_lt h1
  have e2 := nmD_wt h2
  omega
theorem lbT_wt {l : ByteArray} {s r : List UInt8} {x : Inp} (h : lbT l s = some (x, r)) : x.name.size + x.value.size + r.length + 1 ≤ s.length ∧ x.label = l := by
  unfold lbT at h
  split at h
  · rename_i q hq
    obtain ⟨⟨n, q2⟩, h1, h2⟩ := bind_some h
    obtain ⟨⟨v, q3⟩, h3, h4⟩ := bind_some h2
    obtain ⟨q4, h5, h6⟩ := bind_some h4
    cases h6
    have e0 := skp_lt hq
    have e1 := nmD_wt h1
    have e2 := vlD_wt h3
    have e3 := skp_lt h5
    simp only at e2 e3 ⊢
    exact ⟨by omega, trivial⟩
  · obtain ⟨q, hq, h0⟩ := bind_some h
    obtain ⟨⟨n, q2⟩, h1, h2⟩ := bind_some h0
    obtain ⟨q4, h5, h6⟩ := bind_some h2
    cases h6
    have e0 := skp_lt hq
    have e1 := nmD_wt h1
    have e3 := skp_lt h5
    have e4 : (⟨#[]⟩ : ByteArray).size = 0 := rfl
    simp only at e3 ⊢
    exact ⟨by omega, trivial⟩
theorem lbD_wt {s r : List UInt8} {x : Inp} (h : lbD s = some (x, r)) : inW x + r.length + 1 ≤ s.length := by
  obtain ⟨q, hq, h0⟩ := bind_some h
  obtain ⟨⟨v, q2⟩, h1, h2⟩ := bind_some h0
  simp only at h2
  split at h2
  · have e0 : q.length + 10 = s.length := skp_lt hq
    have e1 := txt_wt h1
    obtain ⟨e2, e3⟩ := lbT_wt h2
    have e4 : x.label.size ≤ v.size := by
      rw [e3]
      show v.data.toList.dropLast.toArray.size ≤ _
      have := len_list v
      simp
    simp only [List.length_cons] at e2
    unfold inW
    omega
  · cases h2
theorem inD_wt {s r : List UInt8} {x : Inp} (h : inD s = some (x, r)) : inW x + r.length + 1 ≤ s.length := by
  unfold inD at h
  have z : (⟨#[]⟩ : ByteArray).size = 0 := rfl
  split at h
  · rename_i q hq
    obtain ⟨⟨n, q2⟩, h1, h2⟩ := bind_some h
    obtain ⟨⟨v, q3⟩, h3, h4⟩ := bind_some h2
    obtain ⟨q4, h5, h6⟩ := bind_some h4
    cases h6
    have e0 := skp_lt hq
    have e1 := nmD_wt h1
    have e2 := vlD_wt h3
    have e3 := skp_lt h5
    simp only [inW] at e2 e3 ⊢
    omega
  · split at h
    · rename_i q hq
      obtain ⟨⟨n, q2⟩, h1, h2⟩ := bind_some h
      obtain ⟨⟨v, q3⟩, h3, h4⟩ := bind_some h2
      obtain ⟨q4, h5, h6⟩ := bind_some h4
      obtain ⟨⟨b, q5⟩, h7, h8⟩ := bind_some h6
      obtain ⟨q6, h9, h10⟩ := bind_some h8
      cases h10
      have e0 := skp_lt hq
      have e1 := nmD_wt h1
      have e2 := vlD_wt h3
      have e3 := skp_lt h5
      have e4 := txt_wt h7
      have e5 := skp_lt h9
      simp only [inW] at e2 e3 e4 e5 ⊢
      omega
    · exact lbD_wt h
theorem insDF_wt : ∀ (n : Nat) (y : List UInt8) (zs : List Inp) (z : List UInt8), insDF n y = some (zs, z) → insW zs + 101 * z.length ≤ 101 * y.length := by
  intro n
  induction n with
  | zero => intro y zs z h; cases h
  | succ n ih =>
    intro y zs z h
    unfold insDF at h
    split at h
    · rename_i k hk
      cases h
      have := skp_lt hk
      show 0 + _ ≤ _
      omega
    · obtain ⟨⟨x, k⟩, g1, g2⟩ := bind_some h
      obtain ⟨⟨ys, k2⟩, g3, g4⟩ := bind_some g2
      cases g4
      have h1 := inD_wt g1
      have h2 := ih _ _ _ g3
      show inW x + 100 + insW ys + _ ≤ _
      simp only at *
      omega
theorem frmD_wt {s r : List UInt8} {f : Frm} (h : frmD s = some (f, r)) : frmW f + 101 * r.length ≤ 101 * s.length := by
  obtain ⟨q, h1, h2⟩ := bind_some h
  obtain ⟨⟨t, q2⟩, h3, h4⟩ := bind_some h2
  obtain ⟨q3, h5, h6⟩ := bind_some h4
  obtain ⟨⟨xs, q4⟩, h7, h8⟩ := bind_some h6
  obtain ⟨⟨b, q5⟩, h9, h10⟩ := bind_some h8
  obtain ⟨q6, h11, h12⟩ := bind_some h10
  obtain ⟨q7, h13, h14⟩ := bind_some h12
  cases h14
  have e1 := skp_lt h1
  have e2 := nmD_wt h3
  have e3 := skp_lt h5
  have e7 := insDF_wt _ _ _ _ h7
  have e4 := txt_wt h9
  have e5 := skp_lt h11
  have e6 := skp_lt h13
  show t.size + insW xs + b.size + 100 + _ ≤ _
  simp only at *
  omega
theorem frmsDF_wt : ∀ (n : Nat) (y : List UInt8) (zs : List Frm) (z : List UInt8), frmsDF n y = some (zs, z) → frmsW zs + 101 * z.length ≤ 101 * y.length := by
  intro n
  induction n with
  | zero => intro y zs z h; cases h
  | succ n ih =>
    intro y zs z h
    unfold frmsDF at h
    split at h
    · cases h
      show 0 + _ ≤ _
      omega
    · obtain ⟨⟨x, k⟩, g1, g2⟩ := bind_some h
      obtain ⟨⟨ys, k2⟩, g3, g4⟩ := bind_some g2
      cases g4
      have h1 := frmD_wt g1
      have h2 := ih _ _ _ g3
      show frmW x + frmsW ys + _ ≤ _
      simp only at *
      omega
theorem linesR_wt : ∀ (n : Nat) (y : List UInt8) (zs : List ByteArray) (z : List UInt8), linesR n y = some (zs, z) → linesW zs + 101 * z.length ≤ 101 * y.length := by
  intro n
  induction n with
  | zero => intro y zs z h; cases h
  | succ n ih =>
    intro y zs z h
    unfold linesR at h
    split at h
    · cases h
      show 0 + _ ≤ _
      omega
    · rename_i k hk
      obtain ⟨⟨x, k1⟩, g1, g2⟩ := bind_some h
      obtain ⟨k2, g3, g4⟩ := bind_some g2
      obtain ⟨⟨ys, k3⟩, g5, g6⟩ := bind_some g4
      cases g6
      have h0 := skp_lt hk
      have h1 := txt_wt g1
      have h2 : k2.length + 5 = k1.length := skp_lt g3
      have h3 := ih _ _ _ g5
      show x.size + 20 + linesW ys + _ ≤ _
      simp only at *
      omega
theorem pageD_wt {s r : List UInt8} {t : ByteArray} {ls : List ByteArray} {fs : List Frm} (h : pageD s = some ((t, ls, fs), r)) : pageW t ls fs ≤ 103 * s.length + 300 := by
  obtain ⟨q, h1, h2⟩ := bind_some h
  obtain ⟨⟨t', q2⟩, h3, h4⟩ := bind_some h2
  obtain ⟨q3, h5, h6⟩ := bind_some h4
  obtain ⟨⟨u, q4⟩, h7, h8⟩ := bind_some h6
  obtain ⟨q5, h9, h10⟩ := bind_some h8
  obtain ⟨⟨l', q6⟩, h11, h12⟩ := bind_some h10
  obtain ⟨⟨f', q7⟩, h13, h14⟩ := bind_some h12
  cases h14
  have e1 := skp_lt h1
  have e2 := txt_wt h3
  have e3 := skp_lt h5
  have e4 := txt_wt h7
  have e5 := skp_lt h9
  have e6 := linesR_wt _ _ _ _ h11
  have e7 := frmsDF_wt _ _ _ _ h13
  unfold pageW
  simp only at *
  omega
theorem lines_lenW : ∀ ls : List ByteArray, ls.length ≤ linesW ls
  | [] => Nat.zero_le _
  | s :: r => by have := lines_lenW r; show r.length + 1 ≤ s.size + 20 + linesW r; omega
theorem ins_lenW : ∀ xs : List Inp, xs.length ≤ insW xs
  | [] => Nat.zero_le _
  | s :: r => by have := ins_lenW r; show r.length + 1 ≤ inW s + 100 + insW r; omega
theorem frms_lenW : ∀ fs : List Frm, fs.length ≤ frmsW fs ∧ ∀ f ∈ fs, f.ins.length ≤ frmsW fs
  | [] => ⟨Nat.zero_le _, fun f hf => by cases hf⟩
  | f :: r => by
    obtain ⟨h1, h2⟩ := frms_lenW r
    have h3 := ins_lenW f.ins
    have e : frmsW (f :: r) = f.act.size + insW f.ins + f.but.size + 100 + frmsW r := rfl
    refine ⟨by rw [e, List.length_cons]; omega, fun g hg => ?_⟩
    rw [e]
    rcases List.mem_cons.1 hg with rfl | hg
    · omega
    · have := h2 g hg; omega
end Go.Proofs.YtaejlcffimkopaaDoor.pg
