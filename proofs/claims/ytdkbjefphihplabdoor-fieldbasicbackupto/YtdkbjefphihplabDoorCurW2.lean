import Derived.Test.YtdkbjefphihplabDoorCurW
namespace Go.Proofs.YtdkbjefphihplabDoor.fd
open Go.ChangeShapes Go.WideShapes Go.ChangeAt Go.RowKit Go.Proofs.YtdkbjefphihplabDoor.common Go.Proofs.YtdkbjefphihplabDoor.bk
attribute [local go_sem ↓] Go.wp_at_zero Go.wp_at_succ

/-- does such a byte come next? -/
def hd (p : UInt8 → Bool) : List UInt8 → Bool
  | [] => false
  | c :: _ => p c
theorem hd_at (p : UInt8 → Bool) {s : ByteArray} {l : List UInt8} (h : l <:+ s.data.toList) : hd p l = if h : s.size - l.length < s.size then p s[s.size - l.length] else false := by
  cases l with
  | nil => rw [dif_neg (by simp)]; rfl
  | cons c r =>
    obtain ⟨h1, h2⟩ := suffix_at h
    rw [List.length_cons, dif_pos h1, h2]; rfl

theorem comesL_m (b : Nat) (s : ByteArray) (l : List UInt8) (g : Nat) (r : Value) (p : UInt8 → Bool) (w : World) (h : At w b s l) (eg : ∀ args w, (callFunc g args).run Tryd.prog w = .ok (.enter g args) w) (hf : ∀ W c, Tab W b 2 → Calls Tryd.prog g #[r, B c] W fun e W' => e = .returned (.bool (p c)) ∧ W' = W) :
    Calls Tryd.prog 63 #[ptr b, .func (.func g) #[r] #[]] w fun e w' => e = .returned (.bool (hd p l)) ∧ ∃ m, w' = w.drewN m :=
  comes_m b s _ g r p w h.2 eg (fun n c => hf _ c (h.2.drewN n).tab) _ (hd_at p h.1)
theorem comesL_p (b : Nat) (s : ByteArray) (l : List UInt8) (g : Nat) (p : UInt8 → Bool) (w : World) (h : At w b s l) (eg : ∀ args w, (callFunc g args).run Tryd.prog w = .ok (.enter g args) w) (hf : ∀ W c, Calls Tryd.prog g #[B c] W fun e W' => e = .returned (.bool (p c)) ∧ W' = W) :
    Calls Tryd.prog 63 #[ptr b, .func (.func g) #[] #[]] w fun e w' => e = .returned (.bool (hd p l)) ∧ ∃ m, w' = w.drewN m :=
  comes_p b s _ g p w h.2 eg (fun _ c => hf _ c) _ (hd_at p h.1)

theorem At.drewN {w : World} {b : Nat} {s : ByteArray} {l : List UInt8} (h : At w b s l) (n : Nat) : At (w.drewN n) b s l := ⟨h.1, h.2.drewN n⟩
theorem At.next {w : World} {b : Nat} {s : ByteArray} {c : UInt8} {r : List UInt8} (h : At w b s (c :: r)) : At (w.setCell ⟨b, 1, none⟩ (.int .i64 (((s.size - (c :: r).length : Nat) : Int) + 1))) b s r := by
  have hl := h.len
  rw [List.length_cons] at hl
  have := h.2.set (s.size - r.length)
  refine ⟨suffix_tail h.1, ?_⟩
  rw [show (((s.size - (c :: r).length : Nat) : Int) + 1) = ((s.size - r.length : Nat) : Int) from by rw [List.length_cons]; omega]
  exact this
theorem At.of {w : World} {b : Nat} {s : ByteArray} {c : UInt8} {r : List UInt8} (h : (c :: r) <:+ s.data.toList) (k : Rd w b s (s.size - (r.length + 1) + 1)) : At w b s r := by
  have hl := h.length_le
  rw [len_list, List.length_cons] at hl
  refine ⟨suffix_tail h, ?_⟩
  rw [show s.size - r.length = s.size - (r.length + 1) + 1 from by omega]; exact k

/-- one byte taken, or not -/
def tk (c : UInt8) : List UInt8 → Bool × List UInt8
  | [] => (false, [])
  | x :: r => if x = c then (true, r) else (false, x :: r)
theorem tk_yes {c x : UInt8} (r : List UInt8) (h : x = c) : tk c (x :: r) = (true, r) := by show (if x = c then _ else _) = _; rw [if_pos h]
theorem tk_no {c x : UInt8} (r : List UInt8) (h : ¬ x = c) : tk c (x :: r) = (false, x :: r) := by show (if x = c then _ else _) = _; rw [if_neg h]
theorem takeL_any (b : Nat) (s : ByteArray) (l : List UInt8) (c : UInt8) (w : World) (h : At w b s l) (hs : s.size ≤ 4611686018427387904) :
    Calls Tryd.prog 59 #[ptr b, B c] w fun e w' => e = .returned (.bool (tk c l).1) ∧ At w' b s (tk c l).2 ∧ Mv b w w' := by
  refine (take_any b s _ c w h.2 hs).mono ?_
  rintro e w' ⟨hm, ⟨hl, hc, rfl, hr⟩ | ⟨hn, rfl, hr⟩⟩
  · cases l with
    | nil => simp at hl
    | cons x r =>
      obtain ⟨h1, h2⟩ := suffix_at h.1
      have hx : x = c := h2.symm.trans hc
      rw [tk_yes r hx]
      exact ⟨rfl, At.of h.1 hr, hm⟩
  · cases l with
    | nil => exact ⟨rfl, ⟨h.1, hr⟩, hm⟩
    | cons x r =>
      obtain ⟨h1, h2⟩ := suffix_at h.1
      have hx : ¬ x = c := fun e => hn h1 (h2.trans e)
      rw [tk_no r hx]
      exact ⟨rfl, ⟨h.1, hr⟩, hm⟩

/-- one byte of a kind taken, or not -/
def tkP (p : UInt8 → Bool) : List UInt8 → Bool × List UInt8
  | [] => (false, [])
  | x :: r => if p x then (true, r) else (false, x :: r)

set_option maxRecDepth 100000 in
set_option maxHeartbeats 1600000 in
theorem takeOne_p (b : Nat) (s : ByteArray) (l : List UInt8) (g : Nat) (p : UInt8 → Bool) (w : World) (h : At w b s l) (hs : s.size ≤ 4611686018427387904) (eg : ∀ args w, (callFunc g args).run Tryd.prog w = .ok (.enter g args) w) (hf : ∀ W c, Calls Tryd.prog g #[B c] W fun e W' => e = .returned (.bool (p c)) ∧ W' = W) :
    Calls Tryd.prog 117 #[ptr b, .func (.func g) #[] #[]] w fun e w' => e = .returned (.bool (tkP p l).1) ∧ At w' b s (tkP p l).2 ∧ Mv b w w' := by
  have HC := hide (comesL_p b s l g p w h eg hf)
  have HA := hide h
  have c1 := h.2.c1
  have f1 := h.2.f1
  have hlen := h.len
  clear h hf eg
  cases l with
  | nil =>
    go_enter Tryd.func117, Tryd.ntmps117
    go_wp2_with fail
    refine HC.out.mono ?_
    rintro x w2 ⟨rfl, m, rfl⟩
    go_wp2_with fail
    go_ret
    exact ⟨rfl, HA.out.drewN m, (Mv.refl _ _).drewN m⟩
  | cons c r =>
    rw [List.length_cons] at hlen
    cases hp : p c with
    | false =>
      have HH : Hid (hd p (c :: r) = false) := hp
      have HT : Hid (tkP p (c :: r) = (false, c :: r)) := by show (if p c = true then _ else _) = _; rw [hp]; rfl
      rw [HH.out] at HC
      rw [HT.out]
      clear hp
      go_enter Tryd.func117, Tryd.ntmps117
      go_wp2_with fail
      refine HC.out.mono ?_
      rintro x w2 ⟨rfl, m, rfl⟩
      go_wp2_with fail
      go_ret
      exact ⟨rfl, HA.out.drewN m, (Mv.refl _ _).drewN m⟩
    | true =>
      have HH : Hid (hd p (c :: r) = true) := hp
      have HT : Hid (tkP p (c :: r) = (true, r)) := by show (if p c = true then _ else _) = _; rw [hp]; rfl
      rw [HH.out] at HC
      rw [HT.out]
      clear hp
      have hbd : s.size - (c :: r).length ≤ 4611686018427387904 := by omega
      generalize hK : s.size - (c :: r).length = K at *
      have HK := hide hK
      clear hK
      go_enter Tryd.func117, Tryd.ntmps117
      go_wp2_with fail
      refine HC.out.mono ?_
      rintro x w2 ⟨rfl, m, rfl⟩
      go_wp2_with fail
      go_ret
      refine ⟨rfl, ?_, ((Mv.refl _ _).drewN m).set _ _⟩
      have := (HA.out.drewN m).next
      rw [HK.out] at this
      exact this

/-- the place that a reader tells -/
def place (w : World) (b : Nat) : Nat := (intOf ((w.cell? ⟨b, 1, none⟩).getD undef)).toNat
theorem At.place {w : World} {b : Nat} {s : ByteArray} {l : List UInt8} (h : At w b s l) : place w b = s.size - l.length := by
  unfold fd.place; rw [h.2.c1]; simp [intOf]


theorem take_all_p {p : UInt8 → Bool} {m l : List UInt8} (hm : m.all p = true) (hl : hd p l = false) : (m ++ l).takeWhile p = m ∧ (m ++ l).dropWhile p = l := by
  induction m with
  | nil =>
    cases l with
    | nil => exact ⟨rfl, rfl⟩
    | cons c r => have hc : p c = false := hl; simp [hc]
  | cons a m ih =>
    rw [List.all_cons, Bool.and_eq_true] at hm
    have := ih hm.2
    simp [hm.1, this.1, this.2]
theorem extract_suffix {s : ByteArray} {m l : List UInt8} (h : (m ++ l) <:+ s.data.toList) : s.extract (s.size - (m ++ l).length) (s.size - l.length) = ⟨m.toArray⟩ := by
  obtain ⟨q, hq⟩ := h
  have hlen : q.length + (m.length + l.length) = s.size := by rw [← len_list, ← hq, List.length_append, List.length_append]
  apply ba_ext
  rw [Lib.extract_data, str_list, ← hq, List.length_append]
  rw [show s.size - (m.length + l.length) = q.length from by omega, List.drop_left, show s.size - l.length - q.length = m.length from by omega, List.take_left]

set_option maxRecDepth 100000 in
set_option maxHeartbeats 1600000 in
theorem takeWhile_m (b : Nat) (s : ByteArray) (l : List UInt8) (g : Nat) (r : Value) (p : UInt8 → Bool) (w : World) (h : At w b s l) (hs : s.size ≤ 4611686018427387904) (eg : ∀ args w, (callFunc g args).run Tryd.prog w = .ok (.enter g args) w) (hf : ∀ W c, Tab W b 2 → Calls Tryd.prog g #[r, B c] W fun e W' => e = .returned (.bool (p c)) ∧ W' = W) :
    Calls Tryd.prog 61 #[ptr b, .func (.func g) #[r] #[]] w fun e w' => e = .returned (S (l.takeWhile p)) ∧ At w' b s (l.dropWhile p) ∧ Mv b w w' := by
  obtain ⟨R, hR⟩ : ∃ R, R = l.takeWhile p := ⟨_, rfl⟩
  obtain ⟨D, hD⟩ : ∃ D, D = l.dropWhile p := ⟨_, rfl⟩
  rw [← hR, ← hD]
  have HR := hide hR
  have HD := hide hD
  clear hR hD
  have HA := hide h
  have c1 := h.2.c1
  have hlen := h.len
  have HSF := hide h.1
  have HF : Hid (∀ W l', At W b s l' → Calls Tryd.prog 63 #[ptr b, .func (.func g) #[r] #[]] W fun e w' => e = .returned (.bool (hd p l')) ∧ ∃ m, w' = W.drewN m) := fun W l' hW => comesL_m b s l' g r p W hW eg hf
  clear h hf eg
  go_enter Tryd.func61, Tryd.ntmps61
  go_wp2_with fail
  clear c1
  go_loopw [] (fun wr => ∃ m l', l = m ++ l' ∧ m.all p = true ∧ At wr b s l' ∧ Mv b w wr) (fun wr => s.size - place wr b)
  case atStart => exact ⟨[], l, rfl, rfl, HA.out, Mv.refl _ _⟩
  case round =>
    obtain ⟨m, l', hml, hmp, hat, hmv⟩ := hrel
    have c0 := hat.2.c0
    have c1 := hat.2.c1
    have f1 := hat.2.f1
    have HML := hide hml
    have HMP := hide hmp
    have HAT := hide hat
    have HMV := hide hmv
    have hl' := hat.len
    clear hml hmp hat hmv
    cases hh : hd p l' with
    | false =>
      have HC := hide (HF.out wr l' HAT.out)
      rw [hh] at HC
      have HTD := hide (take_all_p HMP.out hh)
      have HEX : Hid (s.extract (s.size - l.length) (s.size - l'.length) = ⟨R.toArray⟩) := by
        show _ = _
        have hsuf := HSF.out
        rw [HML.out] at hsuf
        rw [HML.out, extract_suffix hsuf, HR.out, HML.out, HTD.out.1]
      have HDD : Hid (D = l') := by show _ = _; rw [HD.out, HML.out, HTD.out.2]
      have hle : (s.size - l.length : Nat) ≤ s.size - l'.length := by
        have : l.length = m.length + l'.length := by rw [HML.out, List.length_append]
        omega
      have hlei : ((s.size - l.length : Nat) : Int) ≤ ((s.size - l'.length : Nat) : Int) := by omega
      have hle2 : ((s.size - l'.length : Nat) : Int) ≤ (s.size : Int) := by omega
      have h0i : (0 : Int) ≤ ((s.size - l.length : Nat) : Int) := Int.natCast_nonneg _
      generalize s.size - l.length = A0 at *
      generalize s.size - l'.length = A1 at *
      clear hh
      go_wp2_with fail
      refine HC.out.mono ?_
      rintro x w2 ⟨rfl, q, rfl⟩
      go_wp2_with fail
      go_quiet (fail)
      go_wp2_with fail
      go_ret
      exact ⟨by simp [HEX.out], by rw [HDD.out]; exact (HAT.out.drewN _).drewN _, (HMV.out.drewN _).drewN _⟩
    | true =>
      cases l' with
      | nil => cases hh
      | cons c r' =>
        have HC := hide (HF.out wr _ HAT.out)
        rw [hh] at HC
        have HPC : Hid (p c = true) := hh
        clear hh
        rw [List.length_cons] at hl'
        have hpl : place wr b = s.size - (c :: r').length := HAT.out.place
        rw [List.length_cons] at hpl
        have HPL := hide hpl
        clear hpl
        have hbd : s.size - (c :: r').length ≤ 4611686018427387904 := by omega
        generalize hK : s.size - (c :: r').length = K at *
        have HK := hide hK
        clear hK
        go_wp2_with fail
        refine HC.out.mono ?_
        rintro x w2 ⟨rfl, q, rfl⟩
        have HN : Hid (At ((wr.drewN q).setCell ⟨b, 1, none⟩ (.int .i64 ((K : Int) + 1))) b s r') := by
          have := (HAT.out.drewN q).next
          rw [HK.out] at this
          exact this
        go_wp2_with fail
        go_roundw
        case rel => exact ⟨m ++ [c], r', by rw [HML.out]; simp, by rw [List.all_append, HMP.out]; simp [HPC.out], HN.out, (HMV.out.drewN q).set _ _⟩
        case measure =>
          have h2 := HN.out.place
          have h3 := HPL.out
          refine Nat.lt_of_le_of_lt (Nat.le_of_eq (congrArg (s.size - ·) h2)) ?_
          have h4 := HK.out
          rw [List.length_cons] at h4
          have h5 := HAT.out.len
          rw [List.length_cons] at h5
          show s.size - (s.size - r'.length) < s.size - place wr b
          rw [h3]
          omega

set_option maxRecDepth 100000 in
set_option maxHeartbeats 1600000 in
theorem takeWhile_p (b : Nat) (s : ByteArray) (l : List UInt8) (g : Nat) (p : UInt8 → Bool) (w : World) (h : At w b s l) (hs : s.size ≤ 4611686018427387904) (eg : ∀ args w, (callFunc g args).run Tryd.prog w = .ok (.enter g args) w) (hf : ∀ W c, Calls Tryd.prog g #[B c] W fun e W' => e = .returned (.bool (p c)) ∧ W' = W) :
    Calls Tryd.prog 61 #[ptr b, .func (.func g) #[] #[]] w fun e w' => e = .returned (S (l.takeWhile p)) ∧ At w' b s (l.dropWhile p) ∧ Mv b w w' := by
  obtain ⟨R, hR⟩ : ∃ R, R = l.takeWhile p := ⟨_, rfl⟩
  obtain ⟨D, hD⟩ : ∃ D, D = l.dropWhile p := ⟨_, rfl⟩
  rw [← hR, ← hD]
  have HR := hide hR
  have HD := hide hD
  clear hR hD
  have HA := hide h
  have c1 := h.2.c1
  have hlen := h.len
  have HSF := hide h.1
  have HF : Hid (∀ W l', At W b s l' → Calls Tryd.prog 63 #[ptr b, .func (.func g) #[] #[]] W fun e w' => e = .returned (.bool (hd p l')) ∧ ∃ m, w' = W.drewN m) := fun W l' hW => comesL_p b s l' g p W hW eg hf
  clear h hf eg
  go_enter Tryd.func61, Tryd.ntmps61
  go_wp2_with fail
  clear c1
  go_loopw [] (fun wr => ∃ m l', l = m ++ l' ∧ m.all p = true ∧ At wr b s l' ∧ Mv b w wr) (fun wr => s.size - place wr b)
  case atStart => exact ⟨[], l, rfl, rfl, HA.out, Mv.refl _ _⟩
  case round =>
    obtain ⟨m, l', hml, hmp, hat, hmv⟩ := hrel
    have c0 := hat.2.c0
    have c1 := hat.2.c1
    have f1 := hat.2.f1
    have HML := hide hml
    have HMP := hide hmp
    have HAT := hide hat
    have HMV := hide hmv
    have hl' := hat.len
    clear hml hmp hat hmv
    cases hh : hd p l' with
    | false =>
      have HC := hide (HF.out wr l' HAT.out)
      rw [hh] at HC
      have HTD := hide (take_all_p HMP.out hh)
      have HEX : Hid (s.extract (s.size - l.length) (s.size - l'.length) = ⟨R.toArray⟩) := by
        show _ = _
        have hsuf := HSF.out
        rw [HML.out] at hsuf
        rw [HML.out, extract_suffix hsuf, HR.out, HML.out, HTD.out.1]
      have HDD : Hid (D = l') := by show _ = _; rw [HD.out, HML.out, HTD.out.2]
      have hle : (s.size - l.length : Nat) ≤ s.size - l'.length := by
        have : l.length = m.length + l'.length := by rw [HML.out, List.length_append]
        omega
      have hlei : ((s.size - l.length : Nat) : Int) ≤ ((s.size - l'.length : Nat) : Int) := by omega
      have hle2 : ((s.size - l'.length : Nat) : Int) ≤ (s.size : Int) := by omega
      have h0i : (0 : Int) ≤ ((s.size - l.length : Nat) : Int) := Int.natCast_nonneg _
      generalize s.size - l.length = A0 at *
      generalize s.size - l'.length = A1 at *
      clear hh
      go_wp2_with fail
      refine HC.out.mono ?_
      rintro x w2 ⟨rfl, q, rfl⟩
      go_wp2_with fail
      go_quiet (fail)
      go_wp2_with fail
      go_ret
      exact ⟨by simp [HEX.out], by rw [HDD.out]; exact (HAT.out.drewN _).drewN _, (HMV.out.drewN _).drewN _⟩
    | true =>
      cases l' with
      | nil => cases hh
      | cons c r' =>
        have HC := hide (HF.out wr _ HAT.out)
        rw [hh] at HC
        have HPC : Hid (p c = true) := hh
        clear hh
        rw [List.length_cons] at hl'
        have hpl : place wr b = s.size - (c :: r').length := HAT.out.place
        rw [List.length_cons] at hpl
        have HPL := hide hpl
        clear hpl
        have hbd : s.size - (c :: r').length ≤ 4611686018427387904 := by omega
        generalize hK : s.size - (c :: r').length = K at *
        have HK := hide hK
        clear hK
        go_wp2_with fail
        refine HC.out.mono ?_
        rintro x w2 ⟨rfl, q, rfl⟩
        have HN : Hid (At ((wr.drewN q).setCell ⟨b, 1, none⟩ (.int .i64 ((K : Int) + 1))) b s r') := by
          have := (HAT.out.drewN q).next
          rw [HK.out] at this
          exact this
        go_wp2_with fail
        go_roundw
        case rel => exact ⟨m ++ [c], r', by rw [HML.out]; simp, by rw [List.all_append, HMP.out]; simp [HPC.out], HN.out, (HMV.out.drewN q).set _ _⟩
        case measure =>
          have h2 := HN.out.place
          have h3 := HPL.out
          refine Nat.lt_of_le_of_lt (Nat.le_of_eq (congrArg (s.size - ·) h2)) ?_
          have h4 := HK.out
          rw [List.length_cons] at h4
          have h5 := HAT.out.len
          rw [List.length_cons] at h5
          show s.size - (s.size - r'.length) < s.size - place wr b
          rw [h3]
          omega

end Go.Proofs.YtdkbjefphihplabDoor.fd
