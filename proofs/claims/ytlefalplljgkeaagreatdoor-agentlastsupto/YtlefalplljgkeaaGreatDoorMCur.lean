import Derived.Test.YtlefalplljgkeaaGreatDoorMFieldTok
import Derived.Deep.QuietTactic
import Derived.BigQuiet
namespace Go.Proofs.YtlefalplljgkeaaGreatDoor.fd
open Go.ChangeShapes Go.WideShapes Go.ChangeAt Go.RowKit Go.Proofs.YtlefalplljgkeaaGreatDoor.common Go.Proofs.YtlefalplljgkeaaGreatDoor.bk
attribute [local go_sem ↓] Go.wp_at_zero Go.wp_at_succ

theorem wpList_build_two {P : Program} {ops : Array Oper} {rest : List Oper} {o : Oper} {a : Act} {w : World} {Q : Exit → Act → World → Prop} (hg : o.guard = none) (t : TypeId) (i j : Nat) (x y : Operand) (ho : o.op = .build t #[(i, x), (j, y)])
    (vx vy : Value) (hx : a.eval x = vx) (hy : a.eval y = vy) (cells : Array Value) (hc : P.built t [(i, vx), (j, vy)] = some cells)
    (h : wpList P ops Q rest (a.put o.dst (.agg cells)) w) : wpList P ops Q (o :: rest) a w :=
  wpList_build_is hg t _ ho cells (by simpa [hx, hy] using hc) h
/-- only the block b is written -/
structure Mv (b : Nat) (w w' : World) : Prop where
  below : Below b w w'
  size : w'.heap.size = w.heap.size
  others : ∀ k, k ≠ b → w'.heap[k]? = w.heap[k]?
theorem Mv.refl (b : Nat) (w : World) : Mv b w w := ⟨Below.refl _ _, rfl, fun _ _ => rfl⟩
theorem Mv.trans {b : Nat} {a c d : World} (h : Mv b a c) (k : Mv b c d) : Mv b a d := ⟨h.below.trans k.below, k.size.trans h.size, fun i hi => (k.others i hi).trans (h.others i hi)⟩
theorem Mv.drew {b : Nat} {a c : World} (h : Mv b a c) : Mv b a c.drew := ⟨h.below.drew, h.size, h.others⟩
theorem Mv.drewN {b : Nat} {a c : World} (h : Mv b a c) (n : Nat) : Mv b a (c.drewN n) := ⟨⟨h.below.1, h.below.2, h.below.3, h.below.4, h.below.5⟩, h.size, h.others⟩
theorem Mv.set {b : Nat} {a c : World} (h : Mv b a c) (i : Nat) (v : Value) : Mv b a (c.setCell ⟨b, i, none⟩ v) :=
  ⟨h.below.setCell (Nat.le_refl _) _, by rw [← h.size]; simp [World.setCell], fun k hk => (Below.heap_setCell _ _ _ _ (fun e => hk (by simp [e]))).trans (h.others k hk)⟩
theorem Mv.cell {b : Nat} {a c : World} (h : Mv b a c) {p : Addr} (hp : p.block ≠ b) : c.cell? p = a.cell? p := by
  unfold World.cell?; rw [h.others _ hp]

/-- a reader in the block b: the text, the place, the table -/
structure Rd (w : World) (b : Nat) (s : ByteArray) (a : Nat) : Prop where
  c0 : w.cell? ⟨b, 0, none⟩ = some (.string s)
  c1 : w.cell? ⟨b, 1, none⟩ = some (.int .i64 (a : Int))
  f1 : w.frozen? ⟨b, 1, none⟩ = false
  tab : Tab w b 2
theorem Rd.drew {w : World} {b : Nat} {s : ByteArray} {a : Nat} (h : Rd w b s a) : Rd w.drew b s a := ⟨h.c0, h.c1, h.f1, h.tab⟩
theorem Rd.drewN {w : World} {b : Nat} {s : ByteArray} {a : Nat} (h : Rd w b s a) (n : Nat) : Rd (w.drewN n) b s a := ⟨h.c0, h.c1, h.f1, h.tab⟩
theorem Rd.set {w : World} {b : Nat} {s : ByteArray} {a : Nat} (h : Rd w b s a) (a' : Nat) : Rd (w.setCell ⟨b, 1, none⟩ (.int .i64 (a' : Int))) b s a' := by
  refine ⟨?_, ?_, ?_, ?_⟩
  · exact (World.cell?_setCell_other (h := by intro e; cases e) ..).trans h.c0
  · exact World.cell?_setCell_same (h := h.c1) ..
  · rw [World.frozen?_setCell]; exact h.f1
  · intro j u hu
    have hj := h.tab j u hu
    exact (World.cell?_setCell_other (h := by intro e; injection e with _ e2; omega) ..).trans hj

/-- the same, by what is left of the text -/
def At (w : World) (b : Nat) (s : ByteArray) (l : List UInt8) : Prop := l <:+ s.data.toList ∧ Rd w b s (s.size - l.length)
theorem At.drew {w : World} {b : Nat} {s : ByteArray} {l : List UInt8} (h : At w b s l) : At w.drew b s l := ⟨h.1, h.2.drew⟩
theorem At.len {w : World} {b : Nat} {s : ByteArray} {l : List UInt8} (h : At w b s l) : l.length ≤ s.size := by have := h.1.length_le; rwa [len_list] at this
theorem suffix_at {s : ByteArray} {c : UInt8} {r : List UInt8} (h : (c :: r) <:+ s.data.toList) : ∃ hlt : s.size - (r.length + 1) < s.size, s[s.size - (r.length + 1)] = c := by
  obtain ⟨p, hp⟩ := h
  have hl : p.length + (r.length + 1) = s.size := by rw [← len_list, ← hp, List.length_append]; rfl
  refine ⟨by omega, ?_⟩
  have e : s.size - (r.length + 1) = p.length := by omega
  have : s.data.toList[p.length]? = some c := by rw [← hp, List.getElem?_append_right (Nat.le_refl _)]; simp
  obtain ⟨h1, h2⟩ := List.getElem?_eq_some_iff.1 this
  have : ∀ i (hi : i < s.size), i = p.length → s[i] = c := by rintro i hi rfl; exact h2
  exact this _ _ e
theorem suffix_tail {s : ByteArray} {c : UInt8} {r : List UInt8} (h : (c :: r) <:+ s.data.toList) : r <:+ s.data.toList := (List.suffix_cons c r).trans h

end Go.Proofs.YtlefalplljgkeaaGreatDoor.fd

namespace Go.Proofs.YtlefalplljgkeaaGreatDoor.fd
open Go.ChangeShapes Go.WideShapes Go.ChangeAt Go.RowKit Go.Proofs.YtlefalplljgkeaaGreatDoor.common Go.Proofs.YtlefalplljgkeaaGreatDoor.bk
attribute [local go_sem ↓] Go.wp_at_zero Go.wp_at_succ

abbrev ptr (b : Nat) : Value := .pointer (some ⟨b, 0, none⟩)

set_option maxRecDepth 100000 in
set_option maxHeartbeats 800000 in
theorem more_any (b : Nat) (s : ByteArray) (a : Nat) (w : World) (h : Rd w b s a) :
    Calls Tryz.prog 71 #[ptr b] w fun e w' => e = .returned (.bool (decide (a < s.size))) ∧ ∃ m, w' = w.drewN m := by
  have c0 := h.c0
  have c1 := h.c1
  clear h
  by_cases hlt : a < s.size
  · rw [decide_eq_true hlt]
    have hi : (a : Int) < (s.size : Int) := by omega
    go_enter Tryz.func71, Tryz.ntmps71
    go_wp2_with fail
    go_quiet (fail)
    go_wp2_with fail
    go_ret
    exact ⟨by simp, _, rfl⟩
  · rw [decide_eq_false hlt]
    have hi : ¬ (a : Int) < (s.size : Int) := by omega
    go_enter Tryz.func71, Tryz.ntmps71
    go_wp2_with fail
    go_quiet (fail)
    go_wp2_with fail
    go_ret
    exact ⟨by simp, _, rfl⟩

set_option maxRecDepth 100000 in
set_option maxHeartbeats 1600000 in
theorem comes_m (b : Nat) (s : ByteArray) (a : Nat) (g : Nat) (r : Value) (p : UInt8 → Bool) (w : World) (h : Rd w b s a) (eg : ∀ args w, (callFunc g args).run Tryz.prog w = .ok (.enter g args) w) (hf : ∀ n c, Calls Tryz.prog g #[r, B c] (w.drewN n) fun e W' => e = .returned (.bool (p c)) ∧ W' = w.drewN n) (t : Bool) (ht : t = if h : a < s.size then p s[a] else false) :
    Calls Tryz.prog 74 #[ptr b, .func (.func g) #[r] #[]] w fun e w' => e = .returned (.bool t) ∧ ∃ m, w' = w.drewN m := by
  have c0 := h.c0
  have c1 := h.c1
  have HM : Hid (∀ n, Calls Tryz.prog 71 #[ptr b] (w.drewN n) fun e w' => e = .returned (.bool (decide (a < s.size))) ∧ ∃ m, w' = (w.drewN n).drewN m) := fun n => more_any b s a _ (h.drewN n)
  have HF := hide hf
  clear h hf
  by_cases hlt : a < s.size
  · rw [dif_pos hlt] at ht
    have hi : (a : Int) < (s.size : Int) := by omega
    have hi0 : (0 : Int) ≤ (a : Int) := Int.natCast_nonneg _
    rw [decide_eq_true hlt] at HM
    have HFK : Hid (∀ n, Calls Tryz.prog g #[r, B s[a]] (w.drewN n) fun e W' => e = .returned (.bool t) ∧ W' = w.drewN n) := fun n => by rw [ht]; exact HF.out n s[a]
    clear ht
    go_enter Tryz.func74, Tryz.ntmps74
    go_wp2_with fail
    go_quiet (first
      | (go_at_call 71; exact Calls.quiet_of (HM.out _))
      | (go_at_fn g; exact Calls.quiet_of_same (HFK.out _)))
    go_wp2_with fail
    go_ret
    exact ⟨rfl, _, rfl⟩
  · rw [dif_neg hlt] at ht
    subst ht
    rw [decide_eq_false hlt] at HM
    go_enter Tryz.func74, Tryz.ntmps74
    go_wp2_with fail
    go_quiet ((go_at_call 71; exact Calls.quiet_of (HM.out _)))
    go_wp2_with fail
    go_ret
    exact ⟨rfl, _, rfl⟩

set_option maxRecDepth 100000 in
set_option maxHeartbeats 1600000 in
theorem comes_p (b : Nat) (s : ByteArray) (a : Nat) (g : Nat) (p : UInt8 → Bool) (w : World) (h : Rd w b s a) (eg : ∀ args w, (callFunc g args).run Tryz.prog w = .ok (.enter g args) w) (hf : ∀ n c, Calls Tryz.prog g #[B c] (w.drewN n) fun e W' => e = .returned (.bool (p c)) ∧ W' = w.drewN n) (t : Bool) (ht : t = if h : a < s.size then p s[a] else false) :
    Calls Tryz.prog 74 #[ptr b, .func (.func g) #[] #[]] w fun e w' => e = .returned (.bool t) ∧ ∃ m, w' = w.drewN m := by
  have c0 := h.c0
  have c1 := h.c1
  have HM : Hid (∀ n, Calls Tryz.prog 71 #[ptr b] (w.drewN n) fun e w' => e = .returned (.bool (decide (a < s.size))) ∧ ∃ m, w' = (w.drewN n).drewN m) := fun n => more_any b s a _ (h.drewN n)
  have HF := hide hf
  clear h hf
  by_cases hlt : a < s.size
  · rw [dif_pos hlt] at ht
    have hi : (a : Int) < (s.size : Int) := by omega
    have hi0 : (0 : Int) ≤ (a : Int) := Int.natCast_nonneg _
    rw [decide_eq_true hlt] at HM
    have HFK : Hid (∀ n, Calls Tryz.prog g #[B s[a]] (w.drewN n) fun e W' => e = .returned (.bool t) ∧ W' = w.drewN n) := fun n => by rw [ht]; exact HF.out n s[a]
    clear ht
    go_enter Tryz.func74, Tryz.ntmps74
    go_wp2_with fail
    go_quiet (first
      | (go_at_call 71; exact Calls.quiet_of (HM.out _))
      | (go_at_fn g; exact Calls.quiet_of_same (HFK.out _)))
    go_wp2_with fail
    go_ret
    exact ⟨rfl, _, rfl⟩
  · rw [dif_neg hlt] at ht
    subst ht
    rw [decide_eq_false hlt] at HM
    go_enter Tryz.func74, Tryz.ntmps74
    go_wp2_with fail
    go_quiet ((go_at_call 71; exact Calls.quiet_of (HM.out _)))
    go_wp2_with fail
    go_ret
    exact ⟨rfl, _, rfl⟩

end Go.Proofs.YtlefalplljgkeaaGreatDoor.fd

namespace Go.Proofs.YtlefalplljgkeaaGreatDoor.fd
open Go.ChangeShapes Go.WideShapes Go.ChangeAt Go.RowKit Go.Proofs.YtlefalplljgkeaaGreatDoor.common Go.Proofs.YtlefalplljgkeaaGreatDoor.bk
attribute [local go_sem ↓] Go.wp_at_zero Go.wp_at_succ

/-- does such a byte come next? -/
def hd (p : UInt8 → Bool) : List UInt8 → Bool
  | [] => false
  | c :: _ => p c
theorem hd_at (p : UInt8 → Bool) {s : ByteArray} {l : List UInt8} (h : l <:+ s.data.toList) : hd p l = if h : s.size - l.length < s.size then p s[s.size - l.length] else false := by
  cases l with
  | nil => rw [dif_neg (by simp)]; rfl
  | cons c r =>
    obtain ⟨h1, h2⟩ := suffix_at h
    rw [List.length_cons, dif_pos h1, h2]; rfl

theorem comesL_m (b : Nat) (s : ByteArray) (l : List UInt8) (g : Nat) (r : Value) (p : UInt8 → Bool) (w : World) (h : At w b s l) (eg : ∀ args w, (callFunc g args).run Tryz.prog w = .ok (.enter g args) w) (hf : ∀ W c, Tab W b 2 → Calls Tryz.prog g #[r, B c] W fun e W' => e = .returned (.bool (p c)) ∧ W' = W) :
    Calls Tryz.prog 74 #[ptr b, .func (.func g) #[r] #[]] w fun e w' => e = .returned (.bool (hd p l)) ∧ ∃ m, w' = w.drewN m :=
  comes_m b s _ g r p w h.2 eg (fun n c => hf _ c (h.2.drewN n).tab) _ (hd_at p h.1)
theorem comesL_p (b : Nat) (s : ByteArray) (l : List UInt8) (g : Nat) (p : UInt8 → Bool) (w : World) (h : At w b s l) (eg : ∀ args w, (callFunc g args).run Tryz.prog w = .ok (.enter g args) w) (hf : ∀ W c, Calls Tryz.prog g #[B c] W fun e W' => e = .returned (.bool (p c)) ∧ W' = W) :
    Calls Tryz.prog 74 #[ptr b, .func (.func g) #[] #[]] w fun e w' => e = .returned (.bool (hd p l)) ∧ ∃ m, w' = w.drewN m :=
  comes_p b s _ g p w h.2 eg (fun _ c => hf _ c) _ (hd_at p h.1)

theorem At.drewN {w : World} {b : Nat} {s : ByteArray} {l : List UInt8} (h : At w b s l) (n : Nat) : At (w.drewN n) b s l := ⟨h.1, h.2.drewN n⟩
theorem At.next {w : World} {b : Nat} {s : ByteArray} {c : UInt8} {r : List UInt8} (h : At w b s (c :: r)) : At (w.setCell ⟨b, 1, none⟩ (.int .i64 (((s.size - (c :: r).length : Nat) : Int) + 1))) b s r := by
  have hl := h.len
  rw [List.length_cons] at hl
  have := h.2.set (s.size - r.length)
  refine ⟨suffix_tail h.1, ?_⟩
  rw [show (((s.size - (c :: r).length : Nat) : Int) + 1) = ((s.size - r.length : Nat) : Int) from by rw [List.length_cons]; omega]
  exact this
theorem At.of {w : World} {b : Nat} {s : ByteArray} {c : UInt8} {r : List UInt8} (h : (c :: r) <:+ s.data.toList) (k : Rd w b s (s.size - (r.length + 1) + 1)) : At w b s r := by
  have hl := h.length_le
  rw [len_list, List.length_cons] at hl
  refine ⟨suffix_tail h, ?_⟩
  rw [show s.size - r.length = s.size - (r.length + 1) + 1 from by omega]; exact k

/-- the place that a reader tells -/
def place (w : World) (b : Nat) : Nat := (intOf ((w.cell? ⟨b, 1, none⟩).getD undef)).toNat
theorem At.place {w : World} {b : Nat} {s : ByteArray} {l : List UInt8} (h : At w b s l) : place w b = s.size - l.length := by
  unfold fd.place; rw [h.2.c1]; simp [intOf]


theorem take_all_p {p : UInt8 → Bool} {m l : List UInt8} (hm : m.all p = true) (hl : hd p l = false) : (m ++ l).takeWhile p = m ∧ (m ++ l).dropWhile p = l := by
  induction m with
  | nil =>
    cases l with
    | nil => exact ⟨rfl, rfl⟩
    | cons c r => have hc : p c = false := hl; simp [hc]
  | cons a m ih =>
    rw [List.all_cons, Bool.and_eq_true] at hm
    have := ih hm.2
    simp [hm.1, this.1, this.2]
theorem extract_suffix {s : ByteArray} {m l : List UInt8} (h : (m ++ l) <:+ s.data.toList) : s.extract (s.size - (m ++ l).length) (s.size - l.length) = ⟨m.toArray⟩ := by
  obtain ⟨q, hq⟩ := h
  have hlen : q.length + (m.length + l.length) = s.size := by rw [← len_list, ← hq, List.length_append, List.length_append]
  apply ba_ext
  rw [Lib.extract_data, str_list, ← hq, List.length_append]
  rw [show s.size - (m.length + l.length) = q.length from by omega, List.drop_left, show s.size - l.length - q.length = m.length from by omega, List.take_left]

set_option maxRecDepth 100000 in
set_option maxHeartbeats 1600000 in
theorem takeWhile_m (b : Nat) (s : ByteArray) (l : List UInt8) (g : Nat) (r : Value) (p : UInt8 → Bool) (w : World) (h : At w b s l) (hs : s.size ≤ 4611686018427387904) (eg : ∀ args w, (callFunc g args).run Tryz.prog w = .ok (.enter g args) w) (hf : ∀ W c, Tab W b 2 → Calls Tryz.prog g #[r, B c] W fun e W' => e = .returned (.bool (p c)) ∧ W' = W) :
    Calls Tryz.prog 72 #[ptr b, .func (.func g) #[r] #[]] w fun e w' => e = .returned (S (l.takeWhile p)) ∧ At w' b s (l.dropWhile p) ∧ Mv b w w' := by
  obtain ⟨R, hR⟩ : ∃ R, R = l.takeWhile p := ⟨_, rfl⟩
  obtain ⟨D, hD⟩ : ∃ D, D = l.dropWhile p := ⟨_, rfl⟩
  rw [← hR, ← hD]
  have HR := hide hR
  have HD := hide hD
  clear hR hD
  have HA := hide h
  have c1 := h.2.c1
  have hlen := h.len
  have HSF := hide h.1
  have HF : Hid (∀ W l', At W b s l' → Calls Tryz.prog 74 #[ptr b, .func (.func g) #[r] #[]] W fun e w' => e = .returned (.bool (hd p l')) ∧ ∃ m, w' = W.drewN m) := fun W l' hW => comesL_m b s l' g r p W hW eg hf
  clear h hf eg
  go_enter Tryz.func72, Tryz.ntmps72
  go_wp2_with fail
  clear c1
  go_loopw [] (fun wr => ∃ m l', l = m ++ l' ∧ m.all p = true ∧ At wr b s l' ∧ Mv b w wr) (fun wr => s.size - place wr b)
  case atStart => exact ⟨[], l, rfl, rfl, HA.out, Mv.refl _ _⟩
  case round =>
    obtain ⟨m, l', hml, hmp, hat, hmv⟩ := hrel
    have c0 := hat.2.c0
    have c1 := hat.2.c1
    have f1 := hat.2.f1
    have HML := hide hml
    have HMP := hide hmp
    have HAT := hide hat
    have HMV := hide hmv
    have hl' := hat.len
    clear hml hmp hat hmv
    cases hh : hd p l' with
    | false =>
      have HC := hide (HF.out wr l' HAT.out)
      rw [hh] at HC
      have HTD := hide (take_all_p HMP.out hh)
      have HEX : Hid (s.extract (s.size - l.length) (s.size - l'.length) = ⟨R.toArray⟩) := by
        show _ = _
        have hsuf := HSF.out
        rw [HML.out] at hsuf
        rw [HML.out, extract_suffix hsuf, HR.out, HML.out, HTD.out.1]
      have HDD : Hid (D = l') := by show _ = _; rw [HD.out, HML.out, HTD.out.2]
      have hle : (s.size - l.length : Nat) ≤ s.size - l'.length := by
        have : l.length = m.length + l'.length := by rw [HML.out, List.length_append]
        omega
      have hlei : ((s.size - l.length : Nat) : Int) ≤ ((s.size - l'.length : Nat) : Int) := by omega
      have hle2 : ((s.size - l'.length : Nat) : Int) ≤ (s.size : Int) := by omega
      have h0i : (0 : Int) ≤ ((s.size - l.length : Nat) : Int) := Int.natCast_nonneg _
      generalize s.size - l.length = A0 at *
      generalize s.size - l'.length = A1 at *
      clear hh
      go_wp2_with fail
      refine HC.out.mono ?_
      rintro x w2 ⟨rfl, q, rfl⟩
      go_wp2_with fail
      go_quiet (fail)
      go_wp2_with fail
      go_ret
      exact ⟨by simp [HEX.out], by rw [HDD.out]; exact (HAT.out.drewN _).drewN _, (HMV.out.drewN _).drewN _⟩
    | true =>
      cases l' with
      | nil => cases hh
      | cons c r' =>
        have HC := hide (HF.out wr _ HAT.out)
        rw [hh] at HC
        have HPC : Hid (p c = true) := hh
        clear hh
        rw [List.length_cons] at hl'
        have hpl : place wr b = s.size - (c :: r').length := HAT.out.place
        rw [List.length_cons] at hpl
        have HPL := hide hpl
        clear hpl
        have hbd : s.size - (c :: r').length ≤ 4611686018427387904 := by omega
        generalize hK : s.size - (c :: r').length = K at *
        have HK := hide hK
        clear hK
        go_wp2_with fail
        refine HC.out.mono ?_
        rintro x w2 ⟨rfl, q, rfl⟩
        have HN : Hid (At ((wr.drewN q).setCell ⟨b, 1, none⟩ (.int .i64 ((K : Int) + 1))) b s r') := by
          have := (HAT.out.drewN q).next
          rw [HK.out] at this
          exact this
        go_wp2_with fail
        go_roundw
        case rel => exact ⟨m ++ [c], r', by rw [HML.out]; simp, by rw [List.all_append, HMP.out]; simp [HPC.out], HN.out, (HMV.out.drewN q).set _ _⟩
        case measure =>
          have h2 := HN.out.place
          have h3 := HPL.out
          refine Nat.lt_of_le_of_lt (Nat.le_of_eq (congrArg (s.size - ·) h2)) ?_
          have h4 := HK.out
          rw [List.length_cons] at h4
          have h5 := HAT.out.len
          rw [List.length_cons] at h5
          show s.size - (s.size - r'.length) < s.size - place wr b
          rw [h3]
          omega

set_option maxRecDepth 100000 in
set_option maxHeartbeats 1600000 in
theorem takeWhile_p (b : Nat) (s : ByteArray) (l : List UInt8) (g : Nat) (p : UInt8 → Bool) (w : World) (h : At w b s l) (hs : s.size ≤ 4611686018427387904) (eg : ∀ args w, (callFunc g args).run Tryz.prog w = .ok (.enter g args) w) (hf : ∀ W c, Calls Tryz.prog g #[B c] W fun e W' => e = .returned (.bool (p c)) ∧ W' = W) :
    Calls Tryz.prog 72 #[ptr b, .func (.func g) #[] #[]] w fun e w' => e = .returned (S (l.takeWhile p)) ∧ At w' b s (l.dropWhile p) ∧ Mv b w w' := by
  obtain ⟨R, hR⟩ : ∃ R, R = l.takeWhile p := ⟨_, rfl⟩
  obtain ⟨D, hD⟩ : ∃ D, D = l.dropWhile p := ⟨_, rfl⟩
  rw [← hR, ← hD]
  have HR := hide hR
  have HD := hide hD
  clear hR hD
  have HA := hide h
  have c1 := h.2.c1
  have hlen := h.len
  have HSF := hide h.1
  have HF : Hid (∀ W l', At W b s l' → Calls Tryz.prog 74 #[ptr b, .func (.func g) #[] #[]] W fun e w' => e = .returned (.bool (hd p l')) ∧ ∃ m, w' = W.drewN m) := fun W l' hW => comesL_p b s l' g p W hW eg hf
  clear h hf eg
  go_enter Tryz.func72, Tryz.ntmps72
  go_wp2_with fail
  clear c1
  go_loopw [] (fun wr => ∃ m l', l = m ++ l' ∧ m.all p = true ∧ At wr b s l' ∧ Mv b w wr) (fun wr => s.size - place wr b)
  case atStart => exact ⟨[], l, rfl, rfl, HA.out, Mv.refl _ _⟩
  case round =>
    obtain ⟨m, l', hml, hmp, hat, hmv⟩ := hrel
    have c0 := hat.2.c0
    have c1 := hat.2.c1
    have f1 := hat.2.f1
    have HML := hide hml
    have HMP := hide hmp
    have HAT := hide hat
    have HMV := hide hmv
    have hl' := hat.len
    clear hml hmp hat hmv
    cases hh : hd p l' with
    | false =>
      have HC := hide (HF.out wr l' HAT.out)
      rw [hh] at HC
      have HTD := hide (take_all_p HMP.out hh)
      have HEX : Hid (s.extract (s.size - l.length) (s.size - l'.length) = ⟨R.toArray⟩) := by
        show _ = _
        have hsuf := HSF.out
        rw [HML.out] at hsuf
        rw [HML.out, extract_suffix hsuf, HR.out, HML.out, HTD.out.1]
      have HDD : Hid (D = l') := by show _ = _; rw [HD.out, HML.out, HTD.out.2]
      have hle : (s.size - l.length : Nat) ≤ s.size - l'.length := by
        have : l.length = m.length + l'.length := by rw [HML.out, List.length_append]
        omega
      have hlei : ((s.size - l.length : Nat) : Int) ≤ ((s.size - l'.length : Nat) : Int) := by omega
      have hle2 : ((s.size - l'.length : Nat) : Int) ≤ (s.size : Int) := by omega
      have h0i : (0 : Int) ≤ ((s.size - l.length : Nat) : Int) := Int.natCast_nonneg _
      generalize s.size - l.length = A0 at *
      generalize s.size - l'.length = A1 at *
      clear hh
      go_wp2_with fail
      refine HC.out.mono ?_
      rintro x w2 ⟨rfl, q, rfl⟩
      go_wp2_with fail
      go_quiet (fail)
      go_wp2_with fail
      go_ret
      exact ⟨by simp [HEX.out], by rw [HDD.out]; exact (HAT.out.drewN _).drewN _, (HMV.out.drewN _).drewN _⟩
    | true =>
      cases l' with
      | nil => cases hh
      | cons c r' =>
        have HC := hide (HF.out wr _ HAT.out)
        rw [hh] at HC
        have HPC : Hid (p c = true) := hh
        clear hh
        rw [List.length_cons] at hl'
        have hpl : place wr b = s.size - (c :: r').length := HAT.out.place
        rw [List.length_cons] at hpl
        have HPL := hide hpl
        clear hpl
        have hbd : s.size - (c :: r').length ≤ 4611686018427387904 := by omega
        generalize hK : s.size - (c :: r').length = K at *
        have HK := hide hK
        clear hK
        go_wp2_with fail
        refine HC.out.mono ?_
        rintro x w2 ⟨rfl, q, rfl⟩
        have HN : Hid (At ((wr.drewN q).setCell ⟨b, 1, none⟩ (.int .i64 ((K : Int) + 1))) b s r') := by
          have := (HAT.out.drewN q).next
          rw [HK.out] at this
          exact this
        go_wp2_with fail
        go_roundw
        case rel => exact ⟨m ++ [c], r', by rw [HML.out]; simp, by rw [List.all_append, HMP.out]; simp [HPC.out], HN.out, (HMV.out.drewN q).set _ _⟩
        case measure =>
          have h2 := HN.out.place
          have h3 := HPL.out
          refine Nat.lt_of_le_of_lt (Nat.le_of_eq (congrArg (s.size - ·) h2)) ?_
          have h4 := HK.out
          rw [List.length_cons] at h4
          have h5 := HAT.out.len
          rw [List.length_cons] at h5
          show s.size - (s.size - r'.length) < s.size - place wr b
          rw [h3]
          omega

end Go.Proofs.YtlefalplljgkeaaGreatDoor.fd
