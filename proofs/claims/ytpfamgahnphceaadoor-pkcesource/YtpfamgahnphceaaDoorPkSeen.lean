import Derived.Test.YtpfamgahnphceaaDoorPkDoc
namespace Go.Proofs.YtpfamgahnphceaaDoor.pk
open Go.ChangeShapes Go.WideShapes Go.ChangeAt Go.RowKit Go.Proofs.YtpfamgahnphceaaDoor.common

/-- does the list hold it? -/
def kn (l : List ByteArray) (id : ByteArray) : Bool := l.any fun x => sm x id
theorem kn_take (l : List ByteArray) (id : ByteArray) (k : Nat) (h : k < l.length) : kn (l.take (k + 1)) id = (kn (l.take k) id || sm l[k] id) := by
  unfold kn
  rw [List.take_succ_eq_append_getElem h, List.any_append]; simp
theorem kn_more (l : List ByteArray) (id : ByteArray) (k : Nat) (h : kn (l.take k) id = true) : kn l id = true := by
  unfold kn at *
  rw [← List.take_append_drop k l, List.any_append, h, Bool.true_or]

set_option maxRecDepth 100000 in
set_option maxHeartbeats 1600000 in
theorem known_any (v : Value) (l : List ByteArray) (id : ByteArray) (w : World) (hl : ss.Lies w v l) (hn : l.length ≤ 4611686018427387904) :
    Calls Tryd.prog 16 #[v, .string id] w fun e w' => e = .returned (.bool (kn l id)) ∧ w' = w := by
  obtain ⟨oa, cap, rfl, hc⟩ := hl
  have HC := hide hc
  have HT := hide (fun k h => kn_take l id k h)
  have HM := hide (fun k => kn_more l id k)
  clear hc
  go_enter Tryd.func16, Tryd.ntmps16
  go_wp2_with fail
  go_loopw [5] (fun i wr => ∃ k : Nat, k ≤ l.length ∧ i = .int .i64 k ∧ kn (l.take k) id = false ∧ wr = w) (fun i _ => l.length - (intOf i).toNat)
  case atStart => exact ⟨0, Nat.zero_le _, rfl, rfl, rfl⟩
  case round =>
    obtain ⟨k, hk, rfl, ha, rfl⟩ := hrel
    have HAK := hide ha
    clear ha
    by_cases hlt : k < l.length
    · have hki : (k : Int) < (l.length : Int) := by omega
      obtain ⟨b, o, rfl, hb, c0⟩ := HC.out k hlt
      have HTK := hide (HT.out k hlt)
      have k0 : (0 : Int) ≤ (k : Int) := Int.natCast_nonneg _
      cases hp : sm l[k] id with
      | true =>
        have hpl : (l[k].toList == id.toList) = true := hp
        have HP := hide hp
        have HR : Hid (kn l id = true) := HM.out (k + 1) (by rw [HTK.out, HP.out, Bool.or_true])
        clear hp
        go_wp2_with fail
        go_ret
        exact ⟨by rw [HR.out]; rfl, rfl⟩
      | false =>
        have hpl : (l[k].toList == id.toList) = false := hp
        have HP := hide hp
        clear hp
        go_wp2_with fail
        go_roundw
        case rel => exact ⟨k + 1, by omega, by go_num, by rw [HTK.out, HAK.out, HP.out]; rfl, by trivial⟩
        case measure => simp [intOf]; omega
    · obtain rfl : k = l.length := by omega
      rw [List.take_length] at HAK
      go_wp2_with fail
      go_ret
      exact ⟨by rw [HAK.out]; rfl, rfl⟩

/-- what the function says -/
def tk (kind : Int) (sn : List ByteArray) (I : ByteArray) : Bool := decide (kind = 2) || (decide (kind = 1) && kn sn I)

set_option maxRecDepth 100000 in
set_option maxHeartbeats 1600000 in
theorem says_any (w : World) (id : ByteArray) (kb sb : Nat) (kind : Int) (sv : Value) (sn : List ByteArray) (hk : w.heap[kb]? = some (.cells #[.int .i64 kind] 3 (0, 0))) (hs : w.heap[sb]? = some (.cells #[sv] 22 (0, 0))) (hl : ss.Lies w sv sn) (hn : sn.length ≤ 4611686018427387904) :
    Calls Tryd.prog 15 #[.string id, ptr kb, ptr sb] w fun e w' => e = .returned (.bool (tk kind sn id)) ∧ w' = w := by
  have ck := cell0 hk
  have cs := cell0 hs
  have HK := hide (known_any sv sn id w hl hn)
  clear hk hs hl hn
  by_cases h2 : kind = 2
  · have HR : Hid (tk kind sn id = true) := by show _ = _; unfold tk; rw [decide_eq_true h2]; rfl
    subst h2
    go_enter Tryd.func15, Tryd.ntmps15
    go_wp2_with fail
    go_ret
    exact ⟨by rw [HR.out]; rfl, rfl⟩
  have q2 : (kind == 2) = false := beq_false_of_ne h2
  by_cases h1 : kind = 1
  · have HR : Hid (tk kind sn id = kn sn id) := by show _ = _; unfold tk; rw [decide_eq_false h2, decide_eq_true h1]; rfl
    subst h1
    clear h2 q2
    generalize kn sn id = t at *
    go_enter Tryd.func15, Tryd.ntmps15
    go_wp2_with fail
    refine HK.out.mono ?_
    rintro x w1 ⟨rfl, h1⟩
    obtain rfl := h1.symm
    go_wp2
    go_ret
    exact ⟨by rw [HR.out]; rfl, rfl⟩
  · have q1 : (kind == 1) = false := beq_false_of_ne h1
    have HR : Hid (tk kind sn id = false) := by show _ = _; unfold tk; rw [decide_eq_false h2, decide_eq_false h1]; rfl
    go_enter Tryd.func15, Tryd.ntmps15
    go_wp2_with fail
    go_ret
    exact ⟨by rw [HR.out]; rfl, rfl⟩
theorem says_enters : ∀ args w, (callFunc 15 args).run Tryd.prog w = .ok (.enter 15 args) w := enters_of Tryd.func15 (by kernel_rfl) rfl

theorem drawn_dry (w : World) (p : Nat) (gb : Option Nat) (kind : Int) (sv : Value) (h : DSrc w p gb []) :
    Calls Tryd.prog 17 #[ptr p, .int .i64 kind, sv] w fun e w' => e = .returned (.tuple #[.string ⟨#[]⟩, .int .i64 7]) ∧ w' = w := by
  have HP := hide (peek_dry w p gb h)
  clear h
  go_enter Tryd.func17, Tryd.ntmps17
  go_wp2_with fail
  refine HP.out.mono ?_
  rintro x w1 ⟨rfl, h1⟩
  obtain rfl := h1.symm
  go_wp2
  go_ret2
  exact ⟨rfl, rfl⟩

theorem DtOut.after {w w1 w2 : World} {p : Nat} {gb : Option Nat} {l : List ByteArray} (h : DtOut p gb l w1 w2) (hb : Below w.heap.size w w1) : DtOut p gb l w w2 := by
  obtain ⟨gb', h1, h2, h3⟩ := h
  exact ⟨gb', h1, h2, h3.os.trans hb.os, h3.tape.trans hb.tape, h3.output.trans hb.output, Nat.le_trans hb.size h3.size, fun k hk a b => (h3.block k (Nat.lt_of_lt_of_le hk hb.size) a b).trans (hb.block k hk)⟩

/-- what the document's Fresh answers -/
def dA (t : Bool) (I : ByteArray) : ByteArray := if t then ⟨#[]⟩ else I
def dF (t : Bool) : Int := if t then 8 else 0

set_option maxRecDepth 100000 in
set_option maxHeartbeats 3200000 in
theorem drawn_any (w : World) (p : Nat) (gb : Option Nat) (kind : Int) (sv : Value) (sn : List ByteArray) (d : ByteArray) (l : List ByteArray) (hd : d.size = 32) (h : DSrc w p gb (d :: l)) (hsn : ∀ W, DtOut p gb l w W → ss.Lies W sv sn) (hn : sn.length ≤ 4611686018427387904) :
    Calls Tryd.prog 17 #[ptr p, .int .i64 kind, sv] w fun e w' => e = .returned (.tuple #[.string (dA (tk kind sn (idn d.data.toList)) (idn d.data.toList)), .int .i64 (dF (tk kind sn (idn d.data.toList)))]) ∧ DtOut p gb l w w' := by
  have HP := hide (peek_any w p gb d l hd h)
  have HD : Hid (∀ W, Below w.heap.size w W → Calls Tryd.prog 25 #[ptr p] W fun e w' => e = .returned (.tuple #[]) ∧ DtOut p gb l w w') := fun W hW => by
    have hp : p < w.heap.size := by obtain ⟨v, hv, _⟩ := h; exact (Array.getElem?_eq_some_iff.1 hv).1
    refine (drop_any W p gb d l (h.keep (hW.block p hp) fun g hg => hW.block g (h.blt g hg).1)).mono ?_
    rintro x w' ⟨rfl, h2⟩
    exact ⟨rfl, h2.after hW⟩
  generalize idn d.data.toList = I at *
  have HK : Hid (∀ W, DtOut p gb l w W → Calls Tryd.prog 16 #[sv, .string I] W fun e w' => e = .returned (.bool (kn sn I)) ∧ w' = W) := fun W hW => known_any sv sn I W (hsn W hW) hn
  clear h hsn hn
  obtain ⟨t, ht⟩ : ∃ t, tk kind sn I = t := ⟨_, rfl⟩
  rw [ht]
  unfold tk at ht
  generalize kn sn I = u at *
  go_enter Tryd.func17, Tryd.ntmps17
  go_wp2_with fail
  refine HP.out.mono ?_
  rintro x w1 ⟨rfl, hb1⟩
  have HB1 := hide hb1
  clear hb1
  go_wp2_with fail
  refine (HD.out _ HB1.out).mono ?_
  rintro x w2 ⟨rfl, hd2⟩
  have HD2 := hide hd2
  clear hd2
  go_wp2_with fail
  refine (HK.out _ HD2.out).mono ?_
  rintro x w3 ⟨rfl, h3⟩
  obtain rfl := h3.symm
  clear h3
  by_cases h2 : kind = 2
  · rw [decide_eq_true h2, Bool.true_or] at ht
    subst ht h2
    go_wp2
    go_ret2
    exact ⟨rfl, HD2.out⟩
  have q2 : (kind == 2) = false := beq_false_of_ne h2
  rw [decide_eq_false h2, Bool.false_or] at ht
  by_cases h1 : kind = 1
  · rw [decide_eq_true h1, Bool.true_and] at ht
    subst ht h1
    clear h2 q2
    cases u with
    | true =>
      go_wp2
      go_ret2
      exact ⟨rfl, HD2.out⟩
    | false =>
      go_wp2
      go_ret2
      exact ⟨rfl, HD2.out⟩
  · have q1 : (kind == 1) = false := beq_false_of_ne h1
    rw [decide_eq_false h1, Bool.false_and] at ht
    subst ht
    go_wp2
    go_ret2
    exact ⟨rfl, HD2.out⟩

end Go.Proofs.YtpfamgahnphceaaDoor.pk
