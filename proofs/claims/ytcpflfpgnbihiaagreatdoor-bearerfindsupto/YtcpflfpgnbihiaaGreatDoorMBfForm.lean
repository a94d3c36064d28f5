import Derived.Test.YtcpflfpgnbihiaaGreatDoorMBfShow
import Derived.Test.YtcpflfpgnbihiaaGreatDoorMLookWalks2
import Derived.Test.YtcpflfpgnbihiaaGreatDoorMRefMed3
namespace Go.Proofs.YtcpflfpgnbihiaaGreatDoor.bf
open Go.ChangeShapes Go.WideShapes Go.ChangeAt Go.RowKit Go.Proofs.YtcpflfpgnbihiaaGreatDoor.common Go.Proofs.YtcpflfpgnbihiaaGreatDoor.bk Go.Proofs.YtcpflfpgnbihiaaGreatDoor.fd
open Go.Proofs.YtcpflfpgnbihiaaGreatDoor.lst (PB Lies lookOf look_any refLook_any)
attribute [local go_sem ↓] Go.wp_at_zero Go.wp_at_succ

abbrev emp : ByteArray := ⟨#[]⟩
theorem heap_new (w : World) (o : Obj) : (w.alloc o).heap[w.heap.size]? = some o := by show (w.heap.push _)[w.heap.size]? = _; simp
theorem range_of {w : World} {F : Nat} {l : List Value} {t : TypeId} (h : w.heap[F]? = some (.cells l.toArray t)) : w.rangeAt F 0 l := fun j v hv => by
  simp only [World.cell?, h]
  simpa using hv
theorem keepW {B : Nat} {a w w' : World} (h : Below B a w) (h' : Below w.heap.size w w') (hB : B ≤ w.heap.size) : Below B a w' := h.trans (h'.mono hB)
/-- a request, laid in memory -/
abbrev rq (m t : ByteArray) (n : Int) (v : Value) (b : ByteArray) (c : Bool) : Obj := .cells #[.string m, .string t, .int .i64 n, v, .string b, .bool c] 24
abbrev rv (m t : ByteArray) (n : Int) (v : Value) (b : ByteArray) (c : Bool) : Value := .agg #[.string m, .string t, .int .i64 n, v, .string b, .bool c]
theorem rqc {w : World} {p : Nat} {m t : ByteArray} {n : Int} {v : Value} {b : ByteArray} {c : Bool} (h : w.heap[p]? = some (rq m t n v b c)) : w.cell? ⟨p, 0, none⟩ = some (.string m) ∧ w.cell? ⟨p, 1, none⟩ = some (.string t) ∧ w.cell? ⟨p, 3, none⟩ = some v ∧ w.cell? ⟨p, 4, none⟩ = some (.string b) := by
  refine ⟨?_, ?_, ?_, ?_⟩ <;> simp [World.cell?, h]
theorem rqr {w : World} {p : Nat} {m t : ByteArray} {n : Int} {v : Value} {b : ByteArray} {c : Bool} (h : w.heap[p]? = some (rq m t n v b c)) : w.rangeAt p 0 [.string m, .string t, .int .i64 n, v, .string b, .bool c] := range_of (t := 24) h
theorem sizeR : (Tryz.prog.info? 24).map (·.size) = some 6 := by kernel_rfl
theorem blkR {w w' : World} {p : Nat} {o : Obj} (h : w.heap[p]? = some o) (hb : Below w.heap.size w w') : w'.heap[p]? = some o := (hb.block _ (Array.getElem?_eq_some_iff.1 h).1).trans h
abbrev big : Nat := 140737488355328
/-- fields whose texts are not too great -/
def Fz (fs : List PB) : Prop := fs.length ≤ 4611686018427387904 ∧ ∀ p ∈ fs, p.1.size ≤ big ∧ p.2.size ≤ big
theorem look_in (l : List PB) (n : List UInt8) : ((lookOf l n).1 = emp ∨ ∃ p ∈ l, (lookOf l n).1 = p.2) ∧ ((lookOf l n).2 = 0 → (lookOf l n).1 = emp) := by
  unfold lookOf
  have key : ∀ (l m : List PB) (a : ByteArray × Nat), (∀ p ∈ l, p ∈ m) → (a.1 = emp ∨ ∃ p ∈ m, a.1 = p.2) → (a.2 = 0 → a.1 = emp) → ((l.foldl (lst.step n) a).1 = emp ∨ ∃ p ∈ m, (l.foldl (lst.step n) a).1 = p.2) ∧ ((l.foldl (lst.step n) a).2 = 0 → (l.foldl (lst.step n) a).1 = emp) := by
    intro l m
    induction l with
    | nil => intro a _ h k; exact ⟨h, k⟩
    | cons p r ih =>
      intro a hs h k
      rw [List.foldl_cons]
      refine ih _ (fun q hq => hs q (List.mem_cons_of_mem _ hq)) ?_ ?_
      · unfold lst.step
        split
        · simp only
          split
          · exact Or.inr ⟨p, hs p List.mem_cons_self, rfl⟩
          · exact h
        · exact h
      · unfold lst.step
        split
        · intro e; simp at e
        · exact k
  exact key l l (emp, 0) (fun _ h => h) (Or.inl rfl) (fun _ => rfl)
theorem look_sz {fs : List PB} (h : Fz fs) (n : List UInt8) : (lookOf fs n).1.size ≤ big := by
  rcases (look_in fs n).1 with e | ⟨p, hp, e⟩
  · rw [e]; exact Nat.zero_le _
  · rw [e]; exact (h.2 p hp).2
def ctB : ByteArray := ⟨#[67, 111, 110, 116, 101, 110, 116, 45, 84, 121, 112, 101]⟩
def auB : ByteArray := ⟨#[65, 117, 116, 104, 111, 114, 105, 122, 97, 116, 105, 111, 110]⟩
def ctL : List UInt8 := lst.lowB ctB
def auL : List UInt8 := lst.lowB auB
def poB : ByteArray := ⟨#[80, 79, 83, 84]⟩
def foL : List UInt8 := [97, 112, 112, 108, 105, 99, 97, 116, 105, 111, 110, 47, 120, 45, 119, 119, 119, 45, 102, 111, 114, 109, 45, 117, 114, 108, 101, 110, 99, 111, 100, 101, 100]
/-- has it a form? -/
def formB (m : ByteArray) (k : ByteArray × Nat) : Bool := decide (m = poB) && decide (k.2 = 1) && decide (medR k.1.data.toList = some foL)

theorem lookP_any (v : Value) (l : List PB) (w : World) (hl : Lies w v l) (hz : Fz l) : Calls Tryz.prog 12 #[v, .string ⟨#[67, 111, 110, 116, 101, 110, 116, 45, 84, 121, 112, 101]⟩] w fun e w' => e = .returned (.tuple #[.string (lookOf l ctL).1, .int .i64 ((lookOf l ctL).2 : Int)]) ∧ Below w.heap.size w w' := look_any v l ctB w hl hz.1 (fun p hp => (hz.2 p hp).1)
theorem lookD_any (v : Value) (l : List PB) (w : World) (hl : Lies w v l) (hz : Fz l) : Calls Tryz.prog 18 #[v, .string ⟨#[67, 111, 110, 116, 101, 110, 116, 45, 84, 121, 112, 101]⟩] w fun e w' => e = .returned (.tuple #[.string (lookOf l ctL).1, .int .i64 ((lookOf l ctL).2 : Int)]) ∧ Below w.heap.size w w' := refLook_any v l ctB w hl hz.1 (fun p hp => (hz.2 p hp).1) (by decide)
theorem lookPA_any (v : Value) (l : List PB) (w : World) (hl : Lies w v l) (hz : Fz l) : Calls Tryz.prog 12 #[v, .string ⟨#[65, 117, 116, 104, 111, 114, 105, 122, 97, 116, 105, 111, 110]⟩] w fun e w' => e = .returned (.tuple #[.string (lookOf l auL).1, .int .i64 ((lookOf l auL).2 : Int)]) ∧ Below w.heap.size w w' := look_any v l auB w hl hz.1 (fun p hp => (hz.2 p hp).1)
theorem lookDA_any (v : Value) (l : List PB) (w : World) (hl : Lies w v l) (hz : Fz l) : Calls Tryz.prog 18 #[v, .string ⟨#[65, 117, 116, 104, 111, 114, 105, 122, 97, 116, 105, 111, 110]⟩] w fun e w' => e = .returned (.tuple #[.string (lookOf l auL).1, .int .i64 ((lookOf l auL).2 : Int)]) ∧ Below w.heap.size w w' := refLook_any v l auB w hl hz.1 (fun p hp => (hz.2 p hp).1) (by decide)

theorem ne_str {a b : ByteArray} (h : a ≠ b) : (a.toList == b.toList) = false := by
  rw [ByteArray.toList_eq, ByteArray.toList_eq]
  exact beq_false_of_ne fun e => h (ba_ext e)

theorem ne_str_lit {a : ByteArray} (h : a ≠ poB) : (a.toList == [80, 79, 83, 84]) = false := by
  have := ne_str h
  rw [ByteArray.toList_eq poB] at this
  exact this
set_option maxRecDepth 100000 in
set_option maxHeartbeats 3200000 in
theorem formOf_any (m t : ByteArray) (n : Int) (v : Value) (b : ByteArray) (c : Bool) (fs : List PB) (w : World) (hl : Lies w v fs) (hz : Fz fs) (ea : Addr) (he : Ev 0 w (X ea)) :
    Calls Tryz.prog 25 #[rv m t n v b c] w fun e w' => e = .returned (.string (if formB m (lookOf fs ctL) then b else emp)) ∧ Below w.heap.size w w' := by
  have BA : Below w.heap.size w (w.alloc (rq m t n v b c)) := (Below.refl _ _).alloc (Nat.le_refl _) _
  have o0 := heap_new w (rq m t n v b c)
  have HB0 := hide BA
  have HO := hide o0
  have HL := hide (lookP_any v fs _ (hl.below BA) hz)
  have HM := hide (fun W (hW : Below w.heap.size w W) => media_any (lookOf fs ctL).1 W (look_sz hz ctL) ea ((hW.cell (World.block_lt_of_cell? _ _ he)).trans he))
  have HF : Hid (formB m (lookOf fs ctL) = (decide (m = poB) && decide ((lookOf fs ctL).2 = 1) && decide (medR (lookOf fs ctL).1.data.toList = some foL))) := rfl
  generalize formB m (lookOf fs ctL) = FB at *
  obtain ⟨RB, hRB⟩ : ∃ RB, (if FB = true then b else emp) = RB := ⟨_, rfl⟩
  rw [hRB]
  have HRB := hide hRB
  clear hRB
  generalize lookOf fs ctL = lk at *
  obtain ⟨lv, ln⟩ := lk
  simp only at HL HM HF
  obtain ⟨c0, _, c3, c4⟩ := rqc o0
  clear BA o0 hl hz he
  go_enter Tryz.func25, Tryz.ntmps25
  go_wp2_with fail
  refine HL.out.mono ?_
  rintro e w1 ⟨rfl, b1⟩
  have B1 : Below w.heap.size w w1 := keepW HB0.out b1 HB0.out.size
  have o1 := blkR HO.out b1
  have HB1 := hide B1
  have HO1 := hide o1
  have HM1 := hide (HM.out w1 B1)
  clear c0 c3 c4 B1 o1 b1 HL HB0 HO HM
  go_wp2_with fail
  refine HM1.out.mono ?_
  rintro e w2 ⟨rfl, b2⟩
  have HB2 := hide (keepW HB1.out b2 HB1.out.size)
  obtain ⟨c0, _, _, c4⟩ := rqc (blkR HO1.out b2)
  clear b2 HB1 HO1 HM1
  unfold medV
  by_cases hm : m = poB
  · have hm' := hide hm
    have hpe : (m.toList == [80, 79, 83, 84]) = true := by rw [hm, ByteArray.toList_eq]; rfl
    have hpn : (m.toList != [80, 79, 83, 84]) = false := by rw [bne, hpe]; rfl
    clear hm
    by_cases hn : ln = 1
    · subst hn
      cases hmed : medR lv.data.toList with
      | none =>
        have HR : Hid (FB = false) := by show _ = _; rw [HF.out, decide_eq_true hm'.out, hmed]; rfl
        clear HF hmed
        go_wp2_with fail
        go_ret
        exact ⟨by rw [← HRB.out, HR.out]; rfl, HB2.out⟩
      | some T =>
        by_cases hT : T = foL
        · have HR : Hid (FB = true) := by show _ = _; rw [HF.out, decide_eq_true hm'.out, hmed, hT]; rfl
          have hne : (T == ([97, 112, 112, 108, 105, 99, 97, 116, 105, 111, 110, 47, 120, 45, 119, 119, 119, 45, 102, 111, 114, 109, 45, 117, 114, 108, 101, 110, 99, 111, 100, 101, 100] : List UInt8)) = true := by rw [hT]; rfl
          have hne2 : (T != ([97, 112, 112, 108, 105, 99, 97, 116, 105, 111, 110, 47, 120, 45, 119, 119, 119, 45, 102, 111, 114, 109, 45, 117, 114, 108, 101, 110, 99, 111, 100, 101, 100] : List UInt8)) = false := by rw [bne, hne]; rfl
          clear HF hmed hT
          go_wp2_with fail
          go_ret
          exact ⟨by rw [← HRB.out, HR.out]; rfl, HB2.out⟩
        · have HR : Hid (FB = false) := by show _ = _; rw [HF.out, decide_eq_true hm'.out, hmed]; simp [hT]
          have hne : (T == ([97, 112, 112, 108, 105, 99, 97, 116, 105, 111, 110, 47, 120, 45, 119, 119, 119, 45, 102, 111, 114, 109, 45, 117, 114, 108, 101, 110, 99, 111, 100, 101, 100] : List UInt8)) = false := beq_false_of_ne hT
          have hne2 : (T != ([97, 112, 112, 108, 105, 99, 97, 116, 105, 111, 110, 47, 120, 45, 119, 119, 119, 45, 102, 111, 114, 109, 45, 117, 114, 108, 101, 110, 99, 111, 100, 101, 100] : List UInt8)) = true := by rw [bne, hne]; rfl
          clear HF hmed hT
          go_wp2_with fail
          go_ret
          exact ⟨by rw [← HRB.out, HR.out]; rfl, HB2.out⟩
    · have hni : ((ln : Int) != 1) = true := bne_iff_ne.2 (by omega)
      have HR : Hid (FB = false) := by show _ = _; rw [HF.out, decide_eq_false hn]; simp
      clear HF hn
      cases hmed : medR lv.data.toList with
      | none =>
        go_wp2_with fail
        go_ret
        exact ⟨by rw [← HRB.out, HR.out]; rfl, HB2.out⟩
      | some T =>
        go_wp2_with fail
        go_ret
        exact ⟨by rw [← HRB.out, HR.out]; rfl, HB2.out⟩
  · have HR : Hid (FB = false) := by show _ = _; rw [HF.out, decide_eq_false hm]; simp
    have hne : (m.toList == [80, 79, 83, 84]) = false := ne_str_lit hm
    have hne2 : (m.toList != [80, 79, 83, 84]) = true := by rw [bne, hne]; rfl
    clear HF hm
    cases hmed : medR lv.data.toList with
    | none =>
      go_wp2_with fail
      go_ret
      exact ⟨by rw [← HRB.out, HR.out]; rfl, HB2.out⟩
    | some T =>
      go_wp2_with fail
      go_ret
      exact ⟨by rw [← HRB.out, HR.out]; rfl, HB2.out⟩

set_option maxRecDepth 100000 in
set_option maxHeartbeats 3200000 in
theorem form_any (m t : ByteArray) (n : Int) (v : Value) (b : ByteArray) (c : Bool) (fs : List PB) (w : World) (hl : Lies w v fs) (hz : Fz fs) :
    Calls Tryz.prog 15 #[rv m t n v b c] w fun e w' => e = .returned (.bool (formB m (lookOf fs ctL))) ∧ Below w.heap.size w w' := by
  have BA : Below w.heap.size w (w.alloc (rq m t n v b c)) := (Below.refl _ _).alloc (Nat.le_refl _) _
  have o0 := heap_new w (rq m t n v b c)
  have HB0 := hide BA
  have HL := hide (lookD_any v fs _ (hl.below BA) hz)
  have HM := hide (fun W => refMedia_any (lookOf fs ctL).1 W (look_sz hz ctL))
  have HF : Hid (formB m (lookOf fs ctL) = (decide (m = poB) && decide ((lookOf fs ctL).2 = 1) && decide (medR (lookOf fs ctL).1.data.toList = some foL))) := rfl
  generalize formB m (lookOf fs ctL) = FB at *
  generalize lookOf fs ctL = lk at *
  obtain ⟨lv, ln⟩ := lk
  simp only at HL HM HF
  obtain ⟨c0, _, c3, _⟩ := rqc o0
  clear BA o0 hl hz
  by_cases hm : m = poB
  · have hm' := hide hm
    have hpe : (m.toList == [80, 79, 83, 84]) = true := by rw [hm, ByteArray.toList_eq]; rfl
    have hpn : (m.toList != [80, 79, 83, 84]) = false := by rw [bne, hpe]; rfl
    clear hm
    go_enter Tryz.func15, Tryz.ntmps15
    go_wp2_with fail
    refine HL.out.mono ?_
    rintro e w1 ⟨rfl, b1⟩
    have HB1 := hide (keepW HB0.out b1 HB0.out.size)
    clear c0 c3 b1 HL HB0
    by_cases hn : ln = 1
    · subst hn
      go_wp2_with fail
      refine (HM.out _).mono ?_
      rintro e w2 ⟨rfl, b2⟩
      have HB2 := hide (keepW HB1.out b2 HB1.out.size)
      clear b2 HB1
      unfold medN
      cases hmed : medR lv.data.toList with
      | none =>
        have HR : Hid (FB = false) := by show _ = _; rw [HF.out, decide_eq_true hm'.out, hmed]; rfl
        clear HF hmed
        go_wp2_with fail
        go_ret
        exact ⟨by rw [HR.out]; rfl, HB2.out⟩
      | some T =>
        by_cases hT : T = foL
        · have HR : Hid (FB = true) := by show _ = _; rw [HF.out, decide_eq_true hm'.out, hmed, hT]; rfl
          have hne : (T == ([97, 112, 112, 108, 105, 99, 97, 116, 105, 111, 110, 47, 120, 45, 119, 119, 119, 45, 102, 111, 114, 109, 45, 117, 114, 108, 101, 110, 99, 111, 100, 101, 100] : List UInt8)) = true := by rw [hT]; rfl
          clear HF hmed hT
          go_wp2_with fail
          go_ret
          exact ⟨by rw [HR.out]; rfl, HB2.out⟩
        · have HR : Hid (FB = false) := by show _ = _; rw [HF.out, decide_eq_true hm'.out, hmed]; simp [hT]
          have hne : (T == ([97, 112, 112, 108, 105, 99, 97, 116, 105, 111, 110, 47, 120, 45, 119, 119, 119, 45, 102, 111, 114, 109, 45, 117, 114, 108, 101, 110, 99, 111, 100, 101, 100] : List UInt8)) = false := beq_false_of_ne hT
          clear HF hmed hT
          go_wp2_with fail
          go_ret
          exact ⟨by rw [HR.out]; rfl, HB2.out⟩
    · have hni : ¬ (ln : Int) = 1 := by omega
      have HR : Hid (FB = false) := by show _ = _; rw [HF.out, decide_eq_false hn]; simp
      clear HF hn
      go_wp2_with fail
      go_ret
      exact ⟨by rw [HR.out]; rfl, HB1.out⟩
  · have HR : Hid (FB = false) := by show _ = _; rw [HF.out, decide_eq_false hm]; simp
    have hne : (m.toList == [80, 79, 83, 84]) = false := ne_str_lit hm
    clear HF hm
    go_enter Tryz.func15, Tryz.ntmps15
    go_wp2_with fail
    go_ret
    exact ⟨by rw [HR.out]; rfl, HB0.out⟩
end Go.Proofs.YtcpflfpgnbihiaaGreatDoor.bf
