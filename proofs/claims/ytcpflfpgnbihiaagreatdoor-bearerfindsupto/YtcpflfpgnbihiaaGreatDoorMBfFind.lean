import Derived.Test.YtcpflfpgnbihiaaGreatDoorMBfPar
import Derived.Test.YtcpflfpgnbihiaaGreatDoorMErrWalks
namespace Go.Proofs.YtcpflfpgnbihiaaGreatDoor.bf
open Go.ChangeShapes Go.WideShapes Go.ChangeAt Go.RowKit Go.Proofs.YtcpflfpgnbihiaaGreatDoor.common Go.Proofs.YtcpflfpgnbihiaaGreatDoor.bk Go.Proofs.YtcpflfpgnbihiaaGreatDoor.fd
open Go.Proofs.YtcpflfpgnbihiaaGreatDoor.lst (PB Lies cl cl_app cl_len infoP lookOf lies_of_own)
open Go.Proofs.YtcpflfpgnbihiaaGreatDoor.pctw (mk Txt Mny)
open Go.Proofs.YtcpflfpgnbihiaaGreatDoor.errw (Errs E)
attribute [local go_sem ↓] Go.wp_at_zero Go.wp_at_succ

theorem behind_len (c : UInt8) (l : List UInt8) : (behind c l).length ≤ l.length := by
  unfold behind
  have := (List.dropWhile_suffix (l := l) (fun x => decide (x ≠ c))).length_le
  rw [List.length_tail]; omega
theorem value_len : ∀ p : List UInt8, (Pct.value p).length ≤ p.length
  | [] => Nat.le_refl _
  | c :: r => by
    unfold Pct.value
    split
    · simp
    · have := value_len r; simp; omega
theorem pair_len {p : List UInt8} {x : Pct.Pr} (h : Pct.pair p = some x) : x.2.length ≤ p.length := by
  unfold Pct.pair at h
  cases h1 : Pct.unesc true (Pct.name p) with
  | none => rw [h1] at h; cases h
  | some a =>
    cases h2 : Pct.unesc true (Pct.value p) with
    | none => rw [h1, h2] at h; cases h
    | some b =>
      rw [h1, h2] at h; cases h
      exact Nat.le_trans (Pct.read_len h2) (value_len p)
theorem pairAll_mem : ∀ {l : List (List UInt8)} {q : List Pct.Pr}, Pct.pairAll l = some q → ∀ x ∈ q, ∃ p ∈ l, Pct.pair p = some x
  | [], q, h, x, hx => by simp [Pct.pairAll] at h; subst h; cases hx
  | p :: r, q, h, x, hx => by
    rw [Pct.pairAll_cons] at h
    cases h1 : Pct.pair p with
    | none => rw [h1] at h; cases h
    | some a =>
      cases h2 : Pct.pairAll r with
      | none => rw [h1, h2] at h; cases h
      | some b =>
        rw [h1, h2] at h; cases h
        rcases List.mem_cons.1 hx with rfl | hx
        · exact ⟨p, List.mem_cons_self, h1⟩
        · obtain ⟨y, hy, e⟩ := pairAll_mem h2 x hx
          exact ⟨y, List.mem_cons_of_mem _ hy, e⟩
theorem prsO_val {s : List UInt8} {q : List PB} (h : prsO s = some q) : ∀ x ∈ q, x.2.size ≤ s.length := by
  unfold prsO at h
  split at h
  · obtain ⟨y, hy, rfl⟩ := Option.map_eq_some_iff.1 h
    intro x hx
    obtain ⟨z, hz, rfl⟩ := List.mem_map.1 hx
    obtain ⟨pc, hp, e⟩ := pairAll_mem hy z hz
    have h1 := pair_len e
    have h2 := pctw.split_le s pc (List.mem_filter.1 hp).1
    show (⟨z.2.toArray⟩ : ByteArray).size ≤ _
    rw [str_size]; omega
  · cases h
theorem get_in (l : List PB) (n : ByteArray) : (gtn.getOf l n).1 = emp ∨ ∃ p ∈ l, (gtn.getOf l n).1 = p.2 := by
  unfold gtn.getOf
  have key : ∀ (l m : List PB) (a : ByteArray × Nat), (∀ p ∈ l, p ∈ m) → (a.1 = emp ∨ ∃ p ∈ m, a.1 = p.2) → ((l.foldl (gtn.step n) a).1 = emp ∨ ∃ p ∈ m, (l.foldl (gtn.step n) a).1 = p.2) := by
    intro l m
    induction l with
    | nil => intro a _ h; exact h
    | cons p r ih =>
      intro a hs h
      rw [List.foldl_cons]
      refine ih _ (fun q hq => hs q (List.mem_cons_of_mem _ hq)) ?_
      unfold gtn.step
      split
      · simp only
        split
        · exact Or.inr ⟨p, hs p List.mem_cons_self, rfl⟩
        · exact h
      · exact h
  exact key l l (emp, 0) (fun _ h => h) (Or.inl rfl)
/-- the text of a request's query, and of its form -/
def qryB (t : ByteArray) : ByteArray := ⟨(behind 63 t.data.toList).toArray⟩
def frmB (m b : ByteArray) (fs : List PB) : ByteArray := if formB m (lookOf fs ctL) then b else emp
theorem qry_size (t : ByteArray) : (qryB t).size ≤ t.size := by
  unfold qryB; rw [str_size]
  have := behind_len 63 t.data.toList
  rw [len_list] at this; exact this
theorem frm_size (m b : ByteArray) (fs : List PB) : (frmB m b fs).size ≤ b.size := by
  unfold frmB; split
  · exact Nat.le_refl _
  · exact Nat.zero_le _
theorem ev_of {w : World} {e : Nat → Addr} (h : Errs w e) : Ev 0 w (X (e 1)) := h.cell 1 (by decide)
theorem txt_of {w : World} {e : Nat → Addr} (h : Errs w e) : Txt w (e 1) := h.cell 1 (by decide)
theorem mny_of {w : World} {e : Nat → Addr} (h : Errs w e) : Mny w (e 2) := h.cell 2 (by decide)

set_option maxRecDepth 100000 in
set_option maxHeartbeats 6400000 in
theorem parameters_any (m t : ByteArray) (n : Int) (v : Value) (b : ByteArray) (c : Bool) (fs : List PB) (w : World) (hl : Lies w v fs) (hz : Fz fs) (e : Nat → Addr) (hE : Errs w e) (ht : t.size ≤ reachBytes) (hb : b.size ≤ reachBytes) :
    Calls Tryz.prog 10 #[rv m t n v b c] w fun x w' => Below w.heap.size w w' ∧ (((prsO (qryB t).data.toList = none ∨ prsO (frmB m b fs).data.toList = none) ∧ ∃ y, x = .returned (.tuple #[.slice none 0 0, X y])) ∨ ∃ p q u, prsO (qryB t).data.toList = some p ∧ prsO (frmB m b fs).data.toList = some q ∧ x = .returned (.tuple #[u, .nilIface]) ∧ Lies w' u (p ++ q) ∧ (p ++ q).length ≤ 64 ∧ ∀ z ∈ p ++ q, z.2.size ≤ reachBytes) := by
  have ht9 : t.size ≤ 4611686018427387904 := by unfold reachBytes at ht; omega
  have BA : Below w.heap.size w (w.alloc (rq m t n v b c)) := (Below.refl _ _).alloc (Nat.le_refl _) _
  have o0 := heap_new w (rq m t n v b c)
  have HB0 := hide BA
  have HO := hide o0
  have HSP : Hid (∀ W, Calls Tryz.prog 23 #[.string t] W fun x w' => x = .returned (.tuple #[S (before 63 t.data.toList), .string (qryB t), .bool (t.data.toList.contains 63)]) ∧ Below W.heap.size W w') := fun W => tm.split_any t W ht9
  have HPQ := hide (fun W (hW : Below w.heap.size w W) => prsP_any (qryB t) W (Nat.le_trans (qry_size t) ht) (e 1) (e 2) (txt_of (hE.below hW)) (mny_of (hE.below hW)))
  have HPF := hide (fun W (hW : Below w.heap.size w W) => prsP_any (frmB m b fs) W (Nat.le_trans (frm_size m b fs) hb) (e 1) (e 2) (txt_of (hE.below hW)) (mny_of (hE.below hW)))
  have HFO : Hid (∀ W, Below w.heap.size w W → Calls Tryz.prog 25 #[rv m t n v b c] W fun x w' => x = .returned (.string (frmB m b fs)) ∧ Below W.heap.size W w') := fun W hW => formOf_any m t n v b c fs W (hl.below hW) hz (e 1) (ev_of (hE.below hW))
  obtain ⟨_, c1, _, _⟩ := rqc o0
  have HZQ := hide (Nat.le_trans (qry_size t) ht)
  have HZF := hide (Nat.le_trans (frm_size m b fs) hb)
  generalize before 63 t.data.toList = bfr at *
  generalize t.data.toList.contains 63 = hasq at *
  generalize qryB t = QB at *
  generalize frmB m b fs = FB at *
  clear BA o0 hl hz hE ht hb ht9
  go_enter Tryz.func10, Tryz.ntmps10
  go_wp2_with fail
  refine (HSP.out _).mono ?_
  rintro x w1 ⟨rfl, b1⟩
  have B1 := keepW HB0.out b1 HB0.out.size
  have HB1 := hide B1
  have HO1 := hide (blkR HO.out b1)
  have HQ1 := hide (HPQ.out w1 B1)
  clear c1 b1 B1 HSP HPQ HB0 HO
  go_wp2_with fail
  refine HQ1.out.mono ?_
  rintro x w2 ⟨b2, h⟩
  have HB2 := hide (keepW HB1.out b2 HB1.out.size)
  have HO2 := hide (blkR HO1.out b2)
  have hs12 : Hid (w1.heap.size ≤ w2.heap.size) := b2.size
  have hs01 : Hid (w.heap.size ≤ w1.heap.size) := HB1.out.size
  clear b2 HB1 HO1 HQ1
  rcases h with ⟨hn, y, rfl⟩ | ⟨p, v1, hp, rfl, hown⟩
  · have HN := hide hn
    clear hn
    go_wp2_with fail
    go_ret2
    exact ⟨HB2.out, Or.inl ⟨Or.inl HN.out, y, rfl⟩⟩
  · have HP := hide hp
    have hpl := prsO_len hp
    have HR2 := hide (rqr HO2.out)
    have HW1 := hide hown
    have HF2 := hide (HFO.out w2 HB2.out)
    obtain ⟨oa, cap, rfl⟩ : ∃ oa cap, v1 = .slice oa p.length cap := by
      obtain ⟨oa, cap, hv, _⟩ := lies_of_own hown
      exact ⟨oa, cap, hv⟩
    clear hp hown HFO
    go_wp2_with (refine wpList_load_mid rfl 24 (.tmp 1) rfl w.heap.size 0 rfl _ _ HR2.out Tryz.underlying24 rfl sizeR ?_)
    refine HF2.out.mono ?_
    rintro x w3 ⟨rfl, b3⟩
    have HB3 := hide (keepW HB2.out b3 HB2.out.size)
    have HW2 := hide (own_below HW1.out b3)
    have HQ3 := hide (HPF.out w3 HB3.out)
    have hs13 : Hid (w1.heap.size ≤ w3.heap.size) := Nat.le_trans hs12.out b3.size
    clear b3 HB2 HO2 HF2 HW1 HPF HR2
    go_wp2_with fail
    refine HQ3.out.mono ?_
    rintro x w4 ⟨b4, h⟩
    have HB4 := hide (keepW HB3.out b4 HB3.out.size)
    have HW3 := hide (own_below HW2.out b4)
    have hs4 := b4.size
    clear HB3 HW2 HQ3
    rcases h with ⟨hn, y, rfl⟩ | ⟨q, v2, hq, rfl, hown⟩
    · have HN := hide hn
      clear hn
      go_wp2_with fail
      go_ret2
      exact ⟨HB4.out, Or.inl ⟨Or.inr HN.out, y, rfl⟩⟩
    · have HQ := hide hq
      have hql := prsO_len hq
      have HLI := hide (lies_of_own hown)
      obtain ⟨ob, cap2, rfl⟩ : ∃ ob cap2, v2 = .slice ob q.length cap2 := by
        obtain ⟨ob, cap2, hv, _⟩ := lies_of_own hown
        exact ⟨ob, cap2, hv⟩
      clear hq hown
      go_wp2_with (refine append_prs _ rfl _ _ rfl w1.heap.size _ p rfl HW3.out _ q rfl HLI.out ?c1 ?c2 ?c3 ?_)
      case c1 => unfold maxLen; omega
      case c2 => omega
      case c3 => have := hs13.out; omega
      intro v' w5 hown hgrow
      have HB5 : Hid (Below w.heap.size w w5) := HB4.out.grown hgrow HB4.out.size (fun g hg => Nat.le_trans hs01.out (own_ge HW3.out g hg))
      try rw [← List.length_append] at hown
      have HL5 := hide (lies_of_own hown)
      clear hown hgrow
      go_wp2_with fail
      go_ret2
      exact ⟨HB5.out, Or.inr ⟨p, q, _, HP.out, HQ.out, rfl, HL5.out, by rw [List.length_append]; omega, fun z hz => (List.mem_append.1 hz).elim (fun h => Nat.le_trans (prsO_val HP.out z h) (by rw [len_list]; exact HZQ.out)) (fun h => Nat.le_trans (prsO_val HQ.out z h) (by rw [len_list]; exact HZF.out))⟩⟩
end Go.Proofs.YtcpflfpgnbihiaaGreatDoor.bf
