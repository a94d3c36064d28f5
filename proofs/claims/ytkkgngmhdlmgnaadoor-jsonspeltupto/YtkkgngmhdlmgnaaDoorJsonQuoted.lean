import Derived.Test.YtkkgngmhdlmgnaaDoorJsonChar
namespace Go.Proofs.YtkkgngmhdlmgnaaDoor.jw
open Go.ChangeShapes Go.WideShapes Go.ChangeAt Go.RowKit Go.Proofs.YtkkgngmhdlmgnaaDoor.common
attribute [local go_sem ↓] Go.wp_at_zero Go.wp_at_succ

theorem esc_len (c : UInt8) : 1 ≤ (Json.esc c).length ∧ (Json.esc c).length ≤ 6 := by
  unfold Json.esc
  repeat' split
  all_goals simp
theorem inner_len : ∀ l : List UInt8, l.length ≤ (Json.inner l).length ∧ (Json.inner l).length ≤ 6 * l.length
  | [] => by simp [Json.inner]
  | c :: r => by
    have h := inner_len r
    have h1 := esc_len c
    unfold Json.inner at h ⊢
    rw [List.flatMap_cons, List.length_append, List.length_cons]
    omega

theorem Fr.iterAt {b : Nat} {a w : World} (h : Fr b a w) {k : Nat} (hk : a.heap.size ≤ k) (hb : b ≤ k) (s : ByteArray) (pos : Nat) : Fr b a (w.iterAt k s pos) :=
  ⟨Lib.below_iterAt h.below hb s pos, fun j o hj hn ho => by
    have hlt : j < a.heap.size := (Array.getElem?_eq_some_iff.1 hj).1
    rw [Lib.iterAt_other w k j s pos (by omega)]
    exact h.others j o hj hn ho⟩
theorem own_iterAt {w : World} {b : Nat} {e : TypeId} {v : Value} {n : Nat} {xs : List Value} (h : w.ownsRow b e 1 v n xs) {k : Nat} {s : ByteArray} {pos : Nat} (hk : w.heap[k]? = some (.stringIter s pos)) (pos' : Nat) : (w.iterAt k s pos').ownsRow b e 1 v n xs := by
  refine ⟨h.1, ?_⟩
  rcases h.2 with hn | ⟨g, cap, cur, hv, hg, hh, rest⟩
  · exact .inl hn
  · refine .inr ⟨g, cap, cur, hv, hg, ?_, rest⟩
    rw [Lib.iterAt_other w k g s pos' (by rintro rfl; rw [hk] at hh; cases hh)]
    exact hh
theorem Fr.iter {b : Nat} {w w' : World} (h : Fr b w w') {k : Nat} {s : ByteArray} {pos : Nat} (hk : w.heap[k]? = some (.stringIter s pos)) : w'.heap[k]? = some (.stringIter s pos) :=
  h.others k _ hk (fun e => by cases e) (fun _ _ e => by cases e)

/-- one character more of a plain text -/
theorem char_step (s : ByteArray) (pos : Nat) (hp : pos < s.size) (hv : Lib.validD (s.data.toList.drop pos) = true) :
    pos + (Utf8.decode s pos).2 ≤ s.size ∧ 1 ≤ (Utf8.decode s pos).2 ∧ (Utf8.decode s pos).1 ≤ 1114111 ∧ Lib.validD (s.data.toList.drop (pos + (Utf8.decode s pos).2)) = true ∧
    Json.inner (s.data.toList.take (pos + (Utf8.decode s pos).2)) = Json.inner (s.data.toList.take pos) ++ Json.charOf (Utf8.decode s pos).1 := by
  have hl : s.data.toList.length = s.size := len_list s
  have hne : s.data.toList.drop pos ≠ [] := by
    intro e
    have := congrArg List.length e
    simp only [List.length_drop, List.length_nil] at this
    omega
  rw [← Lib.decodeL_drop]
  rcases Json.valid_cases _ hv with h | ⟨d, r, hd, e, hr, hdec⟩
  · exact absurd h hne
  · have h1 := Lib.decodeL_le _ hne
    have h2 := Lib.decodeL_width (s.data.toList.drop pos)
    have h3 := Lib.decodeL_rune (s.data.toList.drop pos)
    rw [List.length_drop] at h1
    refine ⟨by omega, h2, h3, ?_, ?_⟩
    · rw [← List.drop_drop, hdec, e]
      simp only [List.drop_left]
      exact hr
    · rw [List.take_add, Json.inner_append]
      congr 1
      rw [hdec, Json.charOf_inner d hd]
      rw [e]
      simp only [List.take_left]

set_option maxRecDepth 100000 in
set_option maxHeartbeats 3200000 in
theorem appendQuoted_any (b : Nat) (v : Value) (l : List UInt8) (s : ByteArray) (w : World) (hS : Short w) (hG : 17 < b) (hv : Lib.validD s.data.toList = true) (hown : w.ownsRow b 5 1 v l.length (l.map B)) (hlen : l.length + 6 * s.size + 8 ≤ 140737488355328) (hb : b ≤ w.heap.size) :
    Calls Tryd.prog 44 #[v, .string s] w fun e w' => ∃ v', e = .returned v' ∧ w'.ownsRow b 5 1 v' (l ++ Json.quote s.data.toList).length ((l ++ Json.quote s.data.toList).map B) ∧ Fr b w w' := by
  obtain ⟨i0, hi, hz0, hz1, hz2⟩ := info_parts info8
  have HT := hide hS
  have HG := hide hG
  have HO := hide hown
  have HV := hide hv
  clear hS hG hown hv
  go_enter Tryd.func44, Tryd.ntmps44
  go_wp2_with (at_builtin; refine wpList_append_own _ rfl _ _ 60 rfl b 5 i0 (.int .u8 0) 1 1 Tryd.underlying60 hi hz0 hz1 hz2 rfl (by decide) _ _ _ rfl (HO.out.alloc _) ⟨w.heap.size, 0, none⟩ 1 1 [_] rfl rfl (cell_one_new _ _ _) ?c2 ?c3 ?c4 ?c5 ?_)
  case c2 => first | rfl | (intro u hu; simp at hu; subst hu; rfl)
  case c3 => unfold maxLen; omega
  case c4 => omega
  case c5 => first | omega | (simp; omega)
  intro v1 w1 hown' hgrow _
  have H1 : Hid (w1.ownsRow b 5 1 v1 (l ++ [34] ++ Json.inner (s.data.toList.take 0)).length ((l ++ [34] ++ Json.inner (s.data.toList.take 0)).map B)) := by
    show w1.ownsRow _ _ _ _ _ _
    rw [List.take_zero, show Json.inner [] = [] from rfl, List.append_nil, List.length_append, List.map_append]; exact hown'
  have H2 : Hid (Fr b w w1) := ((Fr.refl b w).alloc hb _).grown (HO.out.alloc _) hgrow (by simp; omega)
  clear hown' hgrow
  have hk0 : (w1.iter s 0).heap[w1.heap.size]? = some (.stringIter s 0) := World.iter_heap w1 s 0
  have HK0 := hide hk0
  have H1i : Hid ((w1.iter s 0).ownsRow b 5 1 v1 (l ++ [34] ++ Json.inner (s.data.toList.take 0)).length ((l ++ [34] ++ Json.inner (s.data.toList.take 0)).map B)) := H1.out.alloc _
  have hbw1 : b ≤ w1.heap.size := Nat.le_trans hb H2.out.size
  have H2i : Hid (Fr b w (w1.iter s 0)) := H2.out.alloc hbw1 _
  have HS1 : Hid (w.heap.size ≤ w1.heap.size) := H2.out.size
  clear hk0 H1 H2
  go_wp2_with fail
  generalize w1.iter s 0 = wi at *
  generalize w1.heap.size = k at *
  go_loopw [0] (fun v wr => ∃ pos : Nat, pos ≤ s.size ∧ wr.heap[k]? = some (.stringIter s pos) ∧ Lib.validD (s.data.toList.drop pos) = true ∧ wr.ownsRow b 5 1 v (l ++ [34] ++ Json.inner (s.data.toList.take pos)).length ((l ++ [34] ++ Json.inner (s.data.toList.take pos)).map B) ∧ Fr b w wr)
    (fun _ wr => s.size - wr.iterPos k)
  case atStart => exact ⟨0, Nat.zero_le _, HK0.out, HV.out, H1i.out, H2i.out⟩
  case round =>
    obtain ⟨pos, hps, hit, hvd, hown, hfr⟩ := hrel
    have hbw : b ≤ wr.heap.size := Nat.le_trans hb hfr.size
    by_cases hp : pos < s.size
    · obtain ⟨c1, c2, c3, c4, c5⟩ := char_step s pos hp hvd
      have hnext : ∀ ty, (Instr.next (.pointer (some ⟨k, 0, none⟩)) true ty).run Tryd.prog wr = _ := fun ty => Lib.run_next_any_at wr k s pos ty hit hp
      have hmu : wr.iterPos k = pos := by simp [World.iterPos, hit]
      have HI1 := hide (Lib.iterAt_heap wr k s pos (pos + (Utf8.decode s pos).2) hit)
      have HO1 := hide (own_iterAt hown hit (pos + (Utf8.decode s pos).2))
      have HF1 := hide (hfr.iterAt HS1.out hbw1 s (pos + (Utf8.decode s pos).2))
      have hlen2 := (inner_len (s.data.toList.take pos)).2
      rw [List.length_take, len_list] at hlen2
      have hlen3 : (l ++ [34] ++ Json.inner (s.data.toList.take pos)).length + 6 ≤ 140737488355328 := by
        simp only [List.length_append, List.length_cons, List.length_nil]; omega
      have HSN : Hid (l ++ [34] ++ Json.inner (s.data.toList.take (pos + (Utf8.decode s pos).2)) = (l ++ [34] ++ Json.inner (s.data.toList.take pos)) ++ Json.charOf (Utf8.decode s pos).1) := by
        show _ = _
        rw [c5, ← List.append_assoc]
      have HC4 := hide c4
      have HMU := hide hmu
      clear c4 c5 hown hfr hit hvd hlen2 hmu
      generalize l ++ [34] ++ Json.inner (s.data.toList.take pos) = L at *
      generalize (Utf8.decode s pos).2 = n at *
      generalize (Utf8.decode s pos).1 = d at *
      generalize wr.iterAt k s (pos + n) = W1 at *
      have hbW : b ≤ W1.heap.size := Nat.le_trans hb HF1.out.size
      have HT1 := hide (HT.out.under HF1.out.below HG.out)
      go_wp2_with fail
      refine (appendChar_any b _ L d c3 W1 HT1.out HO1.out hlen3 hbW).mono ?_
      rintro e W2 ⟨v2, rfl, ho2, hf2⟩
      have HO2 := hide ho2
      have HF2 := hide (HF1.out.trans hf2)
      have HI2 := hide (hf2.iter HI1.out)
      clear ho2 hf2
      go_wp2
      go_roundw
      case rel => exact ⟨pos + n, c1, HI2.out, HC4.out, by rw [HSN.out]; exact HO2.out, HF2.out⟩
      case measure =>
        have hmu2 : W2.iterPos k = pos + n := by simp [World.iterPos, HI2.out]
        rw [HMU.out, hmu2]
        omega
    · obtain rfl : pos = s.size := by omega
      have hnext : ∀ ty, (Instr.next (.pointer (some ⟨k, 0, none⟩)) true ty).run Tryd.prog wr = _ := fun ty => Lib.run_next_end_at wr k s _ ty hit hp
      have hall : s.data.toList.take s.size = s.data.toList := List.take_of_length_le (by rw [len_list]; exact Nat.le_refl _)
      rw [hall] at hown
      have hlen2 := (inner_len s.data.toList).2
      rw [len_list] at hlen2
      have hlen3 : (l ++ [34] ++ Json.inner s.data.toList).length + 1 ≤ 140737488355328 := by
        simp only [List.length_append, List.length_cons, List.length_nil]; omega
      have HQ : Hid (l ++ Json.quote s.data.toList = (l ++ [34] ++ Json.inner s.data.toList) ++ [34]) := by show _ = _; simp [Json.quote]
      have HF := hide hfr
      have HOw := hide hown
      clear hall hlen2 hown hfr hvd hit
      generalize l ++ [34] ++ Json.inner s.data.toList = L at *
      go_wp2_with (at_builtin; refine wpList_append_own _ rfl _ _ 60 rfl b 5 i0 (.int .u8 0) 1 1 Tryd.underlying60 hi hz0 hz1 hz2 rfl (by decide) _ _ _ rfl (HOw.out.alloc _) ⟨wr.heap.size, 0, none⟩ 1 1 [_] rfl rfl (cell_one_new _ _ _) ?d2 ?d3 ?d4 ?d5 ?_)
      case d2 => first | rfl | (intro u hu; simp at hu; subst hu; rfl)
      case d3 => unfold maxLen; omega
      case d4 => omega
      case d5 => first | omega | (simp; omega)
      intro v' w2 hown' hgrow _
      have K1 : Hid (w2.ownsRow b 5 1 v' (l ++ Json.quote s.data.toList).length ((l ++ Json.quote s.data.toList).map B)) := by
        show w2.ownsRow _ _ _ _ _ _
        rw [HQ.out, List.length_append, List.map_append]; exact hown'
      have K2 : Hid (Fr b w w2) := (HF.out.alloc hbw _).grown (HOw.out.alloc _) hgrow (by simp; omega)
      clear hown' hgrow
      go_wp2
      go_ret
      exact ⟨_, rfl, K1.out, K2.out⟩

/-- the refusal of a text -/
def Txt (w : World) (ea : Addr) : Prop := w.cell? ⟨1, 0, none⟩ = some (.iface 144 (.pointer (some ea)))
end Go.Proofs.YtkkgngmhdlmgnaaDoor.jw
