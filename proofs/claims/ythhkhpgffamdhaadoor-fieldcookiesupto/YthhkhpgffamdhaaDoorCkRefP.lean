import Derived.Test.YthhkhpgffamdhaaDoorCkAll
import Derived.Test.YthhkhpgffamdhaaDoorRefLow
namespace Go.Proofs.YthhkhpgffamdhaaDoor.fd
open Go.ChangeShapes Go.WideShapes Go.ChangeAt Go.RowKit Go.Proofs.YthhkhpgffamdhaaDoor.common Go.Proofs.YthhkhpgffamdhaaDoor.bk
open Go.Proofs.YthhkhpgffamdhaaDoor.lst (PB cl cl_app infoP)
attribute [local go_sem ↓] Go.wp_at_zero Go.wp_at_succ

/-- all pieces -/
def pca : Nat → List UInt8 → List (List UInt8) → List (List UInt8)
  | 0, _, acc => acc
  | n + 1, l, acc => if l = [] then acc else pca n (pcRest l) (pcAdd acc l)
theorem pca_fuel : ∀ (n m : Nat) (l : List UInt8) (acc : List (List UInt8)), l.length ≤ n → l.length ≤ m → pca n l acc = pca m l acc := by
  intro n
  induction n with
  | zero =>
    intro m l acc h1 _
    obtain rfl : l = [] := List.length_eq_zero_iff.1 (by omega)
    cases m with
    | zero => rfl
    | succ m => show acc = if _ then _ else _; rw [if_pos rfl]
  | succ n ih =>
    intro m l acc h1 h2
    cases l with
    | nil =>
      cases m with
      | zero => show (if _ then _ else _) = acc; rw [if_pos rfl]
      | succ m => show (if _ then _ else _) = if _ then _ else _; rw [if_pos rfl, if_pos rfl]
    | cons x r =>
      cases m with
      | zero => simp at h2
      | succ m =>
        have hr := pcRest_len x r
        rw [List.length_cons] at h1 h2
        show (if _ then _ else _) = if _ then _ else _
        rw [ih m (pcRest (x :: r)) (pcAdd acc (x :: r)) (by omega) (by omega)]
def pcaL (l : List UInt8) (acc : List (List UInt8)) : List (List UInt8) := pca l.length l acc
theorem pcaL_nil (acc : List (List UInt8)) : pcaL [] acc = acc := rfl
theorem pcaL_next (x : UInt8) (r : List UInt8) (acc : List (List UInt8)) : pcaL (x :: r) acc = pcaL (pcRest (x :: r)) (pcAdd acc (x :: r)) := by
  have hr := pcRest_len x r
  unfold pcaL
  show (if _ then _ else _) = _
  rw [if_neg (by simp)]
  exact pca_fuel _ _ _ _ (by omega) (Nat.le_refl _)
theorem pcAdd_pre (acc : List (List UInt8)) (l : List UInt8) : acc <+: pcAdd acc l := by
  unfold pcAdd; split
  · exact List.prefix_refl _
  · exact List.prefix_append _ _
theorem pcAdd_len (acc : List (List UInt8)) (l : List UInt8) : (pcAdd acc l).length ≤ acc.length + 1 := by
  unfold pcAdd; split <;> simp
theorem pca_pre : ∀ (n : Nat) (l : List UInt8) (acc : List (List UInt8)), acc <+: pca n l acc := by
  intro n
  induction n with
  | zero => intro l acc; exact List.prefix_refl _
  | succ n ih =>
    intro l acc
    unfold pca
    split
    · exact List.prefix_refl _
    · exact (pcAdd_pre acc l).trans (ih _ _)
theorem pca_len : ∀ (n : Nat) (l : List UInt8) (acc : List (List UInt8)), (pca n l acc).length ≤ acc.length + n := by
  intro n
  induction n with
  | zero => intro l acc; exact Nat.le_refl _
  | succ n ih =>
    intro l acc
    unfold pca
    split
    · omega
    · have h1 := ih (pcRest l) (pcAdd acc l)
      have h2 := pcAdd_len acc l
      omega
/-- the program's pieces are the first seventeen -/
theorem pcs_take : ∀ (n : Nat) (l : List UInt8) (acc : List (List UInt8)), acc.length ≤ 17 → pcs n l acc = (pca n l acc).take 17 := by
  intro n
  induction n with
  | zero => intro l acc h; exact (List.take_of_length_le h).symm
  | succ n ih =>
    intro l acc h
    unfold pcs pca
    by_cases hl : l = []
    · rw [if_pos (Or.inl hl), if_pos hl, List.take_of_length_le h]
    · rw [if_neg hl]
      by_cases h16 : 16 < acc.length
      · rw [if_pos (Or.inr h16)]
        obtain ⟨t, ht⟩ := (pcAdd_pre acc l).trans (pca_pre n (pcRest l) (pcAdd acc l))
        rw [← ht, List.take_append_of_le_length (by omega), List.take_of_length_le h]
      · rw [if_neg (by rintro (e | e); exact hl e; exact h16 e)]
        exact ih _ _ (by have := pcAdd_len acc l; omega)
theorem pcsL_take (l : List UInt8) : pcsL l [] = (pcaL l []).take 17 := pcs_take _ _ _ (by decide)

/-- the pieces up to place i, the rest from place f on -/
def Cut6 (l : List UInt8) (acc : List (List UInt8)) (f i : Nat) : Prop := f ≤ i ∧ (∀ x ∈ (l.drop f).take (i - f), isPc x = true) ∧ pcaL (l.drop f) acc = pcaL l []
theorem cut6_more {l : List UInt8} {acc : List (List UInt8)} {f i : Nat} (h : Cut6 l acc f i) (hi : i < l.length) (hc : l.getD i 0 ≠ 59) : Cut6 l acc f (i + 1) := by
  obtain ⟨h1, h2, h3⟩ := h
  refine ⟨by omega, fun x hx => ?_, h3⟩
  rw [show i + 1 - f = (i - f) + 1 by omega, List.take_succ_eq_append_getElem (by rw [List.length_drop]; omega)] at hx
  rcases List.mem_append.1 hx with hx | hx
  · exact h2 x hx
  · simp at hx
    subst hx
    have e : f + (i - f) = i := by omega
    simp only [e]
    refine decide_eq_true ?_
    intro e2; apply hc
    rw [List.getD_eq_getElem?_getD, List.getElem?_eq_getElem hi]; exact e2
theorem cut6_part {l : List UInt8} {acc : List (List UInt8)} {f i : Nat} (h : Cut6 l acc f i) (hi : i ≤ l.length) (hc : i < l.length → l.getD i 0 = 59) :
    Cut6 l (if Fd.trim ((l.drop f).take (i - f)) = [] then acc else acc ++ [Fd.trim ((l.drop f).take (i - f))]) (i + 1) (i + 1) := by
  obtain ⟨h1, h2, h3⟩ := h
  refine ⟨Nat.le_refl _, fun x hx => by simp at hx, ?_⟩
  have hq : (l.drop f).length ≤ i - f ∨ isPc ((l.drop f).getD (i - f) 0) = false := by
    by_cases hlt : i < l.length
    · right
      rw [List.getD_eq_getElem?_getD, List.getElem?_drop, show f + (i - f) = i by omega, ← List.getD_eq_getElem?_getD, hc hlt]
      rfl
    · left; rw [List.length_drop]; omega
  obtain ⟨e1, e2⟩ := span_at h2 hq
  rw [List.drop_drop, show f + (i - f) = i by omega] at e2
  have e3 : pcRest (l.drop f) = l.drop (i + 1) := by
    unfold pcRest
    rw [e2]
    by_cases hlt : i < l.length
    · have : l.drop i = 59 :: l.drop (i + 1) := by
        rw [List.drop_eq_getElem_cons hlt]
        congr 1
        have := hc hlt
        rwa [List.getD_eq_getElem?_getD, List.getElem?_eq_getElem hlt] at this
      rw [this]; rfl
    · rw [List.drop_of_length_le (by omega), List.drop_of_length_le (by omega)]; rfl
  rw [← h3]
  cases hd : l.drop f with
  | nil =>
    have hf : l.length ≤ f := by
      have := congrArg List.length hd
      rw [List.length_drop, List.length_nil] at this
      omega
    have hit : Fd.trim (([] : List UInt8).take (i - f)) = [] := by rw [List.take_nil]; rfl
    rw [if_pos hit, List.drop_of_length_le (by omega)]
  | cons x r =>
    rw [pcaL_next, ← hd, e3]
    unfold pcAdd
    rw [e1]
theorem cut6_len {l : List UInt8} {acc : List (List UInt8)} {f i : Nat} (h : Cut6 l acc f i) : acc.length ≤ l.length := by
  have h1 : (pcaL l []).length ≤ 0 + l.length := pca_len _ _ _
  have h2 := (pca_pre (l.drop f).length (l.drop f) acc).length_le
  have h3 : (pca (l.drop f).length (l.drop f) acc) = pcaL l [] := h.2.2
  rw [h3] at h2
  omega
theorem ext_mid6 (s : ByteArray) (f i : Nat) : (s.extract f i).data.toList = (s.data.toList.drop f).take (i - f) := by simp

set_option maxRecDepth 100000 in
set_option maxHeartbeats 3200000 in
theorem refPieces6_any (s : ByteArray) (w : World) (hs : s.size ≤ 1048576) :
    Calls Tryd.prog 42 #[.string s] w fun e w' => ∃ v, e = .returned v ∧ w'.ownsRow w.heap.size 9 1 v (pcaL s.data.toList []).length ((pcaL s.data.toList []).map S) ∧ Below w.heap.size w w' := by
  obtain ⟨i0, hi, hz0, hz1, hz2⟩ := info_parts infoStr
  have HLL := hide (len_list s)
  go_enter Tryd.func42, Tryd.ntmps42
  go_wp2_with fail
  go_loopw [3, 4, 5] (fun v f i wr => ∃ (q : List (List UInt8)) (k m : Nat), k ≤ s.size + 1 ∧ i = .int .i64 k ∧ f = .int .i64 m ∧ Cut6 s.data.toList q m k ∧ (k = s.size + 1 → m = s.size + 1) ∧ wr.ownsRow w.heap.size 9 1 v q.length (q.map S) ∧ Below w.heap.size w wr) (fun _ _ i _ => s.size + 1 - (intOf i).toNat)
  case atStart => exact ⟨[], 0, 0, Nat.zero_le _, rfl, rfl, ⟨Nat.le_refl _, fun x hx => by simp at hx, rfl⟩, fun h => by omega, World.ownsRow_nil _ _ _ _, Below.refl _ _⟩
  case round =>
    obtain ⟨q, k, m, hk, rfl, rfl, hcut, hend, hown, hnx⟩ := hrel
    have hsz := hnx.size
    have hql : q.length ≤ 1048576 := by have := cut6_len hcut; have := HLL.out; omega
    have hmk := hcut.1
    have HC := hide hcut
    have HEND := hide hend
    clear hcut hend
    by_cases hlt : k ≤ s.size
    · have hki : (k : Int) ≤ (s.size : Int) := by omega
      have hmj : (m : Int) ≤ (k : Int) := by omega
      have hm0 : (0 : Int) ≤ (m : Int) := Int.natCast_nonneg _
      by_cases hke : k = s.size
      · obtain rfl := hke
        have hcp := cut6_part HC.out (by rw [HLL.out]; omega) (fun h => by rw [HLL.out] at h; omega)
        rw [← ext_mid6 s m s.size] at hcp
        have HC2 := hide hcp
        have hxs : (s.extract m s.size).size ≤ 4611686018427387904 := by rw [ByteArray.size_extract]; omega
        have HO := hide hown
        have HN := hide hnx
        clear hown hnx hcp
        go_wp2_with fail
        refine (refTrim_any (s.extract m s.size) wr hxs).mono ?_
        rintro x w1 ⟨rfl, rfl⟩
        by_cases hte : Fd.trim (s.extract m s.size).data.toList = []
        · rw [if_pos hte] at HC2
          rw [hte]
          clear hte
          go_wp2_with fail
          go_roundw
          case rel => exact ⟨q, s.size + 1, s.size + 1, by omega, by go_num, by go_num, HC2.out, fun h => h, HO.out, HN.out⟩
          case measure => simp [intOf] <;> omega
        · rw [if_neg hte] at HC2
          obtain ⟨hne1, hne2⟩ := ne_nil_pc hte
          generalize Fd.trim (s.extract m s.size).data.toList = T at *
          have hne3 : T.isEmpty = false := by cases T with | nil => exact absurd rfl hte | cons _ _ => rfl
          have hown := HO.out
          go_wp2_with (at_builtin; refine wpList_append_own _ rfl _ _ 71 rfl w.heap.size 9 i0 (.string ⟨#[]⟩) 1 16 Tryd.underlying71 hi hz0 hz1 hz2 rfl (by decide) _ _ _ rfl (hown.alloc _) ⟨_, 0, none⟩ 1 1 [_] rfl rfl (bk.cell_one_new _ _ _) ?d2 ?d3 ?d4 ?d5 ?_)
          case d2 => first | rfl | (intro u hu; simp at hu; subst hu; rfl)
          case d3 => unfold maxLen; omega
          case d4 => omega
          case d5 => first | omega | (simp; omega)
          intro v' w5 hown' hgrow _
          have R2 : Hid (Below w.heap.size w w5) := (HN.out.alloc hsz _).grown hgrow (by simp; omega) (own_ge hown)
          have R1 : Hid (w5.ownsRow w.heap.size 9 1 v' (q ++ [T]).length ((q ++ [T]).map S)) := by
            show w5.ownsRow _ _ _ _ _ _
            rw [List.length_append, List.map_append]; exact hown'
          clear hown' hgrow hown
          go_wp2
          go_roundw
          case rel => exact ⟨q ++ [T], s.size + 1, s.size + 1, by omega, by go_num, by go_num, HC2.out, fun h => h, R1.out, R2.out⟩
          case measure => simp [intOf] <;> omega
      · have hkq : ¬ (k : Int) = (s.size : Int) := by omega
        have hkl : (k : Int) < (s.size : Int) := by omega
        have hkn : k < s.size := by omega
        have HGD := hide (getD_list s k hkn)
        by_cases hc : s[k].toNat = 59
        · have hci : ((s[k].toNat : Nat) : Int) = 59 := by omega
          have HCE : Hid (s.data.toList.getD k 0 = 59) := by show _ = _; rw [HGD.out]; exact UInt8.toNat_inj.1 hc
          have hcp := cut6_part HC.out (by rw [HLL.out]; omega) (fun _ => HCE.out)
          rw [← ext_mid6 s m k] at hcp
          have HC2 := hide hcp
          have hxs : (s.extract m k).size ≤ 4611686018427387904 := by rw [ByteArray.size_extract]; omega
          have HO := hide hown
          have HN := hide hnx
          clear hown hnx hcp
          go_wp2_with fail
          refine (refTrim_any (s.extract m k) wr hxs).mono ?_
          rintro x w1 ⟨rfl, rfl⟩
          by_cases hte : Fd.trim (s.extract m k).data.toList = []
          · rw [if_pos hte] at HC2
            rw [hte]
            clear hte
            go_wp2_with fail
            go_roundw
            case rel => exact ⟨q, k + 1, k + 1, by omega, by go_num, by go_num, HC2.out, fun h => h, HO.out, HN.out⟩
            case measure => simp [intOf] <;> omega
          · rw [if_neg hte] at HC2
            obtain ⟨hne1, hne2⟩ := ne_nil_pc hte
            generalize Fd.trim (s.extract m k).data.toList = T at *
            have hne3 : T.isEmpty = false := by cases T with | nil => exact absurd rfl hte | cons _ _ => rfl
            have hown := HO.out
            go_wp2_with (at_builtin; refine wpList_append_own _ rfl _ _ 71 rfl w.heap.size 9 i0 (.string ⟨#[]⟩) 1 16 Tryd.underlying71 hi hz0 hz1 hz2 rfl (by decide) _ _ _ rfl (hown.alloc _) ⟨_, 0, none⟩ 1 1 [_] rfl rfl (bk.cell_one_new _ _ _) ?d2 ?d3 ?d4 ?d5 ?_)
            case d2 => first | rfl | (intro u hu; simp at hu; subst hu; rfl)
            case d3 => unfold maxLen; omega
            case d4 => omega
            case d5 => first | omega | (simp; omega)
            intro v' w5 hown' hgrow _
            have R2 : Hid (Below w.heap.size w w5) := (HN.out.alloc hsz _).grown hgrow (by simp; omega) (own_ge hown)
            have R1 : Hid (w5.ownsRow w.heap.size 9 1 v' (q ++ [T]).length ((q ++ [T]).map S)) := by
              show w5.ownsRow _ _ _ _ _ _
              rw [List.length_append, List.map_append]; exact hown'
            clear hown' hgrow hown
            go_wp2
            go_roundw
            case rel => exact ⟨q ++ [T], k + 1, k + 1, by omega, by go_num, by go_num, HC2.out, fun h => h, R1.out, R2.out⟩
            case measure => simp [intOf] <;> omega
        · have hci : ¬ ((s[k].toNat : Nat) : Int) = 59 := by omega
          have hcb : (((s[k].toNat : Nat) : Int) == 59) = false := beq_false_of_ne hci
          have HC2 := hide (cut6_more HC.out (by rw [HLL.out]; exact hkn) (by rw [HGD.out]; intro e; exact hc (by rw [e]; rfl)))
          have R1 := hide hown
          have R2 := hide hnx
          clear hown hnx
          go_wp2_with fail
          go_roundw
          case rel => exact ⟨q, k + 1, m, by omega, by go_num, rfl, HC2.out, fun h => by omega, R1.out, R2.out⟩
          case measure => simp [intOf] <;> omega
    · obtain rfl : k = s.size + 1 := by omega
      have hm : m = s.size + 1 := HEND.out rfl
      have HQ : Hid (q = pcaL s.data.toList []) := by
        show _ = _
        have h3 := HC.out.2.2
        rw [hm, List.drop_of_length_le (by rw [HLL.out]; omega), pcaL_nil] at h3
        exact h3
      have H1 := hide hown
      have H2 := hide hnx
      have hki : ¬ ((s.size + 1 : Nat) : Int) ≤ (s.size : Int) := by omega
      clear hown hnx
      go_wp2_with fail
      go_ret
      exact ⟨_, rfl, by rw [← HQ.out]; exact H1.out, H2.out⟩

end Go.Proofs.YthhkhpgffamdhaaDoor.fd
