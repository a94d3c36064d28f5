import Derived.Test.YthhkhpgffamdhaaDoorCkRefP
namespace Go.Proofs.YthhkhpgffamdhaaDoor.fd
open Go.ChangeShapes Go.WideShapes Go.ChangeAt Go.RowKit Go.Proofs.YthhkhpgffamdhaaDoor.common Go.Proofs.YthhkhpgffamdhaaDoor.bk
open Go.Proofs.YthhkhpgffamdhaaDoor.lst (PB cl cl_app infoP)
attribute [local go_sem ↓] Go.wp_at_zero Go.wp_at_succ

/-- what the document's Cookies answers, of these pieces -/
def CkRef (ps : List (List UInt8)) (base : Nat) (x : Ending) (w' : World) : Prop :=
  (16 < ps.length ∧ x = .returned (.tuple #[.slice none 0 0, .int .i64 3])) ∨
    (ps.length ≤ 16 ∧ ps.all pcOk = false ∧ x = .returned (.tuple #[.slice none 0 0, .int .i64 2])) ∨
    (ps.length ≤ 16 ∧ ps.all pcOk = true ∧ ∃ v, x = .returned (.tuple #[v, .int .i64 0]) ∧ w'.ownsRow base 41 2 v (ps.map mkP).length (cl (ps.map mkP)))
theorem pca_le : ∀ (n : Nat) (l : List UInt8) (acc : List (List UInt8)) (N : Nat), l.length ≤ N → (∀ p ∈ acc, p.length ≤ N) → ∀ p ∈ pca n l acc, p.length ≤ N := by
  intro n
  induction n with
  | zero => intro l acc N _ h p hp; exact h p hp
  | succ n ih =>
    intro l acc N hl h p hp
    unfold pca at hp
    split at hp
    · exact h p hp
    · rename_i hne
      cases l with
      | nil => exact absurd rfl hne
      | cons x r =>
        have hr := pcRest_len x r
        rw [List.length_cons] at hl
        refine ih (pcRest (x :: r)) (pcAdd acc (x :: r)) N (by omega) ?_ p hp
        intro q hq
        unfold pcAdd at hq
        split at hq
        · exact h q hq
        · rcases List.mem_append.1 hq with hq | hq
          · exact h q hq
          · rw [List.mem_singleton] at hq
            subst hq
            have h1 := trim_le ((x :: r).takeWhile isPc)
            have h2 := (List.takeWhile_prefix (l := x :: r) isPc).length_le
            rw [List.length_cons] at h2
            omega
theorem ext_suf (s : ByteArray) (m : Nat) (l : List UInt8) (h : l = s.data.toList.drop m) : s.extract m s.size = ⟨l.toArray⟩ := by
  subst h; apply ba_ext
  rw [Lib.extract_data, str_list, List.take_of_length_le (by rw [List.length_drop, len_list]; exact Nat.le_refl _)]
theorem ext_pre (s : ByteArray) (m : Nat) (l : List UInt8) (h : l = s.data.toList.take m) : s.extract 0 m = ⟨l.toArray⟩ := by
  subst h; apply ba_ext; simp
/-- the value of a piece, by its first and last byte -/
theorem unq_plain {l : List UInt8} (h : ¬ (2 ≤ l.length ∧ l.getD 0 0 = 34 ∧ l.getD (l.length - 1) 0 = 34)) : unq l = l := if_neg h
theorem unq_quoted {l : List UInt8} (h : 2 ≤ l.length ∧ l.getD 0 0 = 34 ∧ l.getD (l.length - 1) 0 = 34) : unq l = (l.take (l.length - 1)).drop 1 := if_pos h

theorem val_cases (V : ByteArray) (R : List UInt8) (h : R = unq V.data.toList) : (¬ 2 ≤ V.size ∧ R = V.data.toList) ∨ (2 ≤ V.size ∧ ((∃ h : 0 < V.size, ¬ (V[0].toNat : Int) = 34) ∧ R = V.data.toList ∨ (∃ h : 0 < V.size, (V[0].toNat : Int) = 34) ∧ (∃ h : V.size - 1 < V.size, ¬ (V[V.size - 1].toNat : Int) = 34) ∧ R = V.data.toList ∨
    (∃ h : 0 < V.size, (V[0].toNat : Int) = 34) ∧ (∃ h : V.size - 1 < V.size, (V[V.size - 1].toNat : Int) = 34) ∧ V.extract 1 (V.size - 1) = ⟨R.toArray⟩)) := by
  subst h
  by_cases h2 : 2 ≤ V.size
  · right
    refine ⟨h2, ?_⟩
    have h0 : 0 < V.size := by omega
    have h1 : V.size - 1 < V.size := by omega
    by_cases ha : V[0] = 34
    · have hai : (V[0].toNat : Int) = 34 := by rw [ha]; rfl
      by_cases hb : V[V.size - 1] = 34
      · have hbi : (V[V.size - 1].toNat : Int) = 34 := by rw [hb]; rfl
        refine Or.inr (Or.inr ⟨⟨h0, hai⟩, ⟨h1, hbi⟩, ?_⟩)
        rw [unq_quoted ⟨by rw [len_list]; exact h2, by rw [getD_list V 0 h0]; exact ha, by rw [len_list, getD_list V _ h1]; exact hb⟩]
        apply ba_ext
        rw [Lib.extract_data, str_list, List.take_drop, len_list]
        congr 2
        omega
      · have hbi : ¬ (V[V.size - 1].toNat : Int) = 34 := fun e => hb (UInt8.toNat_inj.1 (by show V[V.size - 1].toNat = 34; omega))
        exact Or.inr (Or.inl ⟨⟨h0, hai⟩, ⟨h1, hbi⟩, unq_plain (fun h => hb (by have := h.2.2; rwa [len_list, getD_list V _ h1] at this))⟩)
    · have hai : ¬ (V[0].toNat : Int) = 34 := fun e => ha (UInt8.toNat_inj.1 (by show V[0].toNat = 34; omega))
      exact Or.inl ⟨⟨h0, hai⟩, unq_plain (fun h => ha (by have := h.2.1; rwa [getD_list V 0 h0] at this))⟩
  · exact Or.inl ⟨h2, unq_plain (fun h => h2 (by have := h.1; rwa [len_list] at this))⟩

set_option maxRecDepth 100000 in
set_option maxHeartbeats 3200000 in
theorem refCookies_any (s : ByteArray) (w : World) (hs : s.size ≤ 1048576) :
    Calls Tryd.prog 21 #[.string s] w fun x w' => Below w.heap.size w w' ∧ CkRef (pcaL s.data.toList []) w.heap.size x w' := by
  have hle0 := pca_le s.data.toList.length s.data.toList [] s.data.toList.length (Nat.le_refl _) (fun p hp => by cases hp)
  obtain ⟨i0, hi, hz0, hz1, hz2⟩ := info_parts infoP
  have HRP := hide (refPieces6_any s w hs)
  rw [len_list] at hle0
  generalize hps : pcaL s.data.toList [] = ps at *
  have HLE : Hid (∀ p ∈ ps, p.length ≤ 1048576) := fun p hp => Nat.le_trans (hle0 p (by rw [← hps] at hp; exact hp)) hs
  clear hps hle0
  go_enter Tryd.func21, Tryd.ntmps21
  go_wp2_with fail
  refine HRP.out.mono ?_
  rintro x w1 ⟨v, rfl, hown, hb1⟩
  obtain ⟨oa, cap, rfl, hc⟩ := str_cells hown
  have HC := hide hc
  have HB1 := hide hb1
  clear hown hc hb1 HRP
  by_cases hbig : 16 < ps.length
  · have hbi : (16 : Int) < (ps.length : Int) := by omega
    clear hi hz0 hz1 hz2
    go_wp2_with fail
    go_ret2
    exact ⟨HB1.out, Or.inl ⟨hbig, rfl⟩⟩
  · have hbi : ¬ (16 : Int) < (ps.length : Int) := by omega
    have hle : ps.length ≤ 16 := by omega
    clear hbig
    go_wp2_with fail
    go_loopw [5, 6] (fun v i wr => ∃ k : Nat, k ≤ ps.length ∧ i = .int .i64 k ∧ (ps.take k).all pcOk = true ∧ wr.ownsRow w1.heap.size 41 2 v ((ps.take k).map mkP).length (cl ((ps.take k).map mkP)) ∧ Below w1.heap.size w1 wr) (fun _ i _ => ps.length - (intOf i).toNat)
    case atStart => exact ⟨0, Nat.zero_le _, rfl, rfl, World.ownsRow_nil _ _ _ _, Below.refl _ _⟩
    case round =>
      obtain ⟨k, hk, rfl, hx, hown, hnx⟩ := hrel
      have hxl : ((ps.take k).map mkP).length ≤ k := by rw [List.length_map, List.length_take]; exact Nat.min_le_left _ _
      have HX := hide hx
      have HO1 := hide hown
      have HN := hide hnx
      clear hx hown hnx
      by_cases hlt : k < ps.length
      · have hki : (k : Int) < (ps.length : Int) := by omega
        have k0 : (0 : Int) ≤ (k : Int) := Int.natCast_nonneg _
        obtain ⟨g, rfl, hg0, hg1, hcell⟩ := HC.out k hlt
        have HPK := hide (HLE.out ps[k] (List.getElem_mem hlt))
        have HTS : Hid (ps.take (k + 1) = ps.take k ++ [ps[k]]) := List.take_succ_eq_append_getElem hlt
        have HMP : Hid (mkP ps[k] = (⟨(pcName ps[k]).toArray⟩, ⟨(pcVal ps[k]).toArray⟩)) := rfl
        have HOK : Hid (pcOk ps[k] = (ps[k].contains 61 && (Fd.token (pcName ps[k]) && (pcVal ps[k]).all Fd.ck))) := rfl
        have HFL : Hid (pcOk ps[k] = false → ps.all pcOk = false) := fun h => by
          cases ha : ps.all pcOk with
          | false => rfl
          | true => have := List.all_eq_true.1 ha ps[k] (List.getElem_mem hlt); rw [h] at this; cases this
        obtain ⟨P, hP⟩ : ∃ P : ByteArray, P = ⟨ps[k].toArray⟩ := ⟨_, rfl⟩
        have hc2 : wr.cell? ⟨g, k, none⟩ = some (.string P) := by rw [hP]; exact (HN.out.cell (p := ⟨g, k, none⟩) hg1).trans hcell
        have HPL : Hid (P.data.toList = ps[k]) := by rw [hP]; rfl
        have hPs : P.size ≤ 1048576 := by rw [hP, str_size]; exact HPK.out
        clear hcell hP HPK
        generalize ps[k] = pc at *
        go_wp2_with fail
        refine (find6_any P 61 wr (by unfold reachBytes; omega)).mono ?_
        rintro y w4 ⟨⟨at_, rfl, hfn⟩, rfl⟩
        rw [HPL.out] at hfn
        obtain ⟨hbf, ⟨hat, hbh, hct⟩ | ⟨hat, hct⟩⟩ := hfn
        · have a0 : (0 : Int) ≤ (at_ : Int) := Int.natCast_nonneg _
          have a1 : ¬ (at_ : Int) = (P.size : Int) := by omega
          have a1b : ((at_ : Int) == (P.size : Int)) = false := beq_false_of_ne a1
          have a2 : (at_ : Int) ≤ (P.size : Int) := by omega
          have a3 : (at_ : Int) + 1 ≤ (P.size : Int) := by omega
          have HNM : Hid (P.extract 0 at_ = ⟨(pcName pc).toArray⟩) := ext_pre P at_ _ (by rw [HPL.out]; exact hbf)
          obtain ⟨V, hV⟩ : ∃ V : ByteArray, P.extract (at_ + 1) P.size = V := ⟨_, rfl⟩
          have HVL : Hid (V.data.toList = behind 61 pc) := by show _ = _; rw [← hV, ext_suf P (at_ + 1) (behind 61 pc) (by rw [HPL.out]; exact hbh)]
          have HUQ : Hid (pcVal pc = unq V.data.toList) := by show _ = _; rw [HVL.out]; rfl
          have hVs : V.size ≤ 1048576 := by rw [← hV, ByteArray.size_extract]; omega
          have hNs : (pcName pc).length ≤ 1048576 := by
            have h1 := (cut_lens 61 pc).1
            have h2 : pc.length = P.size := by rw [← HPL.out, len_list]
            unfold pcName
            omega
          have hUs : (pcVal pc).length ≤ 1048576 := by
            have h1 := unq_len V.data.toList
            rw [← HUQ.out, len_list] at h1
            omega
          have H1 : Hid (∀ W, Calls Tryd.prog 44 #[.string (P.extract 0 at_)] W fun e w' => e = .returned (.bool (Fd.token (pcName pc))) ∧ w' = W) := by
            intro W; rw [HNM.out]; exact refToken_any ⟨(pcName pc).toArray⟩ W (by rw [str_size]; omega)
          have H2 : Hid (∀ W, Calls Tryd.prog 45 #[S (pcVal pc)] W fun e w' => e = .returned (.bool ((pcVal pc).all Fd.ck)) ∧ w' = W) := fun W => refCkValue_any ⟨(pcVal pc).toArray⟩ W (by rw [str_size]; omega)
          have HVC : Hid ((¬ 2 ≤ V.size ∧ pcVal pc = V.data.toList) ∨ (2 ≤ V.size ∧ ((∃ h : 0 < V.size, ¬ (V[0].toNat : Int) = 34) ∧ pcVal pc = V.data.toList ∨ (∃ h : 0 < V.size, (V[0].toNat : Int) = 34) ∧ (∃ h : V.size - 1 < V.size, ¬ (V[V.size - 1].toNat : Int) = 34) ∧ pcVal pc = V.data.toList ∨
              (∃ h : 0 < V.size, (V[0].toNat : Int) = 34) ∧ (∃ h : V.size - 1 < V.size, (V[V.size - 1].toNat : Int) = 34) ∧ V.extract 1 (V.size - 1) = ⟨(pcVal pc).toArray⟩))) := val_cases V _ HUQ.out
          have hcp : pcOk pc = (Fd.token (pcName pc) && (pcVal pc).all Fd.ck) := by rw [HOK.out, hct, Bool.true_and]
          rw [hcp] at HFL
          have HOK2 := hide hcp
          have HNX : Hid (P.extract 0 at_ = ⟨(pcName pc).toArray⟩) := HNM.out
          clear hbf hbh hct hcp HVL HUQ HOK HNM hNs hUs
          generalize pcVal pc = VL at *
          generalize pcName pc = NL at *
          generalize Fd.token NL = tk_ at *
          generalize VL.all Fd.ck = ck_ at *
          rcases HVC.out with ⟨v2, hvl⟩ | ⟨v2, ⟨⟨v0, vq⟩, hvl⟩ | ⟨⟨v0, vq⟩, ⟨v1, vr⟩, hvl⟩ | ⟨⟨v0, vq⟩, ⟨v1, vr⟩, hvl⟩⟩
          · have v2i : ¬ (2 : Int) ≤ (V.size : Int) := by omega
            have HU : Hid (V = ⟨VL.toArray⟩) := by show _ = _; rw [hvl]
            have H2U : Hid (∀ W, Calls Tryd.prog 45 #[.string V] W fun e w' => e = .returned (.bool ck_) ∧ w' = W) := by
              intro W; rw [HU.out]; exact H2.out W
            clear HVC hvl H2
            cases hb2 : (tk_ && ck_) with
            | false =>
              have HPN := hide (HFL.out hb2)
              cases tk_ <;> cases ck_
              all_goals first
                | (cases hb2; done)
                | (clear hb2
                   go_wp2_with (first
                     | (go_at_call 44; refine (H1.out _).mono ?_; rintro x w5 ⟨rfl, rfl⟩)
                     | (go_at_call 45; refine (H2U.out _).mono ?_; rintro x w5 ⟨rfl, rfl⟩))
                   go_ret2
                   exact ⟨HB1.out.trans (HN.out.mono HB1.out.size), Or.inr (Or.inl ⟨hle, HPN.out, rfl⟩)⟩)
            | true =>
              obtain ⟨rfl, rfl⟩ := (Bool.and_eq_true _ _).mp hb2
              have HXS : Hid ((ps.take (k + 1)).all pcOk = true) := by
                show _ = _
                rw [HTS.out, List.all_append, HX.out]
                simp [HOK2.out]
              clear hb2
              go_wp2_with (first
                | (go_at_call 44; refine (H1.out _).mono ?_; rintro x w5 ⟨rfl, rfl⟩)
                | (go_at_call 45; refine (H2U.out _).mono ?_; rintro x w5 ⟨rfl, rfl⟩)
                | (at_builtin; refine wpList_append_own _ rfl _ _ 37 rfl w1.heap.size 41 i0 (.agg #[.string ⟨#[]⟩, .string ⟨#[]⟩]) 2 32 Tryd.underlying37 hi hz0 hz1 hz2 rfl (by decide) _ _ _ rfl (HO1.out.alloc _) ⟨_, 0, none⟩ 1 1 [.string (P.extract 0 at_), .string V] rfl rfl (cells_atP _ _ _ _ rfl) ?c2 ?c3 ?c4 ?c5 ?_))
              case c2 => first | rfl | (intro u hu; simp at hu; rcases hu with rfl | rfl <;> rfl)
              case c3 => unfold maxLen; omega
              case c4 => omega
              case c5 => have := HN.out.size; simp; omega
              intro v' w6 hown' hgrow _
              have HN6 := hide ((HN.out.alloc HN.out.size (.cells #[.string (P.extract 0 at_), .string V] 41)).grown hgrow (by have := HN.out.size; simp; omega) (lst.own_ge HO1.out))
              rw [HNX.out, HU.out] at hown'
              have HO6 : Hid (w6.ownsRow w1.heap.size 41 2 v' ((ps.take (k + 1)).map mkP).length (cl ((ps.take (k + 1)).map mkP))) := by
                show w6.ownsRow _ _ _ _ _ _
                rw [HTS.out, List.map_append, List.length_append, cl_app, List.map_cons, List.map_nil, HMP.out, List.length_map, List.length_take, Nat.min_eq_left hk, List.map_take]; exact hown'
              clear hown' hgrow
              go_wp2
              go_roundw
              case rel => exact ⟨k + 1, by omega, by go_num, HXS.out, HO6.out, HN6.out⟩
              case measure => simp [intOf]; omega
          · have v2i : (2 : Int) ≤ (V.size : Int) := by omega
            have vqb : ((V[0].toNat : Int) == 34) = false := beq_false_of_ne vq
            have HU : Hid (V = ⟨VL.toArray⟩) := by show _ = _; rw [hvl]
            have H2U : Hid (∀ W, Calls Tryd.prog 45 #[.string V] W fun e w' => e = .returned (.bool ck_) ∧ w' = W) := by
              intro W; rw [HU.out]; exact H2.out W
            clear HVC hvl H2
            cases hb2 : (tk_ && ck_) with
            | false =>
              have HPN := hide (HFL.out hb2)
              cases tk_ <;> cases ck_
              all_goals first
                | (cases hb2; done)
                | (clear hb2
                   go_wp2_with (first
                     | (go_at_call 44; refine (H1.out _).mono ?_; rintro x w5 ⟨rfl, rfl⟩)
                     | (go_at_call 45; refine (H2U.out _).mono ?_; rintro x w5 ⟨rfl, rfl⟩))
                   go_ret2
                   exact ⟨HB1.out.trans (HN.out.mono HB1.out.size), Or.inr (Or.inl ⟨hle, HPN.out, rfl⟩)⟩)
            | true =>
              obtain ⟨rfl, rfl⟩ := (Bool.and_eq_true _ _).mp hb2
              have HXS : Hid ((ps.take (k + 1)).all pcOk = true) := by
                show _ = _
                rw [HTS.out, List.all_append, HX.out]
                simp [HOK2.out]
              clear hb2
              go_wp2_with (first
                | (go_at_call 44; refine (H1.out _).mono ?_; rintro x w5 ⟨rfl, rfl⟩)
                | (go_at_call 45; refine (H2U.out _).mono ?_; rintro x w5 ⟨rfl, rfl⟩)
                | (at_builtin; refine wpList_append_own _ rfl _ _ 37 rfl w1.heap.size 41 i0 (.agg #[.string ⟨#[]⟩, .string ⟨#[]⟩]) 2 32 Tryd.underlying37 hi hz0 hz1 hz2 rfl (by decide) _ _ _ rfl (HO1.out.alloc _) ⟨_, 0, none⟩ 1 1 [.string (P.extract 0 at_), .string V] rfl rfl (cells_atP _ _ _ _ rfl) ?c2 ?c3 ?c4 ?c5 ?_))
              case c2 => first | rfl | (intro u hu; simp at hu; rcases hu with rfl | rfl <;> rfl)
              case c3 => unfold maxLen; omega
              case c4 => omega
              case c5 => have := HN.out.size; simp; omega
              intro v' w6 hown' hgrow _
              have HN6 := hide ((HN.out.alloc HN.out.size (.cells #[.string (P.extract 0 at_), .string V] 41)).grown hgrow (by have := HN.out.size; simp; omega) (lst.own_ge HO1.out))
              rw [HNX.out, HU.out] at hown'
              have HO6 : Hid (w6.ownsRow w1.heap.size 41 2 v' ((ps.take (k + 1)).map mkP).length (cl ((ps.take (k + 1)).map mkP))) := by
                show w6.ownsRow _ _ _ _ _ _
                rw [HTS.out, List.map_append, List.length_append, cl_app, List.map_cons, List.map_nil, HMP.out, List.length_map, List.length_take, Nat.min_eq_left hk, List.map_take]; exact hown'
              clear hown' hgrow
              go_wp2
              go_roundw
              case rel => exact ⟨k + 1, by omega, by go_num, HXS.out, HO6.out, HN6.out⟩
              case measure => simp [intOf]; omega
          · have v2i : (2 : Int) ≤ (V.size : Int) := by omega
            have vrb : ((V[V.size - 1].toNat : Int) == 34) = false := beq_false_of_ne vr
            have e1 : (V.size : Int) - 1 = ((V.size - 1 : Nat) : Int) := by omega
            have HU : Hid (V = ⟨VL.toArray⟩) := by show _ = _; rw [hvl]
            have H2U : Hid (∀ W, Calls Tryd.prog 45 #[.string V] W fun e w' => e = .returned (.bool ck_) ∧ w' = W) := by
              intro W; rw [HU.out]; exact H2.out W
            clear HVC hvl H2
            cases hb2 : (tk_ && ck_) with
            | false =>
              have HPN := hide (HFL.out hb2)
              cases tk_ <;> cases ck_
              all_goals first
                | (cases hb2; done)
                | (clear hb2
                   go_wp2_with (first
                     | (go_at_call 44; refine (H1.out _).mono ?_; rintro x w5 ⟨rfl, rfl⟩)
                     | (go_at_call 45; refine (H2U.out _).mono ?_; rintro x w5 ⟨rfl, rfl⟩))
                   go_ret2
                   exact ⟨HB1.out.trans (HN.out.mono HB1.out.size), Or.inr (Or.inl ⟨hle, HPN.out, rfl⟩)⟩)
            | true =>
              obtain ⟨rfl, rfl⟩ := (Bool.and_eq_true _ _).mp hb2
              have HXS : Hid ((ps.take (k + 1)).all pcOk = true) := by
                show _ = _
                rw [HTS.out, List.all_append, HX.out]
                simp [HOK2.out]
              clear hb2
              go_wp2_with (first
                | (go_at_call 44; refine (H1.out _).mono ?_; rintro x w5 ⟨rfl, rfl⟩)
                | (go_at_call 45; refine (H2U.out _).mono ?_; rintro x w5 ⟨rfl, rfl⟩)
                | (at_builtin; refine wpList_append_own _ rfl _ _ 37 rfl w1.heap.size 41 i0 (.agg #[.string ⟨#[]⟩, .string ⟨#[]⟩]) 2 32 Tryd.underlying37 hi hz0 hz1 hz2 rfl (by decide) _ _ _ rfl (HO1.out.alloc _) ⟨_, 0, none⟩ 1 1 [.string (P.extract 0 at_), .string V] rfl rfl (cells_atP _ _ _ _ rfl) ?c2 ?c3 ?c4 ?c5 ?_))
              case c2 => first | rfl | (intro u hu; simp at hu; rcases hu with rfl | rfl <;> rfl)
              case c3 => unfold maxLen; omega
              case c4 => omega
              case c5 => have := HN.out.size; simp; omega
              intro v' w6 hown' hgrow _
              have HN6 := hide ((HN.out.alloc HN.out.size (.cells #[.string (P.extract 0 at_), .string V] 41)).grown hgrow (by have := HN.out.size; simp; omega) (lst.own_ge HO1.out))
              rw [HNX.out, HU.out] at hown'
              have HO6 : Hid (w6.ownsRow w1.heap.size 41 2 v' ((ps.take (k + 1)).map mkP).length (cl ((ps.take (k + 1)).map mkP))) := by
                show w6.ownsRow _ _ _ _ _ _
                rw [HTS.out, List.map_append, List.length_append, cl_app, List.map_cons, List.map_nil, HMP.out, List.length_map, List.length_take, Nat.min_eq_left hk, List.map_take]; exact hown'
              clear hown' hgrow
              go_wp2
              go_roundw
              case rel => exact ⟨k + 1, by omega, by go_num, HXS.out, HO6.out, HN6.out⟩
              case measure => simp [intOf]; omega
          · have v2i : (2 : Int) ≤ (V.size : Int) := by omega
            have e1 : (V.size : Int) - 1 = ((V.size - 1 : Nat) : Int) := by omega
            obtain ⟨U, hU⟩ : ∃ U : ByteArray, V.extract 1 (V.size - 1) = U := ⟨_, rfl⟩
            have HU : Hid (U = ⟨VL.toArray⟩) := by rw [← hU]; exact hvl
            have H2U : Hid (∀ W, Calls Tryd.prog 45 #[.string U] W fun e w' => e = .returned (.bool ck_) ∧ w' = W) := by
              intro W; rw [HU.out]; exact H2.out W
            clear HVC hvl H2
            cases hb2 : (tk_ && ck_) with
            | false =>
              have HPN := hide (HFL.out hb2)
              cases tk_ <;> cases ck_
              all_goals first
                | (cases hb2; done)
                | (clear hb2
                   go_wp2_with (first
                     | (go_at_call 44; refine (H1.out _).mono ?_; rintro x w5 ⟨rfl, rfl⟩)
                     | (go_at_call 45; refine (H2U.out _).mono ?_; rintro x w5 ⟨rfl, rfl⟩))
                   go_ret2
                   exact ⟨HB1.out.trans (HN.out.mono HB1.out.size), Or.inr (Or.inl ⟨hle, HPN.out, rfl⟩)⟩)
            | true =>
              obtain ⟨rfl, rfl⟩ := (Bool.and_eq_true _ _).mp hb2
              have HXS : Hid ((ps.take (k + 1)).all pcOk = true) := by
                show _ = _
                rw [HTS.out, List.all_append, HX.out]
                simp [HOK2.out]
              clear hb2
              go_wp2_with (first
                | (go_at_call 44; refine (H1.out _).mono ?_; rintro x w5 ⟨rfl, rfl⟩)
                | (go_at_call 45; refine (H2U.out _).mono ?_; rintro x w5 ⟨rfl, rfl⟩)
                | (at_builtin; refine wpList_append_own _ rfl _ _ 37 rfl w1.heap.size 41 i0 (.agg #[.string ⟨#[]⟩, .string ⟨#[]⟩]) 2 32 Tryd.underlying37 hi hz0 hz1 hz2 rfl (by decide) _ _ _ rfl (HO1.out.alloc _) ⟨_, 0, none⟩ 1 1 [.string (P.extract 0 at_), .string U] rfl rfl (cells_atP _ _ _ _ rfl) ?c2 ?c3 ?c4 ?c5 ?_))
              case c2 => first | rfl | (intro u hu; simp at hu; rcases hu with rfl | rfl <;> rfl)
              case c3 => unfold maxLen; omega
              case c4 => omega
              case c5 => have := HN.out.size; simp; omega
              intro v' w6 hown' hgrow _
              have HN6 := hide ((HN.out.alloc HN.out.size (.cells #[.string (P.extract 0 at_), .string U] 41)).grown hgrow (by have := HN.out.size; simp; omega) (lst.own_ge HO1.out))
              rw [HNX.out, HU.out] at hown'
              have HO6 : Hid (w6.ownsRow w1.heap.size 41 2 v' ((ps.take (k + 1)).map mkP).length (cl ((ps.take (k + 1)).map mkP))) := by
                show w6.ownsRow _ _ _ _ _ _
                rw [HTS.out, List.map_append, List.length_append, cl_app, List.map_cons, List.map_nil, HMP.out, List.length_map, List.length_take, Nat.min_eq_left hk, List.map_take]; exact hown'
              clear hown' hgrow
              go_wp2
              go_roundw
              case rel => exact ⟨k + 1, by omega, by go_num, HXS.out, HO6.out, HN6.out⟩
              case measure => simp [intOf]; omega
        · subst hat
          have HPN := hide (HFL.out (by rw [HOK.out, hct]; rfl))
          clear hbf hct
          go_wp2_with fail
          go_ret2
          exact ⟨HB1.out.trans (HN.out.mono HB1.out.size), Or.inr (Or.inl ⟨hle, HPN.out, rfl⟩)⟩
      · have hke : k = ps.length := by omega
        have hx2 := HX.out
        have ho2 := HO1.out
        rw [hke, List.take_length] at hx2 ho2
        have HX2 := hide hx2
        have HO2 := hide ho2
        have hkn : ¬ (k : Int) < (ps.length : Int) := by omega
        clear hx2 ho2
        go_wp2_with fail
        go_ret2
        exact ⟨HB1.out.trans (HN.out.mono HB1.out.size), Or.inr (Or.inr ⟨hle, HX2.out, _, rfl, ck_own_mono HO2.out HB1.out.size⟩)⟩

end Go.Proofs.YthhkhpgffamdhaaDoor.fd
