import Derived.Test.YtlbhiefamnpphaaDoorJeW2
namespace Go.Proofs.YtlbhiefamnpphaaDoor.je
open Go.ChangeShapes Go.WideShapes Go.ChangeAt Go.RowKit Go.Proofs.YtlbhiefamnpphaaDoor.common Go.Proofs.YtlbhiefamnpphaaDoor.Jc Go.Proofs.YtlbhiefamnpphaaDoor.jc
attribute [local go_sem ↓] Go.wp_at_zero Go.wp_at_succ

abbrev RdNb (L : List (List UInt8)) (c : Cs) (n : Nat) (c' : Cs) : Prop := n ≤ 12 ∧ RdN L c n c'
abbrev Enters (g : Nat) : Prop := ∀ args w, (callFunc g args).run Tryd.prog w = .ok (.enter g args) w
theorem name_hit (L : List (List UInt8)) (c : Cs) (i : Nat) (hi : i < L.length) (h : ∀ j, j < i → (L.getD j []).isPrefixOf c.1 = false) (hp : (L.getD i []).isPrefixOf c.1 = true) : nameS L c = (i, (c.1.drop (L.getD i []).length, c.2)) := by
  have hg : ∀ j, (hj : j < L.length) → L.getD j [] = L[j] := fun j hj => by simp [hj]
  have : L.findIdx? (fun p => p.isPrefixOf c.1) = some i := List.findIdx?_eq_some_iff_getElem.2 ⟨hi, by rw [← hg i hi]; exact hp, fun j hj => by rw [← hg j (by omega), h j hj]; simp⟩
  unfold nameS
  simp only [this]
theorem name_miss (L : List (List UInt8)) (c : Cs) (h : ∀ j, j < L.length → (L.getD j []).isPrefixOf c.1 = false) : nameS L c = (0, (c.1, true)) := by
  have : L.findIdx? (fun p => p.isPrefixOf c.1) = none := List.findIdx?_eq_none_iff.2 (fun x hx => by
    obtain ⟨j, hj, rfl⟩ := List.getElem_of_mem hx
    have := h j hj
    rwa [show L.getD j [] = L[j] by simp [hj]] at this)
  unfold nameS
  simp only [this]

set_option maxRecDepth 100000 in
set_option maxHeartbeats 3200000 in
theorem name_any (t : TypeId) (tl : List Value) (w : World) (b : Nat) (c : Cs) (h : Cu t tl w b c) (g : Nat) (L : List (List UInt8)) (hL : PreFree L) (hn : L.length ≤ 12) (eg : Enters g)
    (hf : ∀ i, i < L.length → ∀ W, Fk b w W → Calls Tryd.prog g #[.int .i64 (i : Int)] W fun e w' => e = .returned (.string (tx (L.getD i []))) ∧ w' = W) :
    Calls Tryd.prog 53 #[ptr b, .int .i64 (L.length : Int), .func (.func g) #[] #[]] w fun e w' => NumP (RdNb L) t tl b c w e w' := by
  have HG := hide (name_rd L hL c)
  have HH := hide (name_hit L c)
  have HM := hide (name_miss L c)
  have HF := hide hf
  obtain ⟨N, hN⟩ : ∃ N, N = nameS L c := ⟨_, rfl⟩
  rw [← hN] at HG HH HM
  have eg' : ∀ args w, (callFunc g args).run Tryd.prog w = .ok (.enter g args) w := eg
  have H0 := hide h
  clear hN hf eg h hL
  generalize hl : L.length = n at *
  have Hl := hide hl
  clear hl
  go_enter Tryd.func53, Tryd.ntmps53
  go_wp2_with fail
  go_loopw [9] (fun v wr => ∃ i : Nat, v = .int .i64 (i : Int) ∧ i ≤ n ∧ Hid (∀ j, j < i → (L.getD j []).isPrefixOf c.1 = false) ∧ Hid (Cu t tl wr b c) ∧ Hid (Fk b w wr)) (fun v _ => 13 - (intOf v).toNat)
  case atStart => exact ⟨0, rfl, by omega, fun j hj => by omega, H0, Fk.refl _ _⟩
  case round =>
    obtain ⟨i, rfl, ik, HJ, HC, HK⟩ := hrel
    by_cases hik : i < n
    · have hii : (i : Int) < (n : Int) := by omega
      have HCall := hide (HF.out i hik wr HK.out)
      have HT := hide (takes_any t tl wr b c (L.getD i []) HC.out)
      have Hv : Hid (Value.int .i64 (wrap64 ((i : Int) + 1)) = .int .i64 ((i + 1 : Nat) : Int)) := by show _ = _; rw [wrpN i (by omega)]; rfl
      cases hp : (L.getD i []).isPrefixOf c.1 with
      | true =>
        have HN := hide (HH.out i hik HJ.out hp)
        rw [hp] at HT
        clear HF HH HM HJ HC hp
        generalize L.getD i [] = nm at *
        go_wp2_with fail
        refine HCall.out.mono ?_
        rintro e w1 ⟨rfl, rfl⟩
        go_wp2_with fail
        refine HT.out.mono ?_
        rintro e w2 ⟨rfl, hc, hf⟩
        have HC2 := hide hc
        have HF2 := hide (HK.out.trans hf)
        clear hc hf
        go_wp2_with fail
        go_ret
        refine numP (n := i) (c' := N.2) rfl (by omega) ?_ ?_ HF2.out
        · have h1 := HG.out
          have h2 : N.1 = i := by rw [HN.out]
          rw [h2, ← Hl.out] at h1
          exact ⟨by omega, h1⟩
        · rw [HN.out]; exact HC2.out
      | false =>
        have HJ2 : Hid (∀ j, j < i + 1 → (L.getD j []).isPrefixOf c.1 = false) := fun j hj => by
          rcases Nat.lt_or_ge j i with h1 | h1
          · exact HJ.out j h1
          · rw [show j = i by omega]; exact hp
        rw [hp] at HT
        clear HF HH HM HJ HC hp
        generalize L.getD i [] = nm at *
        go_wp2_with fail
        refine HCall.out.mono ?_
        rintro e w1 ⟨rfl, rfl⟩
        go_wp2_with fail
        refine HT.out.mono ?_
        rintro e w2 ⟨rfl, hc, hf⟩
        have HC2 : Hid (Cu t tl w2 b c) := hc
        have HF2 := hide (HK.out.trans hf)
        clear hc hf
        go_wp2_with fail
        go_roundw
        case rel => exact ⟨i + 1, by first | exact Hv.out | go_num, by omega, HJ2, HC2, HF2⟩
        case measure => simp [intOf]; omega
    · have ek : i = n := by omega
      subst ek
      have hii : ¬ ((i : Int) < (i : Int)) := by omega
      obtain ⟨_, c1, _, f1⟩ := HC.out.cells
      have HN := hide (HM.out (fun j hj => HJ.out j (by have := Hl.out; omega)))
      have HC2 := hide (HC.out.fail true)
      have HF2 := hide (HK.out.set 1 (.bool true))
      clear HF HH HM HJ hik
      go_wp2_with fail
      go_ret
      refine numP (n := 0) (c' := N.2) rfl (by omega) ?_ ?_ HF2.out
      · have h1 := HG.out
        have h2 : N.1 = 0 := by rw [HN.out]
        rw [h2, ← Hl.out] at h1
        exact ⟨by omega, h1⟩
      · rw [HN.out]; exact HC2.out

/-- the days' names in full, in the program's table -/
def FTab (w : World) : Prop := ∀ i, i < 7 → w.cell? ⟨6, i, none⟩ = some (.string (tx (wdF.getD i [])))
theorem FTab.fr {w w' : World} (h : FTab w) (hb : Below w.heap.size w w') : FTab w' := fun i hi => (hb.cell (World.block_lt_of_cell? _ _ (h i hi))).trans (h i hi)
theorem fk_cell {b g j : Nat} {w w' : World} {v : Value} (h : w.cell? ⟨g, j, none⟩ = some v) (hf : Fk b w w') (hg : g ≠ b) : w'.cell? ⟨g, j, none⟩ = some v := by
  rw [World.cell?_of_block (a := ⟨g, j, none⟩) (hf.block g (World.block_lt_of_cell? _ _ h) hg)]; exact h

set_option maxRecDepth 100000 in
set_option maxHeartbeats 1600000 in
theorem weekdayF_any (i : Nat) (hi : i < 7) (w : World) (hc : w.cell? ⟨3, i, none⟩ = some (.string (tx (wdN.getD i [])))) : Calls Tryd.prog 54 #[.int .i64 (i : Int)] w fun e w' => e = .returned (.string (tx (wdN.getD i []))) ∧ w' = w := by
  generalize tx (wdN.getD i []) = T at *
  go_enter Tryd.func54, Tryd.ntmps54
  go_wp2_with fail
  go_ret
  exact ⟨rfl, rfl⟩
theorem weekday_enters : Enters 54 := enters_of Tryd.func54 (by kernel_rfl) rfl

set_option maxRecDepth 100000 in
set_option maxHeartbeats 1600000 in
theorem weekdayInFullF_any (i : Nat) (hi : i < 7) (w : World) (hc : w.cell? ⟨6, i, none⟩ = some (.string (tx (wdF.getD i [])))) : Calls Tryd.prog 58 #[.int .i64 (i : Int)] w fun e w' => e = .returned (.string (tx (wdF.getD i []))) ∧ w' = w := by
  generalize tx (wdF.getD i []) = T at *
  go_enter Tryd.func58, Tryd.ntmps58
  go_wp2_with fail
  go_ret
  exact ⟨rfl, rfl⟩
theorem weekdayInFull_enters : Enters 58 := enters_of Tryd.func58 (by kernel_rfl) rfl

set_option maxRecDepth 100000 in
set_option maxHeartbeats 1600000 in
theorem monthF_any (i : Nat) (hi : i < 12) (w : World) (hc : w.cell? ⟨4, i, none⟩ = some (.string (tx (moN.getD i [])))) : Calls Tryd.prog 57 #[.int .i64 (i : Int)] w fun e w' => e = .returned (.string (tx (moN.getD i []))) ∧ w' = w := by
  generalize tx (moN.getD i []) = T at *
  go_enter Tryd.func57, Tryd.ntmps57
  go_wp2_with fail
  go_ret
  exact ⟨rfl, rfl⟩
theorem month_enters : Enters 57 := enters_of Tryd.func57 (by kernel_rfl) rfl

set_option maxRecDepth 100000 in
set_option maxHeartbeats 1600000 in
theorem weekday_any (t : TypeId) (tl : List Value) (w : World) (b : Nat) (c : Cs) (h : Cu t tl w b c) (hT : WTab w) (hb : 3 ≠ b) : Calls Tryd.prog 36 #[ptr b] w fun e w' => NumP (RdNb wdN) t tl b c w e w' := by
  have HN := hide (name_any t tl w b c h 54 wdN wdN_free (by decide) weekday_enters (fun i hi W hW => weekdayF_any i hi W (fk_cell (hT i hi) hW hb)))
  have HN2 : Hid (Calls Tryd.prog 53 #[ptr b, .int .i64 7, .func (.func 54) #[] #[]] w fun e w' => NumP (RdNb wdN) t tl b c w e w') := HN.out
  clear HN h hT
  go_enter Tryd.func36, Tryd.ntmps36
  go_wp2_with fail
  refine HN2.out.mono ?_
  rintro e w1 ⟨n, c', rfl, hn, h1, h2, h3⟩
  have H1 := hide h1
  have H2 := hide h2
  have H3 := hide h3
  clear h1 h2 h3
  go_wp2_with fail
  go_ret
  exact numP rfl hn H1.out H2.out H3.out

set_option maxRecDepth 100000 in
set_option maxHeartbeats 1600000 in
theorem weekdayInFull_any (t : TypeId) (tl : List Value) (w : World) (b : Nat) (c : Cs) (h : Cu t tl w b c) (hT : FTab w) (hb : 6 ≠ b) : Calls Tryd.prog 41 #[ptr b] w fun e w' => NumP (RdNb wdF) t tl b c w e w' := by
  have HN := hide (name_any t tl w b c h 58 wdF wdF_free (by decide) weekdayInFull_enters (fun i hi W hW => weekdayInFullF_any i hi W (fk_cell (hT i hi) hW hb)))
  have HN2 : Hid (Calls Tryd.prog 53 #[ptr b, .int .i64 7, .func (.func 58) #[] #[]] w fun e w' => NumP (RdNb wdF) t tl b c w e w') := HN.out
  clear HN h hT
  go_enter Tryd.func41, Tryd.ntmps41
  go_wp2_with fail
  refine HN2.out.mono ?_
  rintro e w1 ⟨n, c', rfl, hn, h1, h2, h3⟩
  have H1 := hide h1
  have H2 := hide h2
  have H3 := hide h3
  clear h1 h2 h3
  go_wp2_with fail
  go_ret
  exact numP rfl hn H1.out H2.out H3.out

/-- a month: its number is one more than its name's place -/
abbrev RdMo (c : Cs) (m : Nat) (c' : Cs) : Prop := ∃ k, m = 1 + k ∧ RdN moN c k c'
set_option maxRecDepth 100000 in
set_option maxHeartbeats 1600000 in
theorem month_anyP (t : TypeId) (tl : List Value) (w : World) (b : Nat) (c : Cs) (h : Cu t tl w b c) (hT : OTab w) (hb : 4 ≠ b) : Calls Tryd.prog 39 #[ptr b] w fun e w' => NumP RdMo t tl b c w e w' := by
  have HN := hide (name_any t tl w b c h 57 moN moN_free (by decide) month_enters (fun i hi W hW => monthF_any i hi W (fk_cell (hT i hi) hW hb)))
  have HN2 : Hid (Calls Tryd.prog 53 #[ptr b, .int .i64 12, .func (.func 57) #[] #[]] w fun e w' => NumP (RdNb moN) t tl b c w e w') := HN.out
  clear HN h hT
  go_enter Tryd.func39, Tryd.ntmps39
  go_wp2_with fail
  refine HN2.out.mono ?_
  rintro e w1 ⟨n, c', rfl, hn, h1, h2, h3⟩
  have H1 := hide h1
  have H2 := hide h2
  have H3 := hide h3
  have hb12 := h1.1
  clear h1 h2 h3
  go_wp2_with fail
  go_ret
  exact numP (n := 1 + n) (by simp) (by omega) ⟨n, rfl, H1.out.2⟩ H2.out H3.out

set_option maxRecDepth 100000 in
set_option maxHeartbeats 1600000 in
theorem latestLike_any (v L : Nat) (w : World) (hv : v ≤ 10000) (hL : L ≤ 9999) (h1 : 100 ≤ L) : Calls Tryd.prog 42 #[.int .i64 (v : Int), .int .i64 (L : Int)] w fun e w' => e = .returned (.int .i64 (lk v L : Int)) ∧ w' = w := by
  have em : (L : Int).tmod 100 = ((L % 100 : Nat) : Int) := tmodN L 100
  have hr : L % 100 ≤ L := Nat.mod_le _ _
  have hr2 : L % 100 < 100 := Nat.mod_lt _ (by decide)
  have HK : Hid (lk v L = if L < L - L % 100 + v then L - L % 100 + v - 100 else L - L % 100 + v) := rfl
  generalize lk v L = q at *
  generalize L % 100 = r at *
  by_cases h : L < L - r + v
  · have HR : Hid (q = L - r + v - 100) := by show _ = _; rw [HK.out, if_pos h]
    have hd : decide ((L : Int) < (L : Int) - (r : Int) + (v : Int)) = true := decide_eq_true (by omega)
    have HV : Hid ((L : Int) - (r : Int) + (v : Int) - 100 = ((L - r + v - 100 : Nat) : Int)) := by show _ = _; omega
    clear HK h
    go_enter Tryd.func42, Tryd.ntmps42
    go_wp2_with fail
    go_ret
    exact ⟨by rw [HR.out, ← HV.out]; rfl, rfl⟩
  · have HR : Hid (q = L - r + v) := by show _ = _; rw [HK.out, if_neg h]
    have hd : decide ((L : Int) < (L : Int) - (r : Int) + (v : Int)) = false := decide_eq_false (by omega)
    have HV : Hid ((L : Int) - (r : Int) + (v : Int) = ((L - r + v : Nat) : Int)) := by show _ = _; omega
    clear HK h
    go_enter Tryd.func42, Tryd.ntmps42
    go_wp2_with fail
    go_ret
    exact ⟨by rw [HR.out, ← HV.out]; rfl, rfl⟩

/-- a day, with a blank ahead or not -/
abbrev RdPd (c : Cs) (n : Nat) (c' : Cs) : Prop := ∃ bl, RdP c (bl, n) c'
set_option maxRecDepth 100000 in
set_option maxHeartbeats 1600000 in
theorem paddedDay_any (t : TypeId) (tl : List Value) (w : World) (b : Nat) (c : Cs) (h : Cu t tl w b c) : Calls Tryd.prog 43 #[ptr b] w fun e w' => NumP RdPd t tl b c w e w' := by
  have HT := hide (takes_any t tl w b c [32] h)
  have e32 : tx [32] = (⟨#[32]⟩ : ByteArray) := rfl
  rw [e32] at HT
  cases hp : ([32] : List UInt8).isPrefixOf c.1 with
  | true =>
    rw [hp] at HT
    have HD : Hid (∀ W, Cu t tl W b (c.1.drop 1, c.2) → Calls Tryd.prog 38 #[ptr b, .int .i64 1] W fun e w' => NumP (RdD 1) t tl b (c.1.drop 1, c.2) W e w') := fun W hW => digits_any t tl W b _ 1 (by decide) hW
    have HX : Hid (∀ d c', RdD 1 (c.1.drop 1, c.2) d c' → RdPd c d c') := fun d c' hd => ⟨true, pad_t hp hd⟩
    clear h hp e32
    go_enter Tryd.func43, Tryd.ntmps43
    go_wp2_with fail
    refine HT.out.mono ?_
    rintro e w1 ⟨rfl, hc, hf⟩
    have HD1 := hide (HD.out w1 hc)
    have HF1 := hide hf
    clear hc hf HD
    go_wp2_with fail
    refine HD1.out.mono ?_
    rintro e w2 ⟨n, c', rfl, hn, h1, h2, h3⟩
    have H1 := hide (HX.out n c' h1)
    have H2 := hide h2
    have H3 := hide (HF1.out.trans h3)
    clear h1 h2 h3 HX
    go_wp2_with fail
    go_ret
    exact numP rfl hn H1.out H2.out H3.out
  | false =>
    rw [hp] at HT
    have HD : Hid (∀ W, Cu t tl W b c → Calls Tryd.prog 38 #[ptr b, .int .i64 2] W fun e w' => NumP (RdD 2) t tl b c W e w') := fun W hW => digits_any t tl W b _ 2 (by decide) hW
    have HX : Hid (∀ d c', RdD 2 c d c' → RdPd c d c') := fun d c' hd => ⟨false, pad_f hp hd⟩
    clear h hp e32
    go_enter Tryd.func43, Tryd.ntmps43
    go_wp2_with fail
    refine HT.out.mono ?_
    rintro e w1 ⟨rfl, hc, hf⟩
    have HD1 := hide (HD.out w1 hc)
    have HF1 := hide hf
    clear hc hf HD
    go_wp2_with fail
    refine HD1.out.mono ?_
    rintro e w2 ⟨n, c', rfl, hn, h1, h2, h3⟩
    have H1 := hide (HX.out n c' h1)
    have H2 := hide h2
    have H3 := hide (HF1.out.trans h3)
    clear h1 h2 h3 HX
    go_wp2_with fail
    go_ret
    exact numP rfl hn H1.out H2.out H3.out
end Go.Proofs.YtlbhiefamnpphaaDoor.je
