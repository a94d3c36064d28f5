import Derived.Test.YtocpikgcbibcoaaGreatDoorMStrBase
import Derived.WalkKit
import Derived.Shelf.Abstract
import Derived.Laws.Cover1
import Derived.Sort.Walk0
import Derived.BigQuiet
namespace Go.Proofs.YtocpikgcbibcoaaGreatDoor.rc
open Go.ChangeShapes Go.WideShapes Go.ChangeAt Go.RowKit Go.Proofs.YtocpikgcbibcoaaGreatDoor.common Go.Proofs.YtocpikgcbibcoaaGreatDoor.dk

/-- a text, a list, as bytes -/
def txL (s : ByteArray) : List UInt8 := numL s.size ++ s.data.toList
def lsL (l : List ByteArray) : List UInt8 := numL l.length ++ l.flatMap txL
theorem txL_len (s : ByteArray) : (txL s).length ≤ s.size + 10 := by
  unfold txL numL
  have := (numF_len 9 s.size).2
  rw [List.length_append]
  have : s.data.toList.length = s.size := by simp
  omega
theorem flat_len (l : List ByteArray) (B : Nat) (h : ∀ s ∈ l, s.size ≤ B) : (l.flatMap txL).length ≤ l.length * (B + 10) := by
  induction l with
  | nil => simp
  | cons x r ih =>
    have h1 := txL_len x
    have h2 := h x (List.mem_cons_self ..)
    have h3 := ih (fun s hs => h s (List.mem_cons_of_mem _ hs))
    rw [List.flatMap_cons, List.length_append, List.length_cons, Nat.add_mul, Nat.one_mul]
    omega
theorem Wr.keep {p : Nat} {w w' : World} {l : List UInt8} (h : Wr p w l) (hb : Below w.heap.size w w') : Wr p w' l := by
  obtain ⟨v, h1, h2⟩ := h
  exact ⟨v, (hb.block p (Array.getElem?_eq_some_iff.1 h1).1).trans h1, own_below h2 hb⟩

set_option maxRecDepth 100000 in
set_option maxHeartbeats 6400000 in
theorem wlist_any (p b j : Nat) (vs : Value) (ss : List ByteArray) (l : List UInt8) (w : World) (h : Wr p w l) (hc : w.cell? ⟨b, j, none⟩ = some vs) (hb : b < p) (hL : ∀ X, Below p w X → Go.Proofs.YtocpikgcbibcoaaGreatDoor.ss.Lies X vs ss) (hn : ss.length ≤ 16) (hs : ∀ s ∈ ss, s.size ≤ 281474976) (hl : l.length ≤ 140730000000000) :
    Calls Tryz.prog 206 #[.pointer (some ⟨p, 0, none⟩), .pointer (some ⟨b, j, none⟩)] w fun e w' => e = .returned (.tuple #[]) ∧ Wr p w' (l ++ lsL ss) ∧ Below p w w' := by
  obtain ⟨ov, cs, rfl⟩ : ∃ ov cs, vs = .slice ov ss.length cs := by
    obtain ⟨oa, cap, hv, _⟩ := hL w (Below.refl _ _)
    exact ⟨oa, cap, hv⟩
  have HL := hide hL
  have HS := hide hs
  have HCB : Hid (∀ X, Below p w X → X.cell? ⟨b, j, none⟩ = some (.slice ov ss.length cs)) := fun X hX => (hX.cell (p := ⟨b, j, none⟩) hb).trans hc
  have hnl : (numL ss.length).length ≤ 10 := (numF_len 9 ss.length).2
  have HFL : Hid (∀ k, ((ss.take k).flatMap txL).length ≤ 16 * (281474976 + 10)) := fun k => by
    have h1 := flat_len (ss.take k) 281474976 (fun s hs' => hs s (List.mem_of_mem_take hs'))
    have h2 : (ss.take k).length ≤ 16 := by rw [List.length_take]; omega
    exact Nat.le_trans h1 (Nat.mul_le_mul_right _ h2)
  obtain ⟨v, hp, hv⟩ := h
  have hlt := (Array.getElem?_eq_some_iff.1 hp).1
  have cp := cell_of hp 0
  have HP := hide hp
  have HV := hide hv
  obtain ⟨ow, cv, rfl⟩ : ∃ ow cv, v = .slice ow l.length cv := by
    rcases hv.2 with ⟨h1, h0⟩ | ⟨g, cap, cur, h1, _⟩
    · exact ⟨none, 0, by rw [h1, h0]⟩
    · exact ⟨_, cap, h1⟩
  have HC := hide (appendNumber_any (.slice ow l.length cv) l ss.length (p + 1) w.drew hv hlt (by omega) (by omega))
  clear hp hv hL hs
  go_enter Tryz.func206, Tryz.ntmps206
  go_wp2_with fail
  go_region_law (refine step_callsX (by rfl) (by simp [go_sem]) HC.out ?_; rintro v1 w2 ⟨hown, hgr⟩; obtain ⟨q1, q2, hW, hB⟩ := wr_set (w := w.drew) HP.out HV.out hgr hown; obtain ⟨o1, n1, c1, rfl⟩ : ∃ o1 n1 c1, v1 = .slice o1 n1 c1 := (by rcases hown.2 with ⟨h1, h0⟩ | ⟨g, cap, cur, h1, _⟩; exact ⟨none, 0, 0, h1⟩; exact ⟨_, _, cap, h1⟩); have HWW := hide hW; have HBB : Hid (Below p w (w2.setCell ⟨p, 0, none⟩ (.slice o1 n1 c1))) := (Below.refl p w).drew.trans hB; clear hown hgr hW hB)
  all_goals
    obtain ⟨X, hX⟩ : ∃ X, X = w2.setCell ⟨p, 0, none⟩ (.slice o1 n1 c1) := ⟨_, rfl⟩
    rw [← hX] at HWW HBB ⊢
    have cb := HCB.out X HBB.out
    clear hX q1 q2 HC HP HV cp
    go_wp2
    go_loopw [22] (fun i wr => ∃ k : Nat, k ≤ ss.length ∧ i = .int .i64 k ∧ Wr p wr (l ++ numL ss.length ++ (ss.take k).flatMap txL) ∧ Below p w wr) (fun i _ => ss.length - (intOf i).toNat)
    case atStart => exact ⟨0, Nat.zero_le _, rfl, by simpa using HWW.out, HBB.out⟩
    case round =>
      obtain ⟨k, hk, rfl, hwr, hnx⟩ := hrel
      have HWR := hide hwr
      have HX := hide hnx
      by_cases hlk : k < ss.length
      · have k0 : (0 : Int) ≤ (k : Int) := Int.natCast_nonneg _
        have k1 : (k : Int) < (ss.length : Int) := by omega
        obtain ⟨_, _, hvv, hcc⟩ := HL.out wr hnx
        cases hvv
        obtain ⟨g, o, rfl, hg, c0⟩ := hcc k hlk
        have hb1 : Below wr.heap.size wr (wr.alloc (.cells #[.string ss[k]] 9)) := (Below.refl _ _).alloc (Nat.le_refl _) _
        have hpl := hwr.lt
        have HT := hide (wtext_any p wr.heap.size 0 ss[k] _ (wr.alloc (.cells #[.string ss[k]] 9)) (hwr.keep hb1) (cell_of (heap_alloc_new wr _) 0) (Or.inr ⟨_, _, heap_alloc_new wr _, by decide⟩) (HS.out _ (List.getElem_mem hlk)) (by have := HFL.out k; simp only [List.length_append]; omega))
        have HTK : Hid ((ss.take (k + 1)).flatMap txL = (ss.take k).flatMap txL ++ txL ss[k]) := by
          show _ = _
          rw [List.take_succ_eq_append_getElem hlk, List.flatMap_append]
          simp
        have HTX : Hid (txL ss[k] = numL (ss[k]).size ++ (ss[k]).data.toList) := rfl
        have HB1 : Hid (Below p w (wr.alloc (.cells #[.string ss[k]] 9))) := hnx.alloc (by omega) _
        generalize ss[k]'hlk = s at *
        clear hwr hnx hcc hb1
        go_wp2_with fail
        refine HT.out.mono ?_
        rintro x w3 ⟨rfl, hW3, b3⟩
        have HW3 : Hid (Wr p w3 (l ++ numL ss.length ++ (ss.take (k + 1)).flatMap txL)) := by
          show Wr _ _ _
          rw [HTK.out, HTX.out, ← List.append_assoc]; exact hW3
        have HB3 := hide (HB1.out.trans b3)
        clear hW3 b3
        go_wp2_with fail
        go_roundw
        case rel => exact ⟨k + 1, by omega, by go_num, HW3.out, HB3.out⟩
        case measure => simp [intOf]; omega
      · have k1 : ¬ (k : Int) < (ss.length : Int) := by omega
        have HF : Hid (Wr p wr (l ++ lsL ss)) := by
          show Wr _ _ _
          rw [List.take_of_length_le (by omega), List.append_assoc] at hwr
          exact hwr
        clear hwr hnx
        go_wp2_with fail
        first | go_end0 | refine bodyPost_end (results_none rfl _ _ _) rfl ?_
        exact ⟨rfl, HF.out, HX.out⟩
end Go.Proofs.YtocpikgcbibcoaaGreatDoor.rc

namespace Go.Proofs.YtocpikgcbibcoaaGreatDoor.Tm

/-- bytes from lo to hi -/
def btw (lo hi : Nat) (b : UInt8) : Bool := decide (lo ≤ b.toNat ∧ b.toNat ≤ hi)
/-- one byte or more, up to so many, each of which may be there -/
def word (most : Nat) (p : UInt8 → Bool) (l : List UInt8) : Bool := !l.isEmpty && decide (l.length ≤ most) && l.all p

theorem all_take (l : List UInt8) (p : UInt8 → Bool) (k : Nat) (h : k < l.length) : (l.take (k + 1)).all p = ((l.take k).all p && p l[k]) := by
  rw [List.take_succ_eq_append_getElem h, List.all_append]; simp
theorem all_short (l : List UInt8) (p : UInt8 → Bool) (k : Nat) (h : (l.take k).all p = false) : l.all p = false := by
  have e : l.all p = ((l.take k).all p && (l.drop k).all p) := by rw [← List.all_append, List.take_append_drop]
  rw [e, h]; rfl
end Go.Proofs.YtocpikgcbibcoaaGreatDoor.Tm

namespace Go.Proofs.YtocpikgcbibcoaaGreatDoor.tm
open Go.ChangeShapes Go.WideShapes Go.ChangeAt Go.RowKit Go.Proofs.YtocpikgcbibcoaaGreatDoor.common Go.Proofs.YtocpikgcbibcoaaGreatDoor.bk
attribute [local go_sem ↓] Go.wp_at_zero Go.wp_at_succ

/-- what is asked of a test of bytes -/
def Tests (g : Nat) (p : UInt8 → Bool) : Prop :=
  ∀ (W : World) (c : UInt8), Calls Tryz.prog g #[B c] W fun e W' => e = .returned (.bool (p c)) ∧ W' = W
abbrev Enters (g : Nat) : Prop := ∀ args w, (callFunc g args).run Tryz.prog w = .ok (.enter g args) w

set_option maxRecDepth 100000 in
set_option maxHeartbeats 1600000 in
theorem all_any (s : ByteArray) (g : Nat) (p : UInt8 → Bool) (w : World) (hs : s.size ≤ 4611686018427387904) (eg : Enters g) (hf : Tests g p) :
    Calls Tryz.prog 68 #[.string s, .func (.func g) #[] #[]] w fun e w' => e = .returned (.bool (s.data.toList.all p)) ∧ w' = w := by
  have HF := hide hf
  clear hf
  have eg' : ∀ args w, (callFunc g args).run Tryz.prog w = .ok (.enter g args) w := eg
  clear eg
  have HT : Hid (∀ k (_ : k < s.size), (s.data.toList.take (k + 1)).all p = ((s.data.toList.take k).all p && p s[k])) := fun k h => Tm.all_take _ p k (by simpa using h)
  have HE : Hid (s.data.toList.take s.size = s.data.toList) := take_all s
  have HA : Hid (∀ k, (s.data.toList.take k).all p = false → s.data.toList.all p = false) := fun k h => Tm.all_short _ p k h
  go_enter Tryz.func68, Tryz.ntmps68
  go_wp2_with fail
  go_loopw [8] (fun i wr => ∃ k : Nat, k ≤ s.size ∧ i = .int .i64 k ∧ (s.data.toList.take k).all p = true ∧ wr = w) (fun i _ => s.size - (intOf i).toNat)
  case atStart => exact ⟨0, Nat.zero_le _, rfl, by simp, rfl⟩
  case round =>
    obtain ⟨k, hk, rfl, ha, rfl⟩ := hrel
    have HAK := hide ha
    clear ha
    by_cases hlt : k < s.size
    · have hki : (k : Int) < (s.size : Int) := by omega
      have HTK := hide (HT.out k hlt)
      have HFK := hide (HF.out wr s[k])
      cases hp : p s[k] with
      | true =>
        have HP := hide hp
        clear hp
        go_wp2_with (go_at_fn g; refine HFK.out.mono ?_; rintro x w2 ⟨rfl, rfl⟩; rw [HP.out])
        go_roundw
        case rel => exact ⟨k + 1, by omega, by go_num, by rw [HTK.out, HAK.out, HP.out]; rfl, by trivial⟩
        case measure => simp [intOf]; omega
      | false =>
        have HP := hide hp
        clear hp
        have HR : Hid (s.data.toList.all p = false) := HA.out (k + 1) (by rw [HTK.out, HP.out, Bool.and_false])
        go_wp2_with (go_at_fn g; refine HFK.out.mono ?_; rintro x w2 ⟨rfl, rfl⟩; rw [HP.out])
        go_ret
        exact ⟨by rw [HR.out]; rfl, rfl⟩
    · obtain rfl : k = s.size := by omega
      rw [HE.out] at HAK
      go_wp2_with fail
      go_ret
      exact ⟨by rw [HAK.out]; rfl, rfl⟩

set_option maxHeartbeats 800000 in
theorem vis_tests : Tests 54 (Tm.btw 33 126) := by
  intro w c
  have hc := c.toNat_lt
  by_cases h1 : 33 ≤ c.toNat
  · have h1i : (33 : Int) ≤ (c.toNat : Int) := by omega
    by_cases h2 : c.toNat ≤ 126
    · have h2i : (c.toNat : Int) ≤ 126 := by omega
      have HR : Hid (Tm.btw 33 126 c = true) := decide_eq_true ⟨h1, h2⟩
      rw [HR.out]
      go_enter Tryz.func54, Tryz.ntmps54
      go_wp2
      go_ret
      exact ⟨rfl, rfl⟩
    · have h2i : ¬ (c.toNat : Int) ≤ 126 := by omega
      have HR : Hid (Tm.btw 33 126 c = false) := decide_eq_false fun h => h2 h.2
      rw [HR.out]
      go_enter Tryz.func54, Tryz.ntmps54
      go_wp2
      go_ret
      exact ⟨rfl, rfl⟩
  · have h1i : ¬ (33 : Int) ≤ (c.toNat : Int) := by omega
    have HR : Hid (Tm.btw 33 126 c = false) := decide_eq_false fun h => h1 h.1
    rw [HR.out]
    go_enter Tryz.func54, Tryz.ntmps54
    go_wp2
    go_ret
    exact ⟨rfl, rfl⟩
theorem vis_enters : Enters 54 := enters_of Tryz.func54 (by kernel_rfl) rfl

theorem word_ne {s : ByteArray} (he : s ≠ ⟨#[]⟩) : (s.toList == []) = false ∧ s.data.toList.isEmpty = false ∧ s.toList.isEmpty = false := by
  have hne : ¬ s.toList = [] := fun e => he (ba_ext (by rw [ByteArray.toList_eq] at e; rw [e]))
  have h4 : s.toList.isEmpty = false := by cases hh : s.toList with
    | nil => exact absurd hh hne
    | cons _ _ => rfl
  refine ⟨beq_false_of_ne hne, ?_, h4⟩
  rw [ByteArray.toList_eq] at h4; exact h4

set_option maxRecDepth 100000 in
set_option maxHeartbeats 1600000 in
theorem isWord_any (s : ByteArray) (most : Nat) (g : Nat) (p : UInt8 → Bool) (w : World) (hs : s.size ≤ 4611686018427387904) (eg : Enters g) (hf : Tests g p) :
    Calls Tryz.prog 53 #[.string s, .int .i64 most, .func (.func g) #[] #[]] w fun e w' => e = .returned (.bool (Tm.word most p s.data.toList)) ∧ w' = w := by
  have HA := hide (fun W => all_any s g p W hs eg hf)
  clear hf eg
  by_cases he : s = ⟨#[]⟩
  · subst he
    go_enter Tryz.func53, Tryz.ntmps53
    go_wp2_with fail
    go_ret
    exact ⟨rfl, rfl⟩
  · obtain ⟨h1, h2, h3⟩ := word_ne he
    by_cases hm : s.size ≤ most
    · have hmi : (s.size : Int) ≤ (most : Int) := by omega
      have HR : Hid (Tm.word most p s.data.toList = s.data.toList.all p) := by
        show _ = _
        unfold Tm.word
        rw [h2, len_list, decide_eq_true hm]; rfl
      rw [HR.out]
      generalize s.data.toList.all p = t at *
      go_enter Tryz.func53, Tryz.ntmps53
      go_wp2_with (go_at_call 68; refine (HA.out _).mono ?_; rintro x w2 ⟨rfl, rfl⟩)
      go_ret
      exact ⟨rfl, rfl⟩
    · have hmi : ¬ (s.size : Int) ≤ (most : Int) := by omega
      have HR : Hid (Tm.word most p s.data.toList = false) := by
        show _ = _
        unfold Tm.word
        rw [len_list, decide_eq_false hm]; simp
      rw [HR.out]
      go_enter Tryz.func53, Tryz.ntmps53
      go_wp2_with fail
      go_ret
      exact ⟨rfl, rfl⟩

end Go.Proofs.YtocpikgcbibcoaaGreatDoor.tm

namespace Go.Proofs.YtocpikgcbibcoaaGreatDoor.rc
open Go.ChangeShapes Go.WideShapes Go.ChangeAt Go.RowKit Go.Proofs.YtocpikgcbibcoaaGreatDoor.common Go.Proofs.YtocpikgcbibcoaaGreatDoor.bk Go.Proofs.YtocpikgcbibcoaaGreatDoor.ss Go.Proofs.YtocpikgcbibcoaaGreatDoor.tm
attribute [local go_sem ↓] Go.wp_at_zero Go.wp_at_succ

/-- which fields each kind names -/
def kf : List Int := [0, 131, 1, 198, 223, 1, 231, 1, 1, 231, 1, 6]
def KTab (w : World) : Prop := ∀ i, i < 12 → w.cell? ⟨7, i, none⟩ = some (.int .i64 (kf.getD i 0))
theorem KTab.below {w w' : World} (h : KTab w) (hb : Below w.heap.size w w') : KTab w' := fun i hi => by
  rw [hb.cell (p := ⟨7, i, none⟩) (World.block_lt_of_cell? w _ (h i hi))]; exact h i hi
def isK (k : Int) : Bool := decide (0 < k) && decide (k < 12)
def nm (k f : Int) : Bool := isK k && !(bits .and .i64 (kf.getD k.toNat 0) f == 0)

theorem isKind_any (k : Int) (w : World) :
    Calls Tryz.prog 41 #[.int .i64 k] w fun e w' => e = .returned (.bool (isK k)) ∧ w' = w := by
  by_cases h1 : 0 < k
  · by_cases h2 : k < 12
    · have HR : Hid (isK k = true) := by unfold isK; rw [decide_eq_true h1, decide_eq_true h2]; rfl
      go_enter Tryz.func41, Tryz.ntmps41
      go_wp2
      go_ret
      exact ⟨by rw [HR.out]; rfl, rfl⟩
    · have HR : Hid (isK k = false) := by show isK k = false; unfold isK; rw [decide_eq_false h2]; simp
      go_enter Tryz.func41, Tryz.ntmps41
      go_wp2
      go_ret
      exact ⟨by rw [HR.out]; rfl, rfl⟩
  · have HR : Hid (isK k = false) := by unfold isK; rw [decide_eq_false h1]; rfl
    go_enter Tryz.func41, Tryz.ntmps41
    go_wp2
    go_ret
    exact ⟨by rw [HR.out]; rfl, rfl⟩

set_option maxHeartbeats 1600000 in
theorem names_any (k f : Int) (w : World) (ht : KTab w) :
    Calls Tryz.prog 37 #[.int .i64 k, .int .i64 f] w fun e w' => e = .returned (.bool (nm k f)) ∧ w' = w := by
  have HK := hide (isKind_any k w)
  cases hk : isK k with
  | false =>
    rw [hk] at HK
    have HR : Hid (nm k f = false) := by unfold nm; rw [hk]; rfl
    clear hk
    go_enter Tryz.func37, Tryz.ntmps37
    go_wp2_with (go_at_call 41; refine HK.out.mono ?_; rintro x w2 ⟨rfl, rfl⟩)
    go_ret
    exact ⟨by rw [HR.out]; rfl, rfl⟩
  | true =>
    rw [hk] at HK
    have h1 : 0 < k ∧ k < 12 := by
      unfold isK at hk
      simpa using hk
    obtain ⟨i, rfl⟩ : ∃ i : Nat, k = (i : Int) := ⟨k.toNat, by omega⟩
    have hc := ht i (by omega)
    have HR : Hid (nm (i : Int) f = !(bits .and .i64 (kf.getD i 0) f == 0)) := by
      show nm _ _ = _
      unfold nm
      rw [hk]
      rfl
    generalize kf.getD i 0 = z at *
    clear hk ht
    have i0 : (0 : Int) ≤ (i : Int) := by omega
    have i1 : (i : Int) < 12 := by omega
    generalize hz : bits .and .i64 z f = y at *
    go_enter Tryz.func37, Tryz.ntmps37
    go_wp2_with (go_at_call 41; refine HK.out.mono ?_; rintro x w2 ⟨rfl, rfl⟩)
    go_ret
    exact ⟨by rw [HR.out]; rfl, rfl⟩

/-- a field that is named passes, one that isn't is empty -/
def fitS (b : Bool) (s : ByteArray) (t : Bool) : Bool := if b then t else decide (s.size = 0)
set_option maxHeartbeats 1600000 in
theorem textFits_any (b t : Bool) (s : ByteArray) (g : Nat) (w : World) (eg : tm.Enters g) (hf : Calls Tryz.prog g #[.string s] w fun e w' => e = .returned (.bool t) ∧ Below w.heap.size w w') :
    Calls Tryz.prog 42 #[.bool b, .string s, .func (.func g) #[] #[]] w fun e w' => e = .returned (.bool (fitS b s t)) ∧ Below w.heap.size w w' := by
  have HF := hide hf
  clear hf
  have eg' : ∀ args w, (callFunc g args).run Tryz.prog w = .ok (.enter g args) w := eg
  clear eg
  cases b with
  | true =>
    go_enter Tryz.func42, Tryz.ntmps42
    go_wp2_with (go_at_fn g; refine HF.out.mono ?_; rintro x w2 ⟨rfl, b2⟩)
    go_ret
    exact ⟨rfl, b2⟩
  | false =>
    by_cases hs : s = ⟨#[]⟩
    · subst hs
      go_enter Tryz.func42, Tryz.ntmps42
      go_wp2
      go_ret
      exact ⟨rfl, Below.refl _ _⟩
    · obtain ⟨h1, h2, h3⟩ := word_ne hs
      have hz : ¬ s.size = 0 := fun h => hs (ba_ext (by simpa using List.eq_nil_of_length_eq_zero (l := s.data.toList) (by simpa using h)))
      have HR : Hid (fitS false s t = false) := by show fitS _ _ _ = _; unfold fitS; simp [hz]
      go_enter Tryz.func42, Tryz.ntmps42
      go_wp2
      go_ret
      exact ⟨by rw [HR.out]; rfl, Below.refl _ _⟩

def fitT (b : Bool) (a : Int) : Bool := if b then decide (0 ≤ a) && decide (a ≤ 1099511627776) else decide (a = 0)
set_option maxHeartbeats 1600000 in
theorem timeFits_any (b : Bool) (a : Int) (w : World) :
    Calls Tryz.prog 48 #[.bool b, .int .i64 a] w fun e w' => e = .returned (.bool (fitT b a)) ∧ w' = w := by
  cases b with
  | true =>
    by_cases h1 : 0 ≤ a
    · by_cases h2 : a ≤ 1099511627776
      · have HR : Hid (fitT true a = true) := by show fitT _ _ = _; simp [fitT, h1, h2]
        go_enter Tryz.func48, Tryz.ntmps48
        go_wp2
        go_ret
        exact ⟨by rw [HR.out]; rfl, rfl⟩
      · have HR : Hid (fitT true a = false) := by show fitT _ _ = _; simp [fitT, h2]
        go_enter Tryz.func48, Tryz.ntmps48
        go_wp2
        go_ret
        exact ⟨by rw [HR.out]; rfl, rfl⟩
    · have HR : Hid (fitT true a = false) := by show fitT _ _ = _; simp [fitT, h1]
      go_enter Tryz.func48, Tryz.ntmps48
      go_wp2
      go_ret
      exact ⟨by rw [HR.out]; rfl, rfl⟩
  | false =>
    by_cases h1 : a = 0
    · have HR : Hid (fitT false a = true) := by show fitT _ _ = _; simp [fitT, h1]
      subst h1
      go_enter Tryz.func48, Tryz.ntmps48
      go_wp2
      go_ret
      exact ⟨rfl, rfl⟩
    · have HR : Hid (fitT false a = false) := by show fitT _ _ = _; simp [fitT, h1]
      have hb : (a == 0) = false := beq_false_of_ne h1
      go_enter Tryz.func48, Tryz.ntmps48
      go_wp2
      go_ret
      exact ⟨by rw [HR.out]; rfl, rfl⟩
end Go.Proofs.YtocpikgcbibcoaaGreatDoor.rc

namespace Go.Proofs.YtocpikgcbibcoaaGreatDoor.rc
open Go.ChangeShapes Go.WideShapes Go.ChangeAt Go.RowKit Go.Proofs.YtocpikgcbibcoaaGreatDoor.common Go.Proofs.YtocpikgcbibcoaaGreatDoor.bk Go.Proofs.YtocpikgcbibcoaaGreatDoor.ss Go.Proofs.YtocpikgcbibcoaaGreatDoor.tm
attribute [local go_sem ↓] Go.wp_at_zero Go.wp_at_succ

theorem Lies.len {w : World} {v : Value} {l : List ByteArray} (h : Lies w v l) : ∃ oa cap, v = .slice oa l.length cap := by
  obtain ⟨oa, cap, hv, _⟩ := h
  exact ⟨oa, cap, hv⟩
set_option maxRecDepth 100000 in
set_option maxHeartbeats 1600000 in
theorem indexFunc_any (v : Value) (l : List ByteArray) (g : Nat) (p : ByteArray → Bool) (w : World) (hL : Lies w v l) (hl : l.length ≤ 4611686018427387904) (eg : tm.Enters g)
    (hf : ∀ W s, s ∈ l → Below w.heap.size w W → Calls Tryz.prog g #[.string s] W fun e W' => e = .returned (.bool (p s)) ∧ Below W.heap.size W W') :
    Calls Tryz.prog 74 #[v, .func (.func g) #[] #[]] w fun e w' => ∃ n : Int, e = .returned (.int .i64 n) ∧ decide (0 ≤ n) = l.any p ∧ Below w.heap.size w w' := by
  have HF := hide hf
  have HL := hide hL
  obtain ⟨oa, cap, rfl⟩ := Lies.len hL
  clear hf hL
  have eg' : ∀ args w, (callFunc g args).run Tryz.prog w = .ok (.enter g args) w := eg
  clear eg
  go_enter Tryz.func74, Tryz.ntmps74
  go_wp2
  go_loopw [8] (fun i wr => ∃ k : Nat, k ≤ l.length ∧ i = .int .i64 k ∧ (l.take k).any p = false ∧ Below w.heap.size w wr) (fun i _ => l.length - (intOf i).toNat)
  case atStart => exact ⟨0, Nat.zero_le _, rfl, by simp, Below.refl _ _⟩
  case round =>
    obtain ⟨k, hk, rfl, ha, hnx⟩ := hrel
    have HA := hide ha
    have HX := hide hnx
    by_cases hlt : k < l.length
    · have k1 : (k : Int) < (l.length : Int) := by omega
      have k0 : (0 : Int) ≤ (k : Int) := Int.natCast_nonneg _
      obtain ⟨_, _, hv, hc⟩ := HL.out.below hnx
      cases hv
      obtain ⟨b, o, rfl, hb, c0⟩ := hc k hlt
      have HFK := hide (HF.out wr l[k] (List.getElem_mem hlt) hnx)
      have HTK := hide (takeS l k hlt)
      have HAN : Hid (p l[k] = true → l.any p = true) := fun h => List.any_eq_true.2 ⟨_, List.getElem_mem hlt, h⟩
      generalize l[k]'hlt = s at *
      clear ha hnx hc
      cases hp : p s with
      | true =>
        have HP := hide hp
        clear hp
        go_wp2_with (go_at_fn g; refine HFK.out.mono ?_; rintro x w2 ⟨rfl, b2⟩; rw [HP.out])
        go_ret
        exact ⟨(k : Int), rfl, by rw [HAN.out HP.out]; exact decide_eq_true k0, keepT (Nat.le_refl _) HX.out (b2.mono HX.out.size)⟩
      | false =>
        have HP := hide hp
        clear hp
        go_wp2_with (go_at_fn g; refine HFK.out.mono ?_; rintro x w2 ⟨rfl, b2⟩; rw [HP.out])
        go_roundw
        case rel => exact ⟨k + 1, by omega, by go_num, by rw [HTK.out, List.any_append, HA.out]; simp [HP.out], keepT (Nat.le_refl _) HX.out (b2.mono HX.out.size)⟩
        case measure => simp [intOf]; omega
    · obtain rfl : k = l.length := by omega
      have HN : Hid (l.any p = false) := by
        have := HA.out
        rwa [List.take_length] at this
      clear ha hnx
      go_wp2
      go_ret
      exact ⟨-1, rfl, by rw [HN.out]; rfl, HX.out⟩

set_option maxHeartbeats 1600000 in
theorem containsFunc_any (v : Value) (l : List ByteArray) (g : Nat) (p : ByteArray → Bool) (w : World) (hL : Lies w v l) (hl : l.length ≤ 4611686018427387904) (eg : tm.Enters g)
    (hf : ∀ W s, s ∈ l → Below w.heap.size w W → Calls Tryz.prog g #[.string s] W fun e W' => e = .returned (.bool (p s)) ∧ Below W.heap.size W W') :
    Calls Tryz.prog 59 #[v, .func (.func g) #[] #[]] w fun e w' => e = .returned (.bool (l.any p)) ∧ Below w.heap.size w w' := by
  have HI := hide (indexFunc_any v l g p w hL hl eg hf)
  generalize l.any p = t at *
  clear hL hf eg
  go_enter Tryz.func59, Tryz.ntmps59
  go_wp2_with (go_at_call 74; refine HI.out.mono ?_; rintro x w2 ⟨n, rfl, hn, b2⟩)
  go_ret
  exact ⟨by rw [← hn]; rfl, b2⟩

/-- each text below the next one -/
def ris (l : List ByteArray) (k : Nat) : Prop := ∀ i, i < k → i + 1 < l.length → (l.getD i ByteArray.empty).data.toList < (l.getD (i + 1) ByteArray.empty).data.toList
def risB (l : List ByteArray) : Bool := decide (∀ i, i < l.length → i + 1 < l.length → (l.getD i ByteArray.empty).data.toList < (l.getD (i + 1) ByteArray.empty).data.toList)
theorem lessB (a b : ByteArray) : Op.bytesLess a.toList b.toList = decide (a.data.toList < b.data.toList) := by
  rw [Go.Proofs.bytesLess_eq, ByteArray.toList_eq, ByteArray.toList_eq]
end Go.Proofs.YtocpikgcbibcoaaGreatDoor.rc
