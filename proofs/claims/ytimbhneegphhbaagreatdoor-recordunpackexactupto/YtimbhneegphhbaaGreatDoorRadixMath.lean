import Derived.WalkKit
import Derived.Test.YtimbhneegphhbaaGreatDoorStrBase
import Derived.Shelf.Abstract
import Derived.Laws.Cover1
import Derived.Sort.Walk0
import Derived.BigQuiet
import Derived.Deep.RegionHeld3
namespace Go.Proofs.YtimbhneegphhbaaGreatDoor.Tm

/-- bytes from lo to hi -/
def btw (lo hi : Nat) (b : UInt8) : Bool := decide (lo ≤ b.toNat ∧ b.toNat ≤ hi)
/-- one byte or more, up to so many, each of which may be there -/
def word (most : Nat) (p : UInt8 → Bool) (l : List UInt8) : Bool := !l.isEmpty && decide (l.length ≤ most) && l.all p

theorem all_take (l : List UInt8) (p : UInt8 → Bool) (k : Nat) (h : k < l.length) : (l.take (k + 1)).all p = ((l.take k).all p && p l[k]) := by
  rw [List.take_succ_eq_append_getElem h, List.all_append]; simp
theorem all_short (l : List UInt8) (p : UInt8 → Bool) (k : Nat) (h : (l.take k).all p = false) : l.all p = false := by
  have e : l.all p = ((l.take k).all p && (l.drop k).all p) := by rw [← List.all_append, List.take_append_drop]
  rw [e, h]; rfl
end Go.Proofs.YtimbhneegphhbaaGreatDoor.Tm

namespace Go.Proofs.YtimbhneegphhbaaGreatDoor.tm
open Go.ChangeShapes Go.WideShapes Go.ChangeAt Go.RowKit Go.Proofs.YtimbhneegphhbaaGreatDoor.common Go.Proofs.YtimbhneegphhbaaGreatDoor.bk
attribute [local go_sem ↓] Go.wp_at_zero Go.wp_at_succ

/-- what is asked of a test of bytes -/
def Tests (g : Nat) (p : UInt8 → Bool) : Prop :=
  ∀ (W : World) (c : UInt8), Calls Tryz.prog g #[B c] W fun e W' => e = .returned (.bool (p c)) ∧ W' = W
abbrev Enters (g : Nat) : Prop := ∀ args w, (callFunc g args).run Tryz.prog w = .ok (.enter g args) w

set_option maxRecDepth 100000 in
set_option maxHeartbeats 1600000 in
theorem all_any (s : ByteArray) (g : Nat) (p : UInt8 → Bool) (w : World) (hs : s.size ≤ 4611686018427387904) (eg : Enters g) (hf : Tests g p) :
    Calls Tryz.prog 78 #[.string s, .func (.func g) #[] #[]] w fun e w' => e = .returned (.bool (s.data.toList.all p)) ∧ w' = w := by
  have HF := hide hf
  clear hf
  have eg' : ∀ args w, (callFunc g args).run Tryz.prog w = .ok (.enter g args) w := eg
  clear eg
  have HT : Hid (∀ k (_ : k < s.size), (s.data.toList.take (k + 1)).all p = ((s.data.toList.take k).all p && p s[k])) := fun k h => Tm.all_take _ p k (by simpa using h)
  have HE : Hid (s.data.toList.take s.size = s.data.toList) := take_all s
  have HA : Hid (∀ k, (s.data.toList.take k).all p = false → s.data.toList.all p = false) := fun k h => Tm.all_short _ p k h
  go_enter Tryz.func78, Tryz.ntmps78
  go_wp2_with fail
  go_loopw [8] (fun i wr => ∃ k : Nat, k ≤ s.size ∧ i = .int .i64 k ∧ (s.data.toList.take k).all p = true ∧ wr = w) (fun i _ => s.size - (intOf i).toNat)
  case atStart => exact ⟨0, Nat.zero_le _, rfl, by simp, rfl⟩
  case round =>
    obtain ⟨k, hk, rfl, ha, rfl⟩ := hrel
    have HAK := hide ha
    clear ha
    by_cases hlt : k < s.size
    · have hki : (k : Int) < (s.size : Int) := by omega
      have HTK := hide (HT.out k hlt)
      have HFK := hide (HF.out wr s[k])
      cases hp : p s[k] with
      | true =>
        have HP := hide hp
        clear hp
        go_wp2_with (go_at_fn g; refine HFK.out.mono ?_; rintro x w2 ⟨rfl, rfl⟩; rw [HP.out])
        go_roundw
        case rel => exact ⟨k + 1, by omega, by go_num, by rw [HTK.out, HAK.out, HP.out]; rfl, by trivial⟩
        case measure => simp [intOf]; omega
      | false =>
        have HP := hide hp
        clear hp
        have HR : Hid (s.data.toList.all p = false) := HA.out (k + 1) (by rw [HTK.out, HP.out, Bool.and_false])
        go_wp2_with (go_at_fn g; refine HFK.out.mono ?_; rintro x w2 ⟨rfl, rfl⟩; rw [HP.out])
        go_ret
        exact ⟨by rw [HR.out]; rfl, rfl⟩
    · obtain rfl : k = s.size := by omega
      rw [HE.out] at HAK
      go_wp2_with fail
      go_ret
      exact ⟨by rw [HAK.out]; rfl, rfl⟩

set_option maxHeartbeats 800000 in
theorem vis_tests : Tests 59 (Tm.btw 33 126) := by
  intro w c
  have hc := c.toNat_lt
  by_cases h1 : 33 ≤ c.toNat
  · have h1i : (33 : Int) ≤ (c.toNat : Int) := by omega
    by_cases h2 : c.toNat ≤ 126
    · have h2i : (c.toNat : Int) ≤ 126 := by omega
      have HR : Hid (Tm.btw 33 126 c = true) := decide_eq_true ⟨h1, h2⟩
      rw [HR.out]
      go_enter Tryz.func59, Tryz.ntmps59
      go_wp2
      go_ret
      exact ⟨rfl, rfl⟩
    · have h2i : ¬ (c.toNat : Int) ≤ 126 := by omega
      have HR : Hid (Tm.btw 33 126 c = false) := decide_eq_false fun h => h2 h.2
      rw [HR.out]
      go_enter Tryz.func59, Tryz.ntmps59
      go_wp2
      go_ret
      exact ⟨rfl, rfl⟩
  · have h1i : ¬ (33 : Int) ≤ (c.toNat : Int) := by omega
    have HR : Hid (Tm.btw 33 126 c = false) := decide_eq_false fun h => h1 h.1
    rw [HR.out]
    go_enter Tryz.func59, Tryz.ntmps59
    go_wp2
    go_ret
    exact ⟨rfl, rfl⟩
theorem vis_enters : Enters 59 := enters_of Tryz.func59 (by kernel_rfl) rfl

theorem word_ne {s : ByteArray} (he : s ≠ ⟨#[]⟩) : (s.toList == []) = false ∧ s.data.toList.isEmpty = false ∧ s.toList.isEmpty = false := by
  have hne : ¬ s.toList = [] := fun e => he (ba_ext (by rw [ByteArray.toList_eq] at e; rw [e]))
  have h4 : s.toList.isEmpty = false := by cases hh : s.toList with
    | nil => exact absurd hh hne
    | cons _ _ => rfl
  refine ⟨beq_false_of_ne hne, ?_, h4⟩
  rw [ByteArray.toList_eq] at h4; exact h4

set_option maxRecDepth 100000 in
set_option maxHeartbeats 1600000 in
theorem isWord_any (s : ByteArray) (most : Nat) (g : Nat) (p : UInt8 → Bool) (w : World) (hs : s.size ≤ 4611686018427387904) (eg : Enters g) (hf : Tests g p) :
    Calls Tryz.prog 58 #[.string s, .int .i64 most, .func (.func g) #[] #[]] w fun e w' => e = .returned (.bool (Tm.word most p s.data.toList)) ∧ w' = w := by
  have HA := hide (fun W => all_any s g p W hs eg hf)
  clear hf eg
  by_cases he : s = ⟨#[]⟩
  · subst he
    go_enter Tryz.func58, Tryz.ntmps58
    go_wp2_with fail
    go_ret
    exact ⟨rfl, rfl⟩
  · obtain ⟨h1, h2, h3⟩ := word_ne he
    by_cases hm : s.size ≤ most
    · have hmi : (s.size : Int) ≤ (most : Int) := by omega
      have HR : Hid (Tm.word most p s.data.toList = s.data.toList.all p) := by
        show _ = _
        unfold Tm.word
        rw [h2, len_list, decide_eq_true hm]; rfl
      rw [HR.out]
      generalize s.data.toList.all p = t at *
      go_enter Tryz.func58, Tryz.ntmps58
      go_wp2_with (go_at_call 78; refine (HA.out _).mono ?_; rintro x w2 ⟨rfl, rfl⟩)
      go_ret
      exact ⟨rfl, rfl⟩
    · have hmi : ¬ (s.size : Int) ≤ (most : Int) := by omega
      have HR : Hid (Tm.word most p s.data.toList = false) := by
        show _ = _
        unfold Tm.word
        rw [len_list, decide_eq_false hm]; simp
      rw [HR.out]
      go_enter Tryz.func58, Tryz.ntmps58
      go_wp2_with fail
      go_ret
      exact ⟨rfl, rfl⟩

end Go.Proofs.YtimbhneegphhbaaGreatDoor.tm

namespace Go.Proofs.YtimbhneegphhbaaGreatDoor.rc
open Go.ChangeShapes Go.WideShapes Go.ChangeAt Go.RowKit Go.Proofs.YtimbhneegphhbaaGreatDoor.common Go.Proofs.YtimbhneegphhbaaGreatDoor.bk Go.Proofs.YtimbhneegphhbaaGreatDoor.ss Go.Proofs.YtimbhneegphhbaaGreatDoor.tm
attribute [local go_sem ↓] Go.wp_at_zero Go.wp_at_succ

/-- which fields each kind names -/
def kf : List Int := [0, 131, 1, 198, 223, 1, 231, 1, 1, 231, 1, 6]
def KTab (w : World) : Prop := ∀ i, i < 12 → w.cell? ⟨21, i, none⟩ = some (.int .i64 (kf.getD i 0))
theorem KTab.below {w w' : World} (h : KTab w) (hb : Below w.heap.size w w') : KTab w' := fun i hi => by
  rw [hb.cell (p := ⟨21, i, none⟩) (World.block_lt_of_cell? w _ (h i hi))]; exact h i hi
def isK (k : Int) : Bool := decide (0 < k) && decide (k < 12)
def nm (k f : Int) : Bool := isK k && !(bits .and .i64 (kf.getD k.toNat 0) f == 0)

theorem isKind_any (k : Int) (w : World) :
    Calls Tryz.prog 38 #[.int .i64 k] w fun e w' => e = .returned (.bool (isK k)) ∧ w' = w := by
  by_cases h1 : 0 < k
  · by_cases h2 : k < 12
    · have HR : Hid (isK k = true) := by unfold isK; rw [decide_eq_true h1, decide_eq_true h2]; rfl
      go_enter Tryz.func38, Tryz.ntmps38
      go_wp2
      go_ret
      exact ⟨by rw [HR.out]; rfl, rfl⟩
    · have HR : Hid (isK k = false) := by show isK k = false; unfold isK; rw [decide_eq_false h2]; simp
      go_enter Tryz.func38, Tryz.ntmps38
      go_wp2
      go_ret
      exact ⟨by rw [HR.out]; rfl, rfl⟩
  · have HR : Hid (isK k = false) := by unfold isK; rw [decide_eq_false h1]; rfl
    go_enter Tryz.func38, Tryz.ntmps38
    go_wp2
    go_ret
    exact ⟨by rw [HR.out]; rfl, rfl⟩

set_option maxHeartbeats 1600000 in
theorem names_any (k f : Int) (w : World) (ht : KTab w) :
    Calls Tryz.prog 37 #[.int .i64 k, .int .i64 f] w fun e w' => e = .returned (.bool (nm k f)) ∧ w' = w := by
  have HK := hide (isKind_any k w)
  cases hk : isK k with
  | false =>
    rw [hk] at HK
    have HR : Hid (nm k f = false) := by unfold nm; rw [hk]; rfl
    clear hk
    go_enter Tryz.func37, Tryz.ntmps37
    go_wp2_with (go_at_call 38; refine HK.out.mono ?_; rintro x w2 ⟨rfl, rfl⟩)
    go_ret
    exact ⟨by rw [HR.out]; rfl, rfl⟩
  | true =>
    rw [hk] at HK
    have h1 : 0 < k ∧ k < 12 := by
      unfold isK at hk
      simpa using hk
    obtain ⟨i, rfl⟩ : ∃ i : Nat, k = (i : Int) := ⟨k.toNat, by omega⟩
    have hc := ht i (by omega)
    have HR : Hid (nm (i : Int) f = !(bits .and .i64 (kf.getD i 0) f == 0)) := by
      show nm _ _ = _
      unfold nm
      rw [hk]
      rfl
    generalize kf.getD i 0 = z at *
    clear hk ht
    have i0 : (0 : Int) ≤ (i : Int) := by omega
    have i1 : (i : Int) < 12 := by omega
    generalize hz : bits .and .i64 z f = y at *
    go_enter Tryz.func37, Tryz.ntmps37
    go_wp2_with (go_at_call 38; refine HK.out.mono ?_; rintro x w2 ⟨rfl, rfl⟩)
    go_ret
    exact ⟨by rw [HR.out]; rfl, rfl⟩

/-- a field that is named passes, one that isn't is empty -/
def fitS (b : Bool) (s : ByteArray) (t : Bool) : Bool := if b then t else decide (s.size = 0)
set_option maxHeartbeats 1600000 in
theorem textFits_any (b t : Bool) (s : ByteArray) (g : Nat) (w : World) (eg : tm.Enters g) (hf : Calls Tryz.prog g #[.string s] w fun e w' => e = .returned (.bool t) ∧ Below w.heap.size w w') :
    Calls Tryz.prog 39 #[.bool b, .string s, .func (.func g) #[] #[]] w fun e w' => e = .returned (.bool (fitS b s t)) ∧ Below w.heap.size w w' := by
  have HF := hide hf
  clear hf
  have eg' : ∀ args w, (callFunc g args).run Tryz.prog w = .ok (.enter g args) w := eg
  clear eg
  cases b with
  | true =>
    go_enter Tryz.func39, Tryz.ntmps39
    go_wp2_with (go_at_fn g; refine HF.out.mono ?_; rintro x w2 ⟨rfl, b2⟩)
    go_ret
    exact ⟨rfl, b2⟩
  | false =>
    by_cases hs : s = ⟨#[]⟩
    · subst hs
      go_enter Tryz.func39, Tryz.ntmps39
      go_wp2
      go_ret
      exact ⟨rfl, Below.refl _ _⟩
    · obtain ⟨h1, h2, h3⟩ := word_ne hs
      have hz : ¬ s.size = 0 := fun h => hs (ba_ext (by simpa using List.eq_nil_of_length_eq_zero (l := s.data.toList) (by simpa using h)))
      have HR : Hid (fitS false s t = false) := by show fitS _ _ _ = _; unfold fitS; simp [hz]
      go_enter Tryz.func39, Tryz.ntmps39
      go_wp2
      go_ret
      exact ⟨by rw [HR.out]; rfl, Below.refl _ _⟩

def fitT (b : Bool) (a : Int) : Bool := if b then decide (0 ≤ a) && decide (a ≤ 1099511627776) else decide (a = 0)
set_option maxHeartbeats 1600000 in
theorem timeFits_any (b : Bool) (a : Int) (w : World) :
    Calls Tryz.prog 45 #[.bool b, .int .i64 a] w fun e w' => e = .returned (.bool (fitT b a)) ∧ w' = w := by
  cases b with
  | true =>
    by_cases h1 : 0 ≤ a
    · by_cases h2 : a ≤ 1099511627776
      · have HR : Hid (fitT true a = true) := by show fitT _ _ = _; simp [fitT, h1, h2]
        go_enter Tryz.func45, Tryz.ntmps45
        go_wp2
        go_ret
        exact ⟨by rw [HR.out]; rfl, rfl⟩
      · have HR : Hid (fitT true a = false) := by show fitT _ _ = _; simp [fitT, h2]
        go_enter Tryz.func45, Tryz.ntmps45
        go_wp2
        go_ret
        exact ⟨by rw [HR.out]; rfl, rfl⟩
    · have HR : Hid (fitT true a = false) := by show fitT _ _ = _; simp [fitT, h1]
      go_enter Tryz.func45, Tryz.ntmps45
      go_wp2
      go_ret
      exact ⟨by rw [HR.out]; rfl, rfl⟩
  | false =>
    by_cases h1 : a = 0
    · have HR : Hid (fitT false a = true) := by show fitT _ _ = _; simp [fitT, h1]
      subst h1
      go_enter Tryz.func45, Tryz.ntmps45
      go_wp2
      go_ret
      exact ⟨rfl, rfl⟩
    · have HR : Hid (fitT false a = false) := by show fitT _ _ = _; simp [fitT, h1]
      have hb : (a == 0) = false := beq_false_of_ne h1
      go_enter Tryz.func45, Tryz.ntmps45
      go_wp2
      go_ret
      exact ⟨by rw [HR.out]; rfl, rfl⟩
end Go.Proofs.YtimbhneegphhbaaGreatDoor.rc

namespace Go.Proofs.YtimbhneegphhbaaGreatDoor.rc
open Go.ChangeShapes Go.WideShapes Go.ChangeAt Go.RowKit Go.Proofs.YtimbhneegphhbaaGreatDoor.common Go.Proofs.YtimbhneegphhbaaGreatDoor.bk Go.Proofs.YtimbhneegphhbaaGreatDoor.ss Go.Proofs.YtimbhneegphhbaaGreatDoor.tm
attribute [local go_sem ↓] Go.wp_at_zero Go.wp_at_succ

theorem Lies.len {w : World} {v : Value} {l : List ByteArray} (h : Lies w v l) : ∃ oa cap, v = .slice oa l.length cap := by
  obtain ⟨oa, cap, hv, _⟩ := h
  exact ⟨oa, cap, hv⟩
set_option maxRecDepth 100000 in
set_option maxHeartbeats 1600000 in
theorem indexFunc_any (v : Value) (l : List ByteArray) (g : Nat) (p : ByteArray → Bool) (w : World) (hL : Lies w v l) (hl : l.length ≤ 4611686018427387904) (eg : tm.Enters g)
    (hf : ∀ W s, s ∈ l → Below w.heap.size w W → Calls Tryz.prog g #[.string s] W fun e W' => e = .returned (.bool (p s)) ∧ Below W.heap.size W W') :
    Calls Tryz.prog 84 #[v, .func (.func g) #[] #[]] w fun e w' => ∃ n : Int, e = .returned (.int .i64 n) ∧ decide (0 ≤ n) = l.any p ∧ Below w.heap.size w w' := by
  have HF := hide hf
  have HL := hide hL
  obtain ⟨oa, cap, rfl⟩ := Lies.len hL
  clear hf hL
  have eg' : ∀ args w, (callFunc g args).run Tryz.prog w = .ok (.enter g args) w := eg
  clear eg
  go_enter Tryz.func84, Tryz.ntmps84
  go_wp2
  go_loopw [8] (fun i wr => ∃ k : Nat, k ≤ l.length ∧ i = .int .i64 k ∧ (l.take k).any p = false ∧ Below w.heap.size w wr) (fun i _ => l.length - (intOf i).toNat)
  case atStart => exact ⟨0, Nat.zero_le _, rfl, by simp, Below.refl _ _⟩
  case round =>
    obtain ⟨k, hk, rfl, ha, hnx⟩ := hrel
    have HA := hide ha
    have HX := hide hnx
    by_cases hlt : k < l.length
    · have k1 : (k : Int) < (l.length : Int) := by omega
      have k0 : (0 : Int) ≤ (k : Int) := Int.natCast_nonneg _
      obtain ⟨_, _, hv, hc⟩ := HL.out.below hnx
      cases hv
      obtain ⟨b, o, rfl, hb, c0⟩ := hc k hlt
      have HFK := hide (HF.out wr l[k] (List.getElem_mem hlt) hnx)
      have HTK := hide (takeS l k hlt)
      have HAN : Hid (p l[k] = true → l.any p = true) := fun h => List.any_eq_true.2 ⟨_, List.getElem_mem hlt, h⟩
      generalize l[k]'hlt = s at *
      clear ha hnx hc
      cases hp : p s with
      | true =>
        have HP := hide hp
        clear hp
        go_wp2_with (go_at_fn g; refine HFK.out.mono ?_; rintro x w2 ⟨rfl, b2⟩; rw [HP.out])
        go_ret
        exact ⟨(k : Int), rfl, by rw [HAN.out HP.out]; exact decide_eq_true k0, keepT (Nat.le_refl _) HX.out (b2.mono HX.out.size)⟩
      | false =>
        have HP := hide hp
        clear hp
        go_wp2_with (go_at_fn g; refine HFK.out.mono ?_; rintro x w2 ⟨rfl, b2⟩; rw [HP.out])
        go_roundw
        case rel => exact ⟨k + 1, by omega, by go_num, by rw [HTK.out, List.any_append, HA.out]; simp [HP.out], keepT (Nat.le_refl _) HX.out (b2.mono HX.out.size)⟩
        case measure => simp [intOf]; omega
    · obtain rfl : k = l.length := by omega
      have HN : Hid (l.any p = false) := by
        have := HA.out
        rwa [List.take_length] at this
      clear ha hnx
      go_wp2
      go_ret
      exact ⟨-1, rfl, by rw [HN.out]; rfl, HX.out⟩

set_option maxHeartbeats 1600000 in
theorem containsFunc_any (v : Value) (l : List ByteArray) (g : Nat) (p : ByteArray → Bool) (w : World) (hL : Lies w v l) (hl : l.length ≤ 4611686018427387904) (eg : tm.Enters g)
    (hf : ∀ W s, s ∈ l → Below w.heap.size w W → Calls Tryz.prog g #[.string s] W fun e W' => e = .returned (.bool (p s)) ∧ Below W.heap.size W W') :
    Calls Tryz.prog 64 #[v, .func (.func g) #[] #[]] w fun e w' => e = .returned (.bool (l.any p)) ∧ Below w.heap.size w w' := by
  have HI := hide (indexFunc_any v l g p w hL hl eg hf)
  generalize l.any p = t at *
  clear hL hf eg
  go_enter Tryz.func64, Tryz.ntmps64
  go_wp2_with (go_at_call 84; refine HI.out.mono ?_; rintro x w2 ⟨n, rfl, hn, b2⟩)
  go_ret
  exact ⟨by rw [← hn]; rfl, b2⟩

/-- each text below the next one -/
def ris (l : List ByteArray) (k : Nat) : Prop := ∀ i, i < k → i + 1 < l.length → (l.getD i ByteArray.empty).data.toList < (l.getD (i + 1) ByteArray.empty).data.toList
def risB (l : List ByteArray) : Bool := decide (∀ i, i < l.length → i + 1 < l.length → (l.getD i ByteArray.empty).data.toList < (l.getD (i + 1) ByteArray.empty).data.toList)
theorem lessB (a b : ByteArray) : Op.bytesLess a.toList b.toList = decide (a.data.toList < b.data.toList) := by
  rw [Go.Proofs.bytesLess_eq, ByteArray.toList_eq, ByteArray.toList_eq]
end Go.Proofs.YtimbhneegphhbaaGreatDoor.rc

namespace Go.Proofs.YtimbhneegphhbaaGreatDoor.rc
open Go.ChangeShapes Go.WideShapes Go.ChangeAt Go.RowKit Go.Proofs.YtimbhneegphhbaaGreatDoor.common Go.Proofs.YtimbhneegphhbaaGreatDoor.bk Go.Proofs.YtimbhneegphhbaaGreatDoor.ss Go.Proofs.YtimbhneegphhbaaGreatDoor.tm
attribute [local go_sem ↓] Go.wp_at_zero Go.wp_at_succ

theorem bdN' {b : Nat} {a c : World} (h : Below b a c) (n : Nat) : Below b a (c.drewN n) := ⟨h.1, h.2, h.3, h.4, h.5⟩
theorem getD_at (l : List ByteArray) (i : Nat) (h : i < l.length) : l.getD i ByteArray.empty = l[i] := by simp [List.getD, h]
set_option maxRecDepth 100000 in
set_option maxHeartbeats 1600000 in
theorem isRising_any (v : Value) (l : List ByteArray) (w : World) (hL : Lies w v l) (hl : l.length ≤ 4611686018427387904) :
    Calls Tryz.prog 63 #[v] w fun e w' => e = .returned (.bool (risB l)) ∧ Below w.heap.size w w' := by
  have HL := hide hL
  obtain ⟨oa, cap, rfl⟩ := Lies.len hL
  clear hL
  have HT : Hid (ris l (l.length - 1) → risB l = true) := fun h => decide_eq_true (fun i h1 h2 => h i (by omega) h2)
  have HN : Hid (∀ i, i + 1 < l.length → ¬ (l.getD i ByteArray.empty).data.toList < (l.getD (i + 1) ByteArray.empty).data.toList → risB l = false) := fun i h1 h2 => decide_eq_false (fun h => h2 (h i (by omega) h1))
  go_enter Tryz.func63, Tryz.ntmps63
  go_wp2
  go_loopw [7] (fun i wr => ∃ k : Nat, (k = 0 ∨ k < l.length) ∧ i = .int .i64 k ∧ ris l k ∧ Below w.heap.size w wr) (fun i _ => l.length - (intOf i).toNat)
  case atStart => exact ⟨0, Or.inl rfl, rfl, fun i h => absurd h (Nat.not_lt_zero _), Below.refl _ _⟩
  case round =>
    obtain ⟨k, hk, rfl, hr, hnx⟩ := hrel
    have HR := hide hr
    have HX := hide hnx
    by_cases hlt : k + 1 < l.length
    · have k1 : (k : Int) < (l.length : Int) - 1 := by omega
      have k0 : (0 : Int) ≤ (k : Int) := Int.natCast_nonneg _
      have k2 : (k : Int) < (l.length : Int) := by omega
      have k3 : (k : Int) + 1 < (l.length : Int) := by omega
      have k4 : (0 : Int) ≤ (k : Int) + 1 := by omega
      obtain ⟨_, _, hv, hc⟩ := HL.out.below hnx
      cases hv
      obtain ⟨b, o, rfl, hb, c0⟩ := hc k (by omega)
      obtain ⟨b', o', he, hb', c1⟩ := hc (k + 1) hlt
      cases he
      have HNK := hide (HN.out k hlt)
      rw [getD_at l k (by omega), getD_at l (k + 1) hlt] at HNK
      have HRS : Hid (l[k].data.toList < l[k + 1].data.toList → ris l (k + 1)) := fun h i h1 h2 => by
        by_cases hik : i < k
        · exact HR.out i hik h2
        · obtain rfl : i = k := by omega
          rw [getD_at l i (by omega), getD_at l (i + 1) hlt]; exact h
      have hg := lessB l[k] l[k + 1]
      generalize l[k] = s at *
      generalize l[k + 1] = t at *
      have c2 := c1
      rw [← Nat.add_assoc] at c2
      have hw : IntKind.i64.wrap ((k : Int) + 1) = (k : Int) + 1 := by unfold IntKind.wrap; simp [IntKind.signed, IntKind.bits]; omega
      clear hr hnx hc HN
      by_cases hst : s.data.toList < t.data.toList
      · rw [decide_eq_true hst] at hg
        have HS := hide hst
        clear hst
        go_wp2_with fail
        go_quiet (fail)
        go_wp2_with fail
        go_roundw
        case rel => exact ⟨k + 1, Or.inr hlt, by go_num, HRS.out HS.out, bdN' HX.out nq⟩
        case measure => simp [intOf]; omega
      · rw [decide_eq_false hst] at hg
        have HS := hide (HNK.out hst)
        clear hst
        go_wp2_with fail
        go_quiet (fail)
        go_wp2_with fail
        go_ret
        exact ⟨by rw [HS.out]; rfl, bdN' HX.out nq⟩
    · have k1 : ¬ ((k : Int) < (l.length : Int) - 1) := by omega
      have HS : Hid (risB l = true) := HT.out (fun i h1 h2 => hr i (by omega) h2)
      clear hr hnx
      go_wp2_with fail
      go_ret
      exact ⟨by rw [HS.out]; rfl, HX.out⟩

set_option maxRecDepth 100000 in
set_option maxHeartbeats 1600000 in
/-- is the list just one text? -/
theorem equalOne_any (v : Value) (l : List ByteArray) (s : ByteArray) (b : Nat) (w : World) (hL : Lies w v l) (hl : l.length ≤ 4611686018427387904) (hb : w.cell? ⟨b, 0, none⟩ = some (.string s)) :
    Calls Tryz.prog 86 #[v, .slice (some ⟨b, 0, none⟩) 1 1] w fun e w' => e = .returned (.bool (decide (l = [s]))) ∧ Below w.heap.size w w' := by
  obtain ⟨oa, cap, rfl, hc⟩ := hL
  by_cases h1 : l.length = 1
  · obtain ⟨t, rfl⟩ : ∃ t, l = [t] := by
      cases l with
      | nil => cases h1
      | cons a r =>
        cases r with
        | nil => exact ⟨a, rfl⟩
        | cons c r => simp at h1
    obtain ⟨b', o', he, hb', c0⟩ := hc 0 (by simp)
    subst he
    simp only [Nat.add_zero, List.getElem_cons_zero] at c0
    clear hc h1 hl
    by_cases hst : t = s
    · subst hst
      have HR : Hid (decide ([t] = [t]) = true) := decide_eq_true rfl
      go_enter Tryz.func86, Tryz.ntmps86
      go_wp2
      go_loopw [13] (fun i wr => ∃ k : Nat, k ≤ 1 ∧ i = .int .i64 k ∧ Below w.heap.size w wr ∧ wr.cell? ⟨b', o', none⟩ = some (.string t) ∧ wr.cell? ⟨b, 0, none⟩ = some (.string t)) (fun i _ => 1 - (intOf i).toNat)
      case atStart => exact ⟨0, by decide, rfl, Below.refl _ _, c0, hb⟩
      case round =>
        obtain ⟨k, hk, rfl, hnx, d0, d1⟩ := hrel
        have HX := hide hnx
        clear hnx c0 hb
        by_cases hlt : k < 1
        · obtain rfl : k = 0 := by omega
          go_wp2_with fail
          go_quiet (fail)
          go_wp2_with fail
          go_roundw
          case rel => exact ⟨1, by decide, rfl, bdN' HX.out nq, d0, d1⟩
          case measure => simp [intOf]
        · have k1 : ¬ ((k : Int) < 1) := by omega
          clear d0 d1 HR
          go_wp2_with fail
          go_ret
          exact ⟨by simp, HX.out⟩
    · have HR : Hid (decide ([t] = [s]) = false) := decide_eq_false (fun h => hst (by simpa using h))
      have hne : (t.toList == s.toList) = false := beq_false_of_ne (fun h => hst (ba_ext (by rw [ByteArray.toList_eq, ByteArray.toList_eq] at h; exact h)))
      have hne' : (t.data.toList == s.data.toList) = false := by rw [ByteArray.toList_eq, ByteArray.toList_eq] at hne; exact hne
      clear hst
      go_enter Tryz.func86, Tryz.ntmps86
      go_wp2
      go_loopw [13] (fun i wr => i = .int .i64 0 ∧ Below w.heap.size w wr ∧ wr.cell? ⟨b', o', none⟩ = some (.string t) ∧ wr.cell? ⟨b, 0, none⟩ = some (.string s)) (fun i _ => 1 - (intOf i).toNat)
      case atStart => exact ⟨rfl, Below.refl _ _, c0, hb⟩
      case round =>
        obtain ⟨rfl, hnx, d0, d1⟩ := hrel
        have HX := hide hnx
        clear hnx c0 hb
        go_wp2_with fail
        go_quiet (fail)
        go_wp2_with fail
        go_ret
        exact ⟨by rw [HR.out]; rfl, bdN' HX.out nq⟩
  · have HR : Hid (decide (l = [s]) = false) := decide_eq_false (fun h => h1 (by rw [h]; rfl))
    have hb1 : ((l.length : Int) == 1) = false := beq_false_of_ne (by omega)
    have hb2 : ¬ (l.length : Int) = 1 := by omega
    clear hc
    go_enter Tryz.func86, Tryz.ntmps86
    go_wp2
    go_ret
    exact ⟨by rw [HR.out]; rfl, Below.refl _ _⟩
end Go.Proofs.YtimbhneegphhbaaGreatDoor.rc

namespace Go.Proofs.YtimbhneegphhbaaGreatDoor.Rad

/-- a byte of a text, 0 behind its end -/
def g (l : List UInt8) (i : Nat) : Nat := (l.getD i 0).toNat

theorem g_lt (l : List UInt8) (i : Nat) : g l i < 256 := (l.getD i 0).toNat_lt

/-- the bit i of a text, each byte's highest first -/
def bit (l : List UInt8) (i : Nat) : Nat := g l (i / 8) / 2 ^ (7 - i % 8) % 2

/-- a group of n bits from bit i on, of any row of bits -/
def grp (b : Nat → Nat) (i : Nat) : Nat → Nat
  | 0 => 0
  | n + 1 => 2 * grp b i n + b (i + n)

/-- a number of six bits -/
def six (l : List UInt8) (m : Nat) : Nat :=
  match m % 4 with
  | 0 => g l (m / 4 * 3) / 4
  | 1 => g l (m / 4 * 3) % 4 * 16 + g l (m / 4 * 3 + 1) / 16
  | 2 => g l (m / 4 * 3 + 1) % 16 * 4 + g l (m / 4 * 3 + 2) / 64
  | _ => g l (m / 4 * 3 + 2) % 64

theorem bit_at (l : List UInt8) (q r : Nat) (hr : r < 8) : bit l (8 * q + r) = g l q / 2 ^ (7 - r) % 2 := by
  unfold bit
  rw [show (8 * q + r) / 8 = q by omega, show (8 * q + r) % 8 = r by omega]

theorem bit_lt (l : List UInt8) (i : Nat) : bit l i < 2 := by unfold bit; omega

theorem grp6 (b : Nat → Nat) (i : Nat) : grp b i 6 = 2 * (2 * (2 * (2 * (2 * (2 * 0 + b (i + 0)) + b (i + 1)) + b (i + 2)) + b (i + 3)) + b (i + 4)) + b (i + 5) := rfl

theorem six_bits (l : List UInt8) (m : Nat) : grp (bit l) (6 * m) 6 = six l m := by
  obtain ⟨i, r, hr, rfl⟩ : ∃ i r, r < 4 ∧ m = 4 * i + r := ⟨m / 4, m % 4, by omega, by omega⟩
  have h0 := g_lt l (3 * i)
  have h1 := g_lt l (3 * i + 1)
  have h2 := g_lt l (3 * i + 2)
  unfold six
  rw [show (4 * i + r) % 4 = r by omega, show (4 * i + r) / 4 * 3 = 3 * i by omega, grp6]
  generalize e0 : g l (3 * i) = a at *
  generalize e1 : g l (3 * i + 1) = b at *
  generalize e2 : g l (3 * i + 2) = c at *
  have B0 : ∀ k, k < 8 → bit l (8 * (3 * i) + k) = a / 2 ^ (7 - k) % 2 := fun k hk => by rw [bit_at _ _ _ hk, e0]
  have B1 : ∀ k, k < 8 → bit l (8 * (3 * i + 1) + k) = b / 2 ^ (7 - k) % 2 := fun k hk => by rw [bit_at _ _ _ hk, e1]
  have B2 : ∀ k, k < 8 → bit l (8 * (3 * i + 2) + k) = c / 2 ^ (7 - k) % 2 := fun k hk => by rw [bit_at _ _ _ hk, e2]
  match r, hr with
  | 0, _ =>
    rw [show 6 * (4 * i + 0) + 0 = 8 * (3 * i) + 0 by omega, show 6 * (4 * i + 0) + 1 = 8 * (3 * i) + 1 by omega, show 6 * (4 * i + 0) + 2 = 8 * (3 * i) + 2 by omega, show 6 * (4 * i + 0) + 3 = 8 * (3 * i) + 3 by omega, show 6 * (4 * i + 0) + 4 = 8 * (3 * i) + 4 by omega, show 6 * (4 * i + 0) + 5 = 8 * (3 * i) + 5 by omega]
    rw [B0 0 (by decide), B0 1 (by decide), B0 2 (by decide), B0 3 (by decide), B0 4 (by decide), B0 5 (by decide)]
    simp only [Nat.reduceSub, Nat.reducePow]
    omega
  | 1, _ =>
    rw [show 6 * (4 * i + 1) + 0 = 8 * (3 * i) + 6 by omega, show 6 * (4 * i + 1) + 1 = 8 * (3 * i) + 7 by omega, show 6 * (4 * i + 1) + 2 = 8 * (3 * i + 1) + 0 by omega, show 6 * (4 * i + 1) + 3 = 8 * (3 * i + 1) + 1 by omega, show 6 * (4 * i + 1) + 4 = 8 * (3 * i + 1) + 2 by omega, show 6 * (4 * i + 1) + 5 = 8 * (3 * i + 1) + 3 by omega]
    rw [B0 6 (by decide), B0 7 (by decide), B1 0 (by decide), B1 1 (by decide), B1 2 (by decide), B1 3 (by decide)]
    simp only [Nat.reduceSub, Nat.reducePow]
    omega
  | 2, _ =>
    rw [show 6 * (4 * i + 2) + 0 = 8 * (3 * i + 1) + 4 by omega, show 6 * (4 * i + 2) + 1 = 8 * (3 * i + 1) + 5 by omega, show 6 * (4 * i + 2) + 2 = 8 * (3 * i + 1) + 6 by omega, show 6 * (4 * i + 2) + 3 = 8 * (3 * i + 1) + 7 by omega, show 6 * (4 * i + 2) + 4 = 8 * (3 * i + 2) + 0 by omega, show 6 * (4 * i + 2) + 5 = 8 * (3 * i + 2) + 1 by omega]
    rw [B1 4 (by decide), B1 5 (by decide), B1 6 (by decide), B1 7 (by decide), B2 0 (by decide), B2 1 (by decide)]
    simp only [Nat.reduceSub, Nat.reducePow]
    omega
  | 3, _ =>
    rw [show 6 * (4 * i + 3) + 0 = 8 * (3 * i + 2) + 2 by omega, show 6 * (4 * i + 3) + 1 = 8 * (3 * i + 2) + 3 by omega, show 6 * (4 * i + 3) + 2 = 8 * (3 * i + 2) + 4 by omega, show 6 * (4 * i + 3) + 3 = 8 * (3 * i + 2) + 5 by omega, show 6 * (4 * i + 3) + 4 = 8 * (3 * i + 2) + 6 by omega, show 6 * (4 * i + 3) + 5 = 8 * (3 * i + 2) + 7 by omega]
    rw [B2 2 (by decide), B2 3 (by decide), B2 4 (by decide), B2 5 (by decide), B2 6 (by decide), B2 7 (by decide)]
    simp only [Nat.reduceSub, Nat.reducePow]
    omega

theorem six_lt (l : List UInt8) (m : Nat) : six l m < 64 := by
  have h0 := g_lt l (m / 4 * 3)
  have h1 := g_lt l (m / 4 * 3 + 1)
  have h2 := g_lt l (m / 4 * 3 + 2)
  unfold six
  split <;> omega

/-- the letters of the three ways -/
def urlT : List UInt8 := [65, 66, 67, 68, 69, 70, 71, 72, 73, 74, 75, 76, 77, 78, 79, 80, 81, 82, 83, 84, 85, 86, 87, 88, 89, 90, 97, 98, 99, 100, 101, 102, 103, 104, 105, 106, 107, 108, 109, 110, 111, 112, 113, 114, 115, 116, 117, 118, 119, 120, 121, 122, 48, 49, 50, 51, 52, 53, 54, 55, 56, 57, 45, 95]
/-- how many letters -/
def n6 (n : Nat) : Nat := (8 * n + 5) / 6

/-- the numbers of a text, six bits each, in letters of a table -/
def b64 (T l : List UInt8) : List UInt8 := (List.range (n6 l.length)).map fun m => T.getD (six l m) 0
theorem b64_len (T l : List UInt8) : (b64 T l).length = n6 l.length := by simp [b64]
end Go.Proofs.YtimbhneegphhbaaGreatDoor.Rad
