import Derived.WalkKit
import Derived.Test.YtobflealcldgnaaGreatDoorStrBase
import Derived.Shelf.Abstract
import Derived.Laws.Cover1
import Derived.Sort.Walk0
import Derived.BigQuiet
namespace Go.Proofs.YtobflealcldgnaaGreatDoor.Tm

/-- bytes from lo to hi -/
def btw (lo hi : Nat) (b : UInt8) : Bool := decide (lo ≤ b.toNat ∧ b.toNat ≤ hi)
/-- one byte or more, up to so many, each of which may be there -/
def word (most : Nat) (p : UInt8 → Bool) (l : List UInt8) : Bool := !l.isEmpty && decide (l.length ≤ most) && l.all p

theorem all_take (l : List UInt8) (p : UInt8 → Bool) (k : Nat) (h : k < l.length) : (l.take (k + 1)).all p = ((l.take k).all p && p l[k]) := by
  rw [List.take_succ_eq_append_getElem h, List.all_append]; simp
theorem all_short (l : List UInt8) (p : UInt8 → Bool) (k : Nat) (h : (l.take k).all p = false) : l.all p = false := by
  have e : l.all p = ((l.take k).all p && (l.drop k).all p) := by rw [← List.all_append, List.take_append_drop]
  rw [e, h]; rfl
end Go.Proofs.YtobflealcldgnaaGreatDoor.Tm

namespace Go.Proofs.YtobflealcldgnaaGreatDoor.tm
open Go.ChangeShapes Go.WideShapes Go.ChangeAt Go.RowKit Go.Proofs.YtobflealcldgnaaGreatDoor.common Go.Proofs.YtobflealcldgnaaGreatDoor.bk
attribute [local go_sem ↓] Go.wp_at_zero Go.wp_at_succ

/-- what is asked of a test of bytes -/
def Tests (g : Nat) (p : UInt8 → Bool) : Prop :=
  ∀ (W : World) (c : UInt8), Calls Tryz.prog g #[B c] W fun e W' => e = .returned (.bool (p c)) ∧ W' = W
abbrev Enters (g : Nat) : Prop := ∀ args w, (callFunc g args).run Tryz.prog w = .ok (.enter g args) w

set_option maxRecDepth 100000 in
set_option maxHeartbeats 1600000 in
theorem all_any (s : ByteArray) (g : Nat) (p : UInt8 → Bool) (w : World) (hs : s.size ≤ 4611686018427387904) (eg : Enters g) (hf : Tests g p) :
    Calls Tryz.prog 70 #[.string s, .func (.func g) #[] #[]] w fun e w' => e = .returned (.bool (s.data.toList.all p)) ∧ w' = w := by
  have HF := hide hf
  clear hf
  have eg' : ∀ args w, (callFunc g args).run Tryz.prog w = .ok (.enter g args) w := eg
  clear eg
  have HT : Hid (∀ k (_ : k < s.size), (s.data.toList.take (k + 1)).all p = ((s.data.toList.take k).all p && p s[k])) := fun k h => Tm.all_take _ p k (by simpa using h)
  have HE : Hid (s.data.toList.take s.size = s.data.toList) := take_all s
  have HA : Hid (∀ k, (s.data.toList.take k).all p = false → s.data.toList.all p = false) := fun k h => Tm.all_short _ p k h
  go_enter Tryz.func70, Tryz.ntmps70
  go_wp2_with fail
  go_loopw [8] (fun i wr => ∃ k : Nat, k ≤ s.size ∧ i = .int .i64 k ∧ (s.data.toList.take k).all p = true ∧ wr = w) (fun i _ => s.size - (intOf i).toNat)
  case atStart => exact ⟨0, Nat.zero_le _, rfl, by simp, rfl⟩
  case round =>
    obtain ⟨k, hk, rfl, ha, rfl⟩ := hrel
    have HAK := hide ha
    clear ha
    by_cases hlt : k < s.size
    · have hki : (k : Int) < (s.size : Int) := by omega
      have HTK := hide (HT.out k hlt)
      have HFK := hide (HF.out wr s[k])
      cases hp : p s[k] with
      | true =>
        have HP := hide hp
        clear hp
        go_wp2_with (go_at_fn g; refine HFK.out.mono ?_; rintro x w2 ⟨rfl, rfl⟩; rw [HP.out])
        go_roundw
        case rel => exact ⟨k + 1, by omega, by go_num, by rw [HTK.out, HAK.out, HP.out]; rfl, by trivial⟩
        case measure => simp [intOf]; omega
      | false =>
        have HP := hide hp
        clear hp
        have HR : Hid (s.data.toList.all p = false) := HA.out (k + 1) (by rw [HTK.out, HP.out, Bool.and_false])
        go_wp2_with (go_at_fn g; refine HFK.out.mono ?_; rintro x w2 ⟨rfl, rfl⟩; rw [HP.out])
        go_ret
        exact ⟨by rw [HR.out]; rfl, rfl⟩
    · obtain rfl : k = s.size := by omega
      rw [HE.out] at HAK
      go_wp2_with fail
      go_ret
      exact ⟨by rw [HAK.out]; rfl, rfl⟩

set_option maxHeartbeats 800000 in
theorem vis_tests : Tests 50 (Tm.btw 33 126) := by
  intro w c
  have hc := c.toNat_lt
  by_cases h1 : 33 ≤ c.toNat
  · have h1i : (33 : Int) ≤ (c.toNat : Int) := by omega
    by_cases h2 : c.toNat ≤ 126
    · have h2i : (c.toNat : Int) ≤ 126 := by omega
      have HR : Hid (Tm.btw 33 126 c = true) := decide_eq_true ⟨h1, h2⟩
      rw [HR.out]
      go_enter Tryz.func50, Tryz.ntmps50
      go_wp2
      go_ret
      exact ⟨rfl, rfl⟩
    · have h2i : ¬ (c.toNat : Int) ≤ 126 := by omega
      have HR : Hid (Tm.btw 33 126 c = false) := decide_eq_false fun h => h2 h.2
      rw [HR.out]
      go_enter Tryz.func50, Tryz.ntmps50
      go_wp2
      go_ret
      exact ⟨rfl, rfl⟩
  · have h1i : ¬ (33 : Int) ≤ (c.toNat : Int) := by omega
    have HR : Hid (Tm.btw 33 126 c = false) := decide_eq_false fun h => h1 h.1
    rw [HR.out]
    go_enter Tryz.func50, Tryz.ntmps50
    go_wp2
    go_ret
    exact ⟨rfl, rfl⟩
theorem vis_enters : Enters 50 := enters_of Tryz.func50 (by kernel_rfl) rfl

theorem word_ne {s : ByteArray} (he : s ≠ ⟨#[]⟩) : (s.toList == []) = false ∧ s.data.toList.isEmpty = false ∧ s.toList.isEmpty = false := by
  have hne : ¬ s.toList = [] := fun e => he (ba_ext (by rw [ByteArray.toList_eq] at e; rw [e]))
  have h4 : s.toList.isEmpty = false := by cases hh : s.toList with
    | nil => exact absurd hh hne
    | cons _ _ => rfl
  refine ⟨beq_false_of_ne hne, ?_, h4⟩
  rw [ByteArray.toList_eq] at h4; exact h4

set_option maxRecDepth 100000 in
set_option maxHeartbeats 1600000 in
theorem isWord_any (s : ByteArray) (most : Nat) (g : Nat) (p : UInt8 → Bool) (w : World) (hs : s.size ≤ 4611686018427387904) (eg : Enters g) (hf : Tests g p) :
    Calls Tryz.prog 49 #[.string s, .int .i64 most, .func (.func g) #[] #[]] w fun e w' => e = .returned (.bool (Tm.word most p s.data.toList)) ∧ w' = w := by
  have HA := hide (fun W => all_any s g p W hs eg hf)
  clear hf eg
  by_cases he : s = ⟨#[]⟩
  · subst he
    go_enter Tryz.func49, Tryz.ntmps49
    go_wp2_with fail
    go_ret
    exact ⟨rfl, rfl⟩
  · obtain ⟨h1, h2, h3⟩ := word_ne he
    by_cases hm : s.size ≤ most
    · have hmi : (s.size : Int) ≤ (most : Int) := by omega
      have HR : Hid (Tm.word most p s.data.toList = s.data.toList.all p) := by
        show _ = _
        unfold Tm.word
        rw [h2, len_list, decide_eq_true hm]; rfl
      rw [HR.out]
      generalize s.data.toList.all p = t at *
      go_enter Tryz.func49, Tryz.ntmps49
      go_wp2_with (go_at_call 70; refine (HA.out _).mono ?_; rintro x w2 ⟨rfl, rfl⟩)
      go_ret
      exact ⟨rfl, rfl⟩
    · have hmi : ¬ (s.size : Int) ≤ (most : Int) := by omega
      have HR : Hid (Tm.word most p s.data.toList = false) := by
        show _ = _
        unfold Tm.word
        rw [len_list, decide_eq_false hm]; simp
      rw [HR.out]
      go_enter Tryz.func49, Tryz.ntmps49
      go_wp2_with fail
      go_ret
      exact ⟨rfl, rfl⟩

end Go.Proofs.YtobflealcldgnaaGreatDoor.tm

namespace Go.Proofs.YtobflealcldgnaaGreatDoor.rc
open Go.ChangeShapes Go.WideShapes Go.ChangeAt Go.RowKit Go.Proofs.YtobflealcldgnaaGreatDoor.common Go.Proofs.YtobflealcldgnaaGreatDoor.bk Go.Proofs.YtobflealcldgnaaGreatDoor.ss Go.Proofs.YtobflealcldgnaaGreatDoor.tm
attribute [local go_sem ↓] Go.wp_at_zero Go.wp_at_succ

/-- which fields each kind names -/
def kf : List Int := [0, 131, 1, 198, 223, 1, 231, 1, 1, 231, 1, 6]
def KTab (w : World) : Prop := ∀ i, i < 12 → w.cell? ⟨21, i, none⟩ = some (.int .i64 (kf.getD i 0))
theorem KTab.below {w w' : World} (h : KTab w) (hb : Below w.heap.size w w') : KTab w' := fun i hi => by
  rw [hb.cell (p := ⟨21, i, none⟩) (World.block_lt_of_cell? w _ (h i hi))]; exact h i hi
def isK (k : Int) : Bool := decide (0 < k) && decide (k < 12)
def nm (k f : Int) : Bool := isK k && !(bits .and .i64 (kf.getD k.toNat 0) f == 0)

theorem isKind_any (k : Int) (w : World) :
    Calls Tryz.prog 31 #[.int .i64 k] w fun e w' => e = .returned (.bool (isK k)) ∧ w' = w := by
  by_cases h1 : 0 < k
  · by_cases h2 : k < 12
    · have HR : Hid (isK k = true) := by unfold isK; rw [decide_eq_true h1, decide_eq_true h2]; rfl
      go_enter Tryz.func31, Tryz.ntmps31
      go_wp2
      go_ret
      exact ⟨by rw [HR.out]; rfl, rfl⟩
    · have HR : Hid (isK k = false) := by show isK k = false; unfold isK; rw [decide_eq_false h2]; simp
      go_enter Tryz.func31, Tryz.ntmps31
      go_wp2
      go_ret
      exact ⟨by rw [HR.out]; rfl, rfl⟩
  · have HR : Hid (isK k = false) := by unfold isK; rw [decide_eq_false h1]; rfl
    go_enter Tryz.func31, Tryz.ntmps31
    go_wp2
    go_ret
    exact ⟨by rw [HR.out]; rfl, rfl⟩

set_option maxHeartbeats 1600000 in
theorem names_any (k f : Int) (w : World) (ht : KTab w) :
    Calls Tryz.prog 23 #[.int .i64 k, .int .i64 f] w fun e w' => e = .returned (.bool (nm k f)) ∧ w' = w := by
  have HK := hide (isKind_any k w)
  cases hk : isK k with
  | false =>
    rw [hk] at HK
    have HR : Hid (nm k f = false) := by unfold nm; rw [hk]; rfl
    clear hk
    go_enter Tryz.func23, Tryz.ntmps23
    go_wp2_with (go_at_call 31; refine HK.out.mono ?_; rintro x w2 ⟨rfl, rfl⟩)
    go_ret
    exact ⟨by rw [HR.out]; rfl, rfl⟩
  | true =>
    rw [hk] at HK
    have h1 : 0 < k ∧ k < 12 := by
      unfold isK at hk
      simpa using hk
    obtain ⟨i, rfl⟩ : ∃ i : Nat, k = (i : Int) := ⟨k.toNat, by omega⟩
    have hc := ht i (by omega)
    have HR : Hid (nm (i : Int) f = !(bits .and .i64 (kf.getD i 0) f == 0)) := by
      show nm _ _ = _
      unfold nm
      rw [hk]
      rfl
    generalize kf.getD i 0 = z at *
    clear hk ht
    have i0 : (0 : Int) ≤ (i : Int) := by omega
    have i1 : (i : Int) < 12 := by omega
    generalize hz : bits .and .i64 z f = y at *
    go_enter Tryz.func23, Tryz.ntmps23
    go_wp2_with (go_at_call 31; refine HK.out.mono ?_; rintro x w2 ⟨rfl, rfl⟩)
    go_ret
    exact ⟨by rw [HR.out]; rfl, rfl⟩

/-- a field that is named passes, one that isn't is empty -/
def fitS (b : Bool) (s : ByteArray) (t : Bool) : Bool := if b then t else decide (s.size = 0)
set_option maxHeartbeats 1600000 in
theorem textFits_any (b t : Bool) (s : ByteArray) (g : Nat) (w : World) (eg : tm.Enters g) (hf : Calls Tryz.prog g #[.string s] w fun e w' => e = .returned (.bool t) ∧ Below w.heap.size w w') :
    Calls Tryz.prog 32 #[.bool b, .string s, .func (.func g) #[] #[]] w fun e w' => e = .returned (.bool (fitS b s t)) ∧ Below w.heap.size w w' := by
  have HF := hide hf
  clear hf
  have eg' : ∀ args w, (callFunc g args).run Tryz.prog w = .ok (.enter g args) w := eg
  clear eg
  cases b with
  | true =>
    go_enter Tryz.func32, Tryz.ntmps32
    go_wp2_with (go_at_fn g; refine HF.out.mono ?_; rintro x w2 ⟨rfl, b2⟩)
    go_ret
    exact ⟨rfl, b2⟩
  | false =>
    by_cases hs : s = ⟨#[]⟩
    · subst hs
      go_enter Tryz.func32, Tryz.ntmps32
      go_wp2
      go_ret
      exact ⟨rfl, Below.refl _ _⟩
    · obtain ⟨h1, h2, h3⟩ := word_ne hs
      have hz : ¬ s.size = 0 := fun h => hs (ba_ext (by simpa using List.eq_nil_of_length_eq_zero (l := s.data.toList) (by simpa using h)))
      have HR : Hid (fitS false s t = false) := by show fitS _ _ _ = _; unfold fitS; simp [hz]
      go_enter Tryz.func32, Tryz.ntmps32
      go_wp2
      go_ret
      exact ⟨by rw [HR.out]; rfl, Below.refl _ _⟩

def fitT (b : Bool) (a : Int) : Bool := if b then decide (0 ≤ a) && decide (a ≤ 1099511627776) else decide (a = 0)
set_option maxHeartbeats 1600000 in
theorem timeFits_any (b : Bool) (a : Int) (w : World) :
    Calls Tryz.prog 38 #[.bool b, .int .i64 a] w fun e w' => e = .returned (.bool (fitT b a)) ∧ w' = w := by
  cases b with
  | true =>
    by_cases h1 : 0 ≤ a
    · by_cases h2 : a ≤ 1099511627776
      · have HR : Hid (fitT true a = true) := by show fitT _ _ = _; simp [fitT, h1, h2]
        go_enter Tryz.func38, Tryz.ntmps38
        go_wp2
        go_ret
        exact ⟨by rw [HR.out]; rfl, rfl⟩
      · have HR : Hid (fitT true a = false) := by show fitT _ _ = _; simp [fitT, h2]
        go_enter Tryz.func38, Tryz.ntmps38
        go_wp2
        go_ret
        exact ⟨by rw [HR.out]; rfl, rfl⟩
    · have HR : Hid (fitT true a = false) := by show fitT _ _ = _; simp [fitT, h1]
      go_enter Tryz.func38, Tryz.ntmps38
      go_wp2
      go_ret
      exact ⟨by rw [HR.out]; rfl, rfl⟩
  | false =>
    by_cases h1 : a = 0
    · have HR : Hid (fitT false a = true) := by show fitT _ _ = _; simp [fitT, h1]
      subst h1
      go_enter Tryz.func38, Tryz.ntmps38
      go_wp2
      go_ret
      exact ⟨rfl, rfl⟩
    · have HR : Hid (fitT false a = false) := by show fitT _ _ = _; simp [fitT, h1]
      have hb : (a == 0) = false := beq_false_of_ne h1
      go_enter Tryz.func38, Tryz.ntmps38
      go_wp2
      go_ret
      exact ⟨by rw [HR.out]; rfl, rfl⟩
end Go.Proofs.YtobflealcldgnaaGreatDoor.rc

namespace Go.Proofs.YtobflealcldgnaaGreatDoor.rc
open Go.ChangeShapes Go.WideShapes Go.ChangeAt Go.RowKit Go.Proofs.YtobflealcldgnaaGreatDoor.common Go.Proofs.YtobflealcldgnaaGreatDoor.bk Go.Proofs.YtobflealcldgnaaGreatDoor.ss Go.Proofs.YtobflealcldgnaaGreatDoor.tm
attribute [local go_sem ↓] Go.wp_at_zero Go.wp_at_succ

theorem Lies.len {w : World} {v : Value} {l : List ByteArray} (h : Lies w v l) : ∃ oa cap, v = .slice oa l.length cap := by
  obtain ⟨oa, cap, hv, _⟩ := h
  exact ⟨oa, cap, hv⟩
set_option maxRecDepth 100000 in
set_option maxHeartbeats 1600000 in
theorem indexFunc_any (v : Value) (l : List ByteArray) (g : Nat) (p : ByteArray → Bool) (w : World) (hL : Lies w v l) (hl : l.length ≤ 4611686018427387904) (eg : tm.Enters g)
    (hf : ∀ W s, s ∈ l → Below w.heap.size w W → Calls Tryz.prog g #[.string s] W fun e W' => e = .returned (.bool (p s)) ∧ Below W.heap.size W W') :
    Calls Tryz.prog 76 #[v, .func (.func g) #[] #[]] w fun e w' => ∃ n : Int, e = .returned (.int .i64 n) ∧ decide (0 ≤ n) = l.any p ∧ Below w.heap.size w w' := by
  have HF := hide hf
  have HL := hide hL
  obtain ⟨oa, cap, rfl⟩ := Lies.len hL
  clear hf hL
  have eg' : ∀ args w, (callFunc g args).run Tryz.prog w = .ok (.enter g args) w := eg
  clear eg
  go_enter Tryz.func76, Tryz.ntmps76
  go_wp2
  go_loopw [8] (fun i wr => ∃ k : Nat, k ≤ l.length ∧ i = .int .i64 k ∧ (l.take k).any p = false ∧ Below w.heap.size w wr) (fun i _ => l.length - (intOf i).toNat)
  case atStart => exact ⟨0, Nat.zero_le _, rfl, by simp, Below.refl _ _⟩
  case round =>
    obtain ⟨k, hk, rfl, ha, hnx⟩ := hrel
    have HA := hide ha
    have HX := hide hnx
    by_cases hlt : k < l.length
    · have k1 : (k : Int) < (l.length : Int) := by omega
      have k0 : (0 : Int) ≤ (k : Int) := Int.natCast_nonneg _
      obtain ⟨_, _, hv, hc⟩ := HL.out.below hnx
      cases hv
      obtain ⟨b, o, rfl, hb, c0⟩ := hc k hlt
      have HFK := hide (HF.out wr l[k] (List.getElem_mem hlt) hnx)
      have HTK := hide (takeS l k hlt)
      have HAN : Hid (p l[k] = true → l.any p = true) := fun h => List.any_eq_true.2 ⟨_, List.getElem_mem hlt, h⟩
      generalize l[k]'hlt = s at *
      clear ha hnx hc
      cases hp : p s with
      | true =>
        have HP := hide hp
        clear hp
        go_wp2_with (go_at_fn g; refine HFK.out.mono ?_; rintro x w2 ⟨rfl, b2⟩; rw [HP.out])
        go_ret
        exact ⟨(k : Int), rfl, by rw [HAN.out HP.out]; exact decide_eq_true k0, keepT (Nat.le_refl _) HX.out (b2.mono HX.out.size)⟩
      | false =>
        have HP := hide hp
        clear hp
        go_wp2_with (go_at_fn g; refine HFK.out.mono ?_; rintro x w2 ⟨rfl, b2⟩; rw [HP.out])
        go_roundw
        case rel => exact ⟨k + 1, by omega, by go_num, by rw [HTK.out, List.any_append, HA.out]; simp [HP.out], keepT (Nat.le_refl _) HX.out (b2.mono HX.out.size)⟩
        case measure => simp [intOf]; omega
    · obtain rfl : k = l.length := by omega
      have HN : Hid (l.any p = false) := by
        have := HA.out
        rwa [List.take_length] at this
      clear ha hnx
      go_wp2
      go_ret
      exact ⟨-1, rfl, by rw [HN.out]; rfl, HX.out⟩

set_option maxHeartbeats 1600000 in
theorem containsFunc_any (v : Value) (l : List ByteArray) (g : Nat) (p : ByteArray → Bool) (w : World) (hL : Lies w v l) (hl : l.length ≤ 4611686018427387904) (eg : tm.Enters g)
    (hf : ∀ W s, s ∈ l → Below w.heap.size w W → Calls Tryz.prog g #[.string s] W fun e W' => e = .returned (.bool (p s)) ∧ Below W.heap.size W W') :
    Calls Tryz.prog 55 #[v, .func (.func g) #[] #[]] w fun e w' => e = .returned (.bool (l.any p)) ∧ Below w.heap.size w w' := by
  have HI := hide (indexFunc_any v l g p w hL hl eg hf)
  generalize l.any p = t at *
  clear hL hf eg
  go_enter Tryz.func55, Tryz.ntmps55
  go_wp2_with (go_at_call 76; refine HI.out.mono ?_; rintro x w2 ⟨n, rfl, hn, b2⟩)
  go_ret
  exact ⟨by rw [← hn]; rfl, b2⟩

/-- each text below the next one -/
def ris (l : List ByteArray) (k : Nat) : Prop := ∀ i, i < k → i + 1 < l.length → (l.getD i ByteArray.empty).data.toList < (l.getD (i + 1) ByteArray.empty).data.toList
def risB (l : List ByteArray) : Bool := decide (∀ i, i < l.length → i + 1 < l.length → (l.getD i ByteArray.empty).data.toList < (l.getD (i + 1) ByteArray.empty).data.toList)
theorem lessB (a b : ByteArray) : Op.bytesLess a.toList b.toList = decide (a.data.toList < b.data.toList) := by
  rw [Go.Proofs.bytesLess_eq, ByteArray.toList_eq, ByteArray.toList_eq]
theorem lt_irrB (l : List UInt8) : ¬ l < l := List.lt_irrefl l
theorem geqB (a b : ByteArray) : (Op.bytesLess b.toList a.toList || b.toList == a.toList) = !decide (a.data.toList < b.data.toList) := by
  rw [lessB, ByteArray.toList_eq, ByteArray.toList_eq]
  by_cases h : a.data.toList < b.data.toList
  · rw [decide_eq_true h]
    have h1 : ¬ b.data.toList < a.data.toList := fun k => List.lt_irrefl _ (List.lt_trans h k)
    have h2 : b.data.toList ≠ a.data.toList := fun e => by rw [e] at h; exact List.lt_irrefl _ h
    rw [decide_eq_false h1, beq_false_of_ne h2]; rfl
  · rw [decide_eq_false h]
    by_cases e : b.data.toList = a.data.toList
    · simp [e]
    · have : b.data.toList < a.data.toList := Std.lt_of_le_of_ne (List.not_lt.1 h) e
      rw [decide_eq_true this]; rfl
end Go.Proofs.YtobflealcldgnaaGreatDoor.rc
