import Derived.Test.YtdkbjefphihplacDoorRdBasic
import Derived.Test.YtdkbjefphihplacDoorCutOne
import Derived.Test.YtdkbjefphihplacDoorCkB
import Derived.Test.YtdkbjefphihplacDoorUnStdWalks
import Derived.Test.YtdkbjefphihplacDoorUnescWalks
import Derived.Test.YtdkbjefphihplacDoorLookName
import Derived.Test.YtdkbjefphihplacDoorNameL
namespace Go.Proofs.YtdkbjefphihplacDoor.fd
open Go.ChangeShapes Go.WideShapes Go.ChangeAt Go.RowKit Go.Proofs.YtdkbjefphihplacDoor.common Go.Proofs.YtdkbjefphihplacDoor.bk
attribute [local go_sem ↓] Go.wp_at_zero Go.wp_at_succ

def isBl (c : UInt8) : Bool := decide (c = 32)
theorem isBlank_any (c : UInt8) (w : World) : Calls Tryd.prog 34 #[B c] w fun e w' => e = .returned (.bool (isBl c)) ∧ w' = w := by
  by_cases h : c = 32
  · subst h
    go_enter Tryd.func34, Tryd.ntmps34
    go_wp2
    go_ret
    exact ⟨rfl, rfl⟩
  · have hi : ¬ (c.toNat : Int) = 32 := fun e => h (UInt8.toNat_inj.1 (by show c.toNat = 32; omega))
    have hb : ((c.toNat : Int) == 32) = false := beq_false_of_ne hi
    have HB : Hid (isBl c = false) := decide_eq_false h
    rw [HB.out]
    clear h
    go_enter Tryd.func34, Tryd.ntmps34
    go_wp2
    go_ret
    exact ⟨by simp, rfl⟩
theorem enters_blank : ∀ args w, (callFunc 34 args).run Tryd.prog w = .ok (.enter 34 args) w := enters_of Tryd.func34 (by kernel_rfl) rfl

set_option maxRecDepth 100000 in
set_option maxHeartbeats 800000 in
theorem rest_any (b : Nat) (s : ByteArray) (l : List UInt8) (w : World) (h : At w b s l) :
    Calls Tryd.prog 36 #[ptr b] w fun e w' => e = .returned (S l) ∧ ∃ m, w' = w.drewN m := by
  have c0 := h.2.c0
  have c1 := h.2.c1
  have hl := h.len
  have HX : Hid (s.extract (s.size - l.length) s.size = ⟨l.toArray⟩) := by
    show _ = _
    have := extract_suffix (m := l) (l := []) (s := s) (by rw [List.append_nil]; exact h.1)
    rw [List.append_nil] at this
    exact this
  have k0 : (0 : Int) ≤ ((s.size - l.length : Nat) : Int) := Int.natCast_nonneg _
  have k1 : ((s.size - l.length : Nat) : Int) ≤ (s.size : Int) := by omega
  clear h
  generalize s.size - l.length = K at *
  go_enter Tryd.func36, Tryd.ntmps36
  go_wp2_with fail
  go_quiet (fail)
  go_wp2_with fail
  go_ret
  exact ⟨by simp [HX.out], _, rfl⟩

set_option maxRecDepth 100000 in
set_option maxHeartbeats 800000 in
theorem scheme_any (b : Nat) (s : ByteArray) (l : List UInt8) (w : World) (h : At w b s l) (hs : s.size ≤ 4611686018427387904) :
    Calls Tryd.prog 15 #[ptr b] w fun e w' => e = .returned (S (l.takeWhile Fd.tok)) ∧ At w' b s (l.dropWhile Fd.tok) ∧ Mv b w w' := by
  have hmf : ∀ (fn : Fn) (first cap : Array Value) (w : World), (Instr.makeFunc fn first cap).run Tryd.prog w = .ok (.func fn first cap) w := fun _ _ _ _ => rfl
  have HT : Hid (∀ W, At W b s l → Calls Tryd.prog 31 #[ptr b, .func (.func 32) #[.pointer (some ⟨b, 2, none⟩)] #[]] W fun e w' => e = .returned (S (l.takeWhile Fd.tok)) ∧ At w' b s (l.dropWhile Fd.tok) ∧ Mv b W w') :=
    fun W hW => takeWhile_m b s l _ _ Fd.tok W hW hs enters_tok (fun X c hX => isTokenByte_any b 2 c X hX)
  have HA := hide h
  clear h
  go_enter Tryd.func15, Tryd.ntmps15
  go_wp2_with fail
  go_region_with (go_at_call 31; refine (HT.out _ HA.out.drew).mono ?_; rintro x w2 ⟨rfl, ha, hm⟩)
  all_goals
    go_wp2_with fail
    go_ret
    exact ⟨rfl, ha, ((Mv.refl _ _).drew).trans hm⟩

end Go.Proofs.YtdkbjefphihplacDoor.fd

namespace Go.Proofs.YtdkbjefphihplacDoor.fd
open Go.ChangeShapes Go.WideShapes Go.ChangeAt Go.RowKit Go.Proofs.YtdkbjefphihplacDoor.common Go.Proofs.YtdkbjefphihplacDoor.bk
attribute [local go_sem ↓] Go.wp_at_zero Go.wp_at_succ

def failV (x : Value) : Value := .tuple #[.string ⟨#[]⟩, .string ⟨#[]⟩, x]
def unV (x : Value) (u p : List UInt8) : Value :=
  match Pct.unesc true u, Pct.unesc true p with
  | some a, some b => .tuple #[S a, S b, .nilIface]
  | _, _ => failV x
/-- what stands coded in a text -/
def codedL (l : List UInt8) : List UInt8 := Rad.un64 Rad.stdT (radw.lets0 l)
def credV (ok : Bool) (x : Value) (l : List UInt8) : Value :=
  if l.takeWhile isBl = [] then failV x else
    if ok && (codedL (l.dropWhile isBl)).contains 58 then unV x (before 58 (codedL (l.dropWhile isBl))) (behind 58 (codedL (l.dropWhile isBl))) else failV x
def basicV (ok : Bool) (xt xs : Value) (l : List UInt8) : Value :=
  if l.takeWhile Fd.tok = [] then failV xt else if Fd.lows (l.takeWhile Fd.tok) = Fd.lows nameL then credV ok xt (l.dropWhile Fd.tok) else failV xs

theorem below_drewN {b : Nat} {a c : World} (h : Below b a c) (n : Nat) : Below b a (c.drewN n) := ⟨h.1, h.2, h.3, h.4, h.5⟩
theorem ne_nil_str {l : List UInt8} (h : l ≠ []) : ((⟨l.toArray⟩ : ByteArray).toList == []) = false ∧ (⟨l.toArray⟩ : ByteArray).toList.isEmpty = false := by
  have e : (⟨l.toArray⟩ : ByteArray).toList = l := by rw [ByteArray.toList_eq]
  rw [e]
  exact ⟨beq_false_of_ne h, by cases l with | nil => exact absurd rfl h | cons _ _ => rfl⟩

set_option maxRecDepth 100000 in
set_option maxHeartbeats 1600000 in
theorem unBoth_any (u p : ByteArray) (w : World) (hu : u.size ≤ reachBytes) (hp : p.size ≤ reachBytes) (ea : Addr) (he : Ev 0 w (X ea)) :
    Calls Tryd.prog 38 #[.string u, .string p] w fun e w' => e = .returned (unV (X ea) u.data.toList p.data.toList) ∧ Below w.heap.size w w' := by
  obtain ⟨R, hR⟩ : ∃ R, R = unV (X ea) u.data.toList p.data.toList := ⟨_, rfl⟩
  rw [← hR]
  have HR := hide hR
  clear hR
  have HE := hide he
  have H1 := hide (pctw.unescape_any u true w hu ea he)
  have H2 : Hid (∀ W, Below w.heap.size w W → Calls Tryd.prog 58 #[.string p, .bool true] W fun x w' => Below W.heap.size W w' ∧
      ((∃ t, Pct.unesc true p.data.toList = some t ∧ x = .returned (.tuple #[S t, .nilIface])) ∨ (Pct.unesc true p.data.toList = none ∧ x = .returned (.tuple #[.string ⟨#[]⟩, X ea])))) := fun W hW => pctw.unescape_any p true W hp ea (HE.out.below hW)
  clear he
  go_enter Tryd.func38, Tryd.ntmps38
  go_wp2_with fail
  refine H1.out.mono ?_
  rintro x w1 ⟨hb1, ⟨t, ht, rfl⟩ | ⟨hn, rfl⟩⟩
  · have HB1 := hide hb1
    have HT := hide ht
    clear hb1 ht
    go_wp2_with fail
    refine (H2.out w1 HB1.out).mono ?_
    rintro x w2 ⟨hb2, ⟨t2, ht2, rfl⟩ | ⟨hn2, rfl⟩⟩
    · have HB2 := hide (keepD HB1.out hb2)
      have HR2 : Hid (R = .tuple #[S t, S t2, .nilIface]) := by show _ = _; rw [HR.out]; unfold unV; rw [HT.out, ht2]
      clear hb2 ht2
      go_wp2_with fail
      refine bodyPost_ret (results_tmp3 rfl _ _ _) rfl ⟨?_, HB2.out⟩
      rw [HR2.out]; rfl
    · have HB2 := hide (keepD HB1.out hb2)
      have HR2 : Hid (R = failV (X ea)) := by show _ = _; rw [HR.out]; unfold unV; rw [HT.out, hn2]
      have hx : w2.cell? ⟨0, 0, none⟩ = some (X ea) := HE.out.below HB2.out
      clear hb2 hn2
      go_wp2_with fail
      go_quiet (fail)
      go_wp2_with fail
      refine bodyPost_ret (results_tmp3 rfl _ _ _) rfl ⟨?_, below_drewN HB2.out _⟩
      rw [HR2.out]; rfl
  · have HB1 := hide hb1
    have HR2 : Hid (R = failV (X ea)) := by show _ = _; rw [HR.out]; unfold unV; rw [hn]
    have hx : w1.cell? ⟨0, 0, none⟩ = some (X ea) := HE.out.below HB1.out
    clear hb1 hn
    go_wp2_with fail
    go_quiet (fail)
    go_wp2_with fail
    refine bodyPost_ret (results_tmp3 rfl _ _ _) rfl ⟨?_, below_drewN HB1.out _⟩
    rw [HR2.out]; rfl

end Go.Proofs.YtdkbjefphihplacDoor.fd

namespace Go.Proofs.YtdkbjefphihplacDoor.fd
open Go.ChangeShapes Go.WideShapes Go.ChangeAt Go.RowKit Go.Proofs.YtdkbjefphihplacDoor.common Go.Proofs.YtdkbjefphihplacDoor.bk
attribute [local go_sem ↓] Go.wp_at_zero Go.wp_at_succ

theorem coded_len (l : List UInt8) : (codedL l).length ≤ l.length := by
  unfold codedL
  rw [Rad.un64_len]
  have h1 := radw.lets0_len l
  have h2 := radw.trimN_le l l.length
  unfold Rad.n8
  omega
theorem before_len (c : UInt8) (l : List UInt8) : (before c l).length ≤ l.length := (List.takeWhile_prefix _).length_le
theorem behind_len (c : UInt8) (l : List UInt8) : (behind c l).length ≤ l.length := by
  unfold behind
  have := (List.dropWhile_suffix (l := l) fun x => decide (x ≠ c)).length_le
  rw [List.length_tail]; omega
theorem dropBl_len (l : List UInt8) : (l.dropWhile isBl).length ≤ l.length := (List.dropWhile_suffix _).length_le

set_option maxRecDepth 100000 in
set_option maxHeartbeats 3200000 in
theorem credentials_any (b : Nat) (s : ByteArray) (l : List UInt8) (w : World) (h : At w b s l) (hs : s.size ≤ reachBytes) (hb : b ≤ w.heap.size) (ea : Addr) (he : Ev 0 w (X ea)) (hge : 0 < b) (ht : radw.StdTab w) (hgt : 13 < b) :
    Calls Tryd.prog 17 #[ptr b] w fun e w' => (∃ ok : Bool, (ok = true ↔ radw.okStd (l.dropWhile isBl)) ∧ e = .returned (credV ok (X ea) l)) ∧ Below b w w' := by
  have hsz : s.size ≤ 4611686018427387904 := by unfold reachBytes at hs; omega
  have hll := h.len
  have H1 := hide (takeWhile_p b s l _ isBl w h hsz enters_blank (fun W c => isBlank_any c W))
  have HE := hide he
  have HT := hide ht
  have hdl := dropBl_len l
  have hcl := coded_len (l.dropWhile isBl)
  clear h he ht
  by_cases hbl : l.takeWhile isBl = []
  · have HV : Hid (∀ ok, credV ok (X ea) l = failV (X ea)) := by intro ok; unfold credV; rw [if_pos hbl]
    rw [hbl] at H1
    obtain ⟨ok, hok⟩ : ∃ ok : Bool, ok = true ↔ radw.okStd (l.dropWhile isBl) := by
      by_cases hh : radw.okStd (l.dropWhile isBl)
      · exact ⟨true, Iff.intro (fun _ => hh) (fun _ => rfl)⟩
      · exact ⟨false, Iff.intro (fun e => Bool.noConfusion e) (fun e => absurd e hh)⟩
    have HOK := hide hok
    clear hok
    go_enter Tryd.func17, Tryd.ntmps17
    go_wp2_with fail
    refine H1.out.mono ?_
    rintro x w1 ⟨rfl, ha, hm⟩
    have HM := hide hm
    have hx : w1.cell? ⟨0, 0, none⟩ = some (X ea) := (hm.below.cell (p := ⟨0, 0, none⟩) hge).trans HE.out
    clear ha hm
    go_wp2_with fail
    go_quiet (fail)
    go_wp2_with fail
    refine bodyPost_ret (results_tmp3 rfl _ _ _) rfl ⟨⟨ok, HOK.out, ?_⟩, below_drewN HM.out.below _⟩
    rw [HV.out]; rfl
  · obtain ⟨hn1, hn2⟩ := ne_nil_str hbl
    have hn3 : (l.takeWhile isBl == []) = false := beq_false_of_ne hbl
    have hn4 : (l.takeWhile isBl).isEmpty = false := by cases hh : l.takeWhile isBl with
      | nil => exact absurd hh hbl
      | cons _ _ => rfl
    have hn5 : ¬ l.takeWhile isBl = [] := hbl
    have HV : Hid (∀ ok, credV ok (X ea) l = if ok && (codedL (l.dropWhile isBl)).contains 58 then unV (X ea) (before 58 (codedL (l.dropWhile isBl))) (behind 58 (codedL (l.dropWhile isBl))) else failV (X ea)) := by intro ok; unfold credV; rw [if_neg hbl]
    clear hbl
    generalize l.takeWhile isBl = TW at *
    generalize l.dropWhile isBl = r at *
    go_enter Tryd.func17, Tryd.ntmps17
    go_wp2_with fail
    refine H1.out.mono ?_
    rintro x w1 ⟨rfl, ha, hm⟩
    have HM := hide hm
    have HA := hide ha
    have HE1 : Hid (Ev 0 w1 (X ea)) := (hm.below.cell (p := ⟨0, 0, none⟩) hge).trans HE.out
    have HT1 : Hid (radw.StdTab w1) := HT.out.below hm.below hgt
    have HS1 : Hid (b ≤ w1.heap.size) := Nat.le_trans hb (Nat.le_of_eq hm.size.symm)
    clear ha hm
    go_wp2_with fail
    refine (rest_any b s r w1 HA.out).mono ?_
    rintro x w2 ⟨rfl, q, rfl⟩
    go_wp2_with fail
    refine (radw.unstd_any ⟨r.toArray⟩ (w1.drewN q) (by rw [str_size]; omega) ea HE1.out HT1.out).mono ?_
    rintro x w3 ⟨hb3, ⟨hok, rfl⟩ | ⟨hok, rfl⟩⟩
    · have HB3 : Hid (Below b w w3) := (below_drewN HM.out.below q).trans (hb3.mono HS1.out)
      have HE3 : Hid (Ev 0 w3 (X ea)) := Ev.below (w := w1.drewN q) HE1.out hb3
      have HS3 : Hid (b ≤ w3.heap.size) := Nat.le_trans HS1.out hb3.size
      have HOK : Hid (radw.okStd r) := hok
      change Hid (∀ ok, credV ok (X ea) l = _) at HV
      have HC : Hid (Rad.un64 Rad.stdT (radw.lets0 r) = codedL r) := rfl
      clear hb3 hok
      rw [str_list, HC.out]
      have hbf := before_len 58 (codedL r)
      have hbh := behind_len 58 (codedL r)
      have HCUT := hide (cut_any ⟨(codedL r).toArray⟩ 58 w3 (by rw [str_size]; omega))
      rw [str_list] at HCUT
      cases hc : (codedL r).contains 58 with
      | false =>
        rw [hc] at HCUT
        have HR2 : Hid (credV true (X ea) l = failV (X ea)) := by show _ = _; rw [HV.out, hc]; rfl
        clear hc
        go_wp2_with fail
        refine HCUT.out.mono ?_
        rintro x w4 ⟨rfl, hb4⟩
        have hx : w4.cell? ⟨0, 0, none⟩ = some (X ea) := HE3.out.below hb4
        have HB4 : Hid (Below b w w4) := HB3.out.trans (hb4.mono HS3.out)
        clear hb4
        go_wp2_with fail
        go_quiet (fail)
        go_wp2_with fail
        refine bodyPost_ret (results_tmp3 rfl _ _ _) rfl ⟨⟨true, ⟨fun _ => HOK.out, fun _ => rfl⟩, ?_⟩, below_drewN HB4.out _⟩
        rw [HR2.out]; rfl
      | true =>
        rw [hc] at HCUT
        have HR2 : Hid (credV true (X ea) l = unV (X ea) (before 58 (codedL r)) (behind 58 (codedL r))) := by show _ = _; rw [HV.out, hc]; rfl
        clear hc
        go_wp2_with fail
        refine HCUT.out.mono ?_
        rintro x w4 ⟨rfl, hb4⟩
        have HE4 : Hid (Ev 0 w4 (X ea)) := HE3.out.below hb4
        have HB4 : Hid (Below b w w4) := HB3.out.trans (hb4.mono HS3.out)
        have HS4 : Hid (b ≤ w4.heap.size) := Nat.le_trans HS3.out hb4.size
        clear hb4
        have HUN := hide (unBoth_any ⟨(before 58 (codedL r)).toArray⟩ ⟨(behind 58 (codedL r)).toArray⟩ w4 (by rw [str_size]; omega) (by rw [str_size]; omega) ea HE4.out)
        rw [str_list, str_list] at HUN
        obtain ⟨R, hR⟩ : ∃ R, R = unV (X ea) (before 58 (codedL r)) (behind 58 (codedL r)) := ⟨_, rfl⟩
        rw [← hR] at HUN HR2
        have hsh : ∃ a1 a2 a3, R = .tuple #[a1, a2, a3] := by
          rw [hR]
          unfold unV
          split
          · exact ⟨_, _, _, rfl⟩
          · exact ⟨_, _, _, rfl⟩
        obtain ⟨a1, a2, a3, hRR⟩ := hsh
        rw [hRR] at HUN HR2
        clear hR hRR
        go_wp2_with fail
        refine HUN.out.mono ?_
        rintro x w5 ⟨rfl, hb5⟩
        have HB5 : Hid (Below b w w5) := HB4.out.trans (hb5.mono HS4.out)
        clear hb5
        go_wp2_with fail
        refine bodyPost_ret (results_tmp3 rfl _ _ _) rfl ⟨⟨true, ⟨fun _ => HOK.out, fun _ => rfl⟩, ?_⟩, HB5.out⟩
        rw [HR2.out]; rfl
    · have HB3 : Hid (Below b w w3) := (below_drewN HM.out.below q).trans (hb3.mono HS1.out)
      have hx : w3.cell? ⟨0, 0, none⟩ = some (X ea) := Ev.below (w := w1.drewN q) HE1.out hb3
      have HOK : Hid (¬ radw.okStd r) := hok
      have HR2 : Hid (credV false (X ea) l = failV (X ea)) := by show _ = _; rw [HV.out]; rfl
      clear hb3 hok
      go_wp2_with fail
      go_quiet (fail)
      go_wp2_with fail
      refine bodyPost_ret (results_tmp3 rfl _ _ _) rfl ⟨⟨false, Iff.intro (fun e => Bool.noConfusion e) (fun e => absurd e HOK.out), ?_⟩, below_drewN HB3.out _⟩
      rw [HR2.out]; rfl

end Go.Proofs.YtdkbjefphihplacDoor.fd

namespace Go.Proofs.YtdkbjefphihplacDoor.fd
open Go.ChangeShapes Go.WideShapes Go.ChangeAt Go.RowKit Go.Proofs.YtdkbjefphihplacDoor.common Go.Proofs.YtdkbjefphihplacDoor.bk
attribute [local go_sem ↓] Go.wp_at_zero Go.wp_at_succ

theorem ok_exists (p : Prop) : ∃ ok : Bool, ok = true ↔ p := by
  by_cases h : p
  · exact ⟨true, Iff.intro (fun _ => h) (fun _ => rfl)⟩
  · exact ⟨false, Iff.intro (fun e => Bool.noConfusion e) (fun e => absurd e h)⟩
theorem credV_three (ok : Bool) (x : Value) (l : List UInt8) : ∃ a1 a2 a3, credV ok x l = .tuple #[a1, a2, a3] := by
  unfold credV
  split
  · exact ⟨_, _, _, rfl⟩
  · split
    · unfold unV
      split
      · exact ⟨_, _, _, rfl⟩
      · exact ⟨_, _, _, rfl⟩
    · exact ⟨_, _, _, rfl⟩

set_option maxRecDepth 100000 in
set_option maxHeartbeats 3200000 in
theorem basic_any (s : ByteArray) (w : World) (hs : s.size ≤ reachBytes) (ea es : Addr) (he : Ev 0 w (X ea)) (hes : Ev 1 w (X es)) (ht : radw.StdTab w) :
    Calls Tryd.prog 6 #[.string s] w fun e w' => (∃ ok : Bool, (ok = true ↔ radw.okStd ((s.data.toList.dropWhile Fd.tok).dropWhile isBl)) ∧ e = .returned (basicV ok (X ea) (X es) s.data.toList)) ∧ Below w.heap.size w w' := by
  have hsz : s.size ≤ 4611686018427387904 := by unfold reachBytes at hs; omega
  have hge := he.lt
  have hgs := hes.lt
  have hgt : 13 < w.heap.size := ht.lt (by decide)
  obtain ⟨T, C, hT, hC⟩ := new_basic s
  have HT := hide hT
  have HC := hide hC
  have HE := hide he
  have HES := hide hes
  have HST := hide ht
  clear hT hC he hes ht
  have htl : (s.data.toList.takeWhile Fd.tok).length ≤ s.size := by have := (List.takeWhile_prefix (l := s.data.toList) Fd.tok).length_le; rwa [len_list] at this
  have HBV : Hid (∀ ok, basicV ok (X ea) (X es) s.data.toList = if s.data.toList.takeWhile Fd.tok = [] then failV (X ea) else if Fd.lows (s.data.toList.takeWhile Fd.tok) = Fd.lows nameL then credV ok (X ea) (s.data.toList.dropWhile Fd.tok) else failV (X es)) := fun _ => rfl
  go_enter Tryd.func6, Tryd.ntmps6
  go_wp2_with fail
  refine (HT.out.made w).mono ?_
  rintro x w1 ⟨rfl, hb1⟩
  have HB := hide (keepD hb1 (putBasic_below Tryd.zeroCells47 C w1))
  have HW1 : Hid (w.heap.size ≤ w1.heap.size) := hb1.size
  have HPS : Hid (w1.heap.size ≤ (putBasic Tryd.zeroCells47 C w1).heap.size) := (putBasic_below Tryd.zeroCells47 C w1).size
  clear hb1
  go_wp2_with (first
    | (refine wpList_build_two rfl 47 0 1 (.tmp 8) (.tmp 9) rfl _ _ rfl rfl C HC.out.built ?_)
    | (refine wpList_store_mid rfl 47 (.tmp 5) (.tmp 10) rfl w1.heap.size 0 C rfl rfl (HC.out.room w1) HC.out.size HC.out.one ?_))
  change Calls _ _ _ (putBasic Tryd.zeroCells47 C w1) _
  have HA := hide (HC.out.at w1)
  generalize hW2 : putBasic Tryd.zeroCells47 C w1 = W at *
  clear hW2 HC HT
  refine (scheme_any w1.heap.size s _ W HA.out hsz).mono ?_
  rintro x w2 ⟨rfl, ha2, hm2⟩
  have HA2 := hide ha2
  have HB2 : Hid (Below w.heap.size w w2) := HB.out.trans (hm2.below.mono HW1.out)
  have HS2 : Hid (w1.heap.size ≤ w2.heap.size) := Nat.le_trans HPS.out (Nat.le_of_eq hm2.size.symm)
  clear ha2 hm2
  by_cases htk : s.data.toList.takeWhile Fd.tok = []
  · have HV : Hid (∀ ok, basicV ok (X ea) (X es) s.data.toList = failV (X ea)) := by intro ok; rw [HBV.out, if_pos htk]
    rw [htk]
    obtain ⟨ok, hok⟩ := ok_exists (radw.okStd ((s.data.toList.dropWhile Fd.tok).dropWhile isBl))
    have HOK := hide hok
    clear hok htk
    have hx : w2.cell? ⟨0, 0, none⟩ = some (X ea) := HE.out.below HB2.out
    go_wp2_with fail
    go_quiet (fail)
    go_wp2_with fail
    refine bodyPost_ret (results_tmp3 rfl _ _ _) rfl ⟨⟨ok, HOK.out, ?_⟩, below_drewN HB2.out _⟩
    rw [HV.out]; rfl
  · obtain ⟨hn1, hn2⟩ := ne_nil_str htk
    have hn3 : (s.data.toList.takeWhile Fd.tok == []) = false := beq_false_of_ne htk
    have hn4 : (s.data.toList.takeWhile Fd.tok).isEmpty = false := by cases hh : s.data.toList.takeWhile Fd.tok with
      | nil => exact absurd hh htk
      | cons _ _ => rfl
    have hn5 : ¬ s.data.toList.takeWhile Fd.tok = [] := htk
    have HSN := hide (lnm.sameName_any ⟨(s.data.toList.takeWhile Fd.tok).toArray⟩ ⟨#[66, 97, 115, 105, 99]⟩ w2 (by rw [str_size]; omega))
    have HLD : Hid (decide (lnm.lowB ⟨(s.data.toList.takeWhile Fd.tok).toArray⟩ = lnm.lowB ⟨#[66, 97, 115, 105, 99]⟩) = decide (Fd.lows (s.data.toList.takeWhile Fd.tok) = Fd.lows nameL)) := rfl
    rw [HLD.out] at HSN
    by_cases hnm : Fd.lows (s.data.toList.takeWhile Fd.tok) = Fd.lows nameL
    · have HV : Hid (∀ ok, basicV ok (X ea) (X es) s.data.toList = credV ok (X ea) (s.data.toList.dropWhile Fd.tok)) := by intro ok; rw [HBV.out, if_neg htk, if_pos hnm]
      rw [decide_eq_true hnm] at HSN
      clear hnm htk
      generalize s.data.toList.takeWhile Fd.tok = TW at *
      obtain ⟨r, hr⟩ : ∃ r, s.data.toList.dropWhile Fd.tok = r := ⟨_, rfl⟩
      rw [hr] at HA2 HV
      have HRR := hide hr
      clear hr
      go_wp2_with fail
      refine HSN.out.mono ?_
      rintro x w3 ⟨rfl, hb3⟩
      have HB3 := hide (keepD HB2.out hb3)
      have HA3 : Hid (At w3 w1.heap.size s r) := by
        have h1 := HA2.out
        refine ⟨h1.1, (hb3.cell (p := ⟨w1.heap.size, 0, none⟩) (World.block_lt_of_cell? _ _ h1.2.c0)).trans h1.2.c0, (hb3.cell (p := ⟨w1.heap.size, 1, none⟩) (World.block_lt_of_cell? _ _ h1.2.c1)).trans h1.2.c1, ?_, h1.2.tab.below hb3⟩
        rw [hb3.frozen (p := ⟨w1.heap.size, 1, none⟩) (World.block_lt_of_cell? _ _ h1.2.c1)]; exact h1.2.f1
      have HS3 : Hid (w1.heap.size ≤ w3.heap.size) := Nat.le_trans HS2.out hb3.size
      clear hb3
      go_wp2_with fail
      refine (credentials_any w1.heap.size s r w3 HA3.out hs HS3.out ea (HE.out.below HB3.out) (Nat.lt_of_lt_of_le hge HW1.out) (HST.out.below HB3.out hgt) (Nat.lt_of_lt_of_le hgt HW1.out)).mono ?_
      rintro x w4 ⟨⟨ok, hok, rfl⟩, hb4⟩
      have HOK := hide hok
      have HB4 : Hid (Below w.heap.size w w4) := HB3.out.trans (hb4.mono HW1.out)
      clear hok hb4
      have hV := HV.out ok
      obtain ⟨a1, a2, a3, hc⟩ := credV_three ok (X ea) r
      rw [hc] at hV ⊢
      have HV2 := hide hV
      clear hV hc
      go_wp2_with fail
      refine bodyPost_ret (results_tmp3 rfl _ _ _) rfl ⟨⟨ok, by rw [HRR.out]; exact HOK.out, ?_⟩, HB4.out⟩
      rw [HV2.out]; rfl
    · have HV : Hid (∀ ok, basicV ok (X ea) (X es) s.data.toList = failV (X es)) := by intro ok; rw [HBV.out, if_neg htk, if_neg hnm]
      rw [decide_eq_false hnm] at HSN
      obtain ⟨ok, hok⟩ := ok_exists (radw.okStd ((s.data.toList.dropWhile Fd.tok).dropWhile isBl))
      have HOK := hide hok
      clear hnm htk hok
      generalize s.data.toList.takeWhile Fd.tok = TW at *
      go_wp2_with fail
      refine HSN.out.mono ?_
      rintro x w3 ⟨rfl, hb3⟩
      have HB3 := hide (keepD HB2.out hb3)
      have hx : w3.cell? ⟨1, 0, none⟩ = some (X es) := HES.out.below HB3.out
      clear hb3
      go_wp2_with fail
      go_quiet (fail)
      go_wp2_with fail
      refine bodyPost_ret (results_tmp3 rfl _ _ _) rfl ⟨⟨ok, HOK.out, ?_⟩, below_drewN HB3.out _⟩
      rw [HV.out]; rfl

end Go.Proofs.YtdkbjefphihplacDoor.fd
