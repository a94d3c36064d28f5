import Derived.Test.YtdkbjefphihplabDoorBasicW
namespace Go.Proofs.YtdkbjefphihplabDoor.fd
open Go.ChangeShapes Go.WideShapes Go.ChangeAt Go.RowKit Go.Proofs.YtdkbjefphihplabDoor.common Go.Proofs.YtdkbjefphihplabDoor.bk
attribute [local go_sem ↓] Go.wp_at_zero Go.wp_at_succ

abbrev X (a : Addr) : Value := .iface 184 (.pointer (some a))
def failV (x : Value) : Value := .tuple #[.string ⟨#[]⟩, .string ⟨#[]⟩, x]
def unV (x : Value) (u p : List UInt8) : Value :=
  match Pct.unesc true u, Pct.unesc true p with
  | some a, some b => .tuple #[S a, S b, .nilIface]
  | _, _ => failV x
/-- what stands coded in a text -/
def codedL (l : List UInt8) : List UInt8 := Rad.un64 Rad.stdT (radw.lets0 l)
def credV (ok : Bool) (x : Value) (l : List UInt8) : Value :=
  if l.takeWhile isBl = [] then failV x else
    if ok && (codedL (l.dropWhile isBl)).contains 58 then unV x (before 58 (codedL (l.dropWhile isBl))) (behind 58 (codedL (l.dropWhile isBl))) else failV x
def nameL : List UInt8 := [66, 97, 115, 105, 99]
def basicV (ok : Bool) (xt xs : Value) (l : List UInt8) : Value :=
  if l.takeWhile Fd.tok = [] then failV xt else if Fd.lows (l.takeWhile Fd.tok) = Fd.lows nameL then credV ok xt (l.dropWhile Fd.tok) else failV xs

theorem below_drewN {b : Nat} {a c : World} (h : Below b a c) (n : Nat) : Below b a (c.drewN n) := ⟨h.1, h.2, h.3, h.4, h.5⟩
theorem ne_nil_str {l : List UInt8} (h : l ≠ []) : ((⟨l.toArray⟩ : ByteArray).toList == []) = false ∧ (⟨l.toArray⟩ : ByteArray).toList.isEmpty = false := by
  have e : (⟨l.toArray⟩ : ByteArray).toList = l := by rw [ByteArray.toList_eq]
  rw [e]
  exact ⟨beq_false_of_ne h, by cases l with | nil => exact absurd rfl h | cons _ _ => rfl⟩

set_option maxRecDepth 100000 in
set_option maxHeartbeats 1600000 in
theorem unBoth_any (u p : ByteArray) (w : World) (hu : u.size ≤ reachBytes) (hp : p.size ≤ reachBytes) (ea : Addr) (he : Ev 1 w (X ea)) :
    Calls Tryd.prog 88 #[.string u, .string p] w fun e w' => e = .returned (unV (X ea) u.data.toList p.data.toList) ∧ Below w.heap.size w w' := by
  obtain ⟨R, hR⟩ : ∃ R, R = unV (X ea) u.data.toList p.data.toList := ⟨_, rfl⟩
  rw [← hR]
  have HR := hide hR
  clear hR
  have HE := hide he
  have H1 := hide (pctw.unescape_any u true w hu ea he)
  have H2 : Hid (∀ W, Below w.heap.size w W → Calls Tryd.prog 116 #[.string p, .bool true] W fun x w' => Below W.heap.size W w' ∧
      ((∃ t, Pct.unesc true p.data.toList = some t ∧ x = .returned (.tuple #[S t, .nilIface])) ∨ (Pct.unesc true p.data.toList = none ∧ x = .returned (.tuple #[.string ⟨#[]⟩, X ea])))) := fun W hW => pctw.unescape_any p true W hp ea (HE.out.below hW)
  clear he
  go_enter Tryd.func88, Tryd.ntmps88
  go_wp2_with fail
  refine H1.out.mono ?_
  rintro x w1 ⟨hb1, ⟨t, ht, rfl⟩ | ⟨hn, rfl⟩⟩
  · have HB1 := hide hb1
    have HT := hide ht
    clear hb1 ht
    go_wp2_with fail
    refine (H2.out w1 HB1.out).mono ?_
    rintro x w2 ⟨hb2, ⟨t2, ht2, rfl⟩ | ⟨hn2, rfl⟩⟩
    · have HB2 := hide (keepD HB1.out hb2)
      have HR2 : Hid (R = .tuple #[S t, S t2, .nilIface]) := by show _ = _; rw [HR.out]; unfold unV; rw [HT.out, ht2]
      clear hb2 ht2
      go_wp2_with fail
      refine bodyPost_ret (results_tmp3 rfl _ _ _) rfl ⟨?_, HB2.out⟩
      rw [HR2.out]; rfl
    · have HB2 := hide (keepD HB1.out hb2)
      have HR2 : Hid (R = failV (X ea)) := by show _ = _; rw [HR.out]; unfold unV; rw [HT.out, hn2]
      have hx : w2.cell? ⟨1, 0, none⟩ = some (X ea) := HE.out.below HB2.out
      clear hb2 hn2
      go_wp2_with fail
      go_quiet (fail)
      go_wp2_with fail
      refine bodyPost_ret (results_tmp3 rfl _ _ _) rfl ⟨?_, below_drewN HB2.out _⟩
      rw [HR2.out]; rfl
  · have HB1 := hide hb1
    have HR2 : Hid (R = failV (X ea)) := by show _ = _; rw [HR.out]; unfold unV; rw [hn]
    have hx : w1.cell? ⟨1, 0, none⟩ = some (X ea) := HE.out.below HB1.out
    clear hb1 hn
    go_wp2_with fail
    go_quiet (fail)
    go_wp2_with fail
    refine bodyPost_ret (results_tmp3 rfl _ _ _) rfl ⟨?_, below_drewN HB1.out _⟩
    rw [HR2.out]; rfl

end Go.Proofs.YtdkbjefphihplabDoor.fd
