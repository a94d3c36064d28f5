import Derived.Test.YtmdjppjfjkgnpaaGreatDoorRefRed9
import Derived.Test.YtmdjppjfjkgnpaaGreatDoorAnsW
import Derived.Test.YtmdjppjfjkgnpaaGreatDoorRefForm
import Derived.Test.YtmdjppjfjkgnpaaGreatDoorErrWalks
namespace Go.Proofs.YtmdjppjfjkgnpaaGreatDoor.tm
open Go.ChangeShapes Go.WideShapes Go.ChangeAt Go.RowKit Go.Proofs.YtmdjppjfjkgnpaaGreatDoor.common Go.Proofs.YtmdjppjfjkgnpaaGreatDoor.bk
open Go.Proofs.YtmdjppjfjkgnpaaGreatDoor.fd (before behind)
open Go.Proofs.YtmdjppjfjkgnpaaGreatDoor.lst (PB Lies)
open Go.Proofs.YtmdjppjfjkgnpaaGreatDoor.pctw (X Txt Mny Tab pr tot)
attribute [local go_sem ↓] Go.wp_at_zero Go.wp_at_succ

/-- the text of the answer, and its number -/
def ansT (l : List UInt8) (q : List PB) : List UInt8 := if redL l = false then [] else if 32 < q.length then [] else if q = [] then l else ansL l (Pct.form (q.map pr))
def numA (l : List UInt8) (q : List PB) : Nat := if redL l = false then 2 else if 32 < q.length then 3 else 0
theorem ansR_is (ea em : Addr) (l : List UInt8) (q : List PB) : (ansR ea em l q).1 = ansT l q ∧ (ansR ea em l q).2 = if numA l q = 2 then X ea else if numA l q = 3 then X em else .nilIface := by
  unfold ansR ansT numA
  cases redL l with
  | false => exact ⟨rfl, rfl⟩
  | true =>
    by_cases h : 32 < q.length <;> by_cases hq : q = [] <;> simp [h, hq]
theorem numA_cases (l : List UInt8) (q : List PB) : numA l q = 2 ∨ numA l q = 3 ∨ numA l q = 0 := by
  unfold numA
  split
  · exact Or.inl rfl
  · split
    · exact Or.inr (Or.inl rfl)
    · exact Or.inr (Or.inr rfl)
theorem numT (w : World) (e : Nat → Addr) (h : errw.Errs w e) (n : Nat) (hn : n = 2 ∨ n = 3 ∨ n = 0) : Calls Tryz.prog 7 #[if n = 2 then X (e 1) else if n = 3 then X (e 2) else .nilIface] w fun x w' => x = .returned (.int .i64 (n : Int)) ∧ w' = w := by
  rcases hn with rfl | rfl | rfl
  · exact errw.num_1 w e h
  · exact errw.num_2 w e h
  · exact errw.num_nil w

set_option maxRecDepth 100000 in
set_option maxHeartbeats 3200000 in
theorem refAnswer_any (s : ByteArray) (v : Value) (q : List PB) (w : World) (hl : Lies w v q) (hss : s.size ≤ 4611686018427387000) (hs : 4 * tot q ≤ 140737488355000) (hn : q.length ≤ 4611686018427387904) :
    Calls Tryz.prog 6 #[.string s, v] w fun e w' => e = .returned (.tuple #[S (ansT s.data.toList q), .int .i64 (numA s.data.toList q : Int)]) ∧ Below w.heap.size w w' := by
  have HL := hide hl
  have HR := hide (refRed_any s w (by omega))
  rw [ref_red] at HR
  have HA : Hid (ansT s.data.toList q = if redL s.data.toList = false then [] else if 32 < q.length then [] else if q = [] then s.data.toList else ansL s.data.toList (Pct.form (q.map pr))) := rfl
  have HN : Hid (numA s.data.toList q = if redL s.data.toList = false then 2 else if 32 < q.length then 3 else 0) := rfl
  obtain ⟨ov, cv, rfl, _⟩ := hl
  cases hr : redL s.data.toList with
  | false =>
    rw [hr, if_pos rfl] at HA HN
    rw [HA.out, HN.out]
    rw [hr] at HR
    clear hr HA HN
    go_enter Tryz.func6, Tryz.ntmps6
    go_wp2_with fail
    refine HR.out.mono ?_
    rintro x w1 ⟨rfl, hb⟩
    have B1 := hide hb
    clear hb
    go_wp2_with fail
    go_ret2
    exact ⟨rfl, B1.out⟩
  | true =>
    have h512 := red_len hr
    rw [len_list] at h512
    rw [hr, if_neg (by decide)] at HA HN
    rw [hr] at HR
    by_cases hm : 32 < q.length
    · rw [if_pos hm] at HA HN
      rw [HA.out, HN.out]
      have hmi : (32 : Int) < (q.length : Int) := by omega
      clear hr HA HN
      go_enter Tryz.func6, Tryz.ntmps6
      go_wp2_with fail
      refine HR.out.mono ?_
      rintro x w1 ⟨rfl, hb⟩
      have B1 := hide hb
      clear hb
      go_wp2_with fail
      go_ret2
      exact ⟨rfl, B1.out⟩
    rw [if_neg hm] at HA HN
    have hmi : ¬ (32 : Int) < (q.length : Int) := by omega
    by_cases hz : q = []
    · subst hz
      rw [if_pos rfl] at HA
      rw [HA.out, HN.out]
      clear hr HA HN
      have HX : Hid (S s.data.toList = .string s) := congrArg Value.string (str_of s)
      rw [HX.out]
      go_enter Tryz.func6, Tryz.ntmps6
      go_wp2_with fail
      refine HR.out.mono ?_
      rintro x w1 ⟨rfl, hb⟩
      have B1 := hide hb
      clear hb
      go_wp2_with fail
      go_ret2
      exact ⟨rfl, B1.out⟩
    rw [if_neg hz] at HA
    rw [HA.out, HN.out]
    have hp : 0 < q.length := List.length_pos_iff.2 hz
    have hpi : ¬ (q.length : Int) = 0 := by omega
    have hpb : ((q.length : Int) == 0) = false := beq_false_of_ne hpi
    have HSp := hide (fun W => refSplit_any s W (by omega))
    have HC := hide (jnt_cases s.data.toList)
    have HF : Hid (∀ W, Below w.heap.size w W → Calls Tryz.prog 14 #[.slice ov q.length cv] W fun e w' => e = .returned (S (Pct.form (q.map pr))) ∧ Below W.heap.size W w') := fun W hb => pctw.refForm_any _ q W (HL.out.below hb) (by omega) hn
    have fl := pctw.form_len q
    obtain ⟨F, hF⟩ : ∃ F : ByteArray, (⟨(Pct.form (q.map pr)).toArray⟩ : ByteArray) = F := ⟨_, rfl⟩
    have hFl : Pct.form (q.map pr) = F.data.toList := by rw [← hF]
    have hFs : F.size ≤ 3 * tot q := by rw [← hF, str_size]; exact fl
    rw [show S (Pct.form (q.map pr)) = .string F from congrArg Value.string hF] at HF
    obtain ⟨b, hb⟩ : ∃ b : ByteArray, (⟨(before 63 s.data.toList).toArray⟩ : ByteArray) = b := ⟨_, rfl⟩
    obtain ⟨qy, hq⟩ : ∃ q : ByteArray, (⟨(behind 63 s.data.toList).toArray⟩ : ByteArray) = q := ⟨_, rfl⟩
    have hql : behind 63 s.data.toList = qy.data.toList := by rw [← hq]
    rw [show S (before 63 s.data.toList) = .string b from congrArg Value.string hb, show S (behind 63 s.data.toList) = .string qy from congrArg Value.string hq] at HSp
    rw [hql] at HC
    have key : ∀ J : ByteArray, jntL s.data.toList = J.data.toList → J.size ≤ 1 → ∀ Y Z, s ++ J = Y → Y ++ F = Z → S (ansL s.data.toList (Pct.form (q.map pr))) = .string Z ∧ (¬ 9223372036854775807 < s.size + J.size) ∧ ¬ 9223372036854775807 < Y.size + F.size := by
      intro J hJ hJs Y Z hY hZ
      refine ⟨?_, by omega, ?_⟩
      · unfold ansL
        rw [hJ, hFl, ← hZ, ← hY]
        refine congrArg Value.string (ba_ext ?_)
        simp [ByteArray.data_append]
      · rw [← hY, ByteArray.size_append]; omega
    have HKey := hide key
    clear hr HA HN hz hm hF hFl fl hb hq hql key
    generalize s.data.toList.contains 63 = c at *
    rcases HC.out with ⟨rfl, hj⟩ | ⟨rfl, h, hj⟩ | ⟨rfl, h, hj⟩
    · obtain ⟨Y, hY⟩ : ∃ Y, s ++ (⟨#[63]⟩ : ByteArray) = Y := ⟨_, rfl⟩
      obtain ⟨Z, hZ⟩ : ∃ Z, Y ++ F = Z := ⟨_, rfl⟩
      obtain ⟨k1, k2, k3⟩ := HKey.out ⟨#[63]⟩ hj (by decide) Y Z hY hZ
      rw [k1]
      have k2' : ¬ 9223372036854775807 < s.size + 1 := k2
      clear k1 hj HC HKey
      go_enter Tryz.func6, Tryz.ntmps6
      go_wp2_with fail
      refine HR.out.mono ?_
      rintro x w1 ⟨rfl, hb⟩
      have B1 := hide hb
      clear hb
      go_wp2_with fail
      refine (HSp.out _).mono ?_
      rintro x w2 ⟨rfl, hb⟩
      have B2 := hide (keepD B1.out hb)
      clear hb
      go_wp2_with fail
      refine (HF.out _ B2.out).mono ?_
      rintro x w3 ⟨rfl, hb⟩
      have B3 := hide (keepD B2.out hb)
      clear hb
      go_wp2_with fail
      go_ret2
      exact ⟨rfl, B3.out⟩
    · obtain ⟨Y, hY⟩ : ∃ Y, s ++ (⟨#[]⟩ : ByteArray) = Y := ⟨_, rfl⟩
      obtain ⟨Z, hZ⟩ : ∃ Z, Y ++ F = Z := ⟨_, rfl⟩
      obtain ⟨k1, k2, k3⟩ := HKey.out ⟨#[]⟩ hj (by decide) Y Z hY hZ
      rw [k1]
      have k2' : ¬ 9223372036854775807 < s.size + 0 := k2
      obtain rfl := str_nil qy h
      clear k1 hj HC HKey h
      go_enter Tryz.func6, Tryz.ntmps6
      go_wp2_with fail
      refine HR.out.mono ?_
      rintro x w1 ⟨rfl, hb⟩
      have B1 := hide hb
      clear hb
      go_wp2_with fail
      refine (HSp.out _).mono ?_
      rintro x w2 ⟨rfl, hb⟩
      have B2 := hide (keepD B1.out hb)
      clear hb
      go_wp2_with fail
      refine (HF.out _ B2.out).mono ?_
      rintro x w3 ⟨rfl, hb⟩
      have B3 := hide (keepD B2.out hb)
      clear hb
      go_wp2_with fail
      go_ret2
      exact ⟨rfl, B3.out⟩
    · obtain ⟨Y, hY⟩ : ∃ Y, s ++ (⟨#[38]⟩ : ByteArray) = Y := ⟨_, rfl⟩
      obtain ⟨Z, hZ⟩ : ∃ Z, Y ++ F = Z := ⟨_, rfl⟩
      obtain ⟨k1, k2, k3⟩ := HKey.out ⟨#[38]⟩ hj (by decide) Y Z hY hZ
      rw [k1]
      have k2' : ¬ 9223372036854775807 < s.size + 1 := k2
      obtain ⟨h1, h2, h3⟩ := word_ne (s := qy) (fun e => h (by rw [e]))
      clear k1 hj HC HKey h
      go_enter Tryz.func6, Tryz.ntmps6
      go_wp2_with fail
      refine HR.out.mono ?_
      rintro x w1 ⟨rfl, hb⟩
      have B1 := hide hb
      clear hb
      go_wp2_with fail
      refine (HSp.out _).mono ?_
      rintro x w2 ⟨rfl, hb⟩
      have B2 := hide (keepD B1.out hb)
      clear hb
      go_wp2_with fail
      refine (HF.out _ B2.out).mono ?_
      rintro x w3 ⟨rfl, hb⟩
      have B3 := hide (keepD B2.out hb)
      clear hb
      go_wp2_with fail
      go_ret2
      exact ⟨rfl, B3.out⟩
end Go.Proofs.YtmdjppjfjkgnpaaGreatDoor.tm
