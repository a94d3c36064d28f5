import Derived.Test.YtmdjppjfjkgnpaaGreatDoorAnsM
import Derived.Test.YtmdjppjfjkgnpaaGreatDoorFormWalks
import Derived.Test.YtmdjppjfjkgnpaaGreatDoorPairsWalk
namespace Go.Proofs.YtmdjppjfjkgnpaaGreatDoor.tm
open Go.ChangeShapes Go.WideShapes Go.ChangeAt Go.RowKit Go.Proofs.YtmdjppjfjkgnpaaGreatDoor.common Go.Proofs.YtmdjppjfjkgnpaaGreatDoor.bk
open Go.Proofs.YtmdjppjfjkgnpaaGreatDoor.fd (before behind)
open Go.Proofs.YtmdjppjfjkgnpaaGreatDoor.lst (PB Lies)
open Go.Proofs.YtmdjppjfjkgnpaaGreatDoor.pctw (X Txt Mny Tab pr tot)
attribute [local go_sem ↓] Go.wp_at_zero Go.wp_at_succ

theorem cellsSent : Tryz.prog.cellsOf 24 = 2 := by kernel_rfl

set_option maxRecDepth 100000 in
set_option maxHeartbeats 1600000 in
theorem joint_any (s : ByteArray) (w : World) (hs : s.size ≤ 4611686018427387904) :
    Calls Tryz.prog 10 #[.string s] w fun e w' => e = .returned (S (jntL s.data.toList)) ∧ Below w.heap.size w w' := by
  have HSp := hide (split_any s w hs)
  have HC := hide (jnt_cases s.data.toList)
  generalize jntL s.data.toList = j at *
  generalize s.data.toList.contains 63 = c at *
  generalize before 63 s.data.toList = b at *
  obtain ⟨q, hq⟩ : ∃ q : ByteArray, (⟨(behind 63 s.data.toList).toArray⟩ : ByteArray) = q := ⟨_, rfl⟩
  have hql : behind 63 s.data.toList = q.data.toList := by rw [← hq]
  rw [show S (behind 63 s.data.toList) = .string q from congrArg Value.string hq] at HSp
  rw [hql] at HC
  clear hq hql
  rcases HC.out with ⟨rfl, rfl⟩ | ⟨rfl, h, rfl⟩ | ⟨rfl, h, rfl⟩
  · go_enter Tryz.func10, Tryz.ntmps10
    go_wp2_with (go_at_call 18; refine HSp.out.mono ?_; rintro x w1 ⟨rfl, hb⟩; have B1 := hide hb; clear hb)
    go_ret
    exact ⟨rfl, B1.out⟩
  · obtain rfl := str_nil q h
    clear h HC
    go_enter Tryz.func10, Tryz.ntmps10
    go_wp2_with (go_at_call 18; refine HSp.out.mono ?_; rintro x w1 ⟨rfl, hb⟩; have B1 := hide hb; clear hb)
    go_ret
    exact ⟨rfl, B1.out⟩
  · obtain ⟨h1, h2, h3⟩ := word_ne (s := q) (fun e => h (by rw [e]))
    have h4 : (q.toList != []) = true := by rw [bne, h1]; rfl
    clear h HC
    go_enter Tryz.func10, Tryz.ntmps10
    go_wp2_with (go_at_call 18; refine HSp.out.mono ?_; rintro x w1 ⟨rfl, hb⟩; have B1 := hide hb; clear hb)
    go_ret
    exact ⟨rfl, B1.out⟩

/-- what Answer gives -/
def ansR (ea em : Addr) (l : List UInt8) (q : List PB) : List UInt8 × Value :=
  if redL l = false then ([], X ea) else if 32 < q.length then ([], X em) else if q = [] then (l, .nilIface) else (ansL l (Pct.form (q.map pr)), .nilIface)

/-- what the program's Answer needs to find -/
structure AEnv (w : World) (ea em : Addr) : Prop where
  nums : Nums w
  loc : Loc w
  tab : Tab w
  txt : Txt w ea
  mny : Mny w em
theorem AEnv.below {w w' : World} {ea em : Addr} (h : AEnv w ea em) (hb : Below w.heap.size w w') : AEnv w' ea em :=
  ⟨h.nums.below hb, h.loc.below hb, h.tab.below hb (Nat.le_refl _), h.txt.below hb, h.mny.below hb⟩

set_option maxRecDepth 100000 in
set_option maxHeartbeats 3200000 in
theorem answer_any (s : ByteArray) (v : Value) (q : List PB) (w : World) (ea em : Addr) (hl : Lies w v q) (he : AEnv w ea em) (hs : 4 * tot q ≤ 140737488355000) (hn : q.length ≤ 4611686018427387904) :
    Calls Tryz.prog 5 #[.string s, v] w fun e w' => e = .returned (.tuple #[S (ansR ea em s.data.toList q).1, (ansR ea em s.data.toList q).2]) ∧ Below w.heap.size w w' := by
  have HE := hide he
  have HL := hide hl
  have HR := hide (red_any s w he.nums he.loc)
  have HA : Hid (ansR ea em s.data.toList q = if redL s.data.toList = false then ([], X ea) else if 32 < q.length then ([], X em) else if q = [] then (s.data.toList, .nilIface) else (ansL s.data.toList (Pct.form (q.map pr)), .nilIface)) := rfl
  obtain ⟨ov, cv, rfl, _⟩ := hl
  have htx : w.cell? ⟨0, 0, none⟩ = some (X ea) := he.txt
  have hmx : w.cell? ⟨1, 0, none⟩ = some (X em) := he.mny
  clear he
  cases hr : redL s.data.toList with
  | false =>
    rw [hr, if_pos rfl] at HA
    rw [HA.out]
    rw [hr] at HR
    clear hr HA
    go_enter Tryz.func5, Tryz.ntmps5
    go_wp2_with fail
    refine HR.out.mono ?_
    rintro x w1 ⟨rfl, hb⟩
    have B1 := hide hb
    have htx1 : w1.cell? ⟨0, 0, none⟩ = some (X ea) := (HE.out.below hb).txt
    clear hb htx hmx
    go_wp2_with fail
    go_quiet (fail)
    go_wp2_with fail
    go_ret2
    exact ⟨rfl, keepD B1.out ⟨rfl, rfl, rfl, Nat.le_refl _, fun _ _ => rfl⟩⟩
  | true =>
    have h512 := red_len hr
    rw [len_list] at h512
    rw [hr, if_neg (by decide)] at HA
    rw [hr] at HR
    by_cases hm : 32 < q.length
    · rw [if_pos hm] at HA
      rw [HA.out]
      have hmi : (32 : Int) < (q.length : Int) := by omega
      clear hr HA
      go_enter Tryz.func5, Tryz.ntmps5
      go_wp2_with fail
      refine HR.out.mono ?_
      rintro x w1 ⟨rfl, hb⟩
      have B1 := hide hb
      have htx1 : w1.cell? ⟨1, 0, none⟩ = some (X em) := (HE.out.below hb).mny
      clear hb htx hmx
      go_wp2_with fail
      go_quiet (fail)
      go_wp2_with fail
      go_ret2
      exact ⟨rfl, keepD B1.out ⟨rfl, rfl, rfl, Nat.le_refl _, fun _ _ => rfl⟩⟩
    rw [if_neg hm] at HA
    have hmi : ¬ (32 : Int) < (q.length : Int) := by omega
    by_cases hz : q = []
    · subst hz
      rw [if_pos rfl] at HA
      rw [HA.out]
      clear hr HA
      have HX : Hid (S s.data.toList = .string s) := congrArg Value.string (str_of s)
      rw [HX.out]
      go_enter Tryz.func5, Tryz.ntmps5
      go_wp2_with fail
      refine HR.out.mono ?_
      rintro x w1 ⟨rfl, hb⟩
      have B1 := hide hb
      clear hb htx hmx
      go_wp2_with fail
      go_ret2
      exact ⟨rfl, B1.out⟩
    rw [if_neg hz] at HA
    rw [HA.out]
    have hp : 0 < q.length := List.length_pos_iff.2 hz
    have hpi : ¬ (q.length : Int) = 0 := by omega
    have hpb : ((q.length : Int) == 0) = false := beq_false_of_ne hpi
    have HJ := hide (fun W => joint_any s W (by omega))
    have HF : Hid (∀ W, Below w.heap.size w W → Calls Tryz.prog 11 #[.slice ov q.length cv] W fun e w' => e = .returned (S (Pct.form (q.map pr))) ∧ Below W.heap.size W w') := fun W hb => pctw.form_any _ q W (HL.out.below hb) (HE.out.tab.below hb (Nat.le_refl _)) (by omega) hn
    have fl := pctw.form_len q
    have jl : (jntL s.data.toList).length ≤ 1 := by
      rcases jnt_cases s.data.toList with ⟨_, h⟩ | ⟨_, _, h⟩ | ⟨_, _, h⟩ <;> rw [h] <;> decide
    obtain ⟨J, hJ⟩ : ∃ J : ByteArray, (⟨(jntL s.data.toList).toArray⟩ : ByteArray) = J := ⟨_, rfl⟩
    obtain ⟨F, hF⟩ : ∃ F : ByteArray, (⟨(Pct.form (q.map pr)).toArray⟩ : ByteArray) = F := ⟨_, rfl⟩
    have hJl : jntL s.data.toList = J.data.toList := by rw [← hJ]
    have hFl : Pct.form (q.map pr) = F.data.toList := by rw [← hF]
    have hJs : J.size ≤ 1 := by rw [← hJ, str_size]; exact jl
    have hFs : F.size ≤ 3 * tot q := by rw [← hF, str_size]; exact fl
    rw [show S (jntL s.data.toList) = .string J from congrArg Value.string hJ] at HJ
    rw [show S (Pct.form (q.map pr)) = .string F from congrArg Value.string hF] at HF
    obtain ⟨Y, hY⟩ : ∃ Y, s ++ J = Y := ⟨_, rfl⟩
    obtain ⟨Z, hZ⟩ : ∃ Z, Y ++ F = Z := ⟨_, rfl⟩
    have hYs : Y.size = s.size + J.size := by rw [← hY, ByteArray.size_append]
    have HZ : Hid (S (ansL s.data.toList (Pct.form (q.map pr))) = .string Z) := by
      show _ = _
      unfold ansL
      rw [hJl, hFl, ← hZ, ← hY]
      refine congrArg Value.string (ba_ext ?_)
      simp [ByteArray.data_append]
    have b1 : ¬ 9223372036854775807 < s.size + J.size := by omega
    have b2 : ¬ 9223372036854775807 < Y.size + F.size := by omega
    show Calls _ _ _ _ fun e w' => e = .returned (.tuple #[S (ansL s.data.toList (Pct.form (q.map pr))), .nilIface]) ∧ _
    rw [HZ.out]
    clear hr HA hz hm hJ hF hJl hFl fl jl hYs
    go_enter Tryz.func5, Tryz.ntmps5
    go_wp2_with fail
    refine HR.out.mono ?_
    rintro x w1 ⟨rfl, hb⟩
    have B1 := hide hb
    clear hb htx hmx
    go_wp2_with fail
    refine (HJ.out _).mono ?_
    rintro x w2 ⟨rfl, hb⟩
    have B2 := hide (keepD B1.out hb)
    clear hb
    go_wp2_with fail
    refine (HF.out _ B2.out).mono ?_
    rintro x w3 ⟨rfl, hb⟩
    have B3 := hide (keepD B2.out hb)
    clear hb
    go_wp2_with fail
    go_ret2
    exact ⟨rfl, B3.out⟩
end Go.Proofs.YtmdjppjfjkgnpaaGreatDoor.tm
