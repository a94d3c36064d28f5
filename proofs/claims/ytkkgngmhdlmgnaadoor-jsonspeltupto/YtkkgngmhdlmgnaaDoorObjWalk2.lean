import Derived.Test.YtkkgngmhdlmgnaaDoorObjWalk
import Derived.Lib.ItoaLen
namespace Go.Proofs.YtkkgngmhdlmgnaaDoor.jw
open Go.ChangeShapes Go.WideShapes Go.ChangeAt Go.RowKit Go.Proofs.YtkkgngmhdlmgnaaDoor.common
attribute [local go_sem ↓] Go.wp_at_zero Go.wp_at_succ

/-- the powers of ten lie in the library's table, whatever is made from b on -/
abbrev Pow (b : Nat) (w : World) : Prop := Lib.TabBelow Tryd.prog b w "internal/strconv.uint64pow10" .u64 Lib.pow10Tab

theorem appendInt_any (b : Nat) (v : Value) (l : List UInt8) (i : Int) (w : World) (hi : Json.inRange i) (hown : w.ownsRow b 5 1 v l.length (l.map B)) (hlen : l.length + 21 ≤ 140737488355328) (hb : b ≤ w.heap.size) (hp : Pow b w) :
    Calls Tryd.prog 58 #[v, .int .i64 i, .int .i64 10] w fun e w' => ∃ v', e = .returned v' ∧ w'.ownsRow b 5 1 v' (l ++ Lib.itoa i).length ((l ++ Lib.itoa i).map B) ∧ Fr b w w' := by
  refine (Any.strconv_AppendInt_10 jl.lays176 b l.length i hi.1 hi.2 v (l.map B) w hown hb hlen hp).mono ?_
  rintro e w' ⟨v', rfl, ho, hbl, hk⟩
  refine ⟨v', rfl, ?_, ⟨hbl, hk⟩⟩
  rw [List.map_append, List.length_append, map_B (Lib.itoa i)]; exact ho

set_option maxRecDepth 100000 in
set_option maxHeartbeats 1600000 in
theorem appendBool_any (b : Nat) (v : Value) (l : List UInt8) (x : Bool) (w : World) (hown : w.ownsRow b 5 1 v l.length (l.map B)) (hlen : l.length + 21 ≤ 140737488355328) (hb : b ≤ w.heap.size) :
    Calls Tryd.prog 59 #[v, .bool x] w fun e w' => ∃ v', e = .returned v' ∧ w'.ownsRow b 5 1 v' (l ++ (if x then [116, 114, 117, 101] else [102, 97, 108, 115, 101])).length ((l ++ (if x then [116, 114, 117, 101] else [102, 97, 108, 115, 101])).map B) ∧ Fr b w w' := by
  obtain ⟨i0, hi, hz0, hz1, hz2⟩ := info_parts info8
  have HO := hide hown
  clear hown
  obtain ⟨E, hE⟩ : ∃ E : List UInt8, (if x then [116, 114, 117, 101] else [102, 97, 108, 115, 101]) = E := ⟨_, rfl⟩
  cases x with
  | true =>
    have HEq : Hid (E = [116, 114, 117, 101]) := hE.symm
    rw [hE]
    clear hE
    go_enter Tryd.func59, Tryd.ntmps59
    go_wp2_with (first | (at_builtin; refine Lib.wpList_append_own_string _ rfl _ _ 60 9 rfl b 5 i0 Tryd.underlying60 Tryd.underlying9 hi hz0 hz1 hz2 _ _ _ rfl HO.out ⟨#[116, 114, 117, 101]⟩ rfl ?c1 ?c2 ?c3 ?_) | go_in)
    case c1 => unfold maxLen; show l.length + 4 ≤ _; omega
    case c2 => show l.length + 4 ≤ _; omega
    case c3 => exact hb
    intro v' w1 hown' hgrow _
    have H1 : Hid (w1.ownsRow b 5 1 v' (l ++ E).length ((l ++ E).map B)) := by
      show w1.ownsRow _ _ _ _ _ _
      rw [HEq.out, List.length_append, List.map_append]; exact hown'
    have H2 : Hid (Fr b w w1) := (Fr.refl b w).grown HO.out hgrow hb
    clear hown' hgrow
    go_wp2
    go_ret
    exact ⟨_, rfl, H1.out, H2.out⟩
  | false =>
    have HEq : Hid (E = [102, 97, 108, 115, 101]) := hE.symm
    rw [hE]
    clear hE
    go_enter Tryd.func59, Tryd.ntmps59
    go_wp2_with (first | (at_builtin; refine Lib.wpList_append_own_string _ rfl _ _ 60 9 rfl b 5 i0 Tryd.underlying60 Tryd.underlying9 hi hz0 hz1 hz2 _ _ _ rfl HO.out ⟨#[102, 97, 108, 115, 101]⟩ rfl ?c1 ?c2 ?c3 ?_) | go_in)
    case c1 => unfold maxLen; show l.length + 5 ≤ _; omega
    case c2 => show l.length + 5 ≤ _; omega
    case c3 => exact hb
    intro v' w1 hown' hgrow _
    have H1 : Hid (w1.ownsRow b 5 1 v' (l ++ E).length ((l ++ E).map B)) := by
      show w1.ownsRow _ _ _ _ _ _
      rw [HEq.out, List.length_append, List.map_append]; exact hown'
    have H2 : Hid (Fr b w w1) := (Fr.refl b w).grown HO.out hgrow hb
    clear hown' hgrow
    go_wp2
    go_ret
    exact ⟨_, rfl, H1.out, H2.out⟩

theorem valueOf_len (m : Mem) (hn : Json.inRange m.num) : (Json.valueOf m).length ≤ 6 * m.text.length + 25 := by
  have h1 := (inner_len m.text).2
  have h2 := Lib.itoa_length_le m.num hn.1 hn.2
  unfold Json.valueOf Json.quote
  split
  · simp only [List.length_cons, List.length_append, List.length_nil]; omega
  · split
    · omega
    · split <;> simp

abbrev G5 (b : Nat) : Prop := 17 < b

set_option maxRecDepth 100000 in
set_option maxHeartbeats 3200000 in
theorem appendValue_any (b : Nat) (v : Value) (l : List UInt8) (m : Mem) (w : World) (hS : Short w) (hG : G5 b) (hv : m.kind = 1 → Lib.validD m.text = true) (hk : m.kind = 1 ∨ m.kind = 2 ∨ m.kind = 3) (hn : Json.inRange m.num)
    (hown : w.ownsRow b 5 1 v l.length (l.map B)) (hlen : l.length + 6 * m.text.length + 30 ≤ 140737488355328) (hb : b ≤ w.heap.size) (hp : Pow b w) :
    Calls Tryd.prog 45 #[v, .agg #[S m.name, .int .i64 m.kind, S m.text, .int .i64 m.num, .bool m.flag]] w fun e w' => ∃ v', e = .returned v' ∧ w'.ownsRow b 5 1 v' (l ++ Json.valueOf m).length ((l ++ Json.valueOf m).map B) ∧ Fr b w w' := by
  have HS := hide hS
  have HG := hide hG
  have HO := hide hown
  have HV := hide hv
  have HN := hide hn
  have HP := hide hp
  clear hS hG hown hv hn hp
  have hM := mem_new w m 37
  have f1 := hM.c1
  have f2 := hM.c2
  have f3 := hM.c3
  have f4 := hM.c4
  have HF0 := hide ((Fr.refl b w).alloc hb (.cells #[S m.name, .int .i64 m.kind, S m.text, .int .i64 m.num, .bool m.flag] 37))
  have HO0 := hide (HO.out.alloc (.cells #[S m.name, .int .i64 m.kind, S m.text, .int .i64 m.num, .bool m.flag] 37))
  clear hM
  obtain ⟨E, hE⟩ : ∃ E : List UInt8, Json.valueOf m = E := ⟨_, rfl⟩
  rw [hE]
  rcases hk with q | q | q
  · have HEq : Hid (E = Json.quote m.text) := by show _ = _; rw [← hE, Json.valueOf, if_pos q]
    clear hE
    have q1 : (m.kind == 1) = true := by rw [q]; rfl
    have HQ := hide q
    clear q
    go_enter Tryd.func45, Tryd.ntmps45
    go_wp2_with fail
    generalize w.alloc (.cells #[S m.name, .int .i64 m.kind, S m.text, .int .i64 m.num, .bool m.flag] 37) = W0 at *
    refine (appendQuoted_any b v l ⟨m.text.toArray⟩ W0 (HS.out.under HF0.out.below HG.out) HG.out (HV.out HQ.out) HO0.out (by rw [str_size]; omega) (Nat.le_trans hb HF0.out.size)).mono ?_
    rintro e w2 ⟨v', rfl, ho, hf⟩
    have H1 := hide ho
    have H2 := hide (HF0.out.trans hf)
    clear ho hf
    go_wp2
    go_ret
    exact ⟨_, rfl, by rw [HEq.out]; exact H1.out, H2.out⟩
  · have HEq : Hid (E = Lib.itoa m.num) := by show _ = _; rw [← hE, Json.valueOf, if_neg (by omega), if_pos q]
    clear hE
    have q1 : (m.kind == 1) = false := by rw [q]; rfl
    have q2 : (m.kind == 2) = true := by rw [q]; rfl
    clear q
    go_enter Tryd.func45, Tryd.ntmps45
    go_wp2_with fail
    generalize w.alloc (.cells #[S m.name, .int .i64 m.kind, S m.text, .int .i64 m.num, .bool m.flag] 37) = W0 at *
    refine (appendInt_any b v l m.num W0 HN.out HO0.out (by omega) (Nat.le_trans hb HF0.out.size) (HP.out.on HF0.out.below)).mono ?_
    rintro e w2 ⟨v', rfl, ho, hf⟩
    have H1 := hide ho
    have H2 := hide (HF0.out.trans hf)
    clear ho hf
    go_wp2
    go_ret
    exact ⟨_, rfl, by rw [HEq.out]; exact H1.out, H2.out⟩
  · have HEq : Hid (E = (if m.flag then [116, 114, 117, 101] else [102, 97, 108, 115, 101])) := by show _ = _; rw [← hE, Json.valueOf, if_neg (by omega), if_neg (by omega)]
    clear hE
    have q1 : (m.kind == 1) = false := by rw [q]; rfl
    have q2 : (m.kind == 2) = false := by rw [q]; rfl
    clear q
    go_enter Tryd.func45, Tryd.ntmps45
    go_wp2_with fail
    generalize w.alloc (.cells #[S m.name, .int .i64 m.kind, S m.text, .int .i64 m.num, .bool m.flag] 37) = W0 at *
    refine (appendBool_any b v l m.flag W0 HO0.out (by omega) (Nat.le_trans hb HF0.out.size)).mono ?_
    rintro e w2 ⟨v', rfl, ho, hf⟩
    have H1 := hide ho
    have H2 := hide (HF0.out.trans hf)
    clear ho hf
    go_wp2
    go_ret
    exact ⟨_, rfl, by rw [HEq.out]; exact H1.out, H2.out⟩
end Go.Proofs.YtkkgngmhdlmgnaaDoor.jw
