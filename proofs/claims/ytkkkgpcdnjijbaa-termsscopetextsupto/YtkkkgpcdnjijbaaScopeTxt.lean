import Derived.Test.YtkkkgpcdnjijbaaStrTurn
import Derived.Test.YtkkkgpcdnjijbaaStrOpen
import Derived.Test.YtkkkgpcdnjijbaaTermLays
import Derived.Shelf.Strings.OnBuilder
import Derived.Lib.AppendStr
namespace Go.Proofs.Ytkkkgpcdnjijbaa.ss
open Go.ChangeShapes Go.WideShapes Go.ChangeAt Go.RowKit Go.Proofs.Ytkkkgpcdnjijbaa.common Go.Proofs.Ytkkkgpcdnjijbaa.bk
attribute [local go_sem ↓] Go.wp_at_zero Go.wp_at_succ

/-- texts with a blank between each two -/
def joinS (l : List ByteArray) : List UInt8 := Lib.join (l.map (·.data.toList)) [32]
theorem join_snoc (x : List UInt8) (r : List (List UInt8)) (y : List UInt8) : Lib.join ((x :: r) ++ [y]) [32] = Lib.join (x :: r) [32] ++ [32] ++ y := by
  rw [List.cons_append, Lib.join_cons, Lib.join_cons]
  unfold Lib.joinTail
  simp [List.append_assoc]
theorem joinS_snoc (l : List ByteArray) (k : Nat) (h : k < l.length) (h0 : 0 < k) : joinS (l.take (k + 1)) = joinS (l.take k) ++ [32] ++ l[k].data.toList := by
  rw [takeS l k h]
  unfold joinS
  rw [List.map_append]
  cases e : l.take k with
  | nil => have := congrArg List.length e; rw [List.length_take, Nat.min_eq_left (by omega), List.length_nil] at this; omega
  | cons x r => rw [List.map_cons]; exact join_snoc _ _ _
theorem joinS_first (l : List ByteArray) (h : 0 < l.length) : joinS (l.take 1) = l[0].data.toList := by
  rw [show 1 = 0 + 1 from rfl, takeS l 0 h]
  unfold joinS
  simp [Lib.join_one]
theorem tot_app (l m : List ByteArray) : tot (l ++ m) = tot l + tot m := by simp [tot]
theorem joinS_len (l : List ByteArray) : (joinS l).length ≤ tot l := by
  unfold joinS
  cases l with
  | nil => simp [Lib.join_nil]
  | cons x r =>
    rw [List.map_cons, Lib.join_cons]
    unfold Lib.joinTail tot
    rw [List.length_append, len_list, List.map_cons, List.sum_cons]
    have : ∀ m : List ByteArray, (((m.map (·.data.toList)).map ([32] ++ ·)).flatten).length ≤ (m.map fun x => x.size + 1).sum := by
      intro m
      induction m with
      | nil => simp
      | cons y s ih =>
        simp only [List.map_cons, List.flatten_cons, List.length_append, List.sum_cons, List.length_cons, List.length_nil, len_list]
        omega
    have := this r
    omega
theorem tot_take (l : List ByteArray) (k : Nat) (h : k < l.length) : tot (l.take k) + l[k].size + 1 ≤ tot l := by
  have e : tot l = tot (l.take (k + 1)) + tot (l.drop (k + 1)) := by rw [← tot_app, List.take_append_drop]
  rw [e, takeS l k h, tot_app]
  simp [tot]; omega
theorem tot_turn (l : List ByteArray) : tot (turnL l) ≤ tot l + 1 := by
  have e : tot l.reverse = tot l := by simp [tot, List.sum_reverse]
  unfold turnL
  rw [← e]
  cases l.reverse with
  | nil => exact Nat.zero_le _
  | cons x r => simp [headZ, zed, tot, ByteArray.size_append]; show _ + 1 + 1 + _ ≤ _; omega
theorem tot_mem {l : List ByteArray} {x : ByteArray} (h : x ∈ l) : x.size + 1 ≤ tot l := by
  induction l with
  | nil => cases h
  | cons y r ih =>
    have e : tot (y :: r) = y.size + 1 + tot r := by simp [tot]
    rw [e]
    rcases List.mem_cons.1 h with rfl | h
    · omega
    · have := ih h; omega

theorem extra156 : Builder.Extra Try.prog jl.lays156_ren where
  sizeBuilder := by kernel_rfl
  liesBuilder := by kernel_rfl
  t5 := Try.underlying5
  a5 := Try.isAgg5
  z5 := Try.sizeOf5
  v5 := Try.zeroValue5
  infoByte := by kernel_rfl
  cellsByte := by kernel_rfl
  sizeByte := by kernel_rfl
  neB5 := by decide

theorem join_row (g cap : Nat) (l r : List ByteArray) (w : World) (hr : Row w g (l ++ r)) (hg : g < w.heap.size) (hc : l.length ≤ cap) (ht : tot l ≤ 140737488355328) :
    Calls Try.prog 32 #[.slice (some ⟨g, 0, none⟩) l.length cap, .string ⟨#[32]⟩] w fun e w' => e = .returned (S (joinS l)) ∧ Below w.heap.size w w' := by
  have hn := len_tot l
  refine Any.strings_Join jl.lays156 extra156 g 0 cap l ⟨#[32]⟩ w ?_ hg (by omega) hc (Nat.le_trans (joinS_len l) ht)
  intro j x hx
  obtain ⟨hj, rfl⟩ := List.getElem?_eq_some_iff.1 hx
  rw [Nat.zero_add, hr.cell j (by rw [List.length_append]; omega), List.getElem_append_left hj]

set_option maxRecDepth 100000 in
theorem scopeText_any (g cap n : Nat) (l r : List ByteArray) (w : World) (hn : l.length = n) (hr : Row w g (l ++ r)) (hg : g < w.heap.size) (hc : l.length ≤ cap) (ht : tot l ≤ 140737488355328) :
    Calls Try.prog 22 #[.slice (some ⟨g, 0, none⟩) n cap] w fun e w' => e = .returned (S (joinS l)) ∧ Below w.heap.size w w' := by
  subst hn
  have HJ := hide (join_row g cap l r w hr hg hc ht)
  clear hr
  go_enter Try.func22, Try.ntmps22
  go_wp2_with fail
  refine HJ.out.mono ?_
  rintro e w' ⟨rfl, hb⟩
  have HB := hide hb
  clear hb
  go_wp2_with fail
  go_ret
  exact ⟨rfl, HB.out⟩

/-- a text behind bytes of one's own -/
theorem app_str (w : World) {ops : Array Oper} {rest : List Oper} {o : Oper} {a : Act} {Q : Exit → Act → World → Prop} (hgd : o.guard = none) (s x : Operand)
    (ho : o.op = .call { callee := .builtin .append, args := #[s, x], argTypes := #[43, 9] }) (base : Nat) (v : Value) (l : List UInt8) (hs : a.eval s = v) (hown : w.ownsRow base 5 1 v l.length (l.map B)) (Z : ByteArray) (hx : a.eval x = .string Z) (hb : l.length + Z.size ≤ 140737488355328) (hbase : base ≤ w.heap.size)
    (h : ∀ v' w' (l' : List UInt8), Hid (l' = l ++ Z.data.toList) → w'.ownsRow base 5 1 v' l'.length (l'.map B) → (∀ a0 : World, Below base a0 w → Below base a0 w') → wpList Try.prog ops Q rest (a.put o.dst v') w') : wpList Try.prog ops Q (o :: rest) a w := by
  obtain ⟨i0, hi, hz0, hz1, hz2⟩ := info_parts info8
  refine Lib.wpList_append_own_string _ hgd _ _ 43 9 ho base 5 i0 Try.underlying43 Try.underlying9 hi hz0 hz1 hz2 _ _ _ hs hown Z hx ?c3 hb hbase ?_
  case c3 => unfold maxLen; omega
  intro v' w2 hown' hgrow _
  refine h v' w2 (l ++ Z.data.toList) rfl ?_ (fun a0 h0 => h0.grown hgrow hbase (own_ge hown))
  rw [List.length_append, List.map_append, len_list]
  exact hown'
theorem own_form {w : World} {base : Nat} {e : TypeId} {size : Nat} {v : Value} {n : Nat} {xs : List Value} (h : w.ownsRow base e size v n xs) : ∃ oa n' cap, v = .slice oa n' cap := by
  rcases h.2 with ⟨h, h0⟩ | ⟨g, cap, cur, h, _⟩
  · exact ⟨none, 0, 0, h⟩
  · exact ⟨_, _, cap, h⟩

set_option maxRecDepth 100000 in
set_option maxHeartbeats 3200000 in
theorem refText_any (v : Value) (l : List ByteArray) (w : World) (hl : Lies w v l) (ht : tot l ≤ 140737488355) :
    Calls Try.prog 23 #[v] w fun e w' => e = .returned (S (joinS l)) ∧ Below w.heap.size w w' := by
  obtain ⟨i0, hi, hz0, hz1, hz2⟩ := info_parts info8
  obtain ⟨oa, cap, rfl, hc⟩ := hl
  have HC := hide hc
  clear hc
  have hn := len_tot l
  go_enter Try.func23, Try.ntmps23
  go_wp2_with fail
  go_loopw [3, 4] (fun v i wr => ∃ (k : Nat) (L : List UInt8), k ≤ l.length ∧ i = .int .i64 k ∧ Hid (L = joinS (l.take k)) ∧ Hid (wr.ownsRow w.heap.size 5 1 v L.length (L.map B)) ∧ Hid (Below w.heap.size w wr)) (fun _ i _ => l.length - (intOf i).toNat)
  case atStart => exact ⟨0, [], Nat.zero_le _, rfl, by show _ = _; rw [List.take_zero]; rfl, World.ownsRow_nil _ _ _ _, Below.refl _ _⟩
  case round =>
    obtain ⟨k, L, hk, rfl, EL, OL, HX⟩ := hrel
    by_cases hlt : k < l.length
    · have hki : (k : Int) < (l.length : Int) := by omega
      obtain ⟨b, o, rfl, hb, c0⟩ := HC.out k hlt
      have d0 := (HX.out.cell (p := ⟨b, o + k, none⟩) hb).trans c0
      have hLn : L.length + l[k].size + 1 ≤ 140737488355 := by
        have h1 := joinS_len (l.take k)
        have h2 := tot_take l k hlt
        rw [EL.out]; omega
      have HS : Hid (∀ h : 0 < k, joinS (l.take (k + 1)) = joinS (l.take k) ++ [32] ++ l[k].data.toList) := fun h => joinS_snoc l k hlt h
      have HF : Hid (k = 0 → joinS (l.take (k + 1)) = l[k].data.toList) := by
        intro h; subst h; exact joinS_first l hlt
      have HBK := hide hb
      have HC0 := hide c0
      clear c0
      generalize l[k] = p at *
      obtain ⟨oo, on, oc, rfl⟩ := own_form OL.out
      by_cases hk0 : 0 < k
      · have hk0i : (0 : Int) < (k : Int) := by omega
        go_wp2_with (at_builtin; refine wpList_append_own _ rfl _ _ 43 rfl w.heap.size 5 i0 (.int .u8 0) 1 1 Try.underlying43 hi hz0 hz1 hz2 rfl (by decide) _ _ _ rfl (OL.out.alloc _) ⟨wr.heap.size, 0, none⟩ 1 1 [.int .u8 32] rfl rfl (bk.cell_one_new _ _ _) ?c2 ?c3 ?c4 ?c5 ?_)
        case c2 => first | rfl | (intro u hu; simp at hu; rcases hu with rfl; rfl)
        case c3 => unfold maxLen; omega
        case c4 => omega
        case c5 => have := HX.out.size; first | omega | (simp; omega)
        intro v' w1 hown' hgrow _
        have O1 : Hid (w1.ownsRow w.heap.size 5 1 v' (L ++ [32]).length ((L ++ [32]).map B)) := by
          show w1.ownsRow _ _ _ _ _ _
          rw [List.length_append, List.map_append]; exact hown'
        have X1 : Hid (Below w.heap.size w w1) := (HX.out.alloc HX.out.size _).grown hgrow (by have := HX.out.size; simp; omega) (bk.own_ge OL.out)
        clear hown' hgrow d0
        have d1 := (X1.out.cell (p := ⟨b, o + k, none⟩) HBK.out).trans HC0.out
        obtain ⟨oo, on, oc, rfl⟩ := own_form O1.out
        have hl1 : (L ++ [32]).length = L.length + 1 := by simp
        have HL1 := hide hl1
        clear hl1
        go_wp2_with (at_builtin; refine app_str _ rfl _ _ rfl w.heap.size _ (L ++ [32]) rfl O1.out p rfl (by rw [HL1.out]; omega) X1.out.size ?_)
        intro v2 w2 L2 E2 own2 k2
        have O2 := hide own2
        have X2 := hide (k2 _ X1.out)
        have E3 : Hid (L2 = joinS (l.take (k + 1))) := by show _ = _; rw [HS.out hk0, E2.out, EL.out]; simp
        clear own2 k2 E2
        go_wp2_with fail
        go_roundw
        case rel => exact ⟨k + 1, L2, by omega, by go_num, E3, O2, X2⟩
        case measure => simp [intOf]; omega
      · have hk0i : ¬ (0 : Int) < (k : Int) := by omega
        obtain rfl : k = 0 := by omega
        rw [Nat.add_zero] at d0
        have HL0 : Hid (L = []) := by
          show _ = _
          rw [EL.out, List.take_zero]; rfl
        go_wp2_with (at_builtin; refine app_str _ rfl _ _ rfl w.heap.size _ L rfl OL.out p rfl (by omega) HX.out.size ?_)
        intro v2 w2 L2 E2 own2 k2
        have O2 := hide own2
        have X2 := hide (k2 _ HX.out)
        have E3 : Hid (L2 = joinS (l.take (0 + 1))) := by show _ = _; rw [HF.out (by trivial), E2.out, HL0.out, List.nil_append]
        clear own2 k2 E2
        go_wp2_with fail
        go_roundw
        case rel => exact ⟨0 + 1, L2, by omega, by go_num, E3, O2, X2⟩
        case measure => simp [intOf]; omega
    · obtain rfl : k = l.length := by omega
      have E3 : Hid (L = joinS l) := by show _ = _; rw [EL.out, List.take_length]
      have hcv := conv_own OL.out rfl
      clear EL
      go_wp2
      go_ret
      exact ⟨by rw [← E3.out]; rfl, HX.out⟩

end Go.Proofs.Ytkkkgpcdnjijbaa.ss
