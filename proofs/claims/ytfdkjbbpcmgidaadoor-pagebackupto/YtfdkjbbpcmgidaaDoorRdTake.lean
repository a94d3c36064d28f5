import Derived.Test.YtfdkjbbpcmgidaaDoorRdMust
namespace Go.Proofs.YtfdkjbbpcmgidaaDoor.pg
open Go.ChangeShapes Go.WideShapes Go.ChangeAt Go.RowKit Go.Proofs.YtfdkjbbpcmgidaaDoor.common Go.Maps
attribute [local go_sem ↓] Go.wp_at_zero Go.wp_at_succ

set_option maxRecDepth 100000 in
set_option maxHeartbeats 800000 in
theorem take_any (b : Nat) (s : ByteArray) (n : Nat) (ea : Addr) (w : World) (hn : n ≤ s.size) (hs : s.size < 140737488355328) (h : Rr w b s) (he : Esc w) (ht : Txt w ea) :
    Calls Tryd.prog 67 #[ptr b, .int .i64 n] w fun e w' => RPost b ea w Value.string ((Pg.unesc (s.data.toList.take n)).map fun t => (⟨t.toArray⟩, s.data.toList.drop n)) e w' := by
  have HR := hide h
  have h' : w.heap[b]? = some (.cells #[.string s] 65) := h
  have c0 : w.cell? ⟨b, 0, none⟩ = some (.string s) := by simp [World.cell?, h']
  have HX : Hid ((s.extract 0 n).data.toList = s.data.toList.take n) := by
    have hx := ext_list s 0 n
    rw [Nat.sub_zero, List.drop_zero] at hx
    exact hx
  have HD : Hid ((s.extract n s.size).data.toList = s.data.toList.drop n) := by
    show _ = _
    rw [ext_list, List.take_of_length_le (by rw [List.length_drop, len_list]; omega)]
  have HU := hide (unescape_any (s.extract 0 n) w (by have : (s.extract 0 n).size ≤ s.size := by simp; omega
                                                      omega) he ea ht)
  have z0 : (0 : Int) ≤ (n : Int) := by omega
  have z1 : (n : Int) ≤ (s.size : Int) := by omega
  clear h h' he ht
  go_enter Tryd.func67, Tryd.ntmps67
  go_wp2_with fail
  refine HU.out.mono ?_
  rintro e w' ⟨hb, ha⟩
  unfold UAns at ha
  rw [HX.out] at ha
  have HB := hide hb
  have HR1 := hide (HR.out.below hb)
  have h1 : w'.heap[b]? = some (.cells #[.string s] 65) := HR1.out
  have c1 : w'.cell? ⟨b, 0, none⟩ = some (.string s) := by simp [World.cell?, h1]
  have f1 : w'.frozen? ⟨b, 0, none⟩ = false := by simp [World.frozen?, h1]
  clear hb h1 c0
  rcases ha with ⟨t, ht, rfl⟩ | ⟨ht, rfl⟩
  · have HT := hide ht
    clear ht
    have HR2 := hide (HR1.out.set (s.extract n s.size))
    have HK := hide ((Kr.of (rb := b) HB.out).trans (Kr.set b w' 0 (.string (s.extract n s.size))))
    go_wp2
    go_ret
    exact ⟨HK.out, Or.inl ⟨⟨t.toArray⟩, s.extract n s.size, by rw [HT.out, HD.out]; rfl, rfl, HR2.out⟩⟩
  · have HT := hide ht
    clear ht
    have HK := hide (Kr.of (rb := b) HB.out)
    go_wp2
    exact ⟨rfl, HK.out, Or.inr ⟨by rw [HT.out]; rfl, rfl⟩⟩
end Go.Proofs.YtfdkjbbpcmgidaaDoor.pg
