import Derived.Test.YtfdkjbbpcmgidaaDoorRdText
namespace Go.Proofs.YtfdkjbbpcmgidaaDoor.pg
open Go.ChangeShapes Go.WideShapes Go.ChangeAt Go.RowKit Go.Proofs.YtfdkjbbpcmgidaaDoor.common Go.Maps
attribute [local go_sem ↓] Go.wp_at_zero Go.wp_at_succ

/-- what the reader leans on -/
structure REnv (w : World) (b : Nat) (ea : Addr) : Prop where
  esc : Esc w
  txt : Txt w ea
  lt : 14 < b
  lt2 : 1 < b

set_option maxRecDepth 100000 in
set_option maxHeartbeats 800000 in
theorem name_any (b : Nat) (s : ByteArray) (ea : Addr) (w : World) (hs : s.size < 140737488355328) (h : Rr w b s) (he : REnv w b ea) :
    Calls Tryd.prog 96 #[ptr b] w fun e w' => RPost b ea w Value.string (namL s.data.toList) e w' := by
  have HT := hide (rdText_any b s 34 ea w hs h he.esc he.txt)
  have HE := hide he
  have hbl := h.lt
  clear h he
  go_enter Tryd.func96, Tryd.ntmps96
  go_wp2_with fail
  refine HT.out.mono ?_
  rintro e w' ⟨k1, ⟨x, r, g1, rfl, g2⟩ | ⟨g1, rfl⟩⟩
  · have ce : w'.cell? ⟨1, 0, none⟩ = some (X ea) := HE.out.txt.under (k1.under (Nat.le_of_lt hbl)) HE.out.lt2
    have G1 := hide g1
    have G2 := hide g2
    have K1 := hide k1
    clear g1 g2 k1
    obtain ⟨en, hen⟩ : ∃ en, x.toList.isEmpty = en := ⟨_, rfl⟩
    cases en with
    | true =>
      have HN : Hid (namL s.data.toList = none) := by
        show _ = _
        unfold namL
        rw [G1.out, Option.bind_some, if_pos (show emp x = true from hen)]
      go_wp2
      exact ⟨rfl, K1.out, Or.inr ⟨HN.out, rfl⟩⟩
    | false =>
      have HN : Hid (namL s.data.toList = some (x, r.data.toList)) := by
        show _ = _
        unfold namL
        rw [G1.out, Option.bind_some, if_neg (by show ¬ emp x = true; unfold emp; rw [hen]; decide)]
      go_wp2
      go_ret
      exact ⟨K1.out, Or.inl ⟨x, r, HN.out, rfl, G2.out⟩⟩
  · have HN : Hid (namL s.data.toList = none) := by show _ = _; unfold namL; rw [g1]; rfl
    have K1 := hide k1
    clear g1 k1
    go_wp2
    exact ⟨rfl, K1.out, Or.inr ⟨HN.out, rfl⟩⟩
end Go.Proofs.YtfdkjbbpcmgidaaDoor.pg
