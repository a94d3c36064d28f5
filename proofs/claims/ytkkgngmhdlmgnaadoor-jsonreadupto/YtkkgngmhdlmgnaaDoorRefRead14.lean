import Derived.Test.YtkkgngmhdlmgnaaDoorRefRead13
namespace Go.Proofs.YtkkgngmhdlmgnaaDoor.jw
open Go.ChangeShapes Go.WideShapes Go.ChangeAt Go.RowKit Go.Proofs.YtkkgngmhdlmgnaaDoor.common
attribute [local go_sem ↓] Go.wp_at_zero Go.wp_at_succ

theorem infoR : (Tryd.prog.info? 37).map (fun i => (i.zero, i.size, i.bytes)) = some (some (.agg #[.string ⟨#[]⟩, .int .i64 0, .string ⟨#[]⟩, .int .i64 0, .bool false]), 5, 56) := by kernel_rfl
theorem own_belowR {w w' : World} {b : Nat} {t : TypeId} {z : Nat} {v : Value} {n : Nat} {xs : List Value} (h : w.ownsRow b t z v n xs) (hb : Below w.heap.size w w') : w'.ownsRow b t z v n xs := by
  refine ⟨h.1, ?_⟩
  rcases h.2 with hh | ⟨g, cap, cur, rfl, hg, hh, hn⟩
  · exact Or.inl hh
  · exact Or.inr ⟨g, cap, cur, rfl, hg, (hb.block g (Array.getElem?_eq_some_iff.1 hh).1).trans hh, hn⟩
theorem cells_new2 (w : World) (o : Obj) (l : List Value) (t : TypeId) : ∀ j u, l[j]? = some u → ((w.alloc o).alloc (.cells l.toArray t)).cell? ((⟨w.heap.size + 1, 0, none⟩ : Addr).add j) = some u := by
  intro j u h
  have := cells_new (w.alloc o) l t j u h
  simpa using this
theorem VPl.split {s : ByteArray} {o : Option (Mem × List UInt8)} {v : Value} (h : VPl s o v) : ∃ (m : Mem) (I : Int), v = .tuple #[M5 m, .int .i64 I] ∧ PlI s (o.map (·.2)) I ∧ ∀ t r, o = some (t, r) → m = t := by
  rcases h with ⟨rfl, m, rfl⟩ | ⟨t, r, b, rfl, hb, rfl, hd⟩
  · exact ⟨_, _, rfl, Or.inl ⟨rfl, rfl⟩, fun _ _ h => by cases h⟩
  · exact ⟨_, _, rfl, Or.inr ⟨r, b, rfl, hb, rfl, hd⟩, fun _ _ h => by injection h with h; injection h⟩
/-- members and a place, or nothing and -1 -/
def LPl (base : Nat) (s : ByteArray) (o : Option (List Mem × List UInt8)) (x : Value) (w : World) : Prop :=
  (o = none ∧ x = .tuple #[.slice none 0 0, .int .i64 (-1)]) ∨ ∃ (l : List Mem) (r : List UInt8) (b : Nat) (v : Value), o = some (l, r) ∧ b ≤ s.size ∧ x = .tuple #[v, .int .i64 (b : Int)] ∧ s.data.toList.drop b = r ∧ l.length ≤ s.size ∧ w.ownsRow base 37 5 v l.length (cms l)

set_option maxRecDepth 100000 in
set_option maxHeartbeats 1600000 in
theorem refMembers_any (s : ByteArray) (a : Nat) (w : World) (hs : s.size * 56 ≤ 140737488351232) (ha : a ≤ s.size) (I : Int) (hI : I = (a : Int)) :
    Calls Tryd.prog 21 #[.string s, .int .i64 I] w fun x w' => (∃ v, x = .returned v ∧ LPl w.heap.size s (Json.mems [] (s.data.toList.drop a)) v w') ∧ Below w.heap.size w w' := by
  subst hI
  obtain ⟨i0, hi, hz0, hz1, hz2⟩ := info_parts infoR
  have HS := hide hs
  obtain ⟨O, hO⟩ : ∃ O, Json.mems [] (s.data.toList.drop a) = O := ⟨_, rfl⟩
  have HO := hide hO
  rw [hO]
  clear hO
  go_enter Tryd.func21, Tryd.ntmps21
  go_wp2_with fail
  go_loopw [1, 4, 5, 6] (fun iv r4 r5 v wr => ∃ (k : Nat) (L : List Mem), k ≤ s.size ∧ L.length ≤ k ∧ iv = .int .i64 k ∧ r4 = .slice none 0 0 ∧ r5 = .int .i64 0 ∧ Hid (Json.mems L (s.data.toList.drop k) = O) ∧ Hid (wr.ownsRow w.heap.size 37 5 v L.length (cms L)) ∧ Hid (Below w.heap.size w wr)) (fun iv _ _ _ _ => s.size - (intOf iv).toNat)
  case atStart => exact ⟨a, [], ha, by simp, rfl, by first | rfl | trivial, by first | rfl | trivial, HO, World.ownsRow_nil _ _ _ _, Below.refl _ _⟩
  case round =>
    obtain ⟨k, L, hk, hLk, rfl, rfl, rfl, HX, hown, hb⟩ := hrel
    have hS := HS.out
    by_cases hkl : k < s.size
    · have k1 : (k : Int) < (s.size : Int) := by omega
      go_wp2_with fail
      refine (refMember_any s k wr (by omega) (by omega) _ rfl).mono ?_
      rintro x w2 ⟨⟨v2, rfl, hv2⟩, hb2⟩
      obtain ⟨m, I4, rfl, hp4, hm4⟩ := hv2.split
      have hown2 := hide (own_belowR hown.out hb2)
      have hbl2 := hide (hb.out.trans (hb2.mono hb.out.size))
      have hsz := hbl2.out.size
      clear hb2 hv2
      obtain ⟨M, hM⟩ : ∃ M, Json.memberR (s.data.toList.drop k) = M := ⟨_, rfl⟩
      rw [hM] at hp4 hm4
      have HM := hide hM
      have HP4 := hide hp4
      have HM4 := hide hm4
      clear hM hp4 hm4
      by_cases hneg : I4 < 0
      · have HR : Hid (O = none) := by
          show _ = _
          rcases HP4.out with ⟨h, _⟩ | ⟨r, b, _, _, h, _⟩
          · cases M with
            | none => rw [← HX.out, Json.mems_no HM.out]
            | some x => cases h
          · omega
        go_wp2_with fail
        go_ret2
        exact ⟨⟨_, rfl, Or.inl ⟨HR.out, rfl⟩⟩, hbl2.out.alloc hsz _⟩
      · obtain ⟨b4, m4, r4, hb4, hI4, hO3, hdr⟩ : ∃ (b : Nat) (m : Mem) (r : List UInt8), b ≤ s.size ∧ I4 = (b : Int) ∧ M = some (m, r) ∧ s.data.toList.drop b = r := by
          rcases HP4.out with ⟨_, h⟩ | ⟨r, b, h, hb, hI, hd⟩
          · omega
          · cases M with
            | none => cases h
            | some x =>
              obtain ⟨m, r'⟩ := x
              injection h with h
              exact ⟨b, m, r', hb, hI, rfl, hd.trans h.symm⟩
        obtain rfl := HM4.out m4 r4 hO3
        have hlt4 := Json.memberR_lt (HM.out.trans hO3)
        rw [← hdr, List.length_drop, List.length_drop, len_list] at hlt4
        have HME := hide (HM.out.trans hO3)
        have HDR := hide hdr
        subst hI4
        clear hO3 hdr HM4 HP4 HM
        go_wp2_with (at_builtin; refine wpList_append_own _ rfl _ _ 22 rfl w.heap.size 37 i0 _ 5 56 Tryd.underlying22 hi hz0 hz1 hz2 rfl (by decide) _ _ _ rfl ((hown2.out.alloc _).alloc _) ⟨w2.heap.size + 1, 0, none⟩ 1 1 (cm m) rfl rfl (cells_new2 w2 _ (cm m) 37) ?c2 ?c3 ?c4 ?c5 ?_)
        case c2 => intro u hu; simp [cm] at hu; rcases hu with rfl | rfl | rfl | rfl | rfl <;> rfl
        case c3 => unfold maxLen; omega
        case c4 => omega
        case c5 => first | omega | (simp; omega)
        intro v' w3 hown' hgrow _
        have R1 : Hid (w3.ownsRow w.heap.size 37 5 v' (L ++ [m]).length (cms (L ++ [m]))) := by
          show w3.ownsRow _ _ _ _ _ _
          rw [cms_app, List.length_append]
          show w3.ownsRow _ _ _ _ (L.length + 1) (cms L ++ (cm m ++ []))
          rw [List.append_nil]; exact hown'
        have R2 := hide (((hbl2.out.alloc hsz _).alloc (by simp; omega) _).grown hgrow (by simp; omega) (fun b hb => (hown2.out.lt b hb).1))
        clear hown' hgrow
        by_cases hend : ∃ h : b4 < s.size, s[b4] = 44
        · obtain ⟨hbl, h44⟩ := hend
          have g1 : ¬ (s.size : Int) ≤ (b4 : Int) := by omega
          have g2 : (b4 : Int) < (s.size : Int) := by omega
          have p1 : (s[b4].toNat : Int) = 44 := by rw [h44]; rfl
          have HSt : Hid (O = Json.mems (L ++ [m]) (Json.blanks (s.data.toList.drop (b4 + 1)))) := by
            show _ = _
            rw [← HX.out]
            refine Json.mems_step HME.out ?_
            rw [← HDR.out, drop_cons s b4 hbl, h44]
            simp [Json.part]
          obtain ⟨cN, hcN⟩ : ∃ c, c = s.size - (Json.blanks (s.data.toList.drop (b4 + 1))).length := ⟨_, rfl⟩
          have HBk := hide (fun (W : World) => blanks_exact s (b4 + 1) W (by omega) (by omega) ((b4 : Int) + 1) (by omega) cN hcN)
          have HPl := hide (blanks_place s (b4 + 1) cN hcN)
          have hcb : b4 + 1 ≤ cN := by
            have := Json.blanks_le (s.data.toList.drop (b4 + 1))
            rw [List.length_drop, len_list] at this
            omega
          clear hcN h44
          go_wp2_with fail
          refine (HBk.out _).mono ?_
          rintro x w4 ⟨rfl, hw4⟩
          obtain rfl := hw4
          go_wp2
          go_roundw
          case rel => exact ⟨cN, L ++ [m], HPl.out.1, by rw [List.length_append, List.length_singleton]; omega, by first | rfl | go_num, by first | rfl | trivial, by first | rfl | trivial, by show _ = _; rw [HPl.out.2, ← HSt.out], R1, R2⟩
          case measure => simp [intOf]; omega
        · have HSt : Hid (O = some (L ++ [m], s.data.toList.drop b4)) := by
            show _ = _
            rw [← HX.out, HDR.out]
            refine Json.mems_end HME.out ?_
            rw [← HDR.out]
            by_cases h : b4 < s.size
            · rw [drop_cons s b4 h]
              exact if_neg (fun e => hend ⟨h, e⟩)
            · rw [drop_end s b4 h]; rfl
          have hll : (L ++ [m]).length ≤ s.size := by rw [List.length_append, List.length_singleton]; omega
          have HLL := hide hll
          clear hll
          by_cases h : b4 < s.size
          · have g1 : ¬ (s.size : Int) ≤ (b4 : Int) := by omega
            have g2 : (b4 : Int) < (s.size : Int) := by omega
            have p1 : ((s[b4].toNat : Int) == 44) = false := beq_false_of_ne (fun e => hend ⟨h, UInt8.toNat_inj.1 (by show _ = 44; omega)⟩)
            clear hend
            go_wp2_with fail
            go_ret2
            exact ⟨⟨_, rfl, Or.inr ⟨_, _, b4, _, HSt.out, hb4, rfl, rfl, HLL.out, R1.out⟩⟩, R2.out⟩
          · have g1 : (s.size : Int) ≤ (b4 : Int) := by omega
            clear hend
            go_wp2_with fail
            go_ret2
            exact ⟨⟨_, rfl, Or.inr ⟨_, _, b4, _, HSt.out, hb4, rfl, rfl, HLL.out, R1.out⟩⟩, R2.out⟩
    · have k1 : ¬ (k : Int) < (s.size : Int) := by omega
      have HR : Hid (O = none) := by show _ = _; rw [← HX.out, drop_end s k hkl, Json.mems_nil]
      go_wp2
      go_ret2
      exact ⟨⟨_, rfl, Or.inl ⟨HR.out, rfl⟩⟩, hb.out⟩
end Go.Proofs.YtkkgngmhdlmgnaaDoor.jw
