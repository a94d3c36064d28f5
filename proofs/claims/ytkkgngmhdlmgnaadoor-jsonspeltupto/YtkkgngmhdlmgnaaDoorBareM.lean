import Derived.Test.YtkkgngmhdlmgnaaDoorMKit0
namespace Go.Proofs.YtkkgngmhdlmgnaaDoor.jw
open Go.ChangeShapes Go.WideShapes Go.ChangeAt Go.RowKit Go.Proofs.YtkkgngmhdlmgnaaDoor.common
attribute [local go_sem ↓] Go.wp_at_zero Go.wp_at_succ

theorem takeB (l : List Mem) (k : Nat) (h : k < l.length) (p : Mem) (hp : l[k] = p) : (l.map Json.bareMem).take (k + 1) = (l.map Json.bareMem).take k ++ [Json.bareMem p] := by
  rw [takeM _ k (by rw [List.length_map]; exact h), List.getElem_map, hp]
theorem cells_newS (W : World) (a : Addr) (u : Value) (l : List Value) (t : TypeId) : ∀ j u', l[j]? = some u' → ((W.setCell a u).alloc (.cells l.toArray t)).cell? ((⟨W.heap.size, 0, none⟩ : Addr).add j) = some u' := by
  have h := cells_new (W.setCell a u) l t
  have e : (W.setCell a u).heap.size = W.heap.size := by simp
  rwa [e] at h
theorem nf_new (w : World) (cs : Array Value) (t : TypeId) (j : Nat) : (w.alloc (.cells cs t)).drew.frozen? ⟨w.heap.size, j, none⟩ = false := by
  have h : (w.alloc (.cells cs t)).drew.heap[w.heap.size]? = some (.cells cs t) := heap_alloc_new w _
  unfold World.frozen?
  rw [h]
  simp

set_option maxRecDepth 100000 in
set_option maxHeartbeats 3200000 in
theorem bareM_any (v : Value) (l : List Mem) (w : World) (hl : Lies w v l) (hs : l.length * 56 ≤ 140737488355328) :
    Calls Tryd.prog 16 #[v] w fun e w' => ∃ v', e = .returned v' ∧ w'.ownsRow w.heap.size 37 5 v' (l.map Json.bareMem).length (cms (l.map Json.bareMem)) ∧ Below w.heap.size w w' := by
  obtain ⟨i0, hi, hz0, hz1, hz2⟩ := info_parts infoM
  obtain ⟨oa, cap, rfl, hcp, hc⟩ := hl
  have HC := hide hc
  clear hc
  go_enter Tryd.func16, Tryd.ntmps16
  go_wp2_with fail
  go_loopw [3, 4] (fun v i wr => ∃ k : Nat, k ≤ l.length ∧ i = .int .i64 k ∧ wr.ownsRow w.heap.size 37 5 v k (cms ((l.map Json.bareMem).take k)) ∧ Below w.heap.size w wr) (fun _ i _ => l.length - (intOf i).toNat)
  case atStart => exact ⟨0, Nat.zero_le _, rfl, World.ownsRow_nil _ _ _ _, Below.refl _ _⟩
  case round =>
    obtain ⟨k, hk, rfl, hown, hnx⟩ := hrel
    have hsz := hnx.size
    by_cases hlt : k < l.length
    · have hki : (k : Int) < (l.length : Int) := by omega
      have hcap : (k : Int) < (cap : Int) := by omega
      have k0 : (0 : Int) ≤ (k : Int) := Int.natCast_nonneg _
      obtain ⟨b, o, rfl, hb, ha⟩ := HC.out k hlt
      have hA := ha.below hnx hb
      have d0 := hA.c0
      have d1 := hA.c1
      have d2 := hA.c2
      have d3 := hA.c3
      have d4 := hA.c4
      clear hA ha
      obtain ⟨p, hpp⟩ : ∃ p, l[k] = p := ⟨_, rfl⟩
      rw [hpp] at d0 d1 d2 d3 d4
      have HPP := hide hpp
      clear hpp
      have n0 := World.new_ne wr _ d0
      have n1 := World.new_ne wr _ d1
      have n2 := World.new_ne wr _ d2
      have n3 := World.new_ne wr _ d3
      have n4 := World.new_ne wr _ d4
      go_wp2_with fail
      go_region_held3 (fun W => W.cell? ⟨b, o + k * 5, none⟩ = some (S p.name) ∧ W.cell? ⟨b, o + k * 5 + 1, none⟩ = some (.int .i64 p.kind)) (go_keep) (fail)
      have HSN := hide (takeB l k hlt p HPP.out)
      have B0 : Hid (Below wr.heap.size wr ((wr.alloc (.cells #[.string ⟨List.toArray p.name⟩, .int .i64 p.kind, .string ⟨#[]⟩, .int .i64 0, .bool false] 37)).drew)) := ((Below.refl _ wr).alloc (Nat.le_refl _) _).drew
      have NW : At ((wr.alloc (.cells #[.string ⟨List.toArray p.name⟩, .int .i64 p.kind, .string ⟨#[]⟩, .int .i64 0, .bool false] 37)).drew) wr.heap.size 0 ⟨p.name, p.kind, [], 0, false⟩ := (mem_new wr ⟨p.name, p.kind, [], 0, false⟩ 37).of rfl
      have NF : ∀ j, ((wr.alloc (.cells #[.string ⟨List.toArray p.name⟩, .int .i64 p.kind, .string ⟨#[]⟩, .int .i64 0, .bool false] 37)).drew).frozen? ⟨wr.heap.size, j, none⟩ = false := fun j => nf_new wr _ _ j
      have HNX := hide hnx
      clear hnx n0 n1 n2 n3 n4 HPP
      all_goals
        generalize (wr.alloc (.cells #[.string ⟨List.toArray p.name⟩, .int .i64 p.kind, .string ⟨#[]⟩, .int .i64 0, .bool false] 37)).drew = W0 at *
        obtain ⟨P, hP⟩ : ∃ P, wr.heap.size = P := ⟨_, rfl⟩
        have HP := hide hP
        rw [hP] at NW NF
        try rw [hP]
        have hbl : b < wr.heap.size := by omega
        have e1 := (B0.out.cell (p := ⟨b, o + k * 5 + 1, none⟩) hbl).trans d1
        have e2 := (B0.out.cell (p := ⟨b, o + k * 5 + 2, none⟩) hbl).trans d2
        have e3 := (B0.out.cell (p := ⟨b, o + k * 5 + 3, none⟩) hbl).trans d3
        have e4 := (B0.out.cell (p := ⟨b, o + k * 5 + 4, none⟩) hbl).trans d4
        have g0 := NW.c0
        have g1 := NW.c1
        have g2 := NW.c2
        have g3 := NW.c3
        have g4 := NW.c4
        have f2 := NF 2
        have f3 := NF 3
        have f4 := NF 4
        clear NW NF d0 d1 d2 d3 d4 hP
        by_cases h1 : p.kind = 1
        · have q1 : (p.kind == 1) = true := by rw [h1]; rfl
          have G1 := hide h1
          clear h1
          have HBX : Hid (Below wr.heap.size wr (W0.setCell ⟨P, 2, none⟩ (S p.text))) := (B0.out.setCell (Nat.le_of_eq HP.out) _)
          have HOX := hide (own_below' hown HBX.out)
          have hszW : w.heap.size ≤ ((W0.setCell ⟨P, 2, none⟩ (S p.text))).heap.size := by have := HBX.out.size; omega
          clear hown
          go_wp2_with (at_builtin; refine wpList_append_own _ rfl _ _ 22 rfl w.heap.size 37 i0 _ 5 56 Tryd.underlying22 hi hz0 hz1 hz2 rfl (by decide) _ _ _ rfl (HOX.out.alloc _) ⟨W0.heap.size, 0, none⟩ 1 1 [S p.name, .int .i64 p.kind, S p.text, .int .i64 0, .bool false] rfl rfl (cells_newS W0 ⟨P, 2, none⟩ (S p.text) [S p.name, .int .i64 p.kind, S p.text, .int .i64 0, .bool false] 37) ?a2 ?a3 ?a4 ?a5 ?_)
          case a2 => first | exact ⟨rfl, rfl, rfl, rfl, rfl⟩ | (intro u hu; simp at hu; rcases hu with rfl | rfl | rfl | rfl | rfl <;> rfl)
          case a3 => unfold maxLen; omega
          case a4 => omega
          case a5 => first | omega | (simp; omega) | (simp at hszW ⊢; omega)
          intro v' w1 hown' hgrow _
          have R1 : Hid (w1.ownsRow w.heap.size 37 5 v' (k + 1) (cms ((l.map Json.bareMem).take (k + 1)))) := by
            show w1.ownsRow _ _ _ _ _ _
            rw [HSN.out, cms_app]
            have hbm : cms [Json.bareMem p] = [S p.name, .int .i64 p.kind, S p.text, .int .i64 0, .bool false] := by
              unfold Json.bareMem
              rw [if_pos G1.out, G1.out]; rfl
            rw [hbm]; exact hown'
          have R2 : Hid (Below w.heap.size w w1) := ((HNX.out.trans (HBX.out.mono hsz)).alloc hszW _).grown hgrow (by simp at hszW ⊢; omega) (own_geM HOX.out)
          clear hown' hgrow
          go_wp2
          go_roundw
          case rel => exact ⟨k + 1, by omega, by go_num, R1.out, R2.out⟩
          case measure => simp [intOf]; omega
        · have q1 : (p.kind == 1) = false := beq_false_of_ne h1
          have G1 := hide h1
          clear h1
          by_cases h2 : p.kind = 2
          · have q2 : (p.kind == 2) = true := by rw [h2]; rfl
            have G2 := hide h2
            clear h2
            have HBX : Hid (Below wr.heap.size wr (W0.setCell ⟨P, 3, none⟩ (.int .i64 p.num))) := (B0.out.setCell (Nat.le_of_eq HP.out) _)
            have HOX := hide (own_below' hown HBX.out)
            have hszW : w.heap.size ≤ ((W0.setCell ⟨P, 3, none⟩ (.int .i64 p.num))).heap.size := by have := HBX.out.size; omega
            clear hown
            go_wp2_with (at_builtin; refine wpList_append_own _ rfl _ _ 22 rfl w.heap.size 37 i0 _ 5 56 Tryd.underlying22 hi hz0 hz1 hz2 rfl (by decide) _ _ _ rfl (HOX.out.alloc _) ⟨W0.heap.size, 0, none⟩ 1 1 [S p.name, .int .i64 p.kind, .string ⟨#[]⟩, .int .i64 p.num, .bool false] rfl rfl (cells_newS W0 ⟨P, 3, none⟩ (.int .i64 p.num) [S p.name, .int .i64 p.kind, .string ⟨#[]⟩, .int .i64 p.num, .bool false] 37) ?b2 ?b3 ?b4 ?b5 ?_)
            case b2 => first | exact ⟨rfl, rfl, rfl, rfl, rfl⟩ | (intro u hu; simp at hu; rcases hu with rfl | rfl | rfl | rfl | rfl <;> rfl)
            case b3 => unfold maxLen; omega
            case b4 => omega
            case b5 => first | omega | (simp; omega) | (simp at hszW ⊢; omega)
            intro v' w1 hown' hgrow _
            have R1 : Hid (w1.ownsRow w.heap.size 37 5 v' (k + 1) (cms ((l.map Json.bareMem).take (k + 1)))) := by
              show w1.ownsRow _ _ _ _ _ _
              rw [HSN.out, cms_app]
              have hbm : cms [Json.bareMem p] = [S p.name, .int .i64 p.kind, .string ⟨#[]⟩, .int .i64 p.num, .bool false] := by
                unfold Json.bareMem
                rw [if_neg G1.out, if_pos G2.out, G2.out]; rfl
              rw [hbm]; exact hown'
            have R2 : Hid (Below w.heap.size w w1) := ((HNX.out.trans (HBX.out.mono hsz)).alloc hszW _).grown hgrow (by simp at hszW ⊢; omega) (own_geM HOX.out)
            clear hown' hgrow
            go_wp2
            go_roundw
            case rel => exact ⟨k + 1, by omega, by go_num, R1.out, R2.out⟩
            case measure => simp [intOf]; omega
          · have q2 : (p.kind == 2) = false := beq_false_of_ne h2
            have G2 := hide h2
            clear h2
            by_cases h3 : p.kind = 3
            · have q3 : (p.kind == 3) = true := by rw [h3]; rfl
              have G3 := hide h3
              clear h3
              have HBX : Hid (Below wr.heap.size wr (W0.setCell ⟨P, 4, none⟩ (.bool p.flag))) := (B0.out.setCell (Nat.le_of_eq HP.out) _)
              have HOX := hide (own_below' hown HBX.out)
              have hszW : w.heap.size ≤ ((W0.setCell ⟨P, 4, none⟩ (.bool p.flag))).heap.size := by have := HBX.out.size; omega
              clear hown
              go_wp2_with (at_builtin; refine wpList_append_own _ rfl _ _ 22 rfl w.heap.size 37 i0 _ 5 56 Tryd.underlying22 hi hz0 hz1 hz2 rfl (by decide) _ _ _ rfl (HOX.out.alloc _) ⟨W0.heap.size, 0, none⟩ 1 1 [S p.name, .int .i64 p.kind, .string ⟨#[]⟩, .int .i64 0, .bool p.flag] rfl rfl (cells_newS W0 ⟨P, 4, none⟩ (.bool p.flag) [S p.name, .int .i64 p.kind, .string ⟨#[]⟩, .int .i64 0, .bool p.flag] 37) ?c2 ?c3 ?c4 ?c5 ?_)
              case c2 => first | exact ⟨rfl, rfl, rfl, rfl, rfl⟩ | (intro u hu; simp at hu; rcases hu with rfl | rfl | rfl | rfl | rfl <;> rfl)
              case c3 => unfold maxLen; omega
              case c4 => omega
              case c5 => first | omega | (simp; omega) | (simp at hszW ⊢; omega)
              intro v' w1 hown' hgrow _
              have R1 : Hid (w1.ownsRow w.heap.size 37 5 v' (k + 1) (cms ((l.map Json.bareMem).take (k + 1)))) := by
                show w1.ownsRow _ _ _ _ _ _
                rw [HSN.out, cms_app]
                have hbm : cms [Json.bareMem p] = [S p.name, .int .i64 p.kind, .string ⟨#[]⟩, .int .i64 0, .bool p.flag] := by
                  unfold Json.bareMem
                  rw [if_neg G1.out, if_neg G2.out, if_pos G3.out, G3.out]; rfl
                rw [hbm]; exact hown'
              have R2 : Hid (Below w.heap.size w w1) := ((HNX.out.trans (HBX.out.mono hsz)).alloc hszW _).grown hgrow (by simp at hszW ⊢; omega) (own_geM HOX.out)
              clear hown' hgrow
              go_wp2
              go_roundw
              case rel => exact ⟨k + 1, by omega, by go_num, R1.out, R2.out⟩
              case measure => simp [intOf]; omega
            · have q3 : (p.kind == 3) = false := beq_false_of_ne h3
              have G3 := hide h3
              clear h3
              have HBX : Hid (Below wr.heap.size wr W0) := B0.out
              have HOX := hide (own_below' hown HBX.out)
              have hszW : w.heap.size ≤ (W0).heap.size := by have := HBX.out.size; omega
              clear hown
              go_wp2_with (at_builtin; refine wpList_append_own _ rfl _ _ 22 rfl w.heap.size 37 i0 _ 5 56 Tryd.underlying22 hi hz0 hz1 hz2 rfl (by decide) _ _ _ rfl (HOX.out.alloc _) ⟨(W0).heap.size, 0, none⟩ 1 1 [S p.name, .int .i64 p.kind, .string ⟨#[]⟩, .int .i64 0, .bool false] rfl rfl (cells_new W0 [S p.name, .int .i64 p.kind, .string ⟨#[]⟩, .int .i64 0, .bool false] 37) ?d2 ?d3 ?d4 ?d5 ?_)
              case d2 => first | exact ⟨rfl, rfl, rfl, rfl, rfl⟩ | (intro u hu; simp at hu; rcases hu with rfl | rfl | rfl | rfl | rfl <;> rfl)
              case d3 => unfold maxLen; omega
              case d4 => omega
              case d5 => first | omega | (simp; omega) | (simp at hszW ⊢; omega)
              intro v' w1 hown' hgrow _
              have R1 : Hid (w1.ownsRow w.heap.size 37 5 v' (k + 1) (cms ((l.map Json.bareMem).take (k + 1)))) := by
                show w1.ownsRow _ _ _ _ _ _
                rw [HSN.out, cms_app]
                have hbm : cms [Json.bareMem p] = [S p.name, .int .i64 p.kind, .string ⟨#[]⟩, .int .i64 0, .bool false] := by
                  unfold Json.bareMem
                  rw [if_neg G1.out, if_neg G2.out, if_neg G3.out]; rfl
                rw [hbm]; exact hown'
              have R2 : Hid (Below w.heap.size w w1) := ((HNX.out.trans (HBX.out.mono hsz)).alloc hszW _).grown hgrow (by simp at hszW ⊢; omega) (own_geM HOX.out)
              clear hown' hgrow
              go_wp2
              go_roundw
              case rel => exact ⟨k + 1, by omega, by go_num, R1.out, R2.out⟩
              case measure => simp [intOf]; omega
    · obtain rfl : k = l.length := by omega
      rw [← List.length_map (f := Json.bareMem), List.take_length] at hown
      have H1 := hide hown
      have H2 := hide hnx
      clear hown hnx
      go_wp2
      go_ret
      exact ⟨_, rfl, H1.out, H2.out⟩
end Go.Proofs.YtkkgngmhdlmgnaaDoor.jw
