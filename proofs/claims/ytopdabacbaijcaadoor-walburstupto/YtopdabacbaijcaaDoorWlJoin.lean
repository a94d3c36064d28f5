import Derived.Test.YtopdabacbaijcaaDoorWlBegun
import Derived.Test.YtopdabacbaijcaaDoorWlRows
import Derived.Test.YtopdabacbaijcaaDoorRdCopy
import Derived.Deep.AppendLies
namespace Go.Proofs.YtopdabacbaijcaaDoor.wl
open Go.ChangeShapes Go.WideShapes Go.ChangeAt Go.RowKit Go.Proofs.YtopdabacbaijcaaDoor.common Go.Proofs.YtopdabacbaijcaaDoor.dk

theorem infoJ : (Tryd.prog.info? 3).map (fun i => (i.zero, i.size, i.bytes)) = some (some (.int .i64 0), 1, 8) := by kernel_rfl
/-- where frames end -/
def en (qs : List (List UInt8)) : List Nat := (List.range qs.length).map fun k => (Wl.flat (qs.take (k + 1))).length
theorem en_len (qs : List (List UInt8)) : (en qs).length = qs.length := by simp [en]
theorem en_snoc (qs : List (List UInt8)) (p : List UInt8) : en (qs ++ [p]) = en qs ++ [(Wl.flat (qs ++ [p])).length] := by
  unfold en
  rw [List.length_append, List.length_singleton, List.range_succ, List.map_append]
  congr 1
  · apply List.map_congr_left
    intro k hk
    have hk' : k < qs.length := by simpa using hk
    rw [List.take_append_of_le_length (by omega)]
  · show [(Wl.flat (List.take (qs.length + 1) (qs ++ [p]))).length] = _
    rw [List.take_of_length_le (by simp)]
theorem en_at (qs : List (List UInt8)) (k : Nat) (hk : k < qs.length) : (en qs)[k]'(by rw [en_len]; exact hk) = (Wl.flat (qs.take (k + 1))).length := by simp [en]
abbrev I (n : Nat) : Value := .int .i64 (n : Int)

/-- two values lie in blocks of their own -/
def Far (u v : Value) : Prop := ∀ b, u.ownBlock = some b → v.ownBlock ≠ some b
theorem own_far {W w1 : World} {base : Nat} {e : TypeId} {u v : Value} {n : Nat} {xs : List Value} (h : W.ownsRow base e 1 u n xs) (hne : Far u v) (hgrow : W.grownBy w1 v.ownBlock) : w1.ownsRow base e 1 u n xs := by
  refine ⟨h.1, ?_⟩
  rcases h.2 with hh | ⟨g, cap, cur, rfl, hg, hh, hn⟩
  · exact Or.inl hh
  · refine Or.inr ⟨g, cap, cur, rfl, hg, ?_, hn⟩
    rw [hgrow.block g (Array.getElem?_eq_some_iff.1 hh).1 (fun ej => hne g rfl ej.symm)]
    exact hh
theorem far_types {W : World} {base N : Nat} {e e' : TypeId} {u v : Value} {n k : Nat} {xs ys : List Value} (h : W.ownsRow base e 1 u n xs) (hrow : W.ownsRow N e' 1 v k ys) (he : e ≠ e') : Far u v := fun b hb hv => by
  rcases h.2 with ⟨rfl, _⟩ | ⟨g, cap, cur, rfl, hg, hh, hn⟩
  · cases hb
  · cases hb
    rcases hrow.2 with ⟨rfl, _⟩ | ⟨g', cap', cur', rfl, _, hgb, _⟩
    · cases hv
    · cases hv
      rw [hh] at hgb
      cases hgb
      exact he rfl
theorem own_lt {W : World} {base : Nat} {e : TypeId} {u : Value} {n : Nat} {xs : List Value} (h : W.ownsRow base e 1 u n xs) : ∀ b, u.ownBlock = some b → base ≤ b ∧ b < W.heap.size := fun b hb => by
  rcases h.2 with ⟨rfl, _⟩ | ⟨g, cap, cur, rfl, hg, hh, hn⟩
  · cases hb
  · cases hb
    exact ⟨hg, (Array.getElem?_eq_some_iff.1 hh).1⟩

/-- the three lists of joined -/
structure Jn (W : World) (N : Nat) (va vg ve : Value) (G : List (List UInt8)) (us : List Value) : Prop where
  a : W.ownsRow N 5 1 va (Wl.flat G).length ((Wl.flat G).map B)
  g : W.ownsRow N 26 1 vg us.length us
  e : W.ownsRow N 3 1 ve (en G).length ((en G).map I)
  len : us.length = G.length
  u : ∀ j (h1 : j < us.length) (h2 : j < G.length), W.ownsRow N 5 1 us[j] G[j].length (G[j].map B) ∧ Far us[j] va
theorem grown_below {base : Nat} {w w' : World} {v : Value} {e : TypeId} {size n : Nat} {xs : List Value} (o : Obj) (hb : base ≤ w.heap.size) (h : w.ownsRow base e size v n xs) (hg : (w.alloc o).grownBy w' v.ownBlock) : Below base w w' :=
  ((Below.refl base w).alloc hb o).grown hg (by have : (w.alloc o).heap.size = w.heap.size + 1 := Array.size_push ..; omega) (own_ge h)
theorem jn_nil (W : World) (N : Nat) : Jn W N (.slice none 0 0) (.slice none 0 0) (.slice none 0 0) [] [] :=
  ⟨World.ownsRow_nil _ _ _ _, World.ownsRow_nil _ _ _ _, World.ownsRow_nil _ _ _ _, rfl, fun _ h1 => absurd h1 (Nat.not_lt_zero _)⟩
theorem Jn.below {W W' : World} {N : Nat} {va vg ve : Value} {G : List (List UInt8)} {us : List Value} (h : Jn W N va vg ve G us) (hb : Below W.heap.size W W') : Jn W' N va vg ve G us :=
  ⟨own_below h.a hb, own_below h.g hb, own_below h.e hb, h.len, fun j h1 h2 => ⟨own_below (h.u j h1 h2).1 hb, (h.u j h1 h2).2⟩⟩
/-- behind all three appends -/
theorem Jn.more {W w1 w2 w3 : World} {N : Nat} {va vg ve va' vg' ve' v1 : Value} {G : List (List UInt8)} {us : List Value} {p : List UInt8} {t1 t2 : Obj} {g cap : Nat} (h : Jn W N va vg ve G us) (hv : W.ownsRow N 5 1 v1 p.length (p.map B)) (hv2 : Far v1 va)
    (hva : va' = .slice (some ⟨g, 0, none⟩) ((Wl.flat G).length + (Wl.fr p).length) cap) (hat : va.ownBlock = some g ∨ g = W.heap.size)
    (ha : w1.ownsRow N 5 1 va' ((Wl.flat G).length + (Wl.fr p).length) ((Wl.flat G).map B ++ (Wl.fr p).map B)) (ga : W.grownBy w1 va.ownBlock)
    (hg : w2.ownsRow N 26 1 vg' (us.length + 1) (us ++ [v1])) (gg : (w1.alloc t1).grownBy w2 vg.ownBlock)
    (he : w3.ownsRow N 3 1 ve' ((en G).length + 1) ((en G).map I ++ [I ((Wl.flat G).length + (Wl.fr p).length)])) (ge : (w2.alloc t2).grownBy w3 ve.ownBlock) :
    Jn w3 N va' vg' ve' (G ++ [p]) (us ++ [v1]) := by
  have hflat : Wl.flat (G ++ [p]) = Wl.flat G ++ Wl.fr p := Wl.flat_snoc G p
  have hg1 : w1.ownsRow N 26 1 vg us.length us := own_far h.g (far_types h.g h.a (by decide)) ga
  have he1 : w1.ownsRow N 3 1 ve (en G).length ((en G).map I) := own_far h.e (far_types h.e h.a (by decide)) ga
  have step2 : ∀ {u : Value} {n : Nat} {xs : List Value}, w1.ownsRow N 5 1 u n xs → w3.ownsRow N 5 1 u n xs := fun hu => by
    have hu2 := own_far (hu.alloc t1) (far_types (hu.alloc t1) (hg1.alloc t1) (by decide)) gg
    have he2 := own_far (he1.alloc t1) (far_types (he1.alloc t1) (hg1.alloc t1) (by decide)) gg
    exact own_far (hu2.alloc t2) (far_types (hu2.alloc t2) (he2.alloc t2) (by decide)) ge
  have hfar : ∀ {u : Value} {n : Nat} {xs : List Value}, W.ownsRow N 5 1 u n xs → Far u va → Far u va' := fun hu hf b hb hv => by
    rw [hva] at hv
    cases hv
    rcases hat with h1 | h1
    · exact hf g hb h1
    · have := (own_lt hu g hb).2
      omega
  refine ⟨?_, ?_, ?_, by rw [List.length_append, List.length_append, h.len]; rfl, fun j h1 h2 => ?_⟩
  · rw [hflat, List.length_append, List.map_append]
    exact step2 ha
  · have he2 := own_far (he1.alloc t1) (far_types (he1.alloc t1) (hg1.alloc t1) (by decide)) gg
    rw [List.length_append]
    exact own_far (hg.alloc t2) (far_types (hg.alloc t2) (he2.alloc t2) (by decide)) ge
  · rw [en_snoc, hflat, List.length_append, List.length_append, List.map_append]
    exact he
  · by_cases hj : j < us.length
    · rw [List.getElem_append_left hj]
      have hjG : j < G.length := by have := h.len; omega
      rw [List.getElem_append_left (bs := [p]) hjG]
      have hu := h.u j hj hjG
      exact ⟨step2 (own_far hu.1 hu.2 ga), hfar hu.1 hu.2⟩
    · have hju : j = us.length := by rw [List.length_append] at h1; simp only [List.length_cons, List.length_nil] at h1; omega
      have hjG : ¬ j < G.length := by have := h.len; omega
      have e1 : (G ++ [p])[j] = p := by rw [List.getElem_append_right (by omega)]; simp
      have e2 : (us ++ [v1])[j] = v1 := by rw [List.getElem_append_right (by omega)]; simp
      rw [e1, e2]
      exact ⟨step2 (own_far hv hv2 ga), hfar hv hv2⟩

/-- the payloads that have a frame -/
def gd (L : List (List UInt8)) : List (List UInt8) := L.filter fun p => Wl.fit p.length
theorem gd_app (a b : List (List UInt8)) : gd (a ++ b) = gd a ++ gd b := List.filter_append ..
theorem gd_take (L : List (List UInt8)) (k : Nat) (hk : k < L.length) : gd (L.take (k + 1)) = if Wl.fit L[k].length = true then gd (L.take k) ++ [L[k]] else gd (L.take k) := by
  rw [List.take_succ_eq_append_getElem hk, gd_app]
  cases hf : Wl.fit L[k].length with
  | true => rw [if_pos rfl]; congr 1; simp [gd, hf]
  | false => rw [if_neg (by decide)]; simp [gd, hf]
theorem gd_le (L : List (List UInt8)) (k : Nat) : (Wl.flat (gd (L.take k))).length ≤ (Wl.flat (gd L)).length ∧ (gd (L.take k)).length ≤ (gd L).length := by
  have h : gd L = gd (L.take k) ++ gd (L.drop k) := by rw [← gd_app, List.take_append_drop]
  rw [h, Wl.flat_append]
  simp only [List.length_append]
  omega
theorem gd_fits (L : List (List UInt8)) : ∀ p ∈ gd L, Wl.fit p.length = true := fun _ hp => (List.mem_filter.1 hp).2

set_option maxRecDepth 100000 in
set_option maxHeartbeats 1600000 in
theorem joined_any (w : World) (v : Value) (L : List (List UInt8)) (h : Ls w v L) (hL : L.length ≤ 1048576) (hLq : ∀ q ∈ L, q.length ≤ 1048576) (hT : (Wl.flat (gd L)).length ≤ 1073741824) (ht : crcw.Tab w) (at_ : TypeId) (aa : Addr) (he : w.cell? ⟨0, 0, none⟩ = some (.iface at_ (.pointer (some aa)))) (hg : 0 < w.heap.size) :
    Calls Tryd.prog 7 #[v] w fun e w' => ∃ va vg ve us, e = .returned (.tuple #[va, vg, ve]) ∧ Jn w' w.heap.size va vg ve (gd L) us ∧ Below w.heap.size w w' := by
  obtain ⟨i0, hi, hz0, hz1, hz2⟩ := info_parts info8
  obtain ⟨i1, hi1, hy0, hy1, hy2⟩ := info_parts infoL
  obtain ⟨i2, hi2, hx0, hx1, hx2⟩ := info_parts infoJ
  have HTE : Hid (∀ Y, Below w.heap.size w Y → crcw.Tab Y ∧ Y.cell? ⟨0, 0, none⟩ = some (.iface at_ (.pointer (some aa)))) := fun Y hY => ⟨ht.below hY ht.lt, by rw [World.cell?_of_block (hY.block _ hg)]; exact he⟩
  have HL := hide h
  have HLQ := hide hLq
  have HT := hide hT
  obtain ⟨oa, ca, rfl⟩ := h.len
  clear ht he h hLq hT
  go_enter Tryd.func7, Tryd.ntmps7
  go_wp2
  go_loopw [5, 6, 7, 8] (fun va vg ve i wr => ∃ (k : Nat) (us : List Value), k ≤ L.length ∧ i = .int .i64 k ∧ Jn wr w.heap.size va vg ve (gd (L.take k)) us ∧ Below w.heap.size w wr) (fun _ _ _ i _ => L.length - (intOf i).toNat)
  case atStart => exact ⟨0, [], Nat.zero_le _, rfl, jn_nil _ _, Below.refl _ _⟩
  case round =>
    obtain ⟨k, us, hk, rfl, hj, hnx⟩ := hrel
    by_cases hlt : k < L.length
    · obtain ⟨_, _, e, h1⟩ := HL.out.below hnx
      cases e
      obtain ⟨g1, o1, rfl, hg1, h1⟩ := h1 (by omega)
      obtain ⟨u1, c1, r1⟩ := h1 k hlt
      obtain ⟨p, hp⟩ : ∃ p, p = L[k] := ⟨_, rfl⟩
      have hpq : p.length ≤ 1048576 := by rw [hp]; exact HLQ.out _ (List.getElem_mem hlt)
      have hgt := gd_take L k hlt
      rw [← hp] at r1 hgt
      obtain ⟨G, hG⟩ : ∃ G, G = gd (L.take k) := ⟨_, rfl⟩
      rw [← hG] at hj hgt
      have hGl : (Wl.flat G).length ≤ 1073741824 := by rw [hG]; exact Nat.le_trans (gd_le L k).1 HT.out
      have hGn : G.length ≤ 1048576 := by rw [hG]; refine Nat.le_trans (gd_le L k).2 (Nat.le_trans (List.length_filter_le ..) hL)
      have hul : us.length ≤ 1048576 := by rw [hj.len]; exact hGn
      have hen : (en G).length ≤ 1048576 := by rw [en_len]; exact hGn
      have k0 : (0 : Int) ≤ (k : Int) := Int.natCast_nonneg _
      have k1 : (k : Int) < (L.length : Int) := by omega
      have HC := hide (copy_any wr u1 p r1 (by omega))
      have HR1 := hide r1
      have HJ := hide hj
      have HX := hide hnx
      have HGT := hide hgt
      obtain ⟨xo, xc, hxu⟩ := r1.len
      subst hxu
      have hc1 : ∀ Y, Below wr.heap.size wr Y → Y.cell? ⟨g1, o1 + k, none⟩ = some (.slice xo p.length xc) := fun Y hY => by rw [World.cell?_of_block (hY.block g1 hg1)]; exact c1
      clear h1 r1 hj hnx hgt hp hG
      go_wp2_with fail
      refine HC.out.mono ?_
      rintro r w1 ⟨v1, rfl, hv1, b1⟩
      have c2 := hc1 w1 b1
      have HV1 := hide hv1
      have HJ1 := hide (HJ.out.below b1)
      have HX1 := hide (keepD HX.out b1)
      have HB1 := hide b1
      obtain ⟨ov1, cv1, rfl⟩ := (rd_own hv1).len
      clear hv1 b1 HC c1
      go_wp2_with fail
      refine (frame_any w1 _ p (HR1.out.below HB1.out) (by omega) (HTE.out _ HX1.out).1 _ (HTE.out _ HX1.out).2).mono ?_
      rintro r w2 ⟨vf, rfl, hvf, b2⟩
      have HV2 := hide (own_below HV1.out b2)
      have HJ2 := hide (HJ1.out.below b2)
      have HX2 := hide (keepD HX1.out b2)
      have HVF := hide hvf
      obtain ⟨of, cf, rfl⟩ := (rd_own hvf).len
      clear hvf b2 HV1 HJ1 HX1 c2 HR1
      cases hf : Wl.fit p.length with
      | false =>
        have hfe : frE (.iface at_ (.pointer (some aa))) p.length = .iface at_ (.pointer (some aa)) := by unfold frE; rw [hf]; rfl
        rw [hfe]
        have HGT2 : Hid (gd (L.take (k + 1)) = G) := by show _ = _; rw [HGT.out, hf]; rfl
        clear hfe hf HGT HVF HV2
        go_wp2
        go_roundw
        case rel => exact ⟨k + 1, us, by omega, by go_num, by rw [HGT2.out]; exact HJ2.out, HX2.out⟩
        case measure => simp [intOf]; omega
      | true =>
        have hfe : frE (.iface at_ (.pointer (some aa))) p.length = .nilIface := by unfold frE; rw [hf]; rfl
        have hfl : frL p = Wl.fr p := by unfold frL; rw [hf]; rfl
        rw [hfe]
        rw [hfl] at HVF ⊢
        have HGT2 : Hid (gd (L.take (k + 1)) = G ++ [p]) := by show _ = _; rw [HGT.out, hf]; rfl
        have hfr := Wl.fr_len p
        have hsz := HX2.out.size
        obtain ⟨gf, cpf, hvf, _, hcf⟩ := own_cell' HVF.out 0 (by rw [List.length_map, hfr]; omega)
        cases hvf
        have HFN := hide (rd_own HVF.out)
        obtain ⟨m, hm⟩ : ∃ m, m = (Wl.fr p).length := ⟨_, rfl⟩
        have HN : Hid (∀ j u, ((Wl.fr p).map B)[j]? = some u → w2.cell? ((⟨gf, 0, none⟩ : Addr).add j) = some u) := fun j u hu => by
          obtain ⟨_, _, e, h⟩ := HFN.out
          cases e
          obtain ⟨_, _, e, _, hr⟩ := h (by omega)
          cases e
          rw [Addr.add_mid]
          exact hr j u hu
        have hmb : m ≤ 1048584 := by omega
        have hm0 : 0 < m := by omega
        have HM := hide hm
        rw [← hm]
        clear hfe hfl hf HGT hcf hfr HFN hm
        obtain ⟨fn, hfn⟩ : ∃ fn, fn = (Wl.flat G).length := ⟨_, rfl⟩
        have HFNN := hide hfn
        have hfnb : fn ≤ 1073741824 := by omega
        have HJA : Hid (w2.ownsRow w.heap.size 5 1 u5 fn ((Wl.flat G).map B)) := by show World.ownsRow _ _ _ _ _ _ _; rw [hfn]; exact HJ2.out.a
        obtain ⟨o5, c5, e5⟩ : ∃ o5 c5, u5 = .slice o5 fn c5 := by
          rcases HJA.out.2 with ⟨h1, h0⟩ | ⟨g, c, cur, h1, _⟩
          · exact ⟨none, 0, by rw [h1, h0]⟩
          · exact ⟨_, c, h1⟩
        obtain ⟨o6, c6, e6⟩ : ∃ o6 c6, u6 = .slice o6 us.length c6 := by
          rcases HJ2.out.g.2 with ⟨h1, h0⟩ | ⟨g, c, cur, h1, _⟩
          · exact ⟨none, 0, by rw [h1, h0]⟩
          · exact ⟨_, c, h1⟩
        obtain ⟨o7, c7, e7⟩ : ∃ o7 c7, u7 = .slice o7 (en G).length c7 := by
          rcases HJ2.out.e.2 with ⟨h1, h0⟩ | ⟨g, c, cur, h1, _⟩
          · exact ⟨none, 0, by rw [h1, h0]⟩
          · exact ⟨_, c, h1⟩
        subst e5 e6 e7
        obtain ⟨el, hel⟩ : ∃ el, el = (en G).length := ⟨_, rfl⟩
        have HJE : Hid (w2.ownsRow w.heap.size 3 1 (.slice o7 el c7) el ((en G).map I)) := by show World.ownsRow _ _ _ _ _ _ _; rw [hel]; exact HJ2.out.e
        rw [← hel] at hen HJ2 ⊢
        have HEL := hide hel
        clear hfn hel hGl
        go_wp2_with (at_builtin; refine wpList_append_lies _ rfl _ _ 26 rfl w.heap.size 5 i0 (.int .u8 0) 1 1 Tryd.underlying26 hi hz0 hz1 hz2 rfl (by decide) _ _ _ rfl HJA.out ⟨gf, 0, none⟩ m cf ((Wl.fr p).map B) rfl ?c1 HN.out (b_one _) hm0 ?c3 ?c4 ?c5 w2.heap.size rfl ?_)
        case c1 => rw [List.length_map, HM.out, Nat.mul_one]
        case c3 => unfold maxLen; omega
        case c4 => omega
        case c5 => exact hsz
        intro ga cpa w3 hownA hgrowA hatA _
        have hgA : w3.ownsRow w.heap.size 26 1 (.slice o6 us.length c6) us.length us := own_far HJ2.out.g (far_types HJ2.out.g HJA.out (by decide)) hgrowA
        have heA : w3.ownsRow w.heap.size 3 1 (.slice o7 el c7) el ((en G).map I) := own_far HJE.out (far_types HJE.out HJA.out (by decide)) hgrowA
        have hs3 : w.heap.size ≤ w3.heap.size := Nat.le_trans hsz hgrowA.size
        have HXA : Hid (Below w.heap.size w w3) := HX2.out.grown hgrowA hsz (own_ge HJA.out)
        have HOA := hide hownA
        have HGRA := hide hgrowA
        have HATA := hide hatA
        have HGA := hide hgA
        have HEA := hide heA
        clear hownA hgrowA hatA hgA heA
        go_wp2_with (at_builtin; refine wpList_append_own _ rfl _ _ 22 rfl w.heap.size 26 i1 (.slice none 0 0) 1 24 Tryd.underlying22 hi1 hy0 hy1 hy2 rfl (by decide) _ _ _ rfl (HGA.out.alloc _) ⟨w3.heap.size, 0, none⟩ 1 1 [.slice ov1 p.length cv1] rfl rfl ?c1 ?c2 ?c3 ?c4 ?c5 ?_)
        case c1 => exact cell_one_new _ _ _
        case c2 => intro u hu; simp at hu; subst hu; rfl
        case c3 => unfold maxLen; omega
        case c4 => omega
        case c5 => simp; omega
        intro v4 w4 hownG hgrowG _
        have heG : w4.ownsRow w.heap.size 3 1 (.slice o7 el c7) el ((en G).map I) := own_far (HEA.out.alloc _) (far_types HEA.out HGA.out (by decide)) hgrowG
        have HXG : Hid (Below w.heap.size w w4) := HXA.out.trans (grown_below _ hs3 HGA.out hgrowG)
        have hs4 := HXG.out.size
        have HOG := hide hownG
        have HGRG := hide hgrowG
        have HEG := hide heG
        obtain ⟨E, hE⟩ : ∃ E, E = fn + m := ⟨_, rfl⟩
        have hEi : (fn : Int) + (m : Int) = (E : Int) := by omega
        have HEE := hide hE
        clear hownG hgrowG heG hE
        go_wp2_with (at_builtin; refine wpList_append_own _ rfl _ _ 27 rfl w.heap.size 3 i2 (.int .i64 0) 1 8 Tryd.underlying27 hi2 hx0 hx1 hx2 rfl (by decide) _ _ _ rfl (HEG.out.alloc _) ⟨w4.heap.size, 0, none⟩ 1 1 [I E] rfl rfl ?c1 ?c2 ?c3 ?c4 ?c5 ?_)
        case c1 => exact cell_one_new _ _ _
        case c2 => intro u hu; simp at hu; subst hu; rfl
        case c3 => unfold maxLen; omega
        case c4 => omega
        case c5 => simp; omega
        intro v5 w5 hownE hgrowE _
        have HXE : Hid (Below w.heap.size w w5) := HXG.out.trans (grown_below _ hs4 HEG.out hgrowE)
        have HV2N : w2.ownsRow w.heap.size 5 1 (.slice ov1 p.length cv1) p.length (p.map B) := by
          refine ⟨HV2.out.1, ?_⟩
          rcases HV2.out.2 with hh | ⟨g, cap, cur, h1, hg, hn⟩
          · exact Or.inl hh
          · exact Or.inr ⟨g, cap, cur, h1, Nat.le_trans HX.out.size hg, hn⟩
        have HFAR : Far (.slice ov1 p.length cv1) (.slice o5 fn c5) := fun b hb hv => by
          have h1 := (own_lt HV2.out b hb).1
          have h2 := (own_lt HJ.out.a b hv).2
          omega
        have HJN : Hid (Jn w5 w.heap.size (.slice (some ⟨ga, 0, none⟩) (fn + m) cpa) v4 v5 (G ++ [p]) (us ++ [.slice ov1 p.length cv1])) := by
          have hj2 := HJ2.out
          refine Jn.more (cap := cpa) (g := ga) hj2 HV2N HFAR (by rw [← HFNN.out, ← HM.out]) HATA.out ?_ HGRA.out HOG.out HGRG.out ?_ hgrowE
          · rw [← HFNN.out, ← HM.out]
            exact HOA.out
          · rw [← HFNN.out, ← HM.out, ← HEE.out, ← HEL.out]
            exact hownE
        clear hownE hgrowE HV2N HFAR HOA HOG HEG HGRA HGRG
        go_wp2
        go_roundw
        case rel => exact ⟨k + 1, _, by omega, by go_num, by rw [HGT2.out]; exact HJN.out, HXE.out⟩
        case measure => simp [intOf]; omega
    · obtain rfl : k = L.length := by omega
      have HJ := hide hj
      have HX := hide hnx
      rw [List.take_of_length_le (Nat.le_refl _)] at HJ
      clear hj hnx
      go_wp2
      go_ret3
      exact ⟨_, _, _, us, rfl, HJ.out, HX.out⟩
end Go.Proofs.YtopdabacbaijcaaDoor.wl
