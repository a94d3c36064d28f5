import Derived.Test.YticncaoecoehkaaDoorWlFrame
import Derived.Test.YticncaoecoehkaaDoorCrcR
import Derived.Test.YticncaoecoehkaaDoorRdCopy
import Derived.Deep.AppendLies
namespace Go.Proofs.YticncaoecoehkaaDoor.wl
open Go.ChangeShapes Go.WideShapes Go.ChangeAt Go.RowKit Go.Proofs.YticncaoecoehkaaDoor.common Go.Proofs.YticncaoecoehkaaDoor.dk

theorem and255 (a : Nat) (ha : a < 4294967296) : bits .and .u32 (a : Int) 255 = ((a % 256 : Nat) : Int) := by
  have h := u32_and_nat a 255 ha (by omega)
  have e : ((255 : Nat) : Int) = 255 := rfl
  rw [e] at h
  rw [h]
  congr 1
  exact Nat.and_two_pow_sub_one_eq_mod a 8

theorem num4_cells (x : Nat) (hx : x < 4294967296) (d1 d2 d3 : Nat) (h1 : d1 = x / 65536 % 256) (h2 : d2 = x / 256 % 256) (h3 : d3 = x % 256) : [Value.int .u8 ((x : Int) / 16777216), .int .u8 (d1 : Int), .int .u8 (d2 : Int), .int .u8 (d3 : Int)] = (Wl.num4 x).map B := by
  have e0 : ((UInt8.ofNat (x / 16777216)).toNat : Int) = (x : Int) / 16777216 := by simp; omega
  have e1 : ((UInt8.ofNat (x / 65536)).toNat : Int) = (d1 : Int) := by simp; omega
  have e2 : ((UInt8.ofNat (x / 256)).toNat : Int) = (d2 : Int) := by simp; omega
  have e3 : ((UInt8.ofNat x).toNat : Int) = (d3 : Int) := by simp; omega
  show _ = [Value.int .u8 _, Value.int .u8 _, Value.int .u8 _, Value.int .u8 _]
  rw [e0, e1, e2, e3]
theorem grown_below {base : Nat} {w w' : World} {v : Value} {e : TypeId} {size n : Nat} {xs : List Value} (o : Obj) (hb : base ≤ w.heap.size) (h : w.ownsRow base e size v n xs) (hg : (w.alloc o).grownBy w' v.ownBlock) : Below base w w' :=
  ((Below.refl base w).alloc hb o).grown hg (by have : (w.alloc o).heap.size = w.heap.size + 1 := Array.size_push ..; omega) (own_ge h)

set_option maxRecDepth 100000 in
set_option maxHeartbeats 1600000 in
theorem four_any (w : World) (base : Nat) (hbs : base ≤ w.heap.size) (v : Value) (l : List UInt8) (x : Nat) (hx : x < 4294967296) (hl : l.length ≤ 140737488355000) (h : w.ownsRow base 5 1 v l.length (l.map B)) :
    Calls Tryd.prog 83 #[v, .int .u32 (x : Int)] w fun e w' => ∃ v', e = .returned v' ∧ w'.ownsRow base 5 1 v' (l ++ Wl.num4 x).length ((l ++ Wl.num4 x).map B) ∧ Below base w w' := by
  obtain ⟨i0, hi, hz0, hz1, hz2⟩ := info_parts info8
  obtain ⟨d1, hd1⟩ : ∃ d, d = x / 65536 % 256 := ⟨_, rfl⟩
  obtain ⟨d2, hd2⟩ : ∃ d, d = x / 256 % 256 := ⟨_, rfl⟩
  have a1 : bits .and .u32 ((x : Int) / 65536) 255 = (d1 : Int) := by have := and255 (x / 65536) (by omega); rw [hd1, ← this]; rfl
  have a2 : bits .and .u32 ((x : Int) / 256) 255 = (d2 : Int) := by have := and255 (x / 256) (by omega); rw [hd2, ← this]; rfl
  obtain ⟨d3, hd3⟩ : ∃ d, d = x % 256 := ⟨_, rfl⟩
  have a3 : bits .and .u32 (x : Int) 255 = (d3 : Int) := by have := and255 x (by omega); rw [hd3, ← this]
  have b3 : d3 < 256 := by omega
  have b1 : d1 < 256 := by omega
  have b2 : d2 < 256 := by omega
  have HNC := hide (num4_cells x hx d1 d2 d3 hd1 hd2 hd3)
  have HO := hide h
  clear hd1 hd2 hd3 h
  go_enter Tryd.func83, Tryd.ntmps83
  go_wp2_with (at_builtin; refine wpList_append_own _ rfl _ _ 22 rfl base 5 i0 (.int .u8 0) 1 1 Tryd.underlying22 hi hz0 hz1 hz2 rfl (by decide) _ _ _ rfl (HO.out.alloc _) ⟨w.heap.size, 0, none⟩ 4 4 [.int .u8 ((x : Int) / 16777216), .int .u8 (d1 : Int), .int .u8 (d2 : Int), .int .u8 (d3 : Int)] rfl rfl ?c1 ?c2 ?c3 ?c4 ?c5 ?_)
  case c1 => exact World.news_of_block (heap_alloc_new _ _)
  case c2 =>
    rw [HNC.out]
    exact b_one _
  case c3 => unfold maxLen; omega
  case c4 => omega
  case c5 => simp; omega
  intro v' w1 hown' hgrow _
  have H1 : Hid (w1.ownsRow base 5 1 v' (l ++ Wl.num4 x).length ((l ++ Wl.num4 x).map B)) := by
    show World.ownsRow _ _ _ _ _ _ _
    rw [List.map_append, ← HNC.out, List.length_append, Wl.num4_len]; exact hown'
  have H2 : Hid (Below base w w1) := grown_below _ hbs HO.out hgrow
  clear hown' hgrow
  go_wp2
  go_ret
  exact ⟨_, rfl, H1.out, H2.out⟩

theorem rd_news {w : World} {a : Addr} {c : Nat} {l : List UInt8} (h : Rd w (.slice (some a) l.length c) l) : ∀ j u, (l.map B)[j]? = some u → w.cell? (a.add j) = some u := fun j u hu => by
  obtain ⟨oa, c', hv, h⟩ := h
  cases hv
  have hl : 0 < l.length := by have := (List.getElem?_eq_some_iff.1 hu).1; simp at this; omega
  obtain ⟨g, o, he, _, hr⟩ := h hl
  cases he
  rw [Addr.add_mid]
  exact hr j u hu
theorem rd_some {w : World} {v : Value} {l : List UInt8} (h : Rd w v l) (hl : 0 < l.length) : ∃ a c, v = .slice (some a) l.length c := by
  obtain ⟨oa, c, rfl, h⟩ := h
  obtain ⟨g, o, rfl, _⟩ := h hl
  exact ⟨_, c, rfl⟩

set_option maxRecDepth 100000 in
set_option maxHeartbeats 1600000 in
theorem sum_any (w : World) (v : Value) (p : List UInt8) (h : Rd w v p) (hp : p.length ≤ 8192) (hp1 : 0 < p.length) :
    Calls Tryd.prog 82 #[v] w fun e w' => e = .returned (.int .u32 (Wl.csum p : Int)) ∧ Below w.heap.size w w' := by
  obtain ⟨i0, hi, hz0, hz1, hz2⟩ := info_parts info8
  have HR := hide h
  obtain ⟨a, c, rfl⟩ := rd_some h hp1
  have hcv : (p.length : Int) % 4294967296 = (p.length : Int) := by omega
  clear h
  go_enter Tryd.func82, Tryd.ntmps82
  go_wp2_with fail
  refine (four_any w w.heap.size (Nat.le_refl _) _ [] p.length (by omega) (by simp) (World.ownsRow_nil _ _ _ _)).mono ?_
  rintro r w1 ⟨v1, rfl, h1, b1⟩
  rw [List.nil_append] at h1
  have HR1 := HR.out.below b1
  have H1 := hide h1
  have HB1 := hide b1
  have hs1 := b1.size
  obtain ⟨ov, cv, rfl⟩ := (rd_own h1).len
  clear h1 b1
  go_wp2_with (at_builtin; refine wpList_append_own _ rfl _ _ 22 rfl w.heap.size 5 i0 (.int .u8 0) 1 1 Tryd.underlying22 hi hz0 hz1 hz2 rfl (by decide) _ _ _ rfl H1.out a p.length c (p.map B) rfl (by simp) (rd_news HR1) (b_one _) ?c3 ?c4 ?c5 ?_)
  case c3 => rw [Wl.num4_len]; unfold maxLen; omega
  case c4 => rw [Wl.num4_len]; omega
  case c5 => exact hs1
  intro v2 w2 hown' hgrow _
  rw [← List.map_append, ← List.length_append] at hown'
  have HB2 : Hid (Below w.heap.size w w2) := HB1.out.grown hgrow hs1 (own_ge H1.out)
  have hc2 := conv_rd (rd_own hown')
  have HK : Hid (Calls Tryd.prog 86 #[.string ⟨(Wl.num4 p.length ++ p).toArray⟩] w2 fun e w' => e = .returned (.int .u32 (Wl.csum p : Int)) ∧ w' = w2) := crcw.refCrc_any ⟨(Wl.num4 p.length ++ p).toArray⟩ w2 (by show (Wl.num4 p.length ++ p).length ≤ maxLen; rw [List.length_append, Wl.num4_len]; unfold maxLen; omega)
  obtain ⟨o2, c2, rfl⟩ := (rd_own hown').len
  clear hown' hgrow H1 HR1 HR HB1
  generalize (Wl.num4 p.length ++ p) = L at *
  go_wp2_with fail
  refine HK.out.mono ?_
  rintro r w3 ⟨rfl, rfl⟩
  go_wp2_with fail
  go_ret
  exact ⟨rfl, HB2.out⟩

/-- the number of what Frame answers -/
def frN (n : Nat) : Int := if Wl.fit n = true then 0 else 1
set_option maxRecDepth 100000 in
set_option maxHeartbeats 1600000 in
theorem refFrame_any (w : World) (v : Value) (p : List UInt8) (h : Rd w v p) (hp : p.length ≤ 4611686018427387904) :
    Calls Tryd.prog 75 #[v] w fun e w' => ∃ v', e = .returned (.tuple #[v', .int .i64 (frN p.length)]) ∧ w'.ownsRow w.heap.size 5 1 v' (frL p).length ((frL p).map B) ∧ Below w.heap.size w w' := by
  have HR := hide h
  cases hf : Wl.fit p.length with
  | false =>
    have e1 : frL p = [] := by unfold frL; rw [hf]; rfl
    have e2 : frN p.length = 1 := by unfold frN; rw [hf]; rfl
    rw [e1, e2]
    clear e1 e2
    obtain ⟨oa, cap, rfl, _⟩ := h
    by_cases h0 : p.length = 0
    · obtain rfl : p = [] := List.eq_nil_of_length_eq_zero h0
      have hl0 : ([] : List UInt8).length = 0 := rfl
      rw [hl0] at *
      go_enter Tryd.func75, Tryd.ntmps75
      go_wp2
      go_ret2
      exact ⟨_, rfl, World.ownsRow_nil _ _ _ _, Below.refl _ _⟩
    · have hn : ¬ p.length ≤ 8192 := fun hle => by rw [(Wl.fit_iff _).2 ⟨by omega, hle⟩] at hf; cases hf
      have h1 : decide ((p.length : Int) > 8192) = true := by rw [decide_eq_true_eq]; omega
      have h1' : decide ((8192 : Int) < (p.length : Int)) = true := by rw [decide_eq_true_eq]; omega
      go_enter Tryd.func75, Tryd.ntmps75
      go_wp2
      go_ret2
      exact ⟨_, rfl, World.ownsRow_nil _ _ _ _, Below.refl _ _⟩
  | true =>
    have hfi := (Wl.fit_iff _).1 hf
    have hp1 := hfi.1
    have hp2 := hfi.2
    have e1 : frL p = Wl.fr p := by unfold frL; rw [hf]; rfl
    have e2 : frN p.length = 0 := by unfold frN; rw [hf]; rfl
    rw [e1, e2]
    clear e1 e2
    obtain ⟨a, c, rfl⟩ := rd_some h hp1
    obtain ⟨i0, hi, hz0, hz1, hz2⟩ := info_parts info8
    have hcv : (p.length : Int) % 4294967296 = (p.length : Int) := by omega
    have hcl := Wl.csum_lt p
    have hq1 : ((p.length : Int) == 0) = false := by rw [beq_eq_false_iff_ne]; omega
    have hq2 : decide ((8192 : Int) < (p.length : Int)) = false := by rw [decide_eq_false_iff_not]; omega
    clear h hf hfi
    go_enter Tryd.func75, Tryd.ntmps75
    go_wp2_with fail
    refine (four_any w w.heap.size (Nat.le_refl _) _ [] p.length (by omega) (by simp) (World.ownsRow_nil _ _ _ _)).mono ?_
    rintro r w1 ⟨v1, rfl, h1, b1⟩
    rw [List.nil_append] at h1
    have H1 := hide h1
    have HB1 := hide b1
    obtain ⟨ov, cv, rfl⟩ := (rd_own h1).len
    clear h1 b1
    go_wp2_with fail
    refine (sum_any w1 _ p (HR.out.below HB1.out) hp2 hp1).mono ?_
    rintro r w2 ⟨rfl, b2⟩
    have HB2 : Hid (Below w.heap.size w w2) := keepD HB1.out b2
    have h2 := own_below H1.out b2
    go_wp2_with fail
    refine (four_any w2 w.heap.size HB2.out.size _ (Wl.num4 p.length) (Wl.csum p) hcl (by rw [Wl.num4_len]; decide) h2).mono ?_
    rintro r w3 ⟨v3, rfl, h3, b3⟩
    have H3 := hide h3
    have HB3 : Hid (Below w.heap.size w w3) := HB2.out.trans b3
    have HR3 := HR.out.below HB3.out
    have hs3 := HB3.out.size
    obtain ⟨ov3, cv3, rfl⟩ := (rd_own h3).len
    clear h3 b3 h2 b2
    go_wp2_with (at_builtin; refine wpList_append_own _ rfl _ _ 22 rfl w.heap.size 5 i0 (.int .u8 0) 1 1 Tryd.underlying22 hi hz0 hz1 hz2 rfl (by decide) _ _ _ rfl H3.out a p.length c (p.map B) rfl (by simp) (rd_news HR3) (b_one _) ?c3 ?c4 ?c5 ?_)
    case c3 => simp only [List.length_append, Wl.num4_len]; unfold maxLen; omega
    case c4 => simp only [List.length_append, Wl.num4_len]; omega
    case c5 => exact hs3
    intro v4 w4 hown' hgrow _
    have HB4 : Hid (Below w.heap.size w w4) := HB3.out.grown hgrow hs3 (own_ge H3.out)
    have HO4 : Hid (w4.ownsRow w.heap.size 5 1 v4 (Wl.fr p).length ((Wl.fr p).map B)) := by
      show World.ownsRow _ _ _ _ _ _ _
      simpa [Wl.fr, Wl.hd, Nat.add_assoc] using hown'
    clear hown' hgrow H1 H3
    go_wp2
    go_ret2
    exact ⟨_, rfl, HO4.out, HB4.out⟩
end Go.Proofs.YticncaoecoehkaaDoor.wl
