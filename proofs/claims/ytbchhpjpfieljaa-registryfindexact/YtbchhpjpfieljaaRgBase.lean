import Derived.Test.YtbchhpjpfieljaaStrSame
namespace Go.Proofs.Ytbchhpjpfieljaa.rg
open Go.ChangeShapes Go.WideShapes Go.ChangeAt Go.RowKit Go.Proofs.Ytbchhpjpfieljaa.common Go.Maps
attribute [local go_sem ↓] Go.wp_at_zero Go.wp_at_succ

/-- a client: its name, whether it is public, its secret, its addresses and its scopes -/
structure Cli where
  id : ByteArray
  pub : Bool
  salt : ByteArray
  dig : ByteArray
  to : List ByteArray
  sc : List ByteArray
/-- a user -/
structure Usr where
  name : ByteArray
  salt : ByteArray
  dig : ByteArray
/-- the client x lies at cell o of block b, with the slices of its two lists -/
def CAt (w : World) (b o : Nat) (x : Cli) (vR vS : Value) : Prop :=
  w.cell? ⟨b, o, none⟩ = some (.string x.id) ∧ w.cell? ⟨b, o + 1, none⟩ = some (.bool x.pub) ∧ w.cell? ⟨b, o + 2, none⟩ = some (.string x.salt) ∧ w.cell? ⟨b, o + 3, none⟩ = some (.string x.dig) ∧ w.cell? ⟨b, o + 4, none⟩ = some vR ∧ w.cell? ⟨b, o + 5, none⟩ = some vS ∧ ss.Lies w vR x.to ∧ ss.Lies w vS x.sc
theorem CAt.below {w w' : World} {b o : Nat} {x : Cli} {vR vS : Value} (h : CAt w b o x vR vS) (hb : Below w.heap.size w w') (hl : b < w.heap.size) : CAt w' b o x vR vS := by
  obtain ⟨c0, c1, c2, c3, c4, c5, h1, h2⟩ := h
  exact ⟨(hb.cell (p := ⟨b, o, none⟩) hl).trans c0, (hb.cell (p := ⟨b, o + 1, none⟩) hl).trans c1, (hb.cell (p := ⟨b, o + 2, none⟩) hl).trans c2, (hb.cell (p := ⟨b, o + 3, none⟩) hl).trans c3, (hb.cell (p := ⟨b, o + 4, none⟩) hl).trans c4, (hb.cell (p := ⟨b, o + 5, none⟩) hl).trans c5, h1.below hb, h2.below hb⟩
/-- a slice of clients that reads as xs -/
def LiesC (w : World) (v : Value) (xs : List Cli) : Prop :=
  ∃ oa cap, v = .slice oa xs.length cap ∧ ∀ i (h : i < xs.length), ∃ b o vR vS, oa = some ⟨b, o, none⟩ ∧ b < w.heap.size ∧ CAt w b (o + i * 6) xs[i] vR vS
theorem LiesC.below {w w' : World} {v : Value} {l : List Cli} (h : LiesC w v l) (hb : Below w.heap.size w w') : LiesC w' v l := by
  obtain ⟨oa, cap, hv, hc⟩ := h
  refine ⟨oa, cap, hv, fun i hi => ?_⟩
  obtain ⟨b, o, vR, vS, ho, hlt, c⟩ := hc i hi
  exact ⟨b, o, vR, vS, ho, Nat.lt_of_lt_of_le hlt hb.size, c.below hb hlt⟩
theorem liesC_nil (w : World) : LiesC w (.slice none 0 0) [] := ⟨none, 0, rfl, fun _ hi => absurd hi (Nat.not_lt_zero _)⟩
/-- a slice of users that reads as xs -/
def LiesU (w : World) (v : Value) (xs : List Usr) : Prop :=
  ∃ oa cap, v = .slice oa xs.length cap ∧ ∀ i (h : i < xs.length), ∃ b o, oa = some ⟨b, o, none⟩ ∧ b < w.heap.size ∧ w.cell? ⟨b, o + i * 3, none⟩ = some (.string xs[i].name) ∧ w.cell? ⟨b, o + i * 3 + 1, none⟩ = some (.string xs[i].salt) ∧ w.cell? ⟨b, o + i * 3 + 2, none⟩ = some (.string xs[i].dig)
theorem LiesU.below {w w' : World} {v : Value} {l : List Usr} (h : LiesU w v l) (hb : Below w.heap.size w w') : LiesU w' v l := by
  obtain ⟨oa, cap, hv, hc⟩ := h
  refine ⟨oa, cap, hv, fun i hi => ?_⟩
  obtain ⟨b, o, ho, hlt, c0, c1, c2⟩ := hc i hi
  exact ⟨b, o, ho, Nat.lt_of_lt_of_le hlt hb.size, (hb.cell hlt).trans c0, (hb.cell hlt).trans c1, (hb.cell hlt).trans c2⟩
theorem liesU_nil (w : World) : LiesU w (.slice none 0 0) [] := ⟨none, 0, rfl, fun _ hi => absurd hi (Nat.not_lt_zero _)⟩

/-- the cells of users that lie one behind the other -/
def uc : List Usr → List Value
  | [] => []
  | x :: r => .string x.name :: .string x.salt :: .string x.dig :: uc r
theorem uc_len (l : List Usr) : (uc l).length = l.length * 3 := by
  induction l with
  | nil => rfl
  | cons p r ih => show (uc r).length + 3 = _; rw [ih, List.length_cons]; omega
theorem uc_app (l m : List Usr) : uc (l ++ m) = uc l ++ uc m := by
  induction l with
  | nil => rfl
  | cons p r ih => show _ :: _ :: _ :: uc (r ++ m) = _; rw [ih]; rfl
theorem uc_get (l : List Usr) (i : Nat) (h : i < l.length) : (uc l)[i * 3]? = some (.string l[i].name) ∧ (uc l)[i * 3 + 1]? = some (.string l[i].salt) ∧ (uc l)[i * 3 + 2]? = some (.string l[i].dig) := by
  induction l generalizing i with
  | nil => simp at h
  | cons p r ih =>
    cases i with
    | zero => exact ⟨rfl, rfl, rfl⟩
    | succ i =>
      have := ih i (by simpa using h)
      rw [show (i + 1) * 3 = i * 3 + 1 + 1 + 1 by omega]
      exact ⟨this.1, this.2.1, this.2.2⟩
theorem uc_one (l : List Usr) : ∀ u ∈ uc l, u.oneCell' = true := by
  induction l with
  | nil => intro u hu; cases hu
  | cons p r ih =>
    intro u hu
    simp only [uc, List.mem_cons] at hu
    rcases hu with rfl | rfl | rfl | hu
    · rfl
    · rfl
    · rfl
    · exact ih u hu
theorem LiesU.cells {w : World} {ad : Addr} {n cap : Nat} {xs : List Usr} (h : LiesU w (.slice (some ad) n cap) xs) : ∀ j u, (uc xs)[j]? = some u → w.cell? (ad.add j) = some u := by
  obtain ⟨oa, ca, hv, hc⟩ := h
  cases hv
  intro j u hu
  have hj : j < xs.length * 3 := by have := (List.getElem?_eq_some_iff.1 hu).1; rw [uc_len] at this; exact this
  have hi : j / 3 < xs.length := by omega
  obtain ⟨b, o, ho, _, c0, c1, c2⟩ := hc (j / 3) hi
  cases ho
  obtain ⟨g0, g1, g2⟩ := uc_get xs (j / 3) hi
  rw [Addr.add_mid]
  have hm : j % 3 = 0 ∨ j % 3 = 1 ∨ j % 3 = 2 := by omega
  rcases hm with hm | hm | hm
  · have he : j = j / 3 * 3 := by omega
    rw [← he] at c0 g0
    rw [g0] at hu; cases hu; exact c0
  · have he : j = j / 3 * 3 + 1 := by omega
    rw [Nat.add_assoc, ← he] at c1; rw [← he] at g1
    rw [g1] at hu; cases hu; exact c1
  · have he : j = j / 3 * 3 + 2 := by omega
    rw [Nat.add_assoc, ← he] at c2; rw [← he] at g2
    rw [g2] at hu; cases hu; exact c2
theorem liesU_of_own {w : World} {base : Nat} {e : TypeId} {v : Value} {l : List Usr} (h : w.ownsRow base e 3 v l.length (uc l)) : LiesU w v l := by
  rcases h.2 with ⟨rfl, h0⟩ | ⟨g, cap, cur, rfl, hg, hh, hn, _, hsz, htk⟩
  · obtain rfl := List.eq_nil_of_length_eq_zero h0
    exact liesU_nil w
  · refine ⟨_, cap, rfl, fun i hi => ?_⟩
    have hc := h.cells (g := g) rfl
    obtain ⟨g0, g1, g2⟩ := uc_get l i hi
    have k0 := hc _ _ g0
    have k1 := hc _ _ g1
    have k2 := hc _ _ g2
    rw [Addr.add_mid, Nat.zero_add] at k0 k1 k2
    exact ⟨g, 0, rfl, (Array.getElem?_eq_some_iff.1 hh).1, by rw [Nat.zero_add]; exact k0, by rw [Nat.zero_add]; exact k1, by rw [Nat.zero_add]; exact k2⟩

/-- the cells of clients that lie one behind the other, with the slices of their lists -/
def cc : List Cli → List (Value × Value) → List Value
  | x :: r, v :: s => .string x.id :: .bool x.pub :: .string x.salt :: .string x.dig :: v.1 :: v.2 :: cc r s
  | _, _ => []
theorem cc_len : ∀ (l : List Cli) (s : List (Value × Value)), l.length = s.length → (cc l s).length = l.length * 6
  | [], [], _ => rfl
  | [], _ :: _, h => by simp at h
  | _ :: _, [], h => by simp at h
  | f :: r, v :: s, h => by
    have := cc_len r s (by simpa using h)
    show (cc r s).length + 6 = (r.length + 1) * 6
    omega
/-- the cells of one -/
def c1 (x : Cli) (v : Value × Value) : List Value := [.string x.id, .bool x.pub, .string x.salt, .string x.dig, v.1, v.2]
theorem cc_snoc (f : Cli) (v : Value × Value) : ∀ (l : List Cli) (s : List (Value × Value)), l.length = s.length → cc (l ++ [f]) (s ++ [v]) = cc l s ++ c1 f v
  | [], [], _ => rfl
  | [], _ :: _, h => by simp at h
  | _ :: _, [], h => by simp at h
  | g :: r, u :: s, h => by
    have := cc_snoc f v r s (by simpa using h)
    show _ :: _ :: _ :: _ :: _ :: _ :: cc (r ++ [f]) (s ++ [v]) = _
    rw [this]; rfl
theorem cc_get : ∀ (l : List Cli) (s : List (Value × Value)) (hls : l.length = s.length) (i : Nat) (h : i < l.length), (cc l s)[i * 6]? = some (.string l[i].id) ∧ (cc l s)[i * 6 + 1]? = some (.bool l[i].pub) ∧ (cc l s)[i * 6 + 2]? = some (.string l[i].salt) ∧ (cc l s)[i * 6 + 3]? = some (.string l[i].dig) ∧ (cc l s)[i * 6 + 4]? = some (s[i]'(by omega)).1 ∧ (cc l s)[i * 6 + 5]? = some (s[i]'(by omega)).2
  | [], _, _, i, h => by simp at h
  | _ :: _, [], hls, _, _ => by simp at hls
  | f :: r, v :: s, _, 0, _ => ⟨rfl, rfl, rfl, rfl, rfl, rfl⟩
  | f :: r, v :: s, hls, i + 1, h => by
    have := cc_get r s (by simpa using hls) i (by simpa using h)
    rw [show (i + 1) * 6 = i * 6 + 1 + 1 + 1 + 1 + 1 + 1 by omega]
    exact this

theorem infoC : (Try.prog.info? 33).map (fun i => (i.zero, i.size, i.bytes)) = some (some (.agg #[.string ⟨#[]⟩, .bool false, .string ⟨#[]⟩, .string ⟨#[]⟩, .slice none 0 0, .slice none 0 0]), 6, 104) := by kernel_rfl
theorem infoU : (Try.prog.info? 38).map (fun i => (i.zero, i.size, i.bytes)) = some (some (.agg #[.string ⟨#[]⟩, .string ⟨#[]⟩, .string ⟨#[]⟩]), 3, 48) := by kernel_rfl
theorem sizeCf : (Try.prog.info? 25).map (·.size) = some 12 := by kernel_rfl
theorem sizeCl : (Try.prog.info? 33).map (·.size) = some 6 := by kernel_rfl
theorem sizeUs : (Try.prog.info? 38).map (·.size) = some 3 := by kernel_rfl

/-- clients that lie in rows of one's own -/
structure OwnC (base : Nat) (w : World) (v : Value) (l : List Cli) (s : List (Value × Value)) : Prop where
  len : l.length = s.length
  row : w.ownsRow base 33 6 v l.length (cc l s)
  to : ∀ i (h : i < s.length), w.ownsRow base 9 1 s[i].1 (l[i]'(by omega)).to.length (ss.sc (l[i]'(by omega)).to)
  sc : ∀ i (h : i < s.length), w.ownsRow base 9 1 s[i].2 (l[i]'(by omega)).sc.length (ss.sc (l[i]'(by omega)).sc)
theorem OwnC.lies {base : Nat} {w : World} {v : Value} {l : List Cli} {s : List (Value × Value)} (h : OwnC base w v l s) : LiesC w v l := by
  rcases h.row.2 with ⟨rfl, h0⟩ | ⟨g, cap, cur, rfl, hg, hh, hn, _, hsz, htk⟩
  · obtain rfl := List.eq_nil_of_length_eq_zero h0
    exact liesC_nil w
  · refine ⟨_, cap, rfl, fun i hi => ?_⟩
    have hc := h.row.cells (g := g) rfl
    obtain ⟨g0, g1, g2, g3, g4, g5⟩ := cc_get l s h.len i hi
    have k0 := hc _ _ g0
    have k1 := hc _ _ g1
    have k2 := hc _ _ g2
    have k3 := hc _ _ g3
    have k4 := hc _ _ g4
    have k5 := hc _ _ g5
    rw [Addr.add_mid, Nat.zero_add] at k0 k1 k2 k3 k4 k5
    refine ⟨g, 0, (s[i]'(by have := h.len; omega)).1, (s[i]'(by have := h.len; omega)).2, rfl, (Array.getElem?_eq_some_iff.1 hh).1, ?_⟩
    rw [Nat.zero_add]
    exact ⟨k0, k1, k2, k3, k4, k5, ss.lies_of_own (h.to i (by have := h.len; omega)), ss.lies_of_own (h.sc i (by have := h.len; omega))⟩
end Go.Proofs.Ytbchhpjpfieljaa.rg
