import Derived.Test.YtimbhneegphhbaaGreatDoorRcRefT
import Derived.Test.YtimbhneegphhbaaGreatDoorRcEnc
namespace Go.Proofs.YtimbhneegphhbaaGreatDoor.rc
open Go.ChangeShapes Go.WideShapes Go.ChangeAt Go.RowKit Go.Proofs.YtimbhneegphhbaaGreatDoor.common Go.Proofs.YtimbhneegphhbaaGreatDoor.dk Go.Proofs.YtimbhneegphhbaaGreatDoor.ss

/-- what lies there while a record is written: the bytes, the texts to come -/
structure Sb (W0 X : World) (vo : Value) (l : List UInt8) (vp : Value) (ps : List ByteArray) : Prop where
  low : Below W0.heap.size W0 X
  out : X.ownsRow W0.heap.size 5 1 vo l.length (l.map B)
  prt : X.ownsRow W0.heap.size 9 1 vp ps.length (sc ps)
theorem own_ne {X : World} {b1 b2 s1 s2 n1 n2 : Nat} {v1 v2 : Value} {x1 x2 : List Value} (h1 : X.ownsRow b1 5 s1 v1 n1 x1) (h2 : X.ownsRow b2 9 s2 v2 n2 x2) (k : Nat) (e1 : v1.ownBlock = some k) (e2 : v2.ownBlock = some k) : False := by
  rcases h1.2 with ⟨rfl, _⟩ | ⟨g, cap, cur, rfl, _, hh, _⟩
  · cases e1
  · rcases h2.2 with ⟨rfl, _⟩ | ⟨g2, cap2, cur2, rfl, _, hh2, _⟩
    · cases e2
    · cases e1
      cases e2
      rw [hh] at hh2
      cases hh2
theorem own_fr {X Y : World} {F : List Nat} {base : Nat} {e : TypeId} {size : Nat} {v : Value} {n : Nat} {xs : List Value} (h : X.ownsRow base e size v n xs) (hf : Fr F X Y) (hn : ∀ k, v.ownBlock = some k → k ∉ F) : Y.ownsRow base e size v n xs := by
  refine ⟨h.1, ?_⟩
  rcases h.2 with hh | ⟨g, cap, cur, rfl, hg, hh, hr⟩
  · exact Or.inl hh
  · exact Or.inr ⟨g, cap, cur, rfl, hg, (hf.block g (Array.getElem?_eq_some_iff.1 hh).1 (hn g rfl)).trans hh, hr⟩
theorem Sb.call {W0 X Y : World} {vo vp : Value} {l : List UInt8} {ps : List ByteArray} (h : Sb W0 X vo l vp ps) (hb : Below X.heap.size X Y) : Sb W0 Y vo l vp ps :=
  ⟨keepW h.low hb, own_below h.out hb, own_below h.prt hb⟩
theorem Sb.put {W0 X Y : World} {vo vp v' : Value} {l l' : List UInt8} {ps : List ByteArray} (h : Sb W0 X vo l vp ps) (hg : Gr vo v' X Y) (ho : Y.ownsRow W0.heap.size 5 1 v' l'.length (l'.map B)) : Sb W0 Y v' l' vp ps :=
  ⟨h.low.trans (hg.below (own_ge h.out) h.low.size), ho, own_fr h.prt hg.fr (fun k hk hm => own_ne h.out h.prt k (by simpa using hm) hk)⟩
theorem Sb.part {W0 X Y : World} {vo vp v' : Value} {l : List UInt8} {ps qs : List ByteArray} {o : Obj} (h : Sb W0 X vo l vp ps) (hg : (X.alloc o).grownBy Y vp.ownBlock) (ho : Y.ownsRow W0.heap.size 9 1 v' qs.length (sc qs)) : Sb W0 Y vo l v' qs := by
  have h1 := h.call (Y := X.alloc o) ((Below.refl _ _).alloc (Nat.le_refl _) _)
  have hf : Fr vp.ownBlock.toList (X.alloc o) Y := ⟨hg.os, hg.tape, hg.output, hg.size, fun k hk hn => hg.block k hk (fun e => hn (by simp [← e]))⟩
  exact ⟨h1.low.trans (hf.below (fun k hk => own_ge h1.prt k (by simpa using hk)) h1.low.size), own_fr h1.out hf (fun k hk hm => own_ne h1.out h1.prt k hk (by simpa using hm)), ho⟩
/-- bytes of one's own put behind what is written -/
theorem Sb.app {W0 X Y : World} {vo vp vt : Value} {l m : List UInt8} {ps : List ByteArray} (h : Sb W0 X vo l vp ps) (hb : Below X.heap.size X Y) (ht : Y.ownsRow X.heap.size 5 1 vt m.length (m.map B)) (hl : l.length + m.length ≤ 140738562097152) :
    ∃ ot ct v' Z, vt = .slice ot m.length ct ∧ (Builtin.append_ #[27, 27] 27 #[vo, .slice ot m.length ct]).run Tryz.prog Y = .ok v' Z ∧ Sb W0 Z v' (l ++ m) vp ps := by
  have h1 := h.call hb
  obtain ⟨ot, ct, rfl⟩ := own_slice ht
  obtain ⟨v', Z, hrun, hown, hfr, hat⟩ := dr.append_rd Y W0.heap.size vo l h1.out ot ct m (rd_own ht) hl h1.low.size
  exact ⟨ot, ct, v', Z, rfl, hrun, h1.put (gr_of hfr hat) hown⟩
theorem lies_two (X : World) (s t : ByteArray) : Lies (X.alloc (.cells #[.string s, .string t] 9)) (.slice (some ⟨X.heap.size, 0, none⟩) 2 2) [s, t] := by
  refine ⟨_, 2, rfl, fun i hi => ⟨X.heap.size, 0, rfl, by simp, ?_⟩⟩
  have h := heap_alloc_new X (.cells #[.string s, .string t] 9 (0, 0))
  match i, hi with
  | 0, _ => exact cell_of h 0
  | 1, _ => exact cell_of h 1
theorem lies_one (X : World) (s : ByteArray) : Lies (X.alloc (.cells #[.string s] 9)) (.slice (some ⟨X.heap.size, 0, none⟩) 1 1) [s] := by
  refine ⟨_, 1, rfl, fun i hi => ⟨X.heap.size, 0, rfl, by simp, ?_⟩⟩
  have h := heap_alloc_new X (.cells #[.string s] 9 (0, 0))
  match i, hi with
  | 0, _ => exact cell_of h 0

def prts (r : Rec) : List ByteArray := (if nm r.k 1 then [r.id] else []) ++ ((if nm r.k 8 then [r.rd, r.ch] else []) ++ ((if nm r.k 32 then [r.cd] else []) ++ (if nm r.k 4 then [r.cl] else [])))
def docL (r : Rec) : List UInt8 := [UInt8.ofNat r.k.toNat] ++ ((prts r).flatMap txL ++ ((if nm r.k 64 then lsL r.ss else []) ++ ((if nm r.k 2 then txL r.us else []) ++ (if nm r.k 128 then numL r.at_.toNat else []))))

set_option maxRecDepth 100000 in
set_option maxHeartbeats 12800000 in
theorem bytesOf_any (r : Rec) (v : Value) (w : World) (hv : Lies w v r.ss) (h0 : 0 < r.k) (h1 : r.k < 12) (hl : r.Low) (hf : r.Fine) (ht : HTab w) :
    Calls Tryz.prog 36 #[.agg (rcs r v)] w fun e w' => ∃ v', e = .returned v' ∧ w'.ownsRow (w.heap.size + 1) 5 1 v' (docL r).length ((docL r).map B) ∧ Below w.heap.size w w' := by
  obtain ⟨k, hk⟩ : ∃ k : Nat, r.k = (k : Int) := ⟨r.k.toNat, by omega⟩
  obtain ⟨a, ha⟩ : ∃ a : Nat, r.at_ = (a : Int) := ⟨r.at_.toNat, by have := hf.at0; omega⟩
  have hk0 : 0 < k := by omega
  have hk12 : k < 12 := by omega
  have haa : a ≤ 9223372036854775807 := by have := hf.at1; omega
  obtain ⟨W0, hW0⟩ : ∃ W0, W0 = w.alloc (.cells (rcs r v) 26) := ⟨_, rfl⟩
  have hb0 : Below w.heap.size w W0 := by rw [hW0]; exact (Below.refl _ _).alloc (Nat.le_refl _) _
  have hs0 : W0.heap.size = w.heap.size + 1 := by rw [hW0]; simp
  have HC : Hid (∀ X, Below W0.heap.size W0 X → X.cell? ⟨w.heap.size, 0, none⟩ = some (.int .i64 (k : Int)) ∧ X.cell? ⟨w.heap.size, 1, none⟩ = some (.string r.id) ∧ X.cell? ⟨w.heap.size, 2, none⟩ = some (.string r.us) ∧ X.cell? ⟨w.heap.size, 3, none⟩ = some (.string r.cl) ∧ X.cell? ⟨w.heap.size, 4, none⟩ = some (.string r.rd) ∧ X.cell? ⟨w.heap.size, 5, none⟩ = some (.string r.ch) ∧ X.cell? ⟨w.heap.size, 6, none⟩ = some (.string r.cd) ∧ X.cell? ⟨w.heap.size, 7, none⟩ = some v ∧ X.cell? ⟨w.heap.size, 8, none⟩ = some (.int .i64 (a : Int))) := by
    have h := boxR w r v 26
    rw [← hW0] at h
    intro X hX
    have h2 := h X hX
    rw [hk, ha] at h2
    exact h2
  have HT : Hid (∀ X, Below W0.heap.size W0 X → X.cell? ⟨13, k, none⟩ = some (.bool (nm r.k 1)) ∧ X.cell? ⟨18, k, none⟩ = some (.bool (nm r.k 2)) ∧ X.cell? ⟨16, k, none⟩ = some (.bool (nm r.k 4)) ∧ X.cell? ⟨14, k, none⟩ = some (.bool (nm r.k 8)) ∧ X.cell? ⟨15, k, none⟩ = some (.bool (nm r.k 32)) ∧ X.cell? ⟨17, k, none⟩ = some (.bool (nm r.k 64)) ∧ X.cell? ⟨19, k, none⟩ = some (.bool (nm r.k 128))) := fun X hX => by
    have hh := ht.below (keepW hb0 hX)
    rw [hk, hh.t1 k hk12, hh.t2 k hk12, hh.t3 k hk12, hh.t4 k hk12, hh.t6 k hk12, hh.t7 k hk12, hh.t8 k hk12, tab_hasID k hk0 hk12, tab_hasUser k hk0 hk12, tab_hasClient k hk0 hk12, tab_hasRedirect k hk0 hk12, tab_hasCode k hk0 hk12, tab_hasScopes k hk0 hk12, tab_hasAt k hk0 hk12]
    exact ⟨rfl, rfl, rfl, rfl, rfl, rfl, rfl⟩
  have HV : Hid (∀ X, Below W0.heap.size W0 X → Lies X v r.ss) := fun X hX => hv.below (keepW hb0 hX)
  have HL := hide hl
  have hn : r.ss.length ≤ 16 := hf.len
  have HB0 := hide hb0
  have HW0 := hide hW0
  have HS0 := hide hs0
  have HOUT : Hid (∀ X vo vp ps, Sb W0 X vo (docL r) vp ps → ∃ v', vo = v' ∧ X.ownsRow (w.heap.size + 1) 5 1 v' (docL r).length ((docL r).map B) ∧ Below w.heap.size w X) := fun X vo vp ps h => ⟨vo, rfl, by rw [← hs0]; exact h.out, keepW hb0 h.low⟩
  have HDOC : Hid (docL r = [UInt8.ofNat k] ++ ((prts r).flatMap txL ++ ((if nm r.k 64 then lsL r.ss else []) ++ ((if nm r.k 2 then txL r.us else []) ++ (if nm r.k 128 then numL a else []))))) := by
    show docL r = _
    unfold docL
    rw [show r.k.toNat = k by omega, show r.at_.toNat = a by omega]
  have HPR : Hid (prts r = (if nm r.k 1 then [r.id] else []) ++ ((if nm r.k 8 then [r.rd, r.ch] else []) ++ ((if nm r.k 32 then [r.cd] else []) ++ (if nm r.k 4 then [r.cl] else [])))) := rfl
  have hkk : ((k : Int)) % 256 = (k : Int) := by omega
  have hB : Value.int .u8 (k : Int) = B (UInt8.ofNat k) := by show _ = Value.int .u8 _; rw [ofNat_val k (by omega)]
  have HS1 : Hid (Sb W0 (W0.alloc (.cells #[B (UInt8.ofNat k)] 5)) (.slice (some ⟨W0.heap.size, 0, none⟩) 1 1) [UInt8.ofNat k] (.slice none 0 0) []) := ⟨(Below.refl _ _).alloc (Nat.le_refl _) _, by
    have := World.ownsRow_lit (base := W0.heap.size) (e := 5) (size := 1) W0 #[B (UInt8.ofNat k)] 1 (Nat.le_refl _) (by decide) rfl
    simpa using this, World.ownsRow_nil _ _ _ _⟩
  have k0 : (0 : Int) ≤ (k : Int) := Int.natCast_nonneg _
  have k1 : (k : Int) < 12 := by omega
  generalize nm r.k 1 = b1 at *
  generalize nm r.k 2 = b2 at *
  generalize nm r.k 4 = b4 at *
  generalize nm r.k 8 = b8 at *
  generalize nm r.k 32 = b32 at *
  generalize nm r.k 64 = b64 at *
  generalize nm r.k 128 = b128 at *
  generalize hD : docL r = D at *
  generalize hP : prts r = P at *
  clear hD hP
  have c00 := (HC.out W0 (Below.refl _ _)).1
  rw [hW0] at c00
  clear hv h0 h1 hl hf ht hb0 hs0 hW0 hk ha
  go_enter Tryz.func36, Tryz.ntmps36
  go_upto_region 2 with fail
  rw [← HW0.out, hB]
  rw [HS0.out] at HS1
  obtain ⟨X0, hX0⟩ : ∃ X0, X0 = W0.alloc (.cells #[B (UInt8.ofNat k)] 5) := ⟨_, rfl⟩
  obtain ⟨p0, hp0⟩ : ∃ p0 : List ByteArray, p0 = [] := ⟨_, rfl⟩
  obtain ⟨l0, hl0⟩ : ∃ l0 : List UInt8, l0 = [UInt8.ofNat k] := ⟨_, rfl⟩
  obtain ⟨vp0, hvp0⟩ : ∃ vp0 : Value, vp0 = .slice none 0 0 := ⟨_, rfl⟩
  rw [← hX0, ← hp0, ← hl0] at HS1
  rw [← hX0]
  have HL0 := hide hl0
  have HP0 := hide hp0
  have hn0 : p0.length ≤ 1 := by rw [hp0]; simp
  have HA0 : Hid (∀ s ∈ p0, s.size ≤ 1048576) := by rw [hp0]; intro s hs; cases hs
  clear hX0 hp0 hl0 c00 hvp0
  have HS0 : Hid (Sb W0 X0 (.slice (some ⟨w.heap.size + 1, 0, none⟩) 1 1) l0 (.slice none 0 0) p0) := HS1
  obtain ⟨t1, t2, t4, t8, t32, t64, t128⟩ := HT.out X0 HS0.out.low
  obtain ⟨c0, c1, c2, c3, c4, c5, c6, c7, c8⟩ := HC.out X0 HS0.out.low
  have HPA : Hid ((X0.alloc (.cells #[.string r.id] 9)).ownsRow W0.heap.size 9 1 (.slice none 0 0) p0.length (sc p0)) := (HS0.out.call ((Below.refl _ _).alloc (Nat.le_refl _) _)).prt
  have hsz : W0.heap.size ≤ X0.heap.size := HS0.out.low.size
  go_upto_if 19 with fail
  go_cut [4] (fun vp wx => Sb W0 wx (.slice (some ⟨w.heap.size + 1, 0, none⟩) 1 1) l0 vp (p0 ++ if b1 then [r.id] else []))
  case first =>
    cases b1 with
    | false =>
      go_wp2_with fail
      go_meet
      case rel => simpa using HS0.out
    | true =>
      go_wp2_with (at_builtin; refine append_strs _ rfl _ _ rfl W0.heap.size _ p0 rfl HPA.out _ [r.id] rfl (lies_one _ r.id) ?c3 ?c4 ?c5 ?_)
      case c3 => unfold maxLen; first | omega | (simp; omega)
      case c4 => first | omega | (simp; omega)
      case c5 => first | omega | (simp; omega)
      intro v' Y own hg
      have HY : Hid (Sb W0 Y (.slice (some ⟨w.heap.size + 1, 0, none⟩) 1 1) l0 v' (p0 ++ [r.id])) := HS0.out.part hg (by simpa using own)
      clear own hg
      go_wp2_with fail
      go_meet
      case rel => exact HY.out
  clear t1 t2 t4 t8 t32 t64 t128 c0 c1 c2 c3 c4 c5 c6 c7 c8 HPA hsz HS0
  generalize u4 = vp1 at *
  generalize wc = X1 at *
  obtain ⟨p1, hp1⟩ : ∃ p1, p1 = p0 ++ (if b1 then [r.id] else []) := ⟨_, rfl⟩
  rw [← hp1] at hcut
  have hn1 : p1.length ≤ 2 := by rw [hp1]; cases b1 <;> simp <;> omega
  have HA1 : Hid (∀ s ∈ p1, s.size ≤ 1048576) := by
    rw [hp1]
    intro s hs
    rcases List.mem_append.1 hs with h | h
    · exact HA0.out s h
    · cases b1 with
      | false => cases h
      | true =>
        simp at h
        rw [h]; exact HL.out.id
  have HP1 := hide hp1
  have HS1 := hide hcut
  clear hcut hp1
  have HS1 : Hid (Sb W0 X1 (.slice (some ⟨w.heap.size + 1, 0, none⟩) 1 1) l0 vp1 p1) := HS1
  obtain ⟨t1, t2, t4, t8, t32, t64, t128⟩ := HT.out X1 HS1.out.low
  obtain ⟨c0, c1, c2, c3, c4, c5, c6, c7, c8⟩ := HC.out X1 HS1.out.low
  have HPA : Hid ((X1.alloc (.cells #[.string r.rd, .string r.ch] 9)).ownsRow W0.heap.size 9 1 vp1 p1.length (sc p1)) := (HS1.out.call ((Below.refl _ _).alloc (Nat.le_refl _) _)).prt
  have hsz : W0.heap.size ≤ X1.heap.size := HS1.out.low.size
  go_upto_if 28 with fail
  go_cut [4] (fun vp wx => Sb W0 wx (.slice (some ⟨w.heap.size + 1, 0, none⟩) 1 1) l0 vp (p1 ++ if b8 then [r.rd, r.ch] else []))
  case first =>
    cases b8 with
    | false =>
      go_wp2_with fail
      go_meet
      case rel => simpa using HS1.out
    | true =>
      go_wp2_with (at_builtin; refine append_strs _ rfl _ _ rfl W0.heap.size _ p1 rfl HPA.out _ [r.rd, r.ch] rfl (lies_two _ r.rd r.ch) ?c3 ?c4 ?c5 ?_)
      case c3 => unfold maxLen; first | omega | (simp; omega)
      case c4 => first | omega | (simp; omega)
      case c5 => first | omega | (simp; omega)
      intro v' Y own hg
      have HY : Hid (Sb W0 Y (.slice (some ⟨w.heap.size + 1, 0, none⟩) 1 1) l0 v' (p1 ++ [r.rd, r.ch])) := HS1.out.part hg (by simpa using own)
      clear own hg
      go_wp2_with fail
      go_meet
      case rel => exact HY.out
  clear t1 t2 t4 t8 t32 t64 t128 c0 c1 c2 c3 c4 c5 c6 c7 c8 HPA hsz HS1
  generalize u4 = vp2 at *
  generalize wc = X2 at *
  obtain ⟨p2, hp2⟩ : ∃ p2, p2 = p1 ++ (if b8 then [r.rd, r.ch] else []) := ⟨_, rfl⟩
  rw [← hp2] at hcut
  have hn2 : p2.length ≤ 4 := by rw [hp2]; cases b8 <;> simp <;> omega
  have HA2 : Hid (∀ s ∈ p2, s.size ≤ 1048576) := by
    rw [hp2]
    intro s hs
    rcases List.mem_append.1 hs with h | h
    · exact HA1.out s h
    · cases b8 with
      | false => cases h
      | true =>
        simp at h
        rcases h with rfl | rfl
        · exact HL.out.rd
        · exact HL.out.ch
  have HP2 := hide hp2
  have HS2 := hide hcut
  clear hcut hp2
  have HS2 : Hid (Sb W0 X2 (.slice (some ⟨w.heap.size + 1, 0, none⟩) 1 1) l0 vp2 p2) := HS2
  obtain ⟨t1, t2, t4, t8, t32, t64, t128⟩ := HT.out X2 HS2.out.low
  obtain ⟨c0, c1, c2, c3, c4, c5, c6, c7, c8⟩ := HC.out X2 HS2.out.low
  have HPA : Hid ((X2.alloc (.cells #[.string r.cd] 9)).ownsRow W0.heap.size 9 1 vp2 p2.length (sc p2)) := (HS2.out.call ((Below.refl _ _).alloc (Nat.le_refl _) _)).prt
  have hsz : W0.heap.size ≤ X2.heap.size := HS2.out.low.size
  go_upto_if 39 with fail
  go_cut [4] (fun vp wx => Sb W0 wx (.slice (some ⟨w.heap.size + 1, 0, none⟩) 1 1) l0 vp (p2 ++ if b32 then [r.cd] else []))
  case first =>
    cases b32 with
    | false =>
      go_wp2_with fail
      go_meet
      case rel => simpa using HS2.out
    | true =>
      go_wp2_with (at_builtin; refine append_strs _ rfl _ _ rfl W0.heap.size _ p2 rfl HPA.out _ [r.cd] rfl (lies_one _ r.cd) ?c3 ?c4 ?c5 ?_)
      case c3 => unfold maxLen; first | omega | (simp; omega)
      case c4 => first | omega | (simp; omega)
      case c5 => first | omega | (simp; omega)
      intro v' Y own hg
      have HY : Hid (Sb W0 Y (.slice (some ⟨w.heap.size + 1, 0, none⟩) 1 1) l0 v' (p2 ++ [r.cd])) := HS2.out.part hg (by simpa using own)
      clear own hg
      go_wp2_with fail
      go_meet
      case rel => exact HY.out
  clear t1 t2 t4 t8 t32 t64 t128 c0 c1 c2 c3 c4 c5 c6 c7 c8 HPA hsz HS2
  generalize u4 = vp3 at *
  generalize wc = X3 at *
  obtain ⟨p3, hp3⟩ : ∃ p3, p3 = p2 ++ (if b32 then [r.cd] else []) := ⟨_, rfl⟩
  rw [← hp3] at hcut
  have hn3 : p3.length ≤ 5 := by rw [hp3]; cases b32 <;> simp <;> omega
  have HA3 : Hid (∀ s ∈ p3, s.size ≤ 1048576) := by
    rw [hp3]
    intro s hs
    rcases List.mem_append.1 hs with h | h
    · exact HA2.out s h
    · cases b32 with
      | false => cases h
      | true =>
        simp at h
        rw [h]; exact HL.out.cd
  have HP3 := hide hp3
  have HS3 := hide hcut
  clear hcut hp3
  have HS3 : Hid (Sb W0 X3 (.slice (some ⟨w.heap.size + 1, 0, none⟩) 1 1) l0 vp3 p3) := HS3
  obtain ⟨t1, t2, t4, t8, t32, t64, t128⟩ := HT.out X3 HS3.out.low
  obtain ⟨c0, c1, c2, c3, c4, c5, c6, c7, c8⟩ := HC.out X3 HS3.out.low
  have HPA : Hid ((X3.alloc (.cells #[.string r.cl] 9)).ownsRow W0.heap.size 9 1 vp3 p3.length (sc p3)) := (HS3.out.call ((Below.refl _ _).alloc (Nat.le_refl _) _)).prt
  have hsz : W0.heap.size ≤ X3.heap.size := HS3.out.low.size
  go_upto_if 48 with fail
  go_cut [4] (fun vp wx => Sb W0 wx (.slice (some ⟨w.heap.size + 1, 0, none⟩) 1 1) l0 vp (p3 ++ if b4 then [r.cl] else []))
  case first =>
    cases b4 with
    | false =>
      go_wp2_with fail
      go_meet
      case rel => simpa using HS3.out
    | true =>
      go_wp2_with (at_builtin; refine append_strs _ rfl _ _ rfl W0.heap.size _ p3 rfl HPA.out _ [r.cl] rfl (lies_one _ r.cl) ?c3 ?c4 ?c5 ?_)
      case c3 => unfold maxLen; first | omega | (simp; omega)
      case c4 => first | omega | (simp; omega)
      case c5 => first | omega | (simp; omega)
      intro v' Y own hg
      have HY : Hid (Sb W0 Y (.slice (some ⟨w.heap.size + 1, 0, none⟩) 1 1) l0 v' (p3 ++ [r.cl])) := HS3.out.part hg (by simpa using own)
      clear own hg
      go_wp2_with fail
      go_meet
      case rel => exact HY.out
  clear t1 t2 t4 t8 t32 t64 t128 c0 c1 c2 c3 c4 c5 c6 c7 c8 HPA hsz HS3
  generalize u4 = vp4 at *
  generalize wc = X4 at *
  obtain ⟨p4, hp4⟩ : ∃ p4, p4 = p3 ++ (if b4 then [r.cl] else []) := ⟨_, rfl⟩
  rw [← hp4] at hcut
  have hn4 : p4.length ≤ 6 := by rw [hp4]; cases b4 <;> simp <;> omega
  have HA4 : Hid (∀ s ∈ p4, s.size ≤ 1048576) := by
    rw [hp4]
    intro s hs
    rcases List.mem_append.1 hs with h | h
    · exact HA3.out s h
    · cases b4 with
      | false => cases h
      | true =>
        simp at h
        rw [h]; exact HL.out.cl
  have HP4 := hide hp4
  have HS4 := hide hcut
  clear hcut hp4
  obtain ⟨o4, cp4, rfl⟩ := own_slice HS4.out.prt
  have HPP : Hid (p4 = P) := by
    show p4 = P
    rw [HP4.out, HP3.out, HP2.out, HP1.out, HP0.out, HPR.out]
    simp
  have hl0 : l0.length ≤ 1 := by rw [HL0.out]; simp
  have HFL : Hid (∀ j, ((p4.take j).flatMap txL).length ≤ 6 * (1048576 + 10)) := fun j => by
    have h1 := flat_len (p4.take j) 1048576 (fun s hs' => HA4.out s (List.mem_of_mem_take hs'))
    have h2 : (p4.take j).length ≤ 6 := by rw [List.length_take]; omega
    exact Nat.le_trans h1 (Nat.mul_le_mul_right _ h2)
  clear HP4 HP3 HP2 HP1 HP0 HPR
  go_wp2_with fail
  go_loopw [3, 5] (fun vo i wr => ∃ j : Nat, j ≤ p4.length ∧ i = .int .i64 j ∧ Sb W0 wr vo (l0 ++ (p4.take j).flatMap txL) (.slice o4 p4.length cp4) p4) (fun _ i _ => p4.length - (intOf i).toNat)
  case atStart => exact ⟨0, Nat.zero_le _, rfl, by simpa using HS4.out⟩
  case round =>
    obtain ⟨j, hj, rfl, hs⟩ := hrel
    have hlj : (l0 ++ (p4.take j).flatMap txL).length ≤ 6 * (1048576 + 10) + 1 := by have := HFL.out j; rw [List.length_append]; omega
    obtain ⟨lj, hljE⟩ : ∃ lj, lj = l0 ++ (p4.take j).flatMap txL := ⟨_, rfl⟩
    rw [← hljE] at hs hlj
    obtain ⟨oj, cj, rfl⟩ := own_slice hs.out
    have HSJ := hide hs
    by_cases hlt : j < p4.length
    · have j0 : (0 : Int) ≤ (j : Int) := Int.natCast_nonneg _
      have j1 : (j : Int) < (p4.length : Int) := by omega
      obtain ⟨_, _, hvv, hcc⟩ := lies_of_own hs.prt
      cases hvv
      obtain ⟨g, o, rfl, hg, c0⟩ := hcc j hlt
      have HTX := hide (refText_any p4[j] wr (Nat.le_trans (HA4.out _ (List.getElem_mem hlt)) (by decide)))
      have htl := txL_len p4[j]
      have hts := HA4.out _ (List.getElem_mem hlt)
      have HTK : Hid (lj ++ txL p4[j] = l0 ++ (p4.take (j + 1)).flatMap txL) := by
        show _ = _
        rw [List.take_succ_eq_append_getElem hlt, List.flatMap_append, hljE]
        simp
      have HLJ := hide hljE
      generalize p4[j]'hlt = s at *
      clear hs hcc hljE
      go_wp2_with fail
      refine HTX.out.mono ?_
      rintro x w1 ⟨vt, rfl, hown, b1⟩
      obtain ⟨ot, ct, v', Z, rfl, hrun, hsb⟩ := HSJ.out.app b1 hown (by omega)
      have HZ : Hid (Sb W0 Z v' (l0 ++ (p4.take (j + 1)).flatMap txL) (.slice (some ⟨g, o, none⟩) p4.length cp4) p4) := by
        show Sb _ _ _ _ _ _
        rw [← HTK.out]; exact hsb
      clear hown b1 hsb
      go_wp2_with (at_builtin; refine wpList_appendX rfl _ _ 27 27 rfl _ _ rfl rfl _ _ hrun ?_)
      go_roundw
      case rel => exact ⟨j + 1, by omega, by go_num, HZ.out⟩
      case measure => simp [intOf]; omega
    · have j1 : ¬ (j : Int) < (p4.length : Int) := by omega
      have HLJ : Hid (lj = l0 ++ P.flatMap txL) := by
        show lj = _
        rw [hljE, List.take_of_length_le (by omega), HPP.out]
      clear hs hljE HFL HA4 hn4 HS4
      obtain ⟨ov, cv, rfl⟩ := Lies.len (HV.out wr HSJ.out.low)
      have hls : (lsL r.ss).length ≤ 10 + 16 * (1048576 + 10) := by
        unfold lsL
        have h3 := flat_len r.ss 1048576 HL.out.ss
        have h4 : (numL r.ss.length).length ≤ 10 := (numF_len 9 r.ss.length).2
        have h5 := Nat.mul_le_mul_right (1048576 + 10) hn
        rw [List.length_append]
        omega
      have hnl : (numL r.ss.length).length ≤ 10 := (numF_len 9 r.ss.length).2
      have HFS : Hid (∀ i, ((r.ss.take i).flatMap txL).length ≤ 16 * (1048576 + 10)) := fun i => by
        have h1 := flat_len (r.ss.take i) 1048576 (fun s hs' => HL.out.ss s (List.mem_of_mem_take hs'))
        have h2 : (r.ss.take i).length ≤ 16 := by rw [List.length_take]; omega
        exact Nat.le_trans h1 (Nat.mul_le_mul_right _ h2)
      have hus : (txL r.us).length ≤ 1048586 := by have := txL_len r.us; have := HL.out.us; omega
      have hna : (numL a).length ≤ 10 := (numF_len 9 a).2
      have HNM := hide (refNumber_any r.ss.length wr (by omega))
      obtain ⟨t1, t2, t4, t8, t32, t64, t128⟩ := HT.out wr HSJ.out.low
      obtain ⟨c0, c1, c2, c3, c4, c5, c6, c7, c8⟩ := HC.out wr HSJ.out.low
      go_upto_if 71 with fail
      go_cut [3] (fun vo wx => Sb W0 wx vo (lj ++ if b64 then lsL r.ss else []) (.slice o4 p4.length cp4) p4)
      case first =>
        cases b64 with
        | false =>
          go_wp2_with fail
          go_meet
          case rel => simpa using HSJ.out
        | true =>
          go_wp2_with fail
          refine HNM.out.mono ?_
          rintro x w1 ⟨vt, rfl, hown, b1⟩
          obtain ⟨ot, ct, v', Z, rfl, hrun, hsb⟩ := HSJ.out.app b1 hown (by omega)
          obtain ⟨oz, cz, rfl⟩ := own_slice hsb.out
          obtain ⟨nz, hnz⟩ : ∃ nz, nz = (lj ++ numL r.ss.length).length := ⟨_, rfl⟩
          have d7 := (HC.out Z hsb.low).2.2.2.2.2.2.2.1
          have HZ := hide hsb
          rw [← hnz] at hrun HZ
          clear hown b1 hsb hnz
          go_wp2_with (at_builtin; refine wpList_appendX rfl _ _ 27 27 rfl _ _ rfl rfl _ _ hrun ?_)
          clear hrun
          go_loopw [3, 8] (fun vo i wr => ∃ j : Nat, j ≤ r.ss.length ∧ i = .int .i64 j ∧ Sb W0 wr vo (lj ++ numL r.ss.length ++ (r.ss.take j).flatMap txL) (.slice o4 p4.length cp4) p4) (fun _ i _ => r.ss.length - (intOf i).toNat)
          case atStart => exact ⟨0, Nat.zero_le _, rfl, by simpa using HZ.out⟩
          case round =>
            obtain ⟨i, hi, rfl, hs⟩ := hrel
            have hli : (lj ++ numL r.ss.length ++ (r.ss.take i).flatMap txL).length ≤ 30000000 := by have := HFS.out i; rw [List.length_append, List.length_append]; omega
            obtain ⟨li, hliE⟩ : ∃ li, li = lj ++ numL r.ss.length ++ (r.ss.take i).flatMap txL := ⟨_, rfl⟩
            rw [← hliE] at hs hli
            obtain ⟨oi, ci, rfl⟩ := own_slice hs.out
            have HSI := hide hs
            have e7 := (HC.out wr hs.low).2.2.2.2.2.2.2.1
            by_cases hlt : i < r.ss.length
            · have j0 : (0 : Int) ≤ (i : Int) := Int.natCast_nonneg _
              have j1 : (i : Int) < (r.ss.length : Int) := by omega
              obtain ⟨_, _, hvv, hcc⟩ := HV.out wr hs.low
              cases hvv
              obtain ⟨g, o, rfl, hg, c0⟩ := hcc i hlt
              have HTX := hide (refText_any r.ss[i] wr (Nat.le_trans (HL.out.ss _ (List.getElem_mem hlt)) (by decide)))
              have htl := txL_len r.ss[i]
              have hts := HL.out.ss _ (List.getElem_mem hlt)
              have HTK : Hid (li ++ txL r.ss[i] = lj ++ numL r.ss.length ++ (r.ss.take (i + 1)).flatMap txL) := by
                show _ = _
                rw [List.take_succ_eq_append_getElem hlt, List.flatMap_append, hliE]
                simp
              have HLI := hide hliE
              generalize r.ss[i]'hlt = s at *
              clear hs hcc hliE
              go_wp2_with fail
              refine HTX.out.mono ?_
              rintro x w1 ⟨vt, rfl, hown, b1⟩
              obtain ⟨ot, ct, v', Z, rfl, hrun, hsb⟩ := HSI.out.app b1 hown (by omega)
              have HZ2 : Hid (Sb W0 Z v' (lj ++ numL r.ss.length ++ (r.ss.take (i + 1)).flatMap txL) (.slice o4 p4.length cp4) p4) := by
                show Sb _ _ _ _ _ _
                rw [← HTK.out]; exact hsb
              clear hown b1 hsb
              go_wp2_with (at_builtin; refine wpList_appendX rfl _ _ 27 27 rfl _ _ rfl rfl _ _ hrun ?_)
              go_roundw
              case rel => exact ⟨i + 1, by omega, by go_num, HZ2.out⟩
              case measure => simp [intOf]; omega
            · have j1 : ¬ (i : Int) < (r.ss.length : Int) := by omega
              have HLI : Hid (li = lj ++ lsL r.ss) := by
                show li = _
                rw [hliE, List.take_of_length_le (by omega), List.append_assoc]
                rfl
              clear hs hliE
              go_wp2_with fail
              go_meet
              case rel =>
                show Sb W0 wr _ (lj ++ lsL r.ss) _ _
                rw [← HLI.out]
                exact HSI.out
      clear t1 t2 t4 t8 t32 t64 t128 c0 c1 c2 c3 c4 c5 c6 c7 c8
      generalize u3 = vq1 at *
      generalize wc = Y1 at *
      have hm1 : (lj ++ if b64 then lsL r.ss else []).length ≤ 30000000 := by rw [List.length_append]; cases b64 <;> simp <;> omega
      obtain ⟨m1, hmE1⟩ : ∃ m1, m1 = lj ++ (if b64 then lsL r.ss else []) := ⟨_, rfl⟩
      rw [← hmE1] at hcut hm1
      obtain ⟨q1, r1, rfl⟩ := own_slice hcut.out
      have HM1 := hide hmE1
      have HQ1 := hide hcut
      clear hcut hmE1
      obtain ⟨t1, t2, t4, t8, t32, t64, t128⟩ := HT.out Y1 HQ1.out.low
      obtain ⟨c0, c1, c2, c3, c4, c5, c6, c7, c8⟩ := HC.out Y1 HQ1.out.low
      have HTU := hide (refText_any r.us Y1 (Nat.le_trans HL.out.us (by decide)))
      go_upto_if 98 with fail
      go_cut [3] (fun vo wx => Sb W0 wx vo (m1 ++ if b2 then txL r.us else []) (.slice o4 p4.length cp4) p4)
      case first =>
        cases b2 with
        | false =>
          go_wp2_with fail
          go_meet
          case rel => simpa using HQ1.out
        | true =>
          go_wp2_with fail
          refine HTU.out.mono ?_
          rintro x w1 ⟨vt, rfl, hown, b1⟩
          obtain ⟨ot, ct, v', Z, rfl, hrun, hsb⟩ := HQ1.out.app b1 hown (by omega)
          have HZ := hide hsb
          clear hown b1 hsb
          go_wp2_with (at_builtin; refine wpList_appendX rfl _ _ 27 27 rfl _ _ rfl rfl _ _ hrun ?_)
          go_meet
          case rel => exact HZ.out
      clear t1 t2 t4 t8 t32 t64 t128 c0 c1 c2 c3 c4 c5 c6 c7 c8
      generalize u3 = vq2 at *
      generalize wc = Y2 at *
      have hm2 : (m1 ++ if b2 then txL r.us else []).length ≤ 32000000 := by rw [List.length_append]; cases b2 <;> simp <;> omega
      obtain ⟨m2, hmE2⟩ : ∃ m2, m2 = m1 ++ (if b2 then txL r.us else []) := ⟨_, rfl⟩
      rw [← hmE2] at hcut hm2
      obtain ⟨q2, r2, rfl⟩ := own_slice hcut.out
      have HM2 := hide hmE2
      have HQ2 := hide hcut
      clear hcut hmE2
      obtain ⟨t1, t2, t4, t8, t32, t64, t128⟩ := HT.out Y2 HQ2.out.low
      obtain ⟨c0, c1, c2, c3, c4, c5, c6, c7, c8⟩ := HC.out Y2 HQ2.out.low
      have HNA := hide (refNumber_any a Y2 haa)
      go_upto_if 108 with fail
      go_cut [3] (fun vo wx => Sb W0 wx vo (m2 ++ if b128 then numL a else []) (.slice o4 p4.length cp4) p4)
      case first =>
        cases b128 with
        | false =>
          go_wp2_with fail
          go_meet
          case rel => simpa using HQ2.out
        | true =>
          go_wp2_with fail
          refine HNA.out.mono ?_
          rintro x w1 ⟨vt, rfl, hown, b1⟩
          obtain ⟨ot, ct, v', Z, rfl, hrun, hsb⟩ := HQ2.out.app b1 hown (by omega)
          have HZ := hide hsb
          clear hown b1 hsb
          go_wp2_with (at_builtin; refine wpList_appendX rfl _ _ 27 27 rfl _ _ rfl rfl _ _ hrun ?_)
          go_meet
          case rel => exact HZ.out
      clear t1 t2 t4 t8 t32 t64 t128 c0 c1 c2 c3 c4 c5 c6 c7 c8
      generalize u3 = vq3 at *
      generalize wc = Y3 at *
      have hm3 : (m2 ++ if b128 then numL a else []).length ≤ 33000000 := by rw [List.length_append]; cases b128 <;> simp <;> omega
      obtain ⟨m3, hmE3⟩ : ∃ m3, m3 = m2 ++ (if b128 then numL a else []) := ⟨_, rfl⟩
      rw [← hmE3] at hcut hm3
      obtain ⟨q3, r3, rfl⟩ := own_slice hcut.out
      have HM3 := hide hmE3
      have HQ3 := hide hcut
      clear hcut hmE3
      have HEND := hide (HOUT.out Y3 (.slice q3 m3.length r3) (.slice o4 p4.length cp4) p4 (by
        have h := HQ3.out
        have e : m3 = D := by rw [HM3.out, HM2.out, HM1.out, HLJ.out, HL0.out, HDOC.out]; simp
        rw [e] at h ⊢
        exact h))
      go_wp2_with fail
      go_ret
      obtain ⟨v9, h9, o9⟩ := HEND.out
      exact ⟨v9, by rw [← h9]; rfl, o9⟩
end Go.Proofs.YtimbhneegphhbaaGreatDoor.rc
