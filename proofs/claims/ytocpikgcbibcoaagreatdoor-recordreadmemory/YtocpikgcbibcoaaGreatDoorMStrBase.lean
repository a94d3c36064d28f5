import Derived.Test.YtocpikgcbibcoaaGreatDoorMRdKit
import Derived.Maps.AppendAt
import Derived.Deep.DeepAppendWide
import Derived.Deep.RegionLaw
import Derived.Deep.AppendLies
import Derived.Test.YtocpikgcbibcoaaGreatDoorRows
import Derived.Deep.MidRow
import Derived.WalkKit
import Derived.WalkSpells
import Derived.WalkLawsBesides
import Derived.Outline
import Derived.Laws.BitsAllLaws
import Derived.Laws.IdiomStrings
import Derived.Deep.OwnRows
import Derived.Below
import Derived.Deep.RegionHeld3
import Derived.Deep.QuietTactic
import Derived.BigQuiet
import Derived.Deep.DrawnRows
namespace Go.Proofs.YtocpikgcbibcoaaGreatDoor.rc
open Go.ChangeShapes Go.WideShapes Go.ChangeAt Go.RowKit Go.Proofs.YtocpikgcbibcoaaGreatDoor.common Go.Proofs.YtocpikgcbibcoaaGreatDoor.dk

/-- a number in groups of seven bits -/
def numF : Nat → Nat → List UInt8
  | 0, n => [UInt8.ofNat n]
  | f + 1, n => if n < 128 then [UInt8.ofNat n] else UInt8.ofNat (128 + n % 128) :: numF f (n / 128)
def numL (n : Nat) : List UInt8 := numF 9 n
theorem numF_small (f n : Nat) (h : n < 128) : numF f n = [UInt8.ofNat n] := by
  cases f with
  | zero => rfl
  | succ f => simp [numF, h]
theorem numF_big (f n : Nat) (h : ¬ n < 128) : numF (f + 1) n = UInt8.ofNat (128 + n % 128) :: numF f (n / 128) := by simp [numF, h]
theorem numF_len (f n : Nat) : 0 < (numF f n).length ∧ (numF f n).length ≤ f + 1 := by
  induction f generalizing n with
  | zero => simp [numF]
  | succ f ih =>
    by_cases h : n < 128
    · simp [numF, h]
    · have := ih (n / 128)
      simp [numF, h]
      omega
theorem or128 (n : Nat) : bits .or .u8 128 ((n % 128 : Nat) : Int) = ((UInt8.ofNat (128 + n % 128)).toNat : Int) := by
  have h : ∀ m : Fin 128, bits .or .u8 128 ((m.val : Nat) : Int) = ((UInt8.ofNat (128 + m.val)).toNat : Int) := by decide +kernel
  exact h ⟨n % 128, Nat.mod_lt _ (by decide)⟩
theorem ofNat_val (n : Nat) (h : n < 256) : ((UInt8.ofNat n).toNat : Int) = (n : Int) := by rw [UInt8.toNat_ofNat']; omega

/-- a row that has grown: all but its own block is as it was; it lies in that block or in a new one -/
structure Gr (v v' : Value) (w w' : World) : Prop where
  fr : Fr v.ownBlock.toList w w'
  loc : ∀ k, v'.ownBlock = some k → v.ownBlock = some k ∨ w.heap.size ≤ k
theorem Gr.refl (v : Value) (w : World) : Gr v v w w := ⟨Fr.refl _ _, fun _ h => Or.inl h⟩
theorem Gr.trans {v v1 v2 : Value} {w w1 w2 : World} (h : Gr v v1 w w1) (k : Gr v1 v2 w1 w2) : Gr v v2 w w2 := by
  refine ⟨h.fr.trans k.fr (fun i hi => ?_), fun i hi => ?_⟩
  · rcases h.loc i (by simpa using hi) with h1 | h1
    · exact Or.inl (by simp [h1])
    · exact Or.inr h1
  · rcases k.loc i hi with h1 | h1
    · exact h.loc i h1
    · exact Or.inr (Nat.le_trans h.fr.size h1)
theorem gr_append {u v' : Value} {wr w1 : World} {tmp : Obj} (hg : (wr.alloc tmp).grownBy w1 u.ownBlock) (hat : v'.ownBlock = u.ownBlock ∨ v'.ownBlock = some (wr.alloc tmp).heap.size) : Gr u v' wr w1 := by
  have hz : (wr.alloc tmp).heap.size = wr.heap.size + 1 := by simp
  refine ⟨⟨hg.os, hg.tape, hg.output, by have := hg.size; omega, fun k hk hn => ?_⟩, fun k hk => ?_⟩
  · rw [hg.block k (by omega) (fun e => hn (by simp [← e])), Below.heap_alloc wr tmp k hk]
  · rcases hat with h | h
    · exact Or.inl (by rw [← h]; exact hk)
    · rw [h] at hk; cases hk; exact Or.inr (by omega)
theorem Gr.below {v v' : Value} {w w' : World} {base : Nat} (h : Gr v v' w w') (hv : ∀ k, v.ownBlock = some k → base ≤ k) (hb : base ≤ w.heap.size) : Below base w w' := h.fr.below (fun k hk => hv k (by simpa using hk)) hb

set_option maxRecDepth 100000 in
set_option maxHeartbeats 3200000 in
theorem appendNumber_any (v : Value) (l : List UInt8) (n base : Nat) (w : World) (hv : w.ownsRow base 5 1 v l.length (l.map B)) (hb : base ≤ w.heap.size) (hn : n ≤ 9223372036854775807) (hl : l.length ≤ 140737488355000) :
    Calls Tryz.prog 20 #[v, .int .i64 (n : Int)] w fun e w' => ∃ v', e = .returned v' ∧ w'.ownsRow base 5 1 v' (l ++ numL n).length ((l ++ numL n).map B) ∧ Gr v v' w w' := by
  obtain ⟨i0, hi, hz0, hz1, hz2⟩ := info_parts info8
  have HV := hide hv
  clear hv
  have HB0 := hide hb
  go_enter Tryz.func20, Tryz.ntmps20
  go_wp2
  go_loopw [0, 1] (fun u k wr => ∃ (c f : Nat) (d : List UInt8), c ≤ n ∧ c < 128 ^ (f + 1) ∧ f ≤ 9 ∧ d.length + f ≤ 9 ∧ k = .int .i64 (c : Int) ∧ numL n = d ++ numF f c ∧ wr.ownsRow base 5 1 u (l ++ d).length ((l ++ d).map B) ∧ Gr v u w wr ∧ base ≤ wr.heap.size) (fun _ k _ => (intOf k).toNat)
  case atStart => exact ⟨n, 9, [], Nat.le_refl _, by omega, Nat.le_refl _, by simp, rfl, rfl, by rw [List.append_nil]; exact HV.out, Gr.refl _ _, HB0.out⟩
  case round =>
    obtain ⟨c, f, d, hcn, hcf, hf9, hdf, rfl, hnm, hown, hnx, hsz⟩ := hrel
    have HX := hide hnx
    have hll : (l ++ d).length ≤ 140737488355100 := by rw [List.length_append]; omega
    have HNM := hide hnm
    generalize hL : l ++ d = L at *
    have HL := hide hL
    obtain ⟨ou, cu, rfl⟩ : ∃ ou cu, u0 = .slice ou L.length cu := by
      rcases hown.2 with ⟨h1, h0⟩ | ⟨g, cap, cur, h1, _⟩
      · exact ⟨none, 0, by rw [h1, h0]⟩
      · exact ⟨_, cap, h1⟩
    have HO := hide hown
    clear hown hnx hnm hL
    by_cases hlt : c < 128
    · have k1 : ¬ (128 : Int) ≤ (c : Int) := by omega
      have hcc : ((c : Int)) % 256 = (c : Int) := by omega
      have hB : Value.int .u8 (c : Int) = B (UInt8.ofNat c) := by show _ = Value.int .u8 _; rw [ofNat_val c (by omega)]
      go_wp2_with (at_builtin; refine wpList_append_own_at _ rfl _ _ 27 rfl base 5 i0 (.int .u8 0) 1 1 Tryz.underlying27 hi hz0 hz1 hz2 rfl (by decide) _ _ _ rfl (HO.out.alloc _) ⟨wr.heap.size, 0, none⟩ 1 1 [.int .u8 (c : Int)] rfl rfl ?c1 ?c2 ?c3 ?c4 ?c5 ?_)
      try (case c1 => first | exact fun j u h => h | exact cell_one_new _ _ _)
      try (case c2 => first | rfl | (intro u hu; simp at hu; subst hu; rfl))
      try (case c3 => unfold maxLen; omega)
      try (case c4 => omega)
      try (case c5 => first | omega | (simp; omega))
      intro v' w1 hown' hgrow _ hat
      have R1 : Hid (w1.ownsRow base 5 1 v' (l ++ numL n).length ((l ++ numL n).map B)) := by
        show World.ownsRow _ _ _ _ _ _ _
        rw [HNM.out, numF_small f c hlt, ← List.append_assoc, HL.out, List.length_append, List.map_append]
        exact hown'
      have R2 : Hid (Gr v v' w w1) := HX.out.trans (gr_append hgrow (by simpa using hat))
      clear hown' hgrow HO hat
      go_wp2
      go_ret
      exact ⟨v', rfl, R1.out, R2.out⟩
    · have k1 : (128 : Int) ≤ (c : Int) := by omega
      cases f with
      | zero => exact absurd hcf (by simp; omega)
      | succ f =>
      obtain ⟨m, hm⟩ : ∃ m, m = c % 128 := ⟨_, rfl⟩
      have hm1 : (c : Int) % 128 = (m : Int) := by omega
      have hm2 : (m : Int) % 256 = (m : Int) := by omega
      have hor : bits .or .u8 128 (m : Int) = ((UInt8.ofNat (128 + c % 128)).toNat : Int) := by rw [hm]; exact or128 c
      have hq : (c : Int) / 128 = ((c / 128 : Nat) : Int) := by omega
      have hq2 : c / 128 < c := Nat.div_lt_self (by omega) (by decide)
      have hq3 : c / 128 < 128 ^ (f + 1) := by
        rw [Nat.div_lt_iff_lt_mul (by decide), ← Nat.pow_succ]; exact hcf
      have HNB := hide (numF_big f c hlt)
      generalize c / 128 = q at *
      generalize UInt8.ofNat (128 + c % 128) = x at *
      have HM := hide hm
      clear hm
      go_wp2_with (at_builtin; refine wpList_append_own_at _ rfl _ _ 27 rfl base 5 i0 (.int .u8 0) 1 1 Tryz.underlying27 hi hz0 hz1 hz2 rfl (by decide) _ _ _ rfl (HO.out.alloc _) ⟨wr.heap.size, 0, none⟩ 1 1 [B x] rfl rfl ?d1 ?d2 ?d3 ?d4 ?d5 ?_)
      try (case d1 => first | exact fun j u h => h | exact cell_one_new _ _ _)
      try (case d2 => first | rfl | (intro u hu; simp at hu; subst hu; rfl))
      try (case d3 => unfold maxLen; omega)
      try (case d4 => omega)
      try (case d5 => first | omega | (simp; omega))
      intro v' w1 hown' hgrow _ hat
      have R1 : Hid (w1.ownsRow base 5 1 v' (l ++ (d ++ [x])).length ((l ++ (d ++ [x])).map B)) := by
        show World.ownsRow _ _ _ _ _ _ _
        rw [← List.append_assoc, HL.out, List.length_append, List.map_append]
        exact hown'
      have R2 : Hid (Gr v v' w w1) := HX.out.trans (gr_append hgrow (by simpa using hat))
      have R3 : Hid (base ≤ w1.heap.size) := by
        have := hgrow.size
        simp at this
        show _ ≤ _
        omega
      clear hown' hgrow HO hat
      go_wp2
      go_roundw
      case rel => exact ⟨q, f, d ++ [x], by omega, hq3, by omega, by simp; omega, by go_num, by rw [HNM.out, HNB.out]; simp, R1.out, R2.out, R3.out⟩
      case measure => simp [intOf]; omega
end Go.Proofs.YtocpikgcbibcoaaGreatDoor.rc

namespace Go.Proofs.YtocpikgcbibcoaaGreatDoor.dk
open Go.ChangeShapes Go.WideShapes Go.ChangeAt Go.RowKit Go.Proofs.YtocpikgcbibcoaaGreatDoor.common

theorem append_text (w : World) (base : Nat) (v : Value) (l : List UInt8) (h : w.ownsRow base 5 1 v l.length (l.map B)) (t : ByteArray) (hb : l.length + t.size ≤ 140738562097152) (hbase : base ≤ w.heap.size) :
    ∃ v' W', (Builtin.append_ #[27, 9] 27 #[v, .string t]).run Tryz.prog w = .ok v' W' ∧ W'.ownsRow base 5 1 v' (l ++ t.data.toList).length ((l ++ t.data.toList).map B) ∧ Fr v.ownBlock.toList w W' ∧ (v'.ownBlock = v.ownBlock ∨ ∃ g, v'.ownBlock = some g ∧ w.heap.size ≤ g) := by
  obtain ⟨i0, hi, hz0, hz1, hz2⟩ := info_parts info8
  have hts : t.data.toList.length = t.size := by rw [Array.length_toList]; rfl
  have hbc : byteCells t = t.data.toList.map B := rfl
  have hsrc : Src Tryz.prog i0.size 9 (.string t) t.size (byteCells t) w := by rw [hz1]; exact Src.ofString w Tryz.underlying9 t
  have hlen : (byteCells t).length = t.size := byteCells_length t
  rcases h.2 with ⟨rfl, h0⟩ | ⟨g, cap, cur, rfl, h1, h2, h3, h4, h5, h6⟩
  · obtain rfl : l = [] := List.eq_nil_of_length_eq_zero h0
    by_cases ht : t.size = 0
    · have htn : t.data.toList = [] := List.eq_nil_of_length_eq_zero (by omega)
      refine ⟨.slice none 0 0, w, ?_, by rw [htn]; exact h, Fr.refl _ _, Or.inl rfl⟩
      have : t = ⟨#[]⟩ := by
        apply ByteArray.ext
        apply Array.toList_inj.1
        exact htn
      rw [this]
      simp [Builtin.append_, run_underlying (P := Tryz.prog) Tryz.underlying27, run_underlying (P := Tryz.prog) Tryz.underlying9, sizeOf, typeInfo, hi, Builtin.lenOf, Builtin.firstCells]
      rw [if_pos (show (⟨#[]⟩ : ByteArray) = ByteArray.empty from rfl)]
      rfl
    · have hold : (Builtin.firstCells i0.size 0 (.slice none 0 0)).run Tryz.prog w.drew = .ok ([] : List Value).toArray w.drew := run_firstCells_none w.drew i0.size 0 0 0
      have hrun := run_append_grow_src (P := Tryz.prog) w 27 9 27 5 i0 _ Tryz.underlying27 hi hz0 none 0 0 [] hold _ t.size _ hsrc (by omega) (by omega) (growslice_fits_wide (by omega) (by rw [hz2]; simp at hb; omega))
      have hge := grownCap_ge w (0 + t.size) 0 5
      have hle := grownCap_le_maxLen w (0 + t.size) 0 5 (by unfold maxLen; simp at hb; omega)
      refine ⟨_, _, hrun, ?_, (((Fr.refl _ w).drew).alloc _), Or.inr ⟨w.heap.size, rfl, Nat.le_refl _⟩⟩
      simp only [List.nil_append]
      rw [hts]
      have e0 : 0 + t.size = t.size := Nat.zero_add _
      rw [e0] at hge hle ⊢
      refine ⟨by rw [List.length_map, hts, Nat.mul_one], Or.inr ⟨w.heap.size, _, _, rfl, hbase, heap_alloc_new _ _, hge, hle, ?_, ?_⟩⟩
      · rw [Array.size_append, size_zeroCells, List.size_toArray, hlen]
        show t.size + (_ - _) * 1 = _
        omega
      · rw [Array.toList_append, List.toList_toArray, hbc]
        exact List.take_left' (by rw [List.length_map, hts, Nat.mul_one])
  · have hl : (l.map B).length = l.length := List.length_map ..
    by_cases hroom : l.length + t.size ≤ cap
    · have hrun := run_append_room_src (P := Tryz.prog) w 27 9 27 5 i0 Tryz.underlying27 hi g 0 l.length cap _ t.size _ hsrc hroom
        (fun j hj => by
          rw [hlen] at hj
          have : 0 + l.length * i0.size + j < cur.size := by rw [hz1, h5]; omega
          rw [cell_of h2, Array.getElem?_eq_getElem this]; rfl) (fun j hj => free_of h2 _)
      rw [hz1, Nat.zero_add, Nat.mul_one] at hrun
      have hc2 : w.heap[g]? = some (.cells cur.toList.toArray 5 (0, 0)) := by rw [Array.toArray_toList]; exact h2
      have hcl : cur.toList.length = cap * 1 := (Array.length_toList (xs := cur)).trans h5
      have hst := sets_here hc2 (byteCells t) l.length (by rw [hlen, hcl]; omega)
      refine ⟨_, _, hrun, ⟨by rw [List.length_map, Nat.mul_one], Or.inr ⟨g, cap, _, by rw [List.length_append, hts], h1, hst, by rw [List.length_append, hts]; exact hroom, h4, ?_, ?_⟩⟩, (Fr.refl _ w).sets g _ _ (Or.inl (by simp [Value.ownBlock])), Or.inl rfl⟩
      · rw [List.size_toArray, List.length_append, List.length_append, List.length_take, List.length_drop, hlen, hcl]; omega
      · rw [Nat.mul_one] at h6
        rw [List.toList_toArray, h6, ← List.append_assoc, List.map_append, hbc]
        exact List.take_left' (by rw [← List.map_append, List.length_map, Nat.mul_one])
    · have hcells : ∀ j u, (l.map B)[j]? = some u → w.cell? ((⟨g, 0, none⟩ : Addr).add j) = some u := h.cells (g := g) rfl
      have hold : (Builtin.firstCells i0.size l.length (.slice (some ⟨g, 0, none⟩) l.length cap)).run Tryz.prog w.drew = .ok (l.map B).toArray w.drew := run_firstCells_some w.drew i0.size l.length _ l.length cap (l.map B) (by rw [hl, hz1, Nat.mul_one]) hcells
      have hrun := run_append_grow_src (P := Tryz.prog) w 27 9 27 5 i0 _ Tryz.underlying27 hi hz0 (some ⟨g, 0, none⟩) l.length cap (l.map B) hold _ t.size _ hsrc (by omega) (by omega) (growslice_fits_wide (by omega) (by rw [hz2]; omega))
      have hge := grownCap_ge w (l.length + t.size) cap 5
      have hle := grownCap_le_maxLen w (l.length + t.size) cap 5 (by unfold maxLen; omega)
      refine ⟨_, _, hrun, ⟨by rw [List.length_map, Nat.mul_one], Or.inr ⟨w.heap.size, _, _, by rw [List.length_append, hts], hbase, heap_alloc_new _ _, by rw [List.length_append, hts]; exact hge, hle, ?_, ?_⟩⟩, (((Fr.refl _ w).drew).alloc _), Or.inr ⟨w.heap.size, rfl, Nat.le_refl _⟩⟩
      · rw [Array.size_append, size_zeroCells, List.size_toArray, List.length_append, hlen, hl]
        show l.length + t.size + (_ - _) * 1 = _
        omega
      · rw [Array.toList_append, List.toList_toArray, hbc, ← List.map_append]
        exact List.take_left' (by rw [List.length_map, Nat.mul_one])
end Go.Proofs.YtocpikgcbibcoaaGreatDoor.dk

namespace Go.Proofs.YtocpikgcbibcoaaGreatDoor.rc
open Go.ChangeShapes Go.WideShapes Go.ChangeAt Go.RowKit Go.Proofs.YtocpikgcbibcoaaGreatDoor.common Go.Proofs.YtocpikgcbibcoaaGreatDoor.dk

theorem step_callsX {P : Program} {ops : Array Oper} {o : Oper} {a : Act} {w : World} {K : Act → World → Prop} {Q : Exit → Act → World → Prop} {E : Prop} (hgd : o.guard = none) {f : FuncId} {args : Array Value} {post : Value → World → Prop}
    (hx : (execOp a.eval o).run P w = .ok (.enter f args) w) (hC : Calls P f args w fun e w' => ∃ v, e = .returned v ∧ post v w') (hK : ∀ v w', post v w' → K (a.put o.dst v) w') : if Region.wanted o (yielded ops a.tmps) = true then Oper.wp P o a w K Q else E := by
  have hw : Region.wanted o (yielded ops a.tmps) = true := by simp [Region.wanted, hgd]
  rw [if_pos hw]
  unfold Oper.wp
  rw [hx, Oper.upon_enter]
  refine hC.mono ?_
  rintro e w' ⟨v, rfl, h⟩
  exact hK v w' h
theorem step_appendX {P : Program} {ops : Array Oper} {o : Oper} {a : Act} {w : World} {K : Act → World → Prop} {Q : Exit → Act → World → Prop} {E : Prop} (hgd : o.guard = none) (s x : Operand) (t tx : TypeId)
    (ho : o.op = .call { callee := .builtin .append, args := #[s, x], argTypes := #[t, tx] }) (vs vx : Value) (hs : a.eval s = vs) (hx : a.eval x = vx) (v' : Value) (w' : World)
    (hr : (Builtin.append_ #[t, tx] o.type #[vs, vx]).run P w = .ok v' w') (h : K (a.put o.dst v') w') : if Region.wanted o (yielded ops a.tmps) = true then Oper.wp P o a w K Q else E := by
  have hw : Region.wanted o (yielded ops a.tmps) = true := by simp [Region.wanted, hgd]
  rw [if_pos hw]
  unfold Oper.wp execOp
  simp only [ho, resolve, invoke, builtin, Sem.run_bind, Sem.run_pure, Result.andThen_ok, List.map_toArray, List.map_cons, List.map_nil, hs, hx, hr]
  exact h

theorem gr_appendD {u v' : Value} {wr w1 : World} {tmp : Obj} (hg : (wr.alloc tmp).drew.grownBy w1 u.ownBlock) (hat : ∀ k, v'.ownBlock = some k → u.ownBlock = some k ∨ wr.heap.size ≤ k) : Gr u v' wr w1 := by
  have hz : (wr.alloc tmp).heap.size = wr.heap.size + 1 := by simp
  have hs : (wr.alloc tmp).heap.size ≤ w1.heap.size := hg.size
  refine ⟨⟨hg.os, hg.tape, hg.output, by omega, fun k hk hn => ?_⟩, hat⟩
  have h1 : w1.heap[k]? = (wr.alloc tmp).heap[k]? := hg.block k (by show k < (wr.alloc tmp).heap.size; omega) (fun e => hn (by simp [← e]))
  rw [h1, Below.heap_alloc wr tmp k hk]
/-- a writer at p that has written l -/
def Wr (p : Nat) (w : World) (l : List UInt8) : Prop := ∃ v, w.heap[p]? = some (.cells #[v] 50 (0, 0)) ∧ w.ownsRow (p + 1) 5 1 v l.length (l.map B)
theorem Wr.lt {p : Nat} {w : World} {l : List UInt8} (h : Wr p w l) : p < w.heap.size := by
  obtain ⟨v, h1, _⟩ := h
  exact (Array.getElem?_eq_some_iff.1 h1).1
/-- what the writer holds is written anew -/
theorem wr_set {p : Nat} {v v1 : Value} {w w1 : World} {l l1 : List UInt8} (hp : w.heap[p]? = some (.cells #[v] 50 (0, 0))) (hv : w.ownsRow (p + 1) 5 1 v l.length (l.map B)) (hg : Gr v v1 w w1) (h1 : w1.ownsRow (p + 1) 5 1 v1 l1.length (l1.map B)) :
    w1.cell? ⟨p, 0, none⟩ = some v ∧ w1.frozen? ⟨p, 0, none⟩ = false ∧ Wr p (w1.setCell ⟨p, 0, none⟩ v1) l1 ∧ Below p w (w1.setCell ⟨p, 0, none⟩ v1) := by
  have hlt := (Array.getElem?_eq_some_iff.1 hp).1
  have hp1 : w1.heap[p]? = some (.cells #[v] 50 (0, 0)) := (hg.fr.block p hlt (fun hm => by
    have := own_ge hv p (by simpa using hm)
    omega)).trans hp
  refine ⟨cell_of hp1 0, free_of hp1 0, ⟨v1, ?_, ?_⟩, ?_⟩
  · simp [World.setCell, Array.getElem?_modify, hp1]
  · refine ⟨h1.1, ?_⟩
    rcases h1.2 with hh | ⟨g, cap, cur, rfl, hgb, hh, hn⟩
    · exact Or.inl hh
    · exact Or.inr ⟨g, cap, cur, rfl, hgb, (set_other _ _ _ _ (show g ≠ p by omega)).trans hh, hn⟩
  · exact (hg.below (fun k hk => by have := own_ge hv k hk; omega) (Nat.le_of_lt hlt)).setCell (p := ⟨p, 0, none⟩) (Nat.le_refl _) _
theorem wr_at {p b j : Nat} {v v1 u : Value} {w w1 : World} {l : List UInt8} (hv : w.ownsRow (p + 1) 5 1 v l.length (l.map B)) (hg : Gr v v1 w w1) (hc : w.cell? ⟨b, j, none⟩ = some u) (hb : b < p ∨ ∃ cs t, w.heap[b]? = some (.cells cs t (0, 0)) ∧ t ≠ 5) : w1.cell? ⟨b, j, none⟩ = some u := by
  refine (World.cell?_of_block (hg.fr.block b (World.block_lt_of_cell? w _ hc) (fun hm => ?_))).trans hc
  have hm' : v.ownBlock = some b := by simpa using hm
  rcases hb with h | ⟨cs, t, h, ht⟩
  · have := own_ge hv b hm'; omega
  · rcases hv.2 with ⟨rfl, _⟩ | ⟨g, cap, cur, rfl, _, hh, _⟩
    · cases hm'
    · cases hm'
      rw [h] at hh
      cases hh
      exact ht rfl

set_option maxRecDepth 100000 in
set_option maxHeartbeats 3200000 in
theorem wnumber_any (p b j n : Nat) (l : List UInt8) (w : World) (h : Wr p w l) (hc : w.cell? ⟨b, j, none⟩ = some (.int .i64 (n : Int))) (hn : n ≤ 9223372036854775807) (hl : l.length ≤ 140737488355000) :
    Calls Tryz.prog 207 #[.pointer (some ⟨p, 0, none⟩), .pointer (some ⟨b, j, none⟩)] w fun e w' => e = .returned (.tuple #[]) ∧ Wr p w' (l ++ numL n) ∧ Below p w w' := by
  obtain ⟨v, hp, hv⟩ := h
  have hlt := (Array.getElem?_eq_some_iff.1 hp).1
  have cp := cell_of hp 0
  have HP := hide hp
  have HV := hide hv
  obtain ⟨ov, cv, rfl⟩ : ∃ ov cv, v = .slice ov l.length cv := by
    rcases hv.2 with ⟨h1, h0⟩ | ⟨g, cap, cur, h1, _⟩
    · exact ⟨none, 0, by rw [h1, h0]⟩
    · exact ⟨_, cap, h1⟩
  have HC := hide (appendNumber_any (.slice ov l.length cv) l n (p + 1) w.drew hv hlt hn hl)
  clear hp hv
  go_enter Tryz.func207, Tryz.ntmps207
  go_wp2_with fail
  go_region_law (refine step_callsX (by rfl) (by simp [go_sem]) HC.out ?_; rintro v1 w2 ⟨hown, hgr⟩; obtain ⟨q1, q2, hW, hB⟩ := wr_set (w := w.drew) HP.out HV.out hgr hown; obtain ⟨o1, c1, rfl⟩ : ∃ o1 c1, v1 = .slice o1 (l ++ numL n).length c1 := (by rcases hown.2 with ⟨h1, h0⟩ | ⟨g, cap, cur, h1, _⟩; exact ⟨none, 0, by rw [h1, h0]⟩; exact ⟨_, cap, h1⟩); have HWW := hide hW; have HBB := hide hB; clear hown hgr hW hB)
  all_goals
    rw [List.length_append] at HWW HBB
    go_wp2
    first | go_end0 | refine bodyPost_end (results_none rfl _ _ _) rfl ?_
    exact ⟨rfl, HWW.out, (Below.refl p w).drew.trans HBB.out⟩

set_option maxRecDepth 100000 in
set_option maxHeartbeats 3200000 in
theorem wkind_any (p b j k : Nat) (l : List UInt8) (w : World) (h : Wr p w l) (hc : w.cell? ⟨b, j, none⟩ = some (.int .i64 (k : Int))) (hk : k < 256) (hl : l.length ≤ 140737488355000) :
    Calls Tryz.prog 205 #[.pointer (some ⟨p, 0, none⟩), .pointer (some ⟨b, j, none⟩)] w fun e w' => e = .returned (.tuple #[]) ∧ Wr p w' (l ++ [UInt8.ofNat k]) ∧ Below p w w' := by
  obtain ⟨i0, hi, hz0, hz1, hz2⟩ := info_parts info8
  obtain ⟨v, hp, hv⟩ := h
  have hlt := (Array.getElem?_eq_some_iff.1 hp).1
  have cp := cell_of hp 0
  have HP := hide hp
  have HV := hide hv
  obtain ⟨ov, cv, rfl⟩ : ∃ ov cv, v = .slice ov l.length cv := by
    rcases hv.2 with ⟨h1, h0⟩ | ⟨g, cap, cur, h1, _⟩
    · exact ⟨none, 0, by rw [h1, h0]⟩
    · exact ⟨_, cap, h1⟩
  have hkk : ((k : Int)) % 256 = (k : Int) := by omega
  have hB : Value.int .u8 (k : Int) = B (UInt8.ofNat k) := by show _ = Value.int .u8 _; rw [ofNat_val k hk]
  have HO := hide (hv.alloc (.cells #[B (UInt8.ofNat k)] 5))
  clear hp hv
  go_enter Tryz.func205, Tryz.ntmps205
  go_wp2_with fail
  go_region_law ((refine step_append_lies _ (by rfl) _ _ _ (by rfl) (p + 1) 5 i0 _ 1 1 Tryz.underlying27 hi hz0 hz1 hz2 rfl (by omega) (.slice ov l.length cv) l.length _ (by rfl) (HO.out.drew) ⟨w.heap.size, 0, none⟩ 1 1 [B (UInt8.ofNat k)] (by rfl) (by rfl) (World.news_of_block (cs := #[B (UInt8.ofNat k)]) (t := 5) (fr := (0, 0)) (heap_alloc_new w _)) (by simp [Value.oneCell']) (by omega) (by unfold maxLen; omega) (by omega) (by simp; omega) (w.heap.size + 1) (by simp) ?_; intro gg cap w8 hown8 hgrow hat hlt2; have hgr : Gr (.slice ov l.length cv) (.slice (some ⟨gg, 0, none⟩) (l.length + 1) cap) w w8 := gr_appendD hgrow (fun k hk => by cases hk; rcases hat with h | h; exact Or.inl h; exact Or.inr (show w.heap.size ≤ gg by omega)); obtain ⟨q1, q2, hW, hB2⟩ := wr_set (l1 := l ++ [UInt8.ofNat k]) HP.out HV.out hgr (by rw [List.length_append, List.map_append]; exact hown8); have HWW := hide hW; have HBB := hide hB2; clear hown8 hgrow hat hlt2 hgr hW hB2))
  all_goals
    go_wp2
    first | go_end0 | refine bodyPost_end (results_none rfl _ _ _) rfl ?_
    exact ⟨rfl, HWW.out, HBB.out⟩

set_option maxRecDepth 100000 in
set_option maxHeartbeats 6400000 in
theorem wtext_any (p b j : Nat) (s : ByteArray) (l : List UInt8) (w : World) (h : Wr p w l) (hc : w.cell? ⟨b, j, none⟩ = some (.string s)) (hb : b < p ∨ ∃ cs t, w.heap[b]? = some (.cells cs t (0, 0)) ∧ t ≠ 5) (hs : s.size ≤ 281474976) (hl : l.length ≤ 140737200000000) :
    Calls Tryz.prog 208 #[.pointer (some ⟨p, 0, none⟩), .pointer (some ⟨b, j, none⟩)] w fun e w' => e = .returned (.tuple #[]) ∧ Wr p w' (l ++ (numL s.size ++ s.data.toList)) ∧ Below p w w' := by
  obtain ⟨v, hp, hv⟩ := h
  have hlt := (Array.getElem?_eq_some_iff.1 hp).1
  have cp := cell_of hp 0
  have HP := hide hp
  have HV := hide hv
  have HC0 := hide hc
  have HBT := hide hb
  obtain ⟨ov, cv, rfl⟩ : ∃ ov cv, v = .slice ov l.length cv := by
    rcases hv.2 with ⟨h1, h0⟩ | ⟨g, cap, cur, h1, _⟩
    · exact ⟨none, 0, by rw [h1, h0]⟩
    · exact ⟨_, cap, h1⟩
  have hnl : (numL s.size).length ≤ 10 := (numF_len 9 s.size).2
  have HC := hide (appendNumber_any (.slice ov l.length cv) l s.size (p + 1) w.drew hv hlt (by omega) (by omega))
  clear hp hv hb
  go_enter Tryz.func208, Tryz.ntmps208
  go_wp2_with fail
  go_region_law (first
    | (refine step_callsX (by rfl) (by simp [go_sem]) HC.out ?_; rintro v1 w2 ⟨hown, hgr⟩; obtain ⟨v2, W2, hrun, hown2, hfr2, hat2⟩ := append_text w2 (p + 1) v1 _ hown s (by rw [List.length_append]; omega) (by have := hgr.fr.size; have : w.drew.heap.size = w.heap.size := rfl; omega); have hgr2 : Gr (.slice ov l.length cv) v2 w.drew W2 := hgr.trans ⟨hfr2, fun k hk => by rcases hat2 with h | ⟨g, h, hg⟩; exact Or.inl (by rw [← h]; exact hk); rw [h] at hk; cases hk; exact Or.inr hg⟩; obtain ⟨q1, q2, hW, hB⟩ := wr_set (w := w.drew) HP.out HV.out hgr2 hown2; have hc2 : w2.cell? ⟨b, j, none⟩ = some (.string s) := wr_at (w := w.drew) HV.out hgr HC0.out HBT.out; obtain ⟨o1, n1, c1, rfl⟩ : ∃ o1 n1 c1, v1 = .slice o1 n1 c1 := (by rcases hown.2 with ⟨h1, h0⟩ | ⟨g, cap, cur, h1, _⟩; exact ⟨none, 0, 0, h1⟩; exact ⟨_, _, cap, h1⟩); obtain ⟨o2, n2, c2, rfl⟩ : ∃ o2 n2 c2, v2 = .slice o2 n2 c2 := (by rcases hown2.2 with ⟨h1, h0⟩ | ⟨g, cap, cur, h1, _⟩; exact ⟨none, 0, 0, h1⟩; exact ⟨_, _, cap, h1⟩); have HWW := hide hW; have HBB := hide hB; clear hown hgr hW hB hown2 hfr2 hat2 hgr2)
    | (refine step_appendX rfl _ _ 27 9 rfl _ _ rfl rfl _ _ hrun ?_))
  all_goals
    go_wp2
    first | go_end0 | refine bodyPost_end (results_none rfl _ _ _) rfl ?_
    exact ⟨rfl, by rw [← List.append_assoc]; exact HWW.out, (Below.refl p w).drew.trans HBB.out⟩
end Go.Proofs.YtocpikgcbibcoaaGreatDoor.rc

namespace Go.Proofs.YtocpikgcbibcoaaGreatDoor.bk
open Go.ChangeShapes Go.WideShapes Go.ChangeAt Go.RowKit Go.Proofs.YtocpikgcbibcoaaGreatDoor.common

abbrev B (c : UInt8) : Value := .int .u8 (c.toNat : Int)
abbrev S (l : List UInt8) : Value := .string ⟨l.toArray⟩

theorem info8 : (Tryz.prog.info? 5).map (fun i => (i.zero, i.size, i.bytes)) = some (some (.int .u8 0), 1, 1) := by kernel_rfl

theorem own_ge {w : World} {base : Nat} {e : TypeId} {size : Nat} {v : Value} {n : Nat} {xs : List Value} (h : w.ownsRow base e size v n xs) : ∀ b, v.ownBlock = some b → base ≤ b := by
  intro b hb
  exact (h.lt b hb).1

theorem getD_list (s : ByteArray) (k : Nat) (h : k < s.size) : s.data.toList.getD k 0 = s[k] := by
  rw [List.getD_eq_getElem?_getD, List.getElem?_eq_getElem (by simpa using h)]; rfl
theorem len_list (s : ByteArray) : s.data.toList.length = s.size := by simp
theorem ba_ext {a b : ByteArray} (h : a.data.toList = b.data.toList) : a = b := by
  apply ByteArray.ext; apply Array.toList_inj.1; exact h
theorem str_size (l : List UInt8) : (⟨l.toArray⟩ : ByteArray).size = l.length := by
  show l.toArray.size = _; simp
theorem cells_new (w : World) (l : List Value) (t : TypeId) : ∀ j u, l[j]? = some u → (w.alloc (.cells l.toArray t)).cell? ((⟨w.heap.size, 0, none⟩ : Addr).add j) = some u := by
  intro j u h
  rw [Addr.add_mid]
  exact range_new w l.toArray t j u h
theorem cell_one_new (w : World) (v : Value) (t : TypeId) : ∀ j u, [v][j]? = some u → (w.alloc (.cells #[v] t)).cell? ((⟨w.heap.size, 0, none⟩ : Addr).add j) = some u := cells_new w [v] t
theorem own_below {w w' : World} {base : Nat} {e : TypeId} {size : Nat} {v : Value} {n : Nat} {xs : List Value} (h : w.ownsRow base e size v n xs) (hb : Below w.heap.size w w') : w'.ownsRow base e size v n xs := by
  refine ⟨h.1, ?_⟩
  rcases h.2 with hh | ⟨g, cap, cur, rfl, hg, hh, hn⟩
  · exact Or.inl hh
  · exact Or.inr ⟨g, cap, cur, rfl, hg, (hb.block g (Array.getElem?_eq_some_iff.1 hh).1).trans hh, hn⟩
theorem take_all (s : ByteArray) : s.data.toList.take s.size = s.data.toList := List.take_of_length_le (by rw [len_list]; exact Nat.le_refl _)
theorem keepD {w W W' : World} (h : Below w.heap.size w W) (hb : Below W.heap.size W W') : Below w.heap.size w W' := h.trans (hb.mono h.size)
theorem wrap_le (x : Int) (h0 : 0 ≤ x) (h1 : x ≤ 9223372036854775807) : IntKind.i64.wrap x = x := by
  have hm : x % 18446744073709551616 = x := by omega
  unfold IntKind.wrap
  simp only [IntKind.bits, IntKind.signed, Int.reducePow, Nat.reduceSub, hm]
  rw [if_neg (by simp; omega)]

end Go.Proofs.YtocpikgcbibcoaaGreatDoor.bk

namespace Go.Proofs.YtocpikgcbibcoaaGreatDoor.ss
open Go.ChangeShapes Go.WideShapes Go.ChangeAt Go.RowKit Go.Proofs.YtocpikgcbibcoaaGreatDoor.common Go.Maps
attribute [local go_sem ↓] Go.wp_at_zero Go.wp_at_succ

/-- the cells of texts -/
abbrev sc (l : List ByteArray) : List Value := l.map Value.string

/-- a slice of texts that reads as l -/
def Lies (w : World) (v : Value) (l : List ByteArray) : Prop :=
  ∃ oa cap, v = .slice oa l.length cap ∧ ∀ i (h : i < l.length), ∃ b o, oa = some ⟨b, o, none⟩ ∧ b < w.heap.size ∧ w.cell? ⟨b, o + i, none⟩ = some (.string l[i])
theorem Lies.below {w w' : World} {v : Value} {l : List ByteArray} (h : Lies w v l) (hb : Below w.heap.size w w') : Lies w' v l := by
  obtain ⟨oa, cap, hv, hc⟩ := h
  refine ⟨oa, cap, hv, fun i hi => ?_⟩
  obtain ⟨b, o, ho, hlt, c0⟩ := hc i hi
  exact ⟨b, o, ho, Nat.lt_of_lt_of_le hlt hb.size, (hb.cell hlt).trans c0⟩
theorem lies_nil (w : World) : Lies w (.slice none 0 0) [] := ⟨none, 0, rfl, fun _ hi => absurd hi (Nat.not_lt_zero _)⟩

/-- texts that lie in a block of one's own -/
def Row (w : World) (g : Nat) (l : List ByteArray) : Prop := w.there g 0 l.length ∧ w.rangeAt g 0 (sc l)

theorem sc_get (l : List ByteArray) (i : Nat) (h : i < l.length) : (sc l)[i]? = some (.string l[i]) := by
  rw [List.getElem?_map, List.getElem?_eq_getElem h]; rfl
theorem row_of_own {w : World} {base : Nat} {e : TypeId} {v : Value} {l : List ByteArray} (h : w.ownsRow base e 1 v l.length (sc l)) : (v = .slice none 0 0 ∧ l = []) ∨ ∃ g cap, v = .slice (some ⟨g, 0, none⟩) l.length cap ∧ base ≤ g ∧ g < w.heap.size ∧ Row w g l ∧ l.length ≤ cap := by
  rcases h.2 with ⟨hv, h0⟩ | ⟨g, cap, cur, rfl, hg, hh, hn, _, hsz, htk⟩
  · exact Or.inl ⟨hv, List.eq_nil_of_length_eq_zero h0⟩
  · refine Or.inr ⟨g, cap, rfl, hg, (Array.getElem?_eq_some_iff.1 hh).1, ?_, hn⟩
    have hr : w.rangeAt g 0 (sc l) := by
      intro j u hu
      have hj : j < l.length := by have := (List.getElem?_eq_some_iff.1 hu).1; rw [List.length_map] at this; exact this
      have : (cur.toList.take (l.length * 1))[j]? = (sc l)[j]? := by rw [htk]
      rw [List.getElem?_take_of_lt (by omega), hu] at this
      simp only [World.cell?, hh]
      simpa using this
    refine ⟨fun j hj => ⟨?_, by simp [World.frozen?, hh]⟩, hr⟩
    rw [range_cell hr j (by rw [List.length_map]; exact hj)]; rfl
theorem Row.lies {w : World} {g : Nat} {l : List ByteArray} (h : Row w g l) (hg : g < w.heap.size) (n cap : Nat) (hn : n ≤ l.length) : Lies w (.slice (some ⟨g, 0, none⟩) n cap) (l.take n) := by
  have hl : (l.take n).length = n := by rw [List.length_take]; omega
  refine ⟨_, cap, by rw [hl], fun i hi => ?_⟩
  rw [hl] at hi
  have hi2 : i < l.length := by omega
  refine ⟨g, 0, rfl, hg, ?_⟩
  rw [h.2 i _ (sc_get l i hi2)]; simp
theorem lies_of_own {w : World} {base : Nat} {e : TypeId} {v : Value} {l : List ByteArray} (h : w.ownsRow base e 1 v l.length (sc l)) : Lies w v l := by
  rcases row_of_own h with ⟨rfl, rfl⟩ | ⟨g, cap, rfl, _, hg, hr, _⟩
  · exact lies_nil w
  · have := hr.lies hg l.length cap (Nat.le_refl _)
    rwa [List.take_length] at this
theorem Row.head {w : World} {g : Nat} {l r : List ByteArray} (h : Row w g (l ++ r)) (hg : g < w.heap.size) (cap : Nat) : Lies w (.slice (some ⟨g, 0, none⟩) l.length cap) l := by
  have := h.lies hg l.length cap (by rw [List.length_append]; omega)
  rwa [List.take_left] at this
theorem Row.below {w w' : World} {b g : Nat} {l : List ByteArray} (h : Row w g l) (hb : Below b w w') (hg : g < b) : Row w' g l := ⟨there_below h.1 hb hg, range_below h.2 hb hg⟩
theorem Row.drew {w : World} {g : Nat} {l : List ByteArray} (h : Row w g l) : Row w.drew g l := h
theorem Row.set {w : World} {g : Nat} {l : List ByteArray} (h : Row w g l) (i : Nat) (hi : i < l.length) (p : ByteArray) : Row (w.setCell ⟨g, i, none⟩ (.string p)) g (l.set i p) := by
  refine ⟨by rw [List.length_set]; exact there_set h.1 _ _, ?_⟩
  have h1 := range_set h.2 i (by rw [List.length_map]; omega) (.string p)
  rw [Nat.zero_add] at h1
  have e : (sc l).set i (.string p) = sc (l.set i p) := by simp [sc, List.map_set]
  rw [e] at h1
  exact h1
theorem Row.cell {w : World} {g : Nat} {l : List ByteArray} (h : Row w g l) (i : Nat) (hi : i < l.length) : w.cell? ⟨g, i, none⟩ = some (.string l[i]) := by
  have := h.2 _ _ (sc_get l i hi)
  rwa [Nat.zero_add] at this
theorem infoS : (Tryz.prog.info? 9).map (fun i => (i.zero, i.size, i.bytes)) = some (some (.string ⟨#[]⟩), 1, 16) := by kernel_rfl
theorem takeS (l : List ByteArray) (k : Nat) (h : k < l.length) : l.take (k + 1) = l.take k ++ [l[k]] := by
  rw [List.take_succ_eq_append_getElem h]
theorem lies_cells {w : World} {ad : Addr} {n cap : Nat} {xs : List ByteArray} (h : Lies w (.slice (some ad) n cap) xs) : ∀ j u, (sc xs)[j]? = some u → w.cell? (ad.add j) = some u := by
  obtain ⟨oa, ca, hv, hc⟩ := h
  cases hv
  intro j u hu
  have hj : j < xs.length := by have := (List.getElem?_eq_some_iff.1 hu).1; rwa [List.length_map] at this
  obtain ⟨b, o, ho, _, c0⟩ := hc j hj
  cases ho
  rw [Addr.add_mid, c0]
  rw [List.getElem?_map, List.getElem?_eq_getElem hj] at hu
  simpa using hu
theorem keepT {W X X' : World} {g : Nat} (hg : W.heap.size ≤ g) (h : Below W.heap.size W X) (hb : Below g X X') : Below W.heap.size W X' := h.trans (hb.mono hg)

set_option maxRecDepth 100000 in
/-- 'append(m, l...)' of texts to a row of one's own -/
theorem append_strs (w : World) {ops : Array Oper} {rest : List Oper} {o : Oper} {a : Act} {Q : Exit → Act → World → Prop} (hgd : o.guard = none) (s x : Operand)
    (ho : o.op = .call { callee := .builtin .append, args := #[s, x], argTypes := #[24, 24] }) (base : Nat) (v0 : Value) (m : List ByteArray) (hs : a.eval s = v0) (hown : w.ownsRow base 9 1 v0 m.length (sc m)) (v : Value) (l : List ByteArray) (hx : a.eval x = v) (hl : Lies w v l)
    (hm : m.length + l.length ≤ maxLen) (hb : (m.length + l.length) * 16 ≤ 140737488355328) (hbase : base ≤ w.heap.size)
    (h : ∀ v' w', w'.ownsRow base 9 1 v' (m ++ l).length (sc (m ++ l)) → w.grownBy w' v0.ownBlock → wpList Tryz.prog ops Q rest (a.put o.dst v') w') : wpList Tryz.prog ops Q (o :: rest) a w := by
  obtain ⟨i0, hi, hz0, hz1, hz2⟩ := info_parts infoS
  have hl' := hl
  obtain ⟨oa, cap, rfl, hc⟩ := hl
  cases oa with
  | some ad =>
    exact wpList_append_own w hgd s x 24 ho base 9 i0 (.string ⟨#[]⟩) 1 16 Tryz.underlying24 hi hz0 hz1 hz2 rfl (by decide) _ m.length (sc m) hs hown ad l.length cap (sc l) hx (by simp) (lies_cells hl') (by intro u hu; obtain ⟨x, _, rfl⟩ := List.mem_map.1 hu; rfl) hm hb hbase (fun v' w' h1 h2 _ => h v' w' (by rw [List.length_append]; simpa [sc] using h1) h2)
  | none =>
    have h0 : l = [] := by
      cases l with
      | nil => rfl
      | cons p r => obtain ⟨b, o, ho, _⟩ := hc 0 (by simp); cases ho
    subst h0
    refine wpList_plain hgd fun K' hK' => ?_
    unfold Oper.wp execOp
    simp only [ho, resolve, invoke, builtin, Sem.run_bind, Sem.run_pure, Result.andThen_ok, List.map_toArray, List.map_cons, List.map_nil, hs, hx]
    rcases hown.2 with ⟨rfl, h0⟩ | ⟨g, cap', cur, rfl, hg, hh, hn, _⟩
    · have hm0 : m = [] := List.eq_nil_of_length_eq_zero h0
      subst hm0
      simp [Builtin.append_, run_underlying Tryz.underlying24, sizeOf, typeInfo, hi, Builtin.lenOf, Builtin.firstCells]
      exact hK' _ _ (h _ _ (World.ownsRow_nil _ _ _ _) ⟨rfl, rfl, rfl, Nat.le_refl _, fun _ _ _ => rfl⟩)
    · simp [Builtin.append_, run_underlying Tryz.underlying24, sizeOf, typeInfo, hi, Builtin.lenOf, Builtin.firstCells, hn, storeCells]
      exact hK' _ _ (h _ _ (by rw [List.append_nil]; exact hown) ⟨rfl, rfl, rfl, Nat.le_refl _, fun _ _ _ => rfl⟩)

end Go.Proofs.YtocpikgcbibcoaaGreatDoor.ss
