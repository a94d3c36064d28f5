import Derived.Test.YtocpikgcbibcoaaGreatDoorMStrBase
import Derived.Test.YtocpikgcbibcoaaGreatDoorMRcList
import Derived.Test.YtocpikgcbibcoaaGreatDoorMRdKit
import Derived.Deep.DeepAppendWide
import Derived.Deep.AppendLies
import Derived.Deep.RegionLawGrows
import Derived.Test.YtocpikgcbibcoaaGreatDoorMRadixBack
import Derived.Test.YtocpikgcbibcoaaGreatDoorMRefLetters
import Derived.Test.YtocpikgcbibcoaaGreatDoorMRadixRead
import Derived.Deep.RegionWith
import Derived.Test.YtocpikgcbibcoaaGreatDoorMTmNames
import Derived.OpenShut
import Derived.Deep.DeepHandedRow
import Derived.Test.YtocpikgcbibcoaaGreatDoorMTermLays
import Derived.Shelf.Strings.OnBuilder
import Derived.Test.YtocpikgcbibcoaaGreatDoorMTmByte
import Derived.Test.YtocpikgcbibcoaaGreatDoorMRcKept
import Derived.Laws.Cover1
import Derived.Sort.Walk0
namespace Go.Proofs.YtocpikgcbibcoaaGreatDoor.rc
open Go.ChangeShapes Go.WideShapes Go.ChangeAt Go.RowKit Go.Proofs.YtocpikgcbibcoaaGreatDoor.common Go.Proofs.YtocpikgcbibcoaaGreatDoor.dk

end Go.Proofs.YtocpikgcbibcoaaGreatDoor.rc

namespace Go.Proofs.YtocpikgcbibcoaaGreatDoor.dk
open Go.ChangeShapes Go.WideShapes Go.ChangeAt Go.RowKit Go.Proofs.YtocpikgcbibcoaaGreatDoor.common
set_option maxRecDepth 100000 in
set_option maxHeartbeats 800000 in
theorem copy_any (w : World) (v : Value) (l : List UInt8) (h : Rd w v l) (hs : l.length ≤ 140737488355328) :
    Calls Tryz.prog 27 #[v] w fun r' w' => ∃ v, r' = .returned v ∧ w'.ownsRow w.heap.size 5 1 v l.length (l.map B) ∧ Below w.heap.size w w' := by
  obtain ⟨i0, hi, hz0, hz1, hz2⟩ := info_parts info8
  obtain ⟨oa, ca, rfl⟩ := h.len
  have HR := hide h
  clear h
  go_enter Tryz.func27, Tryz.ntmps27
  go_wp2
  go_loopw [3, 4] (fun v i wr => ∃ k : Nat, k ≤ l.length ∧ i = .int .i64 k ∧ wr.ownsRow w.heap.size 5 1 v k ((l.take k).map B) ∧ Below w.heap.size w wr) (fun _ i _ => l.length - (intOf i).toNat)
  case atStart => exact ⟨0, Nat.zero_le _, rfl, World.ownsRow_nil _ _ _ _, Below.refl _ _⟩
  case round =>
    obtain ⟨k, hk, rfl, hown, hnx⟩ := hrel
    have hsz := hnx.size
    by_cases hlt : k < l.length
    · obtain ⟨ga, o1, rfl, h1⟩ := (HR.out.below hnx).cell (by omega)
      have c1 := h1 k hlt
      have hsn := hide (take_snocL l k hlt)
      have k0 : (0 : Int) ≤ (k : Int) := Int.natCast_nonneg _
      have k1 : (k : Int) < (l.length : Int) := by omega
      clear h1
      generalize l[k] = x at *
      go_wp2_with (at_builtin; refine wpList_append_own _ rfl _ _ 27 rfl w.heap.size 5 i0 (.int .u8 0) 1 1 Tryz.underlying27 hi hz0 hz1 hz2 rfl (by decide) _ _ _ rfl (hown.alloc _) ⟨wr.heap.size, 0, none⟩ 1 1 [B x] rfl rfl ?c1 ?c2 ?c3 ?c4 ?c5 ?_)
      case c1 => exact cell_one_new _ _ _
      case c2 => intro u hu; simp at hu; subst hu; rfl
      case c3 => unfold maxLen; omega
      case c4 => omega
      case c5 => simp; omega
      intro v' w1 hown' hgrow _
      have R1 : w1.ownsRow w.heap.size 5 1 v' (k + 1) ((l.take (k + 1)).map B) := by
        rw [hsn.out, List.map_append, List.map_take]; exact hown'
      have R2 : Below w.heap.size w w1 := by
        refine (hnx.alloc hsz _).grown hgrow (by simp; omega) ?_
        exact own_ge hown
      clear hown' hgrow hown
      have H1 := hide R1
      have H2 := hide R2
      clear R1 R2
      go_wp2
      go_roundw
      case rel => exact ⟨k + 1, by omega, by go_num, H1.out, H2.out⟩
      case measure => simp [intOf]; omega
    · obtain rfl : k = l.length := by omega
      have H1 : Hid (wr.ownsRow w.heap.size 5 1 u3 l.length (l.map B)) := by
        rw [List.take_of_length_le (Nat.le_refl _)] at hown; exact hown
      have H2 := hide hnx
      clear hown hnx
      go_wp2
      go_ret
      exact ⟨_, rfl, H1.out, H2.out⟩
end Go.Proofs.YtocpikgcbibcoaaGreatDoor.dk

namespace Go.Proofs.YtocpikgcbibcoaaGreatDoor.dr
open Go.ChangeShapes Go.WideShapes Go.ChangeAt Go.RowKit Go.Proofs.YtocpikgcbibcoaaGreatDoor.common Go.Proofs.YtocpikgcbibcoaaGreatDoor.dk

set_option maxRecDepth 100000 in
/-- whatever is put behind a row of one's own -/
theorem append_src (w : World) (base : Nat) (t tx e : TypeId) (i : TypeInfo) (z : Value) (size : Nat) (hu : Tryz.prog.underlying t = some (.slice e)) (hi : Tryz.prog.info? e = some i) (hz : i.zero = some z) (hsz : i.size = size) (hzs : z.cells.size = size) (v : Value) (n : Nat) (xs : List Value) (h : w.ownsRow base e size v n xs)
    (x : Value) (m : Nat) (news : List Value) (hs : Src Tryz.prog i.size tx x m news w) (hm : news.length = m * size) (hfit : (n + m + (n + m) / 4 + 192) * i.bytes ≤ 281474976710656) (hmax : n + m ≤ maxLen) (hbase : base ≤ w.heap.size) :
    ∃ v' W', (Builtin.append_ #[t, tx] t #[v, x]).run Tryz.prog w = .ok v' W' ∧ W'.ownsRow base e size v' (n + m) (xs ++ news) ∧ Fr v.ownBlock.toList w W' ∧ (v'.ownBlock = v.ownBlock ∨ ∃ g, v'.ownBlock = some g ∧ w.heap.size ≤ g) := by
  subst hsz
  have hl := h.1
  have hmax' : n + m ≤ 9223372036854775807 := by unfold maxLen at hmax; omega
  have grow : ∀ (ao : Option Addr) (cap : Nat), v = .slice ao n cap → cap < n + m → (Builtin.firstCells i.size n (.slice ao n cap)).run Tryz.prog w.drew = .ok xs.toArray w.drew → ∃ v' W', (Builtin.append_ #[t, tx] t #[v, x]).run Tryz.prog w = .ok v' W' ∧ W'.ownsRow base e i.size v' (n + m) (xs ++ news) ∧ Fr v.ownBlock.toList w W' ∧ (v'.ownBlock = v.ownBlock ∨ ∃ g, v'.ownBlock = some g ∧ w.heap.size ≤ g) := fun ao cap hv hc hold => by
    subst hv
    have hrun := run_append_grow_src (P := Tryz.prog) w t tx t e i z hu hi hz ao n cap xs hold x m news hs hc (by omega) (growslice_fits_wide (by omega) hfit)
    have hge := grownCap_ge w (n + m) cap e
    have hle := grownCap_le_maxLen w (n + m) cap e hmax
    refine ⟨_, _, hrun, ⟨by rw [List.length_append, hl, hm, Nat.add_mul], Or.inr ⟨w.heap.size, _, _, rfl, hbase, heap_alloc_new _ _, hge, hle, ?_, ?_⟩⟩, (((Fr.refl _ w).drew).alloc _), Or.inr ⟨w.heap.size, rfl, Nat.le_refl _⟩⟩
    · rw [Array.size_append, size_zeroCells, List.size_toArray, List.length_append, hl, hm, hzs, ← Nat.add_mul, ← Nat.add_mul]
      congr 1
      omega
    · rw [Array.toList_append, List.toList_toArray]
      exact List.take_left' (by rw [List.length_append, hl, hm, Nat.add_mul])
  rcases h.2 with ⟨rfl, rfl⟩ | ⟨g, cap, cur, rfl, h1, h2, h3, h4, h5, h6⟩
  · obtain rfl : xs = [] := List.eq_nil_of_length_eq_zero (by rw [hl, Nat.zero_mul])
    by_cases h0 : m = 0
    · subst h0
      obtain rfl : news = [] := List.eq_nil_of_length_eq_zero (by rw [hm, Nat.zero_mul])
      refine ⟨.slice none 0 0, w, ?_, h, Fr.refl _ _, Or.inl rfl⟩
      have hc := hs.cells
      rcases hs.kind with ⟨e', hk⟩ | hk <;> simp [Builtin.append_, run_underlying (P := Tryz.prog) hu, run_underlying (P := Tryz.prog) hk, sizeOf, typeInfo, hi, hs.len, hc]
    · exact grow none 0 rfl (by omega) (run_firstCells_none w.drew i.size 0 0 0)
  · by_cases hroom : n + m ≤ cap
    · have hin : ∀ j, j < news.length → 0 + n * i.size + j < cur.size := fun j hj => by
        rw [hm] at hj
        rw [h5, Nat.zero_add]
        have : (n + m) * i.size ≤ cap * i.size := Nat.mul_le_mul_right _ hroom
        rw [Nat.add_mul] at this
        omega
      have hrun := run_append_room_src (P := Tryz.prog) w t tx t e i hu hi g 0 n cap x m news hs hroom (fun j hj => by rw [cell_of h2, Array.getElem?_eq_getElem (hin j hj)]; rfl) (fun j hj => free_of h2 _)
      rw [Nat.zero_add] at hrun
      have hc2 : w.heap[g]? = some (.cells cur.toList.toArray e (0, 0)) := by rw [Array.toArray_toList]; exact h2
      have hcl : cur.toList.length = cap * i.size := (Array.length_toList (xs := cur)).trans h5
      have hlt : n * i.size + news.length ≤ cur.toList.length := by
        rw [hcl, hm, ← Nat.add_mul]
        exact Nat.mul_le_mul_right _ hroom
      have hst := sets_here hc2 news (n * i.size) hlt
      refine ⟨_, _, hrun, ⟨by rw [List.length_append, hl, hm, Nat.add_mul], Or.inr ⟨g, cap, _, rfl, h1, hst, hroom, h4, ?_, ?_⟩⟩, (Fr.refl _ w).sets g _ _ (Or.inl (by simp [Value.ownBlock])), Or.inl rfl⟩
      · rw [List.size_toArray, List.length_append, List.length_append, List.length_take, List.length_drop, ← hcl]
        omega
      · rw [List.toList_toArray, h6, ← List.append_assoc]
        exact List.take_left' (by rw [List.length_append, hl, hm, Nat.add_mul])
    · refine grow (some ⟨g, 0, none⟩) cap rfl (by omega) ?_
      exact run_firstCells_some w.drew i.size n _ n cap xs hl (by
        intro j u hu'
        have := h.cells (g := g) rfl j u hu'
        exact this)
/-- bytes that can be read as what is appended -/
theorem src_rd {w : World} {oa : Option Addr} {c : Nat} {l : List UInt8} (h : Rd w (.slice oa l.length c) l) : Src Tryz.prog 1 27 (.slice oa l.length c) l.length (l.map B) w := by
  obtain ⟨oa', c', e, hr⟩ := h
  cases e
  by_cases h0 : 0 < l.length
  · obtain ⟨g, o, rfl, _, hr⟩ := hr h0
    exact Src.ofSlice _ Tryz.underlying27 _ _ _ _ (by rw [List.length_map, Nat.mul_one]) (fun j u hu => by rw [Addr.add_mid]; exact hr j u hu) (fun u hu => by obtain ⟨_, _, rfl⟩ := List.mem_map.1 hu; rfl)
  · obtain rfl : l = [] := List.eq_nil_of_length_eq_zero (by omega)
    cases oa with
    | none => exact Src.ofNil _ Tryz.underlying27 _
    | some a => exact Src.ofSlice _ Tryz.underlying27 _ _ _ _ rfl (fun j u hu => by simp at hu) (fun u hu => by cases hu)
set_option maxRecDepth 100000 in
theorem append_rd (w : World) (base : Nat) (v : Value) (l : List UInt8) (h : w.ownsRow base 5 1 v l.length (l.map B)) (oa : Option Addr) (c : Nat) (m : List UInt8) (hr : Rd w (.slice oa m.length c) m) (hb : l.length + m.length ≤ 140738562097152) (hbase : base ≤ w.heap.size) :
    ∃ v' W', (Builtin.append_ #[27, 27] 27 #[v, .slice oa m.length c]).run Tryz.prog w = .ok v' W' ∧ W'.ownsRow base 5 1 v' (l ++ m).length ((l ++ m).map B) ∧ Fr v.ownBlock.toList w W' ∧ (v'.ownBlock = v.ownBlock ∨ ∃ g, v'.ownBlock = some g ∧ w.heap.size ≤ g) := by
  obtain ⟨i0, hi, hz0, hz1, hz2⟩ := info_parts info8
  have hs := src_rd hr
  rw [← hz1] at hs
  rw [List.length_append, List.map_append]
  exact append_src w base 27 27 5 i0 (.int .u8 0) 1 Tryz.underlying27 hi hz0 hz1 rfl v l.length (l.map B) h _ m.length (m.map B) hs (by rw [List.length_map, Nat.mul_one]) (by rw [hz2]; omega) (by unfold maxLen; omega) hbase
end Go.Proofs.YtocpikgcbibcoaaGreatDoor.dr

namespace Go.Proofs.YtocpikgcbibcoaaGreatDoor.Rad

end Go.Proofs.YtocpikgcbibcoaaGreatDoor.Rad

namespace Go.Proofs.YtocpikgcbibcoaaGreatDoor.radw
open Go.ChangeShapes Go.WideShapes Go.ChangeAt Go.RowKit Go.Proofs.YtocpikgcbibcoaaGreatDoor.common

end Go.Proofs.YtocpikgcbibcoaaGreatDoor.radw

namespace Go.Proofs.YtocpikgcbibcoaaGreatDoor.radw
open Go.ChangeShapes Go.WideShapes Go.ChangeAt Go.RowKit Go.Proofs.YtocpikgcbibcoaaGreatDoor.common

end Go.Proofs.YtocpikgcbibcoaaGreatDoor.radw

namespace Go.Proofs.YtocpikgcbibcoaaGreatDoor.radw
open Go.ChangeShapes Go.WideShapes Go.ChangeAt Go.RowKit Go.Proofs.YtocpikgcbibcoaaGreatDoor.common
attribute [local go_sem ↓] Go.wp_at_zero Go.wp_at_succ

set_option maxHeartbeats 400000 in
theorem slite_any (A : ByteArray) (h1 : 1 ≤ A.size) (hx : A.extract 0 1 = ⟨#[61]⟩) (w : World) : Calls Tryz.prog 90 #[.string A, .string ⟨#[61]⟩] w fun e w' => e = .returned (.bool true) ∧ w' = w := by
  have h2 : (1 : Int) ≤ (A.size : Int) := by omega
  go_enter Tryz.func90, Tryz.ntmps90
  go_wp2
  go_ret
  exact ⟨rfl, rfl⟩
end Go.Proofs.YtocpikgcbibcoaaGreatDoor.radw

namespace Go.Proofs.YtocpikgcbibcoaaGreatDoor.radw
open Go.ChangeShapes Go.WideShapes Go.ChangeAt Go.RowKit Go.Proofs.YtocpikgcbibcoaaGreatDoor.common
attribute [local go_sem ↓] Go.wp_at_zero Go.wp_at_succ

end Go.Proofs.YtocpikgcbibcoaaGreatDoor.radw

namespace Go.Proofs.YtocpikgcbibcoaaGreatDoor.radw
open Go.ChangeShapes Go.WideShapes Go.ChangeAt Go.RowKit Go.Proofs.YtocpikgcbibcoaaGreatDoor.common

theorem ba_ext {a b : ByteArray} (h : a.data.toList = b.data.toList) : a = b := by
  apply ByteArray.ext; apply Array.toList_inj.1; exact h

end Go.Proofs.YtocpikgcbibcoaaGreatDoor.radw

namespace Go.Proofs.YtocpikgcbibcoaaGreatDoor.radw
open Go.ChangeShapes Go.WideShapes Go.ChangeAt Go.RowKit Go.Proofs.YtocpikgcbibcoaaGreatDoor.common

theorem str_size (l : List UInt8) : (⟨l.toArray⟩ : ByteArray).size = l.length := by
  show l.toArray.size = _; simp

end Go.Proofs.YtocpikgcbibcoaaGreatDoor.radw

namespace Go.Proofs.YtocpikgcbibcoaaGreatDoor.radw
open Go.ChangeShapes Go.WideShapes Go.ChangeAt Go.RowKit Go.Proofs.YtocpikgcbibcoaaGreatDoor.common

end Go.Proofs.YtocpikgcbibcoaaGreatDoor.radw

namespace Go.Proofs.YtocpikgcbibcoaaGreatDoor.radw
open Go.ChangeShapes Go.WideShapes Go.ChangeAt Go.RowKit Go.Proofs.YtocpikgcbibcoaaGreatDoor.common

end Go.Proofs.YtocpikgcbibcoaaGreatDoor.radw

namespace Go.Proofs.YtocpikgcbibcoaaGreatDoor.ss
open Go.ChangeShapes Go.WideShapes Go.ChangeAt Go.RowKit Go.Joins Go.Proofs.YtocpikgcbibcoaaGreatDoor.common Go.Proofs.YtocpikgcbibcoaaGreatDoor.bk
open Go.WideMaps Go.WideElems

/-- all the bytes of texts, and one for each -/
def tot (l : List ByteArray) : Nat := (l.map fun x => x.size + 1).sum

theorem weightsAll_mem {H : Type} {P : Program} {e : TypeId} {p : Nat → Bool} : ∀ (l : List (DataW H)), (DataW.weightsAll P e l).all p = true → ∀ d ∈ l, (d.weights P e).all p = true
  | [], _, d, hd => by cases hd
  | x :: r, h, d, hd => by
    rw [DataW.weightsAll, List.all_append, Bool.and_eq_true] at h
    rcases List.mem_cons.1 hd with rfl | hd
    · exact h.1
    · exact weightsAll_mem r h.2 d hd
theorem bytesStr : Tryz.prog.bytesOf 9 = 16 := by kernel_rfl
theorem cellsStr1 : Tryz.prog.cellsOf 9 = 1 := by kernel_rfl
theorem sum_bulkS {H : Type} (f : Nat → ByteArray) (D : Nat → DataW H) : ∀ (ns : List Nat), (∀ i ∈ ns, (f i).size + 1 ≤ Rows.uptoBulk (D i)) → tot (ns.map f) ≤ Rows.uptoBulkAll (ns.map D)
  | [], _ => Nat.zero_le _
  | n :: r, h => by
    have h1 := h n (List.mem_cons_self ..)
    have h2 := sum_bulkS f D r fun i hi => h i (List.mem_cons_of_mem _ hi)
    unfold tot at h2 ⊢
    simp only [List.map_cons, List.sum_cons, Rows.uptoBulkAll]
    omega
set_option maxRecDepth 100000 in
/-- a list of texts as an argument -/
theorem strs_of {H : Type} {enc : TypeId × Value → H} {W : World} {fuel : Nat} {v : Value} {d : DataW H} {pl : List MemPlace}
    (h : DataW.trod enc Tryz.prog W 0 (fun _ => true) true fuel 24 [v] = some (d, pl)) (hw : (d.weights Tryz.prog 24).all (· ≤ reachBytes) = true) :
    ∃ l, Lies W v l ∧ l.length * 16 ≤ reachBytes ∧ (∀ x ∈ l, x.size ≤ reachBytes) ∧ tot l ≤ Rows.uptoBulk d := by
  rcases Deep.open_slice Tryz.underlying24 h with ⟨hcs, hx⟩ | ⟨a, len, cap, m, n, D, Pl, hcs, hb, hl, hm, hmm, hx, hall⟩
  · obtain rfl : v = .slice none 0 0 := by simpa using hcs
    exact ⟨[], lies_nil W, Nat.zero_le _, fun x hx => (by cases hx), Nat.zero_le _⟩
  · obtain rfl : v = .slice (some a) len cap := by simpa using hcs
    have hd : d = .slice ((List.range len).map D) ((List.range (m - len)).map fun j => D (len + j)) := (Prod.mk.inj hx).1
    subst hd
    simp only [DataW.weights, Tryz.underlying24, List.all_cons, List.all_append, Bool.and_eq_true] at hw
    have each : ∀ i, ∃ p : ByteArray, i < len → D i = .lit (.string p.data.toList) ∧ p.size + 1 ≤ Rows.uptoBulk (D i) ∧ ∃ b o, a = ⟨b, o, none⟩ ∧ b < W.heap.size ∧ W.cell? ⟨b, o + i, none⟩ = some (.string p) := by
      intro i
      by_cases hi : i < len
      · obtain ⟨cs', h1, h2⟩ := hall i (by rw [hmm]; simp; omega)
        rw [cellsStr1] at h1
        obtain ⟨_, hlen, hcell⟩ := World.cells?_some h1
        match cs', hlen with
        | [v0], _ =>
          obtain ⟨s, es, hz, _⟩ := DataW.trod_string Tryz.underlying9 h2
          simp at es
          subst es
          have hDi : D i = .lit (.string s.data.toList) := (Prod.mk.inj hz).1
          have hw : s.size + 1 ≤ Rows.uptoBulk (D i) := by
            rw [hDi]
            simp only [Rows.uptoBulk, len_list]
            omega
          have c0 := hcell 0 (by decide)
          have hsp : a.spot = none := by
            have q0 := hall 0 (by rw [hmm]; simp; omega)
            obtain ⟨cs0, g1, _⟩ := q0
            rw [cellsStr1] at g1
            obtain ⟨_, hlen0, hcell0⟩ := World.cells?_some g1
            have g2 := hcell0 0 (by decide)
            rw [List.getElem?_eq_getElem (by omega)] at g2
            have := World.cell?_spot g2
            simpa [Addr.add] using this
          obtain ⟨b, o, sp⟩ := a
          simp at hsp
          subst hsp
          rw [Addr.add_mid, Addr.add_mid] at c0
          have c0' : W.cell? ⟨b, o + i, none⟩ = some (.string s) := by simpa using c0
          exact ⟨s, fun _ => ⟨hDi, hw, b, o, rfl, World.block_lt_of_cell? W _ c0', c0'⟩⟩
      · exact ⟨ByteArray.empty, fun h => absurd h hi⟩
    obtain ⟨f, hf⟩ := Classical.axiomOfChoice each
    have hlen : ((List.range len).map f).length = len := by simp
    have hsum := sum_bulkS f D (List.range len) (fun i hi => (hf i (List.mem_range.1 hi)).2.1)
    have hB : Rows.uptoBulkAll ((List.range len).map D) ≤ Rows.uptoBulk (.slice ((List.range len).map D) ((List.range (m - len)).map fun j => D (len + j))) := by
      simp only [Rows.uptoBulk]
      omega
    have hww : len * 16 ≤ reachBytes ∧ ∀ i, i < len → (f i).size ≤ reachBytes := by
      refine ⟨?_, fun i hi => ?_⟩
      · have h1 := hw.1
        rw [bytesStr] at h1
        simp at h1
        omega
      · have hwi := weightsAll_mem _ hw.2.1 (D i) (List.mem_map.2 ⟨i, List.mem_range.2 hi, rfl⟩)
        rw [(hf i hi).1] at hwi
        simp [DataW.weights] at hwi
        simpa using hwi
    refine ⟨(List.range len).map f, ⟨some a, cap, by rw [hlen], fun i hi => ?_⟩, by rw [hlen]; exact hww.1, ?_, Nat.le_trans hsum hB⟩
    · rw [hlen] at hi
      obtain ⟨_, _, b, o, rfl, hb, c0⟩ := hf i hi
      exact ⟨b, o, rfl, hb, by simpa using c0⟩
    · intro x hx
      obtain ⟨i, hi, rfl⟩ := List.mem_map.1 hx
      exact hww.2 i (List.mem_range.1 hi)

end Go.Proofs.YtocpikgcbibcoaaGreatDoor.ss

namespace Go.Proofs.YtocpikgcbibcoaaGreatDoor.ss
open Go.ChangeShapes Go.WideShapes Go.ChangeAt Go.RowKit Go.Proofs.YtocpikgcbibcoaaGreatDoor.common Go.Proofs.YtocpikgcbibcoaaGreatDoor.bk
attribute [local go_sem ↓] Go.wp_at_zero Go.wp_at_succ

/-- texts with a blank between each two -/
def joinS (l : List ByteArray) : List UInt8 := Lib.join (l.map (·.data.toList)) [32]
end Go.Proofs.YtocpikgcbibcoaaGreatDoor.ss

namespace Go.Proofs.YtocpikgcbibcoaaGreatDoor.ss
open Go.ChangeShapes Go.WideShapes Go.ChangeAt Go.RowKit Go.Joins Go.Proofs.YtocpikgcbibcoaaGreatDoor.common Go.Proofs.YtocpikgcbibcoaaGreatDoor.bk
attribute [local go_sem ↓] Go.wp_at_zero Go.wp_at_succ

end Go.Proofs.YtocpikgcbibcoaaGreatDoor.ss

namespace Go.Proofs.YtocpikgcbibcoaaGreatDoor.tm
open Go.RowKit Go.Proofs.YtocpikgcbibcoaaGreatDoor.common Go.Proofs.YtocpikgcbibcoaaGreatDoor.bk
open Go.Proofs.YtocpikgcbibcoaaGreatDoor.ss (joinS tot)

end Go.Proofs.YtocpikgcbibcoaaGreatDoor.tm

namespace Go.Proofs.YtocpikgcbibcoaaGreatDoor.tm
open Go.RowKit Go.Proofs.YtocpikgcbibcoaaGreatDoor.common Go.Proofs.YtocpikgcbibcoaaGreatDoor.bk
open Go.Proofs.YtocpikgcbibcoaaGreatDoor.ss (joinS tot)

/-- a word ahead of the first -/
def pre (w : List UInt8) : List (List UInt8) → List (List UInt8)
  | h :: t => (w ++ h) :: t
  | [] => [w]
theorem sc_size {x : ByteArray} (h : isSc x = true) : x.size ≤ 32 := by
  unfold isSc Tm.word at h
  rw [Bool.and_eq_true, Bool.and_eq_true] at h
  have := of_decide_eq_true h.1.2
  rwa [len_list] at this
theorem mem_riseB {zs : List ByteArray} {x : ByteArray} : x ∈ riseB zs ↔ x ∈ zs := by
  unfold riseB
  rw [List.mem_map]
  constructor
  · rintro ⟨y, hy, rfl⟩
    have := ((Tm.rise_spec (raw zs)).2 y).1 hy
    unfold raw at this
    obtain ⟨z, hz, rfl⟩ := List.mem_map.1 this
    exact hz
  · intro h
    refine ⟨x.data.toList, ((Tm.rise_spec (raw zs)).2 _).2 ?_, rfl⟩
    unfold raw
    exact List.mem_map.2 ⟨x, h, rfl⟩
theorem riseB_lt (zs : List ByteArray) : (riseB zs).Pairwise fun a b => a.data.toList < b.data.toList := by
  unfold riseB
  rw [List.pairwise_map]
  exact (Tm.rise_spec (raw zs)).1
/-- what is known of scopes that were read -/
structure Good (s : ByteArray) (l : List ByteArray) : Prop where
  pos : 1 ≤ l.length
  most : l.length ≤ 16
  lt : l.Pairwise fun a b => a.data.toList < b.data.toList
  sc : ∀ x ∈ l, isSc x = true
  mem : ∀ x, x ∈ l ↔ x ∈ tsq.parts 32 s
theorem good_of {s : ByteArray} (ha : areSc s = true) (hm : many s = false) : Good s (scL s) := by
  have e : scL s = riseB (tsq.parts 32 s) := by unfold scL; rw [ha, hm]; rfl
  have hp : tsq.parts 32 s ≠ [] := by
    unfold tsq.parts
    intro h
    exact Tm.split_ne 32 s.data.toList (List.map_eq_nil_iff.1 h)
  rw [e]
  refine ⟨?_, ?_, riseB_lt _, fun x hx => List.all_eq_true.1 ha x (mem_riseB.1 hx), fun x => mem_riseB⟩
  · cases hq : tsq.parts 32 s with
    | nil => exact absurd hq hp
    | cons y t =>
      have : y ∈ riseB (y :: t) := mem_riseB.2 (List.mem_cons_self ..)
      exact List.length_pos_of_mem this
  · unfold many at hm
    have := of_decide_eq_false hm
    omega
end Go.Proofs.YtocpikgcbibcoaaGreatDoor.tm

namespace Go.Proofs.YtocpikgcbibcoaaGreatDoor.tm
open Go.ChangeShapes Go.WideShapes Go.ChangeAt Go.RowKit Go.Proofs.YtocpikgcbibcoaaGreatDoor.common Go.Proofs.YtocpikgcbibcoaaGreatDoor.bk
open Go.Proofs.YtocpikgcbibcoaaGreatDoor.ss (sc)
attribute [local go_sem ↓] Go.wp_at_zero Go.wp_at_succ

end Go.Proofs.YtocpikgcbibcoaaGreatDoor.tm

namespace Go.Proofs.YtocpikgcbibcoaaGreatDoor.tm
open Go.ChangeShapes Go.WideShapes Go.ChangeAt Go.RowKit Go.Proofs.YtocpikgcbibcoaaGreatDoor.common Go.Proofs.YtocpikgcbibcoaaGreatDoor.bk
open Go.Proofs.YtocpikgcbibcoaaGreatDoor.ss (sc)
attribute [local go_sem ↓] Go.wp_at_zero Go.wp_at_succ

end Go.Proofs.YtocpikgcbibcoaaGreatDoor.tm

namespace Go.Proofs.YtocpikgcbibcoaaGreatDoor.tm
open Go.ChangeShapes Go.WideShapes Go.ChangeAt Go.RowKit Go.Proofs.YtocpikgcbibcoaaGreatDoor.common Go.Proofs.YtocpikgcbibcoaaGreatDoor.bk
open Go.Proofs.YtocpikgcbibcoaaGreatDoor.ss (sc Lies)
attribute [local go_sem ↓] Go.wp_at_zero Go.wp_at_succ

/-- which texts are above the last one -/
def above (last : ByteArray) (first : Bool) (x : ByteArray) : Bool := first || decide (last.data.toList < x.data.toList)
end Go.Proofs.YtocpikgcbibcoaaGreatDoor.tm

namespace Go.Proofs.YtocpikgcbibcoaaGreatDoor.ss
open Go.ChangeShapes Go.WideShapes Go.ChangeAt Go.RowKit Go.Proofs.YtocpikgcbibcoaaGreatDoor.common Go.Proofs.YtocpikgcbibcoaaGreatDoor.bk
attribute [local go_sem ↓] Go.wp_at_zero Go.wp_at_succ

/-- does x stand in l? -/
def has (x : ByteArray) (l : List ByteArray) : Bool := l.any fun y => y.data.toList == x.data.toList
end Go.Proofs.YtocpikgcbibcoaaGreatDoor.ss

namespace Go.Proofs.YtocpikgcbibcoaaGreatDoor.tm
open Go.ChangeShapes Go.WideShapes Go.ChangeAt Go.RowKit Go.Proofs.YtocpikgcbibcoaaGreatDoor.common Go.Proofs.YtocpikgcbibcoaaGreatDoor.bk
open Go.Proofs.YtocpikgcbibcoaaGreatDoor.ss (sc Lies)
attribute [local go_sem ↓] Go.wp_at_zero Go.wp_at_succ

end Go.Proofs.YtocpikgcbibcoaaGreatDoor.tm
