import Derived.Test.YtidccfflpcgkiaaGreatDoorMStrBase
import Derived.Test.YtidccfflpcgkiaaGreatDoorMRcList
import Derived.Test.YtidccfflpcgkiaaGreatDoorMRdKit
import Derived.Deep.DeepAppendWide
import Derived.Deep.AppendLies
import Derived.Deep.RegionLawGrows
import Derived.Test.YtidccfflpcgkiaaGreatDoorMRadixBack
import Derived.Test.YtidccfflpcgkiaaGreatDoorMRefLetters
import Derived.Test.YtidccfflpcgkiaaGreatDoorMRadixRead
namespace Go.Proofs.YtidccfflpcgkiaaGreatDoor.rc
open Go.ChangeShapes Go.WideShapes Go.ChangeAt Go.RowKit Go.Proofs.YtidccfflpcgkiaaGreatDoor.common Go.Proofs.YtidccfflpcgkiaaGreatDoor.dk

theorem add128 (n : Nat) : (128 : Int) + ((n % 128 : Nat) : Int) = ((UInt8.ofNat (128 + n % 128)).toNat : Int) := by
  rw [ofNat_val (128 + n % 128) (by have := Nat.mod_lt n (show 0 < 128 by decide); omega)]
  omega
end Go.Proofs.YtidccfflpcgkiaaGreatDoor.rc

namespace Go.Proofs.YtidccfflpcgkiaaGreatDoor.dk
open Go.ChangeShapes Go.WideShapes Go.ChangeAt Go.RowKit Go.Proofs.YtidccfflpcgkiaaGreatDoor.common
set_option maxRecDepth 100000 in
set_option maxHeartbeats 800000 in
theorem copy_any (w : World) (v : Value) (l : List UInt8) (h : Rd w v l) (hs : l.length ≤ 140737488355328) :
    Calls Tryz.prog 22 #[v] w fun r' w' => ∃ v, r' = .returned v ∧ w'.ownsRow w.heap.size 5 1 v l.length (l.map B) ∧ Below w.heap.size w w' := by
  obtain ⟨i0, hi, hz0, hz1, hz2⟩ := info_parts info8
  obtain ⟨oa, ca, rfl⟩ := h.len
  have HR := hide h
  clear h
  go_enter Tryz.func22, Tryz.ntmps22
  go_wp2
  go_loopw [3, 4] (fun v i wr => ∃ k : Nat, k ≤ l.length ∧ i = .int .i64 k ∧ wr.ownsRow w.heap.size 5 1 v k ((l.take k).map B) ∧ Below w.heap.size w wr) (fun _ i _ => l.length - (intOf i).toNat)
  case atStart => exact ⟨0, Nat.zero_le _, rfl, World.ownsRow_nil _ _ _ _, Below.refl _ _⟩
  case round =>
    obtain ⟨k, hk, rfl, hown, hnx⟩ := hrel
    have hsz := hnx.size
    by_cases hlt : k < l.length
    · obtain ⟨ga, o1, rfl, h1⟩ := (HR.out.below hnx).cell (by omega)
      have c1 := h1 k hlt
      have hsn := hide (take_snocL l k hlt)
      have k0 : (0 : Int) ≤ (k : Int) := Int.natCast_nonneg _
      have k1 : (k : Int) < (l.length : Int) := by omega
      clear h1
      generalize l[k] = x at *
      go_wp2_with (at_builtin; refine wpList_append_own _ rfl _ _ 29 rfl w.heap.size 5 i0 (.int .u8 0) 1 1 Tryz.underlying29 hi hz0 hz1 hz2 rfl (by decide) _ _ _ rfl (hown.alloc _) ⟨wr.heap.size, 0, none⟩ 1 1 [B x] rfl rfl ?c1 ?c2 ?c3 ?c4 ?c5 ?_)
      case c1 => exact cell_one_new _ _ _
      case c2 => intro u hu; simp at hu; subst hu; rfl
      case c3 => unfold maxLen; omega
      case c4 => omega
      case c5 => simp; omega
      intro v' w1 hown' hgrow _
      have R1 : w1.ownsRow w.heap.size 5 1 v' (k + 1) ((l.take (k + 1)).map B) := by
        rw [hsn.out, List.map_append, List.map_take]; exact hown'
      have R2 : Below w.heap.size w w1 := by
        refine (hnx.alloc hsz _).grown hgrow (by simp; omega) ?_
        exact own_ge hown
      clear hown' hgrow hown
      have H1 := hide R1
      have H2 := hide R2
      clear R1 R2
      go_wp2
      go_roundw
      case rel => exact ⟨k + 1, by omega, by go_num, H1.out, H2.out⟩
      case measure => simp [intOf]; omega
    · obtain rfl : k = l.length := by omega
      have H1 : Hid (wr.ownsRow w.heap.size 5 1 u3 l.length (l.map B)) := by
        rw [List.take_of_length_le (Nat.le_refl _)] at hown; exact hown
      have H2 := hide hnx
      clear hown hnx
      go_wp2
      go_ret
      exact ⟨_, rfl, H1.out, H2.out⟩
end Go.Proofs.YtidccfflpcgkiaaGreatDoor.dk

namespace Go.Proofs.YtidccfflpcgkiaaGreatDoor.dr
open Go.ChangeShapes Go.WideShapes Go.ChangeAt Go.RowKit Go.Proofs.YtidccfflpcgkiaaGreatDoor.common Go.Proofs.YtidccfflpcgkiaaGreatDoor.dk

set_option maxRecDepth 100000 in
/-- whatever is put behind a row of one's own -/
theorem append_src (w : World) (base : Nat) (t tx e : TypeId) (i : TypeInfo) (z : Value) (size : Nat) (hu : Tryz.prog.underlying t = some (.slice e)) (hi : Tryz.prog.info? e = some i) (hz : i.zero = some z) (hsz : i.size = size) (hzs : z.cells.size = size) (v : Value) (n : Nat) (xs : List Value) (h : w.ownsRow base e size v n xs)
    (x : Value) (m : Nat) (news : List Value) (hs : Src Tryz.prog i.size tx x m news w) (hm : news.length = m * size) (hfit : (n + m + (n + m) / 4 + 192) * i.bytes ≤ 281474976710656) (hmax : n + m ≤ maxLen) (hbase : base ≤ w.heap.size) :
    ∃ v' W', (Builtin.append_ #[t, tx] t #[v, x]).run Tryz.prog w = .ok v' W' ∧ W'.ownsRow base e size v' (n + m) (xs ++ news) ∧ Fr v.ownBlock.toList w W' ∧ (v'.ownBlock = v.ownBlock ∨ ∃ g, v'.ownBlock = some g ∧ w.heap.size ≤ g) := by
  subst hsz
  have hl := h.1
  have hmax' : n + m ≤ 9223372036854775807 := by unfold maxLen at hmax; omega
  have grow : ∀ (ao : Option Addr) (cap : Nat), v = .slice ao n cap → cap < n + m → (Builtin.firstCells i.size n (.slice ao n cap)).run Tryz.prog w.drew = .ok xs.toArray w.drew → ∃ v' W', (Builtin.append_ #[t, tx] t #[v, x]).run Tryz.prog w = .ok v' W' ∧ W'.ownsRow base e i.size v' (n + m) (xs ++ news) ∧ Fr v.ownBlock.toList w W' ∧ (v'.ownBlock = v.ownBlock ∨ ∃ g, v'.ownBlock = some g ∧ w.heap.size ≤ g) := fun ao cap hv hc hold => by
    subst hv
    have hrun := run_append_grow_src (P := Tryz.prog) w t tx t e i z hu hi hz ao n cap xs hold x m news hs hc (by omega) (growslice_fits_wide (by omega) hfit)
    have hge := grownCap_ge w (n + m) cap e
    have hle := grownCap_le_maxLen w (n + m) cap e hmax
    refine ⟨_, _, hrun, ⟨by rw [List.length_append, hl, hm, Nat.add_mul], Or.inr ⟨w.heap.size, _, _, rfl, hbase, heap_alloc_new _ _, hge, hle, ?_, ?_⟩⟩, (((Fr.refl _ w).drew).alloc _), Or.inr ⟨w.heap.size, rfl, Nat.le_refl _⟩⟩
    · rw [Array.size_append, size_zeroCells, List.size_toArray, List.length_append, hl, hm, hzs, ← Nat.add_mul, ← Nat.add_mul]
      congr 1
      omega
    · rw [Array.toList_append, List.toList_toArray]
      exact List.take_left' (by rw [List.length_append, hl, hm, Nat.add_mul])
  rcases h.2 with ⟨rfl, rfl⟩ | ⟨g, cap, cur, rfl, h1, h2, h3, h4, h5, h6⟩
  · obtain rfl : xs = [] := List.eq_nil_of_length_eq_zero (by rw [hl, Nat.zero_mul])
    by_cases h0 : m = 0
    · subst h0
      obtain rfl : news = [] := List.eq_nil_of_length_eq_zero (by rw [hm, Nat.zero_mul])
      refine ⟨.slice none 0 0, w, ?_, h, Fr.refl _ _, Or.inl rfl⟩
      have hc := hs.cells
      rcases hs.kind with ⟨e', hk⟩ | hk <;> simp [Builtin.append_, run_underlying (P := Tryz.prog) hu, run_underlying (P := Tryz.prog) hk, sizeOf, typeInfo, hi, hs.len, hc]
    · exact grow none 0 rfl (by omega) (run_firstCells_none w.drew i.size 0 0 0)
  · by_cases hroom : n + m ≤ cap
    · have hin : ∀ j, j < news.length → 0 + n * i.size + j < cur.size := fun j hj => by
        rw [hm] at hj
        rw [h5, Nat.zero_add]
        have : (n + m) * i.size ≤ cap * i.size := Nat.mul_le_mul_right _ hroom
        rw [Nat.add_mul] at this
        omega
      have hrun := run_append_room_src (P := Tryz.prog) w t tx t e i hu hi g 0 n cap x m news hs hroom (fun j hj => by rw [cell_of h2, Array.getElem?_eq_getElem (hin j hj)]; rfl) (fun j hj => free_of h2 _)
      rw [Nat.zero_add] at hrun
      have hc2 : w.heap[g]? = some (.cells cur.toList.toArray e (0, 0)) := by rw [Array.toArray_toList]; exact h2
      have hcl : cur.toList.length = cap * i.size := (Array.length_toList (xs := cur)).trans h5
      have hlt : n * i.size + news.length ≤ cur.toList.length := by
        rw [hcl, hm, ← Nat.add_mul]
        exact Nat.mul_le_mul_right _ hroom
      have hst := sets_here hc2 news (n * i.size) hlt
      refine ⟨_, _, hrun, ⟨by rw [List.length_append, hl, hm, Nat.add_mul], Or.inr ⟨g, cap, _, rfl, h1, hst, hroom, h4, ?_, ?_⟩⟩, (Fr.refl _ w).sets g _ _ (Or.inl (by simp [Value.ownBlock])), Or.inl rfl⟩
      · rw [List.size_toArray, List.length_append, List.length_append, List.length_take, List.length_drop, ← hcl]
        omega
      · rw [List.toList_toArray, h6, ← List.append_assoc]
        exact List.take_left' (by rw [List.length_append, hl, hm, Nat.add_mul])
    · refine grow (some ⟨g, 0, none⟩) cap rfl (by omega) ?_
      exact run_firstCells_some w.drew i.size n _ n cap xs hl (by
        intro j u hu'
        have := h.cells (g := g) rfl j u hu'
        exact this)
/-- bytes that can be read as what is appended -/
theorem src_rd {w : World} {oa : Option Addr} {c : Nat} {l : List UInt8} (h : Rd w (.slice oa l.length c) l) : Src Tryz.prog 1 29 (.slice oa l.length c) l.length (l.map B) w := by
  obtain ⟨oa', c', e, hr⟩ := h
  cases e
  by_cases h0 : 0 < l.length
  · obtain ⟨g, o, rfl, _, hr⟩ := hr h0
    exact Src.ofSlice _ Tryz.underlying29 _ _ _ _ (by rw [List.length_map, Nat.mul_one]) (fun j u hu => by rw [Addr.add_mid]; exact hr j u hu) (fun u hu => by obtain ⟨_, _, rfl⟩ := List.mem_map.1 hu; rfl)
  · obtain rfl : l = [] := List.eq_nil_of_length_eq_zero (by omega)
    cases oa with
    | none => exact Src.ofNil _ Tryz.underlying29 _
    | some a => exact Src.ofSlice _ Tryz.underlying29 _ _ _ _ rfl (fun j u hu => by simp at hu) (fun u hu => by cases hu)
set_option maxRecDepth 100000 in
theorem append_rd (w : World) (base : Nat) (v : Value) (l : List UInt8) (h : w.ownsRow base 5 1 v l.length (l.map B)) (oa : Option Addr) (c : Nat) (m : List UInt8) (hr : Rd w (.slice oa m.length c) m) (hb : l.length + m.length ≤ 140738562097152) (hbase : base ≤ w.heap.size) :
    ∃ v' W', (Builtin.append_ #[29, 29] 29 #[v, .slice oa m.length c]).run Tryz.prog w = .ok v' W' ∧ W'.ownsRow base 5 1 v' (l ++ m).length ((l ++ m).map B) ∧ Fr v.ownBlock.toList w W' ∧ (v'.ownBlock = v.ownBlock ∨ ∃ g, v'.ownBlock = some g ∧ w.heap.size ≤ g) := by
  obtain ⟨i0, hi, hz0, hz1, hz2⟩ := info_parts info8
  have hs := src_rd hr
  rw [← hz1] at hs
  rw [List.length_append, List.map_append]
  exact append_src w base 29 29 5 i0 (.int .u8 0) 1 Tryz.underlying29 hi hz0 hz1 rfl v l.length (l.map B) h _ m.length (m.map B) hs (by rw [List.length_map, Nat.mul_one]) (by rw [hz2]; omega) (by unfold maxLen; omega) hbase
end Go.Proofs.YtidccfflpcgkiaaGreatDoor.dr

namespace Go.Proofs.YtidccfflpcgkiaaGreatDoor.Rad

/-- the bit i of a row of numbers of n bits each -/
def nb (x : Nat → Nat) (n i : Nat) : Nat := x (i / n) / 2 ^ (n - 1 - i % n) % 2
theorem nb_lt (x : Nat → Nat) (n i : Nat) : nb x n i < 2 := by unfold nb; omega
theorem nb_at (x : Nat → Nat) (n q r : Nat) (hr : r < n) : nb x n (n * q + r) = x q / 2 ^ (n - 1 - r) % 2 := by
  unfold nb
  have h1 : (n * q + r) / n = q := by
    rw [Nat.mul_comm, Nat.add_comm, Nat.add_mul_div_right _ _ (by omega), Nat.div_eq_of_lt hr, Nat.zero_add]
  have h2 : (n * q + r) % n = r := by rw [Nat.mul_add_mod, Nat.mod_eq_of_lt hr]
  rw [h1, h2]
theorem grp8 (b : Nat → Nat) (i : Nat) : grp b i 8 = 2 * (2 * (2 * (2 * (2 * (2 * (2 * (2 * 0 + b (i + 0)) + b (i + 1)) + b (i + 2)) + b (i + 3)) + b (i + 4)) + b (i + 5)) + b (i + 6)) + b (i + 7) := rfl

theorem four_bytes (x : Nat → Nat) (hx : ∀ i, x i < 16) (m : Nat) : grp (nb x 4) (8 * m) 8 = x (2 * m) * 16 + x (2 * m + 1) := by
  have h0 := hx (2 * m)
  have h1 := hx (2 * m + 1)
  rw [grp8]
  rw [show 8 * m + 0 = 4 * (2 * m) + 0 by omega, show 8 * m + 1 = 4 * (2 * m) + 1 by omega, show 8 * m + 2 = 4 * (2 * m) + 2 by omega, show 8 * m + 3 = 4 * (2 * m) + 3 by omega, show 8 * m + 4 = 4 * (2 * m + 1) + 0 by omega, show 8 * m + 5 = 4 * (2 * m + 1) + 1 by omega, show 8 * m + 6 = 4 * (2 * m + 1) + 2 by omega, show 8 * m + 7 = 4 * (2 * m + 1) + 3 by omega]
  rw [nb_at x 4 (2 * m) 0 (by decide), nb_at x 4 (2 * m) 1 (by decide), nb_at x 4 (2 * m) 2 (by decide), nb_at x 4 (2 * m) 3 (by decide), nb_at x 4 (2 * m + 1) 0 (by decide), nb_at x 4 (2 * m + 1) 1 (by decide), nb_at x 4 (2 * m + 1) 2 (by decide), nb_at x 4 (2 * m + 1) 3 (by decide)]
  simp only [Nat.reduceSub, Nat.reducePow]
  omega

theorem six_bytes (x : Nat → Nat) (hx : ∀ i, x i < 64) (m : Nat) : grp (nb x 6) (8 * m) 8 = byt x m := by
  obtain ⟨i, r, hr, rfl⟩ : ∃ i r, r < 3 ∧ m = 3 * i + r := ⟨m / 3, m % 3, by omega, by omega⟩
  have h0 := hx (4 * i)
  have h1 := hx (4 * i + 1)
  have h2 := hx (4 * i + 2)
  have h3 := hx (4 * i + 3)
  unfold byt
  rw [show (3 * i + r) % 3 = r by omega, show (3 * i + r) / 3 * 4 = 4 * i by omega, grp8]
  match r, hr with
  | 0, _ =>
    rw [show 8 * (3 * i + 0) + 0 = 6 * (4 * i) + 0 by omega, show 8 * (3 * i + 0) + 1 = 6 * (4 * i) + 1 by omega, show 8 * (3 * i + 0) + 2 = 6 * (4 * i) + 2 by omega, show 8 * (3 * i + 0) + 3 = 6 * (4 * i) + 3 by omega, show 8 * (3 * i + 0) + 4 = 6 * (4 * i) + 4 by omega, show 8 * (3 * i + 0) + 5 = 6 * (4 * i) + 5 by omega, show 8 * (3 * i + 0) + 6 = 6 * (4 * i + 1) + 0 by omega, show 8 * (3 * i + 0) + 7 = 6 * (4 * i + 1) + 1 by omega]
    rw [nb_at x 6 (4 * i) 0 (by decide), nb_at x 6 (4 * i) 1 (by decide), nb_at x 6 (4 * i) 2 (by decide), nb_at x 6 (4 * i) 3 (by decide), nb_at x 6 (4 * i) 4 (by decide), nb_at x 6 (4 * i) 5 (by decide), nb_at x 6 (4 * i + 1) 0 (by decide), nb_at x 6 (4 * i + 1) 1 (by decide)]
    simp only [Nat.reduceSub, Nat.reducePow]
    omega
  | 1, _ =>
    rw [show 8 * (3 * i + 1) + 0 = 6 * (4 * i + 1) + 2 by omega, show 8 * (3 * i + 1) + 1 = 6 * (4 * i + 1) + 3 by omega, show 8 * (3 * i + 1) + 2 = 6 * (4 * i + 1) + 4 by omega, show 8 * (3 * i + 1) + 3 = 6 * (4 * i + 1) + 5 by omega, show 8 * (3 * i + 1) + 4 = 6 * (4 * i + 2) + 0 by omega, show 8 * (3 * i + 1) + 5 = 6 * (4 * i + 2) + 1 by omega, show 8 * (3 * i + 1) + 6 = 6 * (4 * i + 2) + 2 by omega, show 8 * (3 * i + 1) + 7 = 6 * (4 * i + 2) + 3 by omega]
    rw [nb_at x 6 (4 * i + 1) 2 (by decide), nb_at x 6 (4 * i + 1) 3 (by decide), nb_at x 6 (4 * i + 1) 4 (by decide), nb_at x 6 (4 * i + 1) 5 (by decide), nb_at x 6 (4 * i + 2) 0 (by decide), nb_at x 6 (4 * i + 2) 1 (by decide), nb_at x 6 (4 * i + 2) 2 (by decide), nb_at x 6 (4 * i + 2) 3 (by decide)]
    simp only [Nat.reduceSub, Nat.reducePow]
    omega
  | 2, _ =>
    rw [show 8 * (3 * i + 2) + 0 = 6 * (4 * i + 2) + 4 by omega, show 8 * (3 * i + 2) + 1 = 6 * (4 * i + 2) + 5 by omega, show 8 * (3 * i + 2) + 2 = 6 * (4 * i + 3) + 0 by omega, show 8 * (3 * i + 2) + 3 = 6 * (4 * i + 3) + 1 by omega, show 8 * (3 * i + 2) + 4 = 6 * (4 * i + 3) + 2 by omega, show 8 * (3 * i + 2) + 5 = 6 * (4 * i + 3) + 3 by omega, show 8 * (3 * i + 2) + 6 = 6 * (4 * i + 3) + 4 by omega, show 8 * (3 * i + 2) + 7 = 6 * (4 * i + 3) + 5 by omega]
    rw [nb_at x 6 (4 * i + 2) 4 (by decide), nb_at x 6 (4 * i + 2) 5 (by decide), nb_at x 6 (4 * i + 3) 0 (by decide), nb_at x 6 (4 * i + 3) 1 (by decide), nb_at x 6 (4 * i + 3) 2 (by decide), nb_at x 6 (4 * i + 3) 3 (by decide), nb_at x 6 (4 * i + 3) 4 (by decide), nb_at x 6 (4 * i + 3) 5 (by decide)]
    simp only [Nat.reduceSub, Nat.reducePow]
    omega

theorem un64_bits (T s : List UInt8) : (List.range (6 * s.length / 8)).map (fun m => UInt8.ofNat (grp (nb (num T 64 s) 6) (8 * m) 8)) = un64 T s := by
  unfold un64 n8
  congr 1
  funext m
  rw [six_bytes _ (num_lt (by decide) s)]
theorem unhex_bits (s : List UInt8) : (List.range (4 * s.length / 8)).map (fun m => UInt8.ofNat (grp (nb (num hexT 16 s) 4) (8 * m) 8)) = unhex s := by
  unfold unhex
  rw [show 4 * s.length / 8 = s.length / 2 by omega]
  congr 1
  funext m
  rw [four_bytes _ (num_lt (by decide) s)]

end Go.Proofs.YtidccfflpcgkiaaGreatDoor.Rad

namespace Go.Proofs.YtidccfflpcgkiaaGreatDoor.radw
open Go.ChangeShapes Go.WideShapes Go.ChangeAt Go.RowKit Go.Proofs.YtidccfflpcgkiaaGreatDoor.common

theorem div_bit2 (c K : Nat) (hc : c < 256) : (wrap64 ((c : Int) / (K : Int))).tmod 2 = ((c / K % 2 : Nat) : Int) := by
  have h1 : c / K ≤ c := Nat.div_le_self c K
  rw [← Int.natCast_ediv]
  generalize c / K = q at *
  have e2 : wrap64 (q : Int) = (q : Int) := by unfold wrap64; omega
  rw [e2, Int.tmod_eq_emod_of_nonneg (by omega)]
  omega

/-- the bytes of a row of bits -/
def bys (f : Nat → Nat) (m : Nat) : List UInt8 := (List.range m).map fun j => UInt8.ofNat (Rad.grp f (8 * j) 8)
theorem bys_succ (f : Nat → Nat) (m : Nat) : bys f (m + 1) = bys f m ++ [UInt8.ofNat (Rad.grp f (8 * m) 8)] := by unfold bys; rw [List.range_succ, List.map_append]; rfl
theorem bys_len (f : Nat → Nat) (m : Nat) : (bys f m).length = m := by simp [bys]

theorem halves4 (j : Nat) (hj : j < 3) : ((2 ^ (3 - j) : Nat) : Int) / 2 = ((2 ^ (3 - (j + 1)) : Nat) : Int) := by
  have : 2 ^ (3 - j) = 2 ^ (3 - (j + 1)) * 2 := by rw [← Nat.pow_succ]; congr 1; omega
  rw [this]; omega

end Go.Proofs.YtidccfflpcgkiaaGreatDoor.radw

namespace Go.Proofs.YtidccfflpcgkiaaGreatDoor.radw
open Go.ChangeShapes Go.WideShapes Go.ChangeAt Go.RowKit Go.Proofs.YtidccfflpcgkiaaGreatDoor.common

theorem halves6 (j : Nat) (hj : j < 5) : ((2 ^ (5 - j) : Nat) : Int) / 2 = ((2 ^ (5 - (j + 1)) : Nat) : Int) := by
  have : 2 ^ (5 - j) = 2 ^ (5 - (j + 1)) * 2 := by rw [← Nat.pow_succ]; congr 1; omega
  rw [this]; omega

end Go.Proofs.YtidccfflpcgkiaaGreatDoor.radw

namespace Go.Proofs.YtidccfflpcgkiaaGreatDoor.radw
open Go.ChangeShapes Go.WideShapes Go.ChangeAt Go.RowKit Go.Proofs.YtidccfflpcgkiaaGreatDoor.common
attribute [local go_sem ↓] Go.wp_at_zero Go.wp_at_succ

set_option maxHeartbeats 400000 in
theorem slite_any (A : ByteArray) (h1 : 1 ≤ A.size) (hx : A.extract 0 1 = ⟨#[61]⟩) (w : World) : Calls Tryz.prog 95 #[.string A, .string ⟨#[61]⟩] w fun e w' => e = .returned (.bool true) ∧ w' = w := by
  have h2 : (1 : Int) ≤ (A.size : Int) := by omega
  go_enter Tryz.func95, Tryz.ntmps95
  go_wp2
  go_ret
  exact ⟨rfl, rfl⟩
set_option maxHeartbeats 400000 in
theorem slite_no (A : ByteArray) (h1 : 1 ≤ A.size) (hx : ((A.extract 0 1).toList == [61]) = false) (w : World) : Calls Tryz.prog 95 #[.string A, .string ⟨#[61]⟩] w fun e w' => e = .returned (.bool false) ∧ w' = w := by
  have h2 : (1 : Int) ≤ (A.size : Int) := by omega
  go_enter Tryz.func95, Tryz.ntmps95
  go_wp2
  go_ret
  exact ⟨rfl, rfl⟩
theorem prefix_any (A : ByteArray) (h1 : 1 ≤ A.size) (hx : A.extract 0 1 = ⟨#[61]⟩) (w : World) : Calls Tryz.prog 93 #[.string A, .string ⟨#[61]⟩] w fun e w' => e = .returned (.bool true) ∧ w' = w := by
  have H1 := hide h1
  have H2 := hide hx
  clear h1 hx
  go_enter Tryz.func93, Tryz.ntmps93
  go_wp2_with (go_at_call 95; refine (slite_any _ H1.out H2.out _).mono ?_; rintro e w' ⟨rfl, rfl⟩)
  go_ret
  exact ⟨rfl, rfl⟩

theorem prefix_no (A : ByteArray) (h1 : 1 ≤ A.size) (hx : ((A.extract 0 1).toList == [61]) = false) (w : World) : Calls Tryz.prog 93 #[.string A, .string ⟨#[61]⟩] w fun e w' => e = .returned (.bool false) ∧ w' = w := by
  have H1 := hide h1
  have H2 := hide hx
  clear h1 hx
  go_enter Tryz.func93, Tryz.ntmps93
  go_wp2_with (go_at_call 95; refine (slite_no _ H1.out H2.out _).mono ?_; rintro e w' ⟨rfl, rfl⟩)
  go_ret
  exact ⟨rfl, rfl⟩

end Go.Proofs.YtidccfflpcgkiaaGreatDoor.radw
