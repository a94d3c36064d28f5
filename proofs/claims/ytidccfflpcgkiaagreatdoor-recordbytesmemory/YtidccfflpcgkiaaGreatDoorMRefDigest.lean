import Derived.Test.YtidccfflpcgkiaaGreatDoorMRefPlan
import Derived.Test.YtidccfflpcgkiaaGreatDoorMSumWalks2
import Derived.WalkSpells
import Derived.WalkLawsBesides
import Derived.Outline
import Derived.Maps.AppendAt
import Derived.Deep.DeepCutAuto
namespace Go.Proofs.YtidccfflpcgkiaaGreatDoor.refw
open Go.ChangeShapes Go.WideShapes Go.ChangeAt Go.RowKit Go.Proofs.YtidccfflpcgkiaaGreatDoor.common Go.Proofs.YtidccfflpcgkiaaGreatDoor.shaw
attribute [local go_sem ↓] Go.wp_at_zero Go.wp_at_succ

theorem whole_eq (n : Nat) : n + Sha.padSize n = ((n + 8) / 64 + 1) * 64 := by unfold Sha.padSize; omega

/-- the eight words v lie in the first new block -/
structure At (w W : World) (v : Sha.St) : Prop where
  st : W.rangeAt w.heap.size 0 ((Sha.words v).map V)
  out : W.there w.heap.size 0 8
  below : Below w.heap.size w W

theorem At.lt {w W : World} {v : Sha.St} (h : At w W v) : w.heap.size < W.heap.size := there_lt h.out (by decide)
theorem At.over {w W W' : World} {v : Sha.St} {B : Nat} (h : At w W v) (hb : Below B W W') (hB : w.heap.size < B) : At w W' v :=
  ⟨range_below h.st hb hB, there_below h.out hb hB, h.below.trans (hb.mono (Nat.le_of_lt hB))⟩

theorem words8 {W : World} {g : Nat} {v : Sha.St} (h : W.rangeAt g 0 ((Sha.words v).map V)) :
    W.cell? ⟨g, 0, none⟩ = some (V v.a) ∧ W.cell? ⟨g, 1, none⟩ = some (V v.b) ∧ W.cell? ⟨g, 2, none⟩ = some (V v.c) ∧ W.cell? ⟨g, 3, none⟩ = some (V v.d) ∧ W.cell? ⟨g, 4, none⟩ = some (V v.e) ∧ W.cell? ⟨g, 5, none⟩ = some (V v.f) ∧ W.cell? ⟨g, 6, none⟩ = some (V v.g) ∧ W.cell? ⟨g, 7, none⟩ = some (V v.h) :=
  ⟨h 0 _ rfl, h 1 _ rfl, h 2 _ rfl, h 3 _ rfl, h 4 _ rfl, h 5 _ rfl, h 6 _ rfl, h 7 _ rfl⟩

theorem hot8 {W : World} {g : Nat} (h : W.there g 0 8) :
    W.frozen? ⟨g, 0, none⟩ = false ∧ W.frozen? ⟨g, 1, none⟩ = false ∧ W.frozen? ⟨g, 2, none⟩ = false ∧ W.frozen? ⟨g, 3, none⟩ = false ∧ W.frozen? ⟨g, 4, none⟩ = false ∧ W.frozen? ⟨g, 5, none⟩ = false ∧ W.frozen? ⟨g, 6, none⟩ = false ∧ W.frozen? ⟨g, 7, none⟩ = false :=
  ⟨(h 0 (by decide)).2, (h 1 (by decide)).2, (h 2 (by decide)).2, (h 3 (by decide)).2, (h 4 (by decide)).2, (h 5 (by decide)).2, (h 6 (by decide)).2, (h 7 (by decide)).2⟩

/-- behind the plan of a piece -/
structure Planned (w W : World) (g : Nat) (v : Sha.St) (L : List (BitVec 32)) : Prop where
  at_ : At w W v
  gt : w.heap.size < g
  lt : g < W.heap.size
  plan : W.rangeAt g 0 (L.map V)

theorem Planned.over {w W W' : World} {g B : Nat} {v : Sha.St} {L : List (BitVec 32)} (h : Planned w W g v L) (hb : Below B W W') (hB : g < B) : Planned w W' g v L :=
  ⟨h.at_.over hb (Nat.lt_trans h.gt hB), h.gt, Nat.lt_of_lt_of_le h.lt hb.size, range_below h.plan hb hB⟩

theorem planned_at {w W W1 : World} {v : Sha.St} {L : List (BitVec 32)} (C : Array Value) (t : TypeId) (hC : C.size = L.length) (h : At w W v) (hb : Below W.heap.size W W1) :
    Planned w ((W1.alloc (.cells C t)).setCells W1.heap.size 0 (L.map V)) W1.heap.size v L := by
  have b1 : Below W1.heap.size W1 ((W1.alloc (.cells C t)).setCells W1.heap.size 0 (L.map V)) := common.below_setCells ((Below.refl W1.heap.size W1).alloc (Nat.le_refl _) _) (Nat.le_refl _) _ _
  have h1 := h.over hb h.lt
  have tt : (W1.alloc (.cells C t)).there W1.heap.size 0 (L.map V).length := there_new_at W1 C _ _ _ rfl (by rw [List.length_map]; exact hC.symm)
  refine ⟨h1.over b1 h1.lt, h1.lt, ?_, World.rangeAt_setCells_same _ _ _ _ tt⟩
  refine Nat.lt_of_lt_of_le ?_ (common.below_setCells (B := 0) (Below.refl 0 (W1.alloc (.cells C t))) (Nat.zero_le _) 0 (L.map V)).size
  simp

theorem stepped {w W W2 : World} {g G : Nat} {v : Sha.St} {L : List (BitVec 32)} (h : Planned w W g v L) (ht : W.there G 0 8) (hg : g < G) (hG : G < W.heap.size) (hb : Below W.heap.size W W2) (X : Sha.St) :
    Planned w (W2.setCells G 0 ((Sha.words X).map V)) g v L ∧ (W2.setCells G 0 ((Sha.words X).map V)).rangeAt G 0 ((Sha.words X).map V) ∧ (W2.setCells G 0 ((Sha.words X).map V)).there G 0 8 :=
  have t2 := there_below ht hb hG
  ⟨(h.over hb h.lt).over (common.below_setCells (Below.refl G W2) (Nat.le_refl _) 0 _) hg, World.rangeAt_setCells_same _ _ _ _ t2, World.there_setCells t2 _ _ _⟩

/-- the first k words added, the rest not yet -/
def mixw (v st : Sha.St) (k : Nat) : List (BitVec 32) := (Sha.words (Sha.add v st)).take k ++ (Sha.words v).drop k
theorem mixw_length (v st : Sha.St) (k : Nat) (hk : k ≤ 8) : (mixw v st k).length = 8 :=
  match k, hk with
  | 0, _ | 1, _ | 2, _ | 3, _ | 4, _ | 5, _ | 6, _ | 7, _ | 8, _ => rfl
theorem mixw_get (v st : Sha.St) (k : Nat) (hk : k < 8) : (mixw v st k).getD k 0#32 = (Sha.words v).getD k 0#32 :=
  match k, hk with
  | 0, _ | 1, _ | 2, _ | 3, _ | 4, _ | 5, _ | 6, _ | 7, _ => rfl
theorem mixw_set (v st : Sha.St) (k : Nat) (hk : k < 8) : mixw v st (k + 1) = (mixw v st k).set k ((Sha.words v).getD k 0#32 + (Sha.words st).getD k 0#32) :=
  match k, hk with
  | 0, _ | 1, _ | 2, _ | 3, _ | 4, _ | 5, _ | 6, _ | 7, _ => rfl

theorem info8 : (Tryz.prog.info? 5).map (fun i => (i.zero, i.size, i.bytes)) = some (some (.int .u8 0), 1, 1) := by kernel_rfl

theorem own_ge {w : World} {base : Nat} {e : TypeId} {size : Nat} {v : Value} {n : Nat} {xs : List Value} (h : w.ownsRow base e size v n xs) : ∀ b, v.ownBlock = some b → base ≤ b := by
  intro b hb
  rcases h.2 with ⟨rfl, _⟩ | ⟨g, cap, cur, rfl, hg, _⟩
  · cases hb
  · cases hb; exact hg

theorem add_at (g j : Nat) : (⟨g, 0, none⟩ : Addr).add j = ⟨g, j, none⟩ := by unfold Addr.add; split <;> simp_all

theorem conv_own {w : World} {base : Nat} {e : TypeId} {v : Value} {l : List UInt8} {n : Nat} (h : w.ownsRow base e 1 v n (l.map B)) (hn : l.length = n) :
    (convert 29 9 v).run Tryz.prog w = .ok (.string ⟨l.toArray⟩) w := by
  subst hn
  rcases h.2 with ⟨rfl, h0⟩ | ⟨g, cap, cur, rfl, hg, hh, hn, _, hsz, htk⟩
  · rw [run_convert_bytes_nil (P := Tryz.prog) w 29 5 Tryz.underlying29 Tryz.underlying5 0 0 9 Tryz.underlying9]
    obtain rfl : l = [] := List.eq_nil_of_length_eq_zero h0
    rfl
  · refine run_convert_bytes_back (P := Tryz.prog) w 29 9 5 ⟨g, 0, none⟩ cap l Tryz.underlying29 Tryz.underlying5 Tryz.underlying9 ?_
    intro j hj
    rw [add_at]
    have : (cur.toList.take (l.length * 1))[j]? = (l.map B)[j]? := by rw [htk]
    rw [List.getElem?_take_of_lt (by omega)] at this
    simp only [World.cell?, hh]
    simp [hj] at this
    simpa using this

theorem byte_and1 (x : Nat) (h : x < 2 ^ 32) : bits .and .u32 (x : Int) 255 = (x : Int) % 256 := by
  have h1 := u32_and_nat x 255 (by omega) (by decide)
  rw [show ((255 : Nat) : Int) = 255 from rfl] at h1
  rw [h1, show x &&& 255 = x % 256 from Nat.and_two_pow_sub_one_eq_mod x 8]
  omega
theorem byte_and (x d : Nat) (h : x < 2 ^ 32) : bits .and .u32 ((x : Int) / (d : Int)) 255 = (x : Int) / (d : Int) % 256 := by
  have := byte_and1 (x / d) (Nat.lt_of_le_of_lt (Nat.div_le_self _ _) h)
  rw [show ((x / d : Nat) : Int) = (x : Int) / (d : Int) from rfl] at this
  exact this

end Go.Proofs.YtidccfflpcgkiaaGreatDoor.refw
