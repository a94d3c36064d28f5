import Derived.Test.YtimbhneegphhbaaGreatDoorRedLaid
import Derived.Test.YtimbhneegphhbaaGreatDoorScopeOrdM
import Derived.Test.YtimbhneegphhbaaGreatDoorRefLetters
import Derived.LaidMore
import Derived.Lib.LaidTab
import Derived.Test.YtimbhneegphhbaaGreatDoorRcLent
import Derived.Lib.SmallJoins
import Derived.Deep.DeepHandedRow
import Derived.Maps.AppendAt
namespace Go.Proofs.YtimbhneegphhbaaGreatDoor.rc
open Go.ChangeShapes Go.WideShapes Go.ChangeAt Go.RowKit Go.Joins Go.Deep Go.WideElems Go.Maps Go.Proofs.YtimbhneegphhbaaGreatDoor.common Go.Proofs.YtimbhneegphhbaaGreatDoor.ss

theorem kfG : Tryz.prog.globalNamed "usher/record.kindFields" = some 21 := by kernel_rfl
theorem kfT : (Tryz.prog.globals[21]?).map (·.type) = some 96 := by kernel_rfl
theorem kfC : Tryz.prog.cellsOf 96 = 12 := by kernel_rfl
theorem intC : Tryz.prog.cellsOf 3 = 1 := by kernel_rfl
theorem boolC : Tryz.prog.cellsOf 4 = 1 := by kernel_rfl
theorem boolsC : Tryz.prog.cellsOf 89 = 12 := by kernel_rfl
theorem ktab_of {W : World} {rest : List (String × DataW Unit)} (h : laidMet Tryz.prog (("usher/record.kindFields", Rows.laid_usher_record_kindFields) :: rest) W) : KTab W := by
  have t : Lib.TabIs Tryz.prog W "usher/record.kindFields" .i64 kf := Lib.tabIs_of_head (rest := rest) kfG kfT Tryz.underlying96 Tryz.underlying3 intC kfC h
  intro i hi
  rw [t.cell kfG i (by simpa [kf] using hi)]
theorem flags_laid {W : World} {rest : List (String × DataW Unit)} {name : String} {D : DataW Unit} {g : Nat} {zs : List Bool} (hG : Tryz.prog.globalNamed name = some g) (hT : (Tryz.prog.globals[g]?).map (·.type) = some 89) (hD : D = .agg (zs.map fun b => .lit (.bool b)))
    (h : laidMet Tryz.prog ((name, D) :: rest) W) : ∀ i, i < 12 → W.cell? ⟨g, i, none⟩ = some (.bool (zs.getD i false)) := by
  obtain ⟨ps, ⟨g', t', cs, fuel, p, q, hg', ht', hvar, hd, _, _⟩, _⟩ := h
  obtain rfl := Option.some.inj (hG.symm.trans hg')
  obtain rfl := Option.some.inj (hT.symm.trans ht')
  rw [hD] at hd
  intro n hn
  have h1 := pk.flags_of hd Tryz.underlying89 Tryz.underlying4 boolC boolsC n hn
  rw [World.var?_cell hG hvar n]
  simpa using h1
theorem g_hasID : Tryz.prog.globalNamed "usher/usherref14.hasID" = some 13 := by kernel_rfl
theorem y_hasID : (Tryz.prog.globals[13]?).map (·.type) = some 89 := by kernel_rfl
theorem d_hasID : (Rows.laid_usher_usherref14_hasID : DataW Unit) = .agg (T_hasID.map fun b => .lit (.bool b)) := by rfl
theorem g_hasUser : Tryz.prog.globalNamed "usher/usherref14.hasUser" = some 18 := by kernel_rfl
theorem y_hasUser : (Tryz.prog.globals[18]?).map (·.type) = some 89 := by kernel_rfl
theorem d_hasUser : (Rows.laid_usher_usherref14_hasUser : DataW Unit) = .agg (T_hasUser.map fun b => .lit (.bool b)) := by rfl
theorem g_hasClient : Tryz.prog.globalNamed "usher/usherref14.hasClient" = some 16 := by kernel_rfl
theorem y_hasClient : (Tryz.prog.globals[16]?).map (·.type) = some 89 := by kernel_rfl
theorem d_hasClient : (Rows.laid_usher_usherref14_hasClient : DataW Unit) = .agg (T_hasClient.map fun b => .lit (.bool b)) := by rfl
theorem g_hasRedirect : Tryz.prog.globalNamed "usher/usherref14.hasRedirect" = some 14 := by kernel_rfl
theorem y_hasRedirect : (Tryz.prog.globals[14]?).map (·.type) = some 89 := by kernel_rfl
theorem d_hasRedirect : (Rows.laid_usher_usherref14_hasRedirect : DataW Unit) = .agg (T_hasRedirect.map fun b => .lit (.bool b)) := by rfl
theorem g_hasChallenge : Tryz.prog.globalNamed "usher/usherref14.hasChallenge" = some 20 := by kernel_rfl
theorem y_hasChallenge : (Tryz.prog.globals[20]?).map (·.type) = some 89 := by kernel_rfl
theorem d_hasChallenge : (Rows.laid_usher_usherref14_hasChallenge : DataW Unit) = .agg (T_hasChallenge.map fun b => .lit (.bool b)) := by rfl
theorem g_hasCode : Tryz.prog.globalNamed "usher/usherref14.hasCode" = some 15 := by kernel_rfl
theorem y_hasCode : (Tryz.prog.globals[15]?).map (·.type) = some 89 := by kernel_rfl
theorem d_hasCode : (Rows.laid_usher_usherref14_hasCode : DataW Unit) = .agg (T_hasCode.map fun b => .lit (.bool b)) := by rfl
theorem g_hasScopes : Tryz.prog.globalNamed "usher/usherref14.hasScopes" = some 17 := by kernel_rfl
theorem y_hasScopes : (Tryz.prog.globals[17]?).map (·.type) = some 89 := by kernel_rfl
theorem d_hasScopes : (Rows.laid_usher_usherref14_hasScopes : DataW Unit) = .agg (T_hasScopes.map fun b => .lit (.bool b)) := by rfl
theorem g_hasAt : Tryz.prog.globalNamed "usher/usherref14.hasAt" = some 19 := by kernel_rfl
theorem y_hasAt : (Tryz.prog.globals[19]?).map (·.type) = some 89 := by kernel_rfl
theorem d_hasAt : (Rows.laid_usher_usherref14_hasAt : DataW Unit) = .agg (T_hasAt.map fun b => .lit (.bool b)) := by rfl
theorem htab_of {W : World} {rest : List (String × DataW Unit)} (h : laidMet Tryz.prog (("usher/usherref14.hasID", Rows.laid_usher_usherref14_hasID) :: ("usher/usherref14.hasUser", Rows.laid_usher_usherref14_hasUser) :: ("usher/usherref14.hasClient", Rows.laid_usher_usherref14_hasClient) :: ("usher/usherref14.hasRedirect", Rows.laid_usher_usherref14_hasRedirect) :: ("usher/usherref14.hasChallenge", Rows.laid_usher_usherref14_hasChallenge) :: ("usher/usherref14.hasCode", Rows.laid_usher_usherref14_hasCode) :: ("usher/usherref14.hasScopes", Rows.laid_usher_usherref14_hasScopes) :: ("usher/usherref14.hasAt", Rows.laid_usher_usherref14_hasAt) :: rest) W) : HTab W :=
  ⟨flags_laid g_hasID y_hasID d_hasID h,
   flags_laid g_hasUser y_hasUser d_hasUser (laidMet.tail h),
   flags_laid g_hasClient y_hasClient d_hasClient (laidMet.tail (laidMet.tail h)),
   flags_laid g_hasRedirect y_hasRedirect d_hasRedirect (laidMet.tail (laidMet.tail (laidMet.tail h))),
   flags_laid g_hasChallenge y_hasChallenge d_hasChallenge (laidMet.tail (laidMet.tail (laidMet.tail (laidMet.tail h)))),
   flags_laid g_hasCode y_hasCode d_hasCode (laidMet.tail (laidMet.tail (laidMet.tail (laidMet.tail (laidMet.tail h))))),
   flags_laid g_hasScopes y_hasScopes d_hasScopes (laidMet.tail (laidMet.tail (laidMet.tail (laidMet.tail (laidMet.tail (laidMet.tail h)))))),
   flags_laid g_hasAt y_hasAt d_hasAt (laidMet.tail (laidMet.tail (laidMet.tail (laidMet.tail (laidMet.tail (laidMet.tail (laidMet.tail h)))))))⟩

end Go.Proofs.YtimbhneegphhbaaGreatDoor.rc

namespace Go.Proofs.YtimbhneegphhbaaGreatDoor.wl
open Go.ChangeShapes Go.WideShapes Go.ChangeAt Go.RowKit Go.Joins Go.Deep Go.Proofs.YtimbhneegphhbaaGreatDoor.common Go.Proofs.YtimbhneegphhbaaGreatDoor.dk

theorem bytesU8 : Tryz.prog.bytesOf 5 = 1 := by kernel_rfl
theorem cellsU8 : Tryz.prog.cellsOf 5 = 1 := by kernel_rfl
/-- a cell as a byte -/
def byteAt (W : World) (b o : Nat) : UInt8 := match W.cell? ⟨b, o, none⟩ with
  | some (.int _ k) => UInt8.ofNat k.toNat
  | _ => 0
theorem bulk_one {H : Type} (d : DataW H) : 1 ≤ Rows.uptoBulk d := by
  cases d with
  | lit x => cases x <;> simp [Rows.uptoBulk]
  | _ => simp [Rows.uptoBulk]
theorem bulk_all {H : Type} (l : List (DataW H)) : l.length ≤ Rows.uptoBulkAll l := by
  induction l with
  | nil => exact Nat.zero_le _
  | cons d r ih =>
    have := bulk_one d
    rw [Rows.uptoBulkAll, List.length_cons]
    omega
set_option maxRecDepth 100000 in
/-- a list of bytes as an argument -/
theorem bytes_of {H : Type} {enc : TypeId × Value → H} {W : World} {fuel : Nat} {v : Value} {d : DataW H} {pl : List MemPlace}
    (h : DataW.trod enc Tryz.prog W 0 (fun _ => true) true fuel 27 [v] = some (d, pl)) (hsz : (d.weights Tryz.prog 27).all (· ≤ reachBytes) = true) : ∃ l : List UInt8, Rd W v l ∧ l.length ≤ reachBytes ∧ l.length + 1 ≤ Rows.uptoBulk d ∧ ∀ oa m c, v = .slice oa m c → m ≤ c := by
  rcases Deep.open_slice Tryz.underlying27 h with ⟨hcs, hx⟩ | ⟨a, len, cap, m, n, D, Pl, hcs, hb, hl, hm, hmm, hx, hall⟩
  · obtain rfl : v = .slice none 0 0 := by simpa using hcs
    exact ⟨[], rd_nil _, by decide, bulk_one _, fun oa m c e => by cases e; exact Nat.le_refl _⟩
  · obtain rfl : v = .slice (some a) len cap := by simpa using hcs
    have hd : d = .slice ((List.range len).map D) ((List.range (m - len)).map fun j => D (len + j)) := (Prod.mk.inj hx).1
    subst hd
    simp only [DataW.weights, Tryz.underlying27, List.all_cons, List.all_append, Bool.and_eq_true] at hsz
    have h1 := hsz.1
    rw [bytesU8] at h1
    simp at h1
    by_cases h0 : len = 0
    · subst h0
      exact ⟨[], ⟨some a, cap, rfl, fun hl => absurd hl (by decide)⟩, by decide, bulk_one _, fun oa m' c e => by cases e; exact Nat.zero_le _⟩
    have hsp : a.spot = none := by
      obtain ⟨cs0, g1, _⟩ := hall 0 (by rw [hmm]; simp; omega)
      rw [cellsU8] at g1
      obtain ⟨_, hlen0, hcell0⟩ := World.cells?_some g1
      have g2 := hcell0 0 (by decide)
      rw [List.getElem?_eq_getElem (by omega)] at g2
      have := World.cell?_spot g2
      simpa [Addr.add] using this
    obtain ⟨b, o, sp⟩ := a
    obtain rfl : sp = none := hsp
    have hc : ∀ i, i < len → W.cell? ⟨b, o + i, none⟩ = some (B (byteAt W b (o + i))) := fun i hi => by
      obtain ⟨cs', h1, h2⟩ := hall i (by rw [hmm]; simp; omega)
      rw [cellsU8] at h1
      obtain ⟨_, hlen, hcell⟩ := World.cells?_some h1
      match cs', hlen with
      | [v0], _ =>
        obtain ⟨k, ek, _, wk⟩ := DataW.trod_int Tryz.underlying5 h2
        simp at ek
        subst ek
        have c0 := hcell 0 (by decide)
        have hk := bounds_u8 wk
        have hcl : W.cell? ⟨b, o + i, none⟩ = some (.int .u8 k) := by
          have := c0
          rw [Addr.add_mid, Addr.add_mid] at this
          simpa using this
        rw [hcl]
        unfold byteAt
        rw [hcl]
        show some (Value.int .u8 k) = some (Value.int .u8 _)
        congr 2
        simp
        omega
    refine ⟨(List.range len).map fun i => byteAt W b (o + i), ⟨some ⟨b, o, none⟩, cap, by simp, fun _ => ⟨b, o, rfl, ?_, fun j u hu => ?_⟩⟩, by simp; omega, ?_, fun oa m' c e => by cases e; omega⟩
    · exact World.block_lt_of_cell? W _ (hc 0 (by omega))
    · have hj : j < len := by have := (List.getElem?_eq_some_iff.1 hu).1; simpa using this
      simp [hj] at hu
      rw [hc j hj, hu]
    · have h2 := bulk_all ((List.range len).map D)
      rw [List.length_map, List.length_range] at h2
      rw [Rows.uptoBulk, List.length_map, List.length_range]
      omega
end Go.Proofs.YtimbhneegphhbaaGreatDoor.wl

namespace Go.Proofs.YtimbhneegphhbaaGreatDoor.rc
open Go.ChangeShapes Go.WideShapes Go.ChangeAt Go.RowKit Go.Proofs.YtimbhneegphhbaaGreatDoor.common Go.Proofs.YtimbhneegphhbaaGreatDoor.dk

/-- a number in groups of seven bits -/
def numF : Nat → Nat → List UInt8
  | 0, n => [UInt8.ofNat n]
  | f + 1, n => if n < 128 then [UInt8.ofNat n] else UInt8.ofNat (128 + n % 128) :: numF f (n / 128)
def numL (n : Nat) : List UInt8 := numF 9 n
theorem numF_small (f n : Nat) (h : n < 128) : numF f n = [UInt8.ofNat n] := by
  cases f with
  | zero => rfl
  | succ f => simp [numF, h]
theorem numF_big (f n : Nat) (h : ¬ n < 128) : numF (f + 1) n = UInt8.ofNat (128 + n % 128) :: numF f (n / 128) := by simp [numF, h]
theorem numF_len (f n : Nat) : 0 < (numF f n).length ∧ (numF f n).length ≤ f + 1 := by
  induction f generalizing n with
  | zero => simp [numF]
  | succ f ih =>
    by_cases h : n < 128
    · simp [numF, h]
    · have := ih (n / 128)
      simp [numF, h]
      omega
theorem ofNat_val (n : Nat) (h : n < 256) : ((UInt8.ofNat n).toNat : Int) = (n : Int) := by rw [UInt8.toNat_ofNat']; omega

/-- a row that has grown: all but its own block is as it was; it lies in that block or in a new one -/
structure Gr (v v' : Value) (w w' : World) : Prop where
  fr : Fr v.ownBlock.toList w w'
  loc : ∀ k, v'.ownBlock = some k → v.ownBlock = some k ∨ w.heap.size ≤ k
theorem Gr.refl (v : Value) (w : World) : Gr v v w w := ⟨Fr.refl _ _, fun _ h => Or.inl h⟩
theorem Gr.trans {v v1 v2 : Value} {w w1 w2 : World} (h : Gr v v1 w w1) (k : Gr v1 v2 w1 w2) : Gr v v2 w w2 := by
  refine ⟨h.fr.trans k.fr (fun i hi => ?_), fun i hi => ?_⟩
  · rcases h.loc i (by simpa using hi) with h1 | h1
    · exact Or.inl (by simp [h1])
    · exact Or.inr h1
  · rcases k.loc i hi with h1 | h1
    · exact h.loc i h1
    · exact Or.inr (Nat.le_trans h.fr.size h1)
theorem Gr.below {v v' : Value} {w w' : World} {base : Nat} (h : Gr v v' w w') (hv : ∀ k, v.ownBlock = some k → base ≤ k) (hb : base ≤ w.heap.size) : Below base w w' := h.fr.below (fun k hk => hv k (by simpa using hk)) hb

end Go.Proofs.YtimbhneegphhbaaGreatDoor.rc
