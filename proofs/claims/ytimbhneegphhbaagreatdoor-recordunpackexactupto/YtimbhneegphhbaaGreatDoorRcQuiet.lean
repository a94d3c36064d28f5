import Derived.Test.YtimbhneegphhbaaGreatDoorRadixBack
import Derived.Test.YtimbhneegphhbaaGreatDoorRows
import Derived.Test.YtimbhneegphhbaaGreatDoorStrBase
import Derived.WalkKit
import Derived.WalkSpells
import Derived.WalkLawsBesides
import Derived.Outline
import Derived.Laws.BitsAllLaws
import Derived.Laws.IdiomStrings
import Derived.Lib.LaidTab
import Derived.Test.YtimbhneegphhbaaGreatDoorRadixMath
import Derived.Test.YtimbhneegphhbaaGreatDoorTmNames
import Derived.Test.YtimbhneegphhbaaGreatDoorTmByte
import Derived.Test.YtimbhneegphhbaaGreatDoorTmRed
import Derived.BigQuiet
namespace Go.Proofs.YtimbhneegphhbaaGreatDoor.Pk

/-- an unreserved byte -/
def un (n : Nat) : Bool := decide ((65 ≤ n ∧ n ≤ 90) ∨ (97 ≤ n ∧ n ≤ 122) ∨ (48 ≤ n ∧ n ≤ 57) ∨ n = 45 ∨ n = 46 ∨ n = 95 ∨ n = 126)
def unb (c : UInt8) : Bool := un c.toNat
def proof (l : List UInt8) : Bool := decide (43 ≤ l.length ∧ l.length ≤ 128) && l.all unb

theorem un_big (n : Nat) (h : 128 ≤ n) : un n = false := decide_eq_false (by omega)

theorem all_take (l : List UInt8) (p : UInt8 → Bool) (k : Nat) (h : k < l.length) : (l.take (k + 1)).all p = ((l.take k).all p && p l[k]) := by
  rw [List.take_succ_eq_append_getElem h, List.all_append]; simp
theorem all_short (l : List UInt8) (p : UInt8 → Bool) (k : Nat) (h : (l.take k).all p = false) : l.all p = false := by
  rw [← List.take_append_drop k l, List.all_append, h, Bool.false_and]

end Go.Proofs.YtimbhneegphhbaaGreatDoor.Pk

namespace Go.Proofs.YtimbhneegphhbaaGreatDoor.pk
open Go.ChangeShapes Go.WideShapes Go.ChangeAt Go.RowKit Go.Proofs.YtimbhneegphhbaaGreatDoor.common

theorem plen (s : ByteArray) : s.data.toList.length = s.size := by simp
theorem ptake (s : ByteArray) : s.data.toList.take s.size = s.data.toList := by rw [← plen s, List.take_length]

theorem bdN {b : Nat} {a c : World} (h : Below b a c) (n : Nat) : Below b a (c.drewN n) := ⟨h.1, h.2, h.3, h.4, h.5⟩

end Go.Proofs.YtimbhneegphhbaaGreatDoor.pk

namespace Go.Proofs.YtimbhneegphhbaaGreatDoor.pk
open Go.ChangeShapes Go.WideShapes Go.ChangeAt Go.RowKit Go.Proofs.YtimbhneegphhbaaGreatDoor.common

/-- an array of flags, cell by cell -/
theorem flags_of {H : Type} {enc : TypeId × Value → H} {P : Program} {w : World} {base : Nat} {sp : Nat → Bool} {held : Bool} {fuel : Nat} {t e : TypeId} {n : Nat} {cs : List Value} {zs : List Bool} {p : List MemPlace}
    (h : DataW.trod enc P w base sp held fuel t cs = some (.agg (zs.map fun b => .lit (.bool b)), p)) (ht : P.underlying t = some (.array n e)) (he : P.underlying e = some .bool) (hce : P.cellsOf e = 1) (hct : P.cellsOf t = n) :
    ∀ i, i < n → cs[i]? = some (.bool (zs.getD i false)) := by
  intro i hi
  cases fuel with
  | zero => simp [DataW.trod] at h
  | succ fuel =>
    simp only [DataW.trod, ht, hce, hct, Nat.mul_one] at h
    split at h
    case isFalse => cases h
    obtain ⟨xs, hm, hx⟩ := Option.map_eq_some_iff.1 h
    obtain ⟨b, hb, hf⟩ := Lib.mapM_at hm i i (by simp [hi])
    obtain ⟨z, hc, rfl⟩ := DataW.trod_bool he hf
    have h1 : cs[i]? = some (.bool z) := by
      have := congrArg (fun l : List Value => l[0]?) hc
      simpa [List.getElem?_take, List.getElem?_drop] using this
    have h2 : (xs.map (·.1))[i]? = some (DataW.lit (.bool z) : DataW H) := by simp [hb]
    have h3 : xs.map (·.1) = zs.map fun b => (DataW.lit (.bool b) : DataW H) := by simpa using congrArg Prod.fst hx
    rw [h3, List.getElem?_map, Option.map_eq_some_iff] at h2
    obtain ⟨z', hz', he'⟩ := h2
    have hzz : z' = z := by simpa using he'
    rw [h1, List.getD_eq_getElem?_getD, hz', hzz]; rfl

/-- the table lies in its variable -/
def Tab (w : World) : Prop := ∀ n, n < 128 → w.cell? ⟨24, n, none⟩ = some (.bool (Pk.un n))
theorem Tab.lt {w : World} (h : Tab w) : 24 < w.heap.size := World.block_lt_of_cell? w _ (h 0 (by decide))
theorem Tab.below {w w' : World} {b : Nat} (h : Tab w) (hb : Below b w w') (hB : w.heap.size ≤ b) : Tab w' := fun n hn =>
  (hb.cell (Nat.lt_of_lt_of_le h.lt hB)).trans (h n hn)
theorem Tab.drewN {w : World} (h : Tab w) (m : Nat) : Tab (w.drewN m) := h

theorem tabG : Tryz.prog.globalNamed "usher/pkce.unreserved" = some 24 := by kernel_rfl
theorem tabType : (Tryz.prog.globals[24]?).map (·.type) = some 138 := by kernel_rfl
theorem tabCells : Tryz.prog.cellsOf 138 = 128 := by kernel_rfl
theorem cellsBool : Tryz.prog.cellsOf 4 = 1 := by kernel_rfl
theorem tab_is {H : Type} : (Rows.laid_usher_pkce_unreserved : DataW H) = .agg (((List.range 128).map Pk.un).map fun b => .lit (.bool b)) := by rfl
theorem tab_of_laid {W : World} {rest : List (String × DataW Unit)} (h : laidMet Tryz.prog (("usher/pkce.unreserved", Rows.laid_usher_pkce_unreserved) :: rest) W) : Tab W := by
  obtain ⟨ps, ⟨g', t', cs, fuel, p, q, hg', ht', hvar, hd, _, _⟩, _⟩ := h
  obtain rfl := Option.some.inj (tabG.symm.trans hg')
  obtain rfl := Option.some.inj (tabType.symm.trans ht')
  rw [tab_is] at hd
  intro n hn
  have h1 := flags_of hd Tryz.underlying138 Tryz.underlying4 cellsBool tabCells n hn
  have h2 := World.var?_cell tabG hvar n
  rw [List.getD_eq_getElem?_getD, List.getElem?_map, List.getElem?_range hn] at h1
  rw [h2]
  simpa using h1

abbrev B (c : UInt8) : Value := .int .u8 (c.toNat : Int)

set_option maxHeartbeats 800000 in
theorem isUnreserved_any (c : UInt8) (w : World) (ht : Tab w) :
    Calls Tryz.prog 83 #[B c] w fun e w' => e = .returned (.bool (Pk.unb c)) ∧ w' = w := by
  have hc := c.toNat_lt
  by_cases h : c.toNat < 128
  · have hi : (c.toNat : Int) < 128 := by omega
    have t := ht _ h
    have HR : Hid (Pk.un c.toNat = Pk.unb c) := rfl
    generalize Pk.un c.toNat = u at *
    clear ht
    go_enter Tryz.func83, Tryz.ntmps83
    go_wp2
    go_ret
    exact ⟨by rw [← HR.out]; rfl, rfl⟩
  · have hi : ¬ (c.toNat : Int) < 128 := by omega
    have HR : Hid (Pk.unb c = false) := Pk.un_big _ (by omega)
    clear ht
    go_enter Tryz.func83, Tryz.ntmps83
    go_wp2
    go_ret
    exact ⟨by rw [HR.out]; rfl, rfl⟩

set_option maxRecDepth 100000 in
set_option maxHeartbeats 1600000 in
theorem isProof_any (s : ByteArray) (w : World) (ht : Tab w) :
    Calls Tryz.prog 62 #[.string s] w fun e w' => e = .returned (.bool (Pk.proof s.data.toList)) ∧ w' = w := by
  have HF := hide (fun c => isUnreserved_any c w ht)
  clear ht
  by_cases h1 : s.size < 43
  · have h1i : (s.size : Int) < 43 := by omega
    have HR : Hid (Pk.proof s.data.toList = false) := by
      show _ = _
      unfold Pk.proof
      rw [plen, decide_eq_false (by omega), Bool.false_and]
    go_enter Tryz.func62, Tryz.ntmps62
    go_wp2
    go_ret
    exact ⟨by rw [HR.out]; rfl, rfl⟩
  by_cases h2 : 128 < s.size
  · have h1i : ¬ (s.size : Int) < 43 := by omega
    have h2i : (128 : Int) < (s.size : Int) := by omega
    have HR : Hid (Pk.proof s.data.toList = false) := by
      show _ = _
      unfold Pk.proof
      rw [plen, decide_eq_false (by omega), Bool.false_and]
    go_enter Tryz.func62, Tryz.ntmps62
    go_wp2
    go_ret
    exact ⟨by rw [HR.out]; rfl, rfl⟩
  have h1i : ¬ (s.size : Int) < 43 := by omega
  have h2i : ¬ (128 : Int) < (s.size : Int) := by omega
  have HR : Hid (Pk.proof s.data.toList = s.data.toList.all Pk.unb) := by
    show _ = _
    unfold Pk.proof
    rw [plen, decide_eq_true (by omega), Bool.true_and]
  have HT : Hid (∀ k (_ : k < s.size), (s.data.toList.take (k + 1)).all Pk.unb = ((s.data.toList.take k).all Pk.unb && Pk.unb s[k])) := fun k h => Pk.all_take _ _ k (by simpa using h)
  have HE : Hid (s.data.toList.take s.size = s.data.toList) := ptake s
  have HA : Hid (∀ k, (s.data.toList.take k).all Pk.unb = false → s.data.toList.all Pk.unb = false) := fun k h => Pk.all_short _ _ k h
  go_enter Tryz.func62, Tryz.ntmps62
  go_wp2_with fail
  go_loopw [14] (fun i wr => ∃ k : Nat, k ≤ s.size ∧ i = .int .i64 k ∧ (s.data.toList.take k).all Pk.unb = true ∧ wr = w) (fun i _ => s.size - (intOf i).toNat)
  case atStart => exact ⟨0, Nat.zero_le _, rfl, by simp, rfl⟩
  case round =>
    obtain ⟨k, hk, rfl, ha, rfl⟩ := hrel
    have HAK := hide ha
    clear ha
    by_cases hlt : k < s.size
    · have hki : (k : Int) < (s.size : Int) := by omega
      have HTK := hide (HT.out k hlt)
      have HFK := hide (HF.out s[k])
      cases hp : Pk.unb s[k] with
      | true =>
        have HP := hide hp
        clear hp
        go_wp2_with fail
        refine HFK.out.mono ?_
        rintro x w2 ⟨rfl, rfl⟩
        rw [HP.out]
        go_wp2
        go_roundw
        case rel => exact ⟨k + 1, by omega, by go_num, by rw [HTK.out, HAK.out, HP.out]; rfl, by trivial⟩
        case measure => simp [intOf]; omega
      | false =>
        have HP := hide hp
        clear hp
        have HN : Hid (s.data.toList.all Pk.unb = false) := HA.out (k + 1) (by rw [HTK.out, HP.out, Bool.and_false])
        go_wp2_with fail
        refine HFK.out.mono ?_
        rintro x w2 ⟨rfl, rfl⟩
        rw [HP.out]
        go_wp2
        go_ret
        exact ⟨by rw [HR.out, HN.out]; rfl, rfl⟩
    · obtain rfl : k = s.size := by omega
      rw [HE.out] at HAK
      go_wp2
      go_ret
      exact ⟨by rw [HR.out, HAK.out]; rfl, rfl⟩

end Go.Proofs.YtimbhneegphhbaaGreatDoor.pk

namespace Go.Proofs.YtimbhneegphhbaaGreatDoor.pk
open Go.ChangeShapes Go.WideShapes Go.ChangeAt Go.RowKit Go.Proofs.YtimbhneegphhbaaGreatDoor.common

theorem challenge_any (s : ByteArray) (w : World) (ht : Tab w) :
    Calls Tryz.prog 43 #[.string s] w fun e w' => e = .returned (.bool (Pk.proof s.data.toList)) ∧ w' = w := by
  have H := hide (isProof_any s w ht)
  clear ht
  go_enter Tryz.func43, Tryz.ntmps43
  go_wp2_with fail
  refine H.out.mono ?_
  rintro x w2 ⟨rfl, rfl⟩
  go_wp2
  go_ret
  exact ⟨rfl, rfl⟩

end Go.Proofs.YtimbhneegphhbaaGreatDoor.pk

namespace Go.Proofs.YtimbhneegphhbaaGreatDoor.rc
open Go.ChangeShapes Go.WideShapes Go.ChangeAt Go.RowKit Go.Proofs.YtimbhneegphhbaaGreatDoor.common Go.Proofs.YtimbhneegphhbaaGreatDoor.bk Go.Proofs.YtimbhneegphhbaaGreatDoor.ss
attribute [local go_sem ↓] Go.wp_at_zero Go.wp_at_succ

/-- what the program's own variables hold -/
structure Env (ea em : Addr) (eA : Value) (w : World) : Prop where
  kt : KTab w
  txt : radw.Txt w ea
  url : radw.UrlTab w
  sc : tm.SEnv (radw.X ea) (radw.X em) w
  nums : tm.Nums w
  loc : tm.Loc w
  pkt : pk.Tab w
  arg : w.cell? ⟨1, 0, none⟩ = some eA
theorem Env.below {ea em : Addr} {eA : Value} {w w' : World} (h : Env ea em eA w) (hb : Below w.heap.size w w') : Env ea em eA w' :=
  ⟨h.kt.below hb, h.txt.below hb, h.url.below hb (World.block_lt_of_cell? w _ (h.url 0 (by decide))), h.sc.below hb, h.nums.below hb, h.loc.below hb, h.pkt.below hb (Nat.le_refl _), (hb.cell (World.block_lt_of_cell? _ _ h.arg)).trans h.arg⟩

/-- an identifier: 32 bytes in base64url -/
def idP (s : ByteArray) : Prop := (Rad.valid Rad.urlT 64 s.data.toList ∧ Rad.restOk Rad.urlT s.data.toList) ∧ (Rad.un64 Rad.urlT s.data.toList).length = 32
def idB (s : ByteArray) : Bool := (List.range s.data.toList.length).all (fun i => decide (Rad.rd Rad.urlT 64 (s.data.toList.getD i 0) ≠ 0)) && decide (s.data.toList.length % 4 ≠ 1 ∧ (s.data.toList.length % 4 = 2 → Rad.num Rad.urlT 64 s.data.toList (s.data.toList.length - 1) % 16 = 0) ∧ (s.data.toList.length % 4 = 3 → Rad.num Rad.urlT 64 s.data.toList (s.data.toList.length - 1) % 4 = 0)) && decide ((Rad.un64 Rad.urlT s.data.toList).length = 32)
theorem idB_iff (s : ByteArray) : idB s = true ↔ idP s := by
  unfold idB idP Rad.valid Rad.restOk
  simp only [Bool.and_eq_true, List.all_eq_true, List.mem_range, decide_eq_true_eq]
theorem idB_not {s : ByteArray} (h : ¬ idP s) : idB s = false := by
  cases hb : idB s with
  | false => rfl
  | true => exact absurd ((idB_iff s).1 hb) h

set_option maxHeartbeats 1600000 in
theorem isIdentifier_any (s : ByteArray) (ea em : Addr) (eA : Value) (w : World) (hs : s.size ≤ reachBytes) (he : Env ea em eA w) :
    Calls Tryz.prog 40 #[.string s] w fun e w' => e = .returned (.bool (idB s)) ∧ Below w.heap.size w w' := by
  have HU := hide (radw.unurl_any s w hs ea he.txt he.url)
  have hln : (⟨(Rad.un64 Rad.urlT s.data.toList).toArray⟩ : ByteArray).size = (Rad.un64 Rad.urlT s.data.toList).length := by simp [ByteArray.size]
  have HI := hide (idB_iff s)
  have HN : Hid (¬ idP s → idB s = false) := fun h => idB_not h
  have HP : Hid (idP s ↔ (Rad.valid Rad.urlT 64 s.data.toList ∧ Rad.restOk Rad.urlT s.data.toList) ∧ (Rad.un64 Rad.urlT s.data.toList).length = 32) := Iff.rfl
  generalize idB s = t at *
  clear he
  go_enter Tryz.func40, Tryz.ntmps40
  go_wp2_with fail
  refine HU.out.mono ?_
  rintro x w2 ⟨b2, ⟨hv, rfl⟩ | ⟨hv, rfl⟩⟩
  · have HV := hide hv
    have HB := hide b2
    generalize (⟨(Rad.un64 Rad.urlT s.data.toList).toArray⟩ : ByteArray) = q at *
    by_cases h32 : q.size = 32
    · have hq : ((q.size : Int) == 32) = true := by rw [h32]; rfl
      have HT : Hid (t = true) := HI.out.2 (HP.out.2 ⟨HV.out, by rw [← hln]; exact h32⟩)
      clear h32 hln hv b2
      go_wp2_with fail
      go_ret
      exact ⟨by rw [HT.out]; rfl, HB.out⟩
    · have hq : ((q.size : Int) == 32) = false := beq_false_of_ne (by omega)
      have HT : Hid (t = false) := HN.out (fun h => h32 (by rw [hln]; exact (HP.out.1 h).2))
      clear h32 hln hv b2
      go_wp2_with fail
      go_ret
      exact ⟨by rw [HT.out]; rfl, HB.out⟩
  · have HT : Hid (t = false) := HN.out (fun h => hv (HP.out.1 h).1)
    have HB := hide b2
    clear hv b2
    go_wp2_with fail
    go_ret
    exact ⟨by rw [HT.out]; rfl, HB.out⟩

/-- a scope, alone -/
def oneSc (s : ByteArray) : Bool := tm.areSc s && !tm.many s && decide (tm.scL s = [s])
set_option maxHeartbeats 1600000 in
theorem isNoScope_any (s : ByteArray) (ea em : Addr) (eA : Value) (w : World) (hs : s.size ≤ 4294967200) (he : Env ea em eA w) :
    Calls Tryz.prog 65 #[.string s] w fun e w' => e = .returned (.bool (!oneSc s)) ∧ Below w.heap.size w w' := by
  have HU := hide (tm.scopes_any (radw.X ea) (radw.X em) s w he.sc hs)
  have HLL : Hid ((tm.scL s).length ≤ 4611686018427387904) := by
    show _ ≤ _
    unfold tm.scL tm.many
    split
    · rename_i h
      simp at h
      omega
    · simp
  have HO : Hid (oneSc s = (tm.areSc s && !tm.many s && decide (tm.scL s = [s]))) := rfl
  generalize oneSc s = t at *
  clear he
  cases ha : tm.areSc s with
  | false =>
    have hE : tm.scE (radw.X ea) (radw.X em) s = radw.X ea := by unfold tm.scE; rw [ha]; rfl
    rw [hE] at HU
    have HT : Hid (t = false) := by show t = false; rw [HO.out, ha]; rfl
    clear hE ha
    go_enter Tryz.func65, Tryz.ntmps65
    go_wp2_with fail
    refine HU.out.mono ?_
    rintro x w2 ⟨v, rfl, _, b2⟩
    have HB := hide b2
    clear b2
    go_wp2_with fail
    go_ret
    exact ⟨by rw [HT.out]; rfl, HB.out⟩
  | true =>
    cases hm : tm.many s with
    | true =>
      have hE : tm.scE (radw.X ea) (radw.X em) s = radw.X em := by unfold tm.scE; rw [ha, hm]; rfl
      rw [hE] at HU
      have HT : Hid (t = false) := by show t = false; rw [HO.out, ha, hm]; rfl
      clear hE ha hm
      go_enter Tryz.func65, Tryz.ntmps65
      go_wp2_with fail
      refine HU.out.mono ?_
      rintro x w2 ⟨v, rfl, _, b2⟩
      have HB := hide b2
      clear b2
      go_wp2_with fail
      go_ret
      exact ⟨by rw [HT.out]; rfl, HB.out⟩
    | false =>
      have hE : tm.scE (radw.X ea) (radw.X em) s = .nilIface := by unfold tm.scE; rw [ha, hm]; rfl
      rw [hE] at HU
      have HT : Hid (t = decide (tm.scL s = [s])) := by show t = _; rw [HO.out, ha, hm]; simp
      clear hE ha hm
      generalize tm.scL s = L at *
      go_enter Tryz.func65, Tryz.ntmps65
      go_wp2_with fail
      refine HU.out.mono ?_
      rintro x w2 ⟨v, rfl, ho, b2⟩
      have HB := hide b2
      have HL := hide (lies_of_own ho)
      have HEQ := hide (equalOne_any v L s w2.heap.size (w2.alloc (.cells #[.string s] 9)) (HL.out.below ((Below.refl _ _).alloc (Nat.le_refl _) _)) HLL.out (by have h := heap_alloc_new w2 (.cells #[.string s] 9); simp only [World.cell?, h]; rfl))
      clear b2 ho
      go_wp2_with (go_at_call 86; refine HEQ.out.mono ?_; rintro x w3 ⟨rfl, b3⟩)
      go_ret
      refine ⟨by rw [HT.out]; simp, ?_⟩
      exact keepT (Nat.le_refl _) HB.out ((((Below.refl w2.heap.size w2).alloc (Nat.le_refl _) _).trans (b3.mono (by simp))).mono HB.out.size)

def fitL (b : Bool) (l : List ByteArray) : Bool := if b then decide (0 < l.length) && decide (l.length ≤ 16) && risB l && !(l.any fun s => !oneSc s) else decide (l.length = 0)
theorem noScope_enters : tm.Enters 65 := enters_of Tryz.func65 (by kernel_rfl) rfl
theorem ident_enters : tm.Enters 40 := enters_of Tryz.func40 (by kernel_rfl) rfl
theorem name_enters : tm.Enters 41 := enters_of Tryz.func41 (by kernel_rfl) rfl
theorem red_enters : tm.Enters 42 := enters_of Tryz.func42 (by kernel_rfl) rfl
theorem chal_enters : tm.Enters 43 := enters_of Tryz.func43 (by kernel_rfl) rfl
set_option maxRecDepth 100000 in
set_option maxHeartbeats 3200000 in
theorem scopesFit_any (b : Bool) (v : Value) (l : List ByteArray) (ea em : Addr) (eA : Value) (w : World) (hL : Lies w v l) (hl : l.length ≤ 4611686018427387904) (hs : ∀ s ∈ l, s.size ≤ 4294967200) (he : Env ea em eA w) :
    Calls Tryz.prog 44 #[.bool b, v] w fun e w' => e = .returned (.bool (fitL b l)) ∧ Below w.heap.size w w' := by
  have HR := hide (isRising_any v l w hL hl)
  have HC : Hid (∀ W, Below w.heap.size w W → Calls Tryz.prog 64 #[v, .func (.func 65) #[] #[]] W fun e w' => e = .returned (.bool (l.any fun s => !oneSc s)) ∧ Below W.heap.size W w') := fun W hW =>
    containsFunc_any v l _ (fun s => !oneSc s) W (hL.below hW) hl noScope_enters (fun X s hm hX => isNoScope_any s ea em eA X (hs s hm) (he.below (keepT (Nat.le_refl _) hW (hX.mono hW.size))))
  have HF : Hid (fitL b l = if b then decide (0 < l.length) && decide (l.length ≤ 16) && risB l && !(l.any fun s => !oneSc s) else decide (l.length = 0)) := rfl
  generalize fitL b l = t at *
  generalize (l.any fun s => !oneSc s) = c at *
  generalize risB l = rb at *
  obtain ⟨oa, cap, rfl⟩ := Lies.len hL
  clear hL hs he
  cases b with
  | false =>
    by_cases h0 : l.length = 0
    · have HT : Hid (t = true) := by show t = _; rw [HF.out]; simp [h0]
      have hz : ((l.length : Int) == 0) = true := by rw [h0]; rfl
      clear h0
      go_enter Tryz.func44, Tryz.ntmps44
      go_wp2_with fail
      go_ret
      exact ⟨by rw [HT.out]; rfl, Below.refl _ _⟩
    · have HT : Hid (t = false) := by show t = _; rw [HF.out]; simp [h0]
      have hz : ((l.length : Int) == 0) = false := beq_false_of_ne (by omega)
      go_enter Tryz.func44, Tryz.ntmps44
      go_wp2_with fail
      go_ret
      exact ⟨by rw [HT.out]; rfl, Below.refl _ _⟩
  | true =>
    by_cases h0 : 0 < l.length
    · have h0i : (0 : Int) < (l.length : Int) := by omega
      by_cases h1 : l.length ≤ 16
      · have h1i : (l.length : Int) ≤ 16 := by omega
        cases rb with
        | true =>
          have HT : Hid (t = !c) := by show t = _; rw [HF.out]; simp [h0, h1]
          go_enter Tryz.func44, Tryz.ntmps44
          go_wp2_with (first
            | (go_at_call 63; refine HR.out.mono ?_; rintro x w2 ⟨rfl, b2⟩)
            | (go_at_call 64; refine (HC.out _ b2).mono ?_; rintro x w3 ⟨rfl, b3⟩))
          go_ret
          exact ⟨by rw [HT.out]; rfl, keepT (Nat.le_refl _) b2 (b3.mono b2.size)⟩
        | false =>
          have HT : Hid (t = false) := by show t = _; rw [HF.out]; simp
          go_enter Tryz.func44, Tryz.ntmps44
          go_wp2_with ((go_at_call 63; refine HR.out.mono ?_; rintro x w2 ⟨rfl, b2⟩))
          go_ret
          exact ⟨by rw [HT.out]; rfl, b2⟩
      · have h1i : ¬ (l.length : Int) ≤ 16 := by omega
        have HT : Hid (t = false) := by show t = _; rw [HF.out]; simp [h1]
        go_enter Tryz.func44, Tryz.ntmps44
        go_wp2_with fail
        go_ret
        exact ⟨by rw [HT.out]; rfl, Below.refl _ _⟩
    · have h0i : ¬ (0 : Int) < (l.length : Int) := by omega
      have HT : Hid (t = false) := by show t = _; rw [HF.out]; simp [h0]
      go_enter Tryz.func44, Tryz.ntmps44
      go_wp2_with fail
      go_ret
      exact ⟨by rw [HT.out]; rfl, Below.refl _ _⟩
end Go.Proofs.YtimbhneegphhbaaGreatDoor.rc

namespace Go.Proofs.YtimbhneegphhbaaGreatDoor.rc
open Go.ChangeShapes Go.WideShapes Go.ChangeAt Go.RowKit Go.Proofs.YtimbhneegphhbaaGreatDoor.common

/-- a region that draws its order, whose operations and callees keep to a class of worlds (those that f gives) -/
theorem wp_region_cls {P : Program} {id : Nat} {Q : Exit → Act → World → Prop} {a : Act} {w : World} {l : List Oper} (f : World → World) (hm : P.follows .mixedOrders = true) (hB : Region.lexB .any l.toArray = true) (w0 : World) (h0 : w.drew = f w0)
    (h : wpQuiet P l.toArray (fun w' => ∃ n, w' = f n) (fun a' => ∀ w', (∃ n, w' = f n) → Q .normal a' w') l a) : (Code.region id l.toArray true).wp P Q a w :=
  wp_region_quiet (C := fun w' => ∃ n, w' = f n) hm hB ⟨w0, h0⟩ (by simpa using h)
/-- the worlds above a base, as a function's values -/
theorem class_of (W : World) : ∃ f : World → World, (∀ X, Below W.heap.size W (f X)) ∧ (∀ X, Below W.heap.size W X → f X = X) := by
  classical
  refine ⟨fun X => if Below W.heap.size W X then X else W, fun X => ?_, fun X h => if_pos h⟩
  show Below W.heap.size W (if Below W.heap.size W X then X else W)
  by_cases h : Below W.heap.size W X
  · rw [if_pos h]; exact h
  · rw [if_neg h]; exact Below.refl _ _
end Go.Proofs.YtimbhneegphhbaaGreatDoor.rc
