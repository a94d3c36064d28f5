import Derived.Test.YtocpikgcbibcoaaGreatDoorMRadixBack
import Derived.Test.YtocpikgcbibcoaaGreatDoorRows
import Derived.Test.YtocpikgcbibcoaaGreatDoorMRdKit
import Derived.WalkKit
import Derived.WalkSpells
import Derived.WalkLawsBesides
import Derived.Outline
import Derived.Laws.BitsAllLaws
import Derived.Laws.IdiomStrings
import Derived.Lib.LaidTab
import Derived.Test.YtocpikgcbibcoaaGreatDoorMTmNames
import Derived.Test.YtocpikgcbibcoaaGreatDoorMTmByte
import Derived.Test.YtocpikgcbibcoaaGreatDoorMTmRed
import Derived.BigQuiet
import Derived.Test.YtocpikgcbibcoaaGreatDoorMRcList
namespace Go.Proofs.YtocpikgcbibcoaaGreatDoor.Pk

/-- an unreserved byte -/
def un (n : Nat) : Bool := decide ((65 ≤ n ∧ n ≤ 90) ∨ (97 ≤ n ∧ n ≤ 122) ∨ (48 ≤ n ∧ n ≤ 57) ∨ n = 45 ∨ n = 46 ∨ n = 95 ∨ n = 126)
def unb (c : UInt8) : Bool := un c.toNat
def proof (l : List UInt8) : Bool := decide (43 ≤ l.length ∧ l.length ≤ 128) && l.all unb

theorem un_big (n : Nat) (h : 128 ≤ n) : un n = false := decide_eq_false (by omega)

theorem url_un : ∀ i : Fin 64, unb (Rad.urlT.getD i.val 0) = true := by decide +kernel

theorem b64_un (l : List UInt8) : (Rad.b64 Rad.urlT l).all unb = true := by
  rw [List.all_eq_true]
  intro c hc
  unfold Rad.b64 at hc
  obtain ⟨m, _, rfl⟩ := List.mem_map.1 hc
  exact url_un ⟨_, Rad.six_lt l m⟩

theorem b64_proof (l : List UInt8) (h : l.length = 32) : proof (Rad.b64 Rad.urlT l) = true := by
  unfold proof
  rw [b64_un, Rad.b64_len, h]; rfl

theorem all_take (l : List UInt8) (p : UInt8 → Bool) (k : Nat) (h : k < l.length) : (l.take (k + 1)).all p = ((l.take k).all p && p l[k]) := by
  rw [List.take_succ_eq_append_getElem h, List.all_append]; simp
theorem all_short (l : List UInt8) (p : UInt8 → Bool) (k : Nat) (h : (l.take k).all p = false) : l.all p = false := by
  rw [← List.take_append_drop k l, List.all_append, h, Bool.false_and]

end Go.Proofs.YtocpikgcbibcoaaGreatDoor.Pk

namespace Go.Proofs.YtocpikgcbibcoaaGreatDoor.pk
open Go.ChangeShapes Go.WideShapes Go.ChangeAt Go.RowKit Go.Proofs.YtocpikgcbibcoaaGreatDoor.common

theorem plen (s : ByteArray) : s.data.toList.length = s.size := by simp
theorem ptake (s : ByteArray) : s.data.toList.take s.size = s.data.toList := by rw [← plen s, List.take_length]

/-- two texts are the same -/
def sm (a b : ByteArray) : Bool := a.toList == b.toList
theorem bdN {b : Nat} {a c : World} (h : Below b a c) (n : Nat) : Below b a (c.drewN n) := ⟨h.1, h.2, h.3, h.4, h.5⟩

end Go.Proofs.YtocpikgcbibcoaaGreatDoor.pk

namespace Go.Proofs.YtocpikgcbibcoaaGreatDoor.pk
open Go.ChangeShapes Go.WideShapes Go.ChangeAt Go.RowKit Go.Proofs.YtocpikgcbibcoaaGreatDoor.common

/-- an array of flags, cell by cell -/
theorem flags_of {H : Type} {enc : TypeId × Value → H} {P : Program} {w : World} {base : Nat} {sp : Nat → Bool} {held : Bool} {fuel : Nat} {t e : TypeId} {n : Nat} {cs : List Value} {zs : List Bool} {p : List MemPlace}
    (h : DataW.trod enc P w base sp held fuel t cs = some (.agg (zs.map fun b => .lit (.bool b)), p)) (ht : P.underlying t = some (.array n e)) (he : P.underlying e = some .bool) (hce : P.cellsOf e = 1) (hct : P.cellsOf t = n) :
    ∀ i, i < n → cs[i]? = some (.bool (zs.getD i false)) := by
  intro i hi
  cases fuel with
  | zero => simp [DataW.trod] at h
  | succ fuel =>
    simp only [DataW.trod, ht, hce, hct, Nat.mul_one] at h
    split at h
    case isFalse => cases h
    obtain ⟨xs, hm, hx⟩ := Option.map_eq_some_iff.1 h
    obtain ⟨b, hb, hf⟩ := Lib.mapM_at hm i i (by simp [hi])
    obtain ⟨z, hc, rfl⟩ := DataW.trod_bool he hf
    have h1 : cs[i]? = some (.bool z) := by
      have := congrArg (fun l : List Value => l[0]?) hc
      simpa [List.getElem?_take, List.getElem?_drop] using this
    have h2 : (xs.map (·.1))[i]? = some (DataW.lit (.bool z) : DataW H) := by simp [hb]
    have h3 : xs.map (·.1) = zs.map fun b => (DataW.lit (.bool b) : DataW H) := by simpa using congrArg Prod.fst hx
    rw [h3, List.getElem?_map, Option.map_eq_some_iff] at h2
    obtain ⟨z', hz', he'⟩ := h2
    have hzz : z' = z := by simpa using he'
    rw [h1, List.getD_eq_getElem?_getD, hz', hzz]; rfl

/-- the table lies in its variable -/
def Tab (w : World) : Prop := ∀ n, n < 128 → w.cell? ⟨17, n, none⟩ = some (.bool (Pk.un n))
theorem Tab.lt {w : World} (h : Tab w) : 17 < w.heap.size := World.block_lt_of_cell? w _ (h 0 (by decide))
theorem Tab.below {w w' : World} {b : Nat} (h : Tab w) (hb : Below b w w') (hB : w.heap.size ≤ b) : Tab w' := fun n hn =>
  (hb.cell (Nat.lt_of_lt_of_le h.lt hB)).trans (h n hn)
theorem Tab.drewN {w : World} (h : Tab w) (m : Nat) : Tab (w.drewN m) := h

theorem tabG : Tryz.prog.globalNamed "usher/pkce.unreserved" = some 17 := by kernel_rfl
theorem tabType : (Tryz.prog.globals[17]?).map (·.type) = some 130 := by kernel_rfl
theorem tabCells : Tryz.prog.cellsOf 130 = 128 := by kernel_rfl
theorem cellsBool : Tryz.prog.cellsOf 4 = 1 := by kernel_rfl
theorem tab_is {H : Type} : (Rows.laid_usher_pkce_unreserved : DataW H) = .agg (((List.range 128).map Pk.un).map fun b => .lit (.bool b)) := by rfl
theorem tab_of_laid {W : World} {rest : List (String × DataW Unit)} (h : laidMet Tryz.prog (("usher/pkce.unreserved", Rows.laid_usher_pkce_unreserved) :: rest) W) : Tab W := by
  obtain ⟨ps, ⟨g', t', cs, fuel, p, q, hg', ht', hvar, hd, _, _⟩, _⟩ := h
  obtain rfl := Option.some.inj (tabG.symm.trans hg')
  obtain rfl := Option.some.inj (tabType.symm.trans ht')
  rw [tab_is] at hd
  intro n hn
  have h1 := flags_of hd Tryz.underlying130 Tryz.underlying4 cellsBool tabCells n hn
  have h2 := World.var?_cell tabG hvar n
  rw [List.getD_eq_getElem?_getD, List.getElem?_map, List.getElem?_range hn] at h1
  rw [h2]
  simpa using h1

abbrev B (c : UInt8) : Value := .int .u8 (c.toNat : Int)

set_option maxHeartbeats 800000 in
theorem isUnreserved_any (c : UInt8) (w : World) (ht : Tab w) :
    Calls Tryz.prog 73 #[B c] w fun e w' => e = .returned (.bool (Pk.unb c)) ∧ w' = w := by
  have hc := c.toNat_lt
  by_cases h : c.toNat < 128
  · have hi : (c.toNat : Int) < 128 := by omega
    have t := ht _ h
    have HR : Hid (Pk.un c.toNat = Pk.unb c) := rfl
    generalize Pk.un c.toNat = u at *
    clear ht
    go_enter Tryz.func73, Tryz.ntmps73
    go_wp2
    go_ret
    exact ⟨by rw [← HR.out]; rfl, rfl⟩
  · have hi : ¬ (c.toNat : Int) < 128 := by omega
    have HR : Hid (Pk.unb c = false) := Pk.un_big _ (by omega)
    clear ht
    go_enter Tryz.func73, Tryz.ntmps73
    go_wp2
    go_ret
    exact ⟨by rw [HR.out]; rfl, rfl⟩

set_option maxRecDepth 100000 in
set_option maxHeartbeats 1600000 in
theorem isProof_any (s : ByteArray) (w : World) (ht : Tab w) :
    Calls Tryz.prog 57 #[.string s] w fun e w' => e = .returned (.bool (Pk.proof s.data.toList)) ∧ w' = w := by
  have HF := hide (fun c => isUnreserved_any c w ht)
  clear ht
  by_cases h1 : s.size < 43
  · have h1i : (s.size : Int) < 43 := by omega
    have HR : Hid (Pk.proof s.data.toList = false) := by
      show _ = _
      unfold Pk.proof
      rw [plen, decide_eq_false (by omega), Bool.false_and]
    go_enter Tryz.func57, Tryz.ntmps57
    go_wp2
    go_ret
    exact ⟨by rw [HR.out]; rfl, rfl⟩
  by_cases h2 : 128 < s.size
  · have h1i : ¬ (s.size : Int) < 43 := by omega
    have h2i : (128 : Int) < (s.size : Int) := by omega
    have HR : Hid (Pk.proof s.data.toList = false) := by
      show _ = _
      unfold Pk.proof
      rw [plen, decide_eq_false (by omega), Bool.false_and]
    go_enter Tryz.func57, Tryz.ntmps57
    go_wp2
    go_ret
    exact ⟨by rw [HR.out]; rfl, rfl⟩
  have h1i : ¬ (s.size : Int) < 43 := by omega
  have h2i : ¬ (128 : Int) < (s.size : Int) := by omega
  have HR : Hid (Pk.proof s.data.toList = s.data.toList.all Pk.unb) := by
    show _ = _
    unfold Pk.proof
    rw [plen, decide_eq_true (by omega), Bool.true_and]
  have HT : Hid (∀ k (_ : k < s.size), (s.data.toList.take (k + 1)).all Pk.unb = ((s.data.toList.take k).all Pk.unb && Pk.unb s[k])) := fun k h => Pk.all_take _ _ k (by simpa using h)
  have HE : Hid (s.data.toList.take s.size = s.data.toList) := ptake s
  have HA : Hid (∀ k, (s.data.toList.take k).all Pk.unb = false → s.data.toList.all Pk.unb = false) := fun k h => Pk.all_short _ _ k h
  go_enter Tryz.func57, Tryz.ntmps57
  go_wp2_with fail
  go_loopw [14] (fun i wr => ∃ k : Nat, k ≤ s.size ∧ i = .int .i64 k ∧ (s.data.toList.take k).all Pk.unb = true ∧ wr = w) (fun i _ => s.size - (intOf i).toNat)
  case atStart => exact ⟨0, Nat.zero_le _, rfl, by simp, rfl⟩
  case round =>
    obtain ⟨k, hk, rfl, ha, rfl⟩ := hrel
    have HAK := hide ha
    clear ha
    by_cases hlt : k < s.size
    · have hki : (k : Int) < (s.size : Int) := by omega
      have HTK := hide (HT.out k hlt)
      have HFK := hide (HF.out s[k])
      cases hp : Pk.unb s[k] with
      | true =>
        have HP := hide hp
        clear hp
        go_wp2_with fail
        refine HFK.out.mono ?_
        rintro x w2 ⟨rfl, rfl⟩
        rw [HP.out]
        go_wp2
        go_roundw
        case rel => exact ⟨k + 1, by omega, by go_num, by rw [HTK.out, HAK.out, HP.out]; rfl, by trivial⟩
        case measure => simp [intOf]; omega
      | false =>
        have HP := hide hp
        clear hp
        have HN : Hid (s.data.toList.all Pk.unb = false) := HA.out (k + 1) (by rw [HTK.out, HP.out, Bool.and_false])
        go_wp2_with fail
        refine HFK.out.mono ?_
        rintro x w2 ⟨rfl, rfl⟩
        rw [HP.out]
        go_wp2
        go_ret
        exact ⟨by rw [HR.out, HN.out]; rfl, rfl⟩
    · obtain rfl : k = s.size := by omega
      rw [HE.out] at HAK
      go_wp2
      go_ret
      exact ⟨by rw [HR.out, HAK.out]; rfl, rfl⟩

end Go.Proofs.YtocpikgcbibcoaaGreatDoor.pk

namespace Go.Proofs.YtocpikgcbibcoaaGreatDoor.pk
open Go.ChangeShapes Go.WideShapes Go.ChangeAt Go.RowKit Go.Proofs.YtocpikgcbibcoaaGreatDoor.common

theorem challenge_any (s : ByteArray) (w : World) (ht : Tab w) :
    Calls Tryz.prog 46 #[.string s] w fun e w' => e = .returned (.bool (Pk.proof s.data.toList)) ∧ w' = w := by
  have H := hide (isProof_any s w ht)
  clear ht
  go_enter Tryz.func46, Tryz.ntmps46
  go_wp2_with fail
  refine H.out.mono ?_
  rintro x w2 ⟨rfl, rfl⟩
  go_wp2
  go_ret
  exact ⟨rfl, rfl⟩

end Go.Proofs.YtocpikgcbibcoaaGreatDoor.pk

namespace Go.Proofs.YtocpikgcbibcoaaGreatDoor.rc
open Go.ChangeShapes Go.WideShapes Go.ChangeAt Go.RowKit Go.Proofs.YtocpikgcbibcoaaGreatDoor.common Go.Proofs.YtocpikgcbibcoaaGreatDoor.bk Go.Proofs.YtocpikgcbibcoaaGreatDoor.ss
attribute [local go_sem ↓] Go.wp_at_zero Go.wp_at_succ

/-- what the program's own variables hold -/
structure Env (ea em : Addr) (eA : Value) (w : World) : Prop where
  kt : KTab w
  txt : radw.Txt w ea
  url : radw.UrlTab w
  sc : tm.SEnv (radw.X ea) (radw.X em) w
  nums : tm.Nums w
  loc : tm.Loc w
  pkt : pk.Tab w
  arg : w.cell? ⟨1, 0, none⟩ = some eA
theorem Env.below {ea em : Addr} {eA : Value} {w w' : World} (h : Env ea em eA w) (hb : Below w.heap.size w w') : Env ea em eA w' :=
  ⟨h.kt.below hb, h.txt.below hb, h.url.below hb (World.block_lt_of_cell? w _ (h.url 0 (by decide))), h.sc.below hb, h.nums.below hb, h.loc.below hb, h.pkt.below hb (Nat.le_refl _), (hb.cell (World.block_lt_of_cell? _ _ h.arg)).trans h.arg⟩

/-- an identifier: 32 bytes in base64url -/
def idP (s : ByteArray) : Prop := (Rad.valid Rad.urlT 64 s.data.toList ∧ Rad.restOk Rad.urlT s.data.toList) ∧ (Rad.un64 Rad.urlT s.data.toList).length = 32
def idB (s : ByteArray) : Bool := (List.range s.data.toList.length).all (fun i => decide (Rad.rd Rad.urlT 64 (s.data.toList.getD i 0) ≠ 0)) && decide (s.data.toList.length % 4 ≠ 1 ∧ (s.data.toList.length % 4 = 2 → Rad.num Rad.urlT 64 s.data.toList (s.data.toList.length - 1) % 16 = 0) ∧ (s.data.toList.length % 4 = 3 → Rad.num Rad.urlT 64 s.data.toList (s.data.toList.length - 1) % 4 = 0)) && decide ((Rad.un64 Rad.urlT s.data.toList).length = 32)
theorem idB_iff (s : ByteArray) : idB s = true ↔ idP s := by
  unfold idB idP Rad.valid Rad.restOk
  simp only [Bool.and_eq_true, List.all_eq_true, List.mem_range, decide_eq_true_eq]
theorem idB_not {s : ByteArray} (h : ¬ idP s) : idB s = false := by
  cases hb : idB s with
  | false => rfl
  | true => exact absurd ((idB_iff s).1 hb) h

set_option maxHeartbeats 1600000 in
theorem isIdentifier_any (s : ByteArray) (ea em : Addr) (eA : Value) (w : World) (hs : s.size ≤ reachBytes) (he : Env ea em eA w) :
    Calls Tryz.prog 43 #[.string s] w fun e w' => e = .returned (.bool (idB s)) ∧ Below w.heap.size w w' := by
  have HU := hide (radw.unurl_any s w hs ea he.txt he.url)
  have hln : (⟨(Rad.un64 Rad.urlT s.data.toList).toArray⟩ : ByteArray).size = (Rad.un64 Rad.urlT s.data.toList).length := by simp [ByteArray.size]
  have HI := hide (idB_iff s)
  have HN : Hid (¬ idP s → idB s = false) := fun h => idB_not h
  have HP : Hid (idP s ↔ (Rad.valid Rad.urlT 64 s.data.toList ∧ Rad.restOk Rad.urlT s.data.toList) ∧ (Rad.un64 Rad.urlT s.data.toList).length = 32) := Iff.rfl
  generalize idB s = t at *
  clear he
  go_enter Tryz.func43, Tryz.ntmps43
  go_wp2_with fail
  refine HU.out.mono ?_
  rintro x w2 ⟨b2, ⟨hv, rfl⟩ | ⟨hv, rfl⟩⟩
  · have HV := hide hv
    have HB := hide b2
    generalize (⟨(Rad.un64 Rad.urlT s.data.toList).toArray⟩ : ByteArray) = q at *
    by_cases h32 : q.size = 32
    · have hq : ((q.size : Int) == 32) = true := by rw [h32]; rfl
      have HT : Hid (t = true) := HI.out.2 (HP.out.2 ⟨HV.out, by rw [← hln]; exact h32⟩)
      clear h32 hln hv b2
      go_wp2_with fail
      go_ret
      exact ⟨by rw [HT.out]; rfl, HB.out⟩
    · have hq : ((q.size : Int) == 32) = false := beq_false_of_ne (by omega)
      have HT : Hid (t = false) := HN.out (fun h => h32 (by rw [hln]; exact (HP.out.1 h).2))
      clear h32 hln hv b2
      go_wp2_with fail
      go_ret
      exact ⟨by rw [HT.out]; rfl, HB.out⟩
  · have HT : Hid (t = false) := HN.out (fun h => hv (HP.out.1 h).1)
    have HB := hide b2
    clear hv b2
    go_wp2_with fail
    go_ret
    exact ⟨by rw [HT.out]; rfl, HB.out⟩

/-- a scope, alone -/
def oneSc (s : ByteArray) : Bool := tm.areSc s && !tm.many s && decide (tm.scL s = [s])
set_option maxHeartbeats 1600000 in
theorem isNoScope_any (s : ByteArray) (ea em : Addr) (eA : Value) (w : World) (hs : s.size ≤ 4294967200) (he : Env ea em eA w) :
    Calls Tryz.prog 60 #[.string s] w fun e w' => e = .returned (.bool (!oneSc s)) ∧ Below w.heap.size w w' := by
  have HU := hide (tm.scopes_any (radw.X ea) (radw.X em) s w he.sc hs)
  have HLL : Hid ((tm.scL s).length ≤ 4611686018427387904) := by
    show _ ≤ _
    unfold tm.scL tm.many
    split
    · rename_i h
      simp at h
      omega
    · simp
  have HO : Hid (oneSc s = (tm.areSc s && !tm.many s && decide (tm.scL s = [s]))) := rfl
  generalize oneSc s = t at *
  clear he
  cases ha : tm.areSc s with
  | false =>
    have hE : tm.scE (radw.X ea) (radw.X em) s = radw.X ea := by unfold tm.scE; rw [ha]; rfl
    rw [hE] at HU
    have HT : Hid (t = false) := by show t = false; rw [HO.out, ha]; rfl
    clear hE ha
    go_enter Tryz.func60, Tryz.ntmps60
    go_wp2_with fail
    refine HU.out.mono ?_
    rintro x w2 ⟨v, rfl, _, b2⟩
    have HB := hide b2
    clear b2
    go_wp2_with fail
    go_ret
    exact ⟨by rw [HT.out]; rfl, HB.out⟩
  | true =>
    cases hm : tm.many s with
    | true =>
      have hE : tm.scE (radw.X ea) (radw.X em) s = radw.X em := by unfold tm.scE; rw [ha, hm]; rfl
      rw [hE] at HU
      have HT : Hid (t = false) := by show t = false; rw [HO.out, ha, hm]; rfl
      clear hE ha hm
      go_enter Tryz.func60, Tryz.ntmps60
      go_wp2_with fail
      refine HU.out.mono ?_
      rintro x w2 ⟨v, rfl, _, b2⟩
      have HB := hide b2
      clear b2
      go_wp2_with fail
      go_ret
      exact ⟨by rw [HT.out]; rfl, HB.out⟩
    | false =>
      have hE : tm.scE (radw.X ea) (radw.X em) s = .nilIface := by unfold tm.scE; rw [ha, hm]; rfl
      rw [hE] at HU
      have HT : Hid (t = decide (tm.scL s = [s])) := by show t = _; rw [HO.out, ha, hm]; simp
      clear hE ha hm
      generalize tm.scL s = L at *
      go_enter Tryz.func60, Tryz.ntmps60
      go_wp2_with fail
      refine HU.out.mono ?_
      rintro x w2 ⟨v, rfl, ho, b2⟩
      have HB := hide b2
      have HL := hide (lies_of_own ho)
      have HEQ := hide (equalOne_any v L s w2.heap.size (w2.alloc (.cells #[.string s] 9)) (HL.out.below ((Below.refl _ _).alloc (Nat.le_refl _) _)) HLL.out (by have h := heap_alloc_new w2 (.cells #[.string s] 9); simp only [World.cell?, h]; rfl))
      clear b2 ho
      go_wp2_with (go_at_call 76; refine HEQ.out.mono ?_; rintro x w3 ⟨rfl, b3⟩)
      go_ret
      refine ⟨by rw [HT.out]; simp, ?_⟩
      exact keepT (Nat.le_refl _) HB.out ((((Below.refl w2.heap.size w2).alloc (Nat.le_refl _) _).trans (b3.mono (by simp))).mono HB.out.size)

def fitL (b : Bool) (l : List ByteArray) : Bool := if b then decide (0 < l.length) && decide (l.length ≤ 16) && risB l && !(l.any fun s => !oneSc s) else decide (l.length = 0)
theorem noScope_enters : tm.Enters 60 := enters_of Tryz.func60 (by kernel_rfl) rfl
theorem ident_enters : tm.Enters 43 := enters_of Tryz.func43 (by kernel_rfl) rfl
theorem name_enters : tm.Enters 44 := enters_of Tryz.func44 (by kernel_rfl) rfl
theorem red_enters : tm.Enters 45 := enters_of Tryz.func45 (by kernel_rfl) rfl
theorem chal_enters : tm.Enters 46 := enters_of Tryz.func46 (by kernel_rfl) rfl
set_option maxRecDepth 100000 in
set_option maxHeartbeats 3200000 in
theorem scopesFit_any (b : Bool) (v : Value) (l : List ByteArray) (ea em : Addr) (eA : Value) (w : World) (hL : Lies w v l) (hl : l.length ≤ 4611686018427387904) (hs : ∀ s ∈ l, s.size ≤ 4294967200) (he : Env ea em eA w) :
    Calls Tryz.prog 47 #[.bool b, v] w fun e w' => e = .returned (.bool (fitL b l)) ∧ Below w.heap.size w w' := by
  have HR := hide (isRising_any v l w hL hl)
  have HC : Hid (∀ W, Below w.heap.size w W → Calls Tryz.prog 59 #[v, .func (.func 60) #[] #[]] W fun e w' => e = .returned (.bool (l.any fun s => !oneSc s)) ∧ Below W.heap.size W w') := fun W hW =>
    containsFunc_any v l _ (fun s => !oneSc s) W (hL.below hW) hl noScope_enters (fun X s hm hX => isNoScope_any s ea em eA X (hs s hm) (he.below (keepT (Nat.le_refl _) hW (hX.mono hW.size))))
  have HF : Hid (fitL b l = if b then decide (0 < l.length) && decide (l.length ≤ 16) && risB l && !(l.any fun s => !oneSc s) else decide (l.length = 0)) := rfl
  generalize fitL b l = t at *
  generalize (l.any fun s => !oneSc s) = c at *
  generalize risB l = rb at *
  obtain ⟨oa, cap, rfl⟩ := Lies.len hL
  clear hL hs he
  cases b with
  | false =>
    by_cases h0 : l.length = 0
    · have HT : Hid (t = true) := by show t = _; rw [HF.out]; simp [h0]
      have hz : ((l.length : Int) == 0) = true := by rw [h0]; rfl
      clear h0
      go_enter Tryz.func47, Tryz.ntmps47
      go_wp2_with fail
      go_ret
      exact ⟨by rw [HT.out]; rfl, Below.refl _ _⟩
    · have HT : Hid (t = false) := by show t = _; rw [HF.out]; simp [h0]
      have hz : ((l.length : Int) == 0) = false := beq_false_of_ne (by omega)
      go_enter Tryz.func47, Tryz.ntmps47
      go_wp2_with fail
      go_ret
      exact ⟨by rw [HT.out]; rfl, Below.refl _ _⟩
  | true =>
    by_cases h0 : 0 < l.length
    · have h0i : (0 : Int) < (l.length : Int) := by omega
      by_cases h1 : l.length ≤ 16
      · have h1i : (l.length : Int) ≤ 16 := by omega
        cases rb with
        | true =>
          have HT : Hid (t = !c) := by show t = _; rw [HF.out]; simp [h0, h1]
          go_enter Tryz.func47, Tryz.ntmps47
          go_wp2_with (first
            | (go_at_call 58; refine HR.out.mono ?_; rintro x w2 ⟨rfl, b2⟩)
            | (go_at_call 59; refine (HC.out _ b2).mono ?_; rintro x w3 ⟨rfl, b3⟩))
          go_ret
          exact ⟨by rw [HT.out]; rfl, keepT (Nat.le_refl _) b2 (b3.mono b2.size)⟩
        | false =>
          have HT : Hid (t = false) := by show t = _; rw [HF.out]; simp
          go_enter Tryz.func47, Tryz.ntmps47
          go_wp2_with ((go_at_call 58; refine HR.out.mono ?_; rintro x w2 ⟨rfl, b2⟩))
          go_ret
          exact ⟨by rw [HT.out]; rfl, b2⟩
      · have h1i : ¬ (l.length : Int) ≤ 16 := by omega
        have HT : Hid (t = false) := by show t = _; rw [HF.out]; simp [h1]
        go_enter Tryz.func47, Tryz.ntmps47
        go_wp2_with fail
        go_ret
        exact ⟨by rw [HT.out]; rfl, Below.refl _ _⟩
    · have h0i : ¬ (0 : Int) < (l.length : Int) := by omega
      have HT : Hid (t = false) := by show t = _; rw [HF.out]; simp [h0]
      go_enter Tryz.func47, Tryz.ntmps47
      go_wp2_with fail
      go_ret
      exact ⟨by rw [HT.out]; rfl, Below.refl _ _⟩
end Go.Proofs.YtocpikgcbibcoaaGreatDoor.rc

namespace Go.Proofs.YtocpikgcbibcoaaGreatDoor.rc
open Go.ChangeShapes Go.WideShapes Go.ChangeAt Go.RowKit Go.Proofs.YtocpikgcbibcoaaGreatDoor.common

/-- a region that draws its order, whose operations and callees keep to a class of worlds (those that f gives) -/
theorem wp_region_cls {P : Program} {id : Nat} {Q : Exit → Act → World → Prop} {a : Act} {w : World} {l : List Oper} (f : World → World) (hm : P.follows .mixedOrders = true) (hB : Region.lexB .any l.toArray = true) (w0 : World) (h0 : w.drew = f w0)
    (h : wpQuiet P l.toArray (fun w' => ∃ n, w' = f n) (fun a' => ∀ w', (∃ n, w' = f n) → Q .normal a' w') l a) : (Code.region id l.toArray true).wp P Q a w :=
  wp_region_quiet (C := fun w' => ∃ n, w' = f n) hm hB ⟨w0, h0⟩ (by simpa using h)
/-- the worlds above a base, as a function's values -/
theorem class_of (W : World) : ∃ f : World → World, (∀ X, Below W.heap.size W (f X)) ∧ (∀ X, Below W.heap.size W X → f X = X) := by
  classical
  refine ⟨fun X => if Below W.heap.size W X then X else W, fun X => ?_, fun X h => if_pos h⟩
  show Below W.heap.size W (if Below W.heap.size W X then X else W)
  by_cases h : Below W.heap.size W X
  · rw [if_pos h]; exact h
  · rw [if_neg h]; exact Below.refl _ _
end Go.Proofs.YtocpikgcbibcoaaGreatDoor.rc

namespace Go.Proofs.YtocpikgcbibcoaaGreatDoor.rc
open Go.ChangeShapes Go.WideShapes Go.ChangeAt Go.RowKit Go.Proofs.YtocpikgcbibcoaaGreatDoor.common Go.Proofs.YtocpikgcbibcoaaGreatDoor.bk Go.Proofs.YtocpikgcbibcoaaGreatDoor.ss
attribute [local go_sem ↓] Go.wp_at_zero Go.wp_at_succ

/-- a record -/
structure Rec where
  k : Int
  id : ByteArray
  us : ByteArray
  cl : ByteArray
  rd : ByteArray
  ch : ByteArray
  cd : ByteArray
  ss : List ByteArray
  at_ : Int
/-- its cells, with the slice of its scopes -/
abbrev rcs (r : Rec) (v : Value) : Array Value := #[.int .i64 r.k, .string r.id, .string r.us, .string r.cl, .string r.rd, .string r.ch, .string r.cd, v, .int .i64 r.at_]
/-- texts that a machine can hold -/
structure Rec.Small (r : Rec) : Prop where
  id : r.id.size ≤ reachBytes
  us : r.us.size ≤ reachBytes
  cl : r.cl.size ≤ reachBytes
  rd : r.rd.size ≤ reachBytes
  ch : r.ch.size ≤ reachBytes
  cd : r.cd.size ≤ reachBytes
  len : r.ss.length ≤ 4611686018427387904
  ss : ∀ s ∈ r.ss, s.size ≤ 4294967200
def t_id (r : Rec) : Bool := fitS (nm r.k 1) r.id (idB r.id)
def t_us (r : Rec) : Bool := fitS (nm r.k 2) r.us (Tm.word 64 (Tm.btw 33 126) r.us.data.toList)
def t_cl (r : Rec) : Bool := fitS (nm r.k 4) r.cl (Tm.word 64 (Tm.btw 33 126) r.cl.data.toList)
def t_rd (r : Rec) : Bool := fitS (nm r.k 8) r.rd (tm.redL r.rd.data.toList)
def t_ch (r : Rec) : Bool := fitS (nm r.k 16) r.ch (Pk.proof r.ch.data.toList)
def t_cd (r : Rec) : Bool := fitS (nm r.k 32) r.cd (idB r.cd)
/-- may it be one? -/
def mayB (r : Rec) : Bool := isK r.k && (t_id r && (t_us r && (t_cl r && (t_rd r && (t_ch r && (t_cd r && (fitL (nm r.k 64) r.ss && fitT (nm r.k 128) r.at_)))))))
def BoxR (W0 : World) (b : Nat) (r : Rec) (v : Value) : Prop := ∀ X, Below W0.heap.size W0 X → X.cell? ⟨b, 0, none⟩ = some (.int .i64 r.k) ∧ X.cell? ⟨b, 1, none⟩ = some (.string r.id) ∧ X.cell? ⟨b, 2, none⟩ = some (.string r.us) ∧ X.cell? ⟨b, 3, none⟩ = some (.string r.cl) ∧ X.cell? ⟨b, 4, none⟩ = some (.string r.rd) ∧ X.cell? ⟨b, 5, none⟩ = some (.string r.ch) ∧ X.cell? ⟨b, 6, none⟩ = some (.string r.cd) ∧ X.cell? ⟨b, 7, none⟩ = some v ∧ X.cell? ⟨b, 8, none⟩ = some (.int .i64 r.at_)
theorem boxR (w : World) (r : Rec) (v : Value) (t : TypeId) : BoxR (w.alloc (.cells (rcs r v) t)) w.heap.size r v := fun X hX => by
  have h : X.heap[w.heap.size]? = some (.cells (rcs r v) t (0, 0)) := (hX.block _ (by simp)).trans (heap_alloc_new w _)
  simp only [World.cell?, h]
  exact ⟨rfl, rfl, rfl, rfl, rfl, rfl, rfl, rfl, rfl⟩
theorem keepW {a c d : World} (h1 : Below a.heap.size a c) (h2 : Below c.heap.size c d) : Below a.heap.size a d := h1.trans (h2.mono h1.size)

set_option maxRecDepth 100000 in
set_option maxHeartbeats 12800000 in
theorem mayBe_any (r : Rec) (v : Value) (ea em : Addr) (eA : Value) (w : World) (hv : Lies w v r.ss) (hz : r.Small) (he : Env ea em eA w) :
    Calls Tryz.prog 26 #[.agg (rcs r v)] w fun e w' => e = .returned (.bool (mayB r)) ∧ Below w.heap.size w w' := by
  obtain ⟨W0, hW0⟩ : ∃ W0, W0 = w.alloc (.cells (rcs r v) 26) := ⟨_, rfl⟩
  have hb0 : Below w.heap.size w W0 := by rw [hW0]; exact (Below.refl _ _).alloc (Nat.le_refl _) _
  have HC : Hid (BoxR W0 w.heap.size r v) := by show BoxR _ _ _ _; rw [hW0]; exact boxR w r v _
  have he0 := he.below hb0
  obtain ⟨f, hf, hg⟩ := class_of W0
  have HE : Hid (∀ X, Below W0.heap.size W0 X → Env ea em eA X) := fun X hX => he0.below hX
  have HK : Hid (∀ n, Calls Tryz.prog 41 #[.int .i64 r.k] (f n) fun e w' => e = .returned (.bool (isK r.k)) ∧ ∃ m, w' = f m) := fun n => (isKind_any r.k _).mono (fun e w1 h => ⟨h.1, n, h.2⟩)
  have HN : Hid (∀ n q, Calls Tryz.prog 37 #[.int .i64 r.k, .int .i64 q] (f n) fun e w' => e = .returned (.bool (nm r.k q)) ∧ ∃ m, w' = f m) := fun n q => (names_any r.k q _ (HE.out _ (hf n)).kt).mono (fun e w1 h => ⟨h.1, n, h.2⟩)
  have H_id : Hid (∀ n, Calls Tryz.prog 42 #[.bool (nm r.k 1), .string r.id, .func (.func 43) #[] #[]] (f n) fun e w' => e = .returned (.bool (t_id r)) ∧ ∃ m, w' = f m) := fun n =>
    (textFits_any (nm r.k 1) _ r.id _ (f n) ident_enters (isIdentifier_any r.id ea em eA (f n) hz.id (HE.out _ (hf n)))).mono (fun e w1 h => ⟨h.1, w1, (hg _ (keepW (hf n) h.2)).symm⟩)
  have H_us : Hid (∀ n, Calls Tryz.prog 42 #[.bool (nm r.k 2), .string r.us, .func (.func 44) #[] #[]] (f n) fun e w' => e = .returned (.bool (t_us r)) ∧ ∃ m, w' = f m) := fun n =>
    (textFits_any (nm r.k 2) _ r.us _ (f n) name_enters ((tm.name_any r.us (f n) (Nat.le_trans hz.us (by unfold reachBytes; decide))).mono (fun e w1 h => ⟨h.1, by rw [h.2]; exact Below.refl _ _⟩))).mono (fun e w1 h => ⟨h.1, w1, (hg _ (keepW (hf n) h.2)).symm⟩)
  have H_cl : Hid (∀ n, Calls Tryz.prog 42 #[.bool (nm r.k 4), .string r.cl, .func (.func 44) #[] #[]] (f n) fun e w' => e = .returned (.bool (t_cl r)) ∧ ∃ m, w' = f m) := fun n =>
    (textFits_any (nm r.k 4) _ r.cl _ (f n) name_enters ((tm.name_any r.cl (f n) (Nat.le_trans hz.cl (by unfold reachBytes; decide))).mono (fun e w1 h => ⟨h.1, by rw [h.2]; exact Below.refl _ _⟩))).mono (fun e w1 h => ⟨h.1, w1, (hg _ (keepW (hf n) h.2)).symm⟩)
  have H_rd : Hid (∀ n, Calls Tryz.prog 42 #[.bool (nm r.k 8), .string r.rd, .func (.func 45) #[] #[]] (f n) fun e w' => e = .returned (.bool (t_rd r)) ∧ ∃ m, w' = f m) := fun n =>
    (textFits_any (nm r.k 8) _ r.rd _ (f n) red_enters (tm.red_any r.rd (f n) (HE.out _ (hf n)).nums (HE.out _ (hf n)).loc)).mono (fun e w1 h => ⟨h.1, w1, (hg _ (keepW (hf n) h.2)).symm⟩)
  have H_ch : Hid (∀ n, Calls Tryz.prog 42 #[.bool (nm r.k 16), .string r.ch, .func (.func 46) #[] #[]] (f n) fun e w' => e = .returned (.bool (t_ch r)) ∧ ∃ m, w' = f m) := fun n =>
    (textFits_any (nm r.k 16) _ r.ch _ (f n) chal_enters ((pk.challenge_any r.ch (f n) (HE.out _ (hf n)).pkt).mono (fun e w1 h => ⟨h.1, by rw [h.2]; exact Below.refl _ _⟩))).mono (fun e w1 h => ⟨h.1, w1, (hg _ (keepW (hf n) h.2)).symm⟩)
  have H_cd : Hid (∀ n, Calls Tryz.prog 42 #[.bool (nm r.k 32), .string r.cd, .func (.func 43) #[] #[]] (f n) fun e w' => e = .returned (.bool (t_cd r)) ∧ ∃ m, w' = f m) := fun n =>
    (textFits_any (nm r.k 32) _ r.cd _ (f n) ident_enters (isIdentifier_any r.cd ea em eA (f n) hz.cd (HE.out _ (hf n)))).mono (fun e w1 h => ⟨h.1, w1, (hg _ (keepW (hf n) h.2)).symm⟩)
  have H_sc : Hid (∀ n, Calls Tryz.prog 47 #[.bool (nm r.k 64), v] (f n) fun e w' => e = .returned (.bool (fitL (nm r.k 64) r.ss)) ∧ ∃ m, w' = f m) := fun n =>
    (scopesFit_any (nm r.k 64) v r.ss ea em eA (f n) (hv.below (keepW hb0 (hf n))) hz.len hz.ss (HE.out _ (hf n))).mono (fun e w1 h => ⟨h.1, w1, (hg _ (keepW (hf n) h.2)).symm⟩)
  have H_at : Hid (∀ n, Calls Tryz.prog 48 #[.bool (nm r.k 128), .int .i64 r.at_] (f n) fun e w' => e = .returned (.bool (fitT (nm r.k 128) r.at_)) ∧ ∃ m, w' = f m) := fun n => (timeFits_any (nm r.k 128) r.at_ _).mono (fun e w1 h => ⟨h.1, n, h.2⟩)
  have HM : Hid (mayB r = (isK r.k && (t_id r && (t_us r && (t_cl r && (t_rd r && (t_ch r && (t_cd r && (fitL (nm r.k 64) r.ss && fitT (nm r.k 128) r.at_))))))))) := rfl
  have HB0 := hide hb0
  have HW0 := hide hW0
  have HD : Hid (W0.drew = f W0.drew) := (hg _ (Below.refl _ _).drew).symm
  have HFB := hide hf
  have c0 : ∀ n, (f n).cell? ⟨w.heap.size, 0, none⟩ = some (.int .i64 r.k) := fun n => (HC.out _ (hf n)).1
  have c1 : ∀ n, (f n).cell? ⟨w.heap.size, 1, none⟩ = some (.string r.id) := fun n => (HC.out _ (hf n)).2.1
  have c2 : ∀ n, (f n).cell? ⟨w.heap.size, 2, none⟩ = some (.string r.us) := fun n => (HC.out _ (hf n)).2.2.1
  have c3 : ∀ n, (f n).cell? ⟨w.heap.size, 3, none⟩ = some (.string r.cl) := fun n => (HC.out _ (hf n)).2.2.2.1
  have c4 : ∀ n, (f n).cell? ⟨w.heap.size, 4, none⟩ = some (.string r.rd) := fun n => (HC.out _ (hf n)).2.2.2.2.1
  have c5 : ∀ n, (f n).cell? ⟨w.heap.size, 5, none⟩ = some (.string r.ch) := fun n => (HC.out _ (hf n)).2.2.2.2.2.1
  have c6 : ∀ n, (f n).cell? ⟨w.heap.size, 6, none⟩ = some (.string r.cd) := fun n => (HC.out _ (hf n)).2.2.2.2.2.2.1
  have c7 : ∀ n, (f n).cell? ⟨w.heap.size, 7, none⟩ = some v := fun n => (HC.out _ (hf n)).2.2.2.2.2.2.2.1
  have c8 : ∀ n, (f n).cell? ⟨w.heap.size, 8, none⟩ = some (.int .i64 r.at_) := fun n => (HC.out _ (hf n)).2.2.2.2.2.2.2.2
  haveI : Nonempty World := ⟨w⟩
  generalize mayB r = M at *
  generalize isK r.k = tk at *
  generalize t_id r = t1 at *
  generalize t_us r = t2 at *
  generalize t_cl r = t3 at *
  generalize t_rd r = t4 at *
  generalize t_ch r = t5 at *
  generalize t_cd r = t6 at *
  generalize fitL (nm r.k 64) r.ss = t7 at *
  generalize fitT (nm r.k 128) r.at_ = t8 at *
  clear he hz hv he0 hb0 hW0 hf hg
  cases tk with
  | false =>
    have HT : Hid (M = false) := by show M = _; rw [HM.out]; rfl
    go_enter Tryz.func26, Tryz.ntmps26
    go_wp2_with fail
    rw [← HW0.out]
    simp only [List.append_eq, List.cons_append, List.nil_append]
    refine wp_region_cls f (by kernel_rfl) (by kernel_rfl) _ HD.out ?_
    repeat (go_big_quiet_step (first | with_reducible exact HK.out _ | with_reducible exact HN.out _ _))
    refine wpQuiet_nil ?_
    rintro _ ⟨nq, rfl⟩
    go_wp2_with fail
    go_ret
    exact ⟨by rw [HT.out]; rfl, keepW HB0.out (HFB.out nq)⟩
  | true =>
    cases t1 with
    | false =>
      have HT : Hid (M = false) := by show M = _; rw [HM.out]; simp
      go_enter Tryz.func26, Tryz.ntmps26
      go_wp2_with fail
      rw [← HW0.out]
      simp only [List.append_eq, List.cons_append, List.nil_append]
      refine wp_region_cls f (by kernel_rfl) (by kernel_rfl) _ HD.out ?_
      repeat (go_big_quiet_step (first | with_reducible exact HK.out _ | with_reducible exact HN.out _ _ | with_reducible exact H_id.out _))
      refine wpQuiet_nil ?_
      rintro _ ⟨nq, rfl⟩
      go_wp2_with fail
      go_ret
      exact ⟨by rw [HT.out]; rfl, keepW HB0.out (HFB.out nq)⟩
    | true =>
      cases t2 with
      | false =>
        have HT : Hid (M = false) := by show M = _; rw [HM.out]; simp
        go_enter Tryz.func26, Tryz.ntmps26
        go_wp2_with fail
        rw [← HW0.out]
        simp only [List.append_eq, List.cons_append, List.nil_append]
        refine wp_region_cls f (by kernel_rfl) (by kernel_rfl) _ HD.out ?_
        repeat (go_big_quiet_step (first | with_reducible exact HK.out _ | with_reducible exact HN.out _ _ | with_reducible exact H_id.out _ | with_reducible exact H_us.out _))
        refine wpQuiet_nil ?_
        rintro _ ⟨nq, rfl⟩
        go_wp2_with fail
        go_ret
        exact ⟨by rw [HT.out]; rfl, keepW HB0.out (HFB.out nq)⟩
      | true =>
        cases t3 with
        | false =>
          have HT : Hid (M = false) := by show M = _; rw [HM.out]; simp
          go_enter Tryz.func26, Tryz.ntmps26
          go_wp2_with fail
          rw [← HW0.out]
          simp only [List.append_eq, List.cons_append, List.nil_append]
          refine wp_region_cls f (by kernel_rfl) (by kernel_rfl) _ HD.out ?_
          repeat (go_big_quiet_step (first | with_reducible exact HK.out _ | with_reducible exact HN.out _ _ | with_reducible exact H_id.out _ | with_reducible exact H_us.out _ | with_reducible exact H_cl.out _))
          refine wpQuiet_nil ?_
          rintro _ ⟨nq, rfl⟩
          go_wp2_with fail
          go_ret
          exact ⟨by rw [HT.out]; rfl, keepW HB0.out (HFB.out nq)⟩
        | true =>
          cases t4 with
          | false =>
            have HT : Hid (M = false) := by show M = _; rw [HM.out]; simp
            go_enter Tryz.func26, Tryz.ntmps26
            go_wp2_with fail
            rw [← HW0.out]
            simp only [List.append_eq, List.cons_append, List.nil_append]
            refine wp_region_cls f (by kernel_rfl) (by kernel_rfl) _ HD.out ?_
            repeat (go_big_quiet_step (first | with_reducible exact HK.out _ | with_reducible exact HN.out _ _ | with_reducible exact H_id.out _ | with_reducible exact H_us.out _ | with_reducible exact H_cl.out _ | with_reducible exact H_rd.out _))
            refine wpQuiet_nil ?_
            rintro _ ⟨nq, rfl⟩
            go_wp2_with fail
            go_ret
            exact ⟨by rw [HT.out]; rfl, keepW HB0.out (HFB.out nq)⟩
          | true =>
            cases t5 with
            | false =>
              have HT : Hid (M = false) := by show M = _; rw [HM.out]; simp
              go_enter Tryz.func26, Tryz.ntmps26
              go_wp2_with fail
              rw [← HW0.out]
              simp only [List.append_eq, List.cons_append, List.nil_append]
              refine wp_region_cls f (by kernel_rfl) (by kernel_rfl) _ HD.out ?_
              repeat (go_big_quiet_step (first | with_reducible exact HK.out _ | with_reducible exact HN.out _ _ | with_reducible exact H_id.out _ | with_reducible exact H_us.out _ | with_reducible exact H_cl.out _ | with_reducible exact H_rd.out _ | with_reducible exact H_ch.out _))
              refine wpQuiet_nil ?_
              rintro _ ⟨nq, rfl⟩
              go_wp2_with fail
              go_ret
              exact ⟨by rw [HT.out]; rfl, keepW HB0.out (HFB.out nq)⟩
            | true =>
              cases t6 with
              | false =>
                have HT : Hid (M = false) := by show M = _; rw [HM.out]; simp
                go_enter Tryz.func26, Tryz.ntmps26
                go_wp2_with fail
                rw [← HW0.out]
                simp only [List.append_eq, List.cons_append, List.nil_append]
                refine wp_region_cls f (by kernel_rfl) (by kernel_rfl) _ HD.out ?_
                repeat (go_big_quiet_step (first | with_reducible exact HK.out _ | with_reducible exact HN.out _ _ | with_reducible exact H_id.out _ | with_reducible exact H_us.out _ | with_reducible exact H_cl.out _ | with_reducible exact H_rd.out _ | with_reducible exact H_ch.out _ | with_reducible exact H_cd.out _))
                refine wpQuiet_nil ?_
                rintro _ ⟨nq, rfl⟩
                go_wp2_with fail
                go_ret
                exact ⟨by rw [HT.out]; rfl, keepW HB0.out (HFB.out nq)⟩
              | true =>
                cases t7 with
                | false =>
                  have HT : Hid (M = false) := by show M = _; rw [HM.out]; simp
                  go_enter Tryz.func26, Tryz.ntmps26
                  go_wp2_with fail
                  rw [← HW0.out]
                  simp only [List.append_eq, List.cons_append, List.nil_append]
                  refine wp_region_cls f (by kernel_rfl) (by kernel_rfl) _ HD.out ?_
                  repeat (go_big_quiet_step (first | with_reducible exact HK.out _ | with_reducible exact HN.out _ _ | with_reducible exact H_id.out _ | with_reducible exact H_us.out _ | with_reducible exact H_cl.out _ | with_reducible exact H_rd.out _ | with_reducible exact H_ch.out _ | with_reducible exact H_cd.out _ | with_reducible exact H_sc.out _))
                  refine wpQuiet_nil ?_
                  rintro _ ⟨nq, rfl⟩
                  go_wp2_with fail
                  go_ret
                  exact ⟨by rw [HT.out]; rfl, keepW HB0.out (HFB.out nq)⟩
                | true =>
                  have HT : Hid (M = t8) := by show M = _; rw [HM.out]; simp
                  go_enter Tryz.func26, Tryz.ntmps26
                  go_wp2_with fail
                  rw [← HW0.out]
                  simp only [List.append_eq, List.cons_append, List.nil_append]
                  refine wp_region_cls f (by kernel_rfl) (by kernel_rfl) _ HD.out ?_
                  repeat (go_big_quiet_step (first | with_reducible exact HK.out _ | with_reducible exact HN.out _ _ | with_reducible exact H_id.out _ | with_reducible exact H_us.out _ | with_reducible exact H_cl.out _ | with_reducible exact H_rd.out _ | with_reducible exact H_ch.out _ | with_reducible exact H_cd.out _ | with_reducible exact H_sc.out _ | with_reducible exact H_at.out _))
                  refine wpQuiet_nil ?_
                  rintro _ ⟨nq, rfl⟩
                  go_wp2_with fail
                  go_ret
                  exact ⟨by rw [HT.out]; rfl, keepW HB0.out (HFB.out nq)⟩
end Go.Proofs.YtocpikgcbibcoaaGreatDoor.rc

namespace Go.Proofs.YtocpikgcbibcoaaGreatDoor.rc
open Go.ChangeShapes Go.WideShapes Go.ChangeAt Go.RowKit Go.Proofs.YtocpikgcbibcoaaGreatDoor.common Go.Proofs.YtocpikgcbibcoaaGreatDoor.dk

/-- a record as bytes -/
def idL (r : Rec) : List UInt8 := if nm r.k 1 then txL r.id else []
def midL (r : Rec) : List UInt8 := if r.k = 4 then txL r.rd ++ txL r.ch else if r.k = 6 ∨ r.k = 9 then txL r.cd else []
def endL (r : Rec) : List UInt8 := if r.k = 4 ∨ r.k = 6 ∨ r.k = 9 ∨ r.k = 3 then txL r.cl ++ (lsL r.ss ++ (txL r.us ++ numL r.at_.toNat)) else if r.k = 1 then txL r.us ++ numL r.at_.toNat else if r.k = 11 then txL r.cl ++ txL r.us else []
def recL (r : Rec) : List UInt8 := [UInt8.ofNat r.k.toNat] ++ (idL r ++ (midL r ++ endL r))
theorem nil_kind (a : Addr) (W : World) : (nilAhead 320 53 (.pointer (some a)) "usher/record.kind").run Tryz.prog W = .ok (some false) W := by kernel_rfl
theorem met_kind (a : Addr) (W : World) : (method 320 53 (.pointer (some a)) "usher/record.kind").run Tryz.prog W = .ok (205, .pointer (some a)) W := by kernel_rfl
theorem nil_text (a : Addr) (W : World) : (nilAhead 320 53 (.pointer (some a)) "usher/record.text").run Tryz.prog W = .ok (some false) W := by kernel_rfl
theorem met_text (a : Addr) (W : World) : (method 320 53 (.pointer (some a)) "usher/record.text").run Tryz.prog W = .ok (208, .pointer (some a)) W := by kernel_rfl
theorem nil_list (a : Addr) (W : World) : (nilAhead 320 53 (.pointer (some a)) "usher/record.list").run Tryz.prog W = .ok (some false) W := by kernel_rfl
theorem met_list (a : Addr) (W : World) : (method 320 53 (.pointer (some a)) "usher/record.list").run Tryz.prog W = .ok (206, .pointer (some a)) W := by kernel_rfl
theorem nil_number (a : Addr) (W : World) : (nilAhead 320 53 (.pointer (some a)) "usher/record.number").run Tryz.prog W = .ok (some false) W := by kernel_rfl
theorem met_number (a : Addr) (W : World) : (method 320 53 (.pointer (some a)) "usher/record.number").run Tryz.prog W = .ok (207, .pointer (some a)) W := by kernel_rfl
/-- what the writer is handed: a record in its box below, its list, the table of kinds -/
structure Src (b p : Nat) (r : Rec) (v : Value) (w : World) : Prop where
  lt : b < p
  box : ∀ X, Below p w X → X.cell? ⟨b, 0, none⟩ = some (.int .i64 r.k) ∧ X.cell? ⟨b, 1, none⟩ = some (.string r.id) ∧ X.cell? ⟨b, 2, none⟩ = some (.string r.us) ∧ X.cell? ⟨b, 3, none⟩ = some (.string r.cl) ∧ X.cell? ⟨b, 4, none⟩ = some (.string r.rd) ∧ X.cell? ⟨b, 5, none⟩ = some (.string r.ch) ∧ X.cell? ⟨b, 6, none⟩ = some (.string r.cd) ∧ X.cell? ⟨b, 7, none⟩ = some v ∧ X.cell? ⟨b, 8, none⟩ = some (.int .i64 r.at_)
  own : ∀ X, Below p w X → Go.Proofs.YtocpikgcbibcoaaGreatDoor.ss.Lies X v r.ss
  tab : ∀ X, Below p w X → KTab X
/-- texts that can be written -/
structure Rec.Fine (r : Rec) : Prop where
  id : r.id.size ≤ 281474976
  us : r.us.size ≤ 281474976
  cl : r.cl.size ≤ 281474976
  rd : r.rd.size ≤ 281474976
  ch : r.ch.size ≤ 281474976
  cd : r.cd.size ≤ 281474976
  len : r.ss.length ≤ 16
  ss : ∀ s ∈ r.ss, s.size ≤ 281474976
  at0 : 0 ≤ r.at_
  at1 : r.at_ ≤ 9223372036854775807
theorem lsL_len (l : List ByteArray) (h : l.length ≤ 16) (h2 : ∀ s ∈ l, s.size ≤ 281474976) : (lsL l).length ≤ 4503599786 := by
  unfold lsL
  have h3 := flat_len l 281474976 h2
  have h4 : (numL l.length).length ≤ 10 := (numF_len 9 l.length).2
  have h5 := Nat.mul_le_mul_right (281474976 + 10) h
  rw [List.length_append]
  omega
end Go.Proofs.YtocpikgcbibcoaaGreatDoor.rc
