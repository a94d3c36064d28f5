import Derived.Test.YtjalggkhpnfbiaaDoorBSentLook
namespace Go.Proofs.YtjalggkhpnfbiaaDoor.sent
open Go.ChangeShapes Go.WideShapes Go.ChangeAt Go.RowKit Go.Proofs.YtjalggkhpnfbiaaDoor.common Go.Proofs.YtjalggkhpnfbiaaDoor.lst Go.Maps
attribute [local go_sem ↓] Go.wp_at_zero Go.wp_at_succ

/-- an input: its kind, name, value and label -/
structure Inp where
  kind : Int
  name : ByteArray
  value : ByteArray
  label : ByteArray

/-- what was typed under a name -/
def typedOf (l : List PB) (n : ByteArray) : Option ByteArray := (lastIx l n l.length).map fun i => (l.getD i (⟨#[]⟩, ⟨#[]⟩)).2
/-- the value with which an input is sent, if it is -/
def valOf (l : List PB) (x : Inp) : ByteArray × Bool :=
  if x.kind = 1 then (x.value, true)
  else if x.kind = 2 ∨ x.kind = 3 then ((typedOf l x.name).getD x.value, true)
  else if x.kind = 4 then (x.value, cnt l (x.name, x.value) l.length % 2 == 0)
  else (⟨#[]⟩, false)

set_option maxRecDepth 100000 in
set_option maxHeartbeats 1600000 in
theorem val_any (v : Value) (l : List PB) (x : Inp) (bL bC : Nat) (w : World) (hl : Lies w v l) (hf : Fits l) (hL : PL l bL l.length w l.length) (hC : PC l bC l.length w l.length)
    (hk0 : -9223372036854775808 ≤ x.kind) (hk1 : x.kind ≤ 9223372036854775807) (hn : x.name.size ≤ maxLen) (hv : x.value.size ≤ maxLen) :
    Calls Tryd.prog 44 #[.agg #[v, .map (some bL), .map (some bC)], .agg #[.int .i64 x.kind, .string x.name, .string x.value, .string x.label]] w fun e w' => e = .returned (.tuple #[.string (valOf l x).1, .bool (valOf l x).2]) ∧ Below w.heap.size w w' := by
  obtain ⟨oa, cap, rfl, hc⟩ := hl
  have HC := hide hc
  clear hc
  obtain ⟨kd, nm, vl, lb⟩ := x
  simp only at hk0 hk1 hn hv ⊢
  have hat := atC l hf (nm, vl) hn hv l.length
  have hcl := cnt_le l (nm, vl) l.length
  have hal := atL l nm (i6 0) l.length
  have hhl := hasL l nm l.length
  unfold valOf
  simp only
  by_cases h1 : kd = 1
  · subst h1
    rw [if_pos rfl]
    clear hat hcl hal hhl hL hC
    go_enter Tryd.func44, Tryd.ntmps44
    go_wp2_with fail
    go_ret2
    exact ⟨rfl, ((Below.refl _ _).alloc (Nat.le_refl _) _).alloc (by simp) _⟩
  by_cases h2 : kd = 2
  · subst h2
    clear h1
    rw [if_neg (by decide), if_pos (by decide)]
    unfold typedOf
    cases hix : lastIx l nm l.length with
    | none =>
      rw [hix] at hhl
      have HH : Maps.has (Lm l l.length) (ks nm) = false := hhl
      clear hat hcl hal hhl hC
      go_enter Tryd.func44, Tryd.ntmps44
      go_wp2_with (at_lookup; refine wpList_lookup_own_ok_int _ rfl _ _ 90 rfl 9 3 .i64 lawS Tryd.underlying90 Tryd.underlying3 (zeroI _) bL l.length _ rfl ((hL.alloc _).alloc _) _ _ rfl (key_s hn) ?_; intro c hat' hwc; rw [HH])
      go_ret2
      exact ⟨rfl, ((Below.refl _ _).alloc (Nat.le_refl _) _).alloc (by simp) _⟩
    | some i =>
      rw [hix] at hhl hal
      have HH : Maps.has (Lm l l.length) (ks nm) = true := hhl
      have hi := (lastIx_lt l nm _ _ hix).1
      have hil : (i : Int) < (l.length : Int) := by omega
      have hi0 : (0 : Int) ≤ (i : Int) := Int.natCast_nonneg _
      obtain ⟨b, o, rfl, hb, c0, c1⟩ := HC.out i hi
      have e1 : ((w.alloc (.cells #[.slice (some ⟨b, o, none⟩) l.length cap, .map (some bL), .map (some bC)] 93)).alloc (.cells #[.int .i64 2, .string nm, .string vl, .string lb] 28)).cell? ⟨b, o + i * 2 + 1, none⟩ = some (.string l[i].2) := ((((Below.refl _ _).alloc (Nat.le_refl _) _).alloc (by simp) _).cell (p := ⟨b, o + i * 2 + 1, none⟩) hb).trans c1
      have hg : (l.getD i (⟨#[]⟩, ⟨#[]⟩)).2 = l[i].2 := by simp [List.getD, List.getElem?_eq_getElem hi]
      simp only [Option.map_some, Option.getD_some]
      rw [hg]
      clear hat hcl hhl hC hg c0 c1
      generalize l[i].2 = tv at *
      go_enter Tryd.func44, Tryd.ntmps44
      go_wp2_with (at_lookup; refine wpList_lookup_own_ok_int _ rfl _ _ 90 rfl 9 3 .i64 lawS Tryd.underlying90 Tryd.underlying3 (zeroI _) bL l.length _ rfl ((hL.alloc _).alloc _) _ _ rfl (key_s hn) ?_; intro c hat' hwc; rw [HH]; obtain rfl : c = (i : Int) := (by rw [hal] at hat'; cases hat'; rfl))
      go_ret2
      exact ⟨rfl, ((Below.refl _ _).alloc (Nat.le_refl _) _).alloc (by simp) _⟩
  by_cases h3 : kd = 3
  · subst h3
    clear h1 h2
    rw [if_neg (by decide), if_pos (by decide)]
    unfold typedOf
    cases hix : lastIx l nm l.length with
    | none =>
      rw [hix] at hhl
      have HH : Maps.has (Lm l l.length) (ks nm) = false := hhl
      clear hat hcl hal hhl hC
      go_enter Tryd.func44, Tryd.ntmps44
      go_wp2_with (at_lookup; refine wpList_lookup_own_ok_int _ rfl _ _ 90 rfl 9 3 .i64 lawS Tryd.underlying90 Tryd.underlying3 (zeroI _) bL l.length _ rfl ((hL.alloc _).alloc _) _ _ rfl (key_s hn) ?_; intro c hat' hwc; rw [HH])
      go_ret2
      exact ⟨rfl, ((Below.refl _ _).alloc (Nat.le_refl _) _).alloc (by simp) _⟩
    | some i =>
      rw [hix] at hhl hal
      have HH : Maps.has (Lm l l.length) (ks nm) = true := hhl
      have hi := (lastIx_lt l nm _ _ hix).1
      have hil : (i : Int) < (l.length : Int) := by omega
      have hi0 : (0 : Int) ≤ (i : Int) := Int.natCast_nonneg _
      obtain ⟨b, o, rfl, hb, c0, c1⟩ := HC.out i hi
      have e1 : ((w.alloc (.cells #[.slice (some ⟨b, o, none⟩) l.length cap, .map (some bL), .map (some bC)] 93)).alloc (.cells #[.int .i64 3, .string nm, .string vl, .string lb] 28)).cell? ⟨b, o + i * 2 + 1, none⟩ = some (.string l[i].2) := ((((Below.refl _ _).alloc (Nat.le_refl _) _).alloc (by simp) _).cell (p := ⟨b, o + i * 2 + 1, none⟩) hb).trans c1
      have hg : (l.getD i (⟨#[]⟩, ⟨#[]⟩)).2 = l[i].2 := by simp [List.getD, List.getElem?_eq_getElem hi]
      simp only [Option.map_some, Option.getD_some]
      rw [hg]
      clear hat hcl hhl hC hg c0 c1
      generalize l[i].2 = tv at *
      go_enter Tryd.func44, Tryd.ntmps44
      go_wp2_with (at_lookup; refine wpList_lookup_own_ok_int _ rfl _ _ 90 rfl 9 3 .i64 lawS Tryd.underlying90 Tryd.underlying3 (zeroI _) bL l.length _ rfl ((hL.alloc _).alloc _) _ _ rfl (key_s hn) ?_; intro c hat' hwc; rw [HH]; obtain rfl : c = (i : Int) := (by rw [hal] at hat'; cases hat'; rfl))
      go_ret2
      exact ⟨rfl, ((Below.refl _ _).alloc (Nat.le_refl _) _).alloc (by simp) _⟩
  by_cases h4 : kd = 4
  · subst h4
    clear h1 h2 h3
    rw [if_neg (by decide), if_neg (by decide), if_pos rfl]
    clear hal hhl hL
    generalize cnt l (nm, vl) l.length = n at *
    have hm : ((n : Int) % 2 == 0) = (n % 2 == 0) := by
      rcases Nat.mod_two_eq_zero_or_one n with h | h
      · have : (n : Int) % 2 = 0 := by omega
        simp [h, this]
      · have : (n : Int) % 2 = 1 := by omega
        simp [h, this]
    go_enter Tryd.func44, Tryd.ntmps44
    go_wp2_with (at_lookup; refine wpList_lookup_own_int _ rfl _ _ 91 rfl 66 3 .i64 lawP Tryd.underlying91 Tryd.underlying3 (zeroI _) bC l.length _ rfl ((hC.alloc _).alloc _) _ _ rfl (key_p (p := (nm, vl)) hn hv) ?_; intro c hat' hwc; obtain rfl : c = (n : Int) := (by rw [hat] at hat'; cases hat'; rfl))
    go_ret2
    exact ⟨rfl, ((Below.refl _ _).alloc (Nat.le_refl _) _).alloc (by simp) _⟩
  · rw [if_neg h1, if_neg (by omega), if_neg h4]
    clear hat hcl hal hhl hL hC
    go_enter Tryd.func44, Tryd.ntmps44
    go_wp2_with fail
    go_ret2
    exact ⟨rfl, ((Below.refl _ _).alloc (Nat.le_refl _) _).alloc (by simp) _⟩

end Go.Proofs.YtjalggkhpnfbiaaDoor.sent
