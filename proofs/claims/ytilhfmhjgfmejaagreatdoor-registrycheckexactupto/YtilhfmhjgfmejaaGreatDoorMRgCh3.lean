import Derived.Test.YtilhfmhjgfmejaaGreatDoorMRgRise
namespace Go.Proofs.YtilhfmhjgfmejaaGreatDoor.rg
open Go.ChangeShapes Go.WideShapes Go.ChangeAt Go.RowKit Go.Proofs.YtilhfmhjgfmejaaGreatDoor.common Go.Maps
attribute [local go_sem ↓] Go.wp_at_zero Go.wp_at_succ

abbrev eV (a : Addr) : Value := .iface 200 (.pointer (some a))
/-- what registry.Check asks of the variables of other packages -/
structure TEnv (eT eM : Addr) (w : World) : Prop where
  sc : tm.SEnv (eV eT) (eV eM) w
  nums : tm.Nums w
  loc : tm.Loc w
theorem TEnv.below {eT eM : Addr} {w w' : World} (h : TEnv eT eM w) (hb : Below w.heap.size w w') : TEnv eT eM w' := ⟨h.sc.below hb, h.nums.below hb, h.loc.below hb⟩
theorem red_enters : tm.Enters 54 := enters_of Tryz.func54 (by kernel_rfl) rfl
theorem scope_enters : tm.Enters 55 := enters_of Tryz.func55 (by kernel_rfl) rfl
theorem client_enters : tm.Enters 31 := enters_of Tryz.func31 (by kernel_rfl) rfl
theorem user_enters : tm.Enters 33 := enters_of Tryz.func33 (by kernel_rfl) rfl
theorem keepW {a c d : World} (h1 : Below a.heap.size a c) (h2 : Below c.heap.size c d) : Below a.heap.size a d := h1.trans (h2.mono h1.size)

set_option maxRecDepth 100000 in
set_option maxHeartbeats 1600000 in
theorem isUser_any (u : Usr) (w : World) (hs : u.name.size ≤ 4611686018427387904) : Calls Tryz.prog 33 #[.agg #[.string u.name, .string u.salt, .string u.dig]] w fun e w' => e = .returned (.bool (usrB u)) ∧ Below w.heap.size w w' := by
  obtain ⟨nm, salt, dig⟩ := u
  have hb := heap_new w (.cells #[.string nm, .string salt, .string dig] 47)
  have HB : Hid (Below w.heap.size w (w.alloc (.cells #[.string nm, .string salt, .string dig] 47))) := (Below.refl _ _).alloc (Nat.le_refl _) _
  have p0 : (w.alloc (.cells #[.string nm, .string salt, .string dig] 47)).cell? ⟨w.heap.size, 0, none⟩ = some (.string nm) := cell_of hb 0
  have p1 : (w.alloc (.cells #[.string nm, .string salt, .string dig] 47)).cell? ⟨w.heap.size, 1, none⟩ = some (.string salt) := cell_of hb 1
  have p2 : (w.alloc (.cells #[.string nm, .string salt, .string dig] 47)).cell? ⟨w.heap.size, 2, none⟩ = some (.string dig) := cell_of hb 2
  have HN := hide (tm.name_any nm (w.alloc (.cells #[.string nm, .string salt, .string dig] 47)) hs)
  have HS := hide (isSecret_any salt dig (w.alloc (.cells #[.string nm, .string salt, .string dig] 47)))
  have HQ : Hid (usrB ⟨nm, salt, dig⟩ = (Tm.word 64 (Tm.btw 33 126) nm.data.toList && seB salt dig)) := rfl
  generalize usrB ⟨nm, salt, dig⟩ = t at *
  clear hb
  cases hn : Tm.word 64 (Tm.btw 33 126) nm.data.toList with
  | false =>
    rw [hn] at HN
    have HT : Hid (t = false) := by show _ = _; rw [HQ.out, hn]; rfl
    clear hn
    go_enter Tryz.func33, Tryz.ntmps33
    go_wp2_with (go_at_call 51; refine HN.out.mono ?_; rintro e w2 ⟨rfl, rfl⟩)
    go_ret
    exact ⟨by rw [HT.out] <;> rfl, HB.out⟩
  | true =>
    rw [hn] at HN
    have HT : Hid (t = seB salt dig) := by show _ = _; rw [HQ.out, hn]; rfl
    rw [← HT.out] at HS
    clear hn
    go_enter Tryz.func33, Tryz.ntmps33
    go_wp2_with (first
      | (go_at_call 51; refine HN.out.mono ?_; rintro e w2 ⟨rfl, h2⟩; obtain rfl := h2.symm; clear h2)
      | (go_at_call 57; refine HS.out.mono ?_; rintro e w3 ⟨rfl, b3⟩))
    go_ret
    exact ⟨rfl, keepW HB.out b3⟩

set_option maxRecDepth 100000 in
set_option maxHeartbeats 6400000 in
theorem isClient_any (x : Cli) (vR vS : Value) (eT eM : Addr) (w : World) (hR : ss.Lies w vR x.to) (hS : ss.Lies w vS x.sc) (he : TEnv eT eM w) (hi : x.id.size ≤ 4611686018427387904) (hr : x.to.length ≤ 4611686018427387904) (hc : x.sc.length ≤ 4611686018427387904) (hz : ∀ s ∈ x.sc, s.size ≤ 4294967200) :
    Calls Tryz.prog 31 #[.agg #[.string x.id, .bool x.pub, .string x.salt, .string x.dig, vR, vS]] w fun e w' => e = .returned (.bool (cliB x)) ∧ Below w.heap.size w w' := by
  have HRL := hide hR
  have HSL := hide hS
  have HE := hide he
  have HZ := hide hz
  obtain ⟨oR, cR, rfl, _⟩ := hR
  obtain ⟨oS, cS, rfl, _⟩ := hS
  obtain ⟨id, pub, salt, dig, tos, sc⟩ := x
  dsimp only at HRL HSL HZ hi hr hc ⊢
  have hb := heap_new w (cliO ⟨id, pub, salt, dig, tos, sc⟩ (.slice oR tos.length cR) (.slice oS sc.length cS))
  have HB : Hid (Below w.heap.size w (w.alloc (cliO ⟨id, pub, salt, dig, tos, sc⟩ (.slice oR tos.length cR) (.slice oS sc.length cS)))) := (Below.refl _ _).alloc (Nat.le_refl _) _
  have HX : Hid (∀ Y, Below (w.alloc (cliO ⟨id, pub, salt, dig, tos, sc⟩ (.slice oR tos.length cR) (.slice oS sc.length cS))).heap.size (w.alloc (cliO ⟨id, pub, salt, dig, tos, sc⟩ (.slice oR tos.length cR) (.slice oS sc.length cS))) Y → Y.cell? ⟨w.heap.size, 4, none⟩ = some (.slice oR tos.length cR) ∧ Y.cell? ⟨w.heap.size, 5, none⟩ = some (.slice oS sc.length cS)) := fun Y hY => by
    have h9 := (hY.block w.heap.size (Array.getElem?_eq_some_iff.1 hb).1).trans hb
    exact ⟨cell_of h9 4, cell_of h9 5⟩
  have p0 : (w.alloc (cliO ⟨id, pub, salt, dig, tos, sc⟩ (.slice oR tos.length cR) (.slice oS sc.length cS))).cell? ⟨w.heap.size, 0, none⟩ = some (.string id) := cell_of hb 0
  have p1 : (w.alloc (cliO ⟨id, pub, salt, dig, tos, sc⟩ (.slice oR tos.length cR) (.slice oS sc.length cS))).cell? ⟨w.heap.size, 1, none⟩ = some (.bool pub) := cell_of hb 1
  have p2 : (w.alloc (cliO ⟨id, pub, salt, dig, tos, sc⟩ (.slice oR tos.length cR) (.slice oS sc.length cS))).cell? ⟨w.heap.size, 2, none⟩ = some (.string salt) := cell_of hb 2
  have p3 : (w.alloc (cliO ⟨id, pub, salt, dig, tos, sc⟩ (.slice oR tos.length cR) (.slice oS sc.length cS))).cell? ⟨w.heap.size, 3, none⟩ = some (.string dig) := cell_of hb 3
  have p4 : (w.alloc (cliO ⟨id, pub, salt, dig, tos, sc⟩ (.slice oR tos.length cR) (.slice oS sc.length cS))).cell? ⟨w.heap.size, 4, none⟩ = some (.slice oR tos.length cR) := cell_of hb 4
  have p5 : (w.alloc (cliO ⟨id, pub, salt, dig, tos, sc⟩ (.slice oR tos.length cR) (.slice oS sc.length cS))).cell? ⟨w.heap.size, 5, none⟩ = some (.slice oS sc.length cS) := cell_of hb 5
  have HN : Hid (Calls Tryz.prog 51 #[.string id] (w.alloc (cliO ⟨id, pub, salt, dig, tos, sc⟩ (.slice oR tos.length cR) (.slice oS sc.length cS))) fun e w' => e = .returned (.bool (nmB id)) ∧ w' = (w.alloc (cliO ⟨id, pub, salt, dig, tos, sc⟩ (.slice oR tos.length cR) (.slice oS sc.length cS)))) := tm.name_any id _ hi
  have HC := hide (isClientSecret_any ⟨id, pub, salt, dig, tos, sc⟩ (.slice oR tos.length cR) (.slice oS sc.length cS) (w.alloc (cliO ⟨id, pub, salt, dig, tos, sc⟩ (.slice oR tos.length cR) (.slice oS sc.length cS))) (HRL.out.below HB.out) (HSL.out.below HB.out))
  have HR1 : Hid (∀ Y, Below w.heap.size w Y → Calls Tryz.prog 53 #[.slice oR tos.length cR, .func (.func 54) #[] #[]] Y fun e w' => e = .returned (.bool (tos.all rdB)) ∧ Below Y.heap.size Y w') := fun Y hY => allS_any 54 rdB _ tos Y (HRL.out.below hY) hr red_enters (fun s _ Z hZ => tm.red_any s Z (HE.out.below (keepW hY hZ)).nums (HE.out.below (keepW hY hZ)).loc)
  have HS1 : Hid (∀ Y, Below w.heap.size w Y → Calls Tryz.prog 53 #[.slice oS sc.length cS, .func (.func 55) #[] #[]] Y fun e w' => e = .returned (.bool (sc.all oneSc)) ∧ Below Y.heap.size Y w') := fun Y hY => allS_any 55 oneSc _ sc Y (HSL.out.below hY) hc scope_enters (fun s hs Z hZ => isScope_any eT eM s Z (HE.out.below (keepW hY hZ)).sc (HZ.out s hs))
  have HI1 : Hid (∀ Y, Below w.heap.size w Y → Calls Tryz.prog 56 #[.slice oS sc.length cS] Y fun e w' => e = .returned (.bool (rc.risB sc)) ∧ Below Y.heap.size Y w') := fun Y hY => rc.isRisingR_any _ sc Y (HSL.out.below hY) hc
  have HQ : Hid (cliB ⟨id, pub, salt, dig, tos, sc⟩ = (nmB id && (csB ⟨id, pub, salt, dig, tos, sc⟩ && (decide (0 < tos.length) && (tos.all rdB && (decide (0 < sc.length) && (sc.all oneSc && rc.risB sc))))))) := rfl
  generalize cliB ⟨id, pub, salt, dig, tos, sc⟩ = t at *
  generalize nmB id = b0 at *
  generalize csB ⟨id, pub, salt, dig, tos, sc⟩ = b1 at *
  generalize tos.all rdB = b3 at *
  generalize sc.all oneSc = b5 at *
  generalize rc.risB sc = b6 at *
  clear hb
  cases b0 with
  | false =>
    have HT : Hid (t = false) := by show _ = _; rw [HQ.out]; rfl
    go_enter Tryz.func31, Tryz.ntmps31
    go_wp2_with (first
      | (go_at_call 51; refine HN.out.mono ?_; rintro e w2 ⟨rfl, h2⟩; obtain rfl := h2.symm; clear h2)
      | (go_at_call 52; refine HC.out.mono ?_; rintro e w3 ⟨rfl, b3⟩; obtain ⟨q4, q5⟩ := HX.out _ b3; have HB3 := hide (keepW HB.out b3); have HBX := hide b3; clear b3)
      | (go_at_call 53; with_reducible refine (HR1.out _ HB3.out).mono ?_; rintro e w4 ⟨rfl, b4⟩; obtain ⟨r4, r5⟩ := HX.out _ (keepW HBX.out b4); have HB4 := hide (keepW HB3.out b4); have HBY := hide (keepW HBX.out b4); clear b4)
      | (go_at_call 53; with_reducible refine (HS1.out _ HB4.out).mono ?_; rintro e w5 ⟨rfl, b5'⟩; obtain ⟨s4, s5⟩ := HX.out _ (keepW HBY.out b5'); have HB5 := hide (keepW HB4.out b5'); clear b5')
      | (go_at_call 56; refine (HI1.out _ HB5.out).mono ?_; rintro e w6 ⟨rfl, b6'⟩; have HB6 := hide (keepW HB5.out b6'); clear b6'))
    go_ret
    exact ⟨by rw [HT.out] <;> rfl, HB.out⟩
  | true =>
    cases b1 with
    | false =>
      have HT : Hid (t = false) := by show _ = _; rw [HQ.out]; rfl
      go_enter Tryz.func31, Tryz.ntmps31
      go_wp2_with (first
        | (go_at_call 51; refine HN.out.mono ?_; rintro e w2 ⟨rfl, h2⟩; obtain rfl := h2.symm; clear h2)
        | (go_at_call 52; refine HC.out.mono ?_; rintro e w3 ⟨rfl, b3⟩; obtain ⟨q4, q5⟩ := HX.out _ b3; have HB3 := hide (keepW HB.out b3); have HBX := hide b3; clear b3)
        | (go_at_call 53; with_reducible refine (HR1.out _ HB3.out).mono ?_; rintro e w4 ⟨rfl, b4⟩; obtain ⟨r4, r5⟩ := HX.out _ (keepW HBX.out b4); have HB4 := hide (keepW HB3.out b4); have HBY := hide (keepW HBX.out b4); clear b4)
        | (go_at_call 53; with_reducible refine (HS1.out _ HB4.out).mono ?_; rintro e w5 ⟨rfl, b5'⟩; obtain ⟨s4, s5⟩ := HX.out _ (keepW HBY.out b5'); have HB5 := hide (keepW HB4.out b5'); clear b5')
        | (go_at_call 56; refine (HI1.out _ HB5.out).mono ?_; rintro e w6 ⟨rfl, b6'⟩; have HB6 := hide (keepW HB5.out b6'); clear b6'))
      go_ret
      exact ⟨by rw [HT.out] <;> rfl, HB3.out⟩
    | true =>
      by_cases h2 : 0 < tos.length
      · have e2 : (0 : Int) < (tos.length : Int) := by omega
        have HD2 : Hid (decide (0 < tos.length) = true) := decide_eq_true h2
        clear h2
        cases b3 with
        | false =>
          have HT : Hid (t = false) := by show _ = _; rw [HQ.out, HD2.out]; rfl
          go_enter Tryz.func31, Tryz.ntmps31
          go_wp2_with (first
            | (go_at_call 51; refine HN.out.mono ?_; rintro e w2 ⟨rfl, h2⟩; obtain rfl := h2.symm; clear h2)
            | (go_at_call 52; refine HC.out.mono ?_; rintro e w3 ⟨rfl, b3⟩; obtain ⟨q4, q5⟩ := HX.out _ b3; have HB3 := hide (keepW HB.out b3); have HBX := hide b3; clear b3)
            | (go_at_call 53; with_reducible refine (HR1.out _ HB3.out).mono ?_; rintro e w4 ⟨rfl, b4⟩; obtain ⟨r4, r5⟩ := HX.out _ (keepW HBX.out b4); have HB4 := hide (keepW HB3.out b4); have HBY := hide (keepW HBX.out b4); clear b4)
            | (go_at_call 53; with_reducible refine (HS1.out _ HB4.out).mono ?_; rintro e w5 ⟨rfl, b5'⟩; obtain ⟨s4, s5⟩ := HX.out _ (keepW HBY.out b5'); have HB5 := hide (keepW HB4.out b5'); clear b5')
            | (go_at_call 56; refine (HI1.out _ HB5.out).mono ?_; rintro e w6 ⟨rfl, b6'⟩; have HB6 := hide (keepW HB5.out b6'); clear b6'))
          go_ret
          exact ⟨by rw [HT.out] <;> rfl, HB4.out⟩
        | true =>
          by_cases h4 : 0 < sc.length
          · have e4 : (0 : Int) < (sc.length : Int) := by omega
            have HD4 : Hid (decide (0 < sc.length) = true) := decide_eq_true h4
            clear h4
            cases b5 with
            | false =>
              have HT : Hid (t = false) := by show _ = _; rw [HQ.out, HD2.out, HD4.out]; rfl
              go_enter Tryz.func31, Tryz.ntmps31
              go_wp2_with (first
                | (go_at_call 51; refine HN.out.mono ?_; rintro e w2 ⟨rfl, h2⟩; obtain rfl := h2.symm; clear h2)
                | (go_at_call 52; refine HC.out.mono ?_; rintro e w3 ⟨rfl, b3⟩; obtain ⟨q4, q5⟩ := HX.out _ b3; have HB3 := hide (keepW HB.out b3); have HBX := hide b3; clear b3)
                | (go_at_call 53; with_reducible refine (HR1.out _ HB3.out).mono ?_; rintro e w4 ⟨rfl, b4⟩; obtain ⟨r4, r5⟩ := HX.out _ (keepW HBX.out b4); have HB4 := hide (keepW HB3.out b4); have HBY := hide (keepW HBX.out b4); clear b4)
                | (go_at_call 53; with_reducible refine (HS1.out _ HB4.out).mono ?_; rintro e w5 ⟨rfl, b5'⟩; obtain ⟨s4, s5⟩ := HX.out _ (keepW HBY.out b5'); have HB5 := hide (keepW HB4.out b5'); clear b5')
                | (go_at_call 56; refine (HI1.out _ HB5.out).mono ?_; rintro e w6 ⟨rfl, b6'⟩; have HB6 := hide (keepW HB5.out b6'); clear b6'))
              go_ret
              exact ⟨by rw [HT.out] <;> rfl, HB5.out⟩
            | true =>
              have HT : Hid (t = b6) := by show _ = _; rw [HQ.out, HD2.out, HD4.out]; rfl
              rw [← HT.out] at HI1
              go_enter Tryz.func31, Tryz.ntmps31
              go_wp2_with (first
                | (go_at_call 51; refine HN.out.mono ?_; rintro e w2 ⟨rfl, h2⟩; obtain rfl := h2.symm; clear h2)
                | (go_at_call 52; refine HC.out.mono ?_; rintro e w3 ⟨rfl, b3⟩; obtain ⟨q4, q5⟩ := HX.out _ b3; have HB3 := hide (keepW HB.out b3); have HBX := hide b3; clear b3)
                | (go_at_call 53; with_reducible refine (HR1.out _ HB3.out).mono ?_; rintro e w4 ⟨rfl, b4⟩; obtain ⟨r4, r5⟩ := HX.out _ (keepW HBX.out b4); have HB4 := hide (keepW HB3.out b4); have HBY := hide (keepW HBX.out b4); clear b4)
                | (go_at_call 53; with_reducible refine (HS1.out _ HB4.out).mono ?_; rintro e w5 ⟨rfl, b5'⟩; obtain ⟨s4, s5⟩ := HX.out _ (keepW HBY.out b5'); have HB5 := hide (keepW HB4.out b5'); clear b5')
                | (go_at_call 56; refine (HI1.out _ HB5.out).mono ?_; rintro e w6 ⟨rfl, b6'⟩; have HB6 := hide (keepW HB5.out b6'); clear b6'))
              go_ret
              exact ⟨rfl, HB6.out⟩
          · have e4 : ¬ (0 : Int) < (sc.length : Int) := by omega
            have HT : Hid (t = false) := by show _ = _; rw [HQ.out, HD2.out, decide_eq_false h4]; rfl
            clear h4
            go_enter Tryz.func31, Tryz.ntmps31
            go_wp2_with (first
              | (go_at_call 51; refine HN.out.mono ?_; rintro e w2 ⟨rfl, h2⟩; obtain rfl := h2.symm; clear h2)
              | (go_at_call 52; refine HC.out.mono ?_; rintro e w3 ⟨rfl, b3⟩; obtain ⟨q4, q5⟩ := HX.out _ b3; have HB3 := hide (keepW HB.out b3); have HBX := hide b3; clear b3)
              | (go_at_call 53; with_reducible refine (HR1.out _ HB3.out).mono ?_; rintro e w4 ⟨rfl, b4⟩; obtain ⟨r4, r5⟩ := HX.out _ (keepW HBX.out b4); have HB4 := hide (keepW HB3.out b4); have HBY := hide (keepW HBX.out b4); clear b4)
              | (go_at_call 53; with_reducible refine (HS1.out _ HB4.out).mono ?_; rintro e w5 ⟨rfl, b5'⟩; obtain ⟨s4, s5⟩ := HX.out _ (keepW HBY.out b5'); have HB5 := hide (keepW HB4.out b5'); clear b5')
              | (go_at_call 56; refine (HI1.out _ HB5.out).mono ?_; rintro e w6 ⟨rfl, b6'⟩; have HB6 := hide (keepW HB5.out b6'); clear b6'))
            go_ret
            exact ⟨by rw [HT.out] <;> rfl, HB4.out⟩
      · have e2 : ¬ (0 : Int) < (tos.length : Int) := by omega
        have HT : Hid (t = false) := by show _ = _; rw [HQ.out, decide_eq_false h2]; rfl
        clear h2
        go_enter Tryz.func31, Tryz.ntmps31
        go_wp2_with (first
          | (go_at_call 51; refine HN.out.mono ?_; rintro e w2 ⟨rfl, h2⟩; obtain rfl := h2.symm; clear h2)
          | (go_at_call 52; refine HC.out.mono ?_; rintro e w3 ⟨rfl, b3⟩; obtain ⟨q4, q5⟩ := HX.out _ b3; have HB3 := hide (keepW HB.out b3); have HBX := hide b3; clear b3)
          | (go_at_call 53; with_reducible refine (HR1.out _ HB3.out).mono ?_; rintro e w4 ⟨rfl, b4⟩; obtain ⟨r4, r5⟩ := HX.out _ (keepW HBX.out b4); have HB4 := hide (keepW HB3.out b4); have HBY := hide (keepW HBX.out b4); clear b4)
          | (go_at_call 53; with_reducible refine (HS1.out _ HB4.out).mono ?_; rintro e w5 ⟨rfl, b5'⟩; obtain ⟨s4, s5⟩ := HX.out _ (keepW HBY.out b5'); have HB5 := hide (keepW HB4.out b5'); clear b5')
          | (go_at_call 56; refine (HI1.out _ HB5.out).mono ?_; rintro e w6 ⟨rfl, b6'⟩; have HB6 := hide (keepW HB5.out b6'); clear b6'))
        go_ret
        exact ⟨by rw [HT.out] <;> rfl, HB3.out⟩
end Go.Proofs.YtilhfmhjgfmejaaGreatDoor.rg
