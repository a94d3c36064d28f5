import Derived.Test.YtgmgffcfmopgmaaDoorWlFatePut2
namespace Go.Proofs.YtgmgffcfmopgmaaDoor.wl
open Go.ChangeShapes Go.WideShapes Go.ChangeAt Go.RowKit Go.Proofs.YtgmgffcfmopgmaaDoor.common Go.Proofs.YtgmgffcfmopgmaaDoor.dk

theorem fine_reads {x : St} (h : Fine x) : Fine x.reads.1 := by
  have := Fine.step h ⟨3, 0, 0, 0, ByteArray.empty⟩ (by show (0 : Int) ≤ _; decide) (by show _ ≤ (0 : Int); decide) (by show (0 : Int) ≤ _; decide)
  simpa [St.step] using this
theorem fine_syncs {x : St} (h : Fine x) : Fine x.syncs.1 := by
  have := Fine.step h ⟨2, 0, 0, 0, ByteArray.empty⟩ (by show (0 : Int) ≤ _; decide) (by show _ ≤ (0 : Int); decide) (by show (0 : Int) ≤ _; decide)
  simpa [St.step] using this
theorem fine_trunc {x : St} (h : Fine x) (n : Nat) (hn : n ≤ 9223372036854775807) : Fine (x.trunc (n : Int)).1 := by
  have := Fine.step h ⟨4, 0, (n : Int), 0, ByteArray.empty⟩ (by show (n : Int) ≤ _; omega) (by show _ ≤ (0 : Int); decide) (by show (0 : Int) ≤ _; decide)
  simpa [St.step] using this
theorem fine_kpS {x : St} (h : Fine x) (good all : Nat) (hg : good ≤ 9223372036854775807) : Fine (kpS x good all).1 := by
  unfold kpS
  split
  · split
    · exact fine_syncs (fine_trunc h good hg)
    · exact fine_trunc h good hg
  · exact fine_syncs h

theorem oper_len (x : St) (on : St → St) (err : Nat) (h : ∀ y, (on y).b.length ≤ y.b.length) : (x.oper id on err).1.b.length ≤ x.b.length := by
  unfold St.oper
  split
  · exact Nat.le_refl _
  · split
    · exact h x
    · show (List.take _ x.b).length ≤ _
      rw [List.length_take]; omega
    · exact h _
theorem kpS_len (y : St) (good all : Nat) : (kpS y good all).1.b.length ≤ y.b.length := by
  have hs : ∀ u : St, u.syncs.1.b.length ≤ u.b.length := fun u => oper_len u St.sync 0 (fun v => Nat.le_refl _)
  have ht : (y.trunc (good : Int)).1.b.length ≤ y.b.length := by
    unfold St.trunc
    split
    · exact Nat.le_refl _
    · exact oper_len y (fun u => u.cut (good : Int).toNat) 0 (fun v => by show (List.take _ _).length ≤ _; rw [List.length_take]; omega)
  unfold kpS
  split
  · split
    · exact Nat.le_trans (hs _) ht
    · exact ht
  · exact hs y
/-- an Open that answers, before the fate is told -/
structure Op (w w' : World) (K : Nat) (e : Nat → Addr) (p f : Nat) (G F' : List Nat) (x x' : St) (T S W : List (List UInt8)) (arm : Bool) (sz : Int) (lost : Bool) (rm g : Nat) (v : Value) (ug : List Value) (Q : List (List UInt8)) : Prop where
  co : Co w' K e p f F' (g :: (G ++ F')) x' T S W arm sz lost rm
  row : Rw w' (g :: (G ++ F')) v ug Q
  is : Q = T ++ S ∨ Q = T ++ S ++ W
  b : x'.b = Wl.flat Q
  d : x'.d = false
  ly : LgAt w' g p Q.length (Wl.flat Q).length false
  far : g ∉ F'
  ne : f ≠ g
  arms : x'.a.length ≤ x.a.length
  below : Below K w w'
/-- an Open that dies -/
structure On (w w' : World) (K : Nat) (e : Nat → Addr) (p f : Nat) (G F' : List Nat) (x x' : St) (T S W : List (List UInt8)) (arm : Bool) (sz : Int) (lost : Bool) (rm : Nat) : Prop where
  co : Co w' K e p f F' (G ++ F') x' T S W arm sz lost rm
  d : x'.d = true
  arm : arm = true
  arms : x'.a.length ≤ x.a.length
  below : Below K w w'

theorem reopen (w : World) (K : Nat) (e : Nat → Addr) (p f : Nat) (F G : List Nat) (x : St) (T S W : List (List UInt8)) (arm : Bool) (sz : Int) (lost : Bool) (rm : Nat) (hc : Co w K e p f F G x T S W arm sz lost rm) (hd : x.d = false) (ht : crcw.Tab w) (hK : 13 < K) (hrm : rm ≤ 20000) :
    Calls Tryd.prog 11 #[ptr p] w fun r' w' => (∃ g v ug Q F' x', r' = .returned (.tuple #[ptr g, v, .nilIface]) ∧ Op w w' K e p f G F' x x' T S W arm sz lost rm g v ug Q) ∨ (∃ F' x', r' = .returned (.tuple #[.pointer none, .slice none 0 0, errw.E e 9]) ∧ On w w' K e p f G F' x x' T S W arm sz lost rm) := by
  have hFK : ∀ k ∈ F, K ≤ k := fun k hk => hc.low k (hc.sub k hk)
  have hle := hc.le
  have hgl := hc.cr.good.2.1
  have arms : ∀ {z : St}, z.a.length ≤ x.a.length → z.a ≠ [] → arm = true := fun h1 h2 => hc.arm (fun e0 => by
    rw [e0] at h1
    exact h2 (List.eq_nil_of_length_eq_zero (Nat.le_zero.1 h1)))
  rcases open_cases hc.cr hd with ⟨y, z, hr, yb, ys, yd, hk, zb, zs, zd, zr, za⟩ | ⟨y, n, hr, hn, hcy, yd, yr, ya, hxa⟩ | ⟨y, z, n, hr, yb, ys, yd, hk, hn, hcz, zd, zr, za, hxa⟩
  · have hy : Fine y := by have := fine_reads hc.fine; rw [hr] at this; exact this
    have hg2 : Wl.good y.b ≤ 20000 := by rw [yb]; omega
    have hz : Fine z := by have := fine_kpS hy (Wl.good y.b) y.b.length (by omega); rw [hk] at this; exact this
    have hzl : z.b.length ≤ rm := by
      rw [zb]
      have : (Wl.flat (Wl.scan x.b)).length = Wl.good x.b := rfl
      omega
    refine (openL_ok w K p F x hc.dk e hc.er.ed hFK hc.fine ht y hr hy (fine_trunc hy _ (by omega)) (by rw [yb]; omega) z hk hK).mono ?_
    rintro r' w' ⟨g, F', v', its, rfl, hlg, hps, hown, hits, hfr, hs, hg, hap1, hap2⟩
    rw [yb] at hps hlg
    have hm : Mv w p F z w' := ⟨F', hlg.1, hfr, hs⟩
    have hcr : Cr (T ++ S) W z := hc.cr.cut (by rw [zb]; exact hc.cr.good.1.symm) zs
    have hu : ∀ k ∈ G ++ F', k ∈ G ∨ w.heap.size ≤ k := fun k hk => by
      rcases List.mem_append.1 hk with h4 | h4
      · exact Or.inl h4
      · rcases hs k h4 with h5 | h5
        · exact Or.inl (hc.sub k h5)
        · exact Or.inr h5
    have hu2 : ∀ k ∈ g :: (G ++ F'), k ∈ G ∨ w.heap.size ≤ k := fun k hk => by
      rcases List.mem_cons.1 hk with rfl | h4
      · exact Or.inr hg
      · exact hu k h4
    have hfg : f ≠ g := fun e0 => by have := hc.gl f hc.mem; omega
    have hgl' := (Array.getElem?_eq_some_iff.1 hlg.2.1).1
    have hgb : w'.heap[g]? = some (.cells (lgc p its.length (Wl.good x.b) false) 80 (0, 0)) := hlg.2.1
    refine Or.inl ⟨g, v', its.map It.v, ps its, F', z, rfl, ⟨⟨hlg.1, hc.ft.fr hfr hc.sub hc.ff hu2 (List.mem_cons_of_mem _ (List.mem_append_left _ hc.mem)), fun hm => ?_, fun k hk => List.mem_cons_of_mem _ (List.mem_append_right _ hk), List.mem_cons_of_mem _ (List.mem_append_left _ hc.mem), fun k hk => ?_, fun k hk => ?_, hc.er.fr hfr hFK, hz, hcr, by rw [zr]; exact hc.room, hzl, arms za⟩, ?_, ?_, by rw [hps, zb], zd, ?_, hlg.2.2, hfg, za, hfr.below hFK hc.er.size⟩⟩
    · rcases hs f hm with h4 | h4
      · exact hc.ff h4
      · have := hc.gl f hc.mem; omega
    · rcases hu2 k hk with h4 | h4
      · exact hc.low k h4
      · exact Nat.le_trans hc.er.size h4
    · rcases List.mem_cons.1 hk with rfl | h4
      · exact hgl'
      · rcases List.mem_append.1 h4 with h4 | h4
        · exact Nat.lt_of_lt_of_le (hc.gl k h4) hfr.size
        · exact hlg.1.lt k h4
    · refine Tl.rw (F := F') ⟨own_mono' hown (Nat.zero_le _), fun x hx => (hits.1 x hx).1, hap1, hap2⟩ (fun b hb hm => ?_)
      rcases List.mem_cons.1 hm with rfl | hm
      · rcases hb with hb | ⟨it, hit, hb⟩
        · obtain ⟨cur, h5⟩ := own_cur hown hb
          rw [hgb] at h5; cases h5
        · have h5 := (hits.1 it hit).1
          have h6 : w'.heap[it.g]? = some (.cells (it.p.map B).toArray 5 (0, 0)) := h5
          rw [hb, hgb] at h6
          obtain ⟨_, h7, _⟩ := Obj.cells.inj (Option.some.inj h6)
          exact absurd h7 (by decide)
      · rcases List.mem_append.1 hm with h4 | h4
        · have h5 := hc.gl b h4
          rcases hb with hb | ⟨it, hit, hb⟩
          · have := own_ge hown b hb; omega
          · have := (hits.1 it hit).2; omega
        · rcases hb with hb | ⟨it, hit, hb⟩
          · exact hap1 b hb h4
          · rw [← hb] at h4; exact hap2 it hit h4
    · rw [hps]; exact hc.cr.scan
    · have h5 : (ps its).length = its.length := by simp [ps]
      have h6 : (Wl.flat (ps its)).length = Wl.good x.b := by rw [hps]; rfl
      rw [h5, h6]
      exact hlg.2.1
  · have hn0 : n ≠ 0 := by omega
    have hev : errV e n = errw.E e 9 := by unfold errV; rw [if_neg hn0, hn]
    have hy : Fine y := by have := fine_reads hc.fine; rw [hr] at this; exact this
    refine (openL_read w K p F x hc.dk e hc.er.ed hFK hc.fine y n hr hn0).mono ?_
    rintro r' w' ⟨rfl, hm⟩
    obtain ⟨F', hco, hfr, _⟩ := hc.move hm hy hcy (by rw [yr]; exact hc.room) (by
      have h1 : y.b.length ≤ y.r := by
        have h2 : y.b = x.b := by
          rcases oper_syn x hd hc.cr.syn id 0 with ⟨a1, e1, _⟩ | ⟨a1, e1, _⟩
          · rw [show x.oper id id 0 = x.reads from rfl, hr] at e1; have := congrArg (fun t => t.1.b) e1; exact this
          · rw [show x.oper id id 0 = x.reads from rfl, hr] at e1; have := congrArg (fun t => t.1.b) e1; exact this
        rw [h2, yr, hc.room]; exact hle
      rw [yr, hc.room] at h1; exact h1) (arms ya)
    exact Or.inr ⟨F', y, by rw [hev], hco, yd, hc.arm hxa, ya, hfr.below hFK hc.er.size⟩
  · have hn0 : n ≠ 0 := by omega
    have hev : errV e n = errw.E e 9 := by unfold errV; rw [if_neg hn0, hn]
    have hy : Fine y := by have := fine_reads hc.fine; rw [hr] at this; exact this
    have hg2 : Wl.good y.b ≤ 20000 := by rw [yb]; omega
    have hz : Fine z := by have := fine_kpS hy (Wl.good y.b) y.b.length (by omega); rw [hk] at this; exact this
    have hzl : z.b.length ≤ rm := by
      have h2 := kpS_len y (Wl.good y.b) y.b.length
      rw [hk, yb] at h2
      exact Nat.le_trans h2 hle
    refine (openL_keep w K p F x hc.dk e hc.er.ed hFK hc.fine ht y hr hy (fine_trunc hy _ (by omega)) (by rw [yb]; omega) z n hk hn0 hK).mono ?_
    rintro r' w' ⟨rfl, hm⟩
    obtain ⟨F', hco, hfr, _⟩ := hc.move hm hz hcz (by rw [zr]; exact hc.room) hzl (arms za)
    exact Or.inr ⟨F', z, by rw [hev], hco, zd, hc.arm hxa, za, hfr.below hFK hc.er.size⟩
end Go.Proofs.YtgmgffcfmopgmaaDoor.wl
