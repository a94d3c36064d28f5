import Derived.Test.YtgmgffcfmopgmaaDoorWlFate
import Derived.Test.YtgmgffcfmopgmaaDoorWlFullL
namespace Go.Proofs.YtgmgffcfmopgmaaDoor.wl
open Go.ChangeShapes Go.WideShapes Go.ChangeAt Go.RowKit Go.Proofs.YtgmgffcfmopgmaaDoor.common Go.Proofs.YtgmgffcfmopgmaaDoor.dk

theorem num_err4 (w : World) (e : Nat → Addr) (h : errw.Errs w e) (n : Nat) (hn : n = 0 ∨ n = 1 ∨ n = 9 ∨ n = 10) : Calls Tryd.prog 23 #[errV e n] w fun r' w' => r' = .returned (.int .i64 (n : Int)) ∧ w' = w := by
  rcases hn with rfl | rfl | rfl | rfl
  · exact errw.num_nil w
  · exact errw.num_0 w e h
  · exact errw.num_8 w e h
  · exact errw.num_9 w e h
/-- a Put of a payload that fits: what it answers and does -/
theorem put_cases (y : Lg) (q : List UInt8) (hf : Wl.fit q.length = true) (hs : y.d = false → y.x.s = y.x.b.length) (hbr : y.x.b.length ≤ y.x.r) :
    (y.d = true ∧ y.put q = (y, 10)) ∨
    (y.d = false ∧ y.x.d = true ∧ y.put q = (⟨y.x, y.n, y.z, true⟩, 10)) ∨
    (∃ a', y.d = false ∧ y.x.d = false ∧ y.put q = (⟨⟨y.x.b ++ Wl.fr q, (y.x.b ++ Wl.fr q).length, y.x.r, a', false⟩, y.n + 1, y.z + (Wl.fr q).length, false⟩, 0) ∧ y.x.b.length + (Wl.fr q).length ≤ y.x.r) ∨
    (∃ a', y.d = false ∧ y.x.d = false ∧ y.put q = (⟨⟨y.x.b, y.x.b.length, y.x.r, a', false⟩, y.n, y.z, false⟩, 9) ∧ y.x.r < y.x.b.length + (Wl.fr q).length) ∨
    (∃ a' m, y.d = false ∧ y.x.d = false ∧ y.put q = (⟨⟨(y.x.b ++ Wl.fr q).take m, ((y.x.b ++ Wl.fr q).take m).length, y.x.r, a', true⟩, y.n, y.z, true⟩, 10) ∧ y.x.b.length ≤ m ∧ y.x.a ≠ [] ∧ ((y.x.b ++ Wl.fr q).take m).length ≤ y.x.r) := by
  cases hd : y.d with
  | true =>
    refine Or.inl ⟨rfl, ?_⟩
    unfold Lg.put
    rw [if_neg (by rw [hf]; decide), if_pos hd]
  | false =>
    have h0 : y.put q = if (wrS y.x (Wl.fr q)).2 = 0 then (⟨(wrS y.x (Wl.fr q)).1, y.n + 1, y.z + (Wl.fr q).length, y.d⟩, 0) else (⟨(wrS y.x (Wl.fr q)).1, y.n, y.z, decide ((wrS y.x (Wl.fr q)).2 = 10)⟩, (wrS y.x (Wl.fr q)).2) := by
      unfold Lg.put
      rw [if_neg (by rw [hf]; decide), if_neg (by rw [hd]; decide)]
    rw [hd] at h0
    refine Or.inr ?_
    cases hx : y.x.d with
    | true =>
      refine Or.inl ⟨rfl, rfl, ?_⟩
      rw [h0, wrS_dead y.x hx]
      rfl
    | false =>
      refine Or.inr ?_
      rcases wrS_cases y.x hx (hs hd) hbr (Wl.fr q) with ⟨a', e, hr⟩ | ⟨a', e, hr⟩ | ⟨a', m, e, hm, ha, hle⟩
      · refine Or.inl ⟨a', rfl, rfl, ?_, hr⟩
        rw [h0, e]
        rfl
      · refine Or.inr (Or.inl ⟨a', rfl, rfl, ?_, hr⟩)
        rw [h0, e]
        rfl
      · refine Or.inr (Or.inr ⟨a', m, rfl, rfl, ?_, hm, ha, hle⟩)
        rw [h0, e]
        rfl
/-- what an operation of a Put keeps of the arms -/
theorem put_fine (y : Lg) (q : List UInt8) (hx : Fine y.x) : Fine (y.x.append (Wl.fr q)).1 ∧ Fine (y.put q).1.x ∧ (y.put q).1.x.a.length ≤ y.x.a.length := by
  have ap : ∀ (x : St) (l : List UInt8), Fine x → Fine (x.append l).1 ∧ (x.append l).1.a.length ≤ x.a.length := fun x l h =>
    ⟨⟨h.ok.oper (fun y hy => hy.put _ (by decide)) (fun y hy => hy.put _ (by decide)), oper_mem (fun y => put_arms y _) (fun y => put_arms y _) h.arms (fun n k hn => by dsimp only at hn ⊢; omega), oper_mem (fun y => put_arms y _) (fun y => put_arms y _) h.keep (fun n k hn => hn)⟩, oper_arms x _ _ _ (fun y => put_arms y _) (fun y => put_arms y _)⟩
  have sy : ∀ (x : St), Fine x → Fine x.syncs.1 ∧ x.syncs.1.a.length ≤ x.a.length := fun x h =>
    ⟨⟨h.ok.oper (fun y hy => hy) (fun y hy => hy.sync), oper_mem (dying := id) (on := St.sync) (fun y => rfl) (fun y => rfl) h.arms (fun n k hn => by dsimp only at hn ⊢; omega), oper_mem (dying := id) (on := St.sync) (fun y => rfl) (fun y => rfl) h.keep (fun n k hn => hn)⟩, oper_arms x _ _ _ (fun y => rfl) (fun y => rfl)⟩
  have wr : Fine (wrS y.x (Wl.fr q)).1 ∧ (wrS y.x (Wl.fr q)).1.a.length ≤ y.x.a.length := by
    unfold wrS
    split
    · have h1 := ap y.x (Wl.fr q) hx
      have h2 := sy _ h1.1
      exact ⟨h2.1, Nat.le_trans h2.2 h1.2⟩
    · exact ap y.x (Wl.fr q) hx
  refine ⟨(ap y.x _ hx).1, ?_⟩
  unfold Lg.put
  split
  · exact ⟨hx, Nat.le_refl _⟩
  · split
    · exact ⟨hx, Nat.le_refl _⟩
    · split
      · exact wr
      · exact wr

/-- a row is grown by one payload, and the value goes into its cell -/
theorem Rw.beside {w : World} {G : List Nat} {v : Value} {us : List Value} {L : List (List UInt8)} (h : Rw w G v us L) (b : Nat) {cur : Array Value} (hb : w.heap[b]? = some (.cells cur 22 (0, 0))) (hne : v.ownBlock ≠ some b) : Rw w (b :: G) v us L := by
  refine ⟨h.row, h.len, h.rd, fun k hk hm => ?_, fun u hu a n c e => ?_⟩
  · rcases List.mem_cons.1 hm with rfl | hm
    · exact hne hk
    · exact h.far k hk hm
  · obtain ⟨h1, cu, h2⟩ := h.aside u hu a n c e
    refine ⟨fun hm => ?_, cu, h2⟩
    rcases List.mem_cons.1 hm with e2 | hm
    · rw [e2, hb] at h2
      cases h2
    · exact h1 hm
theorem own_cur {w : World} {base : Nat} {e : TypeId} {size : Nat} {v : Value} {n : Nat} {xs : List Value} (h : w.ownsRow base e size v n xs) {b : Nat} (hb : v.ownBlock = some b) : ∃ cur, w.heap[b]? = some (.cells cur e (0, 0)) := by
  rcases h.2 with ⟨rfl, _⟩ | ⟨g, cap, cur, rfl, _, hh, _⟩
  · cases hb
  · cases hb; exact ⟨cur, hh⟩
theorem grown_fr {W w1 : World} {tmp : Obj} {row : Option Nat} (h : (W.alloc tmp).grownBy w1 row) : Fr row.toList W w1 :=
  ⟨h.os, h.tape, h.output, Nat.le_trans (by simp) h.size, fun k hk hn => by
    rw [h.block k (by simp; omega) (fun e => hn (by rw [← e]; simp)), Below.heap_alloc W tmp k hk]⟩
/-- one more payload in a row -/
theorem Rw.push {W w1 : World} {G : List Nat} {v v' x : Value} {us : List Value} {L : List (List UInt8)} {p : List UInt8} {tmp : Obj} (h : Rw W G v us L) (hown : w1.ownsRow 0 22 1 v' (us.length + 1) (us ++ [x])) (hgrow : (W.alloc tmp).grownBy w1 v.ownBlock) (hat : v'.ownBlock = v.ownBlock ∨ v'.ownBlock = some (W.heap.size + 1))
    (hx : Rd W x p) (hxa : ∀ a n c, x = .slice (some a) n c → a.block ∉ G ∧ ∃ cur, W.heap[a.block]? = some (.cells cur 5 (0, 0))) (hG : ∀ k ∈ G, k < W.heap.size) : Rw w1 G v' (us ++ [x]) (L ++ [p]) := by
  have hf := grown_fr hgrow
  have hF : ∀ {u : Value} {a : Addr} {n c : Nat}, u = .slice (some a) n c → (∃ cur, W.heap[a.block]? = some (.cells cur 5 (0, 0))) → a.block ∉ v.ownBlock.toList ∧ a.block < W.heap.size := fun _ hc => by
    obtain ⟨cu, h2⟩ := hc
    refine ⟨fun hm => ?_, (Array.getElem?_eq_some_iff.1 h2).1⟩
    obtain ⟨cur, h3⟩ := own_cur h.row (b := _) (by simpa using hm)
    rw [h3] at h2
    cases h2
  have keep : ∀ (u : Value) (l : List UInt8), Rd W u l → (∀ a n c, u = .slice (some a) n c → a.block ∉ G ∧ ∃ cur, W.heap[a.block]? = some (.cells cur 5 (0, 0))) → Rd w1 u l ∧ ∀ a n c, u = .slice (some a) n c → a.block ∉ G ∧ ∃ cur, w1.heap[a.block]? = some (.cells cur 5 (0, 0)) := fun u l hr hu => by
    refine ⟨hr.keep (fun a n c e => ?_) hf.size, fun a n c e => ?_⟩
    · obtain ⟨h1, h2⟩ := hF e (hu a n c e).2
      exact hf.block _ h2 h1
    · obtain ⟨h1, h2⟩ := hF e (hu a n c e).2
      obtain ⟨cu, h3⟩ := (hu a n c e).2
      exact ⟨(hu a n c e).1, cu, (hf.block _ h2 h1).trans h3⟩
  refine ⟨by rw [List.length_append]; exact hown, by rw [List.length_append, List.length_append, h.len]; rfl, fun i h1 h2 => ?_, fun b hb hm => ?_, fun u hu => ?_⟩
  · by_cases hi : i < us.length
    · rw [List.getElem_append_left hi, List.getElem_append_left (by rw [← h.len]; exact hi)]
      exact (keep _ _ (h.rd i hi (by rw [← h.len]; exact hi)) (h.aside _ (List.getElem_mem hi))).1
    · have e : i = us.length := by rw [List.length_append] at h1; simp at h1; omega
      subst e
      rw [List.getElem_append_right (Nat.le_refl _), List.getElem_append_right (by rw [← h.len]; exact Nat.le_refl _)]
      simp only [h.len, Nat.sub_self, List.getElem_cons_zero]
      exact (keep x p hx hxa).1
  · rcases hat with e | e
    · rw [e] at hb
      exact h.far b hb hm
    · rw [e] at hb
      cases hb
      have h1 := hG _ hm
      omega
  · rcases List.mem_append.1 hu with hu | hu
    · intro a n c e
      obtain ⟨i, hi, rfl⟩ := List.mem_iff_getElem.1 hu
      exact (keep _ _ (h.rd i hi (by rw [← h.len]; exact hi)) (h.aside _ (List.getElem_mem hi))).2 a n c e
    · rw [List.mem_singleton.1 hu]
      exact (keep x p hx hxa).2
/-- the disk and what must be found again, within the law -/
structure Co (w : World) (K : Nat) (e : Nat → Addr) (p f : Nat) (F G : List Nat) (x : St) (T S W : List (List UInt8)) (arm : Bool) (sz : Int) (lost : Bool) (rm : Nat) : Prop where
  dk : Dk w p F x
  ft : Ft w K f G T S W arm sz lost
  ff : f ∉ F
  sub : ∀ k ∈ F, k ∈ G
  mem : f ∈ G
  low : ∀ k ∈ G, K ≤ k
  gl : ∀ k ∈ G, k < w.heap.size
  er : Er w K e
  fine : Fine x
  cr : Cr (T ++ S) W x
  room : x.r = rm
  le : x.b.length ≤ rm
  arm : x.a ≠ [] → arm = true
/-- the log, within the law -/
structure Lp (w : World) (p f : Nat) (F G : List Nat) (x : St) (T S W : List (List UInt8)) (sz : Int) (lost : Bool) (g n z : Nat) : Prop where
  ly : LgAt w g p n z lost
  far : g ∉ F
  mem : g ∈ G
  ne : f ≠ g
  n : n = (T ++ S).length
  z : z = (Wl.flat (T ++ S)).length
  al : lost = false → W = [] ∧ x.b = Wl.flat (T ++ S) ∧ sz = (x.b.length : Int)
theorem Co.flat {w : World} {K : Nat} {e : Nat → Addr} {p f : Nat} {F G : List Nat} {x : St} {T S W : List (List UInt8)} {arm lost : Bool} {sz : Int} {rm : Nat} (h : Co w K e p f F G x T S W arm sz lost rm) : (Wl.flat (T ++ S)).length ≤ rm ∧ T.length + S.length ≤ rm ∧ W.length ≤ 1 := by
  obtain ⟨m, hm, hb⟩ := h.cr.lies
  have h1 := h.le
  rw [hb, List.length_take] at h1
  have h2 := flat_le (T ++ S) W
  have h3 := flat_count (T ++ S)
  rw [List.length_append] at h3
  exact ⟨by omega, by omega, h.cr.way⟩
/-- what happens to the disk alone -/
theorem Co.move {w w' : World} {K : Nat} {e : Nat → Addr} {p f : Nat} {F G : List Nat} {x x' : St} {T S W : List (List UInt8)} {arm lost : Bool} {sz : Int} {rm : Nat} (h : Co w K e p f F G x T S W arm sz lost rm) (hm : Mv w p F x' w') (hx : Fine x') (hc : Cr (T ++ S) W x') (hr : x'.r = rm) (hl : x'.b.length ≤ rm) (ha : x'.a ≠ [] → arm = true) :
    ∃ F', Co w' K e p f F' (G ++ F') x' T S W arm sz lost rm ∧ Fr F w w' ∧ ∀ k ∈ F', k ∈ F ∨ w.heap.size ≤ k := by
  obtain ⟨F', h1, h2, h3⟩ := hm
  have hu : ∀ k ∈ G ++ F', k ∈ G ∨ w.heap.size ≤ k := fun k hk => by
    rcases List.mem_append.1 hk with h4 | h4
    · exact Or.inl h4
    · rcases h3 k h4 with h5 | h5
      · exact Or.inl (h.sub k h5)
      · exact Or.inr h5
  refine ⟨F', ⟨h1, h.ft.fr h2 h.sub h.ff hu (List.mem_append_left _ h.mem), fun hf => ?_, fun k hk => List.mem_append_right _ hk, List.mem_append_left _ h.mem, fun k hk => ?_, fun k hk => ?_, h.er.fr h2 (fun k hk => h.low k (h.sub k hk)), hx, hc, hr, hl, ha⟩, h2, h3⟩
  · rcases h3 f hf with h4 | h4
    · exact h.ff h4
    · have := h.gl f h.mem; omega
  · rcases hu k hk with h4 | h4
    · exact h.low k h4
    · exact Nat.le_trans h.er.size h4
  · rcases List.mem_append.1 hk with h4 | h4
    · exact Nat.lt_of_lt_of_le (h.gl k h4) h2.size
    · exact h1.lt k h4
theorem Lp.move {w w' : World} {p f : Nat} {F F' G : List Nat} {x x' : St} {T S W : List (List UInt8)} {sz : Int} {lost : Bool} {g n z : Nat} (h : Lp w p f F G x T S W sz lost g n z) (h2 : Fr F w w') (h3 : ∀ k ∈ F', k ∈ F ∨ w.heap.size ≤ k) (hb : x'.b = x.b) : Lp w' p f F' (G ++ F') x' T S W sz lost g n z := by
  refine ⟨(h2.block g (Array.getElem?_eq_some_iff.1 h.ly).1 h.far).trans h.ly, fun hm => ?_, List.mem_append_left _ h.mem, h.ne, h.n, h.z, fun hl => by rw [hb]; exact h.al hl⟩
  rcases h3 g hm with h4 | h4
  · exact h.far h4
  · have := (Array.getElem?_eq_some_iff.1 h.ly).1; omega
end Go.Proofs.YtgmgffcfmopgmaaDoor.wl
