import Derived.Test.YticncaoecoehkaaDoorWlHead
import Derived.Test.YticncaoecoehkaaDoorCrcTabK
namespace Go.Proofs.YticncaoecoehkaaDoor.wl
open Go.ChangeShapes Go.WideShapes Go.ChangeAt Go.RowKit Go.Proofs.YticncaoecoehkaaDoor.common Go.Proofs.YticncaoecoehkaaDoor.dk

theorem sizeHead : (Tryd.prog.info? 98).map (·.size) = some 8 := by kernel_rfl
def zz : List Value := [.int .u8 0, .int .u8 0, .int .u8 0, .int .u8 0, .int .u8 0, .int .u8 0, .int .u8 0, .int .u8 0]
theorem wn_len (cur : List Value) (o x : Nat) (h : o + 4 ≤ cur.length) : (wn cur o x 4).length = cur.length := by simp [wn, Wl.num4]; omega
theorem wn_hd (p : List UInt8) : wn (wn zz 0 p.length 4) 4 (Wl.csum p) 4 = (Wl.hd p).map B := rfl
theorem csum_more (p : List UInt8) : (Crc.more (Crc.more 0#32 (Wl.num4 p.length)) p).toNat = Wl.csum p := by
  unfold Wl.csum; rw [Crc.more_append]
theorem b_one (l : List UInt8) : ∀ v ∈ l.map B, v.oneCell' = true := by
  intro v hv
  obtain ⟨x, _, rfl⟩ := List.mem_map.1 hv
  rfl
theorem hd_size (p : List UInt8) : ((Wl.hd p).map B).toArray.size = 8 := by simp [Wl.hd_len]

set_option maxRecDepth 100000 in
set_option maxHeartbeats 1600000 in
theorem headOf_any (w : World) (v : Value) (p : List UInt8) (h : Rd w v p) (hp : p.length ≤ 8192) (ht : crcw.Tab w) :
    Calls Tryd.prog 65 #[v] w fun e w' => e = .returned (.agg ((Wl.hd p).map B).toArray) ∧ Below w.heap.size w w' := by
  have HR := hide h
  obtain ⟨oa, cap, rfl, _⟩ := h
  have hcv : (p.length : Int) % 4294967296 = (p.length : Int) := by omega
  have HP := hide hp
  have HT := hide ht
  clear hp ht
  go_enter Tryd.func65, Tryd.ntmps65
  go_wp2_with fail
  obtain ⟨W, hW⟩ : ∃ W, W = (w.alloc (.cells #[.int .u8 0, .int .u8 0, .int .u8 0, .int .u8 0, .int .u8 0, .int .u8 0, .int .u8 0, .int .u8 0] 98)).alloc (.cells #[.int .u8 0, .int .u8 0, .int .u8 0, .int .u8 0, .int .u8 0, .int .u8 0, .int .u8 0, .int .u8 0] 98) := ⟨_, rfl⟩
  have hb0 : Below w.heap.size w W := by rw [hW]; exact ((Below.refl _ w).alloc (Nat.le_refl _) _).alloc (by simp) _
  have hg1 : W.heap[w.heap.size + 1]? = some (.cells zz.toArray 98 (0, 0)) := by
    rw [hW]
    have := heap_alloc_new (w.alloc (.cells zz.toArray 98)) (.cells zz.toArray 98)
    rwa [show (w.alloc (.cells zz.toArray 98)).heap.size = w.heap.size + 1 from Array.size_push ..] at this
  have hg0 : W.heap[w.heap.size]? = some (.cells zz.toArray 98 (0, 0)) := by
    rw [hW]
    exact (heap_alloc_old _ _ (by show w.heap.size < (w.heap.push _).size; rw [Array.size_push]; omega)).trans (heap_alloc_new _ _)
  have hsz : W.heap.size = w.heap.size + 2 := by rw [hW]; simp
  rw [← hW]
  clear hW
  refine (writeNumber_any W (w.heap.size + 1) 0 8 p.length (by have := HP.out; omega) zz 98 hg1 (by decide)).mono ?_
  rintro r w1 ⟨rfl, h1, hf1⟩
  have hb1 : Below w.heap.size w w1 := hb0.trans (hf1.below (fun k hk => by simp at hk; omega) (by omega))
  have hz0 : w1.heap[w.heap.size]? = some (.cells zz.toArray 98 (0, 0)) := (hf1.block _ (by omega) (by simp)).trans hg0
  have hs1 : w.heap.size + 2 ≤ w1.heap.size := by have := hf1.size; omega
  have HRN : Hid (Rd w1 (.slice (some ⟨w.heap.size + 1, 0, none⟩) 4 8) (Wl.num4 p.length)) := ⟨_, 8, rfl, fun _ => ⟨_, 0, rfl, by omega, fun j u hu => by
    have hj : j < 4 := by have := (List.getElem?_eq_some_iff.1 hu).1; simpa [Wl.num4] using this
    rw [Nat.zero_add]
    simp only [World.cell?, h1]
    have : (wn zz 0 p.length 4)[j]? = ((Wl.num4 p.length).map B)[j]? := by
      unfold wn
      simp only [Nat.zero_add, Nat.sub_self, List.take_zero, List.nil_append, List.drop_zero]
      rw [List.getElem?_append_left (by simpa [Wl.num4] using hj)]
    simp [this, hu]⟩⟩
  have HC1 : Hid (∀ Y, Below w1.heap.size w1 Y → (convert 22 9 (.slice (some ⟨w.heap.size + 1, 0, none⟩) 4 8)).run Tryd.prog Y = .ok (.string ⟨(Wl.num4 p.length).toArray⟩) Y) := fun Y hY => conv_rd (HRN.out.below hY)
  have HC2 : Hid (∀ Y, Below w1.heap.size w1 Y → (convert 22 9 (.slice oa p.length cap)).run Tryd.prog Y = .ok (.string ⟨p.toArray⟩) Y) := fun Y hY => conv_rd ((HR.out.below hb1).below hY)
  have hc1 := HC1.out
  have hc2 := HC2.out
  have HTW : Hid (∀ Y, Below w1.heap.size w1 Y → crcw.Tab Y) := fun Y hY => (HT.out.below hb1 HT.out.lt).below hY (by have := HT.out.lt; have := hb1.size; omega)
  have HK1 : Hid (∀ Y, Below w1.heap.size w1 Y → Calls Tryd.prog 80 #[.string ⟨(Wl.num4 p.length).toArray⟩] Y fun e w' => e = .returned (crcw.V (Crc.more 0#32 (Wl.num4 p.length))) ∧ w' = Y) := fun Y hY => crcw.crc_any ⟨(Wl.num4 p.length).toArray⟩ Y (by show (4 : Nat) ≤ maxLen; decide) (HTW.out Y hY)
  have HK2 : Hid (∀ Y, Below w1.heap.size w1 Y → Calls Tryd.prog 79 #[crcw.V (Crc.more 0#32 (Wl.num4 p.length)), .string ⟨p.toArray⟩] Y fun e w' => e = .returned (crcw.V (Crc.more (Crc.more 0#32 (Wl.num4 p.length)) p)) ∧ w' = Y) := fun Y hY => crcw.crcMore_any _ ⟨p.toArray⟩ Y (by have := HP.out; show p.length ≤ maxLen; unfold maxLen; omega) (HTW.out Y hY)
  have HH1 := hide h1
  have HZ0 := hide hz0
  have HB1 := hide hb1
  have HS1 := hide hs1
  clear h1 hz0 hb1 hg1 hg0 hb0 hf1 HRN HC1 HC2
  go_wp2_with fail
  go_region_held3 (fun Y => Below w1.heap.size w1 Y)
    (first
      | exact Below.refl _ _
      | assumption
      | exact Below.drew (by assumption)
      | exact (Below.refl _ _).drew)
    (first
      | (go_at_call 80; with_reducible refine (HK1.out _ (by assumption)).mono ?_; rintro x w5 ⟨rfl, rfl⟩)
      | (go_at_call 79; with_reducible refine (HK2.out _ (by assumption)).mono ?_; rintro x w5 ⟨rfl, rfl⟩))
  have ev := csum_more p
  have hcl := Wl.csum_lt p
  simp only [crcw.V, ev]
  clear ev hc1 hc2 HK1 HK2 HTW
  go_wp2_with fail
  refine (writeNumber_any w1.drew (w.heap.size + 1) 4 4 (Wl.csum p) hcl (wn zz 0 p.length 4) 98 HH1.out (by rw [wn_len _ _ _ (by decide)]; decide)).mono ?_
  rintro r w2 ⟨rfl, h2, hf2⟩
  rw [wn_hd] at h2
  have hs1 := HS1.out
  have hz2 : w2.heap[w.heap.size]? = some (.cells zz.toArray 98 (0, 0)) := (hf2.block _ (by show _ < w1.heap.size; omega) (by simp)).trans HZ0.out
  have HB2 : Hid (Below w.heap.size w w2) := (HB1.out.drew).trans (hf2.below (fun k hk => by simp at hk; omega) (by show _ ≤ w1.heap.size; omega))
  have HRG : Hid (w2.rangeAt (w.heap.size + 1) 0 ((Wl.hd p).map B)) := range_of h2
  have HTH : Hid (w2.there w.heap.size 0 ((Wl.hd p).map B).toArray.size) := by
    show w2.there _ _ _
    rw [hd_size]
    exact there_of hz2 0 8 (by decide)
  have HZ2 := hide hz2
  clear h2 hz2 hf2 HH1 HZ0
  go_wp2_with (first
    | (refine wpList_load_mid rfl 98 (.tmp 3) rfl (w.heap.size + 1) 0 rfl _ _ HRG.out Tryd.underlying98 rfl ((sizeHead).trans (by simp [Wl.hd_len])) ?_)
    | (refine wpList_store_mid rfl 98 (.tmp 2) (.tmp 19) rfl w.heap.size 0 ((Wl.hd p).map B).toArray rfl rfl HTH.out ((sizeHead).trans (by rw [hd_size])) (all_oneCell_toArray (b_one _)) ?_))
  have h3 := sets_here HZ2.out ((Wl.hd p).map B) 0 (by rw [List.length_map, Wl.hd_len]; decide)
  rw [List.take_zero, List.nil_append, List.drop_eq_nil_of_le (by rw [List.length_map, Wl.hd_len]; decide), List.append_nil] at h3
  refine bodyPost_ret (results_c rfl _ rfl (range_of h3) Tryd.underlying98 rfl ((sizeHead).trans (by simp [Wl.hd_len]))) rfl ?_
  have hs2 := HB2.out.size
  exact ⟨rfl, HB2.out.trans (((Fr.refl [w.heap.size] w2).sets w.heap.size 0 _ (Or.inl (by simp))).below (fun k hk => by simp at hk; omega) hs2)⟩
end Go.Proofs.YticncaoecoehkaaDoor.wl
