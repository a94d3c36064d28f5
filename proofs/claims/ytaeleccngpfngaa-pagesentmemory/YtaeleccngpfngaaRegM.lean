import Derived.Test.YtaeleccngpfngaaMemKit
import Derived.Orders
namespace Go.Proofs.Ytaeleccngpfngaa.sent
open Go.ChangeShapes Go.WideShapes Go.ChangeAt Go.RowKit Go.Proofs.Ytaeleccngpfngaa.common Go.Proofs.Ytaeleccngpfngaa.lst Go.Maps

theorem sizeF : (Try.prog.info? 24).map (·.size) = some 3 := by kernel_rfl

/-- a region in whatever order, by what holds behind each of its operations -/
theorem wpAny_inv {P : Program} {md : Region.Mode} {ops : Array Oper} {Q : Exit → Act → World → Prop} (I : Array Bool → Act → World → Prop) (cnt : Array Bool → Nat)
    (hstep : ∀ listed a w, I listed a w → ∀ i ∈ Region.ready md ops listed, cnt (listed.setIfInBounds i true) < cnt listed ∧ wpOp P ops Q i (fun a' w' => I (listed.setIfInBounds i true) a' w') a w)
    (hdone : ∀ listed a w, I listed a w → Region.ready md ops listed = [] → Q .normal a w)
    (h0 : ∀ listed a w, I listed a w → cnt listed = 0 → Region.ready md ops listed = []) :
    ∀ fuel listed a w, cnt listed ≤ fuel → I listed a w → wpAny P md ops Q fuel listed a w := by
  intro fuel
  induction fuel with
  | zero => intro listed a w hc h; exact ⟨h0 _ _ _ h (by omega), hdone _ _ _ h (h0 _ _ _ h (by omega))⟩
  | succ fuel ih =>
    intro listed a w hc h
    refine ⟨hdone _ _ _ h, fun i hi => ?_⟩
    obtain ⟨h1, h2⟩ := hstep _ _ _ h i hi
    exact wpOp_mono (fun a' w' h' => ih _ _ _ (by omega) h') h2
def cntF (l : Array Bool) : Nat := (l.toList.filter fun b => !b).length
theorem wpOp_of {P : Program} {ops : Array Oper} {Q : Exit → Act → World → Prop} {i : Nat} {o : Oper} (ho : ops[i]? = some o) (hg : o.guard = none) {K : Act → World → Prop} {a : Act} {w : World} (h : o.wp P a w K Q) : wpOp P ops Q i K a w := by
  unfold wpOp
  rw [ho]
  have hw : Region.wanted o (yielded ops a.tmps) = true := by simp [Region.wanted, hg]
  simp only [hw, if_true]
  exact Or.inl h
theorem wp_K {P : Program} {o : Oper} {a : Act} {w : World} {K : Act → World → Prop} {Q : Exit → Act → World → Prop} (h : ∀ K' : Act → World → Prop, (∀ a w, K a w → K' a w) → o.wp P a w K' Q) : o.wp P a w K Q := h K fun _ _ x => x

def lists : Nat → List (List Bool)
  | 0 => [[]]
  | n + 1 => (lists n).flatMap fun l => [false :: l, true :: l]
theorem mem_lists : ∀ (n : Nat) (l : List Bool), l.length = n → l ∈ lists n
  | 0, l, h => by
    obtain rfl := List.eq_nil_of_length_eq_zero h
    simp [lists]
  | n + 1, [], h => by simp at h
  | n + 1, b :: l, h => by
    have := mem_lists n l (by simpa using h)
    simp only [lists, List.mem_flatMap]
    exact ⟨l, this, by cases b <;> simp⟩
def depB (i : Nat) (l : List Bool) : Bool := match l with
  | [b0, b1, b2, b3, b4, b5, b6, b7, b8, b9] => decide ((i = 0 ∧ b0 = false) ∨ (i = 1 ∧ b1 = false) ∨ (i = 2 ∧ b2 = false ∧ b0 = true ∧ b1 = true) ∨ (i = 3 ∧ b3 = false) ∨ (i = 4 ∧ b4 = false) ∨ (i = 5 ∧ b5 = false) ∨ (i = 6 ∧ b6 = false ∧ b4 = true ∧ b5 = true) ∨ (i = 7 ∧ b7 = false ∧ b3 = true ∧ b6 = true) ∨ (i = 8 ∧ b8 = false ∧ b2 = true ∧ b7 = true) ∨ (i = 9 ∧ b9 = false ∧ b8 = true))
  | _ => true
def readyB (ops : Array Oper) : Bool := (lists 10).all fun l => (Region.ready .any ops l.toArray).all fun i => depB i l
def doneB (ops : Array Oper) : Bool := (lists 10).all fun l => !(Region.ready .any ops l.toArray).isEmpty || l.all id
theorem readyB_spec {ops : Array Oper} (h : readyB ops = true) (b0 b1 b2 b3 b4 b5 b6 b7 b8 b9 : Bool) (i : Nat) (hi : i ∈ Region.ready .any ops #[b0, b1, b2, b3, b4, b5, b6, b7, b8, b9]) : (i = 0 ∧ b0 = false) ∨ (i = 1 ∧ b1 = false) ∨ (i = 2 ∧ b2 = false ∧ b0 = true ∧ b1 = true) ∨ (i = 3 ∧ b3 = false) ∨ (i = 4 ∧ b4 = false) ∨ (i = 5 ∧ b5 = false) ∨ (i = 6 ∧ b6 = false ∧ b4 = true ∧ b5 = true) ∨ (i = 7 ∧ b7 = false ∧ b3 = true ∧ b6 = true) ∨ (i = 8 ∧ b8 = false ∧ b2 = true ∧ b7 = true) ∨ (i = 9 ∧ b9 = false ∧ b8 = true) := by
  have h1 := List.all_eq_true.1 h [b0, b1, b2, b3, b4, b5, b6, b7, b8, b9] (mem_lists 10 _ rfl)
  exact of_decide_eq_true (List.all_eq_true.1 h1 i hi)
theorem doneB_spec {ops : Array Oper} (h : doneB ops = true) (b0 b1 b2 b3 b4 b5 b6 b7 b8 b9 : Bool) (hr : Region.ready .any ops #[b0, b1, b2, b3, b4, b5, b6, b7, b8, b9] = []) : b9 = true := by
  have h1 := List.all_eq_true.1 h [b0, b1, b2, b3, b4, b5, b6, b7, b8, b9] (mem_lists 10 _ rfl)
  have h2 : (Region.ready .any ops [b0, b1, b2, b3, b4, b5, b6, b7, b8, b9].toArray) = [] := hr
  rw [h2] at h1
  simp at h1
  exact h1.2.2.2.2.2.2.2.2.2

/-- what holds within the region -/
structure In36 (vA vC vT : Value) (s l : List PB) (wo : World) (b0 b1 b2 b3 b4 b5 b6 b7 b8 b9 : Bool) (v21 v175 v176 v177 v178 v179 v180 v181 v182 v183 : Value) (w : World) : Prop where
  below : Below wo.heap.size wo w
  h0 : b0 = true → v175 = vA
  h1 : b1 = true → v176 = vT
  h2 : b2 = true → Lies w v177 s
  h3 : b3 = true → v178 = vC
  h4 : b4 = true → ∃ g : Nat, v179 = .slice (some ⟨g, 0, none⟩) 0 0 ∧ w.heap[g]? = some (.cells #[] 33)
  h5 : b5 = true → v180 = vT
  h6 : b6 = true → Lies w v181 l
  h7 : b7 = true → Lies w v182 s
  h8 : b8 = true → v183 = .bool true
  h9 : b9 = true → v21 = .bool true
theorem In36.next {vA vC vT : Value} {s l : List PB} {wo : World} {b0 b1 b2 b3 b4 b5 b6 b7 b8 b9 : Bool} {v21 v175 v176 v177 v178 v179 v180 v181 v182 v183 : Value} {w w' : World} (h : In36 vA vC vT s l wo b0 b1 b2 b3 b4 b5 b6 b7 b8 b9 v21 v175 v176 v177 v178 v179 v180 v181 v182 v183 w) (hb : Below w.heap.size w w') : In36 vA vC vT s l wo b0 b1 b2 b3 b4 b5 b6 b7 b8 b9 v21 v175 v176 v177 v178 v179 v180 v181 v182 v183 w' :=
  ⟨h.below.trans (hb.mono h.below.size), h.h0, h.h1, fun e => (h.h2 e).below hb, h.h3, fun e => by
    obtain ⟨g, h1, h2⟩ := h.h4 e
    exact ⟨g, h1, (hb.block g (Array.getElem?_eq_some_iff.1 h2).1).trans h2⟩, h.h5, fun e => (h.h6 e).below hb, fun e => (h.h7 e).below hb, h.h8, h.h9⟩

set_option maxRecDepth 100000 in
set_option maxHeartbeats 3200000 in
theorem region36 {id : Nat} {ops : Array Oper} {Q : Exit → Act → World → Prop} {ds : List Deferred} (x0 x1 x2 x5 x6 x7 x8 x9 x10 x11 x12 x13 x14 x15 x16 x17 x18 x19 x21 x22 x23 x24 x25 x26 x27 x28 x29 x30 x31 x32 x33 x34 x35 x36 x37 x38 x39 x40 x41 x42 x43 x44 x45 x46 x47 x48 x49 x50 x51 x52 x53 x54 x55 x56 x57 x58 x59 x60 x61 x62 x63 x64 x65 x66 x67 x68 x69 x70 x71 x72 x73 x74 x75 x76 x77 x78 x79 x80 x81 x82 x83 x84 x85 x86 x87 x88 x89 x90 x91 x92 x93 x94 x95 x96 x97 x98 x99 x100 x101 x102 x103 x104 x105 x106 x107 x108 x109 x110 x111 x112 x113 x114 x115 x116 x117 x118 x119 x120 x121 x122 x123 x124 x125 x126 x127 x128 x129 x130 x131 x132 x133 x134 x135 x136 x137 x138 x139 x140 x141 x142 x143 x144 x145 x146 x147 x148 x149 x150 x151 x152 x153 x154 x155 x156 x157 x158 x159 x160 x161 x162 x163 x164 x165 x166 x167 x168 x169 x170 x171 x172 x173 x174 x175 x176 x177 x178 x179 x180 x181 x182 x183 x184 x185 x186 x187 x188 x189 x190 x191 x192 x193 x194 x195 x196 : Value) (act but : ByteArray) (F O : Nat) (vI vO vT : Value) (l : List PB) (ys : List Inp) (wo : World) (hF : wo.rangeAt F 0 [.string act, vI, .string but]) (hO : wo.rangeAt O 0 [.string act, vO, .string but]) (hFl : F < wo.heap.size) (hOl : O < wo.heap.size) (hi : LiesI wo vI ys) (ho : LiesI wo vO ys) (hl : Lies wo vT l) (h0 : l = [] → vT = .slice none 0 0) (hf : Fits l) (hx : FitsI ys) (hm : l.length ≤ maxLen) (hs : l.length * 32 ≤ 140737488355328) (hsx : ys.length * 32 ≤ 140737488355328) (hss : (sentL l ys).length ≤ 4611686018427387904) {t0 : TypeId} {s0 : String} {a0 : Array Edge} {t1 : TypeId} {s1 : String} {a1 : Array Edge} {t2 : TypeId} {s2 : String} {a2 : Array Edge} {t3 : TypeId} {s3 : String} {a3 : Array Edge} {t4 : TypeId} {s4 : String} {a4 : Array Edge} {t5 : TypeId} {s5 : String} {a5 : Array Edge} {t6 : TypeId} {s6 : String} {a6 : Array Edge} {t7 : TypeId} {s7 : String} {a7 : Array Edge} {t8 : TypeId} {s8 : String} {a8 : Array Edge} {t9 : TypeId} {s9 : String} {a9 : Array Edge}
    (e0 : ops[0]? = some { dst := some 175, op := .load 24 (.tmp 3), type := t0, pos := s0, after := a0, guard := none }) (e1 : ops[1]? = some { dst := some 176, op := .move (.tmp 4), type := t1, pos := s1, after := a1, guard := none }) (e2 : ops[2]? = some { dst := some 177, op := .call { callee := .value (.func 4), args := #[.tmp 175, .tmp 176], argTypes := #[24, 25] }, type := t2, pos := s2, after := a2, guard := none }) (e3 : ops[3]? = some { dst := some 178, op := .load 24 (.tmp 20), type := t3, pos := s3, after := a3, guard := none }) (e4 : ops[4]? = some { dst := some 179, op := .buildSlice 25 0 #[], type := t4, pos := s4, after := a4, guard := none }) (e5 : ops[5]? = some { dst := some 180, op := .move (.tmp 4), type := t5, pos := s5, after := a5, guard := none }) (e6 : ops[6]? = some { dst := some 181, op := .call { callee := .builtin .append, args := #[.tmp 179, .tmp 180], argTypes := #[25, 25] }, type := t6, pos := s6, after := a6, guard := none }) (e7 : ops[7]? = some { dst := some 182, op := .call { callee := .value (.func 4), args := #[.tmp 178, .tmp 181], argTypes := #[24, 25] }, type := t7, pos := s7, after := a7, guard := none }) (e8 : ops[8]? = some { dst := some 183, op := .call { callee := .value (.func 5), args := #[.tmp 177, .tmp 182], argTypes := #[25, 25] }, type := t8, pos := s8, after := a8, guard := none }) (e9 : ops[9]? = some { dst := some 21, op := .assign (.tmp 183), type := t9, pos := s9, after := a9, guard := none })
    (hsz : ops.size = 10)
    (hready : readyB ops = true) (hdone : doneB ops = true)
    (hfull : Region.ready .any ops #[true, true, true, true, true, true, true, true, true, true] = [])
    (hQ : ∀ (v175 v176 v177 v178 v179 v180 v181 v182 v183 : Value) (w : World), Below wo.heap.size wo w → Q .normal { tmps := #[x0, x1, x2, (.pointer (some ⟨F, 0, none⟩)), vT, x5, x6, x7, x8, x9, x10, x11, x12, x13, x14, x15, x16, x17, x18, x19, (.pointer (some ⟨O, 0, none⟩)), (.bool true), x22, x23, x24, x25, x26, x27, x28, x29, x30, x31, x32, x33, x34, x35, x36, x37, x38, x39, x40, x41, x42, x43, x44, x45, x46, x47, x48, x49, x50, x51, x52, x53, x54, x55, x56, x57, x58, x59, x60, x61, x62, x63, x64, x65, x66, x67, x68, x69, x70, x71, x72, x73, x74, x75, x76, x77, x78, x79, x80, x81, x82, x83, x84, x85, x86, x87, x88, x89, x90, x91, x92, x93, x94, x95, x96, x97, x98, x99, x100, x101, x102, x103, x104, x105, x106, x107, x108, x109, x110, x111, x112, x113, x114, x115, x116, x117, x118, x119, x120, x121, x122, x123, x124, x125, x126, x127, x128, x129, x130, x131, x132, x133, x134, x135, x136, x137, x138, x139, x140, x141, x142, x143, x144, x145, x146, x147, x148, x149, x150, x151, x152, x153, x154, x155, x156, x157, x158, x159, x160, x161, x162, x163, x164, x165, x166, x167, x168, x169, x170, x171, x172, x173, x174, v175, v176, v177, v178, v179, v180, v181, v182, v183, x184, x185, x186, x187, x188, x189, x190, x191, x192, x193, x194, x195, x196], defers := ds } w) :
    (Code.region id ops true).wp Try.prog Q { tmps := #[x0, x1, x2, (.pointer (some ⟨F, 0, none⟩)), vT, x5, x6, x7, x8, x9, x10, x11, x12, x13, x14, x15, x16, x17, x18, x19, (.pointer (some ⟨O, 0, none⟩)), x21, x22, x23, x24, x25, x26, x27, x28, x29, x30, x31, x32, x33, x34, x35, x36, x37, x38, x39, x40, x41, x42, x43, x44, x45, x46, x47, x48, x49, x50, x51, x52, x53, x54, x55, x56, x57, x58, x59, x60, x61, x62, x63, x64, x65, x66, x67, x68, x69, x70, x71, x72, x73, x74, x75, x76, x77, x78, x79, x80, x81, x82, x83, x84, x85, x86, x87, x88, x89, x90, x91, x92, x93, x94, x95, x96, x97, x98, x99, x100, x101, x102, x103, x104, x105, x106, x107, x108, x109, x110, x111, x112, x113, x114, x115, x116, x117, x118, x119, x120, x121, x122, x123, x124, x125, x126, x127, x128, x129, x130, x131, x132, x133, x134, x135, x136, x137, x138, x139, x140, x141, x142, x143, x144, x145, x146, x147, x148, x149, x150, x151, x152, x153, x154, x155, x156, x157, x158, x159, x160, x161, x162, x163, x164, x165, x166, x167, x168, x169, x170, x171, x172, x173, x174, x175, x176, x177, x178, x179, x180, x181, x182, x183, x184, x185, x186, x187, x188, x189, x190, x191, x192, x193, x194, x195, x196], defers := ds } wo := by
  have hmx : Try.prog.follows .mixedOrders = true := by kernel_rfl
  refine wp_region_any hmx ?_
  rw [hsz]
  refine wpAny_inv (fun listed a w => ∃ (b0 b1 b2 b3 b4 b5 b6 b7 b8 b9 : Bool) (v21 v175 v176 v177 v178 v179 v180 v181 v182 v183 : Value), listed = #[b0, b1, b2, b3, b4, b5, b6, b7, b8, b9] ∧ a = { tmps := #[x0, x1, x2, (.pointer (some ⟨F, 0, none⟩)), vT, x5, x6, x7, x8, x9, x10, x11, x12, x13, x14, x15, x16, x17, x18, x19, (.pointer (some ⟨O, 0, none⟩)), v21, x22, x23, x24, x25, x26, x27, x28, x29, x30, x31, x32, x33, x34, x35, x36, x37, x38, x39, x40, x41, x42, x43, x44, x45, x46, x47, x48, x49, x50, x51, x52, x53, x54, x55, x56, x57, x58, x59, x60, x61, x62, x63, x64, x65, x66, x67, x68, x69, x70, x71, x72, x73, x74, x75, x76, x77, x78, x79, x80, x81, x82, x83, x84, x85, x86, x87, x88, x89, x90, x91, x92, x93, x94, x95, x96, x97, x98, x99, x100, x101, x102, x103, x104, x105, x106, x107, x108, x109, x110, x111, x112, x113, x114, x115, x116, x117, x118, x119, x120, x121, x122, x123, x124, x125, x126, x127, x128, x129, x130, x131, x132, x133, x134, x135, x136, x137, x138, x139, x140, x141, x142, x143, x144, x145, x146, x147, x148, x149, x150, x151, x152, x153, x154, x155, x156, x157, x158, x159, x160, x161, x162, x163, x164, x165, x166, x167, x168, x169, x170, x171, x172, x173, x174, v175, v176, v177, v178, v179, v180, v181, v182, v183, x184, x185, x186, x187, x188, x189, x190, x191, x192, x193, x194, x195, x196], defers := ds } ∧ In36 (.agg #[.string act, vI, .string but]) (.agg #[.string act, vO, .string but]) vT (sentL l ys) l wo b0 b1 b2 b3 b4 b5 b6 b7 b8 b9 v21 v175 v176 v177 v178 v179 v180 v181 v182 v183 w) cntF ?step ?done ?full 10 _ _ _ (by decide) ?start
  case start =>
    exact ⟨false, false, false, false, false, false, false, false, false, false, _, _, _, _, _, _, _, _, _, _, rfl, rfl, ⟨(Below.refl _ _).drew, by simp, by simp, by simp, by simp, by simp, by simp, by simp, by simp, by simp, by simp⟩⟩
  case done =>
    rintro listed a w ⟨b0, b1, b2, b3, b4, b5, b6, b7, b8, b9, v21, v175, v176, v177, v178, v179, v180, v181, v182, v183, rfl, rfl, h⟩ hr
    obtain rfl := doneB_spec hdone b0 b1 b2 b3 b4 b5 b6 b7 b8 b9 hr
    obtain rfl := h.h9 rfl
    exact hQ _ _ _ _ _ _ _ _ _ w h.below
  case full =>
    rintro listed a w ⟨b0, b1, b2, b3, b4, b5, b6, b7, b8, b9, v21, v175, v176, v177, v178, v179, v180, v181, v182, v183, rfl, ha, h⟩ hc
    have : b0 = true ∧ b1 = true ∧ b2 = true ∧ b3 = true ∧ b4 = true ∧ b5 = true ∧ b6 = true ∧ b7 = true ∧ b8 = true ∧ b9 = true := by
      have hn := List.length_eq_zero_iff.1 hc
      simpa [List.filter_eq_nil_iff] using hn
    obtain ⟨rfl, rfl, rfl, rfl, rfl, rfl, rfl, rfl, rfl, rfl⟩ := this
    exact hfull
  case step =>
    rintro listed a w ⟨b0, b1, b2, b3, b4, b5, b6, b7, b8, b9, v21, v175, v176, v177, v178, v179, v180, v181, v182, v183, rfl, rfl, h⟩ i hi'
    rcases readyB_spec hready b0 b1 b2 b3 b4 b5 b6 b7 b8 b9 i hi' with ⟨hi0, hb⟩ | ⟨hi0, hb⟩ | ⟨hi0, hb, q0, q1⟩ | ⟨hi0, hb⟩ | ⟨hi0, hb⟩ | ⟨hi0, hb⟩ | ⟨hi0, hb, q4, q5⟩ | ⟨hi0, hb, q3, q6⟩ | ⟨hi0, hb, q2, q7⟩ | ⟨hi0, hb, q8⟩
    · subst hi0 hb
      refine ⟨by clear h hready hdone hfull hQ hi'; revert b1 b2 b3 b4 b5 b6 b7 b8 b9; decide, wpOp_of e0 rfl ?_⟩
      refine wp_load_mid 24 (.tmp 3) rfl F 0 rfl _ _ (range_below hF h.below hFl) Try.underlying24 rfl sizeF ?_
      exact ⟨true, b1, b2, b3, b4, b5, b6, b7, b8, b9, v21, _, v176, v177, v178, v179, v180, v181, v182, v183, rfl, rfl, { h with h0 := fun _ => rfl }⟩
    · subst hi0 hb
      refine ⟨by clear h hready hdone hfull hQ hi'; revert b0 b2 b3 b4 b5 b6 b7 b8 b9; decide, wpOp_of e1 rfl ?_⟩
      have H := hide h
      clear h hi' hready hdone hfull hQ e0 e1 e2 e3 e4 e5 e6 e7 e8 e9
      refine wp_K fun K' hK => ?_
      have HK := hide hK
      clear hK
      go_simp
      refine HK.out _ _ ?_
      exact ⟨b0, true, b2, b3, b4, b5, b6, b7, b8, b9, v21, v175, vT, v177, v178, v179, v180, v181, v182, v183, rfl, rfl, { H.out with h1 := fun _ => rfl }⟩
    · subst hi0 hb
      refine ⟨by clear h hready hdone hfull hQ hi' q0 q1; revert b0 b1 b3 b4 b5 b6 b7 b8 b9; decide, wpOp_of e2 rfl ?_⟩
      obtain rfl := h.h0 q0
      obtain rfl := h.h1 q1
      have HS := hide (sent_any vI v176 act but l ys w (hi.below h.below) (hl.below h.below) hf hx hs hsx)
      have H := hide h
      clear h hi' hready hdone hfull hQ e0 e1 e2 e3 e4 e5 e6 e7 e8 e9
      refine wp_K fun K' hK => ?_
      have HK := hide hK
      clear hK
      go_simp
      refine HS.out.mono ?_
      rintro e w' ⟨v', rfl, own, hb⟩
      refine HK.out _ _ ?_
      exact ⟨b0, b1, true, b3, b4, b5, b6, b7, b8, b9, v21, _, _, v', v178, v179, v180, v181, v182, v183, rfl, rfl, { H.out.next hb with h2 := fun _ => lies_of_own own }⟩
    · subst hi0 hb
      refine ⟨by clear h hready hdone hfull hQ hi'; revert b0 b1 b2 b4 b5 b6 b7 b8 b9; decide, wpOp_of e3 rfl ?_⟩
      refine wp_load_mid 24 (.tmp 20) rfl O 0 rfl _ _ (range_below hO h.below hOl) Try.underlying24 rfl sizeF ?_
      exact ⟨b0, b1, b2, true, b4, b5, b6, b7, b8, b9, v21, v175, v176, v177, _, v179, v180, v181, v182, v183, rfl, rfl, { h with h3 := fun _ => rfl }⟩
    · subst hi0 hb
      refine ⟨by clear h hready hdone hfull hQ hi'; revert b0 b1 b2 b3 b5 b6 b7 b8 b9; decide, wpOp_of e4 rfl ?_⟩
      have H := hide h
      clear h hi' hready hdone hfull hQ e0 e1 e2 e3 e4 e5 e6 e7 e8 e9
      refine wp_K fun K' hK => ?_
      have HK := hide hK
      clear hK
      go_simp
      refine HK.out _ _ ?_
      exact ⟨b0, b1, b2, b3, true, b5, b6, b7, b8, b9, v21, v175, v176, v177, v178, .slice (some ⟨w.heap.size, 0, none⟩) 0 0, v180, v181, v182, v183, rfl, rfl, { H.out.next ((Below.refl _ _).alloc (Nat.le_refl _) (.cells #[] 33)) with h4 := fun _ => ⟨w.heap.size, rfl, (MapKept.heap_alloc w _).1⟩ }⟩
    · subst hi0 hb
      refine ⟨by clear h hready hdone hfull hQ hi'; revert b0 b1 b2 b3 b4 b6 b7 b8 b9; decide, wpOp_of e5 rfl ?_⟩
      have H := hide h
      clear h hi' hready hdone hfull hQ e0 e1 e2 e3 e4 e5 e6 e7 e8 e9
      refine wp_K fun K' hK => ?_
      have HK := hide hK
      clear hK
      go_simp
      refine HK.out _ _ ?_
      exact ⟨b0, b1, b2, b3, b4, true, b6, b7, b8, b9, v21, v175, v176, v177, v178, v179, vT, v181, v182, v183, rfl, rfl, { H.out with h5 := fun _ => rfl }⟩
    · subst hi0 hb
      refine ⟨by clear h hready hdone hfull hQ hi' q4 q5; revert b0 b1 b2 b3 b4 b5 b7 b8 b9; decide, wpOp_of e6 rfl ?_⟩
      obtain ⟨g, rfl, hg⟩ := h.h4 q4
      obtain rfl := h.h5 q5
      refine wp_append_empty w (.tmp 179) (.tmp 180) rfl g rfl hg _ l rfl (hl.below h.below) h0 hm hs ?_
      intro v' w' hv hb
      exact ⟨b0, b1, b2, b3, b4, b5, true, b7, b8, b9, v21, v175, v176, v177, v178, _, _, v', v182, v183, rfl, rfl, { h.next hb with h6 := fun _ => hv }⟩
    · subst hi0 hb
      refine ⟨by clear h hready hdone hfull hQ hi' q3 q6; revert b0 b1 b2 b3 b4 b5 b6 b8 b9; decide, wpOp_of e7 rfl ?_⟩
      obtain rfl := h.h3 q3
      have HS := hide (sent_any vO v181 act but l ys w (ho.below h.below) (h.h6 q6) hf hx hs hsx)
      have H := hide h
      clear h hi' hready hdone hfull hQ e0 e1 e2 e3 e4 e5 e6 e7 e8 e9
      refine wp_K fun K' hK => ?_
      have HK := hide hK
      clear hK
      go_simp
      refine HS.out.mono ?_
      rintro e w' ⟨v', rfl, own, hb⟩
      refine HK.out _ _ ?_
      exact ⟨b0, b1, b2, b3, b4, b5, b6, true, b8, b9, v21, v175, v176, v177, _, v179, v180, v181, v', v183, rfl, rfl, { H.out.next hb with h7 := fun _ => lies_of_own own }⟩
    · subst hi0 hb
      refine ⟨by clear h hready hdone hfull hQ hi' q2 q7; revert b0 b1 b2 b3 b4 b5 b6 b7 b9; decide, wpOp_of e8 rfl ?_⟩
      have HS := hide (same_any v177 v182 (sentL l ys) w (h.h2 q2) (h.h7 q7) hss)
      have H := hide h
      clear h hi' hready hdone hfull hQ e0 e1 e2 e3 e4 e5 e6 e7 e8 e9
      refine wp_K fun K' hK => ?_
      have HK := hide hK
      clear hK
      go_simp
      refine HS.out.mono ?_
      rintro e w' ⟨rfl, hb⟩
      refine HK.out _ _ ?_
      exact ⟨b0, b1, b2, b3, b4, b5, b6, b7, true, b9, v21, v175, v176, v177, v178, v179, v180, v181, v182, .bool true, rfl, rfl, { H.out.next hb with h8 := fun _ => rfl }⟩
    · subst hi0 hb
      refine ⟨by clear h hready hdone hfull hQ hi' q8; revert b0 b1 b2 b3 b4 b5 b6 b7 b8; decide, wpOp_of e9 rfl ?_⟩
      obtain rfl := h.h8 q8
      have H := hide h
      clear h hi' hready hdone hfull hQ e0 e1 e2 e3 e4 e5 e6 e7 e8 e9
      refine wp_K fun K' hK => ?_
      have HK := hide hK
      clear hK
      go_simp
      refine HK.out _ _ ?_
      exact ⟨b0, b1, b2, b3, b4, b5, b6, b7, b8, true, .bool true, v175, v176, v177, v178, v179, v180, v181, v182, _, rfl, rfl, { H.out with h9 := fun _ => rfl }⟩

end Go.Proofs.Ytaeleccngpfngaa.sent
