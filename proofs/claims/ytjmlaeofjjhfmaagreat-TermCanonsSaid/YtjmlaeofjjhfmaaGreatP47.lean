/- Equal processes are found equal: equalTerms and what it calls. -/
import Derived.Test.YtjmlaeofjjhfmaaGreatP46
import Derived.Test.YtjmlaeofjjhfmaaGreatP15
import Derived.Test.YtjmlaeofjjhfmaaGreatP20
set_option linter.unusedVariables false
set_option linter.unusedSimpArgs false
namespace Go.Proofs.YtjmlaeofjjhfmaaGreat
open Go.RowKit

set_option maxHeartbeats 2000000 in
theorem eq191 (ss : List ByteArray) (B : Nat) (u w : World) (v1 v2 : Value) (hu : KeptC B u w) (hBl : B ≤ w.heap.size) (hv1 : StrsAt B u v1 ss) (hv2 : StrsAt B u v2 ss) :
    Calls Tryz.prog 191 #[v1, v2] w fun e w' => e = .returned (.bool true) ∧ Below w.heap.size w w' := by
  replace hv1 := hv1.keep hu
  replace hv2 := hv2.keep hu
  obtain ⟨a0, p0, rfl, l0, _, _, h0⟩ := hv1
  obtain ⟨a1, p1, rfl, _, _, _, h1⟩ := hv2
  obtain ⟨nn, hnn⟩ : ∃ n, n = ss.length := ⟨_, rfl⟩
  have HN := Lib.hid hnn
  have h0' : nn = 0 ∨ ∃ b off, a0 = some ⟨b, off, none⟩ ∧ b < B ∧ StrCells w b off ss := by rcases h0 with h | h; exact .inl (by rw [hnn, h]; rfl); exact .inr h
  have h1' : nn = 0 ∨ ∃ b off, a1 = some ⟨b, off, none⟩ ∧ b < B ∧ StrCells w b off ss := by rcases h1 with h | h; exact .inl (by rw [hnn, h]; rfl); exact .inr h
  clear h0 h1
  rw [← hnn] at l0 ⊢
  clear hnn
  go_enter Tryz.func191, Tryz.ntmps191
  go_wp2
  go_loopw [13] (fun i wr => ∃ (k : Nat), k ≤ nn ∧ i = .int .i64 k ∧ Below w.heap.size w wr) (fun i _ => nn - (intOf i).toNat)
  case atStart => exact ⟨0, by omega, rfl, Below.refl _ _⟩
  case round =>
    obtain ⟨k, hk, rfl, hb⟩ := hrel
    by_cases hlt : k < nn
    · have hkl : k < ss.length := by rw [← HN.out]; exact hlt
      rcases h0' with h0 | ⟨b0, o0, rfl, hB0, hc0⟩
      · omega
      rcases h1' with h1 | ⟨b2, o2, rfl, hB2, hc2⟩
      · omega
      have hbd := hb.drew
      have x0 : wr.cell? ⟨b0, o0 + k, none⟩ = some (.string ss[k]) := (hb.cell (p := ⟨b0, o0 + k, none⟩) (by show b0 < _; omega)).trans (hc0 k hkl)
      have x1 : wr.cell? ⟨b2, o2 + k, none⟩ = some (.string ss[k]) := (hb.cell (p := ⟨b2, o2 + k, none⟩) (by show b2 < _; omega)).trans (hc2 k hkl)
      have y0 : wr.drew.cell? ⟨b0, o0 + k, none⟩ = some (.string ss[k]) := x0
      have y1 : wr.drew.cell? ⟨b2, o2 + k, none⟩ = some (.string ss[k]) := x1
      obtain ⟨s, hs⟩ : ∃ s, s = ss[k] := ⟨_, rfl⟩
      rw [← hs] at x0 x1 y0 y1
      clear hc0 hc2 hs hkl
      go_wp2
      go_region
      go_wp2
      go_roundw
      case rel => exact ⟨k + 1, by omega, by go_num, hbd⟩
      case measure => simp [intOf]; omega
    · obtain rfl : k = nn := by omega
      go_wp2
      go_ret
      exact ⟨rfl, hb⟩

set_option maxHeartbeats 2000000 in
theorem eq176 (m : Msg) (B : Nat) (u w : World) (c1 c2 : List Value) (hu : KeptC B u w) (hBl : B ≤ w.heap.size) (hv1 : MsgAt B u c1 m) (hv2 : MsgAt B u c2 m) :
    Calls Tryz.prog 176 #[.agg c1.toArray, .agg c2.toArray] w fun e w' => e = .returned (.bool true) ∧ Below w.heap.size w w' := by
  obtain ⟨text, names⟩ := m
  obtain ⟨_, v1, rfl, st1⟩ := hv1
  obtain ⟨_, v2, rfl, st2⟩ := hv2
  have st1' := st1
  have st2' := st2
  obtain ⟨ja0, jp0, rfl, jl0, _⟩ := st1
  obtain ⟨ja1, jp1, rfl, jl1, _⟩ := st2
  show Calls Tryz.prog 176 #[.agg #[.string text, .slice ja0 names.length jp0], .agg #[.string text, .slice ja1 names.length jp1]] w _
  obtain ⟨W1, hW1⟩ : ∃ W1, W1 = (w.alloc (.cells #[.string text, .slice ja0 names.length jp0] 144)).alloc (.cells #[.string text, .slice ja1 names.length jp1] 144) := ⟨_, rfl⟩
  have b1 : Below w.heap.size w W1 := by rw [hW1]; exact ((Below.refl _ w).alloc (Nat.le_refl _) _).alloc (by simp) _
  have hcall := eq191 names B u W1 _ _ (hu.trans ((Below.keptC b1).mono hBl)) (by have := b1.size; omega) st1' st2'
  have HW := Lib.hid (And.intro hW1 b1)
  clear hW1 b1 st1' st2'
  go_enter Tryz.func176, Tryz.ntmps176
  go_wp2_with fail
  rw [← HW.out.1]
  refine hcall.mono ?_
  clear hcall
  rintro e w2 ⟨rfl, hb2⟩
  go_wp2
  go_ret
  exact ⟨rfl, HW.out.2.trans (hb2.mono HW.out.2.size)⟩

def EqEAt (s : Nat) : Prop := ∀ (t : Exp), (Part.exp t).size ≤ s → ∀ (B : Nat) (u w : World) (c1 c2 : List Value), KeptC B u w → B ≤ w.heap.size → ExpAt B u c1 t → ExpAt B u c2 t →
  Calls Tryz.prog 147 #[.agg c1.toArray, .agg c2.toArray] w fun e w' => e = .returned (.bool true) ∧ Below w.heap.size w w'
set_option maxHeartbeats 2000000 in
theorem eqE_one (s : Nat) (ih : EqEAt s) (op n : Int) (text : ByteArray) (kids : List Exp) (hs : (Part.exp (.mk op n text kids)).size ≤ s + 1) (B : Nat) (u w : World) (c1 c2 : List Value) (hu : KeptC B u w) (hBl : B ≤ w.heap.size)
    (hv1 : ExpAt B u c1 (.mk op n text kids)) (hv2 : ExpAt B u c2 (.mk op n text kids)) :
    Calls Tryz.prog 147 #[.agg c1.toArray, .agg c2.toArray] w fun e w' => e = .returned (.bool true) ∧ Below w.heap.size w w' := by
  unfold ExpAt at hv1 hv2
  obtain ⟨hz, _, rfl, ⟨a0, p0, rfl, l0, h0⟩⟩ := hv1
  obtain ⟨_, _, rfl, ⟨a1, p1, rfl, l1, h1⟩⟩ := hv2
  obtain ⟨W1, hW1⟩ : ∃ W1, W1 = (w.alloc (.cells #[.int .i64 op, .int .i64 n, .string text, .slice a0 kids.length p0] 36)).alloc (.cells #[.int .i64 op, .int .i64 n, .string text, .slice a1 kids.length p1] 36) := ⟨_, rfl⟩
  have b1 : Below w.heap.size w W1 := by rw [hW1]; exact ((Below.refl _ w).alloc (Nat.le_refl _) _).alloc (by simp) _
  have hkid : ∀ k, (h : k < kids.length) → (Part.exp kids[k]).size ≤ s := fun k h => by
    have := size_lt (p := .exp (.mk op n text kids)) (q := .exp kids[k]) (by rw [Part.parts]; exact List.mem_map.2 ⟨_, List.getElem_mem h, rfl⟩)
    omega
  have hcall := eqF146 kids B u W1 _ _ (hu.trans ((Below.keptC b1).mono hBl)) (by have := b1.size; omega) ⟨a0, p0, rfl, l0, h0⟩ ⟨a1, p1, rfl, l1, h1⟩ (fun k h w c1 c2 h1 h2 h3 h4 => ih kids[k] (hkid k h) B u w c1 c2 h1 h2 h3 h4)
  have HW := Lib.hid (And.intro hW1 b1)
  clear hW1 b1 hs h0 h1 hkid ih
  go_enter Tryz.func147, Tryz.ntmps147
  go_wp2_with fail
  rw [← HW.out.1]
  refine hcall.mono ?_
  clear hcall
  rintro e w2 ⟨rfl, hb2⟩
  go_wp2
  go_ret
  exact ⟨rfl, HW.out.2.trans (hb2.mono HW.out.2.size)⟩
theorem eqE_all : ∀ s, EqEAt s := by
  intro s
  induction s with
  | zero => intro t ht; have := size_pos (.exp t); omega
  | succ s ih =>
    intro t ht B u w c1 c2 hu hB h1 h2
    obtain ⟨op, n, text, kids⟩ := t
    exact eqE_one s ih op n text kids ht B u w c1 c2 hu hB h1 h2

def EqTAt (s : Nat) : Prop := ∀ (t : Term), (Part.proc t).size ≤ s → ∀ (B : Nat) (u w : World) (c1 c2 : List Value), KeptC B u w → B ≤ w.heap.size → TermAt B u c1 t → TermAt B u c2 t →
  Calls Tryz.prog 93 #[.agg c1.toArray, .agg c2.toArray] w fun e w' => e = .returned (.bool true) ∧ Below w.heap.size w w'
def EqCAt (s : Nat) : Prop := ∀ (t : Clause), (Part.def_ t).size ≤ s → ∀ (B : Nat) (u w : World) (c1 c2 : List Value), KeptC B u w → B ≤ w.heap.size → ClauseAt B u c1 t → ClauseAt B u c2 t →
  Calls Tryz.prog 149 #[.agg c1.toArray, .agg c2.toArray] w fun e w' => e = .returned (.bool true) ∧ Below w.heap.size w w'
set_option maxHeartbeats 4000000 in
theorem eqT_one (s : Nat) (ihT : EqTAt s) (ihC : EqCAt s) (op : Int) (text : ByteArray) (args : List Exp) (defs : List Clause) (kids : List Term) (hs : (Part.proc (.mk op text args defs kids)).size ≤ s + 1) (B : Nat) (u w : World) (c1 c2 : List Value) (hu : KeptC B u w) (hBl : B ≤ w.heap.size)
    (hv1 : TermAt B u c1 (.mk op text args defs kids)) (hv2 : TermAt B u c2 (.mk op text args defs kids)) :
    Calls Tryz.prog 93 #[.agg c1.toArray, .agg c2.toArray] w fun e w' => e = .returned (.bool true) ∧ Below w.heap.size w w' := by
  unfold TermAt at hv1 hv2
  obtain ⟨hz, _, _, _, rfl, ⟨a0, p0, rfl, l0, h0⟩, ⟨a1, p1, rfl, l1, h1⟩, ⟨a2, p2, rfl, l2, h2⟩⟩ := hv1
  obtain ⟨_, _, _, _, rfl, ⟨b0', q0, rfl, _, g0⟩, ⟨b1', q1, rfl, _, g1⟩, ⟨b2', q2, rfl, _, g2⟩⟩ := hv2
  have hkd : ∀ k, (h : k < defs.length) → (Part.def_ defs[k]).size ≤ s := fun k h => by
    have := size_lt (p := .proc (.mk op text args defs kids)) (q := .def_ defs[k]) (part_defs (List.getElem_mem h)); omega
  have hkk : ∀ k, (h : k < kids.length) → (Part.proc kids[k]).size ≤ s := fun k h => by
    have := size_lt (p := .proc (.mk op text args defs kids)) (q := .proc kids[k]) (part_kids (List.getElem_mem h)); omega
  obtain ⟨W1, hW1⟩ : ∃ W1, W1 = (w.alloc (.cells #[.int .i64 op, .string text, .slice a0 args.length p0, .slice a1 defs.length p1, .slice a2 kids.length p2] 33)).alloc (.cells #[.int .i64 op, .string text, .slice b0' args.length q0, .slice b1' defs.length q1, .slice b2' kids.length q2] 33) := ⟨_, rfl⟩
  have z1 : W1.heap.size = w.heap.size + 2 := by rw [hW1]; simp
  have b1 : Below w.heap.size w W1 := by rw [hW1]; exact ((Below.refl _ w).alloc (Nat.le_refl _) _).alloc (by simp) _
  have hrd : ∀ W, Below W1.heap.size W1 W → (W.cell? ⟨w.heap.size, 3, none⟩ = some (.slice a1 defs.length p1) ∧ W.cell? ⟨w.heap.size + 1, 3, none⟩ = some (.slice b1' defs.length q1) ∧ W.cell? ⟨w.heap.size, 4, none⟩ = some (.slice a2 kids.length p2) ∧ W.cell? ⟨w.heap.size + 1, 4, none⟩ = some (.slice b2' kids.length q2)) ∧ KeptC B u W ∧ B ≤ W.heap.size ∧ Below w.heap.size w W := by
    intro W h
    have hb := b1.trans (h.mono (by omega))
    refine ⟨⟨(h.cell (p := ⟨w.heap.size, 3, none⟩) (by simp; omega)).trans ?_, (h.cell (p := ⟨w.heap.size + 1, 3, none⟩) (by simp; omega)).trans ?_, (h.cell (p := ⟨w.heap.size, 4, none⟩) (by simp; omega)).trans ?_, (h.cell (p := ⟨w.heap.size + 1, 4, none⟩) (by simp; omega)).trans ?_⟩, hu.trans ((Below.keptC hb).mono hBl), by have := hb.size; omega, hb⟩
    · rw [hW1, World.cell?_alloc_past _ _ _ (by simp), World.cell?_alloc_at _ _ _ _ rfl]; rfl
    · rw [hW1, World.cell?_alloc_at _ _ _ _ (by simp)]; rfl
    · rw [hW1, World.cell?_alloc_past _ _ _ (by simp), World.cell?_alloc_at _ _ _ _ rfl]; rfl
    · rw [hW1, World.cell?_alloc_at _ _ _ _ (by simp)]; rfl
  have r1 := hrd W1 (Below.refl _ _)
  have K0 := eqF146 args B u W1 _ _ r1.2.1 r1.2.2.1 ⟨a0, p0, rfl, l0, h0⟩ ⟨b0', q0, rfl, l0, g0⟩ (fun k h w c1 c2 h1 h2 h3 h4 => eqE_all _ args[k] (Nat.le_refl _) B u w c1 c2 h1 h2 h3 h4)
  have K1 := fun W h1' h2' => eqF148 defs B u W _ _ h1' h2' ⟨a1, p1, rfl, l1, h1⟩ ⟨b1', q1, rfl, l1, g1⟩ (fun k h w c1 c2 h1 h2 h3 h4 => ihC defs[k] (hkd k h) B u w c1 c2 h1 h2 h3 h4)
  have K2 := fun W h1' h2' => eqF150 kids B u W _ _ h1' h2' ⟨a2, p2, rfl, l2, h2⟩ ⟨b2', q2, rfl, l2, g2⟩ (fun k h w c1 c2 h1 h2 h3 h4 => ihT kids[k] (hkk k h) B u w c1 c2 h1 h2 h3 h4)
  have HW := Lib.hid hW1
  have HRD := Lib.hid hrd
  have HK1 := Lib.hid K1
  have HK2 := Lib.hid K2
  clear hW1 b1 hs h0 h1 h2 g0 g1 g2 hkd hkk ihT ihC hrd K1 K2 r1 z1
  go_enter Tryz.func93, Tryz.ntmps93
  go_wp2_with fail
  rw [← HW.out]
  refine K0.mono ?_
  clear K0
  rintro e w2 ⟨rfl, hb2⟩
  obtain ⟨⟨x0, x1, x2, x3⟩, y0, y1, _⟩ := HRD.out w2 hb2
  have K1 := HK1.out w2 y0 y1
  clear HK1
  go_wp2_with fail
  refine K1.mono ?_
  clear K1
  rintro e w3 ⟨rfl, hb3'⟩
  have hb3 := hb2.trans (hb3'.mono hb2.size)
  clear x0 x1 x2 x3 y0 y1 hb3' hb2
  obtain ⟨⟨x0, x1, x2, x3⟩, y0, y1, _⟩ := HRD.out w3 hb3
  have K2 := HK2.out w3 y0 y1
  clear HK2
  go_wp2_with fail
  refine K2.mono ?_
  clear K2
  rintro e w4 ⟨rfl, hb4'⟩
  have hb4 := hb3.trans (hb4'.mono hb3.size)
  clear hb4' hb3 x0 x1 x2 x3 y0 y1
  go_wp2
  go_ret
  exact ⟨rfl, (HRD.out w4 hb4).2.2.2⟩

set_option maxHeartbeats 4000000 in
theorem eqC_one (s : Nat) (ihT : EqTAt s) (ihC : EqCAt s) (form : Int) (text : ByteArray) (joins : List Msg) (defs : List Clause) (kids : List Term) (hs : (Part.def_ (.mk form text joins defs kids)).size ≤ s + 1) (B : Nat) (u w : World) (c1 c2 : List Value) (hu : KeptC B u w) (hBl : B ≤ w.heap.size)
    (hv1 : ClauseAt B u c1 (.mk form text joins defs kids)) (hv2 : ClauseAt B u c2 (.mk form text joins defs kids)) :
    Calls Tryz.prog 149 #[.agg c1.toArray, .agg c2.toArray] w fun e w' => e = .returned (.bool true) ∧ Below w.heap.size w w' := by
  unfold ClauseAt at hv1 hv2
  obtain ⟨hz, _, _, _, rfl, ⟨a0, p0, rfl, l0, h0⟩, ⟨a1, p1, rfl, l1, h1⟩, ⟨a2, p2, rfl, l2, h2⟩⟩ := hv1
  obtain ⟨_, _, _, _, rfl, ⟨b0', q0, rfl, _, g0⟩, ⟨b1', q1, rfl, _, g1⟩, ⟨b2', q2, rfl, _, g2⟩⟩ := hv2
  have hkd : ∀ k, (h : k < defs.length) → (Part.def_ defs[k]).size ≤ s := fun k h => by
    have := size_lt (p := .def_ (.mk form text joins defs kids)) (q := .def_ defs[k]) (partC_defs (List.getElem_mem h)); omega
  have hkk : ∀ k, (h : k < kids.length) → (Part.proc kids[k]).size ≤ s := fun k h => by
    have := size_lt (p := .def_ (.mk form text joins defs kids)) (q := .proc kids[k]) (partC_kids (List.getElem_mem h)); omega
  obtain ⟨W1, hW1⟩ : ∃ W1, W1 = (w.alloc (.cells #[.int .i64 form, .string text, .slice a0 joins.length p0, .slice a1 defs.length p1, .slice a2 kids.length p2] 130)).alloc (.cells #[.int .i64 form, .string text, .slice b0' joins.length q0, .slice b1' defs.length q1, .slice b2' kids.length q2] 130) := ⟨_, rfl⟩
  have z1 : W1.heap.size = w.heap.size + 2 := by rw [hW1]; simp
  have b1 : Below w.heap.size w W1 := by rw [hW1]; exact ((Below.refl _ w).alloc (Nat.le_refl _) _).alloc (by simp) _
  have hrd : ∀ W, Below W1.heap.size W1 W → (W.cell? ⟨w.heap.size, 3, none⟩ = some (.slice a1 defs.length p1) ∧ W.cell? ⟨w.heap.size + 1, 3, none⟩ = some (.slice b1' defs.length q1) ∧ W.cell? ⟨w.heap.size, 4, none⟩ = some (.slice a2 kids.length p2) ∧ W.cell? ⟨w.heap.size + 1, 4, none⟩ = some (.slice b2' kids.length q2)) ∧ KeptC B u W ∧ B ≤ W.heap.size ∧ Below w.heap.size w W := by
    intro W h
    have hb := b1.trans (h.mono (by omega))
    refine ⟨⟨(h.cell (p := ⟨w.heap.size, 3, none⟩) (by simp; omega)).trans ?_, (h.cell (p := ⟨w.heap.size + 1, 3, none⟩) (by simp; omega)).trans ?_, (h.cell (p := ⟨w.heap.size, 4, none⟩) (by simp; omega)).trans ?_, (h.cell (p := ⟨w.heap.size + 1, 4, none⟩) (by simp; omega)).trans ?_⟩, hu.trans ((Below.keptC hb).mono hBl), by have := hb.size; omega, hb⟩
    · rw [hW1, World.cell?_alloc_past _ _ _ (by simp), World.cell?_alloc_at _ _ _ _ rfl]; rfl
    · rw [hW1, World.cell?_alloc_at _ _ _ _ (by simp)]; rfl
    · rw [hW1, World.cell?_alloc_past _ _ _ (by simp), World.cell?_alloc_at _ _ _ _ rfl]; rfl
    · rw [hW1, World.cell?_alloc_at _ _ _ _ (by simp)]; rfl
  have r1 := hrd W1 (Below.refl _ _)
  have K0 := eqF175 joins B u W1 _ _ r1.2.1 r1.2.2.1 ⟨a0, p0, rfl, l0, h0⟩ ⟨b0', q0, rfl, l0, g0⟩ (fun k h w c1 c2 h1 h2 h3 h4 => eq176 joins[k] B u w c1 c2 h1 h2 h3 h4)
  have K1 := fun W h1' h2' => eqF148 defs B u W _ _ h1' h2' ⟨a1, p1, rfl, l1, h1⟩ ⟨b1', q1, rfl, l1, g1⟩ (fun k h w c1 c2 h1 h2 h3 h4 => ihC defs[k] (hkd k h) B u w c1 c2 h1 h2 h3 h4)
  have K2 := fun W h1' h2' => eqF150 kids B u W _ _ h1' h2' ⟨a2, p2, rfl, l2, h2⟩ ⟨b2', q2, rfl, l2, g2⟩ (fun k h w c1 c2 h1 h2 h3 h4 => ihT kids[k] (hkk k h) B u w c1 c2 h1 h2 h3 h4)
  have HW := Lib.hid hW1
  have HRD := Lib.hid hrd
  have HK1 := Lib.hid K1
  have HK2 := Lib.hid K2
  clear hW1 b1 hs h0 h1 h2 g0 g1 g2 hkd hkk ihT ihC hrd K1 K2 r1 z1
  go_enter Tryz.func149, Tryz.ntmps149
  go_wp2_with fail
  rw [← HW.out]
  refine K0.mono ?_
  clear K0
  rintro e w2 ⟨rfl, hb2⟩
  obtain ⟨⟨x0, x1, x2, x3⟩, y0, y1, _⟩ := HRD.out w2 hb2
  have K1 := HK1.out w2 y0 y1
  clear HK1
  go_wp2_with fail
  refine K1.mono ?_
  clear K1
  rintro e w3 ⟨rfl, hb3'⟩
  have hb3 := hb2.trans (hb3'.mono hb2.size)
  clear x0 x1 x2 x3 y0 y1 hb3' hb2
  obtain ⟨⟨x0, x1, x2, x3⟩, y0, y1, _⟩ := HRD.out w3 hb3
  have K2 := HK2.out w3 y0 y1
  clear HK2
  go_wp2_with fail
  refine K2.mono ?_
  clear K2
  rintro e w4 ⟨rfl, hb4'⟩
  have hb4 := hb3.trans (hb4'.mono hb3.size)
  clear hb4' hb3 x0 x1 x2 x3 y0 y1
  go_wp2
  go_ret
  exact ⟨rfl, (HRD.out w4 hb4).2.2.2⟩

theorem eq_all : ∀ s, EqTAt s ∧ EqCAt s := by
  intro s
  induction s with
  | zero => exact ⟨fun t ht => by have := size_pos (.proc t); omega, fun t ht => by have := size_pos (.def_ t); omega⟩
  | succ s ih =>
    constructor
    · intro t ht B u w c1 c2 hu hB h1 h2
      obtain ⟨op, text, args, defs, kids⟩ := t
      exact eqT_one s ih.1 ih.2 op text args defs kids ht B u w c1 c2 hu hB h1 h2
    · intro t ht B u w c1 c2 hu hB h1 h2
      obtain ⟨form, text, joins, defs, kids⟩ := t
      exact eqC_one s ih.1 ih.2 form text joins defs kids ht B u w c1 c2 hu hB h1 h2
theorem eq_any (t : Term) (B : Nat) (u w : World) (c1 c2 : List Value) (hu : KeptC B u w) (hB : B ≤ w.heap.size) (h1 : TermAt B u c1 t) (h2 : TermAt B u c2 t) :
    Calls Tryz.prog 93 #[.agg c1.toArray, .agg c2.toArray] w fun e w' => e = .returned (.bool true) ∧ Below w.heap.size w w' := (eq_all _).1 t (Nat.le_refl _) B u w c1 c2 hu hB h1 h2

end Go.Proofs.YtjmlaeofjjhfmaaGreat
/- each, for what shares memory with what comes in. -/
namespace Go.Proofs.YtjmlaeofjjhfmaaGreat
open Go.RowKit Go.Shelf Go.Maps

/-- The world as it was in u below N, without what lies from N on and below A. -/
def mid (u : World) (N A : Nat) (w : World) : World := { w with heap := w.heap.mapIdx fun i o => if i < N then (match u.heap[i]? with | some x => x | none => .map #[] 0) else if i < A then .map #[] 0 else o }
theorem mid_some (u : World) (N A : Nat) (w : World) (b o : Nat) (v : Value) : (mid u N A w).cell? ⟨b, o, none⟩ = some v ↔ b < w.heap.size ∧ ((b < N ∧ u.cell? ⟨b, o, none⟩ = some v) ∨ (N ≤ b ∧ A ≤ b ∧ w.cell? ⟨b, o, none⟩ = some v)) := by
  unfold mid World.cell?
  simp only [Array.getElem?_mapIdx]
  cases h : w.heap[b]? with
  | none =>
    have : ¬ b < w.heap.size := fun hlt => by rw [Array.getElem?_eq_getElem hlt] at h; cases h
    simp [this]
  | some x =>
    have hlt : b < w.heap.size := (Array.getElem?_eq_some_iff.1 h).1
    by_cases hb : b < N
    · cases hu : u.heap[b]? with
      | none => simp [hb, hlt, Nat.not_le.2 hb]
      | some y => simp [hb, hlt, Nat.not_le.2 hb]
    · by_cases hA : b < A
      · simp [hb, hA, hlt, Nat.not_le.2 hA]
      · simp [hb, hA, hlt, Nat.not_lt.1 hA, Nat.not_lt.1 hb]
theorem mid_kept {u : World} {N A A' B : Nat} {w w' : World} (hA : A' ≤ A) (hs : w.heap.size ≤ w'.heap.size) (h : ∀ b o v, A ≤ b → b < B → w.cell? ⟨b, o, none⟩ = some v → w'.cell? ⟨b, o, none⟩ = some v) : KeptC B (mid u N A w) (mid u N A' w') := by
  intro b o v hb hv
  obtain ⟨h1, h2⟩ := (mid_some u N A w b o v).1 hv
  refine (mid_some u N A' w' b o v).2 ⟨by omega, ?_⟩
  rcases h2 with h2 | ⟨h2, h3, h4⟩
  · exact .inl h2
  · exact .inr ⟨h2, by omega, h b o v h3 hb h4⟩
theorem mid_off {u : World} {N : Nat} {w : World} (hu : KeptC N u w) (A B : Nat) : KeptC B (mid u N A w) w := by
  intro b o v hb hv
  obtain ⟨h1, h2⟩ := (mid_some u N A w b o v).1 hv
  rcases h2 with ⟨h2, h3⟩ | ⟨h2, h3, h4⟩
  · exact hu b o v h2 h3
  · exact h4
/-- The element x of a row in the block row: what it refers to lies apart from the row. -/
def MApart {X : Type} (At : Nat → World → List Value → X → Prop) (u : World) (N lo : Nat) (row : Option Nat) (w : World) (cs : List Value) (x : X) : Prop :=
  ∃ A B, lo ≤ A ∧ B ≤ w.heap.size ∧ (∀ g, row = some g → g < A ∨ B ≤ g) ∧ At B (mid u N A w) cs x
theorem MApart.keep {X : Type} {At : Nat → World → List Value → X → Prop} (hAt : Keeps At) {u : World} {N lo : Nat} {row row' : Option Nat} {w w' : World} {cs : List Value} {x : X} (h : MApart At u N lo row w cs x)
    (hk : ∀ b, lo ≤ b → b < w.heap.size → row ≠ some b → w'.heap[b]? = w.heap[b]?) (hs : w.heap.size ≤ w'.heap.size) (hr : row' = row ∨ ∃ g, row' = some g ∧ w.heap.size ≤ g) : MApart At u N lo row' w' cs x := by
  obtain ⟨A, B, h1, h2, h3, h4⟩ := h
  refine ⟨A, B, h1, by omega, fun g hg => ?_, hAt _ _ _ _ _ _ (mid_kept (Nat.le_refl _) hs fun b o v ha hb hv => ?_) (Nat.le_refl _) h4⟩
  · rcases hr with rfl | ⟨g', hg', hle⟩
    · exact h3 g hg
    · rw [hg] at hg'; have := Option.some.inj hg'; omega
  · refine (World.cell?_of_block (w := w) (hk b (by omega) (by omega) (fun e => ?_))).trans hv
    rcases h3 b e with h | h <;> omega
theorem MApart.out {X : Type} {At : Nat → World → List Value → X → Prop} (hAt : Keeps At) {u : World} {N lo : Nat} {row : Option Nat} {w : World} {cs : List Value} {x : X} (h : MApart At u N lo row w cs x) : At w.heap.size (mid u N lo w) cs x := by
  obtain ⟨A, B, h1, h2, h3, h4⟩ := h
  exact hAt _ _ _ _ _ _ (mid_kept h1 (Nat.le_refl _) fun b o v _ _ hv => hv) h2 h4
theorem cells_mid {u : World} {N A : Nat} {w : World} {b off : Nat} {cs : List Value} (h : CellsAt w b off cs) (hb : A ≤ b) (hN : N ≤ b) : CellsAt (mid u N A w) b off cs := by
  intro j hj
  exact (mid_some u N A w b (off + j) _).2 ⟨lt_of_cell (h j hj), .inr ⟨hN, hb, h j hj⟩⟩
theorem sl_of_chunksM {X : Type} {At : Nat → World → List Value → X → Prop} {u : World} {N n A ty : Nat} (hN : N ≤ A) {w : World} {vs : List Value} {l : List X} {v : Value} {row : Option Nat} (hAt : Keeps At) (hn : 0 < n) (h : w.ownsRow A ty n v l.length vs)
    (hc : ChunksAt (fun _ w cs x => MApart At u N A row w cs x) n 0 w vs l)
    {P : Nat → Nat → Prop} (hP : ∀ b off, (∀ i, (h : i < l.length) → ∃ cs, CellsAt (mid u N A w) b (off + i * n) cs ∧ At w.heap.size (mid u N A w) cs l[i]) → P b off) : SlAt w.heap.size v l.length P := by
  obtain ⟨a, cap, rfl, hk, h⟩ := owns_cells hn h
  refine ⟨a, cap, rfl, hk, ?_⟩
  rcases h with h | ⟨g, rfl, hg, hA, hcell⟩
  · exact .inl h
  · refine .inr ⟨g, 0, rfl, hg, hP g 0 fun i hi => ⟨_, cells_mid (cells_part i n hcell ?_) hA (by omega), (hc.2 i hi).out hAt⟩⟩
    rw [hc.1, ← Nat.succ_mul]; exact Nat.mul_le_mul_right n hi
theorem clausesSlM {u : World} {N A : Nat} (hN : N ≤ A) {w : World} {vs : List Value} {l : List Clause} {v : Value} {row : Option Nat} (h : w.ownsRow A 130 5 v l.length vs) (hc : ChunksAt (fun _ w cs x => MApart ClauseAt u N A row w cs x) 5 0 w vs l) :
    SlAt w.heap.size v l.length (fun b off => ClausesAt w.heap.size (mid u N A w) b off l) :=
  sl_of_chunksM hN keepsClause (by omega) h hc fun b off h => ClausesAt.mk l b off h
theorem termsSlM {u : World} {N A : Nat} (hN : N ≤ A) {w : World} {vs : List Value} {l : List Term} {v : Value} {row : Option Nat} (h : w.ownsRow A 33 5 v l.length vs) (hc : ChunksAt (fun _ w cs x => MApart TermAt u N A row w cs x) 5 0 w vs l) :
    SlAt w.heap.size v l.length (fun b off => TermsAt w.heap.size (mid u N A w) b off l) :=
  sl_of_chunksM hN keepsTerm (by omega) h hc fun b off h => TermsAt.mk l b off h

end Go.Proofs.YtjmlaeofjjhfmaaGreat
/- each of definitions, for laying out. -/
namespace Go.Proofs.YtjmlaeofjjhfmaaGreat
open Go.RowKit Go.Shelf Go.Maps

set_option maxRecDepth 10000 in
set_option maxHeartbeats 1000000 in
theorem lay_141 {S : Type} (B : Nat) (u : World) (w : World) (Inv : Nat → S → World → Prop) (F : S → Clause → Option (Clause × S)) (l : List Clause) (a : Option Addr) (cap : Nat) (hl : l.length ≤ 1000)
    (hsrc : l.length = 0 ∨ ∃ b off, a = some ⟨b, off, none⟩ ∧ b < B ∧ ClausesAt B u b off l) (hu : KeptC B u w) (hB : B ≤ w.heap.size)
    (hInv : ∀ k s W W' row, Inv k s W → W.grownBy W' row → (∀ r, row = some r → w.heap.size ≤ r) → Inv k s W') (hNC : ∀ k s W, Inv k s W → NoCells none W)
    (hcall : ∀ k (h : k < l.length) s W cs, Inv k s W → w.grownBy W none → ClauseAt B u cs l[k] → Calls Tryz.prog 153 #[.agg cs.toArray] W fun e w' => OutE (F s l[k]) e (W.grownBy w' none) fun (x, s') => ∃ cs', e = .returned (.agg cs'.toArray) ∧ ClauseAt w'.heap.size (mid u B W.heap.size w') cs' x ∧ Inv (k + 1) s' w' ∧ W.grownBy w' none)
    (st : S) (hI : Inv 0 st w) :
    Calls Tryz.prog 141 #[.slice a l.length cap, .func (.func 153) #[] #[]] w fun e w' => OutE (stepsM F st l) e (w.grownBy w' none) fun (l', s') => ∃ v, e = .returned v ∧ l'.length = l.length ∧ SlAt w'.heap.size v l'.length (fun b off => ClausesAt w'.heap.size (mid u B w.heap.size w') b off l') ∧ Inv l.length s' w' ∧ w.grownBy w' none := by
  obtain ⟨i0, hi, hz0, hz1, hz2⟩ := info_parts info130
  have eK : ∀ args w, (callFunc 153 args).run Tryz.prog w = .ok (.enter 153 args) w := enters_of Tryz.func153 (by kernel_rfl) rfl
  have hnc := hNC _ _ _ hI
  have hu' := Lib.hid hu
  clear hu
  go_enter Tryz.func141, Tryz.ntmps141
  go_wp2_with fail
  go_loopw [5, 10] (fun v i wr => ∃ (k : Nat) (xs : List Clause) (s : S) (vals : List Value), k ≤ l.length ∧ i = .int .i64 k ∧ stepsM F st (l.take k) = some (xs, s) ∧ xs.length = k ∧ wr.ownsRow w.heap.size 130 5 v k vals ∧
    ChunksAt (fun _ w1 cs x => MApart ClauseAt u B w.heap.size v.ownBlock w1 cs x) 5 0 wr vals xs ∧ Inv k s wr ∧ w.grownBy wr none) (fun _ i _ => l.length - (intOf i).toNat)
  case atStart => exact ⟨0, [], st, [], by omega, rfl, by simp [stepsM], rfl, World.ownsRow_nil _ _ _ _, ChunksAt.nil _ _ _ _, hI, grown_refl _ _⟩
  case round =>
    obtain ⟨k, xs, s, vals, hk, rfl, hst, hxl, hown, hch, hIs, hg⟩ := hrel
    have HXL := Lib.hid hxl; clear hxl
    by_cases hlt : k < l.length
    · rcases hsrc with h0 | ⟨b, off, rfl, hb, hxs⟩
      · omega
      obtain ⟨cs, hcell, hat⟩ := ClausesAt.get l b off hxs k hlt
      have hku : KeptC B u wr := hu'.out.trans (grown_keptC hg hnc hB)
      have hBr : B ≤ wr.heap.size := Nat.le_trans hB hg.size
      have hwr := hg.size
      have hcell' := hcell.keep hku hb
      have hmore := Lib.hid (stepsM_more hlt hst)
      have hnone := Lib.hid (stepsM_none hlt hst)
      have hc := hcall k hlt s (wr.alloc (.cells cs.toArray 130)) cs (hInv k s _ _ none hIs (World.grownBy_alloc _ _ none) (by simp)) (grown_row hg (World.grownBy_alloc _ _ none) (by simp)) hat
      obtain ⟨c0, c1, c2, c3, c4, c5, c6, c7, c8, c9, c10, rfl⟩ := clause_shape hat
      obtain ⟨d0, d1, d2, d3, d4⟩ := cells5 hcell'
      clear hat hcell hcell' hxs hcall hst
      obtain ⟨R, hR⟩ : ∃ R, R = F s l[k] := ⟨_, rfl⟩
      rw [← hR] at hc hmore hnone
      have HR := Lib.hid hR
      clear hR
      cases R with
      | none =>
        go_wp2_with (go_at_call 153; refine hc.mono ?_; clear hc; rintro e w3 ⟨rfl, hgp⟩)
        simp only [bodyPost]
        rw [hnone.out (by simp)]
        exact ⟨by trivial, rfl, grown_row (grown_row hg (World.grownBy_alloc wr (.cells #[.int .i64 c0, .string c1, .slice c2 c3 c4, .slice c5 c6 c7, .slice c8 c9 c10] 130) none) (by simp)) hgp (fun r h => .inr h)⟩
      | some r =>
        obtain ⟨x, s'⟩ := r
        have hj : ∀ (w3 : World) (cs' : List Value), ClauseAt w3.heap.size (mid u B (wr.alloc (.cells #[.int .i64 c0, .string c1, .slice c2 c3 c4, .slice c5 c6 c7, .slice c8 c9 c10] 130)).heap.size w3) cs' x → Inv (k + 1) s' w3 → (wr.alloc (.cells #[.int .i64 c0, .string c1, .slice c2 c3 c4, .slice c5 c6 c7, .slice c8 c9 c10] 130)).grownBy w3 none →
            ∃ e0 e1 e2 e3 e4 e5 e6 e7 e8 e9 e10 gg cp w', cs' = [.int .i64 e0, .string e1, .slice e2 e3 e4, .slice e5 e6 e7, .slice e8 e9 e10] ∧ (Builtin.append_ #[30, 30] 30 #[u5, .slice (some ⟨w3.heap.size, 0, none⟩) 1 1]).run Tryz.prog (w3.alloc (.cells #[.int .i64 e0, .string e1, .slice e2 e3 e4, .slice e5 e6 e7, .slice e8 e9 e10] 130)) = .ok (.slice (some ⟨gg, 0, none⟩) (k + 1) cp) w' ∧
              w'.ownsRow w.heap.size 130 5 (.slice (some ⟨gg, 0, none⟩) (k + 1) cp) (k + 1) (vals ++ [.int .i64 e0, .string e1, .slice e2 e3 e4, .slice e5 e6 e7, .slice e8 e9 e10]) ∧ ChunksAt (fun _ w1 cs x => MApart ClauseAt u B w.heap.size (Value.slice (some ⟨gg, 0, none⟩) (k + 1) cp).ownBlock w1 cs x) 5 0 w' (vals ++ [.int .i64 e0, .string e1, .slice e2 e3 e4, .slice e5 e6 e7, .slice e8 e9 e10]) (xs ++ [x]) ∧ Inv (k + 1) s' w' ∧ w.grownBy w' none := by
          intro w3 cs' hat' hI' hg'
          obtain ⟨e0, e1, e2, e3, e4, e5, e6, e7, e8, e9, e10, rfl⟩ := clause_shape hat'
          obtain ⟨W4, hW4⟩ : ∃ W4, W4 = w3.alloc (.cells #[.int .i64 e0, .string e1, .slice e2 e3 e4, .slice e5 e6 e7, .slice e8 e9 e10] 130) := ⟨_, rfl⟩
          have hg3 : wr.grownBy w3 none := grown_row (grown_row (grown_refl _ _) (World.grownBy_alloc wr (.cells #[.int .i64 c0, .string c1, .slice c2 c3 c4, .slice c5 c6 c7, .slice c8 c9 c10] 130) none) (by simp)) hg' (fun r h => .inr h)
          have hg4 : wr.grownBy W4 none := by rw [hW4]; exact grown_row hg3 (World.grownBy_alloc _ _ none) (by simp)
          have hoA := ownsRow_keep hown hg4 (fun b hb e => by cases e)
          obtain ⟨v', w', hr, h1, h2, h3, h4⟩ := run_append_own_at (P := Tryz.prog) W4 w.heap.size 30 30 130 i0 (.agg #[.int .i64 0, .string ⟨#[]⟩, .slice none 0 0, .slice none 0 0, .slice none 0 0]) 5 96 Tryz.underlying30 hi hz0 hz1 hz2 rfl (by decide) _ k vals hoA
            ⟨w3.heap.size, 0, none⟩ 1 1 [.int .i64 e0, .string e1, .slice e2 e3 e4, .slice e5 e6 e7, .slice e8 e9 e10] rfl (by
              intro j u hj
              have e : (⟨w3.heap.size, 0, none⟩ : Addr).add j = ⟨w3.heap.size, j, none⟩ := by unfold Addr.add; by_cases h : j = 0 <;> simp [h]
              rw [e, hW4, World.cell?_alloc_at _ _ _ _ rfl]
              simpa using hj) (by simp [Value.oneCell']) (by unfold maxLen; omega) (by omega) (by have := hg4.size; omega)
          have hs3 := hg3.size
          have hs4 : W4.heap.size = w3.heap.size + 1 := by rw [hW4]; simp
          have hlo := hown.lt
          have hch' : ChunksAt (fun _ w1 cs x => MApart ClauseAt u B w.heap.size v'.ownBlock w1 cs x) 5 0 w' (vals ++ [.int .i64 e0, .string e1, .slice e2 e3 e4, .slice e5 e6 e7, .slice e8 e9 e10]) (xs ++ [x]) := by
            have hch1 : ChunksAt (fun _ w1 cs x => MApart ClauseAt u B w.heap.size v'.ownBlock w1 cs x) 5 0 w' vals xs := ⟨hch.1, fun i hi => MApart.keep keepsClause (hch.2 i hi) (fun b hb1 hb2 hb3 =>
              (h2.block b (by omega) (fun e => hb3 e.symm)).trans (hg4.block b hb2 (fun e => by cases e))) (by have := h2.size; omega) (by
                rcases h4 with h4 | h4
                · exact .inl h4
                · exact .inr ⟨_, h4, by omega⟩)⟩
            refine ChunksAt.snoc hch1 ?_ rfl
            · refine ⟨wr.heap.size + 1, w3.heap.size, by omega, by have := h2.size; omega, fun g hg => ?_, ?_⟩
              · rcases h4 with h4 | h4
                · rw [h4] at hg; have := hlo g hg; omega
                · rw [h4] at hg; have := Option.some.inj hg; omega
              · rw [World.size_alloc] at hat'
                refine keepsClause _ _ _ _ _ _ (mid_kept (Nat.le_refl _) (by have := h2.size; omega) fun b o v ha hb hv => ?_) (Nat.le_refl _) hat'
                have e1 : W4.cell? ⟨b, o, none⟩ = some v := by rw [hW4, World.cell?_alloc_past _ _ _ hb]; exact hv
                refine (World.cell?_of_block (w := W4) (h2.block b (by omega) (fun e => ?_))).trans e1
                have := hlo b e.symm; omega
          have hI4 : Inv (k + 1) s' w' := hInv (k + 1) s' _ _ _ (hInv (k + 1) s' _ W4 none hI' (by rw [hW4]; exact World.grownBy_alloc _ _ none) (by simp)) h2 (fun r hr => (hlo r hr).1)
          have hgw : w.grownBy w' none := grown_row (grown_row hg hg4 (fun r h => .inr h)) h2 (fun r hr => .inl (hlo r hr).1)
          obtain ⟨_, ⟨_, h0⟩ | ⟨gg, cp, cur, hvf, _⟩⟩ := id h1
          · omega
          subst hvf
          rw [hW4] at hr
          exact ⟨_, _, _, _, _, _, _, _, _, _, _, gg, cp, w', rfl, hr, h1, hch', hI4, hgw⟩
        clear hch hIs hown hku
        go_wp2_with (first
          | (go_at_call 153; refine hc.mono ?_; clear hc; rintro e w3 ⟨cs', rfl, hat', hI', hg'⟩; obtain ⟨e0, e1, e2, e3, e4, e5, e6, e7, e8, e9, e10, gg, cp, w', rfl, hr, h1, h2, h3, h4⟩ := hj w3 cs' hat' hI' hg'; have H1 := Lib.hid h1; have H2 := Lib.hid h2; have H3 := Lib.hid h3; have H4 := Lib.hid h4; clear hj hat' hI' hg' h1 h2 h3 h4)
          | (show wpList _ _ _ (⟨some 19, _, _, _, _, _⟩ :: _) _ _; refine wpList_append_eq rfl (.tmp 14) (.tmp 18) 30 30 rfl rfl rfl hr ?_))
        go_roundw
        case rel => exact ⟨k + 1, xs ++ [x], s', _, by omega, by go_num, hmore.out, by simp [HXL.out], H1.out, H2.out, H3.out, H4.out⟩
        case measure => simp [intOf]; omega
    · obtain rfl : k = l.length := by omega
      rw [List.take_length] at hst
      have HXL' := HXL.out
      have hsl := clausesSlM hB (by rw [HXL']; exact hown) hch
      have HSL := Lib.hid hsl
      obtain ⟨aa, cc, hvv, _⟩ := owns_cells (by omega) hown
      subst hvv
      clear hsl hch hown
      go_wp2
      go_ret
      rw [hst]
      exact ⟨_, rfl, HXL', HSL.out, hIs, hg⟩

end Go.Proofs.YtjmlaeofjjhfmaaGreat
