/- All TermDefs of a part agree: the pure side; formed, in the words of the reference. -/
import Derived.Test.YtjmlaeofjjhfmaaGreatP40
import Derived.Test.YtjmlaeofjjhfmaaGreatP24
import Derived.Test.YtjmlaeofjjhfmaaGreatP35
import Derived.Test.YtjmlaeofjjhfmaaGreatP12
import Derived.Test.YtjmlaeofjjhfmaaGreatP37
import Derived.Test.YtjmlaeofjjhfmaaGreatP29
set_option linter.unusedVariables false
set_option linter.unusedSimpArgs false
namespace Go.Proofs.YtjmlaeofjjhfmaaGreat
open Go.RowKit

/-- All TermDefs agree. -/
def agAll (p : Part) : Bool := (nodesOf 0 p).all (fun q => agreesB q.1)
theorem agAll_lev (p : Part) (a b : Nat) : (nodesOf a p).all (fun q => agreesB q.1) = (nodesOf b p).all (fun q => agreesB q.1) := by
  have h := nodesOf_fst a b p
  have e : ∀ l : List (Part × Nat), l.all (fun q => agreesB q.1) = (l.map (·.1)).all agreesB := fun l => by rw [List.all_map]; rfl
  rw [e, e, h]
theorem maxL_le (l : List Nat) (n : Nat) : maxL l ≤ n ↔ ∀ x ∈ l, x ≤ n := by
  induction l with
  | nil => simp [maxL]
  | cons y l ih =>
    have e := maxL_append [y] l
    have e2 : maxL [y] = y := by simp [maxL]
    simp only [List.cons_append, List.nil_append] at e
    rw [e, e2, Nat.max_le, ih]
    simp
theorem depth_le_iff (p : Part) (n : Nat) : p.depth ≤ n ↔ ∀ q ∈ nodesOf 1 p, q.2 ≤ n := by
  rw [Part.depth, maxL_le]
  simp only [List.mem_map, forall_exists_index, and_imp]
  exact ⟨fun h q hq => h q.2 q hq rfl, fun h x q hq e => e ▸ h q hq⟩

/-- Formed, decided as the reference does. -/
def formedB (p : Part) : Bool := decide (p.size ≤ 60) && allSh p && decide (p.depth ≤ 12) && agAll p
theorem formedB_iff {p : Part} : Formed p ↔ formedB p = true := by
  rw [formed_iff, formedB, Bool.and_eq_true, Bool.and_eq_true, Bool.and_eq_true, decide_eq_true_eq, decide_eq_true_eq, depth_le_iff, allSh, allSh_lev p 0 1, agAll, agAll_lev p 0 1, List.all_eq_true, List.all_eq_true]
  constructor
  · rintro ⟨⟨h1, h2⟩, h3⟩
    exact ⟨⟨⟨h1, fun q hq => (h2 q hq).1⟩, fun q hq => (h2 q hq).2⟩, h3⟩
  · rintro ⟨⟨⟨h1, h2⟩, h4⟩, h3⟩
    exact ⟨⟨h1, fun q hq => ⟨h2 q hq, h4 q hq⟩⟩, h3⟩
end Go.Proofs.YtjmlaeofjjhfmaaGreat
/- Put, whatever comes in. -/
namespace Go.Proofs.YtjmlaeofjjhfmaaGreat
open Go.RowKit Go.Shelf Go.Maps Go.WideMaps

end Go.Proofs.YtjmlaeofjjhfmaaGreat
/- Put, whatever comes in: the work where the result is too large; all cases. -/
namespace Go.Proofs.YtjmlaeofjjhfmaaGreat
open Go.RowKit Go.Shelf Go.Maps Go.WideMaps

end Go.Proofs.YtjmlaeofjjhfmaaGreat
/- The reference's Same at two expressions that are equal. -/
namespace Go.Proofs.YtjmlaeofjjhfmaaGreat
open Go.RowKit

def SameEAt (s : Nat) : Prop := ∀ (t : Exp), (Part.exp t).size ≤ s → ∀ (B : Nat) (u w : World) (c1 c2 : List Value), KeptC B u w → B ≤ w.heap.size → ExpAt B u c1 t → ExpAt B u c2 t →
  Calls Tryz.prog 89 #[.agg c1.toArray, .agg c2.toArray] w fun e w' => e = .returned (.bool true) ∧ Below w.heap.size w w'

set_option maxHeartbeats 1000000 in
theorem sameE_one (s : Nat) (ih : SameEAt s) (op n : Int) (text : ByteArray) (kids : List Exp) (hs : (Part.exp (.mk op n text kids)).size ≤ s + 1) (B : Nat) (u w : World) (c1 c2 : List Value) (hu : KeptC B u w) (hBl : B ≤ w.heap.size)
    (hv1 : ExpAt B u c1 (.mk op n text kids)) (hv2 : ExpAt B u c2 (.mk op n text kids)) :
    Calls Tryz.prog 89 #[.agg c1.toArray, .agg c2.toArray] w fun e w' => e = .returned (.bool true) ∧ Below w.heap.size w w' := by
  unfold ExpAt at hv1 hv2
  obtain ⟨hz, _, rfl, ⟨a0, p0, rfl, l0, h0⟩⟩ := hv1
  obtain ⟨_, _, rfl, ⟨a1, p1, rfl, l1, h1⟩⟩ := hv2
  obtain ⟨W1, hW1⟩ : ∃ W1, W1 = (w.alloc (.cells #[.int .i64 op, .int .i64 n, .string text, .slice a0 kids.length p0] 36)).alloc (.cells #[.int .i64 op, .int .i64 n, .string text, .slice a1 kids.length p1] 36) := ⟨_, rfl⟩
  have z1 : W1.heap.size = w.heap.size + 2 := by rw [hW1]; simp
  have b1 : Below w.heap.size w W1 := by rw [hW1]; exact ((Below.refl _ w).alloc (Nat.le_refl _) _).alloc (by simp) _
  have hrd : ∀ W, Below (w.heap.size + 2) W1 W → W.cell? ⟨w.heap.size, 3, none⟩ = some (.slice a0 kids.length p0) ∧ W.cell? ⟨w.heap.size + 1, 3, none⟩ = some (.slice a1 kids.length p1) ∧ KeptC B u W ∧ B ≤ W.heap.size ∧ Below w.heap.size w W := by
    intro W h
    have hb := b1.trans (h.mono (by omega))
    refine ⟨(h.cell (p := ⟨w.heap.size, 3, none⟩) (by simp)).trans ?_, (h.cell (p := ⟨w.heap.size + 1, 3, none⟩) (by simp)).trans ?_, hu.trans ((Below.keptC hb).mono hBl), by have := hb.size; omega, hb⟩
    · rw [hW1, World.cell?_alloc_past _ _ _ (by simp), World.cell?_alloc_at _ _ _ _ rfl]; rfl
    · rw [hW1, World.cell?_alloc_at _ _ _ _ (by simp)]; rfl
  have hkid : ∀ k, (h : k < kids.length) → (Part.exp kids[k]).size ≤ s := fun k h => by
    have := size_lt (p := .exp (.mk op n text kids)) (q := .exp kids[k]) (by rw [Part.parts]; exact List.mem_map.2 ⟨_, List.getElem_mem h, rfl⟩)
    omega
  have HW := Lib.hid hW1
  clear hW1 hs
  go_enter Tryz.func89, Tryz.ntmps89
  go_wp2
  rw [← HW.out]
  go_loopw [5] (fun i wr => ∃ (k : Nat), k ≤ kids.length ∧ i = .int .i64 k ∧ Below (w.heap.size + 2) W1 wr) (fun i _ => kids.length - (intOf i).toNat)
  case atStart => exact ⟨0, by omega, rfl, Below.refl _ _⟩
  case round =>
    obtain ⟨k, hk, rfl, hb⟩ := hrel
    obtain ⟨x0, x1, hu1, hB1, hbw⟩ := hrd wr hb
    by_cases hlt : k < kids.length
    · rcases h0 with h0 | ⟨b0, o0, rfl, hB0, hc0⟩
      · rw [h0] at hlt; simp at hlt
      rcases h1 with h1 | ⟨b2, o2, rfl, hB2, hc2⟩
      · rw [h1] at hlt; simp at hlt
      obtain ⟨d1, e1, f1⟩ := hc0.get kids b0 o0 k hlt
      obtain ⟨d2, e2, f2⟩ := hc2.get kids b2 o2 k hlt
      obtain ⟨g0, g1, g2, g3, g4, g5, rfl⟩ := exp_shape f1
      obtain ⟨i0, i1, i2, i3, i4, i5, rfl⟩ := exp_shape f2
      obtain ⟨y0, y1, hu2, hB2', _⟩ := hrd wr.drew hb.drew
      have hS : ∀ W, Below (w.heap.size + 2) W1 W → W.cell? ⟨w.heap.size, 3, none⟩ = some (.slice (some ⟨b0, o0, none⟩) kids.length p0) ∧ W.cell? ⟨w.heap.size + 1, 3, none⟩ = some (.slice (some ⟨b2, o2, none⟩) kids.length p1) ∧
          (W.cell? ⟨b0, o0 + k * 4, none⟩ = some (.int .i64 g0) ∧ W.cell? ⟨b0, o0 + k * 4 + 1, none⟩ = some (.int .i64 g1) ∧ W.cell? ⟨b0, o0 + k * 4 + 2, none⟩ = some (.string g2) ∧ W.cell? ⟨b0, o0 + k * 4 + 3, none⟩ = some (.slice g3 g4 g5)) ∧
          W.cell? ⟨b2, o2 + k * 4, none⟩ = some (.int .i64 i0) ∧ W.cell? ⟨b2, o2 + k * 4 + 1, none⟩ = some (.int .i64 i1) ∧ W.cell? ⟨b2, o2 + k * 4 + 2, none⟩ = some (.string i2) ∧ W.cell? ⟨b2, o2 + k * 4 + 3, none⟩ = some (.slice i3 i4 i5) := fun W h => by
        obtain ⟨y0, y1, hu2, _, _⟩ := hrd W h
        exact ⟨y0, y1, cells4 (e1.keep hu2 hB0), cells4 (e2.keep hu2 hB2)⟩
      have hcall := ih kids[k] (hkid k hlt) B u wr.drew _ _ hu2 hB2' f1 f2
      have hbd := hb.drew
      obtain ⟨r0, r1, ⟨r2, r3, r4, r5⟩, r6, r7, r8, r9⟩ := hS _ hbd
      clear f1 f2 hc0 hc2
      go_wp2
      go_region_held3 (fun W => W.cell? ⟨w.heap.size, 3, none⟩ = some (.slice (some ⟨b0, o0, none⟩) kids.length p0) ∧ W.cell? ⟨w.heap.size + 1, 3, none⟩ = some (.slice (some ⟨b2, o2, none⟩) kids.length p1) ∧
          W.cell? ⟨b0, o0 + k * 4, none⟩ = some (.int .i64 g0) ∧ W.cell? ⟨b0, o0 + k * 4 + 1, none⟩ = some (.int .i64 g1) ∧ W.cell? ⟨b0, o0 + k * 4 + 2, none⟩ = some (.string g2) ∧ W.cell? ⟨b0, o0 + k * 4 + 3, none⟩ = some (.slice g3 g4 g5) ∧
          W.cell? ⟨b2, o2 + k * 4, none⟩ = some (.int .i64 i0) ∧ W.cell? ⟨b2, o2 + k * 4 + 1, none⟩ = some (.int .i64 i1) ∧ W.cell? ⟨b2, o2 + k * 4 + 2, none⟩ = some (.string i2) ∧ W.cell? ⟨b2, o2 + k * 4 + 3, none⟩ = some (.slice i3 i4 i5)) (go_keep)
        (first | (go_at_call 89; refine hcall.mono ?_; rintro e w2 ⟨rfl, hb2⟩; have hbd2 := hbd.trans (hb2.mono (by simp; have := hb.size; omega)); obtain ⟨s0, s1, ⟨s2, s3, s4, s5⟩, s6, s7, s8, s9⟩ := hS w2 hbd2))
      all_goals go_wp2
      go_roundw
      case rel => exact ⟨k + 1, by omega, by go_num, hbd2⟩
      case measure => simp [intOf]; omega
    · obtain rfl : k = kids.length := by omega
      go_wp2
      go_ret
      exact ⟨rfl, hbw⟩

theorem sameE_all : ∀ s, SameEAt s := by
  intro s
  induction s with
  | zero => intro t ht; have := size_pos (.exp t); omega
  | succ s ih =>
    intro t ht B u w c1 c2 hu hB h1 h2
    obtain ⟨op, n, text, kids⟩ := t
    exact sameE_one s ih op n text kids ht B u w c1 c2 hu hB h1 h2

end Go.Proofs.YtjmlaeofjjhfmaaGreat
/- The reference's Same at two processes that are equal. -/
namespace Go.Proofs.YtjmlaeofjjhfmaaGreat
open Go.RowKit

def SameTAt (s : Nat) : Prop := ∀ (t : Term), (Part.proc t).size ≤ s → ∀ (B : Nat) (u w : World) (c1 c2 : List Value), KeptC B u w → B ≤ w.heap.size → TermAt B u c1 t → TermAt B u c2 t →
  Calls Tryz.prog 34 #[.agg c1.toArray, .agg c2.toArray] w fun e w' => e = .returned (.bool true) ∧ Below w.heap.size w w'
def SameCAt (s : Nat) : Prop := ∀ (t : Clause), (Part.def_ t).size ≤ s → ∀ (B : Nat) (u w : World) (c1 c2 : List Value), KeptC B u w → B ≤ w.heap.size → ClauseAt B u c1 t → ClauseAt B u c2 t →
  Calls Tryz.prog 90 #[.agg c1.toArray, .agg c2.toArray] w fun e w' => e = .returned (.bool true) ∧ Below w.heap.size w w'

set_option maxHeartbeats 1000000 in
theorem sameTs_any (kids : List Term) (hkT : ∀ k, (h : k < kids.length) → ∀ (B : Nat) (u w : World) (c1 c2 : List Value), KeptC B u w → B ≤ w.heap.size → TermAt B u c1 kids[k] → TermAt B u c2 kids[k] →
      Calls Tryz.prog 34 #[.agg c1.toArray, .agg c2.toArray] w fun e w' => e = .returned (.bool true) ∧ Below w.heap.size w w') (B : Nat) (u w : World) (v1 v2 : Value) (hu : KeptC B u w) (hBl : B ≤ w.heap.size)
    (hv1 : SlAt B v1 kids.length (fun b off => TermsAt B u b off kids)) (hv2 : SlAt B v2 kids.length (fun b off => TermsAt B u b off kids)) :
    Calls Tryz.prog 47 #[v1, v2] w fun e w' => e = .returned (.bool true) ∧ Below w.heap.size w w' := by
  obtain ⟨a0, p0, rfl, l0, h0⟩ := hv1
  obtain ⟨a1, p1, rfl, l1, h1⟩ := hv2
  have hrd : ∀ W, Below w.heap.size w W → KeptC B u W ∧ B ≤ W.heap.size ∧ Below w.heap.size w W := fun W h => ⟨hu.trans ((Below.keptC h).mono hBl), by have := h.size; omega, h⟩
  go_enter Tryz.func47, Tryz.ntmps47
  go_wp2
  go_loopw [5] (fun i wr => ∃ (k : Nat), k ≤ kids.length ∧ i = .int .i64 k ∧ Below (w.heap.size) w wr) (fun i _ => kids.length - (intOf i).toNat)
  case atStart => exact ⟨0, by omega, rfl, Below.refl _ _⟩
  case round =>
    obtain ⟨k, hk, rfl, hb⟩ := hrel
    obtain ⟨hu1, hB1, hbw⟩ := hrd wr hb
    by_cases hlt : k < kids.length
    · rcases h0 with h0 | ⟨b0, o0, rfl, hB0, hc0⟩
      · rw [h0] at hlt; simp at hlt
      rcases h1 with h1 | ⟨b2, o2, rfl, hB2, hc2⟩
      · rw [h1] at hlt; simp at hlt
      obtain ⟨d1, e1, f1⟩ := hc0.get kids b0 o0 k hlt
      obtain ⟨d2, e2, f2⟩ := hc2.get kids b2 o2 k hlt
      obtain ⟨g0, g1, g2, g3, g4, g5, g6, g7, g8, g9, gA, rfl⟩ := term_shape f1
      obtain ⟨i0, i1, i2, i3, i4, i5, i6, i7, i8, i9, iA, rfl⟩ := term_shape f2
      have hbd := hb.drew
      obtain ⟨hu2, hB2', _⟩ := hrd wr.drew hbd
      have hS : ∀ W, Below (w.heap.size) w W → (W.cell? ⟨b0, o0 + k * 5, none⟩ = some (.int .i64 g0) ∧ W.cell? ⟨b0, o0 + k * 5 + 1, none⟩ = some (.string g1) ∧ W.cell? ⟨b0, o0 + k * 5 + 2, none⟩ = some (.slice g2 g3 g4) ∧ W.cell? ⟨b0, o0 + k * 5 + 3, none⟩ = some (.slice g5 g6 g7) ∧ W.cell? ⟨b0, o0 + k * 5 + 4, none⟩ = some (.slice g8 g9 gA)) ∧ W.cell? ⟨b2, o2 + k * 5, none⟩ = some (.int .i64 i0) ∧ W.cell? ⟨b2, o2 + k * 5 + 1, none⟩ = some (.string i1) ∧ W.cell? ⟨b2, o2 + k * 5 + 2, none⟩ = some (.slice i2 i3 i4) ∧ W.cell? ⟨b2, o2 + k * 5 + 3, none⟩ = some (.slice i5 i6 i7) ∧ W.cell? ⟨b2, o2 + k * 5 + 4, none⟩ = some (.slice i8 i9 iA) := fun W h => by
        have hu2 := (hrd W h).1
        exact ⟨cells5 (e1.keep hu2 hB0), cells5 (e2.keep hu2 hB2)⟩
      have hcall := hkT k hlt B u wr.drew _ _ hu2 hB2' f1 f2
      obtain ⟨⟨y0, y1, y2, y3, y4⟩, x0, x1, x2, x3, x4⟩ := hS _ hbd
      clear f1 f2 hc0 hc2
      go_wp2
      go_region_held3 (fun W => W.cell? ⟨b0, o0 + k * 5, none⟩ = some (.int .i64 g0) ∧ W.cell? ⟨b0, o0 + k * 5 + 1, none⟩ = some (.string g1) ∧ W.cell? ⟨b0, o0 + k * 5 + 2, none⟩ = some (.slice g2 g3 g4) ∧ W.cell? ⟨b0, o0 + k * 5 + 3, none⟩ = some (.slice g5 g6 g7) ∧ W.cell? ⟨b0, o0 + k * 5 + 4, none⟩ = some (.slice g8 g9 gA) ∧ W.cell? ⟨b2, o2 + k * 5, none⟩ = some (.int .i64 i0) ∧ W.cell? ⟨b2, o2 + k * 5 + 1, none⟩ = some (.string i1) ∧ W.cell? ⟨b2, o2 + k * 5 + 2, none⟩ = some (.slice i2 i3 i4) ∧ W.cell? ⟨b2, o2 + k * 5 + 3, none⟩ = some (.slice i5 i6 i7) ∧ W.cell? ⟨b2, o2 + k * 5 + 4, none⟩ = some (.slice i8 i9 iA)) (go_keep)
        (first | (go_at_call 34; refine hcall.mono ?_; rintro e w2 ⟨rfl, hb2⟩; have hbd2 := hbd.trans (hb2.mono (by simp; have := hb.size; omega)); obtain ⟨⟨yy0, yy1, yy2, yy3, yy4⟩, xx0, xx1, xx2, xx3, xx4⟩ := hS w2 hbd2))
      all_goals go_wp2
      go_roundw
      case rel => exact ⟨k + 1, by omega, by go_num, hbd2⟩
      case measure => simp [intOf]; omega
    · obtain rfl : k = kids.length := by omega
      go_wp2
      go_ret
      exact ⟨rfl, hbw⟩

set_option maxHeartbeats 2000000 in
theorem sameT_one (s : Nat) (ihT : SameTAt s) (ihC : SameCAt s) (op : Int) (text : ByteArray) (args : List Exp) (defs : List Clause) (kids : List Term) (hs : (Part.proc (.mk op text args defs kids)).size ≤ s + 1) (B : Nat) (u w : World) (c1 c2 : List Value) (hu : KeptC B u w) (hBl : B ≤ w.heap.size)
    (hv1 : TermAt B u c1 (.mk op text args defs kids)) (hv2 : TermAt B u c2 (.mk op text args defs kids)) :
    Calls Tryz.prog 34 #[.agg c1.toArray, .agg c2.toArray] w fun e w' => e = .returned (.bool true) ∧ Below w.heap.size w w' := by
  unfold TermAt at hv1 hv2
  obtain ⟨hz, _, _, _, rfl, ⟨a0, p0, rfl, l0, h0⟩, ⟨a1, p1, rfl, l1, h1⟩, ⟨a2, p2, rfl, l2, h2⟩⟩ := hv1
  obtain ⟨_, _, _, _, rfl, ⟨b0', q0, rfl, _, g0⟩, ⟨b1', q1, rfl, _, g1⟩, ⟨b2', q2, rfl, _, g2⟩⟩ := hv2
  obtain ⟨W1, hW1⟩ : ∃ W1, W1 = (w.alloc (.cells #[.int .i64 op, .string text, .slice a0 args.length p0, .slice a1 defs.length p1, .slice a2 kids.length p2] 33)).alloc (.cells #[.int .i64 op, .string text, .slice b0' args.length q0, .slice b1' defs.length q1, .slice b2' kids.length q2] 33) := ⟨_, rfl⟩
  have z1 : W1.heap.size = w.heap.size + 2 := by rw [hW1]; simp
  have b1 : Below w.heap.size w W1 := by rw [hW1]; exact ((Below.refl _ w).alloc (Nat.le_refl _) _).alloc (by simp) _
  have hrd : ∀ W, Below (w.heap.size + 2) W1 W → KeptC B u W ∧ B ≤ W.heap.size ∧ Below w.heap.size w W := by
    intro W h
    have hb := b1.trans (h.mono (by omega))
    exact ⟨hu.trans ((Below.keptC hb).mono hBl), by have := hb.size; omega, hb⟩
  have hrd2 : ∀ W, Below (w.heap.size + 2) W1 W → W.cell? ⟨w.heap.size, 2, none⟩ = some (.slice a0 args.length p0) ∧ W.cell? ⟨w.heap.size + 1, 2, none⟩ = some (.slice b0' args.length q0) ∧ KeptC B u W := by
    intro W h
    refine ⟨(h.cell (p := ⟨w.heap.size, 2, none⟩) (by simp)).trans ?_, (h.cell (p := ⟨w.heap.size + 1, 2, none⟩) (by simp)).trans ?_, (hrd W h).1⟩
    · rw [hW1, World.cell?_alloc_past _ _ _ (by simp), World.cell?_alloc_at _ _ _ _ rfl]; rfl
    · rw [hW1, World.cell?_alloc_at _ _ _ _ (by simp)]; rfl
  have hrd3 : ∀ W, Below (w.heap.size + 2) W1 W → W.cell? ⟨w.heap.size, 3, none⟩ = some (.slice a1 defs.length p1) ∧ W.cell? ⟨w.heap.size + 1, 3, none⟩ = some (.slice b1' defs.length q1) ∧ KeptC B u W := by
    intro W h
    refine ⟨(h.cell (p := ⟨w.heap.size, 3, none⟩) (by simp)).trans ?_, (h.cell (p := ⟨w.heap.size + 1, 3, none⟩) (by simp)).trans ?_, (hrd W h).1⟩
    · rw [hW1, World.cell?_alloc_past _ _ _ (by simp), World.cell?_alloc_at _ _ _ _ rfl]; rfl
    · rw [hW1, World.cell?_alloc_at _ _ _ _ (by simp)]; rfl
  have hrd4 : ∀ W, Below (w.heap.size + 2) W1 W → W.cell? ⟨w.heap.size, 4, none⟩ = some (.slice a2 kids.length p2) ∧ W.cell? ⟨w.heap.size + 1, 4, none⟩ = some (.slice b2' kids.length q2) ∧ KeptC B u W := by
    intro W h
    refine ⟨(h.cell (p := ⟨w.heap.size, 4, none⟩) (by simp)).trans ?_, (h.cell (p := ⟨w.heap.size + 1, 4, none⟩) (by simp)).trans ?_, (hrd W h).1⟩
    · rw [hW1, World.cell?_alloc_past _ _ _ (by simp), World.cell?_alloc_at _ _ _ _ rfl]; rfl
    · rw [hW1, World.cell?_alloc_at _ _ _ _ (by simp)]; rfl
  have hka : ∀ k, (h : k < args.length) → (Part.exp args[k]).size ≤ s := fun k h => by
    have := size_lt (p := .proc (.mk op text args defs kids)) (q := .exp args[k]) (part_args (List.getElem_mem h)); omega
  have hkd : ∀ k, (h : k < defs.length) → (Part.def_ defs[k]).size ≤ s := fun k h => by
    have := size_lt (p := .proc (.mk op text args defs kids)) (q := .def_ defs[k]) (part_defs (List.getElem_mem h)); omega
  have hkk : ∀ k, (h : k < kids.length) → ∀ (B : Nat) (u w : World) (c1 c2 : List Value), KeptC B u w → B ≤ w.heap.size → TermAt B u c1 kids[k] → TermAt B u c2 kids[k] →
      Calls Tryz.prog 34 #[.agg c1.toArray, .agg c2.toArray] w fun e w' => e = .returned (.bool true) ∧ Below w.heap.size w w' := fun k h => ihT kids[k] (by
    have := size_lt (p := .proc (.mk op text args defs kids)) (q := .proc kids[k]) (part_kids (List.getElem_mem h)); omega)
  have HW := Lib.hid hW1
  clear hW1 hs
  go_enter Tryz.func34, Tryz.ntmps34
  go_wp2
  rw [← HW.out]
  go_loopw [5] (fun i wr => ∃ (k : Nat), k ≤ args.length ∧ i = .int .i64 k ∧ Below (w.heap.size + 2) W1 wr) (fun i _ => args.length - (intOf i).toNat)
  case atStart => exact ⟨0, by omega, rfl, Below.refl _ _⟩
  case round =>
    obtain ⟨k, hk, rfl, hb⟩ := hrel
    obtain ⟨m0, m1, hu1⟩ := hrd2 wr hb
    obtain ⟨hu1, hB1, hbw⟩ := hrd wr hb
    by_cases hlt : k < args.length
    · rcases h0 with h0 | ⟨b0, o0, rfl, hB0, hc0⟩
      · rw [h0] at hlt; simp at hlt
      rcases g0 with h1 | ⟨b2, o2, rfl, hB2, hc2⟩
      · rw [h1] at hlt; simp at hlt
      obtain ⟨d1, e1, f1⟩ := hc0.get args b0 o0 k hlt
      obtain ⟨d2, e2, f2⟩ := hc2.get args b2 o2 k hlt
      obtain ⟨g0, g1, g2, g3, g4, g5, rfl⟩ := exp_shape f1
      obtain ⟨i0, i1, i2, i3, i4, i5, rfl⟩ := exp_shape f2
      have hbd := hb.drew
      obtain ⟨hu2, hB2', _⟩ := hrd wr.drew hbd
      have hS : ∀ W, Below (w.heap.size + 2) W1 W → W.cell? ⟨w.heap.size, 2, none⟩ = some (.slice (some ⟨b0, o0, none⟩) args.length p0) ∧ W.cell? ⟨w.heap.size + 1, 2, none⟩ = some (.slice (some ⟨b2, o2, none⟩) args.length q0) ∧ (W.cell? ⟨b0, o0 + k * 4, none⟩ = some (.int .i64 g0) ∧ W.cell? ⟨b0, o0 + k * 4 + 1, none⟩ = some (.int .i64 g1) ∧ W.cell? ⟨b0, o0 + k * 4 + 2, none⟩ = some (.string g2) ∧ W.cell? ⟨b0, o0 + k * 4 + 3, none⟩ = some (.slice g3 g4 g5)) ∧ W.cell? ⟨b2, o2 + k * 4, none⟩ = some (.int .i64 i0) ∧ W.cell? ⟨b2, o2 + k * 4 + 1, none⟩ = some (.int .i64 i1) ∧ W.cell? ⟨b2, o2 + k * 4 + 2, none⟩ = some (.string i2) ∧ W.cell? ⟨b2, o2 + k * 4 + 3, none⟩ = some (.slice i3 i4 i5) := fun W h => by
        obtain ⟨y0, y1, hu2⟩ := hrd2 W h
        exact ⟨y0, y1, cells4 (e1.keep hu2 hB0), cells4 (e2.keep hu2 hB2)⟩
      have hcall := sameE_all s args[k] (hka k hlt) B u wr.drew _ _ hu2 hB2' f1 f2
      obtain ⟨z0, z1, ⟨y0, y1, y2, y3⟩, x0, x1, x2, x3⟩ := hS _ hbd
      clear f1 f2 hc0 hc2
      go_wp2
      go_region_held3 (fun W => W.cell? ⟨w.heap.size, 2, none⟩ = some (.slice (some ⟨b0, o0, none⟩) args.length p0) ∧ W.cell? ⟨w.heap.size + 1, 2, none⟩ = some (.slice (some ⟨b2, o2, none⟩) args.length q0) ∧ W.cell? ⟨b0, o0 + k * 4, none⟩ = some (.int .i64 g0) ∧ W.cell? ⟨b0, o0 + k * 4 + 1, none⟩ = some (.int .i64 g1) ∧ W.cell? ⟨b0, o0 + k * 4 + 2, none⟩ = some (.string g2) ∧ W.cell? ⟨b0, o0 + k * 4 + 3, none⟩ = some (.slice g3 g4 g5) ∧ W.cell? ⟨b2, o2 + k * 4, none⟩ = some (.int .i64 i0) ∧ W.cell? ⟨b2, o2 + k * 4 + 1, none⟩ = some (.int .i64 i1) ∧ W.cell? ⟨b2, o2 + k * 4 + 2, none⟩ = some (.string i2) ∧ W.cell? ⟨b2, o2 + k * 4 + 3, none⟩ = some (.slice i3 i4 i5)) (go_keep)
        (first | (go_at_call 89; refine hcall.mono ?_; rintro e w2 ⟨rfl, hb2⟩; have hbd2 := hbd.trans (hb2.mono (by simp; have := hb.size; omega)); obtain ⟨zz0, zz1, ⟨yy0, yy1, yy2, yy3⟩, xx0, xx1, xx2, xx3⟩ := hS w2 hbd2))
      all_goals go_wp2
      go_roundw
      case rel => exact ⟨k + 1, by omega, by go_num, hbd2⟩
      case measure => simp [intOf]; omega
    · obtain rfl : k = args.length := by omega
      go_wp2
      have hbb := hb
      clear hb hu1 m0 m1
      go_loopw [6] (fun i wr => ∃ (k : Nat), k ≤ defs.length ∧ i = .int .i64 k ∧ Below (w.heap.size + 2) W1 wr) (fun i _ => defs.length - (intOf i).toNat)
      case atStart => exact ⟨0, by omega, rfl, hbb⟩
      case round =>
        obtain ⟨k, hk, rfl, hb⟩ := hrel
        obtain ⟨m0, m1, hu1⟩ := hrd3 wr hb
        obtain ⟨hu1, hB1, hbw⟩ := hrd wr hb
        by_cases hlt : k < defs.length
        · rcases h1 with h0 | ⟨b0, o0, rfl, hB0, hc0⟩
          · rw [h0] at hlt; simp at hlt
          rcases g1 with h1 | ⟨b2, o2, rfl, hB2, hc2⟩
          · rw [h1] at hlt; simp at hlt
          obtain ⟨d1, e1, f1⟩ := hc0.get defs b0 o0 k hlt
          obtain ⟨d2, e2, f2⟩ := hc2.get defs b2 o2 k hlt
          obtain ⟨g0, g1, g2, g3, g4, g5, g6, g7, g8, g9, gA, rfl⟩ := clause_shape f1
          obtain ⟨i0, i1, i2, i3, i4, i5, i6, i7, i8, i9, iA, rfl⟩ := clause_shape f2
          have hbd := hb.drew
          obtain ⟨hu2, hB2', _⟩ := hrd wr.drew hbd
          have hS : ∀ W, Below (w.heap.size + 2) W1 W → W.cell? ⟨w.heap.size, 3, none⟩ = some (.slice (some ⟨b0, o0, none⟩) defs.length p1) ∧ W.cell? ⟨w.heap.size + 1, 3, none⟩ = some (.slice (some ⟨b2, o2, none⟩) defs.length q1) ∧ (W.cell? ⟨b0, o0 + k * 5, none⟩ = some (.int .i64 g0) ∧ W.cell? ⟨b0, o0 + k * 5 + 1, none⟩ = some (.string g1) ∧ W.cell? ⟨b0, o0 + k * 5 + 2, none⟩ = some (.slice g2 g3 g4) ∧ W.cell? ⟨b0, o0 + k * 5 + 3, none⟩ = some (.slice g5 g6 g7) ∧ W.cell? ⟨b0, o0 + k * 5 + 4, none⟩ = some (.slice g8 g9 gA)) ∧ W.cell? ⟨b2, o2 + k * 5, none⟩ = some (.int .i64 i0) ∧ W.cell? ⟨b2, o2 + k * 5 + 1, none⟩ = some (.string i1) ∧ W.cell? ⟨b2, o2 + k * 5 + 2, none⟩ = some (.slice i2 i3 i4) ∧ W.cell? ⟨b2, o2 + k * 5 + 3, none⟩ = some (.slice i5 i6 i7) ∧ W.cell? ⟨b2, o2 + k * 5 + 4, none⟩ = some (.slice i8 i9 iA) := fun W h => by
            obtain ⟨y0, y1, hu2⟩ := hrd3 W h
            exact ⟨y0, y1, cells5 (e1.keep hu2 hB0), cells5 (e2.keep hu2 hB2)⟩
          have hcall := ihC defs[k] (hkd k hlt) B u wr.drew _ _ hu2 hB2' f1 f2
          obtain ⟨z0, z1, ⟨y0, y1, y2, y3, y4⟩, x0, x1, x2, x3, x4⟩ := hS _ hbd
          clear f1 f2 hc0 hc2
          go_wp2
          go_region_held3 (fun W => W.cell? ⟨w.heap.size, 3, none⟩ = some (.slice (some ⟨b0, o0, none⟩) defs.length p1) ∧ W.cell? ⟨w.heap.size + 1, 3, none⟩ = some (.slice (some ⟨b2, o2, none⟩) defs.length q1) ∧ W.cell? ⟨b0, o0 + k * 5, none⟩ = some (.int .i64 g0) ∧ W.cell? ⟨b0, o0 + k * 5 + 1, none⟩ = some (.string g1) ∧ W.cell? ⟨b0, o0 + k * 5 + 2, none⟩ = some (.slice g2 g3 g4) ∧ W.cell? ⟨b0, o0 + k * 5 + 3, none⟩ = some (.slice g5 g6 g7) ∧ W.cell? ⟨b0, o0 + k * 5 + 4, none⟩ = some (.slice g8 g9 gA) ∧ W.cell? ⟨b2, o2 + k * 5, none⟩ = some (.int .i64 i0) ∧ W.cell? ⟨b2, o2 + k * 5 + 1, none⟩ = some (.string i1) ∧ W.cell? ⟨b2, o2 + k * 5 + 2, none⟩ = some (.slice i2 i3 i4) ∧ W.cell? ⟨b2, o2 + k * 5 + 3, none⟩ = some (.slice i5 i6 i7) ∧ W.cell? ⟨b2, o2 + k * 5 + 4, none⟩ = some (.slice i8 i9 iA)) (go_keep)
            (first | (go_at_call 90; refine hcall.mono ?_; rintro e w2 ⟨rfl, hb2⟩; have hbd2 := hbd.trans (hb2.mono (by simp; have := hb.size; omega)); obtain ⟨zz0, zz1, ⟨yy0, yy1, yy2, yy3, yy4⟩, xx0, xx1, xx2, xx3, xx4⟩ := hS w2 hbd2))
          all_goals go_wp2
          go_roundw
          case rel => exact ⟨k + 1, by omega, by go_num, hbd2⟩
          case measure => simp [intOf]; omega
        · obtain rfl : k = defs.length := by omega
          obtain ⟨t0, t1, _⟩ := hrd4 wr hb
          have hcall := sameTs_any kids hkk B u wr _ _ hu1 hB1 ⟨a2, p2, rfl, l2, h2⟩ ⟨b2', q2, rfl, l2, g2⟩
          go_wp2_with (go_at_call 47; refine hcall.mono ?_; rintro e w2 ⟨rfl, hb2⟩)
          go_ret
          exact ⟨rfl, hbw.trans (hb2.mono hbw.size)⟩


end Go.Proofs.YtjmlaeofjjhfmaaGreat
/- The reference's look at an expression: exp. -/
namespace Go.Proofs.YtjmlaeofjjhfmaaGreat
open Go.RowKit

end Go.Proofs.YtjmlaeofjjhfmaaGreat
/- The reference's look at the Joins of a rule. -/
namespace Go.Proofs.YtjmlaeofjjhfmaaGreat
open Go.RowKit Go.Maps

/-- Names, all different. -/
def good (ss : List ByteArray) : Prop := ss.all nameB = true ∧ (ss.map bytesOf).Nodup
theorem fold_addKey : ∀ (acc : List (List UInt8)) (L : List (List UInt8)), (L ++ acc).Nodup → ((acc.map Lit.string).foldl addKey (L.map Lit.string)) = (L ++ acc).map Lit.string := by
  intro acc
  induction acc with
  | nil => intro L _; simp
  | cons x acc ih =>
    intro L h
    have hx : (L.map Lit.string).any (fun y => y.sameKey (Lit.string x)) = false := by
      rw [List.any_eq_false]
      intro y hy
      obtain ⟨z, hz, rfl⟩ := List.mem_map.1 hy
      rw [List.nodup_append] at h
      have := h.2.2 z hz x (List.mem_cons_self ..)
      simp [Lit.sameKey]
      exact this
    have e : L ++ x :: acc = (L ++ [x]) ++ acc := by simp
    rw [List.map_cons, List.foldl_cons]
    rw [show addKey (L.map Lit.string) (Lit.string x) = (L ++ [x]).map Lit.string by unfold addKey; rw [hx]; simp]
    rw [ih (L ++ [x]) (by rw [← e]; exact h), e]
theorem fold_le : ∀ (acc : List Lit) (L : List Lit), (acc.foldl addKey L).length ≤ L.length + acc.length := by
  intro acc
  induction acc with
  | nil => intro L; simp
  | cons x acc ih =>
    intro L
    rw [List.foldl_cons]
    have h1 := ih (addKey L x)
    have h2 : (addKey L x).length ≤ L.length + 1 := by unfold addKey; split <;> simp
    simp; omega
theorem fold_lt : ∀ (acc : List (List UInt8)) (L : List (List UInt8)), L.Nodup → ¬ (L ++ acc).Nodup → ((acc.map Lit.string).foldl addKey (L.map Lit.string)).length < L.length + acc.length := by
  intro acc
  induction acc with
  | nil => intro L hL h; simp at h; exact absurd hL h
  | cons x acc ih =>
    intro L hL h
    rw [List.map_cons, List.foldl_cons]
    by_cases hx : x ∈ L
    · have : addKey (L.map Lit.string) (Lit.string x) = L.map Lit.string := by
        unfold addKey
        rw [if_pos]
        rw [List.any_eq_true]
        exact ⟨Lit.string x, List.mem_map.2 ⟨x, hx, rfl⟩, by simp [Lit.sameKey]⟩
      rw [this]
      have := fold_le (acc.map Lit.string) (L.map Lit.string)
      simp at this ⊢; omega
    · have e : L ++ x :: acc = (L ++ [x]) ++ acc := by simp
      have h1 : addKey (L.map Lit.string) (Lit.string x) = (L ++ [x]).map Lit.string := by
        have := fold_addKey [x] L (by rw [List.nodup_append]; exact ⟨hL, by simp, fun y hy z hz => by simp at hz; subst hz; rintro rfl; exact hx hy⟩)
        simpa using this
      rw [h1]
      have := ih (L ++ [x]) (by rw [List.nodup_append]; exact ⟨hL, by simp, fun y hy z hz => by simp at hz; subst hz; rintro rfl; exact hx hy⟩) (by rw [← e]; exact h)
      simp at this ⊢; omega
theorem differ_good (ss : List ByteArray) : differB ss = true ↔ good ss := by
  unfold differB good
  rw [Bool.and_eq_true, decide_eq_true_eq]
  have key : dcount (ss.map bytesOf) = ss.length ↔ (ss.map bytesOf).Nodup := by
    unfold dcount
    by_cases h : (ss.map bytesOf).Nodup
    · have := fold_addKey (ss.map bytesOf) [] (by simpa using h)
      simp only [List.map_nil, List.nil_append] at this
      rw [this]; simp [h]
    · have := fold_lt (ss.map bytesOf) [] (by simp) (by simpa using h)
      simp only [List.map_nil, List.length_nil, List.length_map, Nat.zero_add] at this
      constructor
      · intro e; omega
      · intro e; exact absurd e h
  rw [key]

def goodJ (js : List Msg) : Prop := good (js.map (·.text)) ∧ good (js.flatMap (·.names)) ∧ ∀ j ∈ js, j.names.length ≤ 3
theorem joinedB_iff (js : List Msg) : joinedB js = true ↔ 1 ≤ js.length ∧ js.length ≤ 3 ∧ goodJ js := by
  unfold joinedB goodJ
  rw [Bool.and_eq_true, Bool.and_eq_true, Bool.and_eq_true, Bool.and_eq_true, differ_good, differ_good, List.all_eq_true]
  simp only [decide_eq_true_eq]
  constructor
  · rintro ⟨⟨⟨⟨h1, h2⟩, h3⟩, h4⟩, h5⟩; exact ⟨h1, h2, h4, h5, h3⟩
  · rintro ⟨h1, h2, h4, h5, h3⟩; exact ⟨⟨⟨⟨h1, h2⟩, h3⟩, h4⟩, h5⟩
theorem Away.symm {v v' : Value} (h : Away v v') : Away v' v := fun g hg e => h g e hg

end Go.Proofs.YtjmlaeofjjhfmaaGreat
/- The reference's look at shape, nodes and depth: clause, term. -/
namespace Go.Proofs.YtjmlaeofjjhfmaaGreat
open Go.RowKit

theorem RMid.out' {p : Part} {n d : Nat} {is : Bool} {n' d' : Int} {b' : Bool} (h : RMid p.parts n d is) (hp : p.shaped = true) (hn : n' = n) (hd : d' = (d : Int) + 1) (hb : b' = is) : ROut p (.returned (.tuple #[.int .i64 n', .int .i64 d', .bool b'])) := by
  subst hn; subst hd; subst hb; exact h.out hp

end Go.Proofs.YtjmlaeofjjhfmaaGreat
/- The reference's look at shape, nodes and depth: term. -/
namespace Go.Proofs.YtjmlaeofjjhfmaaGreat
open Go.RowKit

end Go.Proofs.YtjmlaeofjjhfmaaGreat
/- The reference's look at shape, nodes and depth: term. -/
namespace Go.Proofs.YtjmlaeofjjhfmaaGreat
open Go.RowKit

end Go.Proofs.YtjmlaeofjjhfmaaGreat
/- The reference's Check, CheckExp, Nodes, Depth. -/
namespace Go.Proofs.YtjmlaeofjjhfmaaGreat
open Go.RowKit

end Go.Proofs.YtjmlaeofjjhfmaaGreat
/- The reference's Nodes and Depth. -/
namespace Go.Proofs.YtjmlaeofjjhfmaaGreat
open Go.RowKit

end Go.Proofs.YtjmlaeofjjhfmaaGreat
/- The reference's put, both, Names: sorted lists of names. -/
namespace Go.Proofs.YtjmlaeofjjhfmaaGreat
open Go.RowKit Go.Shelf Go.Maps Go.Sort

/-- Sorted, nothing twice. -/
def Srt (l : List ByteArray) : Prop := (l.map bytesOf).Pairwise (· < ·)
/-- A list that a call has made for itself. -/
structure OutAt (w : World) (v : Value) (l : List ByteArray) : Prop where
  own : w.ownsRow 0 9 1 v l.length (strVals l)
  sz : ∀ s ∈ l, s.size ≤ maxLen
theorem OutAt.nil (w : World) : OutAt w (.slice none 0 0) [] := ⟨World.ownsRow_nil _ _ _ _, by simp⟩
theorem OutAt.later {w w' : World} {v : Value} {l : List ByteArray} (h : OutAt w v l) (g : Below w.heap.size w w') : OutAt w' v l := ⟨ownsRow_keep h.own (grown_of_below g) (fun _ _ e => by cases e), h.sz⟩
theorem OutAt.strs {w : World} {v : Value} {l : List ByteArray} (h : OutAt w v l) : StrsAt w.heap.size w v l := strs_row h.own h.sz

/-- What a call that adds names to a sorted list gives. -/
def AddOut (out : List ByteArray) (F : List UInt8 → Prop) (n : Nat) (w : World) (e : Ending) (w' : World) : Prop :=
  ∃ v out', e = .returned v ∧ OutAt w' v out' ∧ Srt out' ∧ (∀ k, k ∈ out'.map bytesOf ↔ k ∈ out.map bytesOf ∨ F k) ∧ out'.length ≤ out.length + n ∧ Below w.heap.size w w'

end Go.Proofs.YtjmlaeofjjhfmaaGreat
