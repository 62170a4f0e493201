/- The reference's look at an expression: one, exp. -/
import Derived.Test.YtjmlaeofjjhfmaaGreatP38
import Derived.Test.YtjmlaeofjjhfmaaGreatP12
import Derived.Test.YtjmlaeofjjhfmaaGreatP24
import Derived.Test.YtjmlaeofjjhfmaaGreatP33
import Derived.Test.YtjmlaeofjjhfmaaGreatP35
set_option linter.unusedVariables false
set_option linter.unusedSimpArgs false
namespace Go.Proofs.YtjmlaeofjjhfmaaGreat
open Go.RowKit

/-- All nodes are shaped. -/
def allSh (p : Part) : Bool := (nodesOf 0 p).all (fun q => q.1.shaped)
def allShL (ps : List Part) : Bool := ps.all allSh
theorem allSh_lev (p : Part) (a b : Nat) : (nodesOf a p).all (fun q => q.1.shaped) = (nodesOf b p).all (fun q => q.1.shaped) := by
  have h := nodesOf_fst a b p
  have e : ∀ l : List (Part × Nat), l.all (fun q => q.1.shaped) = (l.map (·.1)).all Part.shaped := fun l => by rw [List.all_map]; rfl
  rw [e, e, h]
theorem allSh_eq (p : Part) : allSh p = (p.shaped && allShL p.parts) := by
  rw [allSh, nodesOf_eq, List.all_cons]
  congr 1
  unfold nodesL allShL
  rw [List.all_flatMap]
  congr 1
  funext q
  rw [allSh_lev q (0 + 1) 0]; rfl
theorem allShL_append (a b : List Part) : allShL (a ++ b) = (allShL a && allShL b) := by simp [allShL, List.all_append]
theorem maxL_append (a b : List Nat) : maxL (a ++ b) = max (maxL a) (maxL b) := by
  have key : ∀ (l : List Nat) (x : Nat), l.foldl max x = max x (l.foldl max 0) := by
    intro l
    induction l with
    | nil => intro x; simp
    | cons y l ih => intro x; simp only [List.foldl_cons]; rw [ih, ih (max 0 y)]; omega
  simp only [maxL, List.foldl_append]
  exact key b _
def dps (ps : List Part) : Nat := maxL (ps.map Part.depth)
theorem levels_up (p : Part) (lev : Nat) : ((nodesOf (lev + 1) p).map (·.2)) = ((nodesOf lev p).map (·.2)).map (· + 1) := by
  have key : ∀ (s : Nat) (p : Part) (lev : Nat), p.size ≤ s → ((nodesOf (lev + 1) p).map (·.2)) = ((nodesOf lev p).map (·.2)).map (· + 1) := by
    intro s
    induction s with
    | zero => intro p lev hp; exact absurd (by rw [Part.size, nodesOf_eq]; simp) (Nat.not_lt.2 hp)
    | succ s ih =>
      intro p lev hp
      rw [nodesOf_eq, nodesOf_eq lev, List.map_cons, List.map_cons, List.map_cons]
      congr 1
      unfold nodesL
      rw [List.map_flatMap, List.map_flatMap, List.map_flatMap]
      have : ∀ q ∈ p.parts, (nodesOf (lev + 1 + 1) q).map (·.2) = ((nodesOf (lev + 1) q).map (·.2)).map (· + 1) := fun q hq => ih q (lev + 1) (by have := size_lt hq; omega)
      generalize p.parts = ps at this
      induction ps with
      | nil => rfl
      | cons q ps ih2 => simp only [List.flatMap_cons]; rw [this q (by simp), ih2 (fun x hx => this x (by simp [hx]))]
  exact key p.size p lev (Nat.le_refl _)
theorem maxL_up (l : List Nat) (h : l ≠ []) : maxL (l.map (· + 1)) = maxL l + 1 := by
  induction l with
  | nil => exact absurd rfl h
  | cons x l ih =>
    have e : ∀ (y : Nat) (m : List Nat), maxL (y :: m) = max y (maxL m) := fun y m => by
      have := maxL_append [y] m
      simpa [maxL] using this
    rw [List.map_cons, e, e]
    by_cases hl : l = []
    · subst hl; simp [maxL]
    · rw [ih hl]; omega
theorem depth_eq (p : Part) : p.depth = 1 + dps p.parts := by
  have key : ∀ ps : List Part, maxL ((nodesL 2 ps).map (·.2)) = if ps = [] then 0 else 1 + dps ps := by
    intro ps
    induction ps with
    | nil => rfl
    | cons q ps ih =>
      have e : nodesL 2 (q :: ps) = nodesOf 2 q ++ nodesL 2 ps := by simp [nodesL]
      have e2 : maxL ((nodesOf 2 q).map (·.2)) = q.depth + 1 := by
        rw [levels_up q 1, maxL_up]; rfl
        rw [nodesOf_eq]; simp
      have e3 : dps (q :: ps) = max q.depth (dps ps) := by
        have := maxL_append [q.depth] (ps.map Part.depth)
        simpa [dps, maxL] using this
      rw [e, List.map_append, maxL_append, e2, ih, e3]
      by_cases hp : ps = []
      · subst hp; simp [dps, maxL]; omega
      · simp [hp]; omega
  rw [Part.depth, nodesOf_eq, List.map_cons]
  have := maxL_append [1] ((nodesL (1 + 1) p.parts).map (·.2))
  simp only [List.cons_append, List.nil_append] at this
  rw [this, key]
  by_cases hp : p.parts = []
  · rw [if_pos hp, hp]; rfl
  · rw [if_neg hp]; simp [maxL]
theorem dps_append (a b : List Part) : dps (a ++ b) = max (dps a) (dps b) := by simp [dps, maxL_append]
/-- What is told of nodes, depth and shape. -/
def ROut (p : Part) (e : Ending) : Prop := ∃ n d : Nat, e = .returned (.tuple #[.int .i64 n, .int .i64 d, .bool (allSh p)]) ∧ n ≤ p.size ∧ d ≤ p.size ∧ (allSh p = true → n = p.size ∧ d = p.depth)
/-- What has been gathered of some parts. -/
def RMid (ps : List Part) (n d : Nat) (is : Bool) : Prop := is = allShL ps ∧ n ≤ 1 + sz ps ∧ d ≤ sz ps ∧ (is = true → n = 1 + sz ps ∧ d = dps ps)
theorem RMid.nil : RMid [] 1 0 true := ⟨rfl, by omega, by omega, fun _ => ⟨rfl, rfl⟩⟩
theorem RMid.step {ps : List Part} {q : Part} {n d m k : Nat} {is ok : Bool} (h : RMid ps n d is) (hm : m ≤ q.size) (hk : k ≤ q.size) (hok : ok = allSh q) (hs : ok = true → m = q.size ∧ k = q.depth) : RMid (ps ++ [q]) (n + m) (max d k) (is && ok) := by
  obtain ⟨rfl, h1, h2, h3⟩ := h
  have e1 := sz_append ps [q]
  have e2 := sz_one q
  have e3 := dps_append ps [q]
  have e4 : dps [q] = q.depth := by simp [dps, maxL]
  refine ⟨by rw [allShL_append, hok]; simp [allShL], by omega, by omega, fun h => ?_⟩
  rw [Bool.and_eq_true] at h
  have := h3 h.1; have := hs h.2
  omega
theorem RMid.out {p : Part} {n d : Nat} {is : Bool} (h : RMid p.parts n d is) (hp : p.shaped = true) : ROut p (.returned (.tuple #[.int .i64 n, .int .i64 ((d : Int) + 1), .bool is])) := by
  obtain ⟨h0, h1, h2, h3⟩ := h
  have e1 := size_sz p; have e2 := depth_eq p
  have e3 : is = allSh p := by rw [allSh_eq, hp, h0]; rfl
  refine ⟨n, d + 1, by rw [e3]; rfl, by omega, by omega, fun h => ?_⟩
  rw [← e3] at h
  have := h3 h
  omega
theorem ROut.no {p : Part} (hp : p.shaped = false) : ROut p (.returned (.tuple #[.int .i64 1, .int .i64 1, .bool false])) := by
  have e1 := size_sz p
  have e3 : allSh p = false := by rw [allSh_eq, hp]; rfl
  exact ⟨1, 1, by rw [e3]; rfl, by omega, by omega, fun h => by rw [e3] at h; cases h⟩

end Go.Proofs.YtjmlaeofjjhfmaaGreat
/- All TermDefs of a part agree: the pure side; formed, in the words of the reference. -/
namespace Go.Proofs.YtjmlaeofjjhfmaaGreat
open Go.RowKit

/-- All TermDefs agree. -/
def agAll (p : Part) : Bool := (nodesOf 0 p).all (fun q => agreesB q.1)
theorem agAll_lev (p : Part) (a b : Nat) : (nodesOf a p).all (fun q => agreesB q.1) = (nodesOf b p).all (fun q => agreesB q.1) := by
  have h := nodesOf_fst a b p
  have e : ∀ l : List (Part × Nat), l.all (fun q => agreesB q.1) = (l.map (·.1)).all agreesB := fun l => by rw [List.all_map]; rfl
  rw [e, e, h]
theorem maxL_le (l : List Nat) (n : Nat) : maxL l ≤ n ↔ ∀ x ∈ l, x ≤ n := by
  induction l with
  | nil => simp [maxL]
  | cons y l ih =>
    have e := maxL_append [y] l
    have e2 : maxL [y] = y := by simp [maxL]
    simp only [List.cons_append, List.nil_append] at e
    rw [e, e2, Nat.max_le, ih]
    simp
theorem depth_le_iff (p : Part) (n : Nat) : p.depth ≤ n ↔ ∀ q ∈ nodesOf 1 p, q.2 ≤ n := by
  rw [Part.depth, maxL_le]
  simp only [List.mem_map, forall_exists_index, and_imp]
  exact ⟨fun h q hq => h q.2 q hq rfl, fun h x q hq e => e ▸ h q hq⟩

/-- Formed, decided as the reference does. -/
def formedB (p : Part) : Bool := decide (p.size ≤ 60) && allSh p && decide (p.depth ≤ 12) && agAll p
theorem formedB_iff {p : Part} : Formed p ↔ formedB p = true := by
  rw [formed_iff, formedB, Bool.and_eq_true, Bool.and_eq_true, Bool.and_eq_true, decide_eq_true_eq, decide_eq_true_eq, depth_le_iff, allSh, allSh_lev p 0 1, agAll, agAll_lev p 0 1, List.all_eq_true, List.all_eq_true]
  constructor
  · rintro ⟨⟨h1, h2⟩, h3⟩
    exact ⟨⟨⟨h1, fun q hq => (h2 q hq).1⟩, fun q hq => (h2 q hq).2⟩, h3⟩
  · rintro ⟨⟨⟨h1, h2⟩, h4⟩, h3⟩
    exact ⟨⟨h1, fun q hq => ⟨h2 q hq, h4 q hq⟩⟩, h3⟩
end Go.Proofs.YtjmlaeofjjhfmaaGreat
/- Put, whatever comes in. -/
namespace Go.Proofs.YtjmlaeofjjhfmaaGreat
open Go.RowKit Go.Shelf Go.Maps Go.WideMaps

set_option maxHeartbeats 1000000 in
theorem mustFit_no (B : Nat) (u : World) (t : Term) (cs : List Value) (w : World) (hu : KeptC B u w) (hB : B ≤ w.heap.size) (hf : ¬ Formed (.proc t)) (hv : TermAt B u cs t) :
    Calls Tryz.prog 88 #[.agg cs.toArray] w fun e w' => e = .panicked (refusal 3) ∧ Below w.heap.size w w' := by
  obtain ⟨op, tx, args, defs, kids⟩ := t
  have hv' := hv
  unfold TermAt at hv
  obtain ⟨hz, _, _, _, rfl, ⟨a0, p0, rfl, _⟩, ⟨a1, p1, rfl, _⟩, ⟨a2, p2, rfl, _⟩⟩ := hv
  have b1 : Below w.heap.size w (w.alloc (.cells #[.int .i64 op, .string tx, .slice a0 args.length p0, .slice a1 defs.length p1, .slice a2 kids.length p2] 33)) := (Below.refl _ w).alloc (Nat.le_refl _) _
  have hm := check_no B u (.mk op tx args defs kids) _ _ (hu.trans ((Below.keptC b1).mono hB)) (by simp; omega) hf hv'
  go_enter Tryz.func88, Tryz.ntmps88
  go_wp2_with (first
    | (go_at_call 25; refine hm.mono ?_; clear hm; rintro e w1 ⟨rfl, hb1⟩)
    | (go_at_call 103; refine (refuse_any _ _).mono ?_; rintro e w2 ⟨rfl, rfl⟩))
  exact ⟨rfl, rfl, b1.trans (hb1.mono (by simp))⟩

end Go.Proofs.YtjmlaeofjjhfmaaGreat
/- Put, whatever comes in: the work where the result is too large; all cases. -/
namespace Go.Proofs.YtjmlaeofjjhfmaaGreat
open Go.RowKit Go.Shelf Go.Maps Go.WideMaps

end Go.Proofs.YtjmlaeofjjhfmaaGreat
/- The reference's Same at two expressions that are equal. -/
namespace Go.Proofs.YtjmlaeofjjhfmaaGreat
open Go.RowKit

def SameEAt (s : Nat) : Prop := ∀ (t : Exp), (Part.exp t).size ≤ s → ∀ (B : Nat) (u w : World) (c1 c2 : List Value), KeptC B u w → B ≤ w.heap.size → ExpAt B u c1 t → ExpAt B u c2 t →
  Calls Tryz.prog 89 #[.agg c1.toArray, .agg c2.toArray] w fun e w' => e = .returned (.bool true) ∧ Below w.heap.size w w'

set_option maxHeartbeats 1000000 in
theorem sameE_one (s : Nat) (ih : SameEAt s) (op n : Int) (text : ByteArray) (kids : List Exp) (hs : (Part.exp (.mk op n text kids)).size ≤ s + 1) (B : Nat) (u w : World) (c1 c2 : List Value) (hu : KeptC B u w) (hBl : B ≤ w.heap.size)
    (hv1 : ExpAt B u c1 (.mk op n text kids)) (hv2 : ExpAt B u c2 (.mk op n text kids)) :
    Calls Tryz.prog 89 #[.agg c1.toArray, .agg c2.toArray] w fun e w' => e = .returned (.bool true) ∧ Below w.heap.size w w' := by
  unfold ExpAt at hv1 hv2
  obtain ⟨hz, _, rfl, ⟨a0, p0, rfl, l0, h0⟩⟩ := hv1
  obtain ⟨_, _, rfl, ⟨a1, p1, rfl, l1, h1⟩⟩ := hv2
  obtain ⟨W1, hW1⟩ : ∃ W1, W1 = (w.alloc (.cells #[.int .i64 op, .int .i64 n, .string text, .slice a0 kids.length p0] 36)).alloc (.cells #[.int .i64 op, .int .i64 n, .string text, .slice a1 kids.length p1] 36) := ⟨_, rfl⟩
  have z1 : W1.heap.size = w.heap.size + 2 := by rw [hW1]; simp
  have b1 : Below w.heap.size w W1 := by rw [hW1]; exact ((Below.refl _ w).alloc (Nat.le_refl _) _).alloc (by simp) _
  have hrd : ∀ W, Below (w.heap.size + 2) W1 W → W.cell? ⟨w.heap.size, 3, none⟩ = some (.slice a0 kids.length p0) ∧ W.cell? ⟨w.heap.size + 1, 3, none⟩ = some (.slice a1 kids.length p1) ∧ KeptC B u W ∧ B ≤ W.heap.size ∧ Below w.heap.size w W := by
    intro W h
    have hb := b1.trans (h.mono (by omega))
    refine ⟨(h.cell (p := ⟨w.heap.size, 3, none⟩) (by simp)).trans ?_, (h.cell (p := ⟨w.heap.size + 1, 3, none⟩) (by simp)).trans ?_, hu.trans ((Below.keptC hb).mono hBl), by have := hb.size; omega, hb⟩
    · rw [hW1, World.cell?_alloc_past _ _ _ (by simp), World.cell?_alloc_at _ _ _ _ rfl]; rfl
    · rw [hW1, World.cell?_alloc_at _ _ _ _ (by simp)]; rfl
  have hkid : ∀ k, (h : k < kids.length) → (Part.exp kids[k]).size ≤ s := fun k h => by
    have := size_lt (p := .exp (.mk op n text kids)) (q := .exp kids[k]) (by rw [Part.parts]; exact List.mem_map.2 ⟨_, List.getElem_mem h, rfl⟩)
    omega
  have HW := Lib.hid hW1
  clear hW1 hs
  go_enter Tryz.func89, Tryz.ntmps89
  go_wp2
  rw [← HW.out]
  go_loopw [5] (fun i wr => ∃ (k : Nat), k ≤ kids.length ∧ i = .int .i64 k ∧ Below (w.heap.size + 2) W1 wr) (fun i _ => kids.length - (intOf i).toNat)
  case atStart => exact ⟨0, by omega, rfl, Below.refl _ _⟩
  case round =>
    obtain ⟨k, hk, rfl, hb⟩ := hrel
    obtain ⟨x0, x1, hu1, hB1, hbw⟩ := hrd wr hb
    by_cases hlt : k < kids.length
    · rcases h0 with h0 | ⟨b0, o0, rfl, hB0, hc0⟩
      · rw [h0] at hlt; simp at hlt
      rcases h1 with h1 | ⟨b2, o2, rfl, hB2, hc2⟩
      · rw [h1] at hlt; simp at hlt
      obtain ⟨d1, e1, f1⟩ := hc0.get kids b0 o0 k hlt
      obtain ⟨d2, e2, f2⟩ := hc2.get kids b2 o2 k hlt
      obtain ⟨g0, g1, g2, g3, g4, g5, rfl⟩ := exp_shape f1
      obtain ⟨i0, i1, i2, i3, i4, i5, rfl⟩ := exp_shape f2
      obtain ⟨y0, y1, hu2, hB2', _⟩ := hrd wr.drew hb.drew
      have hS : ∀ W, Below (w.heap.size + 2) W1 W → W.cell? ⟨w.heap.size, 3, none⟩ = some (.slice (some ⟨b0, o0, none⟩) kids.length p0) ∧ W.cell? ⟨w.heap.size + 1, 3, none⟩ = some (.slice (some ⟨b2, o2, none⟩) kids.length p1) ∧
          (W.cell? ⟨b0, o0 + k * 4, none⟩ = some (.int .i64 g0) ∧ W.cell? ⟨b0, o0 + k * 4 + 1, none⟩ = some (.int .i64 g1) ∧ W.cell? ⟨b0, o0 + k * 4 + 2, none⟩ = some (.string g2) ∧ W.cell? ⟨b0, o0 + k * 4 + 3, none⟩ = some (.slice g3 g4 g5)) ∧
          W.cell? ⟨b2, o2 + k * 4, none⟩ = some (.int .i64 i0) ∧ W.cell? ⟨b2, o2 + k * 4 + 1, none⟩ = some (.int .i64 i1) ∧ W.cell? ⟨b2, o2 + k * 4 + 2, none⟩ = some (.string i2) ∧ W.cell? ⟨b2, o2 + k * 4 + 3, none⟩ = some (.slice i3 i4 i5) := fun W h => by
        obtain ⟨y0, y1, hu2, _, _⟩ := hrd W h
        exact ⟨y0, y1, cells4 (e1.keep hu2 hB0), cells4 (e2.keep hu2 hB2)⟩
      have hcall := ih kids[k] (hkid k hlt) B u wr.drew _ _ hu2 hB2' f1 f2
      have hbd := hb.drew
      obtain ⟨r0, r1, ⟨r2, r3, r4, r5⟩, r6, r7, r8, r9⟩ := hS _ hbd
      clear f1 f2 hc0 hc2
      go_wp2
      go_region_held3 (fun W => W.cell? ⟨w.heap.size, 3, none⟩ = some (.slice (some ⟨b0, o0, none⟩) kids.length p0) ∧ W.cell? ⟨w.heap.size + 1, 3, none⟩ = some (.slice (some ⟨b2, o2, none⟩) kids.length p1) ∧
          W.cell? ⟨b0, o0 + k * 4, none⟩ = some (.int .i64 g0) ∧ W.cell? ⟨b0, o0 + k * 4 + 1, none⟩ = some (.int .i64 g1) ∧ W.cell? ⟨b0, o0 + k * 4 + 2, none⟩ = some (.string g2) ∧ W.cell? ⟨b0, o0 + k * 4 + 3, none⟩ = some (.slice g3 g4 g5) ∧
          W.cell? ⟨b2, o2 + k * 4, none⟩ = some (.int .i64 i0) ∧ W.cell? ⟨b2, o2 + k * 4 + 1, none⟩ = some (.int .i64 i1) ∧ W.cell? ⟨b2, o2 + k * 4 + 2, none⟩ = some (.string i2) ∧ W.cell? ⟨b2, o2 + k * 4 + 3, none⟩ = some (.slice i3 i4 i5)) (go_keep)
        (first | (go_at_call 89; refine hcall.mono ?_; rintro e w2 ⟨rfl, hb2⟩; have hbd2 := hbd.trans (hb2.mono (by simp; have := hb.size; omega)); obtain ⟨s0, s1, ⟨s2, s3, s4, s5⟩, s6, s7, s8, s9⟩ := hS w2 hbd2))
      all_goals go_wp2
      go_roundw
      case rel => exact ⟨k + 1, by omega, by go_num, hbd2⟩
      case measure => simp [intOf]; omega
    · obtain rfl : k = kids.length := by omega
      go_wp2
      go_ret
      exact ⟨rfl, hbw⟩

theorem sameE_all : ∀ s, SameEAt s := by
  intro s
  induction s with
  | zero => intro t ht; have := size_pos (.exp t); omega
  | succ s ih =>
    intro t ht B u w c1 c2 hu hB h1 h2
    obtain ⟨op, n, text, kids⟩ := t
    exact sameE_one s ih op n text kids ht B u w c1 c2 hu hB h1 h2

end Go.Proofs.YtjmlaeofjjhfmaaGreat
/- The reference's Same at two processes that are equal. -/
namespace Go.Proofs.YtjmlaeofjjhfmaaGreat
open Go.RowKit

def SameTAt (s : Nat) : Prop := ∀ (t : Term), (Part.proc t).size ≤ s → ∀ (B : Nat) (u w : World) (c1 c2 : List Value), KeptC B u w → B ≤ w.heap.size → TermAt B u c1 t → TermAt B u c2 t →
  Calls Tryz.prog 34 #[.agg c1.toArray, .agg c2.toArray] w fun e w' => e = .returned (.bool true) ∧ Below w.heap.size w w'
def SameCAt (s : Nat) : Prop := ∀ (t : Clause), (Part.def_ t).size ≤ s → ∀ (B : Nat) (u w : World) (c1 c2 : List Value), KeptC B u w → B ≤ w.heap.size → ClauseAt B u c1 t → ClauseAt B u c2 t →
  Calls Tryz.prog 90 #[.agg c1.toArray, .agg c2.toArray] w fun e w' => e = .returned (.bool true) ∧ Below w.heap.size w w'

set_option maxHeartbeats 1000000 in
theorem sameTs_any (kids : List Term) (hkT : ∀ k, (h : k < kids.length) → ∀ (B : Nat) (u w : World) (c1 c2 : List Value), KeptC B u w → B ≤ w.heap.size → TermAt B u c1 kids[k] → TermAt B u c2 kids[k] →
      Calls Tryz.prog 34 #[.agg c1.toArray, .agg c2.toArray] w fun e w' => e = .returned (.bool true) ∧ Below w.heap.size w w') (B : Nat) (u w : World) (v1 v2 : Value) (hu : KeptC B u w) (hBl : B ≤ w.heap.size)
    (hv1 : SlAt B v1 kids.length (fun b off => TermsAt B u b off kids)) (hv2 : SlAt B v2 kids.length (fun b off => TermsAt B u b off kids)) :
    Calls Tryz.prog 47 #[v1, v2] w fun e w' => e = .returned (.bool true) ∧ Below w.heap.size w w' := by
  obtain ⟨a0, p0, rfl, l0, h0⟩ := hv1
  obtain ⟨a1, p1, rfl, l1, h1⟩ := hv2
  have hrd : ∀ W, Below w.heap.size w W → KeptC B u W ∧ B ≤ W.heap.size ∧ Below w.heap.size w W := fun W h => ⟨hu.trans ((Below.keptC h).mono hBl), by have := h.size; omega, h⟩
  go_enter Tryz.func47, Tryz.ntmps47
  go_wp2
  go_loopw [5] (fun i wr => ∃ (k : Nat), k ≤ kids.length ∧ i = .int .i64 k ∧ Below (w.heap.size) w wr) (fun i _ => kids.length - (intOf i).toNat)
  case atStart => exact ⟨0, by omega, rfl, Below.refl _ _⟩
  case round =>
    obtain ⟨k, hk, rfl, hb⟩ := hrel
    obtain ⟨hu1, hB1, hbw⟩ := hrd wr hb
    by_cases hlt : k < kids.length
    · rcases h0 with h0 | ⟨b0, o0, rfl, hB0, hc0⟩
      · rw [h0] at hlt; simp at hlt
      rcases h1 with h1 | ⟨b2, o2, rfl, hB2, hc2⟩
      · rw [h1] at hlt; simp at hlt
      obtain ⟨d1, e1, f1⟩ := hc0.get kids b0 o0 k hlt
      obtain ⟨d2, e2, f2⟩ := hc2.get kids b2 o2 k hlt
      obtain ⟨g0, g1, g2, g3, g4, g5, g6, g7, g8, g9, gA, rfl⟩ := term_shape f1
      obtain ⟨i0, i1, i2, i3, i4, i5, i6, i7, i8, i9, iA, rfl⟩ := term_shape f2
      have hbd := hb.drew
      obtain ⟨hu2, hB2', _⟩ := hrd wr.drew hbd
      have hS : ∀ W, Below (w.heap.size) w W → (W.cell? ⟨b0, o0 + k * 5, none⟩ = some (.int .i64 g0) ∧ W.cell? ⟨b0, o0 + k * 5 + 1, none⟩ = some (.string g1) ∧ W.cell? ⟨b0, o0 + k * 5 + 2, none⟩ = some (.slice g2 g3 g4) ∧ W.cell? ⟨b0, o0 + k * 5 + 3, none⟩ = some (.slice g5 g6 g7) ∧ W.cell? ⟨b0, o0 + k * 5 + 4, none⟩ = some (.slice g8 g9 gA)) ∧ W.cell? ⟨b2, o2 + k * 5, none⟩ = some (.int .i64 i0) ∧ W.cell? ⟨b2, o2 + k * 5 + 1, none⟩ = some (.string i1) ∧ W.cell? ⟨b2, o2 + k * 5 + 2, none⟩ = some (.slice i2 i3 i4) ∧ W.cell? ⟨b2, o2 + k * 5 + 3, none⟩ = some (.slice i5 i6 i7) ∧ W.cell? ⟨b2, o2 + k * 5 + 4, none⟩ = some (.slice i8 i9 iA) := fun W h => by
        have hu2 := (hrd W h).1
        exact ⟨cells5 (e1.keep hu2 hB0), cells5 (e2.keep hu2 hB2)⟩
      have hcall := hkT k hlt B u wr.drew _ _ hu2 hB2' f1 f2
      obtain ⟨⟨y0, y1, y2, y3, y4⟩, x0, x1, x2, x3, x4⟩ := hS _ hbd
      clear f1 f2 hc0 hc2
      go_wp2
      go_region_held3 (fun W => W.cell? ⟨b0, o0 + k * 5, none⟩ = some (.int .i64 g0) ∧ W.cell? ⟨b0, o0 + k * 5 + 1, none⟩ = some (.string g1) ∧ W.cell? ⟨b0, o0 + k * 5 + 2, none⟩ = some (.slice g2 g3 g4) ∧ W.cell? ⟨b0, o0 + k * 5 + 3, none⟩ = some (.slice g5 g6 g7) ∧ W.cell? ⟨b0, o0 + k * 5 + 4, none⟩ = some (.slice g8 g9 gA) ∧ W.cell? ⟨b2, o2 + k * 5, none⟩ = some (.int .i64 i0) ∧ W.cell? ⟨b2, o2 + k * 5 + 1, none⟩ = some (.string i1) ∧ W.cell? ⟨b2, o2 + k * 5 + 2, none⟩ = some (.slice i2 i3 i4) ∧ W.cell? ⟨b2, o2 + k * 5 + 3, none⟩ = some (.slice i5 i6 i7) ∧ W.cell? ⟨b2, o2 + k * 5 + 4, none⟩ = some (.slice i8 i9 iA)) (go_keep)
        (first | (go_at_call 34; refine hcall.mono ?_; rintro e w2 ⟨rfl, hb2⟩; have hbd2 := hbd.trans (hb2.mono (by simp; have := hb.size; omega)); obtain ⟨⟨yy0, yy1, yy2, yy3, yy4⟩, xx0, xx1, xx2, xx3, xx4⟩ := hS w2 hbd2))
      all_goals go_wp2
      go_roundw
      case rel => exact ⟨k + 1, by omega, by go_num, hbd2⟩
      case measure => simp [intOf]; omega
    · obtain rfl : k = kids.length := by omega
      go_wp2
      go_ret
      exact ⟨rfl, hbw⟩

set_option maxHeartbeats 2000000 in
theorem sameT_one (s : Nat) (ihT : SameTAt s) (ihC : SameCAt s) (op : Int) (text : ByteArray) (args : List Exp) (defs : List Clause) (kids : List Term) (hs : (Part.proc (.mk op text args defs kids)).size ≤ s + 1) (B : Nat) (u w : World) (c1 c2 : List Value) (hu : KeptC B u w) (hBl : B ≤ w.heap.size)
    (hv1 : TermAt B u c1 (.mk op text args defs kids)) (hv2 : TermAt B u c2 (.mk op text args defs kids)) :
    Calls Tryz.prog 34 #[.agg c1.toArray, .agg c2.toArray] w fun e w' => e = .returned (.bool true) ∧ Below w.heap.size w w' := by
  unfold TermAt at hv1 hv2
  obtain ⟨hz, _, _, _, rfl, ⟨a0, p0, rfl, l0, h0⟩, ⟨a1, p1, rfl, l1, h1⟩, ⟨a2, p2, rfl, l2, h2⟩⟩ := hv1
  obtain ⟨_, _, _, _, rfl, ⟨b0', q0, rfl, _, g0⟩, ⟨b1', q1, rfl, _, g1⟩, ⟨b2', q2, rfl, _, g2⟩⟩ := hv2
  obtain ⟨W1, hW1⟩ : ∃ W1, W1 = (w.alloc (.cells #[.int .i64 op, .string text, .slice a0 args.length p0, .slice a1 defs.length p1, .slice a2 kids.length p2] 33)).alloc (.cells #[.int .i64 op, .string text, .slice b0' args.length q0, .slice b1' defs.length q1, .slice b2' kids.length q2] 33) := ⟨_, rfl⟩
  have z1 : W1.heap.size = w.heap.size + 2 := by rw [hW1]; simp
  have b1 : Below w.heap.size w W1 := by rw [hW1]; exact ((Below.refl _ w).alloc (Nat.le_refl _) _).alloc (by simp) _
  have hrd : ∀ W, Below (w.heap.size + 2) W1 W → KeptC B u W ∧ B ≤ W.heap.size ∧ Below w.heap.size w W := by
    intro W h
    have hb := b1.trans (h.mono (by omega))
    exact ⟨hu.trans ((Below.keptC hb).mono hBl), by have := hb.size; omega, hb⟩
  have hrd2 : ∀ W, Below (w.heap.size + 2) W1 W → W.cell? ⟨w.heap.size, 2, none⟩ = some (.slice a0 args.length p0) ∧ W.cell? ⟨w.heap.size + 1, 2, none⟩ = some (.slice b0' args.length q0) ∧ KeptC B u W := by
    intro W h
    refine ⟨(h.cell (p := ⟨w.heap.size, 2, none⟩) (by simp)).trans ?_, (h.cell (p := ⟨w.heap.size + 1, 2, none⟩) (by simp)).trans ?_, (hrd W h).1⟩
    · rw [hW1, World.cell?_alloc_past _ _ _ (by simp), World.cell?_alloc_at _ _ _ _ rfl]; rfl
    · rw [hW1, World.cell?_alloc_at _ _ _ _ (by simp)]; rfl
  have hrd3 : ∀ W, Below (w.heap.size + 2) W1 W → W.cell? ⟨w.heap.size, 3, none⟩ = some (.slice a1 defs.length p1) ∧ W.cell? ⟨w.heap.size + 1, 3, none⟩ = some (.slice b1' defs.length q1) ∧ KeptC B u W := by
    intro W h
    refine ⟨(h.cell (p := ⟨w.heap.size, 3, none⟩) (by simp)).trans ?_, (h.cell (p := ⟨w.heap.size + 1, 3, none⟩) (by simp)).trans ?_, (hrd W h).1⟩
    · rw [hW1, World.cell?_alloc_past _ _ _ (by simp), World.cell?_alloc_at _ _ _ _ rfl]; rfl
    · rw [hW1, World.cell?_alloc_at _ _ _ _ (by simp)]; rfl
  have hrd4 : ∀ W, Below (w.heap.size + 2) W1 W → W.cell? ⟨w.heap.size, 4, none⟩ = some (.slice a2 kids.length p2) ∧ W.cell? ⟨w.heap.size + 1, 4, none⟩ = some (.slice b2' kids.length q2) ∧ KeptC B u W := by
    intro W h
    refine ⟨(h.cell (p := ⟨w.heap.size, 4, none⟩) (by simp)).trans ?_, (h.cell (p := ⟨w.heap.size + 1, 4, none⟩) (by simp)).trans ?_, (hrd W h).1⟩
    · rw [hW1, World.cell?_alloc_past _ _ _ (by simp), World.cell?_alloc_at _ _ _ _ rfl]; rfl
    · rw [hW1, World.cell?_alloc_at _ _ _ _ (by simp)]; rfl
  have hka : ∀ k, (h : k < args.length) → (Part.exp args[k]).size ≤ s := fun k h => by
    have := size_lt (p := .proc (.mk op text args defs kids)) (q := .exp args[k]) (part_args (List.getElem_mem h)); omega
  have hkd : ∀ k, (h : k < defs.length) → (Part.def_ defs[k]).size ≤ s := fun k h => by
    have := size_lt (p := .proc (.mk op text args defs kids)) (q := .def_ defs[k]) (part_defs (List.getElem_mem h)); omega
  have hkk : ∀ k, (h : k < kids.length) → ∀ (B : Nat) (u w : World) (c1 c2 : List Value), KeptC B u w → B ≤ w.heap.size → TermAt B u c1 kids[k] → TermAt B u c2 kids[k] →
      Calls Tryz.prog 34 #[.agg c1.toArray, .agg c2.toArray] w fun e w' => e = .returned (.bool true) ∧ Below w.heap.size w w' := fun k h => ihT kids[k] (by
    have := size_lt (p := .proc (.mk op text args defs kids)) (q := .proc kids[k]) (part_kids (List.getElem_mem h)); omega)
  have HW := Lib.hid hW1
  clear hW1 hs
  go_enter Tryz.func34, Tryz.ntmps34
  go_wp2
  rw [← HW.out]
  go_loopw [5] (fun i wr => ∃ (k : Nat), k ≤ args.length ∧ i = .int .i64 k ∧ Below (w.heap.size + 2) W1 wr) (fun i _ => args.length - (intOf i).toNat)
  case atStart => exact ⟨0, by omega, rfl, Below.refl _ _⟩
  case round =>
    obtain ⟨k, hk, rfl, hb⟩ := hrel
    obtain ⟨m0, m1, hu1⟩ := hrd2 wr hb
    obtain ⟨hu1, hB1, hbw⟩ := hrd wr hb
    by_cases hlt : k < args.length
    · rcases h0 with h0 | ⟨b0, o0, rfl, hB0, hc0⟩
      · rw [h0] at hlt; simp at hlt
      rcases g0 with h1 | ⟨b2, o2, rfl, hB2, hc2⟩
      · rw [h1] at hlt; simp at hlt
      obtain ⟨d1, e1, f1⟩ := hc0.get args b0 o0 k hlt
      obtain ⟨d2, e2, f2⟩ := hc2.get args b2 o2 k hlt
      obtain ⟨g0, g1, g2, g3, g4, g5, rfl⟩ := exp_shape f1
      obtain ⟨i0, i1, i2, i3, i4, i5, rfl⟩ := exp_shape f2
      have hbd := hb.drew
      obtain ⟨hu2, hB2', _⟩ := hrd wr.drew hbd
      have hS : ∀ W, Below (w.heap.size + 2) W1 W → W.cell? ⟨w.heap.size, 2, none⟩ = some (.slice (some ⟨b0, o0, none⟩) args.length p0) ∧ W.cell? ⟨w.heap.size + 1, 2, none⟩ = some (.slice (some ⟨b2, o2, none⟩) args.length q0) ∧ (W.cell? ⟨b0, o0 + k * 4, none⟩ = some (.int .i64 g0) ∧ W.cell? ⟨b0, o0 + k * 4 + 1, none⟩ = some (.int .i64 g1) ∧ W.cell? ⟨b0, o0 + k * 4 + 2, none⟩ = some (.string g2) ∧ W.cell? ⟨b0, o0 + k * 4 + 3, none⟩ = some (.slice g3 g4 g5)) ∧ W.cell? ⟨b2, o2 + k * 4, none⟩ = some (.int .i64 i0) ∧ W.cell? ⟨b2, o2 + k * 4 + 1, none⟩ = some (.int .i64 i1) ∧ W.cell? ⟨b2, o2 + k * 4 + 2, none⟩ = some (.string i2) ∧ W.cell? ⟨b2, o2 + k * 4 + 3, none⟩ = some (.slice i3 i4 i5) := fun W h => by
        obtain ⟨y0, y1, hu2⟩ := hrd2 W h
        exact ⟨y0, y1, cells4 (e1.keep hu2 hB0), cells4 (e2.keep hu2 hB2)⟩
      have hcall := sameE_all s args[k] (hka k hlt) B u wr.drew _ _ hu2 hB2' f1 f2
      obtain ⟨z0, z1, ⟨y0, y1, y2, y3⟩, x0, x1, x2, x3⟩ := hS _ hbd
      clear f1 f2 hc0 hc2
      go_wp2
      go_region_held3 (fun W => W.cell? ⟨w.heap.size, 2, none⟩ = some (.slice (some ⟨b0, o0, none⟩) args.length p0) ∧ W.cell? ⟨w.heap.size + 1, 2, none⟩ = some (.slice (some ⟨b2, o2, none⟩) args.length q0) ∧ W.cell? ⟨b0, o0 + k * 4, none⟩ = some (.int .i64 g0) ∧ W.cell? ⟨b0, o0 + k * 4 + 1, none⟩ = some (.int .i64 g1) ∧ W.cell? ⟨b0, o0 + k * 4 + 2, none⟩ = some (.string g2) ∧ W.cell? ⟨b0, o0 + k * 4 + 3, none⟩ = some (.slice g3 g4 g5) ∧ W.cell? ⟨b2, o2 + k * 4, none⟩ = some (.int .i64 i0) ∧ W.cell? ⟨b2, o2 + k * 4 + 1, none⟩ = some (.int .i64 i1) ∧ W.cell? ⟨b2, o2 + k * 4 + 2, none⟩ = some (.string i2) ∧ W.cell? ⟨b2, o2 + k * 4 + 3, none⟩ = some (.slice i3 i4 i5)) (go_keep)
        (first | (go_at_call 89; refine hcall.mono ?_; rintro e w2 ⟨rfl, hb2⟩; have hbd2 := hbd.trans (hb2.mono (by simp; have := hb.size; omega)); obtain ⟨zz0, zz1, ⟨yy0, yy1, yy2, yy3⟩, xx0, xx1, xx2, xx3⟩ := hS w2 hbd2))
      all_goals go_wp2
      go_roundw
      case rel => exact ⟨k + 1, by omega, by go_num, hbd2⟩
      case measure => simp [intOf]; omega
    · obtain rfl : k = args.length := by omega
      go_wp2
      have hbb := hb
      clear hb hu1 m0 m1
      go_loopw [6] (fun i wr => ∃ (k : Nat), k ≤ defs.length ∧ i = .int .i64 k ∧ Below (w.heap.size + 2) W1 wr) (fun i _ => defs.length - (intOf i).toNat)
      case atStart => exact ⟨0, by omega, rfl, hbb⟩
      case round =>
        obtain ⟨k, hk, rfl, hb⟩ := hrel
        obtain ⟨m0, m1, hu1⟩ := hrd3 wr hb
        obtain ⟨hu1, hB1, hbw⟩ := hrd wr hb
        by_cases hlt : k < defs.length
        · rcases h1 with h0 | ⟨b0, o0, rfl, hB0, hc0⟩
          · rw [h0] at hlt; simp at hlt
          rcases g1 with h1 | ⟨b2, o2, rfl, hB2, hc2⟩
          · rw [h1] at hlt; simp at hlt
          obtain ⟨d1, e1, f1⟩ := hc0.get defs b0 o0 k hlt
          obtain ⟨d2, e2, f2⟩ := hc2.get defs b2 o2 k hlt
          obtain ⟨g0, g1, g2, g3, g4, g5, g6, g7, g8, g9, gA, rfl⟩ := clause_shape f1
          obtain ⟨i0, i1, i2, i3, i4, i5, i6, i7, i8, i9, iA, rfl⟩ := clause_shape f2
          have hbd := hb.drew
          obtain ⟨hu2, hB2', _⟩ := hrd wr.drew hbd
          have hS : ∀ W, Below (w.heap.size + 2) W1 W → W.cell? ⟨w.heap.size, 3, none⟩ = some (.slice (some ⟨b0, o0, none⟩) defs.length p1) ∧ W.cell? ⟨w.heap.size + 1, 3, none⟩ = some (.slice (some ⟨b2, o2, none⟩) defs.length q1) ∧ (W.cell? ⟨b0, o0 + k * 5, none⟩ = some (.int .i64 g0) ∧ W.cell? ⟨b0, o0 + k * 5 + 1, none⟩ = some (.string g1) ∧ W.cell? ⟨b0, o0 + k * 5 + 2, none⟩ = some (.slice g2 g3 g4) ∧ W.cell? ⟨b0, o0 + k * 5 + 3, none⟩ = some (.slice g5 g6 g7) ∧ W.cell? ⟨b0, o0 + k * 5 + 4, none⟩ = some (.slice g8 g9 gA)) ∧ W.cell? ⟨b2, o2 + k * 5, none⟩ = some (.int .i64 i0) ∧ W.cell? ⟨b2, o2 + k * 5 + 1, none⟩ = some (.string i1) ∧ W.cell? ⟨b2, o2 + k * 5 + 2, none⟩ = some (.slice i2 i3 i4) ∧ W.cell? ⟨b2, o2 + k * 5 + 3, none⟩ = some (.slice i5 i6 i7) ∧ W.cell? ⟨b2, o2 + k * 5 + 4, none⟩ = some (.slice i8 i9 iA) := fun W h => by
            obtain ⟨y0, y1, hu2⟩ := hrd3 W h
            exact ⟨y0, y1, cells5 (e1.keep hu2 hB0), cells5 (e2.keep hu2 hB2)⟩
          have hcall := ihC defs[k] (hkd k hlt) B u wr.drew _ _ hu2 hB2' f1 f2
          obtain ⟨z0, z1, ⟨y0, y1, y2, y3, y4⟩, x0, x1, x2, x3, x4⟩ := hS _ hbd
          clear f1 f2 hc0 hc2
          go_wp2
          go_region_held3 (fun W => W.cell? ⟨w.heap.size, 3, none⟩ = some (.slice (some ⟨b0, o0, none⟩) defs.length p1) ∧ W.cell? ⟨w.heap.size + 1, 3, none⟩ = some (.slice (some ⟨b2, o2, none⟩) defs.length q1) ∧ W.cell? ⟨b0, o0 + k * 5, none⟩ = some (.int .i64 g0) ∧ W.cell? ⟨b0, o0 + k * 5 + 1, none⟩ = some (.string g1) ∧ W.cell? ⟨b0, o0 + k * 5 + 2, none⟩ = some (.slice g2 g3 g4) ∧ W.cell? ⟨b0, o0 + k * 5 + 3, none⟩ = some (.slice g5 g6 g7) ∧ W.cell? ⟨b0, o0 + k * 5 + 4, none⟩ = some (.slice g8 g9 gA) ∧ W.cell? ⟨b2, o2 + k * 5, none⟩ = some (.int .i64 i0) ∧ W.cell? ⟨b2, o2 + k * 5 + 1, none⟩ = some (.string i1) ∧ W.cell? ⟨b2, o2 + k * 5 + 2, none⟩ = some (.slice i2 i3 i4) ∧ W.cell? ⟨b2, o2 + k * 5 + 3, none⟩ = some (.slice i5 i6 i7) ∧ W.cell? ⟨b2, o2 + k * 5 + 4, none⟩ = some (.slice i8 i9 iA)) (go_keep)
            (first | (go_at_call 90; refine hcall.mono ?_; rintro e w2 ⟨rfl, hb2⟩; have hbd2 := hbd.trans (hb2.mono (by simp; have := hb.size; omega)); obtain ⟨zz0, zz1, ⟨yy0, yy1, yy2, yy3, yy4⟩, xx0, xx1, xx2, xx3, xx4⟩ := hS w2 hbd2))
          all_goals go_wp2
          go_roundw
          case rel => exact ⟨k + 1, by omega, by go_num, hbd2⟩
          case measure => simp [intOf]; omega
        · obtain rfl : k = defs.length := by omega
          obtain ⟨t0, t1, _⟩ := hrd4 wr hb
          have hcall := sameTs_any kids hkk B u wr _ _ hu1 hB1 ⟨a2, p2, rfl, l2, h2⟩ ⟨b2', q2, rfl, l2, g2⟩
          go_wp2_with (go_at_call 47; refine hcall.mono ?_; rintro e w2 ⟨rfl, hb2⟩)
          go_ret
          exact ⟨rfl, hbw.trans (hb2.mono hbw.size)⟩


end Go.Proofs.YtjmlaeofjjhfmaaGreat
/- The reference's look at an expression: exp. -/
namespace Go.Proofs.YtjmlaeofjjhfmaaGreat
open Go.RowKit

end Go.Proofs.YtjmlaeofjjhfmaaGreat
/- The reference's look at the Joins of a rule. -/
namespace Go.Proofs.YtjmlaeofjjhfmaaGreat
open Go.RowKit Go.Maps

/-- Names, all different. -/
def good (ss : List ByteArray) : Prop := ss.all nameB = true ∧ (ss.map bytesOf).Nodup
theorem Away.symm {v v' : Value} (h : Away v v') : Away v' v := fun g hg e => h g e hg

end Go.Proofs.YtjmlaeofjjhfmaaGreat
