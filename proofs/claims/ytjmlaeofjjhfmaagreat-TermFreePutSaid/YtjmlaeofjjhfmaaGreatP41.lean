/- The reference's look at an expression: one, exp. -/
import Derived.Test.YtjmlaeofjjhfmaaGreatP40
import Derived.Test.YtjmlaeofjjhfmaaGreatP12
import Derived.Test.YtjmlaeofjjhfmaaGreatP24
import Derived.Test.YtjmlaeofjjhfmaaGreatP35
set_option linter.unusedVariables false
set_option linter.unusedSimpArgs false
namespace Go.Proofs.YtjmlaeofjjhfmaaGreat
open Go.RowKit

/-- All nodes are shaped. -/
def allSh (p : Part) : Bool := (nodesOf 0 p).all (fun q => q.1.shaped)
def allShL (ps : List Part) : Bool := ps.all allSh
theorem allSh_lev (p : Part) (a b : Nat) : (nodesOf a p).all (fun q => q.1.shaped) = (nodesOf b p).all (fun q => q.1.shaped) := by
  have h := nodesOf_fst a b p
  have e : ∀ l : List (Part × Nat), l.all (fun q => q.1.shaped) = (l.map (·.1)).all Part.shaped := fun l => by rw [List.all_map]; rfl
  rw [e, e, h]
theorem allSh_eq (p : Part) : allSh p = (p.shaped && allShL p.parts) := by
  rw [allSh, nodesOf_eq, List.all_cons]
  congr 1
  unfold nodesL allShL
  rw [List.all_flatMap]
  congr 1
  funext q
  rw [allSh_lev q (0 + 1) 0]; rfl
theorem allShL_append (a b : List Part) : allShL (a ++ b) = (allShL a && allShL b) := by simp [allShL, List.all_append]
theorem maxL_append (a b : List Nat) : maxL (a ++ b) = max (maxL a) (maxL b) := by
  have key : ∀ (l : List Nat) (x : Nat), l.foldl max x = max x (l.foldl max 0) := by
    intro l
    induction l with
    | nil => intro x; simp
    | cons y l ih => intro x; simp only [List.foldl_cons]; rw [ih, ih (max 0 y)]; omega
  simp only [maxL, List.foldl_append]
  exact key b _
def dps (ps : List Part) : Nat := maxL (ps.map Part.depth)
theorem levels_up (p : Part) (lev : Nat) : ((nodesOf (lev + 1) p).map (·.2)) = ((nodesOf lev p).map (·.2)).map (· + 1) := by
  have key : ∀ (s : Nat) (p : Part) (lev : Nat), p.size ≤ s → ((nodesOf (lev + 1) p).map (·.2)) = ((nodesOf lev p).map (·.2)).map (· + 1) := by
    intro s
    induction s with
    | zero => intro p lev hp; exact absurd (by rw [Part.size, nodesOf_eq]; simp) (Nat.not_lt.2 hp)
    | succ s ih =>
      intro p lev hp
      rw [nodesOf_eq, nodesOf_eq lev, List.map_cons, List.map_cons, List.map_cons]
      congr 1
      unfold nodesL
      rw [List.map_flatMap, List.map_flatMap, List.map_flatMap]
      have : ∀ q ∈ p.parts, (nodesOf (lev + 1 + 1) q).map (·.2) = ((nodesOf (lev + 1) q).map (·.2)).map (· + 1) := fun q hq => ih q (lev + 1) (by have := size_lt hq; omega)
      generalize p.parts = ps at this
      induction ps with
      | nil => rfl
      | cons q ps ih2 => simp only [List.flatMap_cons]; rw [this q (by simp), ih2 (fun x hx => this x (by simp [hx]))]
  exact key p.size p lev (Nat.le_refl _)
theorem maxL_up (l : List Nat) (h : l ≠ []) : maxL (l.map (· + 1)) = maxL l + 1 := by
  induction l with
  | nil => exact absurd rfl h
  | cons x l ih =>
    have e : ∀ (y : Nat) (m : List Nat), maxL (y :: m) = max y (maxL m) := fun y m => by
      have := maxL_append [y] m
      simpa [maxL] using this
    rw [List.map_cons, e, e]
    by_cases hl : l = []
    · subst hl; simp [maxL]
    · rw [ih hl]; omega
theorem depth_eq (p : Part) : p.depth = 1 + dps p.parts := by
  have key : ∀ ps : List Part, maxL ((nodesL 2 ps).map (·.2)) = if ps = [] then 0 else 1 + dps ps := by
    intro ps
    induction ps with
    | nil => rfl
    | cons q ps ih =>
      have e : nodesL 2 (q :: ps) = nodesOf 2 q ++ nodesL 2 ps := by simp [nodesL]
      have e2 : maxL ((nodesOf 2 q).map (·.2)) = q.depth + 1 := by
        rw [levels_up q 1, maxL_up]; rfl
        rw [nodesOf_eq]; simp
      have e3 : dps (q :: ps) = max q.depth (dps ps) := by
        have := maxL_append [q.depth] (ps.map Part.depth)
        simpa [dps, maxL] using this
      rw [e, List.map_append, maxL_append, e2, ih, e3]
      by_cases hp : ps = []
      · subst hp; simp [dps, maxL]; omega
      · simp [hp]; omega
  rw [Part.depth, nodesOf_eq, List.map_cons]
  have := maxL_append [1] ((nodesL (1 + 1) p.parts).map (·.2))
  simp only [List.cons_append, List.nil_append] at this
  rw [this, key]
  by_cases hp : p.parts = []
  · rw [if_pos hp, hp]; rfl
  · rw [if_neg hp]; simp [maxL]
theorem dps_append (a b : List Part) : dps (a ++ b) = max (dps a) (dps b) := by simp [dps, maxL_append]
/-- What is told of nodes, depth and shape. -/
def ROut (p : Part) (e : Ending) : Prop := ∃ n d : Nat, e = .returned (.tuple #[.int .i64 n, .int .i64 d, .bool (allSh p)]) ∧ n ≤ p.size ∧ d ≤ p.size ∧ (allSh p = true → n = p.size ∧ d = p.depth)
/-- What has been gathered of some parts. -/
def RMid (ps : List Part) (n d : Nat) (is : Bool) : Prop := is = allShL ps ∧ n ≤ 1 + sz ps ∧ d ≤ sz ps ∧ (is = true → n = 1 + sz ps ∧ d = dps ps)
theorem RMid.nil : RMid [] 1 0 true := ⟨rfl, by omega, by omega, fun _ => ⟨rfl, rfl⟩⟩
theorem RMid.step {ps : List Part} {q : Part} {n d m k : Nat} {is ok : Bool} (h : RMid ps n d is) (hm : m ≤ q.size) (hk : k ≤ q.size) (hok : ok = allSh q) (hs : ok = true → m = q.size ∧ k = q.depth) : RMid (ps ++ [q]) (n + m) (max d k) (is && ok) := by
  obtain ⟨rfl, h1, h2, h3⟩ := h
  have e1 := sz_append ps [q]
  have e2 := sz_one q
  have e3 := dps_append ps [q]
  have e4 : dps [q] = q.depth := by simp [dps, maxL]
  refine ⟨by rw [allShL_append, hok]; simp [allShL], by omega, by omega, fun h => ?_⟩
  rw [Bool.and_eq_true] at h
  have := h3 h.1; have := hs h.2
  omega
theorem RMid.out {p : Part} {n d : Nat} {is : Bool} (h : RMid p.parts n d is) (hp : p.shaped = true) : ROut p (.returned (.tuple #[.int .i64 n, .int .i64 ((d : Int) + 1), .bool is])) := by
  obtain ⟨h0, h1, h2, h3⟩ := h
  have e1 := size_sz p; have e2 := depth_eq p
  have e3 : is = allSh p := by rw [allSh_eq, hp, h0]; rfl
  refine ⟨n, d + 1, by rw [e3]; rfl, by omega, by omega, fun h => ?_⟩
  rw [← e3] at h
  have := h3 h
  omega
theorem ROut.no {p : Part} (hp : p.shaped = false) : ROut p (.returned (.tuple #[.int .i64 1, .int .i64 1, .bool false])) := by
  have e1 := size_sz p
  have e3 : allSh p = false := by rw [allSh_eq, hp]; rfl
  exact ⟨1, 1, by rw [e3]; rfl, by omega, by omega, fun h => by rw [e3] at h; cases h⟩

end Go.Proofs.YtjmlaeofjjhfmaaGreat
/- All TermDefs of a part agree: the pure side; formed, in the words of the reference. -/
namespace Go.Proofs.YtjmlaeofjjhfmaaGreat
open Go.RowKit

/-- All TermDefs agree. -/
def agAll (p : Part) : Bool := (nodesOf 0 p).all (fun q => agreesB q.1)
def agAllL (ps : List Part) : Bool := ps.all agAll
theorem agAll_lev (p : Part) (a b : Nat) : (nodesOf a p).all (fun q => agreesB q.1) = (nodesOf b p).all (fun q => agreesB q.1) := by
  have h := nodesOf_fst a b p
  have e : ∀ l : List (Part × Nat), l.all (fun q => agreesB q.1) = (l.map (·.1)).all agreesB := fun l => by rw [List.all_map]; rfl
  rw [e, e, h]
theorem agAll_eq (p : Part) : agAll p = (agreesB p && agAllL p.parts) := by
  rw [agAll, nodesOf_eq, List.all_cons]
  congr 1
  unfold nodesL agAllL
  rw [List.all_flatMap]
  congr 1
  funext q
  rw [agAll_lev q (0 + 1) 0]; rfl
theorem agAll_exp (e : Exp) : agAll (.exp e) = true := by
  have key : ∀ (s : Nat) (e : Exp), (Part.exp e).size ≤ s → agAll (.exp e) = true := by
    intro s
    induction s with
    | zero => intro p hp; exact absurd (by rw [Part.size, nodesOf_eq]; simp) (Nat.not_lt.2 hp)
    | succ s ih =>
      intro e he
      rw [agAll_eq]
      obtain ⟨o, n, t, k⟩ := e
      simp only [agreesB, Bool.true_and, Part.parts, agAllL, List.all_map, List.all_eq_true]
      intro x hx
      exact ih x (by have := size_lt (p := .exp (.mk o n t k)) (q := .exp x) (List.mem_map.2 ⟨x, hx, rfl⟩); omega)
  exact key _ e (Nat.le_refl _)
theorem maxL_le (l : List Nat) (n : Nat) : maxL l ≤ n ↔ ∀ x ∈ l, x ≤ n := by
  induction l with
  | nil => simp [maxL]
  | cons y l ih =>
    have e := maxL_append [y] l
    have e2 : maxL [y] = y := by simp [maxL]
    simp only [List.cons_append, List.nil_append] at e
    rw [e, e2, Nat.max_le, ih]
    simp
theorem depth_le_iff (p : Part) (n : Nat) : p.depth ≤ n ↔ ∀ q ∈ nodesOf 1 p, q.2 ≤ n := by
  rw [Part.depth, maxL_le]
  simp only [List.mem_map, forall_exists_index, and_imp]
  exact ⟨fun h q hq => h q.2 q hq rfl, fun h x q hq e => e ▸ h q hq⟩

/-- Formed, decided as the reference does. -/
def formedB (p : Part) : Bool := decide (p.size ≤ 60) && allSh p && decide (p.depth ≤ 12) && agAll p
theorem formedB_iff {p : Part} : Formed p ↔ formedB p = true := by
  rw [formed_iff, formedB, Bool.and_eq_true, Bool.and_eq_true, Bool.and_eq_true, decide_eq_true_eq, decide_eq_true_eq, depth_le_iff, allSh, allSh_lev p 0 1, agAll, agAll_lev p 0 1, List.all_eq_true, List.all_eq_true]
  constructor
  · rintro ⟨⟨h1, h2⟩, h3⟩
    exact ⟨⟨⟨h1, fun q hq => (h2 q hq).1⟩, fun q hq => (h2 q hq).2⟩, h3⟩
  · rintro ⟨⟨⟨h1, h2⟩, h4⟩, h3⟩
    exact ⟨⟨h1, fun q hq => ⟨h2 q hq, h4 q hq⟩⟩, h3⟩
end Go.Proofs.YtjmlaeofjjhfmaaGreat
/- Put, whatever comes in. -/
namespace Go.Proofs.YtjmlaeofjjhfmaaGreat
open Go.RowKit Go.Shelf Go.Maps Go.WideMaps

set_option maxHeartbeats 1000000 in
theorem mustName_no (s : ByteArray) (w : World) (hs : s.size ≤ maxLen) (hn : nameB s = false) :
    Calls Tryz.prog 84 #[.string s] w fun e w' => e = .panicked (refusal 2) ∧ Below w.heap.size w w' := by
  have hR := tname_any s w hs
  rw [hn] at hR
  go_enter Tryz.func84, Tryz.ntmps84
  go_wp2_with (first
    | (go_at_call 16; refine hR.mono ?_; clear hR; rintro e w1 ⟨rfl, hb1⟩)
    | (go_at_call 103; refine (refuse_any _ _).mono ?_; rintro e w2 ⟨rfl, rfl⟩))
  exact ⟨rfl, rfl, hb1⟩

set_option maxHeartbeats 1000000 in
theorem mustFit_no (B : Nat) (u : World) (t : Term) (cs : List Value) (w : World) (hu : KeptC B u w) (hB : B ≤ w.heap.size) (hf : ¬ Formed (.proc t)) (hv : TermAt B u cs t) :
    Calls Tryz.prog 88 #[.agg cs.toArray] w fun e w' => e = .panicked (refusal 3) ∧ Below w.heap.size w w' := by
  obtain ⟨op, tx, args, defs, kids⟩ := t
  have hv' := hv
  unfold TermAt at hv
  obtain ⟨hz, _, _, _, rfl, ⟨a0, p0, rfl, _⟩, ⟨a1, p1, rfl, _⟩, ⟨a2, p2, rfl, _⟩⟩ := hv
  have b1 : Below w.heap.size w (w.alloc (.cells #[.int .i64 op, .string tx, .slice a0 args.length p0, .slice a1 defs.length p1, .slice a2 kids.length p2] 33)) := (Below.refl _ w).alloc (Nat.le_refl _) _
  have hm := check_no B u (.mk op tx args defs kids) _ _ (hu.trans ((Below.keptC b1).mono hB)) (by simp; omega) hf hv'
  go_enter Tryz.func88, Tryz.ntmps88
  go_wp2_with (first
    | (go_at_call 25; refine hm.mono ?_; clear hm; rintro e w1 ⟨rfl, hb1⟩)
    | (go_at_call 103; refine (refuse_any _ _).mono ?_; rintro e w2 ⟨rfl, rfl⟩))
  exact ⟨rfl, rfl, b1.trans (hb1.mono (by simp))⟩

set_option maxRecDepth 10000 in
set_option maxHeartbeats 2000000 in
/-- Put, where its work gives up. -/
theorem put_up (o0 : Int) (tx : ByteArray) (s0 : Option Addr) (m0 k0 : Nat) (s1 : Option Addr) (m1 k1 : Nat) (s2 : Option Addr) (m2 k2 : Nat) (x : ByteArray) (e0 e1 : Int) (e2 : ByteArray) (e3 : Option Addr) (e4 e5 : Nat) (w : World) (c : Int)
    (hw : ∀ WC : World, Below w.heap.size w WC → CellsAt WC w.heap.size 0 [.int .i64 o0, .string tx, .slice s0 m0 k0, .slice s1 m1 k1, .slice s2 m2 k2] → WC.cell? ⟨w.heap.size + 1, 0, none⟩ = some (.string x) → CellsAt WC (w.heap.size + 2) 0 [.int .i64 e0, .int .i64 e1, .string e2, .slice e3 e4 e5] →
      Calls Tryz.prog 83 #[.pointer (some ⟨w.heap.size, 0, none⟩), .pointer (some ⟨w.heap.size + 1, 0, none⟩), .pointer (some ⟨w.heap.size + 2, 0, none⟩)] WC fun e' w' => e' = .panicked (refusal c) ∧ Below WC.heap.size WC w') :
    Calls Tryz.prog 33 #[.agg #[.int .i64 o0, .string tx, .slice s0 m0 k0, .slice s1 m1 k1, .slice s2 m2 k2], .string x, .agg #[.int .i64 e0, .int .i64 e1, .string e2, .slice e3 e4 e5]] w fun e' w' => e' = .returned (.tuple #[.agg #[.int .i64 0, .string ⟨#[]⟩, .slice none 0 0, .slice none 0 0, .slice none 0 0], .int .i64 c]) ∧ Below w.heap.size w w' := by
  obtain ⟨W0, hW0⟩ : ∃ W0, W0 = ((((w.alloc (.cells #[.int .i64 o0, .string tx, .slice s0 m0 k0, .slice s1 m1 k1, .slice s2 m2 k2] 33)).alloc (.cells #[.string x] 9)).alloc (.cells #[.int .i64 e0, .int .i64 e1, .string e2, .slice e3 e4 e5] 36)).alloc (.cells #[.int .i64 0, .string ⟨#[]⟩, .slice none 0 0, .slice none 0 0, .slice none 0 0] 33)) := ⟨_, rfl⟩
  have hb0 : Below w.heap.size w W0 := by rw [hW0]; exact ((((Below.refl _ w).alloc (Nat.le_refl _) _).alloc (by simp) _).alloc (by simp; omega) _).alloc (by simp; omega) _
  have hz : W0.heap.size = w.heap.size + 4 := by rw [hW0]; simp
  have h0 : W0.heap[w.heap.size]? = some (.cells #[.int .i64 o0, .string tx, .slice s0 m0 k0, .slice s1 m1 k1, .slice s2 m2 k2] 33) := by
    rw [hW0, Below.heap_alloc _ _ _ (by simp <;> omega), Below.heap_alloc _ _ _ (by simp <;> omega), Below.heap_alloc _ _ _ (by simp)]; exact World.alloc_heap_new w _
  have h1 : W0.heap[w.heap.size + 1]? = some (.cells #[.string x] 9) := by
    rw [hW0, Below.heap_alloc _ _ _ (by simp <;> omega), Below.heap_alloc _ _ _ (by simp)]
    have := World.alloc_heap_new (w.alloc (.cells #[.int .i64 o0, .string tx, .slice s0 m0 k0, .slice s1 m1 k1, .slice s2 m2 k2] 33)) (.cells #[.string x] 9); rwa [World.size_alloc] at this
  have h2 : W0.heap[w.heap.size + 2]? = some (.cells #[.int .i64 e0, .int .i64 e1, .string e2, .slice e3 e4 e5] 36) := by
    rw [hW0, Below.heap_alloc _ _ _ (by simp)]
    have := World.alloc_heap_new ((w.alloc (.cells #[.int .i64 o0, .string tx, .slice s0 m0 k0, .slice s1 m1 k1, .slice s2 m2 k2] 33)).alloc (.cells #[.string x] 9)) (.cells #[.int .i64 e0, .int .i64 e1, .string e2, .slice e3 e4 e5] 36); rwa [World.size_alloc, World.size_alloc] at this
  have h3 : Zero33 W0 (w.heap.size + 3) := by
    unfold Zero33
    rw [hW0]
    have := World.alloc_heap_new (((w.alloc (.cells #[.int .i64 o0, .string tx, .slice s0 m0 k0, .slice s1 m1 k1, .slice s2 m2 k2] 33)).alloc (.cells #[.string x] 9)).alloc (.cells #[.int .i64 e0, .int .i64 e1, .string e2, .slice e3 e4 e5] 36)) (.cells #[.int .i64 0, .string ⟨#[]⟩, .slice none 0 0, .slice none 0 0, .slice none 0 0] 33); rwa [World.size_alloc, World.size_alloc, World.size_alloc] at this
  obtain ⟨WC, hWC⟩ : ∃ WC, WC = (W0.alloc (.cells #[.int .i64 0, .string ⟨#[]⟩, .slice none 0 0, .slice none 0 0, .slice none 0 0] 33)).alloc (.cells #[.int .i64 0] 37) := ⟨_, rfl⟩
  have hbC : Below W0.heap.size W0 WC := by rw [hWC]; exact ((Below.refl _ W0).alloc (Nat.le_refl _) _).alloc (by simp) _
  have hzC : WC.heap.size = W0.heap.size + 2 := by rw [hWC]; simp
  have hbwC := hb0.trans (hbC.mono (by omega))
  have hw := hw WC hbwC
    (fun j hj => by
      have q := (hbC.block w.heap.size (by omega)).trans h0
      match j, hj with
      | 0, _ => simp [World.cell?, q]
      | 1, _ => simp [World.cell?, q]
      | 2, _ => simp [World.cell?, q]
      | 3, _ => simp [World.cell?, q]
      | 4, _ => simp [World.cell?, q])
    (by have q := (hbC.block (w.heap.size + 1) (by omega)).trans h1; simp [World.cell?, q])
    (fun j hj => by
      have q := (hbC.block (w.heap.size + 2) (by omega)).trans h2
      match j, hj with
      | 0, _ => simp [World.cell?, q]
      | 1, _ => simp [World.cell?, q]
      | 2, _ => simp [World.cell?, q]
      | 3, _ => simp [World.cell?, q])
  have hmf : ∀ (fn : Fn) (first cap : Array Value) (w : World), (Instr.makeFunc fn first cap).run Tryz.prog w = .ok (.func fn first cap) w := fun _ _ _ _ => rfl
  have e83 : ∀ args w, (callFunc 83 args).run Tryz.prog w = .ok (.enter 83 args) w := enters_of Tryz.func83 (by kernel_rfl) rfl
  have HW := Lib.hid hW0
  have HZ := Lib.hid hz
  have HZC := Lib.hid hzC
  clear h0 h1 h2
  have ha := attempt_82_up 83 #[.pointer (some ⟨w.heap.size, 0, none⟩), .pointer (some ⟨w.heap.size + 1, 0, none⟩), .pointer (some ⟨w.heap.size + 2, 0, none⟩)] c W0 e83 (by
    rw [← hWC, ← hzC]
    refine hw.mono ?_
    rintro e' w' ⟨h1, h2⟩
    exact ⟨h1, h2⟩)
  clear hw hWC hW0 hz hzC
  go_enter Tryz.func33, Tryz.ntmps33
  go_wp2_with (go_at_call 82; rw [← HW.out]; refine ha.mono ?_; clear ha; rintro e' w1 ⟨rfl, hb1⟩; obtain ⟨x0, x1, x2, x3, x4, xf⟩ := Zero33.cells ((hb1.block (w.heap.size + 3) (by have := HZ.out; omega)).trans h3))
  simp [bodyPost, results, Tryz.results33, go_sem, x0, x1, x2, x3, x4]
  exact set5 (hb0.trans (hb1.mono (by have := HZ.out; omega))) (w.heap.size + 3) (by omega) _ _ _ _ _

set_option maxRecDepth 10000 in
set_option maxHeartbeats 4000000 in
/-- Put's work, where an argument is not as it must be. -/
theorem put_work_no (B : Nat) (u : World) (t : Term) (x : ByteArray) (e : Exp) (hbad : ¬ (Formed (.proc t) ∧ nameB x = true ∧ Formed (.exp e))) (hxz : x.size ≤ maxLen) (cs es : List Value) (hat : TermAt B u cs t) (hae : ExpAt B u es e)
    (w : World) (hu : KeptC B u w) (hB : B ≤ w.heap.size) (n0 n1 n2 : Nat) (c0 : CellsAt w n0 0 cs) (c1 : w.cell? ⟨n1, 0, none⟩ = some (.string x)) (c2 : CellsAt w n2 0 es) :
    Calls Tryz.prog 83 #[.pointer (some ⟨n0, 0, none⟩), .pointer (some ⟨n1, 0, none⟩), .pointer (some ⟨n2, 0, none⟩)] w fun e' w' => e' = .panicked (refusal 2) ∧ Below w.heap.size w w' := by
  obtain ⟨o0, tx, s0, m0, k0, s1, m1, k1, s2, m2, k2, rfl⟩ := term_shape hat
  obtain ⟨e0, e1, e2, e3, e4, e5, rfl⟩ := exp_shape hae
  obtain ⟨W0, hW0⟩ : ∃ W0, W0 = w.alloc (.cells #[.int .i64 0, .string ⟨#[]⟩, .slice none 0 0, .slice none 0 0, .slice none 0 0] 33) := ⟨_, rfl⟩
  have hb0 : Below w.heap.size w W0 := by rw [hW0]; exact (Below.refl _ w).alloc (Nat.le_refl _) _
  have hz : W0.heap.size = w.heap.size + 1 := by rw [hW0]; simp
  have hrd : ∀ W, Below W0.heap.size W0 W → (W.cell? ⟨n0, 0, none⟩ = some (.int .i64 o0) ∧ W.cell? ⟨n0, 1, none⟩ = some (.string tx) ∧ W.cell? ⟨n0, 2, none⟩ = some (.slice s0 m0 k0) ∧ W.cell? ⟨n0, 3, none⟩ = some (.slice s1 m1 k1) ∧ W.cell? ⟨n0, 4, none⟩ = some (.slice s2 m2 k2)) ∧
      W.cell? ⟨n1, 0, none⟩ = some (.string x) ∧ (W.cell? ⟨n2, 0, none⟩ = some (.int .i64 e0) ∧ W.cell? ⟨n2, 1, none⟩ = some (.int .i64 e1) ∧ W.cell? ⟨n2, 2, none⟩ = some (.string e2) ∧ W.cell? ⟨n2, 3, none⟩ = some (.slice e3 e4 e5)) ∧ KeptC B u W ∧ B ≤ W.heap.size ∧ Below w.heap.size w W := by
    intro W h
    have hbW := hb0.trans (h.mono (by omega))
    refine ⟨cells5 (c0.below hbW (lt_of_cell (c0 0 (by simp)))), (hbW.cell (p := ⟨n1, 0, none⟩) (lt_of_cell c1)).trans c1, cells4 (c2.below hbW (lt_of_cell (c2 0 (by simp)))), hu.trans ((Below.keptC hbW).mono hB), by have := hbW.size; omega, hbW⟩
  have hpt : PartAt B u (.iface 83 (.agg #[.int .i64 o0, .string tx, .slice s0 m0 k0, .slice s1 m1 k1, .slice s2 m2 k2])) (.proc t) := ⟨_, rfl, hat⟩
  have hpe : PartAt B u (.iface 88 (.agg #[.int .i64 e0, .int .i64 e1, .string e2, .slice e3 e4 e5])) (.exp e) := ⟨_, rfl, hae⟩
  have HW := Lib.hid hW0
  have HZ := Lib.hid hz
  obtain ⟨q0, q1, q2, q3, q4, q5⟩ := hrd W0 (Below.refl _ _)
  obtain ⟨a0, a1, a2, a3, a4⟩ := q0
  rw [hW0] at a0 a1 a2 a3 a4
  have HC0 := Lib.hid c0
  have HC2 := Lib.hid c2
  have HA := Lib.hid hat
  have HE := Lib.hid hae
  by_cases hf : Formed (.proc t)
  · have hm1 := must_ok B u _ _ W0 q3 q4 hf hpt
    clear hW0 hz c0 c2 hat hae
    go_enter Tryz.func83, Tryz.ntmps83
    go_wp2_with fail
    rw [← HW.out]
    refine hm1.mono ?_
    clear hm1
    rintro e' w1 ⟨rfl, hb1⟩
    obtain ⟨⟨b0', b1', b2', b3', b4'⟩, g1, ⟨g2, g3, g4, g5⟩, hu1, hB1, hbw1⟩ := hrd w1 hb1
    by_cases hx : nameB x = true
    · have hfe : ¬ Formed (.exp e) := fun h => hbad ⟨hf, hx, h⟩
      go_wp2_with fail
      refine (mustName_ok x w1 hxz hx).mono ?_
      rintro e' w2 ⟨rfl, hb2⟩
      have hb2 := hb1.trans (hb2.mono hb1.size)
      clear a0 a1 a2 a3 a4 q1 q2 b0' b1' b2' b3' b4' g1 g2 g3 g4 g5
      obtain ⟨⟨b0', b1', b2', b3', b4'⟩, g1, ⟨g2, g3, g4, g5⟩, hu2, hB2, hbw2⟩ := hrd w2 hb2
      go_wp2_with fail
      refine (must_no B u _ _ w2 hu2 hB2 hfe hpe).mono ?_
      rintro e' w3 ⟨rfl, hb3⟩
      have hb3 := hb2.trans (hb3.mono hb2.size)
      exact ⟨rfl, rfl, (hrd w3 hb3).2.2.2.2.2⟩
    · have hx' : nameB x = false := by simpa using hx
      go_wp2_with fail
      refine (mustName_no x w1 hxz hx').mono ?_
      rintro e' w2 ⟨rfl, hb2⟩
      have hb2 := hb1.trans (hb2.mono hb1.size)
      exact ⟨rfl, rfl, (hrd w2 hb2).2.2.2.2.2⟩
  · have hm1 := must_no B u _ _ W0 q3 q4 hf hpt
    clear hW0 hz c0 c2 hat hae
    go_enter Tryz.func83, Tryz.ntmps83
    go_wp2_with fail
    rw [← HW.out]
    refine hm1.mono ?_
    clear hm1
    rintro e' w1 ⟨rfl, hb1⟩
    exact ⟨rfl, rfl, (hrd w1 hb1).2.2.2.2.2⟩

end Go.Proofs.YtjmlaeofjjhfmaaGreat
/- Put, whatever comes in: the work where the result is too large; all cases. -/
namespace Go.Proofs.YtjmlaeofjjhfmaaGreat
open Go.RowKit Go.Shelf Go.Maps Go.WideMaps

set_option maxRecDepth 10000 in
set_option maxHeartbeats 4000000 in
/-- Put's work, where the result is too large. -/
theorem put_work_long (B : Nat) (u : World) (t : Term) (x : ByteArray) (e : Exp) (hf : Formed (.proc t)) (hfe : Formed (.exp e)) (hx : nameB x = true) (hxz : x.size ≤ maxLen) (hpl : plainE e = true) (cs es : List Value) (hat : TermAt B u cs t) (hae : ExpAt B u es e)
    (w : World) (hu : KeptC B u w) (hB : B ≤ w.heap.size) (n0 n1 n2 : Nat) (c0 : CellsAt w n0 0 cs) (c1 : w.cell? ⟨n1, 0, none⟩ = some (.string x)) (c2 : CellsAt w n2 0 es)
    (y : Term × Used) (hR : some y = copyT ⟨.putting x e, [frame0]⟩ (usedP t x e) t) (hfy : ¬ Formed (.proc y.1)) (kc : Nat) (hcov : Cov (usedP t x e) kc) (hkc : kc + bcT t ≤ 4900) :
    Calls Tryz.prog 83 #[.pointer (some ⟨n0, 0, none⟩), .pointer (some ⟨n1, 0, none⟩), .pointer (some ⟨n2, 0, none⟩)] w fun e' w' => e' = .panicked (refusal 3) ∧ Below w.heap.size w w' := by
  obtain ⟨o0, o1, tx, s0, m0, k0, s1, m1, k1, s2, m2, k2, rfl⟩ : ∃ (o0 : Int) (o1 : Unit) (tx : ByteArray) (s0 : Option Addr) (m0 k0 : Nat) (s1 : Option Addr) (m1 k1 : Nat) (s2 : Option Addr) (m2 k2 : Nat), cs = [.int .i64 o0, .string tx, .slice s0 m0 k0, .slice s1 m1 k1, .slice s2 m2 k2] := by
    obtain ⟨a1, a2, a3, a4, a5, a6, a7, a8, a9, a10, a11, h⟩ := term_shape hat
    exact ⟨a1, (), a2, a3, a4, a5, a6, a7, a8, a9, a10, a11, h⟩
  obtain ⟨e0, e1, e2, e3, e4, e5, rfl⟩ := exp_shape hae
  obtain ⟨W0, hW0⟩ : ∃ W0, W0 = w.alloc (.cells #[.int .i64 0, .string ⟨#[]⟩, .slice none 0 0, .slice none 0 0, .slice none 0 0] 33) := ⟨_, rfl⟩
  have hb0 : Below w.heap.size w W0 := by rw [hW0]; exact (Below.refl _ w).alloc (Nat.le_refl _) _
  have hz : W0.heap.size = w.heap.size + 1 := by rw [hW0]; simp
  have z0 : Zero33 W0 w.heap.size := by unfold Zero33; rw [hW0]; exact World.alloc_heap_new w _
  have hrd : ∀ W, Below W0.heap.size W0 W → (W.cell? ⟨n0, 0, none⟩ = some (.int .i64 o0) ∧ W.cell? ⟨n0, 1, none⟩ = some (.string tx) ∧ W.cell? ⟨n0, 2, none⟩ = some (.slice s0 m0 k0) ∧ W.cell? ⟨n0, 3, none⟩ = some (.slice s1 m1 k1) ∧ W.cell? ⟨n0, 4, none⟩ = some (.slice s2 m2 k2)) ∧
      W.cell? ⟨n1, 0, none⟩ = some (.string x) ∧ (W.cell? ⟨n2, 0, none⟩ = some (.int .i64 e0) ∧ W.cell? ⟨n2, 1, none⟩ = some (.int .i64 e1) ∧ W.cell? ⟨n2, 2, none⟩ = some (.string e2) ∧ W.cell? ⟨n2, 3, none⟩ = some (.slice e3 e4 e5)) ∧ KeptC B u W ∧ B ≤ W.heap.size ∧ Zero33 W w.heap.size ∧ Below w.heap.size w W := by
    intro W h
    have hbW := hb0.trans (h.mono (by omega))
    refine ⟨cells5 (c0.below hbW (lt_of_cell (c0 0 (by simp)))), (hbW.cell (p := ⟨n1, 0, none⟩) (lt_of_cell c1)).trans c1, cells4 (c2.below hbW (lt_of_cell (c2 0 (by simp)))), hu.trans ((Below.keptC hbW).mono hB), by have := hbW.size; omega, (h.block _ (by omega)).trans z0, hbW⟩
  have hpt : PartAt B u (.iface 83 (.agg #[.int .i64 o0, .string tx, .slice s0 m0 k0, .slice s1 m1 k1, .slice s2 m2 k2])) (.proc t) := ⟨_, rfl, hat⟩
  have hpe : PartAt B u (.iface 88 (.agg #[.int .i64 e0, .int .i64 e1, .string e2, .slice e3 e4 e5])) (.exp e) := ⟨_, rfl, hae⟩
  have HW := Lib.hid hW0
  have HZ := Lib.hid hz
  obtain ⟨q0, q1, q2, q3, q4, q5, q6⟩ := hrd W0 (Below.refl _ _)
  obtain ⟨a0, a1, a2, a3, a4⟩ := q0
  have hm1 := must_ok B u _ _ W0 q3 q4 hf hpt
  rw [hW0] at a0 a1 a2 a3 a4
  have HR := Lib.hid hR
  have HC0 := Lib.hid c0
  have HC2 := Lib.hid c2
  have HA := Lib.hid hat
  have HE := Lib.hid hae
  clear hW0 hz hR c0 c2 hat hae
  go_enter Tryz.func83, Tryz.ntmps83
  go_wp2_with fail
  rw [← HW.out]
  refine hm1.mono ?_
  clear hm1
  rintro e' w1 ⟨rfl, hb1⟩
  obtain ⟨⟨b0', b1', b2', b3', b4'⟩, g1, ⟨g2, g3, g4, g5⟩, hu1, hB1, zz1, hbw1⟩ := hrd w1 hb1
  go_wp2_with fail
  refine (mustName_ok x w1 hxz hx).mono ?_
  rintro e' w2 ⟨rfl, hb2⟩
  have hb2 := hb1.trans (hb2.mono hb1.size)
  clear a0 a1 a2 a3 a4 q1 q2 b0' b1' b2' b3' b4' g1 g2 g3 g4 g5
  obtain ⟨⟨b0', b1', b2', b3', b4'⟩, g1, ⟨g2, g3, g4, g5⟩, hu2, hB2, zz2, hbw2⟩ := hrd w2 hb2
  go_wp2_with fail
  refine (must_ok B u _ _ w2 hu2 hB2 hfe hpe).mono ?_
  rintro e' w3 ⟨rfl, hb3⟩
  have hb3 := hb2.trans (hb3.mono hb2.size)
  clear b0' b1' b2' b3' b4' g1 g2 g3 g4 g5
  obtain ⟨⟨b0', b1', b2', b3', b4'⟩, g1, ⟨g2, g3, g4, g5⟩, hu3, hB3, zz3, hbw3⟩ := hrd w3 hb3
  go_wp2_with fail
  refine ((callsIn_wide (n := 6)).1 (written_in 6 B (by omega) u _ _ w3 hu3 hB3 hf.allSmall hf.allBind (by have := hf.1; omega) hpt)).mono ?_
  rintro e' w4 ⟨bu, rfl, hbu, hs4, hb34⟩
  have hb4 := hb3.trans (hb34.mono hb3.size)
  clear b0' b1' b2' b3' b4' g1 g2 g3 g4 g5
  obtain ⟨⟨b0', b1', b2', b3', b4'⟩, g1, ⟨g2, g3, g4, g5⟩, hu4, hB4, zz4, hbw4⟩ := hrd w4 hb4
  have hbuz : W0.heap.size ≤ bu := by have := hb3.size; omega
  go_wp2_with fail
  refine ((callsIn_wide (n := 6)).1 (written_in 6 B (by omega) u _ _ w4 hu4 hB4 hfe.allSmall hfe.allBind (by have := hfe.1; omega) hpe)).mono ?_
  rintro e' w5 ⟨b2, rfl, hb2z, hs5, hb45⟩
  have hs4' := hs4.later hb45
  have hcp := hs4'.copy hs5 (by have := hs4.lt; omega) (by unfold maxLen; omega)
  have hb5 := hb4.trans (hb45.mono hb4.size)
  clear b0' b1' b2' b3' b4' g1 g2 g3 g4 g5
  go_wp2_with fail
  refine hcp.mono ?_
  clear hcp
  rintro e' w6 ⟨rfl, hs6, hg6⟩
  have hb6 : Below W0.heap.size W0 w6 := hb5.grown hg6 hb5.size (fun r e => by have := Option.some.inj e; omega)
  obtain ⟨⟨b0', b1', b2', b3', b4'⟩, g1, ⟨g2, g3, g4, g5⟩, hu6, hB6, zz6, hbw6⟩ := hrd w6 hb6
  obtain ⟨w7, r7, s7, g7⟩ := hs6.put (by unfold maxLen; omega) hxz
  have hb7 : Below W0.heap.size W0 w7 := hb6.grown g7 hb6.size (fun r e => by have := Option.some.inj e; omega)
  obtain ⟨⟨d0', d1', d2', d3', d4'⟩, f1, ⟨f2, f3, f4, f5⟩, hu7, hB7, zz7, hbw7⟩ := hrd w7 hb7
  have hBu : ∀ r, some bu = some r → B ≤ r := fun r e => by have := Option.some.inj e; have := HZ.out; omega
  have hcpy := copy_start (B := B) (u := u) (m := some bu) (b := .putting x e) hBu (by simp) t hf (.iface 118 (.agg #[.map (some bu), .string x, .int .i64 e0, .int .i64 e1, .string e2, .slice e3 e4 e5])) w7
    ⟨hxz, ⟨hfe.1, hfe.allSmall, hfe.allBind, hpl⟩, _, _, _, _, _, _, rfl, HE.out⟩ hu7 hB7 (usedP t x e) 0 _ HA.out ⟨⟨200000000 + 200000000 + 1, by omega, fun b' hb' => by obtain rfl := Option.some.inj hb'; exact s7⟩, kc, by omega, hcov⟩
  rw [← HR.out] at hcpy
  go_wp2_with fail
  refine hcpy.mono ?_
  clear hcpy
  intro e' w8 hh
  obtain ⟨cs', rfl, ht8, _, hg8⟩ := hh
  obtain ⟨a1, a2, a3, a4, a5, a6, a7, a8, a9, a10, a11, rfl⟩ := term_shape ht8
  have hb8 : Below W0.heap.size W0 w8 := hb7.grown hg8 hb7.size (fun r e => by have := Option.some.inj e; omega)
  have hal : Below w8.heap.size w8 (w8.alloc (.cells #[.int .i64 a1, .string a2, .slice a3 a4 a5, .slice a6 a7 a8, .slice a9 a10 a11] 33)) := (Below.refl _ w8).alloc (Nat.le_refl _) _
  have hfit := mustFit_no w8.heap.size w8 y.1 [.int .i64 a1, .string a2, .slice a3 a4 a5, .slice a6 a7 a8, .slice a9 a10 a11] (w8.alloc (.cells #[.int .i64 a1, .string a2, .slice a3 a4 a5, .slice a6 a7 a8, .slice a9 a10 a11] 33)) (Below.keptC hal) (by simp) hfy (TermAt.keep (blank_off _ _ _) (Nat.le_refl _) _ _ ht8)
  have hb9 : Below W0.heap.size W0 (w8.alloc (.cells #[.int .i64 a1, .string a2, .slice a3 a4 a5, .slice a6 a7 a8, .slice a9 a10 a11] 33)) := hb8.trans (hal.mono hb8.size)
  clear b0' b1' b2' b3' b4' g1 g2 g3 g4 g5 d0' d1' d2' d3' d4' f1 f2 f3 f4 f5
  go_wp2_with fail
  refine hfit.mono ?_
  clear hfit
  rintro e' w9 ⟨rfl, hb89⟩
  have hbA := hb9.trans (hb89.mono (by rw [World.size_alloc]; have := hb8.size; omega))
  obtain ⟨_, _, _, _, _, zz9, hbw9⟩ := hrd w9 hbA
  exact ⟨rfl, rfl, hbw9⟩

/-- What Put answers. -/
def putR (t : Term) (x : ByteArray) (e : Exp) : Option (Term × Used) := copyT ⟨.putting x e, [frame0]⟩ (usedP t x e) t
def putOut : Option (Term × Used) → Int
  | none => 7
  | some y => if formedB (.proc y.1) then 0 else 3
def putCode (t : Term) (x : ByteArray) (e : Exp) : Int := if formedB (.proc t) && nameB x && formedB (.exp e) then putOut (putR t x e) else 2
def PutAt (t : Term) (x : ByteArray) (e : Exp) (cs : List Value) (w : World) : Prop :=
  (putCode t x e = 0 ∧ formedB (.proc t) = true ∧ formedB (.exp e) = true ∧ ∃ y, putR t x e = some y ∧ formedB (.proc y.1) = true ∧ TermAt w.heap.size w cs y.1) ∨ (putCode t x e ≠ 0 ∧ cs = zero5)

theorem pput_any (t : Term) (x : ByteArray) (e : Exp) (hxz : x.size ≤ maxLen) (B : Nat) (u w : World) (cs es : List Value) (hu : KeptC B u w) (hB : B ≤ w.heap.size) (hat : TermAt B u cs t) (hae : ExpAt B u es e) :
    Calls Tryz.prog 33 #[.agg cs.toArray, .string x, .agg es.toArray] w fun e' w' => ∃ cs', e' = .returned (.tuple #[.agg cs'.toArray, .int .i64 (putCode t x e)]) ∧ Hid (PutAt t x e cs' w') ∧ cs'.length = 5 ∧ Below w.heap.size w w' := by
  by_cases hgood : Formed (.proc t) ∧ nameB x = true ∧ Formed (.exp e)
  · obtain ⟨hf, hx, hfe⟩ := hgood
    have hcode : putCode t x e = putOut (putR t x e) := by unfold putCode; rw [formedB_iff.1 hf, hx, formedB_iff.1 hfe]; rfl
    have hpl := (okE_of e (formed_fine hfe)).2
    have hcov := cov_used t x e hf.1 (formed_fine hf) hfe.1
    have hbc := bcT_le t 0 (formed_fine hf)
    have hz : (nodesT 0 t).length ≤ 60 := hf.1
    cases hR : putR t x e with
    | none =>
      rw [hR] at hcode
      obtain ⟨o0, tx, s0, m0, k0, s1, m1, k1, s2, m2, k2, rfl⟩ := term_shape hat
      obtain ⟨e0, e1, e2, e3, e4, e5, rfl⟩ := exp_shape hae
      refine (put_up o0 tx s0 m0 k0 s1 m1 k1 s2 m2 k2 x e0 e1 e2 e3 e4 e5 w 7 (fun WC hb a1 a2 a3 => (put_work B u t x e hf hfe hx hxz hpl _ _ hat hae WC (hu.trans ((Below.keptC hb).mono hB)) (by have := hb.size; omega) _ _ _ a1 a2 a3 none hR.symm (fun y hy => by cases hy) 1000 hcov (by omega)).mono (fun _ _ h => h))).mono ?_
      rintro e' w' ⟨h1, h2⟩
      rw [hcode]
      exact ⟨zero5, h1, Lib.hid (.inr ⟨by rw [hcode]; decide, rfl⟩), rfl, h2⟩
    | some y =>
      rw [hR] at hcode
      cases hy : formedB (.proc y.1) with
      | true =>
        have hcode' : putCode t x e = 0 := by rw [hcode]; unfold putOut; simp only; rw [hy]; rfl
        refine (put_any B u t x e hf hfe hx hxz hpl cs es hat hae w hu hB (some y) hR.symm (fun z hz => by cases hz; exact formedB_iff.2 hy) 1000 hcov (by omega)).mono ?_
        rintro e' w' ⟨cs', h1, h2, h3, h4⟩
        rw [hcode']
        exact ⟨cs', h1, Lib.hid (.inl ⟨hcode', formedB_iff.1 hf, formedB_iff.1 hfe, y, hR, hy, h3 y rfl⟩), h2, h4⟩
      | false =>
        have hcode' : putCode t x e = 3 := by rw [hcode]; unfold putOut; simp only; rw [hy]; rfl
        obtain ⟨o0, tx, s0, m0, k0, s1, m1, k1, s2, m2, k2, rfl⟩ := term_shape hat
        obtain ⟨e0, e1, e2, e3, e4, e5, rfl⟩ := exp_shape hae
        refine (put_up o0 tx s0 m0 k0 s1 m1 k1 s2 m2 k2 x e0 e1 e2 e3 e4 e5 w 3 (fun WC hb a1 a2 a3 => put_work_long B u t x e hf hfe hx hxz hpl _ _ hat hae WC (hu.trans ((Below.keptC hb).mono hB)) (by have := hb.size; omega) _ _ _ a1 a2 a3 y hR.symm (fun h => by rw [formedB_iff.1 h] at hy; cases hy) 1000 hcov (by omega))).mono ?_
        rintro e' w' ⟨h1, h2⟩
        rw [hcode']
        exact ⟨zero5, h1, Lib.hid (.inr ⟨by rw [hcode']; decide, rfl⟩), rfl, h2⟩
  · have hcode : putCode t x e = 2 := by
      unfold putCode
      rw [if_neg]
      intro h
      rw [Bool.and_eq_true, Bool.and_eq_true] at h
      exact hgood ⟨formedB_iff.2 h.1.1, h.1.2, formedB_iff.2 h.2⟩
    obtain ⟨o0, tx, s0, m0, k0, s1, m1, k1, s2, m2, k2, rfl⟩ := term_shape hat
    obtain ⟨e0, e1, e2, e3, e4, e5, rfl⟩ := exp_shape hae
    refine (put_up o0 tx s0 m0 k0 s1 m1 k1 s2 m2 k2 x e0 e1 e2 e3 e4 e5 w 2 (fun WC hb a1 a2 a3 => put_work_no B u t x e hgood hxz _ _ hat hae WC (hu.trans ((Below.keptC hb).mono hB)) (by have := hb.size; omega) _ _ _ a1 a2 a3)).mono ?_
    rintro e' w' ⟨h1, h2⟩
    rw [hcode]
    exact ⟨zero5, h1, Lib.hid (.inr ⟨by rw [hcode]; decide, rfl⟩), rfl, h2⟩

end Go.Proofs.YtjmlaeofjjhfmaaGreat
