/- All TermDefs of a part agree: the pure side; formed, in the words of the reference. -/
import Derived.Test.YtjmlaeofjjhfmaaGreatC37
import Derived.Test.YtjmlaeofjjhfmaaGreatC40
import Derived.Test.YtjmlaeofjjhfmaaGreatC44
set_option linter.unusedVariables false
set_option linter.unusedSimpArgs false
namespace Go.Proofs.YtjmlaeofjjhfmaaGreat
open Go.RowKit

/-- All TermDefs agree. -/
def agAll (p : Part) : Bool := (nodesOf 0 p).all (fun q => agreesB q.1)
def agAllL (ps : List Part) : Bool := ps.all agAll
theorem agAll_lev (p : Part) (a b : Nat) : (nodesOf a p).all (fun q => agreesB q.1) = (nodesOf b p).all (fun q => agreesB q.1) := by
  have h := nodesOf_fst a b p
  have e : ∀ l : List (Part × Nat), l.all (fun q => agreesB q.1) = (l.map (·.1)).all agreesB := fun l => by rw [List.all_map]; rfl
  rw [e, e, h]
theorem agAll_eq (p : Part) : agAll p = (agreesB p && agAllL p.parts) := by
  rw [agAll, nodesOf_eq, List.all_cons]
  congr 1
  unfold nodesL agAllL
  rw [List.all_flatMap]
  congr 1
  funext q
  rw [agAll_lev q (0 + 1) 0]; rfl
theorem agAllL_append (a b : List Part) : agAllL (a ++ b) = (agAllL a && agAllL b) := by simp [agAllL, List.all_append]
theorem agAllL_take {α : Type} (f : α → Part) (l : List α) (k : Nat) (h : k < l.length) : agAllL ((l.take (k + 1)).map f) = (agAllL ((l.take k).map f) && agAll (f l[k])) := by
  rw [List.take_succ_eq_append_getElem h, List.map_append, agAllL_append]; simp [agAllL]
theorem agAllL_false {α : Type} (f : α → Part) (l : List α) (k : Nat) (h : k < l.length) (ha : agAll (f l[k]) = false) : agAllL (l.map f) = false := by
  unfold agAllL
  rw [List.all_eq_false]
  exact ⟨f l[k], List.mem_map.2 ⟨l[k], List.getElem_mem h, rfl⟩, by rw [ha]; simp⟩
theorem agAll_exp (e : Exp) : agAll (.exp e) = true := by
  have key : ∀ (s : Nat) (e : Exp), (Part.exp e).size ≤ s → agAll (.exp e) = true := by
    intro s
    induction s with
    | zero => intro p hp; exact absurd (by rw [Part.size, nodesOf_eq]; simp) (Nat.not_lt.2 hp)
    | succ s ih =>
      intro e he
      rw [agAll_eq]
      obtain ⟨o, n, t, k⟩ := e
      simp only [agreesB, Bool.true_and, Part.parts, agAllL, List.all_map, List.all_eq_true]
      intro x hx
      exact ih x (by have := size_lt (p := .exp (.mk o n t k)) (q := .exp x) (List.mem_map.2 ⟨x, hx, rfl⟩); omega)
  exact key _ e (Nat.le_refl _)
theorem agAllL_exp (es : List Exp) : agAllL (es.map .exp) = true := by
  unfold agAllL; rw [List.all_map, List.all_eq_true]; intro x _; exact agAll_exp x

theorem maxL_le (l : List Nat) (n : Nat) : maxL l ≤ n ↔ ∀ x ∈ l, x ≤ n := by
  induction l with
  | nil => simp [maxL]
  | cons y l ih =>
    have e := maxL_append [y] l
    have e2 : maxL [y] = y := by simp [maxL]
    simp only [List.cons_append, List.nil_append] at e
    rw [e, e2, Nat.max_le, ih]
    simp
theorem depth_le_iff (p : Part) (n : Nat) : p.depth ≤ n ↔ ∀ q ∈ nodesOf 1 p, q.2 ≤ n := by
  rw [Part.depth, maxL_le]
  simp only [List.mem_map, forall_exists_index, and_imp]
  exact ⟨fun h q hq => h q.2 q hq rfl, fun h x q hq e => e ▸ h q hq⟩

/-- Formed, decided as the reference does. -/
def formedB (p : Part) : Bool := decide (p.size ≤ 60) && allSh p && decide (p.depth ≤ 12) && agAll p
theorem formedB_iff {p : Part} : Formed p ↔ formedB p = true := by
  rw [formed_iff, formedB, Bool.and_eq_true, Bool.and_eq_true, Bool.and_eq_true, decide_eq_true_eq, decide_eq_true_eq, depth_le_iff, allSh, allSh_lev p 0 1, agAll, agAll_lev p 0 1, List.all_eq_true, List.all_eq_true]
  constructor
  · rintro ⟨⟨h1, h2⟩, h3⟩
    exact ⟨⟨⟨h1, fun q hq => (h2 q hq).1⟩, fun q hq => (h2 q hq).2⟩, h3⟩
  · rintro ⟨⟨⟨h1, h2⟩, h4⟩, h3⟩
    exact ⟨⟨h1, fun q hq => ⟨h2 q hq, h4 q hq⟩⟩, h3⟩
def codeOf (b : Bool) : Int := if b then 0 else 2
theorem formedB_exp (e : Exp) : formedB (.exp e) = (decide ((Part.exp e).size ≤ 60) && allSh (.exp e) && decide ((Part.exp e).depth ≤ 12)) := by
  rw [formedB, agAll_exp, Bool.and_true]

end Go.Proofs.YtjmlaeofjjhfmaaGreat
/- The reference's Check, CheckExp, Nodes, Depth. -/
namespace Go.Proofs.YtjmlaeofjjhfmaaGreat
open Go.RowKit

def DefsD : Prop := ∀ (t : Term), (Part.proc t).size ≤ 60 → allSh (.proc t) = true → ∀ (B : Nat) (u w : World) (cs : List Value), KeptC B u w → B ≤ w.heap.size → TermAt B u cs t →
  Calls Tryz.prog 60 #[.agg cs.toArray] w fun e w' => e = .returned (.bool (agAll (.proc t))) ∧ Below w.heap.size w w'

set_option maxRecDepth 10000 in
set_option maxHeartbeats 4000000 in
theorem rcheck_any (hD : DefsD) (t : Term) (B : Nat) (u w : World) (cs : List Value) (hu : KeptC B u w) (hB : B ≤ w.heap.size) (hv : TermAt B u cs t) :
    Calls Tryz.prog 19 #[.agg cs.toArray] w fun e w' => e = .returned (.int .i64 (codeOf (formedB (.proc t)))) ∧ Below w.heap.size w w' := by
  obtain ⟨op, text, args, defs, kids⟩ := t
  have hv0 := hv
  unfold TermAt at hv
  obtain ⟨hz, _, _, _, rfl, ⟨a0, p0, rfl, _⟩, ⟨a1, p1, rfl, _⟩, ⟨a2, p2, rfl, _⟩⟩ := hv
  obtain ⟨q, hq⟩ : ∃ q, q = Term.mk op text args defs kids := ⟨_, rfl⟩
  rw [← hq] at hv0 ⊢
  obtain ⟨W1, hW1⟩ : ∃ W1, W1 = w.alloc (.cells #[.int .i64 op, .string text, .slice a0 args.length p0, .slice a1 defs.length p1, .slice a2 kids.length p2] 33) := ⟨_, rfl⟩
  have z1 : W1.heap.size = w.heap.size + 1 := by rw [hW1]; simp
  have b1 : Below w.heap.size w W1 := by rw [hW1]; exact (Below.refl _ w).alloc (Nat.le_refl _) _
  have cc : ∀ W, Below W1.heap.size W1 W → W.cell? ⟨w.heap.size, 0, none⟩ = some (.int .i64 op) ∧ W.cell? ⟨w.heap.size, 1, none⟩ = some (.string text) ∧ W.cell? ⟨w.heap.size, 2, none⟩ = some (.slice a0 args.length p0) ∧ W.cell? ⟨w.heap.size, 3, none⟩ = some (.slice a1 defs.length p1) ∧ W.cell? ⟨w.heap.size, 4, none⟩ = some (.slice a2 kids.length p2) := fun W hW => by
    have e : ∀ o, W.cell? ⟨w.heap.size, o, none⟩ = W1.cell? ⟨w.heap.size, o, none⟩ := fun o => hW.cell (p := ⟨w.heap.size, o, none⟩) (by simp; omega)
    rw [e, e, e, e, e, hW1]
    simp only [World.cell?_alloc_at _ _ _ _ rfl]
    exact ⟨rfl, rfl, rfl, rfl, rfl⟩
  have hsm := fun W hW lb1 lb2 => small_all (Part.proc q).size (.proc q) (Nat.le_refl _) W1.heap.size B u W _ 60 hW (by omega) (by decide) (by decide) lb1 lb2 hv0
  have hr := fun h60 W hW hBW => r_all (Part.proc q).size (.proc q) (Nat.le_refl _) h60 B u W _ hW hBW hv0
  have hd := fun h60 hs W hW hBW => hD q h60 hs B u W _ hW hBW hv0
  simp only [smallFn, smallRet, rFn] at hsm hr
  have HW := Lib.hid hW1; have HR := Lib.hid hr; have HD := Lib.hid hd; have HS := Lib.hid hsm; have HC := Lib.hid cc
  clear hW1 hr hd hsm cc hD hv0 hq
  obtain ⟨c0, c1, c2, c3, c4⟩ := HC.out (W1.alloc (.cells #[.int .i64 60] 3)) ((Below.refl _ W1).alloc (Nat.le_refl _) _)
  have b2' : Below W1.heap.size W1 (W1.alloc (.cells #[.int .i64 60] 3)) := (Below.refl _ W1).alloc (Nat.le_refl _) _
  have b2 : Below w.heap.size w (W1.alloc (.cells #[.int .i64 60] 3)) := b1.alloc (by omega) _
  have hs1 := HS.out (W1.alloc (.cells #[.int .i64 60] 3)) (hu.trans ((Below.keptC b2).mono hB)) (World.cell?_alloc_at _ _ _ _ rfl) (by rw [frozen?_alloc_cells]; simp [World.frozen?])
  have FIN : ∀ W, Below W1.heap.size (W1.alloc (.cells #[.int .i64 60] 3)) W → Below W1.heap.size W1 W ∧ Below w.heap.size w W := fun W hW => ⟨b2'.trans hW, b2.trans (hW.mono (by omega))⟩
  clear HS b2 b2'
  rw [z1] at hs1
  by_cases h60 : (Part.proc q).size ≤ 60
  · have e1 : decide (0 ≤ dec 60 (Part.proc q).size) = true := by unfold dec; split <;> simp <;> omega
    rw [e1] at hs1
    have HB' : ∀ W, Below w.heap.size w W → KeptC B u W ∧ B ≤ W.heap.size := fun W hW => ⟨hu.trans ((Below.keptC hW).mono hB), by have := hW.size; omega⟩
    have HR2 := Lib.hid (fun W hW => HR.out h60 W (HB' W hW).1 (HB' W hW).2)
    have HD2 := Lib.hid (fun hs W hW => HD.out h60 hs W (HB' W hW).1 (HB' W hW).2)
    have H60 := Lib.hid (show decide ((Part.proc q).size ≤ 60) = true by simpa using h60)
    rw [HW.out] at hs1 c0 c1 c2 c3 c4
    clear HR HD e1 HB' h60
    cases hsh : allSh (.proc q) with
    | false =>
      have HF := Lib.hid (show formedB (.proc q) = false by unfold formedB; rw [hsh]; simp)
      have HSH := Lib.hid hsh; clear hsh
      go_enter Tryz.func19, Tryz.ntmps19
      go_wp2_with (first
        | (go_at_call 58; refine hs1.mono ?_; clear hs1; rintro e w1 ⟨rfl, _, hb1, _⟩; rw [← z1, ← HW.out] at hb1; obtain ⟨d0, d1, d2, d3, d4⟩ := HC.out w1 (FIN w1 hb1).1)
        | (go_at_call 59; refine (HR2.out w1 (FIN w1 hb1).2).mono ?_; rintro e w2 ⟨⟨n, d, rfl, hn, hd, _⟩, hb2⟩; rw [HSH.out]))
      go_ret
      rw [HF.out]
      exact ⟨rfl, (FIN w1 hb1).2.trans (hb2.mono (FIN w1 hb1).2.size)⟩
    | true =>
      have HSH := Lib.hid hsh
      have HD3 := Lib.hid (HD2.out hsh)
      clear hsh HD2
      by_cases hd12 : (Part.proc q).depth ≤ 12
      · cases hag : agAll (.proc q) with
        | false =>
          have HF := Lib.hid (show formedB (.proc q) = false by unfold formedB; rw [hag]; simp)
          rw [hag] at HD3
          clear hag
          go_enter Tryz.func19, Tryz.ntmps19
          go_wp2_with (first
            | (go_at_call 58; refine hs1.mono ?_; clear hs1; rintro e w1 ⟨rfl, _, hb1, _⟩; rw [← z1, ← HW.out] at hb1; obtain ⟨d0, d1, d2, d3, d4⟩ := HC.out w1 (FIN w1 hb1).1)
            | (go_at_call 59; refine (HR2.out w1 (FIN w1 hb1).2).mono ?_; rintro e w2 ⟨⟨n, d, rfl, _, _, hnd⟩, hb2⟩; obtain ⟨_, rfl⟩ := hnd HSH.out; clear hnd; rw [HSH.out]; obtain ⟨f0, f1, f2, f3, f4⟩ := HC.out w2 (FIN w2 (hb1.trans (hb2.mono (by have := hb1.size; simp at this; omega)))).1)
            | (go_at_call 60; refine (HD3.out w2 ((FIN w1 hb1).2.trans (hb2.mono (FIN w1 hb1).2.size))).mono ?_; rintro e w3 ⟨rfl, hb3⟩))
          go_ret
          rw [HF.out]
          exact ⟨rfl, ((FIN w1 hb1).2.trans (hb2.mono (FIN w1 hb1).2.size)).trans (hb3.mono (by have := (FIN w1 hb1).2.size; have := hb2.size; omega))⟩
        | true =>
          have HF := Lib.hid (show formedB (.proc q) = true by unfold formedB; rw [hag, HSH.out, H60.out]; simpa using hd12)
          rw [hag] at HD3
          clear hag
          go_enter Tryz.func19, Tryz.ntmps19
          go_wp2_with (first
            | (go_at_call 58; refine hs1.mono ?_; clear hs1; rintro e w1 ⟨rfl, _, hb1, _⟩; rw [← z1, ← HW.out] at hb1; obtain ⟨d0, d1, d2, d3, d4⟩ := HC.out w1 (FIN w1 hb1).1)
            | (go_at_call 59; refine (HR2.out w1 (FIN w1 hb1).2).mono ?_; rintro e w2 ⟨⟨n, d, rfl, _, _, hnd⟩, hb2⟩; obtain ⟨_, rfl⟩ := hnd HSH.out; clear hnd; rw [HSH.out]; obtain ⟨f0, f1, f2, f3, f4⟩ := HC.out w2 (FIN w2 (hb1.trans (hb2.mono (by have := hb1.size; simp at this; omega)))).1)
            | (go_at_call 60; refine (HD3.out w2 ((FIN w1 hb1).2.trans (hb2.mono (FIN w1 hb1).2.size))).mono ?_; rintro e w3 ⟨rfl, hb3⟩))
          go_ret
          rw [HF.out]
          exact ⟨rfl, ((FIN w1 hb1).2.trans (hb2.mono (FIN w1 hb1).2.size)).trans (hb3.mono (by have := (FIN w1 hb1).2.size; have := hb2.size; omega))⟩
      · have HF := Lib.hid (show formedB (.proc q) = false by unfold formedB; simp [hd12])
        go_enter Tryz.func19, Tryz.ntmps19
        go_wp2_with (first
          | (go_at_call 58; refine hs1.mono ?_; clear hs1; rintro e w1 ⟨rfl, _, hb1, _⟩; rw [← z1, ← HW.out] at hb1; obtain ⟨d0, d1, d2, d3, d4⟩ := HC.out w1 (FIN w1 hb1).1)
          | (go_at_call 59; refine (HR2.out w1 (FIN w1 hb1).2).mono ?_; rintro e w2 ⟨⟨n, d, rfl, _, _, hnd⟩, hb2⟩; obtain ⟨_, rfl⟩ := hnd HSH.out; clear hnd; rw [HSH.out]))
        go_ret
        rw [HF.out]
        exact ⟨rfl, (FIN w1 hb1).2.trans (hb2.mono (FIN w1 hb1).2.size)⟩
  · have e1 : decide (0 ≤ dec 60 (Part.proc q).size) = false := by unfold dec; split <;> simp <;> omega
    have HF := Lib.hid (show formedB (.proc q) = false by unfold formedB; simp [h60])
    rw [e1] at hs1
    rw [HW.out] at hs1 c0 c1 c2 c3 c4
    clear HR HD e1
    go_enter Tryz.func19, Tryz.ntmps19
    go_wp2_with (go_at_call 58; refine hs1.mono ?_; clear hs1; rintro e w1 ⟨rfl, _, hb1, _⟩; rw [← z1, ← HW.out] at hb1)
    go_ret
    rw [HF.out]
    exact ⟨rfl, (FIN w1 hb1).2⟩

set_option maxRecDepth 10000 in
set_option maxHeartbeats 4000000 in
theorem rcheckExp_any (t : Exp) (B : Nat) (u w : World) (cs : List Value) (hu : KeptC B u w) (hB : B ≤ w.heap.size) (hv : ExpAt B u cs t) :
    Calls Tryz.prog 20 #[.agg cs.toArray] w fun e w' => e = .returned (.int .i64 (codeOf (formedB (.exp t)))) ∧ Below w.heap.size w w' := by
  obtain ⟨op, nn, text, kids⟩ := t
  have hv0 := hv
  unfold ExpAt at hv
  obtain ⟨hz, _, rfl, ⟨a0, p0, rfl, _⟩⟩ := hv
  obtain ⟨q, hq⟩ : ∃ q, q = Exp.mk op nn text kids := ⟨_, rfl⟩
  rw [← hq] at hv0 ⊢
  obtain ⟨W1, hW1⟩ : ∃ W1, W1 = w.alloc (.cells #[.int .i64 op, .int .i64 nn, .string text, .slice a0 kids.length p0] 36) := ⟨_, rfl⟩
  have z1 : W1.heap.size = w.heap.size + 1 := by rw [hW1]; simp
  have b1 : Below w.heap.size w W1 := by rw [hW1]; exact (Below.refl _ w).alloc (Nat.le_refl _) _
  have cc : ∀ W, Below W1.heap.size W1 W → W.cell? ⟨w.heap.size, 0, none⟩ = some (.int .i64 op) ∧ W.cell? ⟨w.heap.size, 1, none⟩ = some (.int .i64 nn) ∧ W.cell? ⟨w.heap.size, 2, none⟩ = some (.string text) ∧ W.cell? ⟨w.heap.size, 3, none⟩ = some (.slice a0 kids.length p0) := fun W hW => by
    have e : ∀ o, W.cell? ⟨w.heap.size, o, none⟩ = W1.cell? ⟨w.heap.size, o, none⟩ := fun o => hW.cell (p := ⟨w.heap.size, o, none⟩) (by simp; omega)
    rw [e, e, e, e, hW1]
    simp only [World.cell?_alloc_at _ _ _ _ rfl]
    exact ⟨rfl, rfl, rfl, rfl⟩
  have hsm := fun W hW lb1 lb2 => small_all (Part.exp q).size (.exp q) (Nat.le_refl _) W1.heap.size B u W _ 60 hW (by omega) (by decide) (by decide) lb1 lb2 hv0
  have hr := fun h60 W hW hBW => r_all (Part.exp q).size (.exp q) (Nat.le_refl _) h60 B u W _ hW hBW hv0
  simp only [smallFn, smallRet, rFn] at hsm hr
  have HW := Lib.hid hW1; have HR := Lib.hid hr; have HS := Lib.hid hsm; have HC := Lib.hid cc
  clear hW1 hr hsm cc hv0 hq
  obtain ⟨c0, c1, c2, c3⟩ := HC.out (W1.alloc (.cells #[.int .i64 60] 3)) ((Below.refl _ W1).alloc (Nat.le_refl _) _)
  have b2' : Below W1.heap.size W1 (W1.alloc (.cells #[.int .i64 60] 3)) := (Below.refl _ W1).alloc (Nat.le_refl _) _
  have b2 : Below w.heap.size w (W1.alloc (.cells #[.int .i64 60] 3)) := b1.alloc (by omega) _
  have hs1 := HS.out (W1.alloc (.cells #[.int .i64 60] 3)) (hu.trans ((Below.keptC b2).mono hB)) (World.cell?_alloc_at _ _ _ _ rfl) (by rw [frozen?_alloc_cells]; simp [World.frozen?])
  have FIN : ∀ W, Below W1.heap.size (W1.alloc (.cells #[.int .i64 60] 3)) W → Below W1.heap.size W1 W ∧ Below w.heap.size w W := fun W hW => ⟨b2'.trans hW, b2.trans (hW.mono (by omega))⟩
  have FX := Lib.hid (formedB_exp q)
  clear HS b2 b2'
  rw [z1] at hs1
  obtain ⟨D, hD⟩ : ∃ D, D = dec 60 (Part.exp q).size := ⟨_, rfl⟩
  rw [← hD] at hs1
  by_cases h60 : (Part.exp q).size ≤ 60
  · have e1 : ¬ (D < 0) := by rw [hD]; unfold dec; split <;> omega
    have HB' : ∀ W, Below w.heap.size w W → KeptC B u W ∧ B ≤ W.heap.size := fun W hW => ⟨hu.trans ((Below.keptC hW).mono hB), by have := hW.size; omega⟩
    have HR2 := Lib.hid (fun W hW => HR.out h60 W (HB' W hW).1 (HB' W hW).2)
    have H60 := Lib.hid (show decide ((Part.exp q).size ≤ 60) = true by simpa using h60)
    rw [HW.out] at hs1 c0 c1 c2 c3
    clear HR HB' h60 hD
    cases hsh : allSh (.exp q) with
    | false =>
      have HF := Lib.hid (show formedB (.exp q) = false by rw [FX.out, hsh]; simp)
      have HSH := Lib.hid hsh; clear hsh
      go_enter Tryz.func20, Tryz.ntmps20
      go_wp2_with (first
        | (go_at_call 61; refine hs1.mono ?_; clear hs1; rintro e w1 ⟨rfl, _, hb1, hlc, _⟩; rw [← z1, ← HW.out] at hb1; obtain ⟨d0, d1, d2, d3⟩ := HC.out w1 (FIN w1 hb1).1)
        | (go_at_call 62; refine (HR2.out w1 (FIN w1 hb1).2).mono ?_; rintro e w2 ⟨⟨n, d, rfl, hn, hd, _⟩, hb2⟩; rw [HSH.out]))
      go_ret
      rw [HF.out]
      exact ⟨rfl, (FIN w1 hb1).2.trans (hb2.mono (FIN w1 hb1).2.size)⟩
    | true =>
      have HSH := Lib.hid hsh
      clear hsh
      by_cases hd12 : (Part.exp q).depth ≤ 12
      · have HF := Lib.hid (show formedB (.exp q) = true by rw [FX.out, HSH.out, H60.out]; simpa using hd12)
        go_enter Tryz.func20, Tryz.ntmps20
        go_wp2_with (first
          | (go_at_call 61; refine hs1.mono ?_; clear hs1; rintro e w1 ⟨rfl, _, hb1, hlc, _⟩; rw [← z1, ← HW.out] at hb1; obtain ⟨d0, d1, d2, d3⟩ := HC.out w1 (FIN w1 hb1).1)
          | (go_at_call 62; refine (HR2.out w1 (FIN w1 hb1).2).mono ?_; rintro e w2 ⟨⟨n, d, rfl, _, _, hnd⟩, hb2⟩; obtain ⟨_, rfl⟩ := hnd HSH.out; clear hnd; rw [HSH.out]))
        go_ret
        rw [HF.out]
        exact ⟨rfl, (FIN w1 hb1).2.trans (hb2.mono (FIN w1 hb1).2.size)⟩
      · have HF := Lib.hid (show formedB (.exp q) = false by rw [FX.out]; simp [hd12])
        go_enter Tryz.func20, Tryz.ntmps20
        go_wp2_with (first
          | (go_at_call 61; refine hs1.mono ?_; clear hs1; rintro e w1 ⟨rfl, _, hb1, hlc, _⟩; rw [← z1, ← HW.out] at hb1; obtain ⟨d0, d1, d2, d3⟩ := HC.out w1 (FIN w1 hb1).1)
          | (go_at_call 62; refine (HR2.out w1 (FIN w1 hb1).2).mono ?_; rintro e w2 ⟨⟨n, d, rfl, _, _, hnd⟩, hb2⟩; obtain ⟨_, rfl⟩ := hnd HSH.out; clear hnd; rw [HSH.out]))
        go_ret
        rw [HF.out]
        exact ⟨rfl, (FIN w1 hb1).2.trans (hb2.mono (FIN w1 hb1).2.size)⟩
  · have e1 : D < 0 := by rw [hD]; unfold dec; split <;> omega
    have HF := Lib.hid (show formedB (.exp q) = false by rw [FX.out]; simp [h60])
    rw [HW.out] at hs1 c0 c1 c2 c3
    clear HR hD h60
    go_enter Tryz.func20, Tryz.ntmps20
    go_wp2_with (go_at_call 61; refine hs1.mono ?_; clear hs1; rintro e w1 ⟨rfl, _, hb1, hlc, _⟩; rw [← z1, ← HW.out] at hb1)
    go_ret
    rw [HF.out]
    exact ⟨rfl, (FIN w1 hb1).2⟩

end Go.Proofs.YtjmlaeofjjhfmaaGreat
/- The reference's Nodes and Depth. -/
namespace Go.Proofs.YtjmlaeofjjhfmaaGreat
open Go.RowKit

def numOf (b : Bool) (n : Nat) : Int := if b then (n : Int) else 0

set_option maxRecDepth 10000 in
set_option maxHeartbeats 4000000 in
theorem rnodes_any (hD : DefsD) (t : Term) (B : Nat) (u w : World) (cs : List Value) (hu : KeptC B u w) (hB : B ≤ w.heap.size) (hv : TermAt B u cs t) :
    Calls Tryz.prog 21 #[.agg cs.toArray] w fun e w' => e = .returned (.tuple #[.int .i64 (numOf (formedB (.proc t)) (Part.proc t).size), .int .i64 (codeOf (formedB (.proc t)))]) ∧ Below w.heap.size w w' := by
  obtain ⟨op, text, args, defs, kids⟩ := t
  have hv0 := hv
  unfold TermAt at hv
  obtain ⟨hz, _, _, _, rfl, ⟨a0, p0, rfl, _⟩, ⟨a1, p1, rfl, _⟩, ⟨a2, p2, rfl, _⟩⟩ := hv
  obtain ⟨q, hq⟩ : ∃ q, q = Term.mk op text args defs kids := ⟨_, rfl⟩
  rw [← hq] at hv0 ⊢
  obtain ⟨W1, hW1⟩ : ∃ W1, W1 = w.alloc (.cells #[.int .i64 op, .string text, .slice a0 args.length p0, .slice a1 defs.length p1, .slice a2 kids.length p2] 33) := ⟨_, rfl⟩
  have z1 : W1.heap.size = w.heap.size + 1 := by rw [hW1]; simp
  have b1 : Below w.heap.size w W1 := by rw [hW1]; exact (Below.refl _ w).alloc (Nat.le_refl _) _
  have cc : ∀ W, Below W1.heap.size W1 W → W.cell? ⟨w.heap.size, 0, none⟩ = some (.int .i64 op) ∧ W.cell? ⟨w.heap.size, 1, none⟩ = some (.string text) ∧ W.cell? ⟨w.heap.size, 2, none⟩ = some (.slice a0 args.length p0) ∧ W.cell? ⟨w.heap.size, 3, none⟩ = some (.slice a1 defs.length p1) ∧ W.cell? ⟨w.heap.size, 4, none⟩ = some (.slice a2 kids.length p2) := fun W hW => by
    have e : ∀ o, W.cell? ⟨w.heap.size, o, none⟩ = W1.cell? ⟨w.heap.size, o, none⟩ := fun o => hW.cell (p := ⟨w.heap.size, o, none⟩) (by simp; omega)
    rw [e, e, e, e, e, hW1]
    simp only [World.cell?_alloc_at _ _ _ _ rfl]
    exact ⟨rfl, rfl, rfl, rfl, rfl⟩
  have hck := rcheck_any hD q B u W1 _ (hu.trans ((Below.keptC b1).mono hB)) (by omega) hv0
  have hr := fun h60 W hW hBW => r_all (Part.proc q).size (.proc q) (Nat.le_refl _) h60 B u W _ hW hBW hv0
  simp only [rFn] at hr
  have HW := Lib.hid hW1; have HR := Lib.hid hr; have HC := Lib.hid cc
  clear hr cc hv0 hq hD
  obtain ⟨c0, c1, c2, c3, c4⟩ := HC.out W1 (Below.refl _ _)
  rw [hW1] at c0 c1 c2 c3 c4
  clear hW1
  cases hf : formedB (.proc q) with
  | false =>
    rw [hf] at hck
    clear hf
    go_enter Tryz.func21, Tryz.ntmps21
    go_wp2_with (go_at_call 19; rw [← HW.out]; refine hck.mono ?_; clear hck; rintro e w1 ⟨rfl, hb1⟩; simp only [codeOf, Bool.false_eq_true, if_false])
    go_ret2
    exact ⟨rfl, b1.trans (hb1.mono (by omega))⟩
  | true =>
    have hfo := hf
    unfold formedB at hfo
    simp only [Bool.and_eq_true, decide_eq_true_eq] at hfo
    obtain ⟨⟨⟨h60, hsh⟩, _⟩, _⟩ := hfo
    rw [hf] at hck
    have HSH := Lib.hid hsh; have H60 := Lib.hid h60
    clear hf hsh h60
    go_enter Tryz.func21, Tryz.ntmps21
    go_wp2_with (first
      | (go_at_call 19; rw [← HW.out]; refine hck.mono ?_; clear hck; rintro e w1 ⟨rfl, hb1⟩; simp only [codeOf, if_true]; obtain ⟨d0, d1, d2, d3, d4⟩ := HC.out w1 hb1; have hbw := b1.trans (hb1.mono (by omega)))
      | (go_at_call 59; refine (HR.out H60.out w1 (hu.trans ((Below.keptC hbw).mono hB)) (by have := hbw.size; omega)).mono ?_; rintro e w2 ⟨⟨n, d, rfl, _, _, hnd⟩, hb2⟩; obtain ⟨rfl, rfl⟩ := hnd HSH.out; clear hnd))
    go_ret2
    exact ⟨rfl, hbw.trans (hb2.mono hbw.size)⟩

set_option maxRecDepth 10000 in
set_option maxHeartbeats 4000000 in
theorem rdepth_any (hD : DefsD) (t : Term) (B : Nat) (u w : World) (cs : List Value) (hu : KeptC B u w) (hB : B ≤ w.heap.size) (hv : TermAt B u cs t) :
    Calls Tryz.prog 22 #[.agg cs.toArray] w fun e w' => e = .returned (.tuple #[.int .i64 (numOf (formedB (.proc t)) (Part.proc t).depth), .int .i64 (codeOf (formedB (.proc t)))]) ∧ Below w.heap.size w w' := by
  obtain ⟨op, text, args, defs, kids⟩ := t
  have hv0 := hv
  unfold TermAt at hv
  obtain ⟨hz, _, _, _, rfl, ⟨a0, p0, rfl, _⟩, ⟨a1, p1, rfl, _⟩, ⟨a2, p2, rfl, _⟩⟩ := hv
  obtain ⟨q, hq⟩ : ∃ q, q = Term.mk op text args defs kids := ⟨_, rfl⟩
  rw [← hq] at hv0 ⊢
  obtain ⟨W1, hW1⟩ : ∃ W1, W1 = w.alloc (.cells #[.int .i64 op, .string text, .slice a0 args.length p0, .slice a1 defs.length p1, .slice a2 kids.length p2] 33) := ⟨_, rfl⟩
  have z1 : W1.heap.size = w.heap.size + 1 := by rw [hW1]; simp
  have b1 : Below w.heap.size w W1 := by rw [hW1]; exact (Below.refl _ w).alloc (Nat.le_refl _) _
  have cc : ∀ W, Below W1.heap.size W1 W → W.cell? ⟨w.heap.size, 0, none⟩ = some (.int .i64 op) ∧ W.cell? ⟨w.heap.size, 1, none⟩ = some (.string text) ∧ W.cell? ⟨w.heap.size, 2, none⟩ = some (.slice a0 args.length p0) ∧ W.cell? ⟨w.heap.size, 3, none⟩ = some (.slice a1 defs.length p1) ∧ W.cell? ⟨w.heap.size, 4, none⟩ = some (.slice a2 kids.length p2) := fun W hW => by
    have e : ∀ o, W.cell? ⟨w.heap.size, o, none⟩ = W1.cell? ⟨w.heap.size, o, none⟩ := fun o => hW.cell (p := ⟨w.heap.size, o, none⟩) (by simp; omega)
    rw [e, e, e, e, e, hW1]
    simp only [World.cell?_alloc_at _ _ _ _ rfl]
    exact ⟨rfl, rfl, rfl, rfl, rfl⟩
  have hck := rcheck_any hD q B u W1 _ (hu.trans ((Below.keptC b1).mono hB)) (by omega) hv0
  have hr := fun h60 W hW hBW => r_all (Part.proc q).size (.proc q) (Nat.le_refl _) h60 B u W _ hW hBW hv0
  simp only [rFn] at hr
  have HW := Lib.hid hW1; have HR := Lib.hid hr; have HC := Lib.hid cc
  clear hr cc hv0 hq hD
  obtain ⟨c0, c1, c2, c3, c4⟩ := HC.out W1 (Below.refl _ _)
  rw [hW1] at c0 c1 c2 c3 c4
  clear hW1
  cases hf : formedB (.proc q) with
  | false =>
    rw [hf] at hck
    clear hf
    go_enter Tryz.func22, Tryz.ntmps22
    go_wp2_with (go_at_call 19; rw [← HW.out]; refine hck.mono ?_; clear hck; rintro e w1 ⟨rfl, hb1⟩; simp only [codeOf, Bool.false_eq_true, if_false])
    go_ret2
    exact ⟨rfl, b1.trans (hb1.mono (by omega))⟩
  | true =>
    have hfo := hf
    unfold formedB at hfo
    simp only [Bool.and_eq_true, decide_eq_true_eq] at hfo
    obtain ⟨⟨⟨h60, hsh⟩, _⟩, _⟩ := hfo
    rw [hf] at hck
    have HSH := Lib.hid hsh; have H60 := Lib.hid h60
    clear hf hsh h60
    go_enter Tryz.func22, Tryz.ntmps22
    go_wp2_with (first
      | (go_at_call 19; rw [← HW.out]; refine hck.mono ?_; clear hck; rintro e w1 ⟨rfl, hb1⟩; simp only [codeOf, if_true]; obtain ⟨d0, d1, d2, d3, d4⟩ := HC.out w1 hb1; have hbw := b1.trans (hb1.mono (by omega)))
      | (go_at_call 59; refine (HR.out H60.out w1 (hu.trans ((Below.keptC hbw).mono hB)) (by have := hbw.size; omega)).mono ?_; rintro e w2 ⟨⟨n, d, rfl, _, _, hnd⟩, hb2⟩; obtain ⟨rfl, rfl⟩ := hnd HSH.out; clear hnd))
    go_ret2
    exact ⟨rfl, hbw.trans (hb2.mono hbw.size)⟩

end Go.Proofs.YtjmlaeofjjhfmaaGreat
