/- Layout, by the function that the package exports. -/
import Derived.Test.YtjmlaeofjjhfmaaGreatP44
import Derived.Test.YtjmlaeofjjhfmaaGreatP45
import Derived.Test.YtjmlaeofjjhfmaaGreatP26
import Derived.Test.YtjmlaeofjjhfmaaGreatP39
set_option linter.unusedVariables false
set_option linter.unusedSimpArgs false
namespace Go.Proofs.YtjmlaeofjjhfmaaGreat
open Go.RowKit Go.Shelf Go.Maps Go.WideMaps

theorem Tryz.results107 : Tryz.f107.results = #[.cell 1 33] := by kernel_rfl
/-- A new box of the kind of a process, in which nothing is. -/
abbrev z33 : Obj := .cells #[.int .i64 0, .string ⟨#[]⟩, .slice none 0 0, .slice none 0 0, .slice none 0 0] 33
/-- A process in memory from N on, apart from the box k. -/
def Av (N : Nat) (k : Option Nat) (W : World) (cs : List Value) (x : Term) : Prop :=
  ∃ U : World, (∀ b o v, U.cell? ⟨b, o, none⟩ = some v → N ≤ b ∧ k ≠ some b ∧ W.cell? ⟨b, o, none⟩ = some v) ∧ TermAt W.heap.size U cs x
theorem Av.alloc {N : Nat} {W : World} {cs : List Value} {x : Term} {k : Option Nat} (h : Av N k W cs x) (o : Obj) : Av N (some W.heap.size) (W.alloc o) cs x := by
  obtain ⟨U, h1, h2⟩ := h
  refine ⟨U, fun b o' v hv => ?_, TermAt.keep (KeptC.refl _ U) (by simp) _ _ h2⟩
  obtain ⟨a1, _, a3⟩ := h1 b o' v hv
  have hlt := lt_of_cell a3
  exact ⟨a1, fun e => by have := Option.some.inj e; omega, (World.cell?_alloc_past _ _ _ hlt).trans a3⟩
theorem Av.at_ {N : Nat} {W W' : World} {cs : List Value} {x : Term} {k : Option Nat} (h : Av N k W cs x) (hs : W.heap.size ≤ W'.heap.size) (hk : ∀ b, k ≠ some b → b < W.heap.size → W'.heap[b]? = W.heap[b]?) : TermAt W'.heap.size (blank N W') cs x := by
  obtain ⟨U, h1, h2⟩ := h
  refine TermAt.keep (fun b o v _ hv => ?_) hs _ _ h2
  obtain ⟨a1, a2, a3⟩ := h1 b o v hv
  rw [blank_cell, if_neg (by omega)]
  exact (World.cell?_of_block (w := W) (hk b a2 (lt_of_cell a3))).trans a3
theorem Av.lay {N : Nat} {W : World} {cs : List Value} {t : Term} {k : Option Nat} (h : Av N k W cs t) (hN : N ≤ W.heap.size) (hk : ∀ j, k = some j → j < W.heap.size) (hf : Formed (.proc t)) :
    Calls Tryz.prog 108 #[.agg cs.toArray] W fun e w' => ∃ cs', e = .returned (.agg cs'.toArray) ∧ Av N k w' cs' (layT t) ∧ Below W.heap.size W w' := by
  obtain ⟨U, h1, h2⟩ := h
  refine ((lay_all 60).1 t hf.1 hf.1 (formed_fineT hf) W.heap.size U W cs (fun b o v _ hv => (h1 b o v hv).2.2) (Nat.le_refl _) h2).mono ?_
  rintro e w' ⟨cs', rfl, h3, h4⟩
  refine ⟨cs', rfl, ⟨_, fun b o v hv => ?_, h3⟩, h4⟩
  obtain ⟨g1, g2⟩ := (mid_some _ _ _ _ _ _ _).1 hv
  rcases g2 with ⟨g2, g3⟩ | ⟨g2, _, g3⟩
  · obtain ⟨a1, a2, a3⟩ := h1 b o v g3
    exact ⟨a1, a2, (h4.cell (p := ⟨b, o, none⟩) g2).trans a3⟩
  · exact ⟨by omega, fun e => by have := hk b e; omega, g3⟩
/-- A world of the call's own, in which the box k is as it was made. -/
def Sk (W0 : World) (k : Option Nat) (W : World) : Prop := Below W0.heap.size W0 W ∧ ∀ j, k = some j → W0.heap.size ≤ j ∧ Zero33 W j
theorem Sk.mono {W0 W W' : World} {k : Option Nat} (h : Sk W0 k W) (hb : Below W.heap.size W W') : Sk W0 k W' := by
  obtain ⟨h1, h2⟩ := h
  exact ⟨h1.trans (hb.mono h1.size), fun j hj => ⟨(h2 j hj).1, (hb.block j (lt_of_heap (h2 j hj).2)).trans (h2 j hj).2⟩⟩
theorem Sk.alloc {W0 W : World} {k : Option Nat} (h : Sk W0 k W) : Sk W0 (some W.heap.size) (W.alloc z33) :=
  ⟨h.1.alloc h.1.size _, fun j hj => by
    obtain rfl := Option.some.inj hj
    exact ⟨h.1.size, World.alloc_heap_new W _⟩⟩

/-- The box of what is laid out, and the world behind it. -/
def Fin (W0 : World) (t : Term) (xs : List Value) (k : Nat) (W : World) : Prop := Below W0.heap.size W0 W ∧ W0.heap.size ≤ k ∧ W.heap[k]? = some (.cells xs.toArray 33) ∧ TermAt W.heap.size (blank W0.heap.size W) xs t
theorem fin_new {W0 W : World} {t : Term} {xs : List Value} {k : Option Nat} (h : Sk W0 k W) (ha : Av W0.heap.size k W xs t) : Fin W0 t xs W.heap.size (W.alloc (.cells xs.toArray 33)) :=
  ⟨h.1.alloc h.1.size _, h.1.size, World.alloc_heap_new W _, ha.at_ (by simp) (fun b _ hb => Below.heap_alloc _ _ _ hb)⟩
theorem fin_old {W0 W : World} {t : Term} {j : Nat} {v0 v1 v2 v3 v4 : Value} (h : Sk W0 (some j) W) (ha : Av W0.heap.size (some j) W [v0, v1, v2, v3, v4] t) :
    Fin W0 t [v0, v1, v2, v3, v4] j (((((W.setCell ⟨j, 0, none⟩ v0).setCell ⟨j, 1, none⟩ v1).setCell ⟨j, 2, none⟩ v2).setCell ⟨j, 3, none⟩ v3).setCell ⟨j, 4, none⟩ v4) := by
  obtain ⟨h1, h2⟩ := h
  obtain ⟨h3, h4⟩ := h2 j rfl
  refine ⟨set5 h1 j h3 _ _ _ _ _, h3, box_set5 h4 _ _ _ _ _, ha.at_ (by simp [World.setCell]) (fun b hb _ => ?_)⟩
  have e2 : b ≠ j := fun e => hb (by rw [e])
  rw [Below.heap_setCell _ _ _ _ (by simpa using e2), Below.heap_setCell _ _ _ _ (by simpa using e2), Below.heap_setCell _ _ _ _ (by simpa using e2), Below.heap_setCell _ _ _ _ (by simpa using e2), Below.heap_setCell _ _ _ _ (by simpa using e2)]

theorem lay_done {t : Term} {w W0 W5 w6 WB : World} {k : Nat} {xs : List Value} (hz : W0.heap.size = w.heap.size + 1) (hF : Below W0.heap.size W0 W5 ∧ W0.heap.size ≤ k ∧ W5.heap[k]? = some (.cells xs.toArray 33) ∧ TermAt W5.heap.size (blank W0.heap.size W5) xs t) (hb6 : Below W5.heap.size W5 w6)
    (hL : ∀ b, w.heap.size + 1 ≤ b → b < w6.heap.size → WB.heap[b]? = w6.heap[b]?) : TermAt w6.heap.size (blank w.heap.size WB) xs t := by
  obtain ⟨f1, f2, f3, f4⟩ := hF
  refine TermAt.keep (blank_kept (by omega) fun b o v hbN hlt hv => ?_) hb6.size _ _ f4
  have h1 := (hb6.cell (p := ⟨b, o, none⟩) hlt).trans hv
  exact (World.cell?_of_block (w := w6) (hL b (by omega) (lt_of_cell h1))).trans h1
theorem lay_done2 {w W0 W5 w6 : World} (hz : W0.heap.size = w.heap.size + 1) (hb0 : Below w.heap.size w W0) (hF : Below W0.heap.size W0 W5) (hb6 : Below W5.heap.size W5 w6) : Below w.heap.size w w6 :=
  (hb0.trans (hF.mono (by omega))).trans (hb6.mono (by have := hF.size; omega))

set_option maxRecDepth 10000 in
set_option maxHeartbeats 4000000 in
theorem lay_work (B : Nat) (u : World) (t : Term) (hf : Formed (.proc t)) (cs : List Value) (hat : TermAt B u cs t) (w : World) (hu : KeptC B u w) (hB : B ≤ w.heap.size) (n0 : Nat) (c0 : CellsAt w n0 0 cs) (hfl : Formed (.proc (layT t))) :
    Calls Tryz.prog 107 #[.pointer (some ⟨n0, 0, none⟩)] w fun e' w' => ∃ cs', e' = .returned (.agg cs'.toArray) ∧ TermAt w'.heap.size (blank w.heap.size w') cs' (layT t) ∧ Below w.heap.size w w' := by
  obtain ⟨o0, tx, s0, m0, k0, s1, m1, k1, s2, m2, k2, rfl⟩ := term_shape hat
  have hbc := bcT_le t 0 (formed_fine hf)
  have hsz : (nodesT 0 t).length ≤ 60 := hf.1
  obtain ⟨W0, hW0⟩ : ∃ W0, W0 = w.alloc (.cells #[.int .i64 0, .string ⟨#[]⟩, .slice none 0 0, .slice none 0 0, .slice none 0 0] 33) := ⟨_, rfl⟩
  have hb0 : Below w.heap.size w W0 := by rw [hW0]; exact (Below.refl _ w).alloc (Nat.le_refl _) _
  have hz : W0.heap.size = w.heap.size + 1 := by rw [hW0]; simp
  have z0 : Zero33 W0 w.heap.size := by unfold Zero33; rw [hW0]; exact World.alloc_heap_new w _
  have hpt : PartAt B u (.iface 83 (.agg #[.int .i64 o0, .string tx, .slice s0 m0 k0, .slice s1 m1 k1, .slice s2 m2 k2])) (.proc t) := ⟨_, rfl, hat⟩
  have hN0 : ∀ W k, Sk W0 k W → W0.heap.size ≤ W.heap.size := fun W k h => h.1.size
  have hrd : ∀ W k, Sk W0 k W → (W.cell? ⟨n0, 0, none⟩ = some (.int .i64 o0) ∧ W.cell? ⟨n0, 1, none⟩ = some (.string tx) ∧ W.cell? ⟨n0, 2, none⟩ = some (.slice s0 m0 k0) ∧ W.cell? ⟨n0, 3, none⟩ = some (.slice s1 m1 k1) ∧ W.cell? ⟨n0, 4, none⟩ = some (.slice s2 m2 k2)) ∧ KeptC B u W ∧ B ≤ W.heap.size ∧ Zero33 W w.heap.size ∧ Below w.heap.size w W := by
    intro W k h
    have hbW := hb0.trans (h.1.mono (by omega))
    exact ⟨cells5 (c0.below hbW (lt_of_cell (c0 0 (by simp)))), hu.trans ((Below.keptC hbW).mono hB), by have := hbW.size; omega, (h.1.block _ (by omega)).trans z0, hbW⟩
  have hcop : ∀ W k, Sk W0 k W → Calls Tryz.prog 101 #[] W fun e w' => e = .returned (.agg #[.iface 116 (.agg #[.map none]), .map none]) ∧ Sk W0 k w' := fun W k h =>
    (copied_any W).mono fun _ w' ⟨h1, h2⟩ => ⟨h1, h.mono h2⟩
  have hcp : ∀ W k, Sk W0 k W → Calls Tryz.prog 87 #[.agg #[.iface 116 (.agg #[.map none]), .map none], .agg #[.int .i64 o0, .string tx, .slice s0 m0 k0, .slice s1 m1 k1, .slice s2 m2 k2]] W fun e' w' =>
      ∃ cs', e' = .returned (.agg cs'.toArray) ∧ Hid (Av W0.heap.size k w' cs' t) ∧ Sk W0 k w' := fun W k h => by
    obtain ⟨_, hu1, hB1, _⟩ := hrd W k h
    have hpst := copy_start (B := B) (u := u) (m := none) (b := .outside) (fun r e => by cases e) (fun _ => rfl) t hf (.iface 116 (.agg #[.map none])) W rfl hu1 hB1 (fun _ => false) 0 _ hat (bud_none _ (by omega) W)
    rw [copy_same t _ (formed_fineT hf)] at hpst
    refine hpst.mono ?_
    rintro e' w' ⟨cs', rfl, h1, _, h3⟩
    refine ⟨_, rfl, Lib.hid ⟨_, fun b o v hv => ?_, h1⟩, h.mono (grown_below h3)⟩
    rw [blank_cell] at hv
    by_cases hlt : b < W.heap.size
    · rw [if_pos hlt] at hv; cases hv
    · rw [if_neg hlt] at hv
      exact ⟨by have := h.1.size; omega, fun e => by have := lt_of_heap (h.2 b e).2; omega, hv⟩
  have hly : ∀ W k cs', Sk W0 k W → Hid (Av W0.heap.size k W cs' t) → Calls Tryz.prog 108 #[.agg cs'.toArray] W fun e' w' => ∃ (x1 : Int) (x2 : ByteArray) (x3 : Option Addr) (x4 x5 : Nat) (x6 : Option Addr) (x7 x8 : Nat) (x9 : Option Addr) (xA xB : Nat), e' = .returned (.agg #[.int .i64 x1, .string x2, .slice x3 x4 x5, .slice x6 x7 x8, .slice x9 xA xB]) ∧ Hid (Av W0.heap.size k w' [.int .i64 x1, .string x2, .slice x3 x4 x5, .slice x6 x7 x8, .slice x9 xA xB] (layT t)) ∧ Sk W0 k w' := fun W k cs' h ht => by
    refine (Av.lay ht.out h.1.size (fun j hj => lt_of_heap (h.2 j hj).2) hf).mono ?_
    rintro e' w' ⟨cs'', rfl, h1, h2⟩
    obtain ⟨U, h3, h4⟩ := id h1
    obtain ⟨x1, x2, x3, x4, x5, x6, x7, x8, x9, xA, xB, rfl⟩ := term_shape h4
    exact ⟨x1, x2, x3, x4, x5, x6, x7, x8, x9, xA, xB, rfl, Lib.hid h1, h.mono h2⟩
  have hlyS : ∀ W k cs', Sk W0 k W → Hid (Av W0.heap.size k W cs' t) → Calls Tryz.prog 108 #[.agg cs'.toArray] W fun e' w' => ∃ (x1 : Int) (x2 : ByteArray) (x3 : Option Addr) (x4 x5 : Nat) (x6 : Option Addr) (x7 x8 : Nat) (x9 : Option Addr) (xA xB : Nat), e' = .returned (.agg #[.int .i64 x1, .string x2, .slice x3 x4 x5, .slice x6 x7 x8, .slice x9 xA xB]) ∧ Hid (Av W0.heap.size k w' [.int .i64 x1, .string x2, .slice x3 x4 x5, .slice x6 x7 x8, .slice x9 xA xB] (layT t)) ∧ Sk W0 k w' ∧
      (∀ j, k = some j → w'.cell? ⟨j, 0, none⟩ = some (.int .i64 0)) ∧ (∀ j, k = some j → w'.cell? ⟨j, 1, none⟩ = some (.string ⟨#[]⟩)) ∧ (∀ j, k = some j → w'.cell? ⟨j, 2, none⟩ = some (.slice none 0 0)) ∧ (∀ j, k = some j → w'.cell? ⟨j, 3, none⟩ = some (.slice none 0 0)) ∧ (∀ j, k = some j → w'.cell? ⟨j, 4, none⟩ = some (.slice none 0 0)) ∧ (∀ j, k = some j → ∀ o, w'.frozen? ⟨j, o, none⟩ = false) := fun W k cs' h ht => by
    refine (hly W _ cs' h ht).mono ?_
    rintro e' w' ⟨x1, x2, x3, x4, x5, x6, x7, x8, x9, xA, xB, rfl, h1, h2⟩
    have hz := fun j e => (h2.2 j e).2.cells
    exact ⟨x1, x2, x3, x4, x5, x6, x7, x8, x9, xA, xB, rfl, h1, h2, fun j e => (hz j e).1, fun j e => (hz j e).2.1, fun j e => (hz j e).2.2.1, fun j e => (hz j e).2.2.2.1, fun j e => (hz j e).2.2.2.2.1, fun j e => (hz j e).2.2.2.2.2⟩
  have g0 : Sk W0 none W0 := ⟨Below.refl _ _, fun _ h => by cases h⟩
  have HW := Lib.hid hW0
  have HZ := Lib.hid hz
  obtain ⟨⟨a0, a1, a2, a3, a4⟩, hu0, hB0, _⟩ := hrd W0 _ g0
  have hm1 := must_ok B u _ _ W0 hu0 hB0 hf hpt
  rw [hW0] at a0 a1 a2 a3 a4
  obtain ⟨S, hS⟩ : ∃ S, S = Sk W0 := ⟨_, rfl⟩
  have hSa : ∀ W k n, S k W → n = W.heap.size → S (some n) (W.alloc z33) := fun W k n h e => by rw [hS] at h ⊢; rw [e]; exact h.alloc
  have hSz : ∀ W j, S (some j) W → Zero33 W j := fun W j h => by rw [hS] at h; exact (h.2 j rfl).2
  rw [← hS] at hrd hcop hcp hly hlyS hN0
  have hne : ∀ W k, S k W → (¬ n0 = W.heap.size) ∧ ¬ W.heap.size = n0 := fun W k h => by
    have := lt_of_cell (hrd W k h).1.1
    exact ⟨fun e => by omega, fun e => by omega⟩
  have HS := Lib.hid hS
  clear c0 hS hat hW0 hz g0
  go_enter Tryz.func107, Tryz.ntmps107
  go_wp2_with fail
  rw [← HW.out]
  refine hm1.mono ?_
  clear hm1
  rintro e' w1 ⟨rfl, hb1⟩
  clear a0 a1 a2 a3 a4
  have g1 : S none w1.drew := by rw [HS.out]; exact ⟨hb1.drew, fun _ h => by cases h⟩
  obtain ⟨⟨b0', b1', b2', b3', b4'⟩, _⟩ := hrd w1.drew _ g1
  obtain ⟨ne1, ne1'⟩ : (¬ n0 = w1.heap.size) ∧ ¬ w1.heap.size = n0 := hne w1.drew _ g1
  have g1a : S (some w1.heap.size) (w1.alloc z33).drew := by
    rw [HS.out]
    exact ⟨(hb1.alloc hb1.size _).drew, fun j hj => by
      obtain rfl := Option.some.inj hj
      exact ⟨hb1.size, World.alloc_heap_new w1 _⟩⟩
  obtain ⟨⟨d0', d1', d2', d3', d4'⟩, _⟩ := hrd _ _ g1a
  obtain ⟨y0, y1, y2, y3, y4, yf⟩ := Zero33.cells (hSz _ _ g1a)
  go_wp2_with fail
  go_region_held3 (fun W => W.cell? ⟨n0, 0, none⟩ = some (.int .i64 o0) ∧ W.cell? ⟨n0, 1, none⟩ = some (.string tx) ∧ W.cell? ⟨n0, 2, none⟩ = some (.slice s0 m0 k0) ∧ W.cell? ⟨n0, 3, none⟩ = some (.slice s1 m1 k1) ∧ W.cell? ⟨n0, 4, none⟩ = some (.slice s2 m2 k2)) (go_keep)
   (first
    | (go_at_call 101; refine (hcop _ _ (by assumption)).mono ?_; rintro e' w2 ⟨rfl, g2⟩; obtain ⟨⟨s0', s1', s2', s3', s4'⟩, _⟩ := hrd w2 _ g2; obtain ⟨ne2, ne2'⟩ := hne w2 _ g2; have g2a := hSa _ _ w2.heap.size g2 rfl; obtain ⟨⟨t0', t1', t2', t3', t4'⟩, _⟩ := hrd _ _ g2a)
    | (go_at_call 87; refine (hcp _ _ (by assumption)).mono ?_; rintro e' w3 ⟨cs', rfl, ht3, g3⟩; obtain ⟨⟨s0', s1', s2', s3', s4'⟩, _⟩ := hrd w3 _ g3; have ht3a := Lib.hid (ht3.out.alloc z33); obtain ⟨ne3, ne3'⟩ := hne w3 _ g3; have g3a := hSa _ _ w3.heap.size g3 rfl)
    | (go_at_call 108; refine (hlyS _ _ _ (by assumption) (by assumption)).mono ?_; rintro e' w4 ⟨x1, x2, x3, x4, x5, x6, x7, x8, x9, xA, xB, rfl, ht4, g4, v0, v1, v2, v3, v4, vf⟩; obtain ⟨⟨s0', s1', s2', s3', s4'⟩, _⟩ := hrd w4 _ g4; simp only [reduceCtorEq, false_imp_iff, implies_true, Option.some.injEq, forall_eq'] at v0 v1 v2 v3 v4 vf))
  all_goals
    first
    | (obtain ⟨W5, hW5, F5⟩ : ∃ W5, (w4.alloc (.cells #[.int .i64 x1, .string x2, .slice x3 x4 x5, .slice x6 x7 x8, .slice x9 xA xB] 33)) = W5 ∧ Fin W0 (layT t) [.int .i64 x1, .string x2, .slice x3 x4 x5, .slice x6 x7 x8, .slice x9 xA xB] w4.heap.size W5 := ⟨_, rfl, fin_new (by rw [HS.out] at g4; exact g4) ht4.out⟩; rw [hW5]; clear hW5; obtain ⟨k, hk⟩ : ∃ k, k = w4.heap.size := ⟨_, rfl⟩; rw [← hk] at F5 ⊢; clear hk)
    | (obtain ⟨W5, hW5, F5⟩ : ∃ W5, (((((w4.setCell ⟨w1.heap.size, 0, none⟩ (.int .i64 x1)).setCell ⟨w1.heap.size, 1, none⟩ (.string x2)).setCell ⟨w1.heap.size, 2, none⟩ (.slice x3 x4 x5)).setCell ⟨w1.heap.size, 3, none⟩ (.slice x6 x7 x8)).setCell ⟨w1.heap.size, 4, none⟩ (.slice x9 xA xB)) = W5 ∧ Fin W0 (layT t) [.int .i64 x1, .string x2, .slice x3 x4 x5, .slice x6 x7 x8, .slice x9 xA xB] w1.heap.size W5 := ⟨_, rfl, fin_old (by rw [HS.out] at g4; exact g4) ht4.out⟩; rw [hW5]; clear hW5; obtain ⟨k, hk⟩ : ∃ k, k = w1.heap.size := ⟨_, rfl⟩; rw [← hk] at F5 ⊢; clear hk)
    | (obtain ⟨W5, hW5, F5⟩ : ∃ W5, (((((w4.setCell ⟨w2.heap.size, 0, none⟩ (.int .i64 x1)).setCell ⟨w2.heap.size, 1, none⟩ (.string x2)).setCell ⟨w2.heap.size, 2, none⟩ (.slice x3 x4 x5)).setCell ⟨w2.heap.size, 3, none⟩ (.slice x6 x7 x8)).setCell ⟨w2.heap.size, 4, none⟩ (.slice x9 xA xB)) = W5 ∧ Fin W0 (layT t) [.int .i64 x1, .string x2, .slice x3 x4 x5, .slice x6 x7 x8, .slice x9 xA xB] w2.heap.size W5 := ⟨_, rfl, fin_old (by rw [HS.out] at g4; exact g4) ht4.out⟩; rw [hW5]; clear hW5; obtain ⟨k, hk⟩ : ∃ k, k = w2.heap.size := ⟨_, rfl⟩; rw [← hk] at F5 ⊢; clear hk)
    | (obtain ⟨W5, hW5, F5⟩ : ∃ W5, (((((w4.setCell ⟨w3.heap.size, 0, none⟩ (.int .i64 x1)).setCell ⟨w3.heap.size, 1, none⟩ (.string x2)).setCell ⟨w3.heap.size, 2, none⟩ (.slice x3 x4 x5)).setCell ⟨w3.heap.size, 3, none⟩ (.slice x6 x7 x8)).setCell ⟨w3.heap.size, 4, none⟩ (.slice x9 xA xB)) = W5 ∧ Fin W0 (layT t) [.int .i64 x1, .string x2, .slice x3 x4 x5, .slice x6 x7 x8, .slice x9 xA xB] w3.heap.size W5 := ⟨_, rfl, fin_old (by rw [HS.out] at g4; exact g4) ht4.out⟩; rw [hW5]; clear hW5; obtain ⟨k, hk⟩ : ∃ k, k = w3.heap.size := ⟨_, rfl⟩; rw [← hk] at F5 ⊢; clear hk)
  all_goals
    obtain ⟨f1, f2, f3, f4⟩ := F5
    obtain ⟨y0, y1, y2, y3, y4, yf⟩ := box_cells5 f3
    have hfit := mustFit_ok W5.heap.size W5 (layT t) [.int .i64 x1, .string x2, .slice x3 x4 x5, .slice x6 x7 x8, .slice x9 xA xB] W5 (KeptC.refl _ _) (Nat.le_refl _) hfl (TermAt.keep (blank_off _ _ _) (Nat.le_refl _) _ _ f4)
    have HF := Lib.hid (And.intro f1 (And.intro f2 (And.intro f3 f4)))
    clear f1 f2 f3 f4
    go_wp2_with fail
    refine hfit.mono ?_
    clear hfit
    rintro e' w6 ⟨rfl, hb6⟩
    obtain ⟨f1, f2, f3, f4⟩ := HF.out
    clear y0 y1 y2 y3 y4 yf
    obtain ⟨y0, y1, y2, y3, y4, yf⟩ := box_cells5 ((hb6.block k (lt_of_heap f3)).trans f3)
    obtain ⟨r0, r1, r2, r3, r4, rf⟩ := Zero33.cells ((hb6.block w.heap.size (by have := f1.size; have := HZ.out; omega)).trans ((f1.block w.heap.size (by have := HZ.out; omega)).trans z0))
    have HB6 := Lib.hid hb6
    clear f1 f2 f3 f4 hb6
    go_wp2
    simp [bodyPost, results, Tryz.results107, go_sem, r0, r1, r2, r3, r4]
    exact ⟨lay_done HZ.out HF.out HB6.out (later5 (Later.refl (w.heap.size + 1) w6) w.heap.size (Nat.lt_succ_self _) (.int .i64 x1) (.string x2) (.slice x3 x4 x5) (.slice x6 x7 x8) (.slice x9 xA xB)).2, set5 (lay_done2 HZ.out hb0 HF.out.1 HB6.out) w.heap.size (Nat.le_refl _) _ _ _ _ _⟩

set_option maxRecDepth 10000 in
set_option maxHeartbeats 4000000 in
theorem lay_work_long (B : Nat) (u : World) (t : Term) (hf : Formed (.proc t)) (cs : List Value) (hat : TermAt B u cs t) (w : World) (hu : KeptC B u w) (hB : B ≤ w.heap.size) (n0 : Nat) (c0 : CellsAt w n0 0 cs) (hfl : ¬ Formed (.proc (layT t))) :
    Calls Tryz.prog 107 #[.pointer (some ⟨n0, 0, none⟩)] w fun e' w' => e' = .panicked (refusal 3) ∧ Below w.heap.size w w' := by
  obtain ⟨o0, tx, s0, m0, k0, s1, m1, k1, s2, m2, k2, rfl⟩ := term_shape hat
  have hbc := bcT_le t 0 (formed_fine hf)
  have hsz : (nodesT 0 t).length ≤ 60 := hf.1
  obtain ⟨W0, hW0⟩ : ∃ W0, W0 = w.alloc (.cells #[.int .i64 0, .string ⟨#[]⟩, .slice none 0 0, .slice none 0 0, .slice none 0 0] 33) := ⟨_, rfl⟩
  have hb0 : Below w.heap.size w W0 := by rw [hW0]; exact (Below.refl _ w).alloc (Nat.le_refl _) _
  have hz : W0.heap.size = w.heap.size + 1 := by rw [hW0]; simp
  have z0 : Zero33 W0 w.heap.size := by unfold Zero33; rw [hW0]; exact World.alloc_heap_new w _
  have hpt : PartAt B u (.iface 83 (.agg #[.int .i64 o0, .string tx, .slice s0 m0 k0, .slice s1 m1 k1, .slice s2 m2 k2])) (.proc t) := ⟨_, rfl, hat⟩
  have hN0 : ∀ W k, Sk W0 k W → W0.heap.size ≤ W.heap.size := fun W k h => h.1.size
  have hrd : ∀ W k, Sk W0 k W → (W.cell? ⟨n0, 0, none⟩ = some (.int .i64 o0) ∧ W.cell? ⟨n0, 1, none⟩ = some (.string tx) ∧ W.cell? ⟨n0, 2, none⟩ = some (.slice s0 m0 k0) ∧ W.cell? ⟨n0, 3, none⟩ = some (.slice s1 m1 k1) ∧ W.cell? ⟨n0, 4, none⟩ = some (.slice s2 m2 k2)) ∧ KeptC B u W ∧ B ≤ W.heap.size ∧ Zero33 W w.heap.size ∧ Below w.heap.size w W := by
    intro W k h
    have hbW := hb0.trans (h.1.mono (by omega))
    exact ⟨cells5 (c0.below hbW (lt_of_cell (c0 0 (by simp)))), hu.trans ((Below.keptC hbW).mono hB), by have := hbW.size; omega, (h.1.block _ (by omega)).trans z0, hbW⟩
  have hcop : ∀ W k, Sk W0 k W → Calls Tryz.prog 101 #[] W fun e w' => e = .returned (.agg #[.iface 116 (.agg #[.map none]), .map none]) ∧ Sk W0 k w' := fun W k h =>
    (copied_any W).mono fun _ w' ⟨h1, h2⟩ => ⟨h1, h.mono h2⟩
  have hcp : ∀ W k, Sk W0 k W → Calls Tryz.prog 87 #[.agg #[.iface 116 (.agg #[.map none]), .map none], .agg #[.int .i64 o0, .string tx, .slice s0 m0 k0, .slice s1 m1 k1, .slice s2 m2 k2]] W fun e' w' =>
      ∃ cs', e' = .returned (.agg cs'.toArray) ∧ Hid (Av W0.heap.size k w' cs' t) ∧ Sk W0 k w' := fun W k h => by
    obtain ⟨_, hu1, hB1, _⟩ := hrd W k h
    have hpst := copy_start (B := B) (u := u) (m := none) (b := .outside) (fun r e => by cases e) (fun _ => rfl) t hf (.iface 116 (.agg #[.map none])) W rfl hu1 hB1 (fun _ => false) 0 _ hat (bud_none _ (by omega) W)
    rw [copy_same t _ (formed_fineT hf)] at hpst
    refine hpst.mono ?_
    rintro e' w' ⟨cs', rfl, h1, _, h3⟩
    refine ⟨_, rfl, Lib.hid ⟨_, fun b o v hv => ?_, h1⟩, h.mono (grown_below h3)⟩
    rw [blank_cell] at hv
    by_cases hlt : b < W.heap.size
    · rw [if_pos hlt] at hv; cases hv
    · rw [if_neg hlt] at hv
      exact ⟨by have := h.1.size; omega, fun e => by have := lt_of_heap (h.2 b e).2; omega, hv⟩
  have hly : ∀ W k cs', Sk W0 k W → Hid (Av W0.heap.size k W cs' t) → Calls Tryz.prog 108 #[.agg cs'.toArray] W fun e' w' => ∃ (x1 : Int) (x2 : ByteArray) (x3 : Option Addr) (x4 x5 : Nat) (x6 : Option Addr) (x7 x8 : Nat) (x9 : Option Addr) (xA xB : Nat), e' = .returned (.agg #[.int .i64 x1, .string x2, .slice x3 x4 x5, .slice x6 x7 x8, .slice x9 xA xB]) ∧ Hid (Av W0.heap.size k w' [.int .i64 x1, .string x2, .slice x3 x4 x5, .slice x6 x7 x8, .slice x9 xA xB] (layT t)) ∧ Sk W0 k w' := fun W k cs' h ht => by
    refine (Av.lay ht.out h.1.size (fun j hj => lt_of_heap (h.2 j hj).2) hf).mono ?_
    rintro e' w' ⟨cs'', rfl, h1, h2⟩
    obtain ⟨U, h3, h4⟩ := id h1
    obtain ⟨x1, x2, x3, x4, x5, x6, x7, x8, x9, xA, xB, rfl⟩ := term_shape h4
    exact ⟨x1, x2, x3, x4, x5, x6, x7, x8, x9, xA, xB, rfl, Lib.hid h1, h.mono h2⟩
  have hlyS : ∀ W k cs', Sk W0 k W → Hid (Av W0.heap.size k W cs' t) → Calls Tryz.prog 108 #[.agg cs'.toArray] W fun e' w' => ∃ (x1 : Int) (x2 : ByteArray) (x3 : Option Addr) (x4 x5 : Nat) (x6 : Option Addr) (x7 x8 : Nat) (x9 : Option Addr) (xA xB : Nat), e' = .returned (.agg #[.int .i64 x1, .string x2, .slice x3 x4 x5, .slice x6 x7 x8, .slice x9 xA xB]) ∧ Hid (Av W0.heap.size k w' [.int .i64 x1, .string x2, .slice x3 x4 x5, .slice x6 x7 x8, .slice x9 xA xB] (layT t)) ∧ Sk W0 k w' ∧
      (∀ j, k = some j → w'.cell? ⟨j, 0, none⟩ = some (.int .i64 0)) ∧ (∀ j, k = some j → w'.cell? ⟨j, 1, none⟩ = some (.string ⟨#[]⟩)) ∧ (∀ j, k = some j → w'.cell? ⟨j, 2, none⟩ = some (.slice none 0 0)) ∧ (∀ j, k = some j → w'.cell? ⟨j, 3, none⟩ = some (.slice none 0 0)) ∧ (∀ j, k = some j → w'.cell? ⟨j, 4, none⟩ = some (.slice none 0 0)) ∧ (∀ j, k = some j → ∀ o, w'.frozen? ⟨j, o, none⟩ = false) := fun W k cs' h ht => by
    refine (hly W _ cs' h ht).mono ?_
    rintro e' w' ⟨x1, x2, x3, x4, x5, x6, x7, x8, x9, xA, xB, rfl, h1, h2⟩
    have hz := fun j e => (h2.2 j e).2.cells
    exact ⟨x1, x2, x3, x4, x5, x6, x7, x8, x9, xA, xB, rfl, h1, h2, fun j e => (hz j e).1, fun j e => (hz j e).2.1, fun j e => (hz j e).2.2.1, fun j e => (hz j e).2.2.2.1, fun j e => (hz j e).2.2.2.2.1, fun j e => (hz j e).2.2.2.2.2⟩
  have g0 : Sk W0 none W0 := ⟨Below.refl _ _, fun _ h => by cases h⟩
  have HW := Lib.hid hW0
  have HZ := Lib.hid hz
  obtain ⟨⟨a0, a1, a2, a3, a4⟩, hu0, hB0, _⟩ := hrd W0 _ g0
  have hm1 := must_ok B u _ _ W0 hu0 hB0 hf hpt
  rw [hW0] at a0 a1 a2 a3 a4
  obtain ⟨S, hS⟩ : ∃ S, S = Sk W0 := ⟨_, rfl⟩
  have hSa : ∀ W k n, S k W → n = W.heap.size → S (some n) (W.alloc z33) := fun W k n h e => by rw [hS] at h ⊢; rw [e]; exact h.alloc
  have hSz : ∀ W j, S (some j) W → Zero33 W j := fun W j h => by rw [hS] at h; exact (h.2 j rfl).2
  rw [← hS] at hrd hcop hcp hly hlyS hN0
  have hne : ∀ W k, S k W → (¬ n0 = W.heap.size) ∧ ¬ W.heap.size = n0 := fun W k h => by
    have := lt_of_cell (hrd W k h).1.1
    exact ⟨fun e => by omega, fun e => by omega⟩
  have HS := Lib.hid hS
  clear c0 hS hat hW0 hz g0
  go_enter Tryz.func107, Tryz.ntmps107
  go_wp2_with fail
  rw [← HW.out]
  refine hm1.mono ?_
  clear hm1
  rintro e' w1 ⟨rfl, hb1⟩
  clear a0 a1 a2 a3 a4
  have g1 : S none w1.drew := by rw [HS.out]; exact ⟨hb1.drew, fun _ h => by cases h⟩
  obtain ⟨⟨b0', b1', b2', b3', b4'⟩, _⟩ := hrd w1.drew _ g1
  obtain ⟨ne1, ne1'⟩ : (¬ n0 = w1.heap.size) ∧ ¬ w1.heap.size = n0 := hne w1.drew _ g1
  have g1a : S (some w1.heap.size) (w1.alloc z33).drew := by
    rw [HS.out]
    exact ⟨(hb1.alloc hb1.size _).drew, fun j hj => by
      obtain rfl := Option.some.inj hj
      exact ⟨hb1.size, World.alloc_heap_new w1 _⟩⟩
  obtain ⟨⟨d0', d1', d2', d3', d4'⟩, _⟩ := hrd _ _ g1a
  obtain ⟨y0, y1, y2, y3, y4, yf⟩ := Zero33.cells (hSz _ _ g1a)
  go_wp2_with fail
  go_region_held3 (fun W => W.cell? ⟨n0, 0, none⟩ = some (.int .i64 o0) ∧ W.cell? ⟨n0, 1, none⟩ = some (.string tx) ∧ W.cell? ⟨n0, 2, none⟩ = some (.slice s0 m0 k0) ∧ W.cell? ⟨n0, 3, none⟩ = some (.slice s1 m1 k1) ∧ W.cell? ⟨n0, 4, none⟩ = some (.slice s2 m2 k2)) (go_keep)
   (first
    | (go_at_call 101; refine (hcop _ _ (by assumption)).mono ?_; rintro e' w2 ⟨rfl, g2⟩; obtain ⟨⟨s0', s1', s2', s3', s4'⟩, _⟩ := hrd w2 _ g2; obtain ⟨ne2, ne2'⟩ := hne w2 _ g2; have g2a := hSa _ _ w2.heap.size g2 rfl; obtain ⟨⟨t0', t1', t2', t3', t4'⟩, _⟩ := hrd _ _ g2a)
    | (go_at_call 87; refine (hcp _ _ (by assumption)).mono ?_; rintro e' w3 ⟨cs', rfl, ht3, g3⟩; obtain ⟨⟨s0', s1', s2', s3', s4'⟩, _⟩ := hrd w3 _ g3; have ht3a := Lib.hid (ht3.out.alloc z33); obtain ⟨ne3, ne3'⟩ := hne w3 _ g3; have g3a := hSa _ _ w3.heap.size g3 rfl)
    | (go_at_call 108; refine (hlyS _ _ _ (by assumption) (by assumption)).mono ?_; rintro e' w4 ⟨x1, x2, x3, x4, x5, x6, x7, x8, x9, xA, xB, rfl, ht4, g4, v0, v1, v2, v3, v4, vf⟩; obtain ⟨⟨s0', s1', s2', s3', s4'⟩, _⟩ := hrd w4 _ g4; simp only [reduceCtorEq, false_imp_iff, implies_true, Option.some.injEq, forall_eq'] at v0 v1 v2 v3 v4 vf))
  all_goals
    first
    | (obtain ⟨W5, hW5, F5⟩ : ∃ W5, (w4.alloc (.cells #[.int .i64 x1, .string x2, .slice x3 x4 x5, .slice x6 x7 x8, .slice x9 xA xB] 33)) = W5 ∧ Fin W0 (layT t) [.int .i64 x1, .string x2, .slice x3 x4 x5, .slice x6 x7 x8, .slice x9 xA xB] w4.heap.size W5 := ⟨_, rfl, fin_new (by rw [HS.out] at g4; exact g4) ht4.out⟩; rw [hW5]; clear hW5; obtain ⟨k, hk⟩ : ∃ k, k = w4.heap.size := ⟨_, rfl⟩; rw [← hk] at F5 ⊢; clear hk)
    | (obtain ⟨W5, hW5, F5⟩ : ∃ W5, (((((w4.setCell ⟨w1.heap.size, 0, none⟩ (.int .i64 x1)).setCell ⟨w1.heap.size, 1, none⟩ (.string x2)).setCell ⟨w1.heap.size, 2, none⟩ (.slice x3 x4 x5)).setCell ⟨w1.heap.size, 3, none⟩ (.slice x6 x7 x8)).setCell ⟨w1.heap.size, 4, none⟩ (.slice x9 xA xB)) = W5 ∧ Fin W0 (layT t) [.int .i64 x1, .string x2, .slice x3 x4 x5, .slice x6 x7 x8, .slice x9 xA xB] w1.heap.size W5 := ⟨_, rfl, fin_old (by rw [HS.out] at g4; exact g4) ht4.out⟩; rw [hW5]; clear hW5; obtain ⟨k, hk⟩ : ∃ k, k = w1.heap.size := ⟨_, rfl⟩; rw [← hk] at F5 ⊢; clear hk)
    | (obtain ⟨W5, hW5, F5⟩ : ∃ W5, (((((w4.setCell ⟨w2.heap.size, 0, none⟩ (.int .i64 x1)).setCell ⟨w2.heap.size, 1, none⟩ (.string x2)).setCell ⟨w2.heap.size, 2, none⟩ (.slice x3 x4 x5)).setCell ⟨w2.heap.size, 3, none⟩ (.slice x6 x7 x8)).setCell ⟨w2.heap.size, 4, none⟩ (.slice x9 xA xB)) = W5 ∧ Fin W0 (layT t) [.int .i64 x1, .string x2, .slice x3 x4 x5, .slice x6 x7 x8, .slice x9 xA xB] w2.heap.size W5 := ⟨_, rfl, fin_old (by rw [HS.out] at g4; exact g4) ht4.out⟩; rw [hW5]; clear hW5; obtain ⟨k, hk⟩ : ∃ k, k = w2.heap.size := ⟨_, rfl⟩; rw [← hk] at F5 ⊢; clear hk)
    | (obtain ⟨W5, hW5, F5⟩ : ∃ W5, (((((w4.setCell ⟨w3.heap.size, 0, none⟩ (.int .i64 x1)).setCell ⟨w3.heap.size, 1, none⟩ (.string x2)).setCell ⟨w3.heap.size, 2, none⟩ (.slice x3 x4 x5)).setCell ⟨w3.heap.size, 3, none⟩ (.slice x6 x7 x8)).setCell ⟨w3.heap.size, 4, none⟩ (.slice x9 xA xB)) = W5 ∧ Fin W0 (layT t) [.int .i64 x1, .string x2, .slice x3 x4 x5, .slice x6 x7 x8, .slice x9 xA xB] w3.heap.size W5 := ⟨_, rfl, fin_old (by rw [HS.out] at g4; exact g4) ht4.out⟩; rw [hW5]; clear hW5; obtain ⟨k, hk⟩ : ∃ k, k = w3.heap.size := ⟨_, rfl⟩; rw [← hk] at F5 ⊢; clear hk)
  all_goals
    obtain ⟨f1, f2, f3, f4⟩ := F5
    obtain ⟨y0, y1, y2, y3, y4, yf⟩ := box_cells5 f3
    have hfit := mustFit_no W5.heap.size W5 (layT t) [.int .i64 x1, .string x2, .slice x3 x4 x5, .slice x6 x7 x8, .slice x9 xA xB] W5 (KeptC.refl _ _) (Nat.le_refl _) hfl (TermAt.keep (blank_off _ _ _) (Nat.le_refl _) _ _ f4)
    have HF := Lib.hid f1
    clear f1 f2 f3 f4
    go_wp2_with fail
    refine hfit.mono ?_
    clear hfit
    rintro e' w6 ⟨rfl, hb6⟩
    exact ⟨rfl, rfl, (hb0.trans (HF.out.mono (by have := HZ.out; omega))).trans (hb6.mono (by have := HF.out.size; have := HZ.out; omega))⟩

set_option maxRecDepth 10000 in
set_option maxHeartbeats 1000000 in
theorem lay_work_no (B : Nat) (u : World) (t : Term) (hf : ¬ Formed (.proc t)) (cs : List Value) (hat : TermAt B u cs t) (w : World) (hu : KeptC B u w) (hB : B ≤ w.heap.size) (n0 : Nat) (c0 : CellsAt w n0 0 cs) :
    Calls Tryz.prog 107 #[.pointer (some ⟨n0, 0, none⟩)] w fun e' w' => e' = .panicked (refusal 2) ∧ Below w.heap.size w w' := by
  obtain ⟨o0, tx, s0, m0, k0, s1, m1, k1, s2, m2, k2, rfl⟩ := term_shape hat
  obtain ⟨W0, hW0⟩ : ∃ W0, W0 = w.alloc (.cells #[.int .i64 0, .string ⟨#[]⟩, .slice none 0 0, .slice none 0 0, .slice none 0 0] 33) := ⟨_, rfl⟩
  have hb0 : Below w.heap.size w W0 := by rw [hW0]; exact (Below.refl _ w).alloc (Nat.le_refl _) _
  have hz : W0.heap.size = w.heap.size + 1 := by rw [hW0]; simp
  have hpt : PartAt B u (.iface 83 (.agg #[.int .i64 o0, .string tx, .slice s0 m0 k0, .slice s1 m1 k1, .slice s2 m2 k2])) (.proc t) := ⟨_, rfl, hat⟩
  have hm1 := must_no B u _ _ W0 (hu.trans ((Below.keptC hb0).mono hB)) (by omega) hf hpt
  obtain ⟨a0, a1, a2, a3, a4⟩ := cells5 (c0.below hb0 (lt_of_cell (c0 0 (by simp))))
  rw [hW0] at a0 a1 a2 a3 a4
  have HW := Lib.hid hW0
  clear c0 hat hW0
  go_enter Tryz.func107, Tryz.ntmps107
  go_wp2_with fail
  rw [← HW.out]
  refine hm1.mono ?_
  clear hm1
  rintro e' w1 ⟨rfl, hb1⟩
  exact ⟨rfl, rfl, hb0.trans (hb1.mono (by omega))⟩

end Go.Proofs.YtjmlaeofjjhfmaaGreat
