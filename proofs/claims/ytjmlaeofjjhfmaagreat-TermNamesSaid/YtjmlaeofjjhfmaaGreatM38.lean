/- Put, by the function that the package exports. -/
import Derived.Test.YtjmlaeofjjhfmaaGreatM37
import Derived.Deep.RegionHeld3
set_option linter.unusedVariables false
set_option linter.unusedSimpArgs false
namespace Go.Proofs.YtjmlaeofjjhfmaaGreat
open Go.RowKit Go.Shelf Go.Maps Go.WideMaps

def zero5 : List Value := [.int .i64 0, .string ⟨#[]⟩, .slice none 0 0, .slice none 0 0, .slice none 0 0]
set_option maxRecDepth 10000 in
set_option maxHeartbeats 4000000 in
theorem put_any (B : Nat) (u : World) (t : Term) (x : ByteArray) (e : Exp) (hf : Formed (.proc t)) (hfe : Formed (.exp e)) (hx : nameB x = true) (hxz : x.size ≤ maxLen) (hpl : plainE e = true) (cs es : List Value) (hat : TermAt B u cs t) (hae : ExpAt B u es e)
    (w : World) (hu : KeptC B u w) (hB : B ≤ w.heap.size)
    (R : Option (Term × Used)) (hR : R = copyT ⟨.putting x e, [frame0]⟩ (usedP t x e) t) (hok : ∀ y, R = some y → Formed (.proc y.1)) (kc : Nat) (hcov : Cov (usedP t x e) kc) (hkc : kc + bcT t ≤ 4900) :
    Calls Tryz.prog 33 #[.agg cs.toArray, .string x, .agg es.toArray] w fun e' w' => ∃ cs', e' = .returned (.tuple #[.agg cs'.toArray, .int .i64 (if R.isSome then 0 else 7)]) ∧ cs'.length = 5 ∧ (∀ y, R = some y → TermAt w'.heap.size w' cs' y.1) ∧ Below w.heap.size w w' := by
  obtain ⟨o0, tx, s0, m0, k0, s1, m1, k1, s2, m2, k2, rfl⟩ := term_shape hat
  obtain ⟨e0, e1, e2, e3, e4, e5, rfl⟩ := exp_shape hae
  obtain ⟨W0, hW0⟩ : ∃ W0, W0 = ((((w.alloc (.cells #[.int .i64 o0, .string tx, .slice s0 m0 k0, .slice s1 m1 k1, .slice s2 m2 k2] 33)).alloc (.cells #[.string x] 9)).alloc (.cells #[.int .i64 e0, .int .i64 e1, .string e2, .slice e3 e4 e5] 36)).alloc (.cells #[.int .i64 0, .string ⟨#[]⟩, .slice none 0 0, .slice none 0 0, .slice none 0 0] 33)) := ⟨_, rfl⟩
  have hb0 : Below w.heap.size w W0 := by rw [hW0]; exact ((((Below.refl _ w).alloc (Nat.le_refl _) _).alloc (by simp) _).alloc (by simp; omega) _).alloc (by simp; omega) _
  have hz : W0.heap.size = w.heap.size + 4 := by rw [hW0]; simp
  have h0 : W0.heap[w.heap.size]? = some (.cells #[.int .i64 o0, .string tx, .slice s0 m0 k0, .slice s1 m1 k1, .slice s2 m2 k2] 33) := by
    rw [hW0, Below.heap_alloc _ _ _ (by simp <;> omega), Below.heap_alloc _ _ _ (by simp <;> omega), Below.heap_alloc _ _ _ (by simp)]; exact World.alloc_heap_new w _
  have h1 : W0.heap[w.heap.size + 1]? = some (.cells #[.string x] 9) := by
    rw [hW0, Below.heap_alloc _ _ _ (by simp <;> omega), Below.heap_alloc _ _ _ (by simp)]
    have := World.alloc_heap_new (w.alloc (.cells #[.int .i64 o0, .string tx, .slice s0 m0 k0, .slice s1 m1 k1, .slice s2 m2 k2] 33)) (.cells #[.string x] 9); rwa [World.size_alloc] at this
  have h2 : W0.heap[w.heap.size + 2]? = some (.cells #[.int .i64 e0, .int .i64 e1, .string e2, .slice e3 e4 e5] 36) := by
    rw [hW0, Below.heap_alloc _ _ _ (by simp)]
    have := World.alloc_heap_new ((w.alloc (.cells #[.int .i64 o0, .string tx, .slice s0 m0 k0, .slice s1 m1 k1, .slice s2 m2 k2] 33)).alloc (.cells #[.string x] 9)) (.cells #[.int .i64 e0, .int .i64 e1, .string e2, .slice e3 e4 e5] 36); rwa [World.size_alloc, World.size_alloc] at this
  have h3 : Zero33 W0 (w.heap.size + 3) := by
    unfold Zero33
    rw [hW0]
    have := World.alloc_heap_new (((w.alloc (.cells #[.int .i64 o0, .string tx, .slice s0 m0 k0, .slice s1 m1 k1, .slice s2 m2 k2] 33)).alloc (.cells #[.string x] 9)).alloc (.cells #[.int .i64 e0, .int .i64 e1, .string e2, .slice e3 e4 e5] 36)) (.cells #[.int .i64 0, .string ⟨#[]⟩, .slice none 0 0, .slice none 0 0, .slice none 0 0] 33); rwa [World.size_alloc, World.size_alloc, World.size_alloc] at this
  obtain ⟨WC, hWC⟩ : ∃ WC, WC = (W0.alloc (.cells #[.int .i64 0, .string ⟨#[]⟩, .slice none 0 0, .slice none 0 0, .slice none 0 0] 33)).alloc (.cells #[.int .i64 0] 37) := ⟨_, rfl⟩
  have hbC : Below W0.heap.size W0 WC := by rw [hWC]; exact ((Below.refl _ W0).alloc (Nat.le_refl _) _).alloc (by simp) _
  have hzC : WC.heap.size = W0.heap.size + 2 := by rw [hWC]; simp
  have hbwC := hb0.trans (hbC.mono (by omega))
  have hw := put_work B u t x e hf hfe hx hxz hpl _ _ hat hae WC (hu.trans ((Below.keptC hbwC).mono hB)) (by omega) w.heap.size (w.heap.size + 1) (w.heap.size + 2)
    (fun j hj => by
      have q := (hbC.block w.heap.size (by omega)).trans h0
      match j, hj with
      | 0, _ => simp [World.cell?, q]
      | 1, _ => simp [World.cell?, q]
      | 2, _ => simp [World.cell?, q]
      | 3, _ => simp [World.cell?, q]
      | 4, _ => simp [World.cell?, q])
    (by have q := (hbC.block (w.heap.size + 1) (by omega)).trans h1; simp [World.cell?, q])
    (fun j hj => by
      have q := (hbC.block (w.heap.size + 2) (by omega)).trans h2
      match j, hj with
      | 0, _ => simp [World.cell?, q]
      | 1, _ => simp [World.cell?, q]
      | 2, _ => simp [World.cell?, q]
      | 3, _ => simp [World.cell?, q]) R hR hok kc hcov hkc
  have hmf : ∀ (fn : Fn) (first cap : Array Value) (w : World), (Instr.makeFunc fn first cap).run Tryz.prog w = .ok (.func fn first cap) w := fun _ _ _ _ => rfl
  have e83 : ∀ args w, (callFunc 83 args).run Tryz.prog w = .ok (.enter 83 args) w := enters_of Tryz.func83 (by kernel_rfl) rfl
  have HW := Lib.hid hW0
  have HZ := Lib.hid hz
  have HZC := Lib.hid hzC
  clear hR hok hcov hkc h0 h1 h2 hat hae hf hfe
  cases R with
  | none =>
    have ha := attempt_82_up 83 #[.pointer (some ⟨w.heap.size, 0, none⟩), .pointer (some ⟨w.heap.size + 1, 0, none⟩), .pointer (some ⟨w.heap.size + 2, 0, none⟩)] 7 W0 e83 (by
      rw [← hWC, ← hzC]
      refine hw.mono ?_
      rintro e' w' ⟨h1, h2⟩
      exact ⟨h1, h2⟩)
    clear hw hWC hW0 hz hzC
    go_enter Tryz.func33, Tryz.ntmps33
    go_wp2_with (go_at_call 82; rw [← HW.out]; refine ha.mono ?_; clear ha; rintro e' w1 ⟨rfl, hb1⟩; obtain ⟨x0, x1, x2, x3, x4, xf⟩ := Zero33.cells ((hb1.block (w.heap.size + 3) (by have := HZ.out; omega)).trans h3))
    simp [bodyPost, results, Tryz.results33, go_sem, x0, x1, x2, x3, x4]
    exact set5 (hb0.trans (hb1.mono (by have := HZ.out; omega))) (w.heap.size + 3) (by omega) _ _ _ _ _
  | some y =>
    have ha := attempt_82 83 #[.pointer (some ⟨w.heap.size, 0, none⟩), .pointer (some ⟨w.heap.size + 1, 0, none⟩), .pointer (some ⟨w.heap.size + 2, 0, none⟩)] W0 (fun X w' => TermAt w'.heap.size (blank WC.heap.size w') [.int .i64 X.op, .string X.t, .slice X.a0 X.n0 X.c0, .slice X.a1 X.n1 X.c1, .slice X.a2 X.n2 X.c2] y.1) e83 (by
      rw [← hWC, ← hzC]
      refine hw.mono ?_
      rintro e' w' ⟨cs', rfl, h1, h2⟩
      obtain ⟨a1, a2, a3, a4, a5, a6, a7, a8, a9, a10, a11, rfl⟩ := term_shape h1
      exact ⟨⟨a1, a2, a3, a4, a5, a6, a7, a8, a9, a10, a11⟩, rfl, h1, h2⟩)
    clear hw hW0
    have HC := Lib.hid hWC
    clear hWC hz hzC
    go_enter Tryz.func33, Tryz.ntmps33
    go_wp2_with (go_at_call 82; rw [← HW.out]; refine ha.mono ?_; clear ha; rintro e' w2 ⟨⟨a1, a2, a3, a4, a5, a6, a7, a8, a9, a10, a11⟩, w1, rfl, hR1, hsz, hblk, hb1⟩; obtain ⟨x0, x1, x2, x3, x4, xf⟩ := Zero33.cells ((hb1.block (w.heap.size + 3) (by have := HZ.out; omega)).trans h3); have HS := Lib.hid hsz; clear hsz)
    simp [bodyPost, results, Tryz.results33, go_sem, x0, x1, x2, x3, x4]
    have hz := HZ.out
    have hzC := HZC.out
    refine ⟨?_, set5 (hb0.trans (hb1.mono (by omega))) (w.heap.size + 3) (by omega) _ _ _ _ _⟩
    have hL : Later (w.heap.size + 6) w1 w2 := ⟨by rw [HS.out]; exact Nat.le_refl _, fun b hb _ => hblk b (by omega)⟩
    have hL5 := later5 hL (w.heap.size + 3) (by omega) (.int .i64 a1) (.string a2) (.slice a3 a4 a5) (.slice a6 a7 a8) (.slice a9 a10 a11)
    rw [← HS.out]
    exact TermAt.keep (blank_off 0 _ _) (Nat.le_refl _) _ _ (TermAt.keep (hL5.kept (A0 := WC.heap.size) (A' := 0) (B := w1.heap.size) (by omega) (by omega) (Nat.le_refl _)) (Nat.le_refl _) _ _ hR1)

end Go.Proofs.YtjmlaeofjjhfmaaGreat
/- Canon. -/
namespace Go.Proofs.YtjmlaeofjjhfmaaGreat
open Go.RowKit Go.Shelf Go.Maps Go.WideMaps

theorem Tryz.results95 : Tryz.f95.results = #[.cell 1 33] := by kernel_rfl
theorem Tryz.results42 : Tryz.f42.results = #[.cell 2 33, .tmp 3] := by kernel_rfl
set_option maxRecDepth 10000 in
set_option maxHeartbeats 4000000 in
theorem canon_work (B : Nat) (u : World) (t : Term) (hf : Formed (.proc t)) (cs : List Value) (hat : TermAt B u cs t) (w : World) (hu : KeptC B u w) (hB : B ≤ w.heap.size) (n0 : Nat) (c0 : CellsAt w n0 0 cs)
    (y : Term × Used) (hR : copyT ⟨.anew, [frame0]⟩ (freeN 60 (.proc t)) t = some y) (kc : Nat) (hcov : Cov (freeN 60 (.proc t)) kc) (hkc : kc + bcT t ≤ 4900) :
    Calls Tryz.prog 95 #[.pointer (some ⟨n0, 0, none⟩)] w fun e' w' => ∃ cs', e' = .returned (.agg cs'.toArray) ∧ TermAt w'.heap.size (blank w.heap.size w') cs' y.1 ∧ Below w.heap.size w w' := by
  obtain ⟨o0, tx, s0, m0, k0, s1, m1, k1, s2, m2, k2, rfl⟩ := term_shape hat
  obtain ⟨W0, hW0⟩ : ∃ W0, W0 = w.alloc (.cells #[.int .i64 0, .string ⟨#[]⟩, .slice none 0 0, .slice none 0 0, .slice none 0 0] 33) := ⟨_, rfl⟩
  have hb0 : Below w.heap.size w W0 := by rw [hW0]; exact (Below.refl _ w).alloc (Nat.le_refl _) _
  have hz : W0.heap.size = w.heap.size + 1 := by rw [hW0]; simp
  have z0 : Zero33 W0 w.heap.size := by unfold Zero33; rw [hW0]; exact World.alloc_heap_new w _
  obtain ⟨G, hG⟩ : ∃ G : World → Prop, G = fun W => Below W0.heap.size W0 W := ⟨_, rfl⟩
  have hrd : ∀ W, G W → (W.cell? ⟨n0, 0, none⟩ = some (.int .i64 o0) ∧ W.cell? ⟨n0, 1, none⟩ = some (.string tx) ∧ W.cell? ⟨n0, 2, none⟩ = some (.slice s0 m0 k0) ∧ W.cell? ⟨n0, 3, none⟩ = some (.slice s1 m1 k1) ∧ W.cell? ⟨n0, 4, none⟩ = some (.slice s2 m2 k2)) ∧
      KeptC B u W ∧ B ≤ W.heap.size ∧ Zero33 W w.heap.size ∧ Below w.heap.size w W := by
    intro W h
    rw [hG] at h
    have hbW := hb0.trans (h.mono (by omega))
    exact ⟨cells5 (c0.below hbW (lt_of_cell (c0 0 (by simp)))), hu.trans ((Below.keptC hbW).mono hB), by have := hbW.size; omega, (h.block _ (by omega)).trans z0, hbW⟩
  have hpt : PartAt B u (.iface 83 (.agg #[.int .i64 o0, .string tx, .slice s0 m0 k0, .slice s1 m1 k1, .slice s2 m2 k2])) (.proc t) := ⟨_, rfl, hat⟩
  have hfr : ∀ W, G W → Calls Tryz.prog 75 #[.iface 83 (.agg #[.int .i64 o0, .string tx, .slice s0 m0 k0, .slice s1 m1 k1, .slice s2 m2 k2])] W fun e' w' => ∃ b2, e' = .returned (.map (some b2)) ∧ W0.heap.size ≤ b2 ∧ SetF w' b2 60 (freeN 60 (.proc t)) ∧ G w' := fun W h => by
    obtain ⟨_, hu1, hB1, _, _⟩ := hrd W h
    rw [hG] at h ⊢
    refine (free_any B u 60 (.proc t) hf.1 (by omega) hf.allSmall hf.allBind _ W hpt hu1 hB1).mono ?_
    rintro e' w' ⟨b2, rfl, h1, h2, h3⟩
    exact ⟨b2, rfl, by have := h.size; omega, h2.mono hf.1, h.trans (h3.mono h.size)⟩
  have hcp : ∀ W b2, G W → W0.heap.size ≤ b2 → SetF W b2 60 (freeN 60 (.proc t)) → Calls Tryz.prog 87 #[.agg #[.iface 134 (.agg #[.map (some b2)]), .map none], .agg #[.int .i64 o0, .string tx, .slice s0 m0 k0, .slice s1 m1 k1, .slice s2 m2 k2]] W fun e' w' =>
      ∃ (a1 : Int) (a2 : ByteArray) (a3 : Option Addr) (a4 a5 : Nat) (a6 : Option Addr) (a7 a8 : Nat) (a9 : Option Addr) (a10 a11 : Nat), e' = .returned (.agg #[.int .i64 a1, .string a2, .slice a3 a4 a5, .slice a6 a7 a8, .slice a9 a10 a11]) ∧
        TermAt w'.heap.size (blank W0.heap.size w') [.int .i64 a1, .string a2, .slice a3 a4 a5, .slice a6 a7 a8, .slice a9 a10 a11] y.1 ∧ Zero33 w' w.heap.size ∧ G w' := fun W b2 h hb2 hS => by
    obtain ⟨_, hu1, hB1, _, _⟩ := hrd W h
    have hpst := copy_start (B := B) (u := u) (m := some b2) (b := .anew) (fun r e => by have := Option.some.inj e; omega) (by simp) t hf (.iface 134 (.agg #[.map (some b2)])) W rfl hu1 hB1 (freeN 60 (.proc t)) 0 _ hat ⟨⟨60, by omega, fun b' hb' => by obtain rfl := Option.some.inj hb'; exact hS⟩, kc, by omega, hcov⟩
    rw [hR] at hpst
    refine hpst.mono ?_
    rintro e' w' ⟨cs', rfl, h1, _, h3⟩
    obtain ⟨a1, a2, a3, a4, a5, a6, a7, a8, a9, a10, a11, rfl⟩ := term_shape h1
    rw [hG] at h
    have hb' : Below W0.heap.size W0 w' := h.grown h3 h.size (fun r e => by have := Option.some.inj e; omega)
    refine ⟨_, _, _, _, _, _, _, _, _, _, _, rfl, TermAt.keep (blank_kept h.size fun b o v _ _ hv => hv) (Nat.le_refl _) _ _ h1, (hb'.block _ (by omega)).trans z0, by rw [hG]; exact hb'⟩
  have hm1 := must_ok B u _ _ W0 (hu.trans ((Below.keptC hb0).mono hB)) (by omega) hf hpt
  obtain ⟨q0, q3, q4, q5, q6⟩ := hrd W0 (by rw [hG]; exact Below.refl _ _)
  obtain ⟨a0, a1, a2, a3, a4⟩ := q0
  rw [hW0] at a0 a1 a2 a3 a4
  have HW := Lib.hid hW0
  have HZ := Lib.hid hz
  have HG := Lib.hid hG
  have n1 : ¬ w.heap.size = n0 := by have := lt_of_cell (c0 0 (by simp)); omega
  clear hW0 hz c0 hG hat
  go_enter Tryz.func95, Tryz.ntmps95
  go_wp2_with fail
  rw [← HW.out]
  refine hm1.mono ?_
  clear hm1
  rintro e' w1 ⟨rfl, hb1⟩
  clear a0 a1 a2 a3 a4 q3 q4 q5 q6
  have g1 : G w1.drew := by rw [HG.out]; exact hb1.drew
  obtain ⟨⟨b0', b1', b2', b3', b4'⟩, _⟩ := hrd w1.drew g1
  go_wp2_with fail
  go_region_held3 (fun w' => w'.cell? ⟨n0, 0, none⟩ = some (.int .i64 o0) ∧ w'.cell? ⟨n0, 1, none⟩ = some (.string tx) ∧ w'.cell? ⟨n0, 2, none⟩ = some (.slice s0 m0 k0) ∧ w'.cell? ⟨n0, 3, none⟩ = some (.slice s1 m1 k1) ∧ w'.cell? ⟨n0, 4, none⟩ = some (.slice s2 m2 k2)) (go_keep)
    (first
    | (go_at_call 75; refine (hfr _ (by assumption)).mono ?_; rintro e' w2 ⟨b2, rfl, hb2, hs2, g2⟩; obtain ⟨⟨s0', s1', s2', s3', s4'⟩, _⟩ := hrd w2 g2)
    | (go_at_call 87; refine (hcp _ _ (by assumption) (by assumption) (by assumption)).mono ?_; rintro e' w3 ⟨x1, x2, x3, x4, x5, x6, x7, x8, x9, x10, x11, rfl, ht3, hz3, g3⟩; obtain ⟨⟨t0', t1', t2', t3', t4'⟩, _⟩ := hrd w3 g3; obtain ⟨y0, y1, y2, y3, y4, yf⟩ := hz3.cells))
  all_goals
    have hbF : Below W0.heap.size W0 w3 := by rw [HG.out] at g3; exact g3
    have hZ := HZ.out
    go_wp2
    simp [bodyPost, results, Tryz.results95, go_sem, y0, y1, y2, y3, y4]
    have hL5 := later5 (Later.refl W0.heap.size w3) w.heap.size (by omega) (.int .i64 x1) (.string x2) (.slice x3 x4 x5) (.slice x6 x7 x8) (.slice x9 x10 x11)
    exact ⟨TermAt.keep (hL5.kept (A0 := W0.heap.size) (A' := w.heap.size) (B := w3.heap.size) (Nat.le_refl _) (by omega) (Nat.le_refl _)) (Nat.le_refl _) _ _ ht3, set5 (hb0.trans (hbF.mono (by omega))) w.heap.size (Nat.le_refl _) _ _ _ _ _⟩

set_option maxRecDepth 10000 in
set_option maxHeartbeats 4000000 in
theorem canon_any (B : Nat) (u : World) (t : Term) (hf : Formed (.proc t)) (cs : List Value) (hat : TermAt B u cs t) (w : World) (hu : KeptC B u w) (hB : B ≤ w.heap.size)
    (y : Term × Used) (hR : copyT ⟨.anew, [frame0]⟩ (freeN 60 (.proc t)) t = some y) (kc : Nat) (hcov : Cov (freeN 60 (.proc t)) kc) (hkc : kc + bcT t ≤ 4900) :
    Calls Tryz.prog 42 #[.agg cs.toArray] w fun e' w' => ∃ cs', e' = .returned (.tuple #[.agg cs'.toArray, .int .i64 0]) ∧ TermAt w'.heap.size w' cs' y.1 ∧ Below w.heap.size w w' := by
  obtain ⟨o0, tx, s0, m0, k0, s1, m1, k1, s2, m2, k2, rfl⟩ := term_shape hat
  obtain ⟨W0, hW0⟩ : ∃ W0, W0 = ((w.alloc (.cells #[.int .i64 o0, .string tx, .slice s0 m0 k0, .slice s1 m1 k1, .slice s2 m2 k2] 33)).alloc (.cells #[.int .i64 0, .string ⟨#[]⟩, .slice none 0 0, .slice none 0 0, .slice none 0 0] 33)) := ⟨_, rfl⟩
  have hb0 : Below w.heap.size w W0 := by rw [hW0]; exact ((Below.refl _ w).alloc (Nat.le_refl _) _).alloc (by simp) _
  have hz : W0.heap.size = w.heap.size + 2 := by rw [hW0]; simp
  have h0 : W0.heap[w.heap.size]? = some (.cells #[.int .i64 o0, .string tx, .slice s0 m0 k0, .slice s1 m1 k1, .slice s2 m2 k2] 33) := by
    rw [hW0, Below.heap_alloc _ _ _ (by simp)]; exact World.alloc_heap_new w _
  have h3 : Zero33 W0 (w.heap.size + 1) := by
    unfold Zero33
    rw [hW0]
    have := World.alloc_heap_new (w.alloc (.cells #[.int .i64 o0, .string tx, .slice s0 m0 k0, .slice s1 m1 k1, .slice s2 m2 k2] 33)) (.cells #[.int .i64 0, .string ⟨#[]⟩, .slice none 0 0, .slice none 0 0, .slice none 0 0] 33); rwa [World.size_alloc] at this
  obtain ⟨WC, hWC⟩ : ∃ WC, WC = (W0.alloc (.cells #[.int .i64 0, .string ⟨#[]⟩, .slice none 0 0, .slice none 0 0, .slice none 0 0] 33)).alloc (.cells #[.int .i64 0] 37) := ⟨_, rfl⟩
  have hbC : Below W0.heap.size W0 WC := by rw [hWC]; exact ((Below.refl _ W0).alloc (Nat.le_refl _) _).alloc (by simp) _
  have hzC : WC.heap.size = W0.heap.size + 2 := by rw [hWC]; simp
  have hbwC := hb0.trans (hbC.mono (by omega))
  have hw := canon_work B u t hf _ hat WC (hu.trans ((Below.keptC hbwC).mono hB)) (by omega) w.heap.size
    (fun j hj => by
      have q := (hbC.block w.heap.size (by omega)).trans h0
      match j, hj with
      | 0, _ => simp [World.cell?, q]
      | 1, _ => simp [World.cell?, q]
      | 2, _ => simp [World.cell?, q]
      | 3, _ => simp [World.cell?, q]
      | 4, _ => simp [World.cell?, q]) y hR kc hcov hkc
  have hmf : ∀ (fn : Fn) (first cap : Array Value) (w : World), (Instr.makeFunc fn first cap).run Tryz.prog w = .ok (.func fn first cap) w := fun _ _ _ _ => rfl
  have ha := attempt_82 95 #[.pointer (some ⟨w.heap.size, 0, none⟩)] W0 (fun X w' => TermAt w'.heap.size (blank WC.heap.size w') [.int .i64 X.op, .string X.t, .slice X.a0 X.n0 X.c0, .slice X.a1 X.n1 X.c1, .slice X.a2 X.n2 X.c2] y.1) (enters_of Tryz.func95 (by kernel_rfl) rfl) (by
    rw [← hWC, ← hzC]
    refine hw.mono ?_
    rintro e' w' ⟨cs', rfl, h1, h2⟩
    obtain ⟨a1, a2, a3, a4, a5, a6, a7, a8, a9, a10, a11, rfl⟩ := term_shape h1
    exact ⟨⟨a1, a2, a3, a4, a5, a6, a7, a8, a9, a10, a11⟩, rfl, h1, h2⟩)
  have HW := Lib.hid hW0
  have HZ := Lib.hid hz
  have HZC := Lib.hid hzC
  have HC := Lib.hid hWC
  clear hw hW0 hWC hz hzC hR hcov hkc h0 hat hf
  go_enter Tryz.func42, Tryz.ntmps42
  go_wp2_with (go_at_call 82; rw [← HW.out]; refine ha.mono ?_; clear ha; rintro e' w2 ⟨⟨a1, a2, a3, a4, a5, a6, a7, a8, a9, a10, a11⟩, w1, rfl, hR1, hsz, hblk, hb1⟩; obtain ⟨x0, x1, x2, x3, x4, xf⟩ := Zero33.cells ((hb1.block (w.heap.size + 1) (by have := HZ.out; omega)).trans h3); have HS := Lib.hid hsz; clear hsz)
  simp [bodyPost, results, Tryz.results42, go_sem, x0, x1, x2, x3, x4]
  have hz := HZ.out
  have hzC := HZC.out
  refine ⟨?_, set5 (hb0.trans (hb1.mono (by omega))) (w.heap.size + 1) (by omega) _ _ _ _ _⟩
  have hL : Later (w.heap.size + 4) w1 w2 := ⟨by rw [HS.out]; exact Nat.le_refl _, fun b hb _ => hblk b (by omega)⟩
  have hL5 := later5 hL (w.heap.size + 1) (by omega) (.int .i64 a1) (.string a2) (.slice a3 a4 a5) (.slice a6 a7 a8) (.slice a9 a10 a11)
  rw [← HS.out]
  exact TermAt.keep (blank_off 0 _ _) (Nat.le_refl _) _ _ (TermAt.keep (hL5.kept (A0 := WC.heap.size) (A' := 0) (B := w1.heap.size) (by omega) (by omega) (Nat.le_refl _)) (Nat.le_refl _) _ _ hR1)

end Go.Proofs.YtjmlaeofjjhfmaaGreat
