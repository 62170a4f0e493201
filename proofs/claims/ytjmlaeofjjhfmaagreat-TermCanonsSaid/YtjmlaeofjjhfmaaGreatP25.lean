/- Canon. -/
import Derived.Test.YtjmlaeofjjhfmaaGreatP24
import Derived.Deep.RegionHeld3
set_option linter.unusedVariables false
set_option linter.unusedSimpArgs false
namespace Go.Proofs.YtjmlaeofjjhfmaaGreat
open Go.RowKit Go.Shelf Go.Maps Go.WideMaps

theorem Tryz.results95 : Tryz.f95.results = #[.cell 1 33] := by kernel_rfl
theorem Tryz.results42 : Tryz.f42.results = #[.cell 2 33, .tmp 3] := by kernel_rfl
set_option maxRecDepth 10000 in
set_option maxHeartbeats 4000000 in
theorem canon_work (B : Nat) (u : World) (t : Term) (hf : Formed (.proc t)) (cs : List Value) (hat : TermAt B u cs t) (w : World) (hu : KeptC B u w) (hB : B ≤ w.heap.size) (n0 : Nat) (c0 : CellsAt w n0 0 cs)
    (y : Term × Used) (hR : copyT ⟨.anew, [frame0]⟩ (freeN 60 (.proc t)) t = some y) (kc : Nat) (hcov : Cov (freeN 60 (.proc t)) kc) (hkc : kc + bcT t ≤ 4900) :
    Calls Tryz.prog 95 #[.pointer (some ⟨n0, 0, none⟩)] w fun e' w' => ∃ cs', e' = .returned (.agg cs'.toArray) ∧ TermAt w'.heap.size (blank w.heap.size w') cs' y.1 ∧ Below w.heap.size w w' := by
  obtain ⟨o0, tx, s0, m0, k0, s1, m1, k1, s2, m2, k2, rfl⟩ := term_shape hat
  obtain ⟨W0, hW0⟩ : ∃ W0, W0 = w.alloc (.cells #[.int .i64 0, .string ⟨#[]⟩, .slice none 0 0, .slice none 0 0, .slice none 0 0] 33) := ⟨_, rfl⟩
  have hb0 : Below w.heap.size w W0 := by rw [hW0]; exact (Below.refl _ w).alloc (Nat.le_refl _) _
  have hz : W0.heap.size = w.heap.size + 1 := by rw [hW0]; simp
  have z0 : Zero33 W0 w.heap.size := by unfold Zero33; rw [hW0]; exact World.alloc_heap_new w _
  obtain ⟨G, hG⟩ : ∃ G : World → Prop, G = fun W => Below W0.heap.size W0 W := ⟨_, rfl⟩
  have hrd : ∀ W, G W → (W.cell? ⟨n0, 0, none⟩ = some (.int .i64 o0) ∧ W.cell? ⟨n0, 1, none⟩ = some (.string tx) ∧ W.cell? ⟨n0, 2, none⟩ = some (.slice s0 m0 k0) ∧ W.cell? ⟨n0, 3, none⟩ = some (.slice s1 m1 k1) ∧ W.cell? ⟨n0, 4, none⟩ = some (.slice s2 m2 k2)) ∧
      KeptC B u W ∧ B ≤ W.heap.size ∧ Zero33 W w.heap.size ∧ Below w.heap.size w W := by
    intro W h
    rw [hG] at h
    have hbW := hb0.trans (h.mono (by omega))
    exact ⟨cells5 (c0.below hbW (lt_of_cell (c0 0 (by simp)))), hu.trans ((Below.keptC hbW).mono hB), by have := hbW.size; omega, (h.block _ (by omega)).trans z0, hbW⟩
  have hpt : PartAt B u (.iface 83 (.agg #[.int .i64 o0, .string tx, .slice s0 m0 k0, .slice s1 m1 k1, .slice s2 m2 k2])) (.proc t) := ⟨_, rfl, hat⟩
  have hfr : ∀ W, G W → Calls Tryz.prog 75 #[.iface 83 (.agg #[.int .i64 o0, .string tx, .slice s0 m0 k0, .slice s1 m1 k1, .slice s2 m2 k2])] W fun e' w' => ∃ b2, e' = .returned (.map (some b2)) ∧ W0.heap.size ≤ b2 ∧ SetF w' b2 60 (freeN 60 (.proc t)) ∧ G w' := fun W h => by
    obtain ⟨_, hu1, hB1, _, _⟩ := hrd W h
    rw [hG] at h ⊢
    refine (free_any B u 60 (.proc t) hf.1 (by omega) hf.allSmall hf.allBind _ W hpt hu1 hB1).mono ?_
    rintro e' w' ⟨b2, rfl, h1, h2, h3⟩
    exact ⟨b2, rfl, by have := h.size; omega, h2.mono hf.1, h.trans (h3.mono h.size)⟩
  have hcp : ∀ W b2, G W → W0.heap.size ≤ b2 → SetF W b2 60 (freeN 60 (.proc t)) → Calls Tryz.prog 87 #[.agg #[.iface 134 (.agg #[.map (some b2)]), .map none], .agg #[.int .i64 o0, .string tx, .slice s0 m0 k0, .slice s1 m1 k1, .slice s2 m2 k2]] W fun e' w' =>
      ∃ (a1 : Int) (a2 : ByteArray) (a3 : Option Addr) (a4 a5 : Nat) (a6 : Option Addr) (a7 a8 : Nat) (a9 : Option Addr) (a10 a11 : Nat), e' = .returned (.agg #[.int .i64 a1, .string a2, .slice a3 a4 a5, .slice a6 a7 a8, .slice a9 a10 a11]) ∧
        TermAt w'.heap.size (blank W0.heap.size w') [.int .i64 a1, .string a2, .slice a3 a4 a5, .slice a6 a7 a8, .slice a9 a10 a11] y.1 ∧ Zero33 w' w.heap.size ∧ G w' := fun W b2 h hb2 hS => by
    obtain ⟨_, hu1, hB1, _, _⟩ := hrd W h
    have hpst := copy_start (B := B) (u := u) (m := some b2) (b := .anew) (fun r e => by have := Option.some.inj e; omega) (by simp) t hf (.iface 134 (.agg #[.map (some b2)])) W rfl hu1 hB1 (freeN 60 (.proc t)) 0 _ hat ⟨⟨60, by omega, fun b' hb' => by obtain rfl := Option.some.inj hb'; exact hS⟩, kc, by omega, hcov⟩
    rw [hR] at hpst
    refine hpst.mono ?_
    rintro e' w' ⟨cs', rfl, h1, _, h3⟩
    obtain ⟨a1, a2, a3, a4, a5, a6, a7, a8, a9, a10, a11, rfl⟩ := term_shape h1
    rw [hG] at h
    have hb' : Below W0.heap.size W0 w' := h.grown h3 h.size (fun r e => by have := Option.some.inj e; omega)
    refine ⟨_, _, _, _, _, _, _, _, _, _, _, rfl, TermAt.keep (blank_kept h.size fun b o v _ _ hv => hv) (Nat.le_refl _) _ _ h1, (hb'.block _ (by omega)).trans z0, by rw [hG]; exact hb'⟩
  have hm1 := must_ok B u _ _ W0 (hu.trans ((Below.keptC hb0).mono hB)) (by omega) hf hpt
  obtain ⟨q0, q3, q4, q5, q6⟩ := hrd W0 (by rw [hG]; exact Below.refl _ _)
  obtain ⟨a0, a1, a2, a3, a4⟩ := q0
  rw [hW0] at a0 a1 a2 a3 a4
  have HW := Lib.hid hW0
  have HZ := Lib.hid hz
  have HG := Lib.hid hG
  have n1 : ¬ w.heap.size = n0 := by have := lt_of_cell (c0 0 (by simp)); omega
  clear hW0 hz c0 hG hat
  go_enter Tryz.func95, Tryz.ntmps95
  go_wp2_with fail
  rw [← HW.out]
  refine hm1.mono ?_
  clear hm1
  rintro e' w1 ⟨rfl, hb1⟩
  clear a0 a1 a2 a3 a4 q3 q4 q5 q6
  have g1 : G w1.drew := by rw [HG.out]; exact hb1.drew
  obtain ⟨⟨b0', b1', b2', b3', b4'⟩, _⟩ := hrd w1.drew g1
  go_wp2_with fail
  go_region_held3 (fun w' => w'.cell? ⟨n0, 0, none⟩ = some (.int .i64 o0) ∧ w'.cell? ⟨n0, 1, none⟩ = some (.string tx) ∧ w'.cell? ⟨n0, 2, none⟩ = some (.slice s0 m0 k0) ∧ w'.cell? ⟨n0, 3, none⟩ = some (.slice s1 m1 k1) ∧ w'.cell? ⟨n0, 4, none⟩ = some (.slice s2 m2 k2)) (go_keep)
    (first
    | (go_at_call 75; refine (hfr _ (by assumption)).mono ?_; rintro e' w2 ⟨b2, rfl, hb2, hs2, g2⟩; obtain ⟨⟨s0', s1', s2', s3', s4'⟩, _⟩ := hrd w2 g2)
    | (go_at_call 87; refine (hcp _ _ (by assumption) (by assumption) (by assumption)).mono ?_; rintro e' w3 ⟨x1, x2, x3, x4, x5, x6, x7, x8, x9, x10, x11, rfl, ht3, hz3, g3⟩; obtain ⟨⟨t0', t1', t2', t3', t4'⟩, _⟩ := hrd w3 g3; obtain ⟨y0, y1, y2, y3, y4, yf⟩ := hz3.cells))
  all_goals
    have hbF : Below W0.heap.size W0 w3 := by rw [HG.out] at g3; exact g3
    have hZ := HZ.out
    go_wp2
    simp [bodyPost, results, Tryz.results95, go_sem, y0, y1, y2, y3, y4]
    have hL5 := later5 (Later.refl W0.heap.size w3) w.heap.size (by omega) (.int .i64 x1) (.string x2) (.slice x3 x4 x5) (.slice x6 x7 x8) (.slice x9 x10 x11)
    exact ⟨TermAt.keep (hL5.kept (A0 := W0.heap.size) (A' := w.heap.size) (B := w3.heap.size) (Nat.le_refl _) (by omega) (Nat.le_refl _)) (Nat.le_refl _) _ _ ht3, set5 (hb0.trans (hbF.mono (by omega))) w.heap.size (Nat.le_refl _) _ _ _ _ _⟩

set_option maxRecDepth 10000 in
set_option maxHeartbeats 4000000 in
theorem canon_any (B : Nat) (u : World) (t : Term) (hf : Formed (.proc t)) (cs : List Value) (hat : TermAt B u cs t) (w : World) (hu : KeptC B u w) (hB : B ≤ w.heap.size)
    (y : Term × Used) (hR : copyT ⟨.anew, [frame0]⟩ (freeN 60 (.proc t)) t = some y) (kc : Nat) (hcov : Cov (freeN 60 (.proc t)) kc) (hkc : kc + bcT t ≤ 4900) :
    Calls Tryz.prog 42 #[.agg cs.toArray] w fun e' w' => ∃ cs', e' = .returned (.tuple #[.agg cs'.toArray, .int .i64 0]) ∧ TermAt w'.heap.size w' cs' y.1 ∧ Below w.heap.size w w' := by
  obtain ⟨o0, tx, s0, m0, k0, s1, m1, k1, s2, m2, k2, rfl⟩ := term_shape hat
  obtain ⟨W0, hW0⟩ : ∃ W0, W0 = ((w.alloc (.cells #[.int .i64 o0, .string tx, .slice s0 m0 k0, .slice s1 m1 k1, .slice s2 m2 k2] 33)).alloc (.cells #[.int .i64 0, .string ⟨#[]⟩, .slice none 0 0, .slice none 0 0, .slice none 0 0] 33)) := ⟨_, rfl⟩
  have hb0 : Below w.heap.size w W0 := by rw [hW0]; exact ((Below.refl _ w).alloc (Nat.le_refl _) _).alloc (by simp) _
  have hz : W0.heap.size = w.heap.size + 2 := by rw [hW0]; simp
  have h0 : W0.heap[w.heap.size]? = some (.cells #[.int .i64 o0, .string tx, .slice s0 m0 k0, .slice s1 m1 k1, .slice s2 m2 k2] 33) := by
    rw [hW0, Below.heap_alloc _ _ _ (by simp)]; exact World.alloc_heap_new w _
  have h3 : Zero33 W0 (w.heap.size + 1) := by
    unfold Zero33
    rw [hW0]
    have := World.alloc_heap_new (w.alloc (.cells #[.int .i64 o0, .string tx, .slice s0 m0 k0, .slice s1 m1 k1, .slice s2 m2 k2] 33)) (.cells #[.int .i64 0, .string ⟨#[]⟩, .slice none 0 0, .slice none 0 0, .slice none 0 0] 33); rwa [World.size_alloc] at this
  obtain ⟨WC, hWC⟩ : ∃ WC, WC = (W0.alloc (.cells #[.int .i64 0, .string ⟨#[]⟩, .slice none 0 0, .slice none 0 0, .slice none 0 0] 33)).alloc (.cells #[.int .i64 0] 37) := ⟨_, rfl⟩
  have hbC : Below W0.heap.size W0 WC := by rw [hWC]; exact ((Below.refl _ W0).alloc (Nat.le_refl _) _).alloc (by simp) _
  have hzC : WC.heap.size = W0.heap.size + 2 := by rw [hWC]; simp
  have hbwC := hb0.trans (hbC.mono (by omega))
  have hw := canon_work B u t hf _ hat WC (hu.trans ((Below.keptC hbwC).mono hB)) (by omega) w.heap.size
    (fun j hj => by
      have q := (hbC.block w.heap.size (by omega)).trans h0
      match j, hj with
      | 0, _ => simp [World.cell?, q]
      | 1, _ => simp [World.cell?, q]
      | 2, _ => simp [World.cell?, q]
      | 3, _ => simp [World.cell?, q]
      | 4, _ => simp [World.cell?, q]) y hR kc hcov hkc
  have hmf : ∀ (fn : Fn) (first cap : Array Value) (w : World), (Instr.makeFunc fn first cap).run Tryz.prog w = .ok (.func fn first cap) w := fun _ _ _ _ => rfl
  have ha := attempt_82 95 #[.pointer (some ⟨w.heap.size, 0, none⟩)] W0 (fun X w' => TermAt w'.heap.size (blank WC.heap.size w') [.int .i64 X.op, .string X.t, .slice X.a0 X.n0 X.c0, .slice X.a1 X.n1 X.c1, .slice X.a2 X.n2 X.c2] y.1) (enters_of Tryz.func95 (by kernel_rfl) rfl) (by
    rw [← hWC, ← hzC]
    refine hw.mono ?_
    rintro e' w' ⟨cs', rfl, h1, h2⟩
    obtain ⟨a1, a2, a3, a4, a5, a6, a7, a8, a9, a10, a11, rfl⟩ := term_shape h1
    exact ⟨⟨a1, a2, a3, a4, a5, a6, a7, a8, a9, a10, a11⟩, rfl, h1, h2⟩)
  have HW := Lib.hid hW0
  have HZ := Lib.hid hz
  have HZC := Lib.hid hzC
  have HC := Lib.hid hWC
  clear hw hW0 hWC hz hzC hR hcov hkc h0 hat hf
  go_enter Tryz.func42, Tryz.ntmps42
  go_wp2_with (go_at_call 82; rw [← HW.out]; refine ha.mono ?_; clear ha; rintro e' w2 ⟨⟨a1, a2, a3, a4, a5, a6, a7, a8, a9, a10, a11⟩, w1, rfl, hR1, hsz, hblk, hb1⟩; obtain ⟨x0, x1, x2, x3, x4, xf⟩ := Zero33.cells ((hb1.block (w.heap.size + 1) (by have := HZ.out; omega)).trans h3); have HS := Lib.hid hsz; clear hsz)
  simp [bodyPost, results, Tryz.results42, go_sem, x0, x1, x2, x3, x4]
  have hz := HZ.out
  have hzC := HZC.out
  refine ⟨?_, set5 (hb0.trans (hb1.mono (by omega))) (w.heap.size + 1) (by omega) _ _ _ _ _⟩
  have hL : Later (w.heap.size + 4) w1 w2 := ⟨by rw [HS.out]; exact Nat.le_refl _, fun b hb _ => hblk b (by omega)⟩
  have hL5 := later5 hL (w.heap.size + 1) (by omega) (.int .i64 a1) (.string a2) (.slice a3 a4 a5) (.slice a6 a7 a8) (.slice a9 a10 a11)
  rw [← HS.out]
  exact TermAt.keep (blank_off 0 _ _) (Nat.le_refl _) _ _ (TermAt.keep (hL5.kept (A0 := WC.heap.size) (A' := 0) (B := w1.heap.size) (by omega) (by omega) (Nat.le_refl _)) (Nat.le_refl _) _ _ hR1)

end Go.Proofs.YtjmlaeofjjhfmaaGreat
/- split: the parts beside each other of a process. -/
namespace Go.Proofs.YtjmlaeofjjhfmaaGreat
open Go.RowKit Go.Shelf Go.Maps Go.WideMaps

mutual
def splitT : Term → List Term
  | .mk op t a d k => if op = 1 then [] else if op = 3 then splitTs k else [.mk op t a d k]
def splitTs : List Term → List Term
  | [] => []
  | a :: l => splitT a ++ splitTs l
end
theorem ChunksAt.append {X : Type} {At : Nat → World → List Value → X → Prop} {n B : Nat} {w : World} {v1 v2 : List Value} {l1 l2 : List X} (h1 : ChunksAt At n B w v1 l1) (h2 : ChunksAt At n B w v2 l2) : ChunksAt At n B w (v1 ++ v2) (l1 ++ l2) := by
  refine ⟨by simp [h1.1, h2.1, Nat.add_mul], fun i hi => ?_⟩
  by_cases hlt : i < l1.length
  · have e1 : i * n + n ≤ v1.length := by rw [h1.1, ← Nat.succ_mul]; exact Nat.mul_le_mul_right n hlt
    rw [List.getElem_append_left hlt, List.drop_append_of_le_length (by omega), List.take_append_of_le_length (by simp; omega)]
    exact h1.2 i hlt
  · have hj : i - l1.length < l2.length := by simp at hi; omega
    rw [List.getElem_append_right (by omega)]
    have e : i * n = v1.length + (i - l1.length) * n := by rw [h1.1, ← Nat.add_mul]; congr 1; omega
    rw [e, List.drop_append, List.drop_of_length_le (Nat.le_add_right _ _), List.nil_append, Nat.add_sub_cancel_left]
    exact h2.2 _ hj
set_option maxRecDepth 10000 in
/-- append(a, b...) of two rows of processes, a in a row of the call's own: its run. -/
theorem terms_joined {w : World} {A A2 : Nat} {v1 v2 : Value} {x1 x2 : List Value} {k1 k2 : Nat} (ty : TypeId) (ho : w.ownsRow A 33 5 v1 k1 x1) (h2 : w.ownsRow A2 33 5 v2 k2 x2) (hone : ∀ v ∈ x2, v.oneCell' = true) (hA : A ≤ w.heap.size) (h1 : k1 ≤ 100000) (h3 : k2 ≤ 100000) :
    ∃ a c w', (Builtin.append_ #[31, 31] ty #[v1, v2]).run Tryz.prog w = .ok (.slice a (k1 + k2) c) w' ∧ w'.ownsRow A 33 5 (.slice a (k1 + k2) c) (k1 + k2) (x1 ++ x2) ∧ w.grownBy w' v1.ownBlock := by
  obtain ⟨i0, hi, hz0, hz1, hz2⟩ := info_parts info33
  have hex : ∀ {v : Value} {k : Nat} {x : List Value} {w : World}, w.ownsRow A 33 5 v k x → ∃ a c, v = .slice a k c := fun h => by
    obtain ⟨_, ⟨rfl, h0⟩ | ⟨g, cp, cur, hvf, _⟩⟩ := h
    · exact ⟨none, 0, by rw [h0]⟩
    · exact ⟨_, _, hvf⟩
  obtain ⟨hl2, ⟨rfl, h0⟩ | ⟨g, cp, cur, rfl, _, hg, hk, hm, hsz, htk⟩⟩ := id h2
  · subst h0
    have hx : x2 = [] := List.eq_nil_of_length_eq_zero (by rw [hl2])
    subst hx
    have hr := run_append_owned_none (P := Tryz.prog) (w := w) A 31 ty 33 i0 5 Tryz.underlying31 hi v1 k1 x1 ho
    obtain ⟨a, c, rfl⟩ := hex ho
    exact ⟨a, c, w, hr, by simpa using ho, World.grownBy.refl _ _⟩
  · have hcells := (owns_cells (by omega) h2)
    obtain ⟨a', c', he, _, hcell⟩ := hcells
    obtain ⟨v', w', hr, h4, h5, _, _⟩ := run_append_own_at (P := Tryz.prog) w A 31 ty 33 i0 (.agg #[.int .i64 0, .string ⟨#[]⟩, .slice none 0 0, .slice none 0 0, .slice none 0 0]) 5 96 Tryz.underlying31 hi hz0 hz1 hz2 rfl (by decide) v1 k1 x1 ho ⟨g, 0, none⟩ k2 cp x2 hl2 (by
      intro j x hx
      have hj := (List.getElem?_eq_some_iff.1 hx).1
      have e : (⟨g, 0, none⟩ : Addr).add j = ⟨g, j, none⟩ := by unfold Addr.add; by_cases h : j = 0 <;> simp [h]
      rw [e]
      injection he with e1 e2 e3
      rcases hcell with h | ⟨g', hg', _, _, hc⟩
      · rw [h] at hl2; simp at hl2; subst hl2; simp at hj
      · rw [hg'] at e1
        have e4 : g = g' := by injection e1 with e1; injection e1
        subst e4
        have := hc j hj
        rw [Nat.zero_add] at this
        rw [this]
        simpa [hj] using hx) hone (by unfold maxLen; omega) (by omega) hA
    obtain ⟨a, c, rfl⟩ := hex h4
    exact ⟨a, c, w', hr, h4, h5⟩

theorem term_one {B : Nat} {w : World} {cs : List Value} {t : Term} (h : TermAt B w cs t) : ∀ v ∈ cs, v.oneCell' = true := by
  obtain ⟨a1, a2, a3, a4, a5, a6, a7, a8, a9, a10, a11, rfl⟩ := term_shape h
  simp [Value.oneCell']
theorem chunks_one {B : Nat} {w : World} {vs : List Value} {l : List Term} (h : ChunksAt TermAt 5 B w vs l) : ∀ v ∈ vs, v.oneCell' = true := by
  intro v hv
  obtain ⟨i, hi, rfl⟩ := List.mem_iff_getElem.1 hv
  have hl := h.1
  have hq : i / 5 < l.length := by omega
  have h2 := h.2 (i / 5) hq
  refine term_one h2 _ ?_
  refine List.mem_iff_getElem.2 ⟨i % 5, by simp; omega, ?_⟩
  simp only [List.getElem_take, List.getElem_drop]
  congr 1
  omega

end Go.Proofs.YtjmlaeofjjhfmaaGreat
/- split, Parts. -/
namespace Go.Proofs.YtjmlaeofjjhfmaaGreat
open Go.RowKit Go.Shelf Go.Maps Go.WideMaps

mutual
theorem splitT_le : ∀ t : Term, (splitT t).length ≤ (nodesT 0 t).length
  | .mk op t a d k => by
    have := splitTs_le k
    rw [nodesTs_len 0 1] at this
    rw [splitT, nodesT]
    split
    · simp
    · split
      · simp; omega
      · simp
theorem splitTs_le : ∀ l : List Term, (splitTs l).length ≤ (nodesTs 0 l).length
  | [] => by simp [splitTs]
  | a :: l => by have := splitT_le a; have := splitTs_le l; simp [splitTs, nodesTs]; omega
end
set_option maxRecDepth 10000 in
set_option maxHeartbeats 4000000 in
theorem split_any (B : Nat) (u : World) : ∀ (s : Nat) (t : Term), (Part.proc t).size ≤ s → s ≤ 60 → Fine (.proc t) → ∀ (cs : List Value) (w : World), TermAt B u cs t → KeptC B u w → B ≤ w.heap.size →
    Calls Tryz.prog 100 #[.agg cs.toArray] w fun e w' => ∃ r vals, e = .returned r ∧ w'.ownsRow w.heap.size 33 5 r (splitT t).length vals ∧ ChunksAt TermAt 5 B u vals (splitT t) ∧ Below w.heap.size w w' := by
  intro s
  induction s with
  | zero => intro t ht; have := size_pos (.proc t); omega
  | succ s ih =>
    intro t hts hs6 hfn cs w hat hu hB
    obtain ⟨op, tx, args, defs, kids⟩ := t
    have hat0 := hat
    unfold TermAt at hat
    obtain ⟨htz, _, _, _, rfl, ⟨a0, p0, rfl, _⟩, ⟨a1, p1, rfl, _⟩, ⟨a2, p2, rfl, hl2, hx2⟩⟩ := hat
    obtain ⟨W0, hW0⟩ : ∃ W0, W0 = w.alloc (.cells #[.int .i64 op, .string tx, .slice a0 args.length p0, .slice a1 defs.length p1, .slice a2 kids.length p2] 33) := ⟨_, rfl⟩
    have hb0 : Below w.heap.size w W0 := by rw [hW0]; exact (Below.refl _ w).alloc (Nat.le_refl _) _
    have hz : W0.heap.size = w.heap.size + 1 := by rw [hW0]; simp
    have k0 : W0.heap[w.heap.size]? = some (.cells #[.int .i64 op, .string tx, .slice a0 args.length p0, .slice a1 defs.length p1, .slice a2 kids.length p2] 33) := by rw [hW0]; exact World.alloc_heap_new w _
    by_cases h1 : op = 1
    · have e1 : splitT (.mk op tx args defs kids) = [] := by rw [splitT, if_pos h1]
      rw [e1]
      subst h1
      go_enter Tryz.func100, Tryz.ntmps100
      go_wp2
      go_ret
      exact ⟨_, rfl, [], World.ownsRow_nil _ _ _ _, ChunksAt.nil _ _ _ _, by rw [← hW0]; exact hb0⟩
    · by_cases h3 : op = 3
      · subst h3
        have hk2 : kids.length = 2 := by
          have h1 := hfn.self
          simp only [Part.shaped, shapedTB, Bool.or_eq_true, Bool.and_eq_true, beq_iff_eq, decide_eq_true_eq, List.length_eq_zero_iff] at h1
          rcases h1 with ((((h1 | h1) | h1) | h1) | h1) | h1
          · rcases h1.1.1.1.1 with h | h <;> omega
          · have := h1.1.1.1.1; omega
          · exact h1.2
          · have := h1.1.1.1.1.1; omega
          · have := h1.1.1.1.1; omega
          · rcases h1.1.1.1.1 with h | h <;> omega
        obtain ⟨t1, t2, rfl⟩ : ∃ t1 t2, kids = [t1, t2] := by
          match kids, hk2 with
          | [x, y], _ => exact ⟨x, y, rfl⟩
        simp only [List.length_cons, List.length_nil, Nat.zero_add, Nat.reduceAdd] at hW0 k0 ⊢
        rcases hx2 with h | ⟨b, off, rfl, hbB, ⟨c1, hc1, ht1⟩, ⟨c2, hc2, ht2⟩, _⟩
        · simp at h
        have hm1 : Part.proc t1 ∈ (Part.proc (.mk 3 tx args defs [t1, t2])).parts := by simp [Part.parts]
        have hm2 : Part.proc t2 ∈ (Part.proc (.mk 3 tx args defs [t1, t2])).parts := by simp [Part.parts]
        have hz1 := size_lt hm1
        have hz2 := size_lt hm2
        have hl1 : (splitT t1).length ≤ 60 := by have := splitT_le t1; have h5 : (Part.proc t1).size = (nodesT 0 t1).length := rfl; omega
        have hl2' : (splitT t2).length ≤ 60 := by have := splitT_le t2; have h5 : (Part.proc t2).size = (nodesT 0 t2).length := rfl; omega
        have e1 : splitT (.mk 3 tx args defs [t1, t2]) = splitT t1 ++ splitT t2 := by rw [splitT, if_neg h1, if_pos rfl, splitTs, splitTs, splitTs, List.append_nil]
        rw [e1]
        obtain ⟨G, hG⟩ : ∃ G : World → Prop, G = fun W => Below W0.heap.size W0 W := ⟨_, rfl⟩
        have hi1 := fun W h1 h2 => ih t1 (by omega) (by omega) (hfn.part hm1) c1 W ht1 h1 h2
        have hi2 := fun W h1 h2 => ih t2 (by omega) (by omega) (hfn.part hm2) c2 W ht2 h1 h2
        obtain ⟨x0, x1, x2, x3, x4, x5, x6, x7, x8, x9, x10, rfl⟩ := term_shape ht1
        obtain ⟨y0, y1, y2, y3, y4, y5, y6, y7, y8, y9, y10, rfl⟩ := term_shape ht2
        obtain ⟨L1, hL1⟩ : ∃ L, L = splitT t1 := ⟨_, rfl⟩
        obtain ⟨L2, hL2⟩ : ∃ L, L = splitT t2 := ⟨_, rfl⟩
        rw [← hL1] at hi1 hl1
        rw [← hL2] at hi2 hl2'
        rw [← hL1, ← hL2]
        have hrd : ∀ W, G W → W.cell? ⟨w.heap.size, 4, none⟩ = some (.slice (some ⟨b, off, none⟩) 2 p2) ∧ (W.cell? ⟨b, off, none⟩ = some (.int .i64 x0) ∧ W.cell? ⟨b, off + 1, none⟩ = some (.string x1) ∧ W.cell? ⟨b, off + 2, none⟩ = some (.slice x2 x3 x4) ∧ W.cell? ⟨b, off + 3, none⟩ = some (.slice x5 x6 x7) ∧ W.cell? ⟨b, off + 4, none⟩ = some (.slice x8 x9 x10)) ∧
            (W.cell? ⟨b, off + 5, none⟩ = some (.int .i64 y0) ∧ W.cell? ⟨b, off + 5 + 1, none⟩ = some (.string y1) ∧ W.cell? ⟨b, off + 5 + 2, none⟩ = some (.slice y2 y3 y4) ∧ W.cell? ⟨b, off + 5 + 3, none⟩ = some (.slice y5 y6 y7) ∧ W.cell? ⟨b, off + 5 + 4, none⟩ = some (.slice y8 y9 y10)) ∧ KeptC B u W ∧ B ≤ W.heap.size ∧ Below w.heap.size w W := fun W h => by
          rw [hG] at h
          have q := (h.block w.heap.size (by omega)).trans k0
          have hbW := hb0.trans (h.mono (by omega))
          have hku : KeptC B u W := hu.trans ((Below.keptC hbW).mono hB)
          exact ⟨by simp [World.cell?, q], cells5 (hc1.keep hku hbB), cells5 (hc2.keep hku hbB), hku, by have := hbW.size; omega, hbW⟩
        have hs1 : ∀ W, G W → Calls Tryz.prog 100 #[.agg #[.int .i64 x0, .string x1, .slice x2 x3 x4, .slice x5 x6 x7, .slice x8 x9 x10]] W fun e w' => ∃ a c vals, e = .returned (.slice a L1.length c) ∧ w'.ownsRow W0.heap.size 33 5 (.slice a L1.length c) L1.length vals ∧ ChunksAt TermAt 5 B u vals L1 ∧ G w' := fun W h => by
          obtain ⟨_, _, _, h1, h2, h3⟩ := hrd W h
          rw [hG] at h ⊢
          refine (hi1 W h1 h2).mono ?_
          rintro e w' ⟨r, vals, rfl, a1, a2, a3⟩
          obtain ⟨q1, q2, rfl, _⟩ := owns_cells (by omega) a1
          exact ⟨_, _, _, rfl, ownsRow_lowS a1 h.size, a2, h.trans (a3.mono h.size)⟩
        have hs2 : ∀ W a c vals, G W → W.ownsRow W0.heap.size 33 5 (.slice a L1.length c) L1.length vals → ChunksAt TermAt 5 B u vals L1 → Calls Tryz.prog 100 #[.agg #[.int .i64 y0, .string y1, .slice y2 y3 y4, .slice y5 y6 y7, .slice y8 y9 y10]] W fun e w' => ∃ a2 c2 a3 c3 w3 vals3, e = .returned (.slice a2 L2.length c2) ∧ G w' ∧ G w3 ∧
            (Builtin.append_ #[31, 31] 31 #[.slice a L1.length c, .slice a2 L2.length c2]).run Tryz.prog w' = .ok (.slice a3 (L1.length + L2.length) c3) w3 ∧ w3.ownsRow w.heap.size 33 5 (.slice a3 (L1.length + L2.length) c3) (L1 ++ L2).length vals3 ∧ ChunksAt TermAt 5 B u vals3 (L1 ++ L2) ∧ Below w.heap.size w w3 := fun W a c vals h hov hcv => by
          obtain ⟨_, _, _, h1, h2, h3⟩ := hrd W h
          rw [hG] at h ⊢
          refine (hi2 W h1 h2).mono ?_
          rintro e w' ⟨r, vals2, rfl, a1, a2, a3⟩
          obtain ⟨q1, q2, rfl, _⟩ := owns_cells (by omega) a1
          have hov' := ownsRow_keep hov (grown_of_below a3) (fun g _ e => by cases e)
          obtain ⟨z1, z2, w3, z3, z4, z5⟩ := terms_joined 31 hov' a1 (chunks_one a2) (by have := h.size; have := a3.size; omega) (by omega) (by omega)
          have hg3 : Below W0.heap.size W0 w3 := (h.trans (a3.mono h.size)).grown z5 (by have := h.size; have := a3.size; omega) (fun r e => (hov'.lt r e).1)
          exact ⟨_, _, z1, z2, w3, _, rfl, h.trans (a3.mono h.size), hg3, z3, by rw [List.length_append]; exact ownsRow_lowS z4 hb0.size, hcv.append a2, hb0.trans (hg3.mono hb0.size)⟩
        have g0 : G W0.drew := by rw [hG]; exact (Below.refl _ _).drew
        obtain ⟨r0, ⟨r1, r2, r3, r4, r5⟩, ⟨r6, r7, r8, r9, r10⟩, _⟩ := hrd _ g0
        have HW := Lib.hid hW0
        have hfirst : True := trivial
        have b1 : (0 : Int) < 2 := by decide
        clear hi1 hi2 hG hW0 hL1 hL2 hc1 hc2 ht1 ht2 ih k0
        go_enter Tryz.func100, Tryz.ntmps100
        go_wp2
        rw [← HW.out]
        go_region_held3 (fun w' => w'.cell? ⟨w.heap.size, 4, none⟩ = some (.slice (some ⟨b, off, none⟩) 2 p2) ∧ w'.cell? ⟨b, off, none⟩ = some (.int .i64 x0) ∧ w'.cell? ⟨b, off + 1, none⟩ = some (.string x1) ∧ w'.cell? ⟨b, off + 2, none⟩ = some (.slice x2 x3 x4) ∧ w'.cell? ⟨b, off + 3, none⟩ = some (.slice x5 x6 x7) ∧ w'.cell? ⟨b, off + 4, none⟩ = some (.slice x8 x9 x10) ∧
            w'.cell? ⟨b, off + 5, none⟩ = some (.int .i64 y0) ∧ w'.cell? ⟨b, off + 5 + 1, none⟩ = some (.string y1) ∧ w'.cell? ⟨b, off + 5 + 2, none⟩ = some (.slice y2 y3 y4) ∧ w'.cell? ⟨b, off + 5 + 3, none⟩ = some (.slice y5 y6 y7) ∧ w'.cell? ⟨b, off + 5 + 4, none⟩ = some (.slice y8 y9 y10)) (go_keep)
          (first
          | (go_at_call 100; revert hfirst; intro hfirst; refine (hs1 _ (by assumption)).mono ?_; clear hfirst; rintro e' w2 ⟨qa, qc, qv, rfl, ho2, hch2, g2⟩; obtain ⟨z0, ⟨z1, z2, z3, z4, z5⟩, ⟨z6, z7, z8, z9, z10⟩, _⟩ := hrd _ g2)
          | (go_at_call 100; refine (hs2 _ _ _ _ (by assumption) (by assumption) (by assumption)).mono ?_; rintro e' w4 ⟨a2, c2, a3, c3, w5, v5, rfl, g4, g5, hr5, ho5, hch5, hb5⟩; obtain ⟨m0, ⟨m1, m2, m3, m4, m5⟩, ⟨m6, m7, m8, m9, m10⟩, _⟩ := hrd _ g4; obtain ⟨l0, ⟨l1, l2, l3, l4, l5⟩, ⟨l6, l7, l8, l9, l10⟩, _⟩ := hrd _ g5)
          | (refine step_append_eq rfl (.tmp 13) (.tmp 18) 31 31 rfl rfl rfl hr5 ?_))
        all_goals
          go_wp2
          go_ret
          exact ⟨_, v5, rfl, ho5, hch5, hb5⟩
      · have e1 : splitT (.mk op tx args defs kids) = [.mk op tx args defs kids] := by rw [splitT, if_neg h1, if_neg h3]
        rw [e1]
        have HW := Lib.hid hW0
        have HZ := Lib.hid hz
        obtain ⟨n0, hn0⟩ : ∃ n, n = args.length := ⟨_, rfl⟩
        obtain ⟨n1, hn1⟩ : ∃ n, n = defs.length := ⟨_, rfl⟩
        obtain ⟨n2, hn2⟩ : ∃ n, n = kids.length := ⟨_, rfl⟩
        have HA := Lib.hid hat0
        rw [← hn0, ← hn1, ← hn2] at HA HW k0
        rw [← hn0, ← hn1, ← hn2]
        have hd : ((op : Int) == 1) = false := by simpa using h1
        have hd3 : ((op : Int) == 3) = false := by simpa using h3
        have HN := Lib.hid (And.intro hn0 (And.intro hn1 hn2))
        clear hat0 hx2 hl2 hn0 hn1 hn2 hW0 hz
        go_enter Tryz.func100, Tryz.ntmps100
        go_wp2
        go_ret
        refine ⟨_, rfl, [.int .i64 op, .string tx, .slice a0 n0 p0, .slice a1 n1 p1, .slice a2 n2 p2], ?_, ⟨rfl, fun i hi => ?_⟩, ?_⟩
        · refine ⟨rfl, .inr ⟨w.heap.size + 1, 1, #[.int .i64 op, .string tx, .slice a0 n0 p0, .slice a1 n1 p1, .slice a2 n2 p2], rfl, by omega, ?_, by simp, by unfold maxLen; omega, rfl, rfl⟩⟩
          rw [← HW.out]
          have := World.alloc_heap_new W0 (.cells #[.int .i64 op, .string tx, .slice a0 n0 p0, .slice a1 n1 p1, .slice a2 n2 p2] 33)
          rwa [HZ.out] at this
        · cases i with
          | zero => exact HA.out
          | succ i => simp at hi
        · rw [← HW.out]
          exact hb0.alloc (by have := HZ.out; omega) _

end Go.Proofs.YtjmlaeofjjhfmaaGreat
