/- What the tenth row of the layer's laws does, by contracts. -/
import Derived.Test.YtjmlaeofjjhfmaaGreatP40
import Derived.Test.YtjmlaeofjjhfmaaGreatP47
import Derived.Test.YtjmlaeofjjhfmaaGreatP32
set_option linter.unusedVariables false
set_option linter.unusedSimpArgs false
namespace Go.Proofs.YtjmlaeofjjhfmaaGreat
open Go.RowKit Go.Shelf Go.Maps

theorem lay_code {t : Term} (h1 : formedB (.proc t) = true) (h2 : formedB (.proc (layT t)) = true) : layCode t = 0 := by unfold layCode; rw [h1, h2]; rfl
/-- A process that is laid out, laid out again. -/
theorem lay_again (t : Term) (hf : formedB (.proc t) = true) (hl : formedB (.proc (layT t)) = true) (B : Nat) (u w : World) (cs : List Value) (hu : KeptC B u w) (hB : B ≤ w.heap.size) (hat : TermAt B u cs (layT t)) :
    Calls Tryz.prog 49 #[.agg cs.toArray] w fun e' w' => ∃ (p0 : Int) (ux : ByteArray) (r0 : Option Addr) (l0 q0 : Nat) (r1 : Option Addr) (l1 q1 : Nat) (r2 : Option Addr) (l2 q2 : Nat), e' = .returned (.tuple #[.agg #[.int .i64 p0, .string ux, .slice r0 l0 q0, .slice r1 l1 q1, .slice r2 l2 q2], .int .i64 0]) ∧ Hid (TermAt w'.heap.size w' [.int .i64 p0, .string ux, .slice r0 l0 q0, .slice r1 l1 q1, .slice r2 l2 q2] (layT t)) ∧ Below w.heap.size w w' := by
  have ht := (layT_twice t (formed_fineT (formedB_iff.2 hf))).1
  have hc := lay_code hl (by rw [ht]; exact hl)
  refine (playout_any (layT t) B u w cs hu hB hat).mono ?_
  rintro e' w' ⟨cs', rfl, h1, h2⟩
  rw [hc]
  rcases h1.out with ⟨_, _, _, h3⟩ | ⟨h3, _⟩
  · rw [ht] at h3
    obtain ⟨p0, ux, r0, l0, q0, r1, l1, q1, r2, l2, q2, rfl⟩ := term_shape h3
    exact ⟨p0, ux, r0, l0, q0, r1, l1, q1, r2, l2, q2, rfl, Lib.hid h3, h2⟩
  · exact absurd hc h3

theorem lay_frees {t : Term} (hf : formedB (.proc t) = true) (hl : formedB (.proc (layT t)) = true) : ∃ E, IsFrees (.proc t) E ∧ IsFrees (.proc (layT t)) E := by
  obtain ⟨E, h1, h2⟩ := frees_ex (.proc t)
  have h3 := formedB_iff.2 hf
  have h4 := formedB_iff.2 hl
  refine ⟨E, ⟨h1, h2⟩, h1, fun k => ?_⟩
  rw [h2 k, freeN_fP 60 _ h3.1, freeN_fP 60 _ h4.1]
  have : fT (layT t) k = fT t k := (layT_free k t (formed_fineT h3)).1
  show fT t k = true ↔ fT (layT t) k = true
  rw [this]
/-- A part that can be laid out. -/
theorem lay_elem (t : Term) (h : Formed (.proc t) ∧ Formed (.proc (layT t))) (B : Nat) (u w : World) (cs : List Value) (hu : KeptC B u w) (hB : B ≤ w.heap.size) (hat : TermAt B u cs t) :
    Calls Tryz.prog 49 #[.agg cs.toArray] w fun e' w' => ∃ (p0 : Int) (ux : ByteArray) (r0 : Option Addr) (l0 q0 : Nat) (r1 : Option Addr) (l1 q1 : Nat) (r2 : Option Addr) (l2 q2 : Nat), e' = .returned (.tuple #[.agg #[.int .i64 p0, .string ux, .slice r0 l0 q0, .slice r1 l1 q1, .slice r2 l2 q2], .int .i64 0]) ∧ Hid (TermAt w'.heap.size w' [.int .i64 p0, .string ux, .slice r0 l0 q0, .slice r1 l1 q1, .slice r2 l2 q2] (layT t)) ∧ Below w.heap.size w w' := by
  have hc := lay_code (formedB_iff.1 h.1) (formedB_iff.1 h.2)
  refine (playout_any t B u w cs hu hB hat).mono ?_
  rintro e' w' ⟨cs', rfl, h1, h2⟩
  rw [hc]
  rcases h1.out with ⟨_, _, _, h3⟩ | ⟨h3, _⟩
  · obtain ⟨p0, ux, r0, l0, q0, r1, l1, q1, r2, l2, q2, rfl⟩ := term_shape h3
    exact ⟨p0, ux, r0, l0, q0, r1, l1, q1, r2, l2, q2, rfl, Lib.hid h3, h2⟩
  · exact absurd hc h3
theorem lay_nodes {t : Term} (hf : formedB (.proc t) = true) : ((Part.proc (layT t)).size : Int) ≤ ((Part.proc t).size : Int) := by
  have := (layT_size t (formed_fineT (formedB_iff.2 hf))).1
  have e1 : (Part.proc (layT t)).size = szT (layT t) := rfl
  have e2 : (Part.proc t).size = szT t := rfl
  omega
set_option maxRecDepth 10000 in
set_option maxHeartbeats 4000000 in
theorem row12_any (cs : List Value) (t : Term) (w : World) (ht : TermAt w.heap.size w cs t) :
    Calls Tryz.prog 12 #[.agg cs.toArray] w fun e w' => e = .returned (.bool true) ∧ Below w.heap.size w w' := by
  have J14 : ∀ W, Calls Tryz.prog 14 #[] W fun e w' => e = .returned (.bool true) ∧ Below W.heap.size W w' := known_any
  obtain ⟨o0, tx, s0, m0, k0, s1, m1, k1, s2, m2, k2, rfl⟩ := term_shape ht
  obtain ⟨W1, hW1⟩ : ∃ W1, W1 = w.alloc (.cells #[.int .i64 o0, .string tx, .slice s0 m0 k0, .slice s1 m1 k1, .slice s2 m2 k2] 33) := ⟨_, rfl⟩
  have z1 : W1.heap.size = w.heap.size + 1 := by rw [hW1]; simp
  have b1 : Below w.heap.size w W1 := by rw [hW1]; exact (Below.refl _ w).alloc (Nat.le_refl _) _
  have hGB : ∀ W, Below W1.heap.size W1 W → KeptC w.heap.size w W ∧ w.heap.size ≤ W.heap.size ∧ Below w.heap.size w W := fun W h => by
    have hb := b1.trans (h.mono (by omega))
    exact ⟨Below.keptC hb, hb.size, hb⟩
  have hrd : ∀ W, Below W1.heap.size W1 W → W.cell? ⟨w.heap.size, 0, none⟩ = some (.int .i64 o0) ∧ W.cell? ⟨w.heap.size, 1, none⟩ = some (.string tx) ∧ W.cell? ⟨w.heap.size, 2, none⟩ = some (.slice s0 m0 k0) ∧ W.cell? ⟨w.heap.size, 3, none⟩ = some (.slice s1 m1 k1) ∧ W.cell? ⟨w.heap.size, 4, none⟩ = some (.slice s2 m2 k2) := fun W hW => by
    have q1 : ∀ o, W.cell? ⟨w.heap.size, o, none⟩ = W1.cell? ⟨w.heap.size, o, none⟩ := fun o => hW.cell (p := ⟨w.heap.size, o, none⟩) (by simp; omega)
    rw [q1, q1, q1, q1, q1, hW1]
    simp only [World.cell?_alloc_at _ _ _ _ rfl]
    exact ⟨rfl, rfl, rfl, rfl, rfl⟩
  have g0 : Below W1.heap.size W1 W1 := Below.refl _ _
  have K49 := playout_any t w.heap.size w W1 _ (hGB _ g0).1 (hGB _ g0).2.1 ht
  obtain ⟨x0, x1, x2, x3, x4⟩ := hrd _ g0
  have HW := Lib.hid hW1
  rw [HW.out] at x0 x1 x2 x3 x4
  obtain ⟨c, hc⟩ : ∃ c, c = layCode t := ⟨_, rfl⟩
  rw [← hc] at K49
  have HC := Lib.hid hc
  have HGB := Lib.hid hGB; have HRD := Lib.hid hrd; have HJ14 := Lib.hid J14; have HT := Lib.hid ht; have HZ1 := Lib.hid z1
  clear hW1 hc hGB hrd J14 ht z1
  go_enter Tryz.func12, Tryz.ntmps12
  go_wp2_with fail
  rw [← HW.out]
  refine K49.mono ?_
  clear K49
  rintro e' w1 ⟨cs', rfl, hP, k1⟩
  rcases hP.out with ⟨hc0, hf, hfl, hty⟩ | ⟨hc0, rfl⟩
  · have hc1 : c = 0 := by rw [HC.out]; exact hc0
    subst hc1
    obtain ⟨p0, ux, r0, l0, q0, r1, l1, q1, r2, l2, q2, rfl⟩ := term_shape hty
    obtain ⟨W2, hW2⟩ : ∃ W2, W2 = w1.alloc (.cells #[.int .i64 p0, .string ux, .slice r0 l0 q0, .slice r1 l1 q1, .slice r2 l2 q2] 33) := ⟨_, rfl⟩
    have z2 : W2.heap.size = w1.heap.size + 1 := by rw [hW2]; simp
    have b2 : Below w1.heap.size w1 W2 := by rw [hW2]; exact (Below.refl _ w1).alloc (Nat.le_refl _) _
    have hru : ∀ W, Below W2.heap.size W2 W → (W.cell? ⟨w1.heap.size, 0, none⟩ = some (.int .i64 p0) ∧ W.cell? ⟨w1.heap.size, 1, none⟩ = some (.string ux) ∧ W.cell? ⟨w1.heap.size, 2, none⟩ = some (.slice r0 l0 q0) ∧ W.cell? ⟨w1.heap.size, 3, none⟩ = some (.slice r1 l1 q1) ∧ W.cell? ⟨w1.heap.size, 4, none⟩ = some (.slice r2 l2 q2)) ∧ KeptC w1.heap.size w1 W ∧ w1.heap.size ≤ W.heap.size ∧ Below W1.heap.size W1 W := fun W hW => by
      have q : ∀ o, W.cell? ⟨w1.heap.size, o, none⟩ = W2.cell? ⟨w1.heap.size, o, none⟩ := fun o => hW.cell (p := ⟨w1.heap.size, o, none⟩) (by simp; omega)
      have hb := b2.trans (hW.mono (by omega))
      refine ⟨?_, Below.keptC hb, hb.size, k1.trans (hb.mono k1.size)⟩
      rw [q, q, q, q, q, hW2]
      simp only [World.cell?_alloc_at _ _ _ _ rfl]
      exact ⟨rfl, rfl, rfl, rfl, rfl⟩
    have g2 : Below W2.heap.size W2 W2 := Below.refl _ _
    obtain ⟨⟨v0, v1, v2, v3, v4⟩, ku, kz, k2⟩ := hru W2 g2
    have K49 := lay_again t hf hfl w1.heap.size w1 W2 _ ku kz hty
    have HW2 := Lib.hid hW2
    rw [HW2.out] at v0 v1 v2 v3 v4
    have HRU := Lib.hid hru; have HTY := Lib.hid hty; have HFF := Lib.hid (And.intro hf hfl); have HZ2 := Lib.hid z2
    clear hW2 hru hP hty hf hfl HC hc0 z2 ku kz
    go_wp2_with fail
    rw [← HW2.out]
    refine K49.mono ?_
    clear K49
    rintro e' w2 ⟨p0', ux', r0', l0', q0', r1', l1', q1', r2', l2', q2', rfl, hty2, k3⟩
    have k3' : Below W2.heap.size W2 w2 := k3
    obtain ⟨W3, hW3⟩ : ∃ W3, W3 = w2.alloc (.cells #[.int .i64 p0', .string ux', .slice r0' l0' q0', .slice r1' l1' q1', .slice r2' l2' q2'] 33) := ⟨_, rfl⟩
    have z3 : W3.heap.size = w2.heap.size + 1 := by rw [hW3]; simp
    have b3 : Below w2.heap.size w2 W3 := by rw [hW3]; exact (Below.refl _ w2).alloc (Nat.le_refl _) _
    have hrv : ∀ W, Below W3.heap.size W3 W → (W.cell? ⟨w2.heap.size, 0, none⟩ = some (.int .i64 p0') ∧ W.cell? ⟨w2.heap.size, 1, none⟩ = some (.string ux') ∧ W.cell? ⟨w2.heap.size, 2, none⟩ = some (.slice r0' l0' q0') ∧ W.cell? ⟨w2.heap.size, 3, none⟩ = some (.slice r1' l1' q1') ∧ W.cell? ⟨w2.heap.size, 4, none⟩ = some (.slice r2' l2' q2')) ∧ KeptC w2.heap.size w2 W ∧ w2.heap.size ≤ W.heap.size ∧ Below W2.heap.size W2 W := fun W hW => by
      have q : ∀ o, W.cell? ⟨w2.heap.size, o, none⟩ = W3.cell? ⟨w2.heap.size, o, none⟩ := fun o => hW.cell (p := ⟨w2.heap.size, o, none⟩) (by simp; omega)
      have hb := b3.trans (hW.mono (by omega))
      refine ⟨?_, Below.keptC hb, hb.size, k3'.trans (hb.mono k3'.size)⟩
      rw [q, q, q, q, q, hW3]
      simp only [World.cell?_alloc_at _ _ _ _ rfl]
      exact ⟨rfl, rfl, rfl, rfl, rfl⟩
    have g3 : Below W3.heap.size W3 W3 := Below.refl _ _
    obtain ⟨⟨m0', m1', m2', m3', m4'⟩, kv, kvz, k3''⟩ := hrv W3 g3
    obtain ⟨⟨v0', v1', v2', v3', v4'⟩, _, _, k2'⟩ := HRU.out W3 k3''
    obtain ⟨y0, y1, y2, y3, y4⟩ := HRD.out W3 k2'
    obtain ⟨E, hE1, hE2⟩ := lay_frees HFF.out.1 HFF.out.2
    obtain ⟨L, hL⟩ : ∃ L, L = (E.mergeSort leB).map mkB := ⟨_, rfl⟩
    have K1 := fun W hW hB => api_29 w.heap.size w t _ W hW hB (formedB_iff.2 HFF.out.1) HT.out E hE1
    have K2 := fun W hW hB => api_29 w1.heap.size w1 (layT t) _ W hW hB (formedB_iff.2 HFF.out.2) HTY.out E hE2
    rw [← hL] at K1 K2
    have K3 := fun W hW hB => api_23 w.heap.size w t _ W hW hB (formedB_iff.2 HFF.out.1) HT.out
    have K4 := fun W hW hB => api_23 w1.heap.size w1 (layT t) _ W hW hB (formedB_iff.2 HFF.out.2) HTY.out
    have hnn := lay_nodes HFF.out.1
    obtain ⟨n1, hn1⟩ : ∃ n : Int, n = ((Part.proc t).size : Int) := ⟨_, rfl⟩
    obtain ⟨n2, hn2⟩ : ∃ n : Int, n = ((Part.proc (layT t)).size : Int) := ⟨_, rfl⟩
    rw [← hn1] at K3 hnn
    rw [← hn2] at K4 hnn
    have HW3 := Lib.hid hW3
    rw [HW3.out] at m0' m1' m2' m3' m4' v0' v1' v2' v3' v4' y0 y1 y2 y3 y4
    have HRV := Lib.hid hrv; have HK1 := Lib.hid K1; have HK2 := Lib.hid K2; have HK3 := Lib.hid K3; have HK4 := Lib.hid K4; have HZ3 := Lib.hid z3
    have H1 := K1 W3 (HGB.out _ k2').1 (HGB.out _ k2').2.1
    clear hW3 hrv K1 K2 K3 K4 hE1 hE2 hL hn1 hn2 kv kvz z3 b3 k3'
    go_wp2_with fail
    rw [← HW3.out]
    refine H1.mono ?_
    clear H1
    rintro e' w4 ⟨vl, rfl, sl, k4⟩
    clear v0 v1 v2 v3 v4 m0' m1' m2' m3' m4' v0' v1' v2' v3' v4' y0 y1 y2 y3 y4 x0 x1 x2 x3 x4
    have HALL : Hid (∀ W, Below W3.heap.size W3 W → (W.cell? ⟨w.heap.size, 0, none⟩ = some (.int .i64 o0) ∧ W.cell? ⟨w.heap.size, 1, none⟩ = some (.string tx) ∧ W.cell? ⟨w.heap.size, 2, none⟩ = some (.slice s0 m0 k0) ∧ W.cell? ⟨w.heap.size, 3, none⟩ = some (.slice s1 m1 _) ∧ W.cell? ⟨w.heap.size, 4, none⟩ = some (.slice s2 m2 _)) ∧
        (W.cell? ⟨w1.heap.size, 0, none⟩ = some (.int .i64 p0) ∧ W.cell? ⟨w1.heap.size, 1, none⟩ = some (.string ux) ∧ W.cell? ⟨w1.heap.size, 2, none⟩ = some (.slice r0 l0 q0) ∧ W.cell? ⟨w1.heap.size, 3, none⟩ = some (.slice r1 l1 q1) ∧ W.cell? ⟨w1.heap.size, 4, none⟩ = some (.slice r2 l2 q2)) ∧
        (W.cell? ⟨w2.heap.size, 0, none⟩ = some (.int .i64 p0') ∧ W.cell? ⟨w2.heap.size, 1, none⟩ = some (.string ux') ∧ W.cell? ⟨w2.heap.size, 2, none⟩ = some (.slice r0' l0' q0') ∧ W.cell? ⟨w2.heap.size, 3, none⟩ = some (.slice r1' l1' q1') ∧ W.cell? ⟨w2.heap.size, 4, none⟩ = some (.slice r2' l2' q2')) ∧
        (KeptC w.heap.size w W ∧ w.heap.size ≤ W.heap.size) ∧ (KeptC w1.heap.size w1 W ∧ w1.heap.size ≤ W.heap.size) ∧ (KeptC w2.heap.size w2 W ∧ w2.heap.size ≤ W.heap.size) ∧ Below w.heap.size w W) := Lib.hid (fun W hW => by
      obtain ⟨a1, a2, a3, a4⟩ := HRV.out W hW
      obtain ⟨c1, c2, c3, c4⟩ := HRU.out W a4
      have d1 := HRD.out W c4
      obtain ⟨e1, e2, e3⟩ := HGB.out W c4
      exact ⟨d1, c1, a1, ⟨e1, e2⟩, ⟨c2, c3⟩, ⟨a2, a3⟩, e3⟩)
    obtain ⟨⟨y0, y1, y2, y3, y4⟩, ⟨v0, v1, v2, v3, v4⟩, _, _, hu1, _, _⟩ := HALL.out w4 k4
    go_wp2_with fail
    refine (HK2.out w4 hu1.1 hu1.2).mono ?_
    rintro e' w5 ⟨vm, rfl, sm, k5'⟩
    have k5 := k4.trans (k5'.mono k4.size)
    have SL := Lib.hid (And.intro (sl.later k5') sm)
    clear y0 y1 y2 y3 y4 v0 v1 v2 v3 v4 hu1 sl sm
    obtain ⟨⟨y0, y1, y2, y3, y4⟩, _, _, hu0, _, _, _⟩ := HALL.out w5 k5
    go_wp2_with fail
    refine (HK3.out w5 hu0.1 hu0.2).mono ?_
    rintro e' w6 ⟨rfl, k6'⟩
    have k6 := k5.trans (k6'.mono k5.size)
    clear y0 y1 y2 y3 y4 hu0
    obtain ⟨_, ⟨v0, v1, v2, v3, v4⟩, _, _, hu1, _, _⟩ := HALL.out w6 k6
    go_wp2_with fail
    refine (HK4.out w6 hu1.1 hu1.2).mono ?_
    rintro e' w7 ⟨rfl, k7'⟩
    have k7 := k6.trans (k7'.mono k6.size)
    have k57 := k6'.trans (k7'.mono k6'.size)
    have SL7 := Lib.hid (And.intro (SL.out.1.later k57) (SL.out.2.later k57))
    clear v0 v1 v2 v3 v4 hu1 SL k57 k6' k7' k5' k4
    obtain ⟨⟨y0, y1, y2, y3, y4⟩, ⟨v0, v1, v2, v3, v4⟩, ⟨x0, x1, x2, x3, x4⟩, _, hu1, hu2, _⟩ := HALL.out w7 k7
    go_wp2_with fail
    have hut := TermAt.keep hu1.1 hu1.2 _ _ HTY.out
    have hvt := TermAt.keep hu2.1 hu2.2 _ _ hty2.out
    refine (same_any (layT t) w7.heap.size w7 w7 _ _ (KeptC.refl _ _) (Nat.le_refl _) hut hvt).mono ?_
    clear hut hvt y0 y1 y2 y3 y4 v0 v1 v2 v3 v4 x0 x1 x2 x3 x4 hu1 hu2
    rintro e' w8 ⟨rfl, k8'⟩
    have k8 := k7.trans (k8'.mono k7.size)
    have J31 := same_names w8.heap.size vl vm L L w8 (Nat.le_refl _) (SL7.out.1.later k8') (SL7.out.2.later k8')
    rw [sameNames_refl] at J31
    have hnn' : ¬ (n1 < n2) := by omega
    clear SL7 k8'
    go_wp2_with fail
    refine J31.mono ?_
    clear J31
    rintro e' w9 ⟨rfl, k9'⟩
    have k9 := k8.trans (k9'.mono k8.size)
    clear k9'
    obtain ⟨⟨y0, y1, y2, y3, y4⟩, _, _, hu0, _, _, _⟩ := HALL.out w9 k9
    go_wp2_with fail
    refine (pparts_ok t (formedB_iff.2 HFF.out.1) w.heap.size w w9 _ hu0.1 hu0.2 HT.out).mono ?_
    rintro e' wA ⟨va, rfl, hva, kA'⟩
    have kA := k9.trans (kA'.mono k9.size)
    clear y0 y1 y2 y3 y4 hu0
    obtain ⟨_, ⟨v0, v1, v2, v3, v4⟩, _, _, hu1, _, _⟩ := HALL.out wA kA
    go_wp2_with fail
    refine (pparts_ok (layT t) (formedB_iff.2 HFF.out.2) w1.heap.size w1 wA _ hu1.1 hu1.2 HTY.out).mono ?_
    rintro e' wB ⟨vb, rfl, hvb, kB'⟩
    have kB := kA.trans (kB'.mono kA.size)
    have hlen : (splitT (layT t)).length = (splitT t).length := by rw [split_lay _ t (Nat.le_refl _) (formed_fineT (formedB_iff.2 HFF.out.1)), List.length_map]
    obtain ⟨LA, hLA⟩ : ∃ L, L = splitT t := ⟨_, rfl⟩
    have hLB : splitT (layT t) = LA.map layT := by rw [hLA]; exact split_lay _ t (Nat.le_refl _) (formed_fineT (formedB_iff.2 HFF.out.1))
    have hels := formed_lays (formedB_iff.2 HFF.out.1) (formedB_iff.2 HFF.out.2)
    rw [hLB] at hvb
    rw [← hLA] at hva hels
    clear hlen hLB hLA v0 v1 v2 v3 v4 hu1
    obtain ⟨aa, ca, rfl, la, ha⟩ := hva
    obtain ⟨ab, cb, rfl, lb, hb⟩ := hvb
    rw [List.length_map] at lb hb ⊢
    obtain ⟨nn, hnn2⟩ : ∃ n, n = LA.length := ⟨_, rfl⟩
    have HNN := Lib.hid hnn2
    rw [← hnn2] at la ha hb ⊢
    clear hnn2 lb
    go_wp2
    go_loopw [17] (fun i wr => ∃ (k : Nat), k ≤ nn ∧ i = .int .i64 k ∧ Below wB.heap.size wB wr) (fun i _ => nn - (intOf i).toNat)
    case atStart => exact ⟨0, by omega, rfl, Below.refl _ _⟩
    case round =>
      obtain ⟨k, hk, rfl, hbr⟩ := hrel
      by_cases hlt : k < nn
      · have hkl : k < LA.length := by rw [← HNN.out]; exact hlt
        have hkm : k < (LA.map layT).length := by rw [List.length_map]; exact hkl
        rcases ha with h0 | ⟨ba, oa, rfl, hba, hta⟩
        · omega
        rcases hb with h0 | ⟨bb, ob, rfl, hbb, htb⟩
        · omega
        obtain ⟨d1, e1, f1⟩ := hta.get LA ba oa k hkl
        obtain ⟨d2, e2, f2⟩ := htb.get (LA.map layT) bb ob k hkm
        have hg := hels LA[k] (List.getElem_mem hkl)
        rw [List.getElem_map] at f2
        obtain ⟨a, haeq⟩ : ∃ a, a = LA[k] := ⟨_, rfl⟩
        rw [← haeq] at f1 f2 hg
        obtain ⟨c0, c1, c2, c3, c4, c5, c6, c7, c8, c9, cA, rfl⟩ := term_shape f1
        obtain ⟨d0, d1, d2, d3, d4, d5, d6, d7, d8, d9, dA, rfl⟩ := term_shape f2
        have hAr : Below wA.heap.size wA wr := kB'.trans (hbr.mono kB'.size)
        obtain ⟨y0, y1, y2, y3, y4⟩ := cells5 (e1.keep (Below.keptC hAr) hba)
        have hcall := lay_elem a hg wA.heap.size wA wr _ (Below.keptC hAr) hAr.size f1
        have hBk : ∀ W, Below wr.heap.size wr W → (W.cell? ⟨bb, ob + k * 5, none⟩ = some (.int .i64 d0) ∧ W.cell? ⟨bb, ob + k * 5 + 1, none⟩ = some (.string d1) ∧ W.cell? ⟨bb, ob + k * 5 + 2, none⟩ = some (.slice d2 d3 d4) ∧ W.cell? ⟨bb, ob + k * 5 + 3, none⟩ = some (.slice d5 d6 d7) ∧ W.cell? ⟨bb, ob + k * 5 + 4, none⟩ = some (.slice d8 d9 dA)) ∧ KeptC wB.heap.size wB W ∧ wB.heap.size ≤ W.heap.size := fun W hW => by
          have hh := hbr.trans (hW.mono hbr.size)
          exact ⟨cells5 (e2.keep (Below.keptC hh) hbb), Below.keptC hh, hh.size⟩
        have HBK := Lib.hid hBk; have HF2 := Lib.hid f2
        clear hta htb f1 f2 e1 e2 hkl hkm haeq hBk
        go_wp2_with fail
        refine hcall.mono ?_
        clear hcall
        rintro e' wC ⟨x0, x1, x2, x3, x4, x5, x6, x7, x8, x9, xA, rfl, hx, kC⟩
        obtain ⟨WD, hWD⟩ : ∃ WD, WD = wC.alloc (.cells #[.int .i64 x0, .string x1, .slice x2 x3 x4, .slice x5 x6 x7, .slice x8 x9 xA] 33) := ⟨_, rfl⟩
        have bD : Below wC.heap.size wC WD := by rw [hWD]; exact (Below.refl _ wC).alloc (Nat.le_refl _) _
        have kD := kC.trans (bD.mono kC.size)
        have bDd := bD.drew
        have kDd := kD.drew
        have hxb : ∀ W, Below WD.heap.size WD W → W.cell? ⟨wC.heap.size, 0, none⟩ = some (.int .i64 x0) ∧ W.cell? ⟨wC.heap.size, 1, none⟩ = some (.string x1) ∧ W.cell? ⟨wC.heap.size, 2, none⟩ = some (.slice x2 x3 x4) ∧ W.cell? ⟨wC.heap.size, 3, none⟩ = some (.slice x5 x6 x7) ∧ W.cell? ⟨wC.heap.size, 4, none⟩ = some (.slice x8 x9 xA) := fun W hW => by
          have q : ∀ o, W.cell? ⟨wC.heap.size, o, none⟩ = WD.cell? ⟨wC.heap.size, o, none⟩ := fun o => hW.cell (p := ⟨wC.heap.size, o, none⟩) (by rw [hWD]; simp)
          rw [q, q, q, q, q, hWD]
          simp only [World.cell?_alloc_at _ _ _ _ rfl]
          exact ⟨rfl, rfl, rfl, rfl, rfl⟩
        obtain ⟨⟨u0', u1', u2', u3', u4'⟩, hkB, hzB⟩ := HBK.out WD.drew kDd
        have hsame := same_any (layT a) WD.drew.heap.size WD.drew WD.drew _ _ (KeptC.refl _ _) (Nat.le_refl _) (TermAt.keep (Below.keptC bDd) bDd.size _ _ hx.out) (TermAt.keep hkB hzB _ _ HF2.out)
        obtain ⟨b0', b1', b2', b3', b4'⟩ := hxb WD.drew (Below.refl _ WD).drew
        have hAB : ∀ W, Below WD.drew.heap.size WD.drew W → ((W.cell? ⟨bb, ob + k * 5, none⟩ = some (.int .i64 d0) ∧ W.cell? ⟨bb, ob + k * 5 + 1, none⟩ = some (.string d1) ∧ W.cell? ⟨bb, ob + k * 5 + 2, none⟩ = some (.slice d2 d3 d4) ∧ W.cell? ⟨bb, ob + k * 5 + 3, none⟩ = some (.slice d5 d6 d7) ∧ W.cell? ⟨bb, ob + k * 5 + 4, none⟩ = some (.slice d8 d9 dA)) ∧ KeptC wB.heap.size wB W ∧ wB.heap.size ≤ W.heap.size) ∧
            (W.cell? ⟨wC.heap.size, 0, none⟩ = some (.int .i64 x0) ∧ W.cell? ⟨wC.heap.size, 1, none⟩ = some (.string x1) ∧ W.cell? ⟨wC.heap.size, 2, none⟩ = some (.slice x2 x3 x4) ∧ W.cell? ⟨wC.heap.size, 3, none⟩ = some (.slice x5 x6 x7) ∧ W.cell? ⟨wC.heap.size, 4, none⟩ = some (.slice x8 x9 xA)) ∧ Below wr.heap.size wr W := fun W hW => by
          have h1 := kDd.trans (hW.mono kDd.size)
          exact ⟨HBK.out W h1, hxb W ((Below.refl _ WD).drew.trans hW), h1⟩
        have HWD := Lib.hid hWD
        have HAB := Lib.hid hAB
        clear y0 y1 y2 y3 y4 hx bD kD hWD hkB hzB kC hxb hAB bDd kDd
        go_wp2_with fail
        rw [← HWD.out]
        go_region_held3 (fun W => W.cell? ⟨wC.heap.size, 0, none⟩ = some (.int .i64 x0) ∧ W.cell? ⟨wC.heap.size, 1, none⟩ = some (.string x1) ∧ W.cell? ⟨wC.heap.size, 2, none⟩ = some (.slice x2 x3 x4) ∧ W.cell? ⟨wC.heap.size, 3, none⟩ = some (.slice x5 x6 x7) ∧ W.cell? ⟨wC.heap.size, 4, none⟩ = some (.slice x8 x9 xA) ∧
            W.cell? ⟨bb, ob + k * 5, none⟩ = some (.int .i64 d0) ∧ W.cell? ⟨bb, ob + k * 5 + 1, none⟩ = some (.string d1) ∧ W.cell? ⟨bb, ob + k * 5 + 2, none⟩ = some (.slice d2 d3 d4) ∧ W.cell? ⟨bb, ob + k * 5 + 3, none⟩ = some (.slice d5 d6 d7) ∧ W.cell? ⟨bb, ob + k * 5 + 4, none⟩ = some (.slice d8 d9 dA)) (go_keep)
          (first | (go_at_call 34; refine hsame.mono ?_; rintro e' wE ⟨rfl, kE⟩; obtain ⟨⟨⟨s0', s1', s2', s3', s4'⟩, _⟩, ⟨t0', t1', t2', t3', t4'⟩, kF⟩ := HAB.out wE kE))
        all_goals go_wp2
        go_roundw
        case rel => exact ⟨k + 1, by omega, by go_num, hbr.trans (kF.mono hbr.size)⟩
        case measure => simp [intOf]; omega
      · obtain rfl : k = nn := by omega
        go_wp2_with (go_at_call 14; refine (HJ14.out _).mono ?_; rintro e' w9 ⟨rfl, kC⟩)
        go_ret
        exact ⟨rfl, ((HALL.out wB kB).2.2.2.2.2.2).trans ((hbr.trans (kC.mono hbr.size)).mono ((HALL.out wB kB).2.2.2.2.2.2).size)⟩
  · have hc1 : c ≠ 0 := by rw [HC.out]; exact hc0
    clear hP HC hc0
    unfold zero5
    have H35 := none_zero (w1.alloc (.cells #[.int .i64 0, .string ⟨#[]⟩, .slice none 0 0, .slice none 0 0, .slice none 0 0] 33))
    unfold zero5 at H35
    have hba : Below w1.heap.size w1 (w1.alloc (.cells #[.int .i64 0, .string ⟨#[]⟩, .slice none 0 0, .slice none 0 0, .slice none 0 0] 33)) := (Below.refl _ w1).alloc (Nat.le_refl _) _
    have hza : (w1.alloc (.cells #[.int .i64 0, .string ⟨#[]⟩, .slice none 0 0, .slice none 0 0, .slice none 0 0] 33)).heap.size = w1.heap.size + 1 := by simp
    have HZA := Lib.hid hza; clear hza
    go_wp2_with (first
      | (go_at_call 35; refine H35.mono ?_; clear H35; rintro e' w2 ⟨rfl, k2⟩)
      | (go_at_call 14; refine (HJ14.out _).mono ?_; rintro e' w3 ⟨rfl, k3⟩))
    go_ret
    have hz := HZA.out
    have hz1 := HZ1.out
    exact ⟨rfl, b1.trans ((k1.trans ((hba.trans ((k2.trans (k3.mono k2.size)).mono (by omega))).mono k1.size)).mono (by omega))⟩

end Go.Proofs.YtjmlaeofjjhfmaaGreat
