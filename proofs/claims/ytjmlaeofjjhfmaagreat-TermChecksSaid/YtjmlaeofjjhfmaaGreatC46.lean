/- What the second row of the layer's laws does, by contracts. -/
import Derived.Test.YtjmlaeofjjhfmaaGreatC32
import Derived.Test.YtjmlaeofjjhfmaaGreatC38
import Derived.Test.YtjmlaeofjjhfmaaGreatC45
set_option linter.unusedVariables false
set_option linter.unusedSimpArgs false
namespace Go.Proofs.YtjmlaeofjjhfmaaGreat
open Go.RowKit Go.Shelf Go.Maps

theorem pcheck_any (t : Term) (B : Nat) (u w : World) (cs : List Value) (hu : KeptC B u w) (hB : B ≤ w.heap.size) (hv : TermAt B u cs t) :
    Calls Tryz.prog 25 #[.agg cs.toArray] w fun e w' => e = .returned (.int .i64 (codeOf (formedB (.proc t)))) ∧ Below w.heap.size w w' := by
  cases h : formedB (.proc t) with
  | true => exact check_ok B u t cs w hu hB (formedB_iff.2 h) hv
  | false => exact check_no B u t cs w hu hB (fun hf => by rw [formedB_iff.1 hf] at h; cases h) hv
theorem pcheckExp_any (t : Exp) (B : Nat) (u w : World) (cs : List Value) (hu : KeptC B u w) (hB : B ≤ w.heap.size) (hv : ExpAt B u cs t) :
    Calls Tryz.prog 26 #[.agg cs.toArray] w fun e w' => e = .returned (.int .i64 (codeOf (formedB (.exp t)))) ∧ Below w.heap.size w w' := by
  refine (checkExp_any B u t cs w hu hB hv).mono ?_
  rintro e w' ⟨⟨hf, rfl⟩ | ⟨hf, rfl⟩, hb⟩
  · rw [formedB_iff.1 hf]; exact ⟨rfl, hb⟩
  · have : formedB (.exp t) = false := by cases h : formedB (.exp t) with | false => rfl | true => exact absurd (formedB_iff.2 h) hf
    rw [this]; exact ⟨rfl, hb⟩
theorem pnodes_any (t : Term) (B : Nat) (u w : World) (cs : List Value) (hu : KeptC B u w) (hB : B ≤ w.heap.size) (hv : TermAt B u cs t) :
    Calls Tryz.prog 23 #[.agg cs.toArray] w fun e w' => e = .returned (.tuple #[.int .i64 (numOf (formedB (.proc t)) (Part.proc t).size), .int .i64 (codeOf (formedB (.proc t)))]) ∧ Below w.heap.size w w' := by
  cases h : formedB (.proc t) with
  | true => exact api_23 B u t cs w hu hB (formedB_iff.2 h) hv
  | false => exact api_23_no B u t cs w hu hB (fun hf => by rw [formedB_iff.1 hf] at h; cases h) hv
theorem pdepth_any (t : Term) (B : Nat) (u w : World) (cs : List Value) (hu : KeptC B u w) (hB : B ≤ w.heap.size) (hv : TermAt B u cs t) :
    Calls Tryz.prog 24 #[.agg cs.toArray] w fun e w' => e = .returned (.tuple #[.int .i64 (numOf (formedB (.proc t)) (Part.proc t).depth), .int .i64 (codeOf (formedB (.proc t)))]) ∧ Below w.heap.size w w' := by
  cases h : formedB (.proc t) with
  | true => exact api_24 B u t cs w hu hB (formedB_iff.2 h) hv
  | false => exact api_24_no B u t cs w hu hB (fun hf => by rw [formedB_iff.1 hf] at h; cases h) hv

set_option maxRecDepth 10000 in
set_option maxHeartbeats 4000000 in
theorem row4_any (hD : DefsD) (cs es : List Value) (t : Term) (x : Exp) (w : World) (ht : TermAt w.heap.size w cs t) (hx : ExpAt w.heap.size w es x) :
    Calls Tryz.prog 4 #[.agg cs.toArray, .agg es.toArray] w fun e w' => e = .returned (.bool true) ∧ Below w.heap.size w w' := by
  have H19 := fun W hW hB => rcheck_any hD t w.heap.size w W cs hW hB ht
  have H20 := fun W hW hB => rcheckExp_any x w.heap.size w W es hW hB hx
  have H21 := fun W hW hB => rnodes_any hD t w.heap.size w W cs hW hB ht
  have H22 := fun W hW hB => rdepth_any hD t w.heap.size w W cs hW hB ht
  have H23 := fun W hW hB => pnodes_any t w.heap.size w W cs hW hB ht
  have H24 := fun W hW hB => pdepth_any t w.heap.size w W cs hW hB ht
  have H25 := fun W hW hB => pcheck_any t w.heap.size w W cs hW hB ht
  have H26 := fun W hW hB => pcheckExp_any x w.heap.size w W es hW hB hx
  have H14 : ∀ W, Calls Tryz.prog 14 #[] W fun e w' => e = .returned (.bool true) ∧ Below W.heap.size W w' := known_any
  obtain ⟨c, hc⟩ : ∃ c, c = codeOf (formedB (.proc t)) := ⟨_, rfl⟩
  obtain ⟨d, hd⟩ : ∃ d, d = codeOf (formedB (.exp x)) := ⟨_, rfl⟩
  obtain ⟨n, hn⟩ : ∃ n, n = numOf (formedB (.proc t)) (Part.proc t).size := ⟨_, rfl⟩
  obtain ⟨m, hm⟩ : ∃ n, n = numOf (formedB (.proc t)) (Part.proc t).depth := ⟨_, rfl⟩
  rw [← hc] at H19 H21 H22 H23 H24 H25
  rw [← hd] at H20 H26
  rw [← hn] at H21 H23
  rw [← hm] at H22 H24
  clear hc hd hn hm hD
  obtain ⟨op, text, args, defs, kids⟩ := t
  unfold TermAt at ht
  obtain ⟨hz, _, _, _, rfl, ⟨a0, p0, rfl, _⟩, ⟨a1, p1, rfl, _⟩, ⟨a2, p2, rfl, _⟩⟩ := ht
  obtain ⟨xo, xn, xt, xk⟩ := x
  unfold ExpAt at hx
  obtain ⟨hxz, _, rfl, ⟨a3, p3, rfl, _⟩⟩ := hx
  obtain ⟨W2, hW2⟩ : ∃ W2, W2 = (w.alloc (.cells #[.int .i64 op, .string text, .slice a0 args.length p0, .slice a1 defs.length p1, .slice a2 kids.length p2] 33)).alloc (.cells #[.int .i64 xo, .int .i64 xn, .string xt, .slice a3 xk.length p3] 36) := ⟨_, rfl⟩
  have z2 : W2.heap.size = w.heap.size + 2 := by rw [hW2]; simp
  have b2 : Below w.heap.size w W2 := by rw [hW2]; exact ((Below.refl _ w).alloc (Nat.le_refl _) _).alloc (by simp) _
  obtain ⟨G, hG⟩ : ∃ G : World → Prop, G = fun W => Below W2.heap.size W2 W := ⟨_, rfl⟩
  have hGB : ∀ W, G W → KeptC w.heap.size w W ∧ w.heap.size ≤ W.heap.size ∧ Below w.heap.size w W := fun W h => by
    rw [hG] at h
    have hb := b2.trans (h.mono (by omega))
    exact ⟨Below.keptC hb, hb.size, hb⟩
  have hGm : ∀ W W', G W → Below W.heap.size W W' → G W' := fun W W' h k => by rw [hG] at h ⊢; exact h.trans (k.mono h.size)
  have hGd : ∀ W, G W → G W.drew := fun W h => by rw [hG] at h ⊢; exact h.drew
  have hrd : ∀ W, G W → (W.cell? ⟨w.heap.size, 0, none⟩ = some (.int .i64 op) ∧ W.cell? ⟨w.heap.size, 1, none⟩ = some (.string text) ∧ W.cell? ⟨w.heap.size, 2, none⟩ = some (.slice a0 args.length p0) ∧ W.cell? ⟨w.heap.size, 3, none⟩ = some (.slice a1 defs.length p1) ∧ W.cell? ⟨w.heap.size, 4, none⟩ = some (.slice a2 kids.length p2)) ∧
      (W.cell? ⟨w.heap.size + 1, 0, none⟩ = some (.int .i64 xo) ∧ W.cell? ⟨w.heap.size + 1, 1, none⟩ = some (.int .i64 xn) ∧ W.cell? ⟨w.heap.size + 1, 2, none⟩ = some (.string xt) ∧ W.cell? ⟨w.heap.size + 1, 3, none⟩ = some (.slice a3 xk.length p3)) := fun W h => by
    rw [hG] at h
    have e : ∀ o, W.cell? ⟨w.heap.size, o, none⟩ = W2.cell? ⟨w.heap.size, o, none⟩ := fun o => h.cell (p := ⟨w.heap.size, o, none⟩) (by simp; omega)
    have e' : ∀ o, W.cell? ⟨w.heap.size + 1, o, none⟩ = W2.cell? ⟨w.heap.size + 1, o, none⟩ := fun o => h.cell (p := ⟨w.heap.size + 1, o, none⟩) (by simp; omega)
    rw [e, e, e, e, e, e', e', e', e', hW2]
    obtain ⟨wm, hwm⟩ : ∃ wm, wm = w.alloc (.cells #[.int .i64 op, .string text, .slice a0 args.length p0, .slice a1 defs.length p1, .slice a2 kids.length p2] 33) := ⟨_, rfl⟩
    rw [← hwm]
    have zm : wm.heap.size = w.heap.size + 1 := by rw [hwm]; simp
    have q1 : ∀ o x, (wm.alloc x).cell? ⟨w.heap.size, o, none⟩ = wm.cell? ⟨w.heap.size, o, none⟩ := fun o x => World.cell?_alloc_past _ _ _ (by first | omega | (simp only []; omega))
    rw [q1, q1, q1, q1, q1, ← zm]
    have q2 : ∀ o (cc : Array Value) ty, (wm.alloc (.cells cc ty)).cell? ⟨wm.heap.size, o, none⟩ = cc[o]? := fun o cc ty => World.cell?_alloc_at _ _ _ _ rfl
    have q3 : ∀ o (cc : Array Value) ty, (w.alloc (.cells cc ty)).cell? ⟨w.heap.size, o, none⟩ = cc[o]? := fun o cc ty => World.cell?_alloc_at _ _ _ _ rfl
    rw [q2, q2, q2, q2, hwm, q3, q3, q3, q3, q3]
    exact ⟨⟨rfl, rfl, rfl, rfl, rfl⟩, rfl, rfl, rfl, rfl⟩
  have J19 := fun W (h : G W) => (H19 W (hGB W h).1 (hGB W h).2.1).mono fun e w' (k : _ ∧ _) => (⟨k.1, hGm W w' h k.2⟩ : _ ∧ G w')
  have J20 := fun W (h : G W) => (H20 W (hGB W h).1 (hGB W h).2.1).mono fun e w' (k : _ ∧ _) => (⟨k.1, hGm W w' h k.2⟩ : _ ∧ G w')
  have J21 := fun W (h : G W) => (H21 W (hGB W h).1 (hGB W h).2.1).mono fun e w' (k : _ ∧ _) => (⟨k.1, hGm W w' h k.2⟩ : _ ∧ G w')
  have J22 := fun W (h : G W) => (H22 W (hGB W h).1 (hGB W h).2.1).mono fun e w' (k : _ ∧ _) => (⟨k.1, hGm W w' h k.2⟩ : _ ∧ G w')
  have J23 := fun W (h : G W) => (H23 W (hGB W h).1 (hGB W h).2.1).mono fun e w' (k : _ ∧ _) => (⟨k.1, hGm W w' h k.2⟩ : _ ∧ G w')
  have J24 := fun W (h : G W) => (H24 W (hGB W h).1 (hGB W h).2.1).mono fun e w' (k : _ ∧ _) => (⟨k.1, hGm W w' h k.2⟩ : _ ∧ G w')
  have J25 := fun W (h : G W) => (H25 W (hGB W h).1 (hGB W h).2.1).mono fun e w' (k : _ ∧ _) => (⟨k.1, hGm W w' h k.2⟩ : _ ∧ G w')
  have J26 := fun W (h : G W) => (H26 W (hGB W h).1 (hGB W h).2.1).mono fun e w' (k : _ ∧ _) => (⟨k.1, hGm W w' h k.2⟩ : _ ∧ G w')
  have J14 := fun W (h : G W) => (H14 W).mono fun e w' (k : _ ∧ _) => (⟨k.1, hGm W w' h k.2⟩ : _ ∧ G w')
  have g0 : G ((w.alloc (.cells #[.int .i64 op, .string text, .slice a0 args.length p0, .slice a1 defs.length p1, .slice a2 kids.length p2] 33)).alloc (.cells #[.int .i64 xo, .int .i64 xn, .string xt, .slice a3 xk.length p3] 36)).drew := by rw [hG, ← hW2]; exact (Below.refl _ _).drew
  have HGB := Lib.hid (fun W h => (hGB W h).2.2)
  clear H19 H20 H21 H22 H23 H24 H25 H26 H14 hGB hGm b2 hW2
  obtain ⟨⟨c0, c1, c2, c3, c4⟩, d0, d1, d2, d3⟩ := hrd _ g0
  clear hG
  go_enter Tryz.func4, Tryz.ntmps4
  go_wp2_with fail
  go_region_held3 (fun w' => w'.cell? ⟨w.heap.size, 0, none⟩ = some (.int .i64 op) ∧ w'.cell? ⟨w.heap.size, 1, none⟩ = some (.string text) ∧ w'.cell? ⟨w.heap.size, 2, none⟩ = some (.slice a0 args.length p0) ∧ w'.cell? ⟨w.heap.size, 3, none⟩ = some (.slice a1 defs.length p1) ∧ w'.cell? ⟨w.heap.size, 4, none⟩ = some (.slice a2 kids.length p2) ∧
      w'.cell? ⟨w.heap.size + 1, 0, none⟩ = some (.int .i64 xo) ∧ w'.cell? ⟨w.heap.size + 1, 1, none⟩ = some (.int .i64 xn) ∧ w'.cell? ⟨w.heap.size + 1, 2, none⟩ = some (.string xt) ∧ w'.cell? ⟨w.heap.size + 1, 3, none⟩ = some (.slice a3 xk.length p3)) (go_keep)
    (first
    | (go_at_call 19; refine (J19 _ (by assumption)).mono ?_; rintro e w1 ⟨rfl, g1⟩; obtain ⟨⟨r0, r1, r2, r3, r4⟩, r5, r6, r7, r8⟩ := hrd w1 g1)
    | (go_at_call 20; refine (J20 _ (by assumption)).mono ?_; rintro e w2 ⟨rfl, g2⟩; obtain ⟨⟨s0, s1, s2, s3, s4⟩, s5, s6, s7, s8⟩ := hrd w2 g2))
  go_wp2_with (first
    | (go_at_call 21; refine (J21 _ (by assumption)).mono ?_; rintro e w3 ⟨rfl, g3⟩; obtain ⟨⟨t0, t1, t2, t3, t4⟩, t5, t6, t7, t8⟩ := hrd w3 g3)
    | (go_at_call 22; refine (J22 _ (by assumption)).mono ?_; rintro e w4 ⟨rfl, g4⟩; obtain ⟨⟨u0, u1, u2, u3, u4⟩, u5, u6, u7, u8⟩ := hrd w4 g4)
    | (go_at_call 23; refine (J23 _ (by assumption)).mono ?_; rintro e w5 ⟨rfl, g5⟩; obtain ⟨⟨v0, v1, v2, v3, v4⟩, v5, v6, v7, v8⟩ := hrd w5 g5)
    | (go_at_call 24; refine (J24 _ (by assumption)).mono ?_; rintro e w6 ⟨rfl, g6⟩; obtain ⟨⟨x0, x1, x2, x3, x4⟩, x5, x6, x7, x8⟩ := hrd w6 g6)
    | (go_at_call 25; refine (J25 _ (by assumption)).mono ?_; rintro e w7 ⟨rfl, g7⟩; obtain ⟨⟨y0, y1, y2, y3, y4⟩, y5, y6, y7, y8⟩ := hrd w7 g7)
    | (go_at_call 26; refine (J26 _ (by assumption)).mono ?_; rintro e w8 ⟨rfl, g8⟩; obtain ⟨⟨z0, z1, z2, z3, z4⟩, z5, z6, z7, z8⟩ := hrd w8 g8)
    | (go_at_call 14; refine (J14 _ (by assumption)).mono ?_; rintro e w9 ⟨rfl, g9⟩))
  go_ret
  exact ⟨rfl, HGB.out _ g9⟩

end Go.Proofs.YtjmlaeofjjhfmaaGreat
