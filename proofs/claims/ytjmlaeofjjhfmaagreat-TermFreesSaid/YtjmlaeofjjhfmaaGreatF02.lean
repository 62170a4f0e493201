/- The reference's Defines, and the program's, told alike. -/
import Derived.Test.YtjmlaeofjjhfmaaGreatF01
import Derived.Test.YtjmlaeofjjhfmaaGreatC09
import Derived.Test.YtjmlaeofjjhfmaaGreatC32
set_option linter.unusedVariables false
set_option linter.unusedSimpArgs false
namespace Go.Proofs.YtjmlaeofjjhfmaaGreat
open Go.RowKit Go.Shelf Go.Maps Go.Sort

def opT : Term → Int
  | .mk o _ _ _ _ => o
def defT : Term → List Clause
  | .mk _ _ _ d _ => d
def dCode (t : Term) : Int := if formedB (.proc t) then (if opT t = 4 then 0 else 5) else 2
def dCh (t : Term) : List ByteArray := if formedB (.proc t) ∧ opT t = 4 then channelsL (defT t) else []
def dPl (t : Term) : List ByteArray := if formedB (.proc t) ∧ opT t = 4 then placesL (defT t) else []
def DOut (t : Term) (w : World) (e : Ending) (w' : World) : Prop := ∃ v1 v2, e = .returned (.tuple #[v1, v2, .int .i64 (dCode t)]) ∧ StrsAt w'.heap.size w' v1 (dCh t) ∧ StrsAt w'.heap.size w' v2 (dPl t) ∧ Below w.heap.size w w'
theorem DOut.no {t : Term} (h : formedB (.proc t) = false) {w w' : World} (hb : Below w.heap.size w w') : DOut t w (.returned (.tuple #[.slice none 0 0, .slice none 0 0, .int .i64 2])) w' :=
  ⟨_, _, by rw [dCode, h]; rfl, by rw [dCh, h]; exact StrsAt.nil _ _, by rw [dPl, h]; exact StrsAt.nil _ _, hb⟩
theorem DOut.op {t : Term} (h : formedB (.proc t) = true) (ho : opT t ≠ 4) {w w' : World} (hb : Below w.heap.size w w') : DOut t w (.returned (.tuple #[.slice none 0 0, .slice none 0 0, .int .i64 5])) w' :=
  ⟨_, _, by rw [dCode, h, if_pos rfl, if_neg ho], by rw [dCh, if_neg (fun k => ho k.2)]; exact StrsAt.nil _ _, by rw [dPl, if_neg (fun k => ho k.2)]; exact StrsAt.nil _ _, hb⟩
theorem DOut.yes {t : Term} (h : formedB (.proc t) = true) (ho : opT t = 4) {v1 v2 : Value} {w w' : World} (h1 : StrsAt w'.heap.size w' v1 (channelsL (defT t))) (h2 : StrsAt w'.heap.size w' v2 (placesL (defT t))) (hb : Below w.heap.size w w') : DOut t w (.returned (.tuple #[v1, v2, .int .i64 0])) w' :=
  ⟨_, _, by rw [dCode, h, if_pos rfl, if_pos ho], by rw [dCh, if_pos ⟨h, ho⟩]; exact h1, by rw [dPl, if_pos ⟨h, ho⟩]; exact h2, hb⟩

set_option maxRecDepth 10000 in
set_option maxHeartbeats 4000000 in
theorem rdefines_any (t : Term) (B : Nat) (u w : World) (cs : List Value) (hu : KeptC B u w) (hB : B ≤ w.heap.size) (hv : TermAt B u cs t) :
    Calls Tryz.prog 28 #[.agg cs.toArray] w (DOut t w) := by
  obtain ⟨q, hq⟩ : ∃ q, q = t := ⟨_, rfl⟩
  rw [← hq]
  obtain ⟨op, text, args, defs, kids⟩ := t
  have hv0 := hv
  unfold TermAt at hv
  obtain ⟨hz, _, _, _, rfl, ⟨a0, p0, rfl, _⟩, ⟨a1, p1, rfl, l1, h1⟩, ⟨a2, p2, rfl, _⟩⟩ := hv
  obtain ⟨W1, hW1⟩ : ∃ W1, W1 = w.alloc (.cells #[.int .i64 op, .string text, .slice a0 args.length p0, .slice a1 defs.length p1, .slice a2 kids.length p2] 33) := ⟨_, rfl⟩
  have z1 : W1.heap.size = w.heap.size + 1 := by rw [hW1]; simp
  have b1 : Below w.heap.size w W1 := by rw [hW1]; exact (Below.refl _ w).alloc (Nat.le_refl _) _
  have cc : ∀ W, Below W1.heap.size W1 W → W.cell? ⟨w.heap.size, 0, none⟩ = some (.int .i64 op) ∧ W.cell? ⟨w.heap.size, 1, none⟩ = some (.string text) ∧ W.cell? ⟨w.heap.size, 2, none⟩ = some (.slice a0 args.length p0) ∧ W.cell? ⟨w.heap.size, 3, none⟩ = some (.slice a1 defs.length p1) ∧ W.cell? ⟨w.heap.size, 4, none⟩ = some (.slice a2 kids.length p2) := fun W hW => by
    have e : ∀ o, W.cell? ⟨w.heap.size, o, none⟩ = W1.cell? ⟨w.heap.size, o, none⟩ := fun o => hW.cell (p := ⟨w.heap.size, o, none⟩) (by simp; omega)
    rw [e, e, e, e, e, hW1]
    simp only [World.cell?_alloc_at _ _ _ _ rfl]
    exact ⟨rfl, rfl, rfl, rfl, rfl⟩
  have hck := rcheck_any (fun t h60 hsh B u w cs hu hB hv => (rd_all (Part.proc t).size).1 t (Nat.le_refl _) h60 hsh B u w cs hu hB hv) q B u W1 _ (hu.trans ((Below.keptC b1).mono hB)) (by omega) (by rw [hq]; exact hv0)
  have hqo : opT q = op := by rw [hq]; rfl
  have hqd : defT q = defs := by rw [hq]; rfl
  obtain ⟨x0, x1, x2, x3, x4⟩ := cc W1 (Below.refl _ _)
  have HW := Lib.hid hW1; have HC := Lib.hid cc
  rw [HW.out] at x0 x1 x2 x3 x4
  clear cc hW1 hv0
  cases hf : formedB (.proc q) with
  | false =>
    have HN := Lib.hid (fun W (h : Below w.heap.size w W) => DOut.no hf h)
    rw [hf] at hck
    clear hf hq hqo hqd
    go_enter Tryz.func28, Tryz.ntmps28
    go_wp2_with (go_at_call 19; rw [← HW.out]; refine hck.mono ?_; clear hck; rintro e w1 ⟨rfl, hb1⟩; simp only [codeOf, Bool.false_eq_true, if_false])
    go_ret3
    exact HN.out _ (b1.trans (hb1.mono (by omega)))
  | true =>
    rw [hf] at hck
    by_cases ho : op = 4
    · have hfo := hf
      unfold formedB at hfo
      rw [hq] at hfo
      simp only [Bool.and_eq_true, decide_eq_true_eq] at hfo
      obtain ⟨⟨⟨h60, hsh⟩, _⟩, _⟩ := hfo
      have hsd : allShL (defs.map .def_) = true := by
        rw [allSh_eq] at hsh
        simp only [Part.parts, allShL_append, Bool.and_eq_true] at hsh
        exact hsh.2.1.2
      have hss := size_sz (Part.proc (.mk op text args defs kids))
      simp only [Part.parts, sz_append] at hss
      have hcs := csize_sz defs
      have htx := texts_of_sh hsd
      have hlk := fun W (hW : Below w.heap.size w W) => look_anyB B u defs (by omega) (by omega) a1 p1 l1 h1 W (hu.trans ((Below.keptC hW).mono hB)) (by have := hW.size; omega)
      have HN := Lib.hid (fun v1 v2 W h1 h2 (h : Below w.heap.size w W) => DOut.yes (v1 := v1) (v2 := v2) hf (hqo.trans ho) h1 h2 h)
      rw [hqd] at HN
      have HLK := Lib.hid hlk
      subst ho
      clear hf hq hqo hqd hlk h60 hsh hsd hss hcs htx
      go_enter Tryz.func28, Tryz.ntmps28
      go_wp2_with (first
        | (go_at_call 19; rw [← HW.out]; refine hck.mono ?_; clear hck; rintro e w1 ⟨rfl, hb1⟩; simp only [codeOf, if_true]; obtain ⟨d0, d1, d2, d3, d4⟩ := HC.out w1 hb1; have hbw := b1.trans (hb1.mono (by omega)))
        | (go_at_call 70; refine (HLK.out w1 hbw).mono ?_; rintro e w2 ⟨X, rfl, ⟨vch, vm, va, vp, hS⟩, hb2⟩; obtain ⟨e0, _, _, e3, e4, _⟩ := hS.cells))
      obtain ⟨ca, cc, rfl, _⟩ := owns_cells (by omega) hS.rch
      obtain ⟨pa, pc, rfl, _⟩ := owns_cells (by omega) hS.rp
      go_quiet (fail)
      have hSF := hS.later (below_drewN (Below.refl w2.heap.size w2) nq)
      have hBF := below_drewN (hbw.trans (hb2.mono hbw.size)) nq
      go_wp2
      go_ret3
      exact HN.out _ _ _ (strs_row hSF.rch hSF.zch) (strs_row hSF.rp hSF.zp) hBF
    · have HN := Lib.hid (fun W (h : Below w.heap.size w W) => DOut.op hf (by rw [hqo]; exact ho) h)
      have ho' : (op == 4) = false := by simpa using ho
      clear hf hq hqo hqd
      go_enter Tryz.func28, Tryz.ntmps28
      go_wp2_with (go_at_call 19; rw [← HW.out]; refine hck.mono ?_; clear hck; rintro e w1 ⟨rfl, hb1⟩; simp only [codeOf, if_true]; obtain ⟨d0, d1, d2, d3, d4⟩ := HC.out w1 hb1)
      go_ret3
      exact HN.out _ (b1.trans (hb1.mono (by omega)))

set_option maxRecDepth 10000 in
set_option maxHeartbeats 4000000 in
theorem pdefines_any (t : Term) (B : Nat) (u w : World) (cs : List Value) (hu : KeptC B u w) (hB : B ≤ w.heap.size) (hv : TermAt B u cs t) :
    Calls Tryz.prog 30 #[.agg cs.toArray] w (DOut t w) := by
  by_cases hyes : formedB (.proc t) = true ∧ opT t = 4
  · obtain ⟨hf, ho⟩ := hyes
    obtain ⟨op, text, args, defs, kids⟩ := t
    have ho2 : op = 4 := ho
    subst ho2
    refine (defines_ok B u text args defs kids cs w hu hB (formedB_iff.2 hf) hv).mono ?_
    rintro e w' ⟨r1, r2, rfl, h1, h2, h3⟩
    exact DOut.yes hf ho h1 h2 h3
  obtain ⟨q, hq⟩ : ∃ q, q = t := ⟨_, rfl⟩
  rw [← hq] at hyes ⊢
  obtain ⟨op, text, args, defs, kids⟩ := t
  have hv0 := hv
  unfold TermAt at hv
  obtain ⟨hz, _, _, _, rfl, ⟨a0, p0, rfl, _⟩, ⟨a1, p1, rfl, l1, h1⟩, ⟨a2, p2, rfl, _⟩⟩ := hv
  obtain ⟨W1, hW1⟩ : ∃ W1, W1 = w.alloc (.cells #[.int .i64 op, .string text, .slice a0 args.length p0, .slice a1 defs.length p1, .slice a2 kids.length p2] 33) := ⟨_, rfl⟩
  have z1 : W1.heap.size = w.heap.size + 1 := by rw [hW1]; simp
  have b1 : Below w.heap.size w W1 := by rw [hW1]; exact (Below.refl _ w).alloc (Nat.le_refl _) _
  have cc : ∀ W, Below W1.heap.size W1 W → W.cell? ⟨w.heap.size, 0, none⟩ = some (.int .i64 op) ∧ W.cell? ⟨w.heap.size, 1, none⟩ = some (.string text) ∧ W.cell? ⟨w.heap.size, 2, none⟩ = some (.slice a0 args.length p0) ∧ W.cell? ⟨w.heap.size, 3, none⟩ = some (.slice a1 defs.length p1) ∧ W.cell? ⟨w.heap.size, 4, none⟩ = some (.slice a2 kids.length p2) := fun W hW => by
    have e : ∀ o, W.cell? ⟨w.heap.size, o, none⟩ = W1.cell? ⟨w.heap.size, o, none⟩ := fun o => hW.cell (p := ⟨w.heap.size, o, none⟩) (by simp; omega)
    rw [e, e, e, e, e, hW1]
    simp only [World.cell?_alloc_at _ _ _ _ rfl]
    exact ⟨rfl, rfl, rfl, rfl, rfl⟩
  have hqo : opT q = op := by rw [hq]; rfl
  obtain ⟨x0, x1, x2, x3, x4⟩ := cc W1 (Below.refl _ _)
  have HW := Lib.hid hW1; have HC := Lib.hid cc
  rw [HW.out] at x0 x1 x2 x3 x4
  cases hf : formedB (.proc q) with
  | false =>
    have hck := check_no B u q _ W1 (hu.trans ((Below.keptC b1).mono hB)) (by omega) (fun h => by rw [formedB_iff.1 h] at hf; cases hf) (by rw [hq]; exact hv0)
    have HN := Lib.hid (fun W (h : Below w.heap.size w W) => DOut.no hf h)
    clear hf hq hqo cc hW1 hv0 hyes
    go_enter Tryz.func30, Tryz.ntmps30
    go_wp2_with (go_at_call 25; rw [← HW.out]; refine hck.mono ?_; clear hck; rintro e w1 ⟨rfl, hb1⟩)
    all_goals
      go_ret3
      exact HN.out _ (b1.trans (hb1.mono (by omega)))
  | true =>
    have ho : op ≠ 4 := fun h => hyes ⟨hf, hqo.trans h⟩
    have hck := check_ok B u q _ W1 (hu.trans ((Below.keptC b1).mono hB)) (by omega) (formedB_iff.2 hf) (by rw [hq]; exact hv0)
    have HN := Lib.hid (fun W (h : Below w.heap.size w W) => DOut.op hf (by rw [hqo]; exact ho) h)
    have ho' : (op == 4) = false := by simpa using ho
    clear hf hq hqo cc hW1 hv0 hyes
    go_enter Tryz.func30, Tryz.ntmps30
    go_wp2_with (go_at_call 25; rw [← HW.out]; refine hck.mono ?_; clear hck; rintro e w1 ⟨rfl, hb1⟩; obtain ⟨d0, d1, d2, d3, d4⟩ := HC.out w1 hb1)
    all_goals
      go_ret3
      exact HN.out _ (b1.trans (hb1.mono (by omega)))

end Go.Proofs.YtjmlaeofjjhfmaaGreat
/- What the third row of the layer's laws does, by contracts. -/
namespace Go.Proofs.YtjmlaeofjjhfmaaGreat
open Go.RowKit Go.Shelf Go.Maps

theorem sameNames_refl (L : List ByteArray) : sameNames L L = true := by
  unfold sameNames
  simp only [beq_self_eq_true, Bool.true_and, List.all_eq_true]
  intro p hp
  have : p.1 = p.2 := by
    induction L with
    | nil => simp at hp
    | cons a l ih =>
      simp only [List.zip_cons_cons, List.mem_cons] at hp
      rcases hp with rfl | hp
      · rfl
      · exact ih hp
  rw [this]; simp [eqL]

set_option maxRecDepth 10000 in
set_option maxHeartbeats 4000000 in
theorem row5_any (cs : List Value) (t : Term) (w : World) (ht : TermAt w.heap.size w cs t) :
    Calls Tryz.prog 5 #[.agg cs.toArray] w fun e w' => e = .returned (.bool true) ∧ Below w.heap.size w w' := by
  have H27 := fun W hW hB => rfree_any t w.heap.size w W cs hW hB ht
  have H28 := fun W hW hB => rdefines_any t w.heap.size w W cs hW hB ht
  have H29 := fun L hL W hW hB => pfree_any t L hL w.heap.size w W cs hW hB ht
  have H30 := fun W hW hB => pdefines_any t w.heap.size w W cs hW hB ht
  unfold DOut at H28 H30
  obtain ⟨c, hc⟩ : ∃ c, c = codeOf (formedB (.proc t)) := ⟨_, rfl⟩
  obtain ⟨d, hd⟩ : ∃ d, d = dCode t := ⟨_, rfl⟩
  obtain ⟨CH, hCH⟩ : ∃ n, n = dCh t := ⟨_, rfl⟩
  obtain ⟨PL, hPL⟩ : ∃ n, n = dPl t := ⟨_, rfl⟩
  obtain ⟨FL, hFL⟩ : ∃ F, F = FreeL t := ⟨_, rfl⟩
  rw [← hc, ← hFL] at H27
  rw [← hFL, ← hc] at H29
  rw [← hd, ← hCH, ← hPL] at H28 H30
  clear hc hd hCH hPL hFL
  obtain ⟨op, text, args, defs, kids⟩ := t
  unfold TermAt at ht
  obtain ⟨hz, _, _, _, rfl, ⟨a0, p0, rfl, _⟩, ⟨a1, p1, rfl, _⟩, ⟨a2, p2, rfl, _⟩⟩ := ht
  obtain ⟨W1, hW1⟩ : ∃ W1, W1 = w.alloc (.cells #[.int .i64 op, .string text, .slice a0 args.length p0, .slice a1 defs.length p1, .slice a2 kids.length p2] 33) := ⟨_, rfl⟩
  have z1 : W1.heap.size = w.heap.size + 1 := by rw [hW1]; simp
  have b1 : Below w.heap.size w W1 := by rw [hW1]; exact (Below.refl _ w).alloc (Nat.le_refl _) _
  have hGB : ∀ W, Below W1.heap.size W1 W → KeptC w.heap.size w W ∧ w.heap.size ≤ W.heap.size ∧ Below w.heap.size w W := fun W h => by
    have hb := b1.trans (h.mono (by omega))
    exact ⟨Below.keptC hb, hb.size, hb⟩
  have hrd : ∀ W, Below W1.heap.size W1 W → W.cell? ⟨w.heap.size, 0, none⟩ = some (.int .i64 op) ∧ W.cell? ⟨w.heap.size, 1, none⟩ = some (.string text) ∧ W.cell? ⟨w.heap.size, 2, none⟩ = some (.slice a0 args.length p0) ∧ W.cell? ⟨w.heap.size, 3, none⟩ = some (.slice a1 defs.length p1) ∧ W.cell? ⟨w.heap.size, 4, none⟩ = some (.slice a2 kids.length p2) := fun W hW => by
    have e : ∀ o, W.cell? ⟨w.heap.size, o, none⟩ = W1.cell? ⟨w.heap.size, o, none⟩ := fun o => hW.cell (p := ⟨w.heap.size, o, none⟩) (by simp; omega)
    rw [e, e, e, e, e, hW1]
    simp only [World.cell?_alloc_at _ _ _ _ rfl]
    exact ⟨rfl, rfl, rfl, rfl, rfl⟩
  have J31 : ∀ W v1 v2 L, StrsAt W.heap.size W v1 L → StrsAt W.heap.size W v2 L → Calls Tryz.prog 31 #[v1, v2] W fun e w' => e = .returned (.bool true) ∧ Below W.heap.size W w' := fun W v1 v2 L h1 h2 => by
    have := same_names W.heap.size v1 v2 L L W (Nat.le_refl _) h1 h2
    rwa [sameNames_refl] at this
  have J14 : ∀ W, Calls Tryz.prog 14 #[] W fun e w' => e = .returned (.bool true) ∧ Below W.heap.size W w' := known_any
  have g0 : Below W1.heap.size W1 W1 := Below.refl _ _
  have HW := Lib.hid hW1
  obtain ⟨x0, x1, x2, x3, x4⟩ := hrd _ g0
  rw [HW.out] at x0 x1 x2 x3 x4
  have K27 := H27 W1 (hGB _ g0).1 (hGB _ g0).2.1
  clear hW1 H27
  have HGB := Lib.hid hGB; have HRD := Lib.hid hrd; have H28 := Lib.hid H28; have H29 := Lib.hid H29; have H30 := Lib.hid H30; have HJ31 := Lib.hid J31; have HJ14 := Lib.hid J14
  clear hGB hrd J31 J14
  go_enter Tryz.func5, Tryz.ntmps5
  go_wp2_with fail
  rw [← HW.out]
  refine K27.mono ?_
  clear K27
  rintro e w1 ⟨vm, L, rfl, s1, hL, k1⟩
  obtain ⟨y0, y1, y2, y3, y4⟩ := HRD.out w1 k1
  go_wp2_with fail
  refine (H28.out w1 (HGB.out _ k1).1 (HGB.out _ k1).2.1).mono ?_
  rintro e w2 ⟨vd, vq, rfl, sd, sq, k2'⟩
  have k2 := k1.trans (k2'.mono k1.size)
  obtain ⟨z0, z1', z2, z3, z4⟩ := HRD.out w2 k2
  go_wp2_with fail
  refine (H29.out L hL.out w2 (HGB.out _ k2).1 (HGB.out _ k2).2.1).mono ?_
  rintro e w3 ⟨vl, rfl, sl, k3'⟩
  have k3 := k2.trans (k3'.mono k2.size)
  obtain ⟨u0, u1, u2, u3, u4⟩ := HRD.out w3 k3
  go_wp2_with fail
  refine (H30.out w3 (HGB.out _ k3).1 (HGB.out _ k3).2.1).mono ?_
  rintro e w4 ⟨vc, vp, rfl, sc, sp, k4'⟩
  have k4 := k3.trans (k4'.mono k3.size)
  obtain ⟨t0, t1, t2, t3, t4⟩ := HRD.out w4 k4
  have k34 := k3'.trans (k4'.mono k3'.size)
  have k24 := k2'.trans (k34.mono k2'.size)
  have A1 := sl.later k4'
  have A2 := s1.later k24
  have B2 := sd.later k34
  have C2 := sq.later k34
  have HA := Lib.hid (And.intro A1 A2)
  have HBC := Lib.hid (And.intro (And.intro sc B2) (And.intro sp C2))
  have HK4 := Lib.hid k4
  clear A1 A2 B2 C2 s1 sd sq sl sc sp k1 k2' k2 k3' k3 k4' k4 k34 k24
  go_wp2_with fail
  refine (HJ31.out w4 _ _ L HA.out.1 HA.out.2).mono ?_
  rintro e w5 ⟨rfl, k5⟩
  go_wp2_with fail
  refine (HJ31.out w5 _ _ CH (HBC.out.1.1.later k5) (HBC.out.1.2.later k5)).mono ?_
  rintro e w6 ⟨rfl, k6⟩
  have k56 := k5.trans (k6.mono k5.size)
  go_wp2_with fail
  refine (HJ31.out w6 _ _ PL (HBC.out.2.1.later k56) (HBC.out.2.2.later k56)).mono ?_
  rintro e w7 ⟨rfl, k7⟩
  have k57 := k56.trans (k7.mono k56.size)
  go_wp2_with fail
  refine (HJ14.out w7).mono ?_
  rintro e w8 ⟨rfl, k8⟩
  have k58 := k57.trans (k8.mono k57.size)
  go_wp2_with fail
  go_ret
  exact ⟨rfl, (HGB.out _ (HK4.out.trans (k58.mono HK4.out.size))).2.2⟩

end Go.Proofs.YtjmlaeofjjhfmaaGreat
