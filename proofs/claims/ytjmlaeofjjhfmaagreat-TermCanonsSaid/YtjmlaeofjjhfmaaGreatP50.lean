/- Layout, by the function that the package exports. -/
import Derived.Test.YtjmlaeofjjhfmaaGreatP49
import Derived.Test.YtjmlaeofjjhfmaaGreatP43
import Derived.Test.YtjmlaeofjjhfmaaGreatP26
import Derived.Test.YtjmlaeofjjhfmaaGreatP41
import Derived.Test.YtjmlaeofjjhfmaaGreatP25
import Derived.Test.YtjmlaeofjjhfmaaGreatP46
import Derived.Test.YtjmlaeofjjhfmaaGreatP47
import Derived.Test.YtjmlaeofjjhfmaaGreatP42
import Derived.Test.YtjmlaeofjjhfmaaGreatP32
set_option linter.unusedVariables false
set_option linter.unusedSimpArgs false
namespace Go.Proofs.YtjmlaeofjjhfmaaGreat
open Go.RowKit Go.Shelf Go.Maps Go.WideMaps

/-- A new box of the kind of a process, in which nothing is. -/
abbrev z33 : Obj := .cells #[.int .i64 0, .string ⟨#[]⟩, .slice none 0 0, .slice none 0 0, .slice none 0 0] 33
/-- A process in memory from N on, apart from the box k. -/
def Av (N : Nat) (k : Option Nat) (W : World) (cs : List Value) (x : Term) : Prop :=
  ∃ U : World, (∀ b o v, U.cell? ⟨b, o, none⟩ = some v → N ≤ b ∧ k ≠ some b ∧ W.cell? ⟨b, o, none⟩ = some v) ∧ TermAt W.heap.size U cs x
theorem Av.alloc {N : Nat} {W : World} {cs : List Value} {x : Term} {k : Option Nat} (h : Av N k W cs x) (o : Obj) : Av N (some W.heap.size) (W.alloc o) cs x := by
  obtain ⟨U, h1, h2⟩ := h
  refine ⟨U, fun b o' v hv => ?_, TermAt.keep (KeptC.refl _ U) (by simp) _ _ h2⟩
  obtain ⟨a1, _, a3⟩ := h1 b o' v hv
  have hlt := lt_of_cell a3
  exact ⟨a1, fun e => by have := Option.some.inj e; omega, (World.cell?_alloc_past _ _ _ hlt).trans a3⟩
theorem Av.at_ {N : Nat} {W W' : World} {cs : List Value} {x : Term} {k : Option Nat} (h : Av N k W cs x) (hs : W.heap.size ≤ W'.heap.size) (hk : ∀ b, k ≠ some b → b < W.heap.size → W'.heap[b]? = W.heap[b]?) : TermAt W'.heap.size (blank N W') cs x := by
  obtain ⟨U, h1, h2⟩ := h
  refine TermAt.keep (fun b o v _ hv => ?_) hs _ _ h2
  obtain ⟨a1, a2, a3⟩ := h1 b o v hv
  rw [blank_cell, if_neg (by omega)]
  exact (World.cell?_of_block (w := W) (hk b a2 (lt_of_cell a3))).trans a3
theorem Av.lay {N : Nat} {W : World} {cs : List Value} {t : Term} {k : Option Nat} (h : Av N k W cs t) (hN : N ≤ W.heap.size) (hk : ∀ j, k = some j → j < W.heap.size) (hf : Formed (.proc t)) :
    Calls Tryz.prog 108 #[.agg cs.toArray] W fun e w' => ∃ cs', e = .returned (.agg cs'.toArray) ∧ Av N k w' cs' (layT t) ∧ Below W.heap.size W w' := by
  obtain ⟨U, h1, h2⟩ := h
  refine ((lay_all 60).1 t hf.1 hf.1 (formed_fineT hf) W.heap.size U W cs (fun b o v _ hv => (h1 b o v hv).2.2) (Nat.le_refl _) h2).mono ?_
  rintro e w' ⟨cs', rfl, h3, h4⟩
  refine ⟨cs', rfl, ⟨_, fun b o v hv => ?_, h3⟩, h4⟩
  obtain ⟨g1, g2⟩ := (mid_some _ _ _ _ _ _ _).1 hv
  rcases g2 with ⟨g2, g3⟩ | ⟨g2, _, g3⟩
  · obtain ⟨a1, a2, a3⟩ := h1 b o v g3
    exact ⟨a1, a2, (h4.cell (p := ⟨b, o, none⟩) g2).trans a3⟩
  · exact ⟨by omega, fun e => by have := hk b e; omega, g3⟩
/-- A world of the call's own, in which the box k is as it was made. -/
def Sk (W0 : World) (k : Option Nat) (W : World) : Prop := Below W0.heap.size W0 W ∧ ∀ j, k = some j → W0.heap.size ≤ j ∧ Zero33 W j
theorem Sk.mono {W0 W W' : World} {k : Option Nat} (h : Sk W0 k W) (hb : Below W.heap.size W W') : Sk W0 k W' := by
  obtain ⟨h1, h2⟩ := h
  exact ⟨h1.trans (hb.mono h1.size), fun j hj => ⟨(h2 j hj).1, (hb.block j (lt_of_heap (h2 j hj).2)).trans (h2 j hj).2⟩⟩
theorem Sk.alloc {W0 W : World} {k : Option Nat} (h : Sk W0 k W) : Sk W0 (some W.heap.size) (W.alloc z33) :=
  ⟨h.1.alloc h.1.size _, fun j hj => by
    obtain rfl := Option.some.inj hj
    exact ⟨h.1.size, World.alloc_heap_new W _⟩⟩

end Go.Proofs.YtjmlaeofjjhfmaaGreat
/- Layout and Parts, whatever comes in. -/
namespace Go.Proofs.YtjmlaeofjjhfmaaGreat
open Go.RowKit Go.Shelf Go.Maps Go.WideMaps

end Go.Proofs.YtjmlaeofjjhfmaaGreat
/- Canon and Alike, whatever comes in. -/
namespace Go.Proofs.YtjmlaeofjjhfmaaGreat
open Go.RowKit Go.Shelf Go.Maps Go.WideMaps

set_option maxRecDepth 10000 in
set_option maxHeartbeats 1000000 in
theorem canon_work_no (B : Nat) (u : World) (t : Term) (hf : ¬ Formed (.proc t)) (cs : List Value) (hat : TermAt B u cs t) (w : World) (hu : KeptC B u w) (hB : B ≤ w.heap.size) (n0 : Nat) (c0 : CellsAt w n0 0 cs) :
    Calls Tryz.prog 95 #[.pointer (some ⟨n0, 0, none⟩)] w fun e' w' => e' = .panicked (refusal 2) ∧ Below w.heap.size w w' := by
  obtain ⟨o0, tx, s0, m0, k0, s1, m1, k1, s2, m2, k2, rfl⟩ := term_shape hat
  obtain ⟨W0, hW0⟩ : ∃ W0, W0 = w.alloc (.cells #[.int .i64 0, .string ⟨#[]⟩, .slice none 0 0, .slice none 0 0, .slice none 0 0] 33) := ⟨_, rfl⟩
  have hb0 : Below w.heap.size w W0 := by rw [hW0]; exact (Below.refl _ w).alloc (Nat.le_refl _) _
  have hz : W0.heap.size = w.heap.size + 1 := by rw [hW0]; simp
  have hpt : PartAt B u (.iface 83 (.agg #[.int .i64 o0, .string tx, .slice s0 m0 k0, .slice s1 m1 k1, .slice s2 m2 k2])) (.proc t) := ⟨_, rfl, hat⟩
  have hm1 := must_no B u _ _ W0 (hu.trans ((Below.keptC hb0).mono hB)) (by omega) hf hpt
  obtain ⟨a0, a1, a2, a3, a4⟩ := cells5 (c0.below hb0 (lt_of_cell (c0 0 (by simp))))
  rw [hW0] at a0 a1 a2 a3 a4
  have HW := Lib.hid hW0
  clear c0 hat hW0
  go_enter Tryz.func95, Tryz.ntmps95
  go_wp2_with fail
  rw [← HW.out]
  refine hm1.mono ?_
  clear hm1
  rintro e' w1 ⟨rfl, hb1⟩
  exact ⟨rfl, rfl, hb0.trans (hb1.mono (by omega))⟩

set_option maxRecDepth 10000 in
set_option maxHeartbeats 2000000 in
theorem canon_up42 (o0 : Int) (tx : ByteArray) (s0 : Option Addr) (m0 k0 : Nat) (s1 : Option Addr) (m1 k1 : Nat) (s2 : Option Addr) (m2 k2 : Nat) (w : World) (c : Int)
    (hw : ∀ WC : World, Below w.heap.size w WC → CellsAt WC w.heap.size 0 [.int .i64 o0, .string tx, .slice s0 m0 k0, .slice s1 m1 k1, .slice s2 m2 k2] → Calls Tryz.prog 95 #[.pointer (some ⟨w.heap.size, 0, none⟩)] WC fun e' w' => e' = .panicked (refusal c) ∧ Below WC.heap.size WC w') :
    Calls Tryz.prog 42 #[.agg #[.int .i64 o0, .string tx, .slice s0 m0 k0, .slice s1 m1 k1, .slice s2 m2 k2]] w fun e' w' => e' = .returned (.tuple #[.agg #[.int .i64 0, .string ⟨#[]⟩, .slice none 0 0, .slice none 0 0, .slice none 0 0], .int .i64 c]) ∧ Below w.heap.size w w' := by
  obtain ⟨W0, hW0⟩ : ∃ W0, W0 = ((w.alloc (.cells #[.int .i64 o0, .string tx, .slice s0 m0 k0, .slice s1 m1 k1, .slice s2 m2 k2] 33)).alloc (.cells #[.int .i64 0, .string ⟨#[]⟩, .slice none 0 0, .slice none 0 0, .slice none 0 0] 33)) := ⟨_, rfl⟩
  have hb0 : Below w.heap.size w W0 := by rw [hW0]; exact ((Below.refl _ w).alloc (Nat.le_refl _) _).alloc (by simp) _
  have hz : W0.heap.size = w.heap.size + 2 := by rw [hW0]; simp
  have h0 : W0.heap[w.heap.size]? = some (.cells #[.int .i64 o0, .string tx, .slice s0 m0 k0, .slice s1 m1 k1, .slice s2 m2 k2] 33) := by
    rw [hW0, Below.heap_alloc _ _ _ (by simp)]; exact World.alloc_heap_new w _
  have h3 : Zero33 W0 (w.heap.size + 1) := by
    unfold Zero33
    rw [hW0]
    have := World.alloc_heap_new (w.alloc (.cells #[.int .i64 o0, .string tx, .slice s0 m0 k0, .slice s1 m1 k1, .slice s2 m2 k2] 33)) (.cells #[.int .i64 0, .string ⟨#[]⟩, .slice none 0 0, .slice none 0 0, .slice none 0 0] 33); rwa [World.size_alloc] at this
  obtain ⟨WC, hWC⟩ : ∃ WC, WC = (W0.alloc (.cells #[.int .i64 0, .string ⟨#[]⟩, .slice none 0 0, .slice none 0 0, .slice none 0 0] 33)).alloc (.cells #[.int .i64 0] 37) := ⟨_, rfl⟩
  have hbC : Below W0.heap.size W0 WC := by rw [hWC]; exact ((Below.refl _ W0).alloc (Nat.le_refl _) _).alloc (by simp) _
  have hzC : WC.heap.size = W0.heap.size + 2 := by rw [hWC]; simp
  have hbwC := hb0.trans (hbC.mono (by omega))
  have hw := hw WC hbwC
    (fun j hj => by
      have q := (hbC.block w.heap.size (by omega)).trans h0
      match j, hj with
      | 0, _ => simp [World.cell?, q]
      | 1, _ => simp [World.cell?, q]
      | 2, _ => simp [World.cell?, q]
      | 3, _ => simp [World.cell?, q]
      | 4, _ => simp [World.cell?, q])
  have hmf : ∀ (fn : Fn) (first cap : Array Value) (w : World), (Instr.makeFunc fn first cap).run Tryz.prog w = .ok (.func fn first cap) w := fun _ _ _ _ => rfl
  have HW := Lib.hid hW0
  have HZ := Lib.hid hz
  have HZC := Lib.hid hzC
  have ha := attempt_82_up 95 #[.pointer (some ⟨w.heap.size, 0, none⟩)] c W0 (enters_of Tryz.func95 (by kernel_rfl) rfl) (by
    rw [← hWC, ← hzC]
    refine hw.mono ?_
    rintro e' w' ⟨h1, h2⟩
    exact ⟨h1, h2⟩)
  clear hw hWC hW0 hz hzC h0
  go_enter Tryz.func42, Tryz.ntmps42
  go_wp2_with (go_at_call 82; rw [← HW.out]; refine ha.mono ?_; clear ha; rintro e' w1 ⟨rfl, hb1⟩; obtain ⟨x0, x1, x2, x3, x4, xf⟩ := Zero33.cells ((hb1.block (w.heap.size + 1) (by have := HZ.out; omega)).trans h3))
  simp [bodyPost, results, Tryz.results42, go_sem, x0, x1, x2, x3, x4]
  exact set5 (hb0.trans (hb1.mono (by have := HZ.out; omega))) (w.heap.size + 1) (by omega) _ _ _ _ _


def anewOf (t : Term) : Term := match copyT anew0 (freeN 60 (.proc t)) t with
  | some y => y.1
  | none => t
theorem anewOf_facts {t : Term} (h : Formed (.proc t)) : (∃ U, copyT anew0 (freeN 60 (.proc t)) t = some (anewOf t, U)) ∧ Formed (.proc (anewOf t)) ∧ anewOf (anewOf t) = anewOf t ∧
    (∀ k, fT (anewOf t) k = fT t k) ∧ (Part.proc (anewOf t)).size = (Part.proc t).size ∧ (Part.proc (anewOf t)).depth = (Part.proc t).depth := by
  obtain ⟨c, U, h1, h2, h3⟩ := canon_facts h
  have e1 : anewOf t = c := by unfold anewOf; rw [h1]
  have e2 : anewOf c = c := by unfold anewOf; rw [h2]
  rw [e1, e2]
  exact ⟨⟨U, h1⟩, h3.1, rfl, h3.2⟩
/-- What Canon answers. -/
def canCode (t : Term) : Int := if formedB (.proc t) then 0 else 2
def CanAt (t : Term) (cs : List Value) (w : World) : Prop := (canCode t = 0 ∧ formedB (.proc t) = true ∧ TermAt w.heap.size w cs (anewOf t)) ∨ (canCode t ≠ 0 ∧ cs = zero5)
theorem pcanon_ok (t : Term) (hf : Formed (.proc t)) (B : Nat) (u w : World) (cs : List Value) (hu : KeptC B u w) (hB : B ≤ w.heap.size) (hat : TermAt B u cs t) :
    Calls Tryz.prog 42 #[.agg cs.toArray] w fun e' w' => ∃ cs', e' = .returned (.tuple #[.agg cs'.toArray, .int .i64 0]) ∧ TermAt w'.heap.size w' cs' (anewOf t) ∧ Below w.heap.size w w' := by
  obtain ⟨⟨U, h1⟩, _⟩ := anewOf_facts hf
  exact canon_any B u t hf cs hat w hu hB (anewOf t, U) h1 60 (cov0 hf) (bc0 hf)
theorem pcanon_any (t : Term) (B : Nat) (u w : World) (cs : List Value) (hu : KeptC B u w) (hB : B ≤ w.heap.size) (hat : TermAt B u cs t) :
    Calls Tryz.prog 42 #[.agg cs.toArray] w fun e' w' => ∃ cs', e' = .returned (.tuple #[.agg cs'.toArray, .int .i64 (canCode t)]) ∧ Hid (CanAt t cs' w') ∧ Below w.heap.size w w' := by
  cases h1 : formedB (.proc t) with
  | false =>
    obtain ⟨o0, tx, s0, m0, k0, s1, m1, k1, s2, m2, k2, rfl⟩ := term_shape hat
    have hc : canCode t = 2 := by unfold canCode; rw [h1]; rfl
    refine (canon_up42 o0 tx s0 m0 k0 s1 m1 k1 s2 m2 k2 w 2 (fun WC hb a1 => canon_work_no B u t (fun h => by rw [formedB_iff.1 h] at h1; cases h1) _ hat WC (hu.trans ((Below.keptC hb).mono hB)) (by have := hb.size; omega) _ a1)).mono ?_
    rintro e' w' ⟨h1, h2⟩
    rw [hc]
    exact ⟨zero5, h1, Lib.hid (.inr ⟨by rw [hc]; decide, rfl⟩), h2⟩
  | true =>
    have hc : canCode t = 0 := by unfold canCode; rw [h1]; rfl
    refine (pcanon_ok t (formedB_iff.2 h1) B u w cs hu hB hat).mono ?_
    rintro e' w' ⟨cs', h3, h4, h5⟩
    rw [hc]
    exact ⟨cs', h3, Lib.hid (.inl ⟨hc, h1, h4⟩), h5⟩

set_option maxRecDepth 10000 in
set_option maxHeartbeats 4000000 in
theorem alike_yes (t t2 : Term) (hf : Formed (.proc t)) (hf2 : Formed (.proc t2)) (he : anewOf t2 = anewOf t) (B : Nat) (u w : World) (c1 c2 : List Value) (hu : KeptC B u w) (hB : B ≤ w.heap.size) (h1 : TermAt B u c1 t) (h2 : TermAt B u c2 t2) :
    Calls Tryz.prog 39 #[.agg c1.toArray, .agg c2.toArray] w fun e w' => e = .returned (.tuple #[.bool true, .int .i64 0]) ∧ Below w.heap.size w w' := by
  obtain ⟨o0, tx, s0, m0, k0, s1, m1, k1, s2, m2, k2, rfl⟩ := term_shape h1
  obtain ⟨p0, ux, r0, l0, q0, r1, l1, q1, r2, l2, q2, rfl⟩ := term_shape h2
  obtain ⟨W1, hW1⟩ : ∃ W1, W1 = (w.alloc (.cells #[.int .i64 o0, .string tx, .slice s0 m0 k0, .slice s1 m1 k1, .slice s2 m2 k2] 33)).alloc (.cells #[.int .i64 p0, .string ux, .slice r0 l0 q0, .slice r1 l1 q1, .slice r2 l2 q2] 33) := ⟨_, rfl⟩
  have b1 : Below w.heap.size w W1 := by rw [hW1]; exact ((Below.refl _ w).alloc (Nat.le_refl _) _).alloc (by simp) _
  have z1 : W1.heap.size = w.heap.size + 2 := by rw [hW1]; simp
  have hrd : ∀ W, Below W1.heap.size W1 W → (W.cell? ⟨w.heap.size + 1, 0, none⟩ = some (.int .i64 p0) ∧ W.cell? ⟨w.heap.size + 1, 1, none⟩ = some (.string ux) ∧ W.cell? ⟨w.heap.size + 1, 2, none⟩ = some (.slice r0 l0 q0) ∧ W.cell? ⟨w.heap.size + 1, 3, none⟩ = some (.slice r1 l1 q1) ∧ W.cell? ⟨w.heap.size + 1, 4, none⟩ = some (.slice r2 l2 q2)) ∧ KeptC B u W ∧ B ≤ W.heap.size ∧ Below w.heap.size w W := fun W hW => by
    have hb := b1.trans (hW.mono (by omega))
    have q1 : ∀ o, W.cell? ⟨w.heap.size + 1, o, none⟩ = W1.cell? ⟨w.heap.size + 1, o, none⟩ := fun o => hW.cell (p := ⟨w.heap.size + 1, o, none⟩) (by simp; omega)
    refine ⟨?_, hu.trans ((Below.keptC hb).mono hB), by have := hb.size; omega, hb⟩
    rw [q1, q1, q1, q1, q1, hW1]
    simp only [World.cell?_alloc_at _ _ _ _ (show w.heap.size + 1 = (w.alloc (.cells #[.int .i64 o0, .string tx, .slice s0 m0 k0, .slice s1 m1 k1, .slice s2 m2 k2] 33)).heap.size by simp)]
    exact ⟨rfl, rfl, rfl, rfl, rfl⟩
  have r1' := hrd W1 (Below.refl _ _)
  have K1 := pcanon_ok t hf B u W1 _ r1'.2.1 r1'.2.2.1 h1
  have K2 := fun W h1' h2' => pcanon_ok t2 hf2 B u W _ h1' h2' h2
  rw [he] at K2
  obtain ⟨c, hc⟩ : ∃ c, c = anewOf t := ⟨_, rfl⟩
  rw [← hc] at K1 K2
  have HW := Lib.hid hW1; have HRD := Lib.hid hrd; have HK2 := Lib.hid K2; have HZ1 := Lib.hid z1
  clear hW1 hrd K2 z1 b1 r1' h1 h2 hc he hf hf2
  go_enter Tryz.func39, Tryz.ntmps39
  go_wp2_with fail
  rw [← HW.out]
  refine K1.mono ?_
  clear K1
  rintro e' w1 ⟨cs1, rfl, hx, k1'⟩
  obtain ⟨x0, x1, x2, x3, x4, x5, x6, x7, x8, x9, xA, rfl⟩ := term_shape hx
  obtain ⟨W2, hW2⟩ : ∃ W2, W2 = w1.alloc (.cells #[.int .i64 x0, .string x1, .slice x2 x3 x4, .slice x5 x6 x7, .slice x8 x9 xA] 33) := ⟨_, rfl⟩
  have z2 : W2.heap.size = w1.heap.size + 1 := by rw [hW2]; simp
  have b2 : Below w1.heap.size w1 W2 := by rw [hW2]; exact (Below.refl _ w1).alloc (Nat.le_refl _) _
  have hxb : ∀ W, Below W2.heap.size W2 W → (W.cell? ⟨w1.heap.size, 0, none⟩ = some (.int .i64 x0) ∧ W.cell? ⟨w1.heap.size, 1, none⟩ = some (.string x1) ∧ W.cell? ⟨w1.heap.size, 2, none⟩ = some (.slice x2 x3 x4) ∧ W.cell? ⟨w1.heap.size, 3, none⟩ = some (.slice x5 x6 x7) ∧ W.cell? ⟨w1.heap.size, 4, none⟩ = some (.slice x8 x9 xA)) ∧ KeptC w1.heap.size w1 W ∧ w1.heap.size ≤ W.heap.size ∧ Below W1.heap.size W1 W := fun W hW => by
    have q : ∀ o, W.cell? ⟨w1.heap.size, o, none⟩ = W2.cell? ⟨w1.heap.size, o, none⟩ := fun o => hW.cell (p := ⟨w1.heap.size, o, none⟩) (by simp; omega)
    have hb := b2.trans (hW.mono (by omega))
    refine ⟨?_, Below.keptC hb, hb.size, k1'.trans (hb.mono k1'.size)⟩
    rw [q, q, q, q, q, hW2]
    simp only [World.cell?_alloc_at _ _ _ _ rfl]
    exact ⟨rfl, rfl, rfl, rfl, rfl⟩
  have g2 := hxb W2 (Below.refl _ _)
  obtain ⟨⟨v0, v1, v2, v3, v4⟩, ku, kz, _⟩ := HRD.out W2 g2.2.2.2
  have K2 := HK2.out W2 ku kz
  have HW2 := Lib.hid hW2; have HXB := Lib.hid hxb; have HX := Lib.hid hx; have HZ2 := Lib.hid z2
  rw [HW2.out] at v0 v1 v2 v3 v4
  clear hW2 hxb hx z2 g2 ku kz b2 k1' HK2
  go_wp2_with fail
  rw [← HW2.out]
  refine K2.mono ?_
  clear K2 v0 v1 v2 v3 v4
  rintro e' w2 ⟨cs2, rfl, hy, k2'⟩
  obtain ⟨y0, y1, y2, y3, y4, y5, y6, y7, y8, y9, yA, rfl⟩ := term_shape hy
  obtain ⟨W3, hW3⟩ : ∃ W3, W3 = w2.alloc (.cells #[.int .i64 y0, .string y1, .slice y2 y3 y4, .slice y5 y6 y7, .slice y8 y9 yA] 33) := ⟨_, rfl⟩
  have z3 : W3.heap.size = w2.heap.size + 1 := by rw [hW3]; simp
  have b3 : Below w2.heap.size w2 W3 := by rw [hW3]; exact (Below.refl _ w2).alloc (Nat.le_refl _) _
  have hcy : W3.cell? ⟨w2.heap.size, 0, none⟩ = some (.int .i64 y0) ∧ W3.cell? ⟨w2.heap.size, 1, none⟩ = some (.string y1) ∧ W3.cell? ⟨w2.heap.size, 2, none⟩ = some (.slice y2 y3 y4) ∧ W3.cell? ⟨w2.heap.size, 3, none⟩ = some (.slice y5 y6 y7) ∧ W3.cell? ⟨w2.heap.size, 4, none⟩ = some (.slice y8 y9 yA) := by
    rw [hW3]
    simp only [World.cell?_alloc_at _ _ _ _ rfl]
    exact ⟨rfl, rfl, rfl, rfl, rfl⟩
  have k23 := k2'.trans (b3.mono k2'.size)
  obtain ⟨⟨u0, u1, u2, u3, u4⟩, kx, kxz, kb⟩ := HXB.out W3 k23
  obtain ⟨v0, v1, v2, v3, v4⟩ := hcy
  have hcall := eq_any c W3.heap.size W3 W3 _ _ (KeptC.refl _ _) (Nat.le_refl _) (TermAt.keep kx kxz _ _ HX.out) (TermAt.keep (Below.keptC b3) b3.size _ _ hy)
  have HKB := Lib.hid (HRD.out W3 kb).2.2.2
  have HW3 := Lib.hid hW3
  rw [HW3.out] at u0 u1 u2 u3 u4 v0 v1 v2 v3 v4
  clear hW3 z3 b3 k23 kx kxz kb hy k2'
  go_wp2_with fail
  rw [← HW3.out]
  refine hcall.mono ?_
  clear hcall u0 u1 u2 u3 u4 v0 v1 v2 v3 v4
  rintro e' w3 ⟨rfl, k3⟩
  go_wp2
  go_ret2
  exact ⟨rfl, HKB.out.trans (k3.mono HKB.out.size)⟩

end Go.Proofs.YtjmlaeofjjhfmaaGreat
/- What the tenth row of the layer's laws does, by contracts. -/
namespace Go.Proofs.YtjmlaeofjjhfmaaGreat
open Go.RowKit Go.Shelf Go.Maps

theorem canon_frees {t c : Term} (h3 : Formed (.proc t)) (h4 : Formed (.proc c)) (hk : ∀ k, fT c k = fT t k) : ∃ E, IsFrees (.proc t) E ∧ IsFrees (.proc c) E := by
  obtain ⟨E, h1, h2⟩ := frees_ex (.proc t)
  refine ⟨E, ⟨h1, h2⟩, h1, fun k => ?_⟩
  rw [h2 k, freeN_fP 60 _ h3.1, freeN_fP 60 _ h4.1]
  show fT t k = true ↔ fT c k = true
  rw [hk k]
theorem canon_again (c : Term) (hf : Formed (.proc c)) (he : anewOf c = c) (B : Nat) (u w : World) (cs : List Value) (hu : KeptC B u w) (hB : B ≤ w.heap.size) (hat : TermAt B u cs c) :
    Calls Tryz.prog 42 #[.agg cs.toArray] w fun e' w' => ∃ (p0 : Int) (ux : ByteArray) (r0 : Option Addr) (l0 q0 : Nat) (r1 : Option Addr) (l1 q1 : Nat) (r2 : Option Addr) (l2 q2 : Nat), e' = .returned (.tuple #[.agg #[.int .i64 p0, .string ux, .slice r0 l0 q0, .slice r1 l1 q1, .slice r2 l2 q2], .int .i64 0]) ∧ Hid (TermAt w'.heap.size w' [.int .i64 p0, .string ux, .slice r0 l0 q0, .slice r1 l1 q1, .slice r2 l2 q2] c) ∧ Below w.heap.size w w' := by
  refine (pcanon_ok c hf B u w cs hu hB hat).mono ?_
  rintro e' w' ⟨cs', rfl, h1, h2⟩
  rw [he] at h1
  obtain ⟨p0, ux, r0, l0, q0, r1, l1, q1, r2, l2, q2, rfl⟩ := term_shape h1
  exact ⟨p0, ux, r0, l0, q0, r1, l1, q1, r2, l2, q2, rfl, Lib.hid h1, h2⟩
set_option maxRecDepth 10000 in
set_option maxHeartbeats 4000000 in
theorem row10_any (cs : List Value) (t : Term) (w : World) (ht : TermAt w.heap.size w cs t) :
    Calls Tryz.prog 10 #[.agg cs.toArray] w fun e w' => e = .returned (.bool true) ∧ Below w.heap.size w w' := by
  have J14 : ∀ W, Calls Tryz.prog 14 #[] W fun e w' => e = .returned (.bool true) ∧ Below W.heap.size W w' := known_any
  obtain ⟨o0, tx, s0, m0, k0, s1, m1, k1, s2, m2, k2, rfl⟩ := term_shape ht
  obtain ⟨W1, hW1⟩ : ∃ W1, W1 = w.alloc (.cells #[.int .i64 o0, .string tx, .slice s0 m0 k0, .slice s1 m1 k1, .slice s2 m2 k2] 33) := ⟨_, rfl⟩
  have z1 : W1.heap.size = w.heap.size + 1 := by rw [hW1]; simp
  have b1 : Below w.heap.size w W1 := by rw [hW1]; exact (Below.refl _ w).alloc (Nat.le_refl _) _
  have hGB : ∀ W, Below W1.heap.size W1 W → KeptC w.heap.size w W ∧ w.heap.size ≤ W.heap.size ∧ Below w.heap.size w W := fun W h => by
    have hb := b1.trans (h.mono (by omega))
    exact ⟨Below.keptC hb, hb.size, hb⟩
  have hrd : ∀ W, Below W1.heap.size W1 W → W.cell? ⟨w.heap.size, 0, none⟩ = some (.int .i64 o0) ∧ W.cell? ⟨w.heap.size, 1, none⟩ = some (.string tx) ∧ W.cell? ⟨w.heap.size, 2, none⟩ = some (.slice s0 m0 k0) ∧ W.cell? ⟨w.heap.size, 3, none⟩ = some (.slice s1 m1 k1) ∧ W.cell? ⟨w.heap.size, 4, none⟩ = some (.slice s2 m2 k2) := fun W hW => by
    have q1 : ∀ o, W.cell? ⟨w.heap.size, o, none⟩ = W1.cell? ⟨w.heap.size, o, none⟩ := fun o => hW.cell (p := ⟨w.heap.size, o, none⟩) (by simp; omega)
    rw [q1, q1, q1, q1, q1, hW1]
    simp only [World.cell?_alloc_at _ _ _ _ rfl]
    exact ⟨rfl, rfl, rfl, rfl, rfl⟩
  have g0 : Below W1.heap.size W1 W1 := Below.refl _ _
  have K42 := pcanon_any t w.heap.size w W1 _ (hGB _ g0).1 (hGB _ g0).2.1 ht
  obtain ⟨x0, x1, x2, x3, x4⟩ := hrd _ g0
  have HW := Lib.hid hW1
  rw [HW.out] at x0 x1 x2 x3 x4
  obtain ⟨cd, hc⟩ : ∃ c, c = canCode t := ⟨_, rfl⟩
  rw [← hc] at K42
  have HC := Lib.hid hc
  have HGB := Lib.hid hGB; have HRD := Lib.hid hrd; have HJ14 := Lib.hid J14; have HT := Lib.hid ht; have HZ1 := Lib.hid z1
  clear hW1 hc hGB hrd J14 ht z1
  go_enter Tryz.func10, Tryz.ntmps10
  go_wp2_with fail
  rw [← HW.out]
  refine K42.mono ?_
  clear K42
  rintro e' w1 ⟨cs', rfl, hP, k1⟩
  rcases hP.out with ⟨hc0, hf0, hty⟩ | ⟨hc0, rfl⟩
  · have hc1 : cd = 0 := by rw [HC.out]; exact hc0
    subst hc1
    have hf := formedB_iff.2 hf0
    obtain ⟨_, hfl, hself, hfr, hsz, hdp⟩ := anewOf_facts hf
    have hself0 : anewOf (anewOf t) = anewOf t := hself
    obtain ⟨c, hcc⟩ : ∃ c, c = anewOf t := ⟨_, rfl⟩
    have HCC := Lib.hid hcc
    rw [← hcc] at hty hfl hself hfr hsz hdp
    clear hcc hf0 hself0
    obtain ⟨p0, ux, r0, l0, q0, r1, l1, q1, r2, l2, q2, rfl⟩ := term_shape hty
    obtain ⟨W2, hW2⟩ : ∃ W2, W2 = w1.alloc (.cells #[.int .i64 p0, .string ux, .slice r0 l0 q0, .slice r1 l1 q1, .slice r2 l2 q2] 33) := ⟨_, rfl⟩
    have z2 : W2.heap.size = w1.heap.size + 1 := by rw [hW2]; simp
    have b2 : Below w1.heap.size w1 W2 := by rw [hW2]; exact (Below.refl _ w1).alloc (Nat.le_refl _) _
    have hru : ∀ W, Below W2.heap.size W2 W → (W.cell? ⟨w1.heap.size, 0, none⟩ = some (.int .i64 p0) ∧ W.cell? ⟨w1.heap.size, 1, none⟩ = some (.string ux) ∧ W.cell? ⟨w1.heap.size, 2, none⟩ = some (.slice r0 l0 q0) ∧ W.cell? ⟨w1.heap.size, 3, none⟩ = some (.slice r1 l1 q1) ∧ W.cell? ⟨w1.heap.size, 4, none⟩ = some (.slice r2 l2 q2)) ∧ KeptC w1.heap.size w1 W ∧ w1.heap.size ≤ W.heap.size ∧ Below W1.heap.size W1 W := fun W hW => by
      have q : ∀ o, W.cell? ⟨w1.heap.size, o, none⟩ = W2.cell? ⟨w1.heap.size, o, none⟩ := fun o => hW.cell (p := ⟨w1.heap.size, o, none⟩) (by simp; omega)
      have hb := b2.trans (hW.mono (by omega))
      refine ⟨?_, Below.keptC hb, hb.size, k1.trans (hb.mono k1.size)⟩
      rw [q, q, q, q, q, hW2]
      simp only [World.cell?_alloc_at _ _ _ _ rfl]
      exact ⟨rfl, rfl, rfl, rfl, rfl⟩
    have g2 : Below W2.heap.size W2 W2 := Below.refl _ _
    obtain ⟨⟨v0, v1, v2, v3, v4⟩, ku, kz, k2⟩ := hru W2 g2
    have K42 := canon_again c hfl hself w1.heap.size w1 W2 _ ku kz hty
    have HW2 := Lib.hid hW2
    rw [HW2.out] at v0 v1 v2 v3 v4
    have HRU := Lib.hid hru; have HTY := Lib.hid hty; have HFF := Lib.hid (And.intro hf (And.intro hfl (And.intro hself (And.intro hfr (And.intro hsz hdp))))); have HZ2 := Lib.hid z2
    clear hW2 hru hP hty hf hfl hself hfr hsz hdp HC hc0 z2 ku kz
    go_wp2_with fail
    rw [← HW2.out]
    refine K42.mono ?_
    clear K42
    rintro e' w2 ⟨p0', ux', r0', l0', q0', r1', l1', q1', r2', l2', q2', rfl, hty2, k3⟩
    have k3' : Below W2.heap.size W2 w2 := k3
    obtain ⟨W3, hW3⟩ : ∃ W3, W3 = w2.alloc (.cells #[.int .i64 p0', .string ux', .slice r0' l0' q0', .slice r1' l1' q1', .slice r2' l2' q2'] 33) := ⟨_, rfl⟩
    have z3 : W3.heap.size = w2.heap.size + 1 := by rw [hW3]; simp
    have b3 : Below w2.heap.size w2 W3 := by rw [hW3]; exact (Below.refl _ w2).alloc (Nat.le_refl _) _
    have hrv : ∀ W, Below W3.heap.size W3 W → (W.cell? ⟨w2.heap.size, 0, none⟩ = some (.int .i64 p0') ∧ W.cell? ⟨w2.heap.size, 1, none⟩ = some (.string ux') ∧ W.cell? ⟨w2.heap.size, 2, none⟩ = some (.slice r0' l0' q0') ∧ W.cell? ⟨w2.heap.size, 3, none⟩ = some (.slice r1' l1' q1') ∧ W.cell? ⟨w2.heap.size, 4, none⟩ = some (.slice r2' l2' q2')) ∧ KeptC w2.heap.size w2 W ∧ w2.heap.size ≤ W.heap.size ∧ Below W2.heap.size W2 W := fun W hW => by
      have q : ∀ o, W.cell? ⟨w2.heap.size, o, none⟩ = W3.cell? ⟨w2.heap.size, o, none⟩ := fun o => hW.cell (p := ⟨w2.heap.size, o, none⟩) (by simp; omega)
      have hb := b3.trans (hW.mono (by omega))
      refine ⟨?_, Below.keptC hb, hb.size, k3'.trans (hb.mono k3'.size)⟩
      rw [q, q, q, q, q, hW3]
      simp only [World.cell?_alloc_at _ _ _ _ rfl]
      exact ⟨rfl, rfl, rfl, rfl, rfl⟩
    have g3 : Below W3.heap.size W3 W3 := Below.refl _ _
    have HW3 := Lib.hid hW3
    have HRV := Lib.hid hrv
    have HALL : Hid (∀ W, Below W3.heap.size W3 W → (W.cell? ⟨w.heap.size, 0, none⟩ = some (.int .i64 o0) ∧ W.cell? ⟨w.heap.size, 1, none⟩ = some (.string tx) ∧ W.cell? ⟨w.heap.size, 2, none⟩ = some (.slice s0 m0 k0) ∧ W.cell? ⟨w.heap.size, 3, none⟩ = some (.slice s1 m1 _) ∧ W.cell? ⟨w.heap.size, 4, none⟩ = some (.slice s2 m2 _)) ∧
        (W.cell? ⟨w1.heap.size, 0, none⟩ = some (.int .i64 p0) ∧ W.cell? ⟨w1.heap.size, 1, none⟩ = some (.string ux) ∧ W.cell? ⟨w1.heap.size, 2, none⟩ = some (.slice r0 l0 q0) ∧ W.cell? ⟨w1.heap.size, 3, none⟩ = some (.slice r1 l1 q1) ∧ W.cell? ⟨w1.heap.size, 4, none⟩ = some (.slice r2 l2 q2)) ∧
        (W.cell? ⟨w2.heap.size, 0, none⟩ = some (.int .i64 p0') ∧ W.cell? ⟨w2.heap.size, 1, none⟩ = some (.string ux') ∧ W.cell? ⟨w2.heap.size, 2, none⟩ = some (.slice r0' l0' q0') ∧ W.cell? ⟨w2.heap.size, 3, none⟩ = some (.slice r1' l1' q1') ∧ W.cell? ⟨w2.heap.size, 4, none⟩ = some (.slice r2' l2' q2')) ∧
        (KeptC w.heap.size w W ∧ w.heap.size ≤ W.heap.size) ∧ (KeptC w1.heap.size w1 W ∧ w1.heap.size ≤ W.heap.size) ∧ (KeptC w2.heap.size w2 W ∧ w2.heap.size ≤ W.heap.size) ∧ Below w.heap.size w W) := Lib.hid (fun W hW => by
      obtain ⟨a1, a2, a3, a4⟩ := HRV.out W hW
      obtain ⟨c1, c2, c3, c4⟩ := HRU.out W a4
      have d1 := HRD.out W c4
      obtain ⟨e1, e2, e3⟩ := HGB.out W c4
      exact ⟨d1, c1, a1, ⟨e1, e2⟩, ⟨c2, c3⟩, ⟨a2, a3⟩, e3⟩)
    obtain ⟨E, hE1, hE2⟩ := canon_frees HFF.out.1 HFF.out.2.1 HFF.out.2.2.2.1
    obtain ⟨L, hL⟩ : ∃ L, L = (E.mergeSort leB).map mkB := ⟨_, rfl⟩
    have K1 := fun W hW hB => api_29 w.heap.size w t _ W hW hB HFF.out.1 HT.out E hE1
    have K2 := fun W hW hB => api_29 w1.heap.size w1 c _ W hW hB HFF.out.2.1 HTY.out E hE2
    rw [← hL] at K1 K2
    have K3 := fun W hW hB => api_23 w.heap.size w t _ W hW hB HFF.out.1 HT.out
    have K4 := fun W hW hB => api_23 w1.heap.size w1 c _ W hW hB HFF.out.2.1 HTY.out
    have K5 := fun W hW hB => api_24 w.heap.size w t _ W hW hB HFF.out.1 HT.out
    have K6 := fun W hW hB => api_24 w1.heap.size w1 c _ W hW hB HFF.out.2.1 HTY.out
    rw [HFF.out.2.2.2.2.1] at K4
    rw [HFF.out.2.2.2.2.2] at K6
    obtain ⟨n1, hn1⟩ : ∃ n : Int, n = ((Part.proc t).size : Int) := ⟨_, rfl⟩
    obtain ⟨n2, hn2⟩ : ∃ n : Int, n = ((Part.proc t).depth : Int) := ⟨_, rfl⟩
    rw [← hn1] at K3 K4
    rw [← hn2] at K5 K6
    have HK1 := Lib.hid K1; have HK2 := Lib.hid K2; have HK3 := Lib.hid K3; have HK4 := Lib.hid K4; have HK5 := Lib.hid K5; have HK6 := Lib.hid K6; have HZ3 := Lib.hid z3
    obtain ⟨⟨y0, y1, y2, y3, y4⟩, ⟨v0, v1, v2, v3, v4⟩, ⟨m0', m1', m2', m3', m4'⟩, hu0, hu1, hu2, _⟩ := HALL.out W3 g3
    have hut := TermAt.keep hu0.1 hu0.2 _ _ HT.out
    have hvt := TermAt.keep hu1.1 hu1.2 _ _ HTY.out
    have H39 := alike_yes t c HFF.out.1 HFF.out.2.1 (by rw [HFF.out.2.2.1]; exact HCC.out) W3.heap.size W3 _ _ _ (KeptC.refl _ _) (Nat.le_refl _) hut hvt
    rw [HW3.out] at y0 y1 y2 y3 y4 v0 v1 v2 v3 v4 m0' m1' m2' m3' m4'
    clear hW3 hrv K1 K2 K3 K4 K5 K6 hE1 hE2 hL hn1 hn2 z3 b3 k3' hut hvt hu0 hu1 hu2 x0 x1 x2 x3 x4
    go_wp2_with fail
    rw [← HW3.out]
    refine H39.mono ?_
    clear H39 y0 y1 y2 y3 y4 v0 v1 v2 v3 v4 m0' m1' m2' m3' m4'
    rintro e' w4 ⟨rfl, k4⟩
    obtain ⟨_, ⟨v0, v1, v2, v3, v4⟩, ⟨m0', m1', m2', m3', m4'⟩, _, hu1, hu2, _⟩ := HALL.out w4 k4
    have hut := TermAt.keep hu1.1 hu1.2 _ _ HTY.out
    have hvt := TermAt.keep hu2.1 hu2.2 _ _ hty2.out
    have H34 := same_any c w4.heap.size w4 w4 _ _ (KeptC.refl _ _) (Nat.le_refl _) hut hvt
    clear hut hvt hu1 hu2
    go_wp2_with fail
    refine H34.mono ?_
    clear H34 v0 v1 v2 v3 v4 m0' m1' m2' m3' m4'
    rintro e' w5 ⟨rfl, k5'⟩
    have k5 := k4.trans (k5'.mono k4.size)
    clear k5'
    obtain ⟨⟨y0, y1, y2, y3, y4⟩, _, _, hu0, _, _, _⟩ := HALL.out w5 k5
    go_wp2_with fail
    refine (HK1.out w5 hu0.1 hu0.2).mono ?_
    clear y0 y1 y2 y3 y4 hu0
    rintro e' w6 ⟨vl, rfl, sl, k6'⟩
    have k6 := k5.trans (k6'.mono k5.size)
    have SL := Lib.hid sl
    clear k6' sl
    obtain ⟨_, ⟨v0, v1, v2, v3, v4⟩, _, _, hu1, _, _⟩ := HALL.out w6 k6
    go_wp2_with fail
    refine (HK2.out w6 hu1.1 hu1.2).mono ?_
    clear v0 v1 v2 v3 v4 hu1
    rintro e' w7 ⟨vm, rfl, sm, k7'⟩
    have k7 := k6.trans (k7'.mono k6.size)
    have SM := Lib.hid (And.intro (SL.out.later k7') sm)
    clear k7' sm SL
    obtain ⟨⟨y0, y1, y2, y3, y4⟩, _, _, hu0, _, _, _⟩ := HALL.out w7 k7
    go_wp2_with fail
    refine (HK3.out w7 hu0.1 hu0.2).mono ?_
    clear y0 y1 y2 y3 y4 hu0
    rintro e' w8 ⟨rfl, k8'⟩
    have k8 := k7.trans (k8'.mono k7.size)
    have S8 := Lib.hid (And.intro (SM.out.1.later k8') (SM.out.2.later k8'))
    clear k8' SM
    obtain ⟨_, ⟨v0, v1, v2, v3, v4⟩, _, _, hu1, _, _⟩ := HALL.out w8 k8
    go_wp2_with fail
    refine (HK4.out w8 hu1.1 hu1.2).mono ?_
    clear v0 v1 v2 v3 v4 hu1
    rintro e' w9 ⟨rfl, k9'⟩
    have k9 := k8.trans (k9'.mono k8.size)
    have S9 := Lib.hid (And.intro (S8.out.1.later k9') (S8.out.2.later k9'))
    clear k9' S8
    obtain ⟨⟨y0, y1, y2, y3, y4⟩, _, _, hu0, _, _, _⟩ := HALL.out w9 k9
    go_wp2_with fail
    refine (HK5.out w9 hu0.1 hu0.2).mono ?_
    clear y0 y1 y2 y3 y4 hu0
    rintro e' wA ⟨rfl, kA'⟩
    have kA := k9.trans (kA'.mono k9.size)
    have SA := Lib.hid (And.intro (S9.out.1.later kA') (S9.out.2.later kA'))
    clear kA' S9
    obtain ⟨_, ⟨v0, v1, v2, v3, v4⟩, _, _, hu1, _, _⟩ := HALL.out wA kA
    go_wp2_with fail
    refine (HK6.out wA hu1.1 hu1.2).mono ?_
    clear v0 v1 v2 v3 v4 hu1
    rintro e' wB ⟨rfl, kB'⟩
    have kB := kA.trans (kB'.mono kA.size)
    have J31 := same_names wB.heap.size vl vm L L wB (Nat.le_refl _) (SA.out.1.later kB') (SA.out.2.later kB')
    rw [sameNames_refl] at J31
    clear kB' SA
    go_wp2_with fail
    refine J31.mono ?_
    clear J31
    rintro e' wC ⟨rfl, kC'⟩
    have kC := kB.trans (kC'.mono kB.size)
    clear kC'
    have hend := (HALL.out wC kC).2.2.2.2.2.2
    go_wp2_with (go_at_call 14; refine (HJ14.out _).mono ?_; rintro e' wD ⟨rfl, kD⟩)
    go_ret
    exact ⟨rfl, hend.trans (kD.mono hend.size)⟩
  · have hc1 : cd ≠ 0 := by rw [HC.out]; exact hc0
    clear hP HC hc0
    unfold zero5
    have H35 := none_zero (w1.alloc (.cells #[.int .i64 0, .string ⟨#[]⟩, .slice none 0 0, .slice none 0 0, .slice none 0 0] 33))
    unfold zero5 at H35
    have hba : Below w1.heap.size w1 (w1.alloc (.cells #[.int .i64 0, .string ⟨#[]⟩, .slice none 0 0, .slice none 0 0, .slice none 0 0] 33)) := (Below.refl _ w1).alloc (Nat.le_refl _) _
    have hza : (w1.alloc (.cells #[.int .i64 0, .string ⟨#[]⟩, .slice none 0 0, .slice none 0 0, .slice none 0 0] 33)).heap.size = w1.heap.size + 1 := by simp
    have HZA := Lib.hid hza; clear hza
    go_wp2_with (first
      | (go_at_call 35; refine H35.mono ?_; clear H35; rintro e' w2 ⟨rfl, k2⟩)
      | (go_at_call 14; refine (HJ14.out _).mono ?_; rintro e' w3 ⟨rfl, k3⟩))
    go_ret
    have hz := HZA.out
    have hz1 := HZ1.out
    exact ⟨rfl, b1.trans ((k1.trans ((hba.trans ((k2.trans (k3.mono k2.size)).mono (by omega))).mono k1.size)).mono (by omega))⟩

end Go.Proofs.YtjmlaeofjjhfmaaGreat
