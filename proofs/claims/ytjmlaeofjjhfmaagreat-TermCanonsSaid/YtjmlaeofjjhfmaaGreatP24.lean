/- Copies of whatever formed process; the scopes from which they start. -/
import Derived.Test.YtjmlaeofjjhfmaaGreatP23
set_option linter.unusedVariables false
set_option linter.unusedSimpArgs false
namespace Go.Proofs.YtjmlaeofjjhfmaaGreat
open Go.RowKit Go.Shelf Go.Maps Go.WideMaps

theorem size_pos (p : Part) : 1 ≤ p.size := by rw [Part.size, nodesOf_eq]; simp
theorem copies_all {B : Nat} {u : World} {m : Option Nat} {b : Base} (hBm : ∀ r, m = some r → B ≤ r) (hmb : m = none → b = .outside) : ∀ s, s ≤ 60 → TermCopies B u m b s ∧ ClauseCopies B u m b s := by
  intro s
  induction s with
  | zero =>
    intro _
    refine ⟨fun t ht => ?_, fun t ht => ?_⟩
    · have := size_pos (.proc t); omega
    · have := size_pos (.def_ t); omega
  | succ s ih =>
    intro hs
    obtain ⟨h1, h2⟩ := ih (by omega)
    exact ⟨term_step hBm hmb s hs h1 h2, clause_step hBm hmb s hs h1 h2⟩
theorem formed_fine {p : Part} (h : Formed p) : Fine p := by
  intro q hq
  rw [nodesOf_fst 0 1] at hq
  obtain ⟨y, hy, rfl⟩ := List.mem_map.1 hq
  exact (h.2 y hy).1

def frame0 : Frame := fun _ => none
/-- The copy of a formed process in a scope that has no frame but the empty one. -/
theorem copy_start {B : Nat} {u : World} {m : Option Nat} {b : Base} (hBm : ∀ r, m = some r → B ≤ r) (hmb : m = none → b = .outside) (t : Term) (hf : Formed (.proc t)) (av : Value) (w : World) (hav : BaseAt B u m b av) (hu : KeptC B u w) (hB : B ≤ w.heap.size)
    (U : Used) (r : Nat) (cs : List Value) (hat : TermAt B u cs t) (hbud : Bud m (bcT t + r) U w) :
    Calls Tryz.prog 87 #[.agg #[av, .map none], .agg cs.toArray] w fun e w' => OutE (copyT ⟨b, [frame0]⟩ U t) e (w.grownBy w' m) fun y => ∃ cs', e = .returned (.agg cs'.toArray) ∧ TermAt w'.heap.size (blank w.heap.size w') cs' y.1 ∧ Bud m r y.2 w' ∧ w.grownBy w' m :=
  (copies_all hBm hmb 60 (Nat.le_refl _)).1 t hf.1 hf.allSmall hf.allBind (formed_fine hf) frame0 [] av (.map none) U r cs w (by simp) hat
    ⟨hu, hB, av, .map none, rfl, .inl ⟨rfl, fun _ => rfl⟩, hav⟩ hbud
/-- A scope that chooses nothing: where everything is copied as it is. -/
theorem bud_none (r : Nat) (hr : r ≤ 4000) (w : World) : Bud none r (fun _ => false) w := ⟨⟨0, by omega, fun b hb => by cases hb⟩, 0, by omega, [], fun k hk => (by cases hk), by simp⟩

end Go.Proofs.YtjmlaeofjjhfmaaGreat
/- attempt at a process that is given up; Put. -/
namespace Go.Proofs.YtjmlaeofjjhfmaaGreat
open Go.RowKit Go.Shelf Go.Maps Go.WideMaps

set_option maxRecDepth 10000 in
set_option maxHeartbeats 2000000 in
/-- attempt at a process, where work gives up. -/
theorem attempt_82_up (K : FuncId) (caps : Array Value) (c : Int) (w : World) (hK : ∀ args w, (callFunc K args).run Tryz.prog w = .ok (.enter K args) w)
    (hw : Calls Tryz.prog K caps ((w.alloc (.cells #[.int .i64 0, .string ⟨#[]⟩, .slice none 0 0, .slice none 0 0, .slice none 0 0] 33)).alloc (.cells #[.int .i64 0] 37)) fun e w' => e = .panicked (refusal c) ∧ Below (w.heap.size + 2) ((w.alloc (.cells #[.int .i64 0, .string ⟨#[]⟩, .slice none 0 0, .slice none 0 0, .slice none 0 0] 33)).alloc (.cells #[.int .i64 0] 37)) w') :
    Calls Tryz.prog 82 #[.func (.func K) #[] caps] w fun e w' => e = .returned (.tuple #[.agg #[.int .i64 0, .string ⟨#[]⟩, .slice none 0 0, .slice none 0 0, .slice none 0 0], .int .i64 c]) ∧ Below w.heap.size w w' := by
  have hmf : ∀ (fn : Fn) (first cap : Array Value) (w : World), (Instr.makeFunc fn first cap).run Tryz.prog w = .ok (.func fn first cap) w := fun _ _ _ _ => rfl
  go_enter_defers Tryz.func82, Tryz.ntmps82
  go_wp2_with fail
  refine hw.mono ?_
  rintro e w1 ⟨rfl, hb⟩
  have hbk := hb.block w.heap.size (by omega)
  have hbk2 := hb.block (w.heap.size + 1) (by omega)
  have e1 : ((w.alloc (.cells #[.int .i64 0, .string ⟨#[]⟩, .slice none 0 0, .slice none 0 0, .slice none 0 0] 33)).alloc (.cells #[.int .i64 0] 37)).heap[w.heap.size]? = some (.cells #[.int .i64 0, .string ⟨#[]⟩, .slice none 0 0, .slice none 0 0, .slice none 0 0] 33) := by
    rw [Below.heap_alloc _ _ _ (by simp)]; exact World.alloc_heap_new w _
  have e2 : ((w.alloc (.cells #[.int .i64 0, .string ⟨#[]⟩, .slice none 0 0, .slice none 0 0, .slice none 0 0] 33)).alloc (.cells #[.int .i64 0] 37)).heap[w.heap.size + 1]? = some (.cells #[.int .i64 0] 37) := by
    have := World.alloc_heap_new (w.alloc (.cells #[.int .i64 0, .string ⟨#[]⟩, .slice none 0 0, .slice none 0 0, .slice none 0 0] 33)) (.cells #[.int .i64 0] 37); rwa [World.size_alloc] at this
  rw [e1] at hbk; rw [e2] at hbk2
  have k0 : w1.cell? ⟨w.heap.size, 0, none⟩ = some (.int .i64 0) := by simp [World.cell?, hbk]
  have k1 : w1.cell? ⟨w.heap.size, 1, none⟩ = some (.string ⟨#[]⟩) := by simp [World.cell?, hbk]
  have k2 : w1.cell? ⟨w.heap.size, 2, none⟩ = some (.slice none 0 0) := by simp [World.cell?, hbk]
  have k3 : w1.cell? ⟨w.heap.size, 3, none⟩ = some (.slice none 0 0) := by simp [World.cell?, hbk]
  have k4 : w1.cell? ⟨w.heap.size, 4, none⟩ = some (.slice none 0 0) := by simp [World.cell?, hbk]
  have k5 : w1.cell? ⟨w.heap.size + 1, 0, none⟩ = some (.int .i64 0) := by simp [World.cell?, hbk2]
  have kf5 : w1.frozen? ⟨w.heap.size + 1, 0, none⟩ = false := by simp [World.frozen?, hbk2]
  have hBw : Below w.heap.size w w1 := (((Below.refl _ w).alloc (Nat.le_refl _) _).alloc (by simp) _).trans (hb.mono (by omega))
  clear hbk hbk2 e1 e2
  have HB := Lib.hid hb; clear hb
  go_wp2
  refine leaves_cons (f := 136) (args := #[.pointer (some ⟨w.heap.size + 1, 0, none⟩)]) (by simp) (by simp [go_sem]) ?_
  refine (catch_136 _ _ c [] _ k5 rfl kf5).mono ?_
  rintro e u' w'' ⟨rfl, rfl, rfl⟩
  simp [Leaves, settle, results, Tryz.results82, go_sem, k0, k1, k2, k3, k4, k5]
  exact hBw.setCell (by simp) _

/-- The names that are not chosen while e is put in place of x. -/
def usedP (t : Term) (x : ByteArray) (e : Exp) : Used := fun k => (writtenF (.proc t) k || writtenF (.exp e) k) || k == bytesOf x
theorem Tryz.results83 : Tryz.f83.results = #[.cell 3 33] := by kernel_rfl
theorem Tryz.results33 : Tryz.f33.results = #[.cell 6 33, .tmp 7] := by kernel_rfl
def Zero33 (w : World) (b : Nat) : Prop := w.heap[b]? = some (.cells #[.int .i64 0, .string ⟨#[]⟩, .slice none 0 0, .slice none 0 0, .slice none 0 0] 33)
theorem Zero33.cells {w : World} {b : Nat} (h : Zero33 w b) : w.cell? ⟨b, 0, none⟩ = some (.int .i64 0) ∧ w.cell? ⟨b, 1, none⟩ = some (.string ⟨#[]⟩) ∧ w.cell? ⟨b, 2, none⟩ = some (.slice none 0 0) ∧ w.cell? ⟨b, 3, none⟩ = some (.slice none 0 0) ∧ w.cell? ⟨b, 4, none⟩ = some (.slice none 0 0) ∧ ∀ o, w.frozen? ⟨b, o, none⟩ = false := by
  unfold Zero33 at h
  exact ⟨by simp [World.cell?, h], by simp [World.cell?, h], by simp [World.cell?, h], by simp [World.cell?, h], by simp [World.cell?, h], fun o => by simp [World.frozen?, h]⟩
theorem set5 {n : Nat} {w w1 : World} (hb : Below n w w1) (b : Nat) (h : n ≤ b) (v0 v1 v2 v3 v4 : Value) : Below n w (((((w1.setCell ⟨b, 0, none⟩ v0).setCell ⟨b, 1, none⟩ v1).setCell ⟨b, 2, none⟩ v2).setCell ⟨b, 3, none⟩ v3).setCell ⟨b, 4, none⟩ v4) :=
  ((((hb.setCell (show n ≤ (⟨b, 0, none⟩ : Addr).block from h) _).setCell (show n ≤ (⟨b, 1, none⟩ : Addr).block from h) _).setCell (show n ≤ (⟨b, 2, none⟩ : Addr).block from h) _).setCell (show n ≤ (⟨b, 3, none⟩ : Addr).block from h) _).setCell (show n ≤ (⟨b, 4, none⟩ : Addr).block from h) _
theorem later5 {A : Nat} {w w1 : World} (hb : Later A w w1) (b : Nat) (h : b < A) (v0 v1 v2 v3 v4 : Value) : Later A w (((((w1.setCell ⟨b, 0, none⟩ v0).setCell ⟨b, 1, none⟩ v1).setCell ⟨b, 2, none⟩ v2).setCell ⟨b, 3, none⟩ v3).setCell ⟨b, 4, none⟩ v4) :=
  ((((hb.set ⟨b, 0, none⟩ v0 h).set ⟨b, 1, none⟩ v1 h).set ⟨b, 2, none⟩ v2 h).set ⟨b, 3, none⟩ v3 h).set ⟨b, 4, none⟩ v4 h

set_option maxRecDepth 10000 in
set_option maxHeartbeats 4000000 in
theorem put_work (B : Nat) (u : World) (t : Term) (x : ByteArray) (e : Exp) (hf : Formed (.proc t)) (hfe : Formed (.exp e)) (hx : nameB x = true) (hxz : x.size ≤ maxLen) (hpl : plainE e = true) (cs es : List Value) (hat : TermAt B u cs t) (hae : ExpAt B u es e)
    (w : World) (hu : KeptC B u w) (hB : B ≤ w.heap.size) (n0 n1 n2 : Nat) (c0 : CellsAt w n0 0 cs) (c1 : w.cell? ⟨n1, 0, none⟩ = some (.string x)) (c2 : CellsAt w n2 0 es)
    (R : Option (Term × Used)) (hR : R = copyT ⟨.putting x e, [frame0]⟩ (usedP t x e) t) (hok : ∀ y, R = some y → Formed (.proc y.1)) (kc : Nat) (hcov : Cov (usedP t x e) kc) (hkc : kc + bcT t ≤ 4900) :
    Calls Tryz.prog 83 #[.pointer (some ⟨n0, 0, none⟩), .pointer (some ⟨n1, 0, none⟩), .pointer (some ⟨n2, 0, none⟩)] w fun e' w' => OutE R e' (Below w.heap.size w w') fun y => ∃ cs', e' = .returned (.agg cs'.toArray) ∧ TermAt w'.heap.size (blank w.heap.size w') cs' y.1 ∧ Below w.heap.size w w' := by
  obtain ⟨o0, o1, tx, s0, m0, k0, s1, m1, k1, s2, m2, k2, rfl⟩ : ∃ (o0 : Int) (o1 : Unit) (tx : ByteArray) (s0 : Option Addr) (m0 k0 : Nat) (s1 : Option Addr) (m1 k1 : Nat) (s2 : Option Addr) (m2 k2 : Nat), cs = [.int .i64 o0, .string tx, .slice s0 m0 k0, .slice s1 m1 k1, .slice s2 m2 k2] := by
    obtain ⟨a1, a2, a3, a4, a5, a6, a7, a8, a9, a10, a11, h⟩ := term_shape hat
    exact ⟨a1, (), a2, a3, a4, a5, a6, a7, a8, a9, a10, a11, h⟩
  obtain ⟨e0, e1, e2, e3, e4, e5, rfl⟩ := exp_shape hae
  obtain ⟨W0, hW0⟩ : ∃ W0, W0 = w.alloc (.cells #[.int .i64 0, .string ⟨#[]⟩, .slice none 0 0, .slice none 0 0, .slice none 0 0] 33) := ⟨_, rfl⟩
  have hb0 : Below w.heap.size w W0 := by rw [hW0]; exact (Below.refl _ w).alloc (Nat.le_refl _) _
  have hz : W0.heap.size = w.heap.size + 1 := by rw [hW0]; simp
  have z0 : Zero33 W0 w.heap.size := by unfold Zero33; rw [hW0]; exact World.alloc_heap_new w _
  have hrd : ∀ W, Below W0.heap.size W0 W → (W.cell? ⟨n0, 0, none⟩ = some (.int .i64 o0) ∧ W.cell? ⟨n0, 1, none⟩ = some (.string tx) ∧ W.cell? ⟨n0, 2, none⟩ = some (.slice s0 m0 k0) ∧ W.cell? ⟨n0, 3, none⟩ = some (.slice s1 m1 k1) ∧ W.cell? ⟨n0, 4, none⟩ = some (.slice s2 m2 k2)) ∧
      W.cell? ⟨n1, 0, none⟩ = some (.string x) ∧ (W.cell? ⟨n2, 0, none⟩ = some (.int .i64 e0) ∧ W.cell? ⟨n2, 1, none⟩ = some (.int .i64 e1) ∧ W.cell? ⟨n2, 2, none⟩ = some (.string e2) ∧ W.cell? ⟨n2, 3, none⟩ = some (.slice e3 e4 e5)) ∧ KeptC B u W ∧ B ≤ W.heap.size ∧ Zero33 W w.heap.size ∧ Below w.heap.size w W := by
    intro W h
    have hbW := hb0.trans (h.mono (by omega))
    refine ⟨cells5 (c0.below hbW (lt_of_cell (c0 0 (by simp)))), (hbW.cell (p := ⟨n1, 0, none⟩) (lt_of_cell c1)).trans c1, cells4 (c2.below hbW (lt_of_cell (c2 0 (by simp)))), hu.trans ((Below.keptC hbW).mono hB), by have := hbW.size; omega, (h.block _ (by omega)).trans z0, hbW⟩
  have hpt : PartAt B u (.iface 83 (.agg #[.int .i64 o0, .string tx, .slice s0 m0 k0, .slice s1 m1 k1, .slice s2 m2 k2])) (.proc t) := ⟨_, rfl, hat⟩
  have hpe : PartAt B u (.iface 88 (.agg #[.int .i64 e0, .int .i64 e1, .string e2, .slice e3 e4 e5])) (.exp e) := ⟨_, rfl, hae⟩
  have HW := Lib.hid hW0
  have HZ := Lib.hid hz
  obtain ⟨q0, q1, q2, q3, q4, q5, q6⟩ := hrd W0 (Below.refl _ _)
  obtain ⟨a0, a1, a2, a3, a4⟩ := q0
  have hm1 := must_ok B u _ _ W0 q3 q4 hf hpt
  rw [hW0] at a0 a1 a2 a3 a4
  have HR := Lib.hid hR
  have HC0 := Lib.hid c0
  have HC2 := Lib.hid c2
  have HA := Lib.hid hat
  have HE := Lib.hid hae
  clear hW0 hz hR c0 c2 hat hae
  go_enter Tryz.func83, Tryz.ntmps83
  go_wp2_with fail
  rw [← HW.out]
  refine hm1.mono ?_
  clear hm1
  rintro e' w1 ⟨rfl, hb1⟩
  obtain ⟨⟨b0', b1', b2', b3', b4'⟩, g1, ⟨g2, g3, g4, g5⟩, hu1, hB1, zz1, hbw1⟩ := hrd w1 hb1
  go_wp2_with fail
  refine (mustName_ok x w1 hxz hx).mono ?_
  rintro e' w2 ⟨rfl, hb2⟩
  have hb2 := hb1.trans (hb2.mono hb1.size)
  clear a0 a1 a2 a3 a4 q1 q2 b0' b1' b2' b3' b4' g1 g2 g3 g4 g5
  obtain ⟨⟨b0', b1', b2', b3', b4'⟩, g1, ⟨g2, g3, g4, g5⟩, hu2, hB2, zz2, hbw2⟩ := hrd w2 hb2
  go_wp2_with fail
  refine (must_ok B u _ _ w2 hu2 hB2 hfe hpe).mono ?_
  rintro e' w3 ⟨rfl, hb3⟩
  have hb3 := hb2.trans (hb3.mono hb2.size)
  clear b0' b1' b2' b3' b4' g1 g2 g3 g4 g5
  obtain ⟨⟨b0', b1', b2', b3', b4'⟩, g1, ⟨g2, g3, g4, g5⟩, hu3, hB3, zz3, hbw3⟩ := hrd w3 hb3
  go_wp2_with fail
  refine ((callsIn_wide (n := 6)).1 (written_in 6 B (by omega) u _ _ w3 hu3 hB3 hf.allSmall hf.allBind (by have := hf.1; omega) hpt)).mono ?_
  rintro e' w4 ⟨bu, rfl, hbu, hs4, hb34⟩
  have hb4 := hb3.trans (hb34.mono hb3.size)
  clear b0' b1' b2' b3' b4' g1 g2 g3 g4 g5
  obtain ⟨⟨b0', b1', b2', b3', b4'⟩, g1, ⟨g2, g3, g4, g5⟩, hu4, hB4, zz4, hbw4⟩ := hrd w4 hb4
  have hbuz : W0.heap.size ≤ bu := by have := hb3.size; omega
  go_wp2_with fail
  refine ((callsIn_wide (n := 6)).1 (written_in 6 B (by omega) u _ _ w4 hu4 hB4 hfe.allSmall hfe.allBind (by have := hfe.1; omega) hpe)).mono ?_
  rintro e' w5 ⟨b2, rfl, hb2z, hs5, hb45⟩
  have hs4' := hs4.later hb45
  have hcp := hs4'.copy hs5 (by have := hs4.lt; omega) (by unfold maxLen; omega)
  have hb5 := hb4.trans (hb45.mono hb4.size)
  clear b0' b1' b2' b3' b4' g1 g2 g3 g4 g5
  go_wp2_with fail
  refine hcp.mono ?_
  clear hcp
  rintro e' w6 ⟨rfl, hs6, hg6⟩
  have hb6 : Below W0.heap.size W0 w6 := hb5.grown hg6 hb5.size (fun r e => by have := Option.some.inj e; omega)
  obtain ⟨⟨b0', b1', b2', b3', b4'⟩, g1, ⟨g2, g3, g4, g5⟩, hu6, hB6, zz6, hbw6⟩ := hrd w6 hb6
  obtain ⟨w7, r7, s7, g7⟩ := hs6.put (by unfold maxLen; omega) hxz
  have hb7 : Below W0.heap.size W0 w7 := hb6.grown g7 hb6.size (fun r e => by have := Option.some.inj e; omega)
  obtain ⟨⟨d0', d1', d2', d3', d4'⟩, f1, ⟨f2, f3, f4, f5⟩, hu7, hB7, zz7, hbw7⟩ := hrd w7 hb7
  have hBu : ∀ r, some bu = some r → B ≤ r := fun r e => by have := Option.some.inj e; have := HZ.out; omega
  have hcpy := copy_start (B := B) (u := u) (m := some bu) (b := .putting x e) hBu (by simp) t hf (.iface 118 (.agg #[.map (some bu), .string x, .int .i64 e0, .int .i64 e1, .string e2, .slice e3 e4 e5])) w7
    ⟨hxz, ⟨hfe.1, hfe.allSmall, hfe.allBind, hpl⟩, _, _, _, _, _, _, rfl, HE.out⟩ hu7 hB7 (usedP t x e) 0 _ HA.out ⟨⟨200000000 + 200000000 + 1, by omega, fun b' hb' => by obtain rfl := Option.some.inj hb'; exact s7⟩, kc, by omega, hcov⟩
  rw [← HR.out] at hcpy
  go_wp2_with fail
  refine hcpy.mono ?_
  clear hcpy
  intro e' w8 hh
  cases R with
  | none =>
    obtain ⟨rfl, hg8⟩ := hh
    go_wp2
    simp only [bodyPost]
    exact ⟨by trivial, rfl, hbw7.grown hg8 hbw7.size (fun r e => by have := Option.some.inj e; have := HZ.out; omega)⟩
  | some y =>
    obtain ⟨cs', rfl, ht8, _, hg8⟩ := hh
    have hfy := hok y rfl
    obtain ⟨a1, a2, a3, a4, a5, a6, a7, a8, a9, a10, a11, rfl⟩ := term_shape ht8
    have hb8 : Below W0.heap.size W0 w8 := hb7.grown hg8 hb7.size (fun r e => by have := Option.some.inj e; omega)
    have hal : Below w8.heap.size w8 (w8.alloc (.cells #[.int .i64 a1, .string a2, .slice a3 a4 a5, .slice a6 a7 a8, .slice a9 a10 a11] 33)) := (Below.refl _ w8).alloc (Nat.le_refl _) _
    have hfit := mustFit_ok w8.heap.size w8 y.1 [.int .i64 a1, .string a2, .slice a3 a4 a5, .slice a6 a7 a8, .slice a9 a10 a11] (w8.alloc (.cells #[.int .i64 a1, .string a2, .slice a3 a4 a5, .slice a6 a7 a8, .slice a9 a10 a11] 33)) (Below.keptC hal) (by simp) hfy (TermAt.keep (blank_off _ _ _) (Nat.le_refl _) _ _ ht8)
    have hb9 : Below W0.heap.size W0 (w8.alloc (.cells #[.int .i64 a1, .string a2, .slice a3 a4 a5, .slice a6 a7 a8, .slice a9 a10 a11] 33)) := hb8.trans (hal.mono hb8.size)
    have hbox : ∀ W, Below (w8.heap.size + 1) (w8.alloc (.cells #[.int .i64 a1, .string a2, .slice a3 a4 a5, .slice a6 a7 a8, .slice a9 a10 a11] 33)) W → CellsAt W w8.heap.size 0 [.int .i64 a1, .string a2, .slice a3 a4 a5, .slice a6 a7 a8, .slice a9 a10 a11] := fun W h j hj => by
      refine (h.cell (p := ⟨w8.heap.size, 0 + j, none⟩) (by simp)).trans ?_
      rw [World.cell?_alloc_at _ _ _ _ rfl]
      match j, hj with
      | 0, _ => rfl
      | 1, _ => rfl
      | 2, _ => rfl
      | 3, _ => rfl
      | 4, _ => rfl
    clear b0' b1' b2' b3' b4' g1 g2 g3 g4 g5 d0' d1' d2' d3' d4' f1 f2 f3 f4 f5
    go_wp2_with fail
    refine hfit.mono ?_
    clear hfit
    rintro e' w9 ⟨rfl, hb89⟩
    rw [World.size_alloc] at hb89
    obtain ⟨d0', d1', d2', d3', d4'⟩ := cells5 (hbox w9 hb89)
    have hbA := hb9.trans (hb89.mono (by have := hb8.size; omega))
    obtain ⟨_, _, _, _, _, zz9, hbw9⟩ := hrd w9 hbA
    obtain ⟨x0, x1, x2, x3, x4, xf⟩ := zz9.cells
    have hlat : Later (w.heap.size + 1) w8 w9 := ⟨by have := hb89.size; simp at this; omega, fun b hb hlt => (hb89.block b (by omega)).trans (Below.heap_alloc _ _ _ hlt)⟩
    go_wp2
    simp [bodyPost, results, Tryz.results83, go_sem, x0, x1, x2, x3, x4]
    refine ⟨?_, set5 hbw9 w.heap.size (Nat.le_refl _) _ _ _ _ _⟩
    have hL := later5 hlat w.heap.size (by omega) (.int .i64 a1) (.string a2) (.slice a3 a4 a5) (.slice a6 a7 a8) (.slice a9 a10 a11)
    exact TermAt.keep (hL.kept (A0 := w7.heap.size) (A' := w.heap.size) (B := w8.heap.size) (by have := hb7.size; have := HZ.out; omega) (by have := hb7.size; have := HZ.out; omega) (Nat.le_refl _)) hlat.1 _ _ ht8

end Go.Proofs.YtjmlaeofjjhfmaaGreat
/- Put, by the function that the package exports. -/
namespace Go.Proofs.YtjmlaeofjjhfmaaGreat
open Go.RowKit Go.Shelf Go.Maps Go.WideMaps

def zero5 : List Value := [.int .i64 0, .string ⟨#[]⟩, .slice none 0 0, .slice none 0 0, .slice none 0 0]
set_option maxRecDepth 10000 in
set_option maxHeartbeats 4000000 in
theorem put_any (B : Nat) (u : World) (t : Term) (x : ByteArray) (e : Exp) (hf : Formed (.proc t)) (hfe : Formed (.exp e)) (hx : nameB x = true) (hxz : x.size ≤ maxLen) (hpl : plainE e = true) (cs es : List Value) (hat : TermAt B u cs t) (hae : ExpAt B u es e)
    (w : World) (hu : KeptC B u w) (hB : B ≤ w.heap.size)
    (R : Option (Term × Used)) (hR : R = copyT ⟨.putting x e, [frame0]⟩ (usedP t x e) t) (hok : ∀ y, R = some y → Formed (.proc y.1)) (kc : Nat) (hcov : Cov (usedP t x e) kc) (hkc : kc + bcT t ≤ 4900) :
    Calls Tryz.prog 33 #[.agg cs.toArray, .string x, .agg es.toArray] w fun e' w' => ∃ cs', e' = .returned (.tuple #[.agg cs'.toArray, .int .i64 (if R.isSome then 0 else 7)]) ∧ cs'.length = 5 ∧ (∀ y, R = some y → TermAt w'.heap.size w' cs' y.1) ∧ Below w.heap.size w w' := by
  obtain ⟨o0, tx, s0, m0, k0, s1, m1, k1, s2, m2, k2, rfl⟩ := term_shape hat
  obtain ⟨e0, e1, e2, e3, e4, e5, rfl⟩ := exp_shape hae
  obtain ⟨W0, hW0⟩ : ∃ W0, W0 = ((((w.alloc (.cells #[.int .i64 o0, .string tx, .slice s0 m0 k0, .slice s1 m1 k1, .slice s2 m2 k2] 33)).alloc (.cells #[.string x] 9)).alloc (.cells #[.int .i64 e0, .int .i64 e1, .string e2, .slice e3 e4 e5] 36)).alloc (.cells #[.int .i64 0, .string ⟨#[]⟩, .slice none 0 0, .slice none 0 0, .slice none 0 0] 33)) := ⟨_, rfl⟩
  have hb0 : Below w.heap.size w W0 := by rw [hW0]; exact ((((Below.refl _ w).alloc (Nat.le_refl _) _).alloc (by simp) _).alloc (by simp; omega) _).alloc (by simp; omega) _
  have hz : W0.heap.size = w.heap.size + 4 := by rw [hW0]; simp
  have h0 : W0.heap[w.heap.size]? = some (.cells #[.int .i64 o0, .string tx, .slice s0 m0 k0, .slice s1 m1 k1, .slice s2 m2 k2] 33) := by
    rw [hW0, Below.heap_alloc _ _ _ (by simp <;> omega), Below.heap_alloc _ _ _ (by simp <;> omega), Below.heap_alloc _ _ _ (by simp)]; exact World.alloc_heap_new w _
  have h1 : W0.heap[w.heap.size + 1]? = some (.cells #[.string x] 9) := by
    rw [hW0, Below.heap_alloc _ _ _ (by simp <;> omega), Below.heap_alloc _ _ _ (by simp)]
    have := World.alloc_heap_new (w.alloc (.cells #[.int .i64 o0, .string tx, .slice s0 m0 k0, .slice s1 m1 k1, .slice s2 m2 k2] 33)) (.cells #[.string x] 9); rwa [World.size_alloc] at this
  have h2 : W0.heap[w.heap.size + 2]? = some (.cells #[.int .i64 e0, .int .i64 e1, .string e2, .slice e3 e4 e5] 36) := by
    rw [hW0, Below.heap_alloc _ _ _ (by simp)]
    have := World.alloc_heap_new ((w.alloc (.cells #[.int .i64 o0, .string tx, .slice s0 m0 k0, .slice s1 m1 k1, .slice s2 m2 k2] 33)).alloc (.cells #[.string x] 9)) (.cells #[.int .i64 e0, .int .i64 e1, .string e2, .slice e3 e4 e5] 36); rwa [World.size_alloc, World.size_alloc] at this
  have h3 : Zero33 W0 (w.heap.size + 3) := by
    unfold Zero33
    rw [hW0]
    have := World.alloc_heap_new (((w.alloc (.cells #[.int .i64 o0, .string tx, .slice s0 m0 k0, .slice s1 m1 k1, .slice s2 m2 k2] 33)).alloc (.cells #[.string x] 9)).alloc (.cells #[.int .i64 e0, .int .i64 e1, .string e2, .slice e3 e4 e5] 36)) (.cells #[.int .i64 0, .string ⟨#[]⟩, .slice none 0 0, .slice none 0 0, .slice none 0 0] 33); rwa [World.size_alloc, World.size_alloc, World.size_alloc] at this
  obtain ⟨WC, hWC⟩ : ∃ WC, WC = (W0.alloc (.cells #[.int .i64 0, .string ⟨#[]⟩, .slice none 0 0, .slice none 0 0, .slice none 0 0] 33)).alloc (.cells #[.int .i64 0] 37) := ⟨_, rfl⟩
  have hbC : Below W0.heap.size W0 WC := by rw [hWC]; exact ((Below.refl _ W0).alloc (Nat.le_refl _) _).alloc (by simp) _
  have hzC : WC.heap.size = W0.heap.size + 2 := by rw [hWC]; simp
  have hbwC := hb0.trans (hbC.mono (by omega))
  have hw := put_work B u t x e hf hfe hx hxz hpl _ _ hat hae WC (hu.trans ((Below.keptC hbwC).mono hB)) (by omega) w.heap.size (w.heap.size + 1) (w.heap.size + 2)
    (fun j hj => by
      have q := (hbC.block w.heap.size (by omega)).trans h0
      match j, hj with
      | 0, _ => simp [World.cell?, q]
      | 1, _ => simp [World.cell?, q]
      | 2, _ => simp [World.cell?, q]
      | 3, _ => simp [World.cell?, q]
      | 4, _ => simp [World.cell?, q])
    (by have q := (hbC.block (w.heap.size + 1) (by omega)).trans h1; simp [World.cell?, q])
    (fun j hj => by
      have q := (hbC.block (w.heap.size + 2) (by omega)).trans h2
      match j, hj with
      | 0, _ => simp [World.cell?, q]
      | 1, _ => simp [World.cell?, q]
      | 2, _ => simp [World.cell?, q]
      | 3, _ => simp [World.cell?, q]) R hR hok kc hcov hkc
  have hmf : ∀ (fn : Fn) (first cap : Array Value) (w : World), (Instr.makeFunc fn first cap).run Tryz.prog w = .ok (.func fn first cap) w := fun _ _ _ _ => rfl
  have e83 : ∀ args w, (callFunc 83 args).run Tryz.prog w = .ok (.enter 83 args) w := enters_of Tryz.func83 (by kernel_rfl) rfl
  have HW := Lib.hid hW0
  have HZ := Lib.hid hz
  have HZC := Lib.hid hzC
  clear hR hok hcov hkc h0 h1 h2 hat hae hf hfe
  cases R with
  | none =>
    have ha := attempt_82_up 83 #[.pointer (some ⟨w.heap.size, 0, none⟩), .pointer (some ⟨w.heap.size + 1, 0, none⟩), .pointer (some ⟨w.heap.size + 2, 0, none⟩)] 7 W0 e83 (by
      rw [← hWC, ← hzC]
      refine hw.mono ?_
      rintro e' w' ⟨h1, h2⟩
      exact ⟨h1, h2⟩)
    clear hw hWC hW0 hz hzC
    go_enter Tryz.func33, Tryz.ntmps33
    go_wp2_with (go_at_call 82; rw [← HW.out]; refine ha.mono ?_; clear ha; rintro e' w1 ⟨rfl, hb1⟩; obtain ⟨x0, x1, x2, x3, x4, xf⟩ := Zero33.cells ((hb1.block (w.heap.size + 3) (by have := HZ.out; omega)).trans h3))
    simp [bodyPost, results, Tryz.results33, go_sem, x0, x1, x2, x3, x4]
    exact set5 (hb0.trans (hb1.mono (by have := HZ.out; omega))) (w.heap.size + 3) (by omega) _ _ _ _ _
  | some y =>
    have ha := attempt_82 83 #[.pointer (some ⟨w.heap.size, 0, none⟩), .pointer (some ⟨w.heap.size + 1, 0, none⟩), .pointer (some ⟨w.heap.size + 2, 0, none⟩)] W0 (fun X w' => TermAt w'.heap.size (blank WC.heap.size w') [.int .i64 X.op, .string X.t, .slice X.a0 X.n0 X.c0, .slice X.a1 X.n1 X.c1, .slice X.a2 X.n2 X.c2] y.1) e83 (by
      rw [← hWC, ← hzC]
      refine hw.mono ?_
      rintro e' w' ⟨cs', rfl, h1, h2⟩
      obtain ⟨a1, a2, a3, a4, a5, a6, a7, a8, a9, a10, a11, rfl⟩ := term_shape h1
      exact ⟨⟨a1, a2, a3, a4, a5, a6, a7, a8, a9, a10, a11⟩, rfl, h1, h2⟩)
    clear hw hW0
    have HC := Lib.hid hWC
    clear hWC hz hzC
    go_enter Tryz.func33, Tryz.ntmps33
    go_wp2_with (go_at_call 82; rw [← HW.out]; refine ha.mono ?_; clear ha; rintro e' w2 ⟨⟨a1, a2, a3, a4, a5, a6, a7, a8, a9, a10, a11⟩, w1, rfl, hR1, hsz, hblk, hb1⟩; obtain ⟨x0, x1, x2, x3, x4, xf⟩ := Zero33.cells ((hb1.block (w.heap.size + 3) (by have := HZ.out; omega)).trans h3); have HS := Lib.hid hsz; clear hsz)
    simp [bodyPost, results, Tryz.results33, go_sem, x0, x1, x2, x3, x4]
    have hz := HZ.out
    have hzC := HZC.out
    refine ⟨?_, set5 (hb0.trans (hb1.mono (by omega))) (w.heap.size + 3) (by omega) _ _ _ _ _⟩
    have hL : Later (w.heap.size + 6) w1 w2 := ⟨by rw [HS.out]; exact Nat.le_refl _, fun b hb _ => hblk b (by omega)⟩
    have hL5 := later5 hL (w.heap.size + 3) (by omega) (.int .i64 a1) (.string a2) (.slice a3 a4 a5) (.slice a6 a7 a8) (.slice a9 a10 a11)
    rw [← HS.out]
    exact TermAt.keep (blank_off 0 _ _) (Nat.le_refl _) _ _ (TermAt.keep (hL5.kept (A0 := WC.heap.size) (A' := 0) (B := w1.heap.size) (by omega) (by omega) (Nat.le_refl _)) (Nat.le_refl _) _ _ hR1)

end Go.Proofs.YtjmlaeofjjhfmaaGreat
