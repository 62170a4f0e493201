/- Layout and Parts, whatever comes in. -/
import Derived.Test.YtjmlaeofjjhfmaaGreatP46
import Derived.Test.YtjmlaeofjjhfmaaGreatP25
set_option linter.unusedVariables false
set_option linter.unusedSimpArgs false
namespace Go.Proofs.YtjmlaeofjjhfmaaGreat
open Go.RowKit Go.Shelf Go.Maps Go.WideMaps

theorem Tryz.results49 : Tryz.f49.results = #[.cell 2 33, .tmp 3] := by kernel_rfl
set_option maxRecDepth 10000 in
set_option maxHeartbeats 4000000 in
theorem lay_ok49 (o0 : Int) (tx : ByteArray) (s0 : Option Addr) (m0 k0 : Nat) (s1 : Option Addr) (m1 k1 : Nat) (s2 : Option Addr) (m2 k2 : Nat) (w : World) (T : Term)
    (hw : ∀ WC : World, Below w.heap.size w WC → CellsAt WC w.heap.size 0 [.int .i64 o0, .string tx, .slice s0 m0 k0, .slice s1 m1 k1, .slice s2 m2 k2] → Calls Tryz.prog 107 #[.pointer (some ⟨w.heap.size, 0, none⟩)] WC fun e' w' => ∃ cs', e' = .returned (.agg cs'.toArray) ∧ TermAt w'.heap.size (blank WC.heap.size w') cs' T ∧ Below WC.heap.size WC w') :
    Calls Tryz.prog 49 #[.agg #[.int .i64 o0, .string tx, .slice s0 m0 k0, .slice s1 m1 k1, .slice s2 m2 k2]] w fun e' w' => ∃ cs', e' = .returned (.tuple #[.agg cs'.toArray, .int .i64 0]) ∧ TermAt w'.heap.size w' cs' T ∧ Below w.heap.size w w' := by
  obtain ⟨W0, hW0⟩ : ∃ W0, W0 = ((w.alloc (.cells #[.int .i64 o0, .string tx, .slice s0 m0 k0, .slice s1 m1 k1, .slice s2 m2 k2] 33)).alloc (.cells #[.int .i64 0, .string ⟨#[]⟩, .slice none 0 0, .slice none 0 0, .slice none 0 0] 33)) := ⟨_, rfl⟩
  have hb0 : Below w.heap.size w W0 := by rw [hW0]; exact ((Below.refl _ w).alloc (Nat.le_refl _) _).alloc (by simp) _
  have hz : W0.heap.size = w.heap.size + 2 := by rw [hW0]; simp
  have h0 : W0.heap[w.heap.size]? = some (.cells #[.int .i64 o0, .string tx, .slice s0 m0 k0, .slice s1 m1 k1, .slice s2 m2 k2] 33) := by
    rw [hW0, Below.heap_alloc _ _ _ (by simp)]; exact World.alloc_heap_new w _
  have h3 : Zero33 W0 (w.heap.size + 1) := by
    unfold Zero33
    rw [hW0]
    have := World.alloc_heap_new (w.alloc (.cells #[.int .i64 o0, .string tx, .slice s0 m0 k0, .slice s1 m1 k1, .slice s2 m2 k2] 33)) (.cells #[.int .i64 0, .string ⟨#[]⟩, .slice none 0 0, .slice none 0 0, .slice none 0 0] 33); rwa [World.size_alloc] at this
  obtain ⟨WC, hWC⟩ : ∃ WC, WC = (W0.alloc (.cells #[.int .i64 0, .string ⟨#[]⟩, .slice none 0 0, .slice none 0 0, .slice none 0 0] 33)).alloc (.cells #[.int .i64 0] 37) := ⟨_, rfl⟩
  have hbC : Below W0.heap.size W0 WC := by rw [hWC]; exact ((Below.refl _ W0).alloc (Nat.le_refl _) _).alloc (by simp) _
  have hzC : WC.heap.size = W0.heap.size + 2 := by rw [hWC]; simp
  have hbwC := hb0.trans (hbC.mono (by omega))
  have hw := hw WC hbwC
    (fun j hj => by
      have q := (hbC.block w.heap.size (by omega)).trans h0
      match j, hj with
      | 0, _ => simp [World.cell?, q]
      | 1, _ => simp [World.cell?, q]
      | 2, _ => simp [World.cell?, q]
      | 3, _ => simp [World.cell?, q]
      | 4, _ => simp [World.cell?, q])
  have hmf : ∀ (fn : Fn) (first cap : Array Value) (w : World), (Instr.makeFunc fn first cap).run Tryz.prog w = .ok (.func fn first cap) w := fun _ _ _ _ => rfl
  have ha := attempt_82 107 #[.pointer (some ⟨w.heap.size, 0, none⟩)] W0 (fun X w' => TermAt w'.heap.size (blank WC.heap.size w') [.int .i64 X.op, .string X.t, .slice X.a0 X.n0 X.c0, .slice X.a1 X.n1 X.c1, .slice X.a2 X.n2 X.c2] T) (enters_of Tryz.func107 (by kernel_rfl) rfl) (by
    rw [← hWC, ← hzC]
    refine hw.mono ?_
    rintro e' w' ⟨cs', rfl, h1, h2⟩
    obtain ⟨a1, a2, a3, a4, a5, a6, a7, a8, a9, a10, a11, rfl⟩ := term_shape h1
    exact ⟨⟨a1, a2, a3, a4, a5, a6, a7, a8, a9, a10, a11⟩, rfl, h1, h2⟩)
  have HW := Lib.hid hW0
  have HZ := Lib.hid hz
  have HZC := Lib.hid hzC
  have HC := Lib.hid hWC
  clear hw hW0 hWC hz hzC h0
  go_enter Tryz.func49, Tryz.ntmps49
  go_wp2_with (go_at_call 82; rw [← HW.out]; refine ha.mono ?_; clear ha; rintro e' w2 ⟨⟨a1, a2, a3, a4, a5, a6, a7, a8, a9, a10, a11⟩, w1, rfl, hR1, hsz, hblk, hb1⟩; obtain ⟨x0, x1, x2, x3, x4, xf⟩ := Zero33.cells ((hb1.block (w.heap.size + 1) (by have := HZ.out; omega)).trans h3); have HS := Lib.hid hsz; clear hsz)
  simp [bodyPost, results, Tryz.results49, go_sem, x0, x1, x2, x3, x4]
  have hz := HZ.out
  have hzC := HZC.out
  refine ⟨?_, set5 (hb0.trans (hb1.mono (by omega))) (w.heap.size + 1) (by omega) _ _ _ _ _⟩
  have hL : Later (w.heap.size + 4) w1 w2 := ⟨by rw [HS.out]; exact Nat.le_refl _, fun b hb _ => hblk b (by omega)⟩
  have hL5 := later5 hL (w.heap.size + 1) (by omega) (.int .i64 a1) (.string a2) (.slice a3 a4 a5) (.slice a6 a7 a8) (.slice a9 a10 a11)
  rw [← HS.out]
  exact TermAt.keep (blank_off 0 _ _) (Nat.le_refl _) _ _ (TermAt.keep (hL5.kept (A0 := WC.heap.size) (A' := 0) (B := w1.heap.size) (by omega) (by omega) (Nat.le_refl _)) (Nat.le_refl _) _ _ hR1)


set_option maxRecDepth 10000 in
set_option maxHeartbeats 2000000 in
theorem lay_up49 (o0 : Int) (tx : ByteArray) (s0 : Option Addr) (m0 k0 : Nat) (s1 : Option Addr) (m1 k1 : Nat) (s2 : Option Addr) (m2 k2 : Nat) (w : World) (c : Int)
    (hw : ∀ WC : World, Below w.heap.size w WC → CellsAt WC w.heap.size 0 [.int .i64 o0, .string tx, .slice s0 m0 k0, .slice s1 m1 k1, .slice s2 m2 k2] → Calls Tryz.prog 107 #[.pointer (some ⟨w.heap.size, 0, none⟩)] WC fun e' w' => e' = .panicked (refusal c) ∧ Below WC.heap.size WC w') :
    Calls Tryz.prog 49 #[.agg #[.int .i64 o0, .string tx, .slice s0 m0 k0, .slice s1 m1 k1, .slice s2 m2 k2]] w fun e' w' => e' = .returned (.tuple #[.agg #[.int .i64 0, .string ⟨#[]⟩, .slice none 0 0, .slice none 0 0, .slice none 0 0], .int .i64 c]) ∧ Below w.heap.size w w' := by
  obtain ⟨W0, hW0⟩ : ∃ W0, W0 = ((w.alloc (.cells #[.int .i64 o0, .string tx, .slice s0 m0 k0, .slice s1 m1 k1, .slice s2 m2 k2] 33)).alloc (.cells #[.int .i64 0, .string ⟨#[]⟩, .slice none 0 0, .slice none 0 0, .slice none 0 0] 33)) := ⟨_, rfl⟩
  have hb0 : Below w.heap.size w W0 := by rw [hW0]; exact ((Below.refl _ w).alloc (Nat.le_refl _) _).alloc (by simp) _
  have hz : W0.heap.size = w.heap.size + 2 := by rw [hW0]; simp
  have h0 : W0.heap[w.heap.size]? = some (.cells #[.int .i64 o0, .string tx, .slice s0 m0 k0, .slice s1 m1 k1, .slice s2 m2 k2] 33) := by
    rw [hW0, Below.heap_alloc _ _ _ (by simp)]; exact World.alloc_heap_new w _
  have h3 : Zero33 W0 (w.heap.size + 1) := by
    unfold Zero33
    rw [hW0]
    have := World.alloc_heap_new (w.alloc (.cells #[.int .i64 o0, .string tx, .slice s0 m0 k0, .slice s1 m1 k1, .slice s2 m2 k2] 33)) (.cells #[.int .i64 0, .string ⟨#[]⟩, .slice none 0 0, .slice none 0 0, .slice none 0 0] 33); rwa [World.size_alloc] at this
  obtain ⟨WC, hWC⟩ : ∃ WC, WC = (W0.alloc (.cells #[.int .i64 0, .string ⟨#[]⟩, .slice none 0 0, .slice none 0 0, .slice none 0 0] 33)).alloc (.cells #[.int .i64 0] 37) := ⟨_, rfl⟩
  have hbC : Below W0.heap.size W0 WC := by rw [hWC]; exact ((Below.refl _ W0).alloc (Nat.le_refl _) _).alloc (by simp) _
  have hzC : WC.heap.size = W0.heap.size + 2 := by rw [hWC]; simp
  have hbwC := hb0.trans (hbC.mono (by omega))
  have hw := hw WC hbwC
    (fun j hj => by
      have q := (hbC.block w.heap.size (by omega)).trans h0
      match j, hj with
      | 0, _ => simp [World.cell?, q]
      | 1, _ => simp [World.cell?, q]
      | 2, _ => simp [World.cell?, q]
      | 3, _ => simp [World.cell?, q]
      | 4, _ => simp [World.cell?, q])
  have hmf : ∀ (fn : Fn) (first cap : Array Value) (w : World), (Instr.makeFunc fn first cap).run Tryz.prog w = .ok (.func fn first cap) w := fun _ _ _ _ => rfl
  have HW := Lib.hid hW0
  have HZ := Lib.hid hz
  have HZC := Lib.hid hzC
  have ha := attempt_82_up 107 #[.pointer (some ⟨w.heap.size, 0, none⟩)] c W0 (enters_of Tryz.func107 (by kernel_rfl) rfl) (by
    rw [← hWC, ← hzC]
    refine hw.mono ?_
    rintro e' w' ⟨h1, h2⟩
    exact ⟨h1, h2⟩)
  clear hw hWC hW0 hz hzC h0
  go_enter Tryz.func49, Tryz.ntmps49
  go_wp2_with (go_at_call 82; rw [← HW.out]; refine ha.mono ?_; clear ha; rintro e' w1 ⟨rfl, hb1⟩; obtain ⟨x0, x1, x2, x3, x4, xf⟩ := Zero33.cells ((hb1.block (w.heap.size + 1) (by have := HZ.out; omega)).trans h3))
  simp [bodyPost, results, Tryz.results49, go_sem, x0, x1, x2, x3, x4]
  exact set5 (hb0.trans (hb1.mono (by have := HZ.out; omega))) (w.heap.size + 1) (by omega) _ _ _ _ _

/-- What Layout answers. -/
def layCode (t : Term) : Int := if formedB (.proc t) then (if formedB (.proc (layT t)) then 0 else 3) else 2
def LayAt (t : Term) (cs : List Value) (w : World) : Prop := (layCode t = 0 ∧ formedB (.proc t) = true ∧ formedB (.proc (layT t)) = true ∧ TermAt w.heap.size w cs (layT t)) ∨ (layCode t ≠ 0 ∧ cs = zero5)
theorem playout_any (t : Term) (B : Nat) (u w : World) (cs : List Value) (hu : KeptC B u w) (hB : B ≤ w.heap.size) (hat : TermAt B u cs t) :
    Calls Tryz.prog 49 #[.agg cs.toArray] w fun e' w' => ∃ cs', e' = .returned (.tuple #[.agg cs'.toArray, .int .i64 (layCode t)]) ∧ Hid (LayAt t cs' w') ∧ Below w.heap.size w w' := by
  obtain ⟨o0, tx, s0, m0, k0, s1, m1, k1, s2, m2, k2, rfl⟩ := term_shape hat
  cases h1 : formedB (.proc t) with
  | false =>
    have hc : layCode t = 2 := by unfold layCode; rw [h1]; rfl
    refine (lay_up49 o0 tx s0 m0 k0 s1 m1 k1 s2 m2 k2 w 2 (fun WC hb a1 => lay_work_no B u t (fun h => by rw [formedB_iff.1 h] at h1; cases h1) _ hat WC (hu.trans ((Below.keptC hb).mono hB)) (by have := hb.size; omega) _ a1)).mono ?_
    rintro e' w' ⟨h1, h2⟩
    rw [hc]
    exact ⟨zero5, h1, Lib.hid (.inr ⟨by rw [hc]; decide, rfl⟩), h2⟩
  | true =>
    cases h2 : formedB (.proc (layT t)) with
    | false =>
      have hc : layCode t = 3 := by unfold layCode; rw [h1, h2]; rfl
      refine (lay_up49 o0 tx s0 m0 k0 s1 m1 k1 s2 m2 k2 w 3 (fun WC hb a1 => lay_work_long B u t (formedB_iff.2 h1) _ hat WC (hu.trans ((Below.keptC hb).mono hB)) (by have := hb.size; omega) _ a1 (fun h => by rw [formedB_iff.1 h] at h2; cases h2))).mono ?_
      rintro e' w' ⟨h1, h2⟩
      rw [hc]
      exact ⟨zero5, h1, Lib.hid (.inr ⟨by rw [hc]; decide, rfl⟩), h2⟩
    | true =>
      have hc : layCode t = 0 := by unfold layCode; rw [h1, h2]; rfl
      refine (lay_ok49 o0 tx s0 m0 k0 s1 m1 k1 s2 m2 k2 w (layT t) (fun WC hb a1 => lay_work B u t (formedB_iff.2 h1) _ hat WC (hu.trans ((Below.keptC hb).mono hB)) (by have := hb.size; omega) _ a1 (formedB_iff.2 h2))).mono ?_
      rintro e' w' ⟨cs', h3, h4, h5⟩
      rw [hc]
      exact ⟨cs', h3, Lib.hid (.inl ⟨hc, h1, h2, h4⟩), h5⟩

theorem pparts_ok (t : Term) (hf : Formed (.proc t)) (B : Nat) (u w : World) (cs : List Value) (hu : KeptC B u w) (hB : B ≤ w.heap.size) (hat : TermAt B u cs t) :
    Calls Tryz.prog 45 #[.agg cs.toArray] w fun e' w' => ∃ v, e' = .returned (.tuple #[v, .int .i64 0]) ∧ SlAt w'.heap.size v (splitT t).length (fun b off => TermsAt w'.heap.size w' b off (splitT t)) ∧ Below w.heap.size w w' :=
  parts_any45 B u t hf cs hat w hu hB (t, fun _ => false) (copy_same t _ (formed_fineT hf)) (formed_fine hf) hf.1 (by have := bcT_le t 0 (formed_fine hf); have h : (nodesT 0 t).length ≤ 60 := hf.1; omega)

end Go.Proofs.YtjmlaeofjjhfmaaGreat
