/- Nodes, Depth, Free, formed, Check, CheckExp where they refuse. -/
import Derived.Test.YtjmlaeofjjhfmaaGreatC09
import Derived.Test.YtjmlaeofjjhfmaaGreatC37
set_option linter.unusedVariables false
set_option linter.unusedSimpArgs false
namespace Go.Proofs.YtjmlaeofjjhfmaaGreat
open Go.RowKit Go.Shelf

theorem must_no (B : Nat) (u : World) (p : Part) (v : Value) (w : World) (hu : KeptC B u w) (hB : B ≤ w.heap.size) (hf : ¬ Formed p) (hv : PartAt B u v p) :
    Calls Tryz.prog 65 #[v] w fun e w' => e = .panicked (refusal 2) ∧ Below w.heap.size w w' :=
  (must_any B u p v w hu hB hv).mono fun _ _ ⟨h, hb⟩ => ⟨h.elim (fun h => absurd h.1 hf) (fun h => h.2), hb⟩

set_option maxHeartbeats 1000000 in
theorem work_64_no (B : Nat) (u : World) (op : Int) (t : ByteArray) (args : List Exp) (defs : List Clause) (kids : List Term) (b : Nat) (cs : List Value) (w : World) (hu : KeptC B u w) (hB : B ≤ w.heap.size)
    (hf : ¬ Formed (.proc (.mk op t args defs kids))) (hv : TermAt B u cs (.mk op t args defs kids)) (hc : CellsAt w b 0 cs) :
    Calls Tryz.prog 64 #[.pointer (some ⟨b, 0, none⟩)] w fun e w' => e = .panicked (refusal 2) ∧ Below w.heap.size w w' := by
  have hv' := hv
  unfold TermAt at hv
  obtain ⟨hz, _, _, _, rfl, ⟨a0, p0, rfl, _⟩, ⟨a1, p1, rfl, _⟩, ⟨a2, p2, rfl, _⟩⟩ := hv
  obtain ⟨c0, c1, c2, c3, c4⟩ := cells5 hc
  have hm := must_no B u _ (.iface 83 (.agg #[.int .i64 op, .string t, .slice a0 args.length p0, .slice a1 defs.length p1, .slice a2 kids.length p2])) w hu hB hf ⟨_, rfl, hv'⟩
  go_enter Tryz.func64, Tryz.ntmps64
  go_wp2_with (go_at_call 65; refine hm.mono ?_; clear hm; rintro e w1 ⟨rfl, hb1⟩)
  exact ⟨rfl, rfl, hb1⟩

set_option maxHeartbeats 1000000 in
theorem api_23_no (B : Nat) (u : World) (t : Term) (cs : List Value) (w : World) (hu : KeptC B u w) (hB : B ≤ w.heap.size) (hf : ¬ Formed (.proc t)) (hv : TermAt B u cs t) :
    Calls Tryz.prog 23 #[.agg cs.toArray] w fun e w' => e = .returned (.tuple #[.int .i64 0, .int .i64 2]) ∧ Below w.heap.size w w' := by
  obtain ⟨op, tx, args, defs, kids⟩ := t
  have hv' := hv
  unfold TermAt at hv
  obtain ⟨hz, _, _, _, rfl, ⟨a0, p0, rfl, _⟩, ⟨a1, p1, rfl, _⟩, ⟨a2, p2, rfl, _⟩⟩ := hv
  have hmf : ∀ (fn : Fn) (first cap : Array Value) (w : World), (Instr.makeFunc fn first cap).run Tryz.prog w = .ok (.func fn first cap) w := fun _ _ _ _ => rfl
  obtain ⟨W1, hW1⟩ : ∃ W1, W1 = w.alloc (.cells #[.int .i64 op, .string tx, .slice a0 args.length p0, .slice a1 defs.length p1, .slice a2 kids.length p2] 33) := ⟨_, rfl⟩
  have b1 : Below w.heap.size w W1 := by rw [hW1]; exact (Below.refl _ w).alloc (Nat.le_refl _) _
  have z1 : W1.heap.size = w.heap.size + 1 := by rw [hW1]; simp
  have cc : CellsAt (W1.alloc (.cells #[.int .i64 0] 37)) w.heap.size 0 [.int .i64 op, .string tx, .slice a0 args.length p0, .slice a1 defs.length p1, .slice a2 kids.length p2] := fun j hj => by
    rw [World.cell?_alloc_past _ _ _ (by omega), hW1, World.cell?_alloc_at _ _ _ _ rfl]
    match j, hj with
    | 0, _ => rfl
    | 1, _ => rfl
    | 2, _ => rfl
    | 3, _ => rfl
    | 4, _ => rfl
  have b2 : Below W1.heap.size W1 (W1.alloc (.cells #[.int .i64 0] 37)) := (Below.refl _ W1).alloc (Nat.le_refl _) _
  have hw := work_64_no B u op tx args defs kids w.heap.size _ (W1.alloc (.cells #[.int .i64 0] 37)) (hu.trans ((Below.keptC (b1.trans (b2.mono (by omega)))).mono hB)) (by simp; omega) hf hv' cc
  have ha := attempt_63_up 64 #[.pointer (some ⟨w.heap.size, 0, none⟩)] 2 W1 (enters_of Tryz.func64 (by kernel_rfl) rfl)
    (hw.mono fun e w' ⟨h1, h2⟩ => ⟨h1, h2.mono (by simp)⟩)
  have HW := Lib.hid hW1
  go_enter Tryz.func23, Tryz.ntmps23
  clear hW1
  go_wp2_with (go_at_call 63; rw [← HW.out]; refine ha.mono ?_; clear ha; rintro e w' ⟨rfl, hb⟩)
  go_ret2
  exact ⟨rfl, b1.trans (hb.mono (by omega))⟩

set_option maxHeartbeats 1000000 in
theorem work_67_no (B : Nat) (u : World) (op : Int) (t : ByteArray) (args : List Exp) (defs : List Clause) (kids : List Term) (b : Nat) (cs : List Value) (w : World) (hu : KeptC B u w) (hB : B ≤ w.heap.size)
    (hf : ¬ Formed (.proc (.mk op t args defs kids))) (hv : TermAt B u cs (.mk op t args defs kids)) (hc : CellsAt w b 0 cs) :
    Calls Tryz.prog 67 #[.pointer (some ⟨b, 0, none⟩)] w fun e w' => e = .panicked (refusal 2) ∧ Below w.heap.size w w' := by
  have hv' := hv
  unfold TermAt at hv
  obtain ⟨hz, _, _, _, rfl, ⟨a0, p0, rfl, _⟩, ⟨a1, p1, rfl, _⟩, ⟨a2, p2, rfl, _⟩⟩ := hv
  obtain ⟨c0, c1, c2, c3, c4⟩ := cells5 hc
  have hm := must_no B u _ (.iface 83 (.agg #[.int .i64 op, .string t, .slice a0 args.length p0, .slice a1 defs.length p1, .slice a2 kids.length p2])) w hu hB hf ⟨_, rfl, hv'⟩
  go_enter Tryz.func67, Tryz.ntmps67
  go_wp2_with (go_at_call 65; refine hm.mono ?_; clear hm; rintro e w1 ⟨rfl, hb1⟩)
  exact ⟨rfl, rfl, hb1⟩

set_option maxHeartbeats 1000000 in
theorem api_24_no (B : Nat) (u : World) (t : Term) (cs : List Value) (w : World) (hu : KeptC B u w) (hB : B ≤ w.heap.size) (hf : ¬ Formed (.proc t)) (hv : TermAt B u cs t) :
    Calls Tryz.prog 24 #[.agg cs.toArray] w fun e w' => e = .returned (.tuple #[.int .i64 0, .int .i64 2]) ∧ Below w.heap.size w w' := by
  obtain ⟨op, tx, args, defs, kids⟩ := t
  have hv' := hv
  unfold TermAt at hv
  obtain ⟨hz, _, _, _, rfl, ⟨a0, p0, rfl, _⟩, ⟨a1, p1, rfl, _⟩, ⟨a2, p2, rfl, _⟩⟩ := hv
  have hmf : ∀ (fn : Fn) (first cap : Array Value) (w : World), (Instr.makeFunc fn first cap).run Tryz.prog w = .ok (.func fn first cap) w := fun _ _ _ _ => rfl
  obtain ⟨W1, hW1⟩ : ∃ W1, W1 = w.alloc (.cells #[.int .i64 op, .string tx, .slice a0 args.length p0, .slice a1 defs.length p1, .slice a2 kids.length p2] 33) := ⟨_, rfl⟩
  have b1 : Below w.heap.size w W1 := by rw [hW1]; exact (Below.refl _ w).alloc (Nat.le_refl _) _
  have z1 : W1.heap.size = w.heap.size + 1 := by rw [hW1]; simp
  have cc : CellsAt (W1.alloc (.cells #[.int .i64 0] 37)) w.heap.size 0 [.int .i64 op, .string tx, .slice a0 args.length p0, .slice a1 defs.length p1, .slice a2 kids.length p2] := fun j hj => by
    rw [World.cell?_alloc_past _ _ _ (by omega), hW1, World.cell?_alloc_at _ _ _ _ rfl]
    match j, hj with
    | 0, _ => rfl
    | 1, _ => rfl
    | 2, _ => rfl
    | 3, _ => rfl
    | 4, _ => rfl
  have b2 : Below W1.heap.size W1 (W1.alloc (.cells #[.int .i64 0] 37)) := (Below.refl _ W1).alloc (Nat.le_refl _) _
  have hw := work_67_no B u op tx args defs kids w.heap.size _ (W1.alloc (.cells #[.int .i64 0] 37)) (hu.trans ((Below.keptC (b1.trans (b2.mono (by omega)))).mono hB)) (by simp; omega) hf hv' cc
  have ha := attempt_63_up 67 #[.pointer (some ⟨w.heap.size, 0, none⟩)] 2 W1 (enters_of Tryz.func67 (by kernel_rfl) rfl)
    (hw.mono fun e w' ⟨h1, h2⟩ => ⟨h1, h2.mono (by simp)⟩)
  have HW := Lib.hid hW1
  go_enter Tryz.func24, Tryz.ntmps24
  clear hW1
  go_wp2_with (go_at_call 63; rw [← HW.out]; refine ha.mono ?_; clear ha; rintro e w' ⟨rfl, hb⟩)
  go_ret2
  exact ⟨rfl, b1.trans (hb.mono (by omega))⟩

set_option maxHeartbeats 1000000 in
theorem work_72_no (B : Nat) (u : World) (op : Int) (t : ByteArray) (args : List Exp) (defs : List Clause) (kids : List Term) (b : Nat) (cs : List Value) (w : World) (hu : KeptC B u w) (hB : B ≤ w.heap.size)
    (hf : ¬ Formed (.proc (.mk op t args defs kids))) (hv : TermAt B u cs (.mk op t args defs kids)) (hc : CellsAt w b 0 cs) :
    Calls Tryz.prog 72 #[.pointer (some ⟨b, 0, none⟩)] w fun e w' => e = .panicked (refusal 2) ∧ Below w.heap.size w w' := by
  have hv' := hv
  unfold TermAt at hv
  obtain ⟨hz, _, _, _, rfl, ⟨a0, p0, rfl, _⟩, ⟨a1, p1, rfl, _⟩, ⟨a2, p2, rfl, _⟩⟩ := hv
  obtain ⟨c0, c1, c2, c3, c4⟩ := cells5 hc
  have hm := must_no B u _ (.iface 83 (.agg #[.int .i64 op, .string t, .slice a0 args.length p0, .slice a1 defs.length p1, .slice a2 kids.length p2])) w hu hB hf ⟨_, rfl, hv'⟩
  go_enter Tryz.func72, Tryz.ntmps72
  go_wp2_with (go_at_call 65; refine hm.mono ?_; clear hm; rintro e w1 ⟨rfl, hb1⟩)
  exact ⟨rfl, rfl, hb1⟩

set_option maxHeartbeats 1000000 in
theorem api_29_no (B : Nat) (u : World) (t : Term) (cs : List Value) (w : World) (hu : KeptC B u w) (hB : B ≤ w.heap.size) (hf : ¬ Formed (.proc t)) (hv : TermAt B u cs t) :
    Calls Tryz.prog 29 #[.agg cs.toArray] w fun e w' => e = .returned (.tuple #[.slice none 0 0, .int .i64 2]) ∧ Below w.heap.size w w' := by
  obtain ⟨op, tx, args, defs, kids⟩ := t
  have hv' := hv
  unfold TermAt at hv
  obtain ⟨hz, _, _, _, rfl, ⟨a0, p0, rfl, _⟩, ⟨a1, p1, rfl, _⟩, ⟨a2, p2, rfl, _⟩⟩ := hv
  have hmf : ∀ (fn : Fn) (first cap : Array Value) (w : World), (Instr.makeFunc fn first cap).run Tryz.prog w = .ok (.func fn first cap) w := fun _ _ _ _ => rfl
  obtain ⟨W1, hW1⟩ : ∃ W1, W1 = w.alloc (.cells #[.int .i64 op, .string tx, .slice a0 args.length p0, .slice a1 defs.length p1, .slice a2 kids.length p2] 33) := ⟨_, rfl⟩
  have b1 : Below w.heap.size w W1 := by rw [hW1]; exact (Below.refl _ w).alloc (Nat.le_refl _) _
  have z1 : W1.heap.size = w.heap.size + 1 := by rw [hW1]; simp
  have cc : CellsAt (W1.alloc (.cells #[.int .i64 0] 37)) w.heap.size 0 [.int .i64 op, .string tx, .slice a0 args.length p0, .slice a1 defs.length p1, .slice a2 kids.length p2] := fun j hj => by
    rw [World.cell?_alloc_past _ _ _ (by omega), hW1, World.cell?_alloc_at _ _ _ _ rfl]
    match j, hj with
    | 0, _ => rfl
    | 1, _ => rfl
    | 2, _ => rfl
    | 3, _ => rfl
    | 4, _ => rfl
  have b2 : Below W1.heap.size W1 (W1.alloc (.cells #[.int .i64 0] 37)) := (Below.refl _ W1).alloc (Nat.le_refl _) _
  have hw := work_72_no B u op tx args defs kids w.heap.size _ (W1.alloc (.cells #[.int .i64 0] 37)) (hu.trans ((Below.keptC (b1.trans (b2.mono (by omega)))).mono hB)) (by simp; omega) hf hv' cc
  have ha := attempt_71_up 72 #[.pointer (some ⟨w.heap.size, 0, none⟩)] 2 W1 (enters_of Tryz.func72 (by kernel_rfl) rfl)
    (hw.mono fun e w' ⟨h1, h2⟩ => ⟨h1, h2.mono (by simp)⟩)
  have HW := Lib.hid hW1
  go_enter Tryz.func29, Tryz.ntmps29
  clear hW1
  go_wp2_with (go_at_call 71; rw [← HW.out]; refine ha.mono ?_; clear ha; rintro e w' ⟨rfl, hb⟩)
  go_ret2
  exact ⟨rfl, b1.trans (hb.mono (by omega))⟩

set_option maxHeartbeats 1000000 in
theorem formed_no (B : Nat) (u : World) (p : Part) (v : Value) (w : World) (hu : KeptC B u w) (hB : B ≤ w.heap.size) (hf : ¬ Formed p) (hv : PartAt B u v p) :
    Calls Tryz.prog 68 #[v] w fun e w' => e = .returned (.int .i64 2) ∧ Below w.heap.size w w' := by
  obtain ⟨ty, x, rfl⟩ := part_iface hv
  have hmf : ∀ (fn : Fn) (first cap : Array Value) (w : World), (Instr.makeFunc fn first cap).run Tryz.prog w = .ok (.func fn first cap) w := fun _ _ _ _ => rfl
  obtain ⟨W1, hW1⟩ : ∃ W1, W1 = w.alloc (.cells #[.iface ty x] 154) := ⟨_, rfl⟩
  have b1 : Below w.heap.size w W1 := by rw [hW1]; exact (Below.refl _ w).alloc (Nat.le_refl _) _
  have z1 : W1.heap.size = w.heap.size + 1 := by rw [hW1]; simp
  have cc : (W1.alloc (.cells #[.int .i64 0] 37)).cell? ⟨w.heap.size, 0, none⟩ = some (.iface ty x) := by
    rw [World.cell?_alloc_past _ _ _ (by omega), hW1, World.cell?_alloc_at _ _ _ _ rfl]; rfl
  have b2 : Below W1.heap.size W1 (W1.alloc (.cells #[.int .i64 0] 37)) := (Below.refl _ W1).alloc (Nat.le_refl _) _
  have hm := must_no B u p _ (W1.alloc (.cells #[.int .i64 0] 37)) (hu.trans ((Below.keptC (b1.trans (b2.mono (by omega)))).mono hB)) (by simp; omega) hf hv
  have HW := Lib.hid hW1; clear hW1
  have hw : Calls Tryz.prog 120 #[.pointer (some ⟨w.heap.size, 0, none⟩)] (W1.alloc (.cells #[.int .i64 0] 37)) fun e w' => e = .panicked (refusal 2) ∧ Below (W1.heap.size + 1) (W1.alloc (.cells #[.int .i64 0] 37)) w' := by
    go_enter Tryz.func120, Tryz.ntmps120
    go_wp2_with (go_at_call 65; refine hm.mono ?_; clear hm; rintro e w1 ⟨rfl, hb1⟩)
    exact ⟨rfl, rfl, hb1.mono (by simp)⟩
  have ha := attempt_119_up 120 #[.pointer (some ⟨w.heap.size, 0, none⟩)] 2 W1 (enters_of Tryz.func120 (by kernel_rfl) rfl) hw
  go_enter Tryz.func68, Tryz.ntmps68
  clear hw
  go_wp2_with (go_at_call 119; rw [← HW.out]; refine ha.mono ?_; clear ha; rintro e w' ⟨rfl, hb⟩)
  go_ret
  exact ⟨rfl, b1.trans (hb.mono (by omega))⟩

set_option maxHeartbeats 1000000 in
theorem check_no (B : Nat) (u : World) (t : Term) (cs : List Value) (w : World) (hu : KeptC B u w) (hB : B ≤ w.heap.size) (hf : ¬ Formed (.proc t)) (hv : TermAt B u cs t) :
    Calls Tryz.prog 25 #[.agg cs.toArray] w fun e w' => e = .returned (.int .i64 2) ∧ Below w.heap.size w w' := by
  obtain ⟨op, tx, args, defs, kids⟩ := t
  have hv' := hv
  unfold TermAt at hv
  obtain ⟨hz, _, _, _, rfl, ⟨a0, p0, rfl, _⟩, ⟨a1, p1, rfl, _⟩, ⟨a2, p2, rfl, _⟩⟩ := hv
  have b1 : Below w.heap.size w (w.alloc (.cells #[.int .i64 op, .string tx, .slice a0 args.length p0, .slice a1 defs.length p1, .slice a2 kids.length p2] 33)) := (Below.refl _ w).alloc (Nat.le_refl _) _
  have hm := formed_no B u (.proc (.mk op tx args defs kids)) (.iface 83 (.agg #[.int .i64 op, .string tx, .slice a0 args.length p0, .slice a1 defs.length p1, .slice a2 kids.length p2])) _ (hu.trans ((Below.keptC b1).mono hB)) (by simp; omega) hf ⟨_, rfl, hv'⟩
  go_enter Tryz.func25, Tryz.ntmps25
  go_wp2_with (go_at_call 68; refine hm.mono ?_; clear hm; rintro e w1 ⟨rfl, hb1⟩)
  go_ret
  exact ⟨rfl, b1.trans (hb1.mono (by simp))⟩

set_option maxHeartbeats 1000000 in
theorem checkExp_any (B : Nat) (u : World) (t : Exp) (cs : List Value) (w : World) (hu : KeptC B u w) (hB : B ≤ w.heap.size) (hv : ExpAt B u cs t) :
    Calls Tryz.prog 26 #[.agg cs.toArray] w fun e w' => ((Formed (.exp t) ∧ e = .returned (.int .i64 0)) ∨ (¬ Formed (.exp t) ∧ e = .returned (.int .i64 2))) ∧ Below w.heap.size w w' := by
  obtain ⟨op, n, tx, kids⟩ := t
  have hv' := hv
  unfold ExpAt at hv
  obtain ⟨hz, _, rfl, ⟨a0, p0, rfl, _⟩⟩ := hv
  have b1 : Below w.heap.size w (w.alloc (.cells #[.int .i64 op, .int .i64 n, .string tx, .slice a0 kids.length p0] 36)) := (Below.refl _ w).alloc (Nat.le_refl _) _
  by_cases hf : Formed (.exp (.mk op n tx kids))
  · have hm := formed_ok B u (.exp (.mk op n tx kids)) (.iface 88 (.agg #[.int .i64 op, .int .i64 n, .string tx, .slice a0 kids.length p0])) _ (hu.trans ((Below.keptC b1).mono hB)) (by simp; omega) hf ⟨_, rfl, hv'⟩
    have HF := Lib.hid hf; clear hf
    go_enter Tryz.func26, Tryz.ntmps26
    go_wp2_with (go_at_call 68; refine hm.mono ?_; clear hm; rintro e w1 ⟨rfl, hb1⟩)
    go_ret
    exact ⟨.inl ⟨HF.out, rfl⟩, b1.trans (hb1.mono (by simp))⟩
  · have hm := formed_no B u (.exp (.mk op n tx kids)) (.iface 88 (.agg #[.int .i64 op, .int .i64 n, .string tx, .slice a0 kids.length p0])) _ (hu.trans ((Below.keptC b1).mono hB)) (by simp; omega) hf ⟨_, rfl, hv'⟩
    have HF := Lib.hid hf; clear hf
    go_enter Tryz.func26, Tryz.ntmps26
    go_wp2_with (go_at_call 68; refine hm.mono ?_; clear hm; rintro e w1 ⟨rfl, hb1⟩)
    go_ret
    exact ⟨.inr ⟨HF.out, rfl⟩, b1.trans (hb1.mono (by simp))⟩

end Go.Proofs.YtjmlaeofjjhfmaaGreat
