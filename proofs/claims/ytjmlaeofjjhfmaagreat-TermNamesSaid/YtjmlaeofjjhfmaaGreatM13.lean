/- attempt at a process. -/
import Derived.Test.YtjmlaeofjjhfmaaGreatM12
import Derived.Test.YtjmlaeofjjhfmaaGreatM11
set_option linter.unusedVariables false
set_option linter.unusedSimpArgs false
namespace Go.Proofs.YtjmlaeofjjhfmaaGreat
open Go.RowKit

theorem idle_136 (p : Addr) (w : World) :
    CallsD Tryz.prog 136 #[.pointer (some p)] .returning w fun e u' w' => e = .returned (.tuple #[]) ∧ u' = .returning ∧ w' = w := by
  refine callsD_of_wpS Tryz.func136 rfl fun c₀ cs hu => ?_
  apply wpS_seq
  apply wpS_region
  simp [wpOpsS, go_sem, recoverD, hu, Tryz.ntmps136, Exit.thenS]
  have e20 := eql20
  refine wpS_of_wp ?_
  simp only [Array.replicate, Array.setIfInBounds]
  go_wp2
  cases c₀
  simp_all [bodyPostS, results, Tryz.results136]

theorem catch_136 (p : Addr) (x : Value) (c : Int) (older : List PanicEntry) (w : World) (hc : w.cell? p = some x) (hx : x.cells = #[x]) (hz : w.frozen? p = false) :
    CallsD Tryz.prog 136 #[.pointer (some p)] (.panicking ({ v := .iface 152 (.int .i64 c), recovered := false } :: older)) w fun e u' w' =>
      e = .returned (.tuple #[]) ∧ u' = .panicking ({ v := .iface 152 (.int .i64 c), recovered := true } :: older) ∧ w' = w.setCell p (.int .i64 c) := by
  refine callsD_of_wpS Tryz.func136 rfl fun c₀ cs hu => ?_
  apply wpS_seq
  apply wpS_region
  simp [wpOpsS, go_sem, recoverD, hu, Tryz.ntmps136, Exit.thenS]
  have e20 := eql20'
  have q := ta152
  refine wpS_of_wp ?_
  simp only [Array.replicate, Array.setIfInBounds]
  go_wp2
  simp [bodyPostS, results, Tryz.results136, hu]

def zero33 : Array Value := #[.int .i64 0, .string ⟨#[]⟩, .slice none 0 0, .slice none 0 0, .slice none 0 0]


/-- A process as five values. -/
structure T5 where
  op : Int
  t : ByteArray
  a0 : Option Addr
  n0 : Nat
  c0 : Nat
  a1 : Option Addr
  n1 : Nat
  c1 : Nat
  a2 : Option Addr
  n2 : Nat
  c2 : Nat
def T5.cells (x : T5) : Array Value := #[.int .i64 x.op, .string x.t, .slice x.a0 x.n0 x.c0, .slice x.a1 x.n1 x.c1, .slice x.a2 x.n2 x.c2]

set_option maxHeartbeats 2000000 in
/-- attempt at a process, where work returns one. -/
theorem attempt_82 (K : FuncId) (caps : Array Value) (w : World) (R : T5 → World → Prop) (hK : ∀ args w, (callFunc K args).run Tryz.prog w = .ok (.enter K args) w)
    (hw : Calls Tryz.prog K caps ((w.alloc (.cells #[.int .i64 0, .string ⟨#[]⟩, .slice none 0 0, .slice none 0 0, .slice none 0 0] 33)).alloc (.cells #[.int .i64 0] 37)) fun e w' => ∃ x : T5, e = .returned (.agg #[.int .i64 x.op, .string x.t, .slice x.a0 x.n0 x.c0, .slice x.a1 x.n1 x.c1, .slice x.a2 x.n2 x.c2]) ∧ R x w' ∧ Below (w.heap.size + 2) ((w.alloc (.cells #[.int .i64 0, .string ⟨#[]⟩, .slice none 0 0, .slice none 0 0, .slice none 0 0] 33)).alloc (.cells #[.int .i64 0] 37)) w') :
    Calls Tryz.prog 82 #[.func (.func K) #[] caps] w fun e w' => ∃ (x : T5) (w1 : World), e = .returned (.tuple #[.agg #[.int .i64 x.op, .string x.t, .slice x.a0 x.n0 x.c0, .slice x.a1 x.n1 x.c1, .slice x.a2 x.n2 x.c2], .int .i64 0]) ∧ R x w1 ∧ w1.heap.size = w'.heap.size ∧ (∀ b, w.heap.size + 2 ≤ b → w'.heap[b]? = w1.heap[b]?) ∧ Below w.heap.size w w' := by
  have hmf : ∀ (fn : Fn) (first cap : Array Value) (w : World), (Instr.makeFunc fn first cap).run Tryz.prog w = .ok (.func fn first cap) w := fun _ _ _ _ => rfl
  go_enter_defers Tryz.func82, Tryz.ntmps82
  go_wp2_with fail
  refine hw.mono ?_
  rintro e w1 ⟨⟨op, t, a0, n0, c0, a1, n1, c1, a2, n2, c2⟩, rfl, hR, hb⟩
  have hbk := hb.block w.heap.size (by omega)
  have hbk2 := hb.block (w.heap.size + 1) (by omega)
  have e1 : ((w.alloc (.cells #[.int .i64 0, .string ⟨#[]⟩, .slice none 0 0, .slice none 0 0, .slice none 0 0] 33)).alloc (.cells #[.int .i64 0] 37)).heap[w.heap.size]? = some (.cells #[.int .i64 0, .string ⟨#[]⟩, .slice none 0 0, .slice none 0 0, .slice none 0 0] 33) := by
    rw [Below.heap_alloc _ _ _ (by simp)]; exact World.alloc_heap_new w _
  have e2 : ((w.alloc (.cells #[.int .i64 0, .string ⟨#[]⟩, .slice none 0 0, .slice none 0 0, .slice none 0 0] 33)).alloc (.cells #[.int .i64 0] 37)).heap[w.heap.size + 1]? = some (.cells #[.int .i64 0] 37) := by
    have := World.alloc_heap_new (w.alloc (.cells #[.int .i64 0, .string ⟨#[]⟩, .slice none 0 0, .slice none 0 0, .slice none 0 0] 33)) (.cells #[.int .i64 0] 37); rwa [World.size_alloc] at this
  rw [e1] at hbk; rw [e2] at hbk2
  have k0 : w1.cell? ⟨w.heap.size, 0, none⟩ = some (.int .i64 0) := by simp [World.cell?, hbk]
  have k1 : w1.cell? ⟨w.heap.size, 1, none⟩ = some (.string ⟨#[]⟩) := by simp [World.cell?, hbk]
  have k2 : w1.cell? ⟨w.heap.size, 2, none⟩ = some (.slice none 0 0) := by simp [World.cell?, hbk]
  have k3 : w1.cell? ⟨w.heap.size, 3, none⟩ = some (.slice none 0 0) := by simp [World.cell?, hbk]
  have k4 : w1.cell? ⟨w.heap.size, 4, none⟩ = some (.slice none 0 0) := by simp [World.cell?, hbk]
  have kf : ∀ o, w1.frozen? ⟨w.heap.size, o, none⟩ = false := fun o => by simp [World.frozen?, hbk]
  have k5 : w1.cell? ⟨w.heap.size + 1, 0, none⟩ = some (.int .i64 0) := by simp [World.cell?, hbk2]
  have kf5 : w1.frozen? ⟨w.heap.size + 1, 0, none⟩ = false := by simp [World.frozen?, hbk2]
  have hBw : Below w.heap.size w w1 := (((Below.refl _ w).alloc (Nat.le_refl _) _).alloc (by simp) _).trans (hb.mono (by omega))
  clear hbk hbk2 e1 e2
  have HB := Lib.hid hb; clear hb
  go_wp2
  refine leaves_cons (f := 136) (args := #[.pointer (some ⟨w.heap.size + 1, 0, none⟩)]) (by simp) (by simp [go_sem]) ?_
  refine (idle_136 _ _).mono ?_
  rintro e u' w'' ⟨rfl, rfl, rfl⟩
  simp [Leaves, settle, results, Tryz.results82, go_sem, k0, k1, k2, k3, k4, k5]
  refine ⟨⟨op, t, a0, n0, c0, a1, n1, c1, a2, n2, c2⟩, ⟨rfl, rfl, ⟨rfl, rfl, rfl⟩, ⟨rfl, rfl, rfl⟩, ⟨rfl, rfl, rfl⟩⟩, w1, hR, rfl, ?_, ?_⟩
  · intro b hb
    rw [Below.heap_setCell _ _ _ _ (by simp; omega), Below.heap_setCell _ _ _ _ (by simp; omega), Below.heap_setCell _ _ _ _ (by simp; omega), Below.heap_setCell _ _ _ _ (by simp; omega), Below.heap_setCell _ _ _ _ (by simp; omega), Below.heap_setCell _ _ _ _ (by simp; omega)]
  · exact (((((hBw.setCell (by simp) _).setCell (by simp) _).setCell (by simp) _).setCell (by simp) _).setCell (by simp) _).setCell (by simp) _

end Go.Proofs.YtjmlaeofjjhfmaaGreat
/- Nodes, Depth, formed, Check, mustFit, mustBeName at what is formed. -/
namespace Go.Proofs.YtjmlaeofjjhfmaaGreat
open Go.RowKit Go.Shelf

set_option maxHeartbeats 1000000 in
theorem work_64 (B : Nat) (u : World) (op : Int) (t : ByteArray) (args : List Exp) (defs : List Clause) (kids : List Term) (b : Nat) (cs : List Value) (w : World) (hu : KeptC B u w) (hB : B ≤ w.heap.size)
    (hf : Formed (.proc (.mk op t args defs kids))) (hv : TermAt B u cs (.mk op t args defs kids)) (hc : CellsAt w b 0 cs) :
    Calls Tryz.prog 64 #[.pointer (some ⟨b, 0, none⟩)] w fun e w' => e = .returned (.int .i64 (Part.proc (.mk op t args defs kids)).size) ∧ Below w.heap.size w w' := by
  have hv' := hv
  unfold TermAt at hv
  obtain ⟨hz, _, _, _, rfl, ⟨a0, p0, rfl, _⟩, ⟨a1, p1, rfl, _⟩, ⟨a2, p2, rfl, _⟩⟩ := hv
  obtain ⟨c0, c1, c2, c3, c4⟩ := cells5 hc
  have hm := must_ok B u _ (.iface 83 (.agg #[.int .i64 op, .string t, .slice a0 args.length p0, .slice a1 defs.length p1, .slice a2 kids.length p2])) w hu hB hf ⟨_, rfl, hv'⟩
  have hms := fun w1 (h1 : KeptC B u w1) (h2 : B ≤ w1.heap.size) => measure_any B u _ (.iface 83 (.agg #[.int .i64 op, .string t, .slice a0 args.length p0, .slice a1 defs.length p1, .slice a2 kids.length p2])) w1 h1 h2 hf ⟨_, rfl, hv'⟩
  go_enter Tryz.func64, Tryz.ntmps64
  go_wp2_with (first
    | (go_at_call 65; refine hm.mono ?_; clear hm; rintro e w1 ⟨rfl, hb1⟩; obtain ⟨d0, d1, d2, d3, d4⟩ := cells5 (hc.below hb1 (lt_of_cell c0)))
    | (go_at_call 66; refine (hms _ (hu.trans ((Below.keptC hb1).mono hB)) (by have := hb1.size; omega)).mono ?_; clear hms; rintro e w2 ⟨rfl, hb2⟩))
  go_ret
  exact ⟨rfl, hb1.trans (hb2.mono hb1.size)⟩

set_option maxHeartbeats 1000000 in
theorem api_23 (B : Nat) (u : World) (t : Term) (cs : List Value) (w : World) (hu : KeptC B u w) (hB : B ≤ w.heap.size) (hf : Formed (.proc t)) (hv : TermAt B u cs t) :
    Calls Tryz.prog 23 #[.agg cs.toArray] w fun e w' => e = .returned (.tuple #[.int .i64 (Part.proc t).size, .int .i64 0]) ∧ Below w.heap.size w w' := by
  obtain ⟨op, tx, args, defs, kids⟩ := t
  have hv' := hv
  unfold TermAt at hv
  obtain ⟨hz, _, _, _, rfl, ⟨a0, p0, rfl, _⟩, ⟨a1, p1, rfl, _⟩, ⟨a2, p2, rfl, _⟩⟩ := hv
  have hmf : ∀ (fn : Fn) (first cap : Array Value) (w : World), (Instr.makeFunc fn first cap).run Tryz.prog w = .ok (.func fn first cap) w := fun _ _ _ _ => rfl
  obtain ⟨W1, hW1⟩ : ∃ W1, W1 = w.alloc (.cells #[.int .i64 op, .string tx, .slice a0 args.length p0, .slice a1 defs.length p1, .slice a2 kids.length p2] 33) := ⟨_, rfl⟩
  have b1 : Below w.heap.size w W1 := by rw [hW1]; exact (Below.refl _ w).alloc (Nat.le_refl _) _
  have z1 : W1.heap.size = w.heap.size + 1 := by rw [hW1]; simp
  have cc : CellsAt (W1.alloc (.cells #[.int .i64 0] 37)) w.heap.size 0 [.int .i64 op, .string tx, .slice a0 args.length p0, .slice a1 defs.length p1, .slice a2 kids.length p2] := fun j hj => by
    rw [World.cell?_alloc_past _ _ _ (by omega), hW1, World.cell?_alloc_at _ _ _ _ rfl]
    match j, hj with
    | 0, _ => rfl
    | 1, _ => rfl
    | 2, _ => rfl
    | 3, _ => rfl
    | 4, _ => rfl
  have b2 : Below W1.heap.size W1 (W1.alloc (.cells #[.int .i64 0] 37)) := (Below.refl _ W1).alloc (Nat.le_refl _) _
  have hw := work_64 B u op tx args defs kids w.heap.size _ (W1.alloc (.cells #[.int .i64 0] 37)) (hu.trans ((Below.keptC (b1.trans (b2.mono (by omega)))).mono hB)) (by simp; omega) hf hv' cc
  have ha := attempt_63 64 #[.pointer (some ⟨w.heap.size, 0, none⟩)] W1 (fun v _ => v = .int .i64 (Part.proc (.mk op tx args defs kids)).size) (enters_of Tryz.func64 (by kernel_rfl) rfl)
    (hw.mono fun e w' ⟨h1, h2⟩ => ⟨_, h1, rfl, h2.mono (by simp)⟩)
  have HW := Lib.hid hW1
  go_enter Tryz.func23, Tryz.ntmps23
  clear hW1
  go_wp2_with (go_at_call 63; rw [← HW.out]; refine ha.mono ?_; clear ha; rintro e w' ⟨v, w1, rfl, rfl, hb, rfl⟩)
  go_ret2
  refine ⟨rfl, b1.trans (((b2.trans (hb.mono (Nat.le_succ _))).setCell (by simp; omega) _).mono (by omega))⟩

set_option maxHeartbeats 1000000 in
theorem work_67 (B : Nat) (u : World) (op : Int) (t : ByteArray) (args : List Exp) (defs : List Clause) (kids : List Term) (b : Nat) (cs : List Value) (w : World) (hu : KeptC B u w) (hB : B ≤ w.heap.size)
    (hf : Formed (.proc (.mk op t args defs kids))) (hv : TermAt B u cs (.mk op t args defs kids)) (hc : CellsAt w b 0 cs) :
    Calls Tryz.prog 67 #[.pointer (some ⟨b, 0, none⟩)] w fun e w' => e = .returned (.int .i64 (Part.proc (.mk op t args defs kids)).depth) ∧ Below w.heap.size w w' := by
  have hv' := hv
  unfold TermAt at hv
  obtain ⟨hz, _, _, _, rfl, ⟨a0, p0, rfl, _⟩, ⟨a1, p1, rfl, _⟩, ⟨a2, p2, rfl, _⟩⟩ := hv
  obtain ⟨c0, c1, c2, c3, c4⟩ := cells5 hc
  have hm := must_ok B u _ (.iface 83 (.agg #[.int .i64 op, .string t, .slice a0 args.length p0, .slice a1 defs.length p1, .slice a2 kids.length p2])) w hu hB hf ⟨_, rfl, hv'⟩
  have hms := fun w1 (h1 : KeptC B u w1) (h2 : B ≤ w1.heap.size) => measure_any B u _ (.iface 83 (.agg #[.int .i64 op, .string t, .slice a0 args.length p0, .slice a1 defs.length p1, .slice a2 kids.length p2])) w1 h1 h2 hf ⟨_, rfl, hv'⟩
  go_enter Tryz.func67, Tryz.ntmps67
  go_wp2_with (first
    | (go_at_call 65; refine hm.mono ?_; clear hm; rintro e w1 ⟨rfl, hb1⟩; obtain ⟨d0, d1, d2, d3, d4⟩ := cells5 (hc.below hb1 (lt_of_cell c0)))
    | (go_at_call 66; refine (hms _ (hu.trans ((Below.keptC hb1).mono hB)) (by have := hb1.size; omega)).mono ?_; clear hms; rintro e w2 ⟨rfl, hb2⟩))
  go_ret
  exact ⟨rfl, hb1.trans (hb2.mono hb1.size)⟩

set_option maxHeartbeats 1000000 in
theorem api_24 (B : Nat) (u : World) (t : Term) (cs : List Value) (w : World) (hu : KeptC B u w) (hB : B ≤ w.heap.size) (hf : Formed (.proc t)) (hv : TermAt B u cs t) :
    Calls Tryz.prog 24 #[.agg cs.toArray] w fun e w' => e = .returned (.tuple #[.int .i64 (Part.proc t).depth, .int .i64 0]) ∧ Below w.heap.size w w' := by
  obtain ⟨op, tx, args, defs, kids⟩ := t
  have hv' := hv
  unfold TermAt at hv
  obtain ⟨hz, _, _, _, rfl, ⟨a0, p0, rfl, _⟩, ⟨a1, p1, rfl, _⟩, ⟨a2, p2, rfl, _⟩⟩ := hv
  have hmf : ∀ (fn : Fn) (first cap : Array Value) (w : World), (Instr.makeFunc fn first cap).run Tryz.prog w = .ok (.func fn first cap) w := fun _ _ _ _ => rfl
  obtain ⟨W1, hW1⟩ : ∃ W1, W1 = w.alloc (.cells #[.int .i64 op, .string tx, .slice a0 args.length p0, .slice a1 defs.length p1, .slice a2 kids.length p2] 33) := ⟨_, rfl⟩
  have b1 : Below w.heap.size w W1 := by rw [hW1]; exact (Below.refl _ w).alloc (Nat.le_refl _) _
  have z1 : W1.heap.size = w.heap.size + 1 := by rw [hW1]; simp
  have cc : CellsAt (W1.alloc (.cells #[.int .i64 0] 37)) w.heap.size 0 [.int .i64 op, .string tx, .slice a0 args.length p0, .slice a1 defs.length p1, .slice a2 kids.length p2] := fun j hj => by
    rw [World.cell?_alloc_past _ _ _ (by omega), hW1, World.cell?_alloc_at _ _ _ _ rfl]
    match j, hj with
    | 0, _ => rfl
    | 1, _ => rfl
    | 2, _ => rfl
    | 3, _ => rfl
    | 4, _ => rfl
  have b2 : Below W1.heap.size W1 (W1.alloc (.cells #[.int .i64 0] 37)) := (Below.refl _ W1).alloc (Nat.le_refl _) _
  have hw := work_67 B u op tx args defs kids w.heap.size _ (W1.alloc (.cells #[.int .i64 0] 37)) (hu.trans ((Below.keptC (b1.trans (b2.mono (by omega)))).mono hB)) (by simp; omega) hf hv' cc
  have ha := attempt_63 67 #[.pointer (some ⟨w.heap.size, 0, none⟩)] W1 (fun v _ => v = .int .i64 (Part.proc (.mk op tx args defs kids)).depth) (enters_of Tryz.func67 (by kernel_rfl) rfl)
    (hw.mono fun e w' ⟨h1, h2⟩ => ⟨_, h1, rfl, h2.mono (by simp)⟩)
  have HW := Lib.hid hW1
  go_enter Tryz.func24, Tryz.ntmps24
  clear hW1
  go_wp2_with (go_at_call 63; rw [← HW.out]; refine ha.mono ?_; clear ha; rintro e w' ⟨v, w1, rfl, rfl, hb, rfl⟩)
  go_ret2
  refine ⟨rfl, b1.trans (((b2.trans (hb.mono (Nat.le_succ _))).setCell (by simp; omega) _).mono (by omega))⟩

set_option maxHeartbeats 1000000 in
theorem formed_ok (B : Nat) (u : World) (p : Part) (v : Value) (w : World) (hu : KeptC B u w) (hB : B ≤ w.heap.size) (hf : Formed p) (hv : PartAt B u v p) :
    Calls Tryz.prog 68 #[v] w fun e w' => e = .returned (.int .i64 0) ∧ Below w.heap.size w w' := by
  obtain ⟨ty, x, rfl⟩ := part_iface hv
  have hmf : ∀ (fn : Fn) (first cap : Array Value) (w : World), (Instr.makeFunc fn first cap).run Tryz.prog w = .ok (.func fn first cap) w := fun _ _ _ _ => rfl
  obtain ⟨W1, hW1⟩ : ∃ W1, W1 = w.alloc (.cells #[.iface ty x] 154) := ⟨_, rfl⟩
  have b1 : Below w.heap.size w W1 := by rw [hW1]; exact (Below.refl _ w).alloc (Nat.le_refl _) _
  have z1 : W1.heap.size = w.heap.size + 1 := by rw [hW1]; simp
  have cc : (W1.alloc (.cells #[.int .i64 0] 37)).cell? ⟨w.heap.size, 0, none⟩ = some (.iface ty x) := by
    rw [World.cell?_alloc_past _ _ _ (by omega), hW1, World.cell?_alloc_at _ _ _ _ rfl]; rfl
  have b2 : Below W1.heap.size W1 (W1.alloc (.cells #[.int .i64 0] 37)) := (Below.refl _ W1).alloc (Nat.le_refl _) _
  have hm := must_ok B u p _ (W1.alloc (.cells #[.int .i64 0] 37)) (hu.trans ((Below.keptC (b1.trans (b2.mono (by omega)))).mono hB)) (by simp; omega) hf hv
  have HW := Lib.hid hW1; clear hW1
  have hw : Calls Tryz.prog 120 #[.pointer (some ⟨w.heap.size, 0, none⟩)] (W1.alloc (.cells #[.int .i64 0] 37)) fun e w' => ∃ v, e = .returned v ∧ v = .bool true ∧ Below (W1.heap.size + 1) (W1.alloc (.cells #[.int .i64 0] 37)) w' := by
    go_enter Tryz.func120, Tryz.ntmps120
    go_wp2_with (go_at_call 65; refine hm.mono ?_; clear hm; rintro e w1 ⟨rfl, hb1⟩)
    go_ret
    exact ⟨_, rfl, rfl, hb1.mono (by simp)⟩
  have ha := attempt_119 120 #[.pointer (some ⟨w.heap.size, 0, none⟩)] W1 (fun v _ => v = .bool true) (enters_of Tryz.func120 (by kernel_rfl) rfl) hw
  go_enter Tryz.func68, Tryz.ntmps68
  clear hw
  go_wp2_with (go_at_call 119; rw [← HW.out]; refine ha.mono ?_; clear ha; rintro e w' ⟨v, w1, rfl, rfl, hb, rfl⟩)
  go_ret
  refine ⟨rfl, b1.trans (((b2.trans (hb.mono (Nat.le_succ _))).setCell (by simp; omega) _).mono (by omega))⟩

set_option maxHeartbeats 1000000 in
theorem check_ok (B : Nat) (u : World) (t : Term) (cs : List Value) (w : World) (hu : KeptC B u w) (hB : B ≤ w.heap.size) (hf : Formed (.proc t)) (hv : TermAt B u cs t) :
    Calls Tryz.prog 25 #[.agg cs.toArray] w fun e w' => e = .returned (.int .i64 0) ∧ Below w.heap.size w w' := by
  obtain ⟨op, tx, args, defs, kids⟩ := t
  have hv' := hv
  unfold TermAt at hv
  obtain ⟨hz, _, _, _, rfl, ⟨a0, p0, rfl, _⟩, ⟨a1, p1, rfl, _⟩, ⟨a2, p2, rfl, _⟩⟩ := hv
  have b1 : Below w.heap.size w (w.alloc (.cells #[.int .i64 op, .string tx, .slice a0 args.length p0, .slice a1 defs.length p1, .slice a2 kids.length p2] 33)) := (Below.refl _ w).alloc (Nat.le_refl _) _
  have hm := formed_ok B u (.proc (.mk op tx args defs kids)) (.iface 83 (.agg #[.int .i64 op, .string tx, .slice a0 args.length p0, .slice a1 defs.length p1, .slice a2 kids.length p2])) _ (hu.trans ((Below.keptC b1).mono hB)) (by simp; omega) hf ⟨_, rfl, hv'⟩
  go_enter Tryz.func25, Tryz.ntmps25
  go_wp2_with (go_at_call 68; refine hm.mono ?_; clear hm; rintro e w1 ⟨rfl, hb1⟩)
  go_ret
  exact ⟨rfl, b1.trans (hb1.mono (by simp))⟩

set_option maxHeartbeats 1000000 in
theorem mustFit_ok (B : Nat) (u : World) (t : Term) (cs : List Value) (w : World) (hu : KeptC B u w) (hB : B ≤ w.heap.size) (hf : Formed (.proc t)) (hv : TermAt B u cs t) :
    Calls Tryz.prog 88 #[.agg cs.toArray] w fun e w' => e = .returned (.tuple #[]) ∧ Below w.heap.size w w' := by
  obtain ⟨op, tx, args, defs, kids⟩ := t
  have hv' := hv
  unfold TermAt at hv
  obtain ⟨hz, _, _, _, rfl, ⟨a0, p0, rfl, _⟩, ⟨a1, p1, rfl, _⟩, ⟨a2, p2, rfl, _⟩⟩ := hv
  have b1 : Below w.heap.size w (w.alloc (.cells #[.int .i64 op, .string tx, .slice a0 args.length p0, .slice a1 defs.length p1, .slice a2 kids.length p2] 33)) := (Below.refl _ w).alloc (Nat.le_refl _) _
  have hm := check_ok B u (.mk op tx args defs kids) _ _ (hu.trans ((Below.keptC b1).mono hB)) (by simp; omega) hf hv'
  go_enter Tryz.func88, Tryz.ntmps88
  go_wp2_with (go_at_call 25; refine hm.mono ?_; clear hm; rintro e w1 ⟨rfl, hb1⟩)
  go_end0
  exact ⟨rfl, b1.trans (hb1.mono (by simp))⟩

set_option maxHeartbeats 1000000 in
theorem mustName_ok (s : ByteArray) (w : World) (hs : s.size ≤ maxLen) (hn : nameB s = true) :
    Calls Tryz.prog 84 #[.string s] w fun e w' => e = .returned (.tuple #[]) ∧ Below w.heap.size w w' := by
  go_enter Tryz.func84, Tryz.ntmps84
  go_wp2_with (go_at_call 16; refine (tname_any _ _ hs).mono ?_; rintro e w1 ⟨rfl, hb1⟩)
  go_end0
  exact ⟨rfl, hb1⟩

end Go.Proofs.YtjmlaeofjjhfmaaGreat
