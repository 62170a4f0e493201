/- refuse, and attempt at its five types: a work that returns; a work that gives up with a refusal. -/
import Derived.Test.YtjmlaeofjjhfmaaGreatM09
import Derived.Recover
import Derived.Defers
set_option linter.unusedVariables false
set_option linter.unusedSimpArgs false
namespace Go.Proofs.YtjmlaeofjjhfmaaGreat
open Go.RowKit

theorem eql20 (w : World) : (binOp .eql 20 .nilIface .nilIface).run Tryz.prog w = .ok (.bool true) w := by kernel_rfl
theorem eql20' (v : Value) (w : World) : (binOp .eql 20 (.iface 152 v) .nilIface).run Tryz.prog w = .ok (.bool false) w := by kernel_rfl
theorem ta152 (v : Value) (w : World) : (Instr.typeAssert (.iface 152 v) 20 152 true).run Tryz.prog w = .ok (.tuple #[v, .bool true]) w := by kernel_rfl

/-- The panic of a refusal. -/
def refusal (c : Int) : List PanicEntry := [{ v := .iface 152 (.int .i64 c), recovered := false }]

theorem refuse_any (c : Int) (w : World) : Calls Tryz.prog 103 #[.int .i64 c] w fun e w' => e = .panicked (refusal c) ∧ w' = w := by
  go_enter Tryz.func103, Tryz.ntmps103
  go_wp2
  simp [bodyPost, refusal]

theorem idle_115 (p : Addr) (w : World) :
    CallsD Tryz.prog 115 #[.pointer (some p)] .returning w fun e u' w' => e = .returned (.tuple #[]) ∧ u' = .returning ∧ w' = w := by
  refine callsD_of_wpS Tryz.func115 rfl fun c₀ cs hu => ?_
  apply wpS_seq
  apply wpS_region
  simp [wpOpsS, go_sem, recoverD, hu, Tryz.ntmps115, Exit.thenS]
  have e20 := eql20
  refine wpS_of_wp ?_
  simp only [Array.replicate, Array.setIfInBounds]
  go_wp2
  cases c₀
  simp_all [bodyPostS, results, Tryz.results115]

theorem catch_115 (p : Addr) (x : Value) (c : Int) (older : List PanicEntry) (w : World) (hc : w.cell? p = some x) (hx : x.cells = #[x]) (hz : w.frozen? p = false) :
    CallsD Tryz.prog 115 #[.pointer (some p)] (.panicking ({ v := .iface 152 (.int .i64 c), recovered := false } :: older)) w fun e u' w' =>
      e = .returned (.tuple #[]) ∧ u' = .panicking ({ v := .iface 152 (.int .i64 c), recovered := true } :: older) ∧ w' = w.setCell p (.int .i64 c) := by
  refine callsD_of_wpS Tryz.func115 rfl fun c₀ cs hu => ?_
  apply wpS_seq
  apply wpS_region
  simp [wpOpsS, go_sem, recoverD, hu, Tryz.ntmps115, Exit.thenS]
  have e20 := eql20'
  have q := ta152
  refine wpS_of_wp ?_
  simp only [Array.replicate, Array.setIfInBounds]
  go_wp2
  simp [bodyPostS, results, Tryz.results115, hu]

set_option maxHeartbeats 1000000 in
/-- attempt, where work returns. -/
theorem attempt_63 (K : FuncId) (caps : Array Value) (w : World) (R : Value → World → Prop) (hK : ∀ args w, (callFunc K args).run Tryz.prog w = .ok (.enter K args) w)
    (hw : Calls Tryz.prog K caps (w.alloc (.cells #[.int .i64 0] 37)) fun e w' => ∃ v, e = .returned v ∧ R v w' ∧ Below (w.heap.size + 1) (w.alloc (.cells #[.int .i64 0] 37)) w') :
    Calls Tryz.prog 63 #[.func (.func K) #[] caps] w fun e w' => ∃ v w1, e = .returned (.tuple #[v, .int .i64 0]) ∧ R v w1 ∧ Below (w.heap.size + 1) (w.alloc (.cells #[.int .i64 0] 37)) w1 ∧ w' = w1.setCell ⟨w.heap.size, 0, none⟩ (.int .i64 0) := by
  have hmf : ∀ (fn : Fn) (first cap : Array Value) (w : World), (Instr.makeFunc fn first cap).run Tryz.prog w = .ok (.func fn first cap) w := fun _ _ _ _ => rfl
  go_enter_defers Tryz.func63, Tryz.ntmps63
  go_wp2_with fail
  refine hw.mono ?_
  rintro e w1 ⟨v, rfl, hR, hb⟩
  have hcell : w1.cell? ⟨w.heap.size, 0, none⟩ = some (.int .i64 0) := (hb.cell (p := ⟨w.heap.size, 0, none⟩) (by simp)).trans (by rw [World.cell?_alloc_at _ _ _ _ rfl]; rfl)
  have hfr : w1.frozen? ⟨w.heap.size, 0, none⟩ = false := (hb.frozen (p := ⟨w.heap.size, 0, none⟩) (by simp)).trans (World.frozen?_alloc_at _ _ _ _ rfl)
  go_wp2
  refine leaves_cons (f := 115) (args := #[.pointer (some ⟨w.heap.size, 0, none⟩)]) (by simp) (by simp [go_sem]) ?_
  refine (idle_115 _ _).mono ?_
  rintro e u' w'' ⟨rfl, rfl, rfl⟩
  simp [Leaves, settle, results, Tryz.results63, go_sem, hcell]
  exact ⟨w1, hR, hb, rfl⟩

set_option maxHeartbeats 1000000 in
/-- attempt, where work gives up. -/
theorem attempt_63_up (K : FuncId) (caps : Array Value) (c : Int) (w : World) (hK : ∀ args w, (callFunc K args).run Tryz.prog w = .ok (.enter K args) w)
    (hw : Calls Tryz.prog K caps (w.alloc (.cells #[.int .i64 0] 37)) fun e w' => e = .panicked (refusal c) ∧ Below (w.heap.size + 1) (w.alloc (.cells #[.int .i64 0] 37)) w') :
    Calls Tryz.prog 63 #[.func (.func K) #[] caps] w fun e w' => e = .returned (.tuple #[.int .i64 0, .int .i64 c]) ∧ Below w.heap.size w w' := by
  have hmf : ∀ (fn : Fn) (first cap : Array Value) (w : World), (Instr.makeFunc fn first cap).run Tryz.prog w = .ok (.func fn first cap) w := fun _ _ _ _ => rfl
  go_enter_defers Tryz.func63, Tryz.ntmps63
  go_wp2_with fail
  refine hw.mono ?_
  rintro e w1 ⟨rfl, hb⟩
  have hcell : w1.cell? ⟨w.heap.size, 0, none⟩ = some (.int .i64 0) := (hb.cell (p := ⟨w.heap.size, 0, none⟩) (by simp)).trans (by rw [World.cell?_alloc_at _ _ _ _ rfl]; rfl)
  have hfr : w1.frozen? ⟨w.heap.size, 0, none⟩ = false := (hb.frozen (p := ⟨w.heap.size, 0, none⟩) (by simp)).trans (World.frozen?_alloc_at _ _ _ _ rfl)
  have hBw : Below w.heap.size w w1 := ((Below.refl _ w).alloc (Nat.le_refl _) _).trans (hb.mono (Nat.le_succ _))
  go_wp2
  refine leaves_cons (f := 115) (args := #[.pointer (some ⟨w.heap.size, 0, none⟩)]) (by simp) (by simp [go_sem]) ?_
  refine (catch_115 _ _ c [] _ hcell rfl hfr).mono ?_
  rintro e u' w'' ⟨rfl, rfl, rfl⟩
  simp [Leaves, settle, results, Tryz.results63, go_sem, hcell]
  exact hBw.setCell (Nat.le_refl _) _

theorem idle_125 (p : Addr) (w : World) :
    CallsD Tryz.prog 125 #[.pointer (some p)] .returning w fun e u' w' => e = .returned (.tuple #[]) ∧ u' = .returning ∧ w' = w := by
  refine callsD_of_wpS Tryz.func125 rfl fun c₀ cs hu => ?_
  apply wpS_seq
  apply wpS_region
  simp [wpOpsS, go_sem, recoverD, hu, Tryz.ntmps125, Exit.thenS]
  have e20 := eql20
  refine wpS_of_wp ?_
  simp only [Array.replicate, Array.setIfInBounds]
  go_wp2
  cases c₀
  simp_all [bodyPostS, results, Tryz.results125]

theorem catch_125 (p : Addr) (x : Value) (c : Int) (older : List PanicEntry) (w : World) (hc : w.cell? p = some x) (hx : x.cells = #[x]) (hz : w.frozen? p = false) :
    CallsD Tryz.prog 125 #[.pointer (some p)] (.panicking ({ v := .iface 152 (.int .i64 c), recovered := false } :: older)) w fun e u' w' =>
      e = .returned (.tuple #[]) ∧ u' = .panicking ({ v := .iface 152 (.int .i64 c), recovered := true } :: older) ∧ w' = w.setCell p (.int .i64 c) := by
  refine callsD_of_wpS Tryz.func125 rfl fun c₀ cs hu => ?_
  apply wpS_seq
  apply wpS_region
  simp [wpOpsS, go_sem, recoverD, hu, Tryz.ntmps125, Exit.thenS]
  have e20 := eql20'
  have q := ta152
  refine wpS_of_wp ?_
  simp only [Array.replicate, Array.setIfInBounds]
  go_wp2
  simp [bodyPostS, results, Tryz.results125, hu]

set_option maxHeartbeats 1000000 in
/-- attempt, where work returns. -/
theorem attempt_71 (K : FuncId) (caps : Array Value) (w : World) (R : Value → World → Prop) (hK : ∀ args w, (callFunc K args).run Tryz.prog w = .ok (.enter K args) w)
    (hw : Calls Tryz.prog K caps (w.alloc (.cells #[.int .i64 0] 37)) fun e w' => ∃ v, e = .returned v ∧ R v w' ∧ Below (w.heap.size + 1) (w.alloc (.cells #[.int .i64 0] 37)) w') :
    Calls Tryz.prog 71 #[.func (.func K) #[] caps] w fun e w' => ∃ v w1, e = .returned (.tuple #[v, .int .i64 0]) ∧ R v w1 ∧ Below (w.heap.size + 1) (w.alloc (.cells #[.int .i64 0] 37)) w1 ∧ w' = w1.setCell ⟨w.heap.size, 0, none⟩ (.int .i64 0) := by
  have hmf : ∀ (fn : Fn) (first cap : Array Value) (w : World), (Instr.makeFunc fn first cap).run Tryz.prog w = .ok (.func fn first cap) w := fun _ _ _ _ => rfl
  go_enter_defers Tryz.func71, Tryz.ntmps71
  go_wp2_with fail
  refine hw.mono ?_
  rintro e w1 ⟨v, rfl, hR, hb⟩
  have hcell : w1.cell? ⟨w.heap.size, 0, none⟩ = some (.int .i64 0) := (hb.cell (p := ⟨w.heap.size, 0, none⟩) (by simp)).trans (by rw [World.cell?_alloc_at _ _ _ _ rfl]; rfl)
  have hfr : w1.frozen? ⟨w.heap.size, 0, none⟩ = false := (hb.frozen (p := ⟨w.heap.size, 0, none⟩) (by simp)).trans (World.frozen?_alloc_at _ _ _ _ rfl)
  go_wp2
  refine leaves_cons (f := 125) (args := #[.pointer (some ⟨w.heap.size, 0, none⟩)]) (by simp) (by simp [go_sem]) ?_
  refine (idle_125 _ _).mono ?_
  rintro e u' w'' ⟨rfl, rfl, rfl⟩
  simp [Leaves, settle, results, Tryz.results71, go_sem, hcell]
  exact ⟨w1, hR, hb, rfl⟩

set_option maxHeartbeats 1000000 in
/-- attempt, where work gives up. -/
theorem attempt_71_up (K : FuncId) (caps : Array Value) (c : Int) (w : World) (hK : ∀ args w, (callFunc K args).run Tryz.prog w = .ok (.enter K args) w)
    (hw : Calls Tryz.prog K caps (w.alloc (.cells #[.int .i64 0] 37)) fun e w' => e = .panicked (refusal c) ∧ Below (w.heap.size + 1) (w.alloc (.cells #[.int .i64 0] 37)) w') :
    Calls Tryz.prog 71 #[.func (.func K) #[] caps] w fun e w' => e = .returned (.tuple #[.slice none 0 0, .int .i64 c]) ∧ Below w.heap.size w w' := by
  have hmf : ∀ (fn : Fn) (first cap : Array Value) (w : World), (Instr.makeFunc fn first cap).run Tryz.prog w = .ok (.func fn first cap) w := fun _ _ _ _ => rfl
  go_enter_defers Tryz.func71, Tryz.ntmps71
  go_wp2_with fail
  refine hw.mono ?_
  rintro e w1 ⟨rfl, hb⟩
  have hcell : w1.cell? ⟨w.heap.size, 0, none⟩ = some (.int .i64 0) := (hb.cell (p := ⟨w.heap.size, 0, none⟩) (by simp)).trans (by rw [World.cell?_alloc_at _ _ _ _ rfl]; rfl)
  have hfr : w1.frozen? ⟨w.heap.size, 0, none⟩ = false := (hb.frozen (p := ⟨w.heap.size, 0, none⟩) (by simp)).trans (World.frozen?_alloc_at _ _ _ _ rfl)
  have hBw : Below w.heap.size w w1 := ((Below.refl _ w).alloc (Nat.le_refl _) _).trans (hb.mono (Nat.le_succ _))
  go_wp2
  refine leaves_cons (f := 125) (args := #[.pointer (some ⟨w.heap.size, 0, none⟩)]) (by simp) (by simp [go_sem]) ?_
  refine (catch_125 _ _ c [] _ hcell rfl hfr).mono ?_
  rintro e u' w'' ⟨rfl, rfl, rfl⟩
  simp [Leaves, settle, results, Tryz.results71, go_sem, hcell]
  exact hBw.setCell (Nat.le_refl _) _

theorem idle_151 (p : Addr) (w : World) :
    CallsD Tryz.prog 151 #[.pointer (some p)] .returning w fun e u' w' => e = .returned (.tuple #[]) ∧ u' = .returning ∧ w' = w := by
  refine callsD_of_wpS Tryz.func151 rfl fun c₀ cs hu => ?_
  apply wpS_seq
  apply wpS_region
  simp [wpOpsS, go_sem, recoverD, hu, Tryz.ntmps151, Exit.thenS]
  have e20 := eql20
  refine wpS_of_wp ?_
  simp only [Array.replicate, Array.setIfInBounds]
  go_wp2
  cases c₀
  simp_all [bodyPostS, results, Tryz.results151]

theorem catch_151 (p : Addr) (x : Value) (c : Int) (older : List PanicEntry) (w : World) (hc : w.cell? p = some x) (hx : x.cells = #[x]) (hz : w.frozen? p = false) :
    CallsD Tryz.prog 151 #[.pointer (some p)] (.panicking ({ v := .iface 152 (.int .i64 c), recovered := false } :: older)) w fun e u' w' =>
      e = .returned (.tuple #[]) ∧ u' = .panicking ({ v := .iface 152 (.int .i64 c), recovered := true } :: older) ∧ w' = w.setCell p (.int .i64 c) := by
  refine callsD_of_wpS Tryz.func151 rfl fun c₀ cs hu => ?_
  apply wpS_seq
  apply wpS_region
  simp [wpOpsS, go_sem, recoverD, hu, Tryz.ntmps151, Exit.thenS]
  have e20 := eql20'
  have q := ta152
  refine wpS_of_wp ?_
  simp only [Array.replicate, Array.setIfInBounds]
  go_wp2
  simp [bodyPostS, results, Tryz.results151, hu]

set_option maxHeartbeats 1000000 in
/-- attempt, where work returns. -/
theorem attempt_98 (K : FuncId) (caps : Array Value) (w : World) (R : Value → World → Prop) (hK : ∀ args w, (callFunc K args).run Tryz.prog w = .ok (.enter K args) w)
    (hw : Calls Tryz.prog K caps (w.alloc (.cells #[.int .i64 0] 37)) fun e w' => ∃ v, e = .returned v ∧ R v w' ∧ Below (w.heap.size + 1) (w.alloc (.cells #[.int .i64 0] 37)) w') :
    Calls Tryz.prog 98 #[.func (.func K) #[] caps] w fun e w' => ∃ v w1, e = .returned (.tuple #[v, .int .i64 0]) ∧ R v w1 ∧ Below (w.heap.size + 1) (w.alloc (.cells #[.int .i64 0] 37)) w1 ∧ w' = w1.setCell ⟨w.heap.size, 0, none⟩ (.int .i64 0) := by
  have hmf : ∀ (fn : Fn) (first cap : Array Value) (w : World), (Instr.makeFunc fn first cap).run Tryz.prog w = .ok (.func fn first cap) w := fun _ _ _ _ => rfl
  go_enter_defers Tryz.func98, Tryz.ntmps98
  go_wp2_with fail
  refine hw.mono ?_
  rintro e w1 ⟨v, rfl, hR, hb⟩
  have hcell : w1.cell? ⟨w.heap.size, 0, none⟩ = some (.int .i64 0) := (hb.cell (p := ⟨w.heap.size, 0, none⟩) (by simp)).trans (by rw [World.cell?_alloc_at _ _ _ _ rfl]; rfl)
  have hfr : w1.frozen? ⟨w.heap.size, 0, none⟩ = false := (hb.frozen (p := ⟨w.heap.size, 0, none⟩) (by simp)).trans (World.frozen?_alloc_at _ _ _ _ rfl)
  go_wp2
  refine leaves_cons (f := 151) (args := #[.pointer (some ⟨w.heap.size, 0, none⟩)]) (by simp) (by simp [go_sem]) ?_
  refine (idle_151 _ _).mono ?_
  rintro e u' w'' ⟨rfl, rfl, rfl⟩
  simp [Leaves, settle, results, Tryz.results98, go_sem, hcell]
  exact ⟨w1, hR, hb, rfl⟩

set_option maxHeartbeats 1000000 in
/-- attempt, where work gives up. -/
theorem attempt_98_up (K : FuncId) (caps : Array Value) (c : Int) (w : World) (hK : ∀ args w, (callFunc K args).run Tryz.prog w = .ok (.enter K args) w)
    (hw : Calls Tryz.prog K caps (w.alloc (.cells #[.int .i64 0] 37)) fun e w' => e = .panicked (refusal c) ∧ Below (w.heap.size + 1) (w.alloc (.cells #[.int .i64 0] 37)) w') :
    Calls Tryz.prog 98 #[.func (.func K) #[] caps] w fun e w' => e = .returned (.tuple #[.slice none 0 0, .int .i64 c]) ∧ Below w.heap.size w w' := by
  have hmf : ∀ (fn : Fn) (first cap : Array Value) (w : World), (Instr.makeFunc fn first cap).run Tryz.prog w = .ok (.func fn first cap) w := fun _ _ _ _ => rfl
  go_enter_defers Tryz.func98, Tryz.ntmps98
  go_wp2_with fail
  refine hw.mono ?_
  rintro e w1 ⟨rfl, hb⟩
  have hcell : w1.cell? ⟨w.heap.size, 0, none⟩ = some (.int .i64 0) := (hb.cell (p := ⟨w.heap.size, 0, none⟩) (by simp)).trans (by rw [World.cell?_alloc_at _ _ _ _ rfl]; rfl)
  have hfr : w1.frozen? ⟨w.heap.size, 0, none⟩ = false := (hb.frozen (p := ⟨w.heap.size, 0, none⟩) (by simp)).trans (World.frozen?_alloc_at _ _ _ _ rfl)
  have hBw : Below w.heap.size w w1 := ((Below.refl _ w).alloc (Nat.le_refl _) _).trans (hb.mono (Nat.le_succ _))
  go_wp2
  refine leaves_cons (f := 151) (args := #[.pointer (some ⟨w.heap.size, 0, none⟩)]) (by simp) (by simp [go_sem]) ?_
  refine (catch_151 _ _ c [] _ hcell rfl hfr).mono ?_
  rintro e u' w'' ⟨rfl, rfl, rfl⟩
  simp [Leaves, settle, results, Tryz.results98, go_sem, hcell]
  exact hBw.setCell (Nat.le_refl _) _

theorem idle_162 (p : Addr) (w : World) :
    CallsD Tryz.prog 162 #[.pointer (some p)] .returning w fun e u' w' => e = .returned (.tuple #[]) ∧ u' = .returning ∧ w' = w := by
  refine callsD_of_wpS Tryz.func162 rfl fun c₀ cs hu => ?_
  apply wpS_seq
  apply wpS_region
  simp [wpOpsS, go_sem, recoverD, hu, Tryz.ntmps162, Exit.thenS]
  have e20 := eql20
  refine wpS_of_wp ?_
  simp only [Array.replicate, Array.setIfInBounds]
  go_wp2
  cases c₀
  simp_all [bodyPostS, results, Tryz.results162]

theorem catch_162 (p : Addr) (x : Value) (c : Int) (older : List PanicEntry) (w : World) (hc : w.cell? p = some x) (hx : x.cells = #[x]) (hz : w.frozen? p = false) :
    CallsD Tryz.prog 162 #[.pointer (some p)] (.panicking ({ v := .iface 152 (.int .i64 c), recovered := false } :: older)) w fun e u' w' =>
      e = .returned (.tuple #[]) ∧ u' = .panicking ({ v := .iface 152 (.int .i64 c), recovered := true } :: older) ∧ w' = w.setCell p (.int .i64 c) := by
  refine callsD_of_wpS Tryz.func162 rfl fun c₀ cs hu => ?_
  apply wpS_seq
  apply wpS_region
  simp [wpOpsS, go_sem, recoverD, hu, Tryz.ntmps162, Exit.thenS]
  have e20 := eql20'
  have q := ta152
  refine wpS_of_wp ?_
  simp only [Array.replicate, Array.setIfInBounds]
  go_wp2
  simp [bodyPostS, results, Tryz.results162, hu]

set_option maxHeartbeats 1000000 in
/-- attempt, where work returns. -/
theorem attempt_119 (K : FuncId) (caps : Array Value) (w : World) (R : Value → World → Prop) (hK : ∀ args w, (callFunc K args).run Tryz.prog w = .ok (.enter K args) w)
    (hw : Calls Tryz.prog K caps (w.alloc (.cells #[.int .i64 0] 37)) fun e w' => ∃ v, e = .returned v ∧ R v w' ∧ Below (w.heap.size + 1) (w.alloc (.cells #[.int .i64 0] 37)) w') :
    Calls Tryz.prog 119 #[.func (.func K) #[] caps] w fun e w' => ∃ v w1, e = .returned (.tuple #[v, .int .i64 0]) ∧ R v w1 ∧ Below (w.heap.size + 1) (w.alloc (.cells #[.int .i64 0] 37)) w1 ∧ w' = w1.setCell ⟨w.heap.size, 0, none⟩ (.int .i64 0) := by
  have hmf : ∀ (fn : Fn) (first cap : Array Value) (w : World), (Instr.makeFunc fn first cap).run Tryz.prog w = .ok (.func fn first cap) w := fun _ _ _ _ => rfl
  go_enter_defers Tryz.func119, Tryz.ntmps119
  go_wp2_with fail
  refine hw.mono ?_
  rintro e w1 ⟨v, rfl, hR, hb⟩
  have hcell : w1.cell? ⟨w.heap.size, 0, none⟩ = some (.int .i64 0) := (hb.cell (p := ⟨w.heap.size, 0, none⟩) (by simp)).trans (by rw [World.cell?_alloc_at _ _ _ _ rfl]; rfl)
  have hfr : w1.frozen? ⟨w.heap.size, 0, none⟩ = false := (hb.frozen (p := ⟨w.heap.size, 0, none⟩) (by simp)).trans (World.frozen?_alloc_at _ _ _ _ rfl)
  go_wp2
  refine leaves_cons (f := 162) (args := #[.pointer (some ⟨w.heap.size, 0, none⟩)]) (by simp) (by simp [go_sem]) ?_
  refine (idle_162 _ _).mono ?_
  rintro e u' w'' ⟨rfl, rfl, rfl⟩
  simp [Leaves, settle, results, Tryz.results119, go_sem, hcell]
  exact ⟨w1, hR, hb, rfl⟩

set_option maxHeartbeats 1000000 in
/-- attempt, where work gives up. -/
theorem attempt_119_up (K : FuncId) (caps : Array Value) (c : Int) (w : World) (hK : ∀ args w, (callFunc K args).run Tryz.prog w = .ok (.enter K args) w)
    (hw : Calls Tryz.prog K caps (w.alloc (.cells #[.int .i64 0] 37)) fun e w' => e = .panicked (refusal c) ∧ Below (w.heap.size + 1) (w.alloc (.cells #[.int .i64 0] 37)) w') :
    Calls Tryz.prog 119 #[.func (.func K) #[] caps] w fun e w' => e = .returned (.tuple #[.bool false, .int .i64 c]) ∧ Below w.heap.size w w' := by
  have hmf : ∀ (fn : Fn) (first cap : Array Value) (w : World), (Instr.makeFunc fn first cap).run Tryz.prog w = .ok (.func fn first cap) w := fun _ _ _ _ => rfl
  go_enter_defers Tryz.func119, Tryz.ntmps119
  go_wp2_with fail
  refine hw.mono ?_
  rintro e w1 ⟨rfl, hb⟩
  have hcell : w1.cell? ⟨w.heap.size, 0, none⟩ = some (.int .i64 0) := (hb.cell (p := ⟨w.heap.size, 0, none⟩) (by simp)).trans (by rw [World.cell?_alloc_at _ _ _ _ rfl]; rfl)
  have hfr : w1.frozen? ⟨w.heap.size, 0, none⟩ = false := (hb.frozen (p := ⟨w.heap.size, 0, none⟩) (by simp)).trans (World.frozen?_alloc_at _ _ _ _ rfl)
  have hBw : Below w.heap.size w w1 := ((Below.refl _ w).alloc (Nat.le_refl _) _).trans (hb.mono (Nat.le_succ _))
  go_wp2
  refine leaves_cons (f := 162) (args := #[.pointer (some ⟨w.heap.size, 0, none⟩)]) (by simp) (by simp [go_sem]) ?_
  refine (catch_162 _ _ c [] _ hcell rfl hfr).mono ?_
  rintro e u' w'' ⟨rfl, rfl, rfl⟩
  simp [Leaves, settle, results, Tryz.results119, go_sem, hcell]
  exact hBw.setCell (Nat.le_refl _) _

end Go.Proofs.YtjmlaeofjjhfmaaGreat
