/- mustBeFormed at what is formed. -/
import Derived.Test.YtjmlaeofjjhfmaaGreatP08
import Derived.Test.YtjmlaeofjjhfmaaGreatP07
import Derived.Recover
import Derived.Defers
set_option linter.unusedVariables false
set_option linter.unusedSimpArgs false
namespace Go.Proofs.YtjmlaeofjjhfmaaGreat
open Go.RowKit Go.Shelf
attribute [local go_sem] Oper.semAt_some

/-- What is asked of the definitions of a TermDef. -/
def DefsOk (d : List Clause) : Prop := ∃ U, csize d ≤ 900 ∧ (alltexts (groupsL d)).length ≤ 100000 ∧ AgreeOk d U
def nodeOk : Part → Prop
  | .proc (.mk op _ _ defs _) => op = 4 → DefsOk defs
  | _ => True
/-- A formed part. -/
def Formed (p : Part) : Prop := p.size ≤ 60 ∧ (∀ q ∈ nodesOf 1 p, q.1.shaped = true ∧ q.2 ≤ 12 ∧ nodeOk q.1)

theorem shaped_small {p : Part} (h : p.shaped = true) (hj : ∀ f t j d k, p = .def_ (.mk f t j d k) → j.length ≤ 100) : p.small := by
  cases p with
  | proc t =>
    obtain ⟨o, t, a, d, k⟩ := t
    simp only [Part.shaped, shapedTB, Bool.or_eq_true, Bool.and_eq_true, beq_iff_eq, decide_eq_true_eq] at h
    simp only [Part.small]
    omega
  | exp t =>
    obtain ⟨o, n, t, k⟩ := t
    simp only [Part.shaped, shapedEB, Bool.or_eq_true, Bool.and_eq_true, beq_iff_eq, decide_eq_true_eq] at h
    simp only [Part.small]
    omega
  | def_ t =>
    obtain ⟨f, t, j, d, k⟩ := t
    have := hj f t j d k rfl
    simp only [Part.shaped, shapedCB, Bool.or_eq_true, Bool.and_eq_true, beq_iff_eq, decide_eq_true_eq] at h
    simp only [Part.small]
    omega
theorem shaped_small' {p : Part} (h : p.shaped = true) : p.small := by
  refine shaped_small h (fun f t j d k e => ?_)
  subst e
  simp only [Part.shaped, shapedCB, joinedB, Bool.or_eq_true, Bool.and_eq_true, beq_iff_eq, decide_eq_true_eq] at h
  omega
theorem Formed.allSmall {p : Part} (h : Formed p) : p.allSmall := by
  intro q hq
  rw [nodesOf_fst 0 1] at hq
  obtain ⟨y, hy, rfl⟩ := List.mem_map.1 hq
  exact shaped_small' (h.2 y hy).1

theorem KeepsOthers.of_below {W W' : World} (h : Below W.heap.size W W') : KeepsOthers W W' := KeepsOthers.of_grownBy (grown_of_below h) (fun r o e _ => by cases e)

set_option maxRecDepth 100000 in
set_option maxHeartbeats 1000000 in
theorem must_in (n B : Nat) (hn : 6 ≤ n) (u : World) (p : Part) (v : Value) (w : World) (hu : KeptC B u w) (hB : B ≤ w.heap.size) (hf : Formed p) (hv : PartAt B u v p) :
    CallsIn Fence.wide n Tryz.prog 65 #[v] w fun e w' => e = .returned (.tuple #[]) ∧ Below w.heap.size w w' := by
  obtain ⟨ty, x, rfl⟩ := part_iface hv
  have hdd : ∀ k : Nat, (Fence.wide.depth.isSome = true → 1 ≤ k) := fun k h => by cases h
  have h1 : 1 ≤ n := by omega
  have h1' : 1 ≤ n - 1 - 1 := by omega
  have hF : ∀ k, Fence.wide.fn k := fun _ => trivial
  have hsm := hf.allSmall
  obtain ⟨hf1, hf2⟩ := hf
  refine callsIn_of_wp_marks Tryz.func65 rfl trivial ?_ rfl
  simp only [Tryz.ntmps65, List.size_toArray, List.length_cons, List.length_nil, Nat.reduceAdd, Nat.reduceSub, Array.replicate_succ, Array.replicate_zero, List.push_toArray, List.append_toArray, List.nil_append, List.cons_append]
  gi_wp2_with (gi_at_call 116; refine (nodes_in (n - 1) _ _ _).mono ?_; rintro e w' ⟨rfl, rfl⟩)
  obtain ⟨W0, hW0⟩ : ∃ W0, W0 = ((w.alloc (.cells #[.int .i64 0] 3)).alloc (.cells #[.iface ty x] 154)) := ⟨_, rfl⟩
  have hsz : W0.heap.size = w.heap.size + 2 := by rw [hW0]; simp
  have hb0 : Below w.heap.size w W0 := by rw [hW0]; exact ((Below.refl _ w).alloc (Nat.le_refl _) _).alloc (by simp) _
  have c0 : W0.cell? ⟨w.heap.size, 0, none⟩ = some (.int .i64 0) ∧ W0.frozen? ⟨w.heap.size, 0, none⟩ = false := by
    rw [hW0]; constructor
    · rw [World.cell?_alloc_past _ _ _ (by simp), World.cell?_alloc_at _ _ _ _ rfl]; rfl
    · rw [World.frozen?_alloc_past _ _ _ (by simp), World.frozen?_alloc_at _ _ _ _ rfl]
  have c2 : W0.cell? ⟨w.heap.size + 1, 0, none⟩ = some (.iface ty x) := by
    rw [hW0, World.cell?_alloc_at _ _ _ _ (by simp)]; rfl
  rw [← hW0]
  have HW := Lib.hid hW0; clear hW0
  have hst := nodes_stops (n - 1) w.heap.size (w.heap.size + 1) (w.heap.size + 1) B u p _ (fun q => q.1.shaped = true ∧ q.2 ≤ 12 ∧ nodeOk q.1) hB (by omega) hsm (by omega) hf2 hv W0 (hu.trans ((Below.keptC hb0).mono hB)) (by omega) c2
  refine wpIn_rangeFunc_ownF rfl h1 (gf := 157) (lb := #[.pointer (some ⟨w.heap.size + 1, 0, none⟩)]) rfl trivial (enters_of Tryz.func157 (by kernel_rfl) rfl)
    hst KpC.trans (fun W l o o' _ h1 h2 _ => KpC.putObj W l o o' h1 h2) (Below.refl _ _) (fun _ => rfl)
    (fun pre W => (W.cell? ⟨w.heap.size, 0, none⟩ = some (.int .i64 pre.length) ∧ W.frozen? ⟨w.heap.size, 0, none⟩ = false) ∧ Below w.heap.size w W)
    (fun _ _ _ => False)
    (OwnFrom.and (Own.from (fun s A B row hs hg hr => ⟨cell_kept hs.1 hg hr, (frozen_kept hs.1 hg hr).trans hs.2⟩) _) (ownFrom_below (Nat.le_refl _) (by omega)))
    (fun _ _ _ _ _ hs _ _ => hs)
    ⟨⟨c0.1, c0.2⟩, hb0⟩
    (fun x' => { tmps := #[.iface ty x, undef, .pointer (some ⟨w.heap.size, 0, none⟩), x'.1.1, .int .i64 x'.1.2.2, undef, undef, undef, .iface ty x, .func (.func 157) #[] #[.pointer (some ⟨w.heap.size + 1, 0, none⟩)], x'.1.1, .int .i64 x'.1.2.2, undef, undef, undef, undef, undef, undef, undef, undef, undef, undef, undef, undef, undef, undef, undef, undef, undef, undef, undef, undef, undef, undef, undef, undef, undef, undef, undef, undef, undef, undef, undef, undef, undef, undef, undef, undef], defers := [] }) ?assign ?body ?done ?stop
  case assign =>
    intro l x W K hK
    dsimp only [encN]
    gi_wp2
    exact hK
  case body =>
    rintro l pre x' W ⟨⟨hc, hf⟩, hB'⟩ hN
    have t1 : decide ((60 : Int) < (pre.length : Int) + 1) = false := by simp; omega
    have t2 : decide ((12 : Int) < (x'.1.2.2 : Int)) = false := by have := x'.2.2.2.1; simp; omega
    have hBs := hB'.setCell (p := ⟨w.heap.size, 0, none⟩) (Nat.le_refl _) (.int .i64 ((pre.length : Int) + 1))
    have hsh := shaped_ok x'.1.2.1 x'.1.1 B u _ (hu.trans ((Below.keptC hBs).mono hB)) (by have := hBs.size; omega) x'.2.1 x'.2.2.1
    have d0 : (W.setCell ⟨w.heap.size, 0, none⟩ (.int .i64 ((pre.length : Int) + 1))).cell? ⟨w.heap.size, 0, none⟩ = some (.int .i64 ((pre.length : Int) + 1)) := World.cell?_setCell_same' _ _ _ (by rw [hc]; rfl)
    have d1 : (W.setCell ⟨w.heap.size, 0, none⟩ (.int .i64 ((pre.length : Int) + 1))).frozen? ⟨w.heap.size, 0, none⟩ = false := by rw [World.frozen?_setCell]; exact hf
    have hlt := lt_of_cell hc
    gi_wp2_with fail
    refine (CallsIn.inRound l (callsIn_wide.2 hsh)).mono ?_
    clear hsh
    rintro e W2 ⟨rfl, hb2⟩
    gi_wp2
    refine ⟨(KeepsOthers.setCell _ _ _).trans (KeepsOthers.of_below hb2), (KpC.setCell _ _ _ (Nat.le_refl _) (by simp)).trans (KpC.of_below hb2), ⟨?_, ?_⟩, hBs.trans (hb2.mono hBs.size)⟩
    · rw [hb2.cell (p := ⟨w.heap.size, 0, none⟩) (by simp [World.setCell]; omega), d0]; simp
    · rw [hb2.frozen (p := ⟨w.heap.size, 0, none⟩) (by simp [World.setCell]; omega), d1]
  case done =>
    rintro D ys W hD hys ⟨⟨hc, hf⟩, hB'⟩ hK
    clear hys hst
    have hWz := hB'.size
    gi_wp2_with (gi_at_call 116; refine (nodes_in (n - 1) _ _ _).mono ?_; rintro e w' ⟨rfl, rfl⟩)
    have c3 : (W.alloc (.cells #[.iface ty x] 154)).cell? ⟨W.heap.size, 0, none⟩ = some (.iface ty x) := by rw [World.cell?_alloc_at _ _ _ _ rfl]; rfl
    have hB3 := hB'.alloc hWz (.cells #[.iface ty x] 154)
    have hK3 : (W.alloc (.cells #[.iface ty x] 154)).heap[D]? = some (.deferred (some [])) := (Below.heap_alloc _ _ D (Array.getElem?_eq_some_iff.1 hK).1).trans hK
    have hst := nodes_stops (n - 1) w.heap.size W.heap.size W.heap.size B u p _ (fun q => q.1.shaped = true ∧ q.2 ≤ 12 ∧ nodeOk q.1) hB (by omega) hsm (by omega) hf2 hv (W.alloc (.cells #[.iface ty x] 154)) (hu.trans ((Below.keptC hB3).mono hB)) (by simp) c3
    have hDl := (Array.getElem?_eq_some_iff.1 hK).1
    refine wpIn_rangeFunc_ownF rfl h1 (gf := 157) (lb := #[.pointer (some ⟨W.heap.size, 0, none⟩)]) rfl trivial (enters_of Tryz.func157 (by kernel_rfl) rfl)
      hst KpC.trans (fun W l o o' _ h1 h2 _ => KpC.putObj W l o o' h1 h2) (Below.refl _ _) (fun _ => rfl)
      (fun _ W' => W'.heap[D]? = some (.deferred (some [])) ∧ Below w.heap.size w W')
      (fun _ _ _ => False)
      (OwnFrom.and (fun s A B row hs hg hr => (hg.block D (Array.getElem?_eq_some_iff.1 hs).1 (by intro e; have := (hr D e.symm).1; simp at this; omega)).trans hs) (ownFrom_below (Nat.le_refl _) (by simp; omega)))
      (fun _ _ _ _ _ hs _ _ => hs)
      ⟨hK3, hB3⟩
      (fun x' => { tmps := #[.iface ty x, undef, .pointer (some ⟨w.heap.size, 0, none⟩), undef, undef, x'.1.1, undef, undef, .iface ty x, .func (.func 157) #[] #[.pointer (some ⟨w.heap.size + 1, 0, none⟩)], undef, undef, undef, undef, undef, undef, undef, undef, undef, undef, undef, undef, undef, undef, undef, undef, .iface ty x, .func (.func 157) #[] #[.pointer (some ⟨W.heap.size, 0, none⟩)], x'.1.1, .int .i64 x'.1.2.2, undef, undef, undef, undef, undef, undef, undef, undef, undef, undef, undef, undef, undef, undef, undef, undef, undef, undef], defers := [] }) ?assign2 ?body2 ?done2 ?stop2
    case assign2 =>
      intro l x W K hK
      dsimp only [encN]
      gi_wp2
      exact hK
    case body2 =>
      rintro l pre ⟨⟨v', q, lv⟩, hvq, hGq⟩ W4 ⟨hD4, hB4⟩ hN
      have q1 := ta_83_83; have q4 := ta_88_83; have q5 := ta_191_83
      have hz4 := hB4.size
      simp only at hvq hGq
      cases q with
      | proc t =>
        obtain ⟨o, t, a, d, k⟩ := t
        obtain ⟨cs, rfl, h1z, va, vd, vk, rfl, ⟨aa, ca, rfl, _, ha⟩, ⟨ad, cd, rfl, _, hd⟩, ⟨ak, ck, rfl, _, hk⟩⟩ := hvq
        have bx : Below W4.heap.size W4 (W4.alloc (.cells #[.int .i64 o, .string t, .slice aa a.length ca, .slice ad d.length cd, .slice ak k.length ck] 83)) := (Below.refl _ W4).alloc (Nat.le_refl _) _
        by_cases ho : o = 4
        · subst ho
          obtain ⟨U, u1, u2, u3⟩ := hGq.2.2 rfl
          have hag := agree_ok B u d U u1 u2 u3 ad cd (W4.alloc (.cells #[.int .i64 4, .string t, .slice aa a.length ca, .slice ad d.length cd, .slice ak k.length ck] 83)) (hu.trans ((Below.keptC (hB4.trans (bx.mono hz4))).mono hB)) (by simp; omega) hd
          gi_wp2_with (gi_at_call 118; refine (CallsIn.inRound l (callsIn_wide.2 hag)).mono ?_; clear hag; rintro e W5 ⟨rfl, hb5⟩)
          have b5 : Below W4.heap.size W4 W5 := bx.trans (hb5.mono (by simp))
          exact ⟨KeepsOthers.of_below b5, KpC.of_below b5, (b5.block D (Array.getElem?_eq_some_iff.1 hD4).1).trans hD4, hB4.trans (b5.mono hz4)⟩
        · have ho' : (o == 4) = false := by simpa using ho
          gi_wp2
          exact ⟨KeepsOthers.of_below bx, KpC.of_below bx, (bx.block D (Array.getElem?_eq_some_iff.1 hD4).1).trans hD4, hB4.trans (bx.mono hz4)⟩
      | exp t =>
        obtain ⟨o, n, t, k⟩ := t
        obtain ⟨cs, rfl, h1z, vk, rfl, ⟨ak, ck, rfl, _, hk⟩⟩ := hvq
        have bx : Below W4.heap.size W4 (W4.alloc (.cells #[.int .i64 0, .string ⟨#[]⟩, .slice none 0 0, .slice none 0 0, .slice none 0 0] 83)) := (Below.refl _ W4).alloc (Nat.le_refl _) _
        gi_wp2
        exact ⟨KeepsOthers.of_below bx, KpC.of_below bx, (bx.block D (Array.getElem?_eq_some_iff.1 hD4).1).trans hD4, hB4.trans (bx.mono hz4)⟩
      | def_ t =>
        obtain ⟨f, t, j, d, k⟩ := t
        obtain ⟨cs, rfl, h1z, vj, vd, vk, rfl, ⟨aj, cj, rfl, _, hj⟩, ⟨ad, cd, rfl, _, hd⟩, ⟨ak, ck, rfl, _, hk⟩⟩ := hvq
        have bx : Below W4.heap.size W4 (W4.alloc (.cells #[.int .i64 0, .string ⟨#[]⟩, .slice none 0 0, .slice none 0 0, .slice none 0 0] 83)) := (Below.refl _ W4).alloc (Nat.le_refl _) _
        gi_wp2
        exact ⟨KeepsOthers.of_below bx, KpC.of_below bx, (bx.block D (Array.getElem?_eq_some_iff.1 hD4).1).trans hD4, hB4.trans (bx.mono hz4)⟩
    case done2 =>
      rintro D2 ys W4 hD2 _ ⟨hD4, hB4⟩ hK4
      simp at hD2
      gi_wp2
      refine ⟨by simp, .inl ⟨_, _, rfl, run_takeDeferred hK4, ?_⟩⟩
      have hDl2 := (Array.getElem?_eq_some_iff.1 hK4).1
      have hK5 : (W4.putObj D2 (.deferred none)).heap[D]? = some (.deferred (some [])) := (World.putObj_heap_other (by omega)).trans hD4
      have b5 : Below w.heap.size w (W4.putObj D2 (.deferred none)) := hB4.trans (belowK_b (w := w) (Nat.le_refl _) W4 D2 _ _ (by omega) hK4 rfl rfl)
      have b6 : Below w.heap.size w ((W4.putObj D2 (.deferred none)).putObj D (.deferred none)) := b5.trans (belowK_b (w := w) (Nat.le_refl _) _ D _ _ (by omega) hK5 rfl rfl)
      refine ⟨by simp, .inl ⟨_, _, rfl, run_takeDeferred hK5, ?_⟩⟩
      exact ⟨_, results_none rfl _ _ _, rfl, b6⟩
    case stop2 =>
      rintro D c pre W _ _ h _
      exact h.elim
  case stop =>
    rintro D c pre W _ _ h _
    exact h.elim

/-- mustBeFormed at a formed part: it returns. -/
theorem must_ok (B : Nat) (u : World) (p : Part) (v : Value) (w : World) (hu : KeptC B u w) (hB : B ≤ w.heap.size) (hf : Formed p) (hv : PartAt B u v p) :
    Calls Tryz.prog 65 #[v] w fun e w' => e = .returned (.tuple #[]) ∧ Below w.heap.size w w' :=
  (callsIn_wide (n := 6)).1 (must_in 6 B (Nat.le_refl _) u p v w hu hB hf hv)

theorem measure_any (B : Nat) (u : World) (p : Part) (v : Value) (w : World) (hu : KeptC B u w) (hB : B ≤ w.heap.size) (hf : Formed p) (hv : PartAt B u v p) :
    Calls Tryz.prog 66 #[v] w fun e w' => e = .returned (.tuple #[.int .i64 p.size, .int .i64 p.depth]) ∧ Below w.heap.size w w' :=
  (callsIn_wide (n := 6)).1 (measure_in 6 B (by omega) u p v w hu hB hf.allSmall (by have := hf.1; omega) hv)

end Go.Proofs.YtjmlaeofjjhfmaaGreat
/- refuse, and attempt at its five types: a work that returns; a work that gives up with a refusal. -/
namespace Go.Proofs.YtjmlaeofjjhfmaaGreat
open Go.RowKit

theorem eql20 (w : World) : (binOp .eql 20 .nilIface .nilIface).run Tryz.prog w = .ok (.bool true) w := by kernel_rfl
theorem eql20' (v : Value) (w : World) : (binOp .eql 20 (.iface 152 v) .nilIface).run Tryz.prog w = .ok (.bool false) w := by kernel_rfl
theorem ta152 (v : Value) (w : World) : (Instr.typeAssert (.iface 152 v) 20 152 true).run Tryz.prog w = .ok (.tuple #[v, .bool true]) w := by kernel_rfl

/-- The panic of a refusal. -/
def refusal (c : Int) : List PanicEntry := [{ v := .iface 152 (.int .i64 c), recovered := false }]

theorem refuse_any (c : Int) (w : World) : Calls Tryz.prog 103 #[.int .i64 c] w fun e w' => e = .panicked (refusal c) ∧ w' = w := by
  go_enter Tryz.func103, Tryz.ntmps103
  go_wp2
  simp [bodyPost, refusal]

theorem idle_115 (p : Addr) (w : World) :
    CallsD Tryz.prog 115 #[.pointer (some p)] .returning w fun e u' w' => e = .returned (.tuple #[]) ∧ u' = .returning ∧ w' = w := by
  refine callsD_of_wpS Tryz.func115 rfl fun c₀ cs hu => ?_
  apply wpS_seq
  apply wpS_region
  simp [wpOpsS, go_sem, recoverD, hu, Tryz.ntmps115, Exit.thenS]
  have e20 := eql20
  refine wpS_of_wp ?_
  simp only [Array.replicate, Array.setIfInBounds]
  go_wp2
  cases c₀
  simp_all [bodyPostS, results, Tryz.results115]

set_option maxHeartbeats 1000000 in
/-- attempt, where work returns. -/
theorem attempt_63 (K : FuncId) (caps : Array Value) (w : World) (R : Value → World → Prop) (hK : ∀ args w, (callFunc K args).run Tryz.prog w = .ok (.enter K args) w)
    (hw : Calls Tryz.prog K caps (w.alloc (.cells #[.int .i64 0] 37)) fun e w' => ∃ v, e = .returned v ∧ R v w' ∧ Below (w.heap.size + 1) (w.alloc (.cells #[.int .i64 0] 37)) w') :
    Calls Tryz.prog 63 #[.func (.func K) #[] caps] w fun e w' => ∃ v w1, e = .returned (.tuple #[v, .int .i64 0]) ∧ R v w1 ∧ Below (w.heap.size + 1) (w.alloc (.cells #[.int .i64 0] 37)) w1 ∧ w' = w1.setCell ⟨w.heap.size, 0, none⟩ (.int .i64 0) := by
  have hmf : ∀ (fn : Fn) (first cap : Array Value) (w : World), (Instr.makeFunc fn first cap).run Tryz.prog w = .ok (.func fn first cap) w := fun _ _ _ _ => rfl
  go_enter_defers Tryz.func63, Tryz.ntmps63
  go_wp2_with fail
  refine hw.mono ?_
  rintro e w1 ⟨v, rfl, hR, hb⟩
  have hcell : w1.cell? ⟨w.heap.size, 0, none⟩ = some (.int .i64 0) := (hb.cell (p := ⟨w.heap.size, 0, none⟩) (by simp)).trans (by rw [World.cell?_alloc_at _ _ _ _ rfl]; rfl)
  have hfr : w1.frozen? ⟨w.heap.size, 0, none⟩ = false := (hb.frozen (p := ⟨w.heap.size, 0, none⟩) (by simp)).trans (World.frozen?_alloc_at _ _ _ _ rfl)
  go_wp2
  refine leaves_cons (f := 115) (args := #[.pointer (some ⟨w.heap.size, 0, none⟩)]) (by simp) (by simp [go_sem]) ?_
  refine (idle_115 _ _).mono ?_
  rintro e u' w'' ⟨rfl, rfl, rfl⟩
  simp [Leaves, settle, results, Tryz.results63, go_sem, hcell]
  exact ⟨w1, hR, hb, rfl⟩

theorem idle_125 (p : Addr) (w : World) :
    CallsD Tryz.prog 125 #[.pointer (some p)] .returning w fun e u' w' => e = .returned (.tuple #[]) ∧ u' = .returning ∧ w' = w := by
  refine callsD_of_wpS Tryz.func125 rfl fun c₀ cs hu => ?_
  apply wpS_seq
  apply wpS_region
  simp [wpOpsS, go_sem, recoverD, hu, Tryz.ntmps125, Exit.thenS]
  have e20 := eql20
  refine wpS_of_wp ?_
  simp only [Array.replicate, Array.setIfInBounds]
  go_wp2
  cases c₀
  simp_all [bodyPostS, results, Tryz.results125]

set_option maxHeartbeats 1000000 in
/-- attempt, where work returns. -/
theorem attempt_71 (K : FuncId) (caps : Array Value) (w : World) (R : Value → World → Prop) (hK : ∀ args w, (callFunc K args).run Tryz.prog w = .ok (.enter K args) w)
    (hw : Calls Tryz.prog K caps (w.alloc (.cells #[.int .i64 0] 37)) fun e w' => ∃ v, e = .returned v ∧ R v w' ∧ Below (w.heap.size + 1) (w.alloc (.cells #[.int .i64 0] 37)) w') :
    Calls Tryz.prog 71 #[.func (.func K) #[] caps] w fun e w' => ∃ v w1, e = .returned (.tuple #[v, .int .i64 0]) ∧ R v w1 ∧ Below (w.heap.size + 1) (w.alloc (.cells #[.int .i64 0] 37)) w1 ∧ w' = w1.setCell ⟨w.heap.size, 0, none⟩ (.int .i64 0) := by
  have hmf : ∀ (fn : Fn) (first cap : Array Value) (w : World), (Instr.makeFunc fn first cap).run Tryz.prog w = .ok (.func fn first cap) w := fun _ _ _ _ => rfl
  go_enter_defers Tryz.func71, Tryz.ntmps71
  go_wp2_with fail
  refine hw.mono ?_
  rintro e w1 ⟨v, rfl, hR, hb⟩
  have hcell : w1.cell? ⟨w.heap.size, 0, none⟩ = some (.int .i64 0) := (hb.cell (p := ⟨w.heap.size, 0, none⟩) (by simp)).trans (by rw [World.cell?_alloc_at _ _ _ _ rfl]; rfl)
  have hfr : w1.frozen? ⟨w.heap.size, 0, none⟩ = false := (hb.frozen (p := ⟨w.heap.size, 0, none⟩) (by simp)).trans (World.frozen?_alloc_at _ _ _ _ rfl)
  go_wp2
  refine leaves_cons (f := 125) (args := #[.pointer (some ⟨w.heap.size, 0, none⟩)]) (by simp) (by simp [go_sem]) ?_
  refine (idle_125 _ _).mono ?_
  rintro e u' w'' ⟨rfl, rfl, rfl⟩
  simp [Leaves, settle, results, Tryz.results71, go_sem, hcell]
  exact ⟨w1, hR, hb, rfl⟩

theorem idle_151 (p : Addr) (w : World) :
    CallsD Tryz.prog 151 #[.pointer (some p)] .returning w fun e u' w' => e = .returned (.tuple #[]) ∧ u' = .returning ∧ w' = w := by
  refine callsD_of_wpS Tryz.func151 rfl fun c₀ cs hu => ?_
  apply wpS_seq
  apply wpS_region
  simp [wpOpsS, go_sem, recoverD, hu, Tryz.ntmps151, Exit.thenS]
  have e20 := eql20
  refine wpS_of_wp ?_
  simp only [Array.replicate, Array.setIfInBounds]
  go_wp2
  cases c₀
  simp_all [bodyPostS, results, Tryz.results151]

set_option maxHeartbeats 1000000 in
/-- attempt, where work returns. -/
theorem attempt_98 (K : FuncId) (caps : Array Value) (w : World) (R : Value → World → Prop) (hK : ∀ args w, (callFunc K args).run Tryz.prog w = .ok (.enter K args) w)
    (hw : Calls Tryz.prog K caps (w.alloc (.cells #[.int .i64 0] 37)) fun e w' => ∃ v, e = .returned v ∧ R v w' ∧ Below (w.heap.size + 1) (w.alloc (.cells #[.int .i64 0] 37)) w') :
    Calls Tryz.prog 98 #[.func (.func K) #[] caps] w fun e w' => ∃ v w1, e = .returned (.tuple #[v, .int .i64 0]) ∧ R v w1 ∧ Below (w.heap.size + 1) (w.alloc (.cells #[.int .i64 0] 37)) w1 ∧ w' = w1.setCell ⟨w.heap.size, 0, none⟩ (.int .i64 0) := by
  have hmf : ∀ (fn : Fn) (first cap : Array Value) (w : World), (Instr.makeFunc fn first cap).run Tryz.prog w = .ok (.func fn first cap) w := fun _ _ _ _ => rfl
  go_enter_defers Tryz.func98, Tryz.ntmps98
  go_wp2_with fail
  refine hw.mono ?_
  rintro e w1 ⟨v, rfl, hR, hb⟩
  have hcell : w1.cell? ⟨w.heap.size, 0, none⟩ = some (.int .i64 0) := (hb.cell (p := ⟨w.heap.size, 0, none⟩) (by simp)).trans (by rw [World.cell?_alloc_at _ _ _ _ rfl]; rfl)
  have hfr : w1.frozen? ⟨w.heap.size, 0, none⟩ = false := (hb.frozen (p := ⟨w.heap.size, 0, none⟩) (by simp)).trans (World.frozen?_alloc_at _ _ _ _ rfl)
  go_wp2
  refine leaves_cons (f := 151) (args := #[.pointer (some ⟨w.heap.size, 0, none⟩)]) (by simp) (by simp [go_sem]) ?_
  refine (idle_151 _ _).mono ?_
  rintro e u' w'' ⟨rfl, rfl, rfl⟩
  simp [Leaves, settle, results, Tryz.results98, go_sem, hcell]
  exact ⟨w1, hR, hb, rfl⟩

theorem idle_162 (p : Addr) (w : World) :
    CallsD Tryz.prog 162 #[.pointer (some p)] .returning w fun e u' w' => e = .returned (.tuple #[]) ∧ u' = .returning ∧ w' = w := by
  refine callsD_of_wpS Tryz.func162 rfl fun c₀ cs hu => ?_
  apply wpS_seq
  apply wpS_region
  simp [wpOpsS, go_sem, recoverD, hu, Tryz.ntmps162, Exit.thenS]
  have e20 := eql20
  refine wpS_of_wp ?_
  simp only [Array.replicate, Array.setIfInBounds]
  go_wp2
  cases c₀
  simp_all [bodyPostS, results, Tryz.results162]

set_option maxHeartbeats 1000000 in
/-- attempt, where work returns. -/
theorem attempt_119 (K : FuncId) (caps : Array Value) (w : World) (R : Value → World → Prop) (hK : ∀ args w, (callFunc K args).run Tryz.prog w = .ok (.enter K args) w)
    (hw : Calls Tryz.prog K caps (w.alloc (.cells #[.int .i64 0] 37)) fun e w' => ∃ v, e = .returned v ∧ R v w' ∧ Below (w.heap.size + 1) (w.alloc (.cells #[.int .i64 0] 37)) w') :
    Calls Tryz.prog 119 #[.func (.func K) #[] caps] w fun e w' => ∃ v w1, e = .returned (.tuple #[v, .int .i64 0]) ∧ R v w1 ∧ Below (w.heap.size + 1) (w.alloc (.cells #[.int .i64 0] 37)) w1 ∧ w' = w1.setCell ⟨w.heap.size, 0, none⟩ (.int .i64 0) := by
  have hmf : ∀ (fn : Fn) (first cap : Array Value) (w : World), (Instr.makeFunc fn first cap).run Tryz.prog w = .ok (.func fn first cap) w := fun _ _ _ _ => rfl
  go_enter_defers Tryz.func119, Tryz.ntmps119
  go_wp2_with fail
  refine hw.mono ?_
  rintro e w1 ⟨v, rfl, hR, hb⟩
  have hcell : w1.cell? ⟨w.heap.size, 0, none⟩ = some (.int .i64 0) := (hb.cell (p := ⟨w.heap.size, 0, none⟩) (by simp)).trans (by rw [World.cell?_alloc_at _ _ _ _ rfl]; rfl)
  have hfr : w1.frozen? ⟨w.heap.size, 0, none⟩ = false := (hb.frozen (p := ⟨w.heap.size, 0, none⟩) (by simp)).trans (World.frozen?_alloc_at _ _ _ _ rfl)
  go_wp2
  refine leaves_cons (f := 162) (args := #[.pointer (some ⟨w.heap.size, 0, none⟩)]) (by simp) (by simp [go_sem]) ?_
  refine (idle_162 _ _).mono ?_
  rintro e u' w'' ⟨rfl, rfl, rfl⟩
  simp [Leaves, settle, results, Tryz.results119, go_sem, hcell]
  exact ⟨w1, hR, hb, rfl⟩

end Go.Proofs.YtjmlaeofjjhfmaaGreat
/- attempt at a process. -/
namespace Go.Proofs.YtjmlaeofjjhfmaaGreat
open Go.RowKit

theorem idle_136 (p : Addr) (w : World) :
    CallsD Tryz.prog 136 #[.pointer (some p)] .returning w fun e u' w' => e = .returned (.tuple #[]) ∧ u' = .returning ∧ w' = w := by
  refine callsD_of_wpS Tryz.func136 rfl fun c₀ cs hu => ?_
  apply wpS_seq
  apply wpS_region
  simp [wpOpsS, go_sem, recoverD, hu, Tryz.ntmps136, Exit.thenS]
  have e20 := eql20
  refine wpS_of_wp ?_
  simp only [Array.replicate, Array.setIfInBounds]
  go_wp2
  cases c₀
  simp_all [bodyPostS, results, Tryz.results136]

theorem catch_136 (p : Addr) (x : Value) (c : Int) (older : List PanicEntry) (w : World) (hc : w.cell? p = some x) (hx : x.cells = #[x]) (hz : w.frozen? p = false) :
    CallsD Tryz.prog 136 #[.pointer (some p)] (.panicking ({ v := .iface 152 (.int .i64 c), recovered := false } :: older)) w fun e u' w' =>
      e = .returned (.tuple #[]) ∧ u' = .panicking ({ v := .iface 152 (.int .i64 c), recovered := true } :: older) ∧ w' = w.setCell p (.int .i64 c) := by
  refine callsD_of_wpS Tryz.func136 rfl fun c₀ cs hu => ?_
  apply wpS_seq
  apply wpS_region
  simp [wpOpsS, go_sem, recoverD, hu, Tryz.ntmps136, Exit.thenS]
  have e20 := eql20'
  have q := ta152
  refine wpS_of_wp ?_
  simp only [Array.replicate, Array.setIfInBounds]
  go_wp2
  simp [bodyPostS, results, Tryz.results136, hu]

/-- A process as five values. -/
structure T5 where
  op : Int
  t : ByteArray
  a0 : Option Addr
  n0 : Nat
  c0 : Nat
  a1 : Option Addr
  n1 : Nat
  c1 : Nat
  a2 : Option Addr
  n2 : Nat
  c2 : Nat
def T5.cells (x : T5) : Array Value := #[.int .i64 x.op, .string x.t, .slice x.a0 x.n0 x.c0, .slice x.a1 x.n1 x.c1, .slice x.a2 x.n2 x.c2]

set_option maxHeartbeats 2000000 in
/-- attempt at a process, where work returns one. -/
theorem attempt_82 (K : FuncId) (caps : Array Value) (w : World) (R : T5 → World → Prop) (hK : ∀ args w, (callFunc K args).run Tryz.prog w = .ok (.enter K args) w)
    (hw : Calls Tryz.prog K caps ((w.alloc (.cells #[.int .i64 0, .string ⟨#[]⟩, .slice none 0 0, .slice none 0 0, .slice none 0 0] 33)).alloc (.cells #[.int .i64 0] 37)) fun e w' => ∃ x : T5, e = .returned (.agg #[.int .i64 x.op, .string x.t, .slice x.a0 x.n0 x.c0, .slice x.a1 x.n1 x.c1, .slice x.a2 x.n2 x.c2]) ∧ R x w' ∧ Below (w.heap.size + 2) ((w.alloc (.cells #[.int .i64 0, .string ⟨#[]⟩, .slice none 0 0, .slice none 0 0, .slice none 0 0] 33)).alloc (.cells #[.int .i64 0] 37)) w') :
    Calls Tryz.prog 82 #[.func (.func K) #[] caps] w fun e w' => ∃ (x : T5) (w1 : World), e = .returned (.tuple #[.agg #[.int .i64 x.op, .string x.t, .slice x.a0 x.n0 x.c0, .slice x.a1 x.n1 x.c1, .slice x.a2 x.n2 x.c2], .int .i64 0]) ∧ R x w1 ∧ w1.heap.size = w'.heap.size ∧ (∀ b, w.heap.size + 2 ≤ b → w'.heap[b]? = w1.heap[b]?) ∧ Below w.heap.size w w' := by
  have hmf : ∀ (fn : Fn) (first cap : Array Value) (w : World), (Instr.makeFunc fn first cap).run Tryz.prog w = .ok (.func fn first cap) w := fun _ _ _ _ => rfl
  go_enter_defers Tryz.func82, Tryz.ntmps82
  go_wp2_with fail
  refine hw.mono ?_
  rintro e w1 ⟨⟨op, t, a0, n0, c0, a1, n1, c1, a2, n2, c2⟩, rfl, hR, hb⟩
  have hbk := hb.block w.heap.size (by omega)
  have hbk2 := hb.block (w.heap.size + 1) (by omega)
  have e1 : ((w.alloc (.cells #[.int .i64 0, .string ⟨#[]⟩, .slice none 0 0, .slice none 0 0, .slice none 0 0] 33)).alloc (.cells #[.int .i64 0] 37)).heap[w.heap.size]? = some (.cells #[.int .i64 0, .string ⟨#[]⟩, .slice none 0 0, .slice none 0 0, .slice none 0 0] 33) := by
    rw [Below.heap_alloc _ _ _ (by simp)]; exact World.alloc_heap_new w _
  have e2 : ((w.alloc (.cells #[.int .i64 0, .string ⟨#[]⟩, .slice none 0 0, .slice none 0 0, .slice none 0 0] 33)).alloc (.cells #[.int .i64 0] 37)).heap[w.heap.size + 1]? = some (.cells #[.int .i64 0] 37) := by
    have := World.alloc_heap_new (w.alloc (.cells #[.int .i64 0, .string ⟨#[]⟩, .slice none 0 0, .slice none 0 0, .slice none 0 0] 33)) (.cells #[.int .i64 0] 37); rwa [World.size_alloc] at this
  rw [e1] at hbk; rw [e2] at hbk2
  have k0 : w1.cell? ⟨w.heap.size, 0, none⟩ = some (.int .i64 0) := by simp [World.cell?, hbk]
  have k1 : w1.cell? ⟨w.heap.size, 1, none⟩ = some (.string ⟨#[]⟩) := by simp [World.cell?, hbk]
  have k2 : w1.cell? ⟨w.heap.size, 2, none⟩ = some (.slice none 0 0) := by simp [World.cell?, hbk]
  have k3 : w1.cell? ⟨w.heap.size, 3, none⟩ = some (.slice none 0 0) := by simp [World.cell?, hbk]
  have k4 : w1.cell? ⟨w.heap.size, 4, none⟩ = some (.slice none 0 0) := by simp [World.cell?, hbk]
  have kf : ∀ o, w1.frozen? ⟨w.heap.size, o, none⟩ = false := fun o => by simp [World.frozen?, hbk]
  have k5 : w1.cell? ⟨w.heap.size + 1, 0, none⟩ = some (.int .i64 0) := by simp [World.cell?, hbk2]
  have kf5 : w1.frozen? ⟨w.heap.size + 1, 0, none⟩ = false := by simp [World.frozen?, hbk2]
  have hBw : Below w.heap.size w w1 := (((Below.refl _ w).alloc (Nat.le_refl _) _).alloc (by simp) _).trans (hb.mono (by omega))
  clear hbk hbk2 e1 e2
  have HB := Lib.hid hb; clear hb
  go_wp2
  refine leaves_cons (f := 136) (args := #[.pointer (some ⟨w.heap.size + 1, 0, none⟩)]) (by simp) (by simp [go_sem]) ?_
  refine (idle_136 _ _).mono ?_
  rintro e u' w'' ⟨rfl, rfl, rfl⟩
  simp [Leaves, settle, results, Tryz.results82, go_sem, k0, k1, k2, k3, k4, k5]
  refine ⟨⟨op, t, a0, n0, c0, a1, n1, c1, a2, n2, c2⟩, ⟨rfl, rfl, ⟨rfl, rfl, rfl⟩, ⟨rfl, rfl, rfl⟩, ⟨rfl, rfl, rfl⟩⟩, w1, hR, rfl, ?_, ?_⟩
  · intro b hb
    rw [Below.heap_setCell _ _ _ _ (by simp; omega), Below.heap_setCell _ _ _ _ (by simp; omega), Below.heap_setCell _ _ _ _ (by simp; omega), Below.heap_setCell _ _ _ _ (by simp; omega), Below.heap_setCell _ _ _ _ (by simp; omega), Below.heap_setCell _ _ _ _ (by simp; omega)]
  · exact (((((hBw.setCell (by simp) _).setCell (by simp) _).setCell (by simp) _).setCell (by simp) _).setCell (by simp) _).setCell (by simp) _

end Go.Proofs.YtjmlaeofjjhfmaaGreat
