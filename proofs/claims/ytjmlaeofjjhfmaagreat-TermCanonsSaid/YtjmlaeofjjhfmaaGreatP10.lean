/- Nodes, Depth, formed, Check, mustFit, mustBeName at what is formed. -/
import Derived.Test.YtjmlaeofjjhfmaaGreatP09
import Derived.Deep.RegionWith
import Derived.Test.YtjmlaeofjjhfmaaGreatShelf
import Derived.Shelf.Lay
import Derived.Shelf.SlMaps.Copy
import Derived.Ground.SlmpProg
import Derived.Maps.Range
set_option linter.unusedVariables false
set_option linter.unusedSimpArgs false
namespace Go.Proofs.YtjmlaeofjjhfmaaGreat
open Go.RowKit Go.Shelf

set_option maxHeartbeats 1000000 in
theorem work_64 (B : Nat) (u : World) (op : Int) (t : ByteArray) (args : List Exp) (defs : List Clause) (kids : List Term) (b : Nat) (cs : List Value) (w : World) (hu : KeptC B u w) (hB : B ≤ w.heap.size)
    (hf : Formed (.proc (.mk op t args defs kids))) (hv : TermAt B u cs (.mk op t args defs kids)) (hc : CellsAt w b 0 cs) :
    Calls Tryz.prog 64 #[.pointer (some ⟨b, 0, none⟩)] w fun e w' => e = .returned (.int .i64 (Part.proc (.mk op t args defs kids)).size) ∧ Below w.heap.size w w' := by
  have hv' := hv
  unfold TermAt at hv
  obtain ⟨hz, _, _, _, rfl, ⟨a0, p0, rfl, _⟩, ⟨a1, p1, rfl, _⟩, ⟨a2, p2, rfl, _⟩⟩ := hv
  obtain ⟨c0, c1, c2, c3, c4⟩ := cells5 hc
  have hm := must_ok B u _ (.iface 83 (.agg #[.int .i64 op, .string t, .slice a0 args.length p0, .slice a1 defs.length p1, .slice a2 kids.length p2])) w hu hB hf ⟨_, rfl, hv'⟩
  have hms := fun w1 (h1 : KeptC B u w1) (h2 : B ≤ w1.heap.size) => measure_any B u _ (.iface 83 (.agg #[.int .i64 op, .string t, .slice a0 args.length p0, .slice a1 defs.length p1, .slice a2 kids.length p2])) w1 h1 h2 hf ⟨_, rfl, hv'⟩
  go_enter Tryz.func64, Tryz.ntmps64
  go_wp2_with (first
    | (go_at_call 65; refine hm.mono ?_; clear hm; rintro e w1 ⟨rfl, hb1⟩; obtain ⟨d0, d1, d2, d3, d4⟩ := cells5 (hc.below hb1 (lt_of_cell c0)))
    | (go_at_call 66; refine (hms _ (hu.trans ((Below.keptC hb1).mono hB)) (by have := hb1.size; omega)).mono ?_; clear hms; rintro e w2 ⟨rfl, hb2⟩))
  go_ret
  exact ⟨rfl, hb1.trans (hb2.mono hb1.size)⟩

set_option maxHeartbeats 1000000 in
theorem api_23 (B : Nat) (u : World) (t : Term) (cs : List Value) (w : World) (hu : KeptC B u w) (hB : B ≤ w.heap.size) (hf : Formed (.proc t)) (hv : TermAt B u cs t) :
    Calls Tryz.prog 23 #[.agg cs.toArray] w fun e w' => e = .returned (.tuple #[.int .i64 (Part.proc t).size, .int .i64 0]) ∧ Below w.heap.size w w' := by
  obtain ⟨op, tx, args, defs, kids⟩ := t
  have hv' := hv
  unfold TermAt at hv
  obtain ⟨hz, _, _, _, rfl, ⟨a0, p0, rfl, _⟩, ⟨a1, p1, rfl, _⟩, ⟨a2, p2, rfl, _⟩⟩ := hv
  have hmf : ∀ (fn : Fn) (first cap : Array Value) (w : World), (Instr.makeFunc fn first cap).run Tryz.prog w = .ok (.func fn first cap) w := fun _ _ _ _ => rfl
  obtain ⟨W1, hW1⟩ : ∃ W1, W1 = w.alloc (.cells #[.int .i64 op, .string tx, .slice a0 args.length p0, .slice a1 defs.length p1, .slice a2 kids.length p2] 33) := ⟨_, rfl⟩
  have b1 : Below w.heap.size w W1 := by rw [hW1]; exact (Below.refl _ w).alloc (Nat.le_refl _) _
  have z1 : W1.heap.size = w.heap.size + 1 := by rw [hW1]; simp
  have cc : CellsAt (W1.alloc (.cells #[.int .i64 0] 37)) w.heap.size 0 [.int .i64 op, .string tx, .slice a0 args.length p0, .slice a1 defs.length p1, .slice a2 kids.length p2] := fun j hj => by
    rw [World.cell?_alloc_past _ _ _ (by omega), hW1, World.cell?_alloc_at _ _ _ _ rfl]
    match j, hj with
    | 0, _ => rfl
    | 1, _ => rfl
    | 2, _ => rfl
    | 3, _ => rfl
    | 4, _ => rfl
  have b2 : Below W1.heap.size W1 (W1.alloc (.cells #[.int .i64 0] 37)) := (Below.refl _ W1).alloc (Nat.le_refl _) _
  have hw := work_64 B u op tx args defs kids w.heap.size _ (W1.alloc (.cells #[.int .i64 0] 37)) (hu.trans ((Below.keptC (b1.trans (b2.mono (by omega)))).mono hB)) (by simp; omega) hf hv' cc
  have ha := attempt_63 64 #[.pointer (some ⟨w.heap.size, 0, none⟩)] W1 (fun v _ => v = .int .i64 (Part.proc (.mk op tx args defs kids)).size) (enters_of Tryz.func64 (by kernel_rfl) rfl)
    (hw.mono fun e w' ⟨h1, h2⟩ => ⟨_, h1, rfl, h2.mono (by simp)⟩)
  have HW := Lib.hid hW1
  go_enter Tryz.func23, Tryz.ntmps23
  clear hW1
  go_wp2_with (go_at_call 63; rw [← HW.out]; refine ha.mono ?_; clear ha; rintro e w' ⟨v, w1, rfl, rfl, hb, rfl⟩)
  go_ret2
  refine ⟨rfl, b1.trans (((b2.trans (hb.mono (Nat.le_succ _))).setCell (by simp; omega) _).mono (by omega))⟩

set_option maxHeartbeats 1000000 in
theorem work_67 (B : Nat) (u : World) (op : Int) (t : ByteArray) (args : List Exp) (defs : List Clause) (kids : List Term) (b : Nat) (cs : List Value) (w : World) (hu : KeptC B u w) (hB : B ≤ w.heap.size)
    (hf : Formed (.proc (.mk op t args defs kids))) (hv : TermAt B u cs (.mk op t args defs kids)) (hc : CellsAt w b 0 cs) :
    Calls Tryz.prog 67 #[.pointer (some ⟨b, 0, none⟩)] w fun e w' => e = .returned (.int .i64 (Part.proc (.mk op t args defs kids)).depth) ∧ Below w.heap.size w w' := by
  have hv' := hv
  unfold TermAt at hv
  obtain ⟨hz, _, _, _, rfl, ⟨a0, p0, rfl, _⟩, ⟨a1, p1, rfl, _⟩, ⟨a2, p2, rfl, _⟩⟩ := hv
  obtain ⟨c0, c1, c2, c3, c4⟩ := cells5 hc
  have hm := must_ok B u _ (.iface 83 (.agg #[.int .i64 op, .string t, .slice a0 args.length p0, .slice a1 defs.length p1, .slice a2 kids.length p2])) w hu hB hf ⟨_, rfl, hv'⟩
  have hms := fun w1 (h1 : KeptC B u w1) (h2 : B ≤ w1.heap.size) => measure_any B u _ (.iface 83 (.agg #[.int .i64 op, .string t, .slice a0 args.length p0, .slice a1 defs.length p1, .slice a2 kids.length p2])) w1 h1 h2 hf ⟨_, rfl, hv'⟩
  go_enter Tryz.func67, Tryz.ntmps67
  go_wp2_with (first
    | (go_at_call 65; refine hm.mono ?_; clear hm; rintro e w1 ⟨rfl, hb1⟩; obtain ⟨d0, d1, d2, d3, d4⟩ := cells5 (hc.below hb1 (lt_of_cell c0)))
    | (go_at_call 66; refine (hms _ (hu.trans ((Below.keptC hb1).mono hB)) (by have := hb1.size; omega)).mono ?_; clear hms; rintro e w2 ⟨rfl, hb2⟩))
  go_ret
  exact ⟨rfl, hb1.trans (hb2.mono hb1.size)⟩

set_option maxHeartbeats 1000000 in
theorem api_24 (B : Nat) (u : World) (t : Term) (cs : List Value) (w : World) (hu : KeptC B u w) (hB : B ≤ w.heap.size) (hf : Formed (.proc t)) (hv : TermAt B u cs t) :
    Calls Tryz.prog 24 #[.agg cs.toArray] w fun e w' => e = .returned (.tuple #[.int .i64 (Part.proc t).depth, .int .i64 0]) ∧ Below w.heap.size w w' := by
  obtain ⟨op, tx, args, defs, kids⟩ := t
  have hv' := hv
  unfold TermAt at hv
  obtain ⟨hz, _, _, _, rfl, ⟨a0, p0, rfl, _⟩, ⟨a1, p1, rfl, _⟩, ⟨a2, p2, rfl, _⟩⟩ := hv
  have hmf : ∀ (fn : Fn) (first cap : Array Value) (w : World), (Instr.makeFunc fn first cap).run Tryz.prog w = .ok (.func fn first cap) w := fun _ _ _ _ => rfl
  obtain ⟨W1, hW1⟩ : ∃ W1, W1 = w.alloc (.cells #[.int .i64 op, .string tx, .slice a0 args.length p0, .slice a1 defs.length p1, .slice a2 kids.length p2] 33) := ⟨_, rfl⟩
  have b1 : Below w.heap.size w W1 := by rw [hW1]; exact (Below.refl _ w).alloc (Nat.le_refl _) _
  have z1 : W1.heap.size = w.heap.size + 1 := by rw [hW1]; simp
  have cc : CellsAt (W1.alloc (.cells #[.int .i64 0] 37)) w.heap.size 0 [.int .i64 op, .string tx, .slice a0 args.length p0, .slice a1 defs.length p1, .slice a2 kids.length p2] := fun j hj => by
    rw [World.cell?_alloc_past _ _ _ (by omega), hW1, World.cell?_alloc_at _ _ _ _ rfl]
    match j, hj with
    | 0, _ => rfl
    | 1, _ => rfl
    | 2, _ => rfl
    | 3, _ => rfl
    | 4, _ => rfl
  have b2 : Below W1.heap.size W1 (W1.alloc (.cells #[.int .i64 0] 37)) := (Below.refl _ W1).alloc (Nat.le_refl _) _
  have hw := work_67 B u op tx args defs kids w.heap.size _ (W1.alloc (.cells #[.int .i64 0] 37)) (hu.trans ((Below.keptC (b1.trans (b2.mono (by omega)))).mono hB)) (by simp; omega) hf hv' cc
  have ha := attempt_63 67 #[.pointer (some ⟨w.heap.size, 0, none⟩)] W1 (fun v _ => v = .int .i64 (Part.proc (.mk op tx args defs kids)).depth) (enters_of Tryz.func67 (by kernel_rfl) rfl)
    (hw.mono fun e w' ⟨h1, h2⟩ => ⟨_, h1, rfl, h2.mono (by simp)⟩)
  have HW := Lib.hid hW1
  go_enter Tryz.func24, Tryz.ntmps24
  clear hW1
  go_wp2_with (go_at_call 63; rw [← HW.out]; refine ha.mono ?_; clear ha; rintro e w' ⟨v, w1, rfl, rfl, hb, rfl⟩)
  go_ret2
  refine ⟨rfl, b1.trans (((b2.trans (hb.mono (Nat.le_succ _))).setCell (by simp; omega) _).mono (by omega))⟩

set_option maxHeartbeats 1000000 in
theorem formed_ok (B : Nat) (u : World) (p : Part) (v : Value) (w : World) (hu : KeptC B u w) (hB : B ≤ w.heap.size) (hf : Formed p) (hv : PartAt B u v p) :
    Calls Tryz.prog 68 #[v] w fun e w' => e = .returned (.int .i64 0) ∧ Below w.heap.size w w' := by
  obtain ⟨ty, x, rfl⟩ := part_iface hv
  have hmf : ∀ (fn : Fn) (first cap : Array Value) (w : World), (Instr.makeFunc fn first cap).run Tryz.prog w = .ok (.func fn first cap) w := fun _ _ _ _ => rfl
  obtain ⟨W1, hW1⟩ : ∃ W1, W1 = w.alloc (.cells #[.iface ty x] 154) := ⟨_, rfl⟩
  have b1 : Below w.heap.size w W1 := by rw [hW1]; exact (Below.refl _ w).alloc (Nat.le_refl _) _
  have z1 : W1.heap.size = w.heap.size + 1 := by rw [hW1]; simp
  have cc : (W1.alloc (.cells #[.int .i64 0] 37)).cell? ⟨w.heap.size, 0, none⟩ = some (.iface ty x) := by
    rw [World.cell?_alloc_past _ _ _ (by omega), hW1, World.cell?_alloc_at _ _ _ _ rfl]; rfl
  have b2 : Below W1.heap.size W1 (W1.alloc (.cells #[.int .i64 0] 37)) := (Below.refl _ W1).alloc (Nat.le_refl _) _
  have hm := must_ok B u p _ (W1.alloc (.cells #[.int .i64 0] 37)) (hu.trans ((Below.keptC (b1.trans (b2.mono (by omega)))).mono hB)) (by simp; omega) hf hv
  have HW := Lib.hid hW1; clear hW1
  have hw : Calls Tryz.prog 120 #[.pointer (some ⟨w.heap.size, 0, none⟩)] (W1.alloc (.cells #[.int .i64 0] 37)) fun e w' => ∃ v, e = .returned v ∧ v = .bool true ∧ Below (W1.heap.size + 1) (W1.alloc (.cells #[.int .i64 0] 37)) w' := by
    go_enter Tryz.func120, Tryz.ntmps120
    go_wp2_with (go_at_call 65; refine hm.mono ?_; clear hm; rintro e w1 ⟨rfl, hb1⟩)
    go_ret
    exact ⟨_, rfl, rfl, hb1.mono (by simp)⟩
  have ha := attempt_119 120 #[.pointer (some ⟨w.heap.size, 0, none⟩)] W1 (fun v _ => v = .bool true) (enters_of Tryz.func120 (by kernel_rfl) rfl) hw
  go_enter Tryz.func68, Tryz.ntmps68
  clear hw
  go_wp2_with (go_at_call 119; rw [← HW.out]; refine ha.mono ?_; clear ha; rintro e w' ⟨v, w1, rfl, rfl, hb, rfl⟩)
  go_ret
  refine ⟨rfl, b1.trans (((b2.trans (hb.mono (Nat.le_succ _))).setCell (by simp; omega) _).mono (by omega))⟩

set_option maxHeartbeats 1000000 in
theorem check_ok (B : Nat) (u : World) (t : Term) (cs : List Value) (w : World) (hu : KeptC B u w) (hB : B ≤ w.heap.size) (hf : Formed (.proc t)) (hv : TermAt B u cs t) :
    Calls Tryz.prog 25 #[.agg cs.toArray] w fun e w' => e = .returned (.int .i64 0) ∧ Below w.heap.size w w' := by
  obtain ⟨op, tx, args, defs, kids⟩ := t
  have hv' := hv
  unfold TermAt at hv
  obtain ⟨hz, _, _, _, rfl, ⟨a0, p0, rfl, _⟩, ⟨a1, p1, rfl, _⟩, ⟨a2, p2, rfl, _⟩⟩ := hv
  have b1 : Below w.heap.size w (w.alloc (.cells #[.int .i64 op, .string tx, .slice a0 args.length p0, .slice a1 defs.length p1, .slice a2 kids.length p2] 33)) := (Below.refl _ w).alloc (Nat.le_refl _) _
  have hm := formed_ok B u (.proc (.mk op tx args defs kids)) (.iface 83 (.agg #[.int .i64 op, .string tx, .slice a0 args.length p0, .slice a1 defs.length p1, .slice a2 kids.length p2])) _ (hu.trans ((Below.keptC b1).mono hB)) (by simp; omega) hf ⟨_, rfl, hv'⟩
  go_enter Tryz.func25, Tryz.ntmps25
  go_wp2_with (go_at_call 68; refine hm.mono ?_; clear hm; rintro e w1 ⟨rfl, hb1⟩)
  go_ret
  exact ⟨rfl, b1.trans (hb1.mono (by simp))⟩

set_option maxHeartbeats 1000000 in
theorem mustFit_ok (B : Nat) (u : World) (t : Term) (cs : List Value) (w : World) (hu : KeptC B u w) (hB : B ≤ w.heap.size) (hf : Formed (.proc t)) (hv : TermAt B u cs t) :
    Calls Tryz.prog 88 #[.agg cs.toArray] w fun e w' => e = .returned (.tuple #[]) ∧ Below w.heap.size w w' := by
  obtain ⟨op, tx, args, defs, kids⟩ := t
  have hv' := hv
  unfold TermAt at hv
  obtain ⟨hz, _, _, _, rfl, ⟨a0, p0, rfl, _⟩, ⟨a1, p1, rfl, _⟩, ⟨a2, p2, rfl, _⟩⟩ := hv
  have b1 : Below w.heap.size w (w.alloc (.cells #[.int .i64 op, .string tx, .slice a0 args.length p0, .slice a1 defs.length p1, .slice a2 kids.length p2] 33)) := (Below.refl _ w).alloc (Nat.le_refl _) _
  have hm := check_ok B u (.mk op tx args defs kids) _ _ (hu.trans ((Below.keptC b1).mono hB)) (by simp; omega) hf hv'
  go_enter Tryz.func88, Tryz.ntmps88
  go_wp2_with (go_at_call 25; refine hm.mono ?_; clear hm; rintro e w1 ⟨rfl, hb1⟩)
  go_end0
  exact ⟨rfl, b1.trans (hb1.mono (by simp))⟩

set_option maxHeartbeats 1000000 in
theorem mustName_ok (s : ByteArray) (w : World) (hs : s.size ≤ maxLen) (hn : nameB s = true) :
    Calls Tryz.prog 84 #[.string s] w fun e w' => e = .returned (.tuple #[]) ∧ Below w.heap.size w w' := by
  go_enter Tryz.func84, Tryz.ntmps84
  go_wp2_with (go_at_call 16; refine (tname_any _ _ hs).mono ?_; rintro e w1 ⟨rfl, hb1⟩)
  go_end0
  exact ⟨rfl, hb1⟩

end Go.Proofs.YtjmlaeofjjhfmaaGreat
/- Defines, split, Parts' pieces. -/
namespace Go.Proofs.YtjmlaeofjjhfmaaGreat
open Go.RowKit Go.Shelf

theorem StrsAt.later {w w' : World} {v : Value} {ss : List ByteArray} (h : StrsAt w.heap.size w v ss) (hb : Below w.heap.size w w') : StrsAt w'.heap.size w' v ss := (h.below hb).mono hb.size

set_option maxHeartbeats 1000000 in
theorem defines_ok (B : Nat) (u : World) (tx : ByteArray) (args : List Exp) (d : List Clause) (kids : List Term) (cs : List Value) (w : World) (hu : KeptC B u w) (hB : B ≤ w.heap.size) (hf : Formed (.proc (.mk 4 tx args d kids)))
    (hv : TermAt B u cs (.mk 4 tx args d kids)) :
    Calls Tryz.prog 30 #[.agg cs.toArray] w fun e w' => ∃ r1 r2, e = .returned (.tuple #[r1, r2, .int .i64 0]) ∧ StrsAt w'.heap.size w' r1 (channelsL d) ∧ StrsAt w'.heap.size w' r2 (placesL d) ∧ Below w.heap.size w w' := by
  have hv' := hv
  unfold TermAt at hv
  obtain ⟨hz, _, _, _, rfl, ⟨a0, p0, rfl, _⟩, ⟨a1, p1, rfl, _, hd⟩, ⟨a2, p2, rfl, _⟩⟩ := hv
  obtain ⟨U, u1, u2, u3⟩ := (hf.2 (.proc (.mk 4 tx args d kids), 1) (by rw [nodesOf_eq]; exact List.mem_cons_self ..)).2.2 rfl
  obtain ⟨W1, hW1⟩ : ∃ W1, W1 = w.alloc (.cells #[.int .i64 4, .string tx, .slice a0 args.length p0, .slice a1 d.length p1, .slice a2 kids.length p2] 33) := ⟨_, rfl⟩
  have b1 : Below w.heap.size w W1 := by rw [hW1]; exact (Below.refl _ w).alloc (Nat.le_refl _) _
  have z1 : W1.heap.size = w.heap.size + 1 := by rw [hW1]; simp
  have k0 : W1.cell? ⟨w.heap.size, 0, none⟩ = some (.int .i64 4) := by rw [hW1, World.cell?_alloc_at _ _ _ _ rfl]; rfl
  have k3 : W1.cell? ⟨w.heap.size, 3, none⟩ = some (.slice a1 d.length p1) := by rw [hW1, World.cell?_alloc_at _ _ _ _ rfl]; rfl
  have hck := check_ok B u (.mk 4 tx args d kids) _ W1 (hu.trans ((Below.keptC b1).mono hB)) (by omega) hf hv'
  obtain ⟨Q, hQ⟩ : ∃ Q : World → Prop, Q = fun W => Below W1.heap.size W1 W := ⟨_, rfl⟩
  have hch : ∀ W, Q W → Calls Tryz.prog 76 #[.slice a1 d.length p1] W fun e w' => ∃ r, e = .returned r ∧ StrsAt w'.heap.size w' r (channelsL d) ∧ Below W.heap.size W w' ∧ w'.cell? ⟨w.heap.size, 3, none⟩ = some (.slice a1 d.length p1) ∧ Q w' := fun W hW => by
    rw [hQ] at hW
    have hs := hW.size
    exact (channels_any B u d u1 u2 a1 p1 W (hu.trans ((Below.keptC (b1.trans (hW.mono (by omega)))).mono hB)) (by omega) hd).mono fun e w' ⟨r, h1, h2, h3, h4⟩ => by
      have h5 : Below W1.heap.size W1 w' := hW.trans (h4.mono hs)
      exact ⟨r, h1, strs_of_owns h2 h3, h4, (h5.cell (p := ⟨w.heap.size, 3, none⟩) (by simp; omega)).trans k3, by rw [hQ]; exact h5⟩
  have hpl : ∀ W, Q W → Calls Tryz.prog 77 #[.slice a1 d.length p1] W fun e w' => ∃ r, e = .returned r ∧ StrsAt w'.heap.size w' r (placesL d) ∧ Below W.heap.size W w' ∧ w'.cell? ⟨w.heap.size, 3, none⟩ = some (.slice a1 d.length p1) ∧ Q w' := fun W hW => by
    rw [hQ] at hW
    have hs := hW.size
    exact (places_any B u (csize d) d (Nat.le_refl _) u1 a1 p1 W (hu.trans ((Below.keptC (b1.trans (hW.mono (by omega)))).mono hB)) (by omega) hd).mono fun e w' ⟨r, h1, h2, h3, h4⟩ => by
      have h5 : Below W1.heap.size W1 w' := hW.trans (h4.mono hs)
      exact ⟨r, h1, strs_of_owns h2 h3, h4, (h5.cell (p := ⟨w.heap.size, 3, none⟩) (by simp; omega)).trans k3, by rw [hQ]; exact h5⟩
  have hfin : ∀ W, Q W → Below w.heap.size w W := fun W hW => by rw [hQ] at hW; exact b1.trans (hW.mono (by omega))
  have hq0 : ∀ W2, Below W1.heap.size W1 W2 → Q W2.drew ∧ W2.drew.cell? ⟨w.heap.size, 3, none⟩ = some (.slice a1 d.length p1) ∧ W2.cell? ⟨w.heap.size, 0, none⟩ = some (.int .i64 4) := fun W2 h => by
    rw [hQ]; exact ⟨h.drew, (h.cell (p := ⟨w.heap.size, 3, none⟩) (by simp; omega)).trans k3, (h.cell (p := ⟨w.heap.size, 0, none⟩) (by simp; omega)).trans k0⟩
  have HW := Lib.hid hW1
  clear hW1 hQ k0 k3 u1 u2 u3
  go_enter Tryz.func30, Tryz.ntmps30
  go_wp2_with (go_at_call 25; rw [← HW.out]; refine hck.mono ?_; rintro e w2 ⟨rfl, hb2⟩; obtain ⟨hQ2, hc3, hc0⟩ := hq0 w2 hb2; clear hq0)
  go_region_with (first
    | (go_at_call 76; refine (hch _ (by assumption)).mono ?_; rintro e w3 ⟨r1, rfl, hs1, hb3, hc31, hQ3⟩)
    | (go_at_call 77; refine (hpl _ (by assumption)).mono ?_; rintro e w4 ⟨r2, rfl, hs2, hb4, hc32, hQ4⟩))
  all_goals
    clear hch hpl hck hf hv' hd hc3 hc31 hc32
    go_wp2
    go_ret3
    first
      | exact ⟨_, _, rfl, hs1.later hb4, hs2, hfin _ hQ4⟩
      | exact ⟨_, _, rfl, hs1, hs2.later hb3, hfin _ hQ3⟩

end Go.Proofs.YtjmlaeofjjhfmaaGreat
/- Sets of strings told by their members: look-up, put, delete, maps.Copy. -/
namespace Go.Proofs
open Go.Shelf
end Go.Proofs
namespace Go.Proofs.YtjmlaeofjjhfmaaGreat
open Go.RowKit Go.Shelf Go.Maps Go.WideMaps

/-- Block b is a map of at most n entries: true at just the keys of which f holds. -/
def SetF (w : World) (b n : Nat) (f : List UInt8 → Bool) : Prop :=
  ∃ D, w.ownsMap (H := Unit) Tryz.prog 9 (plainElem Tryz.prog 4) b n D ∧ ∀ k, has D (.string k) = f k ∧ ∀ z, D.atKey (.string k) z = if f k then .lit (.bool true) else z

theorem SetF.congr {w : World} {b n : Nat} {f g : List UInt8 → Bool} (h : SetF w b n f) (e : ∀ k, f k = g k) : SetF w b n g := by
  rw [← funext e]; exact h
theorem SetF.made (w : World) : SetF (w.alloc (.map #[] 0)) w.heap.size 0 (fun _ => false) :=
  ⟨.map [], World.ownsMap_made _ _ _ _, fun k => ⟨rfl, fun z => rfl⟩⟩
theorem SetF.lt {w : World} {b n : Nat} {f : List UInt8 → Bool} (h : SetF w b n f) : b < w.heap.size := by
  obtain ⟨D, h, _⟩ := h; exact h.lt
theorem SetF.mono {w : World} {b n m : Nat} {f : List UInt8 → Bool} (h : SetF w b n f) (hn : n ≤ m) : SetF w b m f := by
  obtain ⟨D, h, r⟩ := h; exact ⟨D, h.mono hn, r⟩
theorem SetF.kept {w w' : World} {b n : Nat} {f : List UInt8 → Bool} {row : Option Nat} (h : SetF w b n f) (hg : w.grownBy w' row) (hne : some b ≠ row) : SetF w' b n f := by
  obtain ⟨D, h, r⟩ := h; exact ⟨D, h.kept hg hne, r⟩
theorem SetF.later {w w' : World} {b n : Nat} {f : List UInt8 → Bool} (h : SetF w b n f) (hb : Below w.heap.size w w') : SetF w' b n f := h.kept (grown_of_below hb) (by simp)
theorem SetF.look {w : World} {b n : Nat} {f : List UInt8 → Bool} (h : SetF w b n f) {k : ByteArray} (hk : k.size ≤ maxLen) :
    (Instr.lookup 70 (.map (some b)) (.string k) false).run Tryz.prog w = .ok (.bool (f (bytesOf k))) w := by
  obtain ⟨D, hD, hf⟩ := h
  obtain ⟨v, ps, hrun, hv⟩ := World.ownsMap.lookup hD (string_keyed Tryz.underlying9) Tryz.underlying70 (zero4 w) (plainElem_bool Tryz.underlying4 false) (keyOf_string_mk Tryz.underlying9 hk)
  obtain ⟨a, rfl, ha⟩ := plainElem_bool_inv Tryz.underlying4 hv
  rw [hrun]
  rw [show Lit.string k.data.toList = Lit.string (bytesOf k) from rfl, (hf _).2] at ha
  cases h : f (bytesOf k) <;> simp [h] at ha <;> simp [ha]
theorem SetF.put {w : World} {b n : Nat} {f : List UInt8 → Bool} (h : SetF w b n f) (hn : n < maxLen) {k : ByteArray} (hk : k.size ≤ maxLen) :
    ∃ w', (Instr.mapUpdate 70 (.map (some b)) (.string k) (.bool true)).run Tryz.prog w = .ok () w' ∧ SetF w' b (n + 1) (fun x => f x || x == bytesOf k) ∧ w.grownBy w' (some b) := by
  obtain ⟨D, hD, hf⟩ := h
  obtain ⟨w', h1, h2, h3⟩ := World.ownsMap.update hD (string_keyed Tryz.underlying9) Tryz.underlying70 hn (keyOf_string_mk Tryz.underlying9 hk) (plainElem_bool Tryz.underlying4 true)
  refine ⟨w', h1, ⟨_, h2, fun x => ?_⟩, h3⟩
  have hm : IsMap D := hD.isMap
  by_cases hx : x = bytesOf k
  · subst hx
    have e1 := has_put_same (D := D) hm (k := .string (bytesOf k)) (by simp [WideAt.IsKeyLit]) (.lit (.bool true))
    refine ⟨by simp; exact e1, fun z => ?_⟩
    have e2 := atKey_put_same (D := D) hm (k := .string (bytesOf k)) (by simp [WideAt.IsKeyLit]) (.lit (.bool true)) z
    simp; exact e2
  · have hne : Lit.string x ≠ Lit.string k.data.toList := by simp; exact hx
    have hb : (x == bytesOf k) = false := by simpa using hx
    simp only [hb, Bool.or_false]
    rw [has_put_other hne]
    exact ⟨(hf x).1, fun z => by rw [atKey_put_other hne]; exact (hf x).2 z⟩
theorem SetF.del {w : World} {b n : Nat} {f : List UInt8 → Bool} (h : SetF w b n f) {k : ByteArray} (hk : k.size ≤ maxLen) (ty : TypeId) :
    ∃ w', (Builtin.delete_ #[70, 9] ty #[.map (some b), .string k]).run Tryz.prog w = .ok (.tuple #[]) w' ∧ SetF w' b n (fun x => f x && !(x == bytesOf k)) ∧ w.grownBy w' (some b) := by
  obtain ⟨D, hD, hf⟩ := h
  obtain ⟨w', h1, h2, h3⟩ := World.ownsMap.drop hD (string_keyed Tryz.underlying9) Tryz.underlying70 (keyOf_string_mk Tryz.underlying9 hk) ty
  refine ⟨w', h1, ⟨_, h2, fun x => ?_⟩, h3.grown⟩
  by_cases hx : x = bytesOf k
  · subst hx
    simp
    exact ⟨has_del_same, fun z => atKey_del_same z⟩
  · have hne : Lit.string x ≠ Lit.string k.data.toList := by simp; exact hx
    have hb : (x == bytesOf k) = false := by simpa using hx
    simp only [hb, Bool.not_false, Bool.and_true]
    rw [has_del_other hne]
    exact ⟨(hf x).1, fun z => by rw [atKey_del_other hne]; exact (hf x).2 z⟩

/-- maps.Copy of one set into another one. -/
theorem SetF.copy {w : World} {bd bs nd ns : Nat} {f g : List UInt8 → Bool} (hd : SetF w bd nd f) (hs : SetF w bs ns g) (hne : bd ≠ bs) (hroom : nd + ns ≤ maxLen) :
    Calls Tryz.prog 86 #[.map (some bd), .map (some bs)] w fun e w' => e = .returned (.tuple #[]) ∧ SetF w' bd (nd + ns) (fun k => f k || g k) ∧ w.grownBy w' (some bd) := by
  obtain ⟨Dd, hD, hf⟩ := hd
  obtain ⟨Ds, hS, hg⟩ := hs
  have hsz := hS.size_le
  have hcon := AnyX.maps_Copy Tryz.copy86 (string_keyed Tryz.underlying9) (plainElem Tryz.prog 4) bd bs nd ns Dd Ds w hD hS hne (by omega)
  change Calls Tryz.prog 86 _ _ _ at hcon
  refine hcon.mono ?_
  rintro e w' ⟨rfl, h1, h2, h3⟩
  refine ⟨rfl, ?_, h3⟩
  obtain ⟨es, rfl, hpw, hkl⟩ := hS.entries (string_keyed Tryz.underlying9)
  refine ⟨_, h1.mono (by omega), fun k => ?_⟩
  have hm : IsMap Dd := hD.isMap
  have e1 := has_foldPut (.string k) es Dd hm hkl
  have e2 := fun z => atKey_foldPut (.string k) z es Dd hm hkl hpw
  have eg : es.any (fun p => p.1.sameKey (.string k)) = g k := (hg k).1
  refine ⟨by show has (es.foldl _ Dd) _ = _; rw [e1, (hf k).1, eg], fun z => ?_⟩
  show (es.foldl _ Dd).atKey _ z = _
  rw [e2]
  have ea := fun z => (hg k).2 z
  simp only [DataW.atKey] at ea
  cases hfd : es.find? (fun p => p.1.sameKey (.string k)) with
  | none =>
    rw [hfd] at ea
    have hgk : g k = false := by
      cases hgk : g k with
      | false => rfl
      | true => have := ea .nil; rw [hgk] at this; simp at this
    simp only [hgk, Bool.or_false]
    exact (hf k).2 z
  | some p =>
    rw [hfd] at ea
    have hgk : g k = true := by
      rw [← eg, List.any_eq_true]
      exact ⟨p, List.mem_of_find?_eq_some hfd, by simpa using List.find?_some hfd⟩
    have := ea .nil
    rw [hgk] at this
    simp only [hgk, Bool.or_true, if_true]
    simpa using this

end Go.Proofs.YtjmlaeofjjhfmaaGreat
/- binds, stands. -/
namespace Go.Proofs.YtjmlaeofjjhfmaaGreat
open Go.RowKit Go.Shelf

def bindsP : Part → List ByteArray
  | .proc (.mk op _ _ d _) => if op = 4 then channelsL d ++ placesL d else []
  | .exp _ => []
  | .def_ (.mk _ _ j _ _) => j.flatMap (·.names)
def standsP : Part → ByteArray
  | .proc (.mk _ t _ _ _) => t
  | .exp (.mk _ _ t _) => t
  | .def_ _ => ByteArray.empty

/-- append(a, b...) of two lists of strings, a in a row of the call's own: its run. -/
theorem strs_joined {w : World} {A : Nat} {v1 v2 : Value} {s1 s2 : List ByteArray} (ty : TypeId) (ho : w.ownsRow A 9 1 v1 s1.length (strVals s1)) (h2 : StrsAt w.heap.size w v2 s2) (hA : A ≤ w.heap.size) (h1 : s1.length ≤ 1000000) (h3 : s2.length ≤ 1000000) (hz : ∀ s ∈ s1, s.size ≤ maxLen) :
    ∃ v' w', (Builtin.append_ #[22, 22] ty #[v1, v2]).run Tryz.prog w = .ok v' w' ∧ w'.ownsRow A 9 1 v' (s1 ++ s2).length (strVals (s1 ++ s2)) ∧ (∀ s ∈ s1 ++ s2, s.size ≤ maxLen) ∧ w.grownBy w' v1.ownBlock := by
  obtain ⟨i0, hi, hz0, hz1, hz2⟩ := info_parts info9
  have hzz : ∀ s ∈ s1 ++ s2, s.size ≤ maxLen := by
    intro s hs
    rcases List.mem_append.1 hs with hs | hs
    · exact hz s hs
    · obtain ⟨_, _, _, _, hz', _⟩ := h2; exact hz' s hs
  obtain ⟨a, cap, rfl, hl, hz', hcap, h⟩ := h2
  cases a with
  | none =>
    obtain rfl := hcap rfl
    have h0 : s2 = [] := by rcases h with h | ⟨_, _, h, _⟩; exact h; cases h
    subst h0
    have hr := run_append_owned_none (P := Tryz.prog) (w := w) A 22 ty 9 i0 1 Tryz.underlying22 hi v1 s1.length (strVals s1) ho
    exact ⟨v1, w, hr, by simpa using ho, hzz, World.grownBy.refl _ _⟩
  | some ad =>
    have hnews : ∀ j x, (strVals s2)[j]? = some x → w.cell? (ad.add j) = some x := by
      intro j x hx
      have hj : j < s2.length := by have := (List.getElem?_eq_some_iff.1 hx).1; simpa [strVals] using this
      rcases h with h | ⟨b, off, hb, _, hc⟩
      · subst h; simp at hj
      · cases hb
        have e : (⟨b, off, none⟩ : Addr).add j = ⟨b, off + j, none⟩ := by unfold Addr.add; by_cases h : j = 0 <;> simp [h]
        rw [e]
        simp [strVals, hj] at hx
        subst hx
        exact hc j hj
    obtain ⟨v', w', hr, h4, h5, _, _⟩ := run_append_own_at (P := Tryz.prog) w A 22 ty 9 i0 (.string ⟨#[]⟩) 1 16 Tryz.underlying22 hi hz0 hz1 hz2 rfl (by decide) v1 s1.length (strVals s1) ho ad s2.length cap (strVals s2) (by simp [strVals]) hnews (by simp [strVals, Value.oneCell']) (by unfold maxLen; omega) (by omega) hA
    exact ⟨v', w', hr, by rw [List.length_append]; simpa [strVals] using h4, hzz, h5⟩

theorem expBinds (cs : Array Value) (w : World) (o n : Int) (t : ByteArray) (a : Option Addr) (k c : Nat) :
    Calls Tryz.prog 218 #[.agg #[.int .i64 o, .int .i64 n, .string t, .slice a k c]] w fun e w' => e = .returned (.slice none 0 0) ∧ Below w.heap.size w w' := by
  go_enter Tryz.func218, Tryz.ntmps218
  go_wp2
  go_ret
  exact ⟨rfl, by first | exact Below.refl _ _ | exact (Below.refl _ w).alloc (Nat.le_refl _) _⟩
theorem expStands (w : World) (o n : Int) (t : ByteArray) (a : Option Addr) (k c : Nat) :
    Calls Tryz.prog 220 #[.agg #[.int .i64 o, .int .i64 n, .string t, .slice a k c]] w fun e w' => e = .returned (.string t) ∧ Below w.heap.size w w' := by
  go_enter Tryz.func220, Tryz.ntmps220
  go_wp2
  go_ret
  exact ⟨rfl, by first | exact Below.refl _ _ | exact (Below.refl _ w).alloc (Nat.le_refl _) _⟩
theorem procStands (w : World) (o : Int) (t : ByteArray) (a0 a1 a2 : Option Addr) (k0 k1 k2 c0 c1 c2 : Nat) :
    Calls Tryz.prog 217 #[.agg #[.int .i64 o, .string t, .slice a0 k0 c0, .slice a1 k1 c1, .slice a2 k2 c2]] w fun e w' => e = .returned (.string t) ∧ Below w.heap.size w w' := by
  go_enter Tryz.func217, Tryz.ntmps217
  go_wp2
  go_ret
  exact ⟨rfl, by first | exact Below.refl _ _ | exact (Below.refl _ w).alloc (Nat.le_refl _) _⟩
theorem defStands (w : World) (o : Int) (t : ByteArray) (a0 a1 a2 : Option Addr) (k0 k1 k2 c0 c1 c2 : Nat) :
    Calls Tryz.prog 231 #[.agg #[.int .i64 o, .string t, .slice a0 k0 c0, .slice a1 k1 c1, .slice a2 k2 c2]] w fun e w' => e = .returned (.string ⟨#[]⟩) ∧ Below w.heap.size w w' := by
  go_enter Tryz.func231, Tryz.ntmps231
  go_wp2
  go_ret
  exact ⟨rfl, by first | exact Below.refl _ _ | exact (Below.refl _ w).alloc (Nat.le_refl _) _⟩

end Go.Proofs.YtjmlaeofjjhfmaaGreat
