/- parts of an expression, a definition, a process: the interface values of all parts below, in a new row. -/
import Derived.Test.YtjmlaeofjjhfmaaGreatP01
set_option linter.unusedVariables false
set_option linter.unusedSimpArgs false
namespace Go.Proofs.YtjmlaeofjjhfmaaGreat
open Go.RowKit

theorem info154 : (Tryz.prog.info? 154).map (fun i => (i.zero, i.size, i.bytes)) = some (some .nilIface, 1, 16) := by kernel_rfl

theorem cells4 {w : World} {b off : Nat} {a0 a1 a2 a3 : Value} (h : CellsAt w b off [a0, a1, a2, a3]) :
    w.cell? ⟨b, off, none⟩ = some a0 ∧ w.cell? ⟨b, off + 1, none⟩ = some a1 ∧ w.cell? ⟨b, off + 2, none⟩ = some a2 ∧ w.cell? ⟨b, off + 3, none⟩ = some a3 :=
  ⟨h 0 (by simp), h 1 (by simp), h 2 (by simp), h 3 (by simp)⟩
theorem cells5 {w : World} {b off : Nat} {a0 a1 a2 a3 a4 : Value} (h : CellsAt w b off [a0, a1, a2, a3, a4]) :
    w.cell? ⟨b, off, none⟩ = some a0 ∧ w.cell? ⟨b, off + 1, none⟩ = some a1 ∧ w.cell? ⟨b, off + 2, none⟩ = some a2 ∧ w.cell? ⟨b, off + 3, none⟩ = some a3 ∧ w.cell? ⟨b, off + 4, none⟩ = some a4 :=
  ⟨h 0 (by simp), h 1 (by simp), h 2 (by simp), h 3 (by simp), h 4 (by simp)⟩
theorem cells2 {w : World} {b off : Nat} {a0 a1 : Value} (h : CellsAt w b off [a0, a1]) :
    w.cell? ⟨b, off, none⟩ = some a0 ∧ w.cell? ⟨b, off + 1, none⟩ = some a1 :=
  ⟨h 0 (by simp), h 1 (by simp)⟩

theorem cell_one_at (w : World) (x : Value) (t : TypeId) (n : Nat) (hn : n = w.heap.size) : ∀ j u, [x][j]? = some u → (w.alloc (.cells #[x] t)).cell? ((⟨n, 0, none⟩ : Addr).add j) = some u := by
  subst hn; exact cell_one_new w x t

/-- The interface values vs are the parts ps. -/
def PartsAt (B : Nat) (w : World) (vs : List Value) (ps : List Part) : Prop :=
  vs.length = ps.length ∧ (∀ v ∈ vs, v.oneCell' = true) ∧ ∀ i, (h : i < vs.length) → (h' : i < ps.length) → PartAt B w vs[i] ps[i]

theorem PartsAt.nil {B : Nat} {w : World} : PartsAt B w [] [] := ⟨rfl, by simp, by simp⟩
theorem PartsAt.snoc {B : Nat} {w : World} {vs : List Value} {ps : List Part} {v : Value} {p : Part} (h : PartsAt B w vs ps) (hv : PartAt B w v p) : PartsAt B w (vs ++ [v]) (ps ++ [p]) := by
  obtain ⟨h1, h2, h3⟩ := h
  refine ⟨by simp [h1], ?_, ?_⟩
  · intro u hu
    rcases List.mem_append.1 hu with hu | hu
    · exact h2 u hu
    · obtain rfl := List.mem_singleton.1 hu
      cases p <;> (obtain ⟨cs, rfl, _⟩ := hv; rfl)
  · intro i hi hi'
    by_cases hl : i < vs.length
    · rw [List.getElem_append_left hl, List.getElem_append_left (by omega)]; exact h3 i hl (by omega)
    · have e1 : i = vs.length := by simp at hi; omega
      subst e1
      simp only [List.getElem_concat_length, h1]
      exact hv


theorem ret_row {wr : World} {B : Nat} {v : Value} {n : Nat} {vs : List Value} (h : wr.ownsRow B 154 1 v n vs) (hn : vs.length = n) : wr.ownsRow B 154 1 v vs.length vs := by rw [hn]; exact h

set_option maxHeartbeats 1000000 in
set_option maxRecDepth 10000 in
theorem expParts (op n : Int) (text : ByteArray) (a_kids : Option Addr) (cap_kids : Nat) (kids : List Exp) (B : Nat) (u w : World) (hu : KeptC B u w) (hBs : B ≤ w.heap.size) (hl_kids : kids.length ≤ 100) (h_kids : kids.length = 0 ∨ ∃ b off, a_kids = some ⟨b, off, none⟩ ∧ b < B ∧ ExpsAt B u b off kids) :
    Calls Tryz.prog 219 #[.agg #[.int .i64 op, .int .i64 n, .string text, .slice a_kids kids.length cap_kids]] w fun e w' => ∃ v vs, e = .returned v ∧
      w'.ownsRow (w.heap.size + 1) 154 1 v vs.length vs ∧ PartsAt B u vs (kids.map .exp) ∧ Below w.heap.size w w' := by
  obtain ⟨i0, hi, hz0, hz1, hz2⟩ := info_parts info154
  obtain ⟨W1, HW1⟩ : ∃ W, W = w.alloc (.cells #[.int .i64 op, .int .i64 n, .string text, .slice a_kids kids.length cap_kids] 88) := ⟨_, rfl⟩
  have hW1 : Below w.heap.size w W1 := by rw [HW1]; exact (Below.refl _ w).alloc (Nat.le_refl _) _
  have hW1s : W1.heap.size = w.heap.size + 1 := by rw [HW1]; simp
  have hbox_kids : W1.cell? ⟨w.heap.size, 3, none⟩ = some (.slice a_kids kids.length cap_kids) := by rw [HW1, World.cell?_alloc_at _ _ _ _ rfl]; rfl
  have HWH := Lib.hid HW1
  go_enter Tryz.func219, Tryz.ntmps219
  go_wp2_with fail
  rw [← HWH.out]
  clear HW1
  go_wp2
  go_loopw [3, 9] (fun v i wr => ∃ (k : Nat) (vs : List Value), k ≤ kids.length ∧ vs.length = k ∧ i = .int .i64 k ∧ Below (w.heap.size + 1) W1 wr ∧ wr.ownsRow (w.heap.size + 1) 154 1 v (k) vs ∧ PartsAt B u vs ((kids.take k).map .exp)) (fun _ i _ => kids.length - (intOf i).toNat)
  case atStart => exact ⟨0, [], by omega, rfl, rfl, Below.refl _ _, World.ownsRow_nil _ _ _ _, PartsAt.nil⟩
  case round =>
    obtain ⟨k, vs, hk', hvs, rfl, hB, hown, hps⟩ := hrel
    have HV := Lib.hid hvs; clear hvs
    by_cases hlt : k < kids.length
    · rcases h_kids with h0 | ⟨b, off, rfl, hb, hk⟩
      · omega
      obtain ⟨cs, hcs, hexp⟩ := hk.get kids b off k hlt
      have hexp' := hexp
      obtain ⟨e0, he0⟩ : ∃ e, e = kids[k] := ⟨_, rfl⟩
      rw [← he0] at hexp hexp'
      have HE := Lib.hid he0; clear he0
      obtain ⟨o0, n0, t0, k0⟩ := e0
      unfold ExpAt at hexp
      obtain ⟨_, _, rfl, a0, p0, rfl, _⟩ := hexp
      have hexp := hexp'
      have hBw := hW1.trans (hB.mono (Nat.le_succ _))
      obtain ⟨c0, c1, c2, c3⟩ := cells4 ((hcs.keep hu hb).below hBw (by omega))
      have hsz := hB.size
      have HL := Lib.hid HV.out
      have hpp : PartAt B u (.iface 88 (.agg #[.int .i64 o0, .int .i64 n0, .string t0, .slice a0 k0.length p0])) (.exp kids[k]) := ⟨_, rfl, by rw [← HE.out]; exact hexp'⟩
      go_wp2_with (first
        | (at_builtin; refine wpList_append_own _ rfl _ _ 167 rfl (w.heap.size + 1) 154 i0 .nilIface 1 16 Tryz.underlying167 hi hz0 hz1 hz2 rfl (by decide) _ _ _ rfl ((hown.alloc _).alloc _) ⟨wr.heap.size + 1, 0, none⟩ 1 1 [.iface 88 (.agg #[.int .i64 o0, .int .i64 n0, .string t0, .slice a0 k0.length p0])] rfl rfl (cell_one_at _ _ _ _ (by simp)) (by simp [Value.oneCell']) (by unfold maxLen; omega) (by omega) (by simp; omega) ?_; intro v' w1 hown' hgrow _)
        | go_in)
      go_roundw
      case rel =>
        have hB1 : Below (w.heap.size + 1) W1 w1 := ((hB.alloc (by omega) _).alloc (by simp; omega) _).grown hgrow (by simp; omega) (fun k e => (hown.lt k e).1)
        exact ⟨k + 1, vs ++ [_], by omega, by have := HL.out; simp; omega, by go_num, hB1, hown', by rw [List.take_succ_eq_append_getElem hlt, List.map_append]; exact hps.snoc hpp⟩
      case measure => simp [intOf]; omega
    · obtain rfl : k = kids.length := by omega
      rw [List.take_length] at hps
      have hsz0 := hB.size
      have HO := Lib.hid hown; clear hown
      go_wp2
      go_ret
      exact ⟨_, vs, rfl, ret_row HO.out HV.out, hps, hW1.trans (hB.mono (Nat.le_succ _))⟩

set_option maxHeartbeats 1000000 in
set_option maxRecDepth 10000 in
theorem procParts (op : Int) (text : ByteArray) (a_args : Option Addr) (cap_args : Nat) (args : List Exp) (a_defs : Option Addr) (cap_defs : Nat) (defs : List Clause) (a_kids : Option Addr) (cap_kids : Nat) (kids : List Term) (B : Nat) (u w : World) (hu : KeptC B u w) (hBs : B ≤ w.heap.size) (hl_args : args.length ≤ 100) (h_args : args.length = 0 ∨ ∃ b off, a_args = some ⟨b, off, none⟩ ∧ b < B ∧ ExpsAt B u b off args) (hl_defs : defs.length ≤ 100) (h_defs : defs.length = 0 ∨ ∃ b off, a_defs = some ⟨b, off, none⟩ ∧ b < B ∧ ClausesAt B u b off defs) (hl_kids : kids.length ≤ 100) (h_kids : kids.length = 0 ∨ ∃ b off, a_kids = some ⟨b, off, none⟩ ∧ b < B ∧ TermsAt B u b off kids) :
    Calls Tryz.prog 216 #[.agg #[.int .i64 op, .string text, .slice a_args args.length cap_args, .slice a_defs defs.length cap_defs, .slice a_kids kids.length cap_kids]] w fun e w' => ∃ v vs, e = .returned v ∧
      w'.ownsRow (w.heap.size + 1) 154 1 v vs.length vs ∧ PartsAt B u vs (args.map .exp ++ defs.map .def_ ++ kids.map .proc) ∧ Below w.heap.size w w' := by
  obtain ⟨i0, hi, hz0, hz1, hz2⟩ := info_parts info154
  obtain ⟨W1, HW1⟩ : ∃ W, W = w.alloc (.cells #[.int .i64 op, .string text, .slice a_args args.length cap_args, .slice a_defs defs.length cap_defs, .slice a_kids kids.length cap_kids] 83) := ⟨_, rfl⟩
  have hW1 : Below w.heap.size w W1 := by rw [HW1]; exact (Below.refl _ w).alloc (Nat.le_refl _) _
  have hW1s : W1.heap.size = w.heap.size + 1 := by rw [HW1]; simp
  have hbox_args : W1.cell? ⟨w.heap.size, 2, none⟩ = some (.slice a_args args.length cap_args) := by rw [HW1, World.cell?_alloc_at _ _ _ _ rfl]; rfl
  have hbox_defs : W1.cell? ⟨w.heap.size, 3, none⟩ = some (.slice a_defs defs.length cap_defs) := by rw [HW1, World.cell?_alloc_at _ _ _ _ rfl]; rfl
  have hbox_kids : W1.cell? ⟨w.heap.size, 4, none⟩ = some (.slice a_kids kids.length cap_kids) := by rw [HW1, World.cell?_alloc_at _ _ _ _ rfl]; rfl
  have HWH := Lib.hid HW1
  go_enter Tryz.func216, Tryz.ntmps216
  go_wp2_with fail
  rw [← HWH.out]
  clear HW1
  go_wp2
  go_loopw [3, 13] (fun v i wr => ∃ (k : Nat) (vs : List Value), k ≤ args.length ∧ vs.length = k ∧ i = .int .i64 k ∧ Below (w.heap.size + 1) W1 wr ∧ wr.ownsRow (w.heap.size + 1) 154 1 v (k) vs ∧ PartsAt B u vs ((args.take k).map .exp)) (fun _ i _ => args.length - (intOf i).toNat)
  case atStart => exact ⟨0, [], by omega, rfl, rfl, Below.refl _ _, World.ownsRow_nil _ _ _ _, PartsAt.nil⟩
  case round =>
    obtain ⟨k, vs, hk', hvs, rfl, hB, hown, hps⟩ := hrel
    have HV := Lib.hid hvs; clear hvs
    by_cases hlt : k < args.length
    · rcases h_args with h0 | ⟨b, off, rfl, hb, hk⟩
      · omega
      obtain ⟨cs, hcs, hexp⟩ := hk.get args b off k hlt
      have hexp' := hexp
      obtain ⟨e0, he0⟩ : ∃ e, e = args[k] := ⟨_, rfl⟩
      rw [← he0] at hexp hexp'
      have HE := Lib.hid he0; clear he0
      obtain ⟨o0, n0, t0, k0⟩ := e0
      unfold ExpAt at hexp
      obtain ⟨_, _, rfl, a0, p0, rfl, _⟩ := hexp
      have hexp := hexp'
      have hBw := hW1.trans (hB.mono (Nat.le_succ _))
      obtain ⟨c0, c1, c2, c3⟩ := cells4 ((hcs.keep hu hb).below hBw (by omega))
      have hsz := hB.size
      have HL := Lib.hid HV.out
      have hpp : PartAt B u (.iface 88 (.agg #[.int .i64 o0, .int .i64 n0, .string t0, .slice a0 k0.length p0])) (.exp args[k]) := ⟨_, rfl, by rw [← HE.out]; exact hexp'⟩
      go_wp2_with (first
        | (at_builtin; refine wpList_append_own _ rfl _ _ 167 rfl (w.heap.size + 1) 154 i0 .nilIface 1 16 Tryz.underlying167 hi hz0 hz1 hz2 rfl (by decide) _ _ _ rfl ((hown.alloc _).alloc _) ⟨wr.heap.size + 1, 0, none⟩ 1 1 [.iface 88 (.agg #[.int .i64 o0, .int .i64 n0, .string t0, .slice a0 k0.length p0])] rfl rfl (cell_one_at _ _ _ _ (by simp)) (by simp [Value.oneCell']) (by unfold maxLen; omega) (by omega) (by simp; omega) ?_; intro v' w1 hown' hgrow _)
        | go_in)
      go_roundw
      case rel =>
        have hB1 : Below (w.heap.size + 1) W1 w1 := ((hB.alloc (by omega) _).alloc (by simp; omega) _).grown hgrow (by simp; omega) (fun k e => (hown.lt k e).1)
        exact ⟨k + 1, vs ++ [_], by omega, by have := HL.out; simp; omega, by go_num, hB1, hown', by rw [List.take_succ_eq_append_getElem hlt, List.map_append]; exact hps.snoc hpp⟩
      case measure => simp [intOf]; omega
    · obtain rfl : k = args.length := by omega
      rw [List.take_length] at hps
      have hsz0 := hB.size
      have hbx := (hB.cell (p := ⟨w.heap.size, 3, none⟩) (by simp)).trans hbox_defs
      have HO := Lib.hid HV.out
      go_wp2

      go_loopw [3, 26] (fun v i wr => ∃ (k : Nat) (vs : List Value), k ≤ defs.length ∧ vs.length = args.length + k ∧ i = .int .i64 k ∧ Below (w.heap.size + 1) W1 wr ∧ wr.ownsRow (w.heap.size + 1) 154 1 v (args.length + k) vs ∧ PartsAt B u vs ((args.map .exp) ++ (defs.take k).map .def_)) (fun _ i _ => defs.length - (intOf i).toNat)
      case atStart => exact ⟨0, vs, by omega, by simpa using HO.out, rfl, hB, by simpa using hown, by simpa using hps⟩
      case round =>
        obtain ⟨k, vs, hk', hvs, rfl, hB, hown, hps⟩ := hrel
        have HV := Lib.hid hvs; clear hvs
        by_cases hlt : k < defs.length
        · rcases h_defs with h0 | ⟨b, off, rfl, hb, hk⟩
          · omega
          obtain ⟨cs, hcs, hexp⟩ := hk.get defs b off k hlt
          have hexp' := hexp
          obtain ⟨e0, he0⟩ : ∃ e, e = defs[k] := ⟨_, rfl⟩
          rw [← he0] at hexp hexp'
          have HE := Lib.hid he0; clear he0
          obtain ⟨o0, t0, j0, d0, k0⟩ := e0
          unfold ClauseAt at hexp
          obtain ⟨_, _, _, _, rfl, ⟨a0, p0, rfl, _⟩, ⟨a1, p1, rfl, _⟩, ⟨a2, p2, rfl, _⟩⟩ := hexp
          have hexp := hexp'
          have hBw := hW1.trans (hB.mono (Nat.le_succ _))
          obtain ⟨c0, c1, c2, c3, c4⟩ := cells5 ((hcs.keep hu hb).below hBw (by omega))
          have hsz := hB.size
          have HL := Lib.hid HV.out
          have hpp : PartAt B u (.iface 191 (.agg #[.int .i64 o0, .string t0, .slice a0 j0.length p0, .slice a1 d0.length p1, .slice a2 k0.length p2])) (.def_ defs[k]) := ⟨_, rfl, by rw [← HE.out]; exact hexp'⟩
          go_wp2_with (first
            | (at_builtin; refine wpList_append_own _ rfl _ _ 167 rfl (w.heap.size + 1) 154 i0 .nilIface 1 16 Tryz.underlying167 hi hz0 hz1 hz2 rfl (by decide) _ _ _ rfl ((hown.alloc _).alloc _) ⟨wr.heap.size + 1, 0, none⟩ 1 1 [.iface 191 (.agg #[.int .i64 o0, .string t0, .slice a0 j0.length p0, .slice a1 d0.length p1, .slice a2 k0.length p2])] rfl rfl (cell_one_at _ _ _ _ (by simp)) (by simp [Value.oneCell']) (by unfold maxLen; omega) (by omega) (by simp; omega) ?_; intro v' w1 hown' hgrow _)
            | go_in)
          go_roundw
          case rel =>
            have hB1 : Below (w.heap.size + 1) W1 w1 := ((hB.alloc (by omega) _).alloc (by simp; omega) _).grown hgrow (by simp; omega) (fun k e => (hown.lt k e).1)
            exact ⟨k + 1, vs ++ [_], by omega, by have := HL.out; simp; omega, by go_num, hB1, hown', by rw [List.take_succ_eq_append_getElem hlt, List.map_append, ← List.append_assoc]; exact hps.snoc hpp⟩
          case measure => simp [intOf]; omega
        · obtain rfl : k = defs.length := by omega
          rw [List.take_length] at hps
          have hsz1 := hB.size
          have hbx := (hB.cell (p := ⟨w.heap.size, 4, none⟩) (by simp)).trans hbox_kids
          have HO := Lib.hid HV.out
          go_wp2

          go_loopw [3, 39] (fun v i wr => ∃ (k : Nat) (vs : List Value), k ≤ kids.length ∧ vs.length = args.length + defs.length + k ∧ i = .int .i64 k ∧ Below (w.heap.size + 1) W1 wr ∧ wr.ownsRow (w.heap.size + 1) 154 1 v (args.length + defs.length + k) vs ∧ PartsAt B u vs ((args.map .exp) ++ (defs.map .def_) ++ (kids.take k).map .proc)) (fun _ i _ => kids.length - (intOf i).toNat)
          case atStart => exact ⟨0, vs, by omega, by simpa using HO.out, rfl, hB, by simpa using hown, by simpa using hps⟩
          case round =>
            obtain ⟨k, vs, hk', hvs, rfl, hB, hown, hps⟩ := hrel
            have HV := Lib.hid hvs; clear hvs
            by_cases hlt : k < kids.length
            · rcases h_kids with h0 | ⟨b, off, rfl, hb, hk⟩
              · omega
              obtain ⟨cs, hcs, hexp⟩ := hk.get kids b off k hlt
              have hexp' := hexp
              obtain ⟨e0, he0⟩ : ∃ e, e = kids[k] := ⟨_, rfl⟩
              rw [← he0] at hexp hexp'
              have HE := Lib.hid he0; clear he0
              obtain ⟨o0, t0, j0, d0, k0⟩ := e0
              unfold TermAt at hexp
              obtain ⟨_, _, _, _, rfl, ⟨a0, p0, rfl, _⟩, ⟨a1, p1, rfl, _⟩, ⟨a2, p2, rfl, _⟩⟩ := hexp
              have hexp := hexp'
              have hBw := hW1.trans (hB.mono (Nat.le_succ _))
              obtain ⟨c0, c1, c2, c3, c4⟩ := cells5 ((hcs.keep hu hb).below hBw (by omega))
              have hsz := hB.size
              have HL := Lib.hid HV.out
              have hpp : PartAt B u (.iface 83 (.agg #[.int .i64 o0, .string t0, .slice a0 j0.length p0, .slice a1 d0.length p1, .slice a2 k0.length p2])) (.proc kids[k]) := ⟨_, rfl, by rw [← HE.out]; exact hexp'⟩
              go_wp2_with (first
                | (at_builtin; refine wpList_append_own _ rfl _ _ 167 rfl (w.heap.size + 1) 154 i0 .nilIface 1 16 Tryz.underlying167 hi hz0 hz1 hz2 rfl (by decide) _ _ _ rfl ((hown.alloc _).alloc _) ⟨wr.heap.size + 1, 0, none⟩ 1 1 [.iface 83 (.agg #[.int .i64 o0, .string t0, .slice a0 j0.length p0, .slice a1 d0.length p1, .slice a2 k0.length p2])] rfl rfl (cell_one_at _ _ _ _ (by simp)) (by simp [Value.oneCell']) (by unfold maxLen; omega) (by omega) (by simp; omega) ?_; intro v' w1 hown' hgrow _)
                | go_in)
              go_roundw
              case rel =>
                have hB1 : Below (w.heap.size + 1) W1 w1 := ((hB.alloc (by omega) _).alloc (by simp; omega) _).grown hgrow (by simp; omega) (fun k e => (hown.lt k e).1)
                exact ⟨k + 1, vs ++ [_], by omega, by have := HL.out; simp; omega, by go_num, hB1, hown', by rw [List.take_succ_eq_append_getElem hlt, List.map_append, ← List.append_assoc]; exact hps.snoc hpp⟩
              case measure => simp [intOf]; omega
            · obtain rfl : k = kids.length := by omega
              rw [List.take_length] at hps
              have hsz2 := hB.size
              have HO := Lib.hid hown; clear hown
              go_wp2
              go_ret
              exact ⟨_, vs, rfl, ret_row HO.out HV.out, by simpa using hps, hW1.trans (hB.mono (Nat.le_succ _))⟩

set_option maxHeartbeats 1000000 in
set_option maxRecDepth 10000 in
theorem defParts (form : Int) (text : ByteArray) (a_joins : Option Addr) (cap_joins : Nat) (joins : List Msg) (a_defs : Option Addr) (cap_defs : Nat) (defs : List Clause) (a_kids : Option Addr) (cap_kids : Nat) (kids : List Term) (B : Nat) (u w : World) (hu : KeptC B u w) (hBs : B ≤ w.heap.size) (hl_defs : defs.length ≤ 100) (h_defs : defs.length = 0 ∨ ∃ b off, a_defs = some ⟨b, off, none⟩ ∧ b < B ∧ ClausesAt B u b off defs) (hl_kids : kids.length ≤ 100) (h_kids : kids.length = 0 ∨ ∃ b off, a_kids = some ⟨b, off, none⟩ ∧ b < B ∧ TermsAt B u b off kids) :
    Calls Tryz.prog 230 #[.agg #[.int .i64 form, .string text, .slice a_joins joins.length cap_joins, .slice a_defs defs.length cap_defs, .slice a_kids kids.length cap_kids]] w fun e w' => ∃ v vs, e = .returned v ∧
      w'.ownsRow (w.heap.size + 1) 154 1 v vs.length vs ∧ PartsAt B u vs (defs.map .def_ ++ kids.map .proc) ∧ Below w.heap.size w w' := by
  obtain ⟨i0, hi, hz0, hz1, hz2⟩ := info_parts info154
  obtain ⟨W1, HW1⟩ : ∃ W, W = w.alloc (.cells #[.int .i64 form, .string text, .slice a_joins joins.length cap_joins, .slice a_defs defs.length cap_defs, .slice a_kids kids.length cap_kids] 191) := ⟨_, rfl⟩
  have hW1 : Below w.heap.size w W1 := by rw [HW1]; exact (Below.refl _ w).alloc (Nat.le_refl _) _
  have hW1s : W1.heap.size = w.heap.size + 1 := by rw [HW1]; simp
  have hbox_defs : W1.cell? ⟨w.heap.size, 3, none⟩ = some (.slice a_defs defs.length cap_defs) := by rw [HW1, World.cell?_alloc_at _ _ _ _ rfl]; rfl
  have hbox_kids : W1.cell? ⟨w.heap.size, 4, none⟩ = some (.slice a_kids kids.length cap_kids) := by rw [HW1, World.cell?_alloc_at _ _ _ _ rfl]; rfl
  have HWH := Lib.hid HW1
  go_enter Tryz.func230, Tryz.ntmps230
  go_wp2_with fail
  rw [← HWH.out]
  clear HW1
  go_wp2
  go_loopw [3, 11] (fun v i wr => ∃ (k : Nat) (vs : List Value), k ≤ defs.length ∧ vs.length = k ∧ i = .int .i64 k ∧ Below (w.heap.size + 1) W1 wr ∧ wr.ownsRow (w.heap.size + 1) 154 1 v (k) vs ∧ PartsAt B u vs ((defs.take k).map .def_)) (fun _ i _ => defs.length - (intOf i).toNat)
  case atStart => exact ⟨0, [], by omega, rfl, rfl, Below.refl _ _, World.ownsRow_nil _ _ _ _, PartsAt.nil⟩
  case round =>
    obtain ⟨k, vs, hk', hvs, rfl, hB, hown, hps⟩ := hrel
    have HV := Lib.hid hvs; clear hvs
    by_cases hlt : k < defs.length
    · rcases h_defs with h0 | ⟨b, off, rfl, hb, hk⟩
      · omega
      obtain ⟨cs, hcs, hexp⟩ := hk.get defs b off k hlt
      have hexp' := hexp
      obtain ⟨e0, he0⟩ : ∃ e, e = defs[k] := ⟨_, rfl⟩
      rw [← he0] at hexp hexp'
      have HE := Lib.hid he0; clear he0
      obtain ⟨o0, t0, j0, d0, k0⟩ := e0
      unfold ClauseAt at hexp
      obtain ⟨_, _, _, _, rfl, ⟨a0, p0, rfl, _⟩, ⟨a1, p1, rfl, _⟩, ⟨a2, p2, rfl, _⟩⟩ := hexp
      have hexp := hexp'
      have hBw := hW1.trans (hB.mono (Nat.le_succ _))
      obtain ⟨c0, c1, c2, c3, c4⟩ := cells5 ((hcs.keep hu hb).below hBw (by omega))
      have hsz := hB.size
      have HL := Lib.hid HV.out
      have hpp : PartAt B u (.iface 191 (.agg #[.int .i64 o0, .string t0, .slice a0 j0.length p0, .slice a1 d0.length p1, .slice a2 k0.length p2])) (.def_ defs[k]) := ⟨_, rfl, by rw [← HE.out]; exact hexp'⟩
      go_wp2_with (first
        | (at_builtin; refine wpList_append_own _ rfl _ _ 167 rfl (w.heap.size + 1) 154 i0 .nilIface 1 16 Tryz.underlying167 hi hz0 hz1 hz2 rfl (by decide) _ _ _ rfl ((hown.alloc _).alloc _) ⟨wr.heap.size + 1, 0, none⟩ 1 1 [.iface 191 (.agg #[.int .i64 o0, .string t0, .slice a0 j0.length p0, .slice a1 d0.length p1, .slice a2 k0.length p2])] rfl rfl (cell_one_at _ _ _ _ (by simp)) (by simp [Value.oneCell']) (by unfold maxLen; omega) (by omega) (by simp; omega) ?_; intro v' w1 hown' hgrow _)
        | go_in)
      go_roundw
      case rel =>
        have hB1 : Below (w.heap.size + 1) W1 w1 := ((hB.alloc (by omega) _).alloc (by simp; omega) _).grown hgrow (by simp; omega) (fun k e => (hown.lt k e).1)
        exact ⟨k + 1, vs ++ [_], by omega, by have := HL.out; simp; omega, by go_num, hB1, hown', by rw [List.take_succ_eq_append_getElem hlt, List.map_append]; exact hps.snoc hpp⟩
      case measure => simp [intOf]; omega
    · obtain rfl : k = defs.length := by omega
      rw [List.take_length] at hps
      have hsz0 := hB.size
      have hbx := (hB.cell (p := ⟨w.heap.size, 4, none⟩) (by simp)).trans hbox_kids
      have HO := Lib.hid HV.out
      go_wp2

      go_loopw [3, 24] (fun v i wr => ∃ (k : Nat) (vs : List Value), k ≤ kids.length ∧ vs.length = defs.length + k ∧ i = .int .i64 k ∧ Below (w.heap.size + 1) W1 wr ∧ wr.ownsRow (w.heap.size + 1) 154 1 v (defs.length + k) vs ∧ PartsAt B u vs ((defs.map .def_) ++ (kids.take k).map .proc)) (fun _ i _ => kids.length - (intOf i).toNat)
      case atStart => exact ⟨0, vs, by omega, by simpa using HO.out, rfl, hB, by simpa using hown, by simpa using hps⟩
      case round =>
        obtain ⟨k, vs, hk', hvs, rfl, hB, hown, hps⟩ := hrel
        have HV := Lib.hid hvs; clear hvs
        by_cases hlt : k < kids.length
        · rcases h_kids with h0 | ⟨b, off, rfl, hb, hk⟩
          · omega
          obtain ⟨cs, hcs, hexp⟩ := hk.get kids b off k hlt
          have hexp' := hexp
          obtain ⟨e0, he0⟩ : ∃ e, e = kids[k] := ⟨_, rfl⟩
          rw [← he0] at hexp hexp'
          have HE := Lib.hid he0; clear he0
          obtain ⟨o0, t0, j0, d0, k0⟩ := e0
          unfold TermAt at hexp
          obtain ⟨_, _, _, _, rfl, ⟨a0, p0, rfl, _⟩, ⟨a1, p1, rfl, _⟩, ⟨a2, p2, rfl, _⟩⟩ := hexp
          have hexp := hexp'
          have hBw := hW1.trans (hB.mono (Nat.le_succ _))
          obtain ⟨c0, c1, c2, c3, c4⟩ := cells5 ((hcs.keep hu hb).below hBw (by omega))
          have hsz := hB.size
          have HL := Lib.hid HV.out
          have hpp : PartAt B u (.iface 83 (.agg #[.int .i64 o0, .string t0, .slice a0 j0.length p0, .slice a1 d0.length p1, .slice a2 k0.length p2])) (.proc kids[k]) := ⟨_, rfl, by rw [← HE.out]; exact hexp'⟩
          go_wp2_with (first
            | (at_builtin; refine wpList_append_own _ rfl _ _ 167 rfl (w.heap.size + 1) 154 i0 .nilIface 1 16 Tryz.underlying167 hi hz0 hz1 hz2 rfl (by decide) _ _ _ rfl ((hown.alloc _).alloc _) ⟨wr.heap.size + 1, 0, none⟩ 1 1 [.iface 83 (.agg #[.int .i64 o0, .string t0, .slice a0 j0.length p0, .slice a1 d0.length p1, .slice a2 k0.length p2])] rfl rfl (cell_one_at _ _ _ _ (by simp)) (by simp [Value.oneCell']) (by unfold maxLen; omega) (by omega) (by simp; omega) ?_; intro v' w1 hown' hgrow _)
            | go_in)
          go_roundw
          case rel =>
            have hB1 : Below (w.heap.size + 1) W1 w1 := ((hB.alloc (by omega) _).alloc (by simp; omega) _).grown hgrow (by simp; omega) (fun k e => (hown.lt k e).1)
            exact ⟨k + 1, vs ++ [_], by omega, by have := HL.out; simp; omega, by go_num, hB1, hown', by rw [List.take_succ_eq_append_getElem hlt, List.map_append, ← List.append_assoc]; exact hps.snoc hpp⟩
          case measure => simp [intOf]; omega
        · obtain rfl : k = kids.length := by omega
          rw [List.take_length] at hps
          have hsz1 := hB.size
          have HO := Lib.hid hown; clear hown
          go_wp2
          go_ret
          exact ⟨_, vs, rfl, ret_row HO.out HV.out, by simpa using hps, hW1.trans (hB.mono (Nat.le_succ _))⟩

end Go.Proofs.YtjmlaeofjjhfmaaGreat
