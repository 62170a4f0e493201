/- shapedDefinition, shaped, whatever comes in. -/
import Derived.Test.YtjmlaeofjjhfmaaGreatP05
import Derived.Test.YtjmlaeofjjhfmaaGreatP37
set_option linter.unusedVariables false
set_option linter.unusedSimpArgs false
namespace Go.Proofs.YtjmlaeofjjhfmaaGreat
open Go.RowKit Go.Maps

set_option maxRecDepth 10000 in
set_option maxHeartbeats 4000000 in
theorem shapedDef_any (form : Int) (text : ByteArray) (a0 : Option Addr) (p0 : Nat) (joins : List Msg) (a1 : Option Addr) (p1 : Nat) (defs : List Clause) (a2 : Option Addr) (p2 : Nat) (kids : List Term) (B : Nat) (u w : World) (hu : KeptC B u w) (hBs : B ≤ w.heap.size)
    (hj : joins.length = 0 ∨ ∃ b off, a0 = some ⟨b, off, none⟩ ∧ b < B ∧ MsgsAt B u b off joins) (hz : text.size ≤ maxLen) (l0 : joins.length ≤ 9223372036854775807) (l1 : defs.length ≤ 9223372036854775807) (l2 : kids.length ≤ 9223372036854775807) :
    Calls Tryz.prog 161 #[.agg #[.int .i64 form, .string text, .slice a0 joins.length p0, .slice a1 defs.length p1, .slice a2 kids.length p2]] w fun e w' => e = .returned (.bool (shapedCB (.mk form text joins defs kids))) ∧ Below w.heap.size w w' := by
  have hb0 : Below w.heap.size w (w.alloc (.cells #[.int .i64 form, .string text, .slice a0 joins.length p0, .slice a1 defs.length p1, .slice a2 kids.length p2] 191)).drew := ((Below.refl _ w).alloc (Nat.le_refl _) _).drew
  have hjn := joined_any a0 p0 joins B u (w.alloc (.cells #[.int .i64 form, .string text, .slice a0 joins.length p0, .slice a1 defs.length p1, .slice a2 kids.length p2] 191)).drew (hu.trans ((Below.keptC hb0).mono hBs)) (by simp; omega) hj l0
  obtain ⟨lj, hlj⟩ : ∃ lj, lj = joins.length := ⟨_, rfl⟩
  obtain ⟨ld, hld⟩ : ∃ ld, ld = defs.length := ⟨_, rfl⟩
  obtain ⟨lk, hlk⟩ : ∃ lk, lk = kids.length := ⟨_, rfl⟩
  have hS : Hid (shapedCB (.mk form text joins defs kids) = ((form == 1 && text.size == 0 && joinedB joins && ld == 0 && lk == 1) ||
    (form == 2 && nameB text && lj == 0 && decide (ld ≤ 5) && lk == 1))) := Lib.hid (by rw [hlj, hld, hlk]; rfl)
  rw [← hlj] at l0 hj hb0 hjn ⊢
  rw [← hld] at l1 hb0 hjn ⊢
  rw [← hlk] at l2 hb0 hjn ⊢
  clear hlj hld hlk hj
  generalize shapedCB (.mk form text joins defs kids) = R at hS ⊢
  generalize joinedB joins = jb at hS hjn ⊢
  have hcell : (w.alloc (.cells #[.int .i64 form, .string text, .slice a0 lj p0, .slice a1 ld p1, .slice a2 lk p2] 191)).drew.cell? ⟨w.heap.size, 2, none⟩ = some (.slice a0 lj p0) := by
    show World.cell? (w.alloc _) _ = _
    rw [World.cell?_alloc_at _ _ _ _ rfl]; rfl
  have HC := Lib.hid hcell; clear hcell
  have HJ := Lib.hid hjn; clear hjn
  go_enter Tryz.func161, Tryz.ntmps161
  go_wp2
  go_region
  go_wp2_with (first
    | (go_at_call 178; refine HJ.out.mono ?_; rintro e w1 ⟨rfl, hb1⟩)
    | (go_at_call 16; refine (tname_any _ _ hz).mono ?_; rintro e w1 ⟨rfl, hb1⟩; have hcc := (hb1.cell (p := ⟨w.heap.size, 2, none⟩) (by simp)).trans HC.out))
  all_goals go_ret
  all_goals refine ⟨ret_bool ?_, by first | exact ((Below.refl _ w).alloc (Nat.le_refl _) _).drew | exact ((Below.refl _ w).alloc (Nat.le_refl _) _).drew.trans (hb1.mono (by simp))⟩
  all_goals rw [hS.out, Bool.eq_iff_iff]
  all_goals clear hS HJ HC hb0
  all_goals try clear hb1
  all_goals try clear hcc
  all_goals generalize nameB text = nb at *
  all_goals cases nb <;> cases jb <;> simp only [toList_nil, Bool.or_eq_true, Bool.and_eq_true, beq_iff_eq, decide_eq_true_eq, Bool.not_eq_true, beq_eq_false_iff_ne, ne_eq, Bool.false_eq_true, false_iff, true_iff, iff_false, iff_true, List.isEmpty_iff, reduceCtorEq, and_true, true_and, and_false, false_and, or_false, false_or, not_true_eq_false, not_false_eq_true] at *
  all_goals first | omega | skip

set_option maxRecDepth 10000 in
set_option maxHeartbeats 1000000 in
theorem shaped_any (p : Part) (v : Value) (B : Nat) (u w : World) (hu : KeptC B u w) (hBs : B ≤ w.heap.size) (hv : PartAt B u v p) :
    Calls Tryz.prog 117 #[v] w fun e w' => e = .returned (.bool p.shaped) ∧ Below w.heap.size w w' := by
  cases p with
  | proc t =>
    obtain ⟨o, t, a, d, k⟩ := t
    obtain ⟨cs, rfl, h1, va, vd, vk, rfl, ⟨aa, ca, rfl, la, ha⟩, ⟨ad, cd, rfl, ld, hd⟩, ⟨ak, ck, rfl, lk, hk⟩⟩ := hv
    have q1 := ta_83_83; have q2 := ta_88_88; have q3 := ta_191_191; have q4 := ta_88_83; have q5 := ta_191_83; have q6 := ta_191_88
    go_enter Tryz.func117, Tryz.ntmps117
    go_wp2_with (go_at_call 159; refine (shapedProc_any _ _ _ _ _ _ _ _ _ _ _ _ h1 la ld lk).mono ?_; rintro e w1 ⟨rfl, hb1⟩)
    go_ret
    exact ⟨rfl, ((Below.refl _ w).alloc (Nat.le_refl _) _).trans (hb1.mono (by simp))⟩
  | exp t =>
    obtain ⟨o, n, t, k⟩ := t
    obtain ⟨cs, rfl, h1, vk, rfl, ⟨ak, ck, rfl, lk, hk⟩⟩ := hv
    have q1 := ta_83_83; have q2 := ta_88_88; have q3 := ta_191_191; have q4 := ta_88_83; have q5 := ta_191_83; have q6 := ta_191_88
    go_enter Tryz.func117, Tryz.ntmps117
    go_wp2_with (go_at_call 160; refine (shapedExp_any _ _ _ _ _ _ _ h1 lk).mono ?_; rintro e w1 ⟨rfl, hb1⟩)
    go_ret
    exact ⟨rfl, ((Below.refl _ w).alloc (Nat.le_refl _) _).trans (hb1.mono (by simp))⟩
  | def_ t =>
    obtain ⟨f, t, j, d, k⟩ := t
    obtain ⟨cs, rfl, h1, vj, vd, vk, rfl, ⟨aj, cj, rfl, lj, hj⟩, ⟨ad, cd, rfl, ld, hd⟩, ⟨ak, ck, rfl, lk, hk⟩⟩ := hv
    have hb0 := (Below.refl w.heap.size w).alloc (Nat.le_refl _) (.cells #[.int .i64 f, .string t, .slice aj j.length cj, .slice ad d.length cd, .slice ak k.length ck] 191)
    have hc := shapedDef_any f t aj cj j ad cd d ak ck k B u _ (hu.trans ((Below.keptC hb0).mono hBs)) (by simp; omega) hj h1 lj ld lk
    have q1 := ta_83_83; have q2 := ta_88_88; have q3 := ta_191_191; have q4 := ta_88_83; have q5 := ta_191_83; have q6 := ta_191_88
    go_enter Tryz.func117, Tryz.ntmps117
    go_wp2_with (go_at_call 161; refine hc.mono ?_; clear hc; rintro e w1 ⟨rfl, hb1⟩)
    go_ret
    exact ⟨rfl, hb0.trans (hb1.mono (by simp))⟩

end Go.Proofs.YtjmlaeofjjhfmaaGreat
