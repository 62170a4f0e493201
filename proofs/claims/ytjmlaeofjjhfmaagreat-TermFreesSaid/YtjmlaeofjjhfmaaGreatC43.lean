/- The reference's look at shape, nodes and depth: term. -/
import Derived.Test.YtjmlaeofjjhfmaaGreatC42
set_option linter.unusedVariables false
set_option linter.unusedSimpArgs false
namespace Go.Proofs.YtjmlaeofjjhfmaaGreat
open Go.RowKit

def shT (op : Int) (text : ByteArray) (la ld lk : Nat) : Bool := (((op == 1 || op == 7) && text.size == 0 && la == 0 && ld == 0 && lk == 0) ||
    (op == 2 && nameB text && decide (la ≤ 3) && ld == 0 && lk == 0) ||
    (op == 3 && text.size == 0 && la == 0 && ld == 0 && lk == 2) ||
    (op == 4 && text.size == 0 && la == 0 && decide (1 ≤ ld) && decide (ld ≤ 5) && lk == 1) ||
    (op == 5 && text.size == 0 && la == 1 && ld == 0 && lk == 2) ||
    ((op == 6 || op == 8) && nameB text && la == 0 && ld == 0 && lk == 1))
theorem rOne_t {text : ByteArray} (h : rOne text true = true) : nameB text = true := by simpa [rOne] using h
theorem rOne_f {text : ByteArray} (h : rOne text false = true) : text.size = 0 := by simpa [rOne] using h
theorem shT_f {op : Int} {text : ByteArray} {la ld lk : Nat} (hS : shT op text la ld lk = false) (ho : rOne text false = true)
    (h : (op = 1 ∨ op = 7) ∧ la = 0 ∧ ld = 0 ∧ lk = 0 ∨ op = 3 ∧ la = 0 ∧ ld = 0 ∧ lk = 2 ∨ op = 4 ∧ la = 0 ∧ 1 ≤ ld ∧ ld ≤ 5 ∧ lk = 1 ∨ op = 5 ∧ la = 1 ∧ ld = 0 ∧ lk = 2) : False := by
  have e := rOne_f ho
  rw [Bool.eq_false_iff] at hS
  apply hS
  unfold shT
  rcases h with ⟨rfl | rfl, rfl, rfl, rfl⟩ | ⟨rfl, rfl, rfl, rfl⟩ | ⟨rfl, rfl, h1, h2, rfl⟩ | ⟨rfl, rfl, rfl, rfl⟩ <;> simp_all
theorem shT_t {op : Int} {text : ByteArray} {la ld lk : Nat} (hS : shT op text la ld lk = false) (ho : rOne text true = true)
    (h : op = 2 ∧ la ≤ 3 ∧ ld = 0 ∧ lk = 0 ∨ (op = 6 ∨ op = 8) ∧ la = 0 ∧ ld = 0 ∧ lk = 1) : False := by
  have e := rOne_t ho
  rw [Bool.eq_false_iff] at hS
  apply hS
  unfold shT
  rcases h with ⟨rfl, h1, rfl, rfl⟩ | ⟨rfl | rfl, rfl, rfl, rfl⟩ <;> simp_all
theorem le5_contra {a : Int} (h1 : 5 < a) (h : (!decide (a ≤ 5)) = false ∨ (!(a == -1)) = false) : False := by
  rcases h with h | h
  · have := not_dec h; omega
  · have : a = -1 := by simpa using h
    omega
theorem not_eqN {a b : Int} (h : (!(a == b)) = false) : a = b := by simpa using h

set_option maxRecDepth 10000 in
set_option maxHeartbeats 8000000 in
theorem r_term_no (op : Int) (text : ByteArray) (args : List Exp) (defs : List Clause) (kids : List Term) (h60 : (Part.proc (.mk op text args defs kids)).size ≤ 60) (a0 a1 a2 : Option Addr) (p0 p1 p2 : Nat) (w : World) (hz : text.size ≤ maxLen)
    (hsh : shapedTB (.mk op text args defs kids) = false) :
    Calls Tryz.prog 59 #[.agg #[.int .i64 op, .string text, .slice a0 args.length p0, .slice a1 defs.length p1, .slice a2 kids.length p2]] w fun e w' => ROut (.proc (.mk op text args defs kids)) e ∧ Below w.heap.size w w' := by
  have hss := size_sz (Part.proc (.mk op text args defs kids))
  simp only [Part.parts, sz_append] at hss
  have hal := len_sz Part.exp args
  have hdl := len_sz Part.def_ defs
  have hkl := len_sz Part.proc kids
  have hal60 : args.length ≤ 60 := by omega
  have hdl60 : defs.length ≤ 60 := by omega
  have hkl60 : kids.length ≤ 60 := by omega
  have HNO := Lib.hid (ROut.no (p := .proc (.mk op text args defs kids)) hsh)
  obtain ⟨la, hla⟩ : ∃ x, x = args.length := ⟨_, rfl⟩
  obtain ⟨ld, hld⟩ : ∃ x, x = defs.length := ⟨_, rfl⟩
  obtain ⟨lk, hlk⟩ : ∃ x, x = kids.length := ⟨_, rfl⟩
  have hS : Hid (shT op text la ld lk = false) := Lib.hid (by rw [← hsh, hla, hld, hlk]; rfl)
  generalize Part.proc (.mk op text args defs kids) = p at HNO ⊢
  rw [← hla] at hal60 ⊢
  rw [← hld] at hdl60 ⊢
  rw [← hlk] at hkl60 ⊢
  clear hla hld hlk hsh hss h60 hal hdl hkl
  obtain ⟨W1, hW1'⟩ : ∃ W1, W1 = w.alloc (.cells #[.int .i64 op, .string text, .slice a0 la p0, .slice a1 ld p1, .slice a2 lk p2] 33) := ⟨_, rfl⟩
  have z1 : W1.heap.size = w.heap.size + 1 := by rw [hW1']; simp
  have hW1 : Below w.heap.size w W1 := by rw [hW1']; exact (Below.refl _ w).alloc (Nat.le_refl _) _
  have HW := Lib.hid hW1'; clear hW1'
  rcases (show op = 1 ∨ op = 2 ∨ op = 3 ∨ op = 4 ∨ op = 5 ∨ op = 6 ∨ op = 7 ∨ op = 8 ∨ op < 1 ∨ 8 < op by omega) with rfl | rfl | rfl | rfl | rfl | rfl | rfl | rfl | hf | hf
  rotate_left 8
  · have q2 : (op == 2) = false := by simp; omega
    have q3 : (op == 3) = false := by simp; omega
    have q4 : (op == 4) = false := by simp; omega
    have q5 : (op == 5) = false := by simp; omega
    have q6 : (op == 6) = false := by simp; omega
    have q8 : (op == 8) = false := by simp; omega
    go_enter Tryz.func59, Tryz.ntmps59
    go_wp2
    go_ret3
    exact ⟨HNO.out, (Below.refl _ w).alloc (Nat.le_refl _) _⟩
  · have q2 : (op == 2) = false := by simp; omega
    have q3 : (op == 3) = false := by simp; omega
    have q4 : (op == 4) = false := by simp; omega
    have q5 : (op == 5) = false := by simp; omega
    have q6 : (op == 6) = false := by simp; omega
    have q8 : (op == 8) = false := by simp; omega
    have q1 : 1 ≤ op := by omega
    go_enter Tryz.func59, Tryz.ntmps59
    go_wp2
    go_ret3
    exact ⟨HNO.out, (Below.refl _ w).alloc (Nat.le_refl _) _⟩
  all_goals (
    go_enter Tryz.func59, Tryz.ntmps59
    go_wp2_with (go_at_call 112; refine (one_any _ _ _ hz).mono ?_; rintro e w1 ⟨rfl, hb1⟩; have hc0 := (hb1.cell (p := ⟨w.heap.size, 0, none⟩) (by simp)).trans (World.cell?_alloc_at _ _ _ _ rfl); have hc1 := (hb1.cell (p := ⟨w.heap.size, 1, none⟩) (by simp)).trans (World.cell?_alloc_at _ _ _ _ rfl); have hc2 := (hb1.cell (p := ⟨w.heap.size, 2, none⟩) (by simp)).trans (World.cell?_alloc_at _ _ _ _ rfl); have hc3 := (hb1.cell (p := ⟨w.heap.size, 3, none⟩) (by simp)).trans (World.cell?_alloc_at _ _ _ _ rfl); have hc4 := (hb1.cell (p := ⟨w.heap.size, 4, none⟩) (by simp)).trans (World.cell?_alloc_at _ _ _ _ rfl); have hB1 : Below (w.heap.size + 1) W1 w1 := (by rw [HW.out]; exact hb1.mono (by simp)))
    all_goals first
      | (go_ret3; refine ⟨HNO.out, ?_⟩; first | exact (Below.refl _ w).alloc (Nat.le_refl _) _ | exact hW1.trans (hB1.mono (Nat.le_succ _)))
      | exact (shT_f hS.out (by assumption) (by first | omega | (have hq := not_eqN (by assumption); omega) | (have hq := not_dec (by assumption); omega))).elim
      | exact (shT_t hS.out (by assumption) (by first | omega | (have hq := not_eqN (by assumption); omega) | (have hq := not_dec (by assumption); omega))).elim
      | exact (le5_contra (by assumption) (by assumption)).elim
      | trace_state)


end Go.Proofs.YtjmlaeofjjhfmaaGreat
