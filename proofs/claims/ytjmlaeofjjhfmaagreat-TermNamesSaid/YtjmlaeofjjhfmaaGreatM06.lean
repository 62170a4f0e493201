/- differ; shapedExpression, shapedProcess where they say true. -/
import Derived.Test.YtjmlaeofjjhfmaaGreatM05
set_option linter.unusedVariables false
set_option linter.unusedSimpArgs false
namespace Go.Proofs.YtjmlaeofjjhfmaaGreat
open Go.RowKit Go.Maps

def dcount (acc : List (List UInt8)) : Nat := ((acc.map Lit.string).foldl addKey []).length
theorem SetAt.len {w : World} {b n : Nat} {acc : List (List UInt8)} (h : SetAt w b n acc) (ty : TypeId) :
    (Builtin.len_ #[70] ty #[.map (some b)]).run Tryz.prog w = .ok (.int .i64 (dcount acc)) w := by
  have := World.ownsMap.len h Tryz.underlying70 ty
  rw [size_setOf _ _ (isKey_map acc)] at this
  exact this

def differB (ss : List ByteArray) : Bool := ss.all nameB && decide (dcount (ss.map bytesOf) = ss.length)

theorem allName_snoc (ss : List ByteArray) (k : Nat) (h : k < ss.length) : (ss.take (k + 1)).all nameB = ((ss.take k).all nameB && nameB ss[k]) := by
  rw [List.take_succ_eq_append_getElem h, List.all_append]; simp

set_option maxHeartbeats 1000000 in
theorem differ_any (v : Value) (ss : List ByteArray) (w : World) (h : StrsAt w.heap.size w v ss) :
    Calls Tryz.prog 192 #[v] w fun e w' => e = .returned (.bool (differB ss)) ∧ Below w.heap.size w w' := by
  have h0 := h
  obtain ⟨a, cap, rfl, hl, hz, hcap, h⟩ := h
  go_enter Tryz.func192, Tryz.ntmps192
  go_wp2
  go_loopw [7] (fun i wr => ∃ k : Nat, k ≤ ss.length ∧ i = .int .i64 k ∧ Hid ((ss.take k).all nameB = true) ∧ Below w.heap.size w wr) (fun i _ => ss.length - (intOf i).toNat)
  case atStart => exact ⟨0, by omega, rfl, Lib.hid rfl, Below.refl _ _⟩
  case round =>
    obtain ⟨k, hk, rfl, hn, hB⟩ := hrel
    have hsz := hB.size
    by_cases hlt : k < ss.length
    · rcases h with rfl | ⟨b, off, rfl, hb, hc⟩
      · simp at hlt
      have hcell := (hB.cell (p := ⟨b, off + k, none⟩) hb).trans (hc k hlt)
      have hzk := hz ss[k] (List.getElem_mem hlt)
      have hsn := Lib.hid (allName_snoc ss k hlt)
      by_cases hnm : nameB ss[k] = true
      · go_wp2_with (go_at_call 16; refine (tname_any _ _ hzk).mono ?_; rintro e w1 ⟨rfl, hb1⟩)
        go_roundw
        case rel => exact ⟨k + 1, by omega, by go_num, Lib.hid (by rw [hsn.out, hn.out, hnm]; rfl), hB.trans (hb1.mono hsz)⟩
        case measure => simp [intOf]; omega
      · have hnm' : nameB ss[k] = false := by simpa using hnm
        clear hnm
        have hF : Hid (differB ss = false) := Lib.hid (by
          unfold differB
          have : ss.all nameB = false := by rw [List.all_eq_false]; exact ⟨_, List.getElem_mem hlt, by simp [hnm']⟩
          rw [this]; rfl)
        go_wp2_with (go_at_call 16; refine (tname_any _ _ hzk).mono ?_; rintro e w1 ⟨rfl, hb1⟩)
        go_ret
        exact ⟨by rw [hF.out]; rfl, hB.trans (hb1.mono hsz)⟩
    · obtain rfl : k = ss.length := by omega
      have hst := (h0.below hB).mono hsz
      have hall := hn.out
      rw [List.take_length] at hall
      have HA := Lib.hid hall; clear hall
      go_wp2_with (go_at_call 57; refine (among_any _ ss _ hst).mono ?_; rintro e w1 ⟨rfl, hset, hb1⟩; have hlen := hset.len)
      go_ret
      refine ⟨?_, hB.trans (hb1.mono hsz)⟩
      unfold differB
      rw [HA.out, Bool.true_and]
      refine congrArg (fun x => Ending.returned (.bool x)) ?_
      rw [Bool.eq_iff_iff]; simp; omega

def shapedEB : Exp → Bool
  | .mk op n text kids => (op == 1 && decide (-1000000000 ≤ n) && decide (n ≤ 1000000000) && text.size == 0 && kids.length == 0) ||
      (op == 2 && n == 0 && nameB text && kids.length == 0) || (decide (3 ≤ op) && decide (op ≤ 7) && n == 0 && text.size == 0 && kids.length == 2)

theorem empty_of_size {s : ByteArray} (h : s.size = 0) : s = ByteArray.empty := by
  cases s with | mk d => simp [ByteArray.size] at h; simp [ByteArray.empty, ByteArray.emptyWithCapacity, h]; rfl

set_option maxRecDepth 10000 in
set_option maxHeartbeats 4000000 in
theorem shapedExp_ok (op n : Int) (text : ByteArray) (a : Option Addr) (cap : Nat) (kids : List Exp) (w : World) (hz : text.size ≤ maxLen) (h : shapedEB (.mk op n text kids) = true) :
    Calls Tryz.prog 160 #[.agg #[.int .i64 op, .int .i64 n, .string text, .slice a kids.length cap]] w fun e w' => e = .returned (.bool true) ∧ Below w.heap.size w w' := by
  unfold shapedEB at h
  simp only [Bool.or_eq_true, Bool.and_eq_true, beq_iff_eq, decide_eq_true_eq] at h
  have hb0 : Below w.heap.size w (w.alloc (.cells #[.int .i64 op, .int .i64 n, .string text, .slice a kids.length cap] 88)) := (Below.refl _ w).alloc (Nat.le_refl _) _
  rcases h with (⟨⟨⟨⟨rfl, h1⟩, h2⟩, h3⟩, h4⟩ | ⟨⟨⟨rfl, rfl⟩, h2⟩, h3⟩) | ⟨⟨⟨⟨h0, h1⟩, rfl⟩, h3⟩, h4⟩
  · obtain rfl := empty_of_size h3
    rw [h4] at hb0 ⊢
    clear h3 h4 hz
    go_enter Tryz.func160, Tryz.ntmps160
    go_wp2
    go_ret
    exact ⟨rfl, hb0⟩
  · rw [h3] at hb0 ⊢
    clear h3
    go_enter Tryz.func160, Tryz.ntmps160
    go_wp2_with (go_at_call 16; refine (tname_any _ _ hz).mono ?_; rintro e w1 ⟨rfl, hb1⟩; have hcc := (hb1.cell (p := ⟨w.heap.size, 3, none⟩) (by simp)).trans (World.cell?_alloc_at _ _ _ _ rfl))
    go_ret
    exact ⟨rfl, hb0.trans (hb1.mono (by simp))⟩
  · obtain rfl := empty_of_size h3
    rw [h4] at hb0 ⊢
    clear h3 h4 hz
    obtain rfl | rfl | rfl | rfl | rfl : op = 3 ∨ op = 4 ∨ op = 5 ∨ op = 6 ∨ op = 7 := by omega
    all_goals
      go_enter Tryz.func160, Tryz.ntmps160
      go_wp2
      go_ret
      exact ⟨rfl, hb0⟩

def shapedTB : Term → Bool
  | .mk op text args defs kids =>
    ((op == 1 || op == 7) && text.size == 0 && args.length == 0 && defs.length == 0 && kids.length == 0) ||
    (op == 2 && nameB text && decide (args.length ≤ 3) && defs.length == 0 && kids.length == 0) ||
    (op == 3 && text.size == 0 && args.length == 0 && defs.length == 0 && kids.length == 2) ||
    (op == 4 && text.size == 0 && args.length == 0 && decide (1 ≤ defs.length) && decide (defs.length ≤ 5) && kids.length == 1) ||
    (op == 5 && text.size == 0 && args.length == 1 && defs.length == 0 && kids.length == 2) ||
    ((op == 6 || op == 8) && nameB text && args.length == 0 && defs.length == 0 && kids.length == 1)

set_option maxRecDepth 10000 in
set_option maxHeartbeats 8000000 in
theorem shapedProc_ok (op : Int) (text : ByteArray) (a0 : Option Addr) (p0 : Nat) (args : List Exp) (a1 : Option Addr) (p1 : Nat) (defs : List Clause) (a2 : Option Addr) (p2 : Nat) (kids : List Term) (w : World) (hz : text.size ≤ maxLen) (h : shapedTB (.mk op text args defs kids) = true) :
    Calls Tryz.prog 159 #[.agg #[.int .i64 op, .string text, .slice a0 args.length p0, .slice a1 defs.length p1, .slice a2 kids.length p2]] w fun e w' => e = .returned (.bool true) ∧ Below w.heap.size w w' := by
  unfold shapedTB at h
  simp only [Bool.or_eq_true, Bool.and_eq_true, beq_iff_eq, decide_eq_true_eq] at h
  obtain ⟨la, hla⟩ : ∃ la, la = args.length := ⟨_, rfl⟩
  obtain ⟨ld, hld⟩ : ∃ ld, ld = defs.length := ⟨_, rfl⟩
  obtain ⟨lk, hlk⟩ : ∃ lk, lk = kids.length := ⟨_, rfl⟩
  rw [← hla, ← hld, ← hlk] at h ⊢
  clear hla hld hlk
  rcases h with ((((⟨⟨⟨⟨h0, h1⟩, rfl⟩, rfl⟩, rfl⟩ | ⟨⟨⟨⟨rfl, h1⟩, h2⟩, rfl⟩, rfl⟩) | ⟨⟨⟨⟨rfl, h1⟩, rfl⟩, rfl⟩, rfl⟩) | ⟨⟨⟨⟨⟨rfl, h1⟩, rfl⟩, h2⟩, h3⟩, rfl⟩) | ⟨⟨⟨⟨rfl, h1⟩, rfl⟩, rfl⟩, rfl⟩) | ⟨⟨⟨⟨h0, h1⟩, rfl⟩, rfl⟩, rfl⟩
  · obtain rfl := empty_of_size h1
    clear h1 hz
    have hb0 : Below w.heap.size w (w.alloc (.cells #[.int .i64 op, .string ByteArray.empty, .slice a0 0 p0, .slice a1 0 p1, .slice a2 0 p2] 83)).drew := ((Below.refl _ w).alloc (Nat.le_refl _) _).drew
    rcases h0 with rfl | rfl
    all_goals
      go_enter Tryz.func159, Tryz.ntmps159
      go_wp2
      go_region
      go_wp2
      go_ret
      exact ⟨rfl, hb0⟩
  · have hb0 : Below w.heap.size w (w.alloc (.cells #[.int .i64 2, .string text, .slice a0 la p0, .slice a1 0 p1, .slice a2 0 p2] 83)).drew := ((Below.refl _ w).alloc (Nat.le_refl _) _).drew
    go_enter Tryz.func159, Tryz.ntmps159
    go_wp2
    go_region
    go_wp2_with (go_at_call 16; refine (tname_any _ _ hz).mono ?_; rintro e w1 ⟨rfl, hb1⟩)
    go_ret
    exact ⟨by simp [h2], hb0.trans (hb1.mono (by simp))⟩
  · obtain rfl := empty_of_size h1
    have hb0 : Below w.heap.size w (w.alloc (.cells #[.int .i64 3, .string ByteArray.empty, .slice a0 0 p0, .slice a1 0 p1, .slice a2 2 p2] 83)).drew := ((Below.refl _ w).alloc (Nat.le_refl _) _).drew
    clear h1 hz
    go_enter Tryz.func159, Tryz.ntmps159
    go_wp2
    go_region
    go_wp2
    go_ret
    exact ⟨rfl, hb0⟩
  · obtain rfl := empty_of_size h1
    have hb0 : Below w.heap.size w (w.alloc (.cells #[.int .i64 4, .string ByteArray.empty, .slice a0 0 p0, .slice a1 ld p1, .slice a2 1 p2] 83)).drew := ((Below.refl _ w).alloc (Nat.le_refl _) _).drew
    clear h1 hz
    obtain rfl | rfl | rfl | rfl | rfl : ld = 1 ∨ ld = 2 ∨ ld = 3 ∨ ld = 4 ∨ ld = 5 := by omega
    all_goals
      clear h2 h3
      go_enter Tryz.func159, Tryz.ntmps159
      go_wp2
      go_region
      go_wp2
      go_ret
      exact ⟨rfl, hb0⟩
  · obtain rfl := empty_of_size h1
    have hb0 : Below w.heap.size w (w.alloc (.cells #[.int .i64 5, .string ByteArray.empty, .slice a0 1 p0, .slice a1 0 p1, .slice a2 2 p2] 83)).drew := ((Below.refl _ w).alloc (Nat.le_refl _) _).drew
    clear h1 hz
    go_enter Tryz.func159, Tryz.ntmps159
    go_wp2
    go_region
    go_wp2
    go_ret
    exact ⟨rfl, hb0⟩
  · have hb0 : Below w.heap.size w (w.alloc (.cells #[.int .i64 op, .string text, .slice a0 0 p0, .slice a1 0 p1, .slice a2 1 p2] 83)).drew := ((Below.refl _ w).alloc (Nat.le_refl _) _).drew
    rcases h0 with rfl | rfl
    all_goals
      go_enter Tryz.func159, Tryz.ntmps159
      go_wp2
      go_region
      go_wp2_with (go_at_call 16; refine (tname_any _ _ hz).mono ?_; rintro e w1 ⟨rfl, hb1⟩)
      go_ret
      exact ⟨by simp [h1], hb0.trans (hb1.mono (by simp))⟩

end Go.Proofs.YtjmlaeofjjhfmaaGreat
