/- Sets of strings: a map[string]bool of the call's own whose values are all true, as the list of the keys that were put in; the laws for insert, update, look-up, len. -/
import Derived.Test.YtjmlaeofjjhfmaaGreatM00
import Derived.Outline
set_option linter.unusedVariables false
set_option linter.unusedSimpArgs false
namespace Go.Proofs.YtjmlaeofjjhfmaaGreat
open Go.RowKit Go.Maps Go.WideMaps

theorem info4 : (Tryz.prog.info? 4).map (fun i => (i.zero, i.size, i.bytes)) = some (some (.bool false), 1, 1) := by kernel_rfl

/-- Block b is a map of at most n entries: the set of the keys acc, each with true. -/
def SetAt (w : World) (b n : Nat) (acc : List (List UInt8)) : Prop :=
  w.ownsMap (H := Unit) Tryz.prog 9 (plainElem Tryz.prog 4) b n (setOf (.lit (.bool true)) (acc.map Lit.string))

theorem isKey_map (acc : List (List UInt8)) : ∀ x ∈ acc.map Lit.string, WideAt.IsKeyLit x := by
  intro x hx; obtain ⟨y, _, rfl⟩ := List.mem_map.1 hx; simp [WideAt.IsKeyLit]

def inSet (acc : List (List UInt8)) (k : List UInt8) : Bool := acc.any (fun x => x == k)

theorem atKey_fold (k : List UInt8) : ∀ (acc : List (List UInt8)) (D : DataW Unit) (_ : IsMap D),
    ((acc.map Lit.string).foldl (fun m x => m.put x (.lit (.bool true))) D).atKey (.string k) (.lit (.bool false)) = if inSet acc k then .lit (.bool true) else D.atKey (.string k) (.lit (.bool false)) := by
  intro acc
  induction acc with
  | nil => intro D _; simp [inSet]
  | cons a acc ih =>
    intro D hD
    rw [List.map_cons, List.foldl_cons, ih _ (by obtain ⟨es, rfl⟩ := hD; exact ⟨_, rfl⟩)]
    by_cases h1 : inSet acc k = true
    · have : inSet (a :: acc) k = true := by simp only [inSet, List.any_cons] at h1 ⊢; rw [h1]; simp
      rw [if_pos h1, if_pos this]
    · by_cases h2 : a = k
      · subst h2
        have : inSet (a :: acc) a = true := by simp [inSet]
        rw [if_neg h1, if_pos this, atKey_put_same hD (by simp [WideAt.IsKeyLit])]
      · have : ¬ inSet (a :: acc) k = true := by
          simp only [inSet, List.any_cons] at h1 ⊢; simp [h2] at h1 ⊢; exact h1
        rw [if_neg h1, if_neg this, atKey_put_other (by simp; exact fun e => h2 e.symm)]

theorem atKey_setOf (acc : List (List UInt8)) (k : List UInt8) : (setOf (H := Unit) (.lit (.bool true)) (acc.map Lit.string)).atKey (.string k) (.lit (.bool false)) = .lit (.bool (inSet acc k)) := by
  unfold setOf
  rw [atKey_fold k acc _ ⟨[], rfl⟩]
  cases inSet acc k <;> simp [DataW.atKey]

theorem plainElem_bool_inv {H : Type} {P : Program} {e : TypeId} (he : P.underlying e = some .bool) {v : Value} {z : DataW H × List MemPlace} (h : plainElem P e v = some z) : ∃ a, v = .bool a ∧ z = (.lit (.bool a), []) := by
  unfold plainElem at h
  rw [he] at h
  cases v <;> simp at h
  exact ⟨_, rfl, h.symm⟩

theorem zero4 (w : World) : (zeroValue 4).run Tryz.prog w = .ok (.bool false) w := by
  obtain ⟨i0, hi, hz0, hz1, hz2⟩ := info_parts info4
  simp [zeroValue, typeInfo, hi, hz0]

theorem SetAt.look {w : World} {b n : Nat} {acc : List (List UInt8)} (h : SetAt w b n acc) {k : ByteArray} (hk : k.size ≤ maxLen) :
    (Instr.lookup 70 (.map (some b)) (.string k) false).run Tryz.prog w = .ok (.bool (inSet acc k.data.toList)) w := by
  obtain ⟨v, ps, hrun, hv⟩ := World.ownsMap.lookup h (string_keyed Tryz.underlying9) Tryz.underlying70 (zero4 w) (plainElem_bool Tryz.underlying4 false) (keyOf_string_mk Tryz.underlying9 hk)
  obtain ⟨a, rfl, ha⟩ := plainElem_bool_inv Tryz.underlying4 hv
  rw [atKey_setOf] at ha
  simp only [Prod.mk.injEq, DataW.lit.injEq, Lit.bool.injEq] at ha
  rw [hrun, ← ha.1]

theorem SetAt.put {w : World} {b n : Nat} {acc : List (List UInt8)} (h : SetAt w b n acc) (hn : n < maxLen) {k : ByteArray} (hk : k.size ≤ maxLen) :
    ∃ w', (Instr.mapUpdate 70 (.map (some b)) (.string k) (.bool true)).run Tryz.prog w = .ok () w' ∧ SetAt w' b (n + 1) (acc ++ [k.data.toList]) ∧ w.grownBy w' (some b) := by
  obtain ⟨w', h1, h2, h3⟩ := World.ownsMap.update h (string_keyed Tryz.underlying9) Tryz.underlying70 hn (keyOf_string_mk Tryz.underlying9 hk) (plainElem_bool Tryz.underlying4 true)
  refine ⟨w', h1, ?_, h3⟩
  unfold SetAt
  rw [List.map_append]
  exact (setOf_snoc _ _ _) ▸ h2

theorem SetAt.made (w : World) : SetAt (w.alloc (.map #[] 0)) w.heap.size 0 [] := World.ownsMap_made _ _ _ _

theorem SetAt.lt {w : World} {b n : Nat} {acc : List (List UInt8)} (h : SetAt w b n acc) : b < w.heap.size := World.ownsMap.lt h

theorem SetAt.kept {w w' : World} {b n : Nat} {acc : List (List UInt8)} {row : Option Nat} (h : SetAt w b n acc) (hg : w.grownBy w' row) (hne : some b ≠ row) : SetAt w' b n acc := World.ownsMap.kept h hg hne

theorem SetAt.below {w w' : World} {B b n : Nat} {acc : List (List UInt8)} (h : SetAt w b n acc) (hB : Below B w w') (hb : b < B) : SetAt w' b n acc := by
  obtain ⟨es, clock, h1, h2⟩ := h
  exact ⟨es, clock, (hB.block b hb).trans h1, h2⟩

/-- An insertion of a map literal. -/
theorem wpList_insert_set (w : World) {ops : Array Oper} {rest : List Oper} {o : Oper} {a : Act} {Q : Exit → Act → World → Prop}
    (hg : o.guard = none) (m x v : Operand) (hop : o.op = Op.insert 70 m x v) (b n : Nat) (acc : List (List UInt8)) (k : ByteArray)
    (hm : a.eval m = .map (some b)) (hown : SetAt w b n acc) (hn : n < maxLen) (hx : a.eval x = .string k) (hv : a.eval v = .bool true) (hk : k.size ≤ maxLen)
    (hK : ∀ w', SetAt w' b (n + 1) (acc ++ [k.data.toList]) → w.grownBy w' (some b) → wpList Tryz.prog ops Q rest (a.put o.dst undef) w') :
    wpList Tryz.prog ops Q (o :: rest) a w := by
  refine wpList_plain hg fun K' hK' => ?_
  obtain ⟨w', hrun, r1, r2⟩ := hown.put hn hk
  unfold Oper.wp
  simp [execOp, hop, hm, hx, hv, hrun, Result.andThen]
  exact hK' _ _ (hK w' r1 r2)

/-- m[k] = true. -/
theorem wpList_update_set (w : World) {ops : Array Oper} {rest : List Oper} {o : Oper} {a : Act} {Q : Exit → Act → World → Prop}
    (hg : o.guard = none) (m x v : Operand) (hop : o.op = Op.mapUpdate 70 m x v) (b n : Nat) (acc : List (List UInt8)) (k : ByteArray)
    (hm : a.eval m = .map (some b)) (hown : SetAt w b n acc) (hn : n < maxLen) (hx : a.eval x = .string k) (hv : a.eval v = .bool true) (hk : k.size ≤ maxLen)
    (hK : ∀ w', SetAt w' b (n + 1) (acc ++ [k.data.toList]) → w.grownBy w' (some b) → wpList Tryz.prog ops Q rest (a.put o.dst undef) w') :
    wpList Tryz.prog ops Q (o :: rest) a w := by
  refine wpList_plain hg fun K' hK' => ?_
  obtain ⟨w', hrun, r1, r2⟩ := hown.put hn hk
  unfold Oper.wp
  simp [execOp, hop, hm, hx, hv, hrun, Result.andThen]
  exact hK' _ _ (hK w' r1 r2)

def words : List (List UInt8) := [[97, 110, 100], [100, 101, 102], [101, 108, 115, 101], [103, 111], [105, 102], [105, 110], [112, 108, 97, 99, 101], [115, 116, 111, 112], [116, 104, 101, 110], [119, 97, 116, 99, 104]]

end Go.Proofs.YtjmlaeofjjhfmaaGreat
/- keywords, term.Name. -/
namespace Go.Proofs.YtjmlaeofjjhfmaaGreat
open Go.RowKit
set_option maxHeartbeats 1000000 in
set_option maxRecDepth 10000 in
theorem keywords_any (w : World) :
    Calls Tryz.prog 54 #[] w fun e w' => e = .returned (.map (some w.heap.size)) ∧ SetAt w' w.heap.size 10 words ∧ Below w.heap.size w w' := by
  have hmm := @run_makeMap Tryz.prog
  have s0 := SetAt.made w
  have b0 : Below w.heap.size w (w.alloc (.map #[] 0)) := (Below.refl _ w).alloc (Nat.le_refl _) _
  obtain ⟨w1, r1, s1, g1⟩ := s0.put (by unfold maxLen; omega) (k := ⟨#[97, 110, 100]⟩) (by decide)
  have b1 := b0.grown g1 b0.size (fun k e => by cases e; exact Nat.le_refl _)
  obtain ⟨w2, r2, s2, g2⟩ := s1.put (by unfold maxLen; omega) (k := ⟨#[100, 101, 102]⟩) (by decide)
  have b2 := b1.grown g2 b1.size (fun k e => by cases e; exact Nat.le_refl _)
  obtain ⟨w3, r3, s3, g3⟩ := s2.put (by unfold maxLen; omega) (k := ⟨#[101, 108, 115, 101]⟩) (by decide)
  have b3 := b2.grown g3 b2.size (fun k e => by cases e; exact Nat.le_refl _)
  obtain ⟨w4, r4, s4, g4⟩ := s3.put (by unfold maxLen; omega) (k := ⟨#[103, 111]⟩) (by decide)
  have b4 := b3.grown g4 b3.size (fun k e => by cases e; exact Nat.le_refl _)
  obtain ⟨w5, r5, s5, g5⟩ := s4.put (by unfold maxLen; omega) (k := ⟨#[105, 102]⟩) (by decide)
  have b5 := b4.grown g5 b4.size (fun k e => by cases e; exact Nat.le_refl _)
  obtain ⟨w6, r6, s6, g6⟩ := s5.put (by unfold maxLen; omega) (k := ⟨#[105, 110]⟩) (by decide)
  have b6 := b5.grown g6 b5.size (fun k e => by cases e; exact Nat.le_refl _)
  obtain ⟨w7, r7, s7, g7⟩ := s6.put (by unfold maxLen; omega) (k := ⟨#[112, 108, 97, 99, 101]⟩) (by decide)
  have b7 := b6.grown g7 b6.size (fun k e => by cases e; exact Nat.le_refl _)
  obtain ⟨w8, r8, s8, g8⟩ := s7.put (by unfold maxLen; omega) (k := ⟨#[115, 116, 111, 112]⟩) (by decide)
  have b8 := b7.grown g8 b7.size (fun k e => by cases e; exact Nat.le_refl _)
  obtain ⟨w9, r9, s9, g9⟩ := s8.put (by unfold maxLen; omega) (k := ⟨#[116, 104, 101, 110]⟩) (by decide)
  have b9 := b8.grown g9 b8.size (fun k e => by cases e; exact Nat.le_refl _)
  obtain ⟨w10, r10, s10, g10⟩ := s9.put (by unfold maxLen; omega) (k := ⟨#[119, 97, 116, 99, 104]⟩) (by decide)
  have b10 := b9.grown g10 b9.size (fun k e => by cases e; exact Nat.le_refl _)
  go_enter Tryz.func54, Tryz.ntmps54
  go_wp2
  go_ret
  exact ⟨rfl, s10, b10⟩

def nameB (s : ByteArray) : Bool := speltB s && !inSet words s.data.toList

set_option maxHeartbeats 1000000 in
/-- term.Name at every string. -/
theorem tname_any (s : ByteArray) (w : World) (hs : s.size ≤ maxLen) :
    Calls Tryz.prog 16 #[.string s] w fun e w' => e = .returned (.bool (nameB s)) ∧ Below w.heap.size w w' := by
  have hs' := hs
  unfold maxLen at hs'
  by_cases h1 : speltB s = true
  · go_enter Tryz.func16, Tryz.ntmps16
    go_wp2_with (first
      | (go_at_call 53; refine (spelt_any _ _ hs').mono ?_; rintro e w' ⟨rfl, rfl⟩)
      | (go_at_call 54; refine (keywords_any _).mono ?_; rintro e w1 ⟨rfl, hk, hb⟩; have hl := hk.look hs))
    go_ret
    exact ⟨by unfold nameB; rw [h1]; rfl, hb⟩
  · have h1' : speltB s = false := by simpa using h1
    clear h1
    go_enter Tryz.func16, Tryz.ntmps16
    go_wp2_with (first
      | (go_at_call 53; refine (spelt_any _ _ hs').mono ?_; rintro e w' ⟨rfl, rfl⟩)
      | (go_at_call 54; refine (keywords_any _).mono ?_; rintro e w1 ⟨rfl, hk, hb⟩; have hl := hk.look hs))
    go_ret
    exact ⟨by unfold nameB; rw [h1']; rfl, Below.refl _ _⟩

end Go.Proofs.YtjmlaeofjjhfmaaGreat
/- among, differ, SameNames, cabotageref01.Name. -/
namespace Go.Proofs.YtjmlaeofjjhfmaaGreat
open Go.RowKit

def bytesOf (s : ByteArray) : List UInt8 := s.data.toList

theorem take_snoc_map (ss : List ByteArray) (k : Nat) (h : k < ss.length) : (ss.take (k + 1)).map bytesOf = (ss.take k).map bytesOf ++ [bytesOf ss[k]] := by
  rw [List.take_succ_eq_append_getElem h, List.map_append]; rfl

set_option maxHeartbeats 1000000 in
theorem among_cells (b off cap : Nat) (ss : List ByteArray) (w : World) (hbig : ss.length ≤ 9223372036854775807) (hz : ∀ s ∈ ss, s.size ≤ maxLen) (hb : b < w.heap.size) (hc : StrCells w b off ss) :
    Calls Tryz.prog 57 #[.slice (some ⟨b, off, none⟩) ss.length cap] w fun e w' => e = .returned (.map (some w.heap.size)) ∧ SetAt w' w.heap.size ss.length (ss.map bytesOf) ∧ Below w.heap.size w w' := by
  have hmm := @run_makeMap Tryz.prog
  have s0 := SetAt.made w
  have b0 : Below w.heap.size w (w.alloc (.map #[] 0)) := (Below.refl _ w).alloc (Nat.le_refl _) _
  go_enter Tryz.func57, Tryz.ntmps57
  go_wp2
  go_loopw [9] (fun i wr => ∃ k : Nat, k ≤ ss.length ∧ i = .int .i64 k ∧ SetAt wr w.heap.size k ((ss.take k).map bytesOf) ∧ Below w.heap.size w wr) (fun i _ => ss.length - (intOf i).toNat)
  case atStart => exact ⟨0, by omega, rfl, s0, b0⟩
  case round =>
    obtain ⟨k, hk, rfl, hs, hbl⟩ := hrel
    by_cases hlt : k < ss.length
    · have hcell := (hbl.cell (p := ⟨b, off + k, none⟩) hb).trans (hc k hlt)
      obtain ⟨w1, r1, s1, g1⟩ := hs.put (by unfold maxLen; omega) (hz ss[k] (List.getElem_mem hlt))
      have b1 := hbl.grown g1 hbl.size (fun k e => by cases e; exact Nat.le_refl _)
      go_wp2
      go_roundw
      case rel => exact ⟨k + 1, by omega, by go_num, by rw [take_snoc_map ss k hlt]; exact s1, b1⟩
      case measure => simp [intOf]; omega
    · obtain rfl : k = ss.length := by omega
      rw [List.take_length] at hs
      go_wp2
      go_ret
      exact ⟨rfl, hs, hbl⟩

set_option maxHeartbeats 1000000 in
theorem among_none (a : Option Addr) (cap : Nat) (w : World) :
    Calls Tryz.prog 57 #[.slice a 0 cap] w fun e w' => e = .returned (.map (some w.heap.size)) ∧ SetAt w' w.heap.size 0 [] ∧ Below w.heap.size w w' := by
  have hmm := @run_makeMap Tryz.prog
  have s0 := SetAt.made w
  have b0 : Below w.heap.size w (w.alloc (.map #[] 0)) := (Below.refl _ w).alloc (Nat.le_refl _) _
  go_enter Tryz.func57, Tryz.ntmps57
  go_wp2
  refine wp_loop_rounds 1 ?_
  rw [rounds_succ]
  go_wp2
  go_ret
  exact ⟨rfl, s0, b0⟩

theorem among_any (v : Value) (ss : List ByteArray) (w : World) (h : StrsAt w.heap.size w v ss) :
    Calls Tryz.prog 57 #[v] w fun e w' => e = .returned (.map (some w.heap.size)) ∧ SetAt w' w.heap.size ss.length (ss.map bytesOf) ∧ Below w.heap.size w w' := by
  obtain ⟨a, cap, rfl, hl, hz, hcap, h⟩ := h
  rcases h with rfl | ⟨b, off, rfl, hB, hc⟩
  · exact among_none a cap w
  · exact among_cells b off cap ss w hl hz hB hc

theorem toList_bytes (s : ByteArray) : s.toList = s.data.toList := ByteArray.toList_eq s

def sameB (a b : List ByteArray) : Bool := (a.map bytesOf) == (b.map bytesOf)

end Go.Proofs.YtjmlaeofjjhfmaaGreat
