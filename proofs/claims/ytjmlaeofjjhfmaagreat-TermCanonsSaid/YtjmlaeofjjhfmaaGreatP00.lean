/- Contracts of the leaf functions of layer 1: Has, SameNames, spelt. No conditions but those that each states. -/
import Derived.Test.YtjmlaeofjjhfmaaGreatRows
import Derived.WalkKit
import Derived.WalkSpells
import Derived.WalkLawsBesides
import Derived.Deep.QuietTactic
import Derived.BigQuiet
import Derived.Lib.Hide
import Derived.Maps.OwnSet
import Derived.Maps.StringElems
import Derived.Outline
set_option linter.unusedVariables false
set_option linter.unusedSimpArgs false
namespace Go.Proofs.YtjmlaeofjjhfmaaGreat
open Go.RowKit

def hasB (ss : List ByteArray) (s : ByteArray) : Bool := ss.any (fun x => x.toList == s.toList)

theorem hasB_snoc (ss : List ByteArray) (k : Nat) (s : ByteArray) (h : k < ss.length) : hasB (ss.take (k + 1)) s = (hasB (ss.take k) s || ((ss[k]).toList == s.toList)) := by
  unfold hasB
  rw [List.take_succ_eq_append_getElem h, List.any_append]; simp

theorem hasB_of (ss : List ByteArray) (k : Nat) (s : ByteArray) (h : k < ss.length) (e : ((ss[k]).toList == s.toList) = true) : hasB ss s = true := by
  unfold hasB; rw [List.any_eq_true]; exact ⟨ss[k], List.getElem_mem h, e⟩

/-- Cells from b, off on hold the strings ss. -/
def StrCells (w : World) (b off : Nat) (ss : List ByteArray) : Prop := ∀ j, (h : j < ss.length) → w.cell? ⟨b, off + j, none⟩ = some (.string ss[j])

/-- A slice that reads as the strings ss, below block number B. -/
def StrsAt (B : Nat) (w : World) (v : Value) (ss : List ByteArray) : Prop :=
  ∃ a cap, v = .slice a ss.length cap ∧ ss.length ≤ 9223372036854775807 ∧ (∀ s ∈ ss, s.size ≤ maxLen) ∧ (a = none → cap = 0) ∧ (ss = [] ∨ ∃ b off, a = some ⟨b, off, none⟩ ∧ b < B ∧ StrCells w b off ss)

theorem StrsAt.below {B : Nat} {w w' : World} {v : Value} {ss : List ByteArray} (h : StrsAt B w v ss) (hb : Below B w w') : StrsAt B w' v ss := by
  obtain ⟨a, cap, rfl, hl, hz, hcap, h⟩ := h
  refine ⟨a, cap, rfl, hl, hz, hcap, ?_⟩
  rcases h with h | ⟨b, off, rfl, hB, hc⟩
  · exact .inl h
  · exact .inr ⟨b, off, rfl, hB, fun j hj => (hb.cell (p := ⟨b, off + j, none⟩) hB).trans (hc j hj)⟩

theorem StrsAt.mono {B B' : Nat} {w : World} {v : Value} {ss : List ByteArray} (h : StrsAt B w v ss) (hb : B ≤ B') : StrsAt B' w v ss := by
  obtain ⟨a, cap, rfl, hl, hz, hcap, h⟩ := h
  refine ⟨a, cap, rfl, hl, hz, hcap, ?_⟩
  rcases h with h | ⟨b, off, rfl, hB, hc⟩
  · exact .inl h
  · exact .inr ⟨b, off, rfl, by omega, hc⟩

set_option maxHeartbeats 400000 in
theorem has_cells (b off cap : Nat) (ss : List ByteArray) (s : ByteArray) (w : World) (hbig : ss.length ≤ 9223372036854775807) (hc : StrCells w b off ss) :
    Calls Tryz.prog 36 #[.slice (some ⟨b, off, none⟩) ss.length cap, .string s] w fun e w' => e = .returned (.bool (hasB ss s)) ∧ w' = w := by
  go_enter Tryz.func36, Tryz.ntmps36
  go_wp2
  go_loop [5] (fun i => ∃ k : Nat, k ≤ ss.length ∧ i = .int .i64 k ∧ hasB (ss.take k) s = false) (fun i => ss.length - (intOf i).toNat)
  case atStart => exact ⟨0, by omega, rfl, rfl⟩
  case round =>
    obtain ⟨k, hk, rfl, hf⟩ := hrel
    have HF := Lib.hid hf; clear hf
    by_cases hlt : k < ss.length
    · have hcell := hc k hlt
      by_cases he : ((ss[k]).toList == s.toList) = true
      · have hF := Lib.hid (hasB_of ss k s hlt he)
        go_wp2
        go_ret
        exact ⟨by rw [hF.out]; rfl, rfl⟩
      · have he' : ((ss[k]).toList == s.toList) = false := by simpa using he
        have hF := Lib.hid (hasB_snoc ss k s hlt)
        go_wp2
        go_round
        case rel => exact ⟨k + 1, by omega, by go_num, by rw [hF.out, HF.out, he']; rfl⟩
        case measure => simp [intOf]; omega
    · obtain rfl : k = ss.length := by omega
      go_wp2
      go_ret
      exact ⟨by have := HF.out; rw [List.take_length] at this; rw [this]; rfl, rfl⟩

set_option maxHeartbeats 400000 in
theorem has_none (a : Option Addr) (cap : Nat) (s : ByteArray) (w : World) :
    Calls Tryz.prog 36 #[.slice a 0 cap, .string s] w fun e w' => e = .returned (.bool false) ∧ w' = w := by
  go_enter Tryz.func36, Tryz.ntmps36
  go_wp2
  refine wp_loop_rounds 1 ?_
  rw [rounds_succ]
  go_wp2
  go_ret
  exact ⟨rfl, rfl⟩

/-- cabotageref01.Has at every slice of strings. -/
theorem has_any (B : Nat) (v : Value) (ss : List ByteArray) (s : ByteArray) (w : World) (h : StrsAt B w v ss) :
    Calls Tryz.prog 36 #[v, .string s] w fun e w' => e = .returned (.bool (hasB ss s)) ∧ w' = w := by
  obtain ⟨a, cap, rfl, hl, hz, hcap, h⟩ := h
  rcases h with rfl | ⟨b, off, rfl, hB, hc⟩
  · exact has_none a cap s w
  · exact has_cells b off cap ss s w hl hc

end Go.Proofs.YtjmlaeofjjhfmaaGreat
/- Contracts: SameNames, spelt, keywords, term.Name. -/
namespace Go.Proofs.YtjmlaeofjjhfmaaGreat
open Go.RowKit

def eqL (a b : ByteArray) : Bool := a.toList == b.toList
def sameNames (a b : List ByteArray) : Bool := a.length == b.length && (a.zip b).all (fun p => eqL p.1 p.2)

def lowerB (l : List UInt8) : Bool := l.all (fun c => 97 ≤ c.toNat && c.toNat ≤ 122)
def speltB (s : ByteArray) : Bool := lowerB s.data.toList && decide (1 ≤ s.size) && decide (s.size ≤ 8)

theorem lowerB_snoc (s : ByteArray) (k : Nat) (h : k < s.size) : lowerB (s.data.toList.take (k + 1)) = (lowerB (s.data.toList.take k) && (decide (97 ≤ s[k].toNat) && decide (s[k].toNat ≤ 122))) := by
  unfold lowerB
  rw [List.take_succ_eq_append_getElem (by simpa using h), List.all_append]; simp; rfl

theorem lowerB_not (s : ByteArray) (k : Nat) (h : k < s.size) (e : ¬ (97 ≤ s[k].toNat ∧ s[k].toNat ≤ 122)) : speltB s = false := by
  unfold speltB lowerB
  have : (s.data.toList.all (fun c => decide (97 ≤ c.toNat) && decide (c.toNat ≤ 122))) = false := by
    rw [List.all_eq_false]
    refine ⟨s[k], ?_, ?_⟩
    · have : s[k] = s.data.toList[k]'(by simpa using h) := rfl
      rw [this]; exact List.getElem_mem _
    · simp; omega
  rw [this]; rfl

set_option maxHeartbeats 400000 in
theorem spelt_any (s : ByteArray) (w : World) (hs : s.size ≤ 9223372036854775807) :
    Calls Tryz.prog 53 #[.string s] w fun e w' => e = .returned (.bool (speltB s)) ∧ w' = w := by
  go_enter Tryz.func53, Tryz.ntmps53
  go_wp2
  go_loop [6] (fun i => ∃ k : Nat, k ≤ s.size ∧ i = .int .i64 k ∧ lowerB (s.data.toList.take k) = true) (fun i => s.size - (intOf i).toNat)
  case atStart => exact ⟨0, by omega, rfl, rfl⟩
  case round =>
    obtain ⟨k, hk, rfl, hf⟩ := hrel
    have HF := Lib.hid hf; clear hf
    by_cases hlt : k < s.size
    · by_cases h1 : s[k].toNat < 97
      · have hF := Lib.hid (lowerB_not s k hlt (by omega))
        have h1' : ((s[k].toNat : Int) < 97) := by omega
        go_wp2
        go_ret
        exact ⟨by rw [hF.out]; rfl, rfl⟩
      · by_cases h2 : 122 < s[k].toNat
        · have hF := Lib.hid (lowerB_not s k hlt (by omega))
          have h1' : ¬ ((s[k].toNat : Int) < 97) := by omega
          have h2' : (122 < (s[k].toNat : Int)) := by omega
          go_wp2
          go_ret
          exact ⟨by rw [hF.out]; rfl, rfl⟩
        · have hF := Lib.hid (lowerB_snoc s k hlt)
          have h1' : ¬ ((s[k].toNat : Int) < 97) := by omega
          have h2' : ¬ (122 < (s[k].toNat : Int)) := by omega
          go_wp2
          go_round
          case rel => exact ⟨k + 1, by omega, by go_num, by rw [hF.out, HF.out]; simp; omega⟩
          case measure => simp [intOf]; omega
    · obtain rfl : k = s.size := by omega
      have hl := HF.out
      rw [List.take_of_length_le (by simp)] at hl
      have HL := Lib.hid hl; clear hl
      by_cases h1 : 1 ≤ s.size
      · by_cases h2 : s.size ≤ 8
        · have hF : Hid (speltB s = true) := Lib.hid (by unfold speltB; rw [HL.out]; simp; omega)
          go_wp2
          go_ret
          exact ⟨by rw [hF.out]; show Ending.returned (.bool (decide ((s.size : Int) ≤ 8))) = _; rw [decide_eq_true (by omega)], rfl⟩
        · have hF : Hid (speltB s = false) := Lib.hid (by unfold speltB; rw [HL.out]; simp; omega)
          go_wp2
          go_ret
          exact ⟨by rw [hF.out]; show Ending.returned (.bool (decide ((s.size : Int) ≤ 8))) = _; rw [decide_eq_false (by omega)], rfl⟩
      · have hF : Hid (speltB s = false) := Lib.hid (by unfold speltB; rw [HL.out]; simp; omega)
        go_wp2
        go_ret
        exact ⟨by rw [hF.out]; rfl, rfl⟩

end Go.Proofs.YtjmlaeofjjhfmaaGreat
/- Sets of strings: a map[string]bool of the call's own whose values are all true, as the list of the keys that were put in; the laws for insert, update, look-up, len. -/
namespace Go.Proofs.YtjmlaeofjjhfmaaGreat
open Go.RowKit Go.Maps Go.WideMaps

theorem info4 : (Tryz.prog.info? 4).map (fun i => (i.zero, i.size, i.bytes)) = some (some (.bool false), 1, 1) := by kernel_rfl

/-- Block b is a map of at most n entries: the set of the keys acc, each with true. -/
def SetAt (w : World) (b n : Nat) (acc : List (List UInt8)) : Prop :=
  w.ownsMap (H := Unit) Tryz.prog 9 (plainElem Tryz.prog 4) b n (setOf (.lit (.bool true)) (acc.map Lit.string))

theorem isKey_map (acc : List (List UInt8)) : ∀ x ∈ acc.map Lit.string, WideAt.IsKeyLit x := by
  intro x hx; obtain ⟨y, _, rfl⟩ := List.mem_map.1 hx; simp [WideAt.IsKeyLit]

def inSet (acc : List (List UInt8)) (k : List UInt8) : Bool := acc.any (fun x => x == k)

theorem atKey_fold (k : List UInt8) : ∀ (acc : List (List UInt8)) (D : DataW Unit) (_ : IsMap D),
    ((acc.map Lit.string).foldl (fun m x => m.put x (.lit (.bool true))) D).atKey (.string k) (.lit (.bool false)) = if inSet acc k then .lit (.bool true) else D.atKey (.string k) (.lit (.bool false)) := by
  intro acc
  induction acc with
  | nil => intro D _; simp [inSet]
  | cons a acc ih =>
    intro D hD
    rw [List.map_cons, List.foldl_cons, ih _ (by obtain ⟨es, rfl⟩ := hD; exact ⟨_, rfl⟩)]
    by_cases h1 : inSet acc k = true
    · have : inSet (a :: acc) k = true := by simp only [inSet, List.any_cons] at h1 ⊢; rw [h1]; simp
      rw [if_pos h1, if_pos this]
    · by_cases h2 : a = k
      · subst h2
        have : inSet (a :: acc) a = true := by simp [inSet]
        rw [if_neg h1, if_pos this, atKey_put_same hD (by simp [WideAt.IsKeyLit])]
      · have : ¬ inSet (a :: acc) k = true := by
          simp only [inSet, List.any_cons] at h1 ⊢; simp [h2] at h1 ⊢; exact h1
        rw [if_neg h1, if_neg this, atKey_put_other (by simp; exact fun e => h2 e.symm)]

theorem atKey_setOf (acc : List (List UInt8)) (k : List UInt8) : (setOf (H := Unit) (.lit (.bool true)) (acc.map Lit.string)).atKey (.string k) (.lit (.bool false)) = .lit (.bool (inSet acc k)) := by
  unfold setOf
  rw [atKey_fold k acc _ ⟨[], rfl⟩]
  cases inSet acc k <;> simp [DataW.atKey]

theorem plainElem_bool_inv {H : Type} {P : Program} {e : TypeId} (he : P.underlying e = some .bool) {v : Value} {z : DataW H × List MemPlace} (h : plainElem P e v = some z) : ∃ a, v = .bool a ∧ z = (.lit (.bool a), []) := by
  unfold plainElem at h
  rw [he] at h
  cases v <;> simp at h
  exact ⟨_, rfl, h.symm⟩

theorem zero4 (w : World) : (zeroValue 4).run Tryz.prog w = .ok (.bool false) w := by
  obtain ⟨i0, hi, hz0, hz1, hz2⟩ := info_parts info4
  simp [zeroValue, typeInfo, hi, hz0]

theorem SetAt.look {w : World} {b n : Nat} {acc : List (List UInt8)} (h : SetAt w b n acc) {k : ByteArray} (hk : k.size ≤ maxLen) :
    (Instr.lookup 70 (.map (some b)) (.string k) false).run Tryz.prog w = .ok (.bool (inSet acc k.data.toList)) w := by
  obtain ⟨v, ps, hrun, hv⟩ := World.ownsMap.lookup h (string_keyed Tryz.underlying9) Tryz.underlying70 (zero4 w) (plainElem_bool Tryz.underlying4 false) (keyOf_string_mk Tryz.underlying9 hk)
  obtain ⟨a, rfl, ha⟩ := plainElem_bool_inv Tryz.underlying4 hv
  rw [atKey_setOf] at ha
  simp only [Prod.mk.injEq, DataW.lit.injEq, Lit.bool.injEq] at ha
  rw [hrun, ← ha.1]

theorem SetAt.put {w : World} {b n : Nat} {acc : List (List UInt8)} (h : SetAt w b n acc) (hn : n < maxLen) {k : ByteArray} (hk : k.size ≤ maxLen) :
    ∃ w', (Instr.mapUpdate 70 (.map (some b)) (.string k) (.bool true)).run Tryz.prog w = .ok () w' ∧ SetAt w' b (n + 1) (acc ++ [k.data.toList]) ∧ w.grownBy w' (some b) := by
  obtain ⟨w', h1, h2, h3⟩ := World.ownsMap.update h (string_keyed Tryz.underlying9) Tryz.underlying70 hn (keyOf_string_mk Tryz.underlying9 hk) (plainElem_bool Tryz.underlying4 true)
  refine ⟨w', h1, ?_, h3⟩
  unfold SetAt
  rw [List.map_append]
  exact (setOf_snoc _ _ _) ▸ h2

theorem SetAt.made (w : World) : SetAt (w.alloc (.map #[] 0)) w.heap.size 0 [] := World.ownsMap_made _ _ _ _

theorem SetAt.lt {w : World} {b n : Nat} {acc : List (List UInt8)} (h : SetAt w b n acc) : b < w.heap.size := World.ownsMap.lt h

theorem SetAt.kept {w w' : World} {b n : Nat} {acc : List (List UInt8)} {row : Option Nat} (h : SetAt w b n acc) (hg : w.grownBy w' row) (hne : some b ≠ row) : SetAt w' b n acc := World.ownsMap.kept h hg hne

theorem SetAt.below {w w' : World} {B b n : Nat} {acc : List (List UInt8)} (h : SetAt w b n acc) (hB : Below B w w') (hb : b < B) : SetAt w' b n acc := by
  obtain ⟨es, clock, h1, h2⟩ := h
  exact ⟨es, clock, (hB.block b hb).trans h1, h2⟩

def words : List (List UInt8) := [[97, 110, 100], [100, 101, 102], [101, 108, 115, 101], [103, 111], [105, 102], [105, 110], [112, 108, 97, 99, 101], [115, 116, 111, 112], [116, 104, 101, 110], [119, 97, 116, 99, 104]]

end Go.Proofs.YtjmlaeofjjhfmaaGreat
/- keywords, term.Name. -/
namespace Go.Proofs.YtjmlaeofjjhfmaaGreat
open Go.RowKit
set_option maxHeartbeats 1000000 in
set_option maxRecDepth 10000 in
theorem keywords_any (w : World) :
    Calls Tryz.prog 54 #[] w fun e w' => e = .returned (.map (some w.heap.size)) ∧ SetAt w' w.heap.size 10 words ∧ Below w.heap.size w w' := by
  have hmm := @run_makeMap Tryz.prog
  have s0 := SetAt.made w
  have b0 : Below w.heap.size w (w.alloc (.map #[] 0)) := (Below.refl _ w).alloc (Nat.le_refl _) _
  obtain ⟨w1, r1, s1, g1⟩ := s0.put (by unfold maxLen; omega) (k := ⟨#[97, 110, 100]⟩) (by decide)
  have b1 := b0.grown g1 b0.size (fun k e => by cases e; exact Nat.le_refl _)
  obtain ⟨w2, r2, s2, g2⟩ := s1.put (by unfold maxLen; omega) (k := ⟨#[100, 101, 102]⟩) (by decide)
  have b2 := b1.grown g2 b1.size (fun k e => by cases e; exact Nat.le_refl _)
  obtain ⟨w3, r3, s3, g3⟩ := s2.put (by unfold maxLen; omega) (k := ⟨#[101, 108, 115, 101]⟩) (by decide)
  have b3 := b2.grown g3 b2.size (fun k e => by cases e; exact Nat.le_refl _)
  obtain ⟨w4, r4, s4, g4⟩ := s3.put (by unfold maxLen; omega) (k := ⟨#[103, 111]⟩) (by decide)
  have b4 := b3.grown g4 b3.size (fun k e => by cases e; exact Nat.le_refl _)
  obtain ⟨w5, r5, s5, g5⟩ := s4.put (by unfold maxLen; omega) (k := ⟨#[105, 102]⟩) (by decide)
  have b5 := b4.grown g5 b4.size (fun k e => by cases e; exact Nat.le_refl _)
  obtain ⟨w6, r6, s6, g6⟩ := s5.put (by unfold maxLen; omega) (k := ⟨#[105, 110]⟩) (by decide)
  have b6 := b5.grown g6 b5.size (fun k e => by cases e; exact Nat.le_refl _)
  obtain ⟨w7, r7, s7, g7⟩ := s6.put (by unfold maxLen; omega) (k := ⟨#[112, 108, 97, 99, 101]⟩) (by decide)
  have b7 := b6.grown g7 b6.size (fun k e => by cases e; exact Nat.le_refl _)
  obtain ⟨w8, r8, s8, g8⟩ := s7.put (by unfold maxLen; omega) (k := ⟨#[115, 116, 111, 112]⟩) (by decide)
  have b8 := b7.grown g8 b7.size (fun k e => by cases e; exact Nat.le_refl _)
  obtain ⟨w9, r9, s9, g9⟩ := s8.put (by unfold maxLen; omega) (k := ⟨#[116, 104, 101, 110]⟩) (by decide)
  have b9 := b8.grown g9 b8.size (fun k e => by cases e; exact Nat.le_refl _)
  obtain ⟨w10, r10, s10, g10⟩ := s9.put (by unfold maxLen; omega) (k := ⟨#[119, 97, 116, 99, 104]⟩) (by decide)
  have b10 := b9.grown g10 b9.size (fun k e => by cases e; exact Nat.le_refl _)
  go_enter Tryz.func54, Tryz.ntmps54
  go_wp2
  go_ret
  exact ⟨rfl, s10, b10⟩

def nameB (s : ByteArray) : Bool := speltB s && !inSet words s.data.toList

set_option maxHeartbeats 1000000 in
/-- term.Name at every string. -/
theorem tname_any (s : ByteArray) (w : World) (hs : s.size ≤ maxLen) :
    Calls Tryz.prog 16 #[.string s] w fun e w' => e = .returned (.bool (nameB s)) ∧ Below w.heap.size w w' := by
  have hs' := hs
  unfold maxLen at hs'
  by_cases h1 : speltB s = true
  · go_enter Tryz.func16, Tryz.ntmps16
    go_wp2_with (first
      | (go_at_call 53; refine (spelt_any _ _ hs').mono ?_; rintro e w' ⟨rfl, rfl⟩)
      | (go_at_call 54; refine (keywords_any _).mono ?_; rintro e w1 ⟨rfl, hk, hb⟩; have hl := hk.look hs))
    go_ret
    exact ⟨by unfold nameB; rw [h1]; rfl, hb⟩
  · have h1' : speltB s = false := by simpa using h1
    clear h1
    go_enter Tryz.func16, Tryz.ntmps16
    go_wp2_with (first
      | (go_at_call 53; refine (spelt_any _ _ hs').mono ?_; rintro e w' ⟨rfl, rfl⟩)
      | (go_at_call 54; refine (keywords_any _).mono ?_; rintro e w1 ⟨rfl, hk, hb⟩; have hl := hk.look hs))
    go_ret
    exact ⟨by unfold nameB; rw [h1']; rfl, Below.refl _ _⟩

end Go.Proofs.YtjmlaeofjjhfmaaGreat
/- among, differ, SameNames, cabotageref01.Name. -/
namespace Go.Proofs.YtjmlaeofjjhfmaaGreat
open Go.RowKit

def bytesOf (s : ByteArray) : List UInt8 := s.data.toList

theorem take_snoc_map (ss : List ByteArray) (k : Nat) (h : k < ss.length) : (ss.take (k + 1)).map bytesOf = (ss.take k).map bytesOf ++ [bytesOf ss[k]] := by
  rw [List.take_succ_eq_append_getElem h, List.map_append]; rfl

set_option maxHeartbeats 1000000 in
theorem among_cells (b off cap : Nat) (ss : List ByteArray) (w : World) (hbig : ss.length ≤ 9223372036854775807) (hz : ∀ s ∈ ss, s.size ≤ maxLen) (hb : b < w.heap.size) (hc : StrCells w b off ss) :
    Calls Tryz.prog 57 #[.slice (some ⟨b, off, none⟩) ss.length cap] w fun e w' => e = .returned (.map (some w.heap.size)) ∧ SetAt w' w.heap.size ss.length (ss.map bytesOf) ∧ Below w.heap.size w w' := by
  have hmm := @run_makeMap Tryz.prog
  have s0 := SetAt.made w
  have b0 : Below w.heap.size w (w.alloc (.map #[] 0)) := (Below.refl _ w).alloc (Nat.le_refl _) _
  go_enter Tryz.func57, Tryz.ntmps57
  go_wp2
  go_loopw [9] (fun i wr => ∃ k : Nat, k ≤ ss.length ∧ i = .int .i64 k ∧ SetAt wr w.heap.size k ((ss.take k).map bytesOf) ∧ Below w.heap.size w wr) (fun i _ => ss.length - (intOf i).toNat)
  case atStart => exact ⟨0, by omega, rfl, s0, b0⟩
  case round =>
    obtain ⟨k, hk, rfl, hs, hbl⟩ := hrel
    by_cases hlt : k < ss.length
    · have hcell := (hbl.cell (p := ⟨b, off + k, none⟩) hb).trans (hc k hlt)
      obtain ⟨w1, r1, s1, g1⟩ := hs.put (by unfold maxLen; omega) (hz ss[k] (List.getElem_mem hlt))
      have b1 := hbl.grown g1 hbl.size (fun k e => by cases e; exact Nat.le_refl _)
      go_wp2
      go_roundw
      case rel => exact ⟨k + 1, by omega, by go_num, by rw [take_snoc_map ss k hlt]; exact s1, b1⟩
      case measure => simp [intOf]; omega
    · obtain rfl : k = ss.length := by omega
      rw [List.take_length] at hs
      go_wp2
      go_ret
      exact ⟨rfl, hs, hbl⟩

set_option maxHeartbeats 1000000 in
theorem among_none (a : Option Addr) (cap : Nat) (w : World) :
    Calls Tryz.prog 57 #[.slice a 0 cap] w fun e w' => e = .returned (.map (some w.heap.size)) ∧ SetAt w' w.heap.size 0 [] ∧ Below w.heap.size w w' := by
  have hmm := @run_makeMap Tryz.prog
  have s0 := SetAt.made w
  have b0 : Below w.heap.size w (w.alloc (.map #[] 0)) := (Below.refl _ w).alloc (Nat.le_refl _) _
  go_enter Tryz.func57, Tryz.ntmps57
  go_wp2
  refine wp_loop_rounds 1 ?_
  rw [rounds_succ]
  go_wp2
  go_ret
  exact ⟨rfl, s0, b0⟩

theorem among_any (v : Value) (ss : List ByteArray) (w : World) (h : StrsAt w.heap.size w v ss) :
    Calls Tryz.prog 57 #[v] w fun e w' => e = .returned (.map (some w.heap.size)) ∧ SetAt w' w.heap.size ss.length (ss.map bytesOf) ∧ Below w.heap.size w w' := by
  obtain ⟨a, cap, rfl, hl, hz, hcap, h⟩ := h
  rcases h with rfl | ⟨b, off, rfl, hB, hc⟩
  · exact among_none a cap w
  · exact among_cells b off cap ss w hl hz hB hc

end Go.Proofs.YtjmlaeofjjhfmaaGreat
