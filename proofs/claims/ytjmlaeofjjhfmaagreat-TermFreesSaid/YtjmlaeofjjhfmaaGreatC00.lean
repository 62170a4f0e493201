/-
  DERIVED: THE SHELF's CONTRACTS AT THIS DUMP, IN PLAIN WORDS (tools/lay-plain.mjs out of 'YtjmlaeofjjhfmaaGreatShelfT.lean', which tools/lay-shelf.mjs wrote): THE SAME DECLARATIONS UNDER THE SAME NAMES: 'import', 'namespace', 'open', 'def', 'theorem' AND NOTHING ELSE: no command of the shelf's: FOR A HAND-IN. Each laying: the table of numbers ('.._ren') and one theorem, a field a fact of the dump's own or the kernel's comparison; each contract: ONE APPLICATION.
-/
import Derived.Shelf.SlGeneric
import Derived.Shelf.SlMaps.Copy
import Derived.Ground.SlmpProg
import Derived.Shelf.SlIter.Nil
import Derived.Shelf.SortM.Plain
import Derived.Shelf.SortM.SortNone
import Derived.Ground.GgzProg
import Derived.Ground.SlgmProg
import Derived.Test.YtjmlaeofjjhfmaaGreatProg
import Derived.Test.YtjmlaeofjjhfmaaGreatRows
import Derived.WalkKit
import Derived.WalkSpells
import Derived.WalkLawsBesides
import Derived.Deep.QuietTactic
import Derived.BigQuiet
import Derived.Lib.Hide
import Derived.Maps.OwnSet
import Derived.Maps.StringElems
import Derived.Outline
set_option linter.unusedVariables false
set_option linter.unusedSimpArgs false
namespace Go.Proofs
open Go.Shelf
def Tryz.copy86_ren : Go.Shelf.Ren := ⟨fun | 5 => 86 | n => n, fun | 23 => 70 | 24 => 70 | 26 => 9 | 27 => 4 | 0 => 0 | 4 => 4 | n => n, fun | n => n⟩
theorem Tryz.copy86 : Go.Proofs.SlLaysX.n5 Tryz.prog Tryz.copy86_ren := {
  mixed := by kernel_rfl
  f5 := ⟨Tryz.f86.name, by decide, Tryz.func86.trans (congrArg some (by kernel_rfl))⟩
  t0 := Tryz.underlying0
  a0 := Tryz.isAgg0
  z0 := Tryz.sizeOf0
  v0 := Tryz.zeroValue0
  t4 := Tryz.underlying4
  a4 := Tryz.isAgg4
  z4 := Tryz.sizeOf4
  v4 := Tryz.zeroValue4
  t23 := Tryz.underlying70
  a23 := Tryz.isAgg70
  z23 := Tryz.sizeOf70
  v23 := Tryz.zeroValue70
  t24 := Tryz.underlying70
  a24 := Tryz.isAgg70
  z24 := Tryz.sizeOf70
  v24 := Tryz.zeroValue70
  a26 := Tryz.isAgg9
  z26 := Tryz.sizeOf9
  a27 := Tryz.isAgg4
  z27 := Tryz.sizeOf4 }
def Tryz.keys74_ren : Go.Shelf.Ren := ⟨fun | 7 => 74 | 10 => 128 | n => n, fun | 23 => 70 | 26 => 9 | 3 => 4 | 28 => 99 | 0 => 0 | 27 => 98 | 33 => 25 | 4 => 4 | n => n, fun | n => n⟩
theorem Tryz.keys74 : Go.Proofs.SlLaysZ.n7 Tryz.prog Tryz.keys74_ren := {
  mixed := by kernel_rfl
  f7 := ⟨Tryz.f74.name, by decide, Tryz.func74.trans (congrArg some (by kernel_rfl))⟩
  f10 := ⟨Tryz.f128.name, by decide, Tryz.func128.trans (congrArg some (by kernel_rfl))⟩
  t0 := Tryz.underlying0
  a0 := Tryz.isAgg0
  z0 := Tryz.sizeOf0
  v0 := Tryz.zeroValue0
  t4 := Tryz.underlying4
  a4 := Tryz.isAgg4
  z4 := Tryz.sizeOf4
  v4 := Tryz.zeroValue4
  t23 := Tryz.underlying70
  a23 := Tryz.isAgg70
  z23 := Tryz.sizeOf70
  v23 := Tryz.zeroValue70
  t26 := Tryz.underlying9
  a26 := Tryz.isAgg9
  z26 := Tryz.sizeOf9
  v26 := Tryz.zeroValue9
  t27 := Tryz.underlying98
  a27 := Tryz.isAgg98
  z27 := Tryz.sizeOf98
  v27 := Tryz.zeroValue98
  t28 := Tryz.underlying99
  a28 := Tryz.isAgg99
  z28 := Tryz.sizeOf99
  v28 := Tryz.zeroValue99
  t33 := Tryz.underlying25
  a33 := Tryz.isAgg25
  z33 := Tryz.sizeOf25
  v33 := Tryz.zeroValue25 }
def Tryz.sorted73_ren : Go.Shelf.Ren := ⟨fun | 6 => 73 | 8 => 126 | 9 => 127 | 11 => 165 | 13 => 167 | 12 => 166 | 23 => 188 | 24 => 189 | 14 => 179 | 15 => 180 | 16 => 181 | 17 => 182 | 18 => 183 | 19 => 184 | 20 => 185 | 21 => 186 | 22 => 187 | 25 => 193 | 26 => 194 | 27 => 195 | 28 => 196 | 29 => 197 | 30 => 198 | 31 => 199 | n => n, fun | 26 => 9 | 28 => 99 | 24 => 22 | 0 => 0 | 3 => 3 | 37 => 202 | 48 => 223 | 50 => 225 | 4 => 4 | 40 => 215 | 39 => 214 | 45 => 220 | 5 => 5 | 9 => 9 | 51 => 226 | 55 => 76 | 57 => 231 | 58 => 84 | 33 => 25 | n => n, fun | n => n⟩
theorem Tryz.sorted73 : Go.Proofs.SlLaysZ.n6 Tryz.prog Tryz.sorted73_ren := {
  mixed := by kernel_rfl
  f6 := ⟨Tryz.f73.name, by decide, Tryz.func73.trans (congrArg some (by kernel_rfl))⟩
  f8 := ⟨Tryz.f126.name, by decide, Tryz.func126.trans (congrArg some (by kernel_rfl))⟩
  f11 := ⟨Tryz.f165.name, by decide, Tryz.func165.trans (congrArg some (by kernel_rfl))⟩
  t0 := Tryz.underlying0
  a0 := Tryz.isAgg0
  z0 := Tryz.sizeOf0
  v0 := Tryz.zeroValue0
  t24 := Tryz.underlying22
  a24 := Tryz.isAgg22
  z24 := Tryz.sizeOf22
  v24 := Tryz.zeroValue22
  t26 := Tryz.underlying9
  a26 := Tryz.isAgg9
  z26 := Tryz.sizeOf9
  v26 := Tryz.zeroValue9
  t28 := Tryz.underlying99
  a28 := Tryz.isAgg99
  z28 := Tryz.sizeOf99
  v28 := Tryz.zeroValue99
  i26 := by kernel_rfl }
def Tryz.sort127_ren : Go.Shelf.Ren := ⟨fun | 6 => 127 | 8 => 167 | 9 => 166 | 19 => 188 | 20 => 189 | 21 => 179 | 22 => 180 | 23 => 181 | 24 => 182 | 25 => 183 | 26 => 184 | 27 => 185 | 28 => 186 | 29 => 187 | 36 => 193 | 31 => 194 | 32 => 195 | 37 => 196 | 38 => 197 | 39 => 198 | 41 => 199 | n => n, fun | 27 => 22 | 29 => 9 | 3 => 3 | 32 => 202 | 26 => 22 | 0 => 0 | 44 => 223 | 46 => 225 | 4 => 4 | 36 => 215 | 35 => 214 | 41 => 220 | 5 => 5 | 9 => 9 | 53 => 226 | 57 => 76 | 63 => 231 | 64 => 84 | n => n, fun | n => n⟩
theorem Tryz.sort127 : Go.Proofs.SlLaysM.n6 Tryz.prog Tryz.sort127_ren := {
  mixed := by kernel_rfl
  f6 := ⟨Tryz.f127.name, by decide, Tryz.func127.trans (congrArg some (by kernel_rfl))⟩
  f8 := Tryz.func167.trans (congrArg some (by kernel_rfl))
  f9 := ⟨Tryz.f166.name, by decide, Tryz.func166.trans (congrArg some (by kernel_rfl))⟩
  f19 := Tryz.func188.trans (congrArg some (by kernel_rfl))
  f20 := Tryz.func189.trans (congrArg some (by kernel_rfl))
  f21 := ⟨Tryz.f179.name, by decide, Tryz.func179.trans (congrArg some (by kernel_rfl))⟩
  f22 := ⟨Tryz.f180.name, by decide, Tryz.func180.trans (congrArg some (by kernel_rfl))⟩
  f23 := ⟨Tryz.f181.name, by decide, Tryz.func181.trans (congrArg some (by kernel_rfl))⟩
  f24 := ⟨Tryz.f182.name, by decide, Tryz.func182.trans (congrArg some (by kernel_rfl))⟩
  f25 := ⟨Tryz.f183.name, by decide, Tryz.func183.trans (congrArg some (by kernel_rfl))⟩
  f26 := ⟨Tryz.f184.name, by decide, Tryz.func184.trans (congrArg some (by kernel_rfl))⟩
  f27 := ⟨Tryz.f185.name, by decide, Tryz.func185.trans (congrArg some (by kernel_rfl))⟩
  f28 := ⟨Tryz.f186.name, by decide, Tryz.func186.trans (congrArg some (by kernel_rfl))⟩
  f29 := ⟨Tryz.f187.name, by decide, Tryz.func187.trans (congrArg some (by kernel_rfl))⟩
  f31 := Tryz.func194.trans (congrArg some (by kernel_rfl))
  f32 := Tryz.func195.trans (congrArg some (by kernel_rfl))
  f36 := ⟨Tryz.f193.name, by decide, Tryz.func193.trans (congrArg some (by kernel_rfl))⟩
  f37 := ⟨Tryz.f196.name, by decide, Tryz.func196.trans (congrArg some (by kernel_rfl))⟩
  f38 := ⟨Tryz.f197.name, by decide, Tryz.func197.trans (congrArg some (by kernel_rfl))⟩
  f39 := ⟨Tryz.f198.name, by decide, Tryz.func198.trans (congrArg some (by kernel_rfl))⟩
  f41 := ⟨Tryz.f199.name, by decide, Tryz.func199.trans (congrArg some (by kernel_rfl))⟩
  t0 := Tryz.underlying0
  a0 := Tryz.isAgg0
  z0 := Tryz.sizeOf0
  v0 := Tryz.zeroValue0
  t3 := Tryz.underlying3
  a3 := Tryz.isAgg3
  z3 := Tryz.sizeOf3
  v3 := Tryz.zeroValue3
  t4 := Tryz.underlying4
  a4 := Tryz.isAgg4
  z4 := Tryz.sizeOf4
  v4 := Tryz.zeroValue4
  t5 := Tryz.underlying5
  a5 := Tryz.isAgg5
  z5 := Tryz.sizeOf5
  v5 := Tryz.zeroValue5
  t9 := Tryz.underlying9
  a9 := Tryz.isAgg9
  z9 := Tryz.sizeOf9
  v9 := Tryz.zeroValue9
  t26 := Tryz.underlying22
  a26 := Tryz.isAgg22
  z26 := Tryz.sizeOf22
  v26 := Tryz.zeroValue22
  t27 := Tryz.underlying22
  a27 := Tryz.isAgg22
  z27 := Tryz.sizeOf22
  v27 := Tryz.zeroValue22
  t29 := Tryz.underlying9
  a29 := Tryz.isAgg9
  z29 := Tryz.sizeOf9
  v29 := Tryz.zeroValue9
  t32 := Tryz.underlying202
  a32 := Tryz.isAgg202
  z32 := Tryz.sizeOf202
  v32 := Tryz.zeroValue202
  t35 := Tryz.underlying214
  a35 := Tryz.isAgg214
  z35 := Tryz.sizeOf214
  v35 := Tryz.zeroValue214
  t36 := Tryz.underlying215
  a36 := Tryz.isAgg215
  z36 := Tryz.sizeOf215
  v36 := Tryz.zeroValue215
  t41 := Tryz.underlying220
  a41 := Tryz.isAgg220
  z41 := Tryz.sizeOf220
  v41 := Tryz.zeroValue220
  t44 := Tryz.underlying223
  a44 := Tryz.isAgg223
  z44 := Tryz.sizeOf223
  v44 := Tryz.zeroValue223
  t46 := Tryz.underlying225
  a46 := Tryz.isAgg225
  z46 := Tryz.sizeOf225
  v46 := Tryz.zeroValue225
  t53 := Tryz.underlying226
  a53 := Tryz.isAgg226
  z53 := Tryz.sizeOf226
  v53 := Tryz.zeroValue226
  t57 := Tryz.underlying76
  a57 := Tryz.isAgg76
  z57 := Tryz.sizeOf76
  v57 := Tryz.zeroValue76
  t63 := Tryz.underlying231
  a63 := Tryz.isAgg231
  z63 := Tryz.sizeOf231
  v63 := Tryz.zeroValue231
  t64 := Tryz.underlying84
  a64 := Tryz.isAgg84
  z64 := Tryz.sizeOf84
  v64 := Tryz.zeroValue84 }
end Go.Proofs
/- Contracts of the leaf functions of layer 1: Has, SameNames, spelt. No conditions but those that each states. -/
namespace Go.Proofs.YtjmlaeofjjhfmaaGreat
open Go.RowKit

def hasB (ss : List ByteArray) (s : ByteArray) : Bool := ss.any (fun x => x.toList == s.toList)

theorem hasB_snoc (ss : List ByteArray) (k : Nat) (s : ByteArray) (h : k < ss.length) : hasB (ss.take (k + 1)) s = (hasB (ss.take k) s || ((ss[k]).toList == s.toList)) := by
  unfold hasB
  rw [List.take_succ_eq_append_getElem h, List.any_append]; simp

theorem hasB_of (ss : List ByteArray) (k : Nat) (s : ByteArray) (h : k < ss.length) (e : ((ss[k]).toList == s.toList) = true) : hasB ss s = true := by
  unfold hasB; rw [List.any_eq_true]; exact ⟨ss[k], List.getElem_mem h, e⟩

/-- Cells from b, off on hold the strings ss. -/
def StrCells (w : World) (b off : Nat) (ss : List ByteArray) : Prop := ∀ j, (h : j < ss.length) → w.cell? ⟨b, off + j, none⟩ = some (.string ss[j])

/-- A slice that reads as the strings ss, below block number B. -/
def StrsAt (B : Nat) (w : World) (v : Value) (ss : List ByteArray) : Prop :=
  ∃ a cap, v = .slice a ss.length cap ∧ ss.length ≤ 9223372036854775807 ∧ (∀ s ∈ ss, s.size ≤ maxLen) ∧ (a = none → cap = 0) ∧ (ss = [] ∨ ∃ b off, a = some ⟨b, off, none⟩ ∧ b < B ∧ StrCells w b off ss)

theorem StrsAt.below {B : Nat} {w w' : World} {v : Value} {ss : List ByteArray} (h : StrsAt B w v ss) (hb : Below B w w') : StrsAt B w' v ss := by
  obtain ⟨a, cap, rfl, hl, hz, hcap, h⟩ := h
  refine ⟨a, cap, rfl, hl, hz, hcap, ?_⟩
  rcases h with h | ⟨b, off, rfl, hB, hc⟩
  · exact .inl h
  · exact .inr ⟨b, off, rfl, hB, fun j hj => (hb.cell (p := ⟨b, off + j, none⟩) hB).trans (hc j hj)⟩

theorem StrsAt.mono {B B' : Nat} {w : World} {v : Value} {ss : List ByteArray} (h : StrsAt B w v ss) (hb : B ≤ B') : StrsAt B' w v ss := by
  obtain ⟨a, cap, rfl, hl, hz, hcap, h⟩ := h
  refine ⟨a, cap, rfl, hl, hz, hcap, ?_⟩
  rcases h with h | ⟨b, off, rfl, hB, hc⟩
  · exact .inl h
  · exact .inr ⟨b, off, rfl, by omega, hc⟩

set_option maxHeartbeats 400000 in
theorem has_cells (b off cap : Nat) (ss : List ByteArray) (s : ByteArray) (w : World) (hbig : ss.length ≤ 9223372036854775807) (hc : StrCells w b off ss) :
    Calls Tryz.prog 36 #[.slice (some ⟨b, off, none⟩) ss.length cap, .string s] w fun e w' => e = .returned (.bool (hasB ss s)) ∧ w' = w := by
  go_enter Tryz.func36, Tryz.ntmps36
  go_wp2
  go_loop [5] (fun i => ∃ k : Nat, k ≤ ss.length ∧ i = .int .i64 k ∧ hasB (ss.take k) s = false) (fun i => ss.length - (intOf i).toNat)
  case atStart => exact ⟨0, by omega, rfl, rfl⟩
  case round =>
    obtain ⟨k, hk, rfl, hf⟩ := hrel
    have HF := Lib.hid hf; clear hf
    by_cases hlt : k < ss.length
    · have hcell := hc k hlt
      by_cases he : ((ss[k]).toList == s.toList) = true
      · have hF := Lib.hid (hasB_of ss k s hlt he)
        go_wp2
        go_ret
        exact ⟨by rw [hF.out]; rfl, rfl⟩
      · have he' : ((ss[k]).toList == s.toList) = false := by simpa using he
        have hF := Lib.hid (hasB_snoc ss k s hlt)
        go_wp2
        go_round
        case rel => exact ⟨k + 1, by omega, by go_num, by rw [hF.out, HF.out, he']; rfl⟩
        case measure => simp [intOf]; omega
    · obtain rfl : k = ss.length := by omega
      go_wp2
      go_ret
      exact ⟨by have := HF.out; rw [List.take_length] at this; rw [this]; rfl, rfl⟩

set_option maxHeartbeats 400000 in
theorem has_none (a : Option Addr) (cap : Nat) (s : ByteArray) (w : World) :
    Calls Tryz.prog 36 #[.slice a 0 cap, .string s] w fun e w' => e = .returned (.bool false) ∧ w' = w := by
  go_enter Tryz.func36, Tryz.ntmps36
  go_wp2
  refine wp_loop_rounds 1 ?_
  rw [rounds_succ]
  go_wp2
  go_ret
  exact ⟨rfl, rfl⟩

/-- cabotageref01.Has at every slice of strings. -/
theorem has_any (B : Nat) (v : Value) (ss : List ByteArray) (s : ByteArray) (w : World) (h : StrsAt B w v ss) :
    Calls Tryz.prog 36 #[v, .string s] w fun e w' => e = .returned (.bool (hasB ss s)) ∧ w' = w := by
  obtain ⟨a, cap, rfl, hl, hz, hcap, h⟩ := h
  rcases h with rfl | ⟨b, off, rfl, hB, hc⟩
  · exact has_none a cap s w
  · exact has_cells b off cap ss s w hl hc

end Go.Proofs.YtjmlaeofjjhfmaaGreat
/- Contracts: SameNames, spelt, keywords, term.Name. -/
namespace Go.Proofs.YtjmlaeofjjhfmaaGreat
open Go.RowKit

def eqL (a b : ByteArray) : Bool := a.toList == b.toList
def sameNames (a b : List ByteArray) : Bool := a.length == b.length && (a.zip b).all (fun p => eqL p.1 p.2)

def lowerB (l : List UInt8) : Bool := l.all (fun c => 97 ≤ c.toNat && c.toNat ≤ 122)
def speltB (s : ByteArray) : Bool := lowerB s.data.toList && decide (1 ≤ s.size) && decide (s.size ≤ 8)

theorem lowerB_snoc (s : ByteArray) (k : Nat) (h : k < s.size) : lowerB (s.data.toList.take (k + 1)) = (lowerB (s.data.toList.take k) && (decide (97 ≤ s[k].toNat) && decide (s[k].toNat ≤ 122))) := by
  unfold lowerB
  rw [List.take_succ_eq_append_getElem (by simpa using h), List.all_append]; simp; rfl

theorem lowerB_not (s : ByteArray) (k : Nat) (h : k < s.size) (e : ¬ (97 ≤ s[k].toNat ∧ s[k].toNat ≤ 122)) : speltB s = false := by
  unfold speltB lowerB
  have : (s.data.toList.all (fun c => decide (97 ≤ c.toNat) && decide (c.toNat ≤ 122))) = false := by
    rw [List.all_eq_false]
    refine ⟨s[k], ?_, ?_⟩
    · have : s[k] = s.data.toList[k]'(by simpa using h) := rfl
      rw [this]; exact List.getElem_mem _
    · simp; omega
  rw [this]; rfl

set_option maxHeartbeats 400000 in
theorem spelt_any (s : ByteArray) (w : World) (hs : s.size ≤ 9223372036854775807) :
    Calls Tryz.prog 53 #[.string s] w fun e w' => e = .returned (.bool (speltB s)) ∧ w' = w := by
  go_enter Tryz.func53, Tryz.ntmps53
  go_wp2
  go_loop [6] (fun i => ∃ k : Nat, k ≤ s.size ∧ i = .int .i64 k ∧ lowerB (s.data.toList.take k) = true) (fun i => s.size - (intOf i).toNat)
  case atStart => exact ⟨0, by omega, rfl, rfl⟩
  case round =>
    obtain ⟨k, hk, rfl, hf⟩ := hrel
    have HF := Lib.hid hf; clear hf
    by_cases hlt : k < s.size
    · by_cases h1 : s[k].toNat < 97
      · have hF := Lib.hid (lowerB_not s k hlt (by omega))
        have h1' : ((s[k].toNat : Int) < 97) := by omega
        go_wp2
        go_ret
        exact ⟨by rw [hF.out]; rfl, rfl⟩
      · by_cases h2 : 122 < s[k].toNat
        · have hF := Lib.hid (lowerB_not s k hlt (by omega))
          have h1' : ¬ ((s[k].toNat : Int) < 97) := by omega
          have h2' : (122 < (s[k].toNat : Int)) := by omega
          go_wp2
          go_ret
          exact ⟨by rw [hF.out]; rfl, rfl⟩
        · have hF := Lib.hid (lowerB_snoc s k hlt)
          have h1' : ¬ ((s[k].toNat : Int) < 97) := by omega
          have h2' : ¬ (122 < (s[k].toNat : Int)) := by omega
          go_wp2
          go_round
          case rel => exact ⟨k + 1, by omega, by go_num, by rw [hF.out, HF.out]; simp; omega⟩
          case measure => simp [intOf]; omega
    · obtain rfl : k = s.size := by omega
      have hl := HF.out
      rw [List.take_of_length_le (by simp)] at hl
      have HL := Lib.hid hl; clear hl
      by_cases h1 : 1 ≤ s.size
      · by_cases h2 : s.size ≤ 8
        · have hF : Hid (speltB s = true) := Lib.hid (by unfold speltB; rw [HL.out]; simp; omega)
          go_wp2
          go_ret
          exact ⟨by rw [hF.out]; show Ending.returned (.bool (decide ((s.size : Int) ≤ 8))) = _; rw [decide_eq_true (by omega)], rfl⟩
        · have hF : Hid (speltB s = false) := Lib.hid (by unfold speltB; rw [HL.out]; simp; omega)
          go_wp2
          go_ret
          exact ⟨by rw [hF.out]; show Ending.returned (.bool (decide ((s.size : Int) ≤ 8))) = _; rw [decide_eq_false (by omega)], rfl⟩
      · have hF : Hid (speltB s = false) := Lib.hid (by unfold speltB; rw [HL.out]; simp; omega)
        go_wp2
        go_ret
        exact ⟨by rw [hF.out]; rfl, rfl⟩

end Go.Proofs.YtjmlaeofjjhfmaaGreat
/- Sets of strings: a map[string]bool of the call's own whose values are all true, as the list of the keys that were put in; the laws for insert, update, look-up, len. -/
namespace Go.Proofs.YtjmlaeofjjhfmaaGreat
open Go.RowKit Go.Maps Go.WideMaps

theorem info4 : (Tryz.prog.info? 4).map (fun i => (i.zero, i.size, i.bytes)) = some (some (.bool false), 1, 1) := by kernel_rfl

/-- Block b is a map of at most n entries: the set of the keys acc, each with true. -/
def SetAt (w : World) (b n : Nat) (acc : List (List UInt8)) : Prop :=
  w.ownsMap (H := Unit) Tryz.prog 9 (plainElem Tryz.prog 4) b n (setOf (.lit (.bool true)) (acc.map Lit.string))

theorem isKey_map (acc : List (List UInt8)) : ∀ x ∈ acc.map Lit.string, WideAt.IsKeyLit x := by
  intro x hx; obtain ⟨y, _, rfl⟩ := List.mem_map.1 hx; simp [WideAt.IsKeyLit]

def inSet (acc : List (List UInt8)) (k : List UInt8) : Bool := acc.any (fun x => x == k)

theorem atKey_fold (k : List UInt8) : ∀ (acc : List (List UInt8)) (D : DataW Unit) (_ : IsMap D),
    ((acc.map Lit.string).foldl (fun m x => m.put x (.lit (.bool true))) D).atKey (.string k) (.lit (.bool false)) = if inSet acc k then .lit (.bool true) else D.atKey (.string k) (.lit (.bool false)) := by
  intro acc
  induction acc with
  | nil => intro D _; simp [inSet]
  | cons a acc ih =>
    intro D hD
    rw [List.map_cons, List.foldl_cons, ih _ (by obtain ⟨es, rfl⟩ := hD; exact ⟨_, rfl⟩)]
    by_cases h1 : inSet acc k = true
    · have : inSet (a :: acc) k = true := by simp only [inSet, List.any_cons] at h1 ⊢; rw [h1]; simp
      rw [if_pos h1, if_pos this]
    · by_cases h2 : a = k
      · subst h2
        have : inSet (a :: acc) a = true := by simp [inSet]
        rw [if_neg h1, if_pos this, atKey_put_same hD (by simp [WideAt.IsKeyLit])]
      · have : ¬ inSet (a :: acc) k = true := by
          simp only [inSet, List.any_cons] at h1 ⊢; simp [h2] at h1 ⊢; exact h1
        rw [if_neg h1, if_neg this, atKey_put_other (by simp; exact fun e => h2 e.symm)]

theorem atKey_setOf (acc : List (List UInt8)) (k : List UInt8) : (setOf (H := Unit) (.lit (.bool true)) (acc.map Lit.string)).atKey (.string k) (.lit (.bool false)) = .lit (.bool (inSet acc k)) := by
  unfold setOf
  rw [atKey_fold k acc _ ⟨[], rfl⟩]
  cases inSet acc k <;> simp [DataW.atKey]

theorem plainElem_bool_inv {H : Type} {P : Program} {e : TypeId} (he : P.underlying e = some .bool) {v : Value} {z : DataW H × List MemPlace} (h : plainElem P e v = some z) : ∃ a, v = .bool a ∧ z = (.lit (.bool a), []) := by
  unfold plainElem at h
  rw [he] at h
  cases v <;> simp at h
  exact ⟨_, rfl, h.symm⟩

theorem zero4 (w : World) : (zeroValue 4).run Tryz.prog w = .ok (.bool false) w := by
  obtain ⟨i0, hi, hz0, hz1, hz2⟩ := info_parts info4
  simp [zeroValue, typeInfo, hi, hz0]

theorem SetAt.look {w : World} {b n : Nat} {acc : List (List UInt8)} (h : SetAt w b n acc) {k : ByteArray} (hk : k.size ≤ maxLen) :
    (Instr.lookup 70 (.map (some b)) (.string k) false).run Tryz.prog w = .ok (.bool (inSet acc k.data.toList)) w := by
  obtain ⟨v, ps, hrun, hv⟩ := World.ownsMap.lookup h (string_keyed Tryz.underlying9) Tryz.underlying70 (zero4 w) (plainElem_bool Tryz.underlying4 false) (keyOf_string_mk Tryz.underlying9 hk)
  obtain ⟨a, rfl, ha⟩ := plainElem_bool_inv Tryz.underlying4 hv
  rw [atKey_setOf] at ha
  simp only [Prod.mk.injEq, DataW.lit.injEq, Lit.bool.injEq] at ha
  rw [hrun, ← ha.1]

theorem SetAt.put {w : World} {b n : Nat} {acc : List (List UInt8)} (h : SetAt w b n acc) (hn : n < maxLen) {k : ByteArray} (hk : k.size ≤ maxLen) :
    ∃ w', (Instr.mapUpdate 70 (.map (some b)) (.string k) (.bool true)).run Tryz.prog w = .ok () w' ∧ SetAt w' b (n + 1) (acc ++ [k.data.toList]) ∧ w.grownBy w' (some b) := by
  obtain ⟨w', h1, h2, h3⟩ := World.ownsMap.update h (string_keyed Tryz.underlying9) Tryz.underlying70 hn (keyOf_string_mk Tryz.underlying9 hk) (plainElem_bool Tryz.underlying4 true)
  refine ⟨w', h1, ?_, h3⟩
  unfold SetAt
  rw [List.map_append]
  exact (setOf_snoc _ _ _) ▸ h2

theorem SetAt.made (w : World) : SetAt (w.alloc (.map #[] 0)) w.heap.size 0 [] := World.ownsMap_made _ _ _ _

theorem SetAt.lt {w : World} {b n : Nat} {acc : List (List UInt8)} (h : SetAt w b n acc) : b < w.heap.size := World.ownsMap.lt h

theorem SetAt.kept {w w' : World} {b n : Nat} {acc : List (List UInt8)} {row : Option Nat} (h : SetAt w b n acc) (hg : w.grownBy w' row) (hne : some b ≠ row) : SetAt w' b n acc := World.ownsMap.kept h hg hne

theorem SetAt.below {w w' : World} {B b n : Nat} {acc : List (List UInt8)} (h : SetAt w b n acc) (hB : Below B w w') (hb : b < B) : SetAt w' b n acc := by
  obtain ⟨es, clock, h1, h2⟩ := h
  exact ⟨es, clock, (hB.block b hb).trans h1, h2⟩

/-- An insertion of a map literal. -/
theorem wpList_insert_set (w : World) {ops : Array Oper} {rest : List Oper} {o : Oper} {a : Act} {Q : Exit → Act → World → Prop}
    (hg : o.guard = none) (m x v : Operand) (hop : o.op = Op.insert 70 m x v) (b n : Nat) (acc : List (List UInt8)) (k : ByteArray)
    (hm : a.eval m = .map (some b)) (hown : SetAt w b n acc) (hn : n < maxLen) (hx : a.eval x = .string k) (hv : a.eval v = .bool true) (hk : k.size ≤ maxLen)
    (hK : ∀ w', SetAt w' b (n + 1) (acc ++ [k.data.toList]) → w.grownBy w' (some b) → wpList Tryz.prog ops Q rest (a.put o.dst undef) w') :
    wpList Tryz.prog ops Q (o :: rest) a w := by
  refine wpList_plain hg fun K' hK' => ?_
  obtain ⟨w', hrun, r1, r2⟩ := hown.put hn hk
  unfold Oper.wp
  simp [execOp, hop, hm, hx, hv, hrun, Result.andThen]
  exact hK' _ _ (hK w' r1 r2)

/-- m[k] = true. -/
theorem wpList_update_set (w : World) {ops : Array Oper} {rest : List Oper} {o : Oper} {a : Act} {Q : Exit → Act → World → Prop}
    (hg : o.guard = none) (m x v : Operand) (hop : o.op = Op.mapUpdate 70 m x v) (b n : Nat) (acc : List (List UInt8)) (k : ByteArray)
    (hm : a.eval m = .map (some b)) (hown : SetAt w b n acc) (hn : n < maxLen) (hx : a.eval x = .string k) (hv : a.eval v = .bool true) (hk : k.size ≤ maxLen)
    (hK : ∀ w', SetAt w' b (n + 1) (acc ++ [k.data.toList]) → w.grownBy w' (some b) → wpList Tryz.prog ops Q rest (a.put o.dst undef) w') :
    wpList Tryz.prog ops Q (o :: rest) a w := by
  refine wpList_plain hg fun K' hK' => ?_
  obtain ⟨w', hrun, r1, r2⟩ := hown.put hn hk
  unfold Oper.wp
  simp [execOp, hop, hm, hx, hv, hrun, Result.andThen]
  exact hK' _ _ (hK w' r1 r2)

def words : List (List UInt8) := [[97, 110, 100], [100, 101, 102], [101, 108, 115, 101], [103, 111], [105, 102], [105, 110], [112, 108, 97, 99, 101], [115, 116, 111, 112], [116, 104, 101, 110], [119, 97, 116, 99, 104]]

end Go.Proofs.YtjmlaeofjjhfmaaGreat
/- keywords, term.Name. -/
namespace Go.Proofs.YtjmlaeofjjhfmaaGreat
open Go.RowKit
set_option maxHeartbeats 1000000 in
set_option maxRecDepth 10000 in
theorem keywords_any (w : World) :
    Calls Tryz.prog 54 #[] w fun e w' => e = .returned (.map (some w.heap.size)) ∧ SetAt w' w.heap.size 10 words ∧ Below w.heap.size w w' := by
  have hmm := @run_makeMap Tryz.prog
  have s0 := SetAt.made w
  have b0 : Below w.heap.size w (w.alloc (.map #[] 0)) := (Below.refl _ w).alloc (Nat.le_refl _) _
  obtain ⟨w1, r1, s1, g1⟩ := s0.put (by unfold maxLen; omega) (k := ⟨#[97, 110, 100]⟩) (by decide)
  have b1 := b0.grown g1 b0.size (fun k e => by cases e; exact Nat.le_refl _)
  obtain ⟨w2, r2, s2, g2⟩ := s1.put (by unfold maxLen; omega) (k := ⟨#[100, 101, 102]⟩) (by decide)
  have b2 := b1.grown g2 b1.size (fun k e => by cases e; exact Nat.le_refl _)
  obtain ⟨w3, r3, s3, g3⟩ := s2.put (by unfold maxLen; omega) (k := ⟨#[101, 108, 115, 101]⟩) (by decide)
  have b3 := b2.grown g3 b2.size (fun k e => by cases e; exact Nat.le_refl _)
  obtain ⟨w4, r4, s4, g4⟩ := s3.put (by unfold maxLen; omega) (k := ⟨#[103, 111]⟩) (by decide)
  have b4 := b3.grown g4 b3.size (fun k e => by cases e; exact Nat.le_refl _)
  obtain ⟨w5, r5, s5, g5⟩ := s4.put (by unfold maxLen; omega) (k := ⟨#[105, 102]⟩) (by decide)
  have b5 := b4.grown g5 b4.size (fun k e => by cases e; exact Nat.le_refl _)
  obtain ⟨w6, r6, s6, g6⟩ := s5.put (by unfold maxLen; omega) (k := ⟨#[105, 110]⟩) (by decide)
  have b6 := b5.grown g6 b5.size (fun k e => by cases e; exact Nat.le_refl _)
  obtain ⟨w7, r7, s7, g7⟩ := s6.put (by unfold maxLen; omega) (k := ⟨#[112, 108, 97, 99, 101]⟩) (by decide)
  have b7 := b6.grown g7 b6.size (fun k e => by cases e; exact Nat.le_refl _)
  obtain ⟨w8, r8, s8, g8⟩ := s7.put (by unfold maxLen; omega) (k := ⟨#[115, 116, 111, 112]⟩) (by decide)
  have b8 := b7.grown g8 b7.size (fun k e => by cases e; exact Nat.le_refl _)
  obtain ⟨w9, r9, s9, g9⟩ := s8.put (by unfold maxLen; omega) (k := ⟨#[116, 104, 101, 110]⟩) (by decide)
  have b9 := b8.grown g9 b8.size (fun k e => by cases e; exact Nat.le_refl _)
  obtain ⟨w10, r10, s10, g10⟩ := s9.put (by unfold maxLen; omega) (k := ⟨#[119, 97, 116, 99, 104]⟩) (by decide)
  have b10 := b9.grown g10 b9.size (fun k e => by cases e; exact Nat.le_refl _)
  go_enter Tryz.func54, Tryz.ntmps54
  go_wp2
  go_ret
  exact ⟨rfl, s10, b10⟩

def nameB (s : ByteArray) : Bool := speltB s && !inSet words s.data.toList

set_option maxHeartbeats 1000000 in
/-- term.Name at every string. -/
theorem tname_any (s : ByteArray) (w : World) (hs : s.size ≤ maxLen) :
    Calls Tryz.prog 16 #[.string s] w fun e w' => e = .returned (.bool (nameB s)) ∧ Below w.heap.size w w' := by
  have hs' := hs
  unfold maxLen at hs'
  by_cases h1 : speltB s = true
  · go_enter Tryz.func16, Tryz.ntmps16
    go_wp2_with (first
      | (go_at_call 53; refine (spelt_any _ _ hs').mono ?_; rintro e w' ⟨rfl, rfl⟩)
      | (go_at_call 54; refine (keywords_any _).mono ?_; rintro e w1 ⟨rfl, hk, hb⟩; have hl := hk.look hs))
    go_ret
    exact ⟨by unfold nameB; rw [h1]; rfl, hb⟩
  · have h1' : speltB s = false := by simpa using h1
    clear h1
    go_enter Tryz.func16, Tryz.ntmps16
    go_wp2_with (first
      | (go_at_call 53; refine (spelt_any _ _ hs').mono ?_; rintro e w' ⟨rfl, rfl⟩)
      | (go_at_call 54; refine (keywords_any _).mono ?_; rintro e w1 ⟨rfl, hk, hb⟩; have hl := hk.look hs))
    go_ret
    exact ⟨by unfold nameB; rw [h1']; rfl, Below.refl _ _⟩

end Go.Proofs.YtjmlaeofjjhfmaaGreat
/- among, differ, SameNames, cabotageref01.Name. -/
namespace Go.Proofs.YtjmlaeofjjhfmaaGreat
open Go.RowKit

def bytesOf (s : ByteArray) : List UInt8 := s.data.toList

theorem take_snoc_map (ss : List ByteArray) (k : Nat) (h : k < ss.length) : (ss.take (k + 1)).map bytesOf = (ss.take k).map bytesOf ++ [bytesOf ss[k]] := by
  rw [List.take_succ_eq_append_getElem h, List.map_append]; rfl

set_option maxHeartbeats 1000000 in
theorem among_cells (b off cap : Nat) (ss : List ByteArray) (w : World) (hbig : ss.length ≤ 9223372036854775807) (hz : ∀ s ∈ ss, s.size ≤ maxLen) (hb : b < w.heap.size) (hc : StrCells w b off ss) :
    Calls Tryz.prog 57 #[.slice (some ⟨b, off, none⟩) ss.length cap] w fun e w' => e = .returned (.map (some w.heap.size)) ∧ SetAt w' w.heap.size ss.length (ss.map bytesOf) ∧ Below w.heap.size w w' := by
  have hmm := @run_makeMap Tryz.prog
  have s0 := SetAt.made w
  have b0 : Below w.heap.size w (w.alloc (.map #[] 0)) := (Below.refl _ w).alloc (Nat.le_refl _) _
  go_enter Tryz.func57, Tryz.ntmps57
  go_wp2
  go_loopw [9] (fun i wr => ∃ k : Nat, k ≤ ss.length ∧ i = .int .i64 k ∧ SetAt wr w.heap.size k ((ss.take k).map bytesOf) ∧ Below w.heap.size w wr) (fun i _ => ss.length - (intOf i).toNat)
  case atStart => exact ⟨0, by omega, rfl, s0, b0⟩
  case round =>
    obtain ⟨k, hk, rfl, hs, hbl⟩ := hrel
    by_cases hlt : k < ss.length
    · have hcell := (hbl.cell (p := ⟨b, off + k, none⟩) hb).trans (hc k hlt)
      obtain ⟨w1, r1, s1, g1⟩ := hs.put (by unfold maxLen; omega) (hz ss[k] (List.getElem_mem hlt))
      have b1 := hbl.grown g1 hbl.size (fun k e => by cases e; exact Nat.le_refl _)
      go_wp2
      go_roundw
      case rel => exact ⟨k + 1, by omega, by go_num, by rw [take_snoc_map ss k hlt]; exact s1, b1⟩
      case measure => simp [intOf]; omega
    · obtain rfl : k = ss.length := by omega
      rw [List.take_length] at hs
      go_wp2
      go_ret
      exact ⟨rfl, hs, hbl⟩

set_option maxHeartbeats 1000000 in
theorem among_none (a : Option Addr) (cap : Nat) (w : World) :
    Calls Tryz.prog 57 #[.slice a 0 cap] w fun e w' => e = .returned (.map (some w.heap.size)) ∧ SetAt w' w.heap.size 0 [] ∧ Below w.heap.size w w' := by
  have hmm := @run_makeMap Tryz.prog
  have s0 := SetAt.made w
  have b0 : Below w.heap.size w (w.alloc (.map #[] 0)) := (Below.refl _ w).alloc (Nat.le_refl _) _
  go_enter Tryz.func57, Tryz.ntmps57
  go_wp2
  refine wp_loop_rounds 1 ?_
  rw [rounds_succ]
  go_wp2
  go_ret
  exact ⟨rfl, s0, b0⟩

theorem among_any (v : Value) (ss : List ByteArray) (w : World) (h : StrsAt w.heap.size w v ss) :
    Calls Tryz.prog 57 #[v] w fun e w' => e = .returned (.map (some w.heap.size)) ∧ SetAt w' w.heap.size ss.length (ss.map bytesOf) ∧ Below w.heap.size w w' := by
  obtain ⟨a, cap, rfl, hl, hz, hcap, h⟩ := h
  rcases h with rfl | ⟨b, off, rfl, hB, hc⟩
  · exact among_none a cap w
  · exact among_cells b off cap ss w hl hz hB hc

theorem toList_bytes (s : ByteArray) : s.toList = s.data.toList := ByteArray.toList_eq s

def sameB (a b : List ByteArray) : Bool := (a.map bytesOf) == (b.map bytesOf)

end Go.Proofs.YtjmlaeofjjhfmaaGreat
