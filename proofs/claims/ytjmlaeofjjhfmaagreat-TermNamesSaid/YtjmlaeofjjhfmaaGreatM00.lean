/-
  DERIVED: THE SHELF's CONTRACTS AT THIS DUMP, IN PLAIN WORDS (tools/lay-plain.mjs out of 'YtjmlaeofjjhfmaaGreatShelfT.lean', which tools/lay-shelf.mjs wrote): THE SAME DECLARATIONS UNDER THE SAME NAMES: 'import', 'namespace', 'open', 'def', 'theorem' AND NOTHING ELSE: no command of the shelf's: FOR A HAND-IN. Each laying: the table of numbers ('.._ren') and one theorem, a field a fact of the dump's own or the kernel's comparison; each contract: ONE APPLICATION.
-/
import Derived.Shelf.SlGeneric
import Derived.Shelf.SlMaps.Copy
import Derived.Ground.SlmpProg
import Derived.Shelf.SlIter.Nil
import Derived.Shelf.SortM.Plain
import Derived.Shelf.SortM.SortNone
import Derived.Ground.GgzProg
import Derived.Ground.SlgmProg
import Derived.Test.YtjmlaeofjjhfmaaGreatProg
import Derived.Test.YtjmlaeofjjhfmaaGreatRows
import Derived.WalkKit
import Derived.WalkSpells
import Derived.WalkLawsBesides
import Derived.Deep.QuietTactic
import Derived.BigQuiet
import Derived.Lib.Hide
import Derived.Maps.OwnSet
import Derived.Maps.StringElems
set_option linter.unusedVariables false
set_option linter.unusedSimpArgs false
namespace Go.Proofs
open Go.Shelf
def Tryz.copy86_ren : Go.Shelf.Ren := ⟨fun | 5 => 86 | n => n, fun | 23 => 70 | 24 => 70 | 26 => 9 | 27 => 4 | 0 => 0 | 4 => 4 | n => n, fun | n => n⟩
theorem Tryz.copy86 : Go.Proofs.SlLaysX.n5 Tryz.prog Tryz.copy86_ren := {
  mixed := by kernel_rfl
  f5 := ⟨Tryz.f86.name, by decide, Tryz.func86.trans (congrArg some (by kernel_rfl))⟩
  t0 := Tryz.underlying0
  a0 := Tryz.isAgg0
  z0 := Tryz.sizeOf0
  v0 := Tryz.zeroValue0
  t4 := Tryz.underlying4
  a4 := Tryz.isAgg4
  z4 := Tryz.sizeOf4
  v4 := Tryz.zeroValue4
  t23 := Tryz.underlying70
  a23 := Tryz.isAgg70
  z23 := Tryz.sizeOf70
  v23 := Tryz.zeroValue70
  t24 := Tryz.underlying70
  a24 := Tryz.isAgg70
  z24 := Tryz.sizeOf70
  v24 := Tryz.zeroValue70
  a26 := Tryz.isAgg9
  z26 := Tryz.sizeOf9
  a27 := Tryz.isAgg4
  z27 := Tryz.sizeOf4 }
def Tryz.keys74_ren : Go.Shelf.Ren := ⟨fun | 7 => 74 | 10 => 128 | n => n, fun | 23 => 70 | 26 => 9 | 3 => 4 | 28 => 99 | 0 => 0 | 27 => 98 | 33 => 25 | 4 => 4 | n => n, fun | n => n⟩
theorem Tryz.keys74 : Go.Proofs.SlLaysZ.n7 Tryz.prog Tryz.keys74_ren := {
  mixed := by kernel_rfl
  f7 := ⟨Tryz.f74.name, by decide, Tryz.func74.trans (congrArg some (by kernel_rfl))⟩
  f10 := ⟨Tryz.f128.name, by decide, Tryz.func128.trans (congrArg some (by kernel_rfl))⟩
  t0 := Tryz.underlying0
  a0 := Tryz.isAgg0
  z0 := Tryz.sizeOf0
  v0 := Tryz.zeroValue0
  t4 := Tryz.underlying4
  a4 := Tryz.isAgg4
  z4 := Tryz.sizeOf4
  v4 := Tryz.zeroValue4
  t23 := Tryz.underlying70
  a23 := Tryz.isAgg70
  z23 := Tryz.sizeOf70
  v23 := Tryz.zeroValue70
  t26 := Tryz.underlying9
  a26 := Tryz.isAgg9
  z26 := Tryz.sizeOf9
  v26 := Tryz.zeroValue9
  t27 := Tryz.underlying98
  a27 := Tryz.isAgg98
  z27 := Tryz.sizeOf98
  v27 := Tryz.zeroValue98
  t28 := Tryz.underlying99
  a28 := Tryz.isAgg99
  z28 := Tryz.sizeOf99
  v28 := Tryz.zeroValue99
  t33 := Tryz.underlying25
  a33 := Tryz.isAgg25
  z33 := Tryz.sizeOf25
  v33 := Tryz.zeroValue25 }
def Tryz.sorted73_ren : Go.Shelf.Ren := ⟨fun | 6 => 73 | 8 => 126 | 9 => 127 | 11 => 165 | 13 => 167 | 12 => 166 | 23 => 188 | 24 => 189 | 14 => 179 | 15 => 180 | 16 => 181 | 17 => 182 | 18 => 183 | 19 => 184 | 20 => 185 | 21 => 186 | 22 => 187 | 25 => 193 | 26 => 194 | 27 => 195 | 28 => 196 | 29 => 197 | 30 => 198 | 31 => 199 | n => n, fun | 26 => 9 | 28 => 99 | 24 => 22 | 0 => 0 | 3 => 3 | 37 => 202 | 48 => 223 | 50 => 225 | 4 => 4 | 40 => 215 | 39 => 214 | 45 => 220 | 5 => 5 | 9 => 9 | 51 => 226 | 55 => 76 | 57 => 231 | 58 => 84 | 33 => 25 | n => n, fun | n => n⟩
theorem Tryz.sorted73 : Go.Proofs.SlLaysZ.n6 Tryz.prog Tryz.sorted73_ren := {
  mixed := by kernel_rfl
  f6 := ⟨Tryz.f73.name, by decide, Tryz.func73.trans (congrArg some (by kernel_rfl))⟩
  f8 := ⟨Tryz.f126.name, by decide, Tryz.func126.trans (congrArg some (by kernel_rfl))⟩
  f11 := ⟨Tryz.f165.name, by decide, Tryz.func165.trans (congrArg some (by kernel_rfl))⟩
  t0 := Tryz.underlying0
  a0 := Tryz.isAgg0
  z0 := Tryz.sizeOf0
  v0 := Tryz.zeroValue0
  t24 := Tryz.underlying22
  a24 := Tryz.isAgg22
  z24 := Tryz.sizeOf22
  v24 := Tryz.zeroValue22
  t26 := Tryz.underlying9
  a26 := Tryz.isAgg9
  z26 := Tryz.sizeOf9
  v26 := Tryz.zeroValue9
  t28 := Tryz.underlying99
  a28 := Tryz.isAgg99
  z28 := Tryz.sizeOf99
  v28 := Tryz.zeroValue99
  i26 := by kernel_rfl }
def Tryz.sort127_ren : Go.Shelf.Ren := ⟨fun | 6 => 127 | 8 => 167 | 9 => 166 | 19 => 188 | 20 => 189 | 21 => 179 | 22 => 180 | 23 => 181 | 24 => 182 | 25 => 183 | 26 => 184 | 27 => 185 | 28 => 186 | 29 => 187 | 36 => 193 | 31 => 194 | 32 => 195 | 37 => 196 | 38 => 197 | 39 => 198 | 41 => 199 | n => n, fun | 27 => 22 | 29 => 9 | 3 => 3 | 32 => 202 | 26 => 22 | 0 => 0 | 44 => 223 | 46 => 225 | 4 => 4 | 36 => 215 | 35 => 214 | 41 => 220 | 5 => 5 | 9 => 9 | 53 => 226 | 57 => 76 | 63 => 231 | 64 => 84 | n => n, fun | n => n⟩
theorem Tryz.sort127 : Go.Proofs.SlLaysM.n6 Tryz.prog Tryz.sort127_ren := {
  mixed := by kernel_rfl
  f6 := ⟨Tryz.f127.name, by decide, Tryz.func127.trans (congrArg some (by kernel_rfl))⟩
  f8 := Tryz.func167.trans (congrArg some (by kernel_rfl))
  f9 := ⟨Tryz.f166.name, by decide, Tryz.func166.trans (congrArg some (by kernel_rfl))⟩
  f19 := Tryz.func188.trans (congrArg some (by kernel_rfl))
  f20 := Tryz.func189.trans (congrArg some (by kernel_rfl))
  f21 := ⟨Tryz.f179.name, by decide, Tryz.func179.trans (congrArg some (by kernel_rfl))⟩
  f22 := ⟨Tryz.f180.name, by decide, Tryz.func180.trans (congrArg some (by kernel_rfl))⟩
  f23 := ⟨Tryz.f181.name, by decide, Tryz.func181.trans (congrArg some (by kernel_rfl))⟩
  f24 := ⟨Tryz.f182.name, by decide, Tryz.func182.trans (congrArg some (by kernel_rfl))⟩
  f25 := ⟨Tryz.f183.name, by decide, Tryz.func183.trans (congrArg some (by kernel_rfl))⟩
  f26 := ⟨Tryz.f184.name, by decide, Tryz.func184.trans (congrArg some (by kernel_rfl))⟩
  f27 := ⟨Tryz.f185.name, by decide, Tryz.func185.trans (congrArg some (by kernel_rfl))⟩
  f28 := ⟨Tryz.f186.name, by decide, Tryz.func186.trans (congrArg some (by kernel_rfl))⟩
  f29 := ⟨Tryz.f187.name, by decide, Tryz.func187.trans (congrArg some (by kernel_rfl))⟩
  f31 := Tryz.func194.trans (congrArg some (by kernel_rfl))
  f32 := Tryz.func195.trans (congrArg some (by kernel_rfl))
  f36 := ⟨Tryz.f193.name, by decide, Tryz.func193.trans (congrArg some (by kernel_rfl))⟩
  f37 := ⟨Tryz.f196.name, by decide, Tryz.func196.trans (congrArg some (by kernel_rfl))⟩
  f38 := ⟨Tryz.f197.name, by decide, Tryz.func197.trans (congrArg some (by kernel_rfl))⟩
  f39 := ⟨Tryz.f198.name, by decide, Tryz.func198.trans (congrArg some (by kernel_rfl))⟩
  f41 := ⟨Tryz.f199.name, by decide, Tryz.func199.trans (congrArg some (by kernel_rfl))⟩
  t0 := Tryz.underlying0
  a0 := Tryz.isAgg0
  z0 := Tryz.sizeOf0
  v0 := Tryz.zeroValue0
  t3 := Tryz.underlying3
  a3 := Tryz.isAgg3
  z3 := Tryz.sizeOf3
  v3 := Tryz.zeroValue3
  t4 := Tryz.underlying4
  a4 := Tryz.isAgg4
  z4 := Tryz.sizeOf4
  v4 := Tryz.zeroValue4
  t5 := Tryz.underlying5
  a5 := Tryz.isAgg5
  z5 := Tryz.sizeOf5
  v5 := Tryz.zeroValue5
  t9 := Tryz.underlying9
  a9 := Tryz.isAgg9
  z9 := Tryz.sizeOf9
  v9 := Tryz.zeroValue9
  t26 := Tryz.underlying22
  a26 := Tryz.isAgg22
  z26 := Tryz.sizeOf22
  v26 := Tryz.zeroValue22
  t27 := Tryz.underlying22
  a27 := Tryz.isAgg22
  z27 := Tryz.sizeOf22
  v27 := Tryz.zeroValue22
  t29 := Tryz.underlying9
  a29 := Tryz.isAgg9
  z29 := Tryz.sizeOf9
  v29 := Tryz.zeroValue9
  t32 := Tryz.underlying202
  a32 := Tryz.isAgg202
  z32 := Tryz.sizeOf202
  v32 := Tryz.zeroValue202
  t35 := Tryz.underlying214
  a35 := Tryz.isAgg214
  z35 := Tryz.sizeOf214
  v35 := Tryz.zeroValue214
  t36 := Tryz.underlying215
  a36 := Tryz.isAgg215
  z36 := Tryz.sizeOf215
  v36 := Tryz.zeroValue215
  t41 := Tryz.underlying220
  a41 := Tryz.isAgg220
  z41 := Tryz.sizeOf220
  v41 := Tryz.zeroValue220
  t44 := Tryz.underlying223
  a44 := Tryz.isAgg223
  z44 := Tryz.sizeOf223
  v44 := Tryz.zeroValue223
  t46 := Tryz.underlying225
  a46 := Tryz.isAgg225
  z46 := Tryz.sizeOf225
  v46 := Tryz.zeroValue225
  t53 := Tryz.underlying226
  a53 := Tryz.isAgg226
  z53 := Tryz.sizeOf226
  v53 := Tryz.zeroValue226
  t57 := Tryz.underlying76
  a57 := Tryz.isAgg76
  z57 := Tryz.sizeOf76
  v57 := Tryz.zeroValue76
  t63 := Tryz.underlying231
  a63 := Tryz.isAgg231
  z63 := Tryz.sizeOf231
  v63 := Tryz.zeroValue231
  t64 := Tryz.underlying84
  a64 := Tryz.isAgg84
  z64 := Tryz.sizeOf84
  v64 := Tryz.zeroValue84 }
end Go.Proofs
/- Contracts of the leaf functions of layer 1: Has, SameNames, spelt. No conditions but those that each states. -/
namespace Go.Proofs.YtjmlaeofjjhfmaaGreat
open Go.RowKit

def hasB (ss : List ByteArray) (s : ByteArray) : Bool := ss.any (fun x => x.toList == s.toList)

theorem hasB_snoc (ss : List ByteArray) (k : Nat) (s : ByteArray) (h : k < ss.length) : hasB (ss.take (k + 1)) s = (hasB (ss.take k) s || ((ss[k]).toList == s.toList)) := by
  unfold hasB
  rw [List.take_succ_eq_append_getElem h, List.any_append]; simp

theorem hasB_of (ss : List ByteArray) (k : Nat) (s : ByteArray) (h : k < ss.length) (e : ((ss[k]).toList == s.toList) = true) : hasB ss s = true := by
  unfold hasB; rw [List.any_eq_true]; exact ⟨ss[k], List.getElem_mem h, e⟩

/-- Cells from b, off on hold the strings ss. -/
def StrCells (w : World) (b off : Nat) (ss : List ByteArray) : Prop := ∀ j, (h : j < ss.length) → w.cell? ⟨b, off + j, none⟩ = some (.string ss[j])

/-- A slice that reads as the strings ss, below block number B. -/
def StrsAt (B : Nat) (w : World) (v : Value) (ss : List ByteArray) : Prop :=
  ∃ a cap, v = .slice a ss.length cap ∧ ss.length ≤ 9223372036854775807 ∧ (∀ s ∈ ss, s.size ≤ maxLen) ∧ (a = none → cap = 0) ∧ (ss = [] ∨ ∃ b off, a = some ⟨b, off, none⟩ ∧ b < B ∧ StrCells w b off ss)

theorem StrsAt.below {B : Nat} {w w' : World} {v : Value} {ss : List ByteArray} (h : StrsAt B w v ss) (hb : Below B w w') : StrsAt B w' v ss := by
  obtain ⟨a, cap, rfl, hl, hz, hcap, h⟩ := h
  refine ⟨a, cap, rfl, hl, hz, hcap, ?_⟩
  rcases h with h | ⟨b, off, rfl, hB, hc⟩
  · exact .inl h
  · exact .inr ⟨b, off, rfl, hB, fun j hj => (hb.cell (p := ⟨b, off + j, none⟩) hB).trans (hc j hj)⟩

theorem StrsAt.mono {B B' : Nat} {w : World} {v : Value} {ss : List ByteArray} (h : StrsAt B w v ss) (hb : B ≤ B') : StrsAt B' w v ss := by
  obtain ⟨a, cap, rfl, hl, hz, hcap, h⟩ := h
  refine ⟨a, cap, rfl, hl, hz, hcap, ?_⟩
  rcases h with h | ⟨b, off, rfl, hB, hc⟩
  · exact .inl h
  · exact .inr ⟨b, off, rfl, by omega, hc⟩

set_option maxHeartbeats 400000 in
theorem has_cells (b off cap : Nat) (ss : List ByteArray) (s : ByteArray) (w : World) (hbig : ss.length ≤ 9223372036854775807) (hc : StrCells w b off ss) :
    Calls Tryz.prog 36 #[.slice (some ⟨b, off, none⟩) ss.length cap, .string s] w fun e w' => e = .returned (.bool (hasB ss s)) ∧ w' = w := by
  go_enter Tryz.func36, Tryz.ntmps36
  go_wp2
  go_loop [5] (fun i => ∃ k : Nat, k ≤ ss.length ∧ i = .int .i64 k ∧ hasB (ss.take k) s = false) (fun i => ss.length - (intOf i).toNat)
  case atStart => exact ⟨0, by omega, rfl, rfl⟩
  case round =>
    obtain ⟨k, hk, rfl, hf⟩ := hrel
    have HF := Lib.hid hf; clear hf
    by_cases hlt : k < ss.length
    · have hcell := hc k hlt
      by_cases he : ((ss[k]).toList == s.toList) = true
      · have hF := Lib.hid (hasB_of ss k s hlt he)
        go_wp2
        go_ret
        exact ⟨by rw [hF.out]; rfl, rfl⟩
      · have he' : ((ss[k]).toList == s.toList) = false := by simpa using he
        have hF := Lib.hid (hasB_snoc ss k s hlt)
        go_wp2
        go_round
        case rel => exact ⟨k + 1, by omega, by go_num, by rw [hF.out, HF.out, he']; rfl⟩
        case measure => simp [intOf]; omega
    · obtain rfl : k = ss.length := by omega
      go_wp2
      go_ret
      exact ⟨by have := HF.out; rw [List.take_length] at this; rw [this]; rfl, rfl⟩

set_option maxHeartbeats 400000 in
theorem has_none (a : Option Addr) (cap : Nat) (s : ByteArray) (w : World) :
    Calls Tryz.prog 36 #[.slice a 0 cap, .string s] w fun e w' => e = .returned (.bool false) ∧ w' = w := by
  go_enter Tryz.func36, Tryz.ntmps36
  go_wp2
  refine wp_loop_rounds 1 ?_
  rw [rounds_succ]
  go_wp2
  go_ret
  exact ⟨rfl, rfl⟩

/-- cabotageref01.Has at every slice of strings. -/
theorem has_any (B : Nat) (v : Value) (ss : List ByteArray) (s : ByteArray) (w : World) (h : StrsAt B w v ss) :
    Calls Tryz.prog 36 #[v, .string s] w fun e w' => e = .returned (.bool (hasB ss s)) ∧ w' = w := by
  obtain ⟨a, cap, rfl, hl, hz, hcap, h⟩ := h
  rcases h with rfl | ⟨b, off, rfl, hB, hc⟩
  · exact has_none a cap s w
  · exact has_cells b off cap ss s w hl hc

end Go.Proofs.YtjmlaeofjjhfmaaGreat
/- Contracts: SameNames, spelt, keywords, term.Name. -/
namespace Go.Proofs.YtjmlaeofjjhfmaaGreat
open Go.RowKit

def eqL (a b : ByteArray) : Bool := a.toList == b.toList
def sameNames (a b : List ByteArray) : Bool := a.length == b.length && (a.zip b).all (fun p => eqL p.1 p.2)

def lowerB (l : List UInt8) : Bool := l.all (fun c => 97 ≤ c.toNat && c.toNat ≤ 122)
def speltB (s : ByteArray) : Bool := lowerB s.data.toList && decide (1 ≤ s.size) && decide (s.size ≤ 8)

theorem lowerB_snoc (s : ByteArray) (k : Nat) (h : k < s.size) : lowerB (s.data.toList.take (k + 1)) = (lowerB (s.data.toList.take k) && (decide (97 ≤ s[k].toNat) && decide (s[k].toNat ≤ 122))) := by
  unfold lowerB
  rw [List.take_succ_eq_append_getElem (by simpa using h), List.all_append]; simp; rfl

theorem lowerB_not (s : ByteArray) (k : Nat) (h : k < s.size) (e : ¬ (97 ≤ s[k].toNat ∧ s[k].toNat ≤ 122)) : speltB s = false := by
  unfold speltB lowerB
  have : (s.data.toList.all (fun c => decide (97 ≤ c.toNat) && decide (c.toNat ≤ 122))) = false := by
    rw [List.all_eq_false]
    refine ⟨s[k], ?_, ?_⟩
    · have : s[k] = s.data.toList[k]'(by simpa using h) := rfl
      rw [this]; exact List.getElem_mem _
    · simp; omega
  rw [this]; rfl

set_option maxHeartbeats 400000 in
theorem spelt_any (s : ByteArray) (w : World) (hs : s.size ≤ 9223372036854775807) :
    Calls Tryz.prog 53 #[.string s] w fun e w' => e = .returned (.bool (speltB s)) ∧ w' = w := by
  go_enter Tryz.func53, Tryz.ntmps53
  go_wp2
  go_loop [6] (fun i => ∃ k : Nat, k ≤ s.size ∧ i = .int .i64 k ∧ lowerB (s.data.toList.take k) = true) (fun i => s.size - (intOf i).toNat)
  case atStart => exact ⟨0, by omega, rfl, rfl⟩
  case round =>
    obtain ⟨k, hk, rfl, hf⟩ := hrel
    have HF := Lib.hid hf; clear hf
    by_cases hlt : k < s.size
    · by_cases h1 : s[k].toNat < 97
      · have hF := Lib.hid (lowerB_not s k hlt (by omega))
        have h1' : ((s[k].toNat : Int) < 97) := by omega
        go_wp2
        go_ret
        exact ⟨by rw [hF.out]; rfl, rfl⟩
      · by_cases h2 : 122 < s[k].toNat
        · have hF := Lib.hid (lowerB_not s k hlt (by omega))
          have h1' : ¬ ((s[k].toNat : Int) < 97) := by omega
          have h2' : (122 < (s[k].toNat : Int)) := by omega
          go_wp2
          go_ret
          exact ⟨by rw [hF.out]; rfl, rfl⟩
        · have hF := Lib.hid (lowerB_snoc s k hlt)
          have h1' : ¬ ((s[k].toNat : Int) < 97) := by omega
          have h2' : ¬ (122 < (s[k].toNat : Int)) := by omega
          go_wp2
          go_round
          case rel => exact ⟨k + 1, by omega, by go_num, by rw [hF.out, HF.out]; simp; omega⟩
          case measure => simp [intOf]; omega
    · obtain rfl : k = s.size := by omega
      have hl := HF.out
      rw [List.take_of_length_le (by simp)] at hl
      have HL := Lib.hid hl; clear hl
      by_cases h1 : 1 ≤ s.size
      · by_cases h2 : s.size ≤ 8
        · have hF : Hid (speltB s = true) := Lib.hid (by unfold speltB; rw [HL.out]; simp; omega)
          go_wp2
          go_ret
          exact ⟨by rw [hF.out]; show Ending.returned (.bool (decide ((s.size : Int) ≤ 8))) = _; rw [decide_eq_true (by omega)], rfl⟩
        · have hF : Hid (speltB s = false) := Lib.hid (by unfold speltB; rw [HL.out]; simp; omega)
          go_wp2
          go_ret
          exact ⟨by rw [hF.out]; show Ending.returned (.bool (decide ((s.size : Int) ≤ 8))) = _; rw [decide_eq_false (by omega)], rfl⟩
      · have hF : Hid (speltB s = false) := Lib.hid (by unfold speltB; rw [HL.out]; simp; omega)
        go_wp2
        go_ret
        exact ⟨by rw [hF.out]; rfl, rfl⟩

end Go.Proofs.YtjmlaeofjjhfmaaGreat
