/- SameNames, the reference's Name, short, name, named. -/
import Derived.Test.YtjmlaeofjjhfmaaGreatC11
import Derived.Laws.IdiomStrings
import Derived.Test.YtjmlaeofjjhfmaaGreatC03
set_option linter.unusedVariables false
set_option linter.unusedSimpArgs false
namespace Go.Proofs.YtjmlaeofjjhfmaaGreat
open Go.RowKit Go.Shelf

theorem zip_snoc (a b : List ByteArray) (k : Nat) (h1 : k < a.length) (h2 : k < b.length) :
    ((a.take (k + 1)).zip (b.take (k + 1))).all (fun p => eqL p.1 p.2) = (((a.take k).zip (b.take k)).all (fun p => eqL p.1 p.2) && eqL a[k] b[k]) := by
  rw [List.take_succ_eq_append_getElem h1, List.take_succ_eq_append_getElem h2, List.zip_append (by simp; omega), List.all_append]; simp
theorem sameNames_not (a b : List ByteArray) (k : Nat) (h1 : k < a.length) (h2 : k < b.length) (h : eqL a[k] b[k] = false) : sameNames a b = false := by
  unfold sameNames
  have : (a.zip b).all (fun p => eqL p.1 p.2) = false := by
    rw [List.all_eq_false]
    refine ⟨(a[k], b[k]), ?_, by simp [h]⟩
    rw [List.mem_iff_getElem]
    exact ⟨k, by simp; omega, by simp⟩
  rw [this, Bool.and_false]

set_option maxRecDepth 10000 in
set_option maxHeartbeats 1000000 in
theorem same_names (B : Nat) (v1 v2 : Value) (s1 s2 : List ByteArray) (w : World) (hB : B ≤ w.heap.size) (h1 : StrsAt B w v1 s1) (h2 : StrsAt B w v2 s2) :
    Calls Tryz.prog 31 #[v1, v2] w fun e w' => e = .returned (.bool (sameNames s1 s2)) ∧ Below w.heap.size w w' := by
  obtain ⟨a1, c1, rfl, l1, z1, _, p1⟩ := h1
  obtain ⟨a2, c2, rfl, l2, z2, _, p2⟩ := h2
  by_cases hl : s1.length = s2.length
  · have HL := Lib.hid hl
    have hd : ¬ ((s1.length : Int) ≠ (s2.length : Int)) := by omega
    have hd' : ((s1.length : Int) = (s2.length : Int)) := by omega
    clear hl
    go_enter Tryz.func31, Tryz.ntmps31
    go_wp2
    go_loopw [5] (fun i wr => ∃ (k : Nat), k ≤ s1.length ∧ i = .int .i64 k ∧ ((s1.take k).zip (s2.take k)).all (fun p => eqL p.1 p.2) = true ∧ Below w.heap.size w wr) (fun i _ => s1.length - (intOf i).toNat)
    case atStart => exact ⟨0, by omega, rfl, rfl, Below.refl _ _⟩
    case round =>
      obtain ⟨k, hk, rfl, hf, hb⟩ := hrel
      have HF := Lib.hid hf; clear hf
      by_cases hlt : k < s1.length
      · have hlt2 : k < s2.length := by have := HL.out; omega
        rcases p1 with h0 | ⟨b1, o1, rfl, hB1, hc1⟩
        · subst h0; simp at hlt
        rcases p2 with h0 | ⟨b2, o2, rfl, hB2, hc2⟩
        · subst h0; simp at hlt2
        have k1 := (hb.cell (p := ⟨b1, o1 + k, none⟩) (by simp; omega)).trans (hc1 k hlt)
        have k2 := (hb.cell (p := ⟨b2, o2 + k, none⟩) (by simp; omega)).trans (hc2 k hlt2)
        have hS := Lib.hid (zip_snoc s1 s2 k hlt hlt2)
        have hN := Lib.hid (sameNames_not s1 s2 k hlt hlt2)
        obtain ⟨x, hx⟩ : ∃ x, x = s1[k] := ⟨_, rfl⟩
        obtain ⟨y, hy⟩ : ∃ y, y = s2[k] := ⟨_, rfl⟩
        rw [← hx] at k1 hS hN
        rw [← hy] at k2 hS hN
        clear hx hy hc1 hc2
        cases he : (x.toList == y.toList) with
        | true =>
          go_wp2
          go_quiet (fail)
          go_wp2
          go_roundw
          case rel => exact ⟨k + 1, by omega, by go_num, by rw [hS.out, HF.out]; exact he, below_drewN hb _⟩
          case measure => simp [intOf]; omega
        | false =>
          go_wp2
          go_quiet (fail)
          go_wp2
          go_ret
          exact ⟨by rw [hN.out he]; rfl, below_drewN hb _⟩
      · obtain rfl : k = s1.length := by omega
        go_wp2
        go_ret
        have e1 : s2.take s1.length = s2 := List.take_of_length_le (by have := HL.out; omega)
        have e2 := HF.out
        rw [List.take_length, e1] at e2
        exact ⟨by unfold sameNames; rw [e2]; simp [HL.out], hb⟩
  · have HL := Lib.hid hl
    have hd : ¬ ((s1.length : Int) = (s2.length : Int)) := by omega
    clear hl
    go_enter Tryz.func31, Tryz.ntmps31
    go_wp2
    go_ret
    exact ⟨by unfold sameNames; simp [HL.out], Below.refl _ _⟩

def refWords : List ByteArray := [⟨#[97, 110, 100]⟩, ⟨#[100, 101, 102]⟩, ⟨#[101, 108, 115, 101]⟩, ⟨#[103, 111]⟩, ⟨#[105, 102]⟩, ⟨#[105, 110]⟩, ⟨#[112, 108, 97, 99, 101]⟩, ⟨#[115, 116, 111, 112]⟩, ⟨#[116, 104, 101, 110]⟩, ⟨#[119, 97, 116, 99, 104]⟩]
def refNameB (s : ByteArray) : Bool := speltB s && !hasB refWords s

set_option maxHeartbeats 1000000 in
theorem refName_any (s : ByteArray) (w : World) (hs : s.size ≤ maxLen) :
    Calls Tryz.prog 15 #[.string s] w fun e w' => e = .returned (.bool (refNameB s)) ∧ Below w.heap.size w w' := by
  have hs' := hs
  unfold maxLen at hs'
  by_cases h1 : 1 ≤ s.size
  · by_cases h2 : s.size ≤ 8
    · have h1' : ¬ ((s.size : Int) < 1) := by omega
      have h2' : ¬ (8 < (s.size : Int)) := by omega
      go_enter Tryz.func15, Tryz.ntmps15
      go_wp2
      go_loop [3] (fun i => ∃ k : Nat, k ≤ s.size ∧ i = .int .i64 k ∧ lowerB (s.data.toList.take k) = true) (fun i => s.size - (intOf i).toNat)
      case atStart => exact ⟨0, by omega, rfl, rfl⟩
      case round =>
        obtain ⟨k, hk, rfl, hf⟩ := hrel
        have HF := Lib.hid hf; clear hf
        by_cases hlt : k < s.size
        · by_cases h3 : s[k].toNat < 97
          · have hF := Lib.hid (lowerB_not s k hlt (by omega))
            have h3' : ((s[k].toNat : Int) < 97) := by omega
            go_wp2
            go_ret
            exact ⟨by unfold refNameB; rw [hF.out]; rfl, Below.refl _ _⟩
          · by_cases h4 : 122 < s[k].toNat
            · have hF := Lib.hid (lowerB_not s k hlt (by omega))
              have h3' : ¬ ((s[k].toNat : Int) < 97) := by omega
              have h4' : (122 < (s[k].toNat : Int)) := by omega
              go_wp2
              go_ret
              exact ⟨by unfold refNameB; rw [hF.out]; rfl, Below.refl _ _⟩
            · have hF := Lib.hid (lowerB_snoc s k hlt)
              have h3' : ¬ ((s[k].toNat : Int) < 97) := by omega
              have h4' : ¬ (122 < (s[k].toNat : Int)) := by omega
              go_wp2
              go_round
              case rel => exact ⟨k + 1, by omega, by go_num, by rw [hF.out, HF.out]; simp; omega⟩
              case measure => simp [intOf]; omega
        · obtain rfl : k = s.size := by omega
          have hl := HF.out
          rw [List.take_of_length_le (by simp)] at hl
          have hF : Hid (speltB s = true) := Lib.hid (by unfold speltB; rw [hl]; simp; omega)
          clear hl HF
          have hA : StrsAt (w.alloc (.cells (strVals refWords).toArray 9)).heap.size (w.alloc (.cells (strVals refWords).toArray 9)) (.slice (some ⟨w.heap.size, 0, none⟩) 10 10) refWords := by
            refine ⟨_, _, rfl, by decide, by decide, (by simp), .inr ⟨w.heap.size, 0, rfl, by simp, fun j hj => ?_⟩⟩
            rw [World.cell?_alloc_at _ _ _ _ rfl]
            simp only [refWords, List.length_cons, List.length_nil] at hj
            match j, hj with
            | 0, _ | 1, _ | 2, _ | 3, _ | 4, _ | 5, _ | 6, _ | 7, _ | 8, _ | 9, _ => rfl
          have hh := has_any _ _ refWords s _ hA
          go_wp2_with (go_at_call 36; refine hh.mono ?_; clear hh; rintro e w' ⟨rfl, rfl⟩)
          go_ret
          exact ⟨by unfold refNameB; rw [hF.out]; rfl, (Below.refl _ _).alloc (Nat.le_refl _) _⟩
    · have h1' : ¬ ((s.size : Int) < 1) := by omega
      have h2' : (8 < (s.size : Int)) := by omega
      have hF : Hid (speltB s = false) := Lib.hid (by unfold speltB; simp; omega)
      go_enter Tryz.func15, Tryz.ntmps15
      go_wp2
      go_ret
      exact ⟨by unfold refNameB; rw [hF.out]; rfl, Below.refl _ _⟩
  · have h1' : ((s.size : Int) < 1) := by omega
    have hF : Hid (speltB s = false) := Lib.hid (by unfold speltB; simp; omega)
    go_enter Tryz.func15, Tryz.ntmps15
    go_wp2
    go_ret
    exact ⟨by unfold refNameB; rw [hF.out]; rfl, Below.refl _ _⟩

def shortB (l : List ByteArray) : Bool := (l.take 100).all (fun s => decide (s.size ≤ 30)) && decide (l.length ≤ 90)

theorem Tryz.results190 : Tryz.f190.results = #[.cell 2 36] := by kernel_rfl
theorem Tryz.results51 : Tryz.f51.results = #[.cell 2 36] := by kernel_rfl
set_option maxHeartbeats 1000000 in
theorem named_any (s : ByteArray) (w : World) : Calls Tryz.prog 190 #[.string s] w fun e w' => e = .returned (.agg #[.int .i64 2, .int .i64 0, .string s, .slice none 0 0]) ∧ Below w.heap.size w w' := by
  go_enter Tryz.func190, Tryz.ntmps190
  go_wp2
  simp [bodyPost, results, Tryz.results190, go_sem]
  first | exact (Below.refl _ w).alloc (Nat.le_refl _) _ | trace_state
set_option maxHeartbeats 1000000 in
theorem name51_any (s : ByteArray) (w : World) : Calls Tryz.prog 51 #[.string s] w fun e w' => e = .returned (.agg #[.int .i64 2, .int .i64 0, .string s, .slice none 0 0]) ∧ Below w.heap.size w w' := by
  go_enter Tryz.func51, Tryz.ntmps51
  go_wp2
  simp [bodyPost, results, Tryz.results51, go_sem]
  first | exact (Below.refl _ w).alloc (Nat.le_refl _) _ | trace_state

end Go.Proofs.YtjmlaeofjjhfmaaGreat
/- following: the string of letters that comes next. -/
namespace Go.Proofs.YtjmlaeofjjhfmaaGreat
open Go.RowKit Go.Shelf

def followR : List UInt8 → List UInt8
  | [] => [97]
  | c :: cs => if c.toNat < 122 then (c + 1) :: cs else 97 :: followR cs
def followL (l : List UInt8) : List UInt8 := (followR l.reverse).reverse
theorem followL_nil : followL [] = [97] := rfl
theorem followL_lt (l : List UInt8) (c : UInt8) (h : c.toNat < 122) : followL (l ++ [c]) = l ++ [c + 1] := by
  simp [followL, followR, h]
theorem followL_ge (l : List UInt8) (c : UInt8) (h : ¬ c.toNat < 122) : followL (l ++ [c]) = followL l ++ [97] := by
  simp [followL, followR, h]

/-- The cells of block B hold the bytes Y, and may be written. -/
def BC (w : World) (B : Nat) (Y : List UInt8) : Prop := ∀ j, (h : j < Y.length) → w.cell? ⟨B, j, none⟩ = some (.int .u8 (Y[j].toNat : Int)) ∧ w.frozen? ⟨B, j, none⟩ = false
theorem BC.set {w : World} {B : Nat} {Y : List UInt8} (h : BC w B Y) {k : Nat} (hk : k < Y.length) (x : UInt8) : BC (w.setCell ⟨B, k, none⟩ (.int .u8 (x.toNat : Int))) B (Y.set k x) := by
  intro j hj
  have hj' : j < Y.length := by simpa using hj
  refine ⟨?_, (World.frozen?_setCell _ _ _ _).trans (h j hj').2⟩
  by_cases e : j = k
  · subst e
    rw [World.cell?_setCell_same' _ _ _ (by rw [(h j hj').1]; rfl)]; simp
  · rw [World.cell?_setCell_other]
    · rw [(h j hj').1, List.getElem_set_ne (by omega)]
    · intro h2; cases h2; exact e rfl

theorem take_rep_set (L : List UInt8) (k n : Nat) (hk : k < L.length) (hn : n = L.length) (x : UInt8) :
    (L.take (k + 1) ++ List.replicate (n - (k + 1)) 97).set k x = L.take k ++ [x] ++ List.replicate (n - (k + 1)) 97 := by
  have e1 : (L.take (k + 1)).length = k + 1 := by rw [List.length_take]; omega
  have e2 : (L.take k).length = k := by rw [List.length_take]; omega
  rw [List.set_append_left _ _ (by omega), List.take_succ_eq_append_getElem hk, List.set_append_right _ _ (by omega), e2]
  simp

theorem rep_succ (n k : Nat) (h : k < n) : List.replicate (n - k) (97 : UInt8) = [97] ++ List.replicate (n - (k + 1)) 97 := by
  rw [show n - k = (n - (k + 1)) + 1 by omega, List.replicate_succ]; rfl
theorem bytes_inj' {a b : ByteArray} (h : a.data.toList = b.data.toList) : a = b := by
  obtain ⟨⟨a⟩⟩ := a; obtain ⟨⟨b⟩⟩ := b; simp at h; subst h; rfl

set_option maxRecDepth 10000 in
set_option maxHeartbeats 1000000 in
theorem following_any (s : ByteArray) (w : World) (hs : s.size ≤ 1000000) :
    Calls Tryz.prog 155 #[.string s] w fun e w' => e = .returned (.string (mkB (followL (bytesOf s)))) ∧ Below w.heap.size w w' := by
  obtain ⟨L, hL⟩ : ∃ L, L = bytesOf s := ⟨_, rfl⟩
  have hn : s.size = L.length := by rw [hL]; show s.data.size = s.data.toList.length; simp
  have hconv := run_bytes_of_string (P := Tryz.prog) w 9 146 5 s Tryz.underlying9 Tryz.underlying146 Tryz.underlying5
  obtain ⟨cap, hcap⟩ : ∃ cap, cap = grownCap w s.size 0 5 := ⟨_, rfl⟩
  rw [← hcap] at hconv
  obtain ⟨W1, hW1⟩ : ∃ W1, W1 = (w.drew.alloc (.cells (bytesRow s cap) 5 ((bytesRow s cap).size, (bytesRow s cap).size + 1))) := ⟨_, rfl⟩
  rw [← hW1] at hconv
  have hb1 : Below w.heap.size w W1 := by rw [hW1]; exact ((Below.refl _ w).drew).alloc (by simp) _
  have hbc : BC W1 w.heap.size L := by
    intro j hj
    rw [hW1]
    refine ⟨?_, ?_⟩
    · have h1 := World.cell?_alloc_mark w.drew (bytesRow s cap) 5 ((bytesRow s cap).size, (bytesRow s cap).size + 1) j
      have hj' : j < s.data.size := by rw [hL] at hj; simpa [bytesOf] using hj
      rw [bytesRow_at s cap j hj'] at h1
      subst hL
      exact h1
    · have h1 := World.frozen?_alloc_mark w.drew (bytesRow s cap) 5 (bytesRow s cap).size ((bytesRow s cap).size + 1) j
      have hj' : j < (bytesRow s cap).size := by
        have hj2 : j < s.data.size := by rw [hL] at hj; simpa [bytesOf] using hj
        exact (Array.getElem?_eq_some_iff.1 (bytesRow_at s cap j hj2)).1
      rw [show decide ((bytesRow s cap).size ≤ j) = false by simp; omega] at h1
      exact h1
  rw [hn] at hconv hs
  have hback : ∀ (W : World) (Y : List UInt8), Y.length = L.length → BC W w.heap.size Y → (convert 146 9 (.slice (some ⟨w.heap.size, 0, none⟩) L.length cap)).run Tryz.prog W = .ok (.string (mkB Y)) W := by
    intro W Y hY hc
    rw [← hY]
    refine run_convert_bytes_back W 146 9 5 ⟨w.heap.size, 0, none⟩ cap Y Tryz.underlying146 Tryz.underlying5 Tryz.underlying9 (fun j hj => ?_)
    have e : (⟨w.heap.size, 0, none⟩ : Addr).add j = ⟨w.heap.size, j, none⟩ := by unfold Addr.add; by_cases h : j = 0 <;> simp [h]
    rw [e]; exact (hc j hj).1
  have HL := Lib.hid hL
  clear hW1 hcap hn hL
  go_enter Tryz.func155, Tryz.ntmps155
  go_wp2
  go_loopw [4] (fun i wr => ∃ (m : Nat), m ≤ L.length ∧ i = .int .i64 ((m : Int) - 1) ∧ BC wr w.heap.size (L.take m ++ List.replicate (L.length - m) 97) ∧ followL L = followL (L.take m) ++ List.replicate (L.length - m) 97 ∧ Below w.heap.size w wr) (fun i _ => (intOf i + 1).toNat)
  case atStart => exact ⟨L.length, Nat.le_refl _, by first | rfl | go_num, by simpa using hbc, by simp, hb1⟩
  case round =>
    obtain ⟨m, hm, rfl, hc, hf, hb⟩ := hrel
    have HF := Lib.hid hf; clear hf
    cases m with
    | zero =>
      simp only [List.take_zero, Nat.sub_zero, List.nil_append] at hc HF
      have hk := hback _ _ (by simp) hc
      have hsz : ¬ 9223372036854775807 < 1 + (mkB (List.replicate L.length 97)).size := by
        have : (mkB (List.replicate L.length 97)).size = L.length := by show (List.replicate L.length 97).toArray.size = _; simp
        omega
      go_wp2
      go_ret
      refine ⟨?_, hb⟩
      rw [← HL.out, HF.out]
      show Ending.returned (.string ((⟨#[97]⟩ : ByteArray) ++ mkB (List.replicate L.length 97))) = _
      have e : (⟨#[97]⟩ : ByteArray) ++ mkB (List.replicate L.length 97) = mkB ([97] ++ List.replicate L.length 97) := by
        apply bytes_inj'
        simp [mkB]
      rw [e, followL_nil]
    | succ k =>
      have hk : k < L.length := by omega
      rw [show (((k + 1 : Nat) : Int) - 1) = (k : Int) by omega]
      have hlen : (L.take (k + 1) ++ List.replicate (L.length - (k + 1)) 97).length = L.length := by simp; omega
      have hck := hc k (by omega)
      have hget : (L.take (k + 1) ++ List.replicate (L.length - (k + 1)) 97)[k]'(by omega) = L[k] := by
        rw [List.getElem_append_left (by simp; omega)]; simp
      rw [hget] at hck
      obtain ⟨hk1, hk2⟩ := hck
      have htk := List.take_succ_eq_append_getElem hk
      obtain ⟨c, hcc⟩ : ∃ c, c = L[k] := ⟨_, rfl⟩
      rw [← hcc] at hk1 htk
      by_cases hlt : c.toNat < 122
      · have h1 : ((c.toNat : Int) < 122) := by omega
        have hw8 : IntKind.u8.wrap ((c.toNat : Int) + 1) = (c.toNat : Int) + 1 := by
          unfold IntKind.wrap; simp [IntKind.bits, IntKind.signed]; omega
        have hc1 : ((c + 1).toNat : Int) = (c.toNat : Int) + 1 := by
          rw [UInt8.toNat_add]; simp; omega
        have hset := hc.set (by omega : k < _) (c + 1)
        rw [take_rep_set L k _ hk rfl, hc1] at hset
        have hk3 := hback _ _ (by simp; omega) hset
        have hres : Hid (followL L = L.take k ++ [c + 1] ++ List.replicate (L.length - (k + 1)) 97) := Lib.hid (by rw [HF.out, htk, followL_lt _ _ hlt])
        clear hset hc hget hlen HF htk hcc
        go_wp2
        go_ret
        exact ⟨by rw [← HL.out, hres.out, List.append_assoc]; rfl, hb.setCell (by simp) _⟩
      · have h1 : ¬ ((c.toNat : Int) < 122) := by omega
        have hset := hc.set (by omega : k < _) 97
        rw [take_rep_set L k _ hk rfl] at hset
        have hres : Hid (followL L = followL (L.take k) ++ [97] ++ List.replicate (L.length - (k + 1)) 97) := Lib.hid (by rw [HF.out, htk, followL_ge _ _ hlt])
        clear hc hget hlen HF htk hcc
        go_wp2
        go_roundw
        case rel => exact ⟨k, by omega, by go_num, by rw [rep_succ L.length k hk]; simpa [List.append_assoc] using hset, by rw [hres.out, rep_succ L.length k hk]; simp [List.append_assoc], hb.setCell (by simp) _⟩
        case measure => simp [intOf]

end Go.Proofs.YtjmlaeofjjhfmaaGreat
/- The strings of letters in their order. -/
namespace Go.Proofs.YtjmlaeofjjhfmaaGreat
open Go.RowKit Go.Shelf

def lettersL (l : List UInt8) : Prop := ∀ c ∈ l, 97 ≤ c.toNat ∧ c.toNat ≤ 122
def valR : List UInt8 → Nat
  | [] => 0
  | c :: cs => (c.toNat - 96) + 26 * valR cs
def valL (l : List UInt8) : Nat := valR l.reverse

theorem valR_follow : ∀ l : List UInt8, lettersL l → valR (followR l) = valR l + 1 ∧ lettersL (followR l)
  | [], _ => ⟨rfl, by intro c hc; simp [followR] at hc; subst hc; decide⟩
  | c :: cs, h => by
    have hc := h c (by simp)
    have hcs : lettersL cs := fun d hd => h d (by simp [hd])
    unfold followR
    split
    · rename_i hlt
      have e : (c + 1).toNat = c.toNat + 1 := by rw [UInt8.toNat_add]; simp; omega
      refine ⟨by simp only [valR, e]; omega, ?_⟩
      intro d hd
      rcases List.mem_cons.1 hd with hd | hd
      · subst hd; omega
      · exact hcs d hd
    · obtain ⟨h1, h2⟩ := valR_follow cs hcs
      refine ⟨by simp only [valR, h1]; have : (97 : UInt8).toNat = 97 := rfl; omega, ?_⟩
      intro d hd
      rcases List.mem_cons.1 hd with hd | hd
      · subst hd; decide
      · exact h2 d hd
theorem valL_follow (l : List UInt8) (h : lettersL l) : valL (followL l) = valL l + 1 ∧ lettersL (followL l) := by
  have hr : lettersL l.reverse := fun c hc => h c (List.mem_reverse.1 hc)
  obtain ⟨h1, h2⟩ := valR_follow l.reverse hr
  refine ⟨by simp [valL, followL, h1], fun c hc => h2 c ?_⟩
  simpa [followL] using hc
theorem valR_ge : ∀ l : List UInt8, lettersL l → l.length ≤ valR l
  | [], _ => Nat.le_refl _
  | c :: cs, h => by
    have hc := h c (by simp)
    have := valR_ge cs (fun d hd => h d (by simp [hd]))
    simp only [valR, List.length_cons]; omega
theorem valR_pow : ∀ (l : List UInt8), lettersL l → ∀ m, l.length = m + 1 → 26 ^ m ≤ valR l
  | [], _, m, h => by simp at h
  | c :: cs, h, m, hm => by
    have hc := h c (by simp)
    cases m with
    | zero => simp only [valR]; omega
    | succ m =>
      have := valR_pow cs (fun d hd => h d (by simp [hd])) m (by simpa using hm)
      simp only [valR, Nat.pow_succ]; omega
theorem valR_lt : ∀ (l : List UInt8), lettersL l → valR l < 27 ^ l.length
  | [], _ => by simp [valR]
  | c :: cs, h => by
    have hc := h c (by simp)
    have := valR_lt cs (fun d hd => h d (by simp [hd]))
    simp only [valR, List.length_cons, Nat.pow_succ]; omega

def strN : Nat → List UInt8
  | 0 => [97]
  | n + 1 => followL (strN n)
theorem strN_val : ∀ n, valL (strN n) = n + 1 ∧ lettersL (strN n)
  | 0 => ⟨rfl, by intro c hc; simp [strN] at hc; subst hc; decide⟩
  | n + 1 => by
    obtain ⟨h1, h2⟩ := strN_val n
    obtain ⟨h3, h4⟩ := valL_follow _ h2
    exact ⟨by show valL (followL _) = _; rw [h3, h1], h4⟩
theorem strN_long {n : Nat} (h : 8 < (strN n).length) : 100000 ≤ n := by
  obtain ⟨h1, h2⟩ := strN_val n
  have hr : lettersL (strN n).reverse := fun c hc => h2 c (List.mem_reverse.1 hc)
  obtain ⟨m, hm⟩ : ∃ m, (strN n).reverse.length = m + 1 := ⟨(strN n).length - 1, by rw [List.length_reverse]; omega⟩
  have h3 := valR_pow _ hr m hm
  have h4 : 8 ≤ m := by rw [List.length_reverse] at hm; omega
  have h5 : 26 ^ 8 ≤ 26 ^ m := Nat.pow_le_pow_right (by decide) h4
  have h6 : valR (strN n).reverse = n + 1 := h1
  have h7 : (26 : Nat) ^ 8 = 208827064576 := by decide
  omega
theorem strN_short {n : Nat} (h : (strN n).length ≤ 8) : n < 300000000000 := by
  obtain ⟨h1, h2⟩ := strN_val n
  have hr : lettersL (strN n).reverse := fun c hc => h2 c (List.mem_reverse.1 hc)
  have h3 := valR_lt _ hr
  have h4 : 27 ^ (strN n).reverse.length ≤ 27 ^ 8 := Nat.pow_le_pow_right (by decide) (by rw [List.length_reverse]; exact h)
  have h6 : valR (strN n).reverse = n + 1 := h1
  have h7 : (27 : Nat) ^ 8 = 282429536481 := by decide
  omega
theorem strN_len9 : ∀ n, (strN n).length ≤ n + 1 := fun n => by
  obtain ⟨h1, h2⟩ := strN_val n
  have hr : lettersL (strN n).reverse := fun c hc => h2 c (List.mem_reverse.1 hc)
  have h3 := valR_ge _ hr
  have h6 : valR (strN n).reverse = n + 1 := h1
  rw [List.length_reverse] at h3; omega
theorem follow_len : ∀ l : List UInt8, (followR l).length ≤ l.length + 1
  | [] => Nat.le_refl _
  | c :: cs => by unfold followR; split; · simp
                  · have := follow_len cs; simp; omega
theorem followL_len (l : List UInt8) : (followL l).length ≤ l.length + 1 := by
  have := follow_len l.reverse; simpa [followL] using this

end Go.Proofs.YtjmlaeofjjhfmaaGreat
/- allNames: the iterator. -/
namespace Go.Proofs.YtjmlaeofjjhfmaaGreat
open Go.RowKit Go.Shelf
attribute [local go_sem] Oper.semAt_some

def notWord (l : List UInt8) : Bool := !inSet words l
def pref (j : Nat) : List ByteArray := (((List.range j).map strN).filter notWord).map mkB
theorem pref_succ (j : Nat) : pref (j + 1) = pref j ++ (if notWord (strN j) then [mkB (strN j)] else []) := by
  unfold pref
  rw [List.range_succ, List.map_append, List.filter_append, List.map_append]
  congr 1
  simp only [List.map_cons, List.map_nil, List.filter_cons, List.filter_nil]
  split <;> rfl
theorem pref_len (j : Nat) : (pref j).length ≤ j := by
  unfold pref
  rw [List.length_map]
  exact Nat.le_trans (List.length_filter_le _ _) (by simp)
theorem mkB_size (l : List UInt8) : (mkB l).size = l.length := by show l.toArray.size = _; simp
def valV : Value → Nat
  | .string s => valL (bytesOf s)
  | _ => 0

theorem SetAt.walks {w w' : World} {b n : Nat} {acc : List (List UInt8)} (h : SetAt w b n acc) (k : KeepsWalks w w') : SetAt w' b n acc := by
  obtain ⟨es, clock, hb, r⟩ := h
  exact ⟨es, clock, k.same b _ hb rfl, r⟩

abbrev Nm := { s : ByteArray // s.size ≤ 100 }
set_option maxRecDepth 100000 in
set_option maxHeartbeats 1000000 in
theorem names1_in (n l : Nat) (J Jx : List Nm → World → Prop) (hJ : ∀ pre A W, J pre A → A.grownBy W none → J pre W)
    (hY : ∀ m pre (x : Nm) W, J pre W → pre.length < 300000000000 → YieldAt Fence.wide m Tryz.prog l #[.string x.1] W fun e W' =>
      (e = .returned (.bool true) ∧ J (pre ++ [x]) W' ∧ KeepsWalks W W') ∨ (e = .returned (.bool false) ∧ Jx (pre ++ [x]) W'))
    (W : World) (h0 : J [] W) :
    CallsIn Fence.wide n Tryz.prog 154 #[.func (.yield l) #[] #[]] W fun e W' => (∃ v, e = .returned v) ∧
      ((∃ xs : List Nm, (∃ j, 100000 ≤ j ∧ xs.map (·.1) = pref j) ∧ J xs W') ∨ (∃ pre : List Nm, (∃ j, pre.map (·.1) = pref j) ∧ Jx pre W')) := by
  have hdd : ∀ k : Nat, (Fence.wide.depth.isSome = true → 1 ≤ k) := fun k h => by cases h
  have hF : ∀ k, Fence.wide.fn k := fun _ => trivial
  have hkw := keywords_any W
  refine callsIn_of_wp Tryz.func154 rfl trivial ?_ rfl
  simp only [Tryz.ntmps154, List.size_toArray, List.length_cons, List.length_nil, Nat.reduceAdd, Nat.reduceSub, Array.replicate_succ, Array.replicate_zero, List.push_toArray, List.append_toArray, List.nil_append, List.cons_append]
  gi_wp2_with (refine ⟨hdd _, ?_⟩; refine (callsIn_wide.2 hkw).mono ?_; clear hkw; rintro e W1 ⟨rfl, hs1, hb1⟩)
  have h1 := hJ _ _ _ h0 (grown_of_below hb1)
  clear h0
  gi_loopw [3] (fun s wr => ∃ (j : Nat) (xs : List Nm), s = .string (mkB (strN j)) ∧ Hid (xs.map (·.1) = pref j) ∧ J xs wr ∧ SetAt wr W.heap.size 10 words) (fun s _ => 300000000001 - valV s)
  case atStart => exact ⟨0, [], rfl, Lib.hid (by simp [pref]), h1, hs1⟩
  case round =>
    obtain ⟨j, xs, rfl, hxs, hJr, hsr⟩ := hrel
    have hxl : xs.length ≤ j := by have := congrArg List.length hxs.out; rw [List.length_map] at this; have := pref_len j; omega
    have hval : valV (.string (mkB (strN j))) = j + 1 := by show valL (bytesOf (mkB (strN j))) = _; rw [bytesOf_mkB]; exact (strN_val j).1
    have hval2 : valV (.string (mkB (strN (j + 1)))) = j + 2 := by show valL (bytesOf (mkB (strN (j + 1)))) = _; rw [bytesOf_mkB]; exact (strN_val (j + 1)).1
    have hsz := mkB_size (strN j)
    have hps := pref_succ j
    by_cases hlen : (strN j).length ≤ 8
    · have hj := strN_short hlen
      have hlook := hsr.look (k := mkB (strN j)) (by rw [hsz]; unfold maxLen; omega)
      have hnw : notWord (strN j) = !inSet words (strN j) := rfl
      have hfo := fun w => following_any (mkB (strN j)) w (by rw [hsz]; omega)
      rw [show (bytesOf (mkB (strN j))) = strN j from bytesOf_mkB _, show mkB (followL (strN j)) = mkB (strN (j + 1)) from rfl] at hfo
      rw [show (mkB (strN j)).data.toList = strN j from bytesOf_mkB _] at hlook
      obtain ⟨s, hs⟩ : ∃ s, s = mkB (strN j) := ⟨_, rfl⟩
      obtain ⟨s', hs'⟩ : ∃ s, s = mkB (strN (j + 1)) := ⟨_, rfl⟩
      rw [← hs] at hlook hfo hsz hps hval ⊢
      rw [← hs'] at hfo hval2
      have hs2 := hsz
      have hle : ((s.size : Int) ≤ 8) := by omega
      have HV := Lib.hid hval; have HV2 := Lib.hid hval2; have HPS := Lib.hid hps; have HS' := Lib.hid hs'; have HL := Lib.hid hlen; have HS := Lib.hid hs; clear hs
      cases hin : inSet words (strN j) with
      | true =>
        rw [hin] at hlook
        have hpj : Hid (pref (j + 1) = pref j) := Lib.hid (by rw [hps, hnw, hin]; simp)
        clear hval hval2 hps hs' hnw hin hsz hlen hY hs2
        gi_wp2_with (refine ⟨hdd _, ?_⟩; refine (callsIn_wide.2 (hfo _)).mono ?_; clear hfo; rintro e W2 ⟨rfl, hb2⟩)
        go_roundw
        case rel => exact ⟨j + 1, xs, by rw [HS'.out], Lib.hid (by rw [hpj.out, hxs.out]), hJ _ _ _ hJr (grown_of_below hb2), hsr.kept (grown_of_below hb2) (by simp)⟩
        case measure => rw [HV.out, HV2.out]; omega
      | false =>
        rw [hin] at hlook
        have hpj : Hid (pref (j + 1) = pref j ++ [s]) := Lib.hid (by rw [hps, hnw, hin]; simp)
        have hx100 : s.size ≤ 100 := by rw [hs2]; omega
        obtain ⟨fn, tmps, assign, body, hy, hR⟩ := hY (n - 1) xs ⟨s, hx100⟩ wr hJr (by omega)
        obtain ⟨x0, hx0⟩ : ∃ x : Nm, x = ⟨s, hx100⟩ := ⟨_, rfl⟩
        have hx1 : Hid (x0.1 = s) := Lib.hid (by rw [hx0])
        rw [← hx0] at hR
        clear hx0
        clear hval hval2 hps hs' hnw hin hsz hlen hY hs2
        gi_wp2_with (first
          | ((try refine ⟨hdd _, ?_⟩); refine hR.mono ?_; clear hR; rintro e W2 (⟨rfl, hJ2, hk2⟩ | ⟨rfl, hx2⟩))
          | (refine ⟨hdd _, ?_⟩; refine (callsIn_wide.2 (hfo _)).mono ?_; clear hfo; rintro e W3 ⟨rfl, hb3⟩))
        · go_roundw
          case rel => exact ⟨j + 1, xs ++ [x0], by rw [HS'.out], Lib.hid (by rw [hpj.out, List.map_append, hxs.out, List.map_cons, List.map_nil, hx1.out]), hJ _ _ _ hJ2 (grown_of_below hb3), (hsr.walks hk2).kept (grown_of_below hb3) (by simp)⟩
          case measure => rw [HV.out, HV2.out]; omega
        · (try simp only [Exit.inBlock, Exit.then])
          refine bodyPost_ret (results_none rfl _ _ _) rfl ?_
          exact ⟨⟨_, rfl⟩, .inr ⟨_, ⟨j + 1, by rw [hpj.out, List.map_append, hxs.out, List.map_cons, List.map_nil, hx1.out]⟩, hx2⟩⟩
    · have hj := strN_long (Nat.lt_of_not_le hlen)
      have hle : ¬ (((mkB (strN j)).size : Int) ≤ 8) := by rw [hsz]; omega
      clear hsz hval hval2 hps
      gi_wp2
      go_end0
      exact ⟨⟨_, rfl⟩, .inl ⟨_, ⟨j, hj, hxs.out⟩, hJr⟩⟩

theorem names_stops (n : Nat) (w : World) :
    SeqStopsK Fence.wide n Tryz.prog 154 #[] (fun s : Nm => #[.string s.1]) KeepsWalks (fun xs => ∃ j, 100000 ≤ j ∧ xs.map (·.1) = pref j) (fun xs => ∃ j, xs.map (·.1) = pref j) 300000000000 w :=
  fun l J Jx W hW hJ _ hY h0 =>
    names1_in n l J Jx (fun pre A W' h hg => hJ pre A W' none h hg (by simp)) (fun m pre x W1 a b => yield_room m (hY pre x W1 a b)) W h0

end Go.Proofs.YtjmlaeofjjhfmaaGreat
