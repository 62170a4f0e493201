/- The reference's Fresh; short. -/
import Derived.Test.YtjmlaeofjjhfmaaGreatC13
import Derived.Deep.RegionLaw
set_option linter.unusedVariables false
set_option linter.unusedSimpArgs false
namespace Go.Proofs.YtjmlaeofjjhfmaaGreat
open Go.RowKit Go.Shelf Go.Maps

theorem hasB_mkB (ss : List ByteArray) (l : List UInt8) : hasB ss (mkB l) = inSet (ss.map bytesOf) l := by
  unfold hasB inSet
  rw [List.any_map]
  congr 1
  funext x
  show (x.toList == (mkB l).toList) = (bytesOf x == l)
  rw [ByteArray.toList_eq, ByteArray.toList_eq]
  show (bytesOf x == bytesOf (mkB l)) = _
  rw [bytesOf_mkB]
theorem strN_len8 {j : Nat} (h : j < 1000) : (strN j).length ≤ 8 ∧ 1 ≤ (strN j).length := by
  refine ⟨?_, ?_⟩
  · refine Classical.byContradiction fun hn => ?_
    have := strN_long (Nat.lt_of_not_le hn); omega
  · obtain ⟨h1, h2⟩ := strN_val j
    cases hl : strN j with
    | nil => rw [hl] at h1; simp [valL, valR] at h1
    | cons c l => simp
theorem refName_strN {j : Nat} (h : j < 1000) : refNameB (mkB (strN j)) = notWord (strN j) := by
  obtain ⟨h1, h2⟩ := strN_len8 h
  have h3 := (strN_val j).2
  have hs : speltB (mkB (strN j)) = true := by
    unfold speltB
    rw [show (mkB (strN j)).data.toList = strN j from bytesOf_mkB _, mkB_size]
    have : lowerB (strN j) = true := by
      unfold lowerB
      rw [List.all_eq_true]
      intro c hc
      simpa using h3 c hc
    rw [this]; simp; omega
  unfold refNameB notWord
  rw [hs, hasB_mkB]
  rfl

set_option maxRecDepth 10000 in
set_option maxHeartbeats 1000000 in
theorem rfresh_any (v : Value) (ss : List ByteArray) (w : World) (h : StrsAt w.heap.size w v ss) (hl : ss.length ≤ 90) :
    Calls Tryz.prog 17 #[v] w fun e w' => ∃ j, e = .returned (.string (mkB (strN j))) ∧ IsFresh (ss.map bytesOf) j ∧ Below w.heap.size w w' := by
  obtain ⟨j0, hj0, hg0⟩ := some_free (ss.map bytesOf) (by simpa using hl)
  have hsh : ∃ a cap, v = .slice a ss.length cap := by obtain ⟨a, cap, rfl, _⟩ := h; exact ⟨a, cap, rfl⟩
  obtain ⟨a, cap, rfl⟩ := hsh
  have HH := Lib.hid h
  clear h
  go_enter Tryz.func17, Tryz.ntmps17
  go_wp2
  go_loopw [3] (fun nv wr => ∃ (n : Nat), nv = .int .i64 (n + 1 : Nat) ∧ (∀ i, i < n → ¬ (notWord (strN i) = true ∧ inSet (ss.map bytesOf) (strN i) = false)) ∧ Below w.heap.size w wr) (fun nv _ => 2000 - (intOf nv).toNat)
  case atStart => exact ⟨0, by first | rfl | simp, by omega, Below.refl _ _⟩
  case round =>
    obtain ⟨n, rfl, hno, hb⟩ := hrel
    have hn : n < 1000 := by
      refine Classical.byContradiction fun hc => hno j0 (by omega) hg0
    have hw := word_any n wr hn
    have hnm := fun w' => refName_any (mkB (strN n)) w' (by rw [mkB_size]; have := (strN_len8 hn).1; unfold maxLen; omega)
    rw [refName_strN hn] at hnm
    have hb0 := hb.size
    have hst : ∀ w', Below wr.heap.size wr w' → StrsAt w'.heap.size w' (.slice a ss.length cap) ss := fun w' h' => (HH.out.later hb).later h'
    have hhas := fun w' (h' : Below wr.heap.size wr w') => has_any _ _ ss (mkB (strN n)) w' (hst w' h')
    rw [hasB_mkB] at hhas
    have HNO := Lib.hid hno
    clear hno hst
    cases hnw : notWord (strN n) with
    | false =>
      rw [hnw] at hnm
      have HNW := Lib.hid hnw; clear hnw
      go_wp2_with (first
        | (go_at_call 55; refine hw.mono ?_; clear hw; rintro e w1 ⟨rfl, hb1⟩)
        | (go_at_call 15; refine (hnm _).mono ?_; clear hnm; rintro e w2 ⟨rfl, hb2⟩))
      go_roundw
      case rel =>
        refine ⟨n + 1, by go_num, fun i hi => ?_, hb.trans ((hb1.trans (hb2.mono hb1.size)).mono hb0)⟩
        rcases Nat.lt_succ_iff_lt_or_eq.1 hi with hi | hi
        · exact HNO.out i hi
        · subst hi; rw [HNW.out]; simp
      case measure => simp [intOf]; omega
    | true =>
      rw [hnw] at hnm
      cases hin : inSet (ss.map bytesOf) (strN n) with
      | true =>
        rw [hin] at hhas
        have HIN := Lib.hid hin; clear hnw hin
        go_wp2_with (first
          | (go_at_call 55; refine hw.mono ?_; clear hw; rintro e w1 ⟨rfl, hb1⟩)
          | (go_at_call 15; refine (hnm _).mono ?_; clear hnm; rintro e w2 ⟨rfl, hb2⟩)
          | (go_at_call 36; refine (hhas _ (hb1.trans (hb2.mono hb1.size))).mono ?_; clear hhas; rintro e w3 ⟨rfl, rfl⟩))
        go_roundw
        case rel =>
          refine ⟨n + 1, by go_num, fun i hi => ?_, hb.trans ((hb1.trans (hb2.mono hb1.size)).mono hb0)⟩
          rcases Nat.lt_succ_iff_lt_or_eq.1 hi with hi | hi
          · exact HNO.out i hi
          · subst hi; rw [HIN.out]; simp
        case measure => simp [intOf]; omega
      | false =>
        rw [hin] at hhas
        have HIN := Lib.hid hin; have HNW := Lib.hid hnw; clear hnw hin
        go_wp2_with (first
          | (go_at_call 55; refine hw.mono ?_; clear hw; rintro e w1 ⟨rfl, hb1⟩)
          | (go_at_call 15; refine (hnm _).mono ?_; clear hnm; rintro e w2 ⟨rfl, hb2⟩)
          | (go_at_call 36; refine (hhas _ (hb1.trans (hb2.mono hb1.size))).mono ?_; clear hhas; rintro e w3 ⟨rfl, rfl⟩))
        go_ret
        exact ⟨n, rfl, ⟨⟨HNW.out, HIN.out⟩, HNO.out⟩, hb.trans ((hb1.trans (hb2.mono hb1.size)).mono hb0)⟩

end Go.Proofs.YtjmlaeofjjhfmaaGreat
/- short; name. -/
namespace Go.Proofs.YtjmlaeofjjhfmaaGreat
open Go.RowKit Go.Shelf Go.Maps

theorem short_take (l : List ByteArray) (k : Nat) (h : k < l.length) : (l.take (k + 1)).all (fun s => decide (s.size ≤ 30)) = ((l.take k).all (fun s => decide (s.size ≤ 30)) && decide ((l[k]).size ≤ 30)) := by
  rw [List.take_succ_eq_append_getElem h, List.all_append]; simp
theorem short_not (l : List ByteArray) (k : Nat) (h : k < l.length) (hk : k < 100) (hs : ¬ (l[k]).size ≤ 30) : shortB l = false := by
  unfold shortB
  have : (l.take 100).all (fun s => decide (s.size ≤ 30)) = false := by
    rw [List.all_eq_false]
    refine ⟨l[k], ?_, by simpa using hs⟩
    rw [List.mem_iff_getElem]
    exact ⟨k, by rw [List.length_take]; omega, by rw [List.getElem_take]⟩
  rw [this, Bool.false_and]

set_option maxRecDepth 10000 in
set_option maxHeartbeats 1000000 in
theorem short_any (v : Value) (ss : List ByteArray) (w : World) (h : StrsAt w.heap.size w v ss) :
    Calls Tryz.prog 13 #[v] w fun e w' => e = .returned (.bool (shortB ss)) ∧ w' = w := by
  obtain ⟨a, cap, rfl, hl, hz, _, hp⟩ := h
  go_enter Tryz.func13, Tryz.ntmps13
  go_wp2
  go_loop [3] (fun i => ∃ k : Nat, k ≤ ss.length ∧ k ≤ 100 ∧ i = .int .i64 k ∧ (ss.take k).all (fun s => decide (s.size ≤ 30)) = true) (fun i => ss.length - (intOf i).toNat)
  case atStart => exact ⟨0, by omega, by omega, rfl, rfl⟩
  case round =>
    obtain ⟨k, hk, hk2, rfl, hf⟩ := hrel
    have HF := Lib.hid hf; clear hf
    by_cases hlt : k < ss.length
    · by_cases hlt2 : k < 100
      · rcases hp with h0 | ⟨b, off, rfl, hb, hc⟩
        · subst h0; simp at hlt
        have hcell := hc k hlt
        have hT := Lib.hid (short_take ss k hlt)
        have hN := Lib.hid (short_not ss k hlt hlt2)
        obtain ⟨x, hx⟩ : ∃ x, x = ss[k] := ⟨_, rfl⟩
        rw [← hx] at hcell hT hN
        have i1 : ((k : Int) < (ss.length : Int)) := by omega
        have i2 : ((k : Int) < 100) := by omega
        clear hx hc hz
        by_cases h3 : x.size ≤ 30
        · have h3' : ¬ (30 < (x.size : Int)) := by omega
          go_wp2
          go_round
          case rel => exact ⟨k + 1, by omega, by omega, by go_num, by rw [hT.out, HF.out]; simpa using h3⟩
          case measure => simp [intOf]; omega
        · have h3' : (30 < (x.size : Int)) := by omega
          go_wp2
          go_ret
          exact ⟨by rw [hN.out h3]; rfl, rfl⟩
      · obtain rfl : k = 100 := by omega
        have hF : Hid (shortB ss = decide (ss.length ≤ 90)) := Lib.hid (by unfold shortB; rw [HF.out, Bool.true_and])
        have i1 : ((100 : Int) < (ss.length : Int)) := by omega
        go_wp2
        go_ret
        exact ⟨by rw [hF.out]; show Ending.returned (.bool (decide ((ss.length : Int) ≤ 90))) = _; congr 2; simp; omega, rfl⟩
    · obtain rfl : k = ss.length := by omega
      have hF : Hid (shortB ss = decide (ss.length ≤ 90)) := Lib.hid (by
        unfold shortB; have := HF.out; rw [List.take_length] at this; rw [List.take_of_length_le hk2, this, Bool.true_and])
      go_wp2
      go_ret
      exact ⟨by rw [hF.out]; show Ending.returned (.bool (decide ((ss.length : Int) ≤ 90))) = _; congr 2; simp; omega, rfl⟩

end Go.Proofs.YtjmlaeofjjhfmaaGreat
/- send. -/
namespace Go.Proofs.YtjmlaeofjjhfmaaGreat
open Go.RowKit Go.Shelf Go.Maps

theorem info36 : (Tryz.prog.info? 36).map (fun i => (i.zero, i.size, i.bytes)) = some (some (.agg #[.int .i64 0, .int .i64 0, .string ⟨#[]⟩, .slice none 0 0]), 4, 56) := by kernel_rfl
def nmC (s : ByteArray) : List Value := [.int .i64 2, .int .i64 0, .string s, .slice none 0 0]
def nmCs (ss : List ByteArray) : List Value := ss.flatMap nmC
theorem nmCs_take (ss : List ByteArray) (k : Nat) (h : k < ss.length) : nmCs (ss.take (k + 1)) = nmCs (ss.take k) ++ nmC ss[k] := by
  unfold nmCs; rw [List.take_succ_eq_append_getElem h, List.flatMap_append]; simp
theorem Tryz.results109 : Tryz.f109.results = #[.cell 4 33] := by kernel_rfl

theorem ownsRow_keep {w w' : World} {base e size n : Nat} {v : Value} {xs : List Value} {row : Option Nat} (h : w.ownsRow base e size v n xs) (g : w.grownBy w' row) (hne : ∀ b, v.ownBlock = some b → row ≠ some b) : w'.ownsRow base e size v n xs := by
  obtain ⟨h1, h2 | ⟨b, cap, cur, rfl, hb, hg, r⟩⟩ := h
  · exact ⟨h1, .inl h2⟩
  · exact ⟨h1, .inr ⟨b, cap, cur, rfl, hb, (g.block b (Array.getElem?_eq_some_iff.1 hg).1 (fun e => hne b rfl e.symm)).trans hg, r⟩⟩
theorem ownsRow_lowS {w : World} {a b e size n : Nat} {v : Value} {xs : List Value} (h : w.ownsRow a e size v n xs) (hb : b ≤ a) : w.ownsRow b e size v n xs := by
  obtain ⟨h1, h2 | ⟨g, cap, cur, h3, h4, r⟩⟩ := h
  · exact ⟨h1, .inl h2⟩
  · exact ⟨h1, .inr ⟨g, cap, cur, h3, by omega, r⟩⟩
theorem grownBy_setCellAt (W : World) (a : Addr) (v : Value) : W.grownBy (W.setCell a v) (some a.block) :=
  ⟨rfl, rfl, rfl, (KeepsWalks.setCell W _ v).size, fun k _ hk => Below.heap_setCell _ _ _ k (fun e => hk (by rw [e]))⟩

set_option maxRecDepth 10000 in
set_option maxHeartbeats 1000000 in
theorem send_any (s : ByteArray) (v : Value) (ss : List ByteArray) (w : World) (hs : s.size ≤ maxLen) (h : StrsAt w.heap.size w v ss) (hl : ss.length ≤ 1000) :
    Calls Tryz.prog 109 #[.string s, v] w fun e w' => ∃ r, e = .returned (.agg #[.int .i64 2, .string s, r, .slice none 0 0, .slice none 0 0]) ∧ w'.ownsRow w.heap.size 36 4 r ss.length (nmCs ss) ∧ Below w.heap.size w w' := by
  obtain ⟨i0, hi, hz0, hz1, hz2⟩ := info_parts info36
  obtain ⟨a, cap, rfl, _, hz, _, hp⟩ := h
  obtain ⟨W0, hW0⟩ : ∃ W0, W0 = ((w.alloc (.cells #[.int .i64 0, .string ⟨#[]⟩, .slice none 0 0, .slice none 0 0, .slice none 0 0] 33)).alloc (.cells #[.int .i64 2, .string s, .slice none 0 0, .slice none 0 0, .slice none 0 0] 33)) := ⟨_, rfl⟩
  have hb0 : Below w.heap.size w W0 := by rw [hW0]; exact ((Below.refl _ w).alloc (Nat.le_refl _) _).alloc (by simp) _
  have hz0' : W0.heap.size = w.heap.size + 2 := by rw [hW0]; simp
  have k4 : W0.heap[w.heap.size]? = some (.cells #[.int .i64 0, .string ⟨#[]⟩, .slice none 0 0, .slice none 0 0, .slice none 0 0] 33) := by
    rw [hW0, Below.heap_alloc _ _ _ (by simp)]; exact World.alloc_heap_new w _
  have k5 : W0.heap[w.heap.size + 1]? = some (.cells #[.int .i64 2, .string s, .slice none 0 0, .slice none 0 0, .slice none 0 0] 33) := by
    rw [hW0]; have := World.alloc_heap_new (w.alloc (.cells #[.int .i64 0, .string ⟨#[]⟩, .slice none 0 0, .slice none 0 0, .slice none 0 0] 33)) (.cells #[.int .i64 2, .string s, .slice none 0 0, .slice none 0 0, .slice none 0 0] 33); rwa [World.size_alloc] at this
  have HW := Lib.hid hW0
  go_enter Tryz.func109, Tryz.ntmps109
  go_wp2_with fail
  rw [← HW.out]
  clear hW0
  go_loopw [6] (fun i wr => ∃ (k : Nat) (r : Value), k ≤ ss.length ∧ i = .int .i64 k ∧ wr.heap[w.heap.size]? = some (.cells #[.int .i64 0, .string ⟨#[]⟩, .slice none 0 0, .slice none 0 0, .slice none 0 0] 33) ∧
    wr.heap[w.heap.size + 1]? = some (.cells #[.int .i64 2, .string s, r, .slice none 0 0, .slice none 0 0] 33) ∧ wr.ownsRow (w.heap.size + 2) 36 4 r k (nmCs (ss.take k)) ∧ Below w.heap.size w wr) (fun i _ => ss.length - (intOf i).toNat)
  case atStart => exact ⟨0, _, by omega, rfl, k4, k5, World.ownsRow_nil _ _ _ _, hb0⟩
  case round =>
    obtain ⟨k, r, hk, rfl, q4, q5, hown, hb⟩ := hrel
    have hz5 := (Array.getElem?_eq_some_iff.1 q5).1
    by_cases hlt : k < ss.length
    · rcases hp with h0 | ⟨b, off, rfl, hbb, hc⟩
      · subst h0; simp at hlt
      have htk := Lib.hid (nmCs_take ss k hlt)
      have ck := (hb.cell (p := ⟨b, off + k, none⟩) hbb).trans (hc k hlt)
      obtain ⟨x, hx⟩ : ∃ x, x = ss[k] := ⟨_, rfl⟩
      rw [← hx] at ck htk
      obtain ⟨T, hT⟩ : ∃ T, T = nmCs (ss.take k) := ⟨_, rfl⟩
      rw [← hT] at hown htk
      obtain ⟨Q, hQ⟩ : ∃ Q : World → Prop, Q = fun W => Below wr.heap.size wr W := ⟨_, rfl⟩
      have cbox : ∀ W, Below wr.heap.size wr W → W.cell? ⟨w.heap.size + 1, 2, none⟩ = some r := fun W hW => by
        have := (hW.block (w.heap.size + 1) hz5).trans q5
        simp [World.cell?, this]
      have hnm : ∀ W, Q W → Calls Tryz.prog 51 #[.string x] W fun e w' => e = .returned (.agg #[.int .i64 2, .int .i64 0, .string x, .slice none 0 0]) ∧ Q w' ∧ w'.cell? ⟨w.heap.size + 1, 2, none⟩ = some r ∧
          (w'.alloc (.cells #[.int .i64 2, .int .i64 0, .string x, .slice none 0 0] 36)).cell? ⟨w.heap.size + 1, 2, none⟩ = some r := fun W hW => by
        rw [hQ] at hW
        refine (name51_any x W).mono fun e w' ⟨h1, h2⟩ => ?_
        have h3 : Below wr.heap.size wr w' := hW.trans (h2.mono hW.size)
        exact ⟨h1, by rw [hQ]; exact h3, cbox _ h3, cbox _ (h3.alloc h3.size _)⟩
      have hj : ∀ W, Q W → ∃ g cp w' v', v' = .slice (some ⟨g, 0, none⟩) (k + 1) cp ∧ (Builtin.append_ #[29, 29] 29 #[r, .slice (some ⟨W.heap.size, 0, none⟩) 1 1]).run Tryz.prog (W.alloc (.cells #[.int .i64 2, .int .i64 0, .string x, .slice none 0 0] 36)) = .ok v' w' ∧
          w'.cell? ⟨w.heap.size + 1, 2, none⟩ = some r ∧ w'.frozen? ⟨w.heap.size + 1, 2, none⟩ = false ∧
          (w'.setCell ⟨w.heap.size + 1, 2, none⟩ v').heap[w.heap.size]? = some (.cells #[.int .i64 0, .string ⟨#[]⟩, .slice none 0 0, .slice none 0 0, .slice none 0 0] 33) ∧
          (w'.setCell ⟨w.heap.size + 1, 2, none⟩ v').heap[w.heap.size + 1]? = some (.cells #[.int .i64 2, .string s, v', .slice none 0 0, .slice none 0 0] 33) ∧
          (w'.setCell ⟨w.heap.size + 1, 2, none⟩ v').ownsRow (w.heap.size + 2) 36 4 v' (k + 1) (T ++ nmC x) ∧ Below w.heap.size w (w'.setCell ⟨w.heap.size + 1, 2, none⟩ v') := by
        intro W hW
        rw [hQ] at hW
        have hA : Below wr.heap.size wr (W.alloc (.cells #[.int .i64 2, .int .i64 0, .string x, .slice none 0 0] 36)) := hW.alloc hW.size _
        have hoA := ownsRow_keep hown (grown_of_below hA) (fun g _ e => by cases e)
        have hsz := hW.size
        obtain ⟨v', w', hr, h1, h2, _, _⟩ := run_append_own_at (P := Tryz.prog) (W.alloc (.cells #[.int .i64 2, .int .i64 0, .string x, .slice none 0 0] 36)) (w.heap.size + 2) 29 29 36 i0 (.agg #[.int .i64 0, .int .i64 0, .string ⟨#[]⟩, .slice none 0 0]) 4 56 Tryz.underlying29 hi hz0 hz1 hz2 rfl (by decide) r k T hoA
          ⟨W.heap.size, 0, none⟩ 1 1 (nmC x) rfl (by
            intro j u hj
            have e : (⟨W.heap.size, 0, none⟩ : Addr).add j = ⟨W.heap.size, j, none⟩ := by unfold Addr.add; by_cases h : j = 0 <;> simp [h]
            rw [e, World.cell?_alloc_at _ _ _ _ rfl]
            simpa [nmC] using hj) (by simp [nmC, Value.oneCell']) (by unfold maxLen; omega) (by omega) (by simp; omega)
        have hne : ∀ g, r.ownBlock = some g → w.heap.size + 2 ≤ g := fun g hg => (hoA.lt g hg).1
        have p4 : w'.heap[w.heap.size]? = some (.cells #[.int .i64 0, .string ⟨#[]⟩, .slice none 0 0, .slice none 0 0, .slice none 0 0] 33) :=
          (h2.block _ (by simp; omega) (fun e => by have := hne _ e.symm; omega)).trans ((hA.block _ (by omega)).trans q4)
        have p5 : w'.heap[w.heap.size + 1]? = some (.cells #[.int .i64 2, .string s, r, .slice none 0 0, .slice none 0 0] 33) :=
          (h2.block _ (by simp; omega) (fun e => by have := hne _ e.symm; omega)).trans ((hA.block _ hz5).trans q5)
        have hbw : Below w.heap.size w w' := (hb.trans (hA.mono hb.size)).grown h2 (by simp; omega) (fun g e => by have := hne g e; omega)
        obtain ⟨_, ⟨_, h0⟩ | ⟨g, cp, cur, hvf, _⟩⟩ := id h1
        · omega
        refine ⟨g, cp, w', v', hvf, hr, by simp [World.cell?, p5], by simp [World.frozen?, p5], ?_, ?_, ?_, hbw.setCell (by simp) _⟩
        · rw [Below.heap_setCell _ _ _ _ (by simp)]; exact p4
        · show (World.setCell w' ⟨w.heap.size + 1, 2, none⟩ v').heap[w.heap.size + 1]? = _
          simp [World.setCell, Array.getElem?_modify, p5]
        · refine ownsRow_keep h1 (grownBy_setCellAt w' ⟨w.heap.size + 1, 2, none⟩ v') (fun g hg e => ?_)
          have h9 := (h1.lt g hg).1
          have h8 := Option.some.inj e
          simp only at h8
          omega
      have HQ := Lib.hid hQ
      clear hQ hT hx hc hz
      have hq0 : Q wr.drew := by rw [HQ.out]; exact (Below.refl _ _).drew
      have cb0 : wr.drew.cell? ⟨w.heap.size + 1, 2, none⟩ = some r := cbox _ (Below.refl _ _).drew
      clear cbox
      go_wp2
      go_region_law (first
        | (revert hQ3; intro hQ3; obtain ⟨g, cp, w', _, rfl, hr, f1, f2, f3, f4, f5, f6⟩ := hj w3 hQ3; refine step_append_eq rfl (.tmp 16) (.tmp 22) 29 29 rfl rfl rfl hr ?_)
        | (go_simp; go_wp2_with (go_at_call 51; refine (hnm _ (by assumption)).mono ?_; rintro e w3 ⟨rfl, hQ3, hc3, hc4⟩)))
      all_goals
        have FA := Lib.hid f3; have FB := Lib.hid f4; have FC := Lib.hid f5; have FD := Lib.hid f6
        clear f1 f2 f3 f4 f5 f6 hr
        go_wp2
        go_roundw
        case rel => exact ⟨k + 1, _, by omega, by go_num, FA.out, FB.out, by rw [htk.out]; exact FC.out, FD.out⟩
        case measure => simp [intOf]; omega
    · obtain rfl : k = ss.length := by omega
      rw [List.take_length] at hown
      have hr : ∃ a' cp, r = .slice a' ss.length cp := by
        obtain ⟨_, ⟨rfl, h0⟩ | ⟨g, cp, cur, hvf, _⟩⟩ := hown
        · exact ⟨none, 0, by rw [h0]⟩
        · exact ⟨_, _, hvf⟩
      obtain ⟨a', cp, rfl⟩ := hr
      have c50 : wr.cell? ⟨w.heap.size + 1, 0, none⟩ = some (.int .i64 2) := by simp [World.cell?, q5]
      have c51 : wr.cell? ⟨w.heap.size + 1, 1, none⟩ = some (.string s) := by simp [World.cell?, q5]
      have c52 : wr.cell? ⟨w.heap.size + 1, 2, none⟩ = some (.slice a' ss.length cp) := by simp [World.cell?, q5]
      have c53 : wr.cell? ⟨w.heap.size + 1, 3, none⟩ = some (.slice none 0 0) := by simp [World.cell?, q5]
      have c54 : wr.cell? ⟨w.heap.size + 1, 4, none⟩ = some (.slice none 0 0) := by simp [World.cell?, q5]
      have c40 : wr.cell? ⟨w.heap.size, 0, none⟩ = some (.int .i64 0) := by simp [World.cell?, q4]
      have c41 : wr.cell? ⟨w.heap.size, 1, none⟩ = some (.string ⟨#[]⟩) := by simp [World.cell?, q4]
      have c42 : wr.cell? ⟨w.heap.size, 2, none⟩ = some (.slice none 0 0) := by simp [World.cell?, q4]
      have c43 : wr.cell? ⟨w.heap.size, 3, none⟩ = some (.slice none 0 0) := by simp [World.cell?, q4]
      have c44 : wr.cell? ⟨w.heap.size, 4, none⟩ = some (.slice none 0 0) := by simp [World.cell?, q4]
      have cf : ∀ o, wr.frozen? ⟨w.heap.size, o, none⟩ = false := fun o => by simp [World.frozen?, q4]
      have hset : ∀ (W : World) (o : Nat) (x : Value), W.ownsRow (w.heap.size + 2) 36 4 (.slice a' ss.length cp) ss.length (nmCs ss) → (W.setCell ⟨w.heap.size, o, none⟩ x).ownsRow (w.heap.size + 2) 36 4 (.slice a' ss.length cp) ss.length (nmCs ss) := fun W o x h =>
        ownsRow_keep h (grownBy_setCellAt W ⟨w.heap.size, o, none⟩ x) (fun g hg e => by
          have h9 := (h.lt g hg).1
          have h8 := Option.some.inj e
          simp only at h8
          omega)
      go_wp2
      simp [bodyPost, results, Tryz.results109, go_sem, c40, c41, c42, c43, c44]
      exact ⟨ownsRow_lowS (hset _ _ _ (hset _ _ _ (hset _ _ _ (hset _ _ _ (hset _ _ _ hown))))) (by omega), ((((hb.setCell (by simp) _).setCell (by simp) _).setCell (by simp) _).setCell (by simp) _).setCell (by simp) _⟩

end Go.Proofs.YtjmlaeofjjhfmaaGreat
