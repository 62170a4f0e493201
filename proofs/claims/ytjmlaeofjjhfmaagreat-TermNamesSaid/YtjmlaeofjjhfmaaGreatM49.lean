/- What the first row of the layer's laws does, by contracts. -/
import Derived.Test.YtjmlaeofjjhfmaaGreatM48
import Derived.Test.YtjmlaeofjjhfmaaGreatM22
set_option linter.unusedVariables false
set_option linter.unusedSimpArgs false
namespace Go.Proofs.YtjmlaeofjjhfmaaGreat
open Go.RowKit Go.Shelf Go.Maps

theorem hasB_words (s : ByteArray) : hasB refWords s = inSet words s.data.toList := by
  unfold hasB inSet
  rw [show words = refWords.map bytesOf from rfl, List.any_map]
  congr 1
  funext x
  simp only [Function.comp, ByteArray.toList_eq]
  rw [show bytesOf x = x.data.toList from rfl]
  first | rfl | exact Bool.eq_iff_iff.2 (by simp [eq_comm]) | skip
theorem names_same (s : ByteArray) : refNameB s = nameB s := by unfold refNameB nameB; rw [hasB_words]

set_option maxRecDepth 10000 in
set_option maxHeartbeats 1000000 in
theorem row1_any (s : ByteArray) (v : Value) (ss : List ByteArray) (w : World) (hs : s.size ≤ maxLen) (h : StrsAt w.heap.size w v ss) :
    Calls Tryz.prog 3 #[.string s, v] w fun e w' => e = .returned (.bool true) ∧ Below w.heap.size w w' := by
  have hsh := short_any v ss w h
  have hk : ∀ W, Calls Tryz.prog 14 #[] W fun e w' => e = .returned (.bool true) ∧ Below W.heap.size W w' := known_any
  by_cases h30 : (30 : Int) < (s.size : Int)
  · go_enter Tryz.func3, Tryz.ntmps3
    go_wp2_with fail
    refine (hk _).mono ?_
    rintro e w1 ⟨rfl, b1⟩
    go_wp2_with fail
    go_ret
    exact ⟨rfl, b1⟩
  · have h30' : (s.size : Int) ≤ 30 := by omega
    cases hsb : shortB ss with
    | false =>
      rw [hsb] at hsh
      clear hsb
      go_enter Tryz.func3, Tryz.ntmps3
      go_wp2_with fail
      refine hsh.mono ?_
      rintro e w1 ⟨rfl, rfl⟩
      go_wp2_with fail
      refine (hk _).mono ?_
      rintro e w1 ⟨rfl, b1⟩
      go_wp2_with fail
      go_ret
      exact ⟨rfl, b1⟩
    | true =>
      have hlen : ss.length ≤ 90 := by unfold shortB at hsb; simp only [Bool.and_eq_true, decide_eq_true_eq] at hsb; exact hsb.2
      rw [hsb] at hsh
      clear hsb
      go_enter Tryz.func3, Tryz.ntmps3
      go_wp2_with fail
      refine hsh.mono ?_
      rintro e w1 ⟨rfl, rfl⟩
      go_wp2_with fail
      refine (refName_any s _ hs).mono ?_
      rintro e w2 ⟨rfl, b2⟩
      go_wp2_with fail
      refine (tname_any s _ hs).mono ?_
      rw [names_same]
      rintro e w3 ⟨rfl, b3⟩
      obtain ⟨nb, hnb⟩ : ∃ nb, nb = nameB s := ⟨_, rfl⟩
      rw [← hnb]
      clear hnb
      have z2 := b2.size
      have z3 := b3.size
      have b13 := b2.trans (b3.mono z2)
      cases nb
      all_goals
        go_wp2_with fail
        refine (rfresh_any v ss w3 (h.later b13) hlen).mono ?_
        rintro e w4 ⟨j, rfl, hj, b4⟩
        have b14 := b13.trans (b4.mono b13.size)
        go_wp2_with fail
        refine (fresh_any v ss w4 (h.later b14) hlen).mono ?_
        rintro e w5 ⟨j', rfl, hj', b5⟩
        obtain rfl : j' = j := hj'.unique hj
        have b15 := b14.trans (b5.mono b14.size)
        clear b2 b3 b13 b4 b14 b5 hj hj'
        obtain ⟨fr, hfr⟩ : ∃ fr, fr = mkB (strN j') := ⟨_, rfl⟩
        rw [← hfr]
        clear hfr
        go_wp2_with fail
        refine (hk _).mono ?_
        rintro e w6 ⟨rfl, b6⟩
        go_wp2_with fail
        go_ret
        exact ⟨rfl, b15.trans (b6.mono b15.size)⟩

end Go.Proofs.YtjmlaeofjjhfmaaGreat
