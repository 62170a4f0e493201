/- The reference's look at the Joins of a rule. -/
import Derived.Test.YtjmlaeofjjhfmaaGreatC40
import Derived.Test.YtjmlaeofjjhfmaaGreatC34
set_option linter.unusedVariables false
set_option linter.unusedSimpArgs false
namespace Go.Proofs.YtjmlaeofjjhfmaaGreat
open Go.RowKit Go.Maps

/-- Names, all different. -/
def good (ss : List ByteArray) : Prop := ss.all nameB = true ∧ (ss.map bytesOf).Nodup
theorem hasB_in (ss : List ByteArray) (s : ByteArray) : hasB ss s = inSet (ss.map bytesOf) (bytesOf s) := by
  unfold hasB inSet
  rw [List.any_map]
  congr 1
  funext x
  simp only [Function.comp, ByteArray.toList_eq]
  rfl
theorem good_nil : good [] := ⟨rfl, by simp⟩
theorem good_snoc {ss : List ByteArray} {x : ByteArray} : good (ss ++ [x]) ↔ good ss ∧ nameB x = true ∧ hasB ss x = false := by
  unfold good
  rw [List.all_append, List.map_append, List.nodup_append, hasB_in]
  simp only [List.all_cons, List.all_nil, Bool.and_true, Bool.and_eq_true, List.map_cons, List.map_nil, List.nodup_cons, List.not_mem_nil, not_false_eq_true, List.nodup_nil, and_self, true_and, List.mem_singleton, inSet, List.any_eq_false, beq_iff_eq]
  constructor
  · rintro ⟨⟨h1, h2⟩, h3, h4⟩
    exact ⟨⟨h1, h3⟩, h2, fun y hy => h4 y hy _ rfl⟩
  · rintro ⟨⟨h1, h3⟩, h2, h4⟩
    exact ⟨⟨h1, h2⟩, h3, fun y hy z hz => by subst hz; exact h4 y hy⟩
theorem good_prefix {a b : List ByteArray} (h : a <+: b) (hb : good b) : good a := by
  obtain ⟨c, rfl⟩ := h
  unfold good at *
  rw [List.all_append, List.map_append, List.nodup_append] at hb
  simp only [Bool.and_eq_true] at hb
  exact ⟨hb.1.1, hb.2.1⟩
theorem fold_addKey : ∀ (acc : List (List UInt8)) (L : List (List UInt8)), (L ++ acc).Nodup → ((acc.map Lit.string).foldl addKey (L.map Lit.string)) = (L ++ acc).map Lit.string := by
  intro acc
  induction acc with
  | nil => intro L _; simp
  | cons x acc ih =>
    intro L h
    have hx : (L.map Lit.string).any (fun y => y.sameKey (Lit.string x)) = false := by
      rw [List.any_eq_false]
      intro y hy
      obtain ⟨z, hz, rfl⟩ := List.mem_map.1 hy
      rw [List.nodup_append] at h
      have := h.2.2 z hz x (List.mem_cons_self ..)
      simp [Lit.sameKey]
      exact this
    have e : L ++ x :: acc = (L ++ [x]) ++ acc := by simp
    rw [List.map_cons, List.foldl_cons]
    rw [show addKey (L.map Lit.string) (Lit.string x) = (L ++ [x]).map Lit.string by unfold addKey; rw [hx]; simp]
    rw [ih (L ++ [x]) (by rw [← e]; exact h), e]
theorem fold_le : ∀ (acc : List Lit) (L : List Lit), (acc.foldl addKey L).length ≤ L.length + acc.length := by
  intro acc
  induction acc with
  | nil => intro L; simp
  | cons x acc ih =>
    intro L
    rw [List.foldl_cons]
    have h1 := ih (addKey L x)
    have h2 : (addKey L x).length ≤ L.length + 1 := by unfold addKey; split <;> simp
    simp; omega
theorem fold_lt : ∀ (acc : List (List UInt8)) (L : List (List UInt8)), L.Nodup → ¬ (L ++ acc).Nodup → ((acc.map Lit.string).foldl addKey (L.map Lit.string)).length < L.length + acc.length := by
  intro acc
  induction acc with
  | nil => intro L hL h; simp at h; exact absurd hL h
  | cons x acc ih =>
    intro L hL h
    rw [List.map_cons, List.foldl_cons]
    by_cases hx : x ∈ L
    · have : addKey (L.map Lit.string) (Lit.string x) = L.map Lit.string := by
        unfold addKey
        rw [if_pos]
        rw [List.any_eq_true]
        exact ⟨Lit.string x, List.mem_map.2 ⟨x, hx, rfl⟩, by simp [Lit.sameKey]⟩
      rw [this]
      have := fold_le (acc.map Lit.string) (L.map Lit.string)
      simp at this ⊢; omega
    · have e : L ++ x :: acc = (L ++ [x]) ++ acc := by simp
      have h1 : addKey (L.map Lit.string) (Lit.string x) = (L ++ [x]).map Lit.string := by
        have := fold_addKey [x] L (by rw [List.nodup_append]; exact ⟨hL, by simp, fun y hy z hz => by simp at hz; subst hz; rintro rfl; exact hx hy⟩)
        simpa using this
      rw [h1]
      have := ih (L ++ [x]) (by rw [List.nodup_append]; exact ⟨hL, by simp, fun y hy z hz => by simp at hz; subst hz; rintro rfl; exact hx hy⟩) (by rw [← e]; exact h)
      simp at this ⊢; omega
theorem differ_good (ss : List ByteArray) : differB ss = true ↔ good ss := by
  unfold differB good
  rw [Bool.and_eq_true, decide_eq_true_eq]
  have key : dcount (ss.map bytesOf) = ss.length ↔ (ss.map bytesOf).Nodup := by
    unfold dcount
    by_cases h : (ss.map bytesOf).Nodup
    · have := fold_addKey (ss.map bytesOf) [] (by simpa using h)
      simp only [List.map_nil, List.nil_append] at this
      rw [this]; simp [h]
    · have := fold_lt (ss.map bytesOf) [] (by simp) (by simpa using h)
      simp only [List.map_nil, List.length_nil, List.length_map, Nat.zero_add] at this
      constructor
      · intro e; omega
      · intro e; exact absurd e h
  rw [key]

def goodJ (js : List Msg) : Prop := good (js.map (·.text)) ∧ good (js.flatMap (·.names)) ∧ ∀ j ∈ js, j.names.length ≤ 3
theorem joinedB_iff (js : List Msg) : joinedB js = true ↔ 1 ≤ js.length ∧ js.length ≤ 3 ∧ goodJ js := by
  unfold joinedB goodJ
  rw [Bool.and_eq_true, Bool.and_eq_true, Bool.and_eq_true, Bool.and_eq_true, differ_good, differ_good, List.all_eq_true]
  simp only [decide_eq_true_eq]
  constructor
  · rintro ⟨⟨⟨⟨h1, h2⟩, h3⟩, h4⟩, h5⟩; exact ⟨h1, h2, h4, h5, h3⟩
  · rintro ⟨h1, h2, h4, h5, h3⟩; exact ⟨⟨⟨⟨h1, h2⟩, h3⟩, h4⟩, h5⟩
theorem goodJ_prefix {a b : List Msg} (h : a <+: b) (hb : goodJ b) : goodJ a := by
  obtain ⟨c, rfl⟩ := h
  obtain ⟨h1, h2, h3⟩ := hb
  refine ⟨good_prefix ⟨c.map (·.text), by simp⟩ h1, good_prefix ⟨c.flatMap (·.names), by simp⟩ h2, fun j hj => h3 j (by simp [hj])⟩
theorem goodJ_nil : goodJ [] := ⟨good_nil, good_nil, by simp⟩
theorem goodJ_snoc {js : List Msg} {x : Msg} : goodJ (js ++ [x]) ↔ goodJ js ∧ (nameB x.text = true ∧ hasB (js.map (·.text)) x.text = false) ∧ x.names.length ≤ 3 ∧ good (js.flatMap (·.names) ++ x.names) := by
  unfold goodJ
  have e1 : (js ++ [x]).map (·.text) = js.map (·.text) ++ [x.text] := by simp
  have e2 : (js ++ [x]).flatMap (·.names) = js.flatMap (·.names) ++ x.names := by simp
  rw [e1, e2, good_snoc]
  constructor
  · rintro ⟨⟨h1, h2⟩, h3, h4⟩
    exact ⟨⟨h1, good_prefix ⟨x.names, rfl⟩ h3, fun j hj => h4 j (by simp [hj])⟩, h2, h4 x (by simp), h3⟩
  · rintro ⟨⟨h1, _, h5⟩, h2, h4, h3⟩
    exact ⟨⟨h1, h2⟩, h3, fun j hj => by
      rcases List.mem_append.1 hj with hj | hj
      · exact h5 j hj
      · simp at hj; subst hj; exact h4⟩

theorem Away.symm {v v' : Value} (h : Away v v') : Away v' v := fun g hg e => h g e hg

set_option maxRecDepth 10000 in
set_option maxHeartbeats 4000000 in
theorem rjoins_any (a : Option Addr) (cap : Nat) (js : List Msg) (B : Nat) (u w : World) (hu : KeptC B u w) (hBs : B ≤ w.heap.size) (hj : js.length = 0 ∨ ∃ b off, a = some ⟨b, off, none⟩ ∧ b < B ∧ MsgsAt B u b off js) (hjl : js.length ≤ 9223372036854775807) :
    Calls Tryz.prog 156 #[.slice a js.length cap] w fun e w' => e = .returned (.bool (joinedB js)) ∧ Below w.heap.size w w' := by
  by_cases h12 : 1 ≤ js.length ∧ js.length ≤ 3
  case neg =>
    have hF : Hid (joinedB js = false) := Lib.hid (by
      rw [Bool.eq_false_iff]; intro h; exact h12 ⟨((joinedB_iff js).1 h).1, ((joinedB_iff js).1 h).2.1⟩)
    obtain ⟨n, hn⟩ : ∃ n, n = js.length := ⟨_, rfl⟩
    rw [← hn] at h12 hjl ⊢
    rw [hF.out]
    clear hn hj hF
    go_enter Tryz.func156, Tryz.ntmps156
    by_cases h0 : n < 1
    · obtain rfl : n = 0 := by omega
      go_wp2
      go_ret
      exact ⟨rfl, Below.refl _ _⟩
    · have h3 : 3 < n := by omega
      have h1 : 1 ≤ n := by omega
      go_wp2
      go_ret
      exact ⟨rfl, Below.refl _ _⟩
  obtain ⟨h1, h2⟩ := h12
  obtain ⟨i0, hi, hz0, hz1, hz2⟩ := info_parts info9
  have hbad : ¬ goodJ js → joinedB js = false := fun h => by rw [Bool.eq_false_iff]; intro h'; exact h ((joinedB_iff js).1 h').2.2
  have hyes : goodJ js → joinedB js = true := fun h => (joinedB_iff js).2 ⟨h1, h2, h⟩
  have HBAD := Lib.hid hbad; have HYES := Lib.hid hyes; clear hbad hyes
  go_enter Tryz.func156, Tryz.ntmps156
  go_wp2
  go_loopw [3, 4, 5] (fun v3 v4 i wr => ∃ (k : Nat), k ≤ js.length ∧ i = .int .i64 k ∧ Below w.heap.size w wr ∧ wr.ownsRow w.heap.size 9 1 v3 k (strVals ((js.take k).map (·.text))) ∧
      wr.ownsRow w.heap.size 9 1 v4 ((js.take k).flatMap (·.names)).length (strVals ((js.take k).flatMap (·.names))) ∧ Away v3 v4 ∧ Hid (goodJ (js.take k)) ∧ Hid (((js.take k).flatMap (·.names)).length ≤ 3 * k)) (fun _ _ i _ => js.length - (intOf i).toNat)
  case atStart => exact ⟨0, by omega, rfl, Below.refl _ _, World.ownsRow_nil _ _ _ _, World.ownsRow_nil _ _ _ _, (fun g e => by cases e), Lib.hid goodJ_nil, Lib.hid (by simp)⟩
  case round =>
    obtain ⟨k, hk', rfl, hB, ho3, ho4, haw, hgd, hlen⟩ := hrel
    have hsz := hB.size
    by_cases hlt : k < js.length
    · rcases hj with h0 | ⟨b, off, rfl, hb, hms⟩
      · omega
      obtain ⟨cs, hcs, hz1', nv, rfl, hns⟩ := hms.get js b off k hlt
      have hcW : ∀ W, Below w.heap.size w W → CellsAt W b (off + k * 2) [.string (js[k]).text, nv] := fun W hW => (hcs.keep hu hb).below hW (by omega)
      have hst := (hns.keep hu).mono hBs |>.below hB
      have hstW : ∀ W, Below w.heap.size w W → StrsAt w.heap.size W nv (js[k]).names := fun W hW => (hns.keep hu).mono hBs |>.below hW
      have hsn : goodJ (js.take (k + 1)) ↔ goodJ (js.take k) ∧ (nameB (js[k]).text = true ∧ hasB ((js.take k).map (·.text)) (js[k]).text = false) ∧ (js[k]).names.length ≤ 3 ∧ good ((js.take k).flatMap (·.names) ++ (js[k]).names) := by
        rw [List.take_succ_eq_append_getElem hlt]; exact goodJ_snoc
      have hbk : ¬ goodJ (js.take (k + 1)) → joinedB js = false := fun h => HBAD.out (fun hg => h (goodJ_prefix (List.take_prefix _ _) hg))
      have e3 := Lib.hid (show (js.take (k + 1)).map (·.text) = (js.take k).map (·.text) ++ [(js[k]).text] by rw [List.take_succ_eq_append_getElem hlt, List.map_append]; rfl)
      have e4 := Lib.hid (show (js.take (k + 1)).flatMap (·.names) = (js.take k).flatMap (·.names) ++ (js[k]).names by rw [List.take_succ_eq_append_getElem hlt, List.flatMap_append]; simp)
      have hzt : ∀ s ∈ (js.take k).map (·.text), s.size ≤ maxLen := by
        intro s hs; obtain ⟨j, hj', rfl⟩ := List.mem_map.1 hs
        obtain ⟨i, hi', rfl⟩ := List.getElem_of_mem (List.mem_of_mem_take hj')
        obtain ⟨cs, hcs, hz1', _⟩ := hms.get js b off i hi'
        exact hz1'
      have hzn : ∀ s ∈ (js.take k).flatMap (·.names), s.size ≤ maxLen := by
        intro s hs; obtain ⟨j, hj', hsj⟩ := List.mem_flatMap.1 hs
        obtain ⟨i, hi', rfl⟩ := List.getElem_of_mem (List.mem_of_mem_take hj')
        obtain ⟨cs, hcs, hz1', nv, _, hns⟩ := hms.get js b off i hi'
        obtain ⟨_, _, _, _, hnz, _⟩ := hns
        exact hnz s hsj
      obtain ⟨jt, hjt⟩ : ∃ x, x = (js[k]).text := ⟨_, rfl⟩
      obtain ⟨jn, hjn⟩ : ∃ x, x = (js[k]).names := ⟨_, rfl⟩
      obtain ⟨T, hT⟩ : ∃ x, x = (js.take k).map (·.text) := ⟨_, rfl⟩
      obtain ⟨N, hN⟩ : ∃ x, x = (js.take k).flatMap (·.names) := ⟨_, rfl⟩
      rw [← hjt] at hz1' hcW hsn e3; rw [← hjn] at hst hstW hsn e4; rw [← hT] at hsn e3 hzt ho3; rw [← hN] at hsn e4 hzn ho4 hlen
      have HSN := Lib.hid hsn; have HBK := Lib.hid hbk; have HCW := Lib.hid hcW; have HSTW := Lib.hid hstW
      have hTl : T.length = k := by rw [hT, List.length_map, List.length_take]; omega
      have HTL := Lib.hid hTl
      have HGN := Lib.hid (show good N by rw [hN]; exact hgd.out.2.1)
      clear hjt hjn hT hN hsn hbk hcW hstW hcs hns hms hTl
      obtain ⟨na, nc, rfl, hnl, hnz, hncap, hncells⟩ := hst
      have hR := refName_any jt wr hz1'
      rw [names_same'] at hR
      have hst3 : StrsAt wr.heap.size wr u3 T := strs_of_owns (by rw [HTL.out]; exact ho3) hzt
      obtain ⟨c0, c1⟩ := cells2 (HCW.out wr hB)
      cases hn : nameB jt with
      | false =>
        rw [hn] at hR
        have hF := Lib.hid (HBK.out (fun h => by have := ((HSN.out.1 h).2.1).1; rw [hn] at this; cases this))
        clear hn
        go_wp2_with (go_at_call 15; refine hR.mono ?_; clear hR; rintro e w1 ⟨rfl, hb1⟩)
        go_ret
        exact ⟨ret_bool hF.out.symm, hB.trans (hb1.mono hsz)⟩
      | true =>
      rw [hn] at hR
      have hH := fun w1 (hb1 : Below wr.heap.size wr w1) => has_any wr.heap.size u3 T jt w1 (hst3.below hb1)
      cases hh : hasB T jt with
      | true =>
        rw [hh] at hH
        have hF := Lib.hid (HBK.out (fun h => by have := ((HSN.out.1 h).2.1).2; rw [hh] at this; cases this))
        clear hn hh
        go_wp2_with (first
          | (go_at_call 15; refine hR.mono ?_; clear hR; rintro e w1 ⟨rfl, hb1⟩; obtain ⟨d0, d1⟩ := cells2 (HCW.out w1 (hB.trans (hb1.mono hsz))))
          | (go_at_call 36; refine (hH _ hb1).mono ?_; clear hH; rintro e w2 ⟨rfl, rfl⟩))
        go_ret
        exact ⟨ret_bool hF.out.symm, hB.trans (hb1.mono hsz)⟩
      | false =>
      rw [hh] at hH
      by_cases hn3 : jn.length ≤ 3
      case neg =>
        have hn3' : 3 < jn.length := by omega
        have hF := Lib.hid (HBK.out (fun h => hn3 (HSN.out.1 h).2.2.1))
        clear hn hh hn3
        go_wp2_with (first
          | (go_at_call 15; refine hR.mono ?_; clear hR; rintro e w1 ⟨rfl, hb1⟩; obtain ⟨d0, d1⟩ := cells2 (HCW.out w1 (hB.trans (hb1.mono hsz))))
          | (go_at_call 36; refine (hH _ hb1).mono ?_; clear hH; rintro e w2 ⟨rfl, rfl⟩))
        go_ret
        exact ⟨ret_bool hF.out.symm, hB.trans (hb1.mono hsz)⟩
      have HNB := Lib.hid hn; have HHB := Lib.hid hh
      clear hn hh
      have l3 := Lib.hid ho3.lt; have l4 := Lib.hid ho4.lt
      have hNl : N.length ≤ 9 := by have := hlen.out; omega
      go_wp2_with (first
        | (go_at_call 15; refine hR.mono ?_; clear hR; rintro e w1 ⟨rfl, hb1⟩; obtain ⟨d0, d1⟩ := cells2 (HCW.out w1 (hB.trans (hb1.mono hsz))); have o3 := ownsRow_kept ho3 (grown_of_below hb1) (fun g _ e => by cases e); have o4 := ownsRow_kept ho4 (grown_of_below hb1) (fun g _ e => by cases e); have hz1s := hb1.size)
        | (go_at_call 36; refine (hH _ hb1).mono ?_; clear hH; rintro e w2 ⟨rfl, rfl⟩)
        | (show wpList _ _ _ (⟨some 53, _, _, _, _, _⟩ :: _) _ _; refine wpList_append_own_at _ rfl (.tmp 46) (.tmp 52) 22 rfl w.heap.size 9 i0 (.string ⟨#[]⟩) 1 16 Tryz.underlying22 hi hz0 hz1 hz2 rfl (by decide) _ _ _ rfl (o3.alloc _) ⟨w2.heap.size, 0, none⟩ 1 1 [.string jt] rfl rfl (cell_one_at _ _ _ _ rfl) (by simp [Value.oneCell']) (by unfold maxLen; omega) (by omega) (by simp; omega) ?_; intro v3' w3 o3' g3 _ p3))
      have q3 := o3.lt
      have o4' := ownsRow_kept (o4.alloc (.cells #[.string jt] 9)) g3 (fun g hg e => haw g e hg)
      have B2 : Below w.heap.size w w2 := hB.trans (hb1.mono hsz)
      have B3 : Below w.heap.size w w3 := (B2.alloc B2.size _).grown g3 (by simp; omega) (fun r e => (q3 r e).1)
      have z3 := g3.size
      simp at z3
      have haw' : Away v3' u4 := by
        intro g hg e
        have r4 := (l4.out g e).2
        rcases (show v3'.ownBlock = u3.ownBlock ∨ v3'.ownBlock = some (w2.heap.size + 1) from p3.imp id (fun h => by simpa using h)) with p3 | p3
        · exact haw g (by rw [← p3]; exact hg) e
        · rw [p3] at hg; simp at hg; omega
      go_loopw [4, 6] (fun v4 i wq => ∃ (m : Nat), m ≤ jn.length ∧ i = .int .i64 m ∧ Below w.heap.size w wq ∧ wq.ownsRow w.heap.size 9 1 v3' (k + 1) (strVals T ++ [.string jt]) ∧
          wq.ownsRow w.heap.size 9 1 v4 (N.length + m) (strVals (N ++ jn.take m)) ∧ Away v3' v4 ∧ Hid (good (N ++ jn.take m))) (fun _ i _ => jn.length - (intOf i).toNat)
      case atStart => exact ⟨0, by omega, rfl, B3, o3', by simpa using o4', haw', Lib.hid (by simpa using HGN.out)⟩
      case round =>
        obtain ⟨m, hm', rfl, hBq, hq3, hq4, hqa, hgq⟩ := hrel
        have hszq := hBq.size
        obtain ⟨e0, e1⟩ := cells2 (HCW.out wr hBq)
        by_cases hltm : m < jn.length
        · obtain ⟨na', nc', en, _, _, _, hnc⟩ := HSTW.out wr hBq
          cases en
          rcases hnc with h00 | ⟨nb, noff, rfl, hnb, hnc⟩
          · subst h00; simp at hltm
          have hxc := hnc m hltm
          have hxz := hnz jn[m] (List.getElem_mem hltm)
          have etk := Lib.hid (show N ++ jn.take (m + 1) = (N ++ jn.take m) ++ [jn[m]] by rw [List.take_succ_eq_append_getElem hltm, List.append_assoc])
          have hpre : N ++ jn.take (m + 1) <+: N ++ jn := by
            rw [List.prefix_append_right_inj]; exact List.take_prefix _ _
          have hgs : good (N ++ jn.take (m + 1)) ↔ good (N ++ jn.take m) ∧ nameB jn[m] = true ∧ hasB (N ++ jn.take m) jn[m] = false := by rw [etk.out]; exact good_snoc
          have hnot : ¬ good (N ++ jn.take (m + 1)) → joinedB js = false := fun h => HBK.out (fun hg => h (good_prefix hpre (HSN.out.1 hg).2.2.2))
          have hszs : ∀ s ∈ N ++ jn.take m, s.size ≤ maxLen := fun s hs => by
            rcases List.mem_append.1 hs with hs | hs
            · exact hzn s hs
            · exact hnz s (List.mem_of_mem_take hs)
          have hlN : (N ++ jn.take m).length = N.length + m := by rw [List.length_append, List.length_take]; omega
          have hst4 : StrsAt wr.heap.size wr u4 (N ++ jn.take m) := strs_of_owns (by rw [hlN]; exact hq4) hszs
          obtain ⟨x, hx⟩ : ∃ x, x = jn[m] := ⟨_, rfl⟩
          obtain ⟨M, hM⟩ : ∃ M, M = N ++ jn.take m := ⟨_, rfl⟩
          rw [← hx] at hxc hxz etk hgs
          rw [← hM] at etk hgs hq4 hst4 hgq hlN
          have HGS := Lib.hid hgs; have HNOT := Lib.hid hnot; have HLN := Lib.hid hlN
          clear hx hM hgs hnot hpre hszs hnc hlN
          have hR2 := refName_any x wr hxz
          rw [names_same'] at hR2
          have hnbB : ∀ W, Below wr.heap.size wr W → W.cell? ⟨nb, noff + m, none⟩ = some (.string x) := fun W hW => (hW.cell (p := ⟨nb, noff + m, none⟩) (Nat.lt_of_lt_of_le hnb hszq)).trans hxc
          have HNB2 := Lib.hid hnbB; clear hnbB
          cases hn2 : nameB x with
          | false =>
            rw [hn2] at hR2
            have hF := Lib.hid (HNOT.out (fun h => by have := (HGS.out.1 h).2.1; rw [hn2] at this; cases this))
            clear hn2
            go_wp2_with (go_at_call 15; refine hR2.mono ?_; clear hR2; rintro e w5 ⟨rfl, hb5⟩)
            go_ret
            exact ⟨ret_bool hF.out.symm, hBq.trans (hb5.mono hszq)⟩
          | true =>
          rw [hn2] at hR2
          have hH2 := fun w5 (hb5 : Below wr.heap.size wr w5) => has_any wr.heap.size u4 M x w5 (hst4.below hb5)
          cases hh2 : hasB M x with
          | true =>
            rw [hh2] at hH2
            have hF := Lib.hid (HNOT.out (fun h => by have := (HGS.out.1 h).2.2; rw [hh2] at this; cases this))
            clear hn2 hh2
            go_wp2_with (first
              | (go_at_call 15; refine hR2.mono ?_; clear hR2; rintro e w5 ⟨rfl, hb5⟩; obtain ⟨d0, d1⟩ := cells2 (HCW.out w5 (hBq.trans (hb5.mono hszq))); have d2 := HNB2.out w5 hb5)
              | (go_at_call 36; refine (hH2 _ hb5).mono ?_; clear hH2; rintro e w6 ⟨rfl, rfl⟩))
            go_ret
            exact ⟨ret_bool hF.out.symm, hBq.trans (hb5.mono hszq)⟩
          | false =>
          rw [hh2] at hH2
          have HG2 := Lib.hid (HGS.out.2 ⟨hgq.out, hn2, hh2⟩)
          clear hn2 hh2
          have q4 := Lib.hid hq4.lt; have q3 := Lib.hid hq3.lt
          go_wp2_with (first
            | (go_at_call 15; refine hR2.mono ?_; clear hR2; rintro e w5 ⟨rfl, hb5⟩; obtain ⟨d0, d1⟩ := cells2 (HCW.out w5 (hBq.trans (hb5.mono hszq))); have d2 := HNB2.out w5 hb5; have r3 := ownsRow_kept hq3 (grown_of_below hb5) (fun g _ e => by cases e); have r4 := ownsRow_kept hq4 (grown_of_below hb5) (fun g _ e => by cases e); have z5 := hb5.size)
            | (go_at_call 36; refine (hH2 _ hb5).mono ?_; clear hH2; rintro e w6 ⟨rfl, rfl⟩)
            | (show wpList _ _ _ (⟨some 96, _, _, _, _, _⟩ :: _) _ _; refine wpList_append_own_at _ rfl (.tmp 86) (.tmp 95) 22 rfl w.heap.size 9 i0 (.string ⟨#[]⟩) 1 16 Tryz.underlying22 hi hz0 hz1 hz2 rfl (by decide) _ _ _ rfl (r4.alloc _) ⟨w6.heap.size, 0, none⟩ 1 1 [.string x] rfl rfl (cell_one_at _ _ _ _ rfl) (by simp [Value.oneCell']) (by unfold maxLen; omega) (by omega) (by simp; omega) ?_; intro v4' w7 r4' g7 _ p4))
          have r3' := ownsRow_kept (r3.alloc (.cells #[.string x] 9)) g7 (fun g hg e => hqa g hg e)
          have B6 : Below w.heap.size w w6 := hBq.trans (hb5.mono hszq)
          have qq := r4.lt
          have B7 : Below w.heap.size w w7 := (B6.alloc B6.size _).grown g7 (by simp; omega) (fun r e => (qq r e).1)
          have hqa' : Away v3' v4' := by
            intro g hg e
            have := (q3.out g hg).2
            rcases (show v4'.ownBlock = u4.ownBlock ∨ v4'.ownBlock = some (w6.heap.size + 1) from p4.imp id (fun h => by simpa using h)) with p4 | p4
            · exact hqa g hg (by rw [← p4]; exact e)
            · rw [p4] at e; simp at e; omega
          go_roundw
          case rel => exact ⟨m + 1, by omega, by go_num, B7, r3', by rw [etk.out]; simp only [strVals, List.map_append]; exact r4', hqa', HG2⟩
          case measure => simp [intOf]; omega
        · obtain rfl : m = jn.length := by omega
          rw [List.take_length] at hq4 hgq
          have HF := Lib.hid (HSN.out.2 ⟨hgd.out, ⟨HNB.out, HHB.out⟩, hn3, hgq.out⟩)
          go_wp2
          go_roundw
          case rel => exact ⟨k + 1, by omega, by go_num, hBq, by rw [e3.out]; simp only [strVals, List.map_append]; exact hq3, by rw [e4.out, List.length_append]; exact hq4, hqa, HF, Lib.hid (by rw [e4.out, List.length_append]; have := hlen.out; omega)⟩
          case measure => simp [intOf]; omega
    · have hkl : k = js.length := by omega
      have hgf := hgd.out
      rw [hkl, List.take_length] at hgf
      have HF := Lib.hid (HYES.out hgf)
      clear hgf
      obtain rfl := hkl
      go_wp2
      go_ret
      exact ⟨ret_bool HF.out.symm, hB⟩

end Go.Proofs.YtjmlaeofjjhfmaaGreat
