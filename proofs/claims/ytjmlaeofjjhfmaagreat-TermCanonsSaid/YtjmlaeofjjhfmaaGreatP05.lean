/- joined, shapedDefinition, shaped where they say true. -/
import Derived.Test.YtjmlaeofjjhfmaaGreatP04
import Derived.Laws.AppendOwnNone
set_option linter.unusedVariables false
set_option linter.unusedSimpArgs false
namespace Go.Proofs.YtjmlaeofjjhfmaaGreat
open Go.RowKit Go.Maps

theorem info9 : (Tryz.prog.info? 9).map (fun i => (i.zero, i.size, i.bytes)) = some (some (.string ⟨#[]⟩), 1, 16) := by kernel_rfl

def Away (v v' : Value) : Prop := ∀ g, v.ownBlock = some g → v'.ownBlock ≠ some g

def strVals (ss : List ByteArray) : List Value := ss.map Value.string

theorem ownsRow_kept {w w' : World} {base e n : Nat} {v : Value} {xs : List Value} {row : Option Nat} (h : w.ownsRow base e 1 v n xs) (hg : w.grownBy w' row) (hne : ∀ g, v.ownBlock = some g → row ≠ some g) : w'.ownsRow base e 1 v n xs := by
  obtain ⟨h1, h2 | ⟨g, cap, cur, rfl, hb, hg', r⟩⟩ := h
  · exact ⟨h1, .inl h2⟩
  · refine ⟨h1, .inr ⟨g, cap, cur, rfl, hb, ?_, r⟩⟩
    rw [hg.block g (Array.getElem?_eq_some_iff.1 hg').1 (by intro e; exact hne g rfl e.symm)]
    exact hg'

theorem strs_of_owns {w : World} {B : Nat} {v : Value} {ss : List ByteArray} (h : w.ownsRow B 9 1 v ss.length (strVals ss)) (hz : ∀ s ∈ ss, s.size ≤ maxLen) : StrsAt w.heap.size w v ss := by
  obtain ⟨_, ⟨rfl, h2⟩ | ⟨g, cap, cur, rfl, hBg, hg, hn, hm, hsz, htk⟩⟩ := h
  · exact ⟨none, 0, by rw [h2], by omega, hz, fun _ => rfl, .inl (List.eq_nil_of_length_eq_zero h2)⟩
  · refine ⟨_, cap, rfl, by unfold maxLen at hm; omega, hz, (by simp), .inr ⟨g, 0, rfl, (Array.getElem?_eq_some_iff.1 hg).1, fun j hj => ?_⟩⟩
    simp only [Nat.mul_one] at htk hsz
    have hj' : j < cur.size := by omega
    have e1 : cur[j] = .string ss[j] := by
      have : (strVals ss)[j]? = (cur.toList.take ss.length)[j]? := by rw [htk]
      rw [List.getElem?_take_of_lt hj] at this
      simp [strVals, hj, hj'] at this
      exact this.symm
    simp [World.cell?, hg, e1, hj']

def joinedB (js : List Msg) : Bool := decide (1 ≤ js.length) && decide (js.length ≤ 3) && js.all (fun j => decide (j.names.length ≤ 3)) && differB (js.map (·.text)) && differB (js.flatMap (·.names))

set_option maxRecDepth 10000 in
set_option maxHeartbeats 1000000 in
theorem joined_ok (a : Option Addr) (cap : Nat) (js : List Msg) (B : Nat) (u w : World) (hu : KeptC B u w) (hBs : B ≤ w.heap.size) (hj : js.length = 0 ∨ ∃ b off, a = some ⟨b, off, none⟩ ∧ b < B ∧ MsgsAt B u b off js) (h : joinedB js = true) :
    Calls Tryz.prog 178 #[.slice a js.length cap] w fun e w' => e = .returned (.bool true) ∧ Below w.heap.size w w' := by
  unfold joinedB at h
  simp only [Bool.and_eq_true, decide_eq_true_eq] at h
  obtain ⟨⟨⟨⟨h1, h2⟩, h3⟩, h4⟩, h5⟩ := h
  obtain ⟨i0, hi, hz0, hz1, hz2⟩ := info_parts info9
  have H4 := Lib.hid h4; have H5 := Lib.hid h5; clear h4 h5
  go_enter Tryz.func178, Tryz.ntmps178
  go_wp2
  go_loopw [3, 4, 17] (fun v3 v4 i wr => ∃ (k : Nat), k ≤ js.length ∧ i = .int .i64 k ∧ Below w.heap.size w wr ∧ wr.ownsRow w.heap.size 9 1 v3 k (strVals ((js.take k).map (·.text))) ∧
      wr.ownsRow w.heap.size 9 1 v4 ((js.take k).flatMap (·.names)).length (strVals ((js.take k).flatMap (·.names))) ∧ Away v3 v4) (fun _ _ i _ => js.length - (intOf i).toNat)
  case atStart => exact ⟨0, by omega, rfl, Below.refl _ _, World.ownsRow_nil _ _ _ _, World.ownsRow_nil _ _ _ _, fun g e => by cases e⟩
  case round =>
    obtain ⟨k, hk', rfl, hB, ho3, ho4, haw⟩ := hrel
    have hsz := hB.size
    by_cases hlt : k < js.length
    · rcases hj with h0 | ⟨b, off, rfl, hb, hms⟩
      · omega
      obtain ⟨cs, hcs, hz1', nv, rfl, hns⟩ := hms.get js b off k hlt
      have hn3 : (js[k]).names.length ≤ 3 := by have := List.all_eq_true.1 h3 _ (List.getElem_mem hlt); simpa using this
      obtain ⟨c0, c1⟩ := cells2 ((hcs.keep hu hb).below hB (by omega))
      have hst := (hns.keep hu).mono hBs |>.below hB
      have hjm : js.length ≤ 3 := h2
      have hfl : ((js.take k).flatMap (·.names)).length ≤ 100 := by
        have hall : ∀ (l : List Msg), (∀ j ∈ l, j.names.length ≤ 3) → (l.flatMap (·.names)).length ≤ 3 * l.length := by
          intro l; induction l with
          | nil => intro _; simp
          | cons x l ih => intro hx; have a1 := hx x (by simp); have a2 := ih (fun j hj => hx j (by simp [hj])); simp at a1 a2 ⊢; omega
        have := hall (js.take k) (fun j hj => by have := List.all_eq_true.1 h3 j (List.mem_of_mem_take hj); simpa using this)
        have h4 : (js.take k).length ≤ 3 := by rw [List.length_take]; omega
        omega
      have e3 := Lib.hid (show (js.take (k + 1)).map (·.text) = (js.take k).map (·.text) ++ [(js[k]).text] by rw [List.take_succ_eq_append_getElem hlt, List.map_append]; rfl)
      have e4 := Lib.hid (show (js.take (k + 1)).flatMap (·.names) = (js.take k).flatMap (·.names) ++ (js[k]).names by rw [List.take_succ_eq_append_getElem hlt, List.flatMap_append]; simp)
      obtain ⟨jt, hjt⟩ : ∃ x, x = (js[k]).text := ⟨_, rfl⟩
      obtain ⟨jn, hjn⟩ : ∃ x, x = (js[k]).names := ⟨_, rfl⟩
      rw [← hjt] at e3 c0; rw [← hjn] at e4 hst hn3
      clear hjt hjn hcs hns
      obtain ⟨na, nc, rfl, hnl, hnz, hncap, hncells⟩ := hst
      have fin : ∀ (w1 w2 : World) (v3' v4' : Value), w1.ownsRow w.heap.size 9 1 v3' (k + 1) (strVals ((js.take k).map (·.text)) ++ [.string jt]) → ((wr.alloc (.cells #[.string jt, .slice na jn.length nc] 144)).alloc (.cells #[.string jt] 9)).grownBy w1 u3.ownBlock →
          (v3'.ownBlock = u3.ownBlock ∨ v3'.ownBlock = some (wr.heap.size + 2)) → w2.ownsRow w.heap.size 9 1 v4' (((js.take k).flatMap (·.names)).length + jn.length) (strVals ((js.take k).flatMap (·.names)) ++ strVals jn) →
          w1.grownBy w2 u4.ownBlock → (v4'.ownBlock = u4.ownBlock ∨ v4'.ownBlock = some w1.heap.size) →
          Below w.heap.size w w2 ∧ w2.ownsRow w.heap.size 9 1 v3' (k + 1) (strVals ((js.take (k + 1)).map (·.text))) ∧ w2.ownsRow w.heap.size 9 1 v4' ((js.take (k + 1)).flatMap (·.names)).length (strVals ((js.take (k + 1)).flatMap (·.names))) ∧ Away v3' v4' := by
        intro w1 w2 v3' v4' o3 g1 p3 o4 g2 p4
        have l3 := ho3.lt; have l4 := ho4.lt
        have B1 : Below w.heap.size w w1 := ((hB.alloc hsz _).alloc (by simp; omega) _).grown g1 (by simp; omega) (fun k e => (l3 k e).1)
        have B2 : Below w.heap.size w w2 := B1.grown g2 B1.size (fun k e => (l4 k e).1)
        have gs := g1.size
        simp at gs
        refine ⟨B2, ?_, ?_, ?_⟩
        · rw [e3.out]; simp only [strVals, List.map_append]
          refine ownsRow_kept o3 g2 (fun g hg e => ?_)
          rcases p3 with p3 | p3
          · exact haw g (by rw [← p3]; exact hg) e
          · have := (l4 g e).2; rw [p3] at hg; cases hg; omega
        · rw [e4.out]; simp only [strVals, List.map_append, List.length_append]; exact o4
        · intro g hg e
          have q3 := o3.lt g hg
          rcases p4 with p4 | p4
          · rcases p3 with p3 | p3
            · exact haw g (by rw [← p3]; exact hg) (by rw [← p4]; exact e)
            · have := (l4 g (by rw [← p4]; exact e)).2; rw [p3] at hg; cases hg; omega
          · rw [p4] at e; cases e; omega
      have FIN := Lib.hid fin; clear fin
      have l3 := Lib.hid ho3.lt
      rcases na with _ | nad
      · obtain rfl := hncap rfl
        have hj0 : jn = [] := by rcases hncells with h | ⟨_, _, h, _⟩; exact h; cases h
        subst hj0
        have D1 : Hid (∀ w1, ((wr.alloc (.cells #[.string jt, .slice none 0 0] 144)).alloc (.cells #[.string jt] 9)).grownBy w1 u3.ownBlock → w1.cell? ⟨wr.heap.size, 1, none⟩ = some (.slice none 0 0)) := Lib.hid (fun w1 g1 => by
          refine (World.cell?_of_block (w := (wr.alloc (.cells #[.string jt, .slice none 0 0] 144)).alloc (.cells #[.string jt] 9)) (g1.block wr.heap.size (by simp; omega) (by intro e; have := l3.out _ e.symm; omega))).trans ?_
          rw [World.cell?_alloc_past _ _ _ (by simp), World.cell?_alloc_at _ _ _ _ rfl]; rfl)
        go_wp2_with (first
          | (show wpList _ _ _ (⟨some 29, _, _, _, _, _⟩ :: _) _ _; refine wpList_append_own_at _ rfl (.tmp 25) (.tmp 28) 22 rfl w.heap.size 9 i0 (.string ⟨#[]⟩) 1 16 Tryz.underlying22 hi hz0 hz1 hz2 rfl (by decide) _ _ _ rfl ((ho3.alloc _).alloc _) ⟨wr.heap.size + 1, 0, none⟩ 1 1 [.string jt] rfl rfl (cell_one_at _ _ _ _ (by simp)) (by simp [Value.oneCell']) (by unfold maxLen; omega) (by omega) (by simp; omega) ?_; intro v3' w1 o3 g1 _ p3; have d1 := D1.out w1 g1; have o4' := ownsRow_kept ((ho4.alloc (.cells #[.string jt, .slice none 0 0] 144)).alloc (.cells #[.string jt] 9)) g1 (fun g hg e => haw g e hg); have gs1 := g1.size; simp at gs1)
          | (show wpList _ _ _ (⟨some 33, _, _, _, _, _⟩ :: _) _ _; refine wpList_append_own_none rfl (.tmp 30) (.tmp 32) 22 rfl w.heap.size 9 i0 1 Tryz.underlying22 hi _ _ _ rfl o4' rfl ?_))
        go_roundw
        case rel =>
          obtain ⟨q1, q2, q3, q4⟩ := FIN.out w1 w1 v3' u4 o3 g1 (p3.imp id (fun h => by simpa using h)) (by simpa [strVals] using o4') (World.grownBy.refl _ _) (.inl rfl)
          exact ⟨k + 1, by omega, by go_num, q1, q2, q3, q4⟩
        case measure => simp [intOf]; omega
      · have D1 : Hid (∀ w1, ((wr.alloc (.cells #[.string jt, .slice (some nad) jn.length nc] 144)).alloc (.cells #[.string jt] 9)).grownBy w1 u3.ownBlock → w1.cell? ⟨wr.heap.size, 1, none⟩ = some (.slice (some nad) jn.length nc)) := Lib.hid (fun w1 g1 => by
          refine (World.cell?_of_block (w := (wr.alloc (.cells #[.string jt, .slice (some nad) jn.length nc] 144)).alloc (.cells #[.string jt] 9)) (g1.block wr.heap.size (by simp; omega) (by intro e; have := l3.out _ e.symm; omega))).trans ?_
          rw [World.cell?_alloc_past _ _ _ (by simp), World.cell?_alloc_at _ _ _ _ rfl]; rfl)
        have hnews : Hid (∀ w1, ((wr.alloc (.cells #[.string jt, .slice (some nad) jn.length nc] 144)).alloc (.cells #[.string jt] 9)).grownBy w1 u3.ownBlock → ∀ j x, (strVals jn)[j]? = some x → w1.cell? (nad.add j) = some x) := Lib.hid (fun w1 g1 j x hx => by
          have B1 : Below w.heap.size w w1 := ((hB.alloc hsz _).alloc (by simp; omega) _).grown g1 (by simp; omega) (fun k e => (l3.out k e).1)
          have Br : Below w.heap.size wr w1 := (((Below.refl w.heap.size wr).alloc hsz _).alloc (by simp; omega) _).grown g1 (by simp; omega) (fun k e => (l3.out k e).1)
          rcases hncells with h | ⟨nb, noff, hn, hnb, hnc⟩
          · subst h; simp [strVals] at hx
          · cases hn
            have hj : j < jn.length := by
              have := (List.getElem?_eq_some_iff.1 hx).1; simpa [strVals] using this
            have := hnc j hj
            simp [strVals, hj] at hx
            subst hx
            have e : (⟨nb, noff, none⟩ : Addr).add j = ⟨nb, noff + j, none⟩ := by
              unfold Addr.add; by_cases h : j = 0 <;> simp [h]
            rw [e]
            exact (Br.cell (p := ⟨nb, noff + j, none⟩) hnb).trans this)
        go_wp2_with (first
          | (show wpList _ _ _ (⟨some 29, _, _, _, _, _⟩ :: _) _ _; refine wpList_append_own_at _ rfl (.tmp 25) (.tmp 28) 22 rfl w.heap.size 9 i0 (.string ⟨#[]⟩) 1 16 Tryz.underlying22 hi hz0 hz1 hz2 rfl (by decide) _ _ _ rfl ((ho3.alloc _).alloc _) ⟨wr.heap.size + 1, 0, none⟩ 1 1 [.string jt] rfl rfl (cell_one_at _ _ _ _ (by simp)) (by simp [Value.oneCell']) (by unfold maxLen; omega) (by omega) (by simp; omega) ?_; intro v3' w1 o3 g1 _ p3; have d1 := D1.out w1 g1; have o4' := ownsRow_kept ((ho4.alloc (.cells #[.string jt, .slice (some nad) jn.length nc] 144)).alloc (.cells #[.string jt] 9)) g1 (fun g hg e => haw g e hg); have gs1 := g1.size; simp at gs1)
          | (show wpList _ _ _ (⟨some 33, _, _, _, _, _⟩ :: _) _ _; refine wpList_append_own_at _ rfl (.tmp 30) (.tmp 32) 22 rfl w.heap.size 9 i0 (.string ⟨#[]⟩) 1 16 Tryz.underlying22 hi hz0 hz1 hz2 rfl (by decide) _ _ _ rfl o4' nad jn.length nc (strVals jn) rfl (by simp [strVals]) (hnews.out _ g1) (by simp [strVals, Value.oneCell']) (by unfold maxLen; omega) (by omega) (by omega) ?_; intro v4' w2 o4 g2 _ p4))
        go_roundw
        case rel =>
          obtain ⟨q1, q2, q3, q4⟩ := FIN.out w1 w2 v3' v4' o3 g1 (p3.imp id (fun h => by simpa using h)) o4 g2 p4
          exact ⟨k + 1, by omega, by go_num, q1, q2, q3, q4⟩
        case measure => simp [intOf]; omega
    · obtain rfl : k = js.length := by omega
      rw [List.take_length] at ho3 ho4
      have hzt : ∀ s ∈ js.map (·.text), s.size ≤ maxLen := by
        intro s hs; obtain ⟨j, hj', rfl⟩ := List.mem_map.1 hs
        rcases hj with h0 | ⟨b, off, _, hb, hms⟩
        · omega
        · obtain ⟨i, hi', rfl⟩ := List.getElem_of_mem hj'
          obtain ⟨cs, hcs, hz1', _⟩ := hms.get js b off i hi'
          exact hz1'
      have hzn : ∀ s ∈ js.flatMap (·.names), s.size ≤ maxLen := by
        intro s hs; obtain ⟨j, hj', hsj⟩ := List.mem_flatMap.1 hs
        rcases hj with h0 | ⟨b, off, _, hb, hms⟩
        · omega
        · obtain ⟨i, hi', rfl⟩ := List.getElem_of_mem hj'
          obtain ⟨cs, hcs, hz1', nv, _, hns⟩ := hms.get js b off i hi'
          obtain ⟨_, _, _, _, hnz, _⟩ := hns
          exact hnz s hsj
      have s3 := strs_of_owns (ss := js.map (·.text)) (by simpa using ho3) hzt
      have s4 := strs_of_owns ho4 hzn
      have d3 := differ_any u3 (js.map (·.text)) wr s3
      have S4 := Lib.hid s4
      go_wp2_with fail
      refine d3.mono ?_
      clear d3
      rintro e w1 ⟨rfl, hb1⟩
      have d4 := differ_any u4 (js.flatMap (·.names)) w1 ((S4.out.below hb1).mono hb1.size)
      rw [H4.out]
      go_wp2_with fail
      refine d4.mono ?_
      clear d4
      rintro e w2 ⟨rfl, hb2⟩
      rw [H5.out]
      go_wp2
      go_ret
      exact ⟨rfl, hB.trans ((hb1.trans (hb2.mono hb1.size)).mono hsz)⟩

end Go.Proofs.YtjmlaeofjjhfmaaGreat
/- shapedDefinition, shaped where they say true. -/
namespace Go.Proofs.YtjmlaeofjjhfmaaGreat
open Go.RowKit Go.Maps

def shapedCB : Clause → Bool
  | .mk form text joins defs kids =>
    (form == 1 && text.size == 0 && joinedB joins && defs.length == 0 && kids.length == 1) ||
    (form == 2 && nameB text && joins.length == 0 && decide (defs.length ≤ 5) && kids.length == 1)

set_option maxRecDepth 10000 in
set_option maxHeartbeats 1000000 in
theorem shapedDef_ok (form : Int) (text : ByteArray) (a0 : Option Addr) (p0 : Nat) (joins : List Msg) (a1 : Option Addr) (p1 : Nat) (defs : List Clause) (a2 : Option Addr) (p2 : Nat) (kids : List Term) (B : Nat) (u w : World) (hu : KeptC B u w) (hBs : B ≤ w.heap.size)
    (hj : joins.length = 0 ∨ ∃ b off, a0 = some ⟨b, off, none⟩ ∧ b < B ∧ MsgsAt B u b off joins) (hz : text.size ≤ maxLen) (h : shapedCB (.mk form text joins defs kids) = true) :
    Calls Tryz.prog 161 #[.agg #[.int .i64 form, .string text, .slice a0 joins.length p0, .slice a1 defs.length p1, .slice a2 kids.length p2]] w fun e w' => e = .returned (.bool true) ∧ Below w.heap.size w w' := by
  unfold shapedCB at h
  simp only [Bool.or_eq_true, Bool.and_eq_true, beq_iff_eq, decide_eq_true_eq] at h
  rcases h with ⟨⟨⟨⟨rfl, h1⟩, h2⟩, h3⟩, h4⟩ | ⟨⟨⟨⟨rfl, h1⟩, h2⟩, h3⟩, h4⟩
  · obtain rfl := empty_of_size h1
    rw [h3, h4]
    have hb0 : Below w.heap.size w (w.alloc (.cells #[.int .i64 1, .string ByteArray.empty, .slice a0 joins.length p0, .slice a1 0 p1, .slice a2 1 p2] 191)).drew := ((Below.refl _ w).alloc (Nat.le_refl _) _).drew
    have hjn := joined_ok a0 p0 joins B u (w.alloc (.cells #[.int .i64 1, .string ByteArray.empty, .slice a0 joins.length p0, .slice a1 0 p1, .slice a2 1 p2] 191)).drew (hu.trans ((Below.keptC hb0).mono hBs)) (by simp; omega) hj h2
    clear h1 h2 h3 h4 hz
    go_enter Tryz.func161, Tryz.ntmps161
    go_wp2
    go_region
    go_wp2_with (go_at_call 178; refine hjn.mono ?_; clear hjn; rintro e w1 ⟨rfl, hb1⟩)
    go_ret
    exact ⟨rfl, hb0.trans (hb1.mono (by simp))⟩
  · rw [h2, h4]
    have hb0 : Below w.heap.size w (w.alloc (.cells #[.int .i64 2, .string text, .slice a0 0 p0, .slice a1 defs.length p1, .slice a2 1 p2] 191)).drew := ((Below.refl _ w).alloc (Nat.le_refl _) _).drew
    have hcell : (w.alloc (.cells #[.int .i64 2, .string text, .slice a0 0 p0, .slice a1 defs.length p1, .slice a2 1 p2] 191)).drew.cell? ⟨w.heap.size, 2, none⟩ = some (.slice a0 0 p0) := by
      show World.cell? (w.alloc _) _ = _
      rw [World.cell?_alloc_at _ _ _ _ rfl]; rfl
    clear h2 h4
    go_enter Tryz.func161, Tryz.ntmps161
    go_wp2
    go_region
    go_wp2_with (go_at_call 16; refine (tname_any _ _ hz).mono ?_; rintro e w1 ⟨rfl, hb1⟩; have hcc := (hb1.cell (p := ⟨w.heap.size, 2, none⟩) (by simp)).trans hcell)
    go_ret
    exact ⟨by simp [h1, h3], hb0.trans (hb1.mono (by simp))⟩

theorem ta_83_83 (v : Value) (w : World) : (Instr.typeAssert (.iface 83 v) 154 83 true).run Tryz.prog w = .ok (.tuple #[v, .bool true]) w := by kernel_rfl
theorem ta_88_88 (v : Value) (w : World) : (Instr.typeAssert (.iface 88 v) 154 88 true).run Tryz.prog w = .ok (.tuple #[v, .bool true]) w := by kernel_rfl
theorem ta_191_191 (v : Value) (w : World) : (Instr.typeAssert (.iface 191 v) 154 191 true).run Tryz.prog w = .ok (.tuple #[v, .bool true]) w := by kernel_rfl
theorem ta_88_83 (v : Value) (w : World) : (Instr.typeAssert (.iface 88 v) 154 83 true).run Tryz.prog w = .ok (.tuple #[.agg #[.int .i64 0, .string ⟨#[]⟩, .slice none 0 0, .slice none 0 0, .slice none 0 0], .bool false]) w := by kernel_rfl
theorem ta_191_83 (v : Value) (w : World) : (Instr.typeAssert (.iface 191 v) 154 83 true).run Tryz.prog w = .ok (.tuple #[.agg #[.int .i64 0, .string ⟨#[]⟩, .slice none 0 0, .slice none 0 0, .slice none 0 0], .bool false]) w := by kernel_rfl
theorem ta_191_88 (v : Value) (w : World) : (Instr.typeAssert (.iface 191 v) 154 88 true).run Tryz.prog w = .ok (.tuple #[.agg #[.int .i64 0, .int .i64 0, .string ⟨#[]⟩, .slice none 0 0], .bool false]) w := by kernel_rfl

def Part.shaped : Part → Bool
  | .proc t => shapedTB t
  | .exp e => shapedEB e
  | .def_ c => shapedCB c

set_option maxRecDepth 10000 in
set_option maxHeartbeats 1000000 in
theorem shaped_ok (p : Part) (v : Value) (B : Nat) (u w : World) (hu : KeptC B u w) (hBs : B ≤ w.heap.size) (hv : PartAt B u v p) (h : p.shaped = true) :
    Calls Tryz.prog 117 #[v] w fun e w' => e = .returned (.bool true) ∧ Below w.heap.size w w' := by
  cases p with
  | proc t =>
    obtain ⟨o, t, a, d, k⟩ := t
    obtain ⟨cs, rfl, h1, va, vd, vk, rfl, ⟨aa, ca, rfl, _, ha⟩, ⟨ad, cd, rfl, _, hd⟩, ⟨ak, ck, rfl, _, hk⟩⟩ := hv
    have q1 := ta_83_83; have q2 := ta_88_88; have q3 := ta_191_191; have q4 := ta_88_83; have q5 := ta_191_83; have q6 := ta_191_88
    go_enter Tryz.func117, Tryz.ntmps117
    go_wp2_with (go_at_call 159; refine (shapedProc_ok _ _ _ _ _ _ _ _ _ _ _ _ h1 h).mono ?_; rintro e w1 ⟨rfl, hb1⟩)
    go_ret
    exact ⟨rfl, ((Below.refl _ w).alloc (Nat.le_refl _) _).trans (hb1.mono (by simp))⟩
  | exp t =>
    obtain ⟨o, n, t, k⟩ := t
    obtain ⟨cs, rfl, h1, vk, rfl, ⟨ak, ck, rfl, _, hk⟩⟩ := hv
    have q1 := ta_83_83; have q2 := ta_88_88; have q3 := ta_191_191; have q4 := ta_88_83; have q5 := ta_191_83; have q6 := ta_191_88
    go_enter Tryz.func117, Tryz.ntmps117
    go_wp2_with (go_at_call 160; refine (shapedExp_ok _ _ _ _ _ _ _ h1 h).mono ?_; rintro e w1 ⟨rfl, hb1⟩)
    go_ret
    exact ⟨rfl, ((Below.refl _ w).alloc (Nat.le_refl _) _).trans (hb1.mono (by simp))⟩
  | def_ t =>
    obtain ⟨f, t, j, d, k⟩ := t
    obtain ⟨cs, rfl, h1, vj, vd, vk, rfl, ⟨aj, cj, rfl, _, hj⟩, ⟨ad, cd, rfl, _, hd⟩, ⟨ak, ck, rfl, _, hk⟩⟩ := hv
    have hb0 := (Below.refl w.heap.size w).alloc (Nat.le_refl _) (.cells #[.int .i64 f, .string t, .slice aj j.length cj, .slice ad d.length cd, .slice ak k.length ck] 191)
    have hc := shapedDef_ok f t aj cj j ad cd d ak ck k B u _ (hu.trans ((Below.keptC hb0).mono hBs)) (by simp; omega) hj h1 h
    have q1 := ta_83_83; have q2 := ta_88_88; have q3 := ta_191_191; have q4 := ta_88_83; have q5 := ta_191_83; have q6 := ta_191_88
    go_enter Tryz.func117, Tryz.ntmps117
    go_wp2_with (go_at_call 161; refine hc.mono ?_; clear hc; rintro e w1 ⟨rfl, hb1⟩)
    go_ret
    exact ⟨rfl, hb0.trans (hb1.mono (by simp))⟩

end Go.Proofs.YtjmlaeofjjhfmaaGreat
