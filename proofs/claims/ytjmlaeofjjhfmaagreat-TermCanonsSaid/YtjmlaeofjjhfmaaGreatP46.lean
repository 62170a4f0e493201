/- Canon at a process that is formed: what it gives, and that it gives it again. -/
import Derived.Test.YtjmlaeofjjhfmaaGreatP45
import Derived.Test.YtjmlaeofjjhfmaaGreatP43
import Derived.Test.YtjmlaeofjjhfmaaGreatP31
import Derived.Test.YtjmlaeofjjhfmaaGreatP29
import Derived.Test.YtjmlaeofjjhfmaaGreatP42
set_option linter.unusedVariables false
set_option linter.unusedSimpArgs false
namespace Go.Proofs.YtjmlaeofjjhfmaaGreat
open Go.RowKit Go.Shelf Go.Maps

theorem stands_name {q : Part} (h : q.shaped = true) (hz : (standsP q).size ≠ 0) : nameB (standsP q) = true := by
  cases q with
  | proc t =>
    obtain ⟨o, t, a, d, k⟩ := t
    simp only [Part.shaped, shapedTB, Bool.or_eq_true, Bool.and_eq_true, beq_iff_eq, decide_eq_true_eq] at h
    have hz : t.size ≠ 0 := hz
    show nameB t = true
    cases hn : nameB t with
    | true => rfl
    | false => simp only [hn, Bool.false_eq_true, and_false, false_and, or_false, false_or] at h; omega
  | exp t =>
    obtain ⟨o, n, t, k⟩ := t
    simp only [Part.shaped, shapedEB, Bool.or_eq_true, Bool.and_eq_true, beq_iff_eq, decide_eq_true_eq] at h
    have hz : t.size ≠ 0 := hz
    show nameB t = true
    cases hn : nameB t with
    | true => rfl
    | false => simp only [hn, Bool.false_eq_true, and_false, false_and, or_false, false_or] at h; omega
  | def_ t => exact absurd rfl hz
theorem free_full : ∀ (s : Nat) (p : Part) (k : List UInt8), freeN s p k = true → ∃ q ∈ (nodesOf 0 p).map (·.1), k = bytesOf (standsP q) ∧ (standsP q).size ≠ 0
  | 0, _, _, h => by simp [freeN] at h
  | s + 1, p, k, h => by
    rw [freeN, Bool.or_eq_true] at h
    rw [nodesOf_eq, List.map_cons]
    rcases h with h | h
    · rw [Bool.and_eq_true] at h
      obtain ⟨q, hq, hf⟩ := List.any_eq_true.1 h.1
      obtain ⟨x, hx, h3⟩ := free_full s q k hf
      refine ⟨x, List.mem_cons_of_mem _ ?_, h3⟩
      rw [nodesOf_fst 0 1] at hx
      obtain ⟨z, hz, hzy⟩ := List.mem_map.1 hx
      exact List.mem_map.2 ⟨z, mem_nodesL hq hz, hzy⟩
    · rw [Bool.and_eq_true] at h
      refine ⟨p, List.mem_cons_self .., by simpa using h.2, fun h0 => ?_⟩
      have h1 := h.1
      rw [empty_of_size h0] at h1
      revert h1
      decide
theorem free_name {t : Term} (h : Formed (.proc t)) (n : ByteArray) (hn : fT t (bytesOf n) = true) : nameB n = true := by
  have h1 : freeN 60 (.proc t) (bytesOf n) = true := by rw [freeN_fP 60 _ h.1]; exact hn
  obtain ⟨q, hq, h2, h3⟩ := free_full 60 _ _ h1
  have h4 := stands_name (formed_fine h q hq) h3
  have e : n = standsP q := by rw [← mkB_self n, h2, mkB_self]
  rw [e]; exact h4
theorem formed_QC {p : Part} (h : Formed p) : NdP QC p := by
  intro q hq
  rw [nodesOf_fst 0 1] at hq
  obtain ⟨y, hy, rfl⟩ := List.mem_map.1 hq
  obtain ⟨h1, _, h3⟩ := h.2 y hy
  refine ⟨⟨h1, ?_⟩, h3⟩
  obtain ⟨p, l⟩ := y
  cases p with
  | exp e => exact List.nodup_nil
  | def_ c =>
    obtain ⟨f, t, j, d, k⟩ := c
    show (List.map bytesOf (j.flatMap (·.names))).Nodup
    cases hj : joinedB j with
    | true => exact ((joinedB_iff j).1 hj).2.2.2.1.2
    | false =>
      simp only [Part.shaped, shapedCB, hj, Bool.or_eq_true, Bool.and_eq_true, beq_iff_eq, decide_eq_true_eq, Bool.false_eq_true, and_false, false_and, or_false, false_or] at h1
      rw [List.length_eq_zero_iff.1 h1.1.1.2]; exact List.nodup_nil
  | proc t =>
    obtain ⟨o, t, a, d, k⟩ := t
    show (List.map bytesOf (if o = 4 then channelsL d ++ placesL d else [])).Nodup
    by_cases ho : o = 4
    · rw [if_pos ho]
      obtain ⟨U, _, _, _, h5, h6⟩ := h3 ho
      rw [List.map_append, List.nodup_append]
      refine ⟨chFold_nodup _ [] List.nodup_nil, h6, fun x hx y hy e => ?_⟩
      obtain ⟨a', ha, rfl⟩ := List.mem_map.1 hx
      obtain ⟨b', hb, rfl⟩ := List.mem_map.1 hy
      have h7 := h5 b' hb
      rw [← e] at h7
      rcases chFold_sub _ _ _ ha with h8 | h8
      · cases h8
      · have h9 : inSet ((alltexts (groupsL d)).map bytesOf) (bytesOf a') = true := by unfold inSet; exact List.any_eq_true.2 ⟨_, List.mem_map.2 ⟨a', h8, rfl⟩, by simp⟩
        rw [h9] at h7; cases h7
    · rw [if_neg ho]; exact List.nodup_nil
theorem formed_of_levels {p q : Part} (h : Formed p) (hq : NdP QD q) (hl : (nodesOf 1 q).map (·.2) = (nodesOf 1 p).map (·.2)) : Formed q := by
  refine ⟨?_, fun y hy => ?_⟩
  · have h1 : (nodesOf 1 q).length = (nodesOf 1 p).length := len_levels hl
    have := h.1
    rw [Part.size, nodesOf_len 0 1] at this ⊢
    omega
  · have h1 : y.2 ∈ (nodesOf 1 p).map (·.2) := by rw [← hl]; exact List.mem_map.2 ⟨y, hy, rfl⟩
    obtain ⟨z, hz, he⟩ := List.mem_map.1 h1
    have h2 : QD y.1 := hq y.1 (by rw [nodesOf_fst 0 1]; exact List.mem_map.2 ⟨y, hy, rfl⟩)
    exact ⟨h2.1, by rw [← he]; exact (h.2 z hz).2.1, h2.2⟩
/-- The scope in which Canon begins. -/
def anew0 : Env := ⟨.anew, [frame0]⟩
theorem nm0 (n : ByteArray) : nm anew0 n = n := by unfold nm anew0; rfl
theorem fit0 {t : Term} (h : Formed (.proc t)) : Fit TW anew0 (freeN 60 (.proc t)) (fT t) := by
  refine ⟨fun n k h1 h2 => ?_, fun hb => absurd rfl hb⟩
  have hz := nameB_pos (free_name h n h1)
  rw [anew_becomes rfl, nm0, fE_nameE] at h2
  rw [freeN_fP 60 _ h.1]
  have e := (isT_iff hz).1 h2
  first | (rw [e]; exact h1) | (rw [← e]; exact h1)
theorem cov0 {t : Term} (h : Formed (.proc t)) : Cov (freeN 60 (.proc t)) 60 := ⟨_, fun k hk => free_stands _ _ _ hk, by rw [List.length_map]; exact h.1⟩
theorem bc0 {t : Term} (h : Formed (.proc t)) : 60 + bcT t ≤ 4900 := by
  have := bcT_le t 0 (formed_fine h)
  have h : (nodesT 0 t).length ≤ 60 := h.1
  omega
theorem canon_facts {t : Term} (h : Formed (.proc t)) : ∃ (c : Term) (U : Used), copyT anew0 (freeN 60 (.proc t)) t = some (c, U) ∧ copyT anew0 (freeN 60 (.proc c)) c = some (c, U) ∧ Formed (.proc c) ∧
    (∀ k, fT c k = fT t k) ∧ (Part.proc c).size = (Part.proc t).size ∧ (Part.proc c).depth = (Part.proc t).depth := by
  have h60 : (nodesT 1 t).length ≤ 60 := by have := h.1; rw [Part.size, nodesOf_len 0 1] at this; exact this
  have h600 : (nodesT 0 t).length ≤ 60 := h.1
  obtain ⟨c, U, h1, h2, h3, h4⟩ := anewT t anew0 (freeN 60 (.proc t)) 60 1 rfl (formed_QC h) h60 (fit0 h) (cov0 h) (bc0 h) (fun n hn => by rw [nm0]; exact free_name h n hn)
  have hfc : Formed (.proc c) := formed_of_levels h h2 h3
  have hfr : ∀ k, fT c k = fT t k := fun k => by
    have hk := (copyT_free t anew0 (freeN 60 (.proc t)) U c 60 0 (.inl rfl) (okT_fine (formed_QC h)) h600 (fit0 h) (cov0 h) (bc0 h) h1).1 k
    rw [Bool.eq_iff_iff, hk]
    constructor
    · rintro ⟨n, h5, h6⟩
      have hz := nameB_pos (free_name h n h5)
      rw [anew_becomes rfl, nm0, fE_nameE] at h6
      have e := (isT_iff hz).1 h6
      first | (rw [e]; exact h5) | (rw [← e]; exact h5)
    · intro h5
      obtain ⟨n, hn⟩ : ∃ n : ByteArray, bytesOf n = k := ⟨mkB k, bytesOf_mkB k⟩
      have hz := nameB_pos (free_name h n (by rw [hn]; exact h5))
      refine ⟨n, by rw [hn]; exact h5, ?_⟩
      rw [anew_becomes rfl, nm0, ← hn]
      exact nameE_free hz
  have hUe : freeN 60 (.proc c) = freeN 60 (.proc t) := funext fun k => by
    rw [freeN_fP 60 _ hfc.1, freeN_fP 60 _ h.1]; exact hfr k
  refine ⟨c, U, h1, ?_, hfc, hfr, ?_, ?_⟩
  · rw [hUe]
    exact h4 anew0 rfl (fun n _ => by rw [nm0, nm0])
  · rw [Part.size, Part.size, nodesOf_len 0 1, nodesOf_len 0 1 (.proc t)]
    exact len_levels h3
  · unfold Part.depth
    show maxL ((nodesT 1 c).map (·.2)) = maxL ((nodesT 1 t).map (·.2))
    rw [h3]
end Go.Proofs.YtjmlaeofjjhfmaaGreat
/- slices.EqualFunc at two slices that hold the same. -/
namespace Go.Proofs.YtjmlaeofjjhfmaaGreat
open Go.RowKit


set_option maxHeartbeats 2000000 in
theorem eqF146 (kids : List Exp) (B : Nat) (u w : World) (v1 v2 : Value) (hu : KeptC B u w) (hBl : B ≤ w.heap.size) (hv1 : SlAt B v1 kids.length (fun b off => ExpsAt B u b off kids)) (hv2 : SlAt B v2 kids.length (fun b off => ExpsAt B u b off kids))
    (ih : ∀ k, (h : k < kids.length) → ∀ (w : World) (c1 c2 : List Value), KeptC B u w → B ≤ w.heap.size → ExpAt B u c1 kids[k] → ExpAt B u c2 kids[k] → Calls Tryz.prog 147 #[.agg c1.toArray, .agg c2.toArray] w fun e w' => e = .returned (.bool true) ∧ Below w.heap.size w w') :
    Calls Tryz.prog 146 #[v1, v2, .func (.func 147) #[] #[]] w fun e w' => e = .returned (.bool true) ∧ Below w.heap.size w w' := by
  obtain ⟨a0, p0, rfl, l0, h0⟩ := hv1
  obtain ⟨a1, p1, rfl, l1, h1⟩ := hv2
  obtain ⟨nn, hnn⟩ : ∃ n, n = kids.length := ⟨_, rfl⟩
  have HN := Lib.hid hnn
  rw [← hnn] at l0 h0 h1 ⊢
  clear hnn l1
  go_enter Tryz.func146, Tryz.ntmps146
  go_wp2
  go_loopw [17] (fun i wr => ∃ (k : Nat), k ≤ nn ∧ i = .int .i64 k ∧ Below w.heap.size w wr) (fun i _ => nn - (intOf i).toNat)
  case atStart => exact ⟨0, by omega, rfl, Below.refl _ _⟩
  case round =>
    obtain ⟨k, hk, rfl, hb⟩ := hrel
    by_cases hlt : k < nn
    · have hkl : k < kids.length := by rw [← HN.out]; exact hlt
      rcases h0 with h0 | ⟨b0, o0, rfl, hB0, hc0⟩
      · omega
      rcases h1 with h1 | ⟨b2, o2, rfl, hB2, hc2⟩
      · omega
      obtain ⟨d1, e1, f1⟩ := hc0.get kids b0 o0 k hkl
      obtain ⟨d2, e2, f2⟩ := hc2.get kids b2 o2 k hkl
      have ihk := ih k hkl
      obtain ⟨a, ha⟩ : ∃ a, a = kids[k] := ⟨_, rfl⟩
      rw [← ha] at f1 f2 ihk
      obtain ⟨g0, g1, g2, g3, g4, g5, rfl⟩ := exp_shape f1
      obtain ⟨i0, i1, i2, i3, i4, i5, rfl⟩ := exp_shape f2
      have hKP : ∀ W, Below wr.heap.size wr W → KeptC B u W ∧ B ≤ W.heap.size := fun W hW => by
        have hh := hb.trans (hW.mono hb.size)
        exact ⟨hu.trans ((Below.keptC hh).mono hBl), Nat.le_trans hBl hh.size⟩
      have hS : ∀ W, Below wr.heap.size wr W → W.cell? ⟨b2, o2 + k * 4, none⟩ = some (.int .i64 i0) ∧ W.cell? ⟨b2, o2 + k * 4 + 1, none⟩ = some (.int .i64 i1) ∧ W.cell? ⟨b2, o2 + k * 4 + 2, none⟩ = some (.string i2) ∧ W.cell? ⟨b2, o2 + k * 4 + 3, none⟩ = some (.slice i3 i4 i5) := fun W hW => cells4 (e2.keep (hKP W hW).1 hB2)
      obtain ⟨y0, y1, y2, y3⟩ := cells4 (e1.keep (hKP wr (Below.refl _ _)).1 hB0)
      obtain ⟨W1, hW1⟩ : ∃ W1, W1 = wr.alloc (.cells #[.int .i64 g0, .int .i64 g1, .string g2, .slice g3 g4 g5] 36) := ⟨_, rfl⟩
      obtain ⟨W2, hW2⟩ : ∃ W2, W2 = W1.alloc (.cells #[.int .i64 i0, .int .i64 i1, .string i2, .slice i3 i4 i5] 36) := ⟨_, rfl⟩
      have s1 : W1.heap.size = wr.heap.size + 1 := by rw [hW1]; simp
      have s2 : W2.heap.size = wr.heap.size + 2 := by rw [hW2]; simp; omega
      have b1 : Below wr.heap.size wr W1 := by rw [hW1]; exact (Below.refl _ wr).alloc (Nat.le_refl _) _
      have b2' : Below wr.heap.size wr W2 := by rw [hW2]; exact b1.alloc (by omega) _
      obtain ⟨z0, z1, z2, z3⟩ := hS W1 b1
      have hbx : W2.cell? ⟨wr.heap.size, 0, none⟩ = some (.int .i64 g0) ∧ W2.cell? ⟨wr.heap.size, 1, none⟩ = some (.int .i64 g1) ∧ W2.cell? ⟨wr.heap.size, 2, none⟩ = some (.string g2) ∧ W2.cell? ⟨wr.heap.size, 3, none⟩ = some (.slice g3 g4 g5) ∧ W2.cell? ⟨wr.heap.size + 1, 0, none⟩ = some (.int .i64 i0) ∧ W2.cell? ⟨wr.heap.size + 1, 1, none⟩ = some (.int .i64 i1) ∧ W2.cell? ⟨wr.heap.size + 1, 2, none⟩ = some (.string i2) ∧ W2.cell? ⟨wr.heap.size + 1, 3, none⟩ = some (.slice i3 i4 i5) := by
        refine ⟨?_, ?_, ?_, ?_, ?_, ?_, ?_, ?_⟩
        all_goals first
          | (rw [hW2, World.cell?_alloc_past _ _ _ (by simp only [s1]; omega), hW1, World.cell?_alloc_at _ _ _ _ rfl]; rfl)
          | (rw [hW2, World.cell?_alloc_at _ _ _ _ (by simp only [s1])]; rfl)
      obtain ⟨p0_, p1_, p2_, p3_, q0_, q1_, q2_, q3_⟩ := hbx
      have hcall := ihk W2 _ _ (hKP W2 b2').1 (hKP W2 b2').2 f1 f2
      have HB := Lib.hid (And.intro hb b2')
      have HW := Lib.hid (And.intro hW1 hW2)
      rw [HW.out.1] at z0 z1 z2 z3
      rw [HW.out.2, HW.out.1] at p0_ p1_ p2_ p3_ q0_ q1_ q2_ q3_
      clear f1 f2 hc0 hc2 e1 e2 hS hKP hkl ha ih ihk hW1 hW2 s1 s2 b1 b2' hb
      go_wp2_with fail
      rw [← HW.out.1, ← HW.out.2]
      refine hcall.mono ?_
      clear hcall
      rintro e w2 ⟨rfl, hb2⟩
      go_wp2
      go_roundw
      case rel => exact ⟨k + 1, by omega, by go_num, HB.out.1.trans ((HB.out.2.trans (hb2.mono HB.out.2.size)).mono HB.out.1.size)⟩
      case measure => simp [intOf]; omega
    · obtain rfl : k = nn := by omega
      go_wp2
      go_ret
      exact ⟨rfl, hb⟩

set_option maxHeartbeats 2000000 in
theorem eqF148 (kids : List Clause) (B : Nat) (u w : World) (v1 v2 : Value) (hu : KeptC B u w) (hBl : B ≤ w.heap.size) (hv1 : SlAt B v1 kids.length (fun b off => ClausesAt B u b off kids)) (hv2 : SlAt B v2 kids.length (fun b off => ClausesAt B u b off kids))
    (ih : ∀ k, (h : k < kids.length) → ∀ (w : World) (c1 c2 : List Value), KeptC B u w → B ≤ w.heap.size → ClauseAt B u c1 kids[k] → ClauseAt B u c2 kids[k] → Calls Tryz.prog 149 #[.agg c1.toArray, .agg c2.toArray] w fun e w' => e = .returned (.bool true) ∧ Below w.heap.size w w') :
    Calls Tryz.prog 148 #[v1, v2, .func (.func 149) #[] #[]] w fun e w' => e = .returned (.bool true) ∧ Below w.heap.size w w' := by
  obtain ⟨a0, p0, rfl, l0, h0⟩ := hv1
  obtain ⟨a1, p1, rfl, l1, h1⟩ := hv2
  obtain ⟨nn, hnn⟩ : ∃ n, n = kids.length := ⟨_, rfl⟩
  have HN := Lib.hid hnn
  rw [← hnn] at l0 h0 h1 ⊢
  clear hnn l1
  go_enter Tryz.func148, Tryz.ntmps148
  go_wp2
  go_loopw [17] (fun i wr => ∃ (k : Nat), k ≤ nn ∧ i = .int .i64 k ∧ Below w.heap.size w wr) (fun i _ => nn - (intOf i).toNat)
  case atStart => exact ⟨0, by omega, rfl, Below.refl _ _⟩
  case round =>
    obtain ⟨k, hk, rfl, hb⟩ := hrel
    by_cases hlt : k < nn
    · have hkl : k < kids.length := by rw [← HN.out]; exact hlt
      rcases h0 with h0 | ⟨b0, o0, rfl, hB0, hc0⟩
      · omega
      rcases h1 with h1 | ⟨b2, o2, rfl, hB2, hc2⟩
      · omega
      obtain ⟨d1, e1, f1⟩ := hc0.get kids b0 o0 k hkl
      obtain ⟨d2, e2, f2⟩ := hc2.get kids b2 o2 k hkl
      have ihk := ih k hkl
      obtain ⟨a, ha⟩ : ∃ a, a = kids[k] := ⟨_, rfl⟩
      rw [← ha] at f1 f2 ihk
      obtain ⟨g0, g1, g2, g3, g4, g5, g6, g7, g8, g9, gA, rfl⟩ := clause_shape f1
      obtain ⟨i0, i1, i2, i3, i4, i5, i6, i7, i8, i9, iA, rfl⟩ := clause_shape f2
      have hKP : ∀ W, Below wr.heap.size wr W → KeptC B u W ∧ B ≤ W.heap.size := fun W hW => by
        have hh := hb.trans (hW.mono hb.size)
        exact ⟨hu.trans ((Below.keptC hh).mono hBl), Nat.le_trans hBl hh.size⟩
      have hS : ∀ W, Below wr.heap.size wr W → W.cell? ⟨b2, o2 + k * 5, none⟩ = some (.int .i64 i0) ∧ W.cell? ⟨b2, o2 + k * 5 + 1, none⟩ = some (.string i1) ∧ W.cell? ⟨b2, o2 + k * 5 + 2, none⟩ = some (.slice i2 i3 i4) ∧ W.cell? ⟨b2, o2 + k * 5 + 3, none⟩ = some (.slice i5 i6 i7) ∧ W.cell? ⟨b2, o2 + k * 5 + 4, none⟩ = some (.slice i8 i9 iA) := fun W hW => cells5 (e2.keep (hKP W hW).1 hB2)
      obtain ⟨y0, y1, y2, y3, y4⟩ := cells5 (e1.keep (hKP wr (Below.refl _ _)).1 hB0)
      obtain ⟨W1, hW1⟩ : ∃ W1, W1 = wr.alloc (.cells #[.int .i64 g0, .string g1, .slice g2 g3 g4, .slice g5 g6 g7, .slice g8 g9 gA] 130) := ⟨_, rfl⟩
      obtain ⟨W2, hW2⟩ : ∃ W2, W2 = W1.alloc (.cells #[.int .i64 i0, .string i1, .slice i2 i3 i4, .slice i5 i6 i7, .slice i8 i9 iA] 130) := ⟨_, rfl⟩
      have s1 : W1.heap.size = wr.heap.size + 1 := by rw [hW1]; simp
      have s2 : W2.heap.size = wr.heap.size + 2 := by rw [hW2]; simp; omega
      have b1 : Below wr.heap.size wr W1 := by rw [hW1]; exact (Below.refl _ wr).alloc (Nat.le_refl _) _
      have b2' : Below wr.heap.size wr W2 := by rw [hW2]; exact b1.alloc (by omega) _
      obtain ⟨z0, z1, z2, z3, z4⟩ := hS W1 b1
      have hbx : W2.cell? ⟨wr.heap.size, 0, none⟩ = some (.int .i64 g0) ∧ W2.cell? ⟨wr.heap.size, 1, none⟩ = some (.string g1) ∧ W2.cell? ⟨wr.heap.size, 2, none⟩ = some (.slice g2 g3 g4) ∧ W2.cell? ⟨wr.heap.size, 3, none⟩ = some (.slice g5 g6 g7) ∧ W2.cell? ⟨wr.heap.size, 4, none⟩ = some (.slice g8 g9 gA) ∧ W2.cell? ⟨wr.heap.size + 1, 0, none⟩ = some (.int .i64 i0) ∧ W2.cell? ⟨wr.heap.size + 1, 1, none⟩ = some (.string i1) ∧ W2.cell? ⟨wr.heap.size + 1, 2, none⟩ = some (.slice i2 i3 i4) ∧ W2.cell? ⟨wr.heap.size + 1, 3, none⟩ = some (.slice i5 i6 i7) ∧ W2.cell? ⟨wr.heap.size + 1, 4, none⟩ = some (.slice i8 i9 iA) := by
        refine ⟨?_, ?_, ?_, ?_, ?_, ?_, ?_, ?_, ?_, ?_⟩
        all_goals first
          | (rw [hW2, World.cell?_alloc_past _ _ _ (by simp only [s1]; omega), hW1, World.cell?_alloc_at _ _ _ _ rfl]; rfl)
          | (rw [hW2, World.cell?_alloc_at _ _ _ _ (by simp only [s1])]; rfl)
      obtain ⟨p0_, p1_, p2_, p3_, p4_, q0_, q1_, q2_, q3_, q4_⟩ := hbx
      have hcall := ihk W2 _ _ (hKP W2 b2').1 (hKP W2 b2').2 f1 f2
      have HB := Lib.hid (And.intro hb b2')
      have HW := Lib.hid (And.intro hW1 hW2)
      rw [HW.out.1] at z0 z1 z2 z3 z4
      rw [HW.out.2, HW.out.1] at p0_ p1_ p2_ p3_ p4_ q0_ q1_ q2_ q3_ q4_
      clear f1 f2 hc0 hc2 e1 e2 hS hKP hkl ha ih ihk hW1 hW2 s1 s2 b1 b2' hb
      go_wp2_with fail
      rw [← HW.out.1, ← HW.out.2]
      refine hcall.mono ?_
      clear hcall
      rintro e w2 ⟨rfl, hb2⟩
      go_wp2
      go_roundw
      case rel => exact ⟨k + 1, by omega, by go_num, HB.out.1.trans ((HB.out.2.trans (hb2.mono HB.out.2.size)).mono HB.out.1.size)⟩
      case measure => simp [intOf]; omega
    · obtain rfl : k = nn := by omega
      go_wp2
      go_ret
      exact ⟨rfl, hb⟩

set_option maxHeartbeats 2000000 in
theorem eqF150 (kids : List Term) (B : Nat) (u w : World) (v1 v2 : Value) (hu : KeptC B u w) (hBl : B ≤ w.heap.size) (hv1 : SlAt B v1 kids.length (fun b off => TermsAt B u b off kids)) (hv2 : SlAt B v2 kids.length (fun b off => TermsAt B u b off kids))
    (ih : ∀ k, (h : k < kids.length) → ∀ (w : World) (c1 c2 : List Value), KeptC B u w → B ≤ w.heap.size → TermAt B u c1 kids[k] → TermAt B u c2 kids[k] → Calls Tryz.prog 93 #[.agg c1.toArray, .agg c2.toArray] w fun e w' => e = .returned (.bool true) ∧ Below w.heap.size w w') :
    Calls Tryz.prog 150 #[v1, v2, .func (.func 93) #[] #[]] w fun e w' => e = .returned (.bool true) ∧ Below w.heap.size w w' := by
  obtain ⟨a0, p0, rfl, l0, h0⟩ := hv1
  obtain ⟨a1, p1, rfl, l1, h1⟩ := hv2
  obtain ⟨nn, hnn⟩ : ∃ n, n = kids.length := ⟨_, rfl⟩
  have HN := Lib.hid hnn
  rw [← hnn] at l0 h0 h1 ⊢
  clear hnn l1
  go_enter Tryz.func150, Tryz.ntmps150
  go_wp2
  go_loopw [17] (fun i wr => ∃ (k : Nat), k ≤ nn ∧ i = .int .i64 k ∧ Below w.heap.size w wr) (fun i _ => nn - (intOf i).toNat)
  case atStart => exact ⟨0, by omega, rfl, Below.refl _ _⟩
  case round =>
    obtain ⟨k, hk, rfl, hb⟩ := hrel
    by_cases hlt : k < nn
    · have hkl : k < kids.length := by rw [← HN.out]; exact hlt
      rcases h0 with h0 | ⟨b0, o0, rfl, hB0, hc0⟩
      · omega
      rcases h1 with h1 | ⟨b2, o2, rfl, hB2, hc2⟩
      · omega
      obtain ⟨d1, e1, f1⟩ := hc0.get kids b0 o0 k hkl
      obtain ⟨d2, e2, f2⟩ := hc2.get kids b2 o2 k hkl
      have ihk := ih k hkl
      obtain ⟨a, ha⟩ : ∃ a, a = kids[k] := ⟨_, rfl⟩
      rw [← ha] at f1 f2 ihk
      obtain ⟨g0, g1, g2, g3, g4, g5, g6, g7, g8, g9, gA, rfl⟩ := term_shape f1
      obtain ⟨i0, i1, i2, i3, i4, i5, i6, i7, i8, i9, iA, rfl⟩ := term_shape f2
      have hKP : ∀ W, Below wr.heap.size wr W → KeptC B u W ∧ B ≤ W.heap.size := fun W hW => by
        have hh := hb.trans (hW.mono hb.size)
        exact ⟨hu.trans ((Below.keptC hh).mono hBl), Nat.le_trans hBl hh.size⟩
      have hS : ∀ W, Below wr.heap.size wr W → W.cell? ⟨b2, o2 + k * 5, none⟩ = some (.int .i64 i0) ∧ W.cell? ⟨b2, o2 + k * 5 + 1, none⟩ = some (.string i1) ∧ W.cell? ⟨b2, o2 + k * 5 + 2, none⟩ = some (.slice i2 i3 i4) ∧ W.cell? ⟨b2, o2 + k * 5 + 3, none⟩ = some (.slice i5 i6 i7) ∧ W.cell? ⟨b2, o2 + k * 5 + 4, none⟩ = some (.slice i8 i9 iA) := fun W hW => cells5 (e2.keep (hKP W hW).1 hB2)
      obtain ⟨y0, y1, y2, y3, y4⟩ := cells5 (e1.keep (hKP wr (Below.refl _ _)).1 hB0)
      obtain ⟨W1, hW1⟩ : ∃ W1, W1 = wr.alloc (.cells #[.int .i64 g0, .string g1, .slice g2 g3 g4, .slice g5 g6 g7, .slice g8 g9 gA] 33) := ⟨_, rfl⟩
      obtain ⟨W2, hW2⟩ : ∃ W2, W2 = W1.alloc (.cells #[.int .i64 i0, .string i1, .slice i2 i3 i4, .slice i5 i6 i7, .slice i8 i9 iA] 33) := ⟨_, rfl⟩
      have s1 : W1.heap.size = wr.heap.size + 1 := by rw [hW1]; simp
      have s2 : W2.heap.size = wr.heap.size + 2 := by rw [hW2]; simp; omega
      have b1 : Below wr.heap.size wr W1 := by rw [hW1]; exact (Below.refl _ wr).alloc (Nat.le_refl _) _
      have b2' : Below wr.heap.size wr W2 := by rw [hW2]; exact b1.alloc (by omega) _
      obtain ⟨z0, z1, z2, z3, z4⟩ := hS W1 b1
      have hbx : W2.cell? ⟨wr.heap.size, 0, none⟩ = some (.int .i64 g0) ∧ W2.cell? ⟨wr.heap.size, 1, none⟩ = some (.string g1) ∧ W2.cell? ⟨wr.heap.size, 2, none⟩ = some (.slice g2 g3 g4) ∧ W2.cell? ⟨wr.heap.size, 3, none⟩ = some (.slice g5 g6 g7) ∧ W2.cell? ⟨wr.heap.size, 4, none⟩ = some (.slice g8 g9 gA) ∧ W2.cell? ⟨wr.heap.size + 1, 0, none⟩ = some (.int .i64 i0) ∧ W2.cell? ⟨wr.heap.size + 1, 1, none⟩ = some (.string i1) ∧ W2.cell? ⟨wr.heap.size + 1, 2, none⟩ = some (.slice i2 i3 i4) ∧ W2.cell? ⟨wr.heap.size + 1, 3, none⟩ = some (.slice i5 i6 i7) ∧ W2.cell? ⟨wr.heap.size + 1, 4, none⟩ = some (.slice i8 i9 iA) := by
        refine ⟨?_, ?_, ?_, ?_, ?_, ?_, ?_, ?_, ?_, ?_⟩
        all_goals first
          | (rw [hW2, World.cell?_alloc_past _ _ _ (by simp only [s1]; omega), hW1, World.cell?_alloc_at _ _ _ _ rfl]; rfl)
          | (rw [hW2, World.cell?_alloc_at _ _ _ _ (by simp only [s1])]; rfl)
      obtain ⟨p0_, p1_, p2_, p3_, p4_, q0_, q1_, q2_, q3_, q4_⟩ := hbx
      have hcall := ihk W2 _ _ (hKP W2 b2').1 (hKP W2 b2').2 f1 f2
      have HB := Lib.hid (And.intro hb b2')
      have HW := Lib.hid (And.intro hW1 hW2)
      rw [HW.out.1] at z0 z1 z2 z3 z4
      rw [HW.out.2, HW.out.1] at p0_ p1_ p2_ p3_ p4_ q0_ q1_ q2_ q3_ q4_
      clear f1 f2 hc0 hc2 e1 e2 hS hKP hkl ha ih ihk hW1 hW2 s1 s2 b1 b2' hb
      go_wp2_with fail
      rw [← HW.out.1, ← HW.out.2]
      refine hcall.mono ?_
      clear hcall
      rintro e w2 ⟨rfl, hb2⟩
      go_wp2
      go_roundw
      case rel => exact ⟨k + 1, by omega, by go_num, HB.out.1.trans ((HB.out.2.trans (hb2.mono HB.out.2.size)).mono HB.out.1.size)⟩
      case measure => simp [intOf]; omega
    · obtain rfl : k = nn := by omega
      go_wp2
      go_ret
      exact ⟨rfl, hb⟩

set_option maxHeartbeats 2000000 in
theorem eqF175 (kids : List Msg) (B : Nat) (u w : World) (v1 v2 : Value) (hu : KeptC B u w) (hBl : B ≤ w.heap.size) (hv1 : SlAt B v1 kids.length (fun b off => MsgsAt B u b off kids)) (hv2 : SlAt B v2 kids.length (fun b off => MsgsAt B u b off kids))
    (ih : ∀ k, (h : k < kids.length) → ∀ (w : World) (c1 c2 : List Value), KeptC B u w → B ≤ w.heap.size → MsgAt B u c1 kids[k] → MsgAt B u c2 kids[k] → Calls Tryz.prog 176 #[.agg c1.toArray, .agg c2.toArray] w fun e w' => e = .returned (.bool true) ∧ Below w.heap.size w w') :
    Calls Tryz.prog 175 #[v1, v2, .func (.func 176) #[] #[]] w fun e w' => e = .returned (.bool true) ∧ Below w.heap.size w w' := by
  obtain ⟨a0, p0, rfl, l0, h0⟩ := hv1
  obtain ⟨a1, p1, rfl, l1, h1⟩ := hv2
  obtain ⟨nn, hnn⟩ : ∃ n, n = kids.length := ⟨_, rfl⟩
  have HN := Lib.hid hnn
  rw [← hnn] at l0 h0 h1 ⊢
  clear hnn l1
  go_enter Tryz.func175, Tryz.ntmps175
  go_wp2
  go_loopw [17] (fun i wr => ∃ (k : Nat), k ≤ nn ∧ i = .int .i64 k ∧ Below w.heap.size w wr) (fun i _ => nn - (intOf i).toNat)
  case atStart => exact ⟨0, by omega, rfl, Below.refl _ _⟩
  case round =>
    obtain ⟨k, hk, rfl, hb⟩ := hrel
    by_cases hlt : k < nn
    · have hkl : k < kids.length := by rw [← HN.out]; exact hlt
      rcases h0 with h0 | ⟨b0, o0, rfl, hB0, hc0⟩
      · omega
      rcases h1 with h1 | ⟨b2, o2, rfl, hB2, hc2⟩
      · omega
      obtain ⟨d1, e1, f1⟩ := hc0.get kids b0 o0 k hkl
      obtain ⟨d2, e2, f2⟩ := hc2.get kids b2 o2 k hkl
      have ihk := ih k hkl
      obtain ⟨a, ha⟩ : ∃ a, a = kids[k] := ⟨_, rfl⟩
      rw [← ha] at f1 f2 ihk
      obtain ⟨g0, g1, g2, g3, rfl⟩ := msg_shape f1
      obtain ⟨i0, i1, i2, i3, rfl⟩ := msg_shape f2
      have hKP : ∀ W, Below wr.heap.size wr W → KeptC B u W ∧ B ≤ W.heap.size := fun W hW => by
        have hh := hb.trans (hW.mono hb.size)
        exact ⟨hu.trans ((Below.keptC hh).mono hBl), Nat.le_trans hBl hh.size⟩
      have hS : ∀ W, Below wr.heap.size wr W → W.cell? ⟨b2, o2 + k * 2, none⟩ = some (.string i0) ∧ W.cell? ⟨b2, o2 + k * 2 + 1, none⟩ = some (.slice i1 i2 i3) := fun W hW => cells2 (e2.keep (hKP W hW).1 hB2)
      obtain ⟨y0, y1⟩ := cells2 (e1.keep (hKP wr (Below.refl _ _)).1 hB0)
      obtain ⟨W1, hW1⟩ : ∃ W1, W1 = wr.alloc (.cells #[.string g0, .slice g1 g2 g3] 144) := ⟨_, rfl⟩
      obtain ⟨W2, hW2⟩ : ∃ W2, W2 = W1.alloc (.cells #[.string i0, .slice i1 i2 i3] 144) := ⟨_, rfl⟩
      have s1 : W1.heap.size = wr.heap.size + 1 := by rw [hW1]; simp
      have s2 : W2.heap.size = wr.heap.size + 2 := by rw [hW2]; simp; omega
      have b1 : Below wr.heap.size wr W1 := by rw [hW1]; exact (Below.refl _ wr).alloc (Nat.le_refl _) _
      have b2' : Below wr.heap.size wr W2 := by rw [hW2]; exact b1.alloc (by omega) _
      obtain ⟨z0, z1⟩ := hS W1 b1
      have hbx : W2.cell? ⟨wr.heap.size, 0, none⟩ = some (.string g0) ∧ W2.cell? ⟨wr.heap.size, 1, none⟩ = some (.slice g1 g2 g3) ∧ W2.cell? ⟨wr.heap.size + 1, 0, none⟩ = some (.string i0) ∧ W2.cell? ⟨wr.heap.size + 1, 1, none⟩ = some (.slice i1 i2 i3) := by
        refine ⟨?_, ?_, ?_, ?_⟩
        all_goals first
          | (rw [hW2, World.cell?_alloc_past _ _ _ (by simp only [s1]; omega), hW1, World.cell?_alloc_at _ _ _ _ rfl]; rfl)
          | (rw [hW2, World.cell?_alloc_at _ _ _ _ (by simp only [s1])]; rfl)
      obtain ⟨p0_, p1_, q0_, q1_⟩ := hbx
      have hcall := ihk W2 _ _ (hKP W2 b2').1 (hKP W2 b2').2 f1 f2
      have HB := Lib.hid (And.intro hb b2')
      have HW := Lib.hid (And.intro hW1 hW2)
      rw [HW.out.1] at z0 z1
      rw [HW.out.2, HW.out.1] at p0_ p1_ q0_ q1_
      clear f1 f2 hc0 hc2 e1 e2 hS hKP hkl ha ih ihk hW1 hW2 s1 s2 b1 b2' hb
      go_wp2_with fail
      rw [← HW.out.1, ← HW.out.2]
      refine hcall.mono ?_
      clear hcall
      rintro e w2 ⟨rfl, hb2⟩
      go_wp2
      go_roundw
      case rel => exact ⟨k + 1, by omega, by go_num, HB.out.1.trans ((HB.out.2.trans (hb2.mono HB.out.2.size)).mono HB.out.1.size)⟩
      case measure => simp [intOf]; omega
    · obtain rfl : k = nn := by omega
      go_wp2
      go_ret
      exact ⟨rfl, hb⟩

end Go.Proofs.YtjmlaeofjjhfmaaGreat
