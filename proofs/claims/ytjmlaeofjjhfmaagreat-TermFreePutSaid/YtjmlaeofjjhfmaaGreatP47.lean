/- Free names as lists: of a formed process, of an expression; Same at nothing. -/
import Derived.Test.YtjmlaeofjjhfmaaGreatP41
import Derived.Test.YtjmlaeofjjhfmaaGreatP46
import Derived.Test.YtjmlaeofjjhfmaaGreatP31
import Derived.Test.YtjmlaeofjjhfmaaGreatP42
import Derived.Test.YtjmlaeofjjhfmaaGreatP32
set_option linter.unusedVariables false
set_option linter.unusedSimpArgs false
namespace Go.Proofs.YtjmlaeofjjhfmaaGreat
open Go.RowKit Go.Shelf Go.Maps Go.Sort

def dd : List (List UInt8) → List (List UInt8)
  | [] => []
  | a :: l => if a ∈ dd l then dd l else a :: dd l
theorem dd_mem : ∀ (l : List (List UInt8)) (x : List UInt8), x ∈ dd l ↔ x ∈ l
  | [], x => Iff.rfl
  | a :: l, x => by
    unfold dd
    split
    · rename_i h
      rw [dd_mem l x, List.mem_cons]
      exact ⟨.inr, fun h2 => h2.elim (fun e => by rw [e]; exact (dd_mem l a).1 h) id⟩
    · rw [List.mem_cons, List.mem_cons, dd_mem l x]
theorem dd_nodup : ∀ l : List (List UInt8), (dd l).Nodup
  | [] => List.nodup_nil
  | a :: l => by
    unfold dd
    split
    · exact dd_nodup l
    · rename_i h
      exact List.nodup_cons.2 ⟨h, dd_nodup l⟩
theorem frees_ex (p : Part) : ∃ E, IsFrees p E := by
  refine ⟨dd (((nodesOf 0 p).map (fun q => bytesOf (standsP q.1))).filter (fun k => freeN 60 p k)), dd_nodup _, fun k => ?_⟩
  rw [dd_mem, List.mem_filter]
  exact ⟨fun h => h.2, fun h => ⟨free_stands 60 p k h, h⟩⟩
/-- A list has these names, in whatever order. -/
def HasAll (F : List UInt8 → Bool) (L : List ByteArray) : Prop := ∀ k, k ∈ L.map bytesOf ↔ F k = true
theorem pfree_ok (t : Term) (hf : Formed (.proc t)) (B : Nat) (u w : World) (cs : List Value) (hu : KeptC B u w) (hB : B ≤ w.heap.size) (hv : TermAt B u cs t) :
    Calls Tryz.prog 29 #[.agg cs.toArray] w fun e w' => ∃ v L, e = .returned (.tuple #[v, .int .i64 0]) ∧ StrsAt w'.heap.size w' v L ∧ Hid (HasAll (fT t) L) ∧ Below w.heap.size w w' := by
  obtain ⟨E, hE⟩ := frees_ex (.proc t)
  refine (api_29 B u t cs w hu hB hf hv E hE).mono ?_
  rintro e w' ⟨v, rfl, h1, h2⟩
  refine ⟨v, _, rfl, h1, Lib.hid (fun k => ?_), h2⟩
  have e1 : ((E.mergeSort leB).map mkB).map bytesOf = E.mergeSort leB := by
    rw [List.map_map]
    have : (bytesOf ∘ mkB) = id := by funext x; exact bytesOf_mkB x
    rw [this, List.map_id]
  rw [e1, List.mem_mergeSort, hE.2 k, freeN_fP 60 _ hf.1]
  rfl

set_option maxRecDepth 10000 in
set_option maxHeartbeats 2000000 in
theorem freeExp_any (t : Exp) (hf : Formed (.exp t)) (B : Nat) (u w : World) (cs : List Value) (hu : KeptC B u w) (hB : B ≤ w.heap.size) (hv : ExpAt B u cs t) :
    Calls Tryz.prog 37 #[.agg cs.toArray] w fun e w' => ∃ v L, e = .returned v ∧ StrsAt w'.heap.size w' v L ∧ Hid (HasAll (fE t) L) ∧ Below w.heap.size w w' := by
  have hsh : allSh (.exp t) = true := by
    rw [allSh, List.all_eq_true]
    intro q hq
    exact formed_fine hf q.1 (List.mem_map.2 ⟨q, hq, rfl⟩)
  have h60 : (Part.exp t).size ≤ 60 := hf.1
  obtain ⟨q, hq⟩ : ∃ q, q = t := ⟨_, rfl⟩
  rw [← hq] at h60 hsh ⊢
  obtain ⟨op, n, text, kids⟩ := t
  have hv0 := hv
  unfold ExpAt at hv
  obtain ⟨hz, _, rfl, ⟨a0, p0, rfl, _⟩⟩ := hv
  obtain ⟨W1, hW1⟩ : ∃ W1, W1 = w.alloc (.cells #[.int .i64 op, .int .i64 n, .string text, .slice a0 kids.length p0] 36) := ⟨_, rfl⟩
  have z1 : W1.heap.size = w.heap.size + 1 := by rw [hW1]; simp
  have b1 : Below w.heap.size w W1 := by rw [hW1]; exact (Below.refl _ w).alloc (Nat.le_refl _) _
  have cc : ∀ W, Below W1.heap.size W1 W → W.cell? ⟨w.heap.size, 0, none⟩ = some (.int .i64 op) ∧ W.cell? ⟨w.heap.size, 1, none⟩ = some (.int .i64 n) ∧ W.cell? ⟨w.heap.size, 2, none⟩ = some (.string text) ∧ W.cell? ⟨w.heap.size, 3, none⟩ = some (.slice a0 kids.length p0) := fun W hW => by
    have e : ∀ o, W.cell? ⟨w.heap.size, o, none⟩ = W1.cell? ⟨w.heap.size, o, none⟩ := fun o => hW.cell (p := ⟨w.heap.size, o, none⟩) (by simp; omega)
    rw [e, e, e, e, hW1]
    simp only [World.cell?_alloc_at _ _ _ _ rfl]
    exact ⟨rfl, rfl, rfl, rfl⟩
  have hcall := f_all 60 (.exp q) h60 h60 hsh (agAll_exp q) B u W1 _ (.slice none 0 0) (.slice none 0 0) [] [] (hu.trans ((Below.keptC b1).mono hB)) (by omega) (by rw [hq]; exact hv0) (OutAt.nil _) (StrsAt.nil _ _) List.Pairwise.nil (by simp; omega) (by simp; omega)
  simp only [fFn] at hcall
  have HK : ∀ e w', AddOut [] (fset 60 [] (.exp q)) (Part.exp q).size W1 e w' → ∃ v L, e = .returned v ∧ StrsAt w'.heap.size w' v L ∧ Hid (HasAll (fE q) L) ∧ Below w.heap.size w w' := by
    rintro e w' ⟨v, L, rfl, h1, h2, h3, _, h5⟩
    refine ⟨v, L, rfl, h1.strs, Lib.hid (fun k => ?_), b1.trans (h5.mono (by omega))⟩
    rw [h3]
    simp only [fset, List.map_nil, List.not_mem_nil, false_or, not_false_eq_true, and_true]
    rw [freeN_fP 60 _ h60]; rfl
  have hcall2 := hcall.mono HK
  obtain ⟨x0, x1, x2, x3⟩ := cc W1 (Below.refl _ _)
  have HW := Lib.hid hW1
  rw [HW.out] at x0 x1 x2 x3
  clear hcall HK cc hW1 hv0 hq h60 hsh
  go_enter Tryz.func37, Tryz.ntmps37
  go_wp2_with (go_at_call 91; rw [← HW.out]; refine hcall2.mono ?_; clear hcall2; rintro e w2 ⟨v, L, rfl, g1, g2, g3⟩)
  go_ret
  exact ⟨v, L, rfl, g1, g2, g3⟩

theorem zero_at (B : Nat) (w : World) : TermAt B w zero5 (.mk 0 ByteArray.empty [] [] []) := by
  unfold TermAt zero5
  refine ⟨by decide, .slice none 0 0, .slice none 0 0, .slice none 0 0, rfl, ?_, ?_, ?_⟩
  · exact ⟨none, 0, rfl, by simp, .inl rfl⟩
  · exact ⟨none, 0, rfl, by simp, .inl rfl⟩
  · exact ⟨none, 0, rfl, by simp, .inl rfl⟩
set_option maxHeartbeats 1000000 in
theorem none_zero (w : World) : Calls Tryz.prog 35 #[.agg zero5.toArray] w fun e w' => e = .returned (.bool true) ∧ Below w.heap.size w w' := by
  have hs := fun W : World => same_any (.mk 0 ByteArray.empty [] [] []) W.heap.size W W zero5 zero5 (KeptC.refl _ _) (Nat.le_refl _) (zero_at _ _) (zero_at _ _)
  unfold zero5 at hs ⊢
  go_enter Tryz.func35, Tryz.ntmps35
  go_wp2_with (go_at_call 34; refine (hs _).mono ?_; rintro e w1 ⟨rfl, hb1⟩)
  go_ret
  exact ⟨rfl, ((Below.refl _ w).alloc (Nat.le_refl _) _).trans (hb1.mono (by simp))⟩

theorem has_iff (ss : List ByteArray) (s : ByteArray) : hasB ss s = true ↔ bytesOf s ∈ ss.map bytesOf := by
  rw [hasB_in]
  unfold inSet
  rw [List.any_eq_true]
  constructor
  · rintro ⟨x, hx, he⟩; rw [← (by simpa using he : x = bytesOf s)]; exact hx
  · intro h; exact ⟨_, h, by simp⟩

end Go.Proofs.YtjmlaeofjjhfmaaGreat
/- What the fifth row of the layer's laws does, by contracts. -/
namespace Go.Proofs.YtjmlaeofjjhfmaaGreat
open Go.RowKit Go.Shelf Go.Maps

/-- What the row asks of the lists of free names. -/
structure FreeFacts (x : ByteArray) (was is want : List ByteArray) : Prop where
  first : ∀ k, (h : k < was.length) → was[k] ≠ x → hasB is was[k] = true
  second : ∀ k, (h : k < want.length) → hasB is want[k] = true
  third : ∀ k, (h : k < is.length) → hasB want is[k] = true ∨ (hasB want is[k] = false ∧ is[k] ≠ x ∧ hasB was is[k] = true)
theorem free_facts {t : Term} {x : ByteArray} {e : Exp} {y : Term × Used} (h1 : Formed (.proc t)) (h2 : Formed (.exp e)) (hy : putR t x e = some y) {was is want : List ByteArray} (hw : HasAll (fT t) was) (hi : HasAll (fT y.1) is)
    (ht : (hasB was x = true ∧ HasAll (fE e) want) ∨ (hasB was x = false ∧ want = [])) : FreeFacts x was is want := by
  have hp := put_frees t x e h1.1 (formed_fine h1) h2.1 (formed_fine h2) y hy
  have hx : hasB was x = true ↔ fT t (bytesOf x) = true := by rw [has_iff, hw]
  have hwant : ∀ k, k ∈ want.map bytesOf ↔ fT t (bytesOf x) = true ∧ fE e k = true := by
    intro k
    rcases ht with ⟨h3, h4⟩ | ⟨h3, rfl⟩
    · rw [h4 k]; exact ⟨fun h => ⟨hx.1 h3, h⟩, fun h => h.2⟩
    · rw [h3] at hx
      exact ⟨fun h => by simp at h, fun h => by have := hx.2 h.1; cases this⟩
  refine ⟨fun k h hne => ?_, fun k h => ?_, fun k h => ?_⟩
  · rw [has_iff, hi, hp]
    exact .inl ⟨(hw _).1 (List.mem_map.2 ⟨_, List.getElem_mem h, rfl⟩), fun e => hne (bytes_inj e)⟩
  · rw [has_iff, hi, hp]
    exact .inr ((hwant _).1 (List.mem_map.2 ⟨_, List.getElem_mem h, rfl⟩))
  · have hk := (hi (bytesOf is[k])).1 (List.mem_map.2 ⟨_, List.getElem_mem h, rfl⟩)
    cases hq : hasB want is[k] with
    | true => exact .inl rfl
    | false =>
      rcases (hp _).1 hk with ⟨h3, h4⟩ | h3
      · exact .inr ⟨rfl, fun e => h4 (by rw [e]), by rw [has_iff, hw]; exact h3⟩
      · have := (has_iff want is[k]).2 ((hwant _).2 h3)
        rw [hq] at this; cases this

set_option maxRecDepth 10000 in
set_option maxHeartbeats 4000000 in
theorem row7_any (cs es : List Value) (t : Term) (x : ByteArray) (e : Exp) (hxz : x.size ≤ maxLen) (w : World) (ht : TermAt w.heap.size w cs t) (he : ExpAt w.heap.size w es e) :
    Calls Tryz.prog 7 #[.agg cs.toArray, .string x, .agg es.toArray] w fun e w' => e = .returned (.bool true) ∧ Below w.heap.size w w' := by
  have J14 : ∀ W, Calls Tryz.prog 14 #[] W fun e w' => e = .returned (.bool true) ∧ Below W.heap.size W w' := known_any
  obtain ⟨o0, tx, s0, m0, k0, s1, m1, k1, s2, m2, k2, rfl⟩ := term_shape ht
  obtain ⟨e0, e1, e2, e3, e4, e5, rfl⟩ := exp_shape he
  obtain ⟨W1, hW1⟩ : ∃ W1, W1 = (w.alloc (.cells #[.int .i64 o0, .string tx, .slice s0 m0 k0, .slice s1 m1 k1, .slice s2 m2 k2] 33)).alloc (.cells #[.int .i64 e0, .int .i64 e1, .string e2, .slice e3 e4 e5] 36) := ⟨_, rfl⟩
  have z1 : W1.heap.size = w.heap.size + 2 := by rw [hW1]; simp
  have b1 : Below w.heap.size w W1 := by rw [hW1]; exact ((Below.refl _ w).alloc (Nat.le_refl _) _).alloc (by simp) _
  by_cases hlong : 30 < (x.size : Int)
  · have HW := Lib.hid hW1
    have H14 := J14 W1
    clear hW1
    go_enter Tryz.func7, Tryz.ntmps7
    go_wp2_with (go_at_call 14; rw [← HW.out]; refine H14.mono ?_; rintro e w1 ⟨rfl, hb1⟩)
    go_ret
    exact ⟨rfl, b1.trans (hb1.mono (by omega))⟩
  · have hGB : ∀ W, Below (w.heap.size + 2) W1 W → KeptC w.heap.size w W ∧ w.heap.size ≤ W.heap.size ∧ Below w.heap.size w W := fun W h => by
      have hb := b1.trans (h.mono (by omega))
      exact ⟨Below.keptC hb, hb.size, hb⟩
    have hrd : ∀ W, Below (w.heap.size + 2) W1 W → (W.cell? ⟨w.heap.size, 0, none⟩ = some (.int .i64 o0) ∧ W.cell? ⟨w.heap.size, 1, none⟩ = some (.string tx) ∧ W.cell? ⟨w.heap.size, 2, none⟩ = some (.slice s0 m0 k0) ∧ W.cell? ⟨w.heap.size, 3, none⟩ = some (.slice s1 m1 k1) ∧ W.cell? ⟨w.heap.size, 4, none⟩ = some (.slice s2 m2 k2)) ∧
        W.cell? ⟨w.heap.size + 1, 0, none⟩ = some (.int .i64 e0) ∧ W.cell? ⟨w.heap.size + 1, 1, none⟩ = some (.int .i64 e1) ∧ W.cell? ⟨w.heap.size + 1, 2, none⟩ = some (.string e2) ∧ W.cell? ⟨w.heap.size + 1, 3, none⟩ = some (.slice e3 e4 e5) := fun W hW => by
      have q1 : ∀ o, W.cell? ⟨w.heap.size, o, none⟩ = W1.cell? ⟨w.heap.size, o, none⟩ := fun o => hW.cell (p := ⟨w.heap.size, o, none⟩) (by simp)
      have q2 : ∀ o, W.cell? ⟨w.heap.size + 1, o, none⟩ = W1.cell? ⟨w.heap.size + 1, o, none⟩ := fun o => hW.cell (p := ⟨w.heap.size + 1, o, none⟩) (by simp)
      have q3 : ∀ o, W1.cell? ⟨w.heap.size, o, none⟩ = (w.alloc (.cells #[.int .i64 o0, .string tx, .slice s0 m0 k0, .slice s1 m1 k1, .slice s2 m2 k2] 33)).cell? ⟨w.heap.size, o, none⟩ := fun o => by rw [hW1, World.cell?_alloc_past _ _ _ (by simp)]
      rw [q1, q1, q1, q1, q1, q2, q2, q2, q2, q3, q3, q3, q3, q3, hW1]
      simp only [World.cell?_alloc_at _ _ _ _ rfl, World.cell?_alloc_at _ _ _ _ (show w.heap.size + 1 = (w.alloc (.cells #[.int .i64 o0, .string tx, .slice s0 m0 k0, .slice s1 m1 k1, .slice s2 m2 k2] 33)).heap.size by simp)]
      exact ⟨⟨rfl, rfl, rfl, rfl, rfl⟩, rfl, rfl, rfl, rfl⟩
    have g0 : Below (w.heap.size + 2) W1 W1 := Below.refl _ _
    have K33 := pput_any t x e hxz w.heap.size w W1 _ _ (hGB _ g0).1 (hGB _ g0).2.1 ht he
    obtain ⟨⟨x0, x1, x2, x3, x4⟩, x5, x6, x7, x8⟩ := hrd _ g0
    have HW := Lib.hid hW1
    rw [HW.out] at x0 x1 x2 x3 x4 x5 x6 x7 x8
    obtain ⟨c, hc⟩ : ∃ c, c = putCode t x e := ⟨_, rfl⟩
    rw [← hc] at K33
    have HC := Lib.hid hc
    have HGB := Lib.hid hGB; have HRD := Lib.hid hrd; have HJ14 := Lib.hid J14; have HT := Lib.hid ht; have HE := Lib.hid he
    clear hW1 hc hGB hrd J14 ht he
    go_enter Tryz.func7, Tryz.ntmps7
    go_wp2_with fail
    rw [← HW.out]
    refine K33.mono ?_
    clear K33
    rintro e' w1 ⟨cs', rfl, hP, _, k1⟩
    have k1' : Below (w.heap.size + 2) W1 w1 := by rw [← z1]; exact k1
    rcases hP.out with ⟨hc0, hf, hfe, y, hy, hfy, hty⟩ | ⟨hc0, rfl⟩
    · have hc1 : c = 0 := by rw [HC.out]; exact hc0
      subst hc1
      have hF := formedB_iff.2 hf
      have hFE := formedB_iff.2 hfe
      have hFU := formedB_iff.2 hfy
      obtain ⟨p0, ux, r0, l0, q0, r1, l1, q1, r2, l2, q2, rfl⟩ := term_shape hty
      obtain ⟨W2, hW2⟩ : ∃ W2, W2 = w1.alloc (.cells #[.int .i64 p0, .string ux, .slice r0 l0 q0, .slice r1 l1 q1, .slice r2 l2 q2] 33) := ⟨_, rfl⟩
      have z2 : W2.heap.size = w1.heap.size + 1 := by rw [hW2]; simp
      have b2 : Below w1.heap.size w1 W2 := by rw [hW2]; exact (Below.refl _ w1).alloc (Nat.le_refl _) _
      have k2 : Below (w.heap.size + 2) W1 W2 := k1'.trans (b2.mono (by rw [← z1]; exact k1.size))
      have hru : ∀ W, Below (w1.heap.size + 1) W2 W → W.cell? ⟨w1.heap.size, 0, none⟩ = some (.int .i64 p0) ∧ W.cell? ⟨w1.heap.size, 1, none⟩ = some (.string ux) ∧ W.cell? ⟨w1.heap.size, 2, none⟩ = some (.slice r0 l0 q0) ∧ W.cell? ⟨w1.heap.size, 3, none⟩ = some (.slice r1 l1 q1) ∧ W.cell? ⟨w1.heap.size, 4, none⟩ = some (.slice r2 l2 q2) := fun W hW => by
        have q : ∀ o, W.cell? ⟨w1.heap.size, o, none⟩ = W2.cell? ⟨w1.heap.size, o, none⟩ := fun o => hW.cell (p := ⟨w1.heap.size, o, none⟩) (by simp)
        rw [q, q, q, q, q, hW2]
        simp only [World.cell?_alloc_at _ _ _ _ rfl]
        exact ⟨rfl, rfl, rfl, rfl, rfl⟩
      have hKU : ∀ W, Below (w1.heap.size + 1) W2 W → KeptC w1.heap.size w1 W ∧ w1.heap.size ≤ W.heap.size ∧ Below (w.heap.size + 2) W1 W := fun W hW => by
        have hb := b2.trans (hW.mono (by omega))
        exact ⟨Below.keptC hb, hb.size, k2.trans (hW.mono (by have := k1.size; omega))⟩
      have g2 : Below (w1.heap.size + 1) W2 W2 := Below.refl _ _
      obtain ⟨⟨y0, y1, y2, y3, y4⟩, y5, y6, y7, y8⟩ := HRD.out W2 k2
      obtain ⟨v0, v1, v2, v3, v4⟩ := hru W2 g2
      have HW2 := Lib.hid hW2
      rw [HW2.out] at y0 y1 y2 y3 y4 y5 y6 y7 y8 v0 v1 v2 v3 v4
      have K29 := pfree_ok t hF w.heap.size w W2 _ (HGB.out _ k2).1 (HGB.out _ k2).2.1 HT.out
      have HKU := Lib.hid hKU; have HRU := Lib.hid hru; have HTY := Lib.hid hty; have HFF := Lib.hid hF; have HFE := Lib.hid hFE; have HFU := Lib.hid hFU; have HY := Lib.hid hy
      clear hW2 hKU hru hP hty hf hfe hfy hF hFE hFU hy HC hc0
      go_wp2_with fail
      rw [← HW2.out]
      refine K29.mono ?_
      clear K29
      rintro e' w3 ⟨vw, L1, rfl, s1, hL1, k3⟩
      have k3' : Below (w1.heap.size + 1) W2 w3 := by rw [← z2]; exact k3
      clear y0 y1 y2 y3 y4 y5 y6 y7 y8 v0 v1 v2 v3 v4
      obtain ⟨v0, v1, v2, v3, v4⟩ := HRU.out w3 k3'
      obtain ⟨⟨y0, y1, y2, y3, y4⟩, y5, y6, y7, y8⟩ := HRD.out w3 (HKU.out _ k3').2.2
      go_wp2_with fail
      refine (pfree_ok y.1 HFU.out w1.heap.size w1 w3 _ (HKU.out _ k3').1 (HKU.out _ k3').2.1 HTY.out).mono ?_
      rintro e' w4 ⟨vi, L2, rfl, s2, hL2, k4⟩
      have k4' : Below (w1.heap.size + 1) W2 w4 := k3'.trans (k4.mono (by have := k3'.size; omega))
      clear y0 y1 y2 y3 y4 y5 y6 y7 y8 v0 v1 v2 v3 v4
      obtain ⟨⟨y0, y1, y2, y3, y4⟩, y5, y6, y7, y8⟩ := HRD.out w4 (HKU.out _ k4').2.2
      have s1' := s1.later k4
      have H36 := has_any _ _ L1 x w4 s1'
      have HL1 := Lib.hid s1'; have HL2 := Lib.hid s2
      clear s1 s1' s2
      have HBT : ∀ W, Below (w1.heap.size + 1) W2 W → Below w.heap.size w W := fun W h => (HGB.out _ (HKU.out _ h).2.2).2.2
      cases hhx : hasB L1 x with
      | true =>
        rw [hhx] at H36
        have HHX := Lib.hid hhx; clear hhx
        go_wp2_with (go_at_call 36; refine H36.mono ?_; clear H36; rintro e' w5 ⟨rfl, rfl⟩)
        refine (freeExp_any e HFE.out w.heap.size w w5 _ (HGB.out _ (HKU.out _ k4').2.2).1 (HGB.out _ (HKU.out _ k4').2.2).2.1 HE.out).mono ?_
        rintro e' w6 ⟨vq, L3, rfl, s3, hL3, k6⟩
        have k6' : Below (w1.heap.size + 1) W2 w6 := k4'.trans (k6.mono (by have := k4'.size; omega))
        have HX := Lib.hid (free_facts HFF.out HFE.out HY.out hL1.out hL2.out (.inl ⟨HHX.out, hL3.out⟩))
        obtain ⟨aw, cw, rfl, lw, zw, _, pw⟩ := HL1.out.later k6
        obtain ⟨ai, ci, rfl, li, zi, _, pi⟩ := HL2.out.later k6
        have HS1 := HL1.out.later k6
        have HS2 := HL2.out.later k6
        have HS3 := s3
        obtain ⟨aq, cq, rfl, lq, zq, _, pq⟩ := s3
        have kz := k6'.size
        have HKF := Lib.hid (HBT w6 k6')
        have HS1 := Lib.hid HS1; have HS2 := Lib.hid HS2; have HS3 := Lib.hid HS3
        go_wp2
        go_loopw [14] (fun i wr => ∃ (k : Nat), k ≤ L1.length ∧ i = .int .i64 k ∧ Below w6.heap.size w6 wr) (fun i _ => L1.length - (intOf i).toNat)
        case atStart => exact ⟨0, by omega, rfl, Below.refl _ _⟩
        case round =>
          obtain ⟨k, hk, rfl, hb⟩ := hrel
          by_cases hlt : k < L1.length
          · rcases pw with h0 | ⟨bw, ow, rfl, hBw, hcw⟩
            · rw [h0] at hlt; simp at hlt
            have hcell := (hb.cell (p := ⟨bw, ow + k, none⟩) (by simp; omega)).trans (hcw k hlt)
            have hF1 := HX.out.first k hlt
            obtain ⟨z, hz⟩ : ∃ z, z = L1[k] := ⟨_, rfl⟩
            rw [← hz] at hcell hF1
            have H36 := has_any _ _ L2 z wr (HS2.out.later hb)
            clear hz hcw
            cases hzx : (z.toList == x.toList) with
            | true =>
              clear H36 hF1
              go_wp2
              go_roundw
              case rel => exact ⟨k + 1, by omega, by go_num, hb⟩
              case measure => simp [intOf]; omega
            | false =>
              rw [hF1 (fun e => by rw [e] at hzx; simp at hzx)] at H36
              clear hF1
              go_wp2_with (go_at_call 36; refine H36.mono ?_; clear H36; rintro e' w7 ⟨rfl, rfl⟩)
              go_roundw
              case rel => exact ⟨k + 1, by omega, by go_num, hb⟩
              case measure => simp [intOf]; omega
          · obtain rfl : k = L1.length := by omega
            have hb0 := hb
            clear hb
            go_wp2
            go_loopw [15] (fun i wr => ∃ (k : Nat), k ≤ L3.length ∧ i = .int .i64 k ∧ Below w6.heap.size w6 wr) (fun i _ => L3.length - (intOf i).toNat)
            case atStart => exact ⟨0, by omega, rfl, hb0⟩
            case round =>
              obtain ⟨k, hk, rfl, hb⟩ := hrel
              by_cases hlt : k < L3.length
              · rcases pq with h0 | ⟨bw, ow, rfl, hBw, hcw⟩
                · rw [h0] at hlt; simp at hlt
                have hcell := (hb.cell (p := ⟨bw, ow + k, none⟩) (by simp; omega)).trans (hcw k hlt)
                have hF1 := HX.out.second k hlt
                obtain ⟨z, hz⟩ : ∃ z, z = L3[k] := ⟨_, rfl⟩
                rw [← hz] at hcell hF1
                have H36 := has_any _ _ L2 z wr (HS2.out.later hb)
                rw [hF1] at H36
                clear hz hcw hF1
                go_wp2_with (go_at_call 36; refine H36.mono ?_; clear H36; rintro e' w7 ⟨rfl, rfl⟩)
                go_roundw
                case rel => exact ⟨k + 1, by omega, by go_num, hb⟩
                case measure => simp [intOf]; omega
              · obtain rfl : k = L3.length := by omega
                have hb1 := hb
                clear hb hb0
                go_wp2
                go_loopw [16] (fun i wr => ∃ (k : Nat), k ≤ L2.length ∧ i = .int .i64 k ∧ Below w6.heap.size w6 wr) (fun i _ => L2.length - (intOf i).toNat)
                case atStart => exact ⟨0, by omega, rfl, hb1⟩
                case round =>
                  obtain ⟨k, hk, rfl, hb⟩ := hrel
                  by_cases hlt : k < L2.length
                  · rcases pi with h0 | ⟨bw, ow, rfl, hBw, hcw⟩
                    · rw [h0] at hlt; simp at hlt
                    have hcell := (hb.cell (p := ⟨bw, ow + k, none⟩) (by simp; omega)).trans (hcw k hlt)
                    have hF1 := HX.out.third k hlt
                    obtain ⟨z, hz⟩ : ∃ z, z = L2[k] := ⟨_, rfl⟩
                    rw [← hz] at hcell hF1
                    have H36 := has_any _ _ L3 z wr (HS3.out.later hb)
                    have G36 := has_any _ _ L1 z wr (HS1.out.later hb)
                    clear hz hcw
                    rcases hF1 with hF1 | ⟨hF1, hne, hF2⟩
                    · rw [hF1] at H36
                      clear hF1 G36
                      go_wp2_with (go_at_call 36; refine H36.mono ?_; clear H36; rintro e' w7 ⟨rfl, rfl⟩)
                      go_roundw
                      case rel => exact ⟨k + 1, by omega, by go_num, hb⟩
                      case measure => simp [intOf]; omega
                    · rw [hF1] at H36
                      rw [hF2] at G36
                      have hzx : (z.toList == x.toList) = false := by
                        cases h : (z.toList == x.toList) with
                        | false => rfl
                        | true => exact absurd (bytes_inj (by simpa [ByteArray.toList_eq, bytesOf] using h)) hne
                      clear hF1 hF2 hne
                      go_wp2_with fail
                      refine H36.mono ?_
                      clear H36
                      rintro e' w7 ⟨rfl, rfl⟩
                      go_wp2_with (go_at_call 36; refine G36.mono ?_; clear G36; rintro e' w8 ⟨rfl, rfl⟩)
                      go_roundw
                      case rel => exact ⟨k + 1, by omega, by go_num, hb⟩
                      case measure => simp [intOf]; omega
                  · obtain rfl : k = L2.length := by omega
                    go_wp2_with (go_at_call 14; refine (HJ14.out _).mono ?_; rintro e' w9 ⟨rfl, k9⟩)
                    go_ret
                    exact ⟨rfl, HKF.out.trans ((hb.trans (k9.mono hb.size)).mono HKF.out.size)⟩

      | false =>
        rw [hhx] at H36
        have HHX := Lib.hid hhx; clear hhx
        have HX := Lib.hid (free_facts HFF.out HFE.out HY.out hL1.out hL2.out (.inr ⟨HHX.out, rfl⟩))
        obtain ⟨aw, cw, rfl, lw, zw, _, pw⟩ := HL1.out
        obtain ⟨ai, ci, rfl, li, zi, _, pi⟩ := HL2.out
        have HS1 := HL1.out
        have HS2 := HL2.out
        have HS3 : StrsAt w4.heap.size w4 (.slice none 0 0) [] := StrsAt.nil _ _
        go_wp2_with (go_at_call 36; refine H36.mono ?_; clear H36; rintro e' w5 ⟨rfl, rfl⟩)
        have kz := k4'.size
        have HKF := Lib.hid (HBT w5 k4')
        have HS1 := Lib.hid HS1; have HS2 := Lib.hid HS2; have HS3 := Lib.hid HS3
        go_wp2
        go_loopw [14] (fun i wr => ∃ (k : Nat), k ≤ L1.length ∧ i = .int .i64 k ∧ Below w5.heap.size w5 wr) (fun i _ => L1.length - (intOf i).toNat)
        case atStart => exact ⟨0, by omega, rfl, Below.refl _ _⟩
        case round =>
          obtain ⟨k, hk, rfl, hb⟩ := hrel
          by_cases hlt : k < L1.length
          · rcases pw with h0 | ⟨bw, ow, rfl, hBw, hcw⟩
            · rw [h0] at hlt; simp at hlt
            have hcell := (hb.cell (p := ⟨bw, ow + k, none⟩) (by simp; omega)).trans (hcw k hlt)
            have hF1 := HX.out.first k hlt
            obtain ⟨z, hz⟩ : ∃ z, z = L1[k] := ⟨_, rfl⟩
            rw [← hz] at hcell hF1
            have H36 := has_any _ _ L2 z wr (HS2.out.later hb)
            clear hz hcw
            cases hzx : (z.toList == x.toList) with
            | true =>
              clear H36 hF1
              go_wp2
              go_roundw
              case rel => exact ⟨k + 1, by omega, by go_num, hb⟩
              case measure => simp [intOf]; omega
            | false =>
              rw [hF1 (fun e => by rw [e] at hzx; simp at hzx)] at H36
              clear hF1
              go_wp2_with (go_at_call 36; refine H36.mono ?_; clear H36; rintro e' w7 ⟨rfl, rfl⟩)
              go_roundw
              case rel => exact ⟨k + 1, by omega, by go_num, hb⟩
              case measure => simp [intOf]; omega
          · obtain rfl : k = L1.length := by omega
            have hb0 := hb
            clear hb
            go_wp2
            refine wp_loop_rounds 1 ?_
            rw [rounds_succ]
            go_wp2
            have hb1 := hb0
            go_loopw [16] (fun i wr => ∃ (k : Nat), k ≤ L2.length ∧ i = .int .i64 k ∧ Below w5.heap.size w5 wr) (fun i _ => L2.length - (intOf i).toNat)
            case atStart => exact ⟨0, by omega, rfl, hb1⟩
            case round =>
              obtain ⟨k, hk, rfl, hb⟩ := hrel
              by_cases hlt : k < L2.length
              · rcases pi with h0 | ⟨bw, ow, rfl, hBw, hcw⟩
                · rw [h0] at hlt; simp at hlt
                have hcell := (hb.cell (p := ⟨bw, ow + k, none⟩) (by simp; omega)).trans (hcw k hlt)
                have hF1 := HX.out.third k hlt
                obtain ⟨z, hz⟩ : ∃ z, z = L2[k] := ⟨_, rfl⟩
                rw [← hz] at hcell hF1
                have H36 := has_any _ _ ([] : List ByteArray) z wr (HS3.out.later hb)
                have G36 := has_any _ _ L1 z wr (HS1.out.later hb)
                clear hz hcw
                rcases hF1 with hF1 | ⟨hF1, hne, hF2⟩
                · rw [hF1] at H36
                  clear hF1 G36
                  go_wp2_with (go_at_call 36; refine H36.mono ?_; clear H36; rintro e' w7 ⟨rfl, rfl⟩)
                  go_roundw
                  case rel => exact ⟨k + 1, by omega, by go_num, hb⟩
                  case measure => simp [intOf]; omega
                · rw [hF1] at H36
                  rw [hF2] at G36
                  have hzx : (z.toList == x.toList) = false := by
                    cases h : (z.toList == x.toList) with
                    | false => rfl
                    | true => exact absurd (bytes_inj (by simpa [ByteArray.toList_eq, bytesOf] using h)) hne
                  clear hF1 hF2 hne
                  go_wp2_with fail
                  refine H36.mono ?_
                  clear H36
                  rintro e' w7 ⟨rfl, rfl⟩
                  go_wp2_with (go_at_call 36; refine G36.mono ?_; clear G36; rintro e' w8 ⟨rfl, rfl⟩)
                  go_roundw
                  case rel => exact ⟨k + 1, by omega, by go_num, hb⟩
                  case measure => simp [intOf]; omega
              · obtain rfl : k = L2.length := by omega
                go_wp2_with (go_at_call 14; refine (HJ14.out _).mono ?_; rintro e' w9 ⟨rfl, k9⟩)
                go_ret
                exact ⟨rfl, HKF.out.trans ((hb.trans (k9.mono hb.size)).mono HKF.out.size)⟩
    · have hc1 : c ≠ 0 := by rw [HC.out]; exact hc0
      clear hP HC hc0
      unfold zero5
      have H35 := none_zero (w1.alloc (.cells #[.int .i64 0, .string ⟨#[]⟩, .slice none 0 0, .slice none 0 0, .slice none 0 0] 33))
      unfold zero5 at H35
      have hba : Below w1.heap.size w1 (w1.alloc (.cells #[.int .i64 0, .string ⟨#[]⟩, .slice none 0 0, .slice none 0 0, .slice none 0 0] 33)) := (Below.refl _ w1).alloc (Nat.le_refl _) _
      have hza : (w1.alloc (.cells #[.int .i64 0, .string ⟨#[]⟩, .slice none 0 0, .slice none 0 0, .slice none 0 0] 33)).heap.size = w1.heap.size + 1 := by simp
      have HZA := Lib.hid hza; clear hza
      go_wp2_with (first
        | (go_at_call 35; refine H35.mono ?_; clear H35; rintro e' w2 ⟨rfl, k2⟩)
        | (go_at_call 14; refine (HJ14.out _).mono ?_; rintro e' w3 ⟨rfl, k3⟩))
      go_ret
      have hz := HZA.out
      exact ⟨rfl, b1.trans ((k1.trans ((hba.trans ((k2.trans (k3.mono k2.size)).mono (by omega))).mono k1.size)).mono (by omega))⟩

end Go.Proofs.YtjmlaeofjjhfmaaGreat
