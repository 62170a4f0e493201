/- join: processes beside each other. -/
import Derived.Test.YtjmlaeofjjhfmaaGreatP40
import Derived.Test.YtjmlaeofjjhfmaaGreatP42
import Derived.Test.YtjmlaeofjjhfmaaGreatP24
import Derived.StillTailTactics
set_option linter.unusedVariables false
set_option linter.unusedSimpArgs false
namespace Go.Proofs.YtjmlaeofjjhfmaaGreat
open Go.RowKit Go.Shelf Go.Maps

theorem box_put {w : World} {b : Nat} {cs : Array Value} {ty : TypeId} (h : w.heap[b]? = some (.cells cs ty)) (o : Nat) (v : Value) : (w.setCell ⟨b, o, none⟩ v).heap[b]? = some (.cells (cs.set! o v) ty) := by
  have hlt : b < w.heap.size := (Array.getElem?_eq_some_iff.1 h).1
  unfold World.setCell
  simp only [Array.getElem?_modify, h]
  simp
theorem box_set5 {w : World} {b : Nat} {a0 a1 a2 a3 a4 : Value} (h : w.heap[b]? = some (.cells #[a0, a1, a2, a3, a4] 33)) (v0 v1 v2 v3 v4 : Value) : (((((w.setCell ⟨b, 0, none⟩ v0).setCell ⟨b, 1, none⟩ v1).setCell ⟨b, 2, none⟩ v2).setCell ⟨b, 3, none⟩ v3).setCell ⟨b, 4, none⟩ v4).heap[b]? = some (.cells #[v0, v1, v2, v3, v4] 33) := by
  have := box_put (box_put (box_put (box_put (box_put h 0 v0) 1 v1) 2 v2) 3 v3) 4 v4
  simpa using this
theorem Tryz.results104 : Tryz.f104.results = #[.cell 2 33] := by kernel_rfl
/-- What a box of the call's own does not tell. -/
theorem join_end {B n : Nat} {U wr WB : World} (l : List Term) (cs : List Value)
    (HT : ∀ X : World, KeptC B U X → (∀ b o x, n + 2 ≤ b → wr.cell? ⟨b, o, none⟩ = some x → X.cell? ⟨b, o, none⟩ = some x) → TermAt wr.heap.size X cs (joinT l))
    (hL : ∀ b, n + 1 ≤ b → b < wr.heap.size → WB.heap[b]? = wr.heap[b]?)
    (X : World) (hX : KeptC B U X)
    (hX2 : ∀ (b o : Nat) (x : Value), n ≤ b → WB.cell? ⟨b, o, none⟩ = some x → X.cell? ⟨b, o, none⟩ = some x) :
    TermAt wr.heap.size X cs (joinT l) := by
  refine HT X hX (fun b o x hb hx => hX2 b o x (by omega) ?_)
  exact (World.cell?_of_block (w := wr) (hL b (by omega) (lt_of_cell hx))).trans hx
/-- One more process beside the others. -/
theorem join_step {B N n j : Nat} {U wr WB : World} {cs ds : List Value} (l : List Term) (hl : n + 1 = l.length) (hj : j < n) (hB : B ≤ N) (hzr : N + 2 ≤ wr.heap.size) (hBz : WB.heap.size = wr.heap.size + 1)
    (hAn : CellsAt WB wr.heap.size 0 (ds ++ cs)) (hd : ds.length = 5) (hc : cs.length = 5) (hat : TermAt B U ds (l[j]'(by omega)))
    (HT : ∀ X : World, KeptC B U X → (∀ b o x, N + 2 ≤ b → wr.cell? ⟨b, o, none⟩ = some x → X.cell? ⟨b, o, none⟩ = some x) → TermAt wr.heap.size X cs (joinT (l.drop (j + 1))))
    (hL : ∀ b, N + 2 ≤ b → b < wr.heap.size → WB.heap[b]? = wr.heap[b]?)
    (X : World) (hX : KeptC B U X)
    (hX2 : ∀ (b o : Nat) (x : Value), N + 2 ≤ b → WB.cell? ⟨b, o, none⟩ = some x → X.cell? ⟨b, o, none⟩ = some x) :
    TermAt WB.heap.size X [.int .i64 3, .string ⟨#[]⟩, .slice none 0 0, .slice none 0 0, .slice (some ⟨wr.heap.size, 0, none⟩) 2 2] (joinT (l.drop j)) := by
  have hT := HT X hX (fun b o x hb hx => hX2 b o x hb ((World.cell?_of_block (w := wr) (hL b hb (lt_of_cell hx))).trans hx))
  have hds : l.drop j = l[j]'(by omega) :: l.drop (j + 1) := List.drop_eq_getElem_cons (by omega)
  obtain ⟨u0, us, hus⟩ : ∃ u0 us, l.drop (j + 1) = u0 :: us := ⟨_, _, List.drop_eq_getElem_cons (by omega)⟩
  rw [hds, hus, joinT, ← hus]
  unfold TermAt
  refine ⟨by decide, _, _, _, rfl, ⟨none, 0, rfl, by simp, .inl rfl⟩, ⟨none, 0, rfl, by simp, .inl rfl⟩, ⟨some ⟨wr.heap.size, 0, none⟩, 2, rfl, by simp, .inr ⟨wr.heap.size, 0, rfl, by omega, ?_⟩⟩⟩
  unfold TermsAt TermsAt TermsAt
  have hcell : ∀ i, (h : i < (ds ++ cs).length) → X.cell? ⟨wr.heap.size, 0 + i, none⟩ = some (ds ++ cs)[i] := fun i h => hX2 _ _ _ (by omega) (hAn i h)
  refine ⟨⟨ds, fun i h => ?_, TermAt.keep hX (by omega) _ _ hat⟩, ⟨cs, fun i h => ?_, ?_⟩, trivial⟩
  · have := hcell i (by rw [List.length_append]; omega)
    rw [List.getElem_append_left h] at this
    exact this
  · have := hcell (5 + i) (by rw [List.length_append]; omega)
    rw [List.getElem_append_right (by omega)] at this
    simp only [hd, Nat.add_sub_cancel_left, Nat.zero_add] at this ⊢
    exact this
  · exact TermAt.keep (KeptC.refl _ X) (by omega) _ _ hT
/-- The world behind a round. -/
theorem join_world {w0 wr : World} {N : Nat} {v0 v1 v2 v3 v4 a0 a1 a2 a3 a4 : Value} (hN : N + 1 < wr.heap.size) (hb : Below N w0 wr) (hq : wr.heap[N + 1]? = some (.cells #[a0, a1, a2, a3, a4] 33)) (C : Array Value) :
    Below N w0 ((((((wr.setCell ⟨N + 1, 0, none⟩ v0).setCell ⟨N + 1, 1, none⟩ v1).setCell ⟨N + 1, 2, none⟩ v2).setCell ⟨N + 1, 3, none⟩ v3).setCell ⟨N + 1, 4, none⟩ v4).alloc (.cells C 33)).drew ∧
    ((((((wr.setCell ⟨N + 1, 0, none⟩ v0).setCell ⟨N + 1, 1, none⟩ v1).setCell ⟨N + 1, 2, none⟩ v2).setCell ⟨N + 1, 3, none⟩ v3).setCell ⟨N + 1, 4, none⟩ v4).alloc (.cells C 33)).drew.heap.size = wr.heap.size + 1 ∧
    (∀ b, b ≠ N + 1 → b < wr.heap.size → ((((((wr.setCell ⟨N + 1, 0, none⟩ v0).setCell ⟨N + 1, 1, none⟩ v1).setCell ⟨N + 1, 2, none⟩ v2).setCell ⟨N + 1, 3, none⟩ v3).setCell ⟨N + 1, 4, none⟩ v4).alloc (.cells C 33)).drew.heap[b]? = wr.heap[b]?) ∧
    ((((((wr.setCell ⟨N + 1, 0, none⟩ v0).setCell ⟨N + 1, 1, none⟩ v1).setCell ⟨N + 1, 2, none⟩ v2).setCell ⟨N + 1, 3, none⟩ v3).setCell ⟨N + 1, 4, none⟩ v4).alloc (.cells C 33)).drew.heap[N + 1]? = some (.cells #[v0, v1, v2, v3, v4] 33) ∧
    ((((((wr.setCell ⟨N + 1, 0, none⟩ v0).setCell ⟨N + 1, 1, none⟩ v1).setCell ⟨N + 1, 2, none⟩ v2).setCell ⟨N + 1, 3, none⟩ v3).setCell ⟨N + 1, 4, none⟩ v4).alloc (.cells C 33)).drew.heap[wr.heap.size]? = some (.cells C 33) := by
  obtain ⟨WS, hWS⟩ : ∃ WS, WS = ((((wr.setCell ⟨N + 1, 0, none⟩ v0).setCell ⟨N + 1, 1, none⟩ v1).setCell ⟨N + 1, 2, none⟩ v2).setCell ⟨N + 1, 3, none⟩ v3).setCell ⟨N + 1, 4, none⟩ v4 := ⟨_, rfl⟩
  have hs : WS.heap.size = wr.heap.size := by rw [hWS]; simp [World.setCell]
  have h1 : Below N w0 WS := by rw [hWS]; exact set5 hb (N + 1) (by omega) _ _ _ _ _
  have h2 : WS.heap[N + 1]? = some (.cells #[v0, v1, v2, v3, v4] 33) := by rw [hWS]; exact box_set5 hq _ _ _ _ _
  have h3 : ∀ b, b ≠ N + 1 → WS.heap[b]? = wr.heap[b]? := fun b hb => by
    rw [hWS, Below.heap_setCell _ _ _ _ (by simpa using hb), Below.heap_setCell _ _ _ _ (by simpa using hb), Below.heap_setCell _ _ _ _ (by simpa using hb), Below.heap_setCell _ _ _ _ (by simpa using hb), Below.heap_setCell _ _ _ _ (by simpa using hb)]
  rw [← hWS]
  clear hWS
  refine ⟨(h1.alloc (by omega) _).drew, by simp [hs], fun b hb hlt => ?_, ?_, ?_⟩
  · exact (Below.heap_alloc _ _ _ (by omega)).trans (h3 b hb)
  · exact (Below.heap_alloc _ _ _ (by omega)).trans h2
  · have := World.alloc_heap_new WS (.cells C 33)
    rw [hs] at this
    exact this
set_option maxRecDepth 10000 in
set_option maxHeartbeats 2000000 in
theorem beside_any (l : List Term) (hlen : l.length ≤ 1000) (B : Nat) (U w : World) (v : Value) (hU : KeptC B U w) (hB : B ≤ w.heap.size) (hv : SlAt B v l.length (fun b off => TermsAt B U b off l)) :
    Calls Tryz.prog 104 #[v] w fun e w' => ∃ cs', e = .returned (.agg cs'.toArray) ∧ Below w.heap.size w w' ∧
      ∀ X : World, KeptC B U X → (∀ b o x, w.heap.size ≤ b → w'.cell? ⟨b, o, none⟩ = some x → X.cell? ⟨b, o, none⟩ = some x) → TermAt w'.heap.size X cs' (joinT l) := by
  obtain ⟨a, cap, rfl, hl, hx⟩ := hv
  by_cases h0 : l.length = 0
  · have hnil : l = [] := List.length_eq_zero_iff.1 h0
    subst hnil
    go_enter Tryz.func104, Tryz.ntmps104
    go_wp2
    simp [bodyPost, results, Tryz.results104, go_sem]
    refine ⟨(Below.refl _ w).alloc (Nat.le_refl _) _, fun X _ _ => ?_⟩
    rw [joinT]
    unfold TermAt
    exact ⟨by decide, .slice none 0 0, .slice none 0 0, .slice none 0 0, rfl, ⟨none, 0, rfl, by simp, .inl rfl⟩, ⟨none, 0, rfl, by simp, .inl rfl⟩, ⟨none, 0, rfl, by simp, .inl rfl⟩⟩
  · rcases hx with hx | ⟨b, off, rfl, hb, hts⟩
    · exact absurd hx h0
    obtain ⟨n, hn⟩ : ∃ n, l.length = n + 1 := ⟨l.length - 1, by omega⟩
    have hln : n < l.length := by omega
    obtain ⟨d, c, f⟩ := hts.get l b off n hln
    obtain ⟨e0, e1, e2, e3, e4, e5, e6, e7, e8, e9, eA, rfl⟩ := term_shape f
    obtain ⟨W1, hW1⟩ : ∃ W1, W1 = w.alloc (.cells #[.int .i64 0, .string ⟨#[]⟩, .slice none 0 0, .slice none 0 0, .slice none 0 0] 33) := ⟨_, rfl⟩
    have b1 : Below w.heap.size w W1 := by rw [hW1]; exact (Below.refl _ w).alloc (Nat.le_refl _) _
    obtain ⟨r0, r1, r2, r3, r4⟩ := cells5 (c.keep (hU.trans ((Below.keptC b1).mono hB)) hb)
    rw [hW1] at r0 r1 r2 r3 r4
    have i1 : l.length - 1 = n := by omega
    obtain ⟨W2, hW2⟩ : ∃ W2, W2 = W1.alloc (.cells #[.int .i64 e0, .string e1, .slice e2 e3 e4, .slice e5 e6 e7, .slice e8 e9 eA] 33) := ⟨_, rfl⟩
    have z1 : W1.heap.size = w.heap.size + 1 := by rw [hW1]; simp
    have z2 : W2.heap.size = w.heap.size + 2 := by rw [hW2]; simp; omega
    have b2 : Below w.heap.size w W2 := by rw [hW2]; exact b1.alloc (by omega) _
    have k0 : W2.heap[w.heap.size]? = some (.cells #[.int .i64 0, .string ⟨#[]⟩, .slice none 0 0, .slice none 0 0, .slice none 0 0] 33) := by
      rw [hW2, Below.heap_alloc _ _ _ (by omega), hW1]; exact World.alloc_heap_new w _
    have k1 : W2.heap[w.heap.size + 1]? = some (.cells #[.int .i64 e0, .string e1, .slice e2 e3 e4, .slice e5 e6 e7, .slice e8 e9 eA] 33) := by
      have := World.alloc_heap_new W1 (.cells #[.int .i64 e0, .string e1, .slice e2 e3 e4, .slice e5 e6 e7, .slice e8 e9 eA] 33)
      rw [hW2, ← z1]; exact this
    have HW2 := Lib.hid hW2
    have HW1 := Lib.hid hW1
    have HN := Lib.hid hn
    have hstart : ∀ X : World, KeptC B U X → (∀ b o x, w.heap.size + 2 ≤ b → W2.cell? ⟨b, o, none⟩ = some x → X.cell? ⟨b, o, none⟩ = some x) → TermAt W2.heap.size X [.int .i64 e0, .string e1, .slice e2 e3 e4, .slice e5 e6 e7, .slice e8 e9 eA] (joinT (l.drop n)) := fun X hX _ => by
      have e : l.drop n = [l[n]] := by rw [List.drop_eq_getElem_cons hln, List.drop_of_length_le (by omega)]
      rw [e, joinT]
      exact TermAt.keep hX (by omega) _ _ f
    have HS := Lib.hid hstart
    have i0 : ((n : Int) + 1 == 0) = false := by simp; omega
    rw [hn]
    clear hW1 hW2 hn hstart
    go_enter Tryz.func104, Tryz.ntmps104
    go_wp2
    rw [← HW1.out, ← HW2.out]
    go_loopw [4] (fun i wr => ∃ (k : Nat) (c0 : Int) (c1 : ByteArray) (c2 : Option Addr) (c3 c4 : Nat) (c5 : Option Addr) (c6 c7 : Nat) (c8 : Option Addr) (c9 cA : Nat), k ≤ n ∧ i = .int .i64 ((k : Int) - 1) ∧ Below w.heap.size w wr ∧ w.heap.size + 2 ≤ wr.heap.size ∧
      wr.heap[w.heap.size]? = some (.cells #[.int .i64 0, .string ⟨#[]⟩, .slice none 0 0, .slice none 0 0, .slice none 0 0] 33) ∧
      wr.heap[w.heap.size + 1]? = some (.cells #[.int .i64 c0, .string c1, .slice c2 c3 c4, .slice c5 c6 c7, .slice c8 c9 cA] 33) ∧
      Hid (∀ X : World, KeptC B U X → (∀ b o x, w.heap.size + 2 ≤ b → wr.cell? ⟨b, o, none⟩ = some x → X.cell? ⟨b, o, none⟩ = some x) → TermAt wr.heap.size X [.int .i64 c0, .string c1, .slice c2 c3 c4, .slice c5 c6 c7, .slice c8 c9 cA] (joinT (l.drop k)))) (fun i _ => (intOf i + 1).toNat)
    case atStart => exact ⟨n, _, _, _, _, _, _, _, _, _, _, _, Nat.le_refl _, by congr 1; omega, b2, by omega, k0, k1, HS⟩
    case round =>
      obtain ⟨k, c0, c1, c2, c3, c4, c5, c6, c7, c8, c9, cA, hk, rfl, hbr, hzr, q0, q1, HT⟩ := hrel
      have m0 : wr.cell? ⟨w.heap.size + 1, 0, none⟩ = some (.int .i64 c0) := by simp [World.cell?, q1]
      have m1 : wr.cell? ⟨w.heap.size + 1, 1, none⟩ = some (.string c1) := by simp [World.cell?, q1]
      have m2 : wr.cell? ⟨w.heap.size + 1, 2, none⟩ = some (.slice c2 c3 c4) := by simp [World.cell?, q1]
      have m3 : wr.cell? ⟨w.heap.size + 1, 3, none⟩ = some (.slice c5 c6 c7) := by simp [World.cell?, q1]
      have m4 : wr.cell? ⟨w.heap.size + 1, 4, none⟩ = some (.slice c8 c9 cA) := by simp [World.cell?, q1]
      have hf1 : ∀ o, wr.frozen? ⟨w.heap.size + 1, o, none⟩ = false := fun o => by simp [World.frozen?, q1]
      rcases Nat.eq_zero_or_pos k with rfl | hpos
      · obtain ⟨x0, x1, x2, x3, x4, xf⟩ := Zero33.cells q0
        go_wp2
        simp [bodyPost, results, Tryz.results104, go_sem, x0, x1, x2, x3, x4]
        refine ⟨set5 hbr w.heap.size (Nat.le_refl _) _ _ _ _ _, fun X hX hX2 => ?_⟩
        exact join_end (n := w.heap.size) l _ (by have h := HT.out; rw [List.drop_zero] at h; exact h) (later5 (Later.refl (w.heap.size + 1) wr) w.heap.size (Nat.lt_succ_self _) (.int .i64 c0) (.string c1) (.slice c2 c3 c4) (.slice c5 c6 c7) (.slice c8 c9 cA)).2 X hX hX2
      · obtain ⟨j, rfl⟩ : ∃ j, k = j + 1 := ⟨k - 1, by omega⟩
        obtain ⟨d', c', f'⟩ := hts.get l b off j (by omega)
        obtain ⟨g0, g1, g2, g3, g4, g5, g6, g7, g8, g9, gA, rfl⟩ := term_shape f'
        have HF := Lib.hid f'
        obtain ⟨s0, s1, s2, s3, s4⟩ := cells5 (c'.keep (hU.trans ((Below.keptC hbr).mono hB)) hb)
        have i3 : ((j + 1 : Nat) : Int) - 1 = (j : Int) := by omega
        have i4 : (j : Int) < (n : Int) + 1 := by omega
        rw [i3]
        go_wp2
        go_still_tail 5, (by kernel_rfl)
        have hlt1 : w.heap.size + 1 < wr.heap.size := by omega
        have y0 : ((wr.alloc (.cells #[.int .i64 g0, .string g1, .slice g2 g3 g4, .slice g5 g6 g7, .slice g8 g9 gA, .int .i64 c0, .string c1, .slice c2 c3 c4, .slice c5 c6 c7, .slice c8 c9 cA] 33)).drew).cell? ⟨w.heap.size + 1, 0, none⟩ = some (.int .i64 c0) := (World.cell?_alloc_past _ _ _ hlt1).trans m0
        have y1 : ((wr.alloc (.cells #[.int .i64 g0, .string g1, .slice g2 g3 g4, .slice g5 g6 g7, .slice g8 g9 gA, .int .i64 c0, .string c1, .slice c2 c3 c4, .slice c5 c6 c7, .slice c8 c9 cA] 33)).drew).cell? ⟨w.heap.size + 1, 1, none⟩ = some (.string c1) := (World.cell?_alloc_past _ _ _ hlt1).trans m1
        have y2 : ((wr.alloc (.cells #[.int .i64 g0, .string g1, .slice g2 g3 g4, .slice g5 g6 g7, .slice g8 g9 gA, .int .i64 c0, .string c1, .slice c2 c3 c4, .slice c5 c6 c7, .slice c8 c9 cA] 33)).drew).cell? ⟨w.heap.size + 1, 2, none⟩ = some (.slice c2 c3 c4) := (World.cell?_alloc_past _ _ _ hlt1).trans m2
        have y3 : ((wr.alloc (.cells #[.int .i64 g0, .string g1, .slice g2 g3 g4, .slice g5 g6 g7, .slice g8 g9 gA, .int .i64 c0, .string c1, .slice c2 c3 c4, .slice c5 c6 c7, .slice c8 c9 cA] 33)).drew).cell? ⟨w.heap.size + 1, 3, none⟩ = some (.slice c5 c6 c7) := (World.cell?_alloc_past _ _ _ hlt1).trans m3
        have y4 : ((wr.alloc (.cells #[.int .i64 g0, .string g1, .slice g2 g3 g4, .slice g5 g6 g7, .slice g8 g9 gA, .int .i64 c0, .string c1, .slice c2 c3 c4, .slice c5 c6 c7, .slice c8 c9 cA] 33)).drew).cell? ⟨w.heap.size + 1, 4, none⟩ = some (.slice c8 c9 cA) := (World.cell?_alloc_past _ _ _ hlt1).trans m4
        have yf : ∀ o, ((wr.alloc (.cells #[.int .i64 g0, .string g1, .slice g2 g3 g4, .slice g5 g6 g7, .slice g8 g9 gA, .int .i64 c0, .string c1, .slice c2 c3 c4, .slice c5 c6 c7, .slice c8 c9 cA] 33)).drew).frozen? ⟨w.heap.size + 1, o, none⟩ = false := fun o => (World.frozen?_alloc_past _ _ _ hlt1).trans (hf1 o)
        change wpList _ _ _ _ _ wr.drew
        go_wp2
        have HLN := Lib.hid (show n + 1 = l.length ∧ j < n from ⟨HN.out.symm, by omega⟩)
        go_roundw
        case rel =>
          obtain ⟨w1, w2, w3, w4, w5⟩ := join_world (v0 := .int .i64 3) (v1 := .string ⟨#[]⟩) (v2 := .slice none 0 0) (v3 := .slice none 0 0) (v4 := .slice (some ⟨wr.heap.size, 0, none⟩) 2 2) hlt1 hbr q1 #[.int .i64 g0, .string g1, .slice g2 g3 g4, .slice g5 g6 g7, .slice g8 g9 gA, .int .i64 c0, .string c1, .slice c2 c3 c4, .slice c5 c6 c7, .slice c8 c9 cA]
          obtain ⟨WB, hWB⟩ : ∃ WB, WB = ((((((wr.setCell ⟨w.heap.size + 1, 0, none⟩ (.int .i64 3)).setCell ⟨w.heap.size + 1, 1, none⟩ (.string ⟨#[]⟩)).setCell ⟨w.heap.size + 1, 2, none⟩ (.slice none 0 0)).setCell ⟨w.heap.size + 1, 3, none⟩ (.slice none 0 0)).setCell ⟨w.heap.size + 1, 4, none⟩ (.slice (some ⟨wr.heap.size, 0, none⟩) 2 2)).alloc (.cells #[.int .i64 g0, .string g1, .slice g2 g3 g4, .slice g5 g6 g7, .slice g8 g9 gA, .int .i64 c0, .string c1, .slice c2 c3 c4, .slice c5 c6 c7, .slice c8 c9 cA] 33)).drew := ⟨_, rfl⟩
          rw [← hWB] at w1 w2 w3 w4 w5 ⊢
          clear hWB
          have HCA : CellsAt WB wr.heap.size 0 ([.int .i64 g0, .string g1, .slice g2 g3 g4, .slice g5 g6 g7, .slice g8 g9 gA] ++ [.int .i64 c0, .string c1, .slice c2 c3 c4, .slice c5 c6 c7, .slice c8 c9 cA]) := by
            intro i hi
            have : WB.cell? ⟨wr.heap.size, 0 + i, none⟩ = #[Value.int .i64 g0, .string g1, .slice g2 g3 g4, .slice g5 g6 g7, .slice g8 g9 gA, .int .i64 c0, .string c1, .slice c2 c3 c4, .slice c5 c6 c7, .slice c8 c9 cA][i]? := by simp [World.cell?, w5]
            rw [this]
            match i, hi with
            | 0, _ => rfl
            | 1, _ => rfl
            | 2, _ => rfl
            | 3, _ => rfl
            | 4, _ => rfl
            | 5, _ => rfl
            | 6, _ => rfl
            | 7, _ => rfl
            | 8, _ => rfl
            | 9, _ => rfl
          refine ⟨j, 3, ⟨#[]⟩, none, 0, 0, none, 0, 0, some ⟨wr.heap.size, 0, none⟩, 2, 2, Nat.le_of_lt HLN.out.2, rfl, w1, by rw [w2]; exact Nat.le_succ_of_le hzr, (w3 _ (Nat.ne_of_lt (Nat.lt_succ_self _)) (Nat.lt_of_succ_lt hlt1)).trans q0, w4, Lib.hid (fun X hX hX2 => ?_)⟩
          exact join_step (N := w.heap.size) l HLN.out.1 HLN.out.2 hB hzr w2 HCA rfl rfl HF.out HT.out (fun b hb hlt => w3 b (Nat.ne_of_gt hb) hlt) X hX hX2
        case measure => simp [intOf]
end Go.Proofs.YtjmlaeofjjhfmaaGreat
