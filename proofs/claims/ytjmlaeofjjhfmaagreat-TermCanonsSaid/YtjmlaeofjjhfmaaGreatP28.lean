/- The reference looks at a message that is taken in a place. -/
import Derived.Test.YtjmlaeofjjhfmaaGreatP27
import Derived.BigQuiet
import Derived.Deep.QuietTactic
set_option linter.unusedVariables false
set_option linter.unusedSimpArgs false
namespace Go.Proofs.YtjmlaeofjjhfmaaGreat
open Go.RowKit Go.Shelf Go.Maps

theorem grow3p {W : World} {A : Nat} {v : Value} {n : Nat} {xs : List Value} (h : W.ownsRow A 3 1 v n xs) (x : Int) (hA : A ≤ W.heap.size) (hn : n ≤ 100000) :
    ∃ g cp w3, (Builtin.append_ #[93, 93] 93 #[v, .slice (some ⟨W.heap.size, 0, none⟩) 1 1]).run Tryz.prog (W.alloc (.cells #[.int .i64 x] 3)) = .ok (.slice (some ⟨g, 0, none⟩) (n + 1) cp) w3 ∧ w3.ownsRow A 3 1 (.slice (some ⟨g, 0, none⟩) (n + 1) cp) (n + 1) (xs ++ [.int .i64 x]) ∧
      (W.alloc (.cells #[.int .i64 x] 3)).grownBy w3 v.ownBlock ∧ ((Value.slice (some ⟨g, 0, none⟩) (n + 1) cp).ownBlock = v.ownBlock ∨ (Value.slice (some ⟨g, 0, none⟩) (n + 1) cp).ownBlock = some (W.alloc (.cells #[.int .i64 x] 3)).heap.size) := by
  obtain ⟨i0, hi, hz0, hz1, hz2⟩ := info_parts info3
  have bA : Below W.heap.size W (W.alloc (.cells #[.int .i64 x] 3)) := (Below.refl _ W).alloc (Nat.le_refl _) _
  have hoA := ownsRow_keep h (grown_of_below bA) (fun g _ e => by cases e)
  obtain ⟨v', w3, hr, q1, q2, _, q4⟩ := run_append_own_at (P := Tryz.prog) (W.alloc (.cells #[.int .i64 x] 3)) A 93 93 3 i0 (.int .i64 0) 1 8 Tryz.underlying93 hi hz0 hz1 hz2 rfl (by decide) _ _ _ hoA
    ⟨W.heap.size, 0, none⟩ 1 1 [.int .i64 x] rfl (by
      intro j u hj
      have e : (⟨W.heap.size, 0, none⟩ : Addr).add j = ⟨W.heap.size, j, none⟩ := by unfold Addr.add; by_cases h : j = 0 <;> simp [h]
      rw [e, World.cell?_alloc_at _ _ _ _ rfl]
      simpa using hj) (by simp [Value.oneCell']) (by unfold maxLen; omega) (by omega) (by simp; omega)
  obtain ⟨_, ⟨_, h0⟩ | ⟨gg, cp, cur, hvf, _⟩⟩ := id q1
  · omega
  subst hvf
  exact ⟨gg, cp, w3, hr, q1, q2, q4⟩
theorem chStep_in {ch : List ByteArray} {t : ByteArray} (h : inSet (ch.map bytesOf) (bytesOf t) = true) : chStep ch t = ch := by unfold chStep; rw [if_pos h]
theorem chStep_new {ch : List ByteArray} {t : ByteArray} (h : inSet (ch.map bytesOf) (bytesOf t) = false) : chStep ch t = ch ++ [t] := by unfold chStep; rw [if_neg (by rw [h]; decide)]
theorem inSet_at {ch : List ByteArray} {t : ByteArray} {k : Nat} (h : k < ch.length) (he : bytesOf ch[k] = bytesOf t) : inSet (ch.map bytesOf) (bytesOf t) = true := by
  unfold inSet
  exact List.any_eq_true.2 ⟨bytesOf ch[k], List.mem_map.2 ⟨_, List.getElem_mem h, rfl⟩, by rw [he]; simp⟩
theorem inSet_more {ch : List ByteArray} {t : ByteArray} {k : Nat} (h : k < ch.length) (h0 : inSet ((ch.take k).map bytesOf) (bytesOf t) = false) (he : bytesOf ch[k] ≠ bytesOf t) : inSet ((ch.take (k + 1)).map bytesOf) (bytesOf t) = false := by
  unfold inSet at h0 ⊢
  rw [List.take_succ_eq_append_getElem h, List.map_append, List.any_append, h0]
  simp [he]
theorem bytes_of_toList {x y : ByteArray} (h : (x.toList == y.toList) = true) : bytesOf x = bytesOf y := by
  rw [ByteArray.toList_eq, ByteArray.toList_eq, beq_iff_eq] at h; exact h
theorem bytes_ne_toList {x y : ByteArray} (h : (x.toList == y.toList) = false) : bytesOf x ≠ bytesOf y := by
  intro e
  rw [ByteArray.toList_eq, ByteArray.toList_eq] at h
  have : (bytesOf x == bytesOf y) = true := by rw [e]; simp
  rw [show x.data.toList = bytesOf x from rfl, show y.data.toList = bytesOf y from rfl, this] at h
  cases h

set_option maxRecDepth 10000 in
set_option maxHeartbeats 4000000 in
theorem join_any (U : List UInt8 → Int × Int) (A sb X : Nat) (ch pl : List ByteArray) (t : ByteArray) (htz : t.size ≤ maxLen) (na : Option Addr) (nk nc : Nat) (gr : Int) (hU : U (bytesOf t) = (gr, (nk : Int))) (w : World) (hs : SeenAt U A sb X ch pl w) (hX : X < w.heap.size) (hsX : sb ≠ X) (hA : A ≤ w.heap.size) (hn : ch.length ≤ 5000) :
    Calls Tryz.prog 124 #[.pointer (some ⟨sb, 0, none⟩), .agg #[.string t, .slice na nk nc], .int .i64 gr] w fun e w' => e = .returned (.tuple #[]) ∧ SeenAt U A sb X (chStep ch t) pl w' ∧ Below sb w w' ∧ w'.heap[X]? = w.heap[X]? := by
  obtain ⟨vch, vm, va, vp, hS⟩ := hs
  obtain ⟨W0, hW0⟩ : ∃ W0, W0 = w.alloc (.cells #[.string t, .slice na nk nc] 144) := ⟨_, rfl⟩
  have hb0 : Below w.heap.size w W0 := by rw [hW0]; exact (Below.refl _ w).alloc (Nat.le_refl _) _
  have hz : W0.heap.size = w.heap.size + 1 := by rw [hW0]; simp
  have kb : W0.heap[w.heap.size]? = some (.cells #[.string t, .slice na nk nc] 144) := by rw [hW0]; exact World.alloc_heap_new w _
  have hltS := hS.lt
  obtain ⟨ca, cc, rfl, _, hcc⟩ := owns_cells (by omega) hS.rch
  obtain ⟨ma, mc, hvm, _, hmc⟩ := owns_cells (by omega) hS.rm
  obtain ⟨ta, tc, hva, _, htc⟩ := owns_cells (by omega) hS.ra
  rw [show (manyL U ch).length = ch.length from List.length_map ..] at hvm
  rw [show (atL U ch).length = ch.length from List.length_map ..] at hva
  subst hvm
  subst hva
  have hrd : ∀ W, Below W0.heap.size W0 W → Seen A sb X ch pl (.slice ca ch.length cc) (.slice ma ch.length mc) (.slice ta ch.length tc) vp false (manyL U ch) (atL U ch) W ∧ W.cell? ⟨w.heap.size, 0, none⟩ = some (.string t) ∧ W.cell? ⟨w.heap.size, 1, none⟩ = some (.slice na nk nc) ∧ Below w.heap.size w W := fun W h => by
    have q := (h.block w.heap.size (by omega)).trans kb
    have hbW := hb0.trans (h.mono (by omega))
    exact ⟨hS.later hbW, by simp [World.cell?, q], by simp [World.cell?, q], hbW⟩
  have HW := Lib.hid hW0
  have HZ := Lib.hid hz
  have HU := Lib.hid hU
  have KB := Lib.hid kb
  clear hW0 hz hU kb
  go_enter Tryz.func124, Tryz.ntmps124
  go_wp2_with fail
  rw [← HW.out]
  go_loopw [6] (fun i wr => ∃ (k : Nat), k ≤ ch.length ∧ i = .int .i64 k ∧ inSet ((ch.take k).map bytesOf) (bytesOf t) = false ∧ Below W0.heap.size W0 wr) (fun i _ => ch.length - (intOf i).toNat)
  case atStart => exact ⟨0, by omega, rfl, rfl, Below.refl _ _⟩
  case round =>
    obtain ⟨k, hk, rfl, hin, hb⟩ := hrel
    have HIN := Lib.hid hin
    clear hin
    obtain ⟨hSr, x0, x1, hbw⟩ := hrd wr hb
    obtain ⟨e0, e1, e2, e3, e4, ef⟩ := hSr.cells
    by_cases hlt : k < ch.length
    · have hne : ¬ ch.length = 0 := by omega
      obtain ⟨cg, rfl, hcg, _, hcell⟩ := hcc.resolve_left hne
      have ck : wr.cell? ⟨cg, k, none⟩ = some (.string ch[k]) := by
        have := hcell k (by simp [strVals]; exact hlt)
        rw [Nat.zero_add] at this
        rw [(hbw.cell (p := ⟨cg, k, none⟩) hcg), this]
        simp [strVals]
      have hatk := Lib.hid (fun (h : bytesOf ch[k] = bytesOf t) => inSet_at hlt h)
      have hmorek := Lib.hid (fun (h : bytesOf ch[k] ≠ bytesOf t) => inSet_more hlt HIN.out h)
      obtain ⟨x, hx⟩ : ∃ x, x = ch[k] := ⟨_, rfl⟩
      rw [← hx] at ck hatk hmorek
      have HX := Lib.hid hx
      clear hx hcell
      cases he : (x.toList == t.toList) with
      | false =>
        have hne2 := Lib.hid (bytes_ne_toList he)
        go_wp2
        go_quiet (fail)
        go_wp2
        go_roundw
        case rel => exact ⟨k + 1, by omega, by go_num, hmorek.out hne2.out, below_drewN hb _⟩
        case measure => simp [intOf]; omega
      | true =>
        go_wp2
        go_quiet (fail)
        obtain ⟨W1, hW1⟩ : ∃ W1, W1 = wr.drewN nq := ⟨_, rfl⟩
        have hb1 : Below W0.heap.size W0 W1 := by rw [hW1]; exact below_drewN hb _
        rw [← hW1]
        clear hW1 e0 e1 e2 e3 e4 ef x0 x1 ck
        obtain ⟨hS1, _, _, hbw1⟩ := hrd W1 hb1
        have hbx := bytes_of_toList he
        have hne2 : ¬ (manyL U ch).length = 0 := by rw [show (manyL U ch).length = ch.length from List.length_map ..]; exact hne
        have hne3 : ¬ (atL U ch).length = 0 := by rw [show (atL U ch).length = ch.length from List.length_map ..]; exact hne
        obtain ⟨mg, rfl, hmg, _, hmcell⟩ := hmc.resolve_left hne2
        obtain ⟨tg, rfl, htg, _, htcell⟩ := htc.resolve_left hne3
        have hmk : ∀ W, Below w.heap.size w W → W.cell? ⟨mg, k, none⟩ = some (.int .i64 nk) := fun W h => by
          have := hmcell k (by simp [manyL]; exact hlt)
          rw [Nat.zero_add] at this
          rw [(h.cell (p := ⟨mg, k, none⟩) hmg), this]
          simp only [manyL, List.getElem_map]
          rw [← HX.out, hbx, HU.out]
        have htk : ∀ W, Below w.heap.size w W → W.cell? ⟨tg, k, none⟩ = some (.int .i64 gr) := fun W h => by
          have := htcell k (by simp [atL]; exact hlt)
          rw [Nat.zero_add] at this
          rw [(h.cell (p := ⟨tg, k, none⟩) htg), this]
          simp only [atL, List.getElem_map]
          rw [← HX.out, hbx, HU.out]
        have hS2 := (hS1.setBad false).later (Below.refl (W1.setCell ⟨sb, 4, none⟩ (.bool false)).heap.size _).drew
        have hD1 : Below w.heap.size w W1.drew := hbw1.drew
        obtain ⟨_, f1, f2, _, f4, _⟩ := (hS1.later (Below.refl _ W1).drew).cells
        obtain ⟨_, _, f5, _⟩ := hrd W1.drew hb1.drew
        have f6 := hmk _ hD1
        have f7 := htk _ hD1
        have ff := (hS1.later (Below.refl _ W1).drew).cells.2.2.2.2.2
        obtain ⟨_, g1, g2, _, g4, _⟩ := hS2.cells
        have hsl : ¬ sb = w.heap.size := by omega
        have hlowS := hS.low
        have hsm : ¬ sb = mg := by have := hS.rm.lt mg rfl; omega
        have hst : ¬ sb = tg := by have := hS.ra.lt tg rfl; omega
        have g5 : (W1.setCell ⟨sb, 4, none⟩ (.bool false)).drew.cell? ⟨w.heap.size, 1, none⟩ = some (.slice na nk nc) := (World.cell?_of_block (w := W1.drew) (Below.heap_setCell W1 ⟨sb, 4, none⟩ _ w.heap.size (by simp; omega))).trans f5
        have g6 : (W1.setCell ⟨sb, 4, none⟩ (.bool false)).drew.cell? ⟨mg, k, none⟩ = some (.int .i64 nk) := (World.cell?_of_block (w := W1.drew) (Below.heap_setCell W1 ⟨sb, 4, none⟩ _ mg (by simp; omega))).trans f6
        have g7 : (W1.setCell ⟨sb, 4, none⟩ (.bool false)).drew.cell? ⟨tg, k, none⟩ = some (.int .i64 gr) := (World.cell?_of_block (w := W1.drew) (Below.heap_setCell W1 ⟨sb, 4, none⟩ _ tg (by simp; omega))).trans f7
        have HS1 := Lib.hid hS1
        have HB1 := Lib.hid hbw1
        have HNE := Lib.hid hne
        have hX' : Hid (W1.heap[X]? = w.heap[X]?) := Lib.hid (hbw1.block X hX)
        have HS2 := Lib.hid hS2
        have HAT := Lib.hid (hatk.out hbx)
        clear hmk htk hmcell htcell hcc hmc htc hS1 hbw1 hb1 hS2 hD1 hne2 hne3 hatk hmorek
        go_wp2
        go_region_held3 (fun w' => w'.cell? ⟨sb, 4, none⟩ = some (.bool false) ∧ w'.cell? ⟨sb, 1, none⟩ = some (.slice (some ⟨mg, 0, none⟩) ch.length mc) ∧ w'.cell? ⟨sb, 2, none⟩ = some (.slice (some ⟨tg, 0, none⟩) ch.length tc) ∧ w'.cell? ⟨mg, k, none⟩ = some (.int .i64 nk) ∧ w'.cell? ⟨tg, k, none⟩ = some (.int .i64 gr) ∧ w'.cell? ⟨w.heap.size, 1, none⟩ = some (.slice na nk nc)) (go_keep) (fail)
        go_wp2
        refine bodyPost_ret (results_none rfl _ _ _) rfl ?_
        refine ⟨rfl, ⟨_, _, _, _, by rw [chStep_in HAT.out]; exact HS2.out⟩, ?_, ?_⟩
        · exact ((HB1.out.mono (by omega)).setCell (show sb ≤ (⟨sb, 4, none⟩ : Addr).block from Nat.le_refl _) _).drew
        · exact (Below.heap_setCell W1 ⟨sb, 4, none⟩ _ X (by simp; omega)).trans hX'.out
    · obtain rfl : k = ch.length := by omega
      have hin := HIN.out
      rw [List.take_length] at hin
      have hzr := hb.size
      have hZ0 := HZ.out
      have hlowS := hS.low
      have hml : (manyL U ch).length = ch.length := List.length_map ..
      have htl : (atL U ch).length = ch.length := List.length_map ..
      -- the first row
      obtain ⟨g1, cp1, w1, hr1, q1, q2, q4⟩ := grow9 hSr.rch t (by omega) (by omega)
      have bA1 : Below wr.heap.size wr ((wr.alloc (.cells #[.string t] 9)).drew) := ((Below.refl _ wr).alloc (Nat.le_refl _) _).drew
      have zA1 : ((wr.alloc (.cells #[.string t] 9)).drew).heap.size = wr.heap.size + 1 := by simp
      have hSA1 := hSr.later bA1
      have hSa := hSA1.setChans (x := t) htz (by rw [zA1]; omega) (by
        have : strVals (ch ++ [t]) = strVals ch ++ [.string t] := by simp [strVals]
        rw [this]; exact q1) q2 q4
      obtain ⟨Wa, hWa⟩ : ∃ Wa, Wa = w1.setCell ⟨sb, 0, none⟩ (.slice (some ⟨g1, 0, none⟩) (ch.length + 1) cp1) := ⟨_, rfl⟩
      rw [← hWa] at hSa
      have hrow1 := fun r e => (hSA1.rch.lt r e).1
      have hbox1 := (q2.block sb (by rw [zA1]; have := hSr.lt; omega) (fun e => by have := hrow1 sb e.symm; omega)).trans hSA1.box
      have hb1 : Below W0.heap.size W0 wr := hb
      -- blocks that are no row's, and not the box, are kept
      have hk1 : ∀ c, c < wr.heap.size → c ≠ sb → (Value.slice ca ch.length cc).ownBlock ≠ some c → Wa.heap[c]? = wr.heap[c]? := fun c hc h1 h2 => by
        rw [hWa, Below.heap_setCell _ _ _ _ (by simpa using h1)]
        exact (q2.block c (by rw [zA1]; omega) (fun e => h2 e.symm)).trans (bA1.block c hc)
      have zWa : wr.heap.size + 1 ≤ Wa.heap.size := by rw [hWa]; have := q2.size; rw [zA1] at this; simpa using this
      -- the second row
      obtain ⟨g2, cp2, w2, hr2, p1, p2, p4⟩ := grow3 hSa.rm (nk : Int) (by omega) (by omega)
      have bA2 : Below Wa.heap.size Wa ((Wa.alloc (.cells #[.int .i64 nk] 3)).drew) := ((Below.refl _ Wa).alloc (Nat.le_refl _) _).drew
      have zA2 : ((Wa.alloc (.cells #[.int .i64 nk] 3)).drew).heap.size = Wa.heap.size + 1 := by simp
      have hSA2 := hSa.later bA2
      have hSb := hSA2.setMany (by rw [zA2]; omega) p1 p2 p4
      obtain ⟨Wb, hWb⟩ : ∃ Wb, Wb = w2.setCell ⟨sb, 1, none⟩ (.slice (some ⟨g2, 0, none⟩) ((manyL U ch).length + 1) cp2) := ⟨_, rfl⟩
      rw [← hWb] at hSb
      have hrow2 := fun r e => (hSA2.rm.lt r e).1
      have hbox2 := (p2.block sb (by rw [zA2]; have := hSr.lt; omega) (fun e => by have := hrow2 sb e.symm; omega)).trans hSA2.box
      have hk2 : ∀ c, c < Wa.heap.size → c ≠ sb → (Value.slice ma ch.length mc).ownBlock ≠ some c → Wb.heap[c]? = Wa.heap[c]? := fun c hc h1 h2 => by
        rw [hWb, Below.heap_setCell _ _ _ _ (by simpa using h1)]
        exact (p2.block c (by rw [zA2]; omega) (fun e => h2 e.symm)).trans (bA2.block c hc)
      have zWb : Wa.heap.size + 1 ≤ Wb.heap.size := by rw [hWb]; have := p2.size; rw [zA2] at this; simpa using this
      -- the third row
      obtain ⟨g3, cp3, w3, hr3, s1, s2, s4⟩ := grow3p hSb.ra gr (by omega) (by omega)
      have bA3 : Below Wb.heap.size Wb (Wb.alloc (.cells #[.int .i64 gr] 3)) := (Below.refl _ Wb).alloc (Nat.le_refl _) _
      have zA3 : ((Wb.alloc (.cells #[.int .i64 gr] 3))).heap.size = Wb.heap.size + 1 := by simp
      have hSA3 := hSb.later bA3
      have hSc := hSA3.setAts (by rw [zA3]; omega) s1 s2 s4
      obtain ⟨Wc, hWc⟩ : ∃ Wc, Wc = w3.setCell ⟨sb, 2, none⟩ (.slice (some ⟨g3, 0, none⟩) ((atL U ch).length + 1) cp3) := ⟨_, rfl⟩
      rw [← hWc] at hSc
      have hrow3 := fun r e => (hSA3.ra.lt r e).1
      have hbox3 := (s2.block sb (by rw [zA3]; have := hSr.lt; omega) (fun e => by have := hrow3 sb e.symm; omega)).trans hSA3.box
      have hk3 : ∀ c, c < Wb.heap.size → c ≠ sb → (Value.slice ta ch.length tc).ownBlock ≠ some c → Wc.heap[c]? = Wb.heap[c]? := fun c hc h1 h2 => by
        rw [hWc, Below.heap_setCell _ _ _ _ (by simpa using h1)]
        exact (s2.block c (by rw [zA3]; omega) (fun e => h2 e.symm)).trans (bA3.block c hc)
      have hgc : ∀ c, (Value.slice ca ch.length cc).ownBlock = some c → c < w.heap.size := fun c h => (hS.rch.lt c h).2
      have hgm : ∀ c, (Value.slice ma ch.length mc).ownBlock = some c → c < w.heap.size := fun c h => (hS.rm.lt c h).2
      have hgt : ∀ c, (Value.slice ta ch.length tc).ownBlock = some c → c < w.heap.size := fun c h => (hS.ra.lt c h).2
      have hkb : wr.heap[w.heap.size]? = some (.cells #[.string t, .slice na nk nc] 144) := (hb.block _ (by omega)).trans KB.out
      have hkba : Wa.heap[w.heap.size]? = some (.cells #[.string t, .slice na nk nc] 144) := (hk1 _ (by omega) (by omega) (fun e => by have := hgc _ e; omega)).trans hkb
      have hkbb : Wb.heap[w.heap.size]? = some (.cells #[.string t, .slice na nk nc] 144) := (hk2 _ (by omega) (by omega) (fun e => by have := hgm _ e; omega)).trans hkba
      have hXr : wr.heap[X]? = w.heap[X]? := hbw.block X hX
      have hXc : Wc.heap[X]? = w.heap[X]? := ((hk3 X (by omega) (Ne.symm hsX) hS.x3).trans ((hk2 X (by omega) (Ne.symm hsX) hS.x2).trans (hk1 X (by omega) (Ne.symm hsX) hS.x1))).trans hXr
      have hbsb : Below sb w Wc := by
        have n1 : Below sb w ((wr.alloc (.cells #[.string t] 9)).drew) := (hbw.trans (bA1.mono (by omega))).mono (by omega)
        have n2 : Below sb w Wa := by rw [hWa]; exact (n1.grown q2 (by rw [zA1]; omega) (fun r e => by have := hrow1 r e; omega)).setCell (show sb ≤ (⟨sb, 0, none⟩ : Addr).block from Nat.le_refl _) _
        have n3 : Below sb w ((Wa.alloc (.cells #[.int .i64 nk] 3)).drew) := n2.trans (bA2.mono (by omega))
        have n4 : Below sb w Wb := by rw [hWb]; exact (n3.grown p2 (by rw [zA2]; omega) (fun r e => by have := hrow2 r e; omega)).setCell (show sb ≤ (⟨sb, 1, none⟩ : Addr).block from Nat.le_refl _) _
        have n5 : Below sb w ((Wb.alloc (.cells #[.int .i64 gr] 3))) := n4.trans (bA3.mono (by omega))
        rw [hWc]; exact (n5.grown s2 (by rw [zA3]; omega) (fun r e => by have := hrow3 r e; omega)).setCell (show sb ≤ (⟨sb, 2, none⟩ : Addr).block from Nat.le_refl _) _
      have fin : SeenAt U A sb X (chStep ch t) pl Wc := by
        rw [chStep_new hin]
        have e1 : manyL U (ch ++ [t]) = manyL U ch ++ [.int .i64 nk] := by unfold manyL; rw [List.map_append]; simp [HU.out]
        have e2 : atL U (ch ++ [t]) = atL U ch ++ [.int .i64 gr] := by unfold atL; rw [List.map_append]; simp [HU.out]
        rw [← e1, ← e2] at hSc
        exact ⟨_, _, _, _, hSc⟩
      rw [hml] at hWb p1
      rw [htl] at hWc s1
      rw [hml] at hr2
      rw [htl] at hr3
      have FIN := Lib.hid (And.intro fin (And.intro hbsb hXc))
      -- what the three statements read
      have A1 := (hSr.later (Below.refl wr.heap.size wr).drew).cells.1
      have A2 : wr.drew.cell? ⟨w.heap.size, 0, none⟩ = some (.string t) := by show wr.cell? _ = _; simp [World.cell?, hkb]
      have A3 := hSA1.cells.1
      have A4 : ((wr.alloc (.cells #[.string t] 9)).drew).cell? ⟨w.heap.size, 0, none⟩ = some (.string t) := by have q := (bA1.block w.heap.size (by omega)).trans hkb; simp only [World.cell?, q]; rfl
      have A5 : w1.cell? ⟨sb, 0, none⟩ = some (.slice ca ch.length cc) := by simp [World.cell?, hbox1]
      have A6 : w1.frozen? ⟨sb, 0, none⟩ = false := by simp [World.frozen?, hbox1]
      have B1 := Lib.hid (hSa.later (Below.refl Wa.heap.size Wa).drew).cells.2.1
      have B2 : Hid (Wa.drew.cell? ⟨w.heap.size, 1, none⟩ = some (.slice na nk nc)) := Lib.hid (by show Wa.cell? _ = _; simp [World.cell?, hkba])
      have B3 := Lib.hid hSA2.cells.2.1
      have B4 : Hid (((Wa.alloc (.cells #[.int .i64 nk] 3)).drew).cell? ⟨w.heap.size, 1, none⟩ = some (.slice na nk nc)) := Lib.hid (by have q := (bA2.block w.heap.size (by omega)).trans hkba; simp only [World.cell?, q]; rfl)
      have B5 : Hid (w2.cell? ⟨sb, 1, none⟩ = some (.slice ma ch.length mc)) := Lib.hid (by simp [World.cell?, hbox2])
      have B6 : Hid (w2.frozen? ⟨sb, 1, none⟩ = false) := Lib.hid (by simp [World.frozen?, hbox2])
      have C1 := Lib.hid hSb.cells.2.2.1
      have C3 := Lib.hid hSA3.cells.2.2.1
      have C5 : Hid (w3.cell? ⟨sb, 2, none⟩ = some (.slice ta ch.length tc)) := Lib.hid (by simp [World.cell?, hbox3])
      have C6 : Hid (w3.frozen? ⟨sb, 2, none⟩ = false) := Lib.hid (by simp [World.frozen?, hbox3])
      have R2 := Lib.hid hr2
      have R3 := Lib.hid hr3
      have QA := Lib.hid hWa
      have QB := Lib.hid hWb
      have QC := Lib.hid hWc
      clear hr2 hr3 hWa hWb hWc fin hbsb hXc hXr hkb hkba hkbb hgc hgm hgt hk1 hk2 hk3 hbox1 hbox2 hbox3 hrow1 hrow2 hrow3 hSc hSA3 hSb hSA2 hSa hSA1 hSr hS bA1 bA2 bA3 zA1 zA2 zA3 zWa zWb q1 q2 q4 p1 p2 p4 s1 s2 s4 hml htl hcc hmc htc hrd hin hb1 hb hzr hZ0
      go_wp2
      go_region_law (refine step_append_eq rfl (.tmp 61) (.tmp 64) 22 22 rfl rfl rfl hr1 ?_)
      all_goals
        rw [← QA.out]
        clear hr1 A1 A2 A3 A4 A5 A6 e0 e1 e2 e3 e4 ef x0 x1
        have hr2 := R2.out
        have b1 := B1.out
        have b2 := B2.out
        have b3 := B3.out
        have b4 := B4.out
        have b5 := B5.out
        have b6 := B6.out
        go_wp2
        go_region_law (refine step_append_eq rfl (.tmp 72) (.tmp 76) 93 93 rfl rfl rfl hr2 ?_)
        all_goals
          rw [← QB.out]
          clear hr2 b1 b2 b3 b4 b5 b6
          have hr3 := R3.out
          have c1 := C1.out
          have c3 := C3.out
          have c5 := C5.out
          have c6 := C6.out
          go_wp2_with (show wpList _ _ _ (⟨some 87, _, _, _, _, _⟩ :: _) _ _; refine wpList_append_eq rfl (.tmp 84) (.tmp 86) 93 93 rfl rfl rfl hr3 ?_)
          go_end0
          rw [← QC.out]
          exact ⟨rfl, FIN.out.1, FIN.out.2.1, FIN.out.2.2⟩

end Go.Proofs.YtjmlaeofjjhfmaaGreat
