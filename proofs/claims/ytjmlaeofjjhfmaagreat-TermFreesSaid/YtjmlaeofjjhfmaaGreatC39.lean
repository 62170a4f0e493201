/- The reference's count of nodes, stopped early: smallExp, smallClause, small. -/
import Derived.Test.YtjmlaeofjjhfmaaGreatC37
set_option linter.unusedVariables false
set_option linter.unusedSimpArgs false
namespace Go.Proofs.YtjmlaeofjjhfmaaGreat
open Go.RowKit

/-- How many parts all these have. -/
def sz (ps : List Part) : Nat := (nodesL 0 ps).length
theorem sz_append (a b : List Part) : sz (a ++ b) = sz a + sz b := by unfold sz; rw [nodesL_append, List.length_append]
theorem sz_one (p : Part) : sz [p] = p.size := by simp [sz, nodesL, Part.size]
theorem sz_take {α : Type} (f : α → Part) (l : List α) (k : Nat) (h : k < l.length) : sz ((l.take (k + 1)).map f) = sz ((l.take k).map f) + (f l[k]).size := by
  rw [List.take_succ_eq_append_getElem h, List.map_append, sz_append]; simp [sz_one]
theorem sz_le {α : Type} (f : α → Part) (l : List α) (k : Nat) : sz ((l.take k).map f) ≤ sz (l.map f) := by
  conv => rhs; rw [← List.take_append_drop k l, List.map_append, sz_append]
  omega
theorem size_sz (p : Part) : p.size = 1 + sz p.parts := size_eq p 0
theorem sz_mem {α : Type} (f : α → Part) {l : List α} {k : Nat} (h : k < l.length) : (f l[k]).size ≤ sz (l.map f) := by
  have := sz_take f l k h
  have := sz_le f l (k + 1)
  omega

/-- What is left of L behind so many. -/
def dec (L : Int) (s : Nat) : Int := if (s : Int) ≤ L then L - s else -1
theorem dec_dec (L : Int) (a b : Nat) : dec (dec L a) b = dec L (a + b) := by unfold dec; split <;> split <;> split <;> omega
theorem dec_one (L : Int) (h : 0 ≤ L) (s : Nat) : dec (L - 1) s = dec L (1 + s) := by unfold dec; split <;> split <;> omega
theorem dec_neg (L : Int) (a b : Nat) (h : ¬ 0 ≤ dec L a) (hab : a ≤ b) : dec L b = dec L a := by
  unfold dec at h ⊢
  by_cases h1 : (a : Int) ≤ L
  · rw [if_pos h1] at h; omega
  · have h2 : ¬ (b : Int) ≤ L := by omega
    rw [if_neg h1, if_neg h2]
theorem dec_bd (L : Int) (h : -1 ≤ L) (s : Nat) : -1 ≤ dec L s ∧ dec L s ≤ L := by unfold dec; split <;> omega

/-- What the count does to the world: the cell of what is left. -/
def SmallOut (lb : Nat) (w : World) (L : Int) (w' : World) : Prop :=
  KpC lb (lb + 1) w w' ∧ Below lb w w' ∧ w'.cell? ⟨lb, 0, none⟩ = some (.int .i64 L) ∧ w'.frozen? ⟨lb, 0, none⟩ = false
theorem SmallOut.trans {lb : Nat} {w w1 w2 : World} {L L' : Int} (h : SmallOut lb w L w1) (k : SmallOut lb w1 L' w2) : SmallOut lb w L' w2 := ⟨h.1.trans k.1, h.2.1.trans k.2.1, k.2.2⟩

def PartCs (B : Nat) (u : World) (cs : List Value) : Part → Prop
  | .proc t => TermAt B u cs t
  | .exp t => ExpAt B u cs t
  | .def_ t => ClauseAt B u cs t
def smallFn : Part → Nat
  | .proc _ => 58
  | .exp _ => 61
  | .def_ _ => 111
def smallRet : Part → Int → Value
  | .proc _, L => .bool (decide (0 ≤ L))
  | _, _ => .tuple #[]
def SmallAt (s : Nat) : Prop := ∀ (p : Part), p.size ≤ s → ∀ (lb B : Nat) (u w : World) (cs : List Value) (L : Int), KeptC B u w → B ≤ lb → 0 ≤ L → L ≤ 60 →
  w.cell? ⟨lb, 0, none⟩ = some (.int .i64 L) → w.frozen? ⟨lb, 0, none⟩ = false → PartCs B u cs p →
  Calls Tryz.prog (smallFn p) #[.agg cs.toArray, .pointer (some ⟨lb, 0, none⟩)] w fun e w' => e = .returned (smallRet p (dec L p.size)) ∧ SmallOut lb w (dec L p.size) w'

set_option maxRecDepth 10000 in
set_option maxHeartbeats 4000000 in
theorem small_exp (s : Nat) (ih : SmallAt s) (op n : Int) (text : ByteArray) (kids : List Exp) (hs : (Part.exp (.mk op n text kids)).size ≤ s + 1) (lb B : Nat) (u w : World) (cs : List Value) (L : Int) (hu : KeptC B u w) (hBl : B ≤ lb) (hL0 : 0 ≤ L) (hL1 : L ≤ 60)
    (hc : w.cell? ⟨lb, 0, none⟩ = some (.int .i64 L)) (hf : w.frozen? ⟨lb, 0, none⟩ = false) (hv : ExpAt B u cs (.mk op n text kids)) :
    Calls Tryz.prog 61 #[.agg cs.toArray, .pointer (some ⟨lb, 0, none⟩)] w fun e w' => e = .returned (smallRet (.exp (.mk op n text kids)) (dec L (Part.exp (.mk op n text kids)).size)) ∧ SmallOut lb w (dec L (Part.exp (.mk op n text kids)).size) w' := by
  unfold ExpAt at hv
  obtain ⟨hz, _, rfl, ⟨a0, p0, rfl, l0, h0⟩⟩ := hv
  have hlb := lt_of_cell hc
  have hss := size_sz (Part.exp (.mk op n text kids))
  simp only [Part.parts, sz_append] at hss
  obtain ⟨W1, hW1⟩ : ∃ W1, W1 = (w.setCell ⟨lb, 0, none⟩ (.int .i64 (L - 1))).alloc (.cells #[.int .i64 op, .int .i64 n, .string text, .slice a0 kids.length p0] 36) := ⟨_, rfl⟩
  have zs : (w.setCell ⟨lb, 0, none⟩ (.int .i64 (L - 1))).heap.size = w.heap.size := by simp [World.setCell]
  have z1 : W1.heap.size = w.heap.size + 1 := by rw [hW1]; simp [World.setCell]
  have hc1' : W1.cell? ⟨lb, 0, none⟩ = some (.int .i64 (L - 1)) := by rw [hW1, World.cell?_alloc_past _ _ _ (by rw [zs]; exact hlb)]; exact World.cell?_setCell_same' _ _ _ (by rw [hc]; rfl)
  have hf1' : W1.frozen? ⟨lb, 0, none⟩ = false := by rw [hW1, World.frozen?_alloc_past _ _ _ (by rw [zs]; exact hlb), World.frozen?_setCell]; exact hf
  have hkW : KpC lb (lb + 1) w W1 := by
    rw [hW1]; exact (KpC.setCell w _ _ (Nat.le_refl _) (by simp)).trans (KpC.of_below ((Below.refl _ _).alloc (Nat.le_refl _) _))
  have hbW : Below lb w W1 := by rw [hW1]; exact ((Below.refl lb w).setCell (p := ⟨lb, 0, none⟩) (Nat.le_refl _) _).alloc (by rw [zs]; omega) _
  have hS0' : SmallOut lb w (L - 1) W1 := ⟨hkW, hbW, hc1', hf1'⟩
  have hS0 : SmallOut lb W1 (L - 1) W1 := ⟨KpC.refl _ _ _, Below.refl _ _, hc1', hf1'⟩
  have hbox0 : W1.cell? ⟨w.heap.size, 3, none⟩ = some (.slice a0 kids.length p0) := by
    rw [hW1, World.cell?_alloc_at _ _ _ _ zs.symm]; rfl
  have HW := Lib.hid hW1; clear hW1
  go_enter Tryz.func61, Tryz.ntmps61
  go_wp2_with fail
  try rw [← HW.out]
  clear hc hf zs
  have HSS := hss; clear hss
  go_loopw [4] (fun i wr => ∃ (k : Nat) (c : Int), k ≤ kids.length ∧ i = .int .i64 k ∧ Hid (c = dec (L - 1) (sz ((kids.take k).map .exp))) ∧ -1 ≤ c ∧ c ≤ 60 ∧ SmallOut lb W1 c wr) (fun i _ => kids.length - (intOf i).toNat)
  case atStart => exact ⟨0, L - 1, by omega, rfl, Lib.hid (by simp [sz, nodesL]; unfold dec; split <;> omega), by omega, by omega, hS0⟩
  case round =>
    obtain ⟨k, c, hk', rfl, hcd, hc0, hc1, hS⟩ := hrel
    have hSW := hS
    obtain ⟨hkp, hbl, hcell, hfr⟩ := hSW
    have hbox := hkp.2 _ _ _ (.inr (by omega)) hbox0
    by_cases hgo : k < kids.length ∧ 0 ≤ c
    · obtain ⟨hlt, hge⟩ := hgo
      rcases h0 with h00 | ⟨b, off, rfl, hb, hk⟩
      · omega
      obtain ⟨cs, hcs, hexp⟩ := hk.get kids b off k hlt
      have hexp' := hexp
      have hsk := sz_take Part.exp kids k hlt
      have hsm := sz_mem Part.exp hlt
      obtain ⟨e0, he0⟩ : ∃ e, e = kids[k] := ⟨_, rfl⟩
      rw [← he0] at hexp hexp' hsk hsm
      have hih := ih (.exp e0) (by omega) lb B u wr cs c (hu.trans ((hkW.trans hkp).keptC hBl)) hBl hge hc1 hcell hfr hexp'
      have HN := Lib.hid (show dec c (Part.exp e0).size = dec (L - 1) (sz ((kids.take (k + 1)).map .exp)) by rw [hcd.out, dec_dec, hsk])
      have hbd := dec_bd c hc0 (Part.exp e0).size
      obtain ⟨c', hc'⟩ : ∃ c', c' = dec c (Part.exp e0).size := ⟨_, rfl⟩
      rw [← hc'] at hih HN hbd
      clear he0 hsk hsm hc' hexp'
      obtain ⟨o0, n0, t0, k0⟩ := e0
      unfold ExpAt at hexp
      obtain ⟨_, _, rfl, x0, y0, rfl, _⟩ := hexp
      obtain ⟨c0, c1, c2, c3⟩ := cells4 (fun j hj => (hkW.trans hkp).2 _ _ _ (.inl (by omega)) (hu _ _ _ (by omega) (hcs j hj)))
      clear hcs hk
      go_wp2_with (go_at_call 61; refine hih.mono ?_; clear hih; rintro e w2 ⟨rfl, hS2⟩)
      go_roundw
      case rel => exact ⟨k + 1, c', by omega, by go_num, HN, by omega, by omega, hS.trans hS2⟩
      case measure => simp [intOf]; omega
    · have hx : c = dec (L - 1) (sz (kids.map .exp)) := by
        have hle := sz_le Part.exp kids k
        by_cases hlt : k < kids.length
        · have hn : ¬ 0 ≤ c := fun h => hgo ⟨hlt, h⟩
          rw [hcd.out] at hn ⊢
          exact (dec_neg _ _ _ hn (by omega)).symm
        · have hkl : k = kids.length := by omega
          rw [hcd.out, hkl, List.take_length]
      have HX := Lib.hid hx; clear hx hcd
      have hway : k = kids.length ∨ (k < kids.length ∧ c < 0) := by omega
      clear hgo
      have hfin : Hid (c = dec L (Part.exp (.mk op n text kids)).size) := Lib.hid (by rw [HX.out, size_sz, dec_one L hL0]; simp [Part.parts, sz_append, Nat.add_assoc])
      rcases hway with rfl | ⟨hlt, hneg⟩
      all_goals (
        go_wp2
        go_end0
        exact ⟨rfl, by rw [← hfin.out]; exact hS0'.trans hS⟩)

set_option maxRecDepth 10000 in
set_option maxHeartbeats 4000000 in
theorem small_def_ (s : Nat) (ih : SmallAt s) (form : Int) (text : ByteArray) (joins : List Msg) (defs : List Clause) (kids : List Term) (hs : (Part.def_ (.mk form text joins defs kids)).size ≤ s + 1) (lb B : Nat) (u w : World) (cs : List Value) (L : Int) (hu : KeptC B u w) (hBl : B ≤ lb) (hL0 : 0 ≤ L) (hL1 : L ≤ 60)
    (hc : w.cell? ⟨lb, 0, none⟩ = some (.int .i64 L)) (hf : w.frozen? ⟨lb, 0, none⟩ = false) (hv : ClauseAt B u cs (.mk form text joins defs kids)) :
    Calls Tryz.prog 111 #[.agg cs.toArray, .pointer (some ⟨lb, 0, none⟩)] w fun e w' => e = .returned (smallRet (.def_ (.mk form text joins defs kids)) (dec L (Part.def_ (.mk form text joins defs kids)).size)) ∧ SmallOut lb w (dec L (Part.def_ (.mk form text joins defs kids)).size) w' := by
  unfold ClauseAt at hv
  obtain ⟨hz, _, _, _, rfl, ⟨aj, pj, rfl, lj, hj⟩, ⟨a0, p0, rfl, l0, h0⟩, ⟨a1, p1, rfl, l1, h1⟩⟩ := hv
  have hlb := lt_of_cell hc
  have hss := size_sz (Part.def_ (.mk form text joins defs kids))
  simp only [Part.parts, sz_append] at hss
  obtain ⟨W1, hW1⟩ : ∃ W1, W1 = (w.setCell ⟨lb, 0, none⟩ (.int .i64 (L - 1))).alloc (.cells #[.int .i64 form, .string text, .slice aj joins.length pj, .slice a0 defs.length p0, .slice a1 kids.length p1] 130) := ⟨_, rfl⟩
  have zs : (w.setCell ⟨lb, 0, none⟩ (.int .i64 (L - 1))).heap.size = w.heap.size := by simp [World.setCell]
  have z1 : W1.heap.size = w.heap.size + 1 := by rw [hW1]; simp [World.setCell]
  have hc1' : W1.cell? ⟨lb, 0, none⟩ = some (.int .i64 (L - 1)) := by rw [hW1, World.cell?_alloc_past _ _ _ (by rw [zs]; exact hlb)]; exact World.cell?_setCell_same' _ _ _ (by rw [hc]; rfl)
  have hf1' : W1.frozen? ⟨lb, 0, none⟩ = false := by rw [hW1, World.frozen?_alloc_past _ _ _ (by rw [zs]; exact hlb), World.frozen?_setCell]; exact hf
  have hkW : KpC lb (lb + 1) w W1 := by
    rw [hW1]; exact (KpC.setCell w _ _ (Nat.le_refl _) (by simp)).trans (KpC.of_below ((Below.refl _ _).alloc (Nat.le_refl _) _))
  have hbW : Below lb w W1 := by rw [hW1]; exact ((Below.refl lb w).setCell (p := ⟨lb, 0, none⟩) (Nat.le_refl _) _).alloc (by rw [zs]; omega) _
  have hS0' : SmallOut lb w (L - 1) W1 := ⟨hkW, hbW, hc1', hf1'⟩
  have hS0 : SmallOut lb W1 (L - 1) W1 := ⟨KpC.refl _ _ _, Below.refl _ _, hc1', hf1'⟩
  have hbox0 : W1.cell? ⟨w.heap.size, 3, none⟩ = some (.slice a0 defs.length p0) := by
    rw [hW1, World.cell?_alloc_at _ _ _ _ zs.symm]; rfl
  have hbox1 : W1.cell? ⟨w.heap.size, 4, none⟩ = some (.slice a1 kids.length p1) := by
    rw [hW1, World.cell?_alloc_at _ _ _ _ zs.symm]; rfl
  have HW := Lib.hid hW1; clear hW1
  go_enter Tryz.func111, Tryz.ntmps111
  go_wp2_with fail
  try rw [← HW.out]
  clear hc hf zs
  have HSS := hss; clear hss
  go_loopw [4] (fun i wr => ∃ (k : Nat) (c : Int), k ≤ defs.length ∧ i = .int .i64 k ∧ Hid (c = dec (L - 1) (sz ((defs.take k).map .def_))) ∧ -1 ≤ c ∧ c ≤ 60 ∧ SmallOut lb W1 c wr) (fun i _ => defs.length - (intOf i).toNat)
  case atStart => exact ⟨0, L - 1, by omega, rfl, Lib.hid (by simp [sz, nodesL]; unfold dec; split <;> omega), by omega, by omega, hS0⟩
  case round =>
    obtain ⟨k, c, hk', rfl, hcd, hc0, hc1, hS⟩ := hrel
    have hSW := hS
    obtain ⟨hkp, hbl, hcell, hfr⟩ := hSW
    have hbox := hkp.2 _ _ _ (.inr (by omega)) hbox0
    by_cases hgo : k < defs.length ∧ 0 ≤ c
    · obtain ⟨hlt, hge⟩ := hgo
      rcases h0 with h00 | ⟨b, off, rfl, hb, hk⟩
      · omega
      obtain ⟨cs, hcs, hexp⟩ := hk.get defs b off k hlt
      have hexp' := hexp
      have hsk := sz_take Part.def_ defs k hlt
      have hsm := sz_mem Part.def_ hlt
      obtain ⟨e0, he0⟩ : ∃ e, e = defs[k] := ⟨_, rfl⟩
      rw [← he0] at hexp hexp' hsk hsm
      have hih := ih (.def_ e0) (by omega) lb B u wr cs c (hu.trans ((hkW.trans hkp).keptC hBl)) hBl hge hc1 hcell hfr hexp'
      have HN := Lib.hid (show dec c (Part.def_ e0).size = dec (L - 1) (sz ((defs.take (k + 1)).map .def_)) by rw [hcd.out, dec_dec, hsk])
      have hbd := dec_bd c hc0 (Part.def_ e0).size
      obtain ⟨c', hc'⟩ : ∃ c', c' = dec c (Part.def_ e0).size := ⟨_, rfl⟩
      rw [← hc'] at hih HN hbd
      clear he0 hsk hsm hc' hexp'
      obtain ⟨f0, t0, j0, d0, k0⟩ := e0
      unfold ClauseAt at hexp
      obtain ⟨_, _, _, _, rfl, ⟨x0, y0, rfl, _⟩, ⟨x1, y1, rfl, _⟩, ⟨x2, y2, rfl, _⟩⟩ := hexp
      obtain ⟨c0, c1, c2, c3, c4⟩ := cells5 (fun j hj => (hkW.trans hkp).2 _ _ _ (.inl (by omega)) (hu _ _ _ (by omega) (hcs j hj)))
      clear hcs hk
      go_wp2_with (go_at_call 111; refine hih.mono ?_; clear hih; rintro e w2 ⟨rfl, hS2⟩)
      go_roundw
      case rel => exact ⟨k + 1, c', by omega, by go_num, HN, by omega, by omega, hS.trans hS2⟩
      case measure => simp [intOf]; omega
    · have hx : c = dec (L - 1) (sz (defs.map .def_)) := by
        have hle := sz_le Part.def_ defs k
        by_cases hlt : k < defs.length
        · have hn : ¬ 0 ≤ c := fun h => hgo ⟨hlt, h⟩
          rw [hcd.out] at hn ⊢
          exact (dec_neg _ _ _ hn (by omega)).symm
        · have hkl : k = defs.length := by omega
          rw [hcd.out, hkl, List.take_length]
      have HX := Lib.hid hx; clear hx hcd
      have hway : k = defs.length ∨ (k < defs.length ∧ c < 0) := by omega
      clear hgo
      rcases hway with rfl | ⟨hlt, hneg⟩
      all_goals (
        go_wp2
        go_loopw [5] (fun i wr => ∃ (k : Nat) (c : Int), k ≤ kids.length ∧ i = .int .i64 k ∧ Hid (c = dec (L - 1) (sz (defs.map .def_) + sz ((kids.take k).map .proc))) ∧ -1 ≤ c ∧ c ≤ 60 ∧ SmallOut lb W1 c wr) (fun i _ => kids.length - (intOf i).toNat)
        case atStart => exact ⟨0, c, by omega, rfl, Lib.hid (by rw [HX.out]; simp [sz, nodesL]), by omega, by omega, hS⟩
        case round =>
          obtain ⟨k, c, hk', rfl, hcd, hc0, hc1, hS⟩ := hrel
          have hSW := hS
          obtain ⟨hkp, hbl, hcell, hfr⟩ := hSW
          have hbox := hkp.2 _ _ _ (.inr (by omega)) hbox1
          by_cases hgo : k < kids.length ∧ 0 ≤ c
          · obtain ⟨hlt, hge⟩ := hgo
            rcases h1 with h00 | ⟨b, off, rfl, hb, hk⟩
            · omega
            obtain ⟨cs, hcs, hexp⟩ := hk.get kids b off k hlt
            have hexp' := hexp
            have hsk := sz_take Part.proc kids k hlt
            have hsm := sz_mem Part.proc hlt
            obtain ⟨e0, he0⟩ : ∃ e, e = kids[k] := ⟨_, rfl⟩
            rw [← he0] at hexp hexp' hsk hsm
            have hih := ih (.proc e0) (by omega) lb B u wr cs c (hu.trans ((hkW.trans hkp).keptC hBl)) hBl hge hc1 hcell hfr hexp'
            have HN := Lib.hid (show dec c (Part.proc e0).size = dec (L - 1) (sz (defs.map .def_) + sz ((kids.take (k + 1)).map .proc)) by rw [hcd.out, dec_dec, hsk, Nat.add_assoc])
            have hbd := dec_bd c hc0 (Part.proc e0).size
            obtain ⟨c', hc'⟩ : ∃ c', c' = dec c (Part.proc e0).size := ⟨_, rfl⟩
            rw [← hc'] at hih HN hbd
            clear he0 hsk hsm hc' hexp'
            obtain ⟨o0, t0, g0, d0, k0⟩ := e0
            unfold TermAt at hexp
            obtain ⟨_, _, _, _, rfl, ⟨x0, y0, rfl, _⟩, ⟨x1, y1, rfl, _⟩, ⟨x2, y2, rfl, _⟩⟩ := hexp
            obtain ⟨c0, c1, c2, c3, c4⟩ := cells5 (fun j hj => (hkW.trans hkp).2 _ _ _ (.inl (by omega)) (hu _ _ _ (by omega) (hcs j hj)))
            clear hcs hk
            go_wp2_with (go_at_call 58; refine hih.mono ?_; clear hih; rintro e w2 ⟨rfl, hS2⟩)
            go_roundw
            case rel => exact ⟨k + 1, c', by omega, by go_num, HN, by omega, by omega, hS.trans hS2⟩
            case measure => simp [intOf]; omega
          · have hx : c = dec (L - 1) (sz (defs.map .def_) + sz (kids.map .proc)) := by
              have hle := sz_le Part.proc kids k
              by_cases hlt : k < kids.length
              · have hn : ¬ 0 ≤ c := fun h => hgo ⟨hlt, h⟩
                rw [hcd.out] at hn ⊢
                exact (dec_neg _ _ _ hn (by omega)).symm
              · have hkl : k = kids.length := by omega
                rw [hcd.out, hkl, List.take_length]
            have HX := Lib.hid hx; clear hx hcd
            have hway : k = kids.length ∨ (k < kids.length ∧ c < 0) := by omega
            clear hgo
            have hfin : Hid (c = dec L (Part.def_ (.mk form text joins defs kids)).size) := Lib.hid (by rw [HX.out, size_sz, dec_one L hL0]; simp [Part.parts, sz_append, Nat.add_assoc])
            rcases hway with rfl | ⟨hlt, hneg⟩
            all_goals (
              go_wp2
              go_end0
              exact ⟨rfl, by rw [← hfin.out]; exact hS0'.trans hS⟩))

set_option maxRecDepth 10000 in
set_option maxHeartbeats 4000000 in
theorem small_proc (s : Nat) (ih : SmallAt s) (op : Int) (text : ByteArray) (args : List Exp) (defs : List Clause) (kids : List Term) (hs : (Part.proc (.mk op text args defs kids)).size ≤ s + 1) (lb B : Nat) (u w : World) (cs : List Value) (L : Int) (hu : KeptC B u w) (hBl : B ≤ lb) (hL0 : 0 ≤ L) (hL1 : L ≤ 60)
    (hc : w.cell? ⟨lb, 0, none⟩ = some (.int .i64 L)) (hf : w.frozen? ⟨lb, 0, none⟩ = false) (hv : TermAt B u cs (.mk op text args defs kids)) :
    Calls Tryz.prog 58 #[.agg cs.toArray, .pointer (some ⟨lb, 0, none⟩)] w fun e w' => e = .returned (smallRet (.proc (.mk op text args defs kids)) (dec L (Part.proc (.mk op text args defs kids)).size)) ∧ SmallOut lb w (dec L (Part.proc (.mk op text args defs kids)).size) w' := by
  unfold TermAt at hv
  obtain ⟨hz, _, _, _, rfl, ⟨a0, p0, rfl, l0, h0⟩, ⟨a1, p1, rfl, l1, h1⟩, ⟨a2, p2, rfl, l2, h2⟩⟩ := hv
  have hlb := lt_of_cell hc
  have hss := size_sz (Part.proc (.mk op text args defs kids))
  simp only [Part.parts, sz_append] at hss
  obtain ⟨W1, hW1⟩ : ∃ W1, W1 = (w.setCell ⟨lb, 0, none⟩ (.int .i64 (L - 1))).alloc (.cells #[.int .i64 op, .string text, .slice a0 args.length p0, .slice a1 defs.length p1, .slice a2 kids.length p2] 33) := ⟨_, rfl⟩
  have zs : (w.setCell ⟨lb, 0, none⟩ (.int .i64 (L - 1))).heap.size = w.heap.size := by simp [World.setCell]
  have z1 : W1.heap.size = w.heap.size + 1 := by rw [hW1]; simp [World.setCell]
  have hc1' : W1.cell? ⟨lb, 0, none⟩ = some (.int .i64 (L - 1)) := by rw [hW1, World.cell?_alloc_past _ _ _ (by rw [zs]; exact hlb)]; exact World.cell?_setCell_same' _ _ _ (by rw [hc]; rfl)
  have hf1' : W1.frozen? ⟨lb, 0, none⟩ = false := by rw [hW1, World.frozen?_alloc_past _ _ _ (by rw [zs]; exact hlb), World.frozen?_setCell]; exact hf
  have hkW : KpC lb (lb + 1) w W1 := by
    rw [hW1]; exact (KpC.setCell w _ _ (Nat.le_refl _) (by simp)).trans (KpC.of_below ((Below.refl _ _).alloc (Nat.le_refl _) _))
  have hbW : Below lb w W1 := by rw [hW1]; exact ((Below.refl lb w).setCell (p := ⟨lb, 0, none⟩) (Nat.le_refl _) _).alloc (by rw [zs]; omega) _
  have hS0' : SmallOut lb w (L - 1) W1 := ⟨hkW, hbW, hc1', hf1'⟩
  have hS0 : SmallOut lb W1 (L - 1) W1 := ⟨KpC.refl _ _ _, Below.refl _ _, hc1', hf1'⟩
  have hbox0 : W1.cell? ⟨w.heap.size, 2, none⟩ = some (.slice a0 args.length p0) := by
    rw [hW1, World.cell?_alloc_at _ _ _ _ zs.symm]; rfl
  have hbox1 : W1.cell? ⟨w.heap.size, 3, none⟩ = some (.slice a1 defs.length p1) := by
    rw [hW1, World.cell?_alloc_at _ _ _ _ zs.symm]; rfl
  have hbox2 : W1.cell? ⟨w.heap.size, 4, none⟩ = some (.slice a2 kids.length p2) := by
    rw [hW1, World.cell?_alloc_at _ _ _ _ zs.symm]; rfl
  have HW := Lib.hid hW1; clear hW1
  go_enter Tryz.func58, Tryz.ntmps58
  go_wp2_with fail
  try rw [← HW.out]
  clear hc hf zs
  have HSS := hss; clear hss
  go_loopw [5] (fun i wr => ∃ (k : Nat) (c : Int), k ≤ args.length ∧ i = .int .i64 k ∧ Hid (c = dec (L - 1) (sz ((args.take k).map .exp))) ∧ -1 ≤ c ∧ c ≤ 60 ∧ SmallOut lb W1 c wr) (fun i _ => args.length - (intOf i).toNat)
  case atStart => exact ⟨0, L - 1, by omega, rfl, Lib.hid (by simp [sz, nodesL]; unfold dec; split <;> omega), by omega, by omega, hS0⟩
  case round =>
    obtain ⟨k, c, hk', rfl, hcd, hc0, hc1, hS⟩ := hrel
    have hSW := hS
    obtain ⟨hkp, hbl, hcell, hfr⟩ := hSW
    have hbox := hkp.2 _ _ _ (.inr (by omega)) hbox0
    by_cases hgo : k < args.length ∧ 0 ≤ c
    · obtain ⟨hlt, hge⟩ := hgo
      rcases h0 with h00 | ⟨b, off, rfl, hb, hk⟩
      · omega
      obtain ⟨cs, hcs, hexp⟩ := hk.get args b off k hlt
      have hexp' := hexp
      have hsk := sz_take Part.exp args k hlt
      have hsm := sz_mem Part.exp hlt
      obtain ⟨e0, he0⟩ : ∃ e, e = args[k] := ⟨_, rfl⟩
      rw [← he0] at hexp hexp' hsk hsm
      have hih := ih (.exp e0) (by omega) lb B u wr cs c (hu.trans ((hkW.trans hkp).keptC hBl)) hBl hge hc1 hcell hfr hexp'
      have HN := Lib.hid (show dec c (Part.exp e0).size = dec (L - 1) (sz ((args.take (k + 1)).map .exp)) by rw [hcd.out, dec_dec, hsk])
      have hbd := dec_bd c hc0 (Part.exp e0).size
      obtain ⟨c', hc'⟩ : ∃ c', c' = dec c (Part.exp e0).size := ⟨_, rfl⟩
      rw [← hc'] at hih HN hbd
      clear he0 hsk hsm hc' hexp'
      obtain ⟨o0, n0, t0, k0⟩ := e0
      unfold ExpAt at hexp
      obtain ⟨_, _, rfl, x0, y0, rfl, _⟩ := hexp
      obtain ⟨c0, c1, c2, c3⟩ := cells4 (fun j hj => (hkW.trans hkp).2 _ _ _ (.inl (by omega)) (hu _ _ _ (by omega) (hcs j hj)))
      clear hcs hk
      go_wp2_with (go_at_call 61; refine hih.mono ?_; clear hih; rintro e w2 ⟨rfl, hS2⟩)
      go_roundw
      case rel => exact ⟨k + 1, c', by omega, by go_num, HN, by omega, by omega, hS.trans hS2⟩
      case measure => simp [intOf]; omega
    · have hx : c = dec (L - 1) (sz (args.map .exp)) := by
        have hle := sz_le Part.exp args k
        by_cases hlt : k < args.length
        · have hn : ¬ 0 ≤ c := fun h => hgo ⟨hlt, h⟩
          rw [hcd.out] at hn ⊢
          exact (dec_neg _ _ _ hn (by omega)).symm
        · have hkl : k = args.length := by omega
          rw [hcd.out, hkl, List.take_length]
      have HX := Lib.hid hx; clear hx hcd
      have hway : k = args.length ∨ (k < args.length ∧ c < 0) := by omega
      clear hgo
      rcases hway with rfl | ⟨hlt, hneg⟩
      all_goals (
        go_wp2
        go_loopw [6] (fun i wr => ∃ (k : Nat) (c : Int), k ≤ defs.length ∧ i = .int .i64 k ∧ Hid (c = dec (L - 1) (sz (args.map .exp) + sz ((defs.take k).map .def_))) ∧ -1 ≤ c ∧ c ≤ 60 ∧ SmallOut lb W1 c wr) (fun i _ => defs.length - (intOf i).toNat)
        case atStart => exact ⟨0, c, by omega, rfl, Lib.hid (by rw [HX.out]; simp [sz, nodesL]), by omega, by omega, hS⟩
        case round =>
          obtain ⟨k, c, hk', rfl, hcd, hc0, hc1, hS⟩ := hrel
          have hSW := hS
          obtain ⟨hkp, hbl, hcell, hfr⟩ := hSW
          have hbox := hkp.2 _ _ _ (.inr (by omega)) hbox1
          by_cases hgo : k < defs.length ∧ 0 ≤ c
          · obtain ⟨hlt, hge⟩ := hgo
            rcases h1 with h00 | ⟨b, off, rfl, hb, hk⟩
            · omega
            obtain ⟨cs, hcs, hexp⟩ := hk.get defs b off k hlt
            have hexp' := hexp
            have hsk := sz_take Part.def_ defs k hlt
            have hsm := sz_mem Part.def_ hlt
            obtain ⟨e0, he0⟩ : ∃ e, e = defs[k] := ⟨_, rfl⟩
            rw [← he0] at hexp hexp' hsk hsm
            have hih := ih (.def_ e0) (by omega) lb B u wr cs c (hu.trans ((hkW.trans hkp).keptC hBl)) hBl hge hc1 hcell hfr hexp'
            have HN := Lib.hid (show dec c (Part.def_ e0).size = dec (L - 1) (sz (args.map .exp) + sz ((defs.take (k + 1)).map .def_)) by rw [hcd.out, dec_dec, hsk, Nat.add_assoc])
            have hbd := dec_bd c hc0 (Part.def_ e0).size
            obtain ⟨c', hc'⟩ : ∃ c', c' = dec c (Part.def_ e0).size := ⟨_, rfl⟩
            rw [← hc'] at hih HN hbd
            clear he0 hsk hsm hc' hexp'
            obtain ⟨f0, t0, j0, d0, k0⟩ := e0
            unfold ClauseAt at hexp
            obtain ⟨_, _, _, _, rfl, ⟨x0, y0, rfl, _⟩, ⟨x1, y1, rfl, _⟩, ⟨x2, y2, rfl, _⟩⟩ := hexp
            obtain ⟨c0, c1, c2, c3, c4⟩ := cells5 (fun j hj => (hkW.trans hkp).2 _ _ _ (.inl (by omega)) (hu _ _ _ (by omega) (hcs j hj)))
            clear hcs hk
            go_wp2_with (go_at_call 111; refine hih.mono ?_; clear hih; rintro e w2 ⟨rfl, hS2⟩)
            go_roundw
            case rel => exact ⟨k + 1, c', by omega, by go_num, HN, by omega, by omega, hS.trans hS2⟩
            case measure => simp [intOf]; omega
          · have hx : c = dec (L - 1) (sz (args.map .exp) + sz (defs.map .def_)) := by
              have hle := sz_le Part.def_ defs k
              by_cases hlt : k < defs.length
              · have hn : ¬ 0 ≤ c := fun h => hgo ⟨hlt, h⟩
                rw [hcd.out] at hn ⊢
                exact (dec_neg _ _ _ hn (by omega)).symm
              · have hkl : k = defs.length := by omega
                rw [hcd.out, hkl, List.take_length]
            have HX := Lib.hid hx; clear hx hcd
            have hway : k = defs.length ∨ (k < defs.length ∧ c < 0) := by omega
            clear hgo
            rcases hway with rfl | ⟨hlt, hneg⟩
            all_goals (
              go_wp2
              go_loopw [7] (fun i wr => ∃ (k : Nat) (c : Int), k ≤ kids.length ∧ i = .int .i64 k ∧ Hid (c = dec (L - 1) (sz (args.map .exp) + sz (defs.map .def_) + sz ((kids.take k).map .proc))) ∧ -1 ≤ c ∧ c ≤ 60 ∧ SmallOut lb W1 c wr) (fun i _ => kids.length - (intOf i).toNat)
              case atStart => exact ⟨0, c, by omega, rfl, Lib.hid (by rw [HX.out]; simp [sz, nodesL]), by omega, by omega, hS⟩
              case round =>
                obtain ⟨k, c, hk', rfl, hcd, hc0, hc1, hS⟩ := hrel
                have hSW := hS
                obtain ⟨hkp, hbl, hcell, hfr⟩ := hSW
                have hbox := hkp.2 _ _ _ (.inr (by omega)) hbox2
                by_cases hgo : k < kids.length ∧ 0 ≤ c
                · obtain ⟨hlt, hge⟩ := hgo
                  rcases h2 with h00 | ⟨b, off, rfl, hb, hk⟩
                  · omega
                  obtain ⟨cs, hcs, hexp⟩ := hk.get kids b off k hlt
                  have hexp' := hexp
                  have hsk := sz_take Part.proc kids k hlt
                  have hsm := sz_mem Part.proc hlt
                  obtain ⟨e0, he0⟩ : ∃ e, e = kids[k] := ⟨_, rfl⟩
                  rw [← he0] at hexp hexp' hsk hsm
                  have hih := ih (.proc e0) (by omega) lb B u wr cs c (hu.trans ((hkW.trans hkp).keptC hBl)) hBl hge hc1 hcell hfr hexp'
                  have HN := Lib.hid (show dec c (Part.proc e0).size = dec (L - 1) (sz (args.map .exp) + sz (defs.map .def_) + sz ((kids.take (k + 1)).map .proc)) by rw [hcd.out, dec_dec, hsk, Nat.add_assoc])
                  have hbd := dec_bd c hc0 (Part.proc e0).size
                  obtain ⟨c', hc'⟩ : ∃ c', c' = dec c (Part.proc e0).size := ⟨_, rfl⟩
                  rw [← hc'] at hih HN hbd
                  clear he0 hsk hsm hc' hexp'
                  obtain ⟨o0, t0, g0, d0, k0⟩ := e0
                  unfold TermAt at hexp
                  obtain ⟨_, _, _, _, rfl, ⟨x0, y0, rfl, _⟩, ⟨x1, y1, rfl, _⟩, ⟨x2, y2, rfl, _⟩⟩ := hexp
                  obtain ⟨c0, c1, c2, c3, c4⟩ := cells5 (fun j hj => (hkW.trans hkp).2 _ _ _ (.inl (by omega)) (hu _ _ _ (by omega) (hcs j hj)))
                  clear hcs hk
                  go_wp2_with (go_at_call 58; refine hih.mono ?_; clear hih; rintro e w2 ⟨rfl, hS2⟩)
                  go_roundw
                  case rel => exact ⟨k + 1, c', by omega, by go_num, HN, by omega, by omega, hS.trans hS2⟩
                  case measure => simp [intOf]; omega
                · have hx : c = dec (L - 1) (sz (args.map .exp) + sz (defs.map .def_) + sz (kids.map .proc)) := by
                    have hle := sz_le Part.proc kids k
                    by_cases hlt : k < kids.length
                    · have hn : ¬ 0 ≤ c := fun h => hgo ⟨hlt, h⟩
                      rw [hcd.out] at hn ⊢
                      exact (dec_neg _ _ _ hn (by omega)).symm
                    · have hkl : k = kids.length := by omega
                      rw [hcd.out, hkl, List.take_length]
                  have HX := Lib.hid hx; clear hx hcd
                  have hway : k = kids.length ∨ (k < kids.length ∧ c < 0) := by omega
                  clear hgo
                  have hfin : Hid (c = dec L (Part.proc (.mk op text args defs kids)).size) := Lib.hid (by rw [HX.out, size_sz, dec_one L hL0]; simp [Part.parts, sz_append, Nat.add_assoc])
                  rcases hway with rfl | ⟨hlt, hneg⟩
                  all_goals (
                    go_wp2
                    go_ret
                    refine ⟨(show _ = Ending.returned (.bool (decide (0 ≤ dec L _))) from ret_bool ?_), by rw [← hfin.out]; exact hS0'.trans hS⟩
                    first | (rw [← hfin.out]; done) | (rw [← hfin.out, Bool.eq_iff_iff]; simp <;> omega))))

theorem small_all : ∀ s, SmallAt s := by
  intro s
  induction s with
  | zero => intro p hp; exact absurd (by rw [Part.size, nodesOf_eq]; simp) (Nat.not_lt.2 hp)
  | succ s ih =>
    intro p hp lb B u w cs L hu hBl h0 h1 hc hf hv
    cases p with
    | proc t => obtain ⟨o, t, a, d, k⟩ := t; exact small_proc s ih o t a d k hp lb B u w cs L hu hBl h0 h1 hc hf hv
    | exp t => obtain ⟨o, n, t, k⟩ := t; exact small_exp s ih o n t k hp lb B u w cs L hu hBl h0 h1 hc hf hv
    | def_ t => obtain ⟨f, t, j, d, k⟩ := t; exact small_def_ s ih f t j d k hp lb B u w cs L hu hBl h0 h1 hc hf hv

end Go.Proofs.YtjmlaeofjjhfmaaGreat
