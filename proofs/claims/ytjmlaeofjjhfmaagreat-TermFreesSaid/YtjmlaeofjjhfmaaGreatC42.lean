/- The reference's look at shape, nodes and depth: clause, term. -/
import Derived.Test.YtjmlaeofjjhfmaaGreatC40
import Derived.Test.YtjmlaeofjjhfmaaGreatC41
set_option linter.unusedVariables false
set_option linter.unusedSimpArgs false
namespace Go.Proofs.YtjmlaeofjjhfmaaGreat
open Go.RowKit

theorem len_sz {α : Type} (f : α → Part) : ∀ l : List α, l.length ≤ sz (l.map f) := by
  intro l; induction l with
  | nil => simp
  | cons x l ih =>
    have e1 := sz_append [f x] (l.map f)
    have e2 := sz_one (f x)
    have e3 := size_sz (f x)
    simp only [List.cons_append, List.nil_append] at e1
    simp only [List.length_cons, List.map_cons]
    omega
theorem RMid.out' {p : Part} {n d : Nat} {is : Bool} {n' d' : Int} {b' : Bool} (h : RMid p.parts n d is) (hp : p.shaped = true) (hn : n' = n) (hd : d' = (d : Int) + 1) (hb : b' = is) : ROut p (.returned (.tuple #[.int .i64 n', .int .i64 d', .bool b'])) := by
  subst hn; subst hd; subst hb; exact h.out hp

theorem not_ne0 {a : Int} (h : (!(a == 0)) = false) : a = 0 := by simpa using h
theorem clause_contra {form : Int} {text : ByteArray} {jb : Bool} {lj ld lk : Nat} (hS : ((form == 1 && text.size == 0 && jb && ld == 0 && lk == 1) ||
      (form == 2 && nameB text && lj == 0 && decide (ld ≤ 5) && lk == 1)) = false)
    (h1 : form = 1 ∨ form = 2) (h2 : rOne text (!(form == 1)) = true) (h3 : lk = 1) (h4 : ld ≤ 5) (h5 : form = 2 ∨ jb = true) (h6 : form = 1 ∧ ld = 0 ∨ form = 2 ∧ lj = 0) : False := by
  rw [Bool.eq_false_iff] at hS
  apply hS
  rcases h1 with rfl | rfl
  · have e : text.size = 0 := by simpa [rOne] using h2
    have e2 : ld = 0 := by omega
    have e3 : jb = true := by simpa using h5
    simp [e, e2, e3, h3]
  · have e : nameB text = true := by simpa [rOne] using h2
    have e2 : lj = 0 := by omega
    simp [e, e2, h3, h4]

set_option maxRecDepth 10000 in
set_option maxHeartbeats 8000000 in
theorem r_clause (s : Nat) (ih : RAt s) (form : Int) (text : ByteArray) (joins : List Msg) (defs : List Clause) (kids : List Term) (hs : (Part.def_ (.mk form text joins defs kids)).size ≤ s + 1) (h60 : (Part.def_ (.mk form text joins defs kids)).size ≤ 60) (B : Nat) (u w : World) (cs : List Value) (hu : KeptC B u w) (hBl : B ≤ w.heap.size)
    (hv : ClauseAt B u cs (.mk form text joins defs kids)) :
    Calls Tryz.prog 113 #[.agg cs.toArray] w fun e w' => ROut (.def_ (.mk form text joins defs kids)) e ∧ Below w.heap.size w w' := by
  unfold ClauseAt at hv
  obtain ⟨hz, _, _, _, rfl, ⟨aj, pj, rfl, lj, hj⟩, ⟨a0, p0, rfl, l0, h0⟩, ⟨a1, p1, rfl, l1, h1⟩⟩ := hv
  have hss := size_sz (Part.def_ (.mk form text joins defs kids))
  simp only [Part.parts, sz_append] at hss
  have hdl := len_sz Part.def_ defs
  have hkl := len_sz Part.proc kids
  obtain ⟨W1, hW1'⟩ : ∃ W1, W1 = w.alloc (.cells #[.int .i64 form, .string text, .slice aj joins.length pj, .slice a0 defs.length p0, .slice a1 kids.length p1] 130) := ⟨_, rfl⟩
  have z1 : W1.heap.size = w.heap.size + 1 := by rw [hW1']; simp
  have hW1 : Below w.heap.size w W1 := by rw [hW1']; exact (Below.refl _ w).alloc (Nat.le_refl _) _
  have hbox0 : W1.cell? ⟨w.heap.size, 3, none⟩ = some (.slice a0 defs.length p0) := by
    rw [hW1', World.cell?_alloc_at _ _ _ _ rfl]; rfl
  have hbox1 : W1.cell? ⟨w.heap.size, 4, none⟩ = some (.slice a1 kids.length p1) := by
    rw [hW1', World.cell?_alloc_at _ _ _ _ rfl]; rfl
  have HW := Lib.hid hW1'; clear hW1'
  have HJ : Hid (∀ W, Below w.heap.size w W → Calls Tryz.prog 156 #[.slice aj joins.length pj] W fun e w' => e = .returned (.bool (joinedB joins)) ∧ Below W.heap.size W w') := Lib.hid (fun W hW => rjoins_any aj pj joins B u W (hu.trans ((Below.keptC hW).mono hBl)) (by have := hW.size; omega) hj lj)
  have hdl60 : defs.length ≤ 60 := by omega
  have hkl60 : kids.length ≤ 60 := by omega
  cases hsh : shapedCB (.mk form text joins defs kids) with
  | false =>
    have HNO := Lib.hid (ROut.no (p := .def_ (.mk form text joins defs kids)) hsh)
    obtain ⟨lj', hlj⟩ : ∃ x, x = joins.length := ⟨_, rfl⟩
    obtain ⟨ld, hld⟩ : ∃ x, x = defs.length := ⟨_, rfl⟩
    obtain ⟨lk, hlk⟩ : ∃ x, x = kids.length := ⟨_, rfl⟩
    have hS : Hid (((form == 1 && text.size == 0 && joinedB joins && ld == 0 && lk == 1) ||
      (form == 2 && nameB text && lj' == 0 && decide (ld ≤ 5) && lk == 1)) = false) := Lib.hid (by rw [← hsh, hlj, hld, hlk]; rfl)
    have HW2 := HW.out
    have HJ2 := HJ.out
    generalize Part.def_ (.mk form text joins defs kids) = p at HNO ⊢
    rw [← hlj] at lj HW2 HJ2 ⊢
    rw [← hld] at hdl60 l0 HW2 ⊢
    rw [← hlk] at hkl60 l1 HW2 ⊢
    generalize joinedB joins = jb at hS HJ2
    clear hlj hld hlk h0 h1 hj hsh hss h60 hs HW HJ hbox0 hbox1 hdl hkl
    have HW := Lib.hid HW2; have HJ := Lib.hid HJ2; clear HW2 HJ2
    rcases (show form = 1 ∨ form = 2 ∨ (form ≠ 1 ∧ form ≠ 2) by omega) with rfl | rfl | ⟨hf1, hf2⟩
    rotate_left 2
    · have q1 : (form == 1) = false := by simpa using hf1
      have q2 : (form == 2) = false := by simpa using hf2
      clear hf1 hf2
      go_enter Tryz.func113, Tryz.ntmps113
      go_wp2
      go_ret3
      exact ⟨HNO.out, (Below.refl _ w).alloc (Nat.le_refl _) _⟩
    all_goals (
      go_enter Tryz.func113, Tryz.ntmps113
      go_wp2_with (first
        | (go_at_call 112; refine (one_any _ _ _ hz).mono ?_; rintro e w1 ⟨rfl, hb1⟩; have hc0 := (hb1.cell (p := ⟨w.heap.size, 0, none⟩) (by simp)).trans (World.cell?_alloc_at _ _ _ _ rfl); have hc1 := (hb1.cell (p := ⟨w.heap.size, 1, none⟩) (by simp)).trans (World.cell?_alloc_at _ _ _ _ rfl); have hc2 := (hb1.cell (p := ⟨w.heap.size, 2, none⟩) (by simp)).trans (World.cell?_alloc_at _ _ _ _ rfl); have hc3 := (hb1.cell (p := ⟨w.heap.size, 3, none⟩) (by simp)).trans (World.cell?_alloc_at _ _ _ _ rfl); have hc4 := (hb1.cell (p := ⟨w.heap.size, 4, none⟩) (by simp)).trans (World.cell?_alloc_at _ _ _ _ rfl); have hB1 : Below (w.heap.size + 1) W1 w1 := (by rw [HW.out]; exact hb1.mono (by simp)))
        | (go_at_call 156; refine (HJ.out w1 (hW1.trans (hB1.mono (Nat.le_succ _)))).mono ?_; rintro e w2 ⟨rfl, hb2⟩; have hd2 := (hb2.cell (p := ⟨w.heap.size, 2, none⟩) (by have := hb1.size; simp at this ⊢; omega)).trans hc2))
      all_goals first
        | (go_ret3; refine ⟨HNO.out, ?_⟩; first | exact (Below.refl _ w).alloc (Nat.le_refl _) _ | exact hW1.trans ((hB1.mono (Nat.le_succ _)).trans (hb2.mono (by have := hB1.size; omega))) | exact hW1.trans (hB1.mono (Nat.le_succ _)))
        | exact (clause_contra hS.out (by omega) (by assumption) (by omega) (by omega) (by first | (left; omega) | (right; assumption)) (by first | omega | exact .inr ⟨rfl, by have hq := not_ne0 (by assumption); omega⟩ | exact .inl ⟨rfl, by have hq := not_ne0 (by assumption); omega⟩)).elim
        | trace_state)
  | true =>
    have HSH := Lib.hid (show (Part.def_ (.mk form text joins defs kids)).shaped = true from hsh)
    have h := hsh
    unfold shapedCB at h
    simp only [Bool.or_eq_true, Bool.and_eq_true, beq_iff_eq, decide_eq_true_eq] at h
    clear hsh
    have hs60 : sz (defs.map Part.def_) ≤ 60 := by omega
    have hs61 : sz (kids.map Part.proc) ≤ 60 := by omega
    have hsd : 1 + (sz (defs.map Part.def_) + sz (kids.map Part.proc)) ≤ s + 1 := by omega
    have hsd2 : 1 + (sz (defs.map Part.def_) + sz (kids.map Part.proc)) ≤ 60 := by omega
    clear hss hdl hkl h60 hs
    rcases h with ⟨⟨⟨⟨rfl, g1⟩, g2⟩, g3⟩, g4⟩ | ⟨⟨⟨⟨rfl, g1⟩, g2⟩, g3⟩, g4⟩
    · have HO := Lib.hid (show rOne text false = true by simp [rOne, g1])
      have ht : ((kids.length : Int) == 1) = true := by rw [g4]; rfl
      have ht2 : ((defs.length : Int) == 0) = true := by rw [g3]; rfl
      have ht3 : (defs.length : Int) ≤ 5 := by omega
      have H3 := Lib.hid g3; have H4 := Lib.hid g4; have HJB := Lib.hid g2; clear g1 g2 g3 g4
      go_enter Tryz.func113, Tryz.ntmps113
      go_wp2_with (first
        | (go_at_call 112; refine (one_any _ _ _ hz).mono ?_; rw [HO.out]; rintro e w1 ⟨rfl, hb1⟩; have hc0 := (hb1.cell (p := ⟨w.heap.size, 0, none⟩) (by simp)).trans (World.cell?_alloc_at _ _ _ _ rfl); have hc1 := (hb1.cell (p := ⟨w.heap.size, 1, none⟩) (by simp)).trans (World.cell?_alloc_at _ _ _ _ rfl); have hc2 := (hb1.cell (p := ⟨w.heap.size, 2, none⟩) (by simp)).trans (World.cell?_alloc_at _ _ _ _ rfl); have hc3 := (hb1.cell (p := ⟨w.heap.size, 3, none⟩) (by simp)).trans (World.cell?_alloc_at _ _ _ _ rfl); have hc4 := (hb1.cell (p := ⟨w.heap.size, 4, none⟩) (by simp)).trans (World.cell?_alloc_at _ _ _ _ rfl); have hB1 : Below (w.heap.size + 1) W1 w1 := (by rw [HW.out]; exact hb1.mono (by simp)))
        | (go_at_call 156; refine (HJ.out w1 (hW1.trans (hB1.mono (Nat.le_succ _)))).mono ?_; rw [HJB.out]; rintro e w2 ⟨rfl, hb2⟩; have hcc := hb2.cell (p := ⟨w.heap.size, 3, none⟩) (by have := hB1.size; simp; omega); have hcd := hb2.cell (p := ⟨w.heap.size, 4, none⟩) (by have := hB1.size; simp; omega); rw [hc3] at hcc; rw [hc4] at hcd; have hB2 : Below (w.heap.size + 1) W1 w2 := hB1.trans (hb2.mono (by have := hB1.size; omega))))
      go_loopw [7, 8, 6, 9] (fun vn vd vb i wr => ∃ (k n d : Nat) (b : Bool), k ≤ defs.length ∧ i = .int .i64 k ∧ vn = .int .i64 n ∧ vd = .int .i64 d ∧ vb = .bool b ∧ Hid (RMid ((defs.take k).map .def_) n d b) ∧ Below (w.heap.size + 1) W1 wr) (fun _ _ _ i _ => defs.length - (intOf i).toNat)
      case atStart => exact ⟨0, 1, 0, true, by omega, rfl, rfl, rfl, rfl, Lib.hid RMid.nil, hB2⟩
      case round =>
        obtain ⟨k, n, d, b, hk', rfl, rfl, rfl, rfl, hm, hB⟩ := hrel
        have hBw := hW1.trans (hB.mono (Nat.le_succ _))
        have hBz := hB.size
        have hbox := (hB.cell (p := ⟨w.heap.size, 3, none⟩) (by simp)).trans hbox0
        have hnd : n ≤ 60 ∧ d ≤ 60 := by
          obtain ⟨_, q1, q2, _⟩ := hm.out
          have := sz_le Part.def_ defs k
          try simp only [sz_append] at q1 q2
          omega
        obtain ⟨hn60, hd60⟩ := hnd
        by_cases hlt : k < defs.length
        · rcases h0 with h00 | ⟨bb, off, rfl, hb, hk⟩
          · omega
          obtain ⟨cs, hcs, hexp⟩ := hk.get defs bb off k hlt
          have hexp' := hexp
          have hsm := sz_mem Part.def_ hlt
          obtain ⟨e0, he0⟩ : ∃ e, e = defs[k] := ⟨_, rfl⟩
          have htk : (defs.take (k + 1)).map Part.def_ = ((defs.take k).map Part.def_) ++ [Part.def_ e0] := by
            rw [List.take_succ_eq_append_getElem hlt, List.map_append, he0]; simp
          rw [← he0] at hexp hexp' hsm
          have hih := ih (.def_ e0) (by omega) (by omega) B u wr cs (hu.trans ((Below.keptC hBw).mono hBl)) (by omega) hexp'
          have HT := Lib.hid htk; clear htk
          clear he0 hexp'
          have HE : ∀ e w2, ROut (.def_ e0) e ∧ Below wr.heap.size wr w2 → ∃ m l : Nat, ∃ ok : Bool, e = .returned (.tuple #[.int .i64 m, .int .i64 l, .bool ok]) ∧ m ≤ 60 ∧ l ≤ 60 ∧ Hid (RMid ((defs.take (k + 1)).map .def_) (n + m) (max d l) (b && ok)) ∧ Below wr.heap.size wr w2 := by
            rintro e w2 ⟨⟨m, l, rfl, h1, h2, h3⟩, hb2⟩
            exact ⟨m, l, _, rfl, by omega, by omega, Lib.hid (by rw [HT.out]; exact hm.out.step h1 h2 rfl h3), hb2⟩
          have hih2 := hih.mono HE
          clear hih HE
          obtain ⟨f0, t0, j0, d0, k0⟩ := e0
          unfold ClauseAt at hexp
          obtain ⟨_, _, _, _, rfl, ⟨x0, y0, rfl, _⟩, ⟨x1, y1, rfl, _⟩, ⟨x2, y2, rfl, _⟩⟩ := hexp
          obtain ⟨c0, c1, c2, c3, c4⟩ := cells5 ((hcs.keep hu hb).below hBw (by omega))
          clear hcs hk
          cases b with
          | true =>
            go_wp2_with (go_at_call 113; refine hih2.mono ?_; clear hih2; rintro e w2 ⟨m, l, ok, rfl, hm60, hl60, HR, hb2⟩)
            all_goals (
              go_roundw
              case rel => exact ⟨k + 1, n + m, max d l, _, by omega, by go_num, by go_num, int_eq (by omega), rfl, Lib.hid (by simpa using HR.out), hB.trans (hb2.mono (by have := hB.size; simp at this ⊢; omega))⟩
              case measure => simp [intOf]; omega)
          | false =>
            go_wp2_with (go_at_call 113; refine hih2.mono ?_; clear hih2; rintro e w2 ⟨m, l, ok, rfl, hm60, hl60, HR, hb2⟩)
            all_goals (
              go_roundw
              case rel => exact ⟨k + 1, n + m, max d l, false, by omega, by go_num, by go_num, int_eq (by omega), rfl, Lib.hid (by simpa using HR.out), hB.trans (hb2.mono (by have := hB.size; simp at this ⊢; omega))⟩
              case measure => simp [intOf]; omega)
        · have hkl : k = defs.length := by omega
          have hm2 := hm.out
          rw [hkl, List.take_length] at hm2
          have hmF := Lib.hid hm2; clear hm2 hm
          obtain rfl := hkl
          have hBl' : w.heap.size ≤ wr.heap.size := hBw.size
          rcases h1 with h00 | ⟨bb, off, rfl, hb, hk⟩
          · exact absurd h00 (by have := H4.out; omega)
          obtain ⟨cs, hcs, hexp⟩ := hk.get kids bb off 0 (by have := H4.out; omega)
          have hexp' := hexp
          have hsm := sz_mem Part.proc (l := kids) (k := 0) (by have := H4.out; omega)
          obtain ⟨e0, he0⟩ : ∃ e, e = kids[0]'(by have := H4.out; omega) := ⟨_, rfl⟩
          have hkk : kids.map Part.proc = [Part.proc e0] := by
            have h4 := H4.out
            apply List.ext_getElem (by simp [h4])
            intro i hi1 hi2
            have : i = 0 := by simp at hi2; omega
            subst this
            simp [he0]
          rw [← he0] at hexp hexp' hsm
          have hbox1w := (hB.cell (p := ⟨w.heap.size, 4, none⟩) (by simp)).trans hbox1
          have hih := ih (.proc e0) (by omega) (by omega) B u wr cs (hu.trans ((Below.keptC hBw).mono hBl)) (by omega) hexp'
          have HE : ∀ e w2, ROut (.proc e0) e ∧ Below wr.heap.size wr w2 → ∃ m l : Nat, ∃ ok : Bool, e = .returned (.tuple #[.int .i64 m, .int .i64 l, .bool ok]) ∧ m ≤ 60 ∧ l ≤ 60 ∧ Hid (RMid (Part.def_ (.mk 1 text joins defs kids)).parts (n + m) (max d l) (b && ok)) ∧ Below wr.heap.size wr w2 := by
            rintro e w2 ⟨⟨m, l, rfl, h1, h2, h3⟩, hb2⟩
            exact ⟨m, l, _, rfl, by omega, by omega, Lib.hid (by simp only [Part.parts]; rw [hkk]; exact hmF.out.step h1 h2 rfl h3), hb2⟩
          have hih2 := hih.mono HE
          clear hih HE hexp' he0 hkk
          obtain ⟨o0, t0, g0, d0, k0⟩ := e0
          unfold TermAt at hexp
          obtain ⟨_, _, _, _, rfl, ⟨x0, y0, rfl, _⟩, ⟨x1, y1, rfl, _⟩, ⟨x2, y2, rfl, _⟩⟩ := hexp
          obtain ⟨c0, c1, c2, c3, c4⟩ := cells5 ((hcs.keep hu hb).below hBw (by omega))
          simp only [Nat.zero_mul, Nat.add_zero] at c0 c1 c2 c3 c4
          have hk1 : 1 ≤ kids.length := by have := H4.out; omega
          clear hcs hk
          cases b with
          | true =>
            go_wp2_with (go_at_call 59; refine hih2.mono ?_; clear hih2; rintro e w2 ⟨m, l, ok, rfl, hm60, hl60, HR, hb2⟩)
            all_goals (
              go_ret3
              exact ⟨RMid.out' HR.out HSH.out (by simp) (by omega) (by simp), hBw.trans (hb2.mono hBl')⟩)
          | false =>
            go_wp2_with (go_at_call 59; refine hih2.mono ?_; clear hih2; rintro e w2 ⟨m, l, ok, rfl, hm60, hl60, HR, hb2⟩)
            all_goals (
              go_ret3
              exact ⟨RMid.out' HR.out HSH.out (by simp) (by omega) (by simp), hBw.trans (hb2.mono hBl')⟩)
    · have HO := Lib.hid (show rOne text true = true by simp [rOne, g1])
      have ht : ((kids.length : Int) == 1) = true := by rw [g4]; rfl
      have ht2 : ((joins.length : Int) == 0) = true := by rw [g2]; rfl
      have ht3 : (defs.length : Int) ≤ 5 := by omega
      have H3 := Lib.hid g2; have H4 := Lib.hid g4; clear g1 g2 g3 g4
      go_enter Tryz.func113, Tryz.ntmps113
      go_wp2_with (go_at_call 112; refine (one_any _ _ _ hz).mono ?_; rw [HO.out]; rintro e w1 ⟨rfl, hb1⟩; have hc0 := (hb1.cell (p := ⟨w.heap.size, 0, none⟩) (by simp)).trans (World.cell?_alloc_at _ _ _ _ rfl); have hc1 := (hb1.cell (p := ⟨w.heap.size, 1, none⟩) (by simp)).trans (World.cell?_alloc_at _ _ _ _ rfl); have hc2 := (hb1.cell (p := ⟨w.heap.size, 2, none⟩) (by simp)).trans (World.cell?_alloc_at _ _ _ _ rfl); have hc3 := (hb1.cell (p := ⟨w.heap.size, 3, none⟩) (by simp)).trans (World.cell?_alloc_at _ _ _ _ rfl); have hc4 := (hb1.cell (p := ⟨w.heap.size, 4, none⟩) (by simp)).trans (World.cell?_alloc_at _ _ _ _ rfl); have hB1 : Below (w.heap.size + 1) W1 w1 := (by rw [HW.out]; exact hb1.mono (by simp)))
      go_loopw [7, 8, 6, 9] (fun vn vd vb i wr => ∃ (k n d : Nat) (b : Bool), k ≤ defs.length ∧ i = .int .i64 k ∧ vn = .int .i64 n ∧ vd = .int .i64 d ∧ vb = .bool b ∧ Hid (RMid ((defs.take k).map .def_) n d b) ∧ Below (w.heap.size + 1) W1 wr) (fun _ _ _ i _ => defs.length - (intOf i).toNat)
      case atStart => exact ⟨0, 1, 0, true, by omega, rfl, rfl, rfl, rfl, Lib.hid RMid.nil, hB1⟩
      case round =>
        obtain ⟨k, n, d, b, hk', rfl, rfl, rfl, rfl, hm, hB⟩ := hrel
        have hBw := hW1.trans (hB.mono (Nat.le_succ _))
        have hBz := hB.size
        have hbox := (hB.cell (p := ⟨w.heap.size, 3, none⟩) (by simp)).trans hbox0
        have hnd : n ≤ 60 ∧ d ≤ 60 := by
          obtain ⟨_, q1, q2, _⟩ := hm.out
          have := sz_le Part.def_ defs k
          try simp only [sz_append] at q1 q2
          omega
        obtain ⟨hn60, hd60⟩ := hnd
        by_cases hlt : k < defs.length
        · rcases h0 with h00 | ⟨bb, off, rfl, hb, hk⟩
          · omega
          obtain ⟨cs, hcs, hexp⟩ := hk.get defs bb off k hlt
          have hexp' := hexp
          have hsm := sz_mem Part.def_ hlt
          obtain ⟨e0, he0⟩ : ∃ e, e = defs[k] := ⟨_, rfl⟩
          have htk : (defs.take (k + 1)).map Part.def_ = ((defs.take k).map Part.def_) ++ [Part.def_ e0] := by
            rw [List.take_succ_eq_append_getElem hlt, List.map_append, he0]; simp
          rw [← he0] at hexp hexp' hsm
          have hih := ih (.def_ e0) (by omega) (by omega) B u wr cs (hu.trans ((Below.keptC hBw).mono hBl)) (by omega) hexp'
          have HT := Lib.hid htk; clear htk
          clear he0 hexp'
          have HE : ∀ e w2, ROut (.def_ e0) e ∧ Below wr.heap.size wr w2 → ∃ m l : Nat, ∃ ok : Bool, e = .returned (.tuple #[.int .i64 m, .int .i64 l, .bool ok]) ∧ m ≤ 60 ∧ l ≤ 60 ∧ Hid (RMid ((defs.take (k + 1)).map .def_) (n + m) (max d l) (b && ok)) ∧ Below wr.heap.size wr w2 := by
            rintro e w2 ⟨⟨m, l, rfl, h1, h2, h3⟩, hb2⟩
            exact ⟨m, l, _, rfl, by omega, by omega, Lib.hid (by rw [HT.out]; exact hm.out.step h1 h2 rfl h3), hb2⟩
          have hih2 := hih.mono HE
          clear hih HE
          obtain ⟨f0, t0, j0, d0, k0⟩ := e0
          unfold ClauseAt at hexp
          obtain ⟨_, _, _, _, rfl, ⟨x0, y0, rfl, _⟩, ⟨x1, y1, rfl, _⟩, ⟨x2, y2, rfl, _⟩⟩ := hexp
          obtain ⟨c0, c1, c2, c3, c4⟩ := cells5 ((hcs.keep hu hb).below hBw (by omega))
          clear hcs hk
          cases b with
          | true =>
            go_wp2_with (go_at_call 113; refine hih2.mono ?_; clear hih2; rintro e w2 ⟨m, l, ok, rfl, hm60, hl60, HR, hb2⟩)
            all_goals (
              go_roundw
              case rel => exact ⟨k + 1, n + m, max d l, _, by omega, by go_num, by go_num, int_eq (by omega), rfl, Lib.hid (by simpa using HR.out), hB.trans (hb2.mono (by have := hB.size; simp at this ⊢; omega))⟩
              case measure => simp [intOf]; omega)
          | false =>
            go_wp2_with (go_at_call 113; refine hih2.mono ?_; clear hih2; rintro e w2 ⟨m, l, ok, rfl, hm60, hl60, HR, hb2⟩)
            all_goals (
              go_roundw
              case rel => exact ⟨k + 1, n + m, max d l, false, by omega, by go_num, by go_num, int_eq (by omega), rfl, Lib.hid (by simpa using HR.out), hB.trans (hb2.mono (by have := hB.size; simp at this ⊢; omega))⟩
              case measure => simp [intOf]; omega)
        · have hkl : k = defs.length := by omega
          have hm2 := hm.out
          rw [hkl, List.take_length] at hm2
          have hmF := Lib.hid hm2; clear hm2 hm
          obtain rfl := hkl
          have hBl' : w.heap.size ≤ wr.heap.size := hBw.size
          rcases h1 with h00 | ⟨bb, off, rfl, hb, hk⟩
          · exact absurd h00 (by have := H4.out; omega)
          obtain ⟨cs, hcs, hexp⟩ := hk.get kids bb off 0 (by have := H4.out; omega)
          have hexp' := hexp
          have hsm := sz_mem Part.proc (l := kids) (k := 0) (by have := H4.out; omega)
          obtain ⟨e0, he0⟩ : ∃ e, e = kids[0]'(by have := H4.out; omega) := ⟨_, rfl⟩
          have hkk : kids.map Part.proc = [Part.proc e0] := by
            have h4 := H4.out
            apply List.ext_getElem (by simp [h4])
            intro i hi1 hi2
            have : i = 0 := by simp at hi2; omega
            subst this
            simp [he0]
          rw [← he0] at hexp hexp' hsm
          have hbox1w := (hB.cell (p := ⟨w.heap.size, 4, none⟩) (by simp)).trans hbox1
          have hih := ih (.proc e0) (by omega) (by omega) B u wr cs (hu.trans ((Below.keptC hBw).mono hBl)) (by omega) hexp'
          have HE : ∀ e w2, ROut (.proc e0) e ∧ Below wr.heap.size wr w2 → ∃ m l : Nat, ∃ ok : Bool, e = .returned (.tuple #[.int .i64 m, .int .i64 l, .bool ok]) ∧ m ≤ 60 ∧ l ≤ 60 ∧ Hid (RMid (Part.def_ (.mk 2 text joins defs kids)).parts (n + m) (max d l) (b && ok)) ∧ Below wr.heap.size wr w2 := by
            rintro e w2 ⟨⟨m, l, rfl, h1, h2, h3⟩, hb2⟩
            exact ⟨m, l, _, rfl, by omega, by omega, Lib.hid (by simp only [Part.parts]; rw [hkk]; exact hmF.out.step h1 h2 rfl h3), hb2⟩
          have hih2 := hih.mono HE
          clear hih HE hexp' he0 hkk
          obtain ⟨o0, t0, g0, d0, k0⟩ := e0
          unfold TermAt at hexp
          obtain ⟨_, _, _, _, rfl, ⟨x0, y0, rfl, _⟩, ⟨x1, y1, rfl, _⟩, ⟨x2, y2, rfl, _⟩⟩ := hexp
          obtain ⟨c0, c1, c2, c3, c4⟩ := cells5 ((hcs.keep hu hb).below hBw (by omega))
          simp only [Nat.zero_mul, Nat.add_zero] at c0 c1 c2 c3 c4
          have hk1 : 1 ≤ kids.length := by have := H4.out; omega
          clear hcs hk
          cases b with
          | true =>
            go_wp2_with (go_at_call 59; refine hih2.mono ?_; clear hih2; rintro e w2 ⟨m, l, ok, rfl, hm60, hl60, HR, hb2⟩)
            all_goals (
              go_ret3
              exact ⟨RMid.out' HR.out HSH.out (by simp) (by omega) (by simp), hBw.trans (hb2.mono hBl')⟩)
          | false =>
            go_wp2_with (go_at_call 59; refine hih2.mono ?_; clear hih2; rintro e w2 ⟨m, l, ok, rfl, hm60, hl60, HR, hb2⟩)
            all_goals (
              go_ret3
              exact ⟨RMid.out' HR.out HSH.out (by simp) (by omega) (by simp), hBw.trans (hb2.mono hBl')⟩)

end Go.Proofs.YtjmlaeofjjhfmaaGreat
