/- The reference's look at all TermDefs of a process: defs, within. -/
import Derived.Test.YtjmlaeofjjhfmaaGreatC49
import Derived.Test.YtjmlaeofjjhfmaaGreatC42
import Derived.Test.YtjmlaeofjjhfmaaGreatC45
set_option linter.unusedVariables false
set_option linter.unusedSimpArgs false
namespace Go.Proofs.YtjmlaeofjjhfmaaGreat
open Go.RowKit

theorem allShL_get {α : Type} (f : α → Part) {l : List α} (h : allShL (l.map f) = true) (k : Nat) (hk : k < l.length) : allSh (f l[k]) = true := by
  unfold allShL at h
  rw [List.all_eq_true] at h
  exact h _ (List.mem_map.2 ⟨l[k], List.getElem_mem hk, rfl⟩)
theorem texts_of_sh {d : List Clause} (h : allShL (d.map .def_) = true) : (alltexts (groupsL d)).length ≤ 3 * csize d := by
  refine texts_le d (fun q hq => okJ_of ?_)
  rw [nodesCs_eq] at hq
  obtain ⟨p, hp, hqp⟩ := List.mem_flatMap.1 hq
  unfold allShL at h
  rw [List.all_eq_true] at h
  have h2 := h p hp
  unfold allSh at h2
  rw [List.all_eq_true] at h2
  exact h2 q hqp
theorem csize_sz (d : List Clause) : csize d = sz (d.map .def_) := by rw [csize, nodesCs_eq]; rfl

def RD (s : Nat) : Prop :=
  (∀ t : Term, (Part.proc t).size ≤ s → (Part.proc t).size ≤ 60 → allSh (.proc t) = true → ∀ (B : Nat) (u w : World) (cs : List Value), KeptC B u w → B ≤ w.heap.size → TermAt B u cs t →
    Calls Tryz.prog 60 #[.agg cs.toArray] w fun e w' => e = .returned (.bool (agAll (.proc t))) ∧ Below w.heap.size w w') ∧
  (∀ l : List Clause, sz (l.map .def_) ≤ s → sz (l.map .def_) ≤ 60 → allShL (l.map .def_) = true → ∀ (B : Nat) (u w : World) (a : Option Addr) (cap : Nat), KeptC B u w → B ≤ w.heap.size →
    (l.length = 0 ∨ ∃ b off, a = some ⟨b, off, none⟩ ∧ b < B ∧ ClausesAt B u b off l) →
    Calls Tryz.prog 114 #[.slice a l.length cap] w fun e w' => e = .returned (.bool (agAllL (l.map .def_))) ∧ Below w.heap.size w w')

set_option maxRecDepth 10000 in
set_option maxHeartbeats 8000000 in
theorem within_step (s : Nat) (ih : RD s) (l : List Clause) (hs : sz (l.map .def_) ≤ s + 1) (h60 : sz (l.map .def_) ≤ 60) (hsh : allShL (l.map .def_) = true) (B : Nat) (u w : World) (a : Option Addr) (cap : Nat) (hu : KeptC B u w) (hBl : B ≤ w.heap.size)
    (h0 : l.length = 0 ∨ ∃ b off, a = some ⟨b, off, none⟩ ∧ b < B ∧ ClausesAt B u b off l) :
    Calls Tryz.prog 114 #[.slice a l.length cap] w fun e w' => e = .returned (.bool (agAllL (l.map .def_))) ∧ Below w.heap.size w w' := by
  have hll := len_sz Part.def_ l
  have hl60 : l.length ≤ 60 := by omega
  clear hll
  have HSH := Lib.hid hsh; clear hsh
  go_enter Tryz.func114, Tryz.ntmps114
  go_wp2
  go_loopw [3] (fun i wr => ∃ (k : Nat), k ≤ l.length ∧ i = .int .i64 k ∧ Hid (agAllL ((l.take k).map .def_) = true) ∧ Below w.heap.size w wr) (fun i _ => l.length - (intOf i).toNat)
  case atStart => exact ⟨0, by omega, rfl, Lib.hid rfl, Below.refl _ _⟩
  case round =>
    obtain ⟨k, hk', rfl, hm, hB⟩ := hrel
    have hBz := hB.size
    by_cases hlt : k < l.length
    · rcases h0 with h00 | ⟨b, off, rfl, hb, hk⟩
      · omega
      obtain ⟨cs, hcs, hexp⟩ := hk.get l b off k hlt
      have hsm := sz_mem Part.def_ hlt
      have hsk := allShL_get Part.def_ HSH.out k hlt
      have htk := agAllL_take Part.def_ l k hlt
      have hno := agAllL_false Part.def_ l k hlt
      obtain ⟨e0, he0⟩ : ∃ e, e = l[k] := ⟨_, rfl⟩
      rw [← he0] at hexp hsm hsk htk hno
      clear he0
      obtain ⟨f0, t0, j0, d0, k0⟩ := e0
      have hss := size_sz (Part.def_ (.mk f0 t0 j0 d0 k0))
      simp only [Part.parts, sz_append] at hss
      rw [allSh_eq] at hsk
      simp only [Part.parts, allShL_append, Bool.and_eq_true] at hsk
      obtain ⟨hsp, hsd, hskk⟩ := hsk
      have hag := agAll_eq (.def_ (.mk f0 t0 j0 d0 k0))
      simp only [agreesB, Bool.true_and, Part.parts, agAllL_append] at hag
      have hk1 : k0.length = 1 := by
        simp only [Part.shaped, shapedCB, Bool.or_eq_true, Bool.and_eq_true, beq_iff_eq, decide_eq_true_eq] at hsp
        rcases hsp with ⟨_, h⟩ | ⟨_, h⟩ <;> exact h
      obtain ⟨q, rfl⟩ : ∃ q, k0 = [q] := List.length_eq_one_iff.1 hk1
      unfold ClauseAt at hexp
      obtain ⟨_, _, _, _, rfl, ⟨x0, y0, rfl, _⟩, ⟨x1, y1, rfl, _, hd1⟩, ⟨x2, y2, rfl, _, hd2⟩⟩ := hexp
      have hcw : ∀ W, Below w.heap.size w W → W.cell? ⟨b, off + k * 5 + 3, none⟩ = some (.slice x1 d0.length y1) ∧ W.cell? ⟨b, off + k * 5 + 4, none⟩ = some (.slice x2 1 y2) := fun W hW => by
        obtain ⟨_, _, _, c3, c4⟩ := cells5 ((hcs.keep hu hb).below hW (by omega))
        exact ⟨c3, c4⟩
      obtain ⟨c3, c4⟩ := hcw wr hB
      have hq0 : (Part.proc q).size = sz ([q].map Part.proc) := by simp [sz_one]
      rcases hd2 with h00 | ⟨kb, koff, rfl, hkb, hkk⟩
      · simp at h00
      obtain ⟨kcs, hkcs, hkt⟩ := hkk.get [q] kb koff 0 (by simp)
      simp only [Nat.zero_mul, Nat.add_zero, List.getElem_cons_zero] at hkcs hkt
      have hW1 := ih.2 d0 (by omega) (by omega) hsd B u wr x1 y1 (hu.trans ((Below.keptC hB).mono hBl)) (by omega) hd1
      have hD1 := fun W (hW : Below w.heap.size w W) => ih.1 q (by omega) (by omega) (by have := allShL_get Part.proc (l := [q]) hskk 0 (by simp); simpa using this) B u W kcs (hu.trans ((Below.keptC hW).mono hBl)) (by have := hW.size; omega) hkt
      have HD1 := Lib.hid hD1; have HCW := Lib.hid hcw
      have hag2 : agAll (.def_ (.mk f0 t0 j0 d0 [q])) = (agAllL (d0.map .def_) && agAll (.proc q)) := by rw [hag]; simp [agAllL]
      have HAG := Lib.hid hag2; have HTK := Lib.hid htk; have HNO := Lib.hid hno
      have hkcW : ∀ W, Below w.heap.size w W → CellsAt W kb koff kcs := fun W hW => (hkcs.keep hu hkb).below hW (by omega)
      have HKC := Lib.hid hkcW
      clear hag hag2 htk hno hD1 hcw hkcW hsm hss hq0 hkcs hkk hk1
      have hkt' := hkt
      obtain ⟨qo, qt, qa, qd, qk⟩ := q
      unfold TermAt at hkt'
      obtain ⟨_, _, _, _, rfl, ⟨z0, v0, rfl, _⟩, ⟨z1, v1, rfl, _⟩, ⟨z2, v2, rfl, _⟩⟩ := hkt'
      cases hwd : agAllL (d0.map .def_) with
      | false =>
        rw [hwd] at hW1
        have HF := Lib.hid (HNO.out (by rw [HAG.out, hwd]; rfl))
        clear hwd
        go_wp2_with (go_at_call 114; refine hW1.mono ?_; clear hW1; rintro e w1 ⟨rfl, hb1⟩)
        go_ret
        exact ⟨ret_bool HF.out.symm, hB.trans (hb1.mono hBz)⟩
      | true =>
      rw [hwd] at hW1
      cases hdd : agAll (.proc (.mk qo qt qa qd qk)) with
      | false =>
        have HF := Lib.hid (HNO.out (by rw [HAG.out, hdd]; simp))
        rw [hdd] at HD1
        clear hwd hdd
        go_wp2_with (first
          | (go_at_call 114; refine hW1.mono ?_; clear hW1; rintro e w1 ⟨rfl, hb1⟩; obtain ⟨f3, f4⟩ := HCW.out w1 (hB.trans (hb1.mono hBz)); obtain ⟨m0, m1, m2, m3, m4⟩ := cells5 (HKC.out w1 (hB.trans (hb1.mono hBz))))
          | (go_at_call 60; refine (HD1.out w1 (hB.trans (hb1.mono hBz))).mono ?_; rintro e w2 ⟨rfl, hb2⟩))
        go_ret
        exact ⟨ret_bool HF.out.symm, hB.trans ((hb1.trans (hb2.mono hb1.size)).mono hBz)⟩
      | true =>
        have HT := Lib.hid (show agAllL ((l.take (k + 1)).map .def_) = true by rw [HTK.out, hm.out, HAG.out, hwd, hdd]; rfl)
        rw [hdd] at HD1
        clear hwd hdd
        go_wp2_with (first
          | (go_at_call 114; refine hW1.mono ?_; clear hW1; rintro e w1 ⟨rfl, hb1⟩; obtain ⟨f3, f4⟩ := HCW.out w1 (hB.trans (hb1.mono hBz)); obtain ⟨m0, m1, m2, m3, m4⟩ := cells5 (HKC.out w1 (hB.trans (hb1.mono hBz))))
          | (go_at_call 60; refine (HD1.out w1 (hB.trans (hb1.mono hBz))).mono ?_; rintro e w2 ⟨rfl, hb2⟩))
        go_roundw
        case rel => exact ⟨k + 1, by omega, by go_num, HT, hB.trans ((hb1.trans (hb2.mono hb1.size)).mono hBz)⟩
        case measure => simp [intOf]; omega
    · have hkl : k = l.length := by omega
      have hm2 := hm.out
      rw [hkl, List.take_length] at hm2
      have HF := Lib.hid hm2
      clear hm2 hm
      obtain rfl := hkl
      go_wp2
      go_ret
      exact ⟨ret_bool HF.out.symm, hB⟩

set_option maxRecDepth 10000 in
set_option maxHeartbeats 8000000 in
theorem defs_step (s : Nat) (ih : RD s) (op : Int) (text : ByteArray) (args : List Exp) (defs : List Clause) (kids : List Term) (hs : (Part.proc (.mk op text args defs kids)).size ≤ s + 1) (h60 : (Part.proc (.mk op text args defs kids)).size ≤ 60) (hsh : allSh (.proc (.mk op text args defs kids)) = true)
    (B : Nat) (u w : World) (cs : List Value) (hu : KeptC B u w) (hBl : B ≤ w.heap.size) (hv : TermAt B u cs (.mk op text args defs kids)) :
    Calls Tryz.prog 60 #[.agg cs.toArray] w fun e w' => e = .returned (.bool (agAll (.proc (.mk op text args defs kids)))) ∧ Below w.heap.size w w' := by
  unfold TermAt at hv
  obtain ⟨hz, _, _, _, rfl, ⟨a0, p0, rfl, l0, h0⟩, ⟨a1, p1, rfl, l1, h1⟩, ⟨a2, p2, rfl, l2, h2⟩⟩ := hv
  have hss := size_sz (Part.proc (.mk op text args defs kids))
  simp only [Part.parts, sz_append] at hss
  have hkl := len_sz Part.proc kids
  have hkl60 : kids.length ≤ 60 := by omega
  rw [allSh_eq] at hsh
  simp only [Part.parts, allShL_append, Bool.and_eq_true] at hsh
  obtain ⟨hsp, ⟨_, hsd⟩, hskk⟩ := hsh
  have hag := agAll_eq (.proc (.mk op text args defs kids))
  simp only [Part.parts, agAllL_append, agAllL_exp, Bool.true_and] at hag
  obtain ⟨W1, hW1'⟩ : ∃ W1, W1 = w.alloc (.cells #[.int .i64 op, .string text, .slice a0 args.length p0, .slice a1 defs.length p1, .slice a2 kids.length p2] 33) := ⟨_, rfl⟩
  have z1 : W1.heap.size = w.heap.size + 1 := by rw [hW1']; simp
  have hW1 : Below w.heap.size w W1 := by rw [hW1']; exact (Below.refl _ w).alloc (Nat.le_refl _) _
  have hbox1 : W1.cell? ⟨w.heap.size, 3, none⟩ = some (.slice a1 defs.length p1) := by rw [hW1', World.cell?_alloc_at _ _ _ _ rfl]; rfl
  have hbox2 : W1.cell? ⟨w.heap.size, 4, none⟩ = some (.slice a2 kids.length p2) := by rw [hW1', World.cell?_alloc_at _ _ _ _ rfl]; rfl
  have HW := Lib.hid hW1'; clear hW1'
  have hcs := csize_sz defs
  have htx := texts_of_sh hsd
  have hlk := look_anyB B u defs (by omega) (by omega) a1 p1 l1 h1 W1 (hu.trans ((Below.keptC hW1).mono hBl)) (by omega)
  have hwi := fun W (hW : Below w.heap.size w W) => ih.2 defs (by omega) (by omega) hsd B u W a1 p1 (hu.trans ((Below.keptC hW).mono hBl)) (by have := hW.size; omega) h1
  have HLK := Lib.hid hlk; have HWI := Lib.hid hwi; have HAG := Lib.hid hag; have HSK := Lib.hid hskk
  have hsz2 : sz (kids.map Part.proc) ≤ s ∧ sz (kids.map Part.proc) ≤ 60 := by omega
  obtain ⟨hks, hk60⟩ := hsz2
  have hsp' := Lib.hid hsp
  clear hlk hwi hag hskk hsp hss hcs htx hkl hs h60 h0 h1
  by_cases ho : op = 4
  · subst ho
    have HA : Hid (agreesB (.proc (.mk 4 text args defs kids)) = agreeB defs) := Lib.hid (by simp [agreesB])
    cases hab : agreeB defs with
    | false =>
      have HF := Lib.hid (show agAll (.proc (.mk 4 text args defs kids)) = false by rw [HAG.out, HA.out, hab]; rfl)
      rw [hab] at HLK
      clear hab
      go_enter Tryz.func60, Tryz.ntmps60
      go_wp2_with (go_at_call 70; rw [← HW.out]; refine HLK.out.mono ?_; rintro e w1 ⟨X, rfl, _, hb1⟩)
      go_ret
      exact ⟨ret_bool HF.out.symm, hW1.trans (hb1.mono (by omega))⟩
    | true =>
    rw [hab] at HLK
    cases hwd : agAllL (defs.map .def_) with
    | false =>
      have HF := Lib.hid (show agAll (.proc (.mk 4 text args defs kids)) = false by rw [HAG.out, HA.out, hab, hwd]; rfl)
      rw [hwd] at HWI
      clear hab hwd
      go_enter Tryz.func60, Tryz.ntmps60
      go_wp2_with (first
        | (go_at_call 70; rw [← HW.out]; refine HLK.out.mono ?_; rintro e w1 ⟨X, rfl, _, hb1⟩; have g1 := (hb1.cell (p := ⟨w.heap.size, 3, none⟩) (by simp; omega)).trans hbox1)
        | (go_at_call 114; refine (HWI.out w1 (hW1.trans (hb1.mono (by omega)))).mono ?_; rintro e w2 ⟨rfl, hb2⟩))
      go_ret
      exact ⟨ret_bool HF.out.symm, hW1.trans ((hb1.trans (hb2.mono hb1.size)).mono (by omega))⟩
    | true =>
      have HK : Hid (agAll (.proc (.mk 4 text args defs kids)) = agAllL (kids.map .proc)) := Lib.hid (by rw [HAG.out, HA.out, hab, hwd]; rfl)
      rw [hwd] at HWI
      clear hab hwd
      go_enter Tryz.func60, Tryz.ntmps60
      go_wp2_with (first
        | (go_at_call 70; rw [← HW.out]; refine HLK.out.mono ?_; rintro e w1 ⟨X, rfl, _, hb1⟩; have g1 := (hb1.cell (p := ⟨w.heap.size, 3, none⟩) (by simp; omega)).trans hbox1)
        | (go_at_call 114; refine (HWI.out w1 (hW1.trans (hb1.mono (by omega)))).mono ?_; rintro e w2 ⟨rfl, hb2⟩; have hB0 : Below (w.heap.size + 1) W1 w2 := (hb1.trans (hb2.mono hb1.size)).mono (by omega)))
      go_loopw [5] (fun i wr => ∃ (k : Nat), k ≤ kids.length ∧ i = .int .i64 k ∧ Hid (agAllL ((kids.take k).map .proc) = true) ∧ Below (w.heap.size + 1) W1 wr) (fun i _ => kids.length - (intOf i).toNat)
      case atStart => exact ⟨0, by omega, rfl, Lib.hid rfl, hB0⟩
      case round =>
        obtain ⟨k, hk', rfl, hm, hB⟩ := hrel
        have hBw := hW1.trans (hB.mono (Nat.le_succ _))
        have hBz := hBw.size
        have hbox := (hB.cell (p := ⟨w.heap.size, 4, none⟩) (by simp)).trans hbox2
        by_cases hlt : k < kids.length
        · rcases h2 with h00 | ⟨b, off, rfl, hb, hk⟩
          · omega
          obtain ⟨cs, hcs, hexp⟩ := hk.get kids b off k hlt
          have hexp' := hexp
          have hsm := sz_mem Part.proc hlt
          have hsk := allShL_get Part.proc HSK.out k hlt
          have htk := agAllL_take Part.proc kids k hlt
          have hno := agAllL_false Part.proc kids k hlt
          obtain ⟨e0, he0⟩ : ∃ e, e = kids[k] := ⟨_, rfl⟩
          rw [← he0] at hexp hexp' hsm hsk htk hno
          clear he0
          have hih := ih.1 e0 (by omega) (by omega) hsk B u wr cs (hu.trans ((Below.keptC hBw).mono hBl)) (by omega) hexp'
          have HTK := Lib.hid htk; have HNO := Lib.hid hno
          clear htk hno hsm hsk hexp'
          obtain ⟨o0, t0, g0, d0, k0⟩ := e0
          unfold TermAt at hexp
          obtain ⟨_, _, _, _, rfl, ⟨x0, y0, rfl, _⟩, ⟨x1, y1, rfl, _⟩, ⟨x2, y2, rfl, _⟩⟩ := hexp
          obtain ⟨c0, c1, c2, c3, c4⟩ := cells5 ((hcs.keep hu hb).below hBw (by omega))
          clear hcs hk
          cases hdd : agAll (.proc (.mk o0 t0 g0 d0 k0)) with
          | false =>
            have HF := Lib.hid (HNO.out hdd)
            rw [hdd] at hih
            clear hdd
            go_wp2_with (go_at_call 60; refine hih.mono ?_; clear hih; rintro e w5 ⟨rfl, hb5⟩)
            go_ret
            exact ⟨ret_bool (by rw [HK.out, HF.out]), hBw.trans (hb5.mono hBz)⟩
          | true =>
            have HT := Lib.hid (show agAllL ((kids.take (k + 1)).map .proc) = true by rw [HTK.out, hm.out, hdd]; rfl)
            rw [hdd] at hih
            clear hdd
            go_wp2_with (go_at_call 60; refine hih.mono ?_; clear hih; rintro e w5 ⟨rfl, hb5⟩)
            go_roundw
            case rel => exact ⟨k + 1, by omega, by go_num, HT, hB.trans (hb5.mono (by have := hB.size; omega))⟩
            case measure => simp [intOf]; omega
        · have hkl : k = kids.length := by omega
          have hm2 := hm.out
          rw [hkl, List.take_length] at hm2
          have HF := Lib.hid hm2
          clear hm2 hm
          obtain rfl := hkl
          go_wp2
          go_ret
          exact ⟨ret_bool (by rw [HK.out, HF.out]), hBw⟩
  · have ho' : (op == 4) = false := by simpa using ho
    have HA : Hid (agreesB (.proc (.mk op text args defs kids)) = true) := Lib.hid (by simp [agreesB, ho])
    have HK : Hid (agAll (.proc (.mk op text args defs kids)) = agAllL (kids.map .proc)) := Lib.hid (by
      have hd : defs = [] := by
        have h := hsp'.out
        simp only [Part.shaped, shapedTB, Bool.or_eq_true, Bool.and_eq_true, beq_iff_eq, decide_eq_true_eq] at h
        exact List.eq_nil_of_length_eq_zero (by omega)
      rw [HAG.out, HA.out, hd]; simp [agAllL])
    have hB0 : Below (w.heap.size + 1) W1 W1 := Below.refl _ _
    clear ho
    go_enter Tryz.func60, Tryz.ntmps60
    go_wp2_with fail
    try rw [← HW.out]
    go_loopw [5] (fun i wr => ∃ (k : Nat), k ≤ kids.length ∧ i = .int .i64 k ∧ Hid (agAllL ((kids.take k).map .proc) = true) ∧ Below (w.heap.size + 1) W1 wr) (fun i _ => kids.length - (intOf i).toNat)
    case atStart => exact ⟨0, by omega, rfl, Lib.hid rfl, hB0⟩
    case round =>
      obtain ⟨k, hk', rfl, hm, hB⟩ := hrel
      have hBw := hW1.trans (hB.mono (Nat.le_succ _))
      have hBz := hBw.size
      have hbox := (hB.cell (p := ⟨w.heap.size, 4, none⟩) (by simp)).trans hbox2
      by_cases hlt : k < kids.length
      · rcases h2 with h00 | ⟨b, off, rfl, hb, hk⟩
        · omega
        obtain ⟨cs, hcs, hexp⟩ := hk.get kids b off k hlt
        have hexp' := hexp
        have hsm := sz_mem Part.proc hlt
        have hsk := allShL_get Part.proc HSK.out k hlt
        have htk := agAllL_take Part.proc kids k hlt
        have hno := agAllL_false Part.proc kids k hlt
        obtain ⟨e0, he0⟩ : ∃ e, e = kids[k] := ⟨_, rfl⟩
        rw [← he0] at hexp hexp' hsm hsk htk hno
        clear he0
        have hih := ih.1 e0 (by omega) (by omega) hsk B u wr cs (hu.trans ((Below.keptC hBw).mono hBl)) (by omega) hexp'
        have HTK := Lib.hid htk; have HNO := Lib.hid hno
        clear htk hno hsm hsk hexp'
        obtain ⟨o0, t0, g0, d0, k0⟩ := e0
        unfold TermAt at hexp
        obtain ⟨_, _, _, _, rfl, ⟨x0, y0, rfl, _⟩, ⟨x1, y1, rfl, _⟩, ⟨x2, y2, rfl, _⟩⟩ := hexp
        obtain ⟨c0, c1, c2, c3, c4⟩ := cells5 ((hcs.keep hu hb).below hBw (by omega))
        clear hcs hk
        cases hdd : agAll (.proc (.mk o0 t0 g0 d0 k0)) with
        | false =>
          have HF := Lib.hid (HNO.out hdd)
          rw [hdd] at hih
          clear hdd
          go_wp2_with (go_at_call 60; refine hih.mono ?_; clear hih; rintro e w5 ⟨rfl, hb5⟩)
          go_ret
          exact ⟨ret_bool (by rw [HK.out, HF.out]), hBw.trans (hb5.mono hBz)⟩
        | true =>
          have HT := Lib.hid (show agAllL ((kids.take (k + 1)).map .proc) = true by rw [HTK.out, hm.out, hdd]; rfl)
          rw [hdd] at hih
          clear hdd
          go_wp2_with (go_at_call 60; refine hih.mono ?_; clear hih; rintro e w5 ⟨rfl, hb5⟩)
          go_roundw
          case rel => exact ⟨k + 1, by omega, by go_num, HT, hB.trans (hb5.mono (by have := hB.size; omega))⟩
          case measure => simp [intOf]; omega
      · have hkl : k = kids.length := by omega
        have hm2 := hm.out
        rw [hkl, List.take_length] at hm2
        have HF := Lib.hid hm2
        clear hm2 hm
        obtain rfl := hkl
        go_wp2
        go_ret
        exact ⟨ret_bool (by rw [HK.out, HF.out]), hBw⟩

theorem rd_all : ∀ s, RD s := by
  intro s
  induction s with
  | zero =>
    refine ⟨fun t ht => absurd (by rw [Part.size, nodesOf_eq]; simp) (Nat.not_lt.2 ht), fun l hl h60 hsh B u w a cap hu hB hsrc => ?_⟩
    have hl0 : l = [] := by have := len_sz Part.def_ l; exact List.eq_nil_of_length_eq_zero (by omega)
    subst hl0
    go_enter Tryz.func114, Tryz.ntmps114
    go_wp2
    refine wp_loop_rounds 1 ?_
    rw [rounds_succ]
    go_wp2
    go_ret
    exact ⟨rfl, Below.refl _ _⟩
  | succ s ih =>
    refine ⟨fun t ht h60 hsh B u w cs hu hB hv => ?_, fun l hl h60 hsh B u w a cap hu hB hsrc => within_step s ih l hl h60 hsh B u w a cap hu hB hsrc⟩
    obtain ⟨o, tx, a, d, k⟩ := t
    exact defs_step s ih o tx a d k ht h60 hsh B u w cs hu hB hv

end Go.Proofs.YtjmlaeofjjhfmaaGreat
