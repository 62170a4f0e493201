/- The reference's look at shape, nodes and depth: term. -/
import Derived.Test.YtjmlaeofjjhfmaaGreatC43
set_option linter.unusedVariables false
set_option linter.unusedSimpArgs false
namespace Go.Proofs.YtjmlaeofjjhfmaaGreat
open Go.RowKit

set_option maxRecDepth 10000 in
set_option maxHeartbeats 16000000 in
theorem r_term_yes (s : Nat) (ih : RAt s) (op : Int) (text : ByteArray) (args : List Exp) (defs : List Clause) (kids : List Term) (hs : (Part.proc (.mk op text args defs kids)).size ≤ s + 1) (h60 : (Part.proc (.mk op text args defs kids)).size ≤ 60) (B : Nat) (u w : World) (hu : KeptC B u w) (hBl : B ≤ w.heap.size)
    (a0 a1 a2 : Option Addr) (p0 p1 p2 : Nat) (hz : text.size ≤ maxLen) (h0 : args.length = 0 ∨ ∃ b off, a0 = some ⟨b, off, none⟩ ∧ b < B ∧ ExpsAt B u b off args) (h1 : defs.length = 0 ∨ ∃ b off, a1 = some ⟨b, off, none⟩ ∧ b < B ∧ ClausesAt B u b off defs) (h2 : kids.length = 0 ∨ ∃ b off, a2 = some ⟨b, off, none⟩ ∧ b < B ∧ TermsAt B u b off kids)
    (hsh : shapedTB (.mk op text args defs kids) = true) :
    Calls Tryz.prog 59 #[.agg #[.int .i64 op, .string text, .slice a0 args.length p0, .slice a1 defs.length p1, .slice a2 kids.length p2]] w fun e w' => ROut (.proc (.mk op text args defs kids)) e ∧ Below w.heap.size w w' := by
  have hss := size_sz (Part.proc (.mk op text args defs kids))
  simp only [Part.parts, sz_append] at hss
  have hal := len_sz Part.exp args
  have hdl := len_sz Part.def_ defs
  have hkl := len_sz Part.proc kids
  have hal60 : args.length ≤ 60 := by omega
  have hdl60 : defs.length ≤ 60 := by omega
  have hkl60 : kids.length ≤ 60 := by omega
  have hsd : 1 + (sz (args.map Part.exp) + sz (defs.map Part.def_) + sz (kids.map Part.proc)) ≤ s + 1 := by omega
  have hsd2 : 1 + (sz (args.map Part.exp) + sz (defs.map Part.def_) + sz (kids.map Part.proc)) ≤ 60 := by omega
  obtain ⟨W1, hW1'⟩ : ∃ W1, W1 = w.alloc (.cells #[.int .i64 op, .string text, .slice a0 args.length p0, .slice a1 defs.length p1, .slice a2 kids.length p2] 33) := ⟨_, rfl⟩
  have z1 : W1.heap.size = w.heap.size + 1 := by rw [hW1']; simp
  have hW1 : Below w.heap.size w W1 := by rw [hW1']; exact (Below.refl _ w).alloc (Nat.le_refl _) _
  have hbox0 : W1.cell? ⟨w.heap.size, 2, none⟩ = some (.slice a0 args.length p0) := by
    rw [hW1', World.cell?_alloc_at _ _ _ _ rfl]; rfl
  have hbox1 : W1.cell? ⟨w.heap.size, 3, none⟩ = some (.slice a1 defs.length p1) := by
    rw [hW1', World.cell?_alloc_at _ _ _ _ rfl]; rfl
  have hbox2 : W1.cell? ⟨w.heap.size, 4, none⟩ = some (.slice a2 kids.length p2) := by
    rw [hW1', World.cell?_alloc_at _ _ _ _ rfl]; rfl
  have HW := Lib.hid hW1'; clear hW1'
  have HSH := Lib.hid (show (Part.proc (.mk op text args defs kids)).shaped = true from hsh)
  have h := hsh
  unfold shapedTB at h
  simp only [Bool.or_eq_true, Bool.and_eq_true, beq_iff_eq, decide_eq_true_eq] at h
  clear hsh hss hal hdl hkl h60 hs
  rcases h with ((((⟨⟨⟨⟨h0', g1⟩, g2⟩, g3⟩, g4⟩ | ⟨⟨⟨⟨rfl, g1⟩, g2⟩, g3⟩, g4⟩) | ⟨⟨⟨⟨rfl, g1⟩, g2⟩, g3⟩, g4⟩) | ⟨⟨⟨⟨⟨rfl, g1⟩, g2⟩, g3⟩, g5⟩, g4⟩) | ⟨⟨⟨⟨rfl, g1⟩, g2⟩, g3⟩, g4⟩) | ⟨⟨⟨⟨h0', g1⟩, g2⟩, g3⟩, g4⟩
  ·
    have HO := Lib.hid (show rOne text false = true by simp [rOne, g1])
    have hk : ((kids.length : Int) == 0) = true := by rw [g4]; rfl
    have ha : ((args.length : Int) == 0) = true := by rw [g2]; rfl
    have hd : ((defs.length : Int) == 0) = true := by rw [g3]; rfl
    have H2 := Lib.hid g2; have H3 := Lib.hid g3; have H4 := Lib.hid g4; clear g1 g2 g3 g4
    rcases h0' with rfl | rfl
    all_goals (
      go_enter Tryz.func59, Tryz.ntmps59
      go_wp2_with (go_at_call 112; refine (one_any _ _ _ hz).mono ?_; rw [HO.out]; rintro e w1 ⟨rfl, hb1⟩; have hc0 := (hb1.cell (p := ⟨w.heap.size, 0, none⟩) (by simp)).trans (World.cell?_alloc_at _ _ _ _ rfl); have hc1 := (hb1.cell (p := ⟨w.heap.size, 1, none⟩) (by simp)).trans (World.cell?_alloc_at _ _ _ _ rfl); have hc2 := (hb1.cell (p := ⟨w.heap.size, 2, none⟩) (by simp)).trans (World.cell?_alloc_at _ _ _ _ rfl); have hc3 := (hb1.cell (p := ⟨w.heap.size, 3, none⟩) (by simp)).trans (World.cell?_alloc_at _ _ _ _ rfl); have hc4 := (hb1.cell (p := ⟨w.heap.size, 4, none⟩) (by simp)).trans (World.cell?_alloc_at _ _ _ _ rfl); have hB1 : Below (w.heap.size + 1) W1 w1 := (by rw [HW.out]; exact hb1.mono (by simp)))
      go_loopw [9, 10, 8, 11] (fun vn vd vb i wr => ∃ (k n d : Nat) (b : Bool), k ≤ args.length ∧ i = .int .i64 k ∧ vn = .int .i64 n ∧ vd = .int .i64 d ∧ vb = .bool b ∧ Hid (RMid ((args.take k).map .exp) n d b) ∧ Below (w.heap.size + 1) W1 wr) (fun _ _ _ i _ => args.length - (intOf i).toNat)
      case atStart => exact ⟨0, 1, 0, true, by omega, rfl, rfl, rfl, rfl, Lib.hid RMid.nil, hB1⟩
      case round =>
        obtain ⟨k, n, d, b, hk', rfl, rfl, rfl, rfl, hm, hB⟩ := hrel
        have hBw := hW1.trans (hB.mono (Nat.le_succ _))
        have hBz := hB.size
        have hbox := (hB.cell (p := ⟨w.heap.size, 2, none⟩) (by simp)).trans hbox0
        have hnd : n ≤ 60 ∧ d ≤ 60 := by
          obtain ⟨_, q1, q2, _⟩ := hm.out
          have := sz_le Part.exp args k
          try simp only [sz_append] at q1 q2
          omega
        obtain ⟨hn60, hd60⟩ := hnd
        by_cases hlt : k < args.length
        · rcases h0 with h00 | ⟨bb, off, rfl, hb, hk⟩
          · omega
          obtain ⟨cs, hcs, hexp⟩ := hk.get args bb off k hlt
          have hexp' := hexp
          have hsm := sz_mem Part.exp hlt
          obtain ⟨e0, he0⟩ : ∃ e, e = args[k] := ⟨_, rfl⟩
          have htk : (args.take (k + 1)).map Part.exp = ((args.take k).map Part.exp) ++ [Part.exp e0] := by
            rw [List.take_succ_eq_append_getElem hlt, List.map_append, he0]; simp
          rw [← he0] at hexp hexp' hsm
          have hih := ih (.exp e0) (by omega) (by omega) B u wr cs (hu.trans ((Below.keptC hBw).mono hBl)) (by omega) hexp'
          have HT := Lib.hid htk; clear htk
          clear he0 hexp'
          have HE : ∀ e w2, ROut (.exp e0) e ∧ Below wr.heap.size wr w2 → ∃ m l : Nat, ∃ ok : Bool, e = .returned (.tuple #[.int .i64 m, .int .i64 l, .bool ok]) ∧ m ≤ 60 ∧ l ≤ 60 ∧ Hid (RMid ((args.take (k + 1)).map .exp) (n + m) (max d l) (b && ok)) ∧ Below wr.heap.size wr w2 := by
            rintro e w2 ⟨⟨m, l, rfl, h1, h2, h3⟩, hb2⟩
            exact ⟨m, l, _, rfl, by omega, by omega, Lib.hid (by rw [HT.out]; exact hm.out.step h1 h2 rfl h3), hb2⟩
          have hih2 := hih.mono HE
          clear hih HE
          obtain ⟨o0, n0, t0, k0⟩ := e0
          unfold ExpAt at hexp
          obtain ⟨_, _, rfl, x0, y0, rfl, _⟩ := hexp
          obtain ⟨c0, c1, c2, c3⟩ := cells4 ((hcs.keep hu hb).below hBw (by omega))
          clear hcs hk
          cases b with
          | true =>
            go_wp2_with (go_at_call 62; refine hih2.mono ?_; clear hih2; rintro e w2 ⟨m, l, ok, rfl, hm60, hl60, HR, hb2⟩)
            all_goals (
              go_roundw
              case rel => exact ⟨k + 1, n + m, max d l, _, by omega, by go_num, by go_num, int_eq (by omega), rfl, Lib.hid (by simpa using HR.out), hB.trans (hb2.mono (by have := hB.size; simp at this ⊢; omega))⟩
              case measure => simp [intOf]; omega)
          | false =>
            go_wp2_with (go_at_call 62; refine hih2.mono ?_; clear hih2; rintro e w2 ⟨m, l, ok, rfl, hm60, hl60, HR, hb2⟩)
            all_goals (
              go_roundw
              case rel => exact ⟨k + 1, n + m, max d l, false, by omega, by go_num, by go_num, int_eq (by omega), rfl, Lib.hid (by simpa using HR.out), hB.trans (hb2.mono (by have := hB.size; simp at this ⊢; omega))⟩
              case measure => simp [intOf]; omega)
        · have hkl : k = args.length := by omega
          have hm2 := hm.out
          rw [hkl, List.take_length] at hm2
          have hmF := Lib.hid hm2; clear hm2 hm
          obtain rfl := hkl
          go_wp2
          go_loopw [9, 10, 8, 15] (fun vn vd vb i wr => ∃ (k n d : Nat) (b : Bool), k ≤ defs.length ∧ i = .int .i64 k ∧ vn = .int .i64 n ∧ vd = .int .i64 d ∧ vb = .bool b ∧ Hid (RMid (args.map Part.exp ++ (defs.take k).map .def_) n d b) ∧ Below (w.heap.size + 1) W1 wr) (fun _ _ _ i _ => defs.length - (intOf i).toNat)
          case atStart => exact ⟨0, n, d, b, by omega, rfl, rfl, rfl, rfl, Lib.hid (by simpa using hmF.out), hB⟩
          case round =>
            obtain ⟨k, n, d, b, hk', rfl, rfl, rfl, rfl, hm, hB⟩ := hrel
            have hBw := hW1.trans (hB.mono (Nat.le_succ _))
            have hBz := hB.size
            have hbox := (hB.cell (p := ⟨w.heap.size, 3, none⟩) (by simp)).trans hbox1
            have hnd : n ≤ 60 ∧ d ≤ 60 := by
              obtain ⟨_, q1, q2, _⟩ := hm.out
              have := sz_le Part.def_ defs k
              try simp only [sz_append] at q1 q2
              omega
            obtain ⟨hn60, hd60⟩ := hnd
            by_cases hlt : k < defs.length
            · rcases h1 with h00 | ⟨bb, off, rfl, hb, hk⟩
              · omega
              obtain ⟨cs, hcs, hexp⟩ := hk.get defs bb off k hlt
              have hexp' := hexp
              have hsm := sz_mem Part.def_ hlt
              obtain ⟨e0, he0⟩ : ∃ e, e = defs[k] := ⟨_, rfl⟩
              have htk : args.map Part.exp ++ (defs.take (k + 1)).map Part.def_ = (args.map Part.exp ++ (defs.take k).map Part.def_) ++ [Part.def_ e0] := by
                rw [List.take_succ_eq_append_getElem hlt, List.map_append, he0]; simp
              rw [← he0] at hexp hexp' hsm
              have hih := ih (.def_ e0) (by omega) (by omega) B u wr cs (hu.trans ((Below.keptC hBw).mono hBl)) (by omega) hexp'
              have HT := Lib.hid htk; clear htk
              clear he0 hexp'
              have HE : ∀ e w2, ROut (.def_ e0) e ∧ Below wr.heap.size wr w2 → ∃ m l : Nat, ∃ ok : Bool, e = .returned (.tuple #[.int .i64 m, .int .i64 l, .bool ok]) ∧ m ≤ 60 ∧ l ≤ 60 ∧ Hid (RMid (args.map Part.exp ++ (defs.take (k + 1)).map .def_) (n + m) (max d l) (b && ok)) ∧ Below wr.heap.size wr w2 := by
                rintro e w2 ⟨⟨m, l, rfl, h1, h2, h3⟩, hb2⟩
                exact ⟨m, l, _, rfl, by omega, by omega, Lib.hid (by rw [HT.out]; exact hm.out.step h1 h2 rfl h3), hb2⟩
              have hih2 := hih.mono HE
              clear hih HE
              obtain ⟨f0, t0, j0, d0, k0⟩ := e0
              unfold ClauseAt at hexp
              obtain ⟨_, _, _, _, rfl, ⟨x0, y0, rfl, _⟩, ⟨x1, y1, rfl, _⟩, ⟨x2, y2, rfl, _⟩⟩ := hexp
              obtain ⟨c0, c1, c2, c3, c4⟩ := cells5 ((hcs.keep hu hb).below hBw (by omega))
              clear hcs hk
              cases b with
              | true =>
                go_wp2_with (go_at_call 113; refine hih2.mono ?_; clear hih2; rintro e w2 ⟨m, l, ok, rfl, hm60, hl60, HR, hb2⟩)
                all_goals (
                  go_roundw
                  case rel => exact ⟨k + 1, n + m, max d l, _, by omega, by go_num, by go_num, int_eq (by omega), rfl, Lib.hid (by simpa using HR.out), hB.trans (hb2.mono (by have := hB.size; simp at this ⊢; omega))⟩
                  case measure => simp [intOf]; omega)
              | false =>
                go_wp2_with (go_at_call 113; refine hih2.mono ?_; clear hih2; rintro e w2 ⟨m, l, ok, rfl, hm60, hl60, HR, hb2⟩)
                all_goals (
                  go_roundw
                  case rel => exact ⟨k + 1, n + m, max d l, false, by omega, by go_num, by go_num, int_eq (by omega), rfl, Lib.hid (by simpa using HR.out), hB.trans (hb2.mono (by have := hB.size; simp at this ⊢; omega))⟩
                  case measure => simp [intOf]; omega)
            · have hkl : k = defs.length := by omega
              have hm2 := hm.out
              rw [hkl, List.take_length] at hm2
              have hmF := Lib.hid hm2; clear hm2 hm
              obtain rfl := hkl
              go_wp2
              go_loopw [9, 10, 8, 19] (fun vn vd vb i wr => ∃ (k n d : Nat) (b : Bool), k ≤ kids.length ∧ i = .int .i64 k ∧ vn = .int .i64 n ∧ vd = .int .i64 d ∧ vb = .bool b ∧ Hid (RMid (args.map Part.exp ++ defs.map Part.def_ ++ (kids.take k).map .proc) n d b) ∧ Below (w.heap.size + 1) W1 wr) (fun _ _ _ i _ => kids.length - (intOf i).toNat)
              case atStart => exact ⟨0, n, d, b, by omega, rfl, rfl, rfl, rfl, Lib.hid (by simpa using hmF.out), hB⟩
              case round =>
                obtain ⟨k, n, d, b, hk', rfl, rfl, rfl, rfl, hm, hB⟩ := hrel
                have hBw := hW1.trans (hB.mono (Nat.le_succ _))
                have hBz := hB.size
                have hbox := (hB.cell (p := ⟨w.heap.size, 4, none⟩) (by simp)).trans hbox2
                have hnd : n ≤ 60 ∧ d ≤ 60 := by
                  obtain ⟨_, q1, q2, _⟩ := hm.out
                  have := sz_le Part.proc kids k
                  try simp only [sz_append] at q1 q2
                  omega
                obtain ⟨hn60, hd60⟩ := hnd
                by_cases hlt : k < kids.length
                · rcases h2 with h00 | ⟨bb, off, rfl, hb, hk⟩
                  · omega
                  obtain ⟨cs, hcs, hexp⟩ := hk.get kids bb off k hlt
                  have hexp' := hexp
                  have hsm := sz_mem Part.proc hlt
                  obtain ⟨e0, he0⟩ : ∃ e, e = kids[k] := ⟨_, rfl⟩
                  have htk : args.map Part.exp ++ defs.map Part.def_ ++ (kids.take (k + 1)).map Part.proc = (args.map Part.exp ++ defs.map Part.def_ ++ (kids.take k).map Part.proc) ++ [Part.proc e0] := by
                    rw [List.take_succ_eq_append_getElem hlt, List.map_append, he0]; simp
                  rw [← he0] at hexp hexp' hsm
                  have hih := ih (.proc e0) (by omega) (by omega) B u wr cs (hu.trans ((Below.keptC hBw).mono hBl)) (by omega) hexp'
                  have HT := Lib.hid htk; clear htk
                  clear he0 hexp'
                  have HE : ∀ e w2, ROut (.proc e0) e ∧ Below wr.heap.size wr w2 → ∃ m l : Nat, ∃ ok : Bool, e = .returned (.tuple #[.int .i64 m, .int .i64 l, .bool ok]) ∧ m ≤ 60 ∧ l ≤ 60 ∧ Hid (RMid (args.map Part.exp ++ defs.map Part.def_ ++ (kids.take (k + 1)).map .proc) (n + m) (max d l) (b && ok)) ∧ Below wr.heap.size wr w2 := by
                    rintro e w2 ⟨⟨m, l, rfl, h1, h2, h3⟩, hb2⟩
                    exact ⟨m, l, _, rfl, by omega, by omega, Lib.hid (by rw [HT.out]; exact hm.out.step h1 h2 rfl h3), hb2⟩
                  have hih2 := hih.mono HE
                  clear hih HE
                  obtain ⟨o0, t0, g0, d0, k0⟩ := e0
                  unfold TermAt at hexp
                  obtain ⟨_, _, _, _, rfl, ⟨x0, y0, rfl, _⟩, ⟨x1, y1, rfl, _⟩, ⟨x2, y2, rfl, _⟩⟩ := hexp
                  obtain ⟨c0, c1, c2, c3, c4⟩ := cells5 ((hcs.keep hu hb).below hBw (by omega))
                  clear hcs hk
                  cases b with
                  | true =>
                    go_wp2_with (go_at_call 59; refine hih2.mono ?_; clear hih2; rintro e w2 ⟨m, l, ok, rfl, hm60, hl60, HR, hb2⟩)
                    all_goals (
                      go_roundw
                      case rel => exact ⟨k + 1, n + m, max d l, _, by omega, by go_num, by go_num, int_eq (by omega), rfl, Lib.hid (by simpa using HR.out), hB.trans (hb2.mono (by have := hB.size; simp at this ⊢; omega))⟩
                      case measure => simp [intOf]; omega)
                  | false =>
                    go_wp2_with (go_at_call 59; refine hih2.mono ?_; clear hih2; rintro e w2 ⟨m, l, ok, rfl, hm60, hl60, HR, hb2⟩)
                    all_goals (
                      go_roundw
                      case rel => exact ⟨k + 1, n + m, max d l, false, by omega, by go_num, by go_num, int_eq (by omega), rfl, Lib.hid (by simpa using HR.out), hB.trans (hb2.mono (by have := hB.size; simp at this ⊢; omega))⟩
                      case measure => simp [intOf]; omega)
                · have hkl : k = kids.length := by omega
                  have hm2 := hm.out
                  rw [hkl, List.take_length] at hm2
                  have hmF := Lib.hid hm2; clear hm2 hm
                  obtain rfl := hkl
                  go_wp2
                  go_ret3
                  exact ⟨RMid.out hmF.out HSH.out, hBw⟩)
  ·
    have HO := Lib.hid (show rOne text true = true by simp [rOne, g1])
    have hk : ((kids.length : Int) == 0) = true := by rw [g4]; rfl
    have ha : (args.length : Int) ≤ 3 := by omega
    have hd : ((defs.length : Int) == 0) = true := by rw [g3]; rfl
    have H2 := Lib.hid g2; have H3 := Lib.hid g3; have H4 := Lib.hid g4; clear g1 g2 g3 g4
    go_enter Tryz.func59, Tryz.ntmps59
    go_wp2_with (go_at_call 112; refine (one_any _ _ _ hz).mono ?_; rw [HO.out]; rintro e w1 ⟨rfl, hb1⟩; have hc0 := (hb1.cell (p := ⟨w.heap.size, 0, none⟩) (by simp)).trans (World.cell?_alloc_at _ _ _ _ rfl); have hc1 := (hb1.cell (p := ⟨w.heap.size, 1, none⟩) (by simp)).trans (World.cell?_alloc_at _ _ _ _ rfl); have hc2 := (hb1.cell (p := ⟨w.heap.size, 2, none⟩) (by simp)).trans (World.cell?_alloc_at _ _ _ _ rfl); have hc3 := (hb1.cell (p := ⟨w.heap.size, 3, none⟩) (by simp)).trans (World.cell?_alloc_at _ _ _ _ rfl); have hc4 := (hb1.cell (p := ⟨w.heap.size, 4, none⟩) (by simp)).trans (World.cell?_alloc_at _ _ _ _ rfl); have hB1 : Below (w.heap.size + 1) W1 w1 := (by rw [HW.out]; exact hb1.mono (by simp)))
    go_loopw [9, 10, 8, 11] (fun vn vd vb i wr => ∃ (k n d : Nat) (b : Bool), k ≤ args.length ∧ i = .int .i64 k ∧ vn = .int .i64 n ∧ vd = .int .i64 d ∧ vb = .bool b ∧ Hid (RMid ((args.take k).map .exp) n d b) ∧ Below (w.heap.size + 1) W1 wr) (fun _ _ _ i _ => args.length - (intOf i).toNat)
    case atStart => exact ⟨0, 1, 0, true, by omega, rfl, rfl, rfl, rfl, Lib.hid RMid.nil, hB1⟩
    case round =>
      obtain ⟨k, n, d, b, hk', rfl, rfl, rfl, rfl, hm, hB⟩ := hrel
      have hBw := hW1.trans (hB.mono (Nat.le_succ _))
      have hBz := hB.size
      have hbox := (hB.cell (p := ⟨w.heap.size, 2, none⟩) (by simp)).trans hbox0
      have hnd : n ≤ 60 ∧ d ≤ 60 := by
        obtain ⟨_, q1, q2, _⟩ := hm.out
        have := sz_le Part.exp args k
        try simp only [sz_append] at q1 q2
        omega
      obtain ⟨hn60, hd60⟩ := hnd
      by_cases hlt : k < args.length
      · rcases h0 with h00 | ⟨bb, off, rfl, hb, hk⟩
        · omega
        obtain ⟨cs, hcs, hexp⟩ := hk.get args bb off k hlt
        have hexp' := hexp
        have hsm := sz_mem Part.exp hlt
        obtain ⟨e0, he0⟩ : ∃ e, e = args[k] := ⟨_, rfl⟩
        have htk : (args.take (k + 1)).map Part.exp = ((args.take k).map Part.exp) ++ [Part.exp e0] := by
          rw [List.take_succ_eq_append_getElem hlt, List.map_append, he0]; simp
        rw [← he0] at hexp hexp' hsm
        have hih := ih (.exp e0) (by omega) (by omega) B u wr cs (hu.trans ((Below.keptC hBw).mono hBl)) (by omega) hexp'
        have HT := Lib.hid htk; clear htk
        clear he0 hexp'
        have HE : ∀ e w2, ROut (.exp e0) e ∧ Below wr.heap.size wr w2 → ∃ m l : Nat, ∃ ok : Bool, e = .returned (.tuple #[.int .i64 m, .int .i64 l, .bool ok]) ∧ m ≤ 60 ∧ l ≤ 60 ∧ Hid (RMid ((args.take (k + 1)).map .exp) (n + m) (max d l) (b && ok)) ∧ Below wr.heap.size wr w2 := by
          rintro e w2 ⟨⟨m, l, rfl, h1, h2, h3⟩, hb2⟩
          exact ⟨m, l, _, rfl, by omega, by omega, Lib.hid (by rw [HT.out]; exact hm.out.step h1 h2 rfl h3), hb2⟩
        have hih2 := hih.mono HE
        clear hih HE
        obtain ⟨o0, n0, t0, k0⟩ := e0
        unfold ExpAt at hexp
        obtain ⟨_, _, rfl, x0, y0, rfl, _⟩ := hexp
        obtain ⟨c0, c1, c2, c3⟩ := cells4 ((hcs.keep hu hb).below hBw (by omega))
        clear hcs hk
        cases b with
        | true =>
          go_wp2_with (go_at_call 62; refine hih2.mono ?_; clear hih2; rintro e w2 ⟨m, l, ok, rfl, hm60, hl60, HR, hb2⟩)
          all_goals (
            go_roundw
            case rel => exact ⟨k + 1, n + m, max d l, _, by omega, by go_num, by go_num, int_eq (by omega), rfl, Lib.hid (by simpa using HR.out), hB.trans (hb2.mono (by have := hB.size; simp at this ⊢; omega))⟩
            case measure => simp [intOf]; omega)
        | false =>
          go_wp2_with (go_at_call 62; refine hih2.mono ?_; clear hih2; rintro e w2 ⟨m, l, ok, rfl, hm60, hl60, HR, hb2⟩)
          all_goals (
            go_roundw
            case rel => exact ⟨k + 1, n + m, max d l, false, by omega, by go_num, by go_num, int_eq (by omega), rfl, Lib.hid (by simpa using HR.out), hB.trans (hb2.mono (by have := hB.size; simp at this ⊢; omega))⟩
            case measure => simp [intOf]; omega)
      · have hkl : k = args.length := by omega
        have hm2 := hm.out
        rw [hkl, List.take_length] at hm2
        have hmF := Lib.hid hm2; clear hm2 hm
        obtain rfl := hkl
        go_wp2
        go_loopw [9, 10, 8, 15] (fun vn vd vb i wr => ∃ (k n d : Nat) (b : Bool), k ≤ defs.length ∧ i = .int .i64 k ∧ vn = .int .i64 n ∧ vd = .int .i64 d ∧ vb = .bool b ∧ Hid (RMid (args.map Part.exp ++ (defs.take k).map .def_) n d b) ∧ Below (w.heap.size + 1) W1 wr) (fun _ _ _ i _ => defs.length - (intOf i).toNat)
        case atStart => exact ⟨0, n, d, b, by omega, rfl, rfl, rfl, rfl, Lib.hid (by simpa using hmF.out), hB⟩
        case round =>
          obtain ⟨k, n, d, b, hk', rfl, rfl, rfl, rfl, hm, hB⟩ := hrel
          have hBw := hW1.trans (hB.mono (Nat.le_succ _))
          have hBz := hB.size
          have hbox := (hB.cell (p := ⟨w.heap.size, 3, none⟩) (by simp)).trans hbox1
          have hnd : n ≤ 60 ∧ d ≤ 60 := by
            obtain ⟨_, q1, q2, _⟩ := hm.out
            have := sz_le Part.def_ defs k
            try simp only [sz_append] at q1 q2
            omega
          obtain ⟨hn60, hd60⟩ := hnd
          by_cases hlt : k < defs.length
          · rcases h1 with h00 | ⟨bb, off, rfl, hb, hk⟩
            · omega
            obtain ⟨cs, hcs, hexp⟩ := hk.get defs bb off k hlt
            have hexp' := hexp
            have hsm := sz_mem Part.def_ hlt
            obtain ⟨e0, he0⟩ : ∃ e, e = defs[k] := ⟨_, rfl⟩
            have htk : args.map Part.exp ++ (defs.take (k + 1)).map Part.def_ = (args.map Part.exp ++ (defs.take k).map Part.def_) ++ [Part.def_ e0] := by
              rw [List.take_succ_eq_append_getElem hlt, List.map_append, he0]; simp
            rw [← he0] at hexp hexp' hsm
            have hih := ih (.def_ e0) (by omega) (by omega) B u wr cs (hu.trans ((Below.keptC hBw).mono hBl)) (by omega) hexp'
            have HT := Lib.hid htk; clear htk
            clear he0 hexp'
            have HE : ∀ e w2, ROut (.def_ e0) e ∧ Below wr.heap.size wr w2 → ∃ m l : Nat, ∃ ok : Bool, e = .returned (.tuple #[.int .i64 m, .int .i64 l, .bool ok]) ∧ m ≤ 60 ∧ l ≤ 60 ∧ Hid (RMid (args.map Part.exp ++ (defs.take (k + 1)).map .def_) (n + m) (max d l) (b && ok)) ∧ Below wr.heap.size wr w2 := by
              rintro e w2 ⟨⟨m, l, rfl, h1, h2, h3⟩, hb2⟩
              exact ⟨m, l, _, rfl, by omega, by omega, Lib.hid (by rw [HT.out]; exact hm.out.step h1 h2 rfl h3), hb2⟩
            have hih2 := hih.mono HE
            clear hih HE
            obtain ⟨f0, t0, j0, d0, k0⟩ := e0
            unfold ClauseAt at hexp
            obtain ⟨_, _, _, _, rfl, ⟨x0, y0, rfl, _⟩, ⟨x1, y1, rfl, _⟩, ⟨x2, y2, rfl, _⟩⟩ := hexp
            obtain ⟨c0, c1, c2, c3, c4⟩ := cells5 ((hcs.keep hu hb).below hBw (by omega))
            clear hcs hk
            cases b with
            | true =>
              go_wp2_with (go_at_call 113; refine hih2.mono ?_; clear hih2; rintro e w2 ⟨m, l, ok, rfl, hm60, hl60, HR, hb2⟩)
              all_goals (
                go_roundw
                case rel => exact ⟨k + 1, n + m, max d l, _, by omega, by go_num, by go_num, int_eq (by omega), rfl, Lib.hid (by simpa using HR.out), hB.trans (hb2.mono (by have := hB.size; simp at this ⊢; omega))⟩
                case measure => simp [intOf]; omega)
            | false =>
              go_wp2_with (go_at_call 113; refine hih2.mono ?_; clear hih2; rintro e w2 ⟨m, l, ok, rfl, hm60, hl60, HR, hb2⟩)
              all_goals (
                go_roundw
                case rel => exact ⟨k + 1, n + m, max d l, false, by omega, by go_num, by go_num, int_eq (by omega), rfl, Lib.hid (by simpa using HR.out), hB.trans (hb2.mono (by have := hB.size; simp at this ⊢; omega))⟩
                case measure => simp [intOf]; omega)
          · have hkl : k = defs.length := by omega
            have hm2 := hm.out
            rw [hkl, List.take_length] at hm2
            have hmF := Lib.hid hm2; clear hm2 hm
            obtain rfl := hkl
            go_wp2
            go_loopw [9, 10, 8, 19] (fun vn vd vb i wr => ∃ (k n d : Nat) (b : Bool), k ≤ kids.length ∧ i = .int .i64 k ∧ vn = .int .i64 n ∧ vd = .int .i64 d ∧ vb = .bool b ∧ Hid (RMid (args.map Part.exp ++ defs.map Part.def_ ++ (kids.take k).map .proc) n d b) ∧ Below (w.heap.size + 1) W1 wr) (fun _ _ _ i _ => kids.length - (intOf i).toNat)
            case atStart => exact ⟨0, n, d, b, by omega, rfl, rfl, rfl, rfl, Lib.hid (by simpa using hmF.out), hB⟩
            case round =>
              obtain ⟨k, n, d, b, hk', rfl, rfl, rfl, rfl, hm, hB⟩ := hrel
              have hBw := hW1.trans (hB.mono (Nat.le_succ _))
              have hBz := hB.size
              have hbox := (hB.cell (p := ⟨w.heap.size, 4, none⟩) (by simp)).trans hbox2
              have hnd : n ≤ 60 ∧ d ≤ 60 := by
                obtain ⟨_, q1, q2, _⟩ := hm.out
                have := sz_le Part.proc kids k
                try simp only [sz_append] at q1 q2
                omega
              obtain ⟨hn60, hd60⟩ := hnd
              by_cases hlt : k < kids.length
              · rcases h2 with h00 | ⟨bb, off, rfl, hb, hk⟩
                · omega
                obtain ⟨cs, hcs, hexp⟩ := hk.get kids bb off k hlt
                have hexp' := hexp
                have hsm := sz_mem Part.proc hlt
                obtain ⟨e0, he0⟩ : ∃ e, e = kids[k] := ⟨_, rfl⟩
                have htk : args.map Part.exp ++ defs.map Part.def_ ++ (kids.take (k + 1)).map Part.proc = (args.map Part.exp ++ defs.map Part.def_ ++ (kids.take k).map Part.proc) ++ [Part.proc e0] := by
                  rw [List.take_succ_eq_append_getElem hlt, List.map_append, he0]; simp
                rw [← he0] at hexp hexp' hsm
                have hih := ih (.proc e0) (by omega) (by omega) B u wr cs (hu.trans ((Below.keptC hBw).mono hBl)) (by omega) hexp'
                have HT := Lib.hid htk; clear htk
                clear he0 hexp'
                have HE : ∀ e w2, ROut (.proc e0) e ∧ Below wr.heap.size wr w2 → ∃ m l : Nat, ∃ ok : Bool, e = .returned (.tuple #[.int .i64 m, .int .i64 l, .bool ok]) ∧ m ≤ 60 ∧ l ≤ 60 ∧ Hid (RMid (args.map Part.exp ++ defs.map Part.def_ ++ (kids.take (k + 1)).map .proc) (n + m) (max d l) (b && ok)) ∧ Below wr.heap.size wr w2 := by
                  rintro e w2 ⟨⟨m, l, rfl, h1, h2, h3⟩, hb2⟩
                  exact ⟨m, l, _, rfl, by omega, by omega, Lib.hid (by rw [HT.out]; exact hm.out.step h1 h2 rfl h3), hb2⟩
                have hih2 := hih.mono HE
                clear hih HE
                obtain ⟨o0, t0, g0, d0, k0⟩ := e0
                unfold TermAt at hexp
                obtain ⟨_, _, _, _, rfl, ⟨x0, y0, rfl, _⟩, ⟨x1, y1, rfl, _⟩, ⟨x2, y2, rfl, _⟩⟩ := hexp
                obtain ⟨c0, c1, c2, c3, c4⟩ := cells5 ((hcs.keep hu hb).below hBw (by omega))
                clear hcs hk
                cases b with
                | true =>
                  go_wp2_with (go_at_call 59; refine hih2.mono ?_; clear hih2; rintro e w2 ⟨m, l, ok, rfl, hm60, hl60, HR, hb2⟩)
                  all_goals (
                    go_roundw
                    case rel => exact ⟨k + 1, n + m, max d l, _, by omega, by go_num, by go_num, int_eq (by omega), rfl, Lib.hid (by simpa using HR.out), hB.trans (hb2.mono (by have := hB.size; simp at this ⊢; omega))⟩
                    case measure => simp [intOf]; omega)
                | false =>
                  go_wp2_with (go_at_call 59; refine hih2.mono ?_; clear hih2; rintro e w2 ⟨m, l, ok, rfl, hm60, hl60, HR, hb2⟩)
                  all_goals (
                    go_roundw
                    case rel => exact ⟨k + 1, n + m, max d l, false, by omega, by go_num, by go_num, int_eq (by omega), rfl, Lib.hid (by simpa using HR.out), hB.trans (hb2.mono (by have := hB.size; simp at this ⊢; omega))⟩
                    case measure => simp [intOf]; omega)
              · have hkl : k = kids.length := by omega
                have hm2 := hm.out
                rw [hkl, List.take_length] at hm2
                have hmF := Lib.hid hm2; clear hm2 hm
                obtain rfl := hkl
                go_wp2
                go_ret3
                exact ⟨RMid.out hmF.out HSH.out, hBw⟩
  ·
    have HO := Lib.hid (show rOne text false = true by simp [rOne, g1])
    have hk : ((kids.length : Int) == 2) = true := by rw [g4]; rfl
    have ha : ((args.length : Int) == 0) = true := by rw [g2]; rfl
    have hd : ((defs.length : Int) == 0) = true := by rw [g3]; rfl
    have H2 := Lib.hid g2; have H3 := Lib.hid g3; have H4 := Lib.hid g4; clear g1 g2 g3 g4
    go_enter Tryz.func59, Tryz.ntmps59
    go_wp2_with (go_at_call 112; refine (one_any _ _ _ hz).mono ?_; rw [HO.out]; rintro e w1 ⟨rfl, hb1⟩; have hc0 := (hb1.cell (p := ⟨w.heap.size, 0, none⟩) (by simp)).trans (World.cell?_alloc_at _ _ _ _ rfl); have hc1 := (hb1.cell (p := ⟨w.heap.size, 1, none⟩) (by simp)).trans (World.cell?_alloc_at _ _ _ _ rfl); have hc2 := (hb1.cell (p := ⟨w.heap.size, 2, none⟩) (by simp)).trans (World.cell?_alloc_at _ _ _ _ rfl); have hc3 := (hb1.cell (p := ⟨w.heap.size, 3, none⟩) (by simp)).trans (World.cell?_alloc_at _ _ _ _ rfl); have hc4 := (hb1.cell (p := ⟨w.heap.size, 4, none⟩) (by simp)).trans (World.cell?_alloc_at _ _ _ _ rfl); have hB1 : Below (w.heap.size + 1) W1 w1 := (by rw [HW.out]; exact hb1.mono (by simp)))
    go_loopw [9, 10, 8, 11] (fun vn vd vb i wr => ∃ (k n d : Nat) (b : Bool), k ≤ args.length ∧ i = .int .i64 k ∧ vn = .int .i64 n ∧ vd = .int .i64 d ∧ vb = .bool b ∧ Hid (RMid ((args.take k).map .exp) n d b) ∧ Below (w.heap.size + 1) W1 wr) (fun _ _ _ i _ => args.length - (intOf i).toNat)
    case atStart => exact ⟨0, 1, 0, true, by omega, rfl, rfl, rfl, rfl, Lib.hid RMid.nil, hB1⟩
    case round =>
      obtain ⟨k, n, d, b, hk', rfl, rfl, rfl, rfl, hm, hB⟩ := hrel
      have hBw := hW1.trans (hB.mono (Nat.le_succ _))
      have hBz := hB.size
      have hbox := (hB.cell (p := ⟨w.heap.size, 2, none⟩) (by simp)).trans hbox0
      have hnd : n ≤ 60 ∧ d ≤ 60 := by
        obtain ⟨_, q1, q2, _⟩ := hm.out
        have := sz_le Part.exp args k
        try simp only [sz_append] at q1 q2
        omega
      obtain ⟨hn60, hd60⟩ := hnd
      by_cases hlt : k < args.length
      · rcases h0 with h00 | ⟨bb, off, rfl, hb, hk⟩
        · omega
        obtain ⟨cs, hcs, hexp⟩ := hk.get args bb off k hlt
        have hexp' := hexp
        have hsm := sz_mem Part.exp hlt
        obtain ⟨e0, he0⟩ : ∃ e, e = args[k] := ⟨_, rfl⟩
        have htk : (args.take (k + 1)).map Part.exp = ((args.take k).map Part.exp) ++ [Part.exp e0] := by
          rw [List.take_succ_eq_append_getElem hlt, List.map_append, he0]; simp
        rw [← he0] at hexp hexp' hsm
        have hih := ih (.exp e0) (by omega) (by omega) B u wr cs (hu.trans ((Below.keptC hBw).mono hBl)) (by omega) hexp'
        have HT := Lib.hid htk; clear htk
        clear he0 hexp'
        have HE : ∀ e w2, ROut (.exp e0) e ∧ Below wr.heap.size wr w2 → ∃ m l : Nat, ∃ ok : Bool, e = .returned (.tuple #[.int .i64 m, .int .i64 l, .bool ok]) ∧ m ≤ 60 ∧ l ≤ 60 ∧ Hid (RMid ((args.take (k + 1)).map .exp) (n + m) (max d l) (b && ok)) ∧ Below wr.heap.size wr w2 := by
          rintro e w2 ⟨⟨m, l, rfl, h1, h2, h3⟩, hb2⟩
          exact ⟨m, l, _, rfl, by omega, by omega, Lib.hid (by rw [HT.out]; exact hm.out.step h1 h2 rfl h3), hb2⟩
        have hih2 := hih.mono HE
        clear hih HE
        obtain ⟨o0, n0, t0, k0⟩ := e0
        unfold ExpAt at hexp
        obtain ⟨_, _, rfl, x0, y0, rfl, _⟩ := hexp
        obtain ⟨c0, c1, c2, c3⟩ := cells4 ((hcs.keep hu hb).below hBw (by omega))
        clear hcs hk
        cases b with
        | true =>
          go_wp2_with (go_at_call 62; refine hih2.mono ?_; clear hih2; rintro e w2 ⟨m, l, ok, rfl, hm60, hl60, HR, hb2⟩)
          all_goals (
            go_roundw
            case rel => exact ⟨k + 1, n + m, max d l, _, by omega, by go_num, by go_num, int_eq (by omega), rfl, Lib.hid (by simpa using HR.out), hB.trans (hb2.mono (by have := hB.size; simp at this ⊢; omega))⟩
            case measure => simp [intOf]; omega)
        | false =>
          go_wp2_with (go_at_call 62; refine hih2.mono ?_; clear hih2; rintro e w2 ⟨m, l, ok, rfl, hm60, hl60, HR, hb2⟩)
          all_goals (
            go_roundw
            case rel => exact ⟨k + 1, n + m, max d l, false, by omega, by go_num, by go_num, int_eq (by omega), rfl, Lib.hid (by simpa using HR.out), hB.trans (hb2.mono (by have := hB.size; simp at this ⊢; omega))⟩
            case measure => simp [intOf]; omega)
      · have hkl : k = args.length := by omega
        have hm2 := hm.out
        rw [hkl, List.take_length] at hm2
        have hmF := Lib.hid hm2; clear hm2 hm
        obtain rfl := hkl
        go_wp2
        go_loopw [9, 10, 8, 15] (fun vn vd vb i wr => ∃ (k n d : Nat) (b : Bool), k ≤ defs.length ∧ i = .int .i64 k ∧ vn = .int .i64 n ∧ vd = .int .i64 d ∧ vb = .bool b ∧ Hid (RMid (args.map Part.exp ++ (defs.take k).map .def_) n d b) ∧ Below (w.heap.size + 1) W1 wr) (fun _ _ _ i _ => defs.length - (intOf i).toNat)
        case atStart => exact ⟨0, n, d, b, by omega, rfl, rfl, rfl, rfl, Lib.hid (by simpa using hmF.out), hB⟩
        case round =>
          obtain ⟨k, n, d, b, hk', rfl, rfl, rfl, rfl, hm, hB⟩ := hrel
          have hBw := hW1.trans (hB.mono (Nat.le_succ _))
          have hBz := hB.size
          have hbox := (hB.cell (p := ⟨w.heap.size, 3, none⟩) (by simp)).trans hbox1
          have hnd : n ≤ 60 ∧ d ≤ 60 := by
            obtain ⟨_, q1, q2, _⟩ := hm.out
            have := sz_le Part.def_ defs k
            try simp only [sz_append] at q1 q2
            omega
          obtain ⟨hn60, hd60⟩ := hnd
          by_cases hlt : k < defs.length
          · rcases h1 with h00 | ⟨bb, off, rfl, hb, hk⟩
            · omega
            obtain ⟨cs, hcs, hexp⟩ := hk.get defs bb off k hlt
            have hexp' := hexp
            have hsm := sz_mem Part.def_ hlt
            obtain ⟨e0, he0⟩ : ∃ e, e = defs[k] := ⟨_, rfl⟩
            have htk : args.map Part.exp ++ (defs.take (k + 1)).map Part.def_ = (args.map Part.exp ++ (defs.take k).map Part.def_) ++ [Part.def_ e0] := by
              rw [List.take_succ_eq_append_getElem hlt, List.map_append, he0]; simp
            rw [← he0] at hexp hexp' hsm
            have hih := ih (.def_ e0) (by omega) (by omega) B u wr cs (hu.trans ((Below.keptC hBw).mono hBl)) (by omega) hexp'
            have HT := Lib.hid htk; clear htk
            clear he0 hexp'
            have HE : ∀ e w2, ROut (.def_ e0) e ∧ Below wr.heap.size wr w2 → ∃ m l : Nat, ∃ ok : Bool, e = .returned (.tuple #[.int .i64 m, .int .i64 l, .bool ok]) ∧ m ≤ 60 ∧ l ≤ 60 ∧ Hid (RMid (args.map Part.exp ++ (defs.take (k + 1)).map .def_) (n + m) (max d l) (b && ok)) ∧ Below wr.heap.size wr w2 := by
              rintro e w2 ⟨⟨m, l, rfl, h1, h2, h3⟩, hb2⟩
              exact ⟨m, l, _, rfl, by omega, by omega, Lib.hid (by rw [HT.out]; exact hm.out.step h1 h2 rfl h3), hb2⟩
            have hih2 := hih.mono HE
            clear hih HE
            obtain ⟨f0, t0, j0, d0, k0⟩ := e0
            unfold ClauseAt at hexp
            obtain ⟨_, _, _, _, rfl, ⟨x0, y0, rfl, _⟩, ⟨x1, y1, rfl, _⟩, ⟨x2, y2, rfl, _⟩⟩ := hexp
            obtain ⟨c0, c1, c2, c3, c4⟩ := cells5 ((hcs.keep hu hb).below hBw (by omega))
            clear hcs hk
            cases b with
            | true =>
              go_wp2_with (go_at_call 113; refine hih2.mono ?_; clear hih2; rintro e w2 ⟨m, l, ok, rfl, hm60, hl60, HR, hb2⟩)
              all_goals (
                go_roundw
                case rel => exact ⟨k + 1, n + m, max d l, _, by omega, by go_num, by go_num, int_eq (by omega), rfl, Lib.hid (by simpa using HR.out), hB.trans (hb2.mono (by have := hB.size; simp at this ⊢; omega))⟩
                case measure => simp [intOf]; omega)
            | false =>
              go_wp2_with (go_at_call 113; refine hih2.mono ?_; clear hih2; rintro e w2 ⟨m, l, ok, rfl, hm60, hl60, HR, hb2⟩)
              all_goals (
                go_roundw
                case rel => exact ⟨k + 1, n + m, max d l, false, by omega, by go_num, by go_num, int_eq (by omega), rfl, Lib.hid (by simpa using HR.out), hB.trans (hb2.mono (by have := hB.size; simp at this ⊢; omega))⟩
                case measure => simp [intOf]; omega)
          · have hkl : k = defs.length := by omega
            have hm2 := hm.out
            rw [hkl, List.take_length] at hm2
            have hmF := Lib.hid hm2; clear hm2 hm
            obtain rfl := hkl
            go_wp2
            go_loopw [9, 10, 8, 19] (fun vn vd vb i wr => ∃ (k n d : Nat) (b : Bool), k ≤ kids.length ∧ i = .int .i64 k ∧ vn = .int .i64 n ∧ vd = .int .i64 d ∧ vb = .bool b ∧ Hid (RMid (args.map Part.exp ++ defs.map Part.def_ ++ (kids.take k).map .proc) n d b) ∧ Below (w.heap.size + 1) W1 wr) (fun _ _ _ i _ => kids.length - (intOf i).toNat)
            case atStart => exact ⟨0, n, d, b, by omega, rfl, rfl, rfl, rfl, Lib.hid (by simpa using hmF.out), hB⟩
            case round =>
              obtain ⟨k, n, d, b, hk', rfl, rfl, rfl, rfl, hm, hB⟩ := hrel
              have hBw := hW1.trans (hB.mono (Nat.le_succ _))
              have hBz := hB.size
              have hbox := (hB.cell (p := ⟨w.heap.size, 4, none⟩) (by simp)).trans hbox2
              have hnd : n ≤ 60 ∧ d ≤ 60 := by
                obtain ⟨_, q1, q2, _⟩ := hm.out
                have := sz_le Part.proc kids k
                try simp only [sz_append] at q1 q2
                omega
              obtain ⟨hn60, hd60⟩ := hnd
              by_cases hlt : k < kids.length
              · rcases h2 with h00 | ⟨bb, off, rfl, hb, hk⟩
                · omega
                obtain ⟨cs, hcs, hexp⟩ := hk.get kids bb off k hlt
                have hexp' := hexp
                have hsm := sz_mem Part.proc hlt
                obtain ⟨e0, he0⟩ : ∃ e, e = kids[k] := ⟨_, rfl⟩
                have htk : args.map Part.exp ++ defs.map Part.def_ ++ (kids.take (k + 1)).map Part.proc = (args.map Part.exp ++ defs.map Part.def_ ++ (kids.take k).map Part.proc) ++ [Part.proc e0] := by
                  rw [List.take_succ_eq_append_getElem hlt, List.map_append, he0]; simp
                rw [← he0] at hexp hexp' hsm
                have hih := ih (.proc e0) (by omega) (by omega) B u wr cs (hu.trans ((Below.keptC hBw).mono hBl)) (by omega) hexp'
                have HT := Lib.hid htk; clear htk
                clear he0 hexp'
                have HE : ∀ e w2, ROut (.proc e0) e ∧ Below wr.heap.size wr w2 → ∃ m l : Nat, ∃ ok : Bool, e = .returned (.tuple #[.int .i64 m, .int .i64 l, .bool ok]) ∧ m ≤ 60 ∧ l ≤ 60 ∧ Hid (RMid (args.map Part.exp ++ defs.map Part.def_ ++ (kids.take (k + 1)).map .proc) (n + m) (max d l) (b && ok)) ∧ Below wr.heap.size wr w2 := by
                  rintro e w2 ⟨⟨m, l, rfl, h1, h2, h3⟩, hb2⟩
                  exact ⟨m, l, _, rfl, by omega, by omega, Lib.hid (by rw [HT.out]; exact hm.out.step h1 h2 rfl h3), hb2⟩
                have hih2 := hih.mono HE
                clear hih HE
                obtain ⟨o0, t0, g0, d0, k0⟩ := e0
                unfold TermAt at hexp
                obtain ⟨_, _, _, _, rfl, ⟨x0, y0, rfl, _⟩, ⟨x1, y1, rfl, _⟩, ⟨x2, y2, rfl, _⟩⟩ := hexp
                obtain ⟨c0, c1, c2, c3, c4⟩ := cells5 ((hcs.keep hu hb).below hBw (by omega))
                clear hcs hk
                cases b with
                | true =>
                  go_wp2_with (go_at_call 59; refine hih2.mono ?_; clear hih2; rintro e w2 ⟨m, l, ok, rfl, hm60, hl60, HR, hb2⟩)
                  all_goals (
                    go_roundw
                    case rel => exact ⟨k + 1, n + m, max d l, _, by omega, by go_num, by go_num, int_eq (by omega), rfl, Lib.hid (by simpa using HR.out), hB.trans (hb2.mono (by have := hB.size; simp at this ⊢; omega))⟩
                    case measure => simp [intOf]; omega)
                | false =>
                  go_wp2_with (go_at_call 59; refine hih2.mono ?_; clear hih2; rintro e w2 ⟨m, l, ok, rfl, hm60, hl60, HR, hb2⟩)
                  all_goals (
                    go_roundw
                    case rel => exact ⟨k + 1, n + m, max d l, false, by omega, by go_num, by go_num, int_eq (by omega), rfl, Lib.hid (by simpa using HR.out), hB.trans (hb2.mono (by have := hB.size; simp at this ⊢; omega))⟩
                    case measure => simp [intOf]; omega)
              · have hkl : k = kids.length := by omega
                have hm2 := hm.out
                rw [hkl, List.take_length] at hm2
                have hmF := Lib.hid hm2; clear hm2 hm
                obtain rfl := hkl
                go_wp2
                go_ret3
                exact ⟨RMid.out hmF.out HSH.out, hBw⟩
  ·
    have HO := Lib.hid (show rOne text false = true by simp [rOne, g1])
    have hk : ((kids.length : Int) == 1) = true := by rw [g4]; rfl
    have ha : ((args.length : Int) == 0) = true := by rw [g2]; rfl
    have hd0 : (0 : Int) < defs.length := by omega
    have hd5 : (defs.length : Int) ≤ 5 := by omega
    have H5 := Lib.hid g5; clear g5
    have H2 := Lib.hid g2; have H3 := Lib.hid g3; have H4 := Lib.hid g4; clear g1 g2 g3 g4
    go_enter Tryz.func59, Tryz.ntmps59
    go_wp2_with (go_at_call 112; refine (one_any _ _ _ hz).mono ?_; rw [HO.out]; rintro e w1 ⟨rfl, hb1⟩; have hc0 := (hb1.cell (p := ⟨w.heap.size, 0, none⟩) (by simp)).trans (World.cell?_alloc_at _ _ _ _ rfl); have hc1 := (hb1.cell (p := ⟨w.heap.size, 1, none⟩) (by simp)).trans (World.cell?_alloc_at _ _ _ _ rfl); have hc2 := (hb1.cell (p := ⟨w.heap.size, 2, none⟩) (by simp)).trans (World.cell?_alloc_at _ _ _ _ rfl); have hc3 := (hb1.cell (p := ⟨w.heap.size, 3, none⟩) (by simp)).trans (World.cell?_alloc_at _ _ _ _ rfl); have hc4 := (hb1.cell (p := ⟨w.heap.size, 4, none⟩) (by simp)).trans (World.cell?_alloc_at _ _ _ _ rfl); have hB1 : Below (w.heap.size + 1) W1 w1 := (by rw [HW.out]; exact hb1.mono (by simp)))
    go_loopw [9, 10, 8, 11] (fun vn vd vb i wr => ∃ (k n d : Nat) (b : Bool), k ≤ args.length ∧ i = .int .i64 k ∧ vn = .int .i64 n ∧ vd = .int .i64 d ∧ vb = .bool b ∧ Hid (RMid ((args.take k).map .exp) n d b) ∧ Below (w.heap.size + 1) W1 wr) (fun _ _ _ i _ => args.length - (intOf i).toNat)
    case atStart => exact ⟨0, 1, 0, true, by omega, rfl, rfl, rfl, rfl, Lib.hid RMid.nil, hB1⟩
    case round =>
      obtain ⟨k, n, d, b, hk', rfl, rfl, rfl, rfl, hm, hB⟩ := hrel
      have hBw := hW1.trans (hB.mono (Nat.le_succ _))
      have hBz := hB.size
      have hbox := (hB.cell (p := ⟨w.heap.size, 2, none⟩) (by simp)).trans hbox0
      have hnd : n ≤ 60 ∧ d ≤ 60 := by
        obtain ⟨_, q1, q2, _⟩ := hm.out
        have := sz_le Part.exp args k
        try simp only [sz_append] at q1 q2
        omega
      obtain ⟨hn60, hd60⟩ := hnd
      by_cases hlt : k < args.length
      · rcases h0 with h00 | ⟨bb, off, rfl, hb, hk⟩
        · omega
        obtain ⟨cs, hcs, hexp⟩ := hk.get args bb off k hlt
        have hexp' := hexp
        have hsm := sz_mem Part.exp hlt
        obtain ⟨e0, he0⟩ : ∃ e, e = args[k] := ⟨_, rfl⟩
        have htk : (args.take (k + 1)).map Part.exp = ((args.take k).map Part.exp) ++ [Part.exp e0] := by
          rw [List.take_succ_eq_append_getElem hlt, List.map_append, he0]; simp
        rw [← he0] at hexp hexp' hsm
        have hih := ih (.exp e0) (by omega) (by omega) B u wr cs (hu.trans ((Below.keptC hBw).mono hBl)) (by omega) hexp'
        have HT := Lib.hid htk; clear htk
        clear he0 hexp'
        have HE : ∀ e w2, ROut (.exp e0) e ∧ Below wr.heap.size wr w2 → ∃ m l : Nat, ∃ ok : Bool, e = .returned (.tuple #[.int .i64 m, .int .i64 l, .bool ok]) ∧ m ≤ 60 ∧ l ≤ 60 ∧ Hid (RMid ((args.take (k + 1)).map .exp) (n + m) (max d l) (b && ok)) ∧ Below wr.heap.size wr w2 := by
          rintro e w2 ⟨⟨m, l, rfl, h1, h2, h3⟩, hb2⟩
          exact ⟨m, l, _, rfl, by omega, by omega, Lib.hid (by rw [HT.out]; exact hm.out.step h1 h2 rfl h3), hb2⟩
        have hih2 := hih.mono HE
        clear hih HE
        obtain ⟨o0, n0, t0, k0⟩ := e0
        unfold ExpAt at hexp
        obtain ⟨_, _, rfl, x0, y0, rfl, _⟩ := hexp
        obtain ⟨c0, c1, c2, c3⟩ := cells4 ((hcs.keep hu hb).below hBw (by omega))
        clear hcs hk
        cases b with
        | true =>
          go_wp2_with (go_at_call 62; refine hih2.mono ?_; clear hih2; rintro e w2 ⟨m, l, ok, rfl, hm60, hl60, HR, hb2⟩)
          all_goals (
            go_roundw
            case rel => exact ⟨k + 1, n + m, max d l, _, by omega, by go_num, by go_num, int_eq (by omega), rfl, Lib.hid (by simpa using HR.out), hB.trans (hb2.mono (by have := hB.size; simp at this ⊢; omega))⟩
            case measure => simp [intOf]; omega)
        | false =>
          go_wp2_with (go_at_call 62; refine hih2.mono ?_; clear hih2; rintro e w2 ⟨m, l, ok, rfl, hm60, hl60, HR, hb2⟩)
          all_goals (
            go_roundw
            case rel => exact ⟨k + 1, n + m, max d l, false, by omega, by go_num, by go_num, int_eq (by omega), rfl, Lib.hid (by simpa using HR.out), hB.trans (hb2.mono (by have := hB.size; simp at this ⊢; omega))⟩
            case measure => simp [intOf]; omega)
      · have hkl : k = args.length := by omega
        have hm2 := hm.out
        rw [hkl, List.take_length] at hm2
        have hmF := Lib.hid hm2; clear hm2 hm
        obtain rfl := hkl
        go_wp2
        go_loopw [9, 10, 8, 15] (fun vn vd vb i wr => ∃ (k n d : Nat) (b : Bool), k ≤ defs.length ∧ i = .int .i64 k ∧ vn = .int .i64 n ∧ vd = .int .i64 d ∧ vb = .bool b ∧ Hid (RMid (args.map Part.exp ++ (defs.take k).map .def_) n d b) ∧ Below (w.heap.size + 1) W1 wr) (fun _ _ _ i _ => defs.length - (intOf i).toNat)
        case atStart => exact ⟨0, n, d, b, by omega, rfl, rfl, rfl, rfl, Lib.hid (by simpa using hmF.out), hB⟩
        case round =>
          obtain ⟨k, n, d, b, hk', rfl, rfl, rfl, rfl, hm, hB⟩ := hrel
          have hBw := hW1.trans (hB.mono (Nat.le_succ _))
          have hBz := hB.size
          have hbox := (hB.cell (p := ⟨w.heap.size, 3, none⟩) (by simp)).trans hbox1
          have hnd : n ≤ 60 ∧ d ≤ 60 := by
            obtain ⟨_, q1, q2, _⟩ := hm.out
            have := sz_le Part.def_ defs k
            try simp only [sz_append] at q1 q2
            omega
          obtain ⟨hn60, hd60⟩ := hnd
          by_cases hlt : k < defs.length
          · rcases h1 with h00 | ⟨bb, off, rfl, hb, hk⟩
            · omega
            obtain ⟨cs, hcs, hexp⟩ := hk.get defs bb off k hlt
            have hexp' := hexp
            have hsm := sz_mem Part.def_ hlt
            obtain ⟨e0, he0⟩ : ∃ e, e = defs[k] := ⟨_, rfl⟩
            have htk : args.map Part.exp ++ (defs.take (k + 1)).map Part.def_ = (args.map Part.exp ++ (defs.take k).map Part.def_) ++ [Part.def_ e0] := by
              rw [List.take_succ_eq_append_getElem hlt, List.map_append, he0]; simp
            rw [← he0] at hexp hexp' hsm
            have hih := ih (.def_ e0) (by omega) (by omega) B u wr cs (hu.trans ((Below.keptC hBw).mono hBl)) (by omega) hexp'
            have HT := Lib.hid htk; clear htk
            clear he0 hexp'
            have HE : ∀ e w2, ROut (.def_ e0) e ∧ Below wr.heap.size wr w2 → ∃ m l : Nat, ∃ ok : Bool, e = .returned (.tuple #[.int .i64 m, .int .i64 l, .bool ok]) ∧ m ≤ 60 ∧ l ≤ 60 ∧ Hid (RMid (args.map Part.exp ++ (defs.take (k + 1)).map .def_) (n + m) (max d l) (b && ok)) ∧ Below wr.heap.size wr w2 := by
              rintro e w2 ⟨⟨m, l, rfl, h1, h2, h3⟩, hb2⟩
              exact ⟨m, l, _, rfl, by omega, by omega, Lib.hid (by rw [HT.out]; exact hm.out.step h1 h2 rfl h3), hb2⟩
            have hih2 := hih.mono HE
            clear hih HE
            obtain ⟨f0, t0, j0, d0, k0⟩ := e0
            unfold ClauseAt at hexp
            obtain ⟨_, _, _, _, rfl, ⟨x0, y0, rfl, _⟩, ⟨x1, y1, rfl, _⟩, ⟨x2, y2, rfl, _⟩⟩ := hexp
            obtain ⟨c0, c1, c2, c3, c4⟩ := cells5 ((hcs.keep hu hb).below hBw (by omega))
            clear hcs hk
            cases b with
            | true =>
              go_wp2_with (go_at_call 113; refine hih2.mono ?_; clear hih2; rintro e w2 ⟨m, l, ok, rfl, hm60, hl60, HR, hb2⟩)
              all_goals (
                go_roundw
                case rel => exact ⟨k + 1, n + m, max d l, _, by omega, by go_num, by go_num, int_eq (by omega), rfl, Lib.hid (by simpa using HR.out), hB.trans (hb2.mono (by have := hB.size; simp at this ⊢; omega))⟩
                case measure => simp [intOf]; omega)
            | false =>
              go_wp2_with (go_at_call 113; refine hih2.mono ?_; clear hih2; rintro e w2 ⟨m, l, ok, rfl, hm60, hl60, HR, hb2⟩)
              all_goals (
                go_roundw
                case rel => exact ⟨k + 1, n + m, max d l, false, by omega, by go_num, by go_num, int_eq (by omega), rfl, Lib.hid (by simpa using HR.out), hB.trans (hb2.mono (by have := hB.size; simp at this ⊢; omega))⟩
                case measure => simp [intOf]; omega)
          · have hkl : k = defs.length := by omega
            have hm2 := hm.out
            rw [hkl, List.take_length] at hm2
            have hmF := Lib.hid hm2; clear hm2 hm
            obtain rfl := hkl
            go_wp2
            go_loopw [9, 10, 8, 19] (fun vn vd vb i wr => ∃ (k n d : Nat) (b : Bool), k ≤ kids.length ∧ i = .int .i64 k ∧ vn = .int .i64 n ∧ vd = .int .i64 d ∧ vb = .bool b ∧ Hid (RMid (args.map Part.exp ++ defs.map Part.def_ ++ (kids.take k).map .proc) n d b) ∧ Below (w.heap.size + 1) W1 wr) (fun _ _ _ i _ => kids.length - (intOf i).toNat)
            case atStart => exact ⟨0, n, d, b, by omega, rfl, rfl, rfl, rfl, Lib.hid (by simpa using hmF.out), hB⟩
            case round =>
              obtain ⟨k, n, d, b, hk', rfl, rfl, rfl, rfl, hm, hB⟩ := hrel
              have hBw := hW1.trans (hB.mono (Nat.le_succ _))
              have hBz := hB.size
              have hbox := (hB.cell (p := ⟨w.heap.size, 4, none⟩) (by simp)).trans hbox2
              have hnd : n ≤ 60 ∧ d ≤ 60 := by
                obtain ⟨_, q1, q2, _⟩ := hm.out
                have := sz_le Part.proc kids k
                try simp only [sz_append] at q1 q2
                omega
              obtain ⟨hn60, hd60⟩ := hnd
              by_cases hlt : k < kids.length
              · rcases h2 with h00 | ⟨bb, off, rfl, hb, hk⟩
                · omega
                obtain ⟨cs, hcs, hexp⟩ := hk.get kids bb off k hlt
                have hexp' := hexp
                have hsm := sz_mem Part.proc hlt
                obtain ⟨e0, he0⟩ : ∃ e, e = kids[k] := ⟨_, rfl⟩
                have htk : args.map Part.exp ++ defs.map Part.def_ ++ (kids.take (k + 1)).map Part.proc = (args.map Part.exp ++ defs.map Part.def_ ++ (kids.take k).map Part.proc) ++ [Part.proc e0] := by
                  rw [List.take_succ_eq_append_getElem hlt, List.map_append, he0]; simp
                rw [← he0] at hexp hexp' hsm
                have hih := ih (.proc e0) (by omega) (by omega) B u wr cs (hu.trans ((Below.keptC hBw).mono hBl)) (by omega) hexp'
                have HT := Lib.hid htk; clear htk
                clear he0 hexp'
                have HE : ∀ e w2, ROut (.proc e0) e ∧ Below wr.heap.size wr w2 → ∃ m l : Nat, ∃ ok : Bool, e = .returned (.tuple #[.int .i64 m, .int .i64 l, .bool ok]) ∧ m ≤ 60 ∧ l ≤ 60 ∧ Hid (RMid (args.map Part.exp ++ defs.map Part.def_ ++ (kids.take (k + 1)).map .proc) (n + m) (max d l) (b && ok)) ∧ Below wr.heap.size wr w2 := by
                  rintro e w2 ⟨⟨m, l, rfl, h1, h2, h3⟩, hb2⟩
                  exact ⟨m, l, _, rfl, by omega, by omega, Lib.hid (by rw [HT.out]; exact hm.out.step h1 h2 rfl h3), hb2⟩
                have hih2 := hih.mono HE
                clear hih HE
                obtain ⟨o0, t0, g0, d0, k0⟩ := e0
                unfold TermAt at hexp
                obtain ⟨_, _, _, _, rfl, ⟨x0, y0, rfl, _⟩, ⟨x1, y1, rfl, _⟩, ⟨x2, y2, rfl, _⟩⟩ := hexp
                obtain ⟨c0, c1, c2, c3, c4⟩ := cells5 ((hcs.keep hu hb).below hBw (by omega))
                clear hcs hk
                cases b with
                | true =>
                  go_wp2_with (go_at_call 59; refine hih2.mono ?_; clear hih2; rintro e w2 ⟨m, l, ok, rfl, hm60, hl60, HR, hb2⟩)
                  all_goals (
                    go_roundw
                    case rel => exact ⟨k + 1, n + m, max d l, _, by omega, by go_num, by go_num, int_eq (by omega), rfl, Lib.hid (by simpa using HR.out), hB.trans (hb2.mono (by have := hB.size; simp at this ⊢; omega))⟩
                    case measure => simp [intOf]; omega)
                | false =>
                  go_wp2_with (go_at_call 59; refine hih2.mono ?_; clear hih2; rintro e w2 ⟨m, l, ok, rfl, hm60, hl60, HR, hb2⟩)
                  all_goals (
                    go_roundw
                    case rel => exact ⟨k + 1, n + m, max d l, false, by omega, by go_num, by go_num, int_eq (by omega), rfl, Lib.hid (by simpa using HR.out), hB.trans (hb2.mono (by have := hB.size; simp at this ⊢; omega))⟩
                    case measure => simp [intOf]; omega)
              · have hkl : k = kids.length := by omega
                have hm2 := hm.out
                rw [hkl, List.take_length] at hm2
                have hmF := Lib.hid hm2; clear hm2 hm
                obtain rfl := hkl
                go_wp2
                go_ret3
                exact ⟨RMid.out hmF.out HSH.out, hBw⟩
  ·
    have HO := Lib.hid (show rOne text false = true by simp [rOne, g1])
    have hk : ((kids.length : Int) == 2) = true := by rw [g4]; rfl
    have ha : ((args.length : Int) == 1) = true := by rw [g2]; rfl
    have hd : ((defs.length : Int) == 0) = true := by rw [g3]; rfl
    have H2 := Lib.hid g2; have H3 := Lib.hid g3; have H4 := Lib.hid g4; clear g1 g2 g3 g4
    go_enter Tryz.func59, Tryz.ntmps59
    go_wp2_with (go_at_call 112; refine (one_any _ _ _ hz).mono ?_; rw [HO.out]; rintro e w1 ⟨rfl, hb1⟩; have hc0 := (hb1.cell (p := ⟨w.heap.size, 0, none⟩) (by simp)).trans (World.cell?_alloc_at _ _ _ _ rfl); have hc1 := (hb1.cell (p := ⟨w.heap.size, 1, none⟩) (by simp)).trans (World.cell?_alloc_at _ _ _ _ rfl); have hc2 := (hb1.cell (p := ⟨w.heap.size, 2, none⟩) (by simp)).trans (World.cell?_alloc_at _ _ _ _ rfl); have hc3 := (hb1.cell (p := ⟨w.heap.size, 3, none⟩) (by simp)).trans (World.cell?_alloc_at _ _ _ _ rfl); have hc4 := (hb1.cell (p := ⟨w.heap.size, 4, none⟩) (by simp)).trans (World.cell?_alloc_at _ _ _ _ rfl); have hB1 : Below (w.heap.size + 1) W1 w1 := (by rw [HW.out]; exact hb1.mono (by simp)))
    go_loopw [9, 10, 8, 11] (fun vn vd vb i wr => ∃ (k n d : Nat) (b : Bool), k ≤ args.length ∧ i = .int .i64 k ∧ vn = .int .i64 n ∧ vd = .int .i64 d ∧ vb = .bool b ∧ Hid (RMid ((args.take k).map .exp) n d b) ∧ Below (w.heap.size + 1) W1 wr) (fun _ _ _ i _ => args.length - (intOf i).toNat)
    case atStart => exact ⟨0, 1, 0, true, by omega, rfl, rfl, rfl, rfl, Lib.hid RMid.nil, hB1⟩
    case round =>
      obtain ⟨k, n, d, b, hk', rfl, rfl, rfl, rfl, hm, hB⟩ := hrel
      have hBw := hW1.trans (hB.mono (Nat.le_succ _))
      have hBz := hB.size
      have hbox := (hB.cell (p := ⟨w.heap.size, 2, none⟩) (by simp)).trans hbox0
      have hnd : n ≤ 60 ∧ d ≤ 60 := by
        obtain ⟨_, q1, q2, _⟩ := hm.out
        have := sz_le Part.exp args k
        try simp only [sz_append] at q1 q2
        omega
      obtain ⟨hn60, hd60⟩ := hnd
      by_cases hlt : k < args.length
      · rcases h0 with h00 | ⟨bb, off, rfl, hb, hk⟩
        · omega
        obtain ⟨cs, hcs, hexp⟩ := hk.get args bb off k hlt
        have hexp' := hexp
        have hsm := sz_mem Part.exp hlt
        obtain ⟨e0, he0⟩ : ∃ e, e = args[k] := ⟨_, rfl⟩
        have htk : (args.take (k + 1)).map Part.exp = ((args.take k).map Part.exp) ++ [Part.exp e0] := by
          rw [List.take_succ_eq_append_getElem hlt, List.map_append, he0]; simp
        rw [← he0] at hexp hexp' hsm
        have hih := ih (.exp e0) (by omega) (by omega) B u wr cs (hu.trans ((Below.keptC hBw).mono hBl)) (by omega) hexp'
        have HT := Lib.hid htk; clear htk
        clear he0 hexp'
        have HE : ∀ e w2, ROut (.exp e0) e ∧ Below wr.heap.size wr w2 → ∃ m l : Nat, ∃ ok : Bool, e = .returned (.tuple #[.int .i64 m, .int .i64 l, .bool ok]) ∧ m ≤ 60 ∧ l ≤ 60 ∧ Hid (RMid ((args.take (k + 1)).map .exp) (n + m) (max d l) (b && ok)) ∧ Below wr.heap.size wr w2 := by
          rintro e w2 ⟨⟨m, l, rfl, h1, h2, h3⟩, hb2⟩
          exact ⟨m, l, _, rfl, by omega, by omega, Lib.hid (by rw [HT.out]; exact hm.out.step h1 h2 rfl h3), hb2⟩
        have hih2 := hih.mono HE
        clear hih HE
        obtain ⟨o0, n0, t0, k0⟩ := e0
        unfold ExpAt at hexp
        obtain ⟨_, _, rfl, x0, y0, rfl, _⟩ := hexp
        obtain ⟨c0, c1, c2, c3⟩ := cells4 ((hcs.keep hu hb).below hBw (by omega))
        clear hcs hk
        cases b with
        | true =>
          go_wp2_with (go_at_call 62; refine hih2.mono ?_; clear hih2; rintro e w2 ⟨m, l, ok, rfl, hm60, hl60, HR, hb2⟩)
          all_goals (
            go_roundw
            case rel => exact ⟨k + 1, n + m, max d l, _, by omega, by go_num, by go_num, int_eq (by omega), rfl, Lib.hid (by simpa using HR.out), hB.trans (hb2.mono (by have := hB.size; simp at this ⊢; omega))⟩
            case measure => simp [intOf]; omega)
        | false =>
          go_wp2_with (go_at_call 62; refine hih2.mono ?_; clear hih2; rintro e w2 ⟨m, l, ok, rfl, hm60, hl60, HR, hb2⟩)
          all_goals (
            go_roundw
            case rel => exact ⟨k + 1, n + m, max d l, false, by omega, by go_num, by go_num, int_eq (by omega), rfl, Lib.hid (by simpa using HR.out), hB.trans (hb2.mono (by have := hB.size; simp at this ⊢; omega))⟩
            case measure => simp [intOf]; omega)
      · have hkl : k = args.length := by omega
        have hm2 := hm.out
        rw [hkl, List.take_length] at hm2
        have hmF := Lib.hid hm2; clear hm2 hm
        obtain rfl := hkl
        go_wp2
        go_loopw [9, 10, 8, 15] (fun vn vd vb i wr => ∃ (k n d : Nat) (b : Bool), k ≤ defs.length ∧ i = .int .i64 k ∧ vn = .int .i64 n ∧ vd = .int .i64 d ∧ vb = .bool b ∧ Hid (RMid (args.map Part.exp ++ (defs.take k).map .def_) n d b) ∧ Below (w.heap.size + 1) W1 wr) (fun _ _ _ i _ => defs.length - (intOf i).toNat)
        case atStart => exact ⟨0, n, d, b, by omega, rfl, rfl, rfl, rfl, Lib.hid (by simpa using hmF.out), hB⟩
        case round =>
          obtain ⟨k, n, d, b, hk', rfl, rfl, rfl, rfl, hm, hB⟩ := hrel
          have hBw := hW1.trans (hB.mono (Nat.le_succ _))
          have hBz := hB.size
          have hbox := (hB.cell (p := ⟨w.heap.size, 3, none⟩) (by simp)).trans hbox1
          have hnd : n ≤ 60 ∧ d ≤ 60 := by
            obtain ⟨_, q1, q2, _⟩ := hm.out
            have := sz_le Part.def_ defs k
            try simp only [sz_append] at q1 q2
            omega
          obtain ⟨hn60, hd60⟩ := hnd
          by_cases hlt : k < defs.length
          · rcases h1 with h00 | ⟨bb, off, rfl, hb, hk⟩
            · omega
            obtain ⟨cs, hcs, hexp⟩ := hk.get defs bb off k hlt
            have hexp' := hexp
            have hsm := sz_mem Part.def_ hlt
            obtain ⟨e0, he0⟩ : ∃ e, e = defs[k] := ⟨_, rfl⟩
            have htk : args.map Part.exp ++ (defs.take (k + 1)).map Part.def_ = (args.map Part.exp ++ (defs.take k).map Part.def_) ++ [Part.def_ e0] := by
              rw [List.take_succ_eq_append_getElem hlt, List.map_append, he0]; simp
            rw [← he0] at hexp hexp' hsm
            have hih := ih (.def_ e0) (by omega) (by omega) B u wr cs (hu.trans ((Below.keptC hBw).mono hBl)) (by omega) hexp'
            have HT := Lib.hid htk; clear htk
            clear he0 hexp'
            have HE : ∀ e w2, ROut (.def_ e0) e ∧ Below wr.heap.size wr w2 → ∃ m l : Nat, ∃ ok : Bool, e = .returned (.tuple #[.int .i64 m, .int .i64 l, .bool ok]) ∧ m ≤ 60 ∧ l ≤ 60 ∧ Hid (RMid (args.map Part.exp ++ (defs.take (k + 1)).map .def_) (n + m) (max d l) (b && ok)) ∧ Below wr.heap.size wr w2 := by
              rintro e w2 ⟨⟨m, l, rfl, h1, h2, h3⟩, hb2⟩
              exact ⟨m, l, _, rfl, by omega, by omega, Lib.hid (by rw [HT.out]; exact hm.out.step h1 h2 rfl h3), hb2⟩
            have hih2 := hih.mono HE
            clear hih HE
            obtain ⟨f0, t0, j0, d0, k0⟩ := e0
            unfold ClauseAt at hexp
            obtain ⟨_, _, _, _, rfl, ⟨x0, y0, rfl, _⟩, ⟨x1, y1, rfl, _⟩, ⟨x2, y2, rfl, _⟩⟩ := hexp
            obtain ⟨c0, c1, c2, c3, c4⟩ := cells5 ((hcs.keep hu hb).below hBw (by omega))
            clear hcs hk
            cases b with
            | true =>
              go_wp2_with (go_at_call 113; refine hih2.mono ?_; clear hih2; rintro e w2 ⟨m, l, ok, rfl, hm60, hl60, HR, hb2⟩)
              all_goals (
                go_roundw
                case rel => exact ⟨k + 1, n + m, max d l, _, by omega, by go_num, by go_num, int_eq (by omega), rfl, Lib.hid (by simpa using HR.out), hB.trans (hb2.mono (by have := hB.size; simp at this ⊢; omega))⟩
                case measure => simp [intOf]; omega)
            | false =>
              go_wp2_with (go_at_call 113; refine hih2.mono ?_; clear hih2; rintro e w2 ⟨m, l, ok, rfl, hm60, hl60, HR, hb2⟩)
              all_goals (
                go_roundw
                case rel => exact ⟨k + 1, n + m, max d l, false, by omega, by go_num, by go_num, int_eq (by omega), rfl, Lib.hid (by simpa using HR.out), hB.trans (hb2.mono (by have := hB.size; simp at this ⊢; omega))⟩
                case measure => simp [intOf]; omega)
          · have hkl : k = defs.length := by omega
            have hm2 := hm.out
            rw [hkl, List.take_length] at hm2
            have hmF := Lib.hid hm2; clear hm2 hm
            obtain rfl := hkl
            go_wp2
            go_loopw [9, 10, 8, 19] (fun vn vd vb i wr => ∃ (k n d : Nat) (b : Bool), k ≤ kids.length ∧ i = .int .i64 k ∧ vn = .int .i64 n ∧ vd = .int .i64 d ∧ vb = .bool b ∧ Hid (RMid (args.map Part.exp ++ defs.map Part.def_ ++ (kids.take k).map .proc) n d b) ∧ Below (w.heap.size + 1) W1 wr) (fun _ _ _ i _ => kids.length - (intOf i).toNat)
            case atStart => exact ⟨0, n, d, b, by omega, rfl, rfl, rfl, rfl, Lib.hid (by simpa using hmF.out), hB⟩
            case round =>
              obtain ⟨k, n, d, b, hk', rfl, rfl, rfl, rfl, hm, hB⟩ := hrel
              have hBw := hW1.trans (hB.mono (Nat.le_succ _))
              have hBz := hB.size
              have hbox := (hB.cell (p := ⟨w.heap.size, 4, none⟩) (by simp)).trans hbox2
              have hnd : n ≤ 60 ∧ d ≤ 60 := by
                obtain ⟨_, q1, q2, _⟩ := hm.out
                have := sz_le Part.proc kids k
                try simp only [sz_append] at q1 q2
                omega
              obtain ⟨hn60, hd60⟩ := hnd
              by_cases hlt : k < kids.length
              · rcases h2 with h00 | ⟨bb, off, rfl, hb, hk⟩
                · omega
                obtain ⟨cs, hcs, hexp⟩ := hk.get kids bb off k hlt
                have hexp' := hexp
                have hsm := sz_mem Part.proc hlt
                obtain ⟨e0, he0⟩ : ∃ e, e = kids[k] := ⟨_, rfl⟩
                have htk : args.map Part.exp ++ defs.map Part.def_ ++ (kids.take (k + 1)).map Part.proc = (args.map Part.exp ++ defs.map Part.def_ ++ (kids.take k).map Part.proc) ++ [Part.proc e0] := by
                  rw [List.take_succ_eq_append_getElem hlt, List.map_append, he0]; simp
                rw [← he0] at hexp hexp' hsm
                have hih := ih (.proc e0) (by omega) (by omega) B u wr cs (hu.trans ((Below.keptC hBw).mono hBl)) (by omega) hexp'
                have HT := Lib.hid htk; clear htk
                clear he0 hexp'
                have HE : ∀ e w2, ROut (.proc e0) e ∧ Below wr.heap.size wr w2 → ∃ m l : Nat, ∃ ok : Bool, e = .returned (.tuple #[.int .i64 m, .int .i64 l, .bool ok]) ∧ m ≤ 60 ∧ l ≤ 60 ∧ Hid (RMid (args.map Part.exp ++ defs.map Part.def_ ++ (kids.take (k + 1)).map .proc) (n + m) (max d l) (b && ok)) ∧ Below wr.heap.size wr w2 := by
                  rintro e w2 ⟨⟨m, l, rfl, h1, h2, h3⟩, hb2⟩
                  exact ⟨m, l, _, rfl, by omega, by omega, Lib.hid (by rw [HT.out]; exact hm.out.step h1 h2 rfl h3), hb2⟩
                have hih2 := hih.mono HE
                clear hih HE
                obtain ⟨o0, t0, g0, d0, k0⟩ := e0
                unfold TermAt at hexp
                obtain ⟨_, _, _, _, rfl, ⟨x0, y0, rfl, _⟩, ⟨x1, y1, rfl, _⟩, ⟨x2, y2, rfl, _⟩⟩ := hexp
                obtain ⟨c0, c1, c2, c3, c4⟩ := cells5 ((hcs.keep hu hb).below hBw (by omega))
                clear hcs hk
                cases b with
                | true =>
                  go_wp2_with (go_at_call 59; refine hih2.mono ?_; clear hih2; rintro e w2 ⟨m, l, ok, rfl, hm60, hl60, HR, hb2⟩)
                  all_goals (
                    go_roundw
                    case rel => exact ⟨k + 1, n + m, max d l, _, by omega, by go_num, by go_num, int_eq (by omega), rfl, Lib.hid (by simpa using HR.out), hB.trans (hb2.mono (by have := hB.size; simp at this ⊢; omega))⟩
                    case measure => simp [intOf]; omega)
                | false =>
                  go_wp2_with (go_at_call 59; refine hih2.mono ?_; clear hih2; rintro e w2 ⟨m, l, ok, rfl, hm60, hl60, HR, hb2⟩)
                  all_goals (
                    go_roundw
                    case rel => exact ⟨k + 1, n + m, max d l, false, by omega, by go_num, by go_num, int_eq (by omega), rfl, Lib.hid (by simpa using HR.out), hB.trans (hb2.mono (by have := hB.size; simp at this ⊢; omega))⟩
                    case measure => simp [intOf]; omega)
              · have hkl : k = kids.length := by omega
                have hm2 := hm.out
                rw [hkl, List.take_length] at hm2
                have hmF := Lib.hid hm2; clear hm2 hm
                obtain rfl := hkl
                go_wp2
                go_ret3
                exact ⟨RMid.out hmF.out HSH.out, hBw⟩
  ·
    have HO := Lib.hid (show rOne text true = true by simp [rOne, g1])
    have hk : ((kids.length : Int) == 1) = true := by rw [g4]; rfl
    have ha : ((args.length : Int) == 0) = true := by rw [g2]; rfl
    have hd : ((defs.length : Int) == 0) = true := by rw [g3]; rfl
    have H2 := Lib.hid g2; have H3 := Lib.hid g3; have H4 := Lib.hid g4; clear g1 g2 g3 g4
    rcases h0' with rfl | rfl
    all_goals (
      go_enter Tryz.func59, Tryz.ntmps59
      go_wp2_with (go_at_call 112; refine (one_any _ _ _ hz).mono ?_; rw [HO.out]; rintro e w1 ⟨rfl, hb1⟩; have hc0 := (hb1.cell (p := ⟨w.heap.size, 0, none⟩) (by simp)).trans (World.cell?_alloc_at _ _ _ _ rfl); have hc1 := (hb1.cell (p := ⟨w.heap.size, 1, none⟩) (by simp)).trans (World.cell?_alloc_at _ _ _ _ rfl); have hc2 := (hb1.cell (p := ⟨w.heap.size, 2, none⟩) (by simp)).trans (World.cell?_alloc_at _ _ _ _ rfl); have hc3 := (hb1.cell (p := ⟨w.heap.size, 3, none⟩) (by simp)).trans (World.cell?_alloc_at _ _ _ _ rfl); have hc4 := (hb1.cell (p := ⟨w.heap.size, 4, none⟩) (by simp)).trans (World.cell?_alloc_at _ _ _ _ rfl); have hB1 : Below (w.heap.size + 1) W1 w1 := (by rw [HW.out]; exact hb1.mono (by simp)))
      go_loopw [9, 10, 8, 11] (fun vn vd vb i wr => ∃ (k n d : Nat) (b : Bool), k ≤ args.length ∧ i = .int .i64 k ∧ vn = .int .i64 n ∧ vd = .int .i64 d ∧ vb = .bool b ∧ Hid (RMid ((args.take k).map .exp) n d b) ∧ Below (w.heap.size + 1) W1 wr) (fun _ _ _ i _ => args.length - (intOf i).toNat)
      case atStart => exact ⟨0, 1, 0, true, by omega, rfl, rfl, rfl, rfl, Lib.hid RMid.nil, hB1⟩
      case round =>
        obtain ⟨k, n, d, b, hk', rfl, rfl, rfl, rfl, hm, hB⟩ := hrel
        have hBw := hW1.trans (hB.mono (Nat.le_succ _))
        have hBz := hB.size
        have hbox := (hB.cell (p := ⟨w.heap.size, 2, none⟩) (by simp)).trans hbox0
        have hnd : n ≤ 60 ∧ d ≤ 60 := by
          obtain ⟨_, q1, q2, _⟩ := hm.out
          have := sz_le Part.exp args k
          try simp only [sz_append] at q1 q2
          omega
        obtain ⟨hn60, hd60⟩ := hnd
        by_cases hlt : k < args.length
        · rcases h0 with h00 | ⟨bb, off, rfl, hb, hk⟩
          · omega
          obtain ⟨cs, hcs, hexp⟩ := hk.get args bb off k hlt
          have hexp' := hexp
          have hsm := sz_mem Part.exp hlt
          obtain ⟨e0, he0⟩ : ∃ e, e = args[k] := ⟨_, rfl⟩
          have htk : (args.take (k + 1)).map Part.exp = ((args.take k).map Part.exp) ++ [Part.exp e0] := by
            rw [List.take_succ_eq_append_getElem hlt, List.map_append, he0]; simp
          rw [← he0] at hexp hexp' hsm
          have hih := ih (.exp e0) (by omega) (by omega) B u wr cs (hu.trans ((Below.keptC hBw).mono hBl)) (by omega) hexp'
          have HT := Lib.hid htk; clear htk
          clear he0 hexp'
          have HE : ∀ e w2, ROut (.exp e0) e ∧ Below wr.heap.size wr w2 → ∃ m l : Nat, ∃ ok : Bool, e = .returned (.tuple #[.int .i64 m, .int .i64 l, .bool ok]) ∧ m ≤ 60 ∧ l ≤ 60 ∧ Hid (RMid ((args.take (k + 1)).map .exp) (n + m) (max d l) (b && ok)) ∧ Below wr.heap.size wr w2 := by
            rintro e w2 ⟨⟨m, l, rfl, h1, h2, h3⟩, hb2⟩
            exact ⟨m, l, _, rfl, by omega, by omega, Lib.hid (by rw [HT.out]; exact hm.out.step h1 h2 rfl h3), hb2⟩
          have hih2 := hih.mono HE
          clear hih HE
          obtain ⟨o0, n0, t0, k0⟩ := e0
          unfold ExpAt at hexp
          obtain ⟨_, _, rfl, x0, y0, rfl, _⟩ := hexp
          obtain ⟨c0, c1, c2, c3⟩ := cells4 ((hcs.keep hu hb).below hBw (by omega))
          clear hcs hk
          cases b with
          | true =>
            go_wp2_with (go_at_call 62; refine hih2.mono ?_; clear hih2; rintro e w2 ⟨m, l, ok, rfl, hm60, hl60, HR, hb2⟩)
            all_goals (
              go_roundw
              case rel => exact ⟨k + 1, n + m, max d l, _, by omega, by go_num, by go_num, int_eq (by omega), rfl, Lib.hid (by simpa using HR.out), hB.trans (hb2.mono (by have := hB.size; simp at this ⊢; omega))⟩
              case measure => simp [intOf]; omega)
          | false =>
            go_wp2_with (go_at_call 62; refine hih2.mono ?_; clear hih2; rintro e w2 ⟨m, l, ok, rfl, hm60, hl60, HR, hb2⟩)
            all_goals (
              go_roundw
              case rel => exact ⟨k + 1, n + m, max d l, false, by omega, by go_num, by go_num, int_eq (by omega), rfl, Lib.hid (by simpa using HR.out), hB.trans (hb2.mono (by have := hB.size; simp at this ⊢; omega))⟩
              case measure => simp [intOf]; omega)
        · have hkl : k = args.length := by omega
          have hm2 := hm.out
          rw [hkl, List.take_length] at hm2
          have hmF := Lib.hid hm2; clear hm2 hm
          obtain rfl := hkl
          go_wp2
          go_loopw [9, 10, 8, 15] (fun vn vd vb i wr => ∃ (k n d : Nat) (b : Bool), k ≤ defs.length ∧ i = .int .i64 k ∧ vn = .int .i64 n ∧ vd = .int .i64 d ∧ vb = .bool b ∧ Hid (RMid (args.map Part.exp ++ (defs.take k).map .def_) n d b) ∧ Below (w.heap.size + 1) W1 wr) (fun _ _ _ i _ => defs.length - (intOf i).toNat)
          case atStart => exact ⟨0, n, d, b, by omega, rfl, rfl, rfl, rfl, Lib.hid (by simpa using hmF.out), hB⟩
          case round =>
            obtain ⟨k, n, d, b, hk', rfl, rfl, rfl, rfl, hm, hB⟩ := hrel
            have hBw := hW1.trans (hB.mono (Nat.le_succ _))
            have hBz := hB.size
            have hbox := (hB.cell (p := ⟨w.heap.size, 3, none⟩) (by simp)).trans hbox1
            have hnd : n ≤ 60 ∧ d ≤ 60 := by
              obtain ⟨_, q1, q2, _⟩ := hm.out
              have := sz_le Part.def_ defs k
              try simp only [sz_append] at q1 q2
              omega
            obtain ⟨hn60, hd60⟩ := hnd
            by_cases hlt : k < defs.length
            · rcases h1 with h00 | ⟨bb, off, rfl, hb, hk⟩
              · omega
              obtain ⟨cs, hcs, hexp⟩ := hk.get defs bb off k hlt
              have hexp' := hexp
              have hsm := sz_mem Part.def_ hlt
              obtain ⟨e0, he0⟩ : ∃ e, e = defs[k] := ⟨_, rfl⟩
              have htk : args.map Part.exp ++ (defs.take (k + 1)).map Part.def_ = (args.map Part.exp ++ (defs.take k).map Part.def_) ++ [Part.def_ e0] := by
                rw [List.take_succ_eq_append_getElem hlt, List.map_append, he0]; simp
              rw [← he0] at hexp hexp' hsm
              have hih := ih (.def_ e0) (by omega) (by omega) B u wr cs (hu.trans ((Below.keptC hBw).mono hBl)) (by omega) hexp'
              have HT := Lib.hid htk; clear htk
              clear he0 hexp'
              have HE : ∀ e w2, ROut (.def_ e0) e ∧ Below wr.heap.size wr w2 → ∃ m l : Nat, ∃ ok : Bool, e = .returned (.tuple #[.int .i64 m, .int .i64 l, .bool ok]) ∧ m ≤ 60 ∧ l ≤ 60 ∧ Hid (RMid (args.map Part.exp ++ (defs.take (k + 1)).map .def_) (n + m) (max d l) (b && ok)) ∧ Below wr.heap.size wr w2 := by
                rintro e w2 ⟨⟨m, l, rfl, h1, h2, h3⟩, hb2⟩
                exact ⟨m, l, _, rfl, by omega, by omega, Lib.hid (by rw [HT.out]; exact hm.out.step h1 h2 rfl h3), hb2⟩
              have hih2 := hih.mono HE
              clear hih HE
              obtain ⟨f0, t0, j0, d0, k0⟩ := e0
              unfold ClauseAt at hexp
              obtain ⟨_, _, _, _, rfl, ⟨x0, y0, rfl, _⟩, ⟨x1, y1, rfl, _⟩, ⟨x2, y2, rfl, _⟩⟩ := hexp
              obtain ⟨c0, c1, c2, c3, c4⟩ := cells5 ((hcs.keep hu hb).below hBw (by omega))
              clear hcs hk
              cases b with
              | true =>
                go_wp2_with (go_at_call 113; refine hih2.mono ?_; clear hih2; rintro e w2 ⟨m, l, ok, rfl, hm60, hl60, HR, hb2⟩)
                all_goals (
                  go_roundw
                  case rel => exact ⟨k + 1, n + m, max d l, _, by omega, by go_num, by go_num, int_eq (by omega), rfl, Lib.hid (by simpa using HR.out), hB.trans (hb2.mono (by have := hB.size; simp at this ⊢; omega))⟩
                  case measure => simp [intOf]; omega)
              | false =>
                go_wp2_with (go_at_call 113; refine hih2.mono ?_; clear hih2; rintro e w2 ⟨m, l, ok, rfl, hm60, hl60, HR, hb2⟩)
                all_goals (
                  go_roundw
                  case rel => exact ⟨k + 1, n + m, max d l, false, by omega, by go_num, by go_num, int_eq (by omega), rfl, Lib.hid (by simpa using HR.out), hB.trans (hb2.mono (by have := hB.size; simp at this ⊢; omega))⟩
                  case measure => simp [intOf]; omega)
            · have hkl : k = defs.length := by omega
              have hm2 := hm.out
              rw [hkl, List.take_length] at hm2
              have hmF := Lib.hid hm2; clear hm2 hm
              obtain rfl := hkl
              go_wp2
              go_loopw [9, 10, 8, 19] (fun vn vd vb i wr => ∃ (k n d : Nat) (b : Bool), k ≤ kids.length ∧ i = .int .i64 k ∧ vn = .int .i64 n ∧ vd = .int .i64 d ∧ vb = .bool b ∧ Hid (RMid (args.map Part.exp ++ defs.map Part.def_ ++ (kids.take k).map .proc) n d b) ∧ Below (w.heap.size + 1) W1 wr) (fun _ _ _ i _ => kids.length - (intOf i).toNat)
              case atStart => exact ⟨0, n, d, b, by omega, rfl, rfl, rfl, rfl, Lib.hid (by simpa using hmF.out), hB⟩
              case round =>
                obtain ⟨k, n, d, b, hk', rfl, rfl, rfl, rfl, hm, hB⟩ := hrel
                have hBw := hW1.trans (hB.mono (Nat.le_succ _))
                have hBz := hB.size
                have hbox := (hB.cell (p := ⟨w.heap.size, 4, none⟩) (by simp)).trans hbox2
                have hnd : n ≤ 60 ∧ d ≤ 60 := by
                  obtain ⟨_, q1, q2, _⟩ := hm.out
                  have := sz_le Part.proc kids k
                  try simp only [sz_append] at q1 q2
                  omega
                obtain ⟨hn60, hd60⟩ := hnd
                by_cases hlt : k < kids.length
                · rcases h2 with h00 | ⟨bb, off, rfl, hb, hk⟩
                  · omega
                  obtain ⟨cs, hcs, hexp⟩ := hk.get kids bb off k hlt
                  have hexp' := hexp
                  have hsm := sz_mem Part.proc hlt
                  obtain ⟨e0, he0⟩ : ∃ e, e = kids[k] := ⟨_, rfl⟩
                  have htk : args.map Part.exp ++ defs.map Part.def_ ++ (kids.take (k + 1)).map Part.proc = (args.map Part.exp ++ defs.map Part.def_ ++ (kids.take k).map Part.proc) ++ [Part.proc e0] := by
                    rw [List.take_succ_eq_append_getElem hlt, List.map_append, he0]; simp
                  rw [← he0] at hexp hexp' hsm
                  have hih := ih (.proc e0) (by omega) (by omega) B u wr cs (hu.trans ((Below.keptC hBw).mono hBl)) (by omega) hexp'
                  have HT := Lib.hid htk; clear htk
                  clear he0 hexp'
                  have HE : ∀ e w2, ROut (.proc e0) e ∧ Below wr.heap.size wr w2 → ∃ m l : Nat, ∃ ok : Bool, e = .returned (.tuple #[.int .i64 m, .int .i64 l, .bool ok]) ∧ m ≤ 60 ∧ l ≤ 60 ∧ Hid (RMid (args.map Part.exp ++ defs.map Part.def_ ++ (kids.take (k + 1)).map .proc) (n + m) (max d l) (b && ok)) ∧ Below wr.heap.size wr w2 := by
                    rintro e w2 ⟨⟨m, l, rfl, h1, h2, h3⟩, hb2⟩
                    exact ⟨m, l, _, rfl, by omega, by omega, Lib.hid (by rw [HT.out]; exact hm.out.step h1 h2 rfl h3), hb2⟩
                  have hih2 := hih.mono HE
                  clear hih HE
                  obtain ⟨o0, t0, g0, d0, k0⟩ := e0
                  unfold TermAt at hexp
                  obtain ⟨_, _, _, _, rfl, ⟨x0, y0, rfl, _⟩, ⟨x1, y1, rfl, _⟩, ⟨x2, y2, rfl, _⟩⟩ := hexp
                  obtain ⟨c0, c1, c2, c3, c4⟩ := cells5 ((hcs.keep hu hb).below hBw (by omega))
                  clear hcs hk
                  cases b with
                  | true =>
                    go_wp2_with (go_at_call 59; refine hih2.mono ?_; clear hih2; rintro e w2 ⟨m, l, ok, rfl, hm60, hl60, HR, hb2⟩)
                    all_goals (
                      go_roundw
                      case rel => exact ⟨k + 1, n + m, max d l, _, by omega, by go_num, by go_num, int_eq (by omega), rfl, Lib.hid (by simpa using HR.out), hB.trans (hb2.mono (by have := hB.size; simp at this ⊢; omega))⟩
                      case measure => simp [intOf]; omega)
                  | false =>
                    go_wp2_with (go_at_call 59; refine hih2.mono ?_; clear hih2; rintro e w2 ⟨m, l, ok, rfl, hm60, hl60, HR, hb2⟩)
                    all_goals (
                      go_roundw
                      case rel => exact ⟨k + 1, n + m, max d l, false, by omega, by go_num, by go_num, int_eq (by omega), rfl, Lib.hid (by simpa using HR.out), hB.trans (hb2.mono (by have := hB.size; simp at this ⊢; omega))⟩
                      case measure => simp [intOf]; omega)
                · have hkl : k = kids.length := by omega
                  have hm2 := hm.out
                  rw [hkl, List.take_length] at hm2
                  have hmF := Lib.hid hm2; clear hm2 hm
                  obtain rfl := hkl
                  go_wp2
                  go_ret3
                  exact ⟨RMid.out hmF.out HSH.out, hBw⟩)

theorem r_all : ∀ s, RAt s := by
  intro s
  induction s with
  | zero => intro p hp; exact absurd (by rw [Part.size, nodesOf_eq]; simp) (Nat.not_lt.2 hp)
  | succ s ih =>
    intro p hp h60 B u w cs hu hBl hv
    cases p with
    | proc t =>
      obtain ⟨o, t, a, d, k⟩ := t
      have hv' : TermAt B u cs (.mk o t a d k) := hv
      unfold TermAt at hv'
      obtain ⟨hz, _, _, _, rfl, ⟨a0, p0, rfl, l0, h0⟩, ⟨a1, p1, rfl, l1, h1⟩, ⟨a2, p2, rfl, l2, h2⟩⟩ := hv'
      cases hsh : shapedTB (.mk o t a d k) with
      | false => exact r_term_no o t a d k h60 a0 a1 a2 p0 p1 p2 w hz hsh
      | true => exact r_term_yes s ih o t a d k hp h60 B u w hu hBl a0 a1 a2 p0 p1 p2 hz h0 h1 h2 hsh
    | exp t => obtain ⟨o, n, t, k⟩ := t; exact r_exp s ih o n t k hp h60 B u w cs hu hBl hv
    | def_ t => obtain ⟨f, t, j, d, k⟩ := t; exact r_clause s ih f t j d k hp h60 B u w cs hu hBl hv

end Go.Proofs.YtjmlaeofjjhfmaaGreat
