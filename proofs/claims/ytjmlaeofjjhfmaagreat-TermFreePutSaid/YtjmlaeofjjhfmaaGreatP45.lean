/- The reference's free names: freeTerm at what is no TermDef. -/
import Derived.Test.YtjmlaeofjjhfmaaGreatP44
set_option linter.unusedVariables false
set_option linter.unusedSimpArgs false
namespace Go.Proofs.YtjmlaeofjjhfmaaGreat
open Go.RowKit Go.Shelf Go.Maps Go.Sort

set_option maxRecDepth 10000 in
set_option maxHeartbeats 8000000 in
theorem f_termN (s : Nat) (ih : FAt s) (op : Int) (ho4 : op ≠ 4) (text : ByteArray) (args : List Exp) (defs : List Clause) (kids : List Term) (hs : (Part.proc (.mk op text args defs kids)).size ≤ s + 1) (h60 : (Part.proc (.mk op text args defs kids)).size ≤ 60) (hsh : allSh (.proc (.mk op text args defs kids)) = true) (hag : agAll (.proc (.mk op text args defs kids)) = true)
    (B : Nat) (u w : World) (cs : List Value) (v vb : Value) (out bound : List ByteArray) (hu : KeptC B u w) (hBl : B ≤ w.heap.size) (hv : TermAt B u cs (.mk op text args defs kids)) (ho : OutAt w v out) (hb : StrsAt w.heap.size w vb bound) (hs0 : Srt out)
    (hl : out.length + (Part.proc (.mk op text args defs kids)).size ≤ 900) (hbl : bound.length + 300 * (Part.proc (.mk op text args defs kids)).size ≤ 30000) :
    Calls Tryz.prog 121 #[v, vb, .agg cs.toArray] w (AddOut out (fset (s + 1) bound (.proc (.mk op text args defs kids))) (Part.proc (.mk op text args defs kids)).size w) := by
  unfold TermAt at hv
  obtain ⟨hz, _, _, _, rfl, ⟨a0, p0, rfl, l0, h0⟩, ⟨a1, p1, rfl, l1, h1⟩, ⟨a2, p2, rfl, l2, h2⟩⟩ := hv
  have hss := size_sz (Part.proc (.mk op text args defs kids))
  simp only [Part.parts, sz_append] at hss
  have hshk := allSh_parts hsh
  have hagk := agAll_parts hag
  rw [allSh_eq, Bool.and_eq_true] at hsh
  have hsp := hsh.1
  simp only [Part.shaped, shapedTB, Bool.or_eq_true, Bool.and_eq_true, beq_iff_eq, decide_eq_true_eq] at hsp
  have hd0 : defs.length = 0 := by omega
  obtain rfl := List.eq_nil_of_length_eq_zero hd0
  clear hsp hsh hag hd0 h1
  obtain ⟨F, hF⟩ : ∃ F, F = fset (s + 1) bound (.proc (.mk op text args [] kids)) := ⟨_, rfl⟩
  obtain ⟨N, hN⟩ : ∃ N, N = (Part.proc (.mk op text args [] kids)).size := ⟨_, rfl⟩
  obtain ⟨F0, hF0⟩ : ∃ F0 : List UInt8 → Prop, F0 = fun k => (bytesOf text).isEmpty = false ∧ k = bytesOf text ∧ k ∉ bound.map bytesOf := ⟨_, rfl⟩
  have hFF : ∀ k, F k ↔ F0 k ∨ ((args.map Part.exp ++ kids.map Part.proc).any (fun q => freeN s q k) = true ∧ k ∉ bound.map bytesOf) := by
    intro k
    rw [hF, hF0]
    simp only [fset, freeN, Part.parts, bindsP, standsP, if_neg ho4, List.map_nil, List.append_nil, List.any_nil, Bool.not_false, Bool.and_true, Bool.or_eq_true, Bool.and_eq_true, Bool.not_eq_true', beq_iff_eq]
    constructor
    · rintro ⟨a | ⟨a, b⟩, d⟩
      · exact .inr ⟨a, d⟩
      · exact .inl ⟨a, b, d⟩
    · rintro (⟨a, b, d⟩ | ⟨a, d⟩)
      · exact ⟨.inr ⟨a, b⟩, d⟩
      · exact ⟨.inl a, d⟩
  rw [← hF, ← hN]
  rw [← hN] at hs h60 hl hbl hss
  obtain ⟨W1, hW1⟩ : ∃ W1, W1 = w.alloc (.cells #[.int .i64 op, .string text, .slice a0 args.length p0, .slice a1 0 p1, .slice a2 kids.length p2] 33) := ⟨_, rfl⟩
  have z1 : W1.heap.size = w.heap.size + 1 := by rw [hW1]; simp
  have b1 : Below w.heap.size w W1 := by rw [hW1]; exact (Below.refl _ w).alloc (Nat.le_refl _) _
  have cc : ∀ W, Below W1.heap.size W1 W → W.cell? ⟨w.heap.size, 0, none⟩ = some (.int .i64 op) ∧ W.cell? ⟨w.heap.size, 2, none⟩ = some (.slice a0 args.length p0) ∧ W.cell? ⟨w.heap.size, 3, none⟩ = some (.slice a1 0 p1) ∧ W.cell? ⟨w.heap.size, 4, none⟩ = some (.slice a2 kids.length p2) := fun W hW => by
    have e : ∀ o, W.cell? ⟨w.heap.size, o, none⟩ = W1.cell? ⟨w.heap.size, o, none⟩ := fun o => hW.cell (p := ⟨w.heap.size, o, none⟩) (by simp; omega)
    rw [e, e, e, e, hW1]
    simp only [World.cell?_alloc_at _ _ _ _ rfl]
    exact ⟨rfl, rfl, rfl, rfl⟩
  have hsz3 : sz (args.map Part.exp) + sz (kids.map Part.proc) + 1 ≤ N := by simp at hss; omega
  have hm1 : ∀ (k : Nat) (h : k < args.length), (Part.exp args[k]).size + 1 ≤ N ∧ allSh (.exp args[k]) = true ∧ agAll (.exp args[k]) = true := fun k h =>
    ⟨by have := sz_mem Part.exp h; omega, hshk _ (by simp only [Part.parts]; exact List.mem_append.2 (.inl (List.mem_append.2 (.inl (List.mem_map.2 ⟨_, List.getElem_mem h, rfl⟩))))), agAll_exp _⟩
  have hm2 : ∀ (k : Nat) (h : k < kids.length), (Part.proc kids[k]).size + 1 ≤ N ∧ allSh (.proc kids[k]) = true ∧ agAll (.proc kids[k]) = true := fun k h =>
    ⟨by have := sz_mem Part.proc h; omega, hshk _ (by simp only [Part.parts]; exact List.mem_append.2 (.inr (List.mem_map.2 ⟨_, List.getElem_mem h, rfl⟩))), hagk _ (by simp only [Part.parts]; exact List.mem_append.2 (.inr (List.mem_map.2 ⟨_, List.getElem_mem h, rfl⟩)))⟩
  have hst1 : ∀ (k : Nat) (h : k < args.length), sz ((args.take k).map Part.exp) + (Part.exp args[k]).size ≤ sz (args.map Part.exp) := fun k h => by have := sz_take Part.exp args k h; have := sz_le Part.exp args (k + 1); omega
  have hst2 : ∀ (k : Nat) (h : k < kids.length), sz ((kids.take k).map Part.proc) + (Part.proc kids[k]).size ≤ sz (kids.map Part.proc) := fun k h => by have := sz_take Part.proc kids k h; have := sz_le Part.proc kids (k + 1); omega
  have HW := Lib.hid hW1; have HC := Lib.hid cc; have HFF := Lib.hid hFF; have HM1 := Lib.hid hm1; have HM2 := Lib.hid hm2; have HT1 := Lib.hid hst1; have HT2 := Lib.hid hst2; have HBS := Lib.hid hb; have HS3 := Lib.hid hsz3; have IH := Lib.hid ih
  have HO := Lib.hid ho; have HS0 := Lib.hid hs0; have HF0 := Lib.hid hF0
  obtain ⟨ab, cb, rfl, _⟩ := hb
  obtain ⟨ao, co, rfl, _⟩ := ho.strs
  obtain ⟨x0, x2, x3, x4⟩ := HC.out W1 (Below.refl _ _)
  rw [HW.out] at x0 x2 x3 x4
  have ho4' : (op == 4) = false := by simpa using ho4
  clear hF hFF hm1 hm2 hst1 hst2 hW1 cc hN hshk hagk hsz3 hss hs0 ho ih hF0 ho4
  by_cases ht0 : text.size = 0
  · obtain rfl := empty_of_size ht0
    clear ht0
    obtain ⟨n0, hn0⟩ : ∃ n : Nat, n = 0 := ⟨_, rfl⟩
    have hn1 : n0 ≤ 1 := by omega
    have hz11 : W1.heap.size ≤ W1.heap.size := Nat.le_refl _
    have HGD := Lib.hid (show Gath s out bound n0 F0 (([] : List Part) ++ (args.take 0).map .exp) _ W1 from by
      obtain ⟨o2, g1, g2, g3, g4⟩ := (Gath.nil (s := s) (bound := bound) HO.out HS0.out).later b1
      refine ⟨o2, g1, g2, fun x => ?_, by rw [hn0]; simpa using g4⟩
      rw [g3, HF0.out]
      have e : (bytesOf ByteArray.empty).isEmpty = true := rfl
      simp [e])
    have HBD : Below W1.heap.size W1 W1 := Below.refl _ _
    have BWx := Lib.hid HBD
    clear hn0
    go_enter Tryz.func121, Tryz.ntmps121
    go_wp2
    rw [← HW.out]
    go_loopw [0, 7] (fun vo i wr => ∃ (k : Nat), k ≤ args.length ∧ i = .int .i64 k ∧ Hid (Gath s out bound n0 F0 (([] : List Part) ++ (args.take k).map .exp) vo wr) ∧ Below W1.heap.size W1 wr) (fun _ i _ => args.length - (intOf i).toNat)
    case atStart => exact ⟨0, by omega, rfl, HGD, HBD⟩
    case round =>
      obtain ⟨k, hk', rfl, hm, hB⟩ := hrel
      have hBw := b1.trans (hB.mono (by omega))
      have hBz := hBw.size
      obtain ⟨z0, z2, z3, z4⟩ := HC.out _ (BWx.out.trans (hB.mono (by omega)))
      obtain ⟨oa, ol, oc, rfl⟩ := hm.out.slice
      by_cases hlt : k < args.length
      · rcases h0 with h00 | ⟨bb, off, rfl, hbb, hk⟩
        · omega
        obtain ⟨cs, hcs, hexp⟩ := hk.get args bb off k hlt
        obtain ⟨m1, m2, m3⟩ := HM1.out k hlt
        have m4 := HT1.out k hlt
        have m5 := HS3.out
        have hcall := gath_call s IH.out (.exp args[k]) (by omega) (by omega) m2 m3 B u wr cs _ _ out bound n0 F0 _ (hu.trans ((Below.keptC hBw).mono hBl)) (by omega) hexp hm.out (HBS.out.later hBw) (by rw [List.nil_append]; omega) (by omega)
        obtain ⟨e0, he0⟩ : ∃ e, e = args[k] := ⟨_, rfl⟩
        rw [← take_map Part.exp args k hlt args[k] rfl] at hcall
        rw [← he0] at hexp hcall
        clear m1 m2 m3 m4 m5 he0
        obtain ⟨oo, no, to, ko⟩ := e0
        unfold ExpAt at hexp
        obtain ⟨_, _, rfl, s0, t0, rfl, _⟩ := hexp
        obtain ⟨c0, c1, c2, c3⟩ := cells4 ((hcs.keep hu hbb).below hBw (by omega))
        clear hcs hk hm
        go_wp2_with (go_at_call 91; refine hcall.mono ?_; clear hcall; rintro e w5 ⟨v5, rfl, HG5, hb5⟩)
        go_roundw
        case rel => exact ⟨k + 1, by omega, by go_num, HG5, hB.trans (hb5.mono hB.size)⟩
        case measure => simp [intOf]; omega
      · obtain rfl : k = args.length := by omega
        have hm2 := hm.out
        rw [List.take_length, List.nil_append] at hm2
        have HGA := Lib.hid (show Gath s out bound n0 F0 (args.map .exp ++ (kids.take 0).map .proc) _ wr from by simpa using hm2)
        obtain ⟨wa, hwa⟩ : ∃ wa : World, wa = wr := ⟨_, rfl⟩
        subst hwa
        have HBA := hB
        clear hm hm2 hB hBw hBz
        go_wp2
        refine wp_loop_rounds 1 ?_
        rw [rounds_succ]
        go_wp2
        go_loopw [0, 9] (fun vo i wr => ∃ (k : Nat), k ≤ kids.length ∧ i = .int .i64 k ∧ Hid (Gath s out bound n0 F0 (args.map .exp ++ (kids.take k).map .proc) vo wr) ∧ Below W1.heap.size W1 wr) (fun _ i _ => kids.length - (intOf i).toNat)
        case atStart => exact ⟨0, by omega, rfl, HGA, HBA⟩
        case round =>
          obtain ⟨k, hk', rfl, hm, hB⟩ := hrel
          have hBw := b1.trans (hB.mono (by omega))
          have hBz := hBw.size
          obtain ⟨z0, z2, z3, z4⟩ := HC.out _ (BWx.out.trans (hB.mono (by omega)))
          obtain ⟨oa, ol, oc, rfl⟩ := hm.out.slice
          by_cases hlt : k < kids.length
          · rcases h2 with h00 | ⟨bb, off, rfl, hbb, hk⟩
            · omega
            obtain ⟨cs, hcs, hexp⟩ := hk.get kids bb off k hlt
            obtain ⟨m1, m2, m3⟩ := HM2.out k hlt
            have m4 := HT2.out k hlt
            have m5 := HS3.out
            have hcall := gath_call s IH.out (.proc kids[k]) (by omega) (by omega) m2 m3 B u wr cs _ _ out bound n0 F0 _ (hu.trans ((Below.keptC hBw).mono hBl)) (by omega) hexp hm.out (HBS.out.later hBw) (by rw [sz_append]; omega) (by omega)
            obtain ⟨e0, he0⟩ : ∃ e, e = kids[k] := ⟨_, rfl⟩
            rw [← take_map Part.proc kids k hlt kids[k] rfl] at hcall
            rw [← he0] at hexp hcall
            clear m1 m2 m3 m4 m5 he0
            obtain ⟨oo, to, ao', do', ko⟩ := e0
            unfold TermAt at hexp
            obtain ⟨_, _, _, _, rfl, ⟨s0, t0, rfl, _⟩, ⟨s1, t1, rfl, _⟩, ⟨s2, t2, rfl, _⟩⟩ := hexp
            obtain ⟨c0, c1, c2, c3, c4⟩ := cells5 ((hcs.keep hu hbb).below hBw (by omega))
            clear hcs hk hm
            go_wp2_with (go_at_call 121; refine hcall.mono ?_; clear hcall; rintro e w5 ⟨v5, rfl, HG5, hb5⟩)
            go_roundw
            case rel => exact ⟨k + 1, by omega, by go_num, HG5, hB.trans (hb5.mono hB.size)⟩
            case measure => simp [intOf]; omega
          · obtain rfl : k = kids.length := by omega
            have hm2 := hm.out
            rw [List.take_length] at hm2
            obtain ⟨o2, g1, g2, g3, g4⟩ := hm2
            have HFIN := Lib.hid (show AddOut out F N w (.returned _) wr from ⟨_, o2, rfl, g1, g2, fun x => by rw [g3, HFF.out], by have := HS3.out; rw [sz_append] at g4; omega, hBw⟩)
            clear g1 g2 g3 g4 hm
            go_wp2
            go_ret
            exact HFIN.out
  · have hne : (bytesOf text).isEmpty = false := by
      cases hh : bytesOf text with
      | nil => exact absurd (bytes_nil text hh) ht0
      | cons a l => rfl
    have hpr := put_ref _ _ out bound text W1 (HO.out.later b1) (HBS.out.later b1) hz HS0.out (by omega)
    have hF2 : (fun k => k = bytesOf text ∧ k ∉ bound.map bytesOf) = F0 := by rw [HF0.out]; funext k; simp [hne]
    rw [hF2] at hpr
    have htn : (text.toList == []) = false := by
      cases hh : text.toList with
      | nil => exact absurd ((toList_nil text).1 hh) ht0
      | cons a l => rfl
    have htn2 : ¬ text.toList = [] := fun h => ht0 ((toList_nil text).1 h)
    obtain ⟨n0, hn0⟩ : ∃ n : Nat, n = 1 := ⟨_, rfl⟩
    have hn1 : n0 ≤ 1 := by omega
    have hpr2 := hpr.mono (fun e w' h => Gath.put (s := s) (bound := bound) h)
    have HK : ∀ e w2, (∃ v, e = Ending.returned v ∧ Gath s out bound 1 F0 [] v w2 ∧ Below W1.heap.size W1 w2) → ∃ v, e = Ending.returned v ∧ Hid (Gath s out bound n0 F0 (([] : List Part) ++ (args.take 0).map .exp) v w2) ∧ Below W1.heap.size W1 w2 := fun e w2 ⟨v, h1, h2, h3⟩ => ⟨v, h1, Lib.hid (by rw [hn0]; simpa using h2), h3⟩
    have hpr3 := hpr2.mono HK
    clear hpr hpr2 HK hF2 hn0 ht0 hne
    go_enter Tryz.func121, Tryz.ntmps121
    go_wp2_with (go_at_call 143; rw [← HW.out]; refine hpr3.mono ?_; clear hpr3; rintro e w3 ⟨v3, rfl, HGD, hb13⟩; obtain ⟨oa3, ol3, oc3, rfl⟩ := HGD.out.slice; obtain ⟨y0, y2, y3, y4⟩ := HC.out w3 hb13)
    have hz13 := hb13.size
    have hbw3 := b1.trans (hb13.mono (by omega))
    have HBD : Below w3.heap.size w3 w3 := Below.refl _ _
    have BWx := Lib.hid hb13
    go_loopw [0, 7] (fun vo i wr => ∃ (k : Nat), k ≤ args.length ∧ i = .int .i64 k ∧ Hid (Gath s out bound n0 F0 (([] : List Part) ++ (args.take k).map .exp) vo wr) ∧ Below w3.heap.size w3 wr) (fun _ i _ => args.length - (intOf i).toNat)
    case atStart => exact ⟨0, by omega, rfl, HGD, HBD⟩
    case round =>
      obtain ⟨k, hk', rfl, hm, hB⟩ := hrel
      have hBw := hbw3.trans (hB.mono (by omega))
      have hBz := hBw.size
      obtain ⟨z0, z2, z3, z4⟩ := HC.out _ (BWx.out.trans (hB.mono (by omega)))
      obtain ⟨oa, ol, oc, rfl⟩ := hm.out.slice
      by_cases hlt : k < args.length
      · rcases h0 with h00 | ⟨bb, off, rfl, hbb, hk⟩
        · omega
        obtain ⟨cs, hcs, hexp⟩ := hk.get args bb off k hlt
        obtain ⟨m1, m2, m3⟩ := HM1.out k hlt
        have m4 := HT1.out k hlt
        have m5 := HS3.out
        have hcall := gath_call s IH.out (.exp args[k]) (by omega) (by omega) m2 m3 B u wr cs _ _ out bound n0 F0 _ (hu.trans ((Below.keptC hBw).mono hBl)) (by omega) hexp hm.out (HBS.out.later hBw) (by rw [List.nil_append]; omega) (by omega)
        obtain ⟨e0, he0⟩ : ∃ e, e = args[k] := ⟨_, rfl⟩
        rw [← take_map Part.exp args k hlt args[k] rfl] at hcall
        rw [← he0] at hexp hcall
        clear m1 m2 m3 m4 m5 he0
        obtain ⟨oo, no, to, ko⟩ := e0
        unfold ExpAt at hexp
        obtain ⟨_, _, rfl, s0, t0, rfl, _⟩ := hexp
        obtain ⟨c0, c1, c2, c3⟩ := cells4 ((hcs.keep hu hbb).below hBw (by omega))
        clear hcs hk hm
        go_wp2_with (go_at_call 91; refine hcall.mono ?_; clear hcall; rintro e w5 ⟨v5, rfl, HG5, hb5⟩)
        go_roundw
        case rel => exact ⟨k + 1, by omega, by go_num, HG5, hB.trans (hb5.mono hB.size)⟩
        case measure => simp [intOf]; omega
      · obtain rfl : k = args.length := by omega
        have hm2 := hm.out
        rw [List.take_length, List.nil_append] at hm2
        have HGA := Lib.hid (show Gath s out bound n0 F0 (args.map .exp ++ (kids.take 0).map .proc) _ wr from by simpa using hm2)
        obtain ⟨wa, hwa⟩ : ∃ wa : World, wa = wr := ⟨_, rfl⟩
        subst hwa
        have HBA := hB
        clear hm hm2 hB hBw hBz
        go_wp2
        refine wp_loop_rounds 1 ?_
        rw [rounds_succ]
        go_wp2
        go_loopw [0, 9] (fun vo i wr => ∃ (k : Nat), k ≤ kids.length ∧ i = .int .i64 k ∧ Hid (Gath s out bound n0 F0 (args.map .exp ++ (kids.take k).map .proc) vo wr) ∧ Below w3.heap.size w3 wr) (fun _ i _ => kids.length - (intOf i).toNat)
        case atStart => exact ⟨0, by omega, rfl, HGA, HBA⟩
        case round =>
          obtain ⟨k, hk', rfl, hm, hB⟩ := hrel
          have hBw := hbw3.trans (hB.mono (by omega))
          have hBz := hBw.size
          obtain ⟨z0, z2, z3, z4⟩ := HC.out _ (BWx.out.trans (hB.mono (by omega)))
          obtain ⟨oa, ol, oc, rfl⟩ := hm.out.slice
          by_cases hlt : k < kids.length
          · rcases h2 with h00 | ⟨bb, off, rfl, hbb, hk⟩
            · omega
            obtain ⟨cs, hcs, hexp⟩ := hk.get kids bb off k hlt
            obtain ⟨m1, m2, m3⟩ := HM2.out k hlt
            have m4 := HT2.out k hlt
            have m5 := HS3.out
            have hcall := gath_call s IH.out (.proc kids[k]) (by omega) (by omega) m2 m3 B u wr cs _ _ out bound n0 F0 _ (hu.trans ((Below.keptC hBw).mono hBl)) (by omega) hexp hm.out (HBS.out.later hBw) (by rw [sz_append]; omega) (by omega)
            obtain ⟨e0, he0⟩ : ∃ e, e = kids[k] := ⟨_, rfl⟩
            rw [← take_map Part.proc kids k hlt kids[k] rfl] at hcall
            rw [← he0] at hexp hcall
            clear m1 m2 m3 m4 m5 he0
            obtain ⟨oo, to, ao', do', ko⟩ := e0
            unfold TermAt at hexp
            obtain ⟨_, _, _, _, rfl, ⟨s0, t0, rfl, _⟩, ⟨s1, t1, rfl, _⟩, ⟨s2, t2, rfl, _⟩⟩ := hexp
            obtain ⟨c0, c1, c2, c3, c4⟩ := cells5 ((hcs.keep hu hbb).below hBw (by omega))
            clear hcs hk hm
            go_wp2_with (go_at_call 121; refine hcall.mono ?_; clear hcall; rintro e w5 ⟨v5, rfl, HG5, hb5⟩)
            go_roundw
            case rel => exact ⟨k + 1, by omega, by go_num, HG5, hB.trans (hb5.mono hB.size)⟩
            case measure => simp [intOf]; omega
          · obtain rfl : k = kids.length := by omega
            have hm2 := hm.out
            rw [List.take_length] at hm2
            obtain ⟨o2, g1, g2, g3, g4⟩ := hm2
            have HFIN := Lib.hid (show AddOut out F N w (.returned _) wr from ⟨_, o2, rfl, g1, g2, fun x => by rw [g3, HFF.out], by have := HS3.out; rw [sz_append] at g4; omega, hBw⟩)
            clear g1 g2 g3 g4 hm
            go_wp2
            go_ret
            exact HFIN.out

end Go.Proofs.YtjmlaeofjjhfmaaGreat
