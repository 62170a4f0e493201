/- The reference's free names: freeTerm at what is no TermDef. -/
import Derived.Test.YtjmlaeofjjhfmaaGreatF00
import Derived.Test.YtjmlaeofjjhfmaaGreatC45
import Derived.Test.YtjmlaeofjjhfmaaGreatC38
set_option linter.unusedVariables false
set_option linter.unusedSimpArgs false
namespace Go.Proofs.YtjmlaeofjjhfmaaGreat
open Go.RowKit Go.Shelf Go.Maps Go.Sort

set_option maxRecDepth 10000 in
set_option maxHeartbeats 8000000 in
theorem f_termN (s : Nat) (ih : FAt s) (op : Int) (ho4 : op ≠ 4) (text : ByteArray) (args : List Exp) (defs : List Clause) (kids : List Term) (hs : (Part.proc (.mk op text args defs kids)).size ≤ s + 1) (h60 : (Part.proc (.mk op text args defs kids)).size ≤ 60) (hsh : allSh (.proc (.mk op text args defs kids)) = true) (hag : agAll (.proc (.mk op text args defs kids)) = true)
    (B : Nat) (u w : World) (cs : List Value) (v vb : Value) (out bound : List ByteArray) (hu : KeptC B u w) (hBl : B ≤ w.heap.size) (hv : TermAt B u cs (.mk op text args defs kids)) (ho : OutAt w v out) (hb : StrsAt w.heap.size w vb bound) (hs0 : Srt out)
    (hl : out.length + (Part.proc (.mk op text args defs kids)).size ≤ 900) (hbl : bound.length + 300 * (Part.proc (.mk op text args defs kids)).size ≤ 30000) :
    Calls Tryz.prog 121 #[v, vb, .agg cs.toArray] w (AddOut out (fset (s + 1) bound (.proc (.mk op text args defs kids))) (Part.proc (.mk op text args defs kids)).size w) := by
  unfold TermAt at hv
  obtain ⟨hz, _, _, _, rfl, ⟨a0, p0, rfl, l0, h0⟩, ⟨a1, p1, rfl, l1, h1⟩, ⟨a2, p2, rfl, l2, h2⟩⟩ := hv
  have hss := size_sz (Part.proc (.mk op text args defs kids))
  simp only [Part.parts, sz_append] at hss
  have hshk := allSh_parts hsh
  have hagk := agAll_parts hag
  rw [allSh_eq, Bool.and_eq_true] at hsh
  have hsp := hsh.1
  simp only [Part.shaped, shapedTB, Bool.or_eq_true, Bool.and_eq_true, beq_iff_eq, decide_eq_true_eq] at hsp
  have hd0 : defs.length = 0 := by omega
  obtain rfl := List.eq_nil_of_length_eq_zero hd0
  clear hsp hsh hag hd0 h1
  obtain ⟨F, hF⟩ : ∃ F, F = fset (s + 1) bound (.proc (.mk op text args [] kids)) := ⟨_, rfl⟩
  obtain ⟨N, hN⟩ : ∃ N, N = (Part.proc (.mk op text args [] kids)).size := ⟨_, rfl⟩
  obtain ⟨F0, hF0⟩ : ∃ F0 : List UInt8 → Prop, F0 = fun k => (bytesOf text).isEmpty = false ∧ k = bytesOf text ∧ k ∉ bound.map bytesOf := ⟨_, rfl⟩
  have hFF : ∀ k, F k ↔ F0 k ∨ ((args.map Part.exp ++ kids.map Part.proc).any (fun q => freeN s q k) = true ∧ k ∉ bound.map bytesOf) := by
    intro k
    rw [hF, hF0]
    simp only [fset, freeN, Part.parts, bindsP, standsP, if_neg ho4, List.map_nil, List.append_nil, List.any_nil, Bool.not_false, Bool.and_true, Bool.or_eq_true, Bool.and_eq_true, Bool.not_eq_true', beq_iff_eq]
    constructor
    · rintro ⟨a | ⟨a, b⟩, d⟩
      · exact .inr ⟨a, d⟩
      · exact .inl ⟨a, b, d⟩
    · rintro (⟨a, b, d⟩ | ⟨a, d⟩)
      · exact ⟨.inr ⟨a, b⟩, d⟩
      · exact ⟨.inl a, d⟩
  rw [← hF, ← hN]
  rw [← hN] at hs h60 hl hbl hss
  obtain ⟨W1, hW1⟩ : ∃ W1, W1 = w.alloc (.cells #[.int .i64 op, .string text, .slice a0 args.length p0, .slice a1 0 p1, .slice a2 kids.length p2] 33) := ⟨_, rfl⟩
  have z1 : W1.heap.size = w.heap.size + 1 := by rw [hW1]; simp
  have b1 : Below w.heap.size w W1 := by rw [hW1]; exact (Below.refl _ w).alloc (Nat.le_refl _) _
  have cc : ∀ W, Below W1.heap.size W1 W → W.cell? ⟨w.heap.size, 0, none⟩ = some (.int .i64 op) ∧ W.cell? ⟨w.heap.size, 2, none⟩ = some (.slice a0 args.length p0) ∧ W.cell? ⟨w.heap.size, 3, none⟩ = some (.slice a1 0 p1) ∧ W.cell? ⟨w.heap.size, 4, none⟩ = some (.slice a2 kids.length p2) := fun W hW => by
    have e : ∀ o, W.cell? ⟨w.heap.size, o, none⟩ = W1.cell? ⟨w.heap.size, o, none⟩ := fun o => hW.cell (p := ⟨w.heap.size, o, none⟩) (by simp; omega)
    rw [e, e, e, e, hW1]
    simp only [World.cell?_alloc_at _ _ _ _ rfl]
    exact ⟨rfl, rfl, rfl, rfl⟩
  have hsz3 : sz (args.map Part.exp) + sz (kids.map Part.proc) + 1 ≤ N := by simp at hss; omega
  have hm1 : ∀ (k : Nat) (h : k < args.length), (Part.exp args[k]).size + 1 ≤ N ∧ allSh (.exp args[k]) = true ∧ agAll (.exp args[k]) = true := fun k h =>
    ⟨by have := sz_mem Part.exp h; omega, hshk _ (by simp only [Part.parts]; exact List.mem_append.2 (.inl (List.mem_append.2 (.inl (List.mem_map.2 ⟨_, List.getElem_mem h, rfl⟩))))), agAll_exp _⟩
  have hm2 : ∀ (k : Nat) (h : k < kids.length), (Part.proc kids[k]).size + 1 ≤ N ∧ allSh (.proc kids[k]) = true ∧ agAll (.proc kids[k]) = true := fun k h =>
    ⟨by have := sz_mem Part.proc h; omega, hshk _ (by simp only [Part.parts]; exact List.mem_append.2 (.inr (List.mem_map.2 ⟨_, List.getElem_mem h, rfl⟩))), hagk _ (by simp only [Part.parts]; exact List.mem_append.2 (.inr (List.mem_map.2 ⟨_, List.getElem_mem h, rfl⟩)))⟩
  have hst1 : ∀ (k : Nat) (h : k < args.length), sz ((args.take k).map Part.exp) + (Part.exp args[k]).size ≤ sz (args.map Part.exp) := fun k h => by have := sz_take Part.exp args k h; have := sz_le Part.exp args (k + 1); omega
  have hst2 : ∀ (k : Nat) (h : k < kids.length), sz ((kids.take k).map Part.proc) + (Part.proc kids[k]).size ≤ sz (kids.map Part.proc) := fun k h => by have := sz_take Part.proc kids k h; have := sz_le Part.proc kids (k + 1); omega
  have HW := Lib.hid hW1; have HC := Lib.hid cc; have HFF := Lib.hid hFF; have HM1 := Lib.hid hm1; have HM2 := Lib.hid hm2; have HT1 := Lib.hid hst1; have HT2 := Lib.hid hst2; have HBS := Lib.hid hb; have HS3 := Lib.hid hsz3; have IH := Lib.hid ih
  have HO := Lib.hid ho; have HS0 := Lib.hid hs0; have HF0 := Lib.hid hF0
  obtain ⟨ab, cb, rfl, _⟩ := hb
  obtain ⟨ao, co, rfl, _⟩ := ho.strs
  obtain ⟨x0, x2, x3, x4⟩ := HC.out W1 (Below.refl _ _)
  rw [HW.out] at x0 x2 x3 x4
  have ho4' : (op == 4) = false := by simpa using ho4
  clear hF hFF hm1 hm2 hst1 hst2 hW1 cc hN hshk hagk hsz3 hss hs0 ho ih hF0 ho4
  by_cases ht0 : text.size = 0
  · obtain rfl := empty_of_size ht0
    clear ht0
    obtain ⟨n0, hn0⟩ : ∃ n : Nat, n = 0 := ⟨_, rfl⟩
    have hn1 : n0 ≤ 1 := by omega
    have hz11 : W1.heap.size ≤ W1.heap.size := Nat.le_refl _
    have HGD := Lib.hid (show Gath s out bound n0 F0 (([] : List Part) ++ (args.take 0).map .exp) _ W1 from by
      obtain ⟨o2, g1, g2, g3, g4⟩ := (Gath.nil (s := s) (bound := bound) HO.out HS0.out).later b1
      refine ⟨o2, g1, g2, fun x => ?_, by rw [hn0]; simpa using g4⟩
      rw [g3, HF0.out]
      have e : (bytesOf ByteArray.empty).isEmpty = true := rfl
      simp [e])
    have HBD : Below W1.heap.size W1 W1 := Below.refl _ _
    have BWx := Lib.hid HBD
    clear hn0
    go_enter Tryz.func121, Tryz.ntmps121
    go_wp2
    rw [← HW.out]
    go_loopw [0, 7] (fun vo i wr => ∃ (k : Nat), k ≤ args.length ∧ i = .int .i64 k ∧ Hid (Gath s out bound n0 F0 (([] : List Part) ++ (args.take k).map .exp) vo wr) ∧ Below W1.heap.size W1 wr) (fun _ i _ => args.length - (intOf i).toNat)
    case atStart => exact ⟨0, by omega, rfl, HGD, HBD⟩
    case round =>
      obtain ⟨k, hk', rfl, hm, hB⟩ := hrel
      have hBw := b1.trans (hB.mono (by omega))
      have hBz := hBw.size
      obtain ⟨z0, z2, z3, z4⟩ := HC.out _ (BWx.out.trans (hB.mono (by omega)))
      obtain ⟨oa, ol, oc, rfl⟩ := hm.out.slice
      by_cases hlt : k < args.length
      · rcases h0 with h00 | ⟨bb, off, rfl, hbb, hk⟩
        · omega
        obtain ⟨cs, hcs, hexp⟩ := hk.get args bb off k hlt
        obtain ⟨m1, m2, m3⟩ := HM1.out k hlt
        have m4 := HT1.out k hlt
        have m5 := HS3.out
        have hcall := gath_call s IH.out (.exp args[k]) (by omega) (by omega) m2 m3 B u wr cs _ _ out bound n0 F0 _ (hu.trans ((Below.keptC hBw).mono hBl)) (by omega) hexp hm.out (HBS.out.later hBw) (by rw [List.nil_append]; omega) (by omega)
        obtain ⟨e0, he0⟩ : ∃ e, e = args[k] := ⟨_, rfl⟩
        rw [← take_map Part.exp args k hlt args[k] rfl] at hcall
        rw [← he0] at hexp hcall
        clear m1 m2 m3 m4 m5 he0
        obtain ⟨oo, no, to, ko⟩ := e0
        unfold ExpAt at hexp
        obtain ⟨_, _, rfl, s0, t0, rfl, _⟩ := hexp
        obtain ⟨c0, c1, c2, c3⟩ := cells4 ((hcs.keep hu hbb).below hBw (by omega))
        clear hcs hk hm
        go_wp2_with (go_at_call 91; refine hcall.mono ?_; clear hcall; rintro e w5 ⟨v5, rfl, HG5, hb5⟩)
        go_roundw
        case rel => exact ⟨k + 1, by omega, by go_num, HG5, hB.trans (hb5.mono hB.size)⟩
        case measure => simp [intOf]; omega
      · obtain rfl : k = args.length := by omega
        have hm2 := hm.out
        rw [List.take_length, List.nil_append] at hm2
        have HGA := Lib.hid (show Gath s out bound n0 F0 (args.map .exp ++ (kids.take 0).map .proc) _ wr from by simpa using hm2)
        obtain ⟨wa, hwa⟩ : ∃ wa : World, wa = wr := ⟨_, rfl⟩
        subst hwa
        have HBA := hB
        clear hm hm2 hB hBw hBz
        go_wp2
        refine wp_loop_rounds 1 ?_
        rw [rounds_succ]
        go_wp2
        go_loopw [0, 9] (fun vo i wr => ∃ (k : Nat), k ≤ kids.length ∧ i = .int .i64 k ∧ Hid (Gath s out bound n0 F0 (args.map .exp ++ (kids.take k).map .proc) vo wr) ∧ Below W1.heap.size W1 wr) (fun _ i _ => kids.length - (intOf i).toNat)
        case atStart => exact ⟨0, by omega, rfl, HGA, HBA⟩
        case round =>
          obtain ⟨k, hk', rfl, hm, hB⟩ := hrel
          have hBw := b1.trans (hB.mono (by omega))
          have hBz := hBw.size
          obtain ⟨z0, z2, z3, z4⟩ := HC.out _ (BWx.out.trans (hB.mono (by omega)))
          obtain ⟨oa, ol, oc, rfl⟩ := hm.out.slice
          by_cases hlt : k < kids.length
          · rcases h2 with h00 | ⟨bb, off, rfl, hbb, hk⟩
            · omega
            obtain ⟨cs, hcs, hexp⟩ := hk.get kids bb off k hlt
            obtain ⟨m1, m2, m3⟩ := HM2.out k hlt
            have m4 := HT2.out k hlt
            have m5 := HS3.out
            have hcall := gath_call s IH.out (.proc kids[k]) (by omega) (by omega) m2 m3 B u wr cs _ _ out bound n0 F0 _ (hu.trans ((Below.keptC hBw).mono hBl)) (by omega) hexp hm.out (HBS.out.later hBw) (by rw [sz_append]; omega) (by omega)
            obtain ⟨e0, he0⟩ : ∃ e, e = kids[k] := ⟨_, rfl⟩
            rw [← take_map Part.proc kids k hlt kids[k] rfl] at hcall
            rw [← he0] at hexp hcall
            clear m1 m2 m3 m4 m5 he0
            obtain ⟨oo, to, ao', do', ko⟩ := e0
            unfold TermAt at hexp
            obtain ⟨_, _, _, _, rfl, ⟨s0, t0, rfl, _⟩, ⟨s1, t1, rfl, _⟩, ⟨s2, t2, rfl, _⟩⟩ := hexp
            obtain ⟨c0, c1, c2, c3, c4⟩ := cells5 ((hcs.keep hu hbb).below hBw (by omega))
            clear hcs hk hm
            go_wp2_with (go_at_call 121; refine hcall.mono ?_; clear hcall; rintro e w5 ⟨v5, rfl, HG5, hb5⟩)
            go_roundw
            case rel => exact ⟨k + 1, by omega, by go_num, HG5, hB.trans (hb5.mono hB.size)⟩
            case measure => simp [intOf]; omega
          · obtain rfl : k = kids.length := by omega
            have hm2 := hm.out
            rw [List.take_length] at hm2
            obtain ⟨o2, g1, g2, g3, g4⟩ := hm2
            have HFIN := Lib.hid (show AddOut out F N w (.returned _) wr from ⟨_, o2, rfl, g1, g2, fun x => by rw [g3, HFF.out], by have := HS3.out; rw [sz_append] at g4; omega, hBw⟩)
            clear g1 g2 g3 g4 hm
            go_wp2
            go_ret
            exact HFIN.out
  · have hne : (bytesOf text).isEmpty = false := by
      cases hh : bytesOf text with
      | nil => exact absurd (bytes_nil text hh) ht0
      | cons a l => rfl
    have hpr := put_ref _ _ out bound text W1 (HO.out.later b1) (HBS.out.later b1) hz HS0.out (by omega)
    have hF2 : (fun k => k = bytesOf text ∧ k ∉ bound.map bytesOf) = F0 := by rw [HF0.out]; funext k; simp [hne]
    rw [hF2] at hpr
    have htn : (text.toList == []) = false := by
      cases hh : text.toList with
      | nil => exact absurd ((toList_nil text).1 hh) ht0
      | cons a l => rfl
    have htn2 : ¬ text.toList = [] := fun h => ht0 ((toList_nil text).1 h)
    obtain ⟨n0, hn0⟩ : ∃ n : Nat, n = 1 := ⟨_, rfl⟩
    have hn1 : n0 ≤ 1 := by omega
    have hpr2 := hpr.mono (fun e w' h => Gath.put (s := s) (bound := bound) h)
    have HK : ∀ e w2, (∃ v, e = Ending.returned v ∧ Gath s out bound 1 F0 [] v w2 ∧ Below W1.heap.size W1 w2) → ∃ v, e = Ending.returned v ∧ Hid (Gath s out bound n0 F0 (([] : List Part) ++ (args.take 0).map .exp) v w2) ∧ Below W1.heap.size W1 w2 := fun e w2 ⟨v, h1, h2, h3⟩ => ⟨v, h1, Lib.hid (by rw [hn0]; simpa using h2), h3⟩
    have hpr3 := hpr2.mono HK
    clear hpr hpr2 HK hF2 hn0 ht0 hne
    go_enter Tryz.func121, Tryz.ntmps121
    go_wp2_with (go_at_call 143; rw [← HW.out]; refine hpr3.mono ?_; clear hpr3; rintro e w3 ⟨v3, rfl, HGD, hb13⟩; obtain ⟨oa3, ol3, oc3, rfl⟩ := HGD.out.slice; obtain ⟨y0, y2, y3, y4⟩ := HC.out w3 hb13)
    have hz13 := hb13.size
    have hbw3 := b1.trans (hb13.mono (by omega))
    have HBD : Below w3.heap.size w3 w3 := Below.refl _ _
    have BWx := Lib.hid hb13
    go_loopw [0, 7] (fun vo i wr => ∃ (k : Nat), k ≤ args.length ∧ i = .int .i64 k ∧ Hid (Gath s out bound n0 F0 (([] : List Part) ++ (args.take k).map .exp) vo wr) ∧ Below w3.heap.size w3 wr) (fun _ i _ => args.length - (intOf i).toNat)
    case atStart => exact ⟨0, by omega, rfl, HGD, HBD⟩
    case round =>
      obtain ⟨k, hk', rfl, hm, hB⟩ := hrel
      have hBw := hbw3.trans (hB.mono (by omega))
      have hBz := hBw.size
      obtain ⟨z0, z2, z3, z4⟩ := HC.out _ (BWx.out.trans (hB.mono (by omega)))
      obtain ⟨oa, ol, oc, rfl⟩ := hm.out.slice
      by_cases hlt : k < args.length
      · rcases h0 with h00 | ⟨bb, off, rfl, hbb, hk⟩
        · omega
        obtain ⟨cs, hcs, hexp⟩ := hk.get args bb off k hlt
        obtain ⟨m1, m2, m3⟩ := HM1.out k hlt
        have m4 := HT1.out k hlt
        have m5 := HS3.out
        have hcall := gath_call s IH.out (.exp args[k]) (by omega) (by omega) m2 m3 B u wr cs _ _ out bound n0 F0 _ (hu.trans ((Below.keptC hBw).mono hBl)) (by omega) hexp hm.out (HBS.out.later hBw) (by rw [List.nil_append]; omega) (by omega)
        obtain ⟨e0, he0⟩ : ∃ e, e = args[k] := ⟨_, rfl⟩
        rw [← take_map Part.exp args k hlt args[k] rfl] at hcall
        rw [← he0] at hexp hcall
        clear m1 m2 m3 m4 m5 he0
        obtain ⟨oo, no, to, ko⟩ := e0
        unfold ExpAt at hexp
        obtain ⟨_, _, rfl, s0, t0, rfl, _⟩ := hexp
        obtain ⟨c0, c1, c2, c3⟩ := cells4 ((hcs.keep hu hbb).below hBw (by omega))
        clear hcs hk hm
        go_wp2_with (go_at_call 91; refine hcall.mono ?_; clear hcall; rintro e w5 ⟨v5, rfl, HG5, hb5⟩)
        go_roundw
        case rel => exact ⟨k + 1, by omega, by go_num, HG5, hB.trans (hb5.mono hB.size)⟩
        case measure => simp [intOf]; omega
      · obtain rfl : k = args.length := by omega
        have hm2 := hm.out
        rw [List.take_length, List.nil_append] at hm2
        have HGA := Lib.hid (show Gath s out bound n0 F0 (args.map .exp ++ (kids.take 0).map .proc) _ wr from by simpa using hm2)
        obtain ⟨wa, hwa⟩ : ∃ wa : World, wa = wr := ⟨_, rfl⟩
        subst hwa
        have HBA := hB
        clear hm hm2 hB hBw hBz
        go_wp2
        refine wp_loop_rounds 1 ?_
        rw [rounds_succ]
        go_wp2
        go_loopw [0, 9] (fun vo i wr => ∃ (k : Nat), k ≤ kids.length ∧ i = .int .i64 k ∧ Hid (Gath s out bound n0 F0 (args.map .exp ++ (kids.take k).map .proc) vo wr) ∧ Below w3.heap.size w3 wr) (fun _ i _ => kids.length - (intOf i).toNat)
        case atStart => exact ⟨0, by omega, rfl, HGA, HBA⟩
        case round =>
          obtain ⟨k, hk', rfl, hm, hB⟩ := hrel
          have hBw := hbw3.trans (hB.mono (by omega))
          have hBz := hBw.size
          obtain ⟨z0, z2, z3, z4⟩ := HC.out _ (BWx.out.trans (hB.mono (by omega)))
          obtain ⟨oa, ol, oc, rfl⟩ := hm.out.slice
          by_cases hlt : k < kids.length
          · rcases h2 with h00 | ⟨bb, off, rfl, hbb, hk⟩
            · omega
            obtain ⟨cs, hcs, hexp⟩ := hk.get kids bb off k hlt
            obtain ⟨m1, m2, m3⟩ := HM2.out k hlt
            have m4 := HT2.out k hlt
            have m5 := HS3.out
            have hcall := gath_call s IH.out (.proc kids[k]) (by omega) (by omega) m2 m3 B u wr cs _ _ out bound n0 F0 _ (hu.trans ((Below.keptC hBw).mono hBl)) (by omega) hexp hm.out (HBS.out.later hBw) (by rw [sz_append]; omega) (by omega)
            obtain ⟨e0, he0⟩ : ∃ e, e = kids[k] := ⟨_, rfl⟩
            rw [← take_map Part.proc kids k hlt kids[k] rfl] at hcall
            rw [← he0] at hexp hcall
            clear m1 m2 m3 m4 m5 he0
            obtain ⟨oo, to, ao', do', ko⟩ := e0
            unfold TermAt at hexp
            obtain ⟨_, _, _, _, rfl, ⟨s0, t0, rfl, _⟩, ⟨s1, t1, rfl, _⟩, ⟨s2, t2, rfl, _⟩⟩ := hexp
            obtain ⟨c0, c1, c2, c3, c4⟩ := cells5 ((hcs.keep hu hbb).below hBw (by omega))
            clear hcs hk hm
            go_wp2_with (go_at_call 121; refine hcall.mono ?_; clear hcall; rintro e w5 ⟨v5, rfl, HG5, hb5⟩)
            go_roundw
            case rel => exact ⟨k + 1, by omega, by go_num, HG5, hB.trans (hb5.mono hB.size)⟩
            case measure => simp [intOf]; omega
          · obtain rfl : k = kids.length := by omega
            have hm2 := hm.out
            rw [List.take_length] at hm2
            obtain ⟨o2, g1, g2, g3, g4⟩ := hm2
            have HFIN := Lib.hid (show AddOut out F N w (.returned _) wr from ⟨_, o2, rfl, g1, g2, fun x => by rw [g3, HFF.out], by have := HS3.out; rw [sz_append] at g4; omega, hBw⟩)
            clear g1 g2 g3 g4 hm
            go_wp2
            go_ret
            exact HFIN.out

end Go.Proofs.YtjmlaeofjjhfmaaGreat
/- The reference's free names: freeClause; all together. -/
namespace Go.Proofs.YtjmlaeofjjhfmaaGreat
open Go.RowKit Go.Shelf Go.Maps Go.Sort

set_option maxRecDepth 10000 in
set_option maxHeartbeats 8000000 in
theorem f_clause (s : Nat) (ih : FAt s) (form : Int) (text : ByteArray) (joins : List Msg) (defs : List Clause) (kids : List Term) (hs : (Part.def_ (.mk form text joins defs kids)).size ≤ s + 1) (h60 : (Part.def_ (.mk form text joins defs kids)).size ≤ 60) (hsh : allSh (Part.def_ (.mk form text joins defs kids)) = true) (hag : agAll (Part.def_ (.mk form text joins defs kids)) = true)
    (B : Nat) (u w : World) (cs : List Value) (v vb : Value) (out bound : List ByteArray) (hu : KeptC B u w) (hBl : B ≤ w.heap.size) (hv : ClauseAt B u cs (.mk form text joins defs kids)) (ho : OutAt w v out) (hb : StrsAt w.heap.size w vb bound) (hs0 : Srt out)
    (hl : out.length + (Part.def_ (.mk form text joins defs kids)).size ≤ 900) (hbl : bound.length + 300 * (Part.def_ (.mk form text joins defs kids)).size ≤ 30000) :
    Calls Tryz.prog 163 #[v, vb, .agg cs.toArray] w (AddOut out (fset (s + 1) bound (Part.def_ (.mk form text joins defs kids))) (Part.def_ (.mk form text joins defs kids)).size w) := by
  unfold ClauseAt at hv
  obtain ⟨hz, _, _, _, rfl, ⟨a0, p0, rfl, l0, h0⟩, ⟨a1, p1, rfl, l1, h1⟩, ⟨a2, p2, rfl, l2, h2⟩⟩ := hv
  have hss := size_sz (Part.def_ (.mk form text joins defs kids))
  simp only [Part.parts, sz_append] at hss
  have hshk := allSh_parts hsh
  have hagk := agAll_parts hag
  rw [allSh_eq, Bool.and_eq_true] at hsh
  have hsp := hsh.1
  simp only [Part.shaped, shapedCB, Bool.or_eq_true, Bool.and_eq_true, beq_iff_eq, decide_eq_true_eq] at hsp
  have hk1 : kids.length = 1 := by rcases hsp with ⟨_, h⟩ | ⟨_, h⟩ <;> exact h
  have hnn : (namesL joins).length ≤ 9 ∧ joins.length ≤ 3 := by
    rcases hsp with ⟨⟨⟨_, h⟩, _⟩, _⟩ | ⟨⟨⟨_, h⟩, _⟩, _⟩
    · unfold joinedB at h
      simp only [Bool.and_eq_true, decide_eq_true_eq, List.all_eq_true] at h
      obtain ⟨⟨⟨⟨q1, q2⟩, q3⟩, q4⟩, q5⟩ := h
      have : ∀ l : List Msg, (∀ x ∈ l, x.names.length ≤ 3) → (namesL l).length ≤ 3 * l.length := by
        intro l
        induction l with
        | nil => intro _; simp [namesL]
        | cons a l ih =>
          intro hl
          have e : namesL (a :: l) = a.names ++ namesL l := by simp [namesL]
          have h1 := hl a (by simp)
          have h2 := ih (fun x hx => hl x (by simp [hx]))
          rw [e, List.length_append, List.length_cons]; omega
      have := this joins q3
      omega
    · rw [List.eq_nil_of_length_eq_zero h]; simp [namesL]
  have hdj : defs = [] ∨ joins = [] := by
    rcases hsp with ⟨⟨_, h⟩, _⟩ | ⟨⟨⟨_, h⟩, _⟩, _⟩
    · exact .inl (List.eq_nil_of_length_eq_zero h)
    · exact .inr (List.eq_nil_of_length_eq_zero h)
  obtain ⟨q, rfl⟩ : ∃ q, kids = [q] := List.length_eq_one_iff.1 hk1
  clear hsp hsh hag hk1
  obtain ⟨F, hF⟩ : ∃ F, F = fset (s + 1) bound (.def_ (.mk form text joins defs [q])) := ⟨_, rfl⟩
  obtain ⟨N, hN⟩ : ∃ N, N = (Part.def_ (.mk form text joins defs [q])).size := ⟨_, rfl⟩
  have hFF : ∀ k, F k ↔ ((defs.map Part.def_).any (fun q => freeN s q k) = true ∧ k ∉ bound.map bytesOf) ∨ fset s (bound ++ namesL joins) (.proc q) k := by
    intro k
    rw [hF]
    have e : (bytesOf ByteArray.empty).isEmpty = true := rfl
    have e2 : ((joins.flatMap (·.names)).any fun b => k == bytesOf b) = false ↔ k ∉ (namesL joins).map bytesOf := by
      rw [← Bool.not_eq_true, List.any_eq_true]
      simp only [List.mem_map, beq_iff_eq]
      constructor
      · rintro h ⟨x, hx, rfl⟩; exact h ⟨x, hx, rfl⟩
      · rintro h ⟨x, hx, e⟩; exact h ⟨x, hx, e.symm⟩
    simp only [fset, freeN, Part.parts, bindsP, standsP, e, Bool.not_true, Bool.false_and, Bool.or_false, Bool.and_eq_true, Bool.not_eq_true', List.map_append, List.mem_append, not_or, List.any_append, Bool.or_eq_true, List.map_cons, List.map_nil, List.any_cons, List.any_nil, e2]
    rcases hdj with rfl | rfl
    · simp only [List.map_nil, List.any_nil, Bool.false_eq_true, false_or, false_and]
      constructor
      · rintro ⟨⟨a, b⟩, c⟩; exact ⟨a, c, b⟩
      · rintro ⟨a, c, b⟩; exact ⟨⟨a, b⟩, c⟩
    · simp only [namesL, List.flatMap_nil, List.map_nil, List.not_mem_nil, not_false_eq_true, and_true]
      constructor
      · rintro ⟨a | a, c⟩
        · exact .inl ⟨a, c⟩
        · exact .inr ⟨a, c⟩
      · rintro (⟨a, c⟩ | ⟨a, c⟩)
        · exact ⟨.inl a, c⟩
        · exact ⟨.inr a, c⟩
  rw [← hF, ← hN]
  rw [← hN] at hs h60 hl hbl hss
  obtain ⟨W1, hW1⟩ : ∃ W1, W1 = w.alloc (.cells #[.int .i64 form, .string text, .slice a0 joins.length p0, .slice a1 defs.length p1, .slice a2 1 p2] 130) := ⟨_, rfl⟩
  have z1 : W1.heap.size = w.heap.size + 1 := by rw [hW1]; simp
  have b1 : Below w.heap.size w W1 := by rw [hW1]; exact (Below.refl _ w).alloc (Nat.le_refl _) _
  have cc : ∀ W, Below W1.heap.size W1 W → W.cell? ⟨w.heap.size, 2, none⟩ = some (.slice a0 joins.length p0) ∧ W.cell? ⟨w.heap.size, 3, none⟩ = some (.slice a1 defs.length p1) ∧ W.cell? ⟨w.heap.size, 4, none⟩ = some (.slice a2 1 p2) := fun W hW => by
    have e : ∀ o, W.cell? ⟨w.heap.size, o, none⟩ = W1.cell? ⟨w.heap.size, o, none⟩ := fun o => hW.cell (p := ⟨w.heap.size, o, none⟩) (by simp; omega)
    rw [e, e, e, hW1]
    simp only [World.cell?_alloc_at _ _ _ _ rfl]
    exact ⟨rfl, rfl, rfl⟩
  have hsq := sz_one (.proc q)
  have hsz3 : sz (defs.map Part.def_) + (Part.proc q).size + 1 ≤ N := by simp [sz_one] at hss; omega
  have hm1 : ∀ (k : Nat) (h : k < defs.length), (Part.def_ defs[k]).size + 1 ≤ N ∧ allSh (.def_ defs[k]) = true ∧ agAll (.def_ defs[k]) = true := fun k h =>
    ⟨by have := sz_mem Part.def_ h; omega, hshk _ (by simp only [Part.parts]; exact List.mem_append.2 (.inl (List.mem_map.2 ⟨_, List.getElem_mem h, rfl⟩))), hagk _ (by simp only [Part.parts]; exact List.mem_append.2 (.inl (List.mem_map.2 ⟨_, List.getElem_mem h, rfl⟩)))⟩
  have hq1 : allSh (.proc q) = true := hshk _ (by simp [Part.parts])
  have hq2 : agAll (.proc q) = true := hagk _ (by simp [Part.parts])
  have hst1 : ∀ (k : Nat) (h : k < defs.length), sz ((defs.take k).map Part.def_) + (Part.def_ defs[k]).size ≤ sz (defs.map Part.def_) := fun k h => by have := sz_take Part.def_ defs k h; have := sz_le Part.def_ defs (k + 1); omega
  -- the kid
  rcases h2 with h00 | ⟨kb, koff, rfl, hkb, hkk⟩
  · simp at h00
  obtain ⟨kcs, hkcs, hkt⟩ := hkk.get [q] kb koff 0 (by simp)
  simp only [Nat.zero_mul, Nat.add_zero, List.getElem_cons_zero] at hkcs hkt
  have hkc : ∀ W, Below w.heap.size w W → CellsAt W kb koff kcs := fun W hW => (hkcs.keep hu hkb).below hW (by omega)
  have hna := fun W (h1 : KeptC B u W) (h2 : B ≤ W.heap.size) => names_any B u joins a0 p0 W h1 h2 (by omega) h0 (by omega)
  have hba := fun W (h : Below w.heap.size w W) r (hr : OutAt W r (namesL joins)) => both_any vb r bound (namesL joins) W (hb.later h) hr.strs (by omega) (by omega)
  have hta := fun W (h : Below w.heap.size w W) vo o2 vb2 (h1 : OutAt W vo o2) (h2 : StrsAt W.heap.size W vb2 (bound ++ namesL joins)) (h3 : Srt o2) (h4 : o2.length ≤ out.length + 0 + sz (defs.map Part.def_)) =>
    ih (.proc q) (by omega) (by omega) hq1 hq2 B u W kcs vo vb2 o2 (bound ++ namesL joins) (hu.trans ((Below.keptC h).mono hBl)) (by have := h.size; omega) hkt h1 h2 h3 (by omega) (by rw [List.length_append]; omega)
  have hG0 := (Gath.nil (s := s) (bound := bound) ho hs0).later b1
  have HGD := Lib.hid (show Gath s out bound 0 (fun _ => False) (([] : List Part) ++ (defs.take 0).map .def_) v W1 from by simpa using hG0)
  have HW := Lib.hid hW1; have HC := Lib.hid cc; have HFF := Lib.hid hFF; have HM1 := Lib.hid hm1; have HT1 := Lib.hid hst1; have HBS := Lib.hid hb; have HS3 := Lib.hid hsz3; have IH := Lib.hid ih
  have HNA := Lib.hid hna; have HBA2 := Lib.hid hba; have HTA := Lib.hid hta; have HKC := Lib.hid hkc
  obtain ⟨ab, cb, rfl, _⟩ := hb
  obtain ⟨ao, co, rfl, _⟩ := ho.strs
  obtain ⟨x2, x3, x4⟩ := HC.out W1 (Below.refl _ _)
  rw [HW.out] at x2 x3 x4
  have HBD : Below W1.heap.size W1 W1 := Below.refl _ _
  have hkt' := hkt
  obtain ⟨qo, qt, qa, qd, qk⟩ := q
  unfold TermAt at hkt'
  obtain ⟨_, _, _, _, rfl, ⟨z0', v0', rfl, _⟩, ⟨z1', v1', rfl, _⟩, ⟨z2', v2', rfl, _⟩⟩ := hkt'
  clear hF hFF hm1 hst1 hW1 cc hN hshk hagk hsz3 hss hs0 ho ih hG0 hna hba hta hkc hkcs hkk hkt hq1 hq2 hsq hdj
  go_enter Tryz.func163, Tryz.ntmps163
  go_wp2
  rw [← HW.out]
  go_loopw [0, 7] (fun vo i wr => ∃ (k : Nat), k ≤ defs.length ∧ i = .int .i64 k ∧ Hid (Gath s out bound 0 (fun _ => False) (([] : List Part) ++ (defs.take k).map .def_) vo wr) ∧ Below W1.heap.size W1 wr) (fun _ i _ => defs.length - (intOf i).toNat)
  case atStart => exact ⟨0, by omega, rfl, HGD, HBD⟩
  case round =>
    obtain ⟨k, hk', rfl, hm, hB⟩ := hrel
    have hBw := b1.trans (hB.mono (by omega))
    have hBz := hBw.size
    obtain ⟨z2, z3, z4⟩ := HC.out _ hB
    obtain ⟨oa, ol, oc, rfl⟩ := hm.out.slice
    by_cases hlt : k < defs.length
    · rcases h1 with h00 | ⟨bb, off, rfl, hbb, hk⟩
      · omega
      obtain ⟨cs, hcs, hexp⟩ := hk.get defs bb off k hlt
      obtain ⟨m1, m2, m3⟩ := HM1.out k hlt
      have m4 := HT1.out k hlt
      have m5 := HS3.out
      have hcall := gath_call s IH.out (.def_ defs[k]) (by omega) (by omega) m2 m3 B u wr cs _ _ out bound 0 (fun _ => False) _ (hu.trans ((Below.keptC hBw).mono hBl)) (by omega) hexp hm.out (HBS.out.later hBw) (by rw [List.nil_append]; omega) (by omega)
      obtain ⟨e0, he0⟩ : ∃ e, e = defs[k] := ⟨_, rfl⟩
      rw [← take_map Part.def_ defs k hlt defs[k] rfl] at hcall
      rw [← he0] at hexp hcall
      clear m1 m2 m3 m4 m5 he0
      obtain ⟨oo, to, jo, do', ko⟩ := e0
      unfold ClauseAt at hexp
      obtain ⟨_, _, _, _, rfl, ⟨s0, t0, rfl, _⟩, ⟨s1, t1, rfl, _⟩, ⟨s2, t2, rfl, _⟩⟩ := hexp
      obtain ⟨c0, c1, c2, c3, c4⟩ := cells5 ((hcs.keep hu hbb).below hBw (by omega))
      clear hcs hk hm
      go_wp2_with (go_at_call 163; refine hcall.mono ?_; clear hcall; rintro e w5 ⟨v5, rfl, HG5, hb5⟩)
      go_roundw
      case rel => exact ⟨k + 1, by omega, by go_num, HG5, hB.trans (hb5.mono hB.size)⟩
      case measure => simp [intOf]; omega
    · obtain rfl : k = defs.length := by omega
      have hm2 := hm.out
      rw [List.take_length, List.nil_append] at hm2
      obtain ⟨o2, g1, g2, g3, g4⟩ := hm2
      obtain ⟨G, hG⟩ : ∃ G : World → Prop, G = fun W => Below wr.heap.size wr W := ⟨_, rfl⟩
      have hGB : ∀ W, G W → Below w.heap.size w W ∧ KeptC B u W ∧ B ≤ W.heap.size ∧ Below W1.heap.size W1 W ∧ OutAt W (Value.slice oa ol oc) o2 := fun W h => by
        rw [hG] at h
        have hb := hBw.trans (h.mono (by omega))
        exact ⟨hb, hu.trans ((Below.keptC hb).mono hBl), by have := hb.size; omega, hB.trans (h.mono hB.size), g1.later h⟩
      have hGm : ∀ W W', G W → Below W.heap.size W W' → G W' := fun W W' h k => by rw [hG] at h ⊢; exact h.trans (k.mono h.size)
      have J170 : ∀ W, G W → Calls Tryz.prog 170 #[.slice a0 joins.length p0] W fun e w' => ∃ r, e = .returned r ∧ OutAt w' r (namesL joins) ∧ G w' := fun W h =>
        (HNA.out W (hGB W h).2.1 (hGB W h).2.2.1).mono fun e w' ⟨r, e1, e2, e3⟩ => ⟨r, e1, e2, hGm W w' h e3⟩
      have J79 : ∀ W r, G W → OutAt W r (namesL joins) → Calls Tryz.prog 79 #[.slice ab bound.length cb, r] W fun e w' => ∃ r2, e = .returned r2 ∧ Hid (StrsAt w'.heap.size w' r2 (bound ++ namesL joins)) ∧ G w' := fun W r h hr =>
        (HBA2.out W (hGB W h).1 r hr).mono fun e w' ⟨r2, e1, e2, e3⟩ => ⟨r2, e1, Lib.hid e2.strs, hGm W w' h e3⟩
      have J121 : ∀ W r2, G W → Hid (StrsAt W.heap.size W r2 (bound ++ namesL joins)) → Calls Tryz.prog 121 #[.slice oa ol oc, r2, .agg #[.int .i64 qo, .string qt, .slice z0' qa.length v0', .slice z1' qd.length v1', .slice z2' qk.length v2']] W fun e w' => ∃ r3, e = .returned r3 ∧ Hid (AddOut out F N w (.returned r3) w') ∧ G w' := fun W r2 h hr => by
        refine (HTA.out W (hGB W h).1 _ o2 r2 (hGB W h).2.2.2.2 hr.out g2 g4).mono ?_
        rintro e w' ⟨r3, o3, rfl, e1, e2, e3, e4, e5⟩
        refine ⟨r3, rfl, Lib.hid ⟨r3, o3, rfl, e1, e2, fun x => ?_, by have := HS3.out; omega, (hGB W h).1.trans (e5.mono (hGB W h).1.size)⟩, hGm W w' h e5⟩
        rw [e3, g3, HFF.out]
        simp only [false_or, or_assoc]
      have hrd : ∀ W, G W → (W.cell? ⟨w.heap.size, 2, none⟩ = some (.slice a0 joins.length p0) ∧ W.cell? ⟨w.heap.size, 4, none⟩ = some (.slice (some ⟨kb, koff, none⟩) 1 p2)) ∧
          (W.cell? ⟨kb, koff, none⟩ = some (.int .i64 qo) ∧ W.cell? ⟨kb, koff + 1, none⟩ = some (.string qt) ∧ W.cell? ⟨kb, koff + 2, none⟩ = some (.slice z0' qa.length v0') ∧ W.cell? ⟨kb, koff + 3, none⟩ = some (.slice z1' qd.length v1') ∧ W.cell? ⟨kb, koff + 4, none⟩ = some (.slice z2' qk.length v2')) := fun W h => by
        obtain ⟨q1, q2, q3⟩ := HC.out W (hGB W h).2.2.2.1
        exact ⟨⟨q1, q3⟩, cells5 (HKC.out W (hGB W h).1)⟩
      have g0 : G wr.drew := by rw [hG]; exact (Below.refl _ _).drew
      obtain ⟨⟨r2', r4'⟩, r5', r6', r7', r8', r9'⟩ := hrd _ g0
      clear hG hGB hGm hm hB hBw hBz g1 g2 g3 g4
      go_wp2
      go_region_held3 (fun W => W.cell? ⟨w.heap.size, 2, none⟩ = some (.slice a0 joins.length p0) ∧ W.cell? ⟨w.heap.size, 4, none⟩ = some (.slice (some ⟨kb, koff, none⟩) 1 p2) ∧
          W.cell? ⟨kb, koff, none⟩ = some (.int .i64 qo) ∧ W.cell? ⟨kb, koff + 1, none⟩ = some (.string qt) ∧ W.cell? ⟨kb, koff + 2, none⟩ = some (.slice z0' qa.length v0') ∧ W.cell? ⟨kb, koff + 3, none⟩ = some (.slice z1' qd.length v1') ∧ W.cell? ⟨kb, koff + 4, none⟩ = some (.slice z2' qk.length v2')) (go_keep)
        (first
        | (go_at_call 170; refine (J170 _ (by assumption)).mono ?_; rintro e w2 ⟨rn, rfl, o2', g2'⟩; obtain ⟨⟨r20, r40⟩, r50, r60, r70, r80, r90⟩ := hrd w2 g2')
        | (go_at_call 79; refine (J79 _ _ (by assumption) (by assumption)).mono ?_; rintro e w3 ⟨rb, rfl, o3', g3'⟩; obtain ⟨⟨r21, r41⟩, r51, r61, r71, r81, r91⟩ := hrd w3 g3')
        | (go_at_call 121; refine (J121 _ _ (by assumption) (by assumption)).mono ?_; rintro e w4 ⟨rt, rfl, HFIN, g4'⟩; obtain ⟨⟨r22, r42⟩, r52, r62, r72, r82, r92⟩ := hrd w4 g4'))
      all_goals
        go_wp2
        go_ret
        exact HFIN.out

theorem f_all : ∀ s, FAt s := by
  intro s
  induction s with
  | zero => intro p hp; exact absurd (by rw [Part.size, nodesOf_eq]; simp) (Nat.not_lt.2 hp)
  | succ s ih =>
    intro p hp h60 hsh hag B u w cs v vb out bound hu hB hv ho hb hs0 hl hbl
    cases p with
    | proc t =>
      obtain ⟨o, t, a, d, k⟩ := t
      by_cases ho4 : o = 4
      · subst ho4; exact f_term4 s ih t a d k hp h60 hsh hag B u w cs v vb out bound hu hB hv ho hb hs0 hl hbl
      · exact f_termN s ih o ho4 t a d k hp h60 hsh hag B u w cs v vb out bound hu hB hv ho hb hs0 hl hbl
    | exp t => obtain ⟨o, n, t, k⟩ := t; exact f_exp s ih o n t k hp h60 hsh B u w cs v vb out bound hu hB hv ho hb hs0 hl hbl
    | def_ t => obtain ⟨f, t, j, d, k⟩ := t; exact f_clause s ih f t j d k hp h60 hsh hag B u w cs v vb out bound hu hB hv ho hb hs0 hl hbl

end Go.Proofs.YtjmlaeofjjhfmaaGreat
/- The reference's Free, and the program's, told alike. -/
namespace Go.Proofs.YtjmlaeofjjhfmaaGreat
open Go.RowKit Go.Shelf Go.Maps Go.Sort

/-- The list of the free names of a process, or nothing. -/
def FreeL (t : Term) (L : List ByteArray) : Prop := (formedB (.proc t) = true → Srt L ∧ ∀ k, k ∈ L.map bytesOf ↔ freeN 60 (.proc t) k = true) ∧ (formedB (.proc t) = false → L = [])

set_option maxRecDepth 10000 in
set_option maxHeartbeats 4000000 in
theorem freeOf_any (t : Term) (h60 : (Part.proc t).size ≤ 60) (hsh : allSh (.proc t) = true) (hag : agAll (.proc t) = true) (B : Nat) (u w : World) (cs : List Value) (hu : KeptC B u w) (hB : B ≤ w.heap.size) (hv : TermAt B u cs t) :
    Calls Tryz.prog 69 #[.agg cs.toArray] w fun e w' => ∃ v L, e = .returned v ∧ StrsAt w'.heap.size w' v L ∧ Hid (Srt L ∧ ∀ k, k ∈ L.map bytesOf ↔ freeN 60 (.proc t) k = true) ∧ Below w.heap.size w w' := by
  obtain ⟨q, hq⟩ : ∃ q, q = t := ⟨_, rfl⟩
  rw [← hq] at h60 hsh hag ⊢
  obtain ⟨op, text, args, defs, kids⟩ := t
  have hv0 := hv
  unfold TermAt at hv
  obtain ⟨hz, _, _, _, rfl, ⟨a0, p0, rfl, _⟩, ⟨a1, p1, rfl, l1, h1⟩, ⟨a2, p2, rfl, _⟩⟩ := hv
  obtain ⟨W1, hW1⟩ : ∃ W1, W1 = w.alloc (.cells #[.int .i64 op, .string text, .slice a0 args.length p0, .slice a1 defs.length p1, .slice a2 kids.length p2] 33) := ⟨_, rfl⟩
  have z1 : W1.heap.size = w.heap.size + 1 := by rw [hW1]; simp
  have b1 : Below w.heap.size w W1 := by rw [hW1]; exact (Below.refl _ w).alloc (Nat.le_refl _) _
  have cc : ∀ W, Below W1.heap.size W1 W → W.cell? ⟨w.heap.size, 0, none⟩ = some (.int .i64 op) ∧ W.cell? ⟨w.heap.size, 1, none⟩ = some (.string text) ∧ W.cell? ⟨w.heap.size, 2, none⟩ = some (.slice a0 args.length p0) ∧ W.cell? ⟨w.heap.size, 3, none⟩ = some (.slice a1 defs.length p1) ∧ W.cell? ⟨w.heap.size, 4, none⟩ = some (.slice a2 kids.length p2) := fun W hW => by
    have e : ∀ o, W.cell? ⟨w.heap.size, o, none⟩ = W1.cell? ⟨w.heap.size, o, none⟩ := fun o => hW.cell (p := ⟨w.heap.size, o, none⟩) (by simp; omega)
    rw [e, e, e, e, e, hW1]
    simp only [World.cell?_alloc_at _ _ _ _ rfl]
    exact ⟨rfl, rfl, rfl, rfl, rfl⟩
  have hcall := f_all 60 (.proc q) h60 h60 hsh hag B u W1 _ (.slice none 0 0) (.slice none 0 0) [] [] (hu.trans ((Below.keptC b1).mono hB)) (by omega) (by rw [hq]; exact hv0) (OutAt.nil _) (StrsAt.nil _ _) List.Pairwise.nil (by simp; omega) (by simp; omega)
  simp only [fFn] at hcall
  have HK : ∀ e w', AddOut [] (fset 60 [] (.proc q)) (Part.proc q).size W1 e w' → ∃ v L, e = .returned v ∧ StrsAt w'.heap.size w' v L ∧ Hid (Srt L ∧ ∀ k, k ∈ L.map bytesOf ↔ freeN 60 (.proc q) k = true) ∧ Below w.heap.size w w' := by
    rintro e w' ⟨v, L, rfl, h1, h2, h3, _, h5⟩
    exact ⟨v, L, rfl, h1.strs, Lib.hid ⟨h2, fun k => by rw [h3]; simp [fset]⟩, b1.trans (h5.mono (by omega))⟩
  have hcall2 := hcall.mono HK
  obtain ⟨x0, x1, x2, x3, x4⟩ := cc W1 (Below.refl _ _)
  have HW := Lib.hid hW1
  rw [HW.out] at x0 x1 x2 x3 x4
  clear hcall HK cc hW1 hv0 hq h60 hsh hag
  go_enter Tryz.func69, Tryz.ntmps69
  go_wp2_with (go_at_call 121; rw [← HW.out]; refine hcall2.mono ?_; clear hcall2; rintro e w2 ⟨v, L, rfl, g1, g2, g3⟩)
  go_ret
  exact ⟨v, L, rfl, g1, g2, g3⟩

set_option maxRecDepth 10000 in
set_option maxHeartbeats 4000000 in
theorem rfree_any (t : Term) (B : Nat) (u w : World) (cs : List Value) (hu : KeptC B u w) (hB : B ≤ w.heap.size) (hv : TermAt B u cs t) :
    Calls Tryz.prog 27 #[.agg cs.toArray] w fun e w' => ∃ v L, e = .returned (.tuple #[v, .int .i64 (codeOf (formedB (.proc t)))]) ∧ StrsAt w'.heap.size w' v L ∧ Hid (FreeL t L) ∧ Below w.heap.size w w' := by
  obtain ⟨q, hq⟩ : ∃ q, q = t := ⟨_, rfl⟩
  rw [← hq]
  obtain ⟨op, text, args, defs, kids⟩ := t
  have hv0 := hv
  unfold TermAt at hv
  obtain ⟨hz, _, _, _, rfl, ⟨a0, p0, rfl, _⟩, ⟨a1, p1, rfl, l1, h1⟩, ⟨a2, p2, rfl, _⟩⟩ := hv
  obtain ⟨W1, hW1⟩ : ∃ W1, W1 = w.alloc (.cells #[.int .i64 op, .string text, .slice a0 args.length p0, .slice a1 defs.length p1, .slice a2 kids.length p2] 33) := ⟨_, rfl⟩
  have z1 : W1.heap.size = w.heap.size + 1 := by rw [hW1]; simp
  have b1 : Below w.heap.size w W1 := by rw [hW1]; exact (Below.refl _ w).alloc (Nat.le_refl _) _
  have cc : ∀ W, Below W1.heap.size W1 W → W.cell? ⟨w.heap.size, 0, none⟩ = some (.int .i64 op) ∧ W.cell? ⟨w.heap.size, 1, none⟩ = some (.string text) ∧ W.cell? ⟨w.heap.size, 2, none⟩ = some (.slice a0 args.length p0) ∧ W.cell? ⟨w.heap.size, 3, none⟩ = some (.slice a1 defs.length p1) ∧ W.cell? ⟨w.heap.size, 4, none⟩ = some (.slice a2 kids.length p2) := fun W hW => by
    have e : ∀ o, W.cell? ⟨w.heap.size, o, none⟩ = W1.cell? ⟨w.heap.size, o, none⟩ := fun o => hW.cell (p := ⟨w.heap.size, o, none⟩) (by simp; omega)
    rw [e, e, e, e, e, hW1]
    simp only [World.cell?_alloc_at _ _ _ _ rfl]
    exact ⟨rfl, rfl, rfl, rfl, rfl⟩
  have hck := rcheck_any (fun t h60 hsh B u w cs hu hB hv => (rd_all (Part.proc t).size).1 t (Nat.le_refl _) h60 hsh B u w cs hu hB hv) q B u W1 _ (hu.trans ((Below.keptC b1).mono hB)) (by omega) (by rw [hq]; exact hv0)
  have HFL : ∀ L, FreeL q L ↔ (formedB (.proc q) = true → Srt L ∧ ∀ k, k ∈ L.map bytesOf ↔ freeN 60 (.proc q) k = true) ∧ (formedB (.proc q) = false → L = []) := fun _ => Iff.rfl
  cases hf : formedB (.proc q) with
  | false =>
    have HN := Lib.hid (show FreeL q [] from ⟨(fun h => by rw [hf] at h; cases h), fun _ => rfl⟩)
    rw [hf] at hck
    have HW := Lib.hid hW1
    obtain ⟨x0, x1, x2, x3, x4⟩ := cc W1 (Below.refl _ _)
    rw [HW.out] at x0 x1 x2 x3 x4
    clear hf cc hW1 hv0 hq HFL
    go_enter Tryz.func27, Tryz.ntmps27
    go_wp2_with (go_at_call 19; rw [← HW.out]; refine hck.mono ?_; clear hck; rintro e w1 ⟨rfl, hb1⟩; simp only [codeOf, Bool.false_eq_true, if_false])
    go_ret2
    exact ⟨_, rfl, [], StrsAt.nil _ _, HN, b1.trans (hb1.mono (by omega))⟩
  | true =>
    have hfo := hf
    unfold formedB at hfo
    simp only [Bool.and_eq_true, decide_eq_true_eq] at hfo
    obtain ⟨⟨⟨h60, hsh⟩, _⟩, hag⟩ := hfo
    rw [hf] at hck
    have hfr := fun W (hW : Below w.heap.size w W) => freeOf_any q h60 hsh hag B u W _ (hu.trans ((Below.keptC hW).mono hB)) (by have := hW.size; omega) (by rw [hq]; exact hv0)
    have HN := Lib.hid (show ∀ L, (Srt L ∧ ∀ k, k ∈ L.map bytesOf ↔ freeN 60 (.proc q) k = true) → FreeL q L from fun L h => ⟨fun _ => h, fun h2 => by rw [hf] at h2; cases h2⟩)
    have HFR := Lib.hid hfr
    have HW := Lib.hid hW1; have HC := Lib.hid cc
    obtain ⟨x0, x1, x2, x3, x4⟩ := cc W1 (Below.refl _ _)
    rw [HW.out] at x0 x1 x2 x3 x4
    clear hf cc hW1 hv0 hq HFL hfr h60 hsh hag
    go_enter Tryz.func27, Tryz.ntmps27
    go_wp2_with (first
      | (go_at_call 19; rw [← HW.out]; refine hck.mono ?_; clear hck; rintro e w1 ⟨rfl, hb1⟩; simp only [codeOf, if_true]; obtain ⟨d0, d1, d2, d3, d4⟩ := HC.out w1 hb1; have hbw := b1.trans (hb1.mono (by omega)))
      | (go_at_call 69; refine (HFR.out w1 hbw).mono ?_; rintro e w2 ⟨v, L, rfl, g1, g2, g3⟩))
    go_ret2
    exact ⟨v, L, rfl, g1, Lib.hid (HN.out L g2.out), hbw.trans (g3.mono hbw.size)⟩

theorem mkB_bytes (x : ByteArray) : mkB (bytesOf x) = x := by cases x; simp [mkB, bytesOf]
theorem srt_sorted {L : List ByteArray} (h : Srt L) : (((L.map bytesOf).mergeSort leB).map mkB) = L := by
  rw [List.mergeSort_of_pairwise (h.imp (fun {a b} hab => by simpa [leB] using List.le_of_lt hab)), List.map_map]
  have : (mkB ∘ bytesOf) = id := by funext x; exact mkB_bytes x
  rw [this]; simp
theorem pfree_any (t : Term) (L : List ByteArray) (hL : FreeL t L) (B : Nat) (u w : World) (cs : List Value) (hu : KeptC B u w) (hB : B ≤ w.heap.size) (hv : TermAt B u cs t) :
    Calls Tryz.prog 29 #[.agg cs.toArray] w fun e w' => ∃ v, e = .returned (.tuple #[v, .int .i64 (codeOf (formedB (.proc t)))]) ∧ StrsAt w'.heap.size w' v L ∧ Below w.heap.size w w' := by
  cases h : formedB (.proc t) with
  | true =>
    obtain ⟨h1, h2⟩ := hL.1 h
    refine (api_29 B u t cs w hu hB (formedB_iff.2 h) hv (L.map bytesOf) ⟨h1.imp (fun {a b} hab e => by subst e; exact List.lt_irrefl _ hab), h2⟩).mono ?_
    rintro e w' ⟨v, rfl, h3, h4⟩
    rw [srt_sorted h1] at h3
    exact ⟨v, rfl, h3, h4⟩
  | false =>
    obtain rfl := hL.2 h
    refine (api_29_no B u t cs w hu hB (fun hf => by rw [formedB_iff.1 hf] at h; cases h) hv).mono ?_
    rintro e w' ⟨rfl, h4⟩
    exact ⟨_, rfl, StrsAt.nil _ _, h4⟩

end Go.Proofs.YtjmlaeofjjhfmaaGreat
