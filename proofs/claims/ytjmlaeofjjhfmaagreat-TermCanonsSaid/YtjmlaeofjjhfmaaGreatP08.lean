/- agree where it says true. -/
import Derived.Test.YtjmlaeofjjhfmaaGreatP07
set_option linter.unusedVariables false
set_option linter.unusedSimpArgs false
namespace Go.Proofs.YtjmlaeofjjhfmaaGreat
open Go.RowKit Go.Maps Go.WideMaps

theorem info195 : (Tryz.prog.info? 195).map (fun i => (i.zero, i.size, i.bytes)) = some (some (.agg #[.int .i64 0, .int .i64 0]), 2, 16) := by kernel_rfl
theorem neq195 (a b : Int) (w : World) : (binOp .neq 195 (.agg #[.int .i64 a, .int .i64 b]) (.agg #[.int .i64 a, .int .i64 b])).run Tryz.prog w = .ok (.bool false) w := by
  simp [binOp, Op.equal, Op.maxDepth, go_sem]
theorem zero195 (w : World) : (zeroValue 195).run Tryz.prog w = .ok (.agg #[.int .i64 0, .int .i64 0]) w := by
  obtain ⟨i0, hi, hz0, hz1, hz2⟩ := info_parts info195
  simp [zeroValue, typeInfo, hi, hz0]

/-- How a use reads. -/
def R2 : Value → Option (DataW Unit × List MemPlace)
  | .agg ⟨[.int .i64 a, .int .i64 b]⟩ => some (.agg [.lit (.int .i64 a), .lit (.int .i64 b)], [])
  | _ => none
theorem R2_inv {v : Value} {a b : Int} {ps : List MemPlace} (h : R2 v = some (.agg [.lit (.int .i64 a), .lit (.int .i64 b)], ps)) : v = .agg #[.int .i64 a, .int .i64 b] := by
  unfold R2 at h
  split at h
  · simp at h; obtain ⟨⟨rfl, rfl⟩, _⟩ := h; rfl
  · cases h

def encU (p : Int × Int) : DataW Unit := .agg [.lit (.int .i64 p.1), .lit (.int .i64 p.2)]
def valU (p : Int × Int) : Value := .agg #[.int .i64 p.1, .int .i64 p.2]

/-- Block b is the map of uses: the keys acc, each with what U says. -/
def UseAt (w : World) (b n : Nat) (acc : List (List UInt8)) (U : List UInt8 → Int × Int) : Prop :=
  ∃ D, w.ownsMap (H := Unit) Tryz.prog 9 R2 b n D ∧ ∀ k, (inSet acc k = true → has D (.string k) = true ∧ ∀ z, D.atKey (.string k) z = encU (U k)) ∧ (inSet acc k = false → has D (.string k) = false ∧ ∀ z, D.atKey (.string k) z = z)

theorem UseAt.made (w : World) (U : List UInt8 → Int × Int) : UseAt (w.alloc (.map #[] 0)) w.heap.size 0 [] U :=
  ⟨.map [], World.ownsMap_made _ _ _ _, fun k => ⟨by simp [inSet], fun _ => ⟨rfl, fun z => rfl⟩⟩⟩
theorem UseAt.lt {w : World} {b n : Nat} {acc : List (List UInt8)} {U : List UInt8 → Int × Int} (h : UseAt w b n acc U) : b < w.heap.size := by
  obtain ⟨D, h, _⟩ := h; exact h.lt
theorem UseAt.kept {w w' : World} {b n : Nat} {acc : List (List UInt8)} {U : List UInt8 → Int × Int} {row : Option Nat} (h : UseAt w b n acc U) (hg : w.grownBy w' row) (hne : some b ≠ row) : UseAt w' b n acc U := by
  obtain ⟨D, h, r⟩ := h; exact ⟨D, h.kept hg hne, r⟩
theorem UseAt.look {w : World} {b n : Nat} {acc : List (List UInt8)} {U : List UInt8 → Int × Int} (h : UseAt w b n acc U) {k : ByteArray} (hk : k.size ≤ maxLen) :
    (Instr.lookup 193 (.map (some b)) (.string k) true).run Tryz.prog w = .ok (.tuple #[if inSet acc (bytesOf k) then valU (U (bytesOf k)) else valU (0, 0), .bool (inSet acc (bytesOf k))]) w := by
  obtain ⟨D, hD, hk1⟩ := h
  obtain ⟨v, ps, hrun, hv⟩ := World.ownsMap.look_ok hD (string_keyed Tryz.underlying9) Tryz.underlying193 (zero195 w) (zd := encU (0, 0)) (zp := []) rfl (keyOf_string_mk Tryz.underlying9 hk)
  rw [hrun]
  cases hin : inSet acc (bytesOf k) with
  | true =>
    obtain ⟨h1, h2⟩ := (hk1 _).1 hin
    rw [show Lit.string k.data.toList = Lit.string (bytesOf k) from rfl] at hv ⊢
    rw [h2] at hv
    rw [h1, R2_inv hv]; rfl
  | false =>
    obtain ⟨h1, h2⟩ := (hk1 _).2 hin
    rw [show Lit.string k.data.toList = Lit.string (bytesOf k) from rfl] at hv ⊢
    rw [h2] at hv
    rw [h1, R2_inv hv]; rfl

theorem UseAt.put {w : World} {b n : Nat} {acc : List (List UInt8)} {U : List UInt8 → Int × Int} (h : UseAt w b n acc U) (hn : n < maxLen) {k : ByteArray} (hk : k.size ≤ maxLen) :
    ∃ w', (Instr.mapUpdate 193 (.map (some b)) (.string k) (valU (U (bytesOf k)))).run Tryz.prog w = .ok () w' ∧ UseAt w' b (n + 1) (acc ++ [bytesOf k]) U ∧ w.grownBy w' (some b) := by
  obtain ⟨D, hD, hk1⟩ := h
  obtain ⟨w', h1, h2, h3⟩ := World.ownsMap.update hD (string_keyed Tryz.underlying9) Tryz.underlying193 hn (keyOf_string_mk Tryz.underlying9 hk) (val := valU (U (bytesOf k))) (d := encU (U (bytesOf k))) (ps := []) rfl
  refine ⟨w', h1, ⟨_, h2, fun x => ?_⟩, h3⟩
  have hm : IsMap D := hD.isMap
  by_cases hx : x = bytesOf k
  · subst hx
    refine ⟨fun _ => ⟨has_put_same hm (by simp [WideAt.IsKeyLit]) _, fun z => atKey_put_same hm (by simp [WideAt.IsKeyLit]) _ _⟩, fun hf => ?_⟩
    simp [inSet] at hf
  · have hne : Lit.string x ≠ Lit.string k.data.toList := by simp; exact hx
    have hin : inSet (acc ++ [bytesOf k]) x = inSet acc x := by simp only [inSet, List.any_append, List.any_cons, List.any_nil]; simp; intro h; exact absurd h.symm hx
    rw [hin]
    refine ⟨fun ht => ?_, fun hf => ?_⟩
    · rw [has_put_other hne]; exact ⟨((hk1 x).1 ht).1, fun z => by rw [atKey_put_other hne]; exact ((hk1 x).1 ht).2 z⟩
    · rw [has_put_other hne]; exact ⟨((hk1 x).2 hf).1, fun z => by rw [atKey_put_other hne]; exact ((hk1 x).2 hf).2 z⟩

/-- What agree asks, with the function U that says how each channel is used. -/
def AgreeOk (d : List Clause) (U : List UInt8 → Int × Int) : Prop :=
  (∀ i, (h : i < (groupsL d).length) → ∀ c ∈ (groupsL d)[i], ∀ j ∈ c.joins, U (bytesOf j.text) = ((i : Int), (j.names.length : Int))) ∧
  (∀ p ∈ placesL d, inSet ((alltexts (groupsL d)).map bytesOf) (bytesOf p) = false) ∧ ((placesL d).map bytesOf).Nodup

set_option maxRecDepth 10000 in
set_option maxHeartbeats 2000000 in
theorem agree_ok (B : Nat) (u : World) (d : List Clause) (U : List UInt8 → Int × Int) (hds : csize d ≤ 900) (hN : (alltexts (groupsL d)).length ≤ 100000) (hU : AgreeOk d U) (a : Option Addr) (cap : Nat) (w : World) (hu : KeptC B u w) (hBs : B ≤ w.heap.size)
    (hd : d.length = 0 ∨ ∃ b off, a = some ⟨b, off, none⟩ ∧ b < B ∧ ClausesAt B u b off d) :
    Calls Tryz.prog 118 #[.slice a d.length cap] w fun e w' => e = .returned (.bool true) ∧ Below w.heap.size w w' := by
  obtain ⟨hU1, hU2, hU3⟩ := hU
  have hmm := @run_makeMap Tryz.prog
  have s0 := UseAt.made w U
  have b0 : Below w.heap.size w (w.alloc (.map #[] 0)) := (Below.refl _ w).alloc (Nat.le_refl _) _
  have hgr := groups_any B u (csize d) d (Nat.le_refl _) hds a cap (w.alloc (.map #[] 0)) (hu.trans ((Below.keptC b0).mono hBs)) (by simp; omega) hd (fun _ _ => trivial)
  have hpl : ∀ W, KeptC B u W → B ≤ W.heap.size → _ := fun W h1 h2 => places_any B u (csize d) d (Nat.le_refl _) hds a cap W h1 h2 hd
  go_enter Tryz.func118, Tryz.ntmps118
  go_wp2_with (go_at_call 129; refine hgr.mono ?_; clear hgr; rintro e w1 ⟨r, gv, rfl, hog, hg, hb1⟩; obtain ⟨ga, gcap, rfl, hgc⟩ := row_of_owns' hog)
  have s1 : UseAt w1 w.heap.size 0 [] U := s0.kept (grown_of_below hb1) (by simp)
  have hgl := Lib.hid hg.1
  have hgm : gv.length ≤ 901 := by have h1 := hg.1; have h2 := groupsI_len d; unfold csize at hds; simp [groupsL] at h1; omega
  have hB1 : Below w.heap.size w w1 := b0.trans (hb1.mono (by simp))
  go_loopw [22] (fun i wr => ∃ (k : Nat), k ≤ gv.length ∧ i = .int .i64 k ∧ UseAt wr w.heap.size (alltexts ((groupsL d).take k)).length ((alltexts ((groupsL d).take k)).map bytesOf) U ∧ Below w.heap.size w wr ∧ Mid w.heap.size w1 wr) (fun i _ => gv.length - (intOf i).toNat)
  case atStart => exact ⟨0, by omega, rfl, s1, hB1, Mid.refl _ _⟩
  case round =>
    obtain ⟨k1, hk1, rfl, hs1, hBr, hW1⟩ := hrel
    by_cases hlt1 : k1 < gv.length
    · have hlt1' : k1 < (groupsL d).length := by have := hgl.out; omega
      obtain ⟨a2, cap2, hv2, hl2, hd2⟩ := hg.2 k1 hlt1 hlt1'
      rcases hgc with h0 | ⟨gb, rfl, hgA, hgB, hcl⟩
      · subst h0; simp at hlt1
      have hcell := hW1.2 gb (0 + k1) _ (by simp at hgA; omega) hgB (hcl k1 hlt1)
      rw [hv2, Nat.zero_add] at hcell
      have hTT := alltexts_take (groupsL d) k1 hlt1'
      have hU1k := hU1 k1 hlt1'
      obtain ⟨g, hgg⟩ : ∃ g, g = (groupsL d)[k1] := ⟨_, rfl⟩
      rw [← hgg] at hl2 hd2 hcell hTT hU1k
      have hTN : (alltexts ((groupsL d).take k1)).length + (gtexts g).length ≤ 100000 := by
        have e : alltexts (groupsL d) = alltexts ((groupsL d).take (k1 + 1)) ++ alltexts ((groupsL d).drop (k1 + 1)) := by
          rw [← List.take_append_drop (k1 + 1) (groupsL d)]; unfold alltexts; rw [List.flatMap_append]; simp
        rw [e, hTT] at hN; simp at hN; omega
      obtain ⟨T, hT⟩ : ∃ T, T = alltexts ((groupsL d).take k1) := ⟨_, rfl⟩
      rw [← hT] at hTT hTN hs1
      have HTT := Lib.hid hTT; clear hTT hT hgg hcl hv2
      obtain ⟨wo, rfl⟩ : ∃ wo : World, wo = wr := ⟨_, rfl⟩
      go_wp2
      go_loopw [29] (fun i wq => ∃ (k : Nat), k ≤ g.length ∧ i = .int .i64 k ∧ UseAt wq w.heap.size (T ++ gtexts (g.take k)).length ((T ++ gtexts (g.take k)).map bytesOf) U ∧ Below w.heap.size w wq ∧ Mid w.heap.size w1 wq) (fun i _ => g.length - (intOf i).toNat)
      case atStart => exact ⟨0, by omega, rfl, by simpa [gtexts] using hs1, hBr, hW1⟩
      case round =>
        obtain ⟨k2, hk2, rfl, hs2, hBq, hW2⟩ := hrel
        by_cases hlt2 : k2 < g.length
        · rcases hd2 with h0 | ⟨b, off, rfl, hb, hcls⟩
          · omega
          obtain ⟨cs, hcs, hce⟩ := hcls.get g b off k2 hlt2
          have hGT := gtexts_take g k2 hlt2
          have hU2k := hU1k g[k2] (List.getElem_mem hlt2)
          obtain ⟨c, hc⟩ : ∃ c, c = g[k2] := ⟨_, rfl⟩
          rw [← hc] at hce hGT hU2k
          have hTN2 : T.length + (gtexts (g.take k2)).length + (c.joins).length ≤ 100000 := by
            have e : gtexts g = gtexts (g.take (k2 + 1)) ++ gtexts (g.drop (k2 + 1)) := by
              rw [← List.take_append_drop (k2 + 1) g]; unfold gtexts; rw [List.flatMap_append]; simp
            rw [e, hGT] at hTN; simp at hTN; omega
          obtain ⟨f, t, js, dd, kk⟩ := c
          unfold ClauseAt at hce
          obtain ⟨htz, _, _, _, rfl, ⟨a0, p0, rfl, hjl, hjs⟩, ⟨a1, p1, rfl, _⟩, ⟨a3, p3, rfl, _⟩⟩ := hce
          obtain ⟨c0, c1, c2, c3, c4⟩ := cells5 ((hcs.keep hu hb).below hBq (by omega))
          simp only [Clause.joins] at hGT hTN2 hU2k
          obtain ⟨T2, hT2⟩ : ∃ T2, T2 = T ++ gtexts (g.take k2) := ⟨_, rfl⟩
          have hGT' : T ++ gtexts (g.take (k2 + 1)) = T2 ++ js.map (·.text) := by rw [hGT, hT2, List.append_assoc]
          have hT2l : T2.length + js.length ≤ 100000 := by rw [hT2, List.length_append]; omega
          rw [← hT2] at hs2
          have HGT := Lib.hid hGT'; clear hGT hGT' hT2 hTN2 hTN hcs
          obtain ⟨wp, rfl⟩ : ∃ wp : World, wp = wr := ⟨_, rfl⟩
          have hsz := hBq.size
          have hsb := hs2.kept (World.grownBy_alloc wp (.cells #[.int .i64 f, .string t, .slice a0 js.length p0, .slice a1 dd.length p1, .slice a3 kk.length p3] 130) none) (by simp)
          have hBb := hBq.alloc hsz (.cells #[.int .i64 f, .string t, .slice a0 js.length p0, .slice a1 dd.length p1, .slice a3 kk.length p3] 130)
          have hWb := hW2.alloc (.cells #[.int .i64 f, .string t, .slice a0 js.length p0, .slice a1 dd.length p1, .slice a3 kk.length p3] 130)
          have HU := Lib.hid hU2k; clear hU2k
          go_wp2
          go_loopw [36] (fun i wq => ∃ (k : Nat), k ≤ js.length ∧ i = .int .i64 k ∧ UseAt wq w.heap.size (T2 ++ (js.take k).map (·.text)).length ((T2 ++ (js.take k).map (·.text)).map bytesOf) U ∧ Below w.heap.size w wq ∧ Mid w.heap.size w1 wq) (fun i _ => js.length - (intOf i).toNat)
          case atStart => exact ⟨0, by omega, rfl, by simpa using hsb, hBb, hWb⟩
          case round =>
            obtain ⟨k3, hk3, rfl, hs3, hB3, hW3⟩ := hrel
            by_cases hlt3 : k3 < js.length
            · rcases hjs with h0 | ⟨mb, moff, rfl, hmb, hms⟩
              · omega
              obtain ⟨mcs, hmcs, hmz, mv, rfl, hmn⟩ := hms.get js mb moff k3 hlt3
              have hUx := HU.out js[k3] (List.getElem_mem hlt3)
              have hm3 : T2 ++ (js.take (k3 + 1)).map (·.text) = T2 ++ (js.take k3).map (·.text) ++ [(js[k3]).text] := by
                rw [List.take_succ_eq_append_getElem hlt3, List.map_append, List.append_assoc]; rfl
              obtain ⟨x, hx⟩ : ∃ x, x = (js[k3]).text := ⟨_, rfl⟩
              obtain ⟨nm, hnm⟩ : ∃ nm, nm = (js[k3]).names.length := ⟨_, rfl⟩
              rw [← hx] at hm3 hmz hmcs hUx; rw [← hnm] at hUx
              obtain ⟨T3, hT3⟩ : ∃ T3, T3 = T2 ++ (js.take k3).map (·.text) := ⟨_, rfl⟩
              have hT3l : T3.length ≤ 100000 := by rw [hT3, List.length_append, List.length_map, List.length_take]; omega
              rw [← hT3] at hm3 hs3
              obtain ⟨na, nc, rfl, hnl, _⟩ := hmn
              rw [← hnm] at hmcs hnl
              obtain ⟨d0, d1⟩ := cells2 ((hmcs.keep hu hmb).below hB3 (by omega))
              have HM := Lib.hid hm3; clear hm3 hT3 hmcs hx hnm
              have hz3 := hB3.size
              have sA := (hs3.kept (World.grownBy_alloc wr (.cells #[.string x, .slice na nm nc] 144) none) (by simp)).kept (World.grownBy_alloc _ (.cells #[.int .i64 k1, .int .i64 nm] 195) none) (by simp)
              have hlook := sA.look hmz
              have bA := (hB3.alloc hz3 (.cells #[.string x, .slice na nm nc] 144)).alloc (by simp; omega) (.cells #[.int .i64 k1, .int .i64 nm] 195)
              have mA := (hW3.alloc (.cells #[.string x, .slice na nm nc] 144)).alloc (.cells #[.int .i64 k1, .int .i64 nm] 195)
              have hsl := hs3.lt
              have hq := neq195 k1 nm
              have fin : ∀ X3 : Obj, ∃ w5, (Instr.mapUpdate 193 (.map (some w.heap.size)) (.string x) (.agg #[.int .i64 k1, .int .i64 nm])).run Tryz.prog (((wr.alloc (.cells #[.string x, .slice na nm nc] 144)).alloc (.cells #[.int .i64 k1, .int .i64 nm] 195)).alloc X3) = .ok () w5 ∧
                  UseAt w5 w.heap.size (T2 ++ (js.take (k3 + 1)).map (·.text)).length ((T2 ++ (js.take (k3 + 1)).map (·.text)).map bytesOf) U ∧ Below w.heap.size w w5 ∧ Mid w.heap.size w1 w5 := by
                intro X3
                obtain ⟨w5, r5, s5, g5⟩ := (sA.kept (World.grownBy_alloc _ X3 none) (by simp)).put (by unfold maxLen; omega) hmz
                refine ⟨w5, ?_, ?_, (bA.alloc bA.size X3).grown g5 (by have := bA.size; simp at this ⊢; omega) (fun k e => by have e1 := Option.some.inj e; omega), (mA.alloc X3).grown g5 (fun r e => by have e1 := Option.some.inj e; exact .inl (by omega))⟩
                · rw [← r5, hUx]; rfl
                · rw [HM.out, List.length_append, List.map_append]; exact s5
              cases hin : inSet (T3.map bytesOf) (bytesOf x) with
              | true =>
                rw [hin, hUx] at hlook
                simp only [if_true, valU] at hlook
                obtain ⟨w5, r5, s5, b5, m5⟩ := fin (.cells #[.int .i64 k1, .int .i64 nm] 195)
                clear fin hin hUx
                go_wp2
                go_roundw
                case rel => exact ⟨k3 + 1, by omega, by go_num, s5, b5, m5⟩
                case measure => simp [intOf]; omega
              | false =>
                rw [hin] at hlook
                simp only [Bool.false_eq_true, if_false, valU] at hlook
                obtain ⟨w5, r5, s5, b5, m5⟩ := fin (.cells #[.int .i64 0, .int .i64 0] 195)
                clear fin hin hUx
                go_wp2
                go_roundw
                case rel => exact ⟨k3 + 1, by omega, by go_num, s5, b5, m5⟩
                case measure => simp [intOf]; omega
            · obtain rfl : k3 = js.length := by omega
              rw [List.take_length, ← HGT.out] at hs3
              go_wp2
              go_roundw
              case rel => exact ⟨k2 + 1, by omega, by go_num, hs3, hB3, hW3⟩
              case measure => simp [intOf]; omega
        · obtain rfl : k2 = g.length := by omega
          rw [List.take_length] at hs2
          go_wp2
          go_roundw
          case rel => exact ⟨k1 + 1, by omega, by go_num, by rw [HTT.out]; exact hs2, hBq, hW2⟩
          case measure => simp [intOf]; omega
    · obtain rfl : k1 = gv.length := by omega
      have e : (groupsL d).take gv.length = groupsL d := List.take_of_length_le (by have := hgl.out; omega)
      rw [e] at hs1
      obtain ⟨wm, rfl⟩ : ∃ wm : World, wm = wr := ⟨_, rfl⟩
      have hzr := hBr.size
      have st0 := SetAt.made wm
      have bm0 : Below w.heap.size w (wm.alloc (.map #[] 0)) := hBr.alloc hzr _
      have u0 := hs1.kept (World.grownBy_alloc wm (.map #[] 0) none) (by simp)
      have hpc := hpl (wm.alloc (.map #[] 0)) (hu.trans ((Below.keptC bm0).mono hBs)) (by simp; omega)
      clear hpl
      go_wp2_with (go_at_call 77; refine hpc.mono ?_; clear hpc; rintro e w2 ⟨r, rfl, hop, hpz, hb2⟩; obtain ⟨pa, pcap, rfl, hpcell⟩ := row_of_owns' (vs := strVals (placesL d)) (by simpa [strVals] using hop); have hvlen : (strVals (placesL d)).length = (placesL d).length := (by simp [strVals]); rw [hvlen])
      have hB2 := bm0.trans (hb2.mono (by simp; omega))
      have u2 := u0.kept (grown_of_below hb2) (by simp)
      have st2 := st0.below hb2 (by simp)
      have hz2 := hb2.size
      simp at hz2
      have hus := hs1.lt
      have hpn : (placesL d).length ≤ 900 := by have := placesL_len d; unfold csize at hds; omega
      have HV := Lib.hid hvlen; clear hvlen
      go_loopw [69] (fun i wq => ∃ (k : Nat), k ≤ (placesL d).length ∧ i = .int .i64 k ∧ UseAt wq w.heap.size (alltexts (groupsL d)).length ((alltexts (groupsL d)).map bytesOf) U ∧ SetAt wq wm.heap.size k (((placesL d).take k).map bytesOf) ∧ Below w.heap.size w wq ∧ Mid wm.heap.size w2 wq) (fun i _ => (placesL d).length - (intOf i).toNat)
      case atStart => exact ⟨0, by omega, rfl, u2, st2, hB2, Mid.refl _ _⟩
      case round =>
        obtain ⟨k, hk, rfl, uk, sk, bk, mk⟩ := hrel
        by_cases hlt : k < (placesL d).length
        · rcases hpcell with h0 | ⟨pb, rfl, hpA, hpB, hpc⟩
          · have e1 : (strVals (placesL d)).length = 0 := by rw [h0]; rfl
            have := HV.out
            omega
          have hpA' : wm.heap.size + 1 ≤ pb := by first | exact hpA | (simpa using hpA)
          have hcell := mk.2 pb (0 + k) _ (by omega) hpB (hpc k (by have := HV.out; omega))
          rw [Nat.zero_add, show (strVals (placesL d))[k]'(by have := HV.out; omega) = .string (placesL d)[k] from by simp [strVals]] at hcell
          have hpk := hpz (placesL d)[k] (List.getElem_mem hlt)
          have huk := hU2 (placesL d)[k] (List.getElem_mem hlt)
          have hnd : inSet (((placesL d).take k).map bytesOf) (bytesOf (placesL d)[k]) = false := by
            have h3 := hU3
            have e3 : (placesL d).map bytesOf = ((placesL d).take k).map bytesOf ++ (bytesOf (placesL d)[k] :: ((placesL d).drop (k + 1)).map bytesOf) := by
              conv => lhs; rw [← List.take_append_drop k (placesL d)]
              rw [List.map_append, ← List.getElem_cons_drop hlt, List.map_cons]
            rw [e3, List.nodup_append] at h3
            simp only [inSet, List.any_eq_false]
            intro y hy
            have := h3.2.2 y hy _ (List.mem_cons_self ..)
            simpa using this
          have htk := Lib.hid (take_snoc_map (placesL d) k hlt)
          obtain ⟨x, hx⟩ : ∃ x, x = (placesL d)[k] := ⟨_, rfl⟩
          rw [← hx] at hcell hpk huk hnd htk
          have hzk := bk.size
          have hl1 := uk.look hpk
          rw [huk] at hl1
          simp only [Bool.false_eq_true, if_false, valU] at hl1
          have ux := uk.kept (World.grownBy_alloc wr (.cells #[.int .i64 0, .int .i64 0] 195) none) (by simp)
          have sx := sk.kept (World.grownBy_alloc wr (.cells #[.int .i64 0, .int .i64 0] 195) none) (by simp)
          have hl2 := sx.look hpk
          rw [show x.data.toList = bytesOf x from rfl, hnd] at hl2
          obtain ⟨w5, r5, s5, g5⟩ := sx.put (by unfold maxLen; omega) hpk
          have hne : (some w.heap.size : Option Nat) ≠ some wm.heap.size := by intro e; have := Option.some.inj e; omega
          have u5 := ux.kept g5 hne
          have b5 := (bk.alloc hzk (.cells #[.int .i64 0, .int .i64 0] 195)).grown g5 (by simp; omega) (fun k e => by have := Option.some.inj e; omega)
          have m5 := (mk.alloc (.cells #[.int .i64 0, .int .i64 0] 195)).grown g5 (fun r e => .inl (by have := Option.some.inj e; omega))
          clear huk hnd hx hU1 hU2 hU3
          go_wp2
          go_roundw
          case rel => exact ⟨k + 1, by omega, by go_num, u5, by rw [htk.out]; exact s5, b5, m5⟩
          case measure => simp [intOf]; omega
        · obtain rfl : k = (placesL d).length := by omega
          go_wp2
          go_ret
          exact ⟨rfl, bk⟩

end Go.Proofs.YtjmlaeofjjhfmaaGreat
