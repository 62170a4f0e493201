/- channelsOf. -/
import Derived.Test.YtjmlaeofjjhfmaaGreatP06
set_option linter.unusedVariables false
set_option linter.unusedSimpArgs false
namespace Go.Proofs.YtjmlaeofjjhfmaaGreat
open Go.RowKit Go.Maps

def chStep (l : List ByteArray) (x : ByteArray) : List ByteArray := if inSet (l.map bytesOf) (bytesOf x) then l else l ++ [x]
def chFold (l xs : List ByteArray) : List ByteArray := xs.foldl chStep l
theorem chFold_snoc (l xs : List ByteArray) (x : ByteArray) : chFold l (xs ++ [x]) = chStep (chFold l xs) x := by simp [chFold]
theorem chFold_len (l xs : List ByteArray) : (chFold l xs).length ≤ l.length + xs.length := by
  induction xs generalizing l with
  | nil => simp [chFold]
  | cons x xs ih =>
    have := ih (chStep l x)
    have h2 : (chStep l x).length ≤ l.length + 1 := by unfold chStep; split <;> simp
    simp only [chFold, List.foldl_cons, List.length_cons] at this ⊢
    omega
def gtexts (g : List Clause) : List ByteArray := g.flatMap (fun c => c.joins.map (·.text))
def alltexts (gs : List (List Clause)) : List ByteArray := gs.flatMap gtexts
def channelsL (d : List Clause) : List ByteArray := chFold [] (alltexts (groupsL d))

theorem alltexts_take (gs : List (List Clause)) (k : Nat) (h : k < gs.length) : alltexts (gs.take (k + 1)) = alltexts (gs.take k) ++ gtexts gs[k] := by
  unfold alltexts; rw [List.take_succ_eq_append_getElem h, List.flatMap_append]; simp
theorem gtexts_take (g : List Clause) (k : Nat) (h : k < g.length) : gtexts (g.take (k + 1)) = gtexts (g.take k) ++ (g[k]).joins.map (·.text) := by
  unfold gtexts; rw [List.take_succ_eq_append_getElem h, List.flatMap_append]; simp

theorem set_row_ne {w : World} {b n : Nat} {acc : List (List UInt8)} {base e m : Nat} {v : Value} {xs : List Value} (hs : SetAt w b n acc) (ho : w.ownsRow base e 1 v m xs) : v.ownBlock ≠ some b := by
  obtain ⟨es, clock, hb, _⟩ := hs
  obtain ⟨_, ⟨rfl, _⟩ | ⟨g, cap, cur, rfl, _, hg, _⟩⟩ := ho
  · simp [Value.ownBlock]
  · intro e; simp [Value.ownBlock] at e; subst e; rw [hb] at hg; cases hg

theorem row_of_owns' {w : World} {B e : Nat} {v : Value} {vs : List Value} (h : w.ownsRow B e 1 v vs.length vs) : RowAt B w.heap.size w v vs := by
  obtain ⟨_, ⟨rfl, h2⟩ | ⟨g, cap, cur, rfl, hBg, hg, hn, _, hsz, htk⟩⟩ := h
  · exact ⟨none, 0, by rw [h2], .inl (List.eq_nil_of_length_eq_zero h2)⟩
  · refine ⟨_, cap, rfl, .inr ⟨g, rfl, hBg, (Array.getElem?_eq_some_iff.1 hg).1, fun j hj => ?_⟩⟩
    simp only [Nat.mul_one] at htk hsz
    have e1 : vs[j] = cur[j]'(by omega) := by
      have : vs[j]? = (cur.toList.take vs.length)[j]? := by rw [htk]
      rw [List.getElem?_take_of_lt hj] at this
      simpa [hj, show j < cur.size by omega] using this
    simp [World.cell?, hg, e1, show j < cur.size by omega]

/-- What the loops of channelsOf keep: the list (its row from block A on) and the set. -/
def ChInv (W0 : World) (A bset : Nat) (v : Value) (wr : World) (l : List ByteArray) : Prop :=
  Below W0.heap.size W0 wr ∧ SetAt wr bset l.length (l.map bytesOf) ∧ wr.ownsRow A 9 1 v l.length (strVals l) ∧ (∀ t ∈ l, t.size ≤ maxLen) ∧ W0.heap.size ≤ bset ∧ W0.heap.size ≤ A ∧ A ≤ wr.heap.size

theorem ChInv.alloc {W0 : World} {A bset : Nat} {v : Value} {wr : World} {l : List ByteArray} (h : ChInv W0 A bset v wr l) (o : Obj) : ChInv W0 A bset v (wr.alloc o) l := by
  obtain ⟨h1, h2, h3, h4, h5, h6, h7⟩ := h
  exact ⟨h1.alloc h1.size o, h2.kept (World.grownBy_alloc wr o none) (by simp), h3.alloc o, h4, h5, h6, by simp; omega⟩

theorem ChInv.step {W0 : World} {A bset : Nat} {v v' : Value} {wr w1 w2 : World} {l : List ByteArray} {x : ByteArray} (h : ChInv W0 A bset v wr l) (hx : x.size ≤ maxLen)
    (s1 : SetAt w1 bset (l.length + 1) (l.map bytesOf ++ [bytesOf x])) (g1 : wr.grownBy w1 (some bset)) (o : Obj)
    (o2 : w2.ownsRow A 9 1 v' (l.length + 1) (strVals l ++ [.string x])) (g2 : (w1.alloc o).grownBy w2 v.ownBlock) : ChInv W0 A bset v' w2 (l ++ [x]) := by
  obtain ⟨h1, h2, h3, h4, h5, h6, h7⟩ := h
  have hne := set_row_ne h2 h3
  have e1 := g1.size
  have e2 := g2.size
  simp at e2
  have s1' := s1.kept (World.grownBy_alloc w1 o none) (by simp)
  refine ⟨(((h1.grown g1 h1.size (fun k e => by cases e; exact h5)).alloc (by have := h1.size; omega) o).grown g2 (by have := h1.size; simp; omega) (fun k e => by have := (h3.lt k e).1; omega)), ?_, ?_, ?_, h5, h6, by omega⟩
  · rw [List.length_append, List.map_append]; exact s1'.kept g2 (fun e => hne e.symm)
  · rw [List.length_append]; simpa [strVals] using o2
  · intro t ht; rcases List.mem_append.1 ht with ht | ht
    · exact h4 t ht
    · simp at ht; rw [ht]; exact hx

theorem ownsRow_low {w : World} {a b e n : Nat} {v : Value} {xs : List Value} (h : w.ownsRow a e 1 v n xs) (hb : b ≤ a) : w.ownsRow b e 1 v n xs := by
  obtain ⟨h1, h2 | ⟨g, cap, cur, h3, h4, r⟩⟩ := h
  · exact ⟨h1, .inl h2⟩
  · exact ⟨h1, .inr ⟨g, cap, cur, h3, by omega, r⟩⟩

/-- The cells of the blocks between lo and w1's size read as in w1. -/
def Mid (lo : Nat) (w1 wr : World) : Prop := w1.heap.size ≤ wr.heap.size ∧ ∀ b o v, lo < b → b < w1.heap.size → w1.cell? ⟨b, o, none⟩ = some v → wr.cell? ⟨b, o, none⟩ = some v
theorem Mid.refl (lo : Nat) (w : World) : Mid lo w w := ⟨Nat.le_refl _, fun _ _ _ _ _ h => h⟩
theorem Mid.grown {lo : Nat} {w1 wr w2 : World} {row : Option Nat} (h : Mid lo w1 wr) (g : wr.grownBy w2 row) (hr : ∀ r, row = some r → r ≤ lo ∨ w1.heap.size ≤ r) : Mid lo w1 w2 := by
  refine ⟨Nat.le_trans h.1 g.size, fun b o v h1 h2 h3 => ?_⟩
  have h4 := h.2 b o v h1 h2 h3
  refine (World.cell?_of_block (w := wr) (g.block b (by have := h.1; omega) (by intro e; have := hr b e.symm; omega))).trans h4
theorem Mid.alloc {lo : Nat} {w1 wr : World} (h : Mid lo w1 wr) (o : Obj) : Mid lo w1 (wr.alloc o) := h.grown (World.grownBy_alloc wr o none) (fun r e => by cases e)

set_option maxRecDepth 10000 in
set_option maxHeartbeats 2000000 in
theorem channels_any (B : Nat) (u : World) (d : List Clause) (hds : csize d ≤ 900) (hN : (alltexts (groupsL d)).length ≤ 100000) (a : Option Addr) (cap : Nat) (w : World) (hu : KeptC B u w) (hBs : B ≤ w.heap.size)
    (hd : d.length = 0 ∨ ∃ b off, a = some ⟨b, off, none⟩ ∧ b < B ∧ ClausesAt B u b off d) :
    Calls Tryz.prog 76 #[.slice a d.length cap] w fun e w' => ∃ r, e = .returned r ∧ w'.ownsRow w.heap.size 9 1 r (channelsL d).length (strVals (channelsL d)) ∧ (∀ t ∈ channelsL d, t.size ≤ maxLen) ∧ Below w.heap.size w w' := by
  obtain ⟨i0, hi, hz0, hz1, hz2⟩ := info_parts info9
  have hmm := @run_makeMap Tryz.prog
  have s0 := SetAt.made w
  have b0 : Below w.heap.size w (w.alloc (.map #[] 0)) := (Below.refl _ w).alloc (Nat.le_refl _) _
  have hgr := groups_any B u (csize d) d (Nat.le_refl _) hds a cap (w.alloc (.map #[] 0)) (hu.trans ((Below.keptC b0).mono hBs)) (by simp; omega) hd (fun _ _ => trivial)
  go_enter Tryz.func76, Tryz.ntmps76
  go_wp2_with (go_at_call 129; refine hgr.mono ?_; clear hgr; rintro e w1 ⟨r, gv, rfl, hog, hg, hb1⟩; obtain ⟨ga, gcap, rfl, hgc⟩ := row_of_owns' hog)
  have hI0 : ChInv w w1.heap.size w.heap.size (.slice none 0 0) w1 [] := ⟨b0.trans (hb1.mono (by simp)), (s0.below hb1 (by simp)), World.ownsRow_nil _ _ _ _, by simp, Nat.le_refl _, by have := hb1.size; simp at this; omega, Nat.le_refl _⟩
  have hgl := Lib.hid hg.1
  have hgm : gv.length ≤ 901 := by have h1 := hg.1; have h2 := groupsI_len d; unfold csize at hds; simp [groupsL] at h1; omega
  go_loopw [3, 15] (fun v i wr => ∃ (k : Nat), k ≤ gv.length ∧ i = .int .i64 k ∧ ChInv w w1.heap.size w.heap.size v wr (chFold [] (alltexts ((groupsL d).take k))) ∧ Mid w.heap.size w1 wr) (fun _ i _ => gv.length - (intOf i).toNat)
  case atStart => exact ⟨0, by omega, rfl, hI0, Mid.refl _ _⟩
  case round =>
    obtain ⟨k1, hk1, rfl, hI1, hW1⟩ := hrel
    by_cases hlt1 : k1 < gv.length
    · have hlt1' : k1 < (groupsL d).length := by have := hgl.out; omega
      obtain ⟨a2, cap2, hv2, hl2, hd2⟩ := hg.2 k1 hlt1 hlt1'
      rcases hgc with h0 | ⟨gb, rfl, hgA, hgB, hcl⟩
      · subst h0; simp at hlt1
      have hcell := hW1.2 gb (0 + k1) _ (by simp at hgA; omega) hgB (hcl k1 hlt1)
      rw [hv2, Nat.zero_add] at hcell
      have hTT := alltexts_take (groupsL d) k1 hlt1'
      obtain ⟨g, hgg⟩ : ∃ g, g = (groupsL d)[k1] := ⟨_, rfl⟩
      rw [← hgg] at hl2 hd2 hcell hTT
      have hTN : (alltexts ((groupsL d).take k1)).length + (gtexts g).length ≤ 100000 := by
        have e : alltexts (groupsL d) = alltexts ((groupsL d).take (k1 + 1)) ++ alltexts ((groupsL d).drop (k1 + 1)) := by
          rw [← List.take_append_drop (k1 + 1) (groupsL d)]; unfold alltexts; rw [List.flatMap_append]; simp
        rw [e, hTT] at hN; simp at hN; omega
      obtain ⟨T, hT⟩ : ∃ T, T = alltexts ((groupsL d).take k1) := ⟨_, rfl⟩
      rw [← hT] at hTT hTN hI1
      have HTT := Lib.hid hTT; clear hTT hT hgg hcl hv2
      obtain ⟨wo, rfl⟩ : ∃ wo : World, wo = wr := ⟨_, rfl⟩
      go_wp2
      go_loopw [3, 21] (fun v i wq => ∃ (k : Nat), k ≤ g.length ∧ i = .int .i64 k ∧ ChInv w w1.heap.size w.heap.size v wq (chFold [] (T ++ gtexts (g.take k))) ∧ Mid w.heap.size w1 wq) (fun _ i _ => g.length - (intOf i).toNat)
      case atStart => exact ⟨0, by omega, rfl, by simpa [gtexts] using hI1, hW1⟩
      case round =>
        obtain ⟨k2, hk2, rfl, hI2, hW2⟩ := hrel
        by_cases hlt2 : k2 < g.length
        · rcases hd2 with h0 | ⟨b, off, rfl, hb, hcls⟩
          · omega
          obtain ⟨cs, hcs, hce⟩ := hcls.get g b off k2 hlt2
          have hGT := gtexts_take g k2 hlt2
          obtain ⟨c, hc⟩ : ∃ c, c = g[k2] := ⟨_, rfl⟩
          rw [← hc] at hce hGT
          have hTN2 : T.length + (gtexts (g.take k2)).length + (c.joins).length ≤ 100000 := by
            have e : gtexts g = gtexts (g.take (k2 + 1)) ++ gtexts (g.drop (k2 + 1)) := by
              rw [← List.take_append_drop (k2 + 1) g]; unfold gtexts; rw [List.flatMap_append]; simp
            rw [e, hGT] at hTN; simp at hTN; omega
          obtain ⟨f, t, js, dd, kk⟩ := c
          unfold ClauseAt at hce
          obtain ⟨htz, _, _, _, rfl, ⟨a0, p0, rfl, hjl, hjs⟩, ⟨a1, p1, rfl, _⟩, ⟨a3, p3, rfl, _⟩⟩ := hce
          have hBq := hI2.1
          obtain ⟨c0, c1, c2, c3, c4⟩ := cells5 ((hcs.keep hu hb).below hBq (by omega))
          simp only [Clause.joins] at hGT hTN2
          obtain ⟨T2, hT2⟩ : ∃ T2, T2 = T ++ gtexts (g.take k2) := ⟨_, rfl⟩
          have hGT' : T ++ gtexts (g.take (k2 + 1)) = T2 ++ js.map (·.text) := by rw [hGT, hT2, List.append_assoc]
          have hT2l : T2.length + js.length ≤ 100000 := by rw [hT2, List.length_append]; omega
          rw [← hT2] at hI2
          have HGT := Lib.hid hGT'; clear hGT hGT' hT2 hTN2 hTN hcs
          obtain ⟨wp, rfl⟩ : ∃ wp : World, wp = wr := ⟨_, rfl⟩
          have hIb := hI2.alloc (.cells #[.int .i64 f, .string t, .slice a0 js.length p0, .slice a1 dd.length p1, .slice a3 kk.length p3] 130)
          have hWb : Mid w.heap.size w1 (wp.alloc (.cells #[.int .i64 f, .string t, .slice a0 js.length p0, .slice a1 dd.length p1, .slice a3 kk.length p3] 130)) := hW2.alloc _
          go_wp2
          go_loopw [3, 28] (fun v i wq => ∃ (k : Nat), k ≤ js.length ∧ i = .int .i64 k ∧ ChInv w w1.heap.size w.heap.size v wq (chFold [] (T2 ++ (js.take k).map (·.text))) ∧ Mid w.heap.size w1 wq) (fun _ i _ => js.length - (intOf i).toNat)
          case atStart => exact ⟨0, by omega, rfl, by simpa using hIb, hWb⟩
          case round =>
            obtain ⟨k3, hk3, rfl, hI3, hW3⟩ := hrel
            by_cases hlt3 : k3 < js.length
            · rcases hjs with h0 | ⟨mb, moff, rfl, hmb, hms⟩
              · omega
              obtain ⟨mcs, hmcs, hmz, mv, rfl, hmn⟩ := hms.get js mb moff k3 hlt3
              have hm3 : T2 ++ (js.take (k3 + 1)).map (·.text) = T2 ++ (js.take k3).map (·.text) ++ [(js[k3]).text] := by
                rw [List.take_succ_eq_append_getElem hlt3, List.map_append, List.append_assoc]; rfl
              obtain ⟨x, hx⟩ : ∃ x, x = (js[k3]).text := ⟨_, rfl⟩
              rw [← hx] at hm3 hmz hmcs
              obtain ⟨T3, hT3⟩ : ∃ T3, T3 = T2 ++ (js.take k3).map (·.text) := ⟨_, rfl⟩
              have hT3l : T3.length ≤ 100000 := by rw [hT3, List.length_append, List.length_map, List.length_take]; omega
              rw [← hT3] at hm3 hI3
              obtain ⟨na, nc, rfl, _⟩ := hmn
              obtain ⟨d0, d1⟩ := cells2 ((hmcs.keep hu hmb).below hI3.1 (by omega))
              obtain ⟨l, hl⟩ : ∃ l, l = chFold [] T3 := ⟨_, rfl⟩
              have hll : l.length ≤ 100000 := by rw [hl]; have := chFold_len [] T3; simp at this; omega
              have hm4 : chFold [] (T2 ++ (js.take (k3 + 1)).map (·.text)) = chStep l x := by rw [hm3, chFold_snoc, hl]
              rw [← hl] at hI3
              have HM := Lib.hid hm4; clear hm3 hm4 hT3 hl hmcs hx
              have hIx := hI3.alloc (.cells #[.string x, .slice na (js[k3]).names.length nc] 144)
              have hlook := hIx.2.1.look hmz
              by_cases hin : inSet (l.map bytesOf) (bytesOf x) = true
              · have hstep : chStep l x = l := by unfold chStep; rw [if_pos hin]
                have HS := Lib.hid hstep; clear hstep
                have hlook' : (Instr.lookup 70 (.map (some w.heap.size)) (.string x) false).run Tryz.prog (wr.alloc (.cells #[.string x, .slice na (js[k3]).names.length nc] 144)) = .ok (.bool true) (wr.alloc (.cells #[.string x, .slice na (js[k3]).names.length nc] 144)) := by rw [hlook]; rw [show inSet (l.map bytesOf) x.data.toList = true from hin]
                clear hlook hin
                go_wp2
                go_roundw
                case rel => exact ⟨k3 + 1, by omega, by go_num, by rw [HM.out, HS.out]; exact hIx, hW3.alloc _⟩
                case measure => simp [intOf]; omega
              · have hstep : chStep l x = l ++ [x] := by unfold chStep; rw [if_neg hin]
                have HS := Lib.hid hstep; clear hstep
                have hlook' : (Instr.lookup 70 (.map (some w.heap.size)) (.string x) false).run Tryz.prog (wr.alloc (.cells #[.string x, .slice na (js[k3]).names.length nc] 144)) = .ok (.bool false) (wr.alloc (.cells #[.string x, .slice na (js[k3]).names.length nc] 144)) := by rw [hlook]; rw [show inSet (l.map bytesOf) x.data.toList = false from by cases h : inSet (l.map bytesOf) (bytesOf x) with | true => exact absurd h hin | false => exact h]
                clear hlook hin
                obtain ⟨w5, r5, s5, g5⟩ := hIx.2.1.put (by unfold maxLen; omega) hmz
                have hsl := hI3.2.1.lt
                have hcx : w5.cell? ⟨wr.heap.size, 0, none⟩ = some (.string x) := by
                  refine (World.cell?_of_block (w := wr.alloc (.cells #[.string x, .slice na (js[k3]).names.length nc] 144)) (g5.block wr.heap.size (by simp) (by intro e; have e1 := Option.some.inj e; omega))).trans ?_
                  rw [World.cell?_alloc_at _ _ _ _ rfl]; rfl
                have hne := set_row_ne hIx.2.1 hIx.2.2.1
                have ho5 := ownsRow_kept hIx.2.2.1 g5 (fun g hg e => hne (by rw [hg]; exact e.symm))
                have hz5 := g5.size
                simp at hz5
                have hwz := hI3.1.size
                have hB5 : Mid w.heap.size w1 w5 := (hW3.alloc _).grown g5 (fun r e => by cases e; exact .inl (Nat.le_refl _))
                have h57 := hIx.2.2.2.2.2.2
                simp at h57
                go_wp2_with (show wpList _ _ _ (⟨some 44, _, _, _, _, _⟩ :: _) _ _; refine wpList_append_own _ rfl (.tmp 40) (.tmp 43) 22 rfl w1.heap.size 9 i0 (.string ⟨#[]⟩) 1 16 Tryz.underlying22 hi hz0 hz1 hz2 rfl (by decide) _ _ _ rfl (ho5.alloc _) ⟨w5.heap.size, 0, none⟩ 1 1 [.string x] rfl rfl (cell_one_at _ _ _ _ rfl) (by simp [Value.oneCell']) (by unfold maxLen; omega) (by omega) (by simp; omega) ?_; intro v6 w6 o6 g6 _)
                have hIn := hIx.step hmz s5 g5 _ o6 g6
                go_roundw
                case rel => exact ⟨k3 + 1, by omega, by go_num, by rw [HM.out, HS.out]; exact hIn, (hB5.alloc _).grown g6 (fun k e => .inr (ho5.lt k e).1)⟩
                case measure => simp [intOf]; omega
            · obtain rfl : k3 = js.length := by omega
              rw [List.take_length, ← HGT.out] at hI3
              go_wp2
              go_roundw
              case rel => exact ⟨k2 + 1, by omega, by go_num, hI3, hW3⟩
              case measure => simp [intOf]; omega
        · obtain rfl : k2 = g.length := by omega
          rw [List.take_length] at hI2
          go_wp2
          go_roundw
          case rel => exact ⟨k1 + 1, by omega, by go_num, by rw [HTT.out]; exact hI2, hW2⟩
          case measure => simp [intOf]; omega
    · obtain rfl : k1 = gv.length := by omega
      have e : (groupsL d).take gv.length = groupsL d := List.take_of_length_le (by have := hgl.out; omega)
      rw [e] at hI1
      obtain ⟨h1, h2, h3, h4, h5, h6, h7⟩ := hI1
      go_wp2
      go_ret
      exact ⟨_, rfl, ownsRow_low h3 h6, h4, h1⟩

end Go.Proofs.YtjmlaeofjjhfmaaGreat
