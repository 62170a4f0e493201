/- free: the walk. -/
import Derived.Test.YtjmlaeofjjhfmaaGreatM15
import Derived.Test.YtjmlaeofjjhfmaaGreatM00
import Derived.Shelf.SlIter.Nil
import Derived.Shelf.SortM.Plain
import Derived.Shelf.SortM.SortNone
import Derived.Ground.GgzProg
import Derived.Ground.SlgmProg
set_option linter.unusedVariables false
set_option linter.unusedSimpArgs false
namespace Go.Proofs.YtjmlaeofjjhfmaaGreat
open Go.RowKit Go.Shelf Go.Maps

theorem wpList_delete_eq {w : World} {ops : Array Oper} {rest : List Oper} {o : Oper} {a : Act} {Q : Exit → Act → World → Prop} (hgd : o.guard = none) (s x : Operand) (t t' : TypeId)
    (ho : o.op = .call { callee := .builtin .delete, args := #[s, x], argTypes := #[t, t'] }) {v1 v2 v' : Value} {w' : World} (h1 : a.eval s = v1) (h2 : a.eval x = v2)
    (hr : (Builtin.delete_ #[t, t'] o.type #[v1, v2]).run Tryz.prog w = .ok v' w') (h : wpList Tryz.prog ops Q rest (a.put o.dst v') w') :
    wpList Tryz.prog ops Q (o :: rest) a w := by
  refine wpList_plain hgd fun K hK => ?_
  unfold Oper.wp execOp
  simp only [ho, resolve, invoke, builtin, Sem.run_bind, Sem.run_pure, Result.andThen_ok, List.map_toArray, List.map_cons, List.map_nil, h1, h2, hr]
  exact hK _ _ h

theorem SetF.cell_ne {w : World} {b n : Nat} {f : List UInt8 → Bool} (h : SetF w b n f) {c o : Nat} {v : Value} (hc : w.cell? ⟨c, o, none⟩ = some v) : c ≠ b := by
  obtain ⟨D, ⟨es, clock, hb, _⟩, _⟩ := h
  intro e; subst e; simp [World.cell?, hb] at hc

/-- All cells read as they did. -/
def CellsKept (w w' : World) : Prop := w.heap.size ≤ w'.heap.size ∧ ∀ b o v, w.cell? ⟨b, o, none⟩ = some v → w'.cell? ⟨b, o, none⟩ = some v
theorem CellsKept.refl (w : World) : CellsKept w w := ⟨Nat.le_refl _, fun _ _ _ h => h⟩
theorem CellsKept.turned {w0 w w' : World} {b n : Nat} {f : List UInt8 → Bool} (h : CellsKept w0 w) (hs : SetF w b n f) (g : w.grownBy w' (some b)) : CellsKept w0 w' := by
  refine ⟨Nat.le_trans h.1 g.size, fun c o v hc => ?_⟩
  have h1 := h.2 c o v hc
  have h2 := hs.cell_ne h1
  exact (World.cell?_of_block (w := w) (g.block c (lt_of_cell h1) (fun e => h2 (Option.some.inj e)))).trans h1

theorem nodesL_len_take (p : Part) (k : Nat) (h : k < p.parts.length) : (nodesL 1 (p.parts.take (k + 1))).length = (nodesL 1 (p.parts.take k)).length + (p.parts[k]).size := by
  rw [nodesL_take 1 p.parts k h, List.length_append, nodesOf_len 1 0]; rfl
theorem any_take {α : Type} (l : List α) (f : α → Bool) (k : Nat) (h : k < l.length) : (l.take (k + 1)).any f = ((l.take k).any f || f l[k]) := by
  rw [List.take_succ_eq_append_getElem h, List.any_append]; simp

theorem empty_of {T : ByteArray} (h : T.toList.isEmpty = true) : (bytesOf T).isEmpty = true := by
  rw [ByteArray.toList_eq] at h; exact h
theorem not_empty_of {T : ByteArray} (h : T.toList.isEmpty = false) : (bytesOf T).isEmpty = false := by
  rw [ByteArray.toList_eq] at h; exact h
set_option maxRecDepth 10000 in
set_option maxHeartbeats 1000000 in
theorem free_any (B : Nat) (u : World) : ∀ (s : Nat) (p : Part), p.size ≤ s → s ≤ 1000 → p.allSmall → p.allBind → ∀ (v : Value) (w : World), PartAt B u v p → KeptC B u w → B ≤ w.heap.size →
    Calls Tryz.prog 75 #[v] w fun e w' => ∃ b, e = .returned (.map (some b)) ∧ w.heap.size ≤ b ∧ SetF w' b p.size (freeN s p) ∧ Below w.heap.size w w' := by
  intro s
  induction s with
  | zero => intro p hp; exact absurd (by rw [Part.size, nodesOf_eq]; simp) (Nat.not_lt.2 hp)
  | succ s ih =>
    intro p hps hs1 hsm hbd v w hv hu hBs
    have hz0 := standsP_size B u p v hv
    obtain ⟨g1, g2, g3, cs, ty, rfl, hg, hparts, hbinds, hstands⟩ := methods_any B u p v (hsm p (by rw [nodesOf_eq]; simp)) (hbd p (by rw [nodesOf_eq]; simp)) hv
    have hm1 : ∀ W, (method 347 ty (.agg cs.toArray) "cabotage/term.parts").run Tryz.prog W = .ok (g1, .agg cs.toArray) W := by
      rcases hg with ⟨rfl, rfl, rfl, rfl⟩ | ⟨rfl, rfl, rfl, rfl⟩ | ⟨rfl, rfl, rfl, rfl⟩ <;> exact fun W => by kernel_rfl
    have hm2 : ∀ W, (method 347 ty (.agg cs.toArray) "cabotage/term.binds").run Tryz.prog W = .ok (g2, .agg cs.toArray) W := by
      rcases hg with ⟨rfl, rfl, rfl, rfl⟩ | ⟨rfl, rfl, rfl, rfl⟩ | ⟨rfl, rfl, rfl, rfl⟩ <;> exact fun W => by kernel_rfl
    have hm3 : ∀ W, (method 347 ty (.agg cs.toArray) "cabotage/term.stands").run Tryz.prog W = .ok (g3, .agg cs.toArray) W := by
      rcases hg with ⟨rfl, rfl, rfl, rfl⟩ | ⟨rfl, rfl, rfl, rfl⟩ | ⟨rfl, rfl, rfl, rfl⟩ <;> exact fun W => by kernel_rfl
    have hc1 : ∀ args w, (callFunc g1 args).run Tryz.prog w = .ok (.enter g1 args) w := by
      rcases hg with ⟨rfl, rfl, rfl, rfl⟩ | ⟨rfl, rfl, rfl, rfl⟩ | ⟨rfl, rfl, rfl, rfl⟩
      · exact enters_of Tryz.func216 (by kernel_rfl) rfl
      · exact enters_of Tryz.func219 (by kernel_rfl) rfl
      · exact enters_of Tryz.func230 (by kernel_rfl) rfl
    have hc2 : ∀ args w, (callFunc g2 args).run Tryz.prog w = .ok (.enter g2 args) w := by
      rcases hg with ⟨rfl, rfl, rfl, rfl⟩ | ⟨rfl, rfl, rfl, rfl⟩ | ⟨rfl, rfl, rfl, rfl⟩
      · exact enters_of Tryz.func215 (by kernel_rfl) rfl
      · exact enters_of Tryz.func218 (by kernel_rfl) rfl
      · exact enters_of Tryz.func229 (by kernel_rfl) rfl
    have hc3 : ∀ args w, (callFunc g3 args).run Tryz.prog w = .ok (.enter g3 args) w := by
      rcases hg with ⟨rfl, rfl, rfl, rfl⟩ | ⟨rfl, rfl, rfl, rfl⟩ | ⟨rfl, rfl, rfl, rfl⟩
      · exact enters_of Tryz.func217 (by kernel_rfl) rfl
      · exact enters_of Tryz.func220 (by kernel_rfl) rfl
      · exact enters_of Tryz.func231 (by kernel_rfl) rfl
    have hsp := small_parts (hsm p (by rw [nodesOf_eq]; simp))
    have hmm := @run_makeMap Tryz.prog
    have s0 := SetF.made w
    have b0 : Below w.heap.size w (w.alloc (.map #[] 0)) := (Below.refl _ w).alloc (Nat.le_refl _) _
    have hp1 := hparts (w.alloc (.map #[] 0)) (hu.trans ((Below.keptC b0).mono hBs)) (by simp; omega)
    have hpsz := Lib.hid (size_eq p 1)
    have HV := Lib.hid hv
    clear hparts hv hg
    go_enter Tryz.func75, Tryz.ntmps75
    go_wp2_with (refine hp1.mono ?_; clear hp1; rintro e w1 ⟨r, vs, rfl, hrow, hpsv, hb1⟩; obtain ⟨ra, rcap, rfl, hra⟩ := row_of_owns hrow)
    have hB1 : Below w.heap.size w w1 := b0.trans (hb1.mono (by simp))
    have hs1' : SetF w1 w.heap.size 0 (fun _ => false) := s0.later hb1
    have hlen := Lib.hid hpsv.1
    have hsz1 := hb1.size
    simp at hsz1
    have hvl : vs.length ≤ 300 := by have := hlen.out; omega
    go_loopw [13] (fun i wr => ∃ (k : Nat), k ≤ vs.length ∧ i = .int .i64 k ∧ SetF wr w.heap.size (nodesL 1 (p.parts.take k)).length (fun x => (p.parts.take k).any (fun q => freeN s q x)) ∧ Below w.heap.size w wr ∧ Mid w.heap.size w1 wr) (fun i _ => vs.length - (intOf i).toNat)
    case atStart => exact ⟨0, by omega, rfl, by simpa [nodesL] using hs1', hB1, Mid.refl _ _⟩
    case round =>
      obtain ⟨k, hk', rfl, hset, hB, hW⟩ := hrel
      by_cases hlt : k < vs.length
      · have hlt' : k < p.parts.length := by have := hlen.out; omega
        rcases hra with rfl | ⟨rb, rfl, hbA, hbB, hcl⟩
        · simp at hlt
        have hcell := hW.2 rb (0 + k) _ (by simp at hbA; omega) hbB (hcl k hlt)
        simp only [Nat.zero_add] at hcell
        have hq := hpsv.2.2 k hlt hlt'
        have hqs := size_lt (List.getElem_mem hlt')
        have hws := hB.size
        have ihk := ih (p.parts[k]) (by omega) (by omega) (hsm.part (List.getElem_mem hlt')) (hbd.part (List.getElem_mem hlt')) vs[k] wr hq (hu.trans ((Below.keptC hB).mono hBs)) (by omega)
        have hcnt := nodesL_len_take p k hlt'
        have hmore := nodesL_take_le 1 p.parts (k + 1)
        have hps1 := hpsz.out
        have hany := Lib.hid (fun x => any_take p.parts (fun q => freeN s q x) k hlt')
        obtain ⟨f1, hf1⟩ : ∃ f, f = (fun x => (p.parts.take k).any (fun q => freeN s q x)) := ⟨_, rfl⟩
        rw [← hf1] at hset
        obtain ⟨f2, hf2⟩ : ∃ f, f = freeN s p.parts[k] := ⟨_, rfl⟩
        rw [← hf2] at ihk
        obtain ⟨vk, hvk⟩ : ∃ x, x = vs[k] := ⟨_, rfl⟩
        rw [← hvk] at ihk hcell
        have HF1 := Lib.hid hf1
        have HF2 := Lib.hid hf2
        have hroom : (nodesL 1 (p.parts.take k)).length + (p.parts[k]).size ≤ 1000 := by omega
        have HC := Lib.hid hcnt
        clear hf1 hf2 hvk hq hcl hcnt hmore hqs hps1
        go_wp2_with (go_at_call 75; refine ihk.mono ?_; clear ihk; rintro e w3 ⟨b2, rfl, hb2, hs2, hbl⟩)
        have hcopy := (hset.later hbl).copy hs2 (by have := hset.lt; omega) (by unfold maxLen; omega)
        go_wp2_with (go_at_call 86; refine hcopy.mono ?_; clear hcopy; rintro e w4 ⟨rfl, h4, g4⟩)
        have hB4 : Below w.heap.size w w4 := (hB.trans (hbl.mono hws)).grown g4 (by have := hbl.size; omega) (fun r e => by have := Option.some.inj e; omega)
        have hW4 : Mid w.heap.size w1 w4 := (hW.grown (grown_of_below hbl) (fun r e => by cases e)).grown g4 (fun r e => .inl (by have := Option.some.inj e; omega))
        go_roundw
        case rel => exact ⟨k + 1, by omega, by go_num, by rw [HC.out]; exact h4.congr (fun x => by rw [hany.out x, HF1.out, HF2.out]), hB4, hW4⟩
        case measure => simp [intOf]; omega
      · obtain rfl : k = vs.length := by omega
        have e1 : p.parts.take vs.length = p.parts := List.take_of_length_le (by have := hlen.out; omega)
        rw [e1] at hset
        obtain ⟨wm, rfl⟩ : ∃ wm : World, wm = wr := ⟨_, rfl⟩
        have hwm := hB.size
        have hp2 := hbinds wm (hu.trans ((Below.keptC hB).mono hBs)) (by omega)
        obtain ⟨F, hF⟩ : ∃ f, f = (fun x => p.parts.any (fun q => freeN s q x)) := ⟨_, rfl⟩
        rw [← hF] at hset
        obtain ⟨L, hL⟩ : ∃ L, L = bindsP p := ⟨_, rfl⟩
        rw [← hL] at hp2
        obtain ⟨N1, hN1⟩ : ∃ n, n = (nodesL 1 p.parts).length := ⟨_, rfl⟩
        rw [← hN1] at hset
        have hpsz' := Lib.hid (show p.size = 1 + N1 by rw [hN1]; exact hpsz.out)
        have HF := Lib.hid hF
        have HL := Lib.hid hL
        clear hbinds hF hL hN1 hra hW hrow hpsv hb1 hs1' hlen hsz1
        go_wp2_with (refine hp2.mono ?_; clear hp2; rintro e w3 ⟨r2, rfl, hs2, hb3⟩; obtain ⟨a2, cap2, rfl, hl2, hz2, _, hcells⟩ := hs2)
        have hset3 := hset.later hb3
        have hB3 := hB.trans (hb3.mono hwm)
        go_loopw [25] (fun i wq => ∃ (k : Nat), k ≤ L.length ∧ i = .int .i64 k ∧ SetF wq w.heap.size N1 (fun x => F x && !((L.take k).any (fun b => x == bytesOf b))) ∧ Below w.heap.size w wq ∧ CellsKept w3 wq) (fun i _ => L.length - (intOf i).toNat)
        case atStart => exact ⟨0, by omega, rfl, hset3.congr (fun x => by simp), hB3, CellsKept.refl _⟩
        case round =>
          obtain ⟨k, hk2, rfl, hsk, hBk, hKk⟩ := hrel
          by_cases hlt : k < L.length
          · rcases hcells with h0 | ⟨b, off, rfl, hb, hc⟩
            · subst h0; simp at hlt
            have hcell := hKk.2 _ _ _ (hc k hlt)
            have hzk := hz2 _ (List.getElem_mem hlt)
            have hany := Lib.hid (fun x => any_take L (fun b => x == bytesOf b) k hlt)
            obtain ⟨y, hy⟩ : ∃ y, y = L[k] := ⟨_, rfl⟩
            rw [← hy] at hcell hzk hany
            obtain ⟨w5, r5, s5, g5⟩ := hsk.del hzk 0
            have hB5 := hBk.grown g5 hBk.size (fun r e => by have := Option.some.inj e; omega)
            have hK5 := hKk.turned hsk g5
            clear hy hc
            go_wp2
            refine ⟨⟨k + 1, by omega, by go_num, s5.congr (fun x => ?_), hB5, hK5⟩, by simp [intOf]; omega⟩
            rw [hany.out x]; cases F x <;> simp
          · obtain rfl : k = L.length := by omega
            rw [List.take_length] at hsk
            have hwk := hBk.size
            have hp3 := hstands wr
            obtain ⟨T, hT⟩ : ∃ T, T = standsP p := ⟨_, rfl⟩
            rw [← hT] at hp3 hz0
            have HT := Lib.hid hT
            clear hstands hT hcells
            obtain ⟨we, rfl⟩ : ∃ we : World, we = wr := ⟨_, rfl⟩
            cases hT0 : T.toList.isEmpty with
            | true =>
              go_wp2_with (refine hp3.mono ?_; clear hp3; rintro e w6 ⟨rfl, hb6⟩)
              go_ret
              refine ⟨_, rfl, Nat.le_refl _, (hsk.later hb6).mono (by have := hpsz'.out; omega) |>.congr (fun x => ?_), hBk.trans (hb6.mono hwk)⟩
              rw [freeN, ← HT.out, ← HL.out, HF.out, empty_of hT0]
              simp
            | false =>
              go_wp2_with (refine hp3.mono ?_; clear hp3; rintro e w6 ⟨rfl, hb6⟩; obtain ⟨w7, r7, s7, g7⟩ := (hsk.later hb6).put (by have := hpsz'.out; unfold maxLen; omega) hz0)
              go_ret
              refine ⟨_, rfl, Nat.le_refl _, s7.mono (by have := hpsz'.out; omega) |>.congr (fun x => ?_), (hBk.trans (hb6.mono hwk)).grown g7 (by have := hb6.size; omega) (fun r e => by have := Option.some.inj e; omega)⟩
              rw [freeN, ← HT.out, ← HL.out, HF.out, not_empty_of hT0]
              simp

end Go.Proofs.YtjmlaeofjjhfmaaGreat
/-
  DERIVED. MADE BY PROGRAM (lay-iter.mjs) off ytjmlaeofjjhfmaagreat.cut.gsa: THE SHELF's CONTRACTS ON 'slices.Sorted(maps.Keys(m))' LAID AT THIS DUMP: 1 map type. NO WALK OF THE LIBRARY's TEXT: each is one application of a contract over any P and ρ (Derived/Shelf/SlIter/, Derived/Shelf/SortM/).
-/
namespace Go.Proofs
open Go.RowKit Go.Maps Go.Sort Go.Shelf

-- maps.Keys[map[string]bool,string,bool] (function 74; its iterator 128) · slices.Sorted[string] (73) · slices.Sort[[]string,string] (127) · the map's type 70, the keys' 9

/-- slices.Sort's two contracts at this dump, at the fence that asks nothing. -/
theorem Tryz.sorts73 (m : Nat) : AnyZ.SortsIn Tryz.prog Tryz.sorted73_ren Fence.wide m :=
  ⟨fun blk off cap ss W hH hblk hsz => callsIn_wide.2 (AnyM.slices_Sort_string Tryz.sort127 blk off cap ss W hH hblk hsz),
   fun p cap W => callsIn_wide.2 (AnyM.slices_Sort_string_none Tryz.sort127 p cap W)⟩

/-- **maps.Keys[map[string]bool,string,bool], at whatever map, the nil one too:** a function value over ONE NEW BLOCK, which holds the map. -/
theorem Tryz.maps_Keys_74 (mb : Option Nat) (W : World) : CallsIn Fence.wide 5 Tryz.prog 74 #[.map mb] W fun e w' => e = .returned (.func (.func 128) #[] #[.pointer (some ⟨W.heap.size, 0, none⟩)]) ∧ w' = W.alloc (.cells #[.map mb] 70) :=
  AnyZ.keys_in Tryz.keys74 Fence.wide 5 trivial rfl mb W

set_option maxHeartbeats 1000000 in
/-- **slices.Sorted[string] AT WHAT maps.Keys[map[string]bool,string,bool] HANDED BACK FOR A MAP THAT IS NOT nil** ('w': the world AHEAD of maps.Keys' call): A NEW SLICE THAT HOLDS THE MAP's KEYS, SORTED; nil just where it has none; nothing that lay before has turned. -/
theorem Tryz.slices_Sorted_keys_73_74 {H : Type} (b nn : Nat) (D0 : DataW H) (R : Value → Option (DataW H × List MemPlace)) (w : World) (hown : w.ownsMap Tryz.prog 9 R b nn D0) (hmax : Maps.size D0 ≤ maxLen) (hbytes : Maps.size D0 * 16 ≤ 140737488355328) :
    CallsIn Fence.wide 5 Tryz.prog 73 #[.func (.func 128) #[] #[.pointer (some ⟨w.heap.size, 0, none⟩)]] (w.alloc (.cells #[.map (some b)] 70)) fun e w' => ∃ (v : Value) (ss : List (List UInt8)), e = .returned v ∧ ss.Perm (strKeys D0) ∧
      w'.ownsRow (w.alloc (.cells #[.map (some b)] 70)).heap.size 9 1 v ss.length ((ss.mergeSort (fun x y => decide (x ≤ y))).map encStr) ∧ (v = .slice none 0 0 ↔ ss = []) ∧ Below (w.alloc (.cells #[.map (some b)] 70)).heap.size (w.alloc (.cells #[.map (some b)] 70)) w' := by
  have hbl := hown.lt
  have hseq : SeqGives Fence.wide 2 Tryz.prog 128 #[.pointer (some ⟨w.heap.size, 0, none⟩)] encStr (fun ss => ss.Perm (strKeys D0)) (Maps.size D0) (w.alloc (.cells #[.map (some b)] 70)) :=
    AnyZ.keys_gives (ρ := Tryz.keys74_ren) { Tryz.keys74 with } Fence.wide _ trivial rfl (by omega) w.heap.size b nn D0 _ (by simp) (by simp) (by
      obtain ⟨es, clock, hb, Ft, hs, hD⟩ := hown
      exact ⟨es, clock, (Below.heap_alloc _ _ b hbl).trans hb, Ft, hs, hD⟩)
  exact AnyZ.sorted_in Tryz.sorted73 Fence.wide 5 trivial trivial trivial trivial rfl (by omega) (Tryz.sorts73 _) (enters_of Tryz.func127 (by kernel_rfl) rfl) 128 #[.pointer (some ⟨w.heap.size, 0, none⟩)] trivial (enters_of Tryz.func128 (by kernel_rfl) rfl) _ _ hmax hbytes _ hseq

set_option maxHeartbeats 1000000 in
/-- **.. AND FOR THE nil MAP: nil.** -/
theorem Tryz.slices_Sorted_keys_nil_73_74 (w : World) :
    CallsIn Fence.wide 5 Tryz.prog 73 #[.func (.func 128) #[] #[.pointer (some ⟨w.heap.size, 0, none⟩)]] (w.alloc (.cells #[.map none] 70)) fun e w' => ∃ (v : Value) (ss : List (List UInt8)), e = .returned v ∧ ss = [] ∧
      w'.ownsRow (w.alloc (.cells #[.map none] 70)).heap.size 9 1 v ss.length ((ss.mergeSort (fun x y => decide (x ≤ y))).map encStr) ∧ (v = .slice none 0 0 ↔ ss = []) ∧ Below (w.alloc (.cells #[.map none] 70)).heap.size (w.alloc (.cells #[.map none] 70)) w' := by
  have hseq : SeqGives Fence.wide 2 Tryz.prog 128 #[.pointer (some ⟨w.heap.size, 0, none⟩)] encStr (fun ss : List (List UInt8) => ss = []) 0 (w.alloc (.cells #[.map none] 70)) :=
    AnyZ.keys_gives_nil (ρ := Tryz.keys74_ren) { Tryz.keys74 with } Fence.wide _ trivial rfl w.heap.size _ (by simp) (by simp)
  exact AnyZ.sorted_in Tryz.sorted73 Fence.wide 5 trivial trivial trivial trivial rfl (by omega) (Tryz.sorts73 _) (enters_of Tryz.func127 (by kernel_rfl) rfl) 128 #[.pointer (some ⟨w.heap.size, 0, none⟩)] trivial (enters_of Tryz.func128 (by kernel_rfl) rfl) _ 0 (Nat.zero_le _) (by omega) _ hseq

-- THE CALLER's WALK over 'slices.Sorted(maps.Keys(m))' (inside '(callsIn_wide (n := 6)).1'; 'have hfK : Fence.wide.fn 74 := trivial', 'have hfS : Fence.wide.fn 73 := trivial' ahead): THE TWO ARMS TO PASTE:
--   gi_wp2_with (first
--     | (gi_at_call 74; refine (Tryz.maps_Keys_74 _ _).mono ?_; rintro e w' ⟨rfl, rfl⟩)
--     | (gi_at_call 73; refine (Tryz.slices_Sorted_keys_73_74 b nn D0 R w hown hmax hbytes).mono ?_; rintro e w' ⟨v, ss, rfl, hS, hrow, hnil, hb⟩))


end Go.Proofs
