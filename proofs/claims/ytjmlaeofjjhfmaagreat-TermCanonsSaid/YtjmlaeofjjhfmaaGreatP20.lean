/- A message of a rule in a scope: its channel outside, what it brings inside. -/
import Derived.Test.YtjmlaeofjjhfmaaGreatP17
import Derived.Deep.RegionHeld3
import Derived.Test.YtjmlaeofjjhfmaaGreatP15
set_option linter.unusedVariables false
set_option linter.unusedSimpArgs false
namespace Go.Proofs.YtjmlaeofjjhfmaaGreat
open Go.RowKit Go.Shelf Go.Maps Go.WideMaps

theorem Tryz.results173 : Tryz.f173.results = #[.cell 4 144] := by kernel_rfl
def ZeroMsg (w : World) (b : Nat) : Prop := w.heap[b]? = some (.cells #[.string ⟨#[]⟩, .slice none 0 0] 144)
theorem ZeroMsg.cells {w : World} {b : Nat} (h : ZeroMsg w b) : w.cell? ⟨b, 0, none⟩ = some (.string ⟨#[]⟩) ∧ w.cell? ⟨b, 1, none⟩ = some (.slice none 0 0) ∧ ∀ o, w.frozen? ⟨b, o, none⟩ = false := by
  unfold ZeroMsg at h
  exact ⟨by simp [World.cell?, h], by simp [World.cell?, h], fun o => by simp [World.frozen?, h]⟩

set_option maxRecDepth 10000 in
set_option maxHeartbeats 2000000 in
theorem msg_any (N : Nat) (m : Option Nat) (B : Nat) (u : World) (p1 p2 : Nat) (av fv av' fv' : Value) (T T' : ByteArray → Exp) (good : World → Prop) (h1 : Bec171 (.agg #[av, fv]) T good) (h2 : Bec171 (.agg #[av', fv']) T' good) (hst : Stays N m good)
    (j : Msg) (cs : List Value) (w : World) (hj : MsgAt B u cs j) (hjl : j.names.length ≤ 1000) (hu : KeptC B u w) (hB : B ≤ w.heap.size) (hN : N ≤ w.heap.size) (hg : good w)
    (t' : ByteArray) (l' : List ByteArray) (hT : textT T j.text = some t') (hM : mapM1 (textT T') j.names = some l')
    (q0 : w.cell? ⟨p1, 0, none⟩ = some av) (q1 : w.cell? ⟨p1, 1, none⟩ = some fv) (q2 : w.cell? ⟨p2, 0, none⟩ = some av') (q3 : w.cell? ⟨p2, 1, none⟩ = some fv') :
    Calls Tryz.prog 173 #[.agg cs.toArray, .pointer (some ⟨p1, 0, none⟩), .pointer (some ⟨p2, 0, none⟩)] w fun e' w' => ∃ cs', e' = .returned (.agg cs'.toArray) ∧ MsgAt w'.heap.size (blank w.heap.size w') cs' ⟨t', l'⟩ ∧ Below w.heap.size w w' := by
  obtain ⟨htz, v, rfl, hss⟩ := hj
  obtain ⟨a, c, rfl, _⟩ := id hss
  obtain ⟨t, ns⟩ := j
  simp only at htz hss hjl hT hM ⊢
  obtain ⟨k, hk⟩ : ∃ k, k = ns.length := ⟨_, rfl⟩
  rw [← hk] at hss ⊢
  have HK := Lib.hid hk
  obtain ⟨W0, hW0⟩ : ∃ W0, W0 = ((w.alloc (.cells #[.string t, .slice a k c] 144)).alloc (.cells #[.string ⟨#[]⟩, .slice none 0 0] 144)) := ⟨_, rfl⟩
  have hb0 : Below w.heap.size w W0 := by rw [hW0]; exact ((Below.refl _ w).alloc (Nat.le_refl _) _).alloc (by simp) _
  have hz : W0.heap.size = w.heap.size + 2 := by rw [hW0]; simp
  have k3 : W0.heap[w.heap.size]? = some (.cells #[.string t, .slice a k c] 144) := by
    rw [hW0, Below.heap_alloc _ _ _ (by simp)]; exact World.alloc_heap_new w _
  have k4 : W0.heap[w.heap.size + 1]? = some (.cells #[.string ⟨#[]⟩, .slice none 0 0] 144) := by
    rw [hW0]; have := World.alloc_heap_new (w.alloc (.cells #[.string t, .slice a k c] 144)) (.cells #[.string ⟨#[]⟩, .slice none 0 0] 144); rwa [World.size_alloc] at this
  have HW := Lib.hid hW0
  obtain ⟨G, hG⟩ : ∃ G : World → Prop, G = fun W => Below W0.heap.size W0 W := ⟨_, rfl⟩
  have g0 : G W0.drew := by rw [hG]; exact (Below.refl _ _).drew
  have hread : ∀ W, G W → W.cell? ⟨p1, 0, none⟩ = some av ∧ W.cell? ⟨p1, 1, none⟩ = some fv ∧ W.cell? ⟨p2, 0, none⟩ = some av' ∧ W.cell? ⟨p2, 1, none⟩ = some fv' ∧ W.cell? ⟨w.heap.size, 0, none⟩ = some (.string t) ∧ W.cell? ⟨w.heap.size, 1, none⟩ = some (.slice a k c) ∧
      W.cell? ⟨w.heap.size + 1, 0, none⟩ = some (.string ⟨#[]⟩) ∧ W.cell? ⟨w.heap.size + 1, 1, none⟩ = some (.slice none 0 0) ∧ ∀ o, W.frozen? ⟨w.heap.size + 1, o, none⟩ = false := fun W h => by
    rw [hG] at h
    have e1 := (h.block w.heap.size (by omega)).trans k3
    have e2 := (h.block (w.heap.size + 1) (by omega)).trans k4
    have hbW := hb0.trans (h.mono (by omega))
    exact ⟨(hbW.cell (p := ⟨p1, 0, none⟩) (lt_of_cell q0)).trans q0, (hbW.cell (p := ⟨p1, 1, none⟩) (lt_of_cell q1)).trans q1, (hbW.cell (p := ⟨p2, 0, none⟩) (lt_of_cell q2)).trans q2, (hbW.cell (p := ⟨p2, 1, none⟩) (lt_of_cell q3)).trans q3,
      by simp [World.cell?, e1], by simp [World.cell?, e1], by simp [World.cell?, e2], by simp [World.cell?, e2], fun o => by simp [World.frozen?, e2]⟩
  have htx : ∀ W, G W → Calls Tryz.prog 138 #[.agg #[av, fv], .string t] W fun e' w' => e' = .returned (.string t') ∧ t'.size ≤ maxLen ∧ G w' := fun W h => by
    rw [hG] at h ⊢
    refine (text_any av fv T good h1 (fun W W' g b => hst.below g b) t htz W (hst.below hg (hb0.trans (h.mono (by omega))))).mono ?_
    intro e' w' hh
    rw [hT] at hh; obtain ⟨a1, a2, a3⟩ := hh; exact ⟨a1, a2, h.trans (a3.mono h.size)⟩
  have hea : ∀ W, G W → Calls Tryz.prog 174 #[.slice a k c, .func (.func 138) #[.agg #[av', fv']] #[]] W fun e' w' => ∃ a' k' c', e' = .returned (.slice a' k' c') ∧ StrsAt w'.heap.size (blank W0.heap.size w') (.slice a' k' c') l' ∧ G w' := fun W h => by
    rw [hG] at h ⊢
    have hbW := hb0.trans (h.mono (by omega))
    have hws := h.size
    refine (each_174 (.agg #[av', fv']) N m good hst (textT T') (fun x W1 hx g1 => text_any av' fv' T' good h2 (fun W W' g b => hst.below g b) x hx W1 g1) B u ns (.slice a k c) hjl hss W (hu.trans ((Below.keptC hbW).mono hB)) (by omega) (by omega) (hst.below hg hbW)).mono ?_
    intro e' w' hh
    rw [hM] at hh
    obtain ⟨v', rfl, _, a2, a3⟩ := hh
    obtain ⟨a', c', rfl, _⟩ := id a2
    exact ⟨_, _, _, rfl, StrsAt.keep a2 (blank_kept hws fun b o v _ _ hv => hv), h.trans (a3.mono hws)⟩
  have hout : ∀ W, G W → Below w.heap.size w W := fun W h => by rw [hG] at h; exact hb0.trans (h.mono (by omega))
  obtain ⟨r0, r1, r2, r3, r4, r5, r6, r7, r8⟩ := hread _ g0
  have hmf : ∀ (fn : Fn) (first cap : Array Value) (w : World), (Instr.makeFunc fn first cap).run Tryz.prog w = .ok (.func fn first cap) w := fun _ _ _ _ => rfl
  have HWS := Lib.hid hz
  have n1 : ¬ w.heap.size + 1 = p1 := by have := lt_of_cell q0; omega
  have n2 : ¬ w.heap.size + 1 = p2 := by have := lt_of_cell q2; omega
  clear hG hss hW0 q0 q1 q2 q3 hz hk
  go_enter Tryz.func173, Tryz.ntmps173
  go_wp2
  rw [← HW.out]
  go_region_held3 (fun w' => w'.cell? ⟨p1, 0, none⟩ = some av ∧ w'.cell? ⟨p1, 1, none⟩ = some fv ∧ w'.cell? ⟨p2, 0, none⟩ = some av' ∧ w'.cell? ⟨p2, 1, none⟩ = some fv' ∧ w'.cell? ⟨w.heap.size, 0, none⟩ = some (.string t) ∧ w'.cell? ⟨w.heap.size, 1, none⟩ = some (.slice a k c)) (go_keep)
    (first
    | (go_at_call 138; refine (htx _ (by assumption)).mono ?_; rintro e' w2 ⟨rfl, htz', g2⟩; obtain ⟨s0, s1, s2, s3, s4, s5, s6, s7, s8⟩ := hread _ g2)
    | (go_at_call 174; refine (hea _ (by assumption)).mono ?_; rintro e' w3 ⟨a', k', c', rfl, hat, g3⟩; obtain ⟨z0, z1, z2, z3, z4, z5, z6, z7, z8⟩ := hread _ g3))
  all_goals
    have hz3 := (hout _ g3).size
    have hbw := hout _ g3
    go_wp2
    simp [bodyPost, results, Tryz.results173, go_sem, z6, z7]
    refine ⟨⟨htz', _, rfl, StrsAt.keep hat (blank_kept (by have := HWS.out; omega) fun b o v ha hb hv => ?_)⟩, (hbw.setCell (show w.heap.size ≤ (⟨w.heap.size + 1, 0, none⟩ : Addr).block from Nat.le_succ _) _).setCell (show w.heap.size ≤ (⟨w.heap.size + 1, 1, none⟩ : Addr).block from Nat.le_succ _) _⟩
    refine (World.cell?_of_block (w := w3) ?_).trans hv
    have hW := HWS.out
    rw [Below.heap_setCell _ _ _ _ (by simp; omega), Below.heap_setCell _ _ _ _ (by simp; omega)]

end Go.Proofs.YtjmlaeofjjhfmaaGreat
/- each: a new list of what the elements of a list become (definitions). -/
namespace Go.Proofs.YtjmlaeofjjhfmaaGreat
open Go.RowKit Go.Shelf Go.Maps

theorem info130 : (Tryz.prog.info? 130).map (fun i => (i.zero, i.size, i.bytes)) = some (some (.agg #[.int .i64 0, .string ⟨#[]⟩, .slice none 0 0, .slice none 0 0, .slice none 0 0]), 5, 96) := by kernel_rfl
set_option maxRecDepth 10000 in
set_option maxHeartbeats 1000000 in
theorem each_141 {S : Type} (B : Nat) (u : World) (m : Option Nat) (w : World) (sv : Value) (Inv : Nat → S → World → Prop) (F : S → Clause → Option (Clause × S)) (l : List Clause) (a : Option Addr) (cap : Nat) (hl : l.length ≤ 1000)
    (hsrc : l.length = 0 ∨ ∃ b off, a = some ⟨b, off, none⟩ ∧ b < B ∧ ClausesAt B u b off l) (hu : KeptC B u w) (hB : B ≤ w.heap.size)
    (hInv : ∀ k s W W' row, Inv k s W → W.grownBy W' row → (∀ r, row = some r → w.heap.size ≤ r) → Inv k s W') (hNC : ∀ k s W, Inv k s W → NoCells m W) (hm : ∀ b, m = some b → b < w.heap.size)
    (hcall : ∀ k (h : k < l.length) s W cs, Inv k s W → w.grownBy W m → ClauseAt B u cs l[k] → Calls Tryz.prog 142 #[sv, .agg cs.toArray] W fun e w' => OutE (F s l[k]) e (W.grownBy w' m) fun (x, s') => ∃ cs', e = .returned (.agg cs'.toArray) ∧ ClauseAt w'.heap.size (blank W.heap.size w') cs' x ∧ Inv (k + 1) s' w' ∧ W.grownBy w' m)
    (st : S) (hI : Inv 0 st w) :
    Calls Tryz.prog 141 #[.slice a l.length cap, .func (.func 142) #[sv] #[]] w fun e w' => OutE (stepsM F st l) e (w.grownBy w' m) fun (l', s') => ∃ v, e = .returned v ∧ l'.length = l.length ∧ SlAt w'.heap.size v l'.length (fun b off => ClausesAt w'.heap.size (blank w.heap.size w') b off l') ∧ Inv l.length s' w' ∧ w.grownBy w' m := by
  obtain ⟨i0, hi, hz0, hz1, hz2⟩ := info_parts info130
  have eK : ∀ args w, (callFunc 142 args).run Tryz.prog w = .ok (.enter 142 args) w := enters_of Tryz.func142 (by kernel_rfl) rfl
  have hnc := hNC _ _ _ hI
  have hu' := Lib.hid hu
  clear hu
  go_enter Tryz.func141, Tryz.ntmps141
  go_wp2_with fail
  go_loopw [5, 10] (fun v i wr => ∃ (k : Nat) (xs : List Clause) (s : S) (vals : List Value), k ≤ l.length ∧ i = .int .i64 k ∧ stepsM F st (l.take k) = some (xs, s) ∧ xs.length = k ∧ wr.ownsRow w.heap.size 130 5 v k vals ∧
    ChunksAt (fun _ w1 cs x => Apart ClauseAt w.heap.size v.ownBlock w1 cs x) 5 0 wr vals xs ∧ Inv k s wr ∧ w.grownBy wr m) (fun _ i _ => l.length - (intOf i).toNat)
  case atStart => exact ⟨0, [], st, [], by omega, rfl, by simp [stepsM], rfl, World.ownsRow_nil _ _ _ _, ChunksAt.nil _ _ _ _, hI, grown_refl _ _⟩
  case round =>
    obtain ⟨k, xs, s, vals, hk, rfl, hst, hxl, hown, hch, hIs, hg⟩ := hrel
    have HXL := Lib.hid hxl; clear hxl
    by_cases hlt : k < l.length
    · rcases hsrc with h0 | ⟨b, off, rfl, hb, hxs⟩
      · omega
      obtain ⟨cs, hcell, hat⟩ := ClausesAt.get l b off hxs k hlt
      have hku : KeptC B u wr := hu'.out.trans (grown_keptC hg hnc hB)
      have hBr : B ≤ wr.heap.size := Nat.le_trans hB hg.size
      have hwr := hg.size
      have hcell' := hcell.keep hku hb
      have hmore := Lib.hid (stepsM_more hlt hst)
      have hnone := Lib.hid (stepsM_none hlt hst)
      have hc := hcall k hlt s (wr.alloc (.cells cs.toArray 130)) cs (hInv k s _ _ none hIs (World.grownBy_alloc _ _ none) (by simp)) (grown_row hg (World.grownBy_alloc _ _ none) (by simp)) hat
      obtain ⟨c0, c1, c2, c3, c4, c5, c6, c7, c8, c9, c10, rfl⟩ := clause_shape hat
      obtain ⟨d0, d1, d2, d3, d4⟩ := cells5 hcell'
      clear hat hcell hcell' hxs hcall hst
      obtain ⟨R, hR⟩ : ∃ R, R = F s l[k] := ⟨_, rfl⟩
      rw [← hR] at hc hmore hnone
      have HR := Lib.hid hR
      clear hR
      cases R with
      | none =>
        go_wp2_with (go_at_call 142; refine hc.mono ?_; clear hc; rintro e w3 ⟨rfl, hgp⟩)
        simp only [bodyPost]
        rw [hnone.out (by simp)]
        exact ⟨by trivial, rfl, grown_row (grown_row hg (World.grownBy_alloc wr (.cells #[.int .i64 c0, .string c1, .slice c2 c3 c4, .slice c5 c6 c7, .slice c8 c9 c10] 130) none) (by simp)) hgp (fun r h => .inr h)⟩
      | some r =>
        obtain ⟨x, s'⟩ := r
        have hj : ∀ (w3 : World) (cs' : List Value), ClauseAt w3.heap.size (blank (wr.alloc (.cells #[.int .i64 c0, .string c1, .slice c2 c3 c4, .slice c5 c6 c7, .slice c8 c9 c10] 130)).heap.size w3) cs' x → Inv (k + 1) s' w3 → (wr.alloc (.cells #[.int .i64 c0, .string c1, .slice c2 c3 c4, .slice c5 c6 c7, .slice c8 c9 c10] 130)).grownBy w3 m →
            ∃ e0 e1 e2 e3 e4 e5 e6 e7 e8 e9 e10 gg cp w', cs' = [.int .i64 e0, .string e1, .slice e2 e3 e4, .slice e5 e6 e7, .slice e8 e9 e10] ∧ (Builtin.append_ #[30, 30] 30 #[u5, .slice (some ⟨w3.heap.size, 0, none⟩) 1 1]).run Tryz.prog (w3.alloc (.cells #[.int .i64 e0, .string e1, .slice e2 e3 e4, .slice e5 e6 e7, .slice e8 e9 e10] 130)) = .ok (.slice (some ⟨gg, 0, none⟩) (k + 1) cp) w' ∧
              w'.ownsRow w.heap.size 130 5 (.slice (some ⟨gg, 0, none⟩) (k + 1) cp) (k + 1) (vals ++ [.int .i64 e0, .string e1, .slice e2 e3 e4, .slice e5 e6 e7, .slice e8 e9 e10]) ∧ ChunksAt (fun _ w1 cs x => Apart ClauseAt w.heap.size (Value.slice (some ⟨gg, 0, none⟩) (k + 1) cp).ownBlock w1 cs x) 5 0 w' (vals ++ [.int .i64 e0, .string e1, .slice e2 e3 e4, .slice e5 e6 e7, .slice e8 e9 e10]) (xs ++ [x]) ∧ Inv (k + 1) s' w' ∧ w.grownBy w' m := by
          intro w3 cs' hat' hI' hg'
          obtain ⟨e0, e1, e2, e3, e4, e5, e6, e7, e8, e9, e10, rfl⟩ := clause_shape hat'
          obtain ⟨W4, hW4⟩ : ∃ W4, W4 = w3.alloc (.cells #[.int .i64 e0, .string e1, .slice e2 e3 e4, .slice e5 e6 e7, .slice e8 e9 e10] 130) := ⟨_, rfl⟩
          have hg3 : wr.grownBy w3 m := grown_row (grown_row (grown_refl _ _) (World.grownBy_alloc wr (.cells #[.int .i64 c0, .string c1, .slice c2 c3 c4, .slice c5 c6 c7, .slice c8 c9 c10] 130) none) (by simp)) hg' (fun r h => .inr h)
          have hg4 : wr.grownBy W4 m := by rw [hW4]; exact grown_row hg3 (World.grownBy_alloc _ _ none) (by simp)
          have hoA := ownsRow_keep hown hg4 (fun b hb e => by have := hm b e; have := (hown.lt b hb).1; omega)
          obtain ⟨v', w', hr, h1, h2, h3, h4⟩ := run_append_own_at (P := Tryz.prog) W4 w.heap.size 30 30 130 i0 (.agg #[.int .i64 0, .string ⟨#[]⟩, .slice none 0 0, .slice none 0 0, .slice none 0 0]) 5 96 Tryz.underlying30 hi hz0 hz1 hz2 rfl (by decide) _ k vals hoA
            ⟨w3.heap.size, 0, none⟩ 1 1 [.int .i64 e0, .string e1, .slice e2 e3 e4, .slice e5 e6 e7, .slice e8 e9 e10] rfl (by
              intro j u hj
              have e : (⟨w3.heap.size, 0, none⟩ : Addr).add j = ⟨w3.heap.size, j, none⟩ := by unfold Addr.add; by_cases h : j = 0 <;> simp [h]
              rw [e, hW4, World.cell?_alloc_at _ _ _ _ rfl]
              simpa using hj) (by simp [Value.oneCell']) (by unfold maxLen; omega) (by omega) (by have := hg4.size; omega)
          have hs3 := hg3.size
          have hs4 : W4.heap.size = w3.heap.size + 1 := by rw [hW4]; simp
          have hlo := hown.lt
          have hch' : ChunksAt (fun _ w1 cs x => Apart ClauseAt w.heap.size v'.ownBlock w1 cs x) 5 0 w' (vals ++ [.int .i64 e0, .string e1, .slice e2 e3 e4, .slice e5 e6 e7, .slice e8 e9 e10]) (xs ++ [x]) := by
            have hch1 : ChunksAt (fun _ w1 cs x => Apart ClauseAt w.heap.size v'.ownBlock w1 cs x) 5 0 w' vals xs := ⟨hch.1, fun i hi => Apart.keep keepsClause (hch.2 i hi) (fun b hb1 hb2 hb3 =>
              (h2.block b (by omega) (fun e => hb3 e.symm)).trans (hg4.block b hb2 (fun e => by have := hm b e.symm; omega))) (by have := h2.size; omega) (by
                rcases h4 with h4 | h4
                · exact .inl h4
                · exact .inr ⟨_, h4, by omega⟩)⟩
            refine ChunksAt.snoc hch1 ?_ rfl
            · refine ⟨wr.heap.size + 1, w3.heap.size, by omega, by have := h2.size; omega, fun g hg => ?_, ?_⟩
              · rcases h4 with h4 | h4
                · rw [h4] at hg; have := (hlo g hg).2; omega
                · rw [h4] at hg; have := Option.some.inj hg; omega
              · rw [World.size_alloc] at hat'
                refine keepsClause _ _ _ _ _ _ (blank_kept (Nat.le_refl _) fun b o v ha hb hv => ?_) (Nat.le_refl _) hat'
                have e1 : W4.cell? ⟨b, o, none⟩ = some v := by rw [hW4, World.cell?_alloc_past _ _ _ hb]; exact hv
                refine (World.cell?_of_block (w := W4) (h2.block b (by omega) (fun e => ?_))).trans e1
                have := (hlo b e.symm).2; omega
          have hI4 : Inv (k + 1) s' w' := hInv (k + 1) s' _ _ _ (hInv (k + 1) s' _ W4 none hI' (by rw [hW4]; exact World.grownBy_alloc _ _ none) (by simp)) h2 (fun r hr => (hlo r hr).1)
          have hgw : w.grownBy w' m := grown_row (grown_row hg hg4 (fun r h => .inr h)) h2 (fun r hr => .inl (hlo r hr).1)
          obtain ⟨_, ⟨_, h0⟩ | ⟨gg, cp, cur, hvf, _⟩⟩ := id h1
          · omega
          subst hvf
          rw [hW4] at hr
          exact ⟨_, _, _, _, _, _, _, _, _, _, _, gg, cp, w', rfl, hr, h1, hch', hI4, hgw⟩
        clear hch hIs hown hku
        go_wp2_with (first
          | (go_at_call 142; refine hc.mono ?_; clear hc; rintro e w3 ⟨cs', rfl, hat', hI', hg'⟩; obtain ⟨e0, e1, e2, e3, e4, e5, e6, e7, e8, e9, e10, gg, cp, w', rfl, hr, h1, h2, h3, h4⟩ := hj w3 cs' hat' hI' hg'; have H1 := Lib.hid h1; have H2 := Lib.hid h2; have H3 := Lib.hid h3; have H4 := Lib.hid h4; clear hj hat' hI' hg' h1 h2 h3 h4)
          | (show wpList _ _ _ (⟨some 19, _, _, _, _, _⟩ :: _) _ _; refine wpList_append_eq rfl (.tmp 14) (.tmp 18) 30 30 rfl rfl rfl hr ?_))
        go_roundw
        case rel => exact ⟨k + 1, xs ++ [x], s', _, by omega, by go_num, hmore.out, by simp [HXL.out], H1.out, H2.out, H3.out, H4.out⟩
        case measure => simp [intOf]; omega
    · obtain rfl : k = l.length := by omega
      rw [List.take_length] at hst
      have HXL' := HXL.out
      have hsl := clausesSl (by rw [HXL']; exact hown) hch
      have HSL := Lib.hid hsl
      obtain ⟨aa, cc, hvv, _⟩ := owns_cells (by omega) hown
      subst hvv
      clear hsl hch hown
      go_wp2
      go_ret
      rw [hst]
      exact ⟨_, rfl, HXL', HSL.out, hIs, hg⟩

end Go.Proofs.YtjmlaeofjjhfmaaGreat
/- each: a new list of what the elements of a list become (processes). -/
namespace Go.Proofs.YtjmlaeofjjhfmaaGreat
open Go.RowKit Go.Shelf Go.Maps

theorem info33 : (Tryz.prog.info? 33).map (fun i => (i.zero, i.size, i.bytes)) = some (some (.agg #[.int .i64 0, .string ⟨#[]⟩, .slice none 0 0, .slice none 0 0, .slice none 0 0]), 5, 96) := by kernel_rfl
set_option maxRecDepth 10000 in
set_option maxHeartbeats 1000000 in
theorem each_105 {S : Type} (B : Nat) (u : World) (m : Option Nat) (w : World) (sv : Value) (Inv : Nat → S → World → Prop) (F : S → Term → Option (Term × S)) (l : List Term) (a : Option Addr) (cap : Nat) (hl : l.length ≤ 1000)
    (hsrc : l.length = 0 ∨ ∃ b off, a = some ⟨b, off, none⟩ ∧ b < B ∧ TermsAt B u b off l) (hu : KeptC B u w) (hB : B ≤ w.heap.size)
    (hInv : ∀ k s W W' row, Inv k s W → W.grownBy W' row → (∀ r, row = some r → w.heap.size ≤ r) → Inv k s W') (hNC : ∀ k s W, Inv k s W → NoCells m W) (hm : ∀ b, m = some b → b < w.heap.size)
    (hcall : ∀ k (h : k < l.length) s W cs, Inv k s W → w.grownBy W m → TermAt B u cs l[k] → Calls Tryz.prog 87 #[sv, .agg cs.toArray] W fun e w' => OutE (F s l[k]) e (W.grownBy w' m) fun (x, s') => ∃ cs', e = .returned (.agg cs'.toArray) ∧ TermAt w'.heap.size (blank W.heap.size w') cs' x ∧ Inv (k + 1) s' w' ∧ W.grownBy w' m)
    (st : S) (hI : Inv 0 st w) :
    Calls Tryz.prog 105 #[.slice a l.length cap, .func (.func 87) #[sv] #[]] w fun e w' => OutE (stepsM F st l) e (w.grownBy w' m) fun (l', s') => ∃ v, e = .returned v ∧ l'.length = l.length ∧ SlAt w'.heap.size v l'.length (fun b off => TermsAt w'.heap.size (blank w.heap.size w') b off l') ∧ Inv l.length s' w' ∧ w.grownBy w' m := by
  obtain ⟨i0, hi, hz0, hz1, hz2⟩ := info_parts info33
  have eK : ∀ args w, (callFunc 87 args).run Tryz.prog w = .ok (.enter 87 args) w := enters_of Tryz.func87 (by kernel_rfl) rfl
  have hnc := hNC _ _ _ hI
  have hu' := Lib.hid hu
  clear hu
  go_enter Tryz.func105, Tryz.ntmps105
  go_wp2_with fail
  go_loopw [5, 10] (fun v i wr => ∃ (k : Nat) (xs : List Term) (s : S) (vals : List Value), k ≤ l.length ∧ i = .int .i64 k ∧ stepsM F st (l.take k) = some (xs, s) ∧ xs.length = k ∧ wr.ownsRow w.heap.size 33 5 v k vals ∧
    ChunksAt (fun _ w1 cs x => Apart TermAt w.heap.size v.ownBlock w1 cs x) 5 0 wr vals xs ∧ Inv k s wr ∧ w.grownBy wr m) (fun _ i _ => l.length - (intOf i).toNat)
  case atStart => exact ⟨0, [], st, [], by omega, rfl, by simp [stepsM], rfl, World.ownsRow_nil _ _ _ _, ChunksAt.nil _ _ _ _, hI, grown_refl _ _⟩
  case round =>
    obtain ⟨k, xs, s, vals, hk, rfl, hst, hxl, hown, hch, hIs, hg⟩ := hrel
    have HXL := Lib.hid hxl; clear hxl
    by_cases hlt : k < l.length
    · rcases hsrc with h0 | ⟨b, off, rfl, hb, hxs⟩
      · omega
      obtain ⟨cs, hcell, hat⟩ := TermsAt.get l b off hxs k hlt
      have hku : KeptC B u wr := hu'.out.trans (grown_keptC hg hnc hB)
      have hBr : B ≤ wr.heap.size := Nat.le_trans hB hg.size
      have hwr := hg.size
      have hcell' := hcell.keep hku hb
      have hmore := Lib.hid (stepsM_more hlt hst)
      have hnone := Lib.hid (stepsM_none hlt hst)
      have hc := hcall k hlt s (wr.alloc (.cells cs.toArray 33)) cs (hInv k s _ _ none hIs (World.grownBy_alloc _ _ none) (by simp)) (grown_row hg (World.grownBy_alloc _ _ none) (by simp)) hat
      obtain ⟨c0, c1, c2, c3, c4, c5, c6, c7, c8, c9, c10, rfl⟩ := term_shape hat
      obtain ⟨d0, d1, d2, d3, d4⟩ := cells5 hcell'
      clear hat hcell hcell' hxs hcall hst
      obtain ⟨R, hR⟩ : ∃ R, R = F s l[k] := ⟨_, rfl⟩
      rw [← hR] at hc hmore hnone
      have HR := Lib.hid hR
      clear hR
      cases R with
      | none =>
        go_wp2_with (go_at_call 87; refine hc.mono ?_; clear hc; rintro e w3 ⟨rfl, hgp⟩)
        simp only [bodyPost]
        rw [hnone.out (by simp)]
        exact ⟨by trivial, rfl, grown_row (grown_row hg (World.grownBy_alloc wr (.cells #[.int .i64 c0, .string c1, .slice c2 c3 c4, .slice c5 c6 c7, .slice c8 c9 c10] 33) none) (by simp)) hgp (fun r h => .inr h)⟩
      | some r =>
        obtain ⟨x, s'⟩ := r
        have hj : ∀ (w3 : World) (cs' : List Value), TermAt w3.heap.size (blank (wr.alloc (.cells #[.int .i64 c0, .string c1, .slice c2 c3 c4, .slice c5 c6 c7, .slice c8 c9 c10] 33)).heap.size w3) cs' x → Inv (k + 1) s' w3 → (wr.alloc (.cells #[.int .i64 c0, .string c1, .slice c2 c3 c4, .slice c5 c6 c7, .slice c8 c9 c10] 33)).grownBy w3 m →
            ∃ e0 e1 e2 e3 e4 e5 e6 e7 e8 e9 e10 gg cp w', cs' = [.int .i64 e0, .string e1, .slice e2 e3 e4, .slice e5 e6 e7, .slice e8 e9 e10] ∧ (Builtin.append_ #[31, 31] 31 #[u5, .slice (some ⟨w3.heap.size, 0, none⟩) 1 1]).run Tryz.prog (w3.alloc (.cells #[.int .i64 e0, .string e1, .slice e2 e3 e4, .slice e5 e6 e7, .slice e8 e9 e10] 33)) = .ok (.slice (some ⟨gg, 0, none⟩) (k + 1) cp) w' ∧
              w'.ownsRow w.heap.size 33 5 (.slice (some ⟨gg, 0, none⟩) (k + 1) cp) (k + 1) (vals ++ [.int .i64 e0, .string e1, .slice e2 e3 e4, .slice e5 e6 e7, .slice e8 e9 e10]) ∧ ChunksAt (fun _ w1 cs x => Apart TermAt w.heap.size (Value.slice (some ⟨gg, 0, none⟩) (k + 1) cp).ownBlock w1 cs x) 5 0 w' (vals ++ [.int .i64 e0, .string e1, .slice e2 e3 e4, .slice e5 e6 e7, .slice e8 e9 e10]) (xs ++ [x]) ∧ Inv (k + 1) s' w' ∧ w.grownBy w' m := by
          intro w3 cs' hat' hI' hg'
          obtain ⟨e0, e1, e2, e3, e4, e5, e6, e7, e8, e9, e10, rfl⟩ := term_shape hat'
          obtain ⟨W4, hW4⟩ : ∃ W4, W4 = w3.alloc (.cells #[.int .i64 e0, .string e1, .slice e2 e3 e4, .slice e5 e6 e7, .slice e8 e9 e10] 33) := ⟨_, rfl⟩
          have hg3 : wr.grownBy w3 m := grown_row (grown_row (grown_refl _ _) (World.grownBy_alloc wr (.cells #[.int .i64 c0, .string c1, .slice c2 c3 c4, .slice c5 c6 c7, .slice c8 c9 c10] 33) none) (by simp)) hg' (fun r h => .inr h)
          have hg4 : wr.grownBy W4 m := by rw [hW4]; exact grown_row hg3 (World.grownBy_alloc _ _ none) (by simp)
          have hoA := ownsRow_keep hown hg4 (fun b hb e => by have := hm b e; have := (hown.lt b hb).1; omega)
          obtain ⟨v', w', hr, h1, h2, h3, h4⟩ := run_append_own_at (P := Tryz.prog) W4 w.heap.size 31 31 33 i0 (.agg #[.int .i64 0, .string ⟨#[]⟩, .slice none 0 0, .slice none 0 0, .slice none 0 0]) 5 96 Tryz.underlying31 hi hz0 hz1 hz2 rfl (by decide) _ k vals hoA
            ⟨w3.heap.size, 0, none⟩ 1 1 [.int .i64 e0, .string e1, .slice e2 e3 e4, .slice e5 e6 e7, .slice e8 e9 e10] rfl (by
              intro j u hj
              have e : (⟨w3.heap.size, 0, none⟩ : Addr).add j = ⟨w3.heap.size, j, none⟩ := by unfold Addr.add; by_cases h : j = 0 <;> simp [h]
              rw [e, hW4, World.cell?_alloc_at _ _ _ _ rfl]
              simpa using hj) (by simp [Value.oneCell']) (by unfold maxLen; omega) (by omega) (by have := hg4.size; omega)
          have hs3 := hg3.size
          have hs4 : W4.heap.size = w3.heap.size + 1 := by rw [hW4]; simp
          have hlo := hown.lt
          have hch' : ChunksAt (fun _ w1 cs x => Apart TermAt w.heap.size v'.ownBlock w1 cs x) 5 0 w' (vals ++ [.int .i64 e0, .string e1, .slice e2 e3 e4, .slice e5 e6 e7, .slice e8 e9 e10]) (xs ++ [x]) := by
            have hch1 : ChunksAt (fun _ w1 cs x => Apart TermAt w.heap.size v'.ownBlock w1 cs x) 5 0 w' vals xs := ⟨hch.1, fun i hi => Apart.keep keepsTerm (hch.2 i hi) (fun b hb1 hb2 hb3 =>
              (h2.block b (by omega) (fun e => hb3 e.symm)).trans (hg4.block b hb2 (fun e => by have := hm b e.symm; omega))) (by have := h2.size; omega) (by
                rcases h4 with h4 | h4
                · exact .inl h4
                · exact .inr ⟨_, h4, by omega⟩)⟩
            refine ChunksAt.snoc hch1 ?_ rfl
            · refine ⟨wr.heap.size + 1, w3.heap.size, by omega, by have := h2.size; omega, fun g hg => ?_, ?_⟩
              · rcases h4 with h4 | h4
                · rw [h4] at hg; have := (hlo g hg).2; omega
                · rw [h4] at hg; have := Option.some.inj hg; omega
              · rw [World.size_alloc] at hat'
                refine keepsTerm _ _ _ _ _ _ (blank_kept (Nat.le_refl _) fun b o v ha hb hv => ?_) (Nat.le_refl _) hat'
                have e1 : W4.cell? ⟨b, o, none⟩ = some v := by rw [hW4, World.cell?_alloc_past _ _ _ hb]; exact hv
                refine (World.cell?_of_block (w := W4) (h2.block b (by omega) (fun e => ?_))).trans e1
                have := (hlo b e.symm).2; omega
          have hI4 : Inv (k + 1) s' w' := hInv (k + 1) s' _ _ _ (hInv (k + 1) s' _ W4 none hI' (by rw [hW4]; exact World.grownBy_alloc _ _ none) (by simp)) h2 (fun r hr => (hlo r hr).1)
          have hgw : w.grownBy w' m := grown_row (grown_row hg hg4 (fun r h => .inr h)) h2 (fun r hr => .inl (hlo r hr).1)
          obtain ⟨_, ⟨_, h0⟩ | ⟨gg, cp, cur, hvf, _⟩⟩ := id h1
          · omega
          subst hvf
          rw [hW4] at hr
          exact ⟨_, _, _, _, _, _, _, _, _, _, _, gg, cp, w', rfl, hr, h1, hch', hI4, hgw⟩
        clear hch hIs hown hku
        go_wp2_with (first
          | (go_at_call 87; refine hc.mono ?_; clear hc; rintro e w3 ⟨cs', rfl, hat', hI', hg'⟩; obtain ⟨e0, e1, e2, e3, e4, e5, e6, e7, e8, e9, e10, gg, cp, w', rfl, hr, h1, h2, h3, h4⟩ := hj w3 cs' hat' hI' hg'; have H1 := Lib.hid h1; have H2 := Lib.hid h2; have H3 := Lib.hid h3; have H4 := Lib.hid h4; clear hj hat' hI' hg' h1 h2 h3 h4)
          | (show wpList _ _ _ (⟨some 19, _, _, _, _, _⟩ :: _) _ _; refine wpList_append_eq rfl (.tmp 14) (.tmp 18) 31 31 rfl rfl rfl hr ?_))
        go_roundw
        case rel => exact ⟨k + 1, xs ++ [x], s', _, by omega, by go_num, hmore.out, by simp [HXL.out], H1.out, H2.out, H3.out, H4.out⟩
        case measure => simp [intOf]; omega
    · obtain rfl : k = l.length := by omega
      rw [List.take_length] at hst
      have HXL' := HXL.out
      have hsl := termsSl (by rw [HXL']; exact hown) hch
      have HSL := Lib.hid hsl
      obtain ⟨aa, cc, hvv, _⟩ := owns_cells (by omega) hown
      subst hvv
      clear hsl hch hown
      go_wp2
      go_ret
      rw [hst]
      exact ⟨_, rfl, HXL', HSL.out, hIs, hg⟩

end Go.Proofs.YtjmlaeofjjhfmaaGreat
