/- renames: which of the names that a part binds are chosen anew. -/
import Derived.Test.YtjmlaeofjjhfmaaGreatP17
import Derived.Deep.RegionLaw
import Derived.Deep.RegionHeld3
set_option linter.unusedVariables false
set_option linter.unusedSimpArgs false
namespace Go.Proofs.YtjmlaeofjjhfmaaGreat
open Go.RowKit Go.Shelf Go.Maps Go.WideMaps

set_option maxHeartbeats 1000000 in
theorem ren_outside (m : Option Nat) (pv av fv : Value) (ty : TypeId) (pc : Array Value) (hp : pv = .iface ty (.agg pc)) (w : World) : Calls Tryz.prog 224 #[.agg #[.map m], pv, .agg #[av, fv]] w fun e w' => e = .returned (.slice none 0 0) ∧ Below w.heap.size w w' := by
  subst hp
  go_enter Tryz.func224, Tryz.ntmps224
  go_wp2
  go_ret
  exact ⟨rfl, ((Below.refl _ w).alloc (Nat.le_refl _) _).alloc (by simp) _⟩

set_option maxRecDepth 10000 in
/-- binds of any part, by the interface. -/
theorem binds_face (B : Nat) (u : World) (p : Part) (v : Value) (hs : p.small) (hb : bindOk p) (h : PartAt B u v p) :
    ∃ (g : Nat) (cs : List Value) (ty : TypeId), v = .iface ty (.agg cs.toArray) ∧ (∀ W, (method 347 ty (.agg cs.toArray) "cabotage/term.binds").run Tryz.prog W = .ok (g, .agg cs.toArray) W) ∧ (∀ args w, (callFunc g args).run Tryz.prog w = .ok (.enter g args) w) ∧
      (∀ w : World, KeptC B u w → B ≤ w.heap.size → Calls Tryz.prog g #[.agg cs.toArray] w fun e w' => ∃ r, e = .returned r ∧ StrsAt w'.heap.size w' r (bindsP p) ∧ Below w.heap.size w w') := by
  obtain ⟨g1, g2, g3, cs, ty, rfl, hg, _, hbinds, _⟩ := methods_any B u p v hs hb h
  refine ⟨g2, cs, ty, rfl, ?_, ?_, hbinds⟩
  · rcases hg with ⟨rfl, rfl, rfl, rfl⟩ | ⟨rfl, rfl, rfl, rfl⟩ | ⟨rfl, rfl, rfl, rfl⟩ <;> exact fun W => by kernel_rfl
  · rcases hg with ⟨rfl, rfl, rfl, rfl⟩ | ⟨rfl, rfl, rfl, rfl⟩ | ⟨rfl, rfl, rfl, rfl⟩
    · exact enters_of Tryz.func215 (by kernel_rfl) rfl
    · exact enters_of Tryz.func218 (by kernel_rfl) rfl
    · exact enters_of Tryz.func229 (by kernel_rfl) rfl

set_option maxHeartbeats 1000000 in
theorem ren_anew (B : Nat) (u : World) (p : Part) (pv : Value) (hs : p.small) (hb : bindOk p) (hp : PartAt B u pv p) (m : Option Nat) (av fv : Value) (w : World) (hu : KeptC B u w) (hB : B ≤ w.heap.size) :
    Calls Tryz.prog 228 #[.agg #[.map m], pv, .agg #[av, fv]] w fun e w' => ∃ r, e = .returned r ∧ StrsAt w'.heap.size w' r (bindsP p) ∧ Below w.heap.size w w' := by
  obtain ⟨g, cs, ty, rfl, hm, hc, hbs⟩ := binds_face B u p pv hs hb hp
  have hb0 : Below w.heap.size w ((w.alloc (.cells #[.map m] 134)).alloc (.cells #[av, fv] 123)) := ((Below.refl _ w).alloc (Nat.le_refl _) _).alloc (by simp) _
  have hbc := hbs _ (hu.trans ((Below.keptC hb0).mono hB)) (by simp; omega)
  clear hbs
  go_enter Tryz.func228, Tryz.ntmps228
  go_wp2_with (refine hbc.mono ?_; clear hbc; rintro e w1 ⟨r, rfl, hs1, hb1⟩)
  go_ret
  exact ⟨_, rfl, hs1, hb0.trans (hb1.mono (by simp; omega))⟩

set_option maxRecDepth 10000 in
set_option maxHeartbeats 2000000 in
theorem ren_putting {B N : Nat} {u : World} {m : Option Nat} {b : Base} (hBN : B ≤ N) (hm : ∀ r, m = some r → B ≤ r) (f : Frame) (fs : List Frame) (av fv : Value)
    (p : Part) (pv : Value) (hps : p.size ≤ 60) (hsm : p.allSmall) (hbd : p.allBind) (hp : PartAt B u pv p)
    (y : ByteArray) (hy : y.size ≤ maxLen) (o n : Int) (t : ByteArray) (a : Option Addr) (k c : Nat) (e : Exp) (hat : ExpAt B u [.int .i64 o, .int .i64 n, .string t, .slice a k c] e) (he : PutOk e)
    (w : World) (hg : Good B u N m b (f :: fs) (.iface 123 (.agg #[av, fv])) w) :
    Calls Tryz.prog 226 #[.agg #[.map m, .string y, .int .i64 o, .int .i64 n, .string t, .slice a k c], pv, .agg #[av, fv]] w fun e' w' => ∃ r, e' = .returned r ∧
      StrsAt w'.heap.size w' r (Base.renames (.putting y e) ⟨b, f :: fs⟩ p) ∧ Below w.heap.size w w' := by
  obtain ⟨W0, hW0⟩ : ∃ W0, W0 = ((w.alloc (.cells #[.map m, .string y, .int .i64 o, .int .i64 n, .string t, .slice a k c] 118)).alloc (.cells #[av, fv] 123)) := ⟨_, rfl⟩
  have hb0 : Below w.heap.size w W0 := by rw [hW0]; exact ((Below.refl _ w).alloc (Nat.le_refl _) _).alloc (by simp) _
  have hz : W0.heap.size = w.heap.size + 2 := by rw [hW0]; simp
  have k3 : W0.heap[w.heap.size]? = some (.cells #[.map m, .string y, .int .i64 o, .int .i64 n, .string t, .slice a k c] 118) := by
    rw [hW0, Below.heap_alloc _ _ _ (by simp)]; exact World.alloc_heap_new w _
  have k4 : W0.heap[w.heap.size + 1]? = some (.cells #[av, fv] 123) := by
    rw [hW0]; have := World.alloc_heap_new (w.alloc (.cells #[.map m, .string y, .int .i64 o, .int .i64 n, .string t, .slice a k c] 118)) (.cells #[av, fv] 123); rwa [World.size_alloc] at this
  have HW := Lib.hid hW0
  have hstay := Good.stays (b := b) (fs := f :: fs) (v := .iface 123 (.agg #[av, fv])) (u := u) hBN hm
  obtain ⟨G, hG⟩ : ∃ G : World → Prop, G = fun W => Below W0.heap.size W0 W := ⟨_, rfl⟩
  have g0 : G W0.drew := by rw [hG]; exact (Below.refl _ _).drew
  have hread : ∀ W, G W → W.cell? ⟨w.heap.size, 1, none⟩ = some (.string y) ∧ W.cell? ⟨w.heap.size, 2, none⟩ = some (.int .i64 o) ∧ W.cell? ⟨w.heap.size, 3, none⟩ = some (.int .i64 n) ∧ W.cell? ⟨w.heap.size, 4, none⟩ = some (.string t) ∧ W.cell? ⟨w.heap.size, 5, none⟩ = some (.slice a k c) ∧
      W.cell? ⟨w.heap.size + 1, 0, none⟩ = some av ∧ W.cell? ⟨w.heap.size + 1, 1, none⟩ = some fv := fun W h => by
    rw [hG] at h
    have e1 := (h.block w.heap.size (by omega)).trans k3
    have e2 := (h.block (w.heap.size + 1) (by omega)).trans k4
    exact ⟨by simp [World.cell?, e1], by simp [World.cell?, e1], by simp [World.cell?, e1], by simp [World.cell?, e1], by simp [World.cell?, e1], by simp [World.cell?, e2], by simp [World.cell?, e2]⟩
  obtain ⟨BD, hBD⟩ : ∃ BD, BD = (f :: fs).any (fun f => (f (bytesOf y)).isSome) := ⟨_, rfl⟩
  have hbn : ∀ W, G W → Calls Tryz.prog 227 #[.agg #[av, fv], .string y] W fun e' w' => e' = .returned (.bool BD) ∧ G w' := fun W h => by
    rw [hG] at h ⊢
    rw [hBD]
    exact (scope_bnd hBN hm f fs av fv W y hy (hstay.below hg (hb0.trans (h.mono (by omega))))).mono fun _ w' ⟨h1, h2⟩ => ⟨h1, h.trans (h2.mono h.size)⟩
  have hfr : ∀ W, G W → Calls Tryz.prog 75 #[pv] W fun e' w' => ∃ b2, e' = .returned (.map (some b2)) ∧ (Instr.lookup 70 (.map (some b2)) (.string y) false).run Tryz.prog w' = .ok (.bool (freeN 60 p (bytesOf y))) w' ∧ G w' := fun W h => by
    rw [hG] at h ⊢
    have hbW := hb0.trans (h.mono (by omega))
    refine (free_any B u 60 p hps (by omega) hsm hbd pv W hp (hstay.below hg hbW).kept (hstay.below hg hbW).room).mono ?_
    rintro e' w' ⟨b2, rfl, _, h2, h3⟩
    exact ⟨b2, rfl, h2.look hy, h.trans (h3.mono h.size)⟩
  have hren : Base.renames (.putting y e) ⟨b, f :: fs⟩ p = if BD || !freeN 60 p (bytesOf y) then [] else (bindsP p).filter (fun n => freeN 60 (.exp e) (bytesOf n)) := by rw [hBD]; rfl
  rw [hren]
  obtain ⟨FP, hFP⟩ : ∃ FP, FP = freeN 60 p (bytesOf y) := ⟨_, rfl⟩
  rw [← hFP] at hfr ⊢
  have hout : ∀ W, G W → Below w.heap.size w W := fun W h => by rw [hG] at h; exact hb0.trans (h.mono (by omega))
  obtain ⟨r1, r2, r3, r4, r5, r6, r7⟩ := hread _ g0
  have HG := Lib.hid hG
  have HZ := Lib.hid hz
  have HK := Lib.hid (And.intro k3 k4)
  clear hG hW0 hBD hFP hren hz k3 k4
  cases BD with
  | true =>
    obtain ⟨ty, pc, rfl⟩ := part_iface hp
    go_enter Tryz.func226, Tryz.ntmps226
    go_wp2
    rw [← HW.out]
    first
    | go_region_law (go_simp; go_wp2_with (first
      | (go_at_call 227; refine (hbn _ (by assumption)).mono ?_; rintro e' w2 ⟨rfl, g2⟩; obtain ⟨s1, s2, s3, s4, s5, s6, s7⟩ := hread _ g2)))
    | skip
    all_goals
      have hbw := hout _ g2
      go_wp2
      go_ret
      exact ⟨_, rfl, StrsAt.nil _ _, hbw⟩
  | false =>
    cases FP with
    | false =>
      obtain ⟨ty, pc, rfl⟩ := part_iface hp
      go_enter Tryz.func226, Tryz.ntmps226
      go_wp2
      rw [← HW.out]
      first
      | go_region_held3 (fun w' => w'.cell? ⟨w.heap.size, 1, none⟩ = some (.string y) ∧ w'.cell? ⟨w.heap.size + 1, 0, none⟩ = some av ∧ w'.cell? ⟨w.heap.size + 1, 1, none⟩ = some fv) (go_keep)
        (first
        | (go_at_call 227; refine (hbn _ (by assumption)).mono ?_; rintro e' w2 ⟨rfl, g2⟩; obtain ⟨s1, s2, s3, s4, s5, s6, s7⟩ := hread _ g2)
        | (go_at_call 75; refine (hfr _ (by assumption)).mono ?_; rintro e' w4 ⟨b2, rfl, hlk, g4⟩; obtain ⟨z1, z2, z3, z4, z5, z6, z7⟩ := hread _ g4))
      | skip
      all_goals
        have hbw := hout _ g4
        go_wp2
        go_ret
        exact ⟨_, rfl, StrsAt.nil _ _, hbw⟩
    | true =>
      rw [show (if (false || !true) = true then [] else (bindsP p).filter (fun n => freeN 60 (.exp e) (bytesOf n))) = (bindsP p).filter (fun n => freeN 60 (.exp e) (bytesOf n)) from rfl]
      obtain ⟨i0, hi, hz0, hz1, hz2⟩ := info_parts info9
      have hfe : ∀ W, G W → Calls Tryz.prog 75 #[.iface 88 (.agg #[.int .i64 o, .int .i64 n, .string t, .slice a k c])] W fun e' w' => ∃ b3 N3, e' = .returned (.map (some b3)) ∧ SetF w' b3 N3 (freeN 60 (.exp e)) ∧ G w' := fun W h => by
        have hbW := hout W h
        have hgW := hstay.below hg hbW
        rw [HG.out] at h ⊢
        refine (free_any B u 60 (.exp e) he.1 (by omega) he.2.1 he.2.2.1 _ W ⟨_, rfl, hat⟩ hgW.kept hgW.room).mono ?_
        rintro e' w' ⟨b2, rfl, _, h2, h3⟩
        exact ⟨b2, _, rfl, h2, h.trans (h3.mono h.size)⟩
      obtain ⟨g, pc, ty, rfl, hmb, hcb, hbs⟩ := binds_face B u p pv (hsm p (by rw [nodesOf_eq]; simp)) (hbd p (by rw [nodesOf_eq]; simp)) hp
      have hbn2 : ∀ W, G W → Calls Tryz.prog g #[.agg pc.toArray] W fun e' w' => ∃ a3 c3, e' = .returned (.slice a3 (bindsP p).length c3) ∧ StrsAt w'.heap.size w' (.slice a3 (bindsP p).length c3) (bindsP p) ∧ Below W.heap.size W w' ∧ G w' := fun W h => by
        have hgW := hstay.below hg (hout W h)
        refine (hbs W hgW.kept hgW.room).mono ?_
        rintro e' w' ⟨r, rfl, h2, h3⟩
        obtain ⟨a3, c3, rfl, _⟩ := id h2
        rw [HG.out] at h ⊢
        exact ⟨_, _, rfl, h2, h3, h.trans (h3.mono h.size)⟩
      have hL : (bindsP p).length ≤ 150000 := binds_len (hbd p (by rw [nodesOf_eq]; simp))
      obtain ⟨L, hLd⟩ : ∃ L, L = bindsP p := ⟨_, rfl⟩
      obtain ⟨PF, hPF⟩ : ∃ PF, PF = freeN 60 (.exp e) := ⟨_, rfl⟩
      rw [← hLd, ← hPF]
      rw [← hLd] at hbn2 hL
      rw [← hPF] at hfe
      have HLD := Lib.hid hLd
      have HPF := Lib.hid hPF
      clear hLd hPF hbs
      go_enter Tryz.func226, Tryz.ntmps226
      go_wp2
      rw [← HW.out]
      first
      | go_region_held3 (fun w' => w'.cell? ⟨w.heap.size, 1, none⟩ = some (.string y) ∧ w'.cell? ⟨w.heap.size + 1, 0, none⟩ = some av ∧ w'.cell? ⟨w.heap.size + 1, 1, none⟩ = some fv) (go_keep)
        (first
        | (go_at_call 227; refine (hbn _ (by assumption)).mono ?_; rintro e' w2 ⟨rfl, g2⟩; obtain ⟨s1, s2, s3, s4, s5, s6, s7⟩ := hread _ g2)
        | (go_at_call 75; refine (hfr _ (by assumption)).mono ?_; rintro e' w4 ⟨b2, rfl, hlk, g4⟩; obtain ⟨z1, z2, z3, z4, z5, z6, z7⟩ := hread _ g4))
      | skip
      clear hbn hfr hread
      go_wp2_with (first
        | (go_at_call 75; refine (hfe _ (by assumption)).mono ?_; clear hfe; rintro e' w5 ⟨b3, N3, rfl, hset, g5⟩)
        | (refine (hbn2 _ (by assumption)).mono ?_; clear hbn2; rintro e' w6 ⟨a3, c3, rfl, hs6, hb6, g6⟩))
      have hset6 := hset.later hb6
      have hbw6 := hout _ g6
      obtain ⟨A, hA⟩ : ∃ A, A = w6.heap.size := ⟨_, rfl⟩
      have HA := Lib.hid hA
      obtain ⟨_, _, hse, _, hzz, _, hp6⟩ := hs6
      injection hse with q1 q2 q3
      subst q1; subst q3
      clear g0 g4 g5 g6 hset hb6 hlk
      go_loopw [7, 30] (fun v i wr => ∃ (k : Nat) (xs : List ByteArray), k ≤ L.length ∧ i = .int .i64 k ∧ xs = (L.take k).filter (fun n => PF (bytesOf n)) ∧ xs.length ≤ k ∧ wr.ownsRow A 9 1 v xs.length (strVals xs) ∧ (∀ s ∈ xs, s.size ≤ maxLen) ∧ Below w6.heap.size w6 wr) (fun _ i _ => L.length - (intOf i).toNat)
      case atStart => exact ⟨0, [], by omega, rfl, by simp, by simp, World.ownsRow_nil _ _ _ _, by simp, Below.refl _ _⟩
      case round =>
        obtain ⟨k, xs, hk, rfl, hxs, hxl, hown, hxz, hb⟩ := hrel
        have HX := Lib.hid hxs
        by_cases hlt : k < L.length
        · rcases hp6 with h0 | ⟨bb, off, rfl, hbB, hc⟩
          · subst h0; simp at hlt
          have hwr := hb.size
          have ck := (hb.cell (p := ⟨bb, off + k, none⟩) hbB).trans (hc k hlt)
          have hxk := hzz _ (List.getElem_mem hlt)
          have hft : (L.take (k + 1)).filter (fun n => PF (bytesOf n)) = xs ++ if PF (bytesOf L[k]) then [L[k]] else [] := by
            rw [List.take_succ_eq_append_getElem hlt, List.filter_append, hxs]
            congr 1
            simp only [List.filter_cons, List.filter_nil]
          obtain ⟨x, hx⟩ : ∃ x, x = L[k] := ⟨_, rfl⟩
          rw [← hx] at ck hxk hft
          have HFT := Lib.hid hft
          have hlk := (hset6.later hb).look hxk
          clear hft hx hc hxs hzz
          cases hPx : PF (bytesOf x) with
          | false =>
            rw [hPx] at hlk
            go_wp2
            go_roundw
            case rel => exact ⟨k + 1, xs, by omega, by go_num, by rw [HFT.out, hPx]; simp, by omega, hown, hxz, hb⟩
            case measure => simp [intOf]; omega
          | true =>
            rw [hPx] at hlk
            have hA' := HA.out
            have hAl : Below wr.heap.size wr (wr.alloc (.cells #[.string x] 9)) := (Below.refl _ wr).alloc (Nat.le_refl _) _
            have hoA := ownsRow_keep hown (grown_of_below hAl) (fun g _ e => by cases e)
            obtain ⟨v', w', hr, h1, h2, _, _⟩ := run_append_own_at (P := Tryz.prog) (wr.alloc (.cells #[.string x] 9)) A 22 22 9 i0 (.string ⟨#[]⟩) 1 16 Tryz.underlying22 hi hz0 hz1 hz2 rfl (by decide) _ _ _ hoA
              ⟨wr.heap.size, 0, none⟩ 1 1 [.string x] rfl (by
                intro j u hj
                have e : (⟨wr.heap.size, 0, none⟩ : Addr).add j = ⟨wr.heap.size, j, none⟩ := by unfold Addr.add; by_cases h : j = 0 <;> simp [h]
                rw [e, World.cell?_alloc_at _ _ _ _ rfl]
                simpa using hj) (by simp [Value.oneCell']) (by unfold maxLen; omega) (by omega) (by simp; omega)
            have hlo := hown.lt
            have hbw : Below w6.heap.size w6 w' := (hb.trans (hAl.mono hwr)).grown h2 (by simp; omega) (fun r e => by have := (hlo r e).1; omega)
            obtain ⟨_, ⟨_, h0⟩ | ⟨gg, cp, cur, hvf, _⟩⟩ := id h1
            · omega
            subst hvf
            have H1 : Hid (w'.ownsRow A 9 1 (.slice (some ⟨gg, 0, none⟩) (xs.length + 1) cp) (xs ++ [x]).length (strVals (xs ++ [x]))) := Lib.hid (by
              have : strVals (xs ++ [x]) = strVals xs ++ [.string x] := by simp [strVals]
              rw [this, List.length_append]; exact h1)
            have H2 : Hid (∀ s ∈ xs ++ [x], s.size ≤ maxLen) := Lib.hid (by
              intro s hs
              rcases List.mem_append.1 hs with h | h
              · exact hxz s h
              · rw [List.mem_singleton.1 h]; exact hxk)
            have H3 := Lib.hid hbw
            clear h1 h2 hoA hbw hxz hown hlo hA'
            go_wp2_with (show wpList _ _ _ (⟨some 40, _, _, _, _, _⟩ :: _) _ _; refine wpList_append_eq rfl (.tmp 37) (.tmp 39) 22 22 rfl rfl rfl hr ?_)
            go_roundw
            case rel => exact ⟨k + 1, xs ++ [x], by omega, by go_num, by rw [HFT.out, hPx]; simp, by simp; omega, H1.out, H2.out, H3.out⟩
            case measure => simp [intOf]; omega
        · obtain rfl : k = L.length := by omega
          rw [List.take_length] at hxs
          have hsl := strs_of_owns hown hxz
          rw [hxs] at hsl
          have HSL := Lib.hid hsl
          have hbo := hbw6.trans (hb.mono hbw6.size)
          obtain ⟨aa, cc, hvv, _⟩ := owns_cells (by omega) hown
          subst hvv
          clear hsl hown
          go_wp2
          go_ret
          exact ⟨_, rfl, by rw [← hxs]; rw [← hxs] at HSL; exact HSL.out, hbo⟩

end Go.Proofs.YtjmlaeofjjhfmaaGreat
/- renames, of whatever scope. -/
namespace Go.Proofs.YtjmlaeofjjhfmaaGreat
open Go.RowKit Go.Shelf Go.Maps Go.WideMaps

/-- The three ways in which names are renamed. -/
def RenWay (B : Nat) (u : World) (m : Option Nat) (b : Base) (g : Nat) (rcv : Value) : Prop :=
  (g = 224 ∧ rcv = .agg #[.map m] ∧ b = .outside) ∨ (g = 228 ∧ rcv = .agg #[.map m] ∧ b = .anew) ∨
  (g = 226 ∧ ∃ y e o n t a k c, b = .putting y e ∧ y.size ≤ maxLen ∧ PutOk e ∧ ExpAt B u [.int .i64 o, .int .i64 n, .string t, .slice a k c] e ∧ rcv = .agg #[.map m, .string y, .int .i64 o, .int .i64 n, .string t, .slice a k c])
set_option maxRecDepth 100000 in
theorem ren_method {B N : Nat} {u : World} {m : Option Nat} {b : Base} : ∀ (fs : List Frame) (n : Nat) (w : World) (ty : TypeId) (cs : Array Value), fs.length < n → AroundAt B u N m b fs w (.iface ty (.agg cs)) →
    ∃ g rcv, (∀ W, (method n ty (.agg cs) "cabotage/term.renames").run Tryz.prog W = .ok (g, rcv) W) ∧ RenWay B u m b g rcv
  | [], n + 1, w, ty, cs, _, h => by
    cases b with
    | outside =>
      obtain ⟨rfl, rfl⟩ : ty = 116 ∧ cs = #[.map m] := by have h' : Value.iface ty (.agg cs) = .iface 116 (.agg #[.map m]) := h; injection h' with h1 h2; injection h2 with h2; exact ⟨h1, h2⟩
      exact ⟨224, .agg #[.map m], fun W => by kernel_rfl, .inl ⟨rfl, rfl, rfl⟩⟩
    | anew =>
      obtain ⟨rfl, rfl⟩ : ty = 134 ∧ cs = #[.map m] := by have h' : Value.iface ty (.agg cs) = .iface 134 (.agg #[.map m]) := h; injection h' with h1 h2; injection h2 with h2; exact ⟨h1, h2⟩
      exact ⟨228, .agg #[.map m], fun W => by kernel_rfl, .inr (.inl ⟨rfl, rfl, rfl⟩)⟩
    | putting y e =>
      obtain ⟨hy, hp, o, k, t, a, l, c, he, hat⟩ := h
      injection he with h1 h2; injection h2 with h2
      subst h1; subst h2
      exact ⟨226, _, fun W => by kernel_rfl, .inr (.inr ⟨rfl, y, e, o, k, t, a, l, c, rfl, hy, hp, hat, rfl⟩)⟩
  | f :: fs, n + 1, w, ty, cs, hn, h => by
    obtain ⟨av, fv, he, _, ha⟩ := h
    injection he with h1 h2; injection h2 with h2
    subst h1; subst h2
    obtain ⟨ty', cs', rfl⟩ := around_iface ha
    obtain ⟨g, rcv, h1, h2⟩ := ren_method fs n w ty' cs' (by simp at hn; omega) ha
    exact ⟨g, rcv, fun W => by rw [renames_up]; exact h1 W, h2⟩

theorem ren_any {B N : Nat} {u : World} {m : Option Nat} {b : Base} (hBN : B ≤ N) (hm : ∀ r, m = some r → B ≤ r) (f : Frame) (fs : List Frame) (hfs : fs.length < 340) (ty : TypeId) (cs : Array Value) (fv : Value)
    (p : Part) (pv : Value) (hps : p.size ≤ 60) (hsm : p.allSmall) (hbd : p.allBind) (hp : PartAt B u pv p) (w : World) (ha : AroundAt B u N m b fs w (.iface ty (.agg cs))) :
    ∃ g rcv, (∀ W, (method 347 ty (.agg cs) "cabotage/term.renames").run Tryz.prog W = .ok (g, rcv) W) ∧ (∀ args W, (callFunc g args).run Tryz.prog W = .ok (.enter g args) W) ∧
      ∀ W, Good B u N m b (f :: fs) (.iface 123 (.agg #[.iface ty (.agg cs), fv])) W → Calls Tryz.prog g #[rcv, pv, .agg #[.iface ty (.agg cs), fv]] W fun e w' => ∃ r, e = .returned r ∧ StrsAt w'.heap.size w' r (b.renames ⟨b, f :: fs⟩ p) ∧ Below W.heap.size W w' := by
  obtain ⟨g, rcv, h1, h2⟩ := ren_method fs 347 w ty cs (by omega) ha
  refine ⟨g, rcv, h1, ?_, ?_⟩
  · rcases h2 with ⟨rfl, _⟩ | ⟨rfl, _⟩ | ⟨rfl, _⟩
    · exact enters_of Tryz.func224 (by kernel_rfl) rfl
    · exact enters_of Tryz.func228 (by kernel_rfl) rfl
    · exact enters_of Tryz.func226 (by kernel_rfl) rfl
  · intro W hg
    have hs0 := hsm p (by rw [nodesOf_eq]; simp)
    have hb0 := hbd p (by rw [nodesOf_eq]; simp)
    rcases h2 with ⟨rfl, rfl, rfl⟩ | ⟨rfl, rfl, rfl⟩ | ⟨rfl, y, e, o, n, t, a, k, c, rfl, hy, hpo, hat, rfl⟩
    · obtain ⟨_, pc, pt, rfl, _⟩ := binds_face B u p pv hs0 hb0 hp
      refine (ren_outside m _ _ fv pt pc.toArray rfl W).mono ?_
      rintro e' w' ⟨rfl, h⟩
      exact ⟨_, rfl, StrsAt.nil _ _, h⟩
    · exact ren_anew B u p pv hs0 hb0 hp m _ fv W hg.kept hg.room
    · exact ren_putting hBN hm f fs _ fv p pv hps hsm hbd hp y hy o n t a k c e hat hpo W hg

theorem firstFrom_le (U : Used) : ∀ n i, firstFrom U n i ≤ i + n
  | 0, i => by simp [firstFrom]
  | n + 1, i => by
    unfold firstFrom
    split
    · omega
    · have := firstFrom_le U n (i + 1); omega
theorem choose_small (U : Used) : (mkB (choose U)).size ≤ maxLen := by
  have h1 := firstFrom_le U 5000 0
  have h2 := strN_len9 (firstFrom U 5000 0)
  have h3 : (mkB (choose U)).size = (choose U).length := by simp [mkB, ByteArray.size]
  rw [h3]; unfold maxLen; unfold choose; omega
theorem OwnF.cell_ne {w : World} {b n : Nat} {f : Frame} (h : OwnF w b n f) {c o : Nat} {v : Value} (hc : w.cell? ⟨c, o, none⟩ = some v) : c ≠ b := by
  obtain ⟨D, ⟨es, clock, hb, _⟩, _⟩ := h
  intro e; subst e; simp [World.cell?, hb] at hc
theorem CellsKept.turnedF {w0 w w' : World} {b n : Nat} {f : Frame} (h : CellsKept w0 w) (hs : OwnF w b n f) (g : w.grownBy w' (some b)) : CellsKept w0 w' := by
  refine ⟨Nat.le_trans h.1 g.size, fun c o v hc => ?_⟩
  have h1 := h.2 c o v hc
  have h2 := hs.cell_ne h1
  exact (World.cell?_of_block (w := w) (g.block c (lt_of_cell h1) (fun e => h2 (Option.some.inj e)))).trans h1
/-- The map of the names that are not chosen, if there is one. -/
def StateAt (w : World) (m : Option Nat) (n : Nat) (U : Used) : Prop := ∀ b, m = some b → SetF w b n U
theorem StateAt.kept {w w' : World} {m row : Option Nat} {n : Nat} {U : Used} (h : StateAt w m n U) (g : w.grownBy w' row) (hne : ∀ r, row = some r → m ≠ some r) : StateAt w' m n U := fun b hb =>
  (h b hb).kept g (fun e => hne b e.symm hb)
theorem StateAt.noCells {w : World} {m : Option Nat} {n : Nat} {U : Used} (h : StateAt w m n U) : NoCells m w := fun b hb => by
  refine ⟨(h b hb).lt, fun o => ?_⟩
  cases hc : w.cell? ⟨b, o, none⟩ with
  | none => rfl
  | some v => exact absurd rfl ((h b hb).cell_ne hc)
theorem foldl_more {A S : Type} (F : S → A → S) (l : List A) (s : S) (k : Nat) (h : k < l.length) : (l.take (k + 1)).foldl F s = F ((l.take k).foldl F s) l[k] := by
  rw [List.take_succ_eq_append_getElem h, List.foldl_append]; rfl

end Go.Proofs.YtjmlaeofjjhfmaaGreat
/- inside: the scope of the parts of a part. -/
namespace Go.Proofs.YtjmlaeofjjhfmaaGreat
open Go.RowKit Go.Shelf Go.Maps Go.WideMaps

theorem Tryz.results137 : Tryz.f137.results = #[.cell 4 123] := by kernel_rfl
theorem FrAt.map {w : World} {N : Nat} {m : Option Nat} {v : Value} {f : Frame} (h : FrAt w N m v f) : ∃ x, v = .map x := by
  rcases h with ⟨rfl, _⟩ | ⟨b, rfl, _⟩
  · exact ⟨_, rfl⟩
  · exact ⟨_, rfl⟩
/-- The two values of a scope, written out. -/
theorem Good.values {B N : Nat} {u : World} {m : Option Nat} {b : Base} {f : Frame} {fs : List Frame} {av fv : Value} {w : World} (h : Good B u N m b (f :: fs) (.iface 123 (.agg #[av, fv])) w) : ∃ ty cs x, av = .iface ty (.agg cs) ∧ fv = .map x ∧ FrAt w N m fv f ∧ AroundAt B u N m b fs w av := by
  obtain ⟨av', fv', he, hf', ha'⟩ := h.at_
  obtain ⟨rfl, rfl⟩ := agg2_inj he
  obtain ⟨ty, cs, h1⟩ := around_iface ha'
  obtain ⟨x, h2⟩ := hf'.map
  exact ⟨ty, cs, x, h1, h2, hf', ha'⟩
set_option maxRecDepth 10000 in
set_option maxHeartbeats 4000000 in
theorem inside_none {B N : Nat} {u : World} {m : Option Nat} {b : Base} (hBN : B ≤ N) (hm : ∀ r, m = some r → B ≤ r) (f : Frame) (fs : List Frame) (av fv : Value)
    (p : Part) (pv : Value) (hsm : p.allSmall) (hbd : p.allBind) (hp : PartAt B u pv p) (w : World) (hg : Good B u N m b (f :: fs) (.iface 123 (.agg #[av, fv])) w) (hnone : bindsP p = []) :
    Calls Tryz.prog 137 #[.agg #[av, fv], pv] w fun e w' => e = .returned (.agg #[av, fv]) ∧ Below w.heap.size w w' := by
  obtain ⟨aty, acs, fx, rfl, rfl, hfr, har⟩ := hg.values
  obtain ⟨g, pc, ty, rfl, hmb, hcb, hbs⟩ := binds_face B u p pv (hsm p (by rw [nodesOf_eq]; simp)) (hbd p (by rw [nodesOf_eq]; simp)) hp
  obtain ⟨W0, hW0⟩ : ∃ W0, W0 = ((w.alloc (.cells #[.iface aty (.agg acs), .map fx] 123)).alloc (.cells #[.nilIface, .map none] 123)) := ⟨_, rfl⟩
  have hb0 : Below w.heap.size w W0 := by rw [hW0]; exact ((Below.refl _ w).alloc (Nat.le_refl _) _).alloc (by simp) _
  have hz : W0.heap.size = w.heap.size + 2 := by rw [hW0]; simp
  have k3 : W0.heap[w.heap.size]? = some (.cells #[.iface aty (.agg acs), .map fx] 123) := by
    rw [hW0, Below.heap_alloc _ _ _ (by simp)]; exact World.alloc_heap_new w _
  have k4 : W0.heap[w.heap.size + 1]? = some (.cells #[.nilIface, .map none] 123) := by
    rw [hW0]; have := World.alloc_heap_new (w.alloc (.cells #[.iface aty (.agg acs), .map fx] 123)) (.cells #[.nilIface, .map none] 123); rwa [World.size_alloc] at this
  have hstay := Good.stays (b := b) (fs := f :: fs) (v := .iface 123 (.agg #[.iface aty (.agg acs), .map fx])) (u := u) hBN hm
  have hg0 := hstay.below hg hb0
  have hbc := hbs W0 hg0.kept hg0.room
  have HW := Lib.hid hW0
  rw [hnone] at hbc
  clear hW0 hbs
  go_enter Tryz.func137, Tryz.ntmps137
  go_wp2_with (rw [← HW.out]; refine hbc.mono ?_; clear hbc; rintro e w1 ⟨r, rfl, ⟨ra, rc, rfl, _⟩, hb1⟩; have q3 := (hb1.block _ (by omega)).trans k3; have q4 := (hb1.block _ (by omega)).trans k4; have c0 : w1.cell? ⟨w.heap.size, 0, none⟩ = some (.iface aty (.agg acs)) := (by simp [World.cell?, q3]); have c1 : w1.cell? ⟨w.heap.size, 1, none⟩ = some (.map fx) := (by simp [World.cell?, q3]); have d0 : w1.cell? ⟨w.heap.size + 1, 0, none⟩ = some .nilIface := (by simp [World.cell?, q4]); have d1 : w1.cell? ⟨w.heap.size + 1, 1, none⟩ = some (.map none) := (by simp [World.cell?, q4]); have df : ∀ o, w1.frozen? ⟨w.heap.size + 1, o, none⟩ = false := (fun o => by simp [World.frozen?, q4]))
  simp [bodyPost, results, Tryz.results137, go_sem, d0, d1]
  exact ((hb0.trans (hb1.mono (by omega))).setCell (show w.heap.size ≤ (⟨w.heap.size + 1, 0, none⟩ : Addr).block from Nat.le_succ _) _).setCell (show w.heap.size ≤ (⟨w.heap.size + 1, 1, none⟩ : Addr).block from Nat.le_succ _) _

end Go.Proofs.YtjmlaeofjjhfmaaGreat
