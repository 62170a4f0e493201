/- becomes of the scope around a process in which an expression is put. -/
import Derived.Test.YtjmlaeofjjhfmaaGreatM25
import Derived.Deep.RegionLaw
set_option linter.unusedVariables false
set_option linter.unusedSimpArgs false
namespace Go.Proofs.YtjmlaeofjjhfmaaGreat
open Go.RowKit Go.Shelf Go.Maps Go.WideMaps

theorem toList_beq (x y : ByteArray) : (x.toList == y.toList) = true ↔ x = y := by
  rw [ByteArray.toList_eq, ByteArray.toList_eq, beq_iff_eq]
  exact ⟨fun h => ByteArray.ext (Array.toList_inj.1 h), fun h => by rw [h]⟩

set_option maxRecDepth 10000 in
set_option maxHeartbeats 2000000 in
theorem putting_bec (B : Nat) (u : World) (m : Option Nat) (y : ByteArray) (o n : Int) (t : ByteArray) (a : Option Addr) (k c : Nat) (e : Exp) (hat : ExpAt B u [.int .i64 o, .int .i64 n, .string t, .slice a k c] e)
    (hes : (Part.exp e).size ≤ 1000) (hsm : (Part.exp e).allSmall) (hpl : plainE e = true) :
    Bec (.iface 118 (.agg #[.map m, .string y, .int .i64 o, .int .i64 n, .string t, .slice a k c])) (Base.becomes (.putting y e)) (fun W => KeptC B u W ∧ B ≤ W.heap.size) := by
  refine ⟨118, _, 225, .agg #[.map m, .string y, .int .i64 o, .int .i64 n, .string t, .slice a k c], rfl, fun W => by kernel_rfl, enters_of Tryz.func225 (by kernel_rfl) rfl, fun w x hx ⟨hu, hB⟩ => ?_⟩
  obtain ⟨W0, hW0⟩ : ∃ W0, W0 = ((w.alloc (.cells #[.map m, .string y, .int .i64 o, .int .i64 n, .string t, .slice a k c] 118)).alloc (.cells #[.int .i64 0, .int .i64 0, .string ⟨#[]⟩, .slice none 0 0] 36)) := ⟨_, rfl⟩
  have hb0 : Below w.heap.size w W0 := by rw [hW0]; exact ((Below.refl _ w).alloc (Nat.le_refl _) _).alloc (by simp) _
  have hz : W0.heap.size = w.heap.size + 2 := by rw [hW0]; simp
  have k3 : W0.heap[w.heap.size]? = some (.cells #[.map m, .string y, .int .i64 o, .int .i64 n, .string t, .slice a k c] 118) := by
    rw [hW0, Below.heap_alloc _ _ _ (by simp)]; exact World.alloc_heap_new w _
  have k4 : W0.heap[w.heap.size + 1]? = some (.cells #[.int .i64 0, .int .i64 0, .string ⟨#[]⟩, .slice none 0 0] 36) := by
    rw [hW0]; have := World.alloc_heap_new (w.alloc (.cells #[.map m, .string y, .int .i64 o, .int .i64 n, .string t, .slice a k c] 118)) (.cells #[.int .i64 0, .int .i64 0, .string ⟨#[]⟩, .slice none 0 0] 36); rwa [World.size_alloc] at this
  have HW := Lib.hid hW0
  cases he : (x.toList == y.toList) with
  | false =>
    have hxy : ¬ x = y := fun h => by rw [(toList_beq x y).2 h] at he; cases he
    have hn := named_any x W0
    clear hW0
    go_enter Tryz.func225, Tryz.ntmps225
    go_wp2_with (go_at_call 190; rw [← HW.out]; refine hn.mono ?_; clear hn; rintro e w1 ⟨rfl, hb1⟩; obtain ⟨c0, c1, c2, c3, cf⟩ := ZeroExp.cells ((hb1.block (w.heap.size + 1) (by omega)).trans k4))
    simp [bodyPost, results, Tryz.results225, go_sem, c0, c1, c2, c3]
    have hbw := hb0.trans (hb1.mono (by omega))
    exact ⟨by rw [show Base.becomes (.putting y e) x = nameE x by unfold Base.becomes; simp [hxy]]; exact nm_at _ _ x hx, set4 hbw (w.heap.size + 1) (by omega) _ _ _ _⟩
  | true =>
    have hxy : x = y := (toList_beq x y).1 he
    obtain ⟨G, hG⟩ : ∃ G : World → Prop, G = fun W => Below W0.heap.size W0 W := ⟨_, rfl⟩
    have g0 : G W0.drew := by rw [hG]; exact (Below.refl _ _).drew
    have hread : ∀ W, G W → W.cell? ⟨w.heap.size, 2, none⟩ = some (.int .i64 o) ∧ W.cell? ⟨w.heap.size, 3, none⟩ = some (.int .i64 n) ∧ W.cell? ⟨w.heap.size, 4, none⟩ = some (.string t) ∧ W.cell? ⟨w.heap.size, 5, none⟩ = some (.slice a k c) := fun W h => by
      rw [hG] at h
      have q := (h.block w.heap.size (by omega)).trans k3
      exact ⟨by simp [World.cell?, q], by simp [World.cell?, q], by simp [World.cell?, q], by simp [World.cell?, q]⟩
    have hcop : ∀ W, G W → Calls Tryz.prog 101 #[] W fun e w' => e = .returned (.agg #[.iface 116 (.agg #[.map none]), .map none]) ∧ G w' := fun W h => by
      rw [hG] at h ⊢
      exact (copied_any W).mono fun _ w' ⟨h1, h2⟩ => ⟨h1, h.trans (h2.mono h.size)⟩
    have hexp : ∀ W, G W → Calls Tryz.prog 140 #[.agg #[.iface 116 (.agg #[.map none]), .map none], .agg #[.int .i64 o, .int .i64 n, .string t, .slice a k c]] W fun e' w' => ∃ e0 e1 e2 e3 e4 e5, e' = .returned (.agg #[.int .i64 e0, .int .i64 e1, .string e2, .slice e3 e4 e5]) ∧
        ExpAt w'.heap.size (blank W0.heap.size w') [.int .i64 e0, .int .i64 e1, .string e2, .slice e3 e4 e5] e ∧ Below w.heap.size w w' ∧ ZeroExp w' (w.heap.size + 1) := fun W h => by
      rw [hG] at h
      have hbW := hb0.trans (h.mono (by omega))
      refine (exp_any B u 0 none _ _ nameE (fun _ => True) copied_bec (stays_true _ _) 1000 e hes hsm _ W hat (hu.trans ((Below.keptC hbW).mono hB)) (by have := hbW.size; omega) (by omega) trivial).mono ?_
      rintro e' w' ⟨cs', rfl, h1, h2⟩
      obtain ⟨e0, e1, e2, e3, e4, e5, rfl⟩ := exp_shape h1
      rw [copyX_plain e hpl] at h1
      refine ⟨_, _, _, _, _, _, rfl, ExpAt.keep (blank_kept h.size fun b o v _ _ hv => hv) (Nat.le_refl _) _ _ h1, hbW.trans (h2.mono hbW.size), (h2.block _ (by have := h.size; omega)).trans ((h.block _ (by omega)).trans k4)⟩
    have HG := Lib.hid hG
    clear hG hat
    obtain ⟨r2, r3, r4, r5⟩ := hread _ g0
    clear hW0
    go_enter Tryz.func225, Tryz.ntmps225
    go_wp2
    rw [← HW.out]
    go_region_law (go_simp; go_wp2_with (first
      | (go_at_call 140; refine (hexp _ (by assumption)).mono ?_; rintro e' w2 ⟨e0, e1, e2, e3, e4, e5, rfl, hat', hbw, hze⟩; obtain ⟨c0, c1, c2, c3, cf⟩ := ZeroExp.cells hze)
      | (go_at_call 101; refine (hcop _ (by assumption)).mono ?_; rintro e' w1 ⟨rfl, g1⟩; obtain ⟨s2, s3, s4, s5⟩ := hread _ g1)))
    all_goals
      go_wp2
      simp [bodyPost, results, Tryz.results225, go_sem, c0, c1, c2, c3]
      exact ⟨by rw [show Base.becomes (.putting y e) x = e by unfold Base.becomes; simp [hxy]]; exact exp_set (n := w.heap.size + 1) hat' (by omega) _ (fun b hb => by rw [Below.heap_setCell _ _ _ _ (by simp; omega), Below.heap_setCell _ _ _ _ (by simp; omega), Below.heap_setCell _ _ _ _ (by simp; omega), Below.heap_setCell _ _ _ _ (by simp; omega)]) _ (by omega), set4 hbw (w.heap.size + 1) (by omega) _ _ _ _⟩

end Go.Proofs.YtjmlaeofjjhfmaaGreat
/- text: a name in a scope where no other expression can stand; lists of names. -/
namespace Go.Proofs.YtjmlaeofjjhfmaaGreat
open Go.RowKit Go.Shelf Go.Maps Go.WideMaps

def expName : Exp → Option ByteArray
  | .mk op _ t _ => if op = 2 then some t else none
def textT (T : ByteArray → Exp) (x : ByteArray) : Option ByteArray := if x.size = 0 then some x else expName (T x)
theorem textM_eq (v : Env) (x : ByteArray) : textM v x = textT v.becomes x := by
  unfold textM textT expName
  split
  · rfl
  · cases v.becomes x; rfl

set_option maxRecDepth 10000 in
set_option maxHeartbeats 2000000 in
theorem text_any (av fv : Value) (T : ByteArray → Exp) (good : World → Prop) (h171 : Bec171 (.agg #[av, fv]) T good) (hgd : ∀ W W', good W → Below W.heap.size W W' → good W') (x : ByteArray) (hx : x.size ≤ maxLen) (w : World) (hg : good w) :
    Calls Tryz.prog 138 #[.agg #[av, fv], .string x] w fun e' w' => OutE (textT T x) e' (Below w.heap.size w w') fun t => e' = .returned (.string t) ∧ t.size ≤ maxLen ∧ Below w.heap.size w w' := by
  obtain ⟨W0, hW0⟩ : ∃ W0, W0 = w.alloc (.cells #[av, fv] 123) := ⟨_, rfl⟩
  have hb0 : Below w.heap.size w W0 := by rw [hW0]; exact (Below.refl _ w).alloc (Nat.le_refl _) _
  have hz : W0.heap.size = w.heap.size + 1 := by rw [hW0]; simp
  have hc := h171 W0 x hx (hgd _ _ hg hb0)
  have HW := Lib.hid hW0
  cases he : (x.toList == ([] : List UInt8)) with
  | true =>
    have hx0 : x = ⟨#[]⟩ := by
      rw [ByteArray.toList_eq, beq_iff_eq] at he
      exact ByteArray.ext (by simpa using he)
    subst hx0
    have ht : textT T ⟨#[]⟩ = some ⟨#[]⟩ := by unfold textT; exact if_pos (show (⟨#[]⟩ : ByteArray).size = 0 from rfl)
    rw [ht]
    clear hc
    go_enter Tryz.func138, Tryz.ntmps138
    go_wp2
    go_ret
    exact ⟨rfl, by simp [ByteArray.size], by rw [← HW.out]; exact hb0⟩
  | false =>
    have hx0 : ¬ x.size = 0 := by
      intro h
      rw [ByteArray.toList_eq] at he
      have : x.data.toList = [] := by
        have h2 : x.data.size = 0 := h
        exact List.eq_nil_of_length_eq_zero (by rw [Array.length_toList]; exact h2)
      rw [this] at he; simp at he
    have ht : textT T x = expName (T x) := by unfold textT; rw [if_neg hx0]
    rw [ht]
    obtain ⟨op, n, t, kids, hTX⟩ : ∃ op n t kids, T x = .mk op n t kids := by cases T x; exact ⟨_, _, _, _, rfl⟩
    rw [hTX] at hc ⊢
    clear hW0
    by_cases hop : op = 2
    · subst hop
      rw [show expName (.mk 2 n t kids) = some t from rfl]
      go_enter Tryz.func138, Tryz.ntmps138
      go_wp2_with (go_at_call 171; rw [← HW.out]; refine hc.mono ?_; clear hc; rintro e w1 ⟨cs', rfl, hat, hb1⟩; obtain ⟨htz, v, rfl, a', c', rfl, _⟩ := hat)
      go_ret
      exact ⟨rfl, htz, (hb0.trans (hb1.mono (by omega))).alloc (by have := hb1.size; omega) _⟩
    · rw [show expName (.mk op n t kids) = none by show (if op = 2 then some t else none) = none; exact if_neg hop]
      have href := refuse_any 7
      go_enter Tryz.func138, Tryz.ntmps138
      go_wp2_with (first
        | (go_at_call 171; rw [← HW.out]; refine hc.mono ?_; clear hc; rintro e w1 ⟨cs', rfl, hat, hb1⟩; obtain ⟨htz, v, rfl, a', c', rfl, _⟩ := hat)
        | (go_at_call 103; refine (href _).mono ?_; rintro e w2 ⟨rfl, rfl⟩))
      simp only [bodyPost]
      exact ⟨by trivial, rfl, (hb0.trans (hb1.mono (by omega))).alloc (by have := hb1.size; omega) _⟩

end Go.Proofs.YtjmlaeofjjhfmaaGreat
/- each, of strings. -/
namespace Go.Proofs.YtjmlaeofjjhfmaaGreat
open Go.RowKit Go.Shelf Go.Maps

theorem strs_blank {w : World} {A : Nat} {v : Value} {ss : List ByteArray} (h : w.ownsRow A 9 1 v ss.length (strVals ss)) (hz : ∀ s ∈ ss, s.size ≤ maxLen) : StrsAt w.heap.size (blank A w) v ss := by
  have hc := strs_of_owns h hz
  obtain ⟨a, cap, rfl, h1, h2, h3, h4⟩ := hc
  refine ⟨a, cap, rfl, h1, h2, h3, ?_⟩
  rcases h4 with h4 | ⟨b, off, rfl, hb, hcell⟩
  · exact .inl h4
  · refine .inr ⟨b, off, rfl, hb, fun j hj => ?_⟩
    have hA := (h.lt b rfl).1
    rw [blank_cell, if_neg (by omega)]
    exact hcell j hj
/-- The steps of a list without a state. -/
def mapM1 {A B : Type} (F : A → Option B) (l : List A) : Option (List B) := (stepsM (fun (_ : Unit) a => (F a).map fun b => (b, ())) () l).map (·.1)
theorem textsM_map (v : Env) (l : List ByteArray) : textsM v l = mapM1 (textM v) l := textsM_eq v l
theorem msgsM_map (v i : Env) (l : List Msg) : msgsM v i l = mapM1 (msgM v i) l := msgsM_eq v i l

set_option maxRecDepth 10000 in
set_option maxHeartbeats 1000000 in
theorem each_174 (sv : Value) (N : Nat) (m : Option Nat) (good : World → Prop) (hstay : Stays N m good) (F : ByteArray → Option ByteArray)
    (hcall : ∀ x W, x.size ≤ maxLen → good W → Calls Tryz.prog 138 #[sv, .string x] W fun e w' => OutE (F x) e (Below W.heap.size W w') fun t => e = .returned (.string t) ∧ t.size ≤ maxLen ∧ Below W.heap.size W w')
    (B : Nat) (u : World) (l : List ByteArray) (v : Value) (hl : l.length ≤ 1000) (hs : StrsAt B u v l) (w : World) (hu : KeptC B u w) (hB : B ≤ w.heap.size) (hN : N ≤ w.heap.size) (hg : good w) :
    Calls Tryz.prog 174 #[v, .func (.func 138) #[sv] #[]] w fun e w' => OutE (mapM1 F l) e (Below w.heap.size w w') fun l' => ∃ v', e = .returned v' ∧ l'.length = l.length ∧ StrsAt w'.heap.size (blank w.heap.size w') v' l' ∧ Below w.heap.size w w' := by
  obtain ⟨i0, hi, hz0, hz1, hz2⟩ := info_parts info9
  have eK : ∀ args w, (callFunc 138 args).run Tryz.prog w = .ok (.enter 138 args) w := enters_of Tryz.func138 (by kernel_rfl) rfl
  obtain ⟨a, cap, rfl, _, hz, _, hp⟩ := hs
  unfold mapM1
  obtain ⟨G, hG⟩ : ∃ G : Unit → ByteArray → Option (ByteArray × Unit), G = fun _ a => (F a).map fun b => (b, ()) := ⟨_, rfl⟩
  rw [← hG]
  have HG := Lib.hid hG
  have hu' := Lib.hid hu
  clear hu hG
  go_enter Tryz.func174, Tryz.ntmps174
  go_wp2_with fail
  go_loopw [5, 10] (fun v i wr => ∃ (k : Nat) (xs : List ByteArray), k ≤ l.length ∧ i = .int .i64 k ∧ stepsM G () (l.take k) = some (xs, ()) ∧ xs.length = k ∧ wr.ownsRow w.heap.size 9 1 v k (strVals xs) ∧ (∀ s ∈ xs, s.size ≤ maxLen) ∧ good wr ∧ Below w.heap.size w wr) (fun _ i _ => l.length - (intOf i).toNat)
  case atStart => exact ⟨0, [], by omega, rfl, by simp [stepsM], rfl, World.ownsRow_nil _ _ _ _, by simp, hg, Below.refl _ _⟩
  case round =>
    obtain ⟨k, xs, hk, rfl, hst, hxl, hown, hxz, hgr, hb⟩ := hrel
    have HXL := Lib.hid hxl; clear hxl
    by_cases hlt : k < l.length
    · rcases hp with h0 | ⟨b, off, rfl, hbB, hc⟩
      · subst h0; simp at hlt
      have hku : KeptC B u wr := hu'.out.trans ((Below.keptC hb).mono hB)
      have hwr := hb.size
      have ck := hku _ _ _ hbB (hc k hlt)
      have hxk := hz _ (List.getElem_mem hlt)
      have hmore := Lib.hid (stepsM_more hlt hst)
      have hnone := Lib.hid (stepsM_none hlt hst)
      have hcl := hcall l[k] wr hxk hgr
      obtain ⟨x, hx⟩ : ∃ x, x = l[k] := ⟨_, rfl⟩
      rw [← hx] at ck hcl hmore hnone hxk
      have HX := Lib.hid hx
      have hGF : G () x = (F x).map fun b => (b, ()) := by rw [HG.out]
      obtain ⟨R, hR⟩ : ∃ R, R = F x := ⟨_, rfl⟩
      rw [← hR] at hcl hGF
      have HGF := Lib.hid hGF
      clear hGF hR hx hc hst hcall hz
      cases R with
      | none =>
        go_wp2_with (go_at_call 138; refine hcl.mono ?_; clear hcl; rintro e w3 ⟨rfl, hbp⟩)
        simp only [bodyPost]
        rw [hnone.out (by rw [HGF.out]; rfl)]
        exact ⟨by trivial, rfl, hb.trans (hbp.mono hwr)⟩
      | some t =>
        have hj : ∀ (w3 : World), t.size ≤ maxLen → Below wr.heap.size wr w3 → ∃ gg cp w', (Builtin.append_ #[22, 22] 22 #[u5, .slice (some ⟨w3.heap.size, 0, none⟩) 1 1]).run Tryz.prog (w3.alloc (.cells #[.string t] 9)) = .ok (.slice (some ⟨gg, 0, none⟩) (k + 1) cp) w' ∧
              w'.ownsRow w.heap.size 9 1 (.slice (some ⟨gg, 0, none⟩) (k + 1) cp) (k + 1) (strVals (xs ++ [t])) ∧ (∀ s ∈ xs ++ [t], s.size ≤ maxLen) ∧ good w' ∧ Below w.heap.size w w' := by
          intro w3 htz hb3
          have hA : Below wr.heap.size wr (w3.alloc (.cells #[.string t] 9)) := hb3.alloc hb3.size _
          have hoA := ownsRow_keep hown (grown_of_below hA) (fun g _ e => by cases e)
          obtain ⟨v', w', hr, h1, h2, _, _⟩ := run_append_own_at (P := Tryz.prog) (w3.alloc (.cells #[.string t] 9)) w.heap.size 22 22 9 i0 (.string ⟨#[]⟩) 1 16 Tryz.underlying22 hi hz0 hz1 hz2 rfl (by decide) _ k _ hoA
            ⟨w3.heap.size, 0, none⟩ 1 1 [.string t] rfl (by
              intro j u hj
              have e : (⟨w3.heap.size, 0, none⟩ : Addr).add j = ⟨w3.heap.size, j, none⟩ := by unfold Addr.add; by_cases h : j = 0 <;> simp [h]
              rw [e, World.cell?_alloc_at _ _ _ _ rfl]
              simpa using hj) (by simp [Value.oneCell']) (by unfold maxLen; omega) (by omega) (by have := hA.size; omega)
          have hlo := hown.lt
          have hbw : Below w.heap.size w w' := (hb.trans (hA.mono hwr)).grown h2 (by have := hA.size; omega) (fun r e => (hlo r e).1)
          have hgw : good w' := hstay _ _ _ (hstay.below hgr hA) h2 (fun r e => .inl (by have := (hlo r e).1; omega))
          obtain ⟨_, ⟨_, h0⟩ | ⟨gg, cp, cur, hvf, _⟩⟩ := id h1
          · omega
          subst hvf
          refine ⟨gg, cp, w', hr, ?_, ?_, hgw, hbw⟩
          · have : strVals (xs ++ [t]) = strVals xs ++ [.string t] := by simp [strVals]
            rw [this]; exact h1
          · intro s hs
            rcases List.mem_append.1 hs with h | h
            · exact hxz s h
            · rw [List.mem_singleton.1 h]; exact htz
        clear hown hxz
        go_wp2_with (first
          | (go_at_call 138; refine hcl.mono ?_; clear hcl; rintro e w3 ⟨rfl, htz, hb3⟩; obtain ⟨gg, cp, w', hr, h1, h2, h3, h4⟩ := hj w3 htz hb3; have H1 := Lib.hid h1; have H2 := Lib.hid h2; have H3 := Lib.hid h3; have H4 := Lib.hid h4; clear hj h1 h2 h3 h4 hb3)
          | (show wpList _ _ _ (⟨some 19, _, _, _, _, _⟩ :: _) _ _; refine wpList_append_eq rfl (.tmp 14) (.tmp 18) 22 22 rfl rfl rfl hr ?_))
        go_roundw
        case rel => exact ⟨k + 1, xs ++ [t], by omega, by go_num, by rw [hmore.out, HGF.out]; rfl, by simp [HXL.out], H1.out, H2.out, H3.out, H4.out⟩
        case measure => simp [intOf]; omega
    · obtain rfl : k = l.length := by omega
      rw [List.take_length] at hst
      have HXL' := HXL.out
      have hsl := strs_blank (by rw [HXL']; exact hown) hxz
      have HSL := Lib.hid hsl
      obtain ⟨aa, cc, hvv, _⟩ := owns_cells (by omega) hown
      subst hvv
      clear hsl hown
      go_wp2
      go_ret
      rw [hst]
      exact ⟨_, rfl, HXL', HSL.out, hb⟩

end Go.Proofs.YtjmlaeofjjhfmaaGreat
