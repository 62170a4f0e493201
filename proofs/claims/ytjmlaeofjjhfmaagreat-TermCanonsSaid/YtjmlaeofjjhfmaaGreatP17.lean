/- each, of strings. -/
import Derived.Test.YtjmlaeofjjhfmaaGreatP16
set_option linter.unusedVariables false
set_option linter.unusedSimpArgs false
namespace Go.Proofs.YtjmlaeofjjhfmaaGreat
open Go.RowKit Go.Shelf Go.Maps

theorem strs_blank {w : World} {A : Nat} {v : Value} {ss : List ByteArray} (h : w.ownsRow A 9 1 v ss.length (strVals ss)) (hz : ∀ s ∈ ss, s.size ≤ maxLen) : StrsAt w.heap.size (blank A w) v ss := by
  have hc := strs_of_owns h hz
  obtain ⟨a, cap, rfl, h1, h2, h3, h4⟩ := hc
  refine ⟨a, cap, rfl, h1, h2, h3, ?_⟩
  rcases h4 with h4 | ⟨b, off, rfl, hb, hcell⟩
  · exact .inl h4
  · refine .inr ⟨b, off, rfl, hb, fun j hj => ?_⟩
    have hA := (h.lt b rfl).1
    rw [blank_cell, if_neg (by omega)]
    exact hcell j hj
/-- The steps of a list without a state. -/
def mapM1 {A B : Type} (F : A → Option B) (l : List A) : Option (List B) := (stepsM (fun (_ : Unit) a => (F a).map fun b => (b, ())) () l).map (·.1)
theorem textsM_map (v : Env) (l : List ByteArray) : textsM v l = mapM1 (textM v) l := textsM_eq v l
theorem msgsM_map (v i : Env) (l : List Msg) : msgsM v i l = mapM1 (msgM v i) l := msgsM_eq v i l

set_option maxRecDepth 10000 in
set_option maxHeartbeats 1000000 in
theorem each_174 (sv : Value) (N : Nat) (m : Option Nat) (good : World → Prop) (hstay : Stays N m good) (F : ByteArray → Option ByteArray)
    (hcall : ∀ x W, x.size ≤ maxLen → good W → Calls Tryz.prog 138 #[sv, .string x] W fun e w' => OutE (F x) e (Below W.heap.size W w') fun t => e = .returned (.string t) ∧ t.size ≤ maxLen ∧ Below W.heap.size W w')
    (B : Nat) (u : World) (l : List ByteArray) (v : Value) (hl : l.length ≤ 1000) (hs : StrsAt B u v l) (w : World) (hu : KeptC B u w) (hB : B ≤ w.heap.size) (hN : N ≤ w.heap.size) (hg : good w) :
    Calls Tryz.prog 174 #[v, .func (.func 138) #[sv] #[]] w fun e w' => OutE (mapM1 F l) e (Below w.heap.size w w') fun l' => ∃ v', e = .returned v' ∧ l'.length = l.length ∧ StrsAt w'.heap.size (blank w.heap.size w') v' l' ∧ Below w.heap.size w w' := by
  obtain ⟨i0, hi, hz0, hz1, hz2⟩ := info_parts info9
  have eK : ∀ args w, (callFunc 138 args).run Tryz.prog w = .ok (.enter 138 args) w := enters_of Tryz.func138 (by kernel_rfl) rfl
  obtain ⟨a, cap, rfl, _, hz, _, hp⟩ := hs
  unfold mapM1
  obtain ⟨G, hG⟩ : ∃ G : Unit → ByteArray → Option (ByteArray × Unit), G = fun _ a => (F a).map fun b => (b, ()) := ⟨_, rfl⟩
  rw [← hG]
  have HG := Lib.hid hG
  have hu' := Lib.hid hu
  clear hu hG
  go_enter Tryz.func174, Tryz.ntmps174
  go_wp2_with fail
  go_loopw [5, 10] (fun v i wr => ∃ (k : Nat) (xs : List ByteArray), k ≤ l.length ∧ i = .int .i64 k ∧ stepsM G () (l.take k) = some (xs, ()) ∧ xs.length = k ∧ wr.ownsRow w.heap.size 9 1 v k (strVals xs) ∧ (∀ s ∈ xs, s.size ≤ maxLen) ∧ good wr ∧ Below w.heap.size w wr) (fun _ i _ => l.length - (intOf i).toNat)
  case atStart => exact ⟨0, [], by omega, rfl, by simp [stepsM], rfl, World.ownsRow_nil _ _ _ _, by simp, hg, Below.refl _ _⟩
  case round =>
    obtain ⟨k, xs, hk, rfl, hst, hxl, hown, hxz, hgr, hb⟩ := hrel
    have HXL := Lib.hid hxl; clear hxl
    by_cases hlt : k < l.length
    · rcases hp with h0 | ⟨b, off, rfl, hbB, hc⟩
      · subst h0; simp at hlt
      have hku : KeptC B u wr := hu'.out.trans ((Below.keptC hb).mono hB)
      have hwr := hb.size
      have ck := hku _ _ _ hbB (hc k hlt)
      have hxk := hz _ (List.getElem_mem hlt)
      have hmore := Lib.hid (stepsM_more hlt hst)
      have hnone := Lib.hid (stepsM_none hlt hst)
      have hcl := hcall l[k] wr hxk hgr
      obtain ⟨x, hx⟩ : ∃ x, x = l[k] := ⟨_, rfl⟩
      rw [← hx] at ck hcl hmore hnone hxk
      have HX := Lib.hid hx
      have hGF : G () x = (F x).map fun b => (b, ()) := by rw [HG.out]
      obtain ⟨R, hR⟩ : ∃ R, R = F x := ⟨_, rfl⟩
      rw [← hR] at hcl hGF
      have HGF := Lib.hid hGF
      clear hGF hR hx hc hst hcall hz
      cases R with
      | none =>
        go_wp2_with (go_at_call 138; refine hcl.mono ?_; clear hcl; rintro e w3 ⟨rfl, hbp⟩)
        simp only [bodyPost]
        rw [hnone.out (by rw [HGF.out]; rfl)]
        exact ⟨by trivial, rfl, hb.trans (hbp.mono hwr)⟩
      | some t =>
        have hj : ∀ (w3 : World), t.size ≤ maxLen → Below wr.heap.size wr w3 → ∃ gg cp w', (Builtin.append_ #[22, 22] 22 #[u5, .slice (some ⟨w3.heap.size, 0, none⟩) 1 1]).run Tryz.prog (w3.alloc (.cells #[.string t] 9)) = .ok (.slice (some ⟨gg, 0, none⟩) (k + 1) cp) w' ∧
              w'.ownsRow w.heap.size 9 1 (.slice (some ⟨gg, 0, none⟩) (k + 1) cp) (k + 1) (strVals (xs ++ [t])) ∧ (∀ s ∈ xs ++ [t], s.size ≤ maxLen) ∧ good w' ∧ Below w.heap.size w w' := by
          intro w3 htz hb3
          have hA : Below wr.heap.size wr (w3.alloc (.cells #[.string t] 9)) := hb3.alloc hb3.size _
          have hoA := ownsRow_keep hown (grown_of_below hA) (fun g _ e => by cases e)
          obtain ⟨v', w', hr, h1, h2, _, _⟩ := run_append_own_at (P := Tryz.prog) (w3.alloc (.cells #[.string t] 9)) w.heap.size 22 22 9 i0 (.string ⟨#[]⟩) 1 16 Tryz.underlying22 hi hz0 hz1 hz2 rfl (by decide) _ k _ hoA
            ⟨w3.heap.size, 0, none⟩ 1 1 [.string t] rfl (by
              intro j u hj
              have e : (⟨w3.heap.size, 0, none⟩ : Addr).add j = ⟨w3.heap.size, j, none⟩ := by unfold Addr.add; by_cases h : j = 0 <;> simp [h]
              rw [e, World.cell?_alloc_at _ _ _ _ rfl]
              simpa using hj) (by simp [Value.oneCell']) (by unfold maxLen; omega) (by omega) (by have := hA.size; omega)
          have hlo := hown.lt
          have hbw : Below w.heap.size w w' := (hb.trans (hA.mono hwr)).grown h2 (by have := hA.size; omega) (fun r e => (hlo r e).1)
          have hgw : good w' := hstay _ _ _ (hstay.below hgr hA) h2 (fun r e => .inl (by have := (hlo r e).1; omega))
          obtain ⟨_, ⟨_, h0⟩ | ⟨gg, cp, cur, hvf, _⟩⟩ := id h1
          · omega
          subst hvf
          refine ⟨gg, cp, w', hr, ?_, ?_, hgw, hbw⟩
          · have : strVals (xs ++ [t]) = strVals xs ++ [.string t] := by simp [strVals]
            rw [this]; exact h1
          · intro s hs
            rcases List.mem_append.1 hs with h | h
            · exact hxz s h
            · rw [List.mem_singleton.1 h]; exact htz
        clear hown hxz
        go_wp2_with (first
          | (go_at_call 138; refine hcl.mono ?_; clear hcl; rintro e w3 ⟨rfl, htz, hb3⟩; obtain ⟨gg, cp, w', hr, h1, h2, h3, h4⟩ := hj w3 htz hb3; have H1 := Lib.hid h1; have H2 := Lib.hid h2; have H3 := Lib.hid h3; have H4 := Lib.hid h4; clear hj h1 h2 h3 h4 hb3)
          | (show wpList _ _ _ (⟨some 19, _, _, _, _, _⟩ :: _) _ _; refine wpList_append_eq rfl (.tmp 14) (.tmp 18) 22 22 rfl rfl rfl hr ?_))
        go_roundw
        case rel => exact ⟨k + 1, xs ++ [t], by omega, by go_num, by rw [hmore.out, HGF.out]; rfl, by simp [HXL.out], H1.out, H2.out, H3.out, H4.out⟩
        case measure => simp [intOf]; omega
    · obtain rfl : k = l.length := by omega
      rw [List.take_length] at hst
      have HXL' := HXL.out
      have hsl := strs_blank (by rw [HXL']; exact hown) hxz
      have HSL := Lib.hid hsl
      obtain ⟨aa, cc, hvv, _⟩ := owns_cells (by omega) hown
      subst hvv
      clear hsl hown
      go_wp2
      go_ret
      rw [hst]
      exact ⟨_, rfl, HXL', HSL.out, hb⟩

end Go.Proofs.YtjmlaeofjjhfmaaGreat
/- The scopes in memory; what they say of names. -/
namespace Go.Proofs.YtjmlaeofjjhfmaaGreat
open Go.RowKit Go.Shelf Go.Maps Go.WideMaps

/-- What the expression that is put must be. -/
def PutOk (e : Exp) : Prop := (Part.exp e).size ≤ 60 ∧ (Part.exp e).allSmall ∧ (Part.exp e).allBind ∧ plainE e = true
/-- What is around all, as a value: m is the map of the names that are not chosen. -/
def BaseAt (B : Nat) (u : World) (m : Option Nat) : Base → Value → Prop
  | .outside, v => v = .iface 116 (.agg #[.map m])
  | .anew, v => v = .iface 134 (.agg #[.map m])
  | .putting y e, v => y.size ≤ maxLen ∧ PutOk e ∧ ∃ o n t a k c, v = .iface 118 (.agg #[.map m, .string y, .int .i64 o, .int .i64 n, .string t, .slice a k c]) ∧ ExpAt B u [.int .i64 o, .int .i64 n, .string t, .slice a k c] e
def AroundAt (B : Nat) (u : World) (N : Nat) (m : Option Nat) (b : Base) : List Frame → World → Value → Prop
  | [], _, v => BaseAt B u m b v
  | f :: fs, w, v => ∃ av fv, v = .iface 123 (.agg #[av, fv]) ∧ FrAt w N m fv f ∧ AroundAt B u N m b fs w av
theorem AroundAt.kept {B N : Nat} {u : World} {m : Option Nat} {b : Base} : ∀ {fs : List Frame} {w w' : World} {v : Value} {row : Option Nat}, AroundAt B u N m b fs w v → w.grownBy w' row → (∀ r, row = some r → N ≤ r ∨ m = some r) → AroundAt B u N m b fs w' v
  | [], _, _, _, _, h, _, _ => h
  | _ :: _, _, _, _, _, ⟨av, fv, h1, h2, h3⟩, hg, hr => ⟨av, fv, h1, h2.kept hg hr, h3.kept hg hr⟩
theorem AroundAt.mono {B N N' : Nat} {u : World} {m : Option Nat} {b : Base} (hN : N ≤ N') : ∀ {fs : List Frame} {w : World} {v : Value}, AroundAt B u N m b fs w v → AroundAt B u N' m b fs w v
  | [], _, _, h => h
  | _ :: _, _, _, ⟨av, fv, h1, h2, h3⟩ => ⟨av, fv, h1, h2.mono hN, h3.mono hN⟩

/-- What a scope needs of the world. -/
structure Good (B : Nat) (u : World) (N : Nat) (m : Option Nat) (b : Base) (fs : List Frame) (v : Value) (W : World) : Prop where
  kept : KeptC B u W
  room : B ≤ W.heap.size
  at_ : AroundAt B u N m b fs W v
theorem Good.stays {B N : Nat} {u : World} {m : Option Nat} {b : Base} {fs : List Frame} {v : Value} (hB : B ≤ N) (hm : ∀ r, m = some r → B ≤ r) : Stays N m (Good B u N m b fs v) := by
  intro W W' row ⟨h1, h2, h3⟩ hg hr
  refine ⟨fun c o x hc hx => ?_, Nat.le_trans h2 hg.size, h3.kept hg hr⟩
  refine (World.cell?_of_block (w := W) (hg.block c (by omega) (fun e => ?_))).trans (h1 c o x hc hx)
  rcases hr c e.symm with h | h
  · omega
  · have := hm c h; omega
theorem frT_becomes (b : Base) (f : Frame) (fs : List Frame) (x : ByteArray) : becomesF b x (f :: fs) = frT f (fun x => becomesF b x fs) x := by
  rw [becomesF]; unfold frT
  cases f (bytesOf x) <;> rfl

theorem base_bec {B : Nat} {u : World} {m : Option Nat} : ∀ {b : Base} {v : Value}, BaseAt B u m b v → Bec v b.becomes (fun W => KeptC B u W ∧ B ≤ W.heap.size)
  | .outside, _, rfl => by
    obtain ⟨ty, cs, g, rcv, h1, h2, h3, h4⟩ := bec_outside m
    exact ⟨ty, cs, g, rcv, h1, h2, h3, fun w x hx _ => h4 w x hx trivial⟩
  | .anew, _, rfl => by
    obtain ⟨ty, cs, g, rcv, h1, h2, h3, h4⟩ := bec_anew m
    exact ⟨ty, cs, g, rcv, h1, h2, h3, fun w x hx _ => h4 w x hx trivial⟩
  | .putting y e, _, ⟨_, hp, o, n, t, a, k, c, rfl, hat⟩ => putting_bec B u m y o n t a k c e hat (by have := hp.1; omega) hp.2.1 hp.2.2.2
theorem around_bec {B N : Nat} {u : World} {m : Option Nat} {b : Base} (hB : B ≤ N) (hm : ∀ r, m = some r → B ≤ r) : ∀ (fs : List Frame) (w : World) (v : Value), AroundAt B u N m b fs w v → Bec v (fun x => becomesF b x fs) (Good B u N m b fs v)
  | [], w, v, h => by
    obtain ⟨ty, cs, g, rcv, h1, h2, h3, h4⟩ := base_bec h
    exact ⟨ty, cs, g, rcv, h1, h2, h3, fun w x hx hg => h4 w x hx ⟨hg.kept, hg.room⟩⟩
  | f :: fs, w, v, h => by
    obtain ⟨av, fv, rfl, h2, h3⟩ := h
    have ih := around_bec hB hm fs w av h3
    have h4 := bec_scope ih (fun W W' g hb => (Good.stays hB hm).below g hb) N m fv f
    obtain ⟨ty, cs, g, rcv, h1, h2, h3, h4⟩ := h4
    refine ⟨ty, cs, g, rcv, h1, h2, h3, fun w x hx hg => ?_⟩
    simp only [frT_becomes]
    obtain ⟨av', fv', he, hf', ha'⟩ := hg.at_
    simp only [Value.iface.injEq, Value.agg.injEq, true_and] at he
    have he' : [av, fv] = [av', fv'] := congrArg Array.toList he
    simp only [List.cons.injEq, and_true] at he'
    obtain ⟨rfl, rfl⟩ := he'
    exact h4 w x hx ⟨⟨hg.kept, hg.room, ha'⟩, hf'⟩
/-- A scope's value. -/
theorem scope_bec {B N : Nat} {u : World} {m : Option Nat} {b : Base} (hB : B ≤ N) (hm : ∀ r, m = some r → B ≤ r) (f : Frame) (fs : List Frame) (w : World) (av fv : Value) (h : AroundAt B u N m b (f :: fs) w (.iface 123 (.agg #[av, fv]))) :
    Bec171 (.agg #[av, fv]) (fun x => becomesF b x (f :: fs)) (Good B u N m b (f :: fs) (.iface 123 (.agg #[av, fv]))) := by
  obtain ⟨av1, fv1, he, h2, h3⟩ := h
  simp only [Value.iface.injEq, Value.agg.injEq, true_and] at he
  have he' : [av, fv] = [av1, fv1] := congrArg Array.toList he
  simp only [List.cons.injEq, and_true] at he'
  obtain ⟨rfl, rfl⟩ := he'
  have ih := around_bec hB hm fs w av h3
  have h4 := bec171 ih (fun W W' g hb => (Good.stays hB hm).below g hb) N m fv f
  intro w x hx hg
  simp only [frT_becomes]
  obtain ⟨av', fv', he, hf', ha'⟩ := hg.at_
  simp only [Value.iface.injEq, Value.agg.injEq, true_and] at he
  have he' : [av, fv] = [av', fv'] := congrArg Array.toList he
  simp only [List.cons.injEq, and_true] at he'
  obtain ⟨rfl, rfl⟩ := he'
  exact h4 w x hx ⟨⟨hg.kept, hg.room, ha'⟩, hf'⟩

end Go.Proofs.YtjmlaeofjjhfmaaGreat
/- binds, choose: what a scope asks the scope around it. -/
namespace Go.Proofs.YtjmlaeofjjhfmaaGreat
open Go.RowKit Go.Shelf Go.Maps Go.WideMaps

theorem choose_up (n : Nat) (ty : TypeId) (v fv : Value) (W : World) : (method (n + 1) 123 (.agg #[.iface ty v, fv]) "cabotage/term.choose").run Tryz.prog W = (method n ty v "cabotage/term.choose").run Tryz.prog W := by kernel_rfl
theorem renames_up (n : Nat) (ty : TypeId) (v fv : Value) (W : World) : (method (n + 1) 123 (.agg #[.iface ty v, fv]) "cabotage/term.renames").run Tryz.prog W = (method n ty v "cabotage/term.renames").run Tryz.prog W := by kernel_rfl

theorem around_iface {B N : Nat} {u : World} {m : Option Nat} {b : Base} : ∀ {fs : List Frame} {w : World} {v : Value}, AroundAt B u N m b fs w v → ∃ ty cs, v = .iface ty (.agg cs)
  | [], _, _, h => by
    cases b with
    | outside => exact ⟨_, _, h⟩
    | anew => exact ⟨_, _, h⟩
    | putting y e => obtain ⟨_, _, o, n, t, a, k, c, rfl, _⟩ := h; exact ⟨_, _, rfl⟩
  | _ :: _, _, _, ⟨av, fv, h, _⟩ => ⟨_, _, h⟩
set_option maxRecDepth 100000 in
/-- choose, of whatever scope, is that of what is around all. -/
theorem choose_method {B N : Nat} {u : World} {m : Option Nat} {b : Base} (W : World) : ∀ (fs : List Frame) (n : Nat) (w : World) (ty : TypeId) (cs : Array Value), fs.length < n → AroundAt B u N m b fs w (.iface ty (.agg cs)) →
    (method n ty (.agg cs) "cabotage/term.choose").run Tryz.prog W = .ok (223, .agg #[.map m]) W
  | [], n + 1, w, ty, cs, _, h => by
    cases b with
    | outside => obtain ⟨rfl, rfl⟩ : ty = 116 ∧ cs = #[.map m] := by have h' : Value.iface ty (.agg cs) = .iface 116 (.agg #[.map m]) := h; injection h' with h1 h2; injection h2 with h2; exact ⟨h1, h2⟩
                 kernel_rfl
    | anew => obtain ⟨rfl, rfl⟩ : ty = 134 ∧ cs = #[.map m] := by have h' : Value.iface ty (.agg cs) = .iface 134 (.agg #[.map m]) := h; injection h' with h1 h2; injection h2 with h2; exact ⟨h1, h2⟩
              kernel_rfl
    | putting y e =>
      obtain ⟨_, _, o, k, t, a, l, c, he, _⟩ := h
      injection he with h1 h2; injection h2 with h2
      subst h1; subst h2
      kernel_rfl
  | f :: fs, n + 1, w, ty, cs, hn, h => by
    obtain ⟨av, fv, he, _, ha⟩ := h
    injection he with h1 h2; injection h2 with h2
    subst h1; subst h2
    obtain ⟨ty', cs', rfl⟩ := around_iface ha
    rw [choose_up]
    exact choose_method W fs n w ty' cs' (by simp at hn; omega) ha

set_option maxHeartbeats 1000000 in
theorem choose_any (b n : Nat) (U : Used) (w : World) (hS : SetF w b n U) (hn : n < maxLen) (k : Nat) (hC : Cov U k) (hk : k ≤ 4900) :
    Calls Tryz.prog 223 #[.agg #[.map (some b)]] w fun e w' => e = .returned (.string (mkB (choose U))) ∧ SetF w' b (n + 1) (plusU U (choose U)) ∧ w.grownBy w' (some b) := by
  obtain ⟨j0, hj0, hg0⟩ := hC.free hk
  have hgd : ∀ j, goodAt U j = true ↔ (notWord (strN j) = true ∧ U (strN j) = false) := fun j => by unfold goodAt; simp
  have hb0 : Below w.heap.size w (w.alloc (.cells #[.map (some b)] 116)) := (Below.refl _ w).alloc (Nat.le_refl _) _
  have hun := (callsIn_wide (n := 6)).1 (unused_in 6 (by omega) (w.alloc (.cells #[.map (some b)] 116)) b n U (hS.later hb0) j0 hj0 ((hgd j0).1 hg0))
  have cbox : ∀ W, Below (w.alloc (.cells #[.map (some b)] 116)).heap.size (w.alloc (.cells #[.map (some b)] 116)) W → W.cell? ⟨w.heap.size, 0, none⟩ = some (.map (some b)) := fun W h => by
    refine (h.cell (p := ⟨w.heap.size, 0, none⟩) (by simp)).trans ?_
    rw [World.cell?_alloc_at _ _ _ _ rfl]; rfl
  have hbw := hS.lt
  have hjj : ∀ j, (∀ i, i < j → ¬(notWord (strN i) = true ∧ U (strN i) = false)) → j < 5000 := fun j h => Classical.byContradiction fun hn => h j0 (by omega) ((hgd j0).1 hg0)
  have hsm : ∀ j, (∀ i, i < j → ¬(notWord (strN i) = true ∧ U (strN i) = false)) → (mkB (strN j)).size ≤ maxLen := fun j h => by
    have h1 := hjj j h
    have h2 := strN_len9 j
    have h3 : (mkB (strN j)).size = (strN j).length := by simp [mkB, ByteArray.size]
    rw [h3]; unfold maxLen; omega
  go_enter Tryz.func223, Tryz.ntmps223
  go_wp2_with (go_at_call 56; refine hun.mono ?_; clear hun; rintro e w1 ⟨j, rfl, h1, h2, hb1⟩; have c0 := cbox w1 hb1; have hsz := hsm j h2; obtain ⟨w2, r2, s2, g2⟩ := (hS.later (hb0.trans (hb1.mono (by simp)))).put hn (k := mkB (strN j)) hsz)
  go_ret
  have hch : strN j = choose U := choose_is ((hgd j).2 h1) (fun i hi hc => h2 i hi ((hgd i).1 hc)) (hjj j h2)
  refine ⟨by rw [hch]; rfl, s2.congr fun x => ?_, grown_row (grown_row (grown_refl w (some b)) (grown_of_below (hb0.trans (hb1.mono (by simp)))) (by simp)) g2 (fun r h => .inr h)⟩
  unfold plusU
  rw [bytesOf_mkB, hch]

/-- What a thing around says of binding; where good holds. -/
def Bnd (av : Value) (T : List UInt8 → Bool) (good : World → Prop) : Prop :=
  ∃ ty cs g rcv, av = .iface ty (.agg cs) ∧ (∀ W, (method 347 ty (.agg cs) "cabotage/term.binds").run Tryz.prog W = .ok (g, rcv) W) ∧ (∀ args W, (callFunc g args).run Tryz.prog W = .ok (.enter g args) W) ∧
    ∀ w x, x.size ≤ maxLen → good w → Calls Tryz.prog g #[rcv, .string x] w fun e w' => e = .returned (.bool (T (bytesOf x))) ∧ Below w.heap.size w w'
set_option maxHeartbeats 1000000 in
theorem outside_bnd (m : Option Nat) (x : ByteArray) (w : World) : Calls Tryz.prog 222 #[.agg #[.map m], .string x] w fun e w' => e = .returned (.bool false) ∧ Below w.heap.size w w' := by
  go_enter Tryz.func222, Tryz.ntmps222
  go_wp2
  go_ret
  exact ⟨rfl, (Below.refl _ w).alloc (Nat.le_refl _) _⟩
def bnT (f : Frame) (T : List UInt8 → Bool) (k : List UInt8) : Bool := (f k).isSome || T k
set_option maxRecDepth 10000 in
set_option maxHeartbeats 1000000 in
theorem bnd227 {av : Value} {T : List UInt8 → Bool} {good : World → Prop} (h : Bnd av T good) (hgood : ∀ W W', good W → Below W.heap.size W W' → good W') (N : Nat) (m : Option Nat) (fv : Value) (f : Frame) (w : World) (x : ByteArray) (hx : x.size ≤ maxLen) (hg : good w) (hf : FrAt w N m fv f) :
    Calls Tryz.prog 227 #[.agg #[av, fv], .string x] w fun e w' => e = .returned (.bool (bnT f T (bytesOf x))) ∧ Below w.heap.size w w' := by
  obtain ⟨ty, cs, g, rcv, rfl, hm, hc, hcall⟩ := h
  obtain ⟨W0, hW0⟩ : ∃ W0, W0 = w.alloc (.cells #[.iface ty (.agg cs), fv] 123) := ⟨_, rfl⟩
  have hb0 : Below w.heap.size w W0 := by rw [hW0]; exact (Below.refl _ w).alloc (Nat.le_refl _) _
  have hz : W0.heap.size = w.heap.size + 1 := by rw [hW0]; simp
  obtain ⟨hlk, _⟩ := (hf.later hb0).look hx
  have hcl := hcall W0 x hx (hgood _ _ hg hb0)
  have HW := Lib.hid hW0
  rw [hW0] at hlk
  clear hW0 hcall hg hf
  obtain ⟨BT, hBT⟩ : ∃ b, b = bnT f T (bytesOf x) := ⟨_, rfl⟩
  rw [← hBT]
  unfold bnT at hBT
  have HB := Lib.hid hBT
  clear hBT
  cases hfx : f (bytesOf x) with
  | some n =>
    rw [hfx] at hlk
    simp only [Option.getD_some, Option.isSome_some] at hlk
    clear hcl
    go_enter Tryz.func227, Tryz.ntmps227
    go_wp2
    go_ret
    exact ⟨by rw [HB.out, hfx]; rfl, by rw [← HW.out]; exact hb0⟩
  | none =>
    rw [hfx] at hlk
    simp only [Option.getD_none, Option.isSome_none] at hlk
    go_enter Tryz.func227, Tryz.ntmps227
    go_wp2_with (rw [← HW.out]; refine hcl.mono ?_; clear hcl; rintro e w1 ⟨rfl, hb1⟩)
    go_ret
    exact ⟨by rw [HB.out, hfx]; rfl, hb0.trans (hb1.mono (by omega))⟩
theorem base_bnd {B : Nat} {u : World} {m : Option Nat} : ∀ {b : Base} {v : Value}, BaseAt B u m b v → Bnd v (fun _ => false) (fun _ => True)
  | .outside, _, rfl => ⟨116, #[.map m], 222, .agg #[.map m], rfl, fun W => by kernel_rfl, enters_of Tryz.func222 (by kernel_rfl) rfl, fun w x _ _ => outside_bnd m x w⟩
  | .anew, _, rfl => ⟨134, #[.map m], 222, .agg #[.map m], rfl, fun W => by kernel_rfl, enters_of Tryz.func222 (by kernel_rfl) rfl, fun w x _ _ => outside_bnd m x w⟩
  | .putting y e, _, ⟨_, hp, o, n, t, a, k, c, rfl, hat⟩ => ⟨118, #[.map m, .string y, .int .i64 o, .int .i64 n, .string t, .slice a k c], 222, .agg #[.map m], rfl, fun W => by kernel_rfl, enters_of Tryz.func222 (by kernel_rfl) rfl, fun w x _ _ => outside_bnd m x w⟩
theorem agg2_inj {av fv av' fv' : Value} (he : Value.iface 123 (.agg #[av, fv]) = .iface 123 (.agg #[av', fv'])) : av = av' ∧ fv = fv' := by
  simp only [Value.iface.injEq, Value.agg.injEq, true_and] at he
  have he' : [av, fv] = [av', fv'] := congrArg Array.toList he
  simp only [List.cons.injEq, and_true] at he'
  exact he'
theorem around_bnd {B N : Nat} {u : World} {m : Option Nat} {b : Base} (hB : B ≤ N) (hm : ∀ r, m = some r → B ≤ r) : ∀ (fs : List Frame) (w : World) (v : Value), AroundAt B u N m b fs w v → Bnd v (fun k => fs.any (fun f => (f k).isSome)) (Good B u N m b fs v)
  | [], w, v, h => by
    obtain ⟨ty, cs, g, rcv, h1, h2, h3, h4⟩ := base_bnd h
    exact ⟨ty, cs, g, rcv, h1, h2, h3, fun w x hx hg => h4 w x hx trivial⟩
  | f :: fs, w, v, h => by
    obtain ⟨av, fv, rfl, h2, h3⟩ := h
    have ih := around_bnd hB hm fs w av h3
    refine ⟨123, #[av, fv], 227, .agg #[av, fv], rfl, fun W => by kernel_rfl, enters_of Tryz.func227 (by kernel_rfl) rfl, fun w x hx hg => ?_⟩
    obtain ⟨av', fv', he, hf', ha'⟩ := hg.at_
    obtain ⟨rfl, rfl⟩ := agg2_inj he
    exact bnd227 ih (fun W W' g hb => (Good.stays hB hm).below g hb) N m fv f w x hx ⟨hg.kept, hg.room, ha'⟩ hf'
theorem scope_bnd {B N : Nat} {u : World} {m : Option Nat} {b : Base} (hB : B ≤ N) (hm : ∀ r, m = some r → B ≤ r) (f : Frame) (fs : List Frame) (av fv : Value) (w : World) (x : ByteArray) (hx : x.size ≤ maxLen) (hg : Good B u N m b (f :: fs) (.iface 123 (.agg #[av, fv])) w) :
    Calls Tryz.prog 227 #[.agg #[av, fv], .string x] w fun e w' => e = .returned (.bool ((f :: fs).any (fun f => (f (bytesOf x)).isSome))) ∧ Below w.heap.size w w' := by
  obtain ⟨av', fv', he, hf', ha'⟩ := hg.at_
  obtain ⟨rfl, rfl⟩ := agg2_inj he
  exact bnd227 (around_bnd hB hm fs w av ha') (fun W W' g hb => (Good.stays hB hm).below g hb) N m fv f w x hx ⟨hg.kept, hg.room, ha'⟩ hf'

end Go.Proofs.YtjmlaeofjjhfmaaGreat
