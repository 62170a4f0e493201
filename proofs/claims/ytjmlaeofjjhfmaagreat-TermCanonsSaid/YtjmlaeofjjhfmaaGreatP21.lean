/- each: a new list of what the elements of a list become (messages). -/
import Derived.Test.YtjmlaeofjjhfmaaGreatP15
import Derived.Test.YtjmlaeofjjhfmaaGreatP19
import Derived.Test.YtjmlaeofjjhfmaaGreatP20
set_option linter.unusedVariables false
set_option linter.unusedSimpArgs false
namespace Go.Proofs.YtjmlaeofjjhfmaaGreat
open Go.RowKit Go.Shelf Go.Maps

theorem info144 : (Tryz.prog.info? 144).map (fun i => (i.zero, i.size, i.bytes)) = some (some (.agg #[.string ⟨#[]⟩, .slice none 0 0]), 2, 40) := by kernel_rfl
set_option maxRecDepth 10000 in
set_option maxHeartbeats 1000000 in
theorem each_172 {S : Type} (B : Nat) (u : World) (m : Option Nat) (w : World) (p1 p2 : Addr) (Inv : S → World → Prop) (F : S → Msg → Option (Msg × S)) (l : List Msg) (a : Option Addr) (cap : Nat) (hl : l.length ≤ 1000)
    (hsrc : l.length = 0 ∨ ∃ b off, a = some ⟨b, off, none⟩ ∧ b < B ∧ MsgsAt B u b off l) (hu : KeptC B u w) (hB : B ≤ w.heap.size)
    (hInv : ∀ s W W' row, Inv s W → W.grownBy W' row → (∀ r, row = some r → w.heap.size ≤ r) → Inv s W') (hNC : ∀ s W, Inv s W → NoCells m W) (hm : ∀ b, m = some b → b < w.heap.size)
    (hcall : ∀ k (h : k < l.length) s W cs, Inv s W → w.grownBy W m → MsgAt B u cs l[k] → Calls Tryz.prog 173 #[.agg cs.toArray, .pointer (some p1), .pointer (some p2)] W fun e w' => OutE (F s l[k]) e (W.grownBy w' m) fun (x, s') => ∃ cs', e = .returned (.agg cs'.toArray) ∧ MsgAt w'.heap.size (blank W.heap.size w') cs' x ∧ Inv s' w' ∧ W.grownBy w' m)
    (st : S) (hI : Inv st w) :
    Calls Tryz.prog 172 #[.slice a l.length cap, .func (.func 173) #[] #[.pointer (some p1), .pointer (some p2)]] w fun e w' => OutE (stepsM F st l) e (w.grownBy w' m) fun (l', s') => ∃ v, e = .returned v ∧ l'.length = l.length ∧ SlAt w'.heap.size v l'.length (fun b off => MsgsAt w'.heap.size (blank w.heap.size w') b off l') ∧ Inv s' w' ∧ w.grownBy w' m := by
  obtain ⟨i0, hi, hz0, hz1, hz2⟩ := info_parts info144
  have eK : ∀ args w, (callFunc 173 args).run Tryz.prog w = .ok (.enter 173 args) w := enters_of Tryz.func173 (by kernel_rfl) rfl
  have hnc := hNC _ _ hI
  have hu' := Lib.hid hu
  clear hu
  go_enter Tryz.func172, Tryz.ntmps172
  go_wp2_with fail
  go_loopw [5, 10] (fun v i wr => ∃ (k : Nat) (xs : List Msg) (s : S) (vals : List Value), k ≤ l.length ∧ i = .int .i64 k ∧ stepsM F st (l.take k) = some (xs, s) ∧ xs.length = k ∧ wr.ownsRow w.heap.size 144 2 v k vals ∧
    ChunksAt (fun _ w1 cs x => Apart MsgAt w.heap.size v.ownBlock w1 cs x) 2 0 wr vals xs ∧ Inv s wr ∧ w.grownBy wr m) (fun _ i _ => l.length - (intOf i).toNat)
  case atStart => exact ⟨0, [], st, [], by omega, rfl, by simp [stepsM], rfl, World.ownsRow_nil _ _ _ _, ChunksAt.nil _ _ _ _, hI, grown_refl _ _⟩
  case round =>
    obtain ⟨k, xs, s, vals, hk, rfl, hst, hxl, hown, hch, hIs, hg⟩ := hrel
    have HXL := Lib.hid hxl; clear hxl
    by_cases hlt : k < l.length
    · rcases hsrc with h0 | ⟨b, off, rfl, hb, hxs⟩
      · omega
      obtain ⟨cs, hcell, hat⟩ := MsgsAt.get l b off hxs k hlt
      have hku : KeptC B u wr := hu'.out.trans (grown_keptC hg hnc hB)
      have hBr : B ≤ wr.heap.size := Nat.le_trans hB hg.size
      have hwr := hg.size
      have hcell' := hcell.keep hku hb
      have hmore := Lib.hid (stepsM_more hlt hst)
      have hnone := Lib.hid (stepsM_none hlt hst)
      have hc := hcall k hlt s (wr.alloc (.cells cs.toArray 144)) cs (hInv s _ _ none hIs (World.grownBy_alloc _ _ none) (by simp)) (grown_row hg (World.grownBy_alloc _ _ none) (by simp)) hat
      obtain ⟨c0, c1, c2, c3, rfl⟩ := msg_shape hat
      obtain ⟨d0, d1⟩ := cells2 hcell'
      clear hat hcell hcell' hxs hcall hst
      obtain ⟨R, hR⟩ : ∃ R, R = F s l[k] := ⟨_, rfl⟩
      rw [← hR] at hc hmore hnone
      have HR := Lib.hid hR
      clear hR
      cases R with
      | none =>
        go_wp2_with (go_at_call 173; refine hc.mono ?_; clear hc; rintro e w3 ⟨rfl, hgp⟩)
        simp only [bodyPost]
        rw [hnone.out (by simp)]
        exact ⟨by trivial, rfl, grown_row (grown_row hg (World.grownBy_alloc wr (.cells #[.string c0, .slice c1 c2 c3] 144) none) (by simp)) hgp (fun r h => .inr h)⟩
      | some r =>
        obtain ⟨x, s'⟩ := r
        have hj : ∀ (w3 : World) (cs' : List Value), MsgAt w3.heap.size (blank (wr.alloc (.cells #[.string c0, .slice c1 c2 c3] 144)).heap.size w3) cs' x → Inv s' w3 → (wr.alloc (.cells #[.string c0, .slice c1 c2 c3] 144)).grownBy w3 m →
            ∃ e0 e1 e2 e3 gg cp w', cs' = [.string e0, .slice e1 e2 e3] ∧ (Builtin.append_ #[128, 128] 128 #[u5, .slice (some ⟨w3.heap.size, 0, none⟩) 1 1]).run Tryz.prog (w3.alloc (.cells #[.string e0, .slice e1 e2 e3] 144)) = .ok (.slice (some ⟨gg, 0, none⟩) (k + 1) cp) w' ∧
              w'.ownsRow w.heap.size 144 2 (.slice (some ⟨gg, 0, none⟩) (k + 1) cp) (k + 1) (vals ++ [.string e0, .slice e1 e2 e3]) ∧ ChunksAt (fun _ w1 cs x => Apart MsgAt w.heap.size (Value.slice (some ⟨gg, 0, none⟩) (k + 1) cp).ownBlock w1 cs x) 2 0 w' (vals ++ [.string e0, .slice e1 e2 e3]) (xs ++ [x]) ∧ Inv s' w' ∧ w.grownBy w' m := by
          intro w3 cs' hat' hI' hg'
          obtain ⟨e0, e1, e2, e3, rfl⟩ := msg_shape hat'
          obtain ⟨W4, hW4⟩ : ∃ W4, W4 = w3.alloc (.cells #[.string e0, .slice e1 e2 e3] 144) := ⟨_, rfl⟩
          have hg3 : wr.grownBy w3 m := grown_row (grown_row (grown_refl _ _) (World.grownBy_alloc wr (.cells #[.string c0, .slice c1 c2 c3] 144) none) (by simp)) hg' (fun r h => .inr h)
          have hg4 : wr.grownBy W4 m := by rw [hW4]; exact grown_row hg3 (World.grownBy_alloc _ _ none) (by simp)
          have hoA := ownsRow_keep hown hg4 (fun b hb e => by have := hm b e; have := (hown.lt b hb).1; omega)
          obtain ⟨v', w', hr, h1, h2, h3, h4⟩ := run_append_own_at (P := Tryz.prog) W4 w.heap.size 128 128 144 i0 (.agg #[.string ⟨#[]⟩, .slice none 0 0]) 2 40 Tryz.underlying128 hi hz0 hz1 hz2 rfl (by decide) _ k vals hoA
            ⟨w3.heap.size, 0, none⟩ 1 1 [.string e0, .slice e1 e2 e3] rfl (by
              intro j u hj
              have e : (⟨w3.heap.size, 0, none⟩ : Addr).add j = ⟨w3.heap.size, j, none⟩ := by unfold Addr.add; by_cases h : j = 0 <;> simp [h]
              rw [e, hW4, World.cell?_alloc_at _ _ _ _ rfl]
              simpa using hj) (by simp [Value.oneCell']) (by unfold maxLen; omega) (by omega) (by have := hg4.size; omega)
          have hs3 := hg3.size
          have hs4 : W4.heap.size = w3.heap.size + 1 := by rw [hW4]; simp
          have hlo := hown.lt
          have hch' : ChunksAt (fun _ w1 cs x => Apart MsgAt w.heap.size v'.ownBlock w1 cs x) 2 0 w' (vals ++ [.string e0, .slice e1 e2 e3]) (xs ++ [x]) := by
            have hch1 : ChunksAt (fun _ w1 cs x => Apart MsgAt w.heap.size v'.ownBlock w1 cs x) 2 0 w' vals xs := ⟨hch.1, fun i hi => Apart.keep keepsMsg (hch.2 i hi) (fun b hb1 hb2 hb3 =>
              (h2.block b (by omega) (fun e => hb3 e.symm)).trans (hg4.block b hb2 (fun e => by have := hm b e.symm; omega))) (by have := h2.size; omega) (by
                rcases h4 with h4 | h4
                · exact .inl h4
                · exact .inr ⟨_, h4, by omega⟩)⟩
            refine ChunksAt.snoc hch1 ?_ rfl
            · refine ⟨wr.heap.size + 1, w3.heap.size, by omega, by have := h2.size; omega, fun g hg => ?_, ?_⟩
              · rcases h4 with h4 | h4
                · rw [h4] at hg; have := (hlo g hg).2; omega
                · rw [h4] at hg; have := Option.some.inj hg; omega
              · rw [World.size_alloc] at hat'
                refine keepsMsg _ _ _ _ _ _ (blank_kept (Nat.le_refl _) fun b o v ha hb hv => ?_) (Nat.le_refl _) hat'
                have e1 : W4.cell? ⟨b, o, none⟩ = some v := by rw [hW4, World.cell?_alloc_past _ _ _ hb]; exact hv
                refine (World.cell?_of_block (w := W4) (h2.block b (by omega) (fun e => ?_))).trans e1
                have := (hlo b e.symm).2; omega
          have hI4 : Inv s' w' := hInv s' _ _ _ (hInv s' _ W4 none hI' (by rw [hW4]; exact World.grownBy_alloc _ _ none) (by simp)) h2 (fun r hr => (hlo r hr).1)
          have hgw : w.grownBy w' m := grown_row (grown_row hg hg4 (fun r h => .inr h)) h2 (fun r hr => .inl (hlo r hr).1)
          obtain ⟨_, ⟨_, h0⟩ | ⟨gg, cp, cur, hvf, _⟩⟩ := id h1
          · omega
          subst hvf
          rw [hW4] at hr
          exact ⟨_, _, _, _, gg, cp, w', rfl, hr, h1, hch', hI4, hgw⟩
        clear hch hIs hown hku
        go_wp2_with (first
          | (go_at_call 173; refine hc.mono ?_; clear hc; rintro e w3 ⟨cs', rfl, hat', hI', hg'⟩; obtain ⟨e0, e1, e2, e3, gg, cp, w', rfl, hr, h1, h2, h3, h4⟩ := hj w3 cs' hat' hI' hg'; have H1 := Lib.hid h1; have H2 := Lib.hid h2; have H3 := Lib.hid h3; have H4 := Lib.hid h4; clear hj hat' hI' hg' h1 h2 h3 h4)
          | (show wpList _ _ _ (⟨some 19, _, _, _, _, _⟩ :: _) _ _; refine wpList_append_eq rfl (.tmp 14) (.tmp 18) 128 128 rfl rfl rfl hr ?_))
        go_roundw
        case rel => exact ⟨k + 1, xs ++ [x], s', _, by omega, by go_num, hmore.out, by simp [HXL.out], H1.out, H2.out, H3.out, H4.out⟩
        case measure => simp [intOf]; omega
    · obtain rfl : k = l.length := by omega
      rw [List.take_length] at hst
      have HXL' := HXL.out
      have hsl := msgsSl (by rw [HXL']; exact hown) hch
      have HSL := Lib.hid hsl
      obtain ⟨aa, cc, hvv, _⟩ := owns_cells (by omega) hown
      subst hvv
      clear hsl hch hown
      go_wp2
      go_ret
      rw [hst]
      exact ⟨_, rfl, HXL', HSL.out, hIs, hg⟩

end Go.Proofs.YtjmlaeofjjhfmaaGreat
/- What copies need of the boxes of the two functions that make them. -/
namespace Go.Proofs.YtjmlaeofjjhfmaaGreat
open Go.RowKit Go.Shelf Go.Maps Go.WideMaps

/-- Blocks from A on are as they were. -/
def Later (A : Nat) (W W' : World) : Prop := W.heap.size ≤ W'.heap.size ∧ ∀ b, A ≤ b → b < W.heap.size → W'.heap[b]? = W.heap[b]?
theorem Later.refl (A : Nat) (W : World) : Later A W W := ⟨Nat.le_refl _, fun _ _ _ => rfl⟩
theorem Later.trans {A : Nat} {a b c : World} (h : Later A a b) (k : Later A b c) : Later A a c := ⟨Nat.le_trans h.1 k.1, fun x hx hb => (k.2 x hx (Nat.lt_of_lt_of_le hb h.1)).trans (h.2 x hx hb)⟩
theorem Later.grown {A : Nat} {W W' : World} {m : Option Nat} (g : W.grownBy W' m) (hm : ∀ r, m = some r → r < A) : Later A W W' := ⟨g.size, fun b hb hlt => g.block b hlt (fun e => by have := hm b e.symm; omega)⟩
theorem Later.set {A : Nat} {W W' : World} (h : Later A W W') (a : Addr) (x : Value) (ha : a.block < A) : Later A W (W'.setCell a x) := ⟨by simpa using h.1, fun b hb hlt => (Below.heap_setCell _ _ _ _ (by omega)).trans (h.2 b hb hlt)⟩
theorem Later.kept {A A0 A' B : Nat} {W W' : World} (h : Later A W W') (h1 : A ≤ A0) (h2 : A' ≤ A0) (hB : B ≤ W.heap.size) : KeptC B (blank A0 W) (blank A' W') :=
  blank_kept h2 fun b o v ha hb hv => (World.cell?_of_block (w := W) (h.2 b (by omega) (by omega))).trans hv

theorem heap_set_same (W : World) (n o : Nat) (x : Value) {cs : Array Value} {ty : TypeId} (h : W.heap[n]? = some (.cells cs ty)) : (W.setCell ⟨n, o, none⟩ x).heap[n]? = some (.cells (cs.setIfInBounds o x) ty) := by
  show (World.setCell W ⟨n, o, none⟩ x).heap[n]? = _
  simp [World.setCell, Array.getElem?_modify, h]

/-- The boxes of term and of clause: the scope's, the process's, the result's. -/
structure Boxes5 (n : Nat) (ty : TypeId) (zc : Array Value) (aty : TypeId) (acs : Array Value) (fx : Option Nat) (v0 v1 v2 v3 v4 : Value) (W : World) : Prop where
  box1 : W.heap[n]? = some (.cells #[.iface aty (.agg acs), .map fx] 123)
  box2 : W.heap[n + 1]? = some (.cells #[v0, v1, v2, v3, v4] ty)
  box3 : W.heap[n + 2]? = some (.cells zc ty)
theorem Boxes5.kept {n : Nat} {ty : TypeId} {zc : Array Value} {aty : TypeId} {acs : Array Value} {fx : Option Nat} {v0 v1 v2 v3 v4 : Value} {W W' : World} {m : Option Nat} (h : Boxes5 n ty zc aty acs fx v0 v1 v2 v3 v4 W) (g : W.grownBy W' m) (hm : ∀ r, m = some r → r < n) : Boxes5 n ty zc aty acs fx v0 v1 v2 v3 v4 W' :=
  ⟨(g.block _ (Array.getElem?_eq_some_iff.1 h.box1).1 (fun e => by have := hm _ e.symm; omega)).trans h.box1, (g.block _ (Array.getElem?_eq_some_iff.1 h.box2).1 (fun e => by have := hm _ e.symm; omega)).trans h.box2, (g.block _ (Array.getElem?_eq_some_iff.1 h.box3).1 (fun e => by have := hm _ e.symm; omega)).trans h.box3⟩
theorem Boxes5.cells {n : Nat} {ty : TypeId} {zc : Array Value} {aty : TypeId} {acs : Array Value} {fx : Option Nat} {v0 v1 v2 v3 v4 : Value} {W : World} (h : Boxes5 n ty zc aty acs fx v0 v1 v2 v3 v4 W) :
    W.cell? ⟨n, 0, none⟩ = some (.iface aty (.agg acs)) ∧ W.cell? ⟨n, 1, none⟩ = some (.map fx) ∧ W.cell? ⟨n + 1, 0, none⟩ = some v0 ∧ W.cell? ⟨n + 1, 1, none⟩ = some v1 ∧ W.cell? ⟨n + 1, 2, none⟩ = some v2 ∧ W.cell? ⟨n + 1, 3, none⟩ = some v3 ∧ W.cell? ⟨n + 1, 4, none⟩ = some v4 ∧ ∀ o, W.frozen? ⟨n + 1, o, none⟩ = false := by
  obtain ⟨q1, q2, q3⟩ := h
  exact ⟨by simp [World.cell?, q1], by simp [World.cell?, q1], by simp [World.cell?, q2], by simp [World.cell?, q2], by simp [World.cell?, q2], by simp [World.cell?, q2], by simp [World.cell?, q2], fun o => by simp [World.frozen?, q2]⟩
def zc5 : Array Value := #[.int .i64 0, .string ⟨#[]⟩, .slice none 0 0, .slice none 0 0, .slice none 0 0]
theorem Boxes5.zeros {n : Nat} {ty : TypeId} {aty : TypeId} {acs : Array Value} {fx : Option Nat} {v0 v1 v2 v3 v4 : Value} {W : World} (h : Boxes5 n ty zc5 aty acs fx v0 v1 v2 v3 v4 W) :
    W.cell? ⟨n + 2, 0, none⟩ = some (.int .i64 0) ∧ W.cell? ⟨n + 2, 1, none⟩ = some (.string ⟨#[]⟩) ∧ W.cell? ⟨n + 2, 2, none⟩ = some (.slice none 0 0) ∧ W.cell? ⟨n + 2, 3, none⟩ = some (.slice none 0 0) ∧ W.cell? ⟨n + 2, 4, none⟩ = some (.slice none 0 0) ∧ ∀ o, W.frozen? ⟨n + 2, o, none⟩ = false := by
  obtain ⟨q1, q2, q3⟩ := h
  unfold zc5 at q3
  exact ⟨by simp [World.cell?, q3], by simp [World.cell?, q3], by simp [World.cell?, q3], by simp [World.cell?, q3], by simp [World.cell?, q3], fun o => by simp [World.frozen?, q3]⟩
section
variable {n : Nat} {ty : TypeId} {zc : Array Value} {aty : TypeId} {acs : Array Value} {fx : Option Nat} {v0 v1 v2 v3 v4 : Value} {W : World}
theorem Boxes5.set1 (h : Boxes5 n ty zc aty acs fx v0 v1 v2 v3 v4 W) (x : Value) : Boxes5 n ty zc aty acs fx v0 x v2 v3 v4 (W.setCell ⟨n + 1, 1, none⟩ x) :=
  ⟨(Below.heap_setCell _ _ _ _ (by simp)).trans h.box1, heap_set_same W (n + 1) 1 x h.box2, (Below.heap_setCell _ _ _ _ (by simp)).trans h.box3⟩
theorem Boxes5.set2 (h : Boxes5 n ty zc aty acs fx v0 v1 v2 v3 v4 W) (x : Value) : Boxes5 n ty zc aty acs fx v0 v1 x v3 v4 (W.setCell ⟨n + 1, 2, none⟩ x) :=
  ⟨(Below.heap_setCell _ _ _ _ (by simp)).trans h.box1, heap_set_same W (n + 1) 2 x h.box2, (Below.heap_setCell _ _ _ _ (by simp)).trans h.box3⟩
theorem Boxes5.set3 (h : Boxes5 n ty zc aty acs fx v0 v1 v2 v3 v4 W) (x : Value) : Boxes5 n ty zc aty acs fx v0 v1 v2 x v4 (W.setCell ⟨n + 1, 3, none⟩ x) :=
  ⟨(Below.heap_setCell _ _ _ _ (by simp)).trans h.box1, heap_set_same W (n + 1) 3 x h.box2, (Below.heap_setCell _ _ _ _ (by simp)).trans h.box3⟩
theorem Boxes5.set4 (h : Boxes5 n ty zc aty acs fx v0 v1 v2 v3 v4 W) (x : Value) : Boxes5 n ty zc aty acs fx v0 v1 v2 v3 x (W.setCell ⟨n + 1, 4, none⟩ x) :=
  ⟨(Below.heap_setCell _ _ _ _ (by simp)).trans h.box1, heap_set_same W (n + 1) 4 x h.box2, (Below.heap_setCell _ _ _ _ (by simp)).trans h.box3⟩
end
/-- The box of the scope within. -/
def BoxIn (k : Nat) (aty : TypeId) (acs : Array Value) (fx : Option Nat) (W : World) : Prop := W.heap[k]? = some (.cells #[.iface aty (.agg acs), .map fx] 123)
theorem BoxIn.cells {k : Nat} {aty : TypeId} {acs : Array Value} {fx : Option Nat} {W : World} (h : BoxIn k aty acs fx W) : W.cell? ⟨k, 0, none⟩ = some (.iface aty (.agg acs)) ∧ W.cell? ⟨k, 1, none⟩ = some (.map fx) := by
  unfold BoxIn at h
  exact ⟨by simp [World.cell?, h], by simp [World.cell?, h]⟩
theorem BoxIn.kept {k : Nat} {aty : TypeId} {acs : Array Value} {fx : Option Nat} {W W' : World} {m : Option Nat} (h : BoxIn k aty acs fx W) (g : W.grownBy W' m) (hm : ∀ r, m = some r → r < k) : BoxIn k aty acs fx W' :=
  (g.block _ (Array.getElem?_eq_some_iff.1 h).1 (fun e => by have := hm _ e.symm; omega)).trans h
theorem BoxIn.set {k : Nat} {aty : TypeId} {acs : Array Value} {fx : Option Nat} {W : World} (h : BoxIn k aty acs fx W) (c o : Nat) (x : Value) (hc : c ≠ k) : BoxIn k aty acs fx (W.setCell ⟨c, o, none⟩ x) :=
  (Below.heap_setCell _ _ _ _ hc.symm).trans h

section
variable (B : Nat) (u : World) (m : Option Nat) (b : Base)
/-- What the copies of processes, and of definitions, of at most s nodes are. -/
def TermCopies (s : Nat) : Prop := ∀ (t : Term), (Part.proc t).size ≤ s → (Part.proc t).allSmall → (Part.proc t).allBind → Fine (.proc t) → ∀ (f : Frame) (fs : List Frame) (av fv : Value) (U : Used) (r : Nat) (cs : List Value) (w : World),
  fs.length + s ≤ 330 → TermAt B u cs t → Good B u w.heap.size m b (f :: fs) (.iface 123 (.agg #[av, fv])) w → Bud m (bcT t + r) U w →
  Calls Tryz.prog 87 #[.agg #[av, fv], .agg cs.toArray] w fun e w' => OutE (copyT ⟨b, f :: fs⟩ U t) e (w.grownBy w' m) fun y => ∃ cs', e = .returned (.agg cs'.toArray) ∧ TermAt w'.heap.size (blank w.heap.size w') cs' y.1 ∧ Bud m r y.2 w' ∧ w.grownBy w' m
def ClauseCopies (s : Nat) : Prop := ∀ (t : Clause), (Part.def_ t).size ≤ s → (Part.def_ t).allSmall → (Part.def_ t).allBind → Fine (.def_ t) → ∀ (f : Frame) (fs : List Frame) (av fv : Value) (U : Used) (r : Nat) (cs : List Value) (w : World),
  fs.length + s ≤ 330 → (∀ x ∈ tsC t, Bound (f :: fs) x) → ClauseAt B u cs t → Good B u w.heap.size m b (f :: fs) (.iface 123 (.agg #[av, fv])) w → Bud m (bcC t + r) U w →
  Calls Tryz.prog 142 #[.agg #[av, fv], .agg cs.toArray] w fun e w' => OutE (copyC ⟨b, f :: fs⟩ U t) e (w.grownBy w' m) fun y => ∃ cs', e = .returned (.agg cs'.toArray) ∧ ClauseAt w'.heap.size (blank w.heap.size w') cs' y.1 ∧ Bud m r y.2 w' ∧ w.grownBy w' m
end

end Go.Proofs.YtjmlaeofjjhfmaaGreat
/- The lists of copies. -/
namespace Go.Proofs.YtjmlaeofjjhfmaaGreat
open Go.RowKit Go.Shelf Go.Maps Go.WideMaps

theorem exps_each {B N : Nat} {u : World} {m : Option Nat} {b : Base} (hBN : B ≤ N) (hm : ∀ r, m = some r → B ≤ r) (f : Frame) (fs : List Frame) (av fv : Value) (l : List Exp) (hl : ∀ e ∈ l, (Part.exp e).size ≤ 60 ∧ (Part.exp e).allSmall) (hll : l.length ≤ 1000)
    (a : Option Addr) (cap : Nat) (hs : l.length = 0 ∨ ∃ b off, a = some ⟨b, off, none⟩ ∧ b < B ∧ ExpsAt B u b off l) (W : World) (hg : Good B u N m b (f :: fs) (.iface 123 (.agg #[av, fv])) W) (hN : N ≤ W.heap.size) :
    Calls Tryz.prog 139 #[.slice a l.length cap, .func (.func 140) #[.agg #[av, fv]] #[]] W fun e w' => ∃ a' cap', e = .returned (.slice a' l.length cap') ∧ SlAt w'.heap.size (.slice a' l.length cap') (copyEs ⟨b, f :: fs⟩ l).length (fun b' off => ExpsAt w'.heap.size (blank W.heap.size w') b' off (copyEs ⟨b, f :: fs⟩ l)) ∧ Below W.heap.size W w' := by
  have h171 := scope_bec hBN hm f fs W av fv hg.at_
  have hst := Good.stays (b := b) (fs := f :: fs) (v := .iface 123 (.agg #[av, fv])) (u := u) hBN hm
  have hc := each_139 (S := Unit) B u none W (.agg #[av, fv]) (fun _ W => Good B u N m b (f :: fs) (.iface 123 (.agg #[av, fv])) W) (fun s x => some (copyX (fun x => becomesF b x (f :: fs)) x, s)) l a cap hll hs hg.kept hg.room
    (fun _ W1 W' row h hgr hr => hst W1 W' row h hgr (fun r e => .inl (by have := hr r e; omega))) (fun _ _ _ b hb => by cases hb) (fun b hb => by cases hb)
    (fun k hk s W1 cs hgW hgr hak => by
      obtain ⟨h1, h2⟩ := hl l[k] (List.getElem_mem hk)
      refine (exp_any B u N m av fv _ _ h171 hst 60 l[k] h1 h2 cs W1 hak hgW.kept hgW.room (by have := hgr.size; omega) hgW).mono ?_
      rintro e' w' ⟨cs', rfl, h1, h2⟩
      exact ⟨cs', rfl, h1, hst.below hgW h2, grown_of_below h2⟩) () hg
  rw [stepsM_total] at hc
  have he : copyEs ⟨b, f :: fs⟩ l = l.map (copyX (fun x => becomesF b x (f :: fs))) := by rw [copyEs_eq' , copyXs_eq]; rfl
  rw [he]
  refine hc.mono ?_
  rintro e w' ⟨v, rfl, hll', hsl, _, hgr⟩
  obtain ⟨a', cap', rfl, h⟩ := hsl
  skip
  rw [hll']
  refine ⟨a', cap', rfl, ⟨a', cap', rfl, ?_⟩, grown_below hgr⟩
  simp only at h
  rw [hll'] at h
  exact h

theorem terms_each {B N s : Nat} {u : World} {m : Option Nat} {b : Base} (hBN : B ≤ N) (hm : ∀ r, m = some r → B ≤ r) (hcp : TermCopies B u m b s) (f : Frame) (fs : List Frame) (hfs : fs.length + s ≤ 330) (av fv : Value) (l : List Term)
    (hl : ∀ e ∈ l, (Part.proc e).size ≤ s ∧ (Part.proc e).allSmall ∧ (Part.proc e).allBind ∧ Fine (.proc e)) (hll : l.length ≤ 1000)
    (a : Option Addr) (cap : Nat) (hs : l.length = 0 ∨ ∃ b off, a = some ⟨b, off, none⟩ ∧ b < B ∧ TermsAt B u b off l) (U : Used) (r : Nat) (W : World) (hg : Good B u N m b (f :: fs) (.iface 123 (.agg #[av, fv])) W) (hN : N ≤ W.heap.size) (hb : Bud m (bcTs l + r) U W) :
    Calls Tryz.prog 105 #[.slice a l.length cap, .func (.func 87) #[.agg #[av, fv]] #[]] W fun e w' => OutE (copyTs ⟨b, f :: fs⟩ U l) e (W.grownBy w' m) fun y => ∃ a' cap', e = .returned (.slice a' l.length cap') ∧ SlAt w'.heap.size (.slice a' l.length cap') y.1.length (fun b' off => TermsAt w'.heap.size (blank W.heap.size w') b' off y.1) ∧
      Bud m r y.2 w' ∧ W.grownBy w' m ∧ Good B u N m b (f :: fs) (.iface 123 (.agg #[av, fv])) w' := by
  have hst := Good.stays (b := b) (fs := f :: fs) (v := .iface 123 (.agg #[av, fv])) (u := u) hBN hm
  have hc := each_105 (S := Used) B u m W (.agg #[av, fv]) (fun k U W => Good B u N m b (f :: fs) (.iface 123 (.agg #[av, fv])) W ∧ Bud m (bcTs (l.drop k) + r) U W) (copyT ⟨b, f :: fs⟩) l a cap hll hs hg.kept hg.room
    (fun k s W1 W' row h hgr hr => ⟨hst W1 W' row h.1 hgr (fun r e => .inl (by have := hr r e; omega)), h.2.kept hgr (fun r e hmr => by have := hr r e; have := hb.lt r hmr; omega)⟩) (fun _ _ _ h => h.2.noCells) hb.lt
    (fun k hk U1 W1 cs hI hgr hak => by
      obtain ⟨h1, h2, h3, h4⟩ := hl l[k] (List.getElem_mem hk)
      have hb1 := hI.2
      rw [bcTs_drop l k hk, Nat.add_assoc] at hb1
      refine (hcp l[k] h1 h2 h3 h4 f fs av fv U1 _ cs W1 hfs hak hI.1.fit hb1).mono ?_
      intro e' w' hh
      cases hR : copyT ⟨b, f :: fs⟩ U1 l[k] with
      | none => rw [hR] at hh; exact hh
      | some y =>
        rw [hR] at hh
        obtain ⟨cs', e1, e2, e3, e4⟩ := hh
        exact ⟨cs', e1, e2, ⟨hst W1 w' m hI.1 e4 (fun r e => .inr e), e3⟩, e4⟩) U ⟨hg, hb⟩
  rw [copyTs_eq]
  refine hc.mono ?_
  intro e w' hh
  cases hR : stepsM (copyT ⟨b, f :: fs⟩) U l with
  | none => rw [hR] at hh; exact hh
  | some y =>
    rw [hR] at hh
    obtain ⟨v, e1, hll', hsl, hI, hgr⟩ := hh
    obtain ⟨a', cap', rfl, h⟩ := hsl
    simp only at hll' h
    rw [List.drop_length] at hI
    refine ⟨a', cap', by rw [e1, hll'], ⟨a', cap', by rw [hll'], h⟩, ?_, hgr, hI.1⟩
    have := hI.2
    rw [bcTs, Nat.zero_add] at this
    exact this

theorem clauses_each {B N s : Nat} {u : World} {m : Option Nat} {b : Base} (hBN : B ≤ N) (hm : ∀ r, m = some r → B ≤ r) (hcp : ClauseCopies B u m b s) (f : Frame) (fs : List Frame) (hfs : fs.length + s ≤ 330) (av fv : Value) (l : List Clause)
    (hl : ∀ e ∈ l, (Part.def_ e).size ≤ s ∧ (Part.def_ e).allSmall ∧ (Part.def_ e).allBind ∧ Fine (.def_ e) ∧ ∀ x ∈ tsC e, Bound (f :: fs) x) (hll : l.length ≤ 1000)
    (a : Option Addr) (cap : Nat) (hs : l.length = 0 ∨ ∃ b off, a = some ⟨b, off, none⟩ ∧ b < B ∧ ClausesAt B u b off l) (U : Used) (r : Nat) (W : World) (hg : Good B u N m b (f :: fs) (.iface 123 (.agg #[av, fv])) W) (hN : N ≤ W.heap.size) (hb : Bud m (bcCs l + r) U W) :
    Calls Tryz.prog 141 #[.slice a l.length cap, .func (.func 142) #[.agg #[av, fv]] #[]] W fun e w' => OutE (copyCs ⟨b, f :: fs⟩ U l) e (W.grownBy w' m) fun y => ∃ a' cap', e = .returned (.slice a' l.length cap') ∧ SlAt w'.heap.size (.slice a' l.length cap') y.1.length (fun b' off => ClausesAt w'.heap.size (blank W.heap.size w') b' off y.1) ∧
      Bud m r y.2 w' ∧ W.grownBy w' m ∧ Good B u N m b (f :: fs) (.iface 123 (.agg #[av, fv])) w' := by
  have hst := Good.stays (b := b) (fs := f :: fs) (v := .iface 123 (.agg #[av, fv])) (u := u) hBN hm
  have hc := each_141 (S := Used) B u m W (.agg #[av, fv]) (fun k U W => Good B u N m b (f :: fs) (.iface 123 (.agg #[av, fv])) W ∧ Bud m (bcCs (l.drop k) + r) U W) (copyC ⟨b, f :: fs⟩) l a cap hll hs hg.kept hg.room
    (fun k s W1 W' row h hgr hr => ⟨hst W1 W' row h.1 hgr (fun r e => .inl (by have := hr r e; omega)), h.2.kept hgr (fun r e hmr => by have := hr r e; have := hb.lt r hmr; omega)⟩) (fun _ _ _ h => h.2.noCells) hb.lt
    (fun k hk U1 W1 cs hI hgr hak => by
      obtain ⟨h1, h2, h3, h4, h5⟩ := hl l[k] (List.getElem_mem hk)
      have hb1 := hI.2
      rw [bcCs_drop l k hk, Nat.add_assoc] at hb1
      refine (hcp l[k] h1 h2 h3 h4 f fs av fv U1 _ cs W1 hfs h5 hak hI.1.fit hb1).mono ?_
      intro e' w' hh
      cases hR : copyC ⟨b, f :: fs⟩ U1 l[k] with
      | none => rw [hR] at hh; exact hh
      | some y =>
        rw [hR] at hh
        obtain ⟨cs', e1, e2, e3, e4⟩ := hh
        exact ⟨cs', e1, e2, ⟨hst W1 w' m hI.1 e4 (fun r e => .inr e), e3⟩, e4⟩) U ⟨hg, hb⟩
  rw [copyCs_eq]
  refine hc.mono ?_
  intro e w' hh
  cases hR : stepsM (copyC ⟨b, f :: fs⟩) U l with
  | none => rw [hR] at hh; exact hh
  | some y =>
    rw [hR] at hh
    obtain ⟨v, e1, hll', hsl, hI, hgr⟩ := hh
    obtain ⟨a', cap', rfl, h⟩ := hsl
    simp only at hll' h
    rw [List.drop_length] at hI
    refine ⟨a', cap', by rw [e1, hll'], ⟨a', cap', by rw [hll'], h⟩, ?_, hgr, hI.1⟩
    have := hI.2
    rw [bcCs, Nat.zero_add] at this
    exact this

end Go.Proofs.YtjmlaeofjjhfmaaGreat
