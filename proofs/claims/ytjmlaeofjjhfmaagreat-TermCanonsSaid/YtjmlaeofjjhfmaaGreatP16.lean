/- becomes: what a name becomes in a scope. -/
import Derived.Test.YtjmlaeofjjhfmaaGreatP15
import Derived.Deep.RegionLaw
set_option linter.unusedVariables false
set_option linter.unusedSimpArgs false
namespace Go.Proofs.YtjmlaeofjjhfmaaGreat
open Go.RowKit Go.Shelf Go.Maps Go.WideMaps

/-- A frame as a value: its block is below N and not m. -/
def FrAt (w : World) (N : Nat) (m : Option Nat) (v : Value) (f : Frame) : Prop :=
  (v = .map none ∧ ∀ k, f k = none) ∨ ∃ b, v = .map (some b) ∧ b < N ∧ m ≠ some b ∧ OwnF w b 1000000 f
theorem FrAt.kept {w w' : World} {N : Nat} {m row : Option Nat} {v : Value} {f : Frame} (h : FrAt w N m v f) (hg : w.grownBy w' row) (hr : ∀ r, row = some r → N ≤ r ∨ m = some r) : FrAt w' N m v f := by
  rcases h with h | ⟨b, h1, h2, h3, h4⟩
  · exact .inl h
  · refine .inr ⟨b, h1, h2, h3, h4.kept hg (fun e => ?_)⟩
    rcases hr b e.symm with h | h
    · omega
    · exact h3 h
theorem FrAt.later {w w' : World} {N : Nat} {m : Option Nat} {v : Value} {f : Frame} (h : FrAt w N m v f) (hb : Below w.heap.size w w') : FrAt w' N m v f := h.kept (grown_of_below hb) (by simp)
theorem FrAt.mono {w : World} {N N' : Nat} {m : Option Nat} {v : Value} {f : Frame} (h : FrAt w N m v f) (hN : N ≤ N') : FrAt w N' m v f := by
  rcases h with h | ⟨b, h1, h2, h3, h4⟩
  · exact .inl h
  · exact .inr ⟨b, h1, by omega, h3, h4⟩
theorem FrAt.look {w : World} {N : Nat} {m : Option Nat} {v : Value} {f : Frame} (h : FrAt w N m v f) {k : ByteArray} (hk : k.size ≤ maxLen) :
    (Instr.lookup 121 v (.string k) true).run Tryz.prog w = .ok (.tuple #[.string ((f (bytesOf k)).getD ⟨#[]⟩), .bool (f (bytesOf k)).isSome]) w ∧ ((f (bytesOf k)).getD ⟨#[]⟩).size ≤ maxLen := by
  rcases h with ⟨rfl, h⟩ | ⟨b, rfl, _, _, h⟩
  · rw [h]
    refine ⟨?_, by simp [ByteArray.size]⟩
    have := Maps.look_nil (P := Tryz.prog) (w := w) (t := 121) true (string_keyed Tryz.underlying9) Tryz.underlyingMS (zero9 w) (keyOf_string_mk Tryz.underlying9 hk)
    rw [this]; rfl
  · exact h.look hk

theorem Tryz.results221 : Tryz.f221.results = #[.cell 4 36] := by kernel_rfl
theorem Tryz.results171 : Tryz.f171.results = #[.cell 4 36] := by kernel_rfl
theorem Tryz.results140 : Tryz.f140.results = #[.cell 4 36] := by kernel_rfl
theorem Tryz.results225 : Tryz.f225.results = #[.cell 4 36] := by kernel_rfl
theorem Tryz.results101 : Tryz.f101.results = #[.cell 0 123] := by kernel_rfl

abbrev nmV (s : ByteArray) : List Value := [.int .i64 2, .int .i64 0, .string s, .slice none 0 0]
theorem nm_at (B : Nat) (w : World) (s : ByteArray) (hs : s.size ≤ maxLen) : ExpAt B w (nmV s) (nameE s) := ⟨hs, _, rfl, none, 0, rfl, by simp, .inl rfl⟩

/-- What a thing around says of names: T; where good holds. -/
def Bec (av : Value) (T : ByteArray → Exp) (good : World → Prop) : Prop :=
  ∃ ty cs g rcv, av = .iface ty (.agg cs) ∧ (∀ W, (method 347 ty (.agg cs) "cabotage/term.becomes").run Tryz.prog W = .ok (g, rcv) W) ∧ (∀ args W, (callFunc g args).run Tryz.prog W = .ok (.enter g args) W) ∧
    ∀ w x, x.size ≤ maxLen → good w → Calls Tryz.prog g #[rcv, .string x] w fun e w' => ∃ cs', e = .returned (.agg cs'.toArray) ∧ ExpAt w'.heap.size (blank w.heap.size w') cs' (T x) ∧ Below w.heap.size w w'

/-- The cells of a box of an expression, zero, in the world w. -/
def ZeroExp (w : World) (b : Nat) : Prop := w.heap[b]? = some (.cells #[.int .i64 0, .int .i64 0, .string ⟨#[]⟩, .slice none 0 0] 36)
theorem ZeroExp.cells {w : World} {b : Nat} (h : ZeroExp w b) : w.cell? ⟨b, 0, none⟩ = some (.int .i64 0) ∧ w.cell? ⟨b, 1, none⟩ = some (.int .i64 0) ∧ w.cell? ⟨b, 2, none⟩ = some (.string ⟨#[]⟩) ∧ w.cell? ⟨b, 3, none⟩ = some (.slice none 0 0) ∧ ∀ o, w.frozen? ⟨b, o, none⟩ = false := by
  unfold ZeroExp at h
  exact ⟨by simp [World.cell?, h], by simp [World.cell?, h], by simp [World.cell?, h], by simp [World.cell?, h], fun o => by simp [World.frozen?, h]⟩
theorem set4 {n : Nat} {w w1 : World} (hb : Below n w w1) (b : Nat) (h : n ≤ b) (v0 v1 v2 v3 : Value) : Below n w ((((w1.setCell ⟨b, 0, none⟩ v0).setCell ⟨b, 1, none⟩ v1).setCell ⟨b, 2, none⟩ v2).setCell ⟨b, 3, none⟩ v3) :=
  (((hb.setCell (show n ≤ (⟨b, 0, none⟩ : Addr).block from h) _).setCell (show n ≤ (⟨b, 1, none⟩ : Addr).block from h) _).setCell (show n ≤ (⟨b, 2, none⟩ : Addr).block from h) _).setCell (show n ≤ (⟨b, 3, none⟩ : Addr).block from h) _
set_option maxHeartbeats 1000000 in
theorem outside_bec (m : Option Nat) (x : ByteArray) (w : World) : Calls Tryz.prog 221 #[.agg #[.map m], .string x] w fun e w' => e = .returned (.agg (nmV x).toArray) ∧ Below w.heap.size w w' := by
  have hn := named_any x ((w.alloc (.cells #[.map m] 116)).alloc (.cells #[.int .i64 0, .int .i64 0, .string ⟨#[]⟩, .slice none 0 0] 36))
  obtain ⟨W0, hW0⟩ : ∃ W0, W0 = ((w.alloc (.cells #[.map m] 116)).alloc (.cells #[.int .i64 0, .int .i64 0, .string ⟨#[]⟩, .slice none 0 0] 36)) := ⟨_, rfl⟩
  have hb0 : Below w.heap.size w W0 := by rw [hW0]; exact ((Below.refl _ w).alloc (Nat.le_refl _) _).alloc (by simp) _
  have k4 : W0.heap[w.heap.size + 1]? = some (.cells #[.int .i64 0, .int .i64 0, .string ⟨#[]⟩, .slice none 0 0] 36) := by
    rw [hW0]; have := World.alloc_heap_new (w.alloc (.cells #[.map m] 116)) (.cells #[.int .i64 0, .int .i64 0, .string ⟨#[]⟩, .slice none 0 0] 36); rwa [World.size_alloc] at this
  rw [← hW0] at hn
  have HW := Lib.hid hW0
  have hz : W0.heap.size = w.heap.size + 2 := by rw [hW0]; simp
  clear hW0
  go_enter Tryz.func221, Tryz.ntmps221
  go_wp2_with (go_at_call 190; rw [← HW.out]; refine hn.mono ?_; clear hn; rintro e w1 ⟨rfl, hb1⟩; obtain ⟨c0, c1, c2, c3, cf⟩ := ZeroExp.cells ((hb1.block (w.heap.size + 1) (by omega)).trans k4))
  simp [bodyPost, results, Tryz.results221, go_sem, c0, c1, c2, c3]
  have hbw := hb0.trans (hb1.mono (by omega))
  exact set4 hbw (w.heap.size + 1) (by omega) _ _ _ _

theorem bec_outside (m : Option Nat) : Bec (.iface 116 (.agg #[.map m])) nameE (fun _ => True) :=
  ⟨116, #[.map m], 221, .agg #[.map m], rfl, fun W => by kernel_rfl, enters_of Tryz.func221 (by kernel_rfl) rfl, fun w x hx _ =>
    (outside_bec m x w).mono fun _ w' ⟨h1, h2⟩ => ⟨nmV x, h1, nm_at _ _ x hx, h2⟩⟩
theorem bec_anew (m : Option Nat) : Bec (.iface 134 (.agg #[.map m])) nameE (fun _ => True) :=
  ⟨134, #[.map m], 221, .agg #[.map m], rfl, fun W => by kernel_rfl, enters_of Tryz.func221 (by kernel_rfl) rfl, fun w x hx _ =>
    (outside_bec m x w).mono fun _ w' ⟨h1, h2⟩ => ⟨nmV x, h1, nm_at _ _ x hx, h2⟩⟩

/-- An expression that lies below n, after cells of the block n were written. -/
theorem exp_set {A n : Nat} {w : World} {cs : List Value} {e : Exp} (h : ExpAt w.heap.size (blank A w) cs e) (hn : n < A) (w' : World) (hk : ∀ b, n < b → w'.heap[b]? = w.heap[b]?) (A' : Nat) (hA : A' ≤ A) : ExpAt w.heap.size (blank A' w') cs e := by
  refine ExpAt.keep (blank_kept hA fun b o v ha hb hv => ?_) (Nat.le_refl _) e cs h
  exact (World.cell?_of_block (w := w) (hk b (by omega))).trans hv

def frT (f : Frame) (T : ByteArray → Exp) (x : ByteArray) : Exp := match f (bytesOf x) with
  | some n => nameE n
  | none => T x
/-- What a scope says of names. -/
def Bec171 (sv : Value) (T : ByteArray → Exp) (good : World → Prop) : Prop :=
  ∀ w x, x.size ≤ maxLen → good w → Calls Tryz.prog 171 #[sv, .string x] w fun e w' => ∃ cs', e = .returned (.agg cs'.toArray) ∧ ExpAt w'.heap.size (blank w.heap.size w') cs' (T x) ∧ Below w.heap.size w w'
set_option maxRecDepth 10000 in
set_option maxHeartbeats 1000000 in
theorem bec171 {av : Value} {T : ByteArray → Exp} {good : World → Prop} (h : Bec av T good) (hgood : ∀ W W', good W → Below W.heap.size W W' → good W') (N : Nat) (m : Option Nat) (fv : Value) (f : Frame) :
    Bec171 (.agg #[av, fv]) (frT f T) (fun W => good W ∧ FrAt W N m fv f) := by
  obtain ⟨ty, cs, g, rcv, rfl, hm, hc, hcall⟩ := h
  intro w x hx ⟨hg, hf⟩
  obtain ⟨W0, hW0⟩ : ∃ W0, W0 = ((w.alloc (.cells #[.iface ty (.agg cs), fv] 123)).alloc (.cells #[.int .i64 0, .int .i64 0, .string ⟨#[]⟩, .slice none 0 0] 36)) := ⟨_, rfl⟩
  have hb0 : Below w.heap.size w W0 := by rw [hW0]; exact ((Below.refl _ w).alloc (Nat.le_refl _) _).alloc (by simp) _
  have k4 : W0.heap[w.heap.size + 1]? = some (.cells #[.int .i64 0, .int .i64 0, .string ⟨#[]⟩, .slice none 0 0] 36) := by
    rw [hW0]; have := World.alloc_heap_new (w.alloc (.cells #[.iface ty (.agg cs), fv] 123)) (.cells #[.int .i64 0, .int .i64 0, .string ⟨#[]⟩, .slice none 0 0] 36); rwa [World.size_alloc] at this
  obtain ⟨hlk, hlz⟩ := (hf.later hb0).look hx
  have hcl := hcall W0 x hx (hgood _ _ hg hb0)
  have hnm := fun s => named_any s W0
  have HW := Lib.hid hW0
  have hz : W0.heap.size = w.heap.size + 2 := by rw [hW0]; simp
  rw [hW0] at hlk
  clear hW0 hcall hg hf
  cases hfx : f (bytesOf x) with
  | some n =>
    rw [hfx] at hlk hlz
    simp only [Option.getD_some, Option.isSome_some] at hlk hlz
    have hn := hnm n
    clear hnm hcl
    go_enter Tryz.func171, Tryz.ntmps171
    go_wp2_with (go_at_call 190; rw [← HW.out]; refine hn.mono ?_; clear hn; rintro e w1 ⟨rfl, hb1⟩; obtain ⟨c0, c1, c2, c3, cf⟩ := ZeroExp.cells ((hb1.block (w.heap.size + 1) (by omega)).trans k4))
    simp [bodyPost, results, Tryz.results171, go_sem, c0, c1, c2, c3]
    have hbw := hb0.trans (hb1.mono (by omega))
    exact ⟨by rw [show frT f T x = nameE n by unfold frT; rw [hfx]]; exact nm_at _ _ n hlz, set4 hbw (w.heap.size + 1) (by omega) _ _ _ _⟩
  | none =>
    rw [hfx] at hlk
    simp only [Option.getD_none, Option.isSome_none] at hlk
    clear hnm
    go_enter Tryz.func171, Tryz.ntmps171
    go_wp2_with (rw [← HW.out]; refine hcl.mono ?_; clear hcl; rintro e w1 ⟨cs', rfl, hat, hb1⟩; obtain ⟨e0, e1, e2, e3, e4, e5, rfl⟩ := exp_shape hat; obtain ⟨c0, c1, c2, c3, cf⟩ := ZeroExp.cells ((hb1.block (w.heap.size + 1) (by omega)).trans k4))
    simp [bodyPost, results, Tryz.results171, go_sem, c0, c1, c2, c3]
    have hbw := hb0.trans (hb1.mono (by omega))
    refine ⟨by rw [show frT f T x = T x by unfold frT; rw [hfx]]; exact exp_set (n := w.heap.size + 1) hat (by omega) _ (fun b hb => by rw [Below.heap_setCell _ _ _ _ (by simp; omega), Below.heap_setCell _ _ _ _ (by simp; omega), Below.heap_setCell _ _ _ _ (by simp; omega), Below.heap_setCell _ _ _ _ (by simp; omega)]) _ (by omega), set4 hbw (w.heap.size + 1) (by omega) _ _ _ _⟩
theorem bec_scope {av : Value} {T : ByteArray → Exp} {good : World → Prop} (h : Bec av T good) (hgood : ∀ W W', good W → Below W.heap.size W W' → good W') (N : Nat) (m : Option Nat) (fv : Value) (f : Frame) :
    Bec (.iface 123 (.agg #[av, fv])) (frT f T) (fun W => good W ∧ FrAt W N m fv f) :=
  ⟨123, #[av, fv], 171, .agg #[av, fv], rfl, fun W => by kernel_rfl, enters_of Tryz.func171 (by kernel_rfl) rfl, bec171 h hgood N m fv f⟩

end Go.Proofs.YtjmlaeofjjhfmaaGreat
/- exp: an expression in a scope. -/
namespace Go.Proofs.YtjmlaeofjjhfmaaGreat
open Go.RowKit Go.Shelf Go.Maps Go.WideMaps

mutual
def copyX (T : ByteArray → Exp) : Exp → Exp
  | .mk op n t kids => if op = 2 then T t else .mk op n t (copyXs T kids)
def copyXs (T : ByteArray → Exp) : List Exp → List Exp
  | [] => []
  | e :: es => copyX T e :: copyXs T es
end
theorem copyXs_eq (T : ByteArray → Exp) : ∀ es, copyXs T es = es.map (copyX T)
  | [] => rfl
  | e :: es => by rw [copyXs, copyXs_eq T es]; rfl
mutual
theorem copyE_eq (v : Env) : ∀ e, copyE v e = copyX v.becomes e
  | .mk op n t kids => by rw [copyE, copyX, copyEs_eq' v kids]
theorem copyEs_eq' (v : Env) : ∀ es, copyEs v es = copyXs v.becomes es
  | [] => rfl
  | e :: es => by rw [copyEs, copyXs, copyE_eq v e, copyEs_eq' v es]
end
theorem stepsM_total {S A B : Type} (g : A → B) : ∀ (l : List A) (s : S), stepsM (fun s a => some (g a, s)) s l = some (l.map g, s)
  | [], _ => rfl
  | a :: l, s => by simp only [stepsM, stepsM_total g l s]; rfl

/-- What holds of a world is kept while blocks from N on, and m, change. -/
def Stays (N : Nat) (m : Option Nat) (good : World → Prop) : Prop := ∀ W W' row, good W → W.grownBy W' row → (∀ r, row = some r → N ≤ r ∨ m = some r) → good W'
theorem Stays.below {N : Nat} {m : Option Nat} {good : World → Prop} (h : Stays N m good) {W W' : World} (g : good W) (hb : Below W.heap.size W W') : good W' := h W W' none g (grown_of_below hb) (by simp)

set_option maxRecDepth 10000 in
set_option maxHeartbeats 2000000 in
theorem exp_any (B : Nat) (u : World) (N : Nat) (m : Option Nat) (av fv : Value) (T : ByteArray → Exp) (good : World → Prop) (h171 : Bec171 (.agg #[av, fv]) T good) (hst : Stays N m good) :
    ∀ (s : Nat) (e : Exp), (Part.exp e).size ≤ s → (Part.exp e).allSmall → ∀ (cs : List Value) (w : World), ExpAt B u cs e → KeptC B u w → B ≤ w.heap.size → N ≤ w.heap.size → good w →
      Calls Tryz.prog 140 #[.agg #[av, fv], .agg cs.toArray] w fun e' w' => ∃ cs', e' = .returned (.agg cs'.toArray) ∧ ExpAt w'.heap.size (blank w.heap.size w') cs' (copyX T e) ∧ Below w.heap.size w w' := by
  intro s
  induction s with
  | zero => intro e he; exact absurd (by rw [Part.size, nodesOf_eq]; simp) (Nat.not_lt.2 he)
  | succ s ih =>
    intro e hes hsm cs w hat hu hB hN hg
    obtain ⟨op, n, t, kids⟩ := e
    obtain ⟨htz, v, rfl, a, cap, rfl, hkl, hkids⟩ := id hat
    have hsmall := small_parts (hsm (.exp (.mk op n t kids)) (by rw [nodesOf_eq]; simp))
    have hkl3 : kids.length ≤ 300 := by simpa [Part.parts] using hsmall
    clear hsmall
    obtain ⟨W0, hW0⟩ : ∃ W0, W0 = (((w.alloc (.cells #[av, fv] 123)).alloc (.cells #[.int .i64 op, .int .i64 n, .string t, .slice a kids.length cap] 36)).alloc (.cells #[.int .i64 0, .int .i64 0, .string ⟨#[]⟩, .slice none 0 0] 36)) := ⟨_, rfl⟩
    have hb0 : Below w.heap.size w W0 := by rw [hW0]; exact (((Below.refl _ w).alloc (Nat.le_refl _) _).alloc (by simp) _).alloc (by simp; omega) _
    have hz : W0.heap.size = w.heap.size + 3 := by rw [hW0]; simp
    have k3 : W0.heap[w.heap.size + 1]? = some (.cells #[.int .i64 op, .int .i64 n, .string t, .slice a kids.length cap] 36) := by
      rw [hW0, Below.heap_alloc _ _ _ (by simp)]
      have := World.alloc_heap_new (w.alloc (.cells #[av, fv] 123)) (.cells #[.int .i64 op, .int .i64 n, .string t, .slice a kids.length cap] 36); rwa [World.size_alloc] at this
    have k4 : W0.heap[w.heap.size + 2]? = some (.cells #[.int .i64 0, .int .i64 0, .string ⟨#[]⟩, .slice none 0 0] 36) := by
      rw [hW0]
      have := World.alloc_heap_new ((w.alloc (.cells #[av, fv] 123)).alloc (.cells #[.int .i64 op, .int .i64 n, .string t, .slice a kids.length cap] 36)) (.cells #[.int .i64 0, .int .i64 0, .string ⟨#[]⟩, .slice none 0 0] 36); rwa [World.size_alloc, World.size_alloc] at this
    have hg0 : good W0 := hst.below hg hb0
    have HW := Lib.hid hW0
    clear hW0
    by_cases hop : op = 2
    · have hc := h171 W0 t htz hg0
      clear hkids ih
      subst hop
      go_enter Tryz.func140, Tryz.ntmps140
      go_wp2_with (go_at_call 171; rw [← HW.out]; refine hc.mono ?_; clear hc; rintro e w1 ⟨cs', rfl, hat', hb1⟩; obtain ⟨e0, e1, e2, e3, e4, e5, rfl⟩ := exp_shape hat'; obtain ⟨c0, c1, c2, c3, cf⟩ := ZeroExp.cells ((hb1.block (w.heap.size + 2) (by omega)).trans k4))
      simp [bodyPost, results, Tryz.results140, go_sem, c0, c1, c2, c3]
      have hbw := hb0.trans (hb1.mono (by omega))
      refine ⟨by rw [show copyX T (.mk 2 n t kids) = T t by rw [copyX, if_pos rfl]]; exact exp_set (n := w.heap.size + 2) hat' (by omega) _ (fun b hb => by rw [Below.heap_setCell _ _ _ _ (by simp; omega), Below.heap_setCell _ _ _ _ (by simp; omega), Below.heap_setCell _ _ _ _ (by simp; omega), Below.heap_setCell _ _ _ _ (by simp; omega)]) _ (by omega), set4 hbw (w.heap.size + 2) (by omega) _ _ _ _⟩
    · have hku : KeptC B u W0 := hu.trans ((Below.keptC hb0).mono hB)
      have hc := each_139 (S := Unit) B u none W0 (.agg #[av, fv]) (fun _ W => good W) (fun s x => some (copyX T x, s)) kids a cap (by omega) hkids hku (by omega)
        (fun _ W W' row h hg hr => hst W W' row h hg (fun r e => .inl (by have := hr r e; omega))) (fun _ _ _ b hb => by cases hb) (fun b hb => by cases hb)
        (fun k hk s W cs hgW hgr hak => by
          have hbW : Below W0.heap.size W0 W := grown_below hgr
          have hws := hbW.size
          have hmem : Part.exp kids[k] ∈ (Part.exp (.mk op n t kids)).parts := by
            show Part.exp kids[k] ∈ kids.map Part.exp
            exact List.mem_map.2 ⟨_, List.getElem_mem hk, rfl⟩
          refine (ih kids[k] (by have := size_lt hmem; omega) (hsm.part hmem) cs W hak (hku.trans ((Below.keptC hbW).mono (by omega))) (by omega) (by omega) hgW).mono ?_
          rintro e' w' ⟨cs', rfl, h1, h2⟩
          exact ⟨cs', rfl, h1, hst.below hgW h2, grown_of_below h2⟩) () hg0
      rw [stepsM_total] at hc
      have hmf : ∀ (fn : Fn) (first cap : Array Value) (w : World), (Instr.makeFunc fn first cap).run Tryz.prog w = .ok (.func fn first cap) w := fun _ _ _ _ => rfl
      clear hkids ih
      go_enter Tryz.func140, Tryz.ntmps140
      go_wp2_with (go_at_call 139; rw [← HW.out]; refine hc.mono ?_; clear hc; rintro e w1 ⟨v, rfl, hll, ⟨a', cap', rfl, hsl⟩, hgw1, hb1⟩; have hb1 := grown_below hb1; obtain ⟨c0, c1, c2, c3, cf⟩ := ZeroExp.cells ((hb1.block (w.heap.size + 2) (by omega)).trans k4); have q3 := (hb1.block (w.heap.size + 1) (by omega)).trans k3; have d0 : w1.cell? ⟨w.heap.size + 1, 0, none⟩ = some (.int .i64 op) := (by simp [World.cell?, q3]); have d1 : w1.cell? ⟨w.heap.size + 1, 1, none⟩ = some (.int .i64 n) := (by simp [World.cell?, q3]); have d2 : w1.cell? ⟨w.heap.size + 1, 2, none⟩ = some (.string t) := (by simp [World.cell?, q3]); have d3 : w1.cell? ⟨w.heap.size + 1, 3, none⟩ = some (.slice a kids.length cap) := (by simp [World.cell?, q3]); have df : ∀ o, w1.frozen? ⟨w.heap.size + 1, o, none⟩ = false := (fun o => by simp [World.frozen?, q3]); clear q3)
      simp [bodyPost, results, Tryz.results140, go_sem, c0, c1, c2, c3]
      have hbw := hb0.trans (hb1.mono (by omega))
      refine ⟨?_, set4 (hbw.setCell (by simp) _) (w.heap.size + 1 + 1) (by omega) _ _ _ _⟩
      rw [show copyX T (.mk op n t kids) = .mk op n t (kids.map (copyX T)) by rw [copyX, if_neg hop, copyXs_eq]]
      refine ⟨htz, .slice a' kids.length cap', rfl, a', cap', by rw [List.length_map], hsl.1, ?_⟩
      rcases hsl.2 with h | ⟨b', o', h1, h2, h3⟩
      · exact .inl h
      · refine .inr ⟨b', o', h1, h2, ExpsAt.keep (blank_kept (by omega) fun b o v ha hb hv => ?_) (Nat.le_refl _) _ _ _ h2 h3⟩
        refine (World.cell?_of_block (w := w1) ?_).trans hv
        rw [Below.heap_setCell _ _ _ _ (by simp; omega), Below.heap_setCell _ _ _ _ (by simp; omega), Below.heap_setCell _ _ _ _ (by simp; omega), Below.heap_setCell _ _ _ _ (by simp; omega), Below.heap_setCell _ _ _ _ (by simp; omega)]

mutual
/-- An expression whose names have nothing else. -/
def plainE : Exp → Bool
  | .mk op n _ kids => (op != 2 || (n == 0 && kids.isEmpty)) && plainEs kids
def plainEs : List Exp → Bool
  | [] => true
  | e :: es => plainE e && plainEs es
end
mutual
theorem copyX_plain : ∀ e, plainE e = true → copyX nameE e = e
  | .mk op n t kids, h => by
    rw [plainE] at h
    simp only [Bool.and_eq_true, Bool.or_eq_true, bne_iff_ne, beq_iff_eq, ne_eq] at h
    rw [copyX]
    by_cases hop : op = 2
    · rw [if_pos hop]
      rcases h.1 with h1 | ⟨h1, h2⟩
      · exact absurd hop h1
      · have : kids = [] := by simpa using h2
        subst this; subst h1; subst hop; rfl
    · rw [if_neg hop, copyXs_plain kids h.2]
theorem copyXs_plain : ∀ es, plainEs es = true → copyXs nameE es = es
  | [], _ => rfl
  | e :: es, h => by
    rw [plainEs, Bool.and_eq_true] at h
    rw [copyXs, copyX_plain e h.1, copyXs_plain es h.2]
end
theorem frT_none (T : ByteArray → Exp) : frT (fun _ => none) T = T := by funext x; rfl
theorem bec171_congr {sv : Value} {T : ByteArray → Exp} {good good' : World → Prop} (h : Bec171 sv T good) (hg : ∀ W, good' W → good W) : Bec171 sv T good' := fun w x hx h1 => h w x hx (hg w h1)
/-- The scope in which everything is copied as it is. -/
theorem copied_bec : Bec171 (.agg #[.iface 116 (.agg #[.map none]), .map none]) nameE (fun _ => True) := by
  have := bec171 (bec_outside none) (fun _ _ _ _ => trivial) 0 none (.map none) (fun _ => none)
  rw [frT_none] at this
  exact bec171_congr this fun W _ => ⟨trivial, .inl ⟨rfl, fun _ => rfl⟩⟩
theorem stays_true (N : Nat) (m : Option Nat) : Stays N m (fun _ => True) := fun _ _ _ _ _ _ => trivial

set_option maxHeartbeats 1000000 in
theorem copied_any (w : World) : Calls Tryz.prog 101 #[] w fun e w' => e = .returned (.agg #[.iface 116 (.agg #[.map none]), .map none]) ∧ Below w.heap.size w w' := by
  go_enter Tryz.func101, Tryz.ntmps101
  go_wp2
  simp [bodyPost, results, Tryz.results101, go_sem]
  exact (Below.refl _ w).alloc (Nat.le_refl _) _

end Go.Proofs.YtjmlaeofjjhfmaaGreat
/- becomes of the scope around a process in which an expression is put. -/
namespace Go.Proofs.YtjmlaeofjjhfmaaGreat
open Go.RowKit Go.Shelf Go.Maps Go.WideMaps

theorem toList_beq (x y : ByteArray) : (x.toList == y.toList) = true ↔ x = y := by
  rw [ByteArray.toList_eq, ByteArray.toList_eq, beq_iff_eq]
  exact ⟨fun h => ByteArray.ext (Array.toList_inj.1 h), fun h => by rw [h]⟩

set_option maxRecDepth 10000 in
set_option maxHeartbeats 2000000 in
theorem putting_bec (B : Nat) (u : World) (m : Option Nat) (y : ByteArray) (o n : Int) (t : ByteArray) (a : Option Addr) (k c : Nat) (e : Exp) (hat : ExpAt B u [.int .i64 o, .int .i64 n, .string t, .slice a k c] e)
    (hes : (Part.exp e).size ≤ 1000) (hsm : (Part.exp e).allSmall) (hpl : plainE e = true) :
    Bec (.iface 118 (.agg #[.map m, .string y, .int .i64 o, .int .i64 n, .string t, .slice a k c])) (Base.becomes (.putting y e)) (fun W => KeptC B u W ∧ B ≤ W.heap.size) := by
  refine ⟨118, _, 225, .agg #[.map m, .string y, .int .i64 o, .int .i64 n, .string t, .slice a k c], rfl, fun W => by kernel_rfl, enters_of Tryz.func225 (by kernel_rfl) rfl, fun w x hx ⟨hu, hB⟩ => ?_⟩
  obtain ⟨W0, hW0⟩ : ∃ W0, W0 = ((w.alloc (.cells #[.map m, .string y, .int .i64 o, .int .i64 n, .string t, .slice a k c] 118)).alloc (.cells #[.int .i64 0, .int .i64 0, .string ⟨#[]⟩, .slice none 0 0] 36)) := ⟨_, rfl⟩
  have hb0 : Below w.heap.size w W0 := by rw [hW0]; exact ((Below.refl _ w).alloc (Nat.le_refl _) _).alloc (by simp) _
  have hz : W0.heap.size = w.heap.size + 2 := by rw [hW0]; simp
  have k3 : W0.heap[w.heap.size]? = some (.cells #[.map m, .string y, .int .i64 o, .int .i64 n, .string t, .slice a k c] 118) := by
    rw [hW0, Below.heap_alloc _ _ _ (by simp)]; exact World.alloc_heap_new w _
  have k4 : W0.heap[w.heap.size + 1]? = some (.cells #[.int .i64 0, .int .i64 0, .string ⟨#[]⟩, .slice none 0 0] 36) := by
    rw [hW0]; have := World.alloc_heap_new (w.alloc (.cells #[.map m, .string y, .int .i64 o, .int .i64 n, .string t, .slice a k c] 118)) (.cells #[.int .i64 0, .int .i64 0, .string ⟨#[]⟩, .slice none 0 0] 36); rwa [World.size_alloc] at this
  have HW := Lib.hid hW0
  cases he : (x.toList == y.toList) with
  | false =>
    have hxy : ¬ x = y := fun h => by rw [(toList_beq x y).2 h] at he; cases he
    have hn := named_any x W0
    clear hW0
    go_enter Tryz.func225, Tryz.ntmps225
    go_wp2_with (go_at_call 190; rw [← HW.out]; refine hn.mono ?_; clear hn; rintro e w1 ⟨rfl, hb1⟩; obtain ⟨c0, c1, c2, c3, cf⟩ := ZeroExp.cells ((hb1.block (w.heap.size + 1) (by omega)).trans k4))
    simp [bodyPost, results, Tryz.results225, go_sem, c0, c1, c2, c3]
    have hbw := hb0.trans (hb1.mono (by omega))
    exact ⟨by rw [show Base.becomes (.putting y e) x = nameE x by unfold Base.becomes; simp [hxy]]; exact nm_at _ _ x hx, set4 hbw (w.heap.size + 1) (by omega) _ _ _ _⟩
  | true =>
    have hxy : x = y := (toList_beq x y).1 he
    obtain ⟨G, hG⟩ : ∃ G : World → Prop, G = fun W => Below W0.heap.size W0 W := ⟨_, rfl⟩
    have g0 : G W0.drew := by rw [hG]; exact (Below.refl _ _).drew
    have hread : ∀ W, G W → W.cell? ⟨w.heap.size, 2, none⟩ = some (.int .i64 o) ∧ W.cell? ⟨w.heap.size, 3, none⟩ = some (.int .i64 n) ∧ W.cell? ⟨w.heap.size, 4, none⟩ = some (.string t) ∧ W.cell? ⟨w.heap.size, 5, none⟩ = some (.slice a k c) := fun W h => by
      rw [hG] at h
      have q := (h.block w.heap.size (by omega)).trans k3
      exact ⟨by simp [World.cell?, q], by simp [World.cell?, q], by simp [World.cell?, q], by simp [World.cell?, q]⟩
    have hcop : ∀ W, G W → Calls Tryz.prog 101 #[] W fun e w' => e = .returned (.agg #[.iface 116 (.agg #[.map none]), .map none]) ∧ G w' := fun W h => by
      rw [hG] at h ⊢
      exact (copied_any W).mono fun _ w' ⟨h1, h2⟩ => ⟨h1, h.trans (h2.mono h.size)⟩
    have hexp : ∀ W, G W → Calls Tryz.prog 140 #[.agg #[.iface 116 (.agg #[.map none]), .map none], .agg #[.int .i64 o, .int .i64 n, .string t, .slice a k c]] W fun e' w' => ∃ e0 e1 e2 e3 e4 e5, e' = .returned (.agg #[.int .i64 e0, .int .i64 e1, .string e2, .slice e3 e4 e5]) ∧
        ExpAt w'.heap.size (blank W0.heap.size w') [.int .i64 e0, .int .i64 e1, .string e2, .slice e3 e4 e5] e ∧ Below w.heap.size w w' ∧ ZeroExp w' (w.heap.size + 1) := fun W h => by
      rw [hG] at h
      have hbW := hb0.trans (h.mono (by omega))
      refine (exp_any B u 0 none _ _ nameE (fun _ => True) copied_bec (stays_true _ _) 1000 e hes hsm _ W hat (hu.trans ((Below.keptC hbW).mono hB)) (by have := hbW.size; omega) (by omega) trivial).mono ?_
      rintro e' w' ⟨cs', rfl, h1, h2⟩
      obtain ⟨e0, e1, e2, e3, e4, e5, rfl⟩ := exp_shape h1
      rw [copyX_plain e hpl] at h1
      refine ⟨_, _, _, _, _, _, rfl, ExpAt.keep (blank_kept h.size fun b o v _ _ hv => hv) (Nat.le_refl _) _ _ h1, hbW.trans (h2.mono hbW.size), (h2.block _ (by have := h.size; omega)).trans ((h.block _ (by omega)).trans k4)⟩
    have HG := Lib.hid hG
    clear hG hat
    obtain ⟨r2, r3, r4, r5⟩ := hread _ g0
    clear hW0
    go_enter Tryz.func225, Tryz.ntmps225
    go_wp2
    rw [← HW.out]
    go_region_law (go_simp; go_wp2_with (first
      | (go_at_call 140; refine (hexp _ (by assumption)).mono ?_; rintro e' w2 ⟨e0, e1, e2, e3, e4, e5, rfl, hat', hbw, hze⟩; obtain ⟨c0, c1, c2, c3, cf⟩ := ZeroExp.cells hze)
      | (go_at_call 101; refine (hcop _ (by assumption)).mono ?_; rintro e' w1 ⟨rfl, g1⟩; obtain ⟨s2, s3, s4, s5⟩ := hread _ g1)))
    all_goals
      go_wp2
      simp [bodyPost, results, Tryz.results225, go_sem, c0, c1, c2, c3]
      exact ⟨by rw [show Base.becomes (.putting y e) x = e by unfold Base.becomes; simp [hxy]]; exact exp_set (n := w.heap.size + 1) hat' (by omega) _ (fun b hb => by rw [Below.heap_setCell _ _ _ _ (by simp; omega), Below.heap_setCell _ _ _ _ (by simp; omega), Below.heap_setCell _ _ _ _ (by simp; omega), Below.heap_setCell _ _ _ _ (by simp; omega)]) _ (by omega), set4 hbw (w.heap.size + 1) (by omega) _ _ _ _⟩

end Go.Proofs.YtjmlaeofjjhfmaaGreat
/- text: a name in a scope where no other expression can stand; lists of names. -/
namespace Go.Proofs.YtjmlaeofjjhfmaaGreat
open Go.RowKit Go.Shelf Go.Maps Go.WideMaps

def expName : Exp → Option ByteArray
  | .mk op _ t _ => if op = 2 then some t else none
def textT (T : ByteArray → Exp) (x : ByteArray) : Option ByteArray := if x.size = 0 then some x else expName (T x)
theorem textM_eq (v : Env) (x : ByteArray) : textM v x = textT v.becomes x := by
  unfold textM textT expName
  split
  · rfl
  · cases v.becomes x; rfl

set_option maxRecDepth 10000 in
set_option maxHeartbeats 2000000 in
theorem text_any (av fv : Value) (T : ByteArray → Exp) (good : World → Prop) (h171 : Bec171 (.agg #[av, fv]) T good) (hgd : ∀ W W', good W → Below W.heap.size W W' → good W') (x : ByteArray) (hx : x.size ≤ maxLen) (w : World) (hg : good w) :
    Calls Tryz.prog 138 #[.agg #[av, fv], .string x] w fun e' w' => OutE (textT T x) e' (Below w.heap.size w w') fun t => e' = .returned (.string t) ∧ t.size ≤ maxLen ∧ Below w.heap.size w w' := by
  obtain ⟨W0, hW0⟩ : ∃ W0, W0 = w.alloc (.cells #[av, fv] 123) := ⟨_, rfl⟩
  have hb0 : Below w.heap.size w W0 := by rw [hW0]; exact (Below.refl _ w).alloc (Nat.le_refl _) _
  have hz : W0.heap.size = w.heap.size + 1 := by rw [hW0]; simp
  have hc := h171 W0 x hx (hgd _ _ hg hb0)
  have HW := Lib.hid hW0
  cases he : (x.toList == ([] : List UInt8)) with
  | true =>
    have hx0 : x = ⟨#[]⟩ := by
      rw [ByteArray.toList_eq, beq_iff_eq] at he
      exact ByteArray.ext (by simpa using he)
    subst hx0
    have ht : textT T ⟨#[]⟩ = some ⟨#[]⟩ := by unfold textT; exact if_pos (show (⟨#[]⟩ : ByteArray).size = 0 from rfl)
    rw [ht]
    clear hc
    go_enter Tryz.func138, Tryz.ntmps138
    go_wp2
    go_ret
    exact ⟨rfl, by simp [ByteArray.size], by rw [← HW.out]; exact hb0⟩
  | false =>
    have hx0 : ¬ x.size = 0 := by
      intro h
      rw [ByteArray.toList_eq] at he
      have : x.data.toList = [] := by
        have h2 : x.data.size = 0 := h
        exact List.eq_nil_of_length_eq_zero (by rw [Array.length_toList]; exact h2)
      rw [this] at he; simp at he
    have ht : textT T x = expName (T x) := by unfold textT; rw [if_neg hx0]
    rw [ht]
    obtain ⟨op, n, t, kids, hTX⟩ : ∃ op n t kids, T x = .mk op n t kids := by cases T x; exact ⟨_, _, _, _, rfl⟩
    rw [hTX] at hc ⊢
    clear hW0
    by_cases hop : op = 2
    · subst hop
      rw [show expName (.mk 2 n t kids) = some t from rfl]
      go_enter Tryz.func138, Tryz.ntmps138
      go_wp2_with (go_at_call 171; rw [← HW.out]; refine hc.mono ?_; clear hc; rintro e w1 ⟨cs', rfl, hat, hb1⟩; obtain ⟨htz, v, rfl, a', c', rfl, _⟩ := hat)
      go_ret
      exact ⟨rfl, htz, (hb0.trans (hb1.mono (by omega))).alloc (by have := hb1.size; omega) _⟩
    · rw [show expName (.mk op n t kids) = none by show (if op = 2 then some t else none) = none; exact if_neg hop]
      have href := refuse_any 7
      go_enter Tryz.func138, Tryz.ntmps138
      go_wp2_with (first
        | (go_at_call 171; rw [← HW.out]; refine hc.mono ?_; clear hc; rintro e w1 ⟨cs', rfl, hat, hb1⟩; obtain ⟨htz, v, rfl, a', c', rfl, _⟩ := hat)
        | (go_at_call 103; refine (href _).mono ?_; rintro e w2 ⟨rfl, rfl⟩))
      simp only [bodyPost]
      exact ⟨by trivial, rfl, (hb0.trans (hb1.mono (by omega))).alloc (by have := hb1.size; omega) _⟩

end Go.Proofs.YtjmlaeofjjhfmaaGreat
