/- renames, of whatever scope. -/
import Derived.Test.YtjmlaeofjjhfmaaGreatM28
set_option linter.unusedVariables false
set_option linter.unusedSimpArgs false
namespace Go.Proofs.YtjmlaeofjjhfmaaGreat
open Go.RowKit Go.Shelf Go.Maps Go.WideMaps

/-- The three ways in which names are renamed. -/
def RenWay (B : Nat) (u : World) (m : Option Nat) (b : Base) (g : Nat) (rcv : Value) : Prop :=
  (g = 224 ∧ rcv = .agg #[.map m] ∧ b = .outside) ∨ (g = 228 ∧ rcv = .agg #[.map m] ∧ b = .anew) ∨
  (g = 226 ∧ ∃ y e o n t a k c, b = .putting y e ∧ y.size ≤ maxLen ∧ PutOk e ∧ ExpAt B u [.int .i64 o, .int .i64 n, .string t, .slice a k c] e ∧ rcv = .agg #[.map m, .string y, .int .i64 o, .int .i64 n, .string t, .slice a k c])
set_option maxRecDepth 100000 in
theorem ren_method {B N : Nat} {u : World} {m : Option Nat} {b : Base} : ∀ (fs : List Frame) (n : Nat) (w : World) (ty : TypeId) (cs : Array Value), fs.length < n → AroundAt B u N m b fs w (.iface ty (.agg cs)) →
    ∃ g rcv, (∀ W, (method n ty (.agg cs) "cabotage/term.renames").run Tryz.prog W = .ok (g, rcv) W) ∧ RenWay B u m b g rcv
  | [], n + 1, w, ty, cs, _, h => by
    cases b with
    | outside =>
      obtain ⟨rfl, rfl⟩ : ty = 116 ∧ cs = #[.map m] := by have h' : Value.iface ty (.agg cs) = .iface 116 (.agg #[.map m]) := h; injection h' with h1 h2; injection h2 with h2; exact ⟨h1, h2⟩
      exact ⟨224, .agg #[.map m], fun W => by kernel_rfl, .inl ⟨rfl, rfl, rfl⟩⟩
    | anew =>
      obtain ⟨rfl, rfl⟩ : ty = 134 ∧ cs = #[.map m] := by have h' : Value.iface ty (.agg cs) = .iface 134 (.agg #[.map m]) := h; injection h' with h1 h2; injection h2 with h2; exact ⟨h1, h2⟩
      exact ⟨228, .agg #[.map m], fun W => by kernel_rfl, .inr (.inl ⟨rfl, rfl, rfl⟩)⟩
    | putting y e =>
      obtain ⟨hy, hp, o, k, t, a, l, c, he, hat⟩ := h
      injection he with h1 h2; injection h2 with h2
      subst h1; subst h2
      exact ⟨226, _, fun W => by kernel_rfl, .inr (.inr ⟨rfl, y, e, o, k, t, a, l, c, rfl, hy, hp, hat, rfl⟩)⟩
  | f :: fs, n + 1, w, ty, cs, hn, h => by
    obtain ⟨av, fv, he, _, ha⟩ := h
    injection he with h1 h2; injection h2 with h2
    subst h1; subst h2
    obtain ⟨ty', cs', rfl⟩ := around_iface ha
    obtain ⟨g, rcv, h1, h2⟩ := ren_method fs n w ty' cs' (by simp at hn; omega) ha
    exact ⟨g, rcv, fun W => by rw [renames_up]; exact h1 W, h2⟩

theorem ren_any {B N : Nat} {u : World} {m : Option Nat} {b : Base} (hBN : B ≤ N) (hm : ∀ r, m = some r → B ≤ r) (f : Frame) (fs : List Frame) (hfs : fs.length < 340) (ty : TypeId) (cs : Array Value) (fv : Value)
    (p : Part) (pv : Value) (hps : p.size ≤ 60) (hsm : p.allSmall) (hbd : p.allBind) (hp : PartAt B u pv p) (w : World) (ha : AroundAt B u N m b fs w (.iface ty (.agg cs))) :
    ∃ g rcv, (∀ W, (method 347 ty (.agg cs) "cabotage/term.renames").run Tryz.prog W = .ok (g, rcv) W) ∧ (∀ args W, (callFunc g args).run Tryz.prog W = .ok (.enter g args) W) ∧
      ∀ W, Good B u N m b (f :: fs) (.iface 123 (.agg #[.iface ty (.agg cs), fv])) W → Calls Tryz.prog g #[rcv, pv, .agg #[.iface ty (.agg cs), fv]] W fun e w' => ∃ r, e = .returned r ∧ StrsAt w'.heap.size w' r (b.renames ⟨b, f :: fs⟩ p) ∧ Below W.heap.size W w' := by
  obtain ⟨g, rcv, h1, h2⟩ := ren_method fs 347 w ty cs (by omega) ha
  refine ⟨g, rcv, h1, ?_, ?_⟩
  · rcases h2 with ⟨rfl, _⟩ | ⟨rfl, _⟩ | ⟨rfl, _⟩
    · exact enters_of Tryz.func224 (by kernel_rfl) rfl
    · exact enters_of Tryz.func228 (by kernel_rfl) rfl
    · exact enters_of Tryz.func226 (by kernel_rfl) rfl
  · intro W hg
    have hs0 := hsm p (by rw [nodesOf_eq]; simp)
    have hb0 := hbd p (by rw [nodesOf_eq]; simp)
    rcases h2 with ⟨rfl, rfl, rfl⟩ | ⟨rfl, rfl, rfl⟩ | ⟨rfl, y, e, o, n, t, a, k, c, rfl, hy, hpo, hat, rfl⟩
    · obtain ⟨_, pc, pt, rfl, _⟩ := binds_face B u p pv hs0 hb0 hp
      refine (ren_outside m _ _ fv pt pc.toArray rfl W).mono ?_
      rintro e' w' ⟨rfl, h⟩
      exact ⟨_, rfl, StrsAt.nil _ _, h⟩
    · exact ren_anew B u p pv hs0 hb0 hp m _ fv W hg.kept hg.room
    · exact ren_putting hBN hm f fs _ fv p pv hps hsm hbd hp y hy o n t a k c e hat hpo W hg

theorem firstFrom_le (U : Used) : ∀ n i, firstFrom U n i ≤ i + n
  | 0, i => by simp [firstFrom]
  | n + 1, i => by
    unfold firstFrom
    split
    · omega
    · have := firstFrom_le U n (i + 1); omega
theorem choose_small (U : Used) : (mkB (choose U)).size ≤ maxLen := by
  have h1 := firstFrom_le U 5000 0
  have h2 := strN_len9 (firstFrom U 5000 0)
  have h3 : (mkB (choose U)).size = (choose U).length := by simp [mkB, ByteArray.size]
  rw [h3]; unfold maxLen; unfold choose; omega
theorem OwnF.cell_ne {w : World} {b n : Nat} {f : Frame} (h : OwnF w b n f) {c o : Nat} {v : Value} (hc : w.cell? ⟨c, o, none⟩ = some v) : c ≠ b := by
  obtain ⟨D, ⟨es, clock, hb, _⟩, _⟩ := h
  intro e; subst e; simp [World.cell?, hb] at hc
theorem CellsKept.turnedF {w0 w w' : World} {b n : Nat} {f : Frame} (h : CellsKept w0 w) (hs : OwnF w b n f) (g : w.grownBy w' (some b)) : CellsKept w0 w' := by
  refine ⟨Nat.le_trans h.1 g.size, fun c o v hc => ?_⟩
  have h1 := h.2 c o v hc
  have h2 := hs.cell_ne h1
  exact (World.cell?_of_block (w := w) (g.block c (lt_of_cell h1) (fun e => h2 (Option.some.inj e)))).trans h1
/-- The map of the names that are not chosen, if there is one. -/
def StateAt (w : World) (m : Option Nat) (n : Nat) (U : Used) : Prop := ∀ b, m = some b → SetF w b n U
theorem StateAt.kept {w w' : World} {m row : Option Nat} {n : Nat} {U : Used} (h : StateAt w m n U) (g : w.grownBy w' row) (hne : ∀ r, row = some r → m ≠ some r) : StateAt w' m n U := fun b hb =>
  (h b hb).kept g (fun e => hne b e.symm hb)
theorem StateAt.noCells {w : World} {m : Option Nat} {n : Nat} {U : Used} (h : StateAt w m n U) : NoCells m w := fun b hb => by
  refine ⟨(h b hb).lt, fun o => ?_⟩
  cases hc : w.cell? ⟨b, o, none⟩ with
  | none => rfl
  | some v => exact absurd rfl ((h b hb).cell_ne hc)
theorem foldl_more {A S : Type} (F : S → A → S) (l : List A) (s : S) (k : Nat) (h : k < l.length) : (l.take (k + 1)).foldl F s = F ((l.take k).foldl F s) l[k] := by
  rw [List.take_succ_eq_append_getElem h, List.foldl_append]; rfl

end Go.Proofs.YtjmlaeofjjhfmaaGreat
/- inside: the scope of the parts of a part. -/
namespace Go.Proofs.YtjmlaeofjjhfmaaGreat
open Go.RowKit Go.Shelf Go.Maps Go.WideMaps

theorem Tryz.results137 : Tryz.f137.results = #[.cell 4 123] := by kernel_rfl
theorem FrAt.map {w : World} {N : Nat} {m : Option Nat} {v : Value} {f : Frame} (h : FrAt w N m v f) : ∃ x, v = .map x := by
  rcases h with ⟨rfl, _⟩ | ⟨b, rfl, _⟩
  · exact ⟨_, rfl⟩
  · exact ⟨_, rfl⟩
/-- The two values of a scope, written out. -/
theorem Good.values {B N : Nat} {u : World} {m : Option Nat} {b : Base} {f : Frame} {fs : List Frame} {av fv : Value} {w : World} (h : Good B u N m b (f :: fs) (.iface 123 (.agg #[av, fv])) w) : ∃ ty cs x, av = .iface ty (.agg cs) ∧ fv = .map x ∧ FrAt w N m fv f ∧ AroundAt B u N m b fs w av := by
  obtain ⟨av', fv', he, hf', ha'⟩ := h.at_
  obtain ⟨rfl, rfl⟩ := agg2_inj he
  obtain ⟨ty, cs, h1⟩ := around_iface ha'
  obtain ⟨x, h2⟩ := hf'.map
  exact ⟨ty, cs, x, h1, h2, hf', ha'⟩
set_option maxRecDepth 10000 in
set_option maxHeartbeats 4000000 in
theorem inside_none {B N : Nat} {u : World} {m : Option Nat} {b : Base} (hBN : B ≤ N) (hm : ∀ r, m = some r → B ≤ r) (f : Frame) (fs : List Frame) (av fv : Value)
    (p : Part) (pv : Value) (hsm : p.allSmall) (hbd : p.allBind) (hp : PartAt B u pv p) (w : World) (hg : Good B u N m b (f :: fs) (.iface 123 (.agg #[av, fv])) w) (hnone : bindsP p = []) :
    Calls Tryz.prog 137 #[.agg #[av, fv], pv] w fun e w' => e = .returned (.agg #[av, fv]) ∧ Below w.heap.size w w' := by
  obtain ⟨aty, acs, fx, rfl, rfl, hfr, har⟩ := hg.values
  obtain ⟨g, pc, ty, rfl, hmb, hcb, hbs⟩ := binds_face B u p pv (hsm p (by rw [nodesOf_eq]; simp)) (hbd p (by rw [nodesOf_eq]; simp)) hp
  obtain ⟨W0, hW0⟩ : ∃ W0, W0 = ((w.alloc (.cells #[.iface aty (.agg acs), .map fx] 123)).alloc (.cells #[.nilIface, .map none] 123)) := ⟨_, rfl⟩
  have hb0 : Below w.heap.size w W0 := by rw [hW0]; exact ((Below.refl _ w).alloc (Nat.le_refl _) _).alloc (by simp) _
  have hz : W0.heap.size = w.heap.size + 2 := by rw [hW0]; simp
  have k3 : W0.heap[w.heap.size]? = some (.cells #[.iface aty (.agg acs), .map fx] 123) := by
    rw [hW0, Below.heap_alloc _ _ _ (by simp)]; exact World.alloc_heap_new w _
  have k4 : W0.heap[w.heap.size + 1]? = some (.cells #[.nilIface, .map none] 123) := by
    rw [hW0]; have := World.alloc_heap_new (w.alloc (.cells #[.iface aty (.agg acs), .map fx] 123)) (.cells #[.nilIface, .map none] 123); rwa [World.size_alloc] at this
  have hstay := Good.stays (b := b) (fs := f :: fs) (v := .iface 123 (.agg #[.iface aty (.agg acs), .map fx])) (u := u) hBN hm
  have hg0 := hstay.below hg hb0
  have hbc := hbs W0 hg0.kept hg0.room
  have HW := Lib.hid hW0
  rw [hnone] at hbc
  clear hW0 hbs
  go_enter Tryz.func137, Tryz.ntmps137
  go_wp2_with (rw [← HW.out]; refine hbc.mono ?_; clear hbc; rintro e w1 ⟨r, rfl, ⟨ra, rc, rfl, _⟩, hb1⟩; have q3 := (hb1.block _ (by omega)).trans k3; have q4 := (hb1.block _ (by omega)).trans k4; have c0 : w1.cell? ⟨w.heap.size, 0, none⟩ = some (.iface aty (.agg acs)) := (by simp [World.cell?, q3]); have c1 : w1.cell? ⟨w.heap.size, 1, none⟩ = some (.map fx) := (by simp [World.cell?, q3]); have d0 : w1.cell? ⟨w.heap.size + 1, 0, none⟩ = some .nilIface := (by simp [World.cell?, q4]); have d1 : w1.cell? ⟨w.heap.size + 1, 1, none⟩ = some (.map none) := (by simp [World.cell?, q4]); have df : ∀ o, w1.frozen? ⟨w.heap.size + 1, o, none⟩ = false := (fun o => by simp [World.frozen?, q4]))
  simp [bodyPost, results, Tryz.results137, go_sem, d0, d1]
  exact ((hb0.trans (hb1.mono (by omega))).setCell (show w.heap.size ≤ (⟨w.heap.size + 1, 0, none⟩ : Addr).block from Nat.le_succ _) _).setCell (show w.heap.size ≤ (⟨w.heap.size + 1, 1, none⟩ : Addr).block from Nat.le_succ _) _

end Go.Proofs.YtjmlaeofjjhfmaaGreat
