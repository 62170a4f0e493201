/- What the copies of formed processes need: names that are bound, and how many names are chosen at most. -/
import Derived.Test.YtjmlaeofjjhfmaaGreatM30
set_option linter.unusedVariables false
set_option linter.unusedSimpArgs false
namespace Go.Proofs.YtjmlaeofjjhfmaaGreat
open Go.RowKit Go.Shelf Go.Maps Go.WideMaps

def Bound (fs : List Frame) (x : ByteArray) : Prop := fs.any (fun f => (f (bytesOf x)).isSome) = true
theorem becomesF_bound (b : Base) (x : ByteArray) : ∀ fs, Bound fs x → ∃ n, becomesF b x fs = nameE n
  | [], h => by simp [Bound] at h
  | f :: fs, h => by
    unfold Bound at h
    rw [List.any_cons, Bool.or_eq_true] at h
    rw [becomesF]
    cases hf : f (bytesOf x) with
    | some n => exact ⟨n, rfl⟩
    | none =>
      rw [hf] at h
      rcases h with h | h
      · simp at h
      · exact becomesF_bound b x fs h
theorem textT_bound (b : Base) (x : ByteArray) (fs : List Frame) (h : Bound fs x) : ∃ t, textT (fun x => becomesF b x fs) x = some t := by
  obtain ⟨n, hn⟩ := becomesF_bound b x fs h
  unfold textT
  split
  · exact ⟨x, rfl⟩
  · refine ⟨n, ?_⟩
    simp only [hn]
    rfl
theorem mapM1_all {A C : Type} (F : A → Option C) : ∀ l : List A, (∀ a ∈ l, ∃ c, F a = some c) → ∃ l', mapM1 F l = some l'
  | [], _ => ⟨[], rfl⟩
  | a :: l, h => by
    obtain ⟨c, hc⟩ := h a (by simp)
    obtain ⟨l', hl'⟩ := mapM1_all F l (fun x hx => h x (by simp [hx]))
    unfold mapM1 at hl' ⊢
    rw [stepsM, hc]
    simp only [Option.map_some]
    cases hs : stepsM (fun (_ : Unit) a => (F a).map fun b => (b, ())) () l with
    | none => rw [hs] at hl'; simp at hl'
    | some y => exact ⟨c :: y.1, rfl⟩
theorem upd_some {f : Frame} {k v : ByteArray} {x : List UInt8} (h : (f x).isSome = true ∨ x = bytesOf k) : (upd f k v x).isSome = true := by
  unfold upd
  split
  · rfl
  · rename_i hn
    rcases h with h | h
    · exact h
    · simp [h] at hn
theorem self1_some : ∀ (l : List ByteArray) (f : Frame) (x : List UInt8), ((f x).isSome = true ∨ ∃ y ∈ l, x = bytesOf y) → ((l.foldl self1 f) x).isSome = true
  | [], f, x, h => by
    rcases h with h | ⟨y, hy, _⟩
    · exact h
    · simp at hy
  | a :: l, f, x, h => by
    rw [List.foldl_cons]
    refine self1_some l _ x ?_
    rcases h with h | ⟨y, hy, e⟩
    · exact .inl (upd_some (.inl h))
    · rcases List.mem_cons.1 hy with rfl | hy
      · exact .inl (upd_some (.inr e))
      · exact .inr ⟨y, hy, e⟩
theorem anew1_some : ∀ (l : List ByteArray) (s : Frame × Used) (x : List UInt8), (s.1 x).isSome = true → ((l.foldl anew1 s).1 x).isSome = true
  | [], _, _, h => h
  | a :: l, s, x, h => by
    rw [List.foldl_cons]
    exact anew1_some l _ x (upd_some (.inl h))
/-- Within a part all names are bound that it binds, and those that were. -/
theorem inside_bound (b : Base) (f : Frame) (fs : List Frame) (U : Used) (p : Part) (x : ByteArray) (h : Bound (f :: fs) x ∨ x ∈ bindsP p) : Bound (inside ⟨b, f :: fs⟩ U p).1.frames x := by
  unfold inside
  by_cases hn : bindsP p = []
  · rw [if_pos hn]
    rcases h with h | h
    · exact h
    · rw [hn] at h; simp at h
  · rw [if_neg hn]
    unfold Bound
    simp only
    rw [List.any_cons, Bool.or_eq_true]
    rcases h with h | h
    · exact .inr h
    · exact .inl (anew1_some _ _ _ (self1_some _ _ _ (.inr ⟨x, h, rfl⟩)))
theorem inside_base (b : Base) (f : Frame) (fs : List Frame) (U : Used) (p : Part) : (inside ⟨b, f :: fs⟩ U p).1.base = b := by
  unfold inside; split <;> rfl

theorem chFold_mem : ∀ (xs l : List ByteArray) (x : ByteArray), (x ∈ l ∨ x ∈ xs) → x ∈ chFold l xs
  | [], l, x, h => by
    rcases h with h | h
    · exact h
    · simp at h
  | y :: xs, l, x, h => by
    have e : chFold l (y :: xs) = chFold (chStep l y) xs := by simp [chFold]
    rw [e]
    refine chFold_mem xs _ x ?_
    have hst : ∀ z, z ∈ l → z ∈ chStep l y := by
      intro z hz; unfold chStep; split
      · exact hz
      · exact List.mem_append_left _ hz
    rcases h with h | h
    · exact .inl (hst x h)
    · rcases List.mem_cons.1 h with rfl | h
      · left
        unfold chStep
        split
        · rename_i hm
          unfold inSet at hm
          obtain ⟨y, hy, he⟩ := List.any_eq_true.1 hm
          obtain ⟨z, hz, rfl⟩ := List.mem_map.1 hy
          have e1 : bytesOf z = bytesOf x := by simpa using he
          have e2 : z = x := ByteArray.ext (Array.toList_inj.1 e1)
          exact e2 ▸ hz
        · simp
      · exact .inr h
def tsL (d : List Clause) : List ByteArray := alltexts (groupsL d)
def tsC (c : Clause) : List ByteArray := c.joins.map (·.text) ++ alltexts (groupsC c)
theorem tsC_sub : ∀ (d : List Clause) (c : Clause), c ∈ d → ∀ x, x ∈ tsC c → x ∈ tsL d := by
  intro d c hc x hx
  unfold tsC at hx
  unfold tsL groupsL alltexts
  rw [List.flatMap_cons, List.mem_append]
  rcases List.mem_append.1 hx with h | h
  · left
    unfold gtexts
    exact List.mem_flatMap.2 ⟨c, hc, h⟩
  · right
    unfold alltexts at h
    obtain ⟨g, hg, hxg⟩ := List.mem_flatMap.1 h
    refine List.mem_flatMap.2 ⟨g, ?_, hxg⟩
    clear hx h hxg
    induction d with
    | nil => simp at hc
    | cons a d ih =>
      rw [groupsI, List.mem_append]
      rcases List.mem_cons.1 hc with rfl | hc
      · exact .inl hg
      · exact .inr (ih hc)
theorem tsC_place (f : Int) (t : ByteArray) (j : List Msg) (d : List Clause) (k : List Term) (hf : f = 2) (x : ByteArray) (hx : x ∈ tsL d) : x ∈ tsC (.mk f t j d k) := by
  unfold tsC
  refine List.mem_append_right _ ?_
  rw [groupsC, if_pos hf]
  exact hx

mutual
/-- How many names a process binds, all parts of it together. -/
def bcT : Term → Nat
  | .mk o t a d k => (bindsP (.proc (.mk o t a d k))).length + bcCs d + bcTs k
def bcC : Clause → Nat
  | .mk f t j d k => (bindsP (.def_ (.mk f t j d k))).length + bcCs d + bcTs k
def bcTs : List Term → Nat
  | [] => 0
  | a :: l => bcT a + bcTs l
def bcCs : List Clause → Nat
  | [] => 0
  | a :: l => bcC a + bcCs l
end
theorem bcTs_drop (l : List Term) (k : Nat) (h : k < l.length) : bcTs (l.drop k) = bcT l[k] + bcTs (l.drop (k + 1)) := by
  rw [List.drop_eq_getElem_cons h, bcTs]
theorem bcCs_drop (l : List Clause) (k : Nat) (h : k < l.length) : bcCs (l.drop k) = bcC l[k] + bcCs (l.drop (k + 1)) := by
  rw [List.drop_eq_getElem_cons h, bcCs]

/-- The map of the names that are not chosen, with room for r more. -/
def Bud (m : Option Nat) (r : Nat) (U : Used) (W : World) : Prop := (∃ n, n + r ≤ 500000000 ∧ StateAt W m n U) ∧ ∃ c, c + r ≤ 4900 ∧ Cov U c
theorem Bud.kept {m row : Option Nat} {r : Nat} {U : Used} {W W' : World} (h : Bud m r U W) (g : W.grownBy W' row) (hne : ∀ x, row = some x → m ≠ some x) : Bud m r U W' := by
  obtain ⟨⟨n, h1, h2⟩, h3⟩ := h
  exact ⟨⟨n, h1, h2.kept g hne⟩, h3⟩
theorem Bud.noCells {m : Option Nat} {r : Nat} {U : Used} {W : World} (h : Bud m r U W) : NoCells m W := by
  obtain ⟨⟨n, _, h2⟩, _⟩ := h; exact h2.noCells
theorem Bud.lt {m : Option Nat} {r : Nat} {U : Used} {W : World} (h : Bud m r U W) : ∀ b, m = some b → b < W.heap.size := fun b hb => (h.noCells b hb).1
theorem Bud.less {m : Option Nat} {r r' : Nat} {U : Used} {W : World} (h : Bud m r U W) (hr : r' ≤ r) : Bud m r' U W := by
  obtain ⟨⟨n, h1, h2⟩, c, h3, h4⟩ := h
  exact ⟨⟨n, by omega, h2⟩, c, by omega, h4⟩
theorem Good.mono {B N N' : Nat} {u : World} {m : Option Nat} {b : Base} {fs : List Frame} {v : Value} {W : World} (h : Good B u N m b fs v W) (hN : N ≤ N') : Good B u N' m b fs v W := ⟨h.kept, h.room, h.at_.mono hN⟩
/-- A cell of a block of cells is written. -/
theorem FrAt.set {w : World} {N : Nat} {m : Option Nat} {v : Value} {f : Frame} (h : FrAt w N m v f) {c o : Nat} {cs : Array Value} {ty : TypeId} {fz : Nat × Nat} (hc : w.heap[c]? = some (.cells cs ty fz)) (x : Value) : FrAt (w.setCell ⟨c, o, none⟩ x) N m v f := by
  rcases h with h | ⟨b, h1, h2, h3, h4⟩
  · exact .inl h
  · refine .inr ⟨b, h1, h2, h3, h4.kept (grownBy_setCellAt w ⟨c, o, none⟩ x) (fun e => ?_)⟩
    have : b = c := Option.some.inj e
    subst this
    obtain ⟨D, ⟨es, clock, hb, _⟩, _⟩ := h4
    rw [hb] at hc; cases hc
theorem AroundAt.set {B N : Nat} {u : World} {m : Option Nat} {b : Base} {c o : Nat} {cs : Array Value} {ty : TypeId} {fz : Nat × Nat} {w : World} (hc : w.heap[c]? = some (.cells cs ty fz)) (x : Value) : ∀ {fs : List Frame} {v : Value}, AroundAt B u N m b fs w v → AroundAt B u N m b fs (w.setCell ⟨c, o, none⟩ x) v
  | [], _, h => h
  | _ :: _, _, ⟨av, fv, h1, h2, h3⟩ => ⟨av, fv, h1, h2.set hc x, h3.set hc x⟩
theorem Good.set {B N : Nat} {u : World} {m : Option Nat} {b : Base} {fs : List Frame} {v : Value} {w : World} (h : Good B u N m b fs v w) {c o : Nat} {cs : Array Value} {ty : TypeId} {fz : Nat × Nat} (hc : w.heap[c]? = some (.cells cs ty fz)) (hBc : B ≤ c) (x : Value) : Good B u N m b fs v (w.setCell ⟨c, o, none⟩ x) := by
  refine ⟨fun b' o' v' hb hv => ?_, by have := h.room; simpa using this, h.at_.set hc x⟩
  refine (World.cell?_of_block (w := w) ?_).trans (h.kept b' o' v' hb hv)
  rw [Below.heap_setCell _ _ _ _ (by simp; omega)]
theorem Bud.set {m : Option Nat} {r : Nat} {U : Used} {w : World} (h : Bud m r U w) {c o : Nat} {cs : Array Value} {ty : TypeId} {fz : Nat × Nat} (hc : w.heap[c]? = some (.cells cs ty fz)) (x : Value) : Bud m r U (w.setCell ⟨c, o, none⟩ x) := by
  refine h.kept (grownBy_setCellAt w ⟨c, o, none⟩ x) (fun y e hm => ?_)
  have : c = y := Option.some.inj e
  subst this
  obtain ⟨⟨n, _, h2⟩, _⟩ := h
  obtain ⟨D, ⟨es, clock, hb, _⟩, _⟩ := h2 c hm
  rw [hb] at hc; cases hc

/-- All nodes are shaped. -/
def Fine (p : Part) : Prop := ∀ q ∈ (nodesOf 0 p).map (·.1), q.shaped = true
theorem Fine.part {p q : Part} (h : Fine p) (hq : q ∈ p.parts) : Fine q := by
  intro x hx
  rw [nodesOf_fst 0 1] at hx
  refine h x ?_
  rw [nodesOf_eq]
  obtain ⟨y, hy, rfl⟩ := List.mem_map.1 hx
  exact List.mem_map.2 ⟨y, List.mem_cons_of_mem _ (mem_nodesL hq hy), rfl⟩
theorem Fine.self {p : Part} (h : Fine p) : p.shaped = true := h p (by rw [nodesOf_eq]; simp)
theorem fine_term {o : Int} {t : ByteArray} {a : List Exp} {d : List Clause} {k : List Term} (h : Fine (.proc (.mk o t a d k))) : o = 4 ∨ d = [] := by
  have h1 := h.self
  simp only [Part.shaped, shapedTB, Bool.or_eq_true, Bool.and_eq_true, beq_iff_eq, decide_eq_true_eq, List.length_eq_zero_iff] at h1
  rcases h1 with ((((h1 | h1) | h1) | h1) | h1) | h1
  · exact .inr h1.1.2
  · exact .inr h1.1.2
  · exact .inr h1.1.2
  · exact .inl h1.1.1.1.1.1
  · exact .inr h1.1.2
  · exact .inr h1.1.2
theorem fine_clause {f : Int} {t : ByteArray} {j : List Msg} {d : List Clause} {k : List Term} (h : Fine (.def_ (.mk f t j d k))) : (f = 2 ∨ d = []) ∧ ∀ x ∈ j, x.names.length ≤ 1000 := by
  have h1 := h.self
  simp only [Part.shaped, shapedCB, Bool.or_eq_true, Bool.and_eq_true, beq_iff_eq, decide_eq_true_eq, List.length_eq_zero_iff] at h1
  rcases h1 with h1 | h1
  · refine ⟨.inr h1.1.2, fun x hx => ?_⟩
    have hj := h1.1.1.2
    unfold joinedB at hj
    simp only [Bool.and_eq_true, decide_eq_true_eq, List.all_eq_true] at hj
    have := hj.1.1.2 x hx
    omega
  · refine ⟨.inl h1.1.1.1.1, fun x hx => ?_⟩
    have hj := h1.1.1.2
    rw [hj] at hx; simp at hx

end Go.Proofs.YtjmlaeofjjhfmaaGreat
/- inside: of whatever part. -/
namespace Go.Proofs.YtjmlaeofjjhfmaaGreat
open Go.RowKit Go.Shelf Go.Maps Go.WideMaps

theorem AroundAt.fit {B N : Nat} {u : World} {m : Option Nat} {b : Base} {w : World} : ∀ {fs : List Frame} {v : Value}, AroundAt B u N m b fs w v → AroundAt B u w.heap.size m b fs w v
  | [], _, h => h
  | _ :: _, _, ⟨av, fv, h1, h2, h3⟩ => by
    refine ⟨av, fv, h1, ?_, h3.fit⟩
    rcases h2 with h2 | ⟨c, a1, a2, a3, a4⟩
    · exact .inl h2
    · exact .inr ⟨c, a1, a4.lt, a3, a4⟩
theorem Good.fit {B N : Nat} {u : World} {m : Option Nat} {b : Base} {fs : List Frame} {v : Value} {w : World} (h : Good B u N m b fs v w) : Good B u w.heap.size m b fs v w := ⟨h.kept, h.room, h.at_.fit⟩

theorem inside_any {B N : Nat} {u : World} {m : Option Nat} {b : Base} (hBN : B ≤ N) (hm : ∀ r, m = some r → B ≤ r) (hmb : m = none → b = .outside) (f : Frame) (fs : List Frame) (hfs : fs.length < 340) (av fv : Value)
    (p : Part) (pv : Value) (hps : p.size ≤ 60) (hsm : p.allSmall) (hbd : p.allBind) (hp : PartAt B u pv p) (w : World) (hg : Good B u N m b (f :: fs) (.iface 123 (.agg #[av, fv])) w)
    (U : Used) (r : Nat) (hB : Bud m ((bindsP p).length + r) U w) :
    Calls Tryz.prog 137 #[.agg #[av, fv], pv] w fun e w' => ∃ (aty : TypeId) (acs : Array Value) (fx : Option Nat) (f' : Frame) (fs' : List Frame), e = .returned (.agg #[.iface aty (.agg acs), .map fx]) ∧ (inside ⟨b, f :: fs⟩ U p).1 = ⟨b, f' :: fs'⟩ ∧ fs'.length ≤ fs.length + 1 ∧
      Good B u w'.heap.size m b (f' :: fs') (.iface 123 (.agg #[.iface aty (.agg acs), .map fx])) w' ∧ Bud m r (inside ⟨b, f :: fs⟩ U p).2 w' ∧ w.grownBy w' m := by
  obtain ⟨aty, acs, fx, e1, e2, hfr, har⟩ := hg.values
  obtain ⟨⟨nU, hn, hS⟩, kc, hk, hC⟩ := id hB
  by_cases hn0 : bindsP p = []
  · refine (inside_none hBN hm f fs av fv p pv hsm hbd hp w hg hn0).mono ?_
    rintro e w' ⟨rfl, hb⟩
    have hg' := (Good.stays hBN hm).below hg hb
    refine ⟨aty, acs, fx, f, fs, by rw [e1, e2], by unfold inside; rw [if_pos hn0], by omega, ?_, ?_, ?_⟩
    · rw [← e1, ← e2]
      exact hg'.fit
    · have e3 : (inside ⟨b, f :: fs⟩ U p).2 = U := by unfold inside; rw [if_pos hn0]
      rw [e3]
      exact (hB.less (by omega)).kept (grown_of_below hb) (by simp)
    · exact grown_row (grown_refl w m) (grown_of_below hb) (by simp)
  · refine (inside_some hBN hm f fs hfs av fv p pv hps hsm hbd hp w hg hn0 hmb nU U hS (by omega) kc hC (by omega) _ rfl).mono ?_
    rintro e w' ⟨mp, rfl, h1, h2, h3, h4, h5, h6⟩
    have e3 : inside ⟨b, f :: fs⟩ U p = (⟨b, ((b.renames ⟨b, f :: fs⟩ p).foldl anew1 ((bindsP p).foldl self1 (fun _ => none), U)).1 :: f :: fs⟩, ((b.renames ⟨b, f :: fs⟩ p).foldl anew1 ((bindsP p).foldl self1 (fun _ => none), U)).2) := by
      unfold inside; rw [if_neg hn0]
    have hg' := Good.stays hBN hm w w' m hg h6 (fun x hx => .inr hx)
    rw [e3]
    refine ⟨123, #[av, fv], some mp, _, _, rfl, rfl, by simp, ?_, ⟨⟨_, by omega, h4⟩, _, by omega, h5⟩, h6⟩
    refine ⟨hg'.kept, hg'.room, .iface 123 (.agg #[av, fv]), .map (some mp), rfl, .inr ⟨mp, rfl, h1, h2, h3⟩, hg'.fit.at_⟩

end Go.Proofs.YtjmlaeofjjhfmaaGreat
