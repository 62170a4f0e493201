/- What a loop over a list leaves, each element from the state before it; new rows of structures. -/
import Derived.Test.YtjmlaeofjjhfmaaGreatM21
import Derived.Test.YtjmlaeofjjhfmaaGreatM22
set_option linter.unusedVariables false
set_option linter.unusedSimpArgs false
namespace Go.Proofs.YtjmlaeofjjhfmaaGreat
open Go.RowKit Go.Shelf Go.Maps

/-- How a call ends whose answer is r: none is given up, with the error of a rule, and K holds. -/
def OutE {Y : Type} (r : Option Y) (e : Ending) (K : Prop) (P : Y → Prop) : Prop := match r with
  | none => e = .panicked (refusal 7) ∧ K
  | some y => P y

theorem stepsM_append {S A B : Type} (F : S → A → Option (B × S)) : ∀ (a b : List A) (s : S), stepsM F s (a ++ b) = match stepsM F s a with
    | none => none
    | some (x, s') => match stepsM F s' b with
      | none => none
      | some (y, s'') => some (x ++ y, s'')
  | [], b, s => by
    simp only [List.nil_append, stepsM]
    cases stepsM F s b with
    | none => rfl
    | some y => rfl
  | c :: a, b, s => by
    simp only [List.cons_append, stepsM]
    cases F s c with
    | none => rfl
    | some y =>
      obtain ⟨d, s'⟩ := y
      simp only
      rw [stepsM_append F a b s']
      cases stepsM F s' a with
      | none => rfl
      | some z =>
        obtain ⟨x, s1⟩ := z
        simp only
        cases stepsM F s1 b with
        | none => rfl
        | some y => rfl
theorem stepsM_more {S A B : Type} {F : S → A → Option (B × S)} {l : List A} {s s' : S} {x : List B} {k : Nat} (h : k < l.length) (hk : stepsM F s (l.take k) = some (x, s')) :
    stepsM F s (l.take (k + 1)) = match F s' l[k] with | none => none | some (y, s'') => some (x ++ [y], s'') := by
  rw [List.take_succ_eq_append_getElem h, stepsM_append, hk]
  simp only [stepsM]
  cases F s' l[k] with
  | none => rfl
  | some z => rfl
theorem stepsM_none {S A B : Type} {F : S → A → Option (B × S)} {l : List A} {s s' : S} {x : List B} {k : Nat} (h : k < l.length) (hk : stepsM F s (l.take k) = some (x, s')) (hn : F s' l[k] = none) : stepsM F s l = none := by
  have h1 := stepsM_more h hk
  rw [hn] at h1
  have h2 := stepsM_append F (l.take (k + 1)) (l.drop (k + 1)) s
  rw [List.take_append_drop, h1] at h2
  exact h2

theorem grown_row {w a b : World} {m row : Option Nat} (h : w.grownBy a m) (g : a.grownBy b row) (hr : ∀ r, row = some r → w.heap.size ≤ r ∨ m = some r) : w.grownBy b m := by
  obtain ⟨h1, h2, h3, h4, h5⟩ := h
  obtain ⟨g1, g2, g3, g4, g5⟩ := g
  refine ⟨g1.trans h1, g2.trans h2, g3.trans h3, Nat.le_trans h4 g4, fun k hk hne => ?_⟩
  refine (g5 k (by omega) (fun e => ?_)).trans (h5 k hk hne)
  rcases hr k e.symm with h | h
  · omega
  · exact hne h.symm
theorem grown_refl (w : World) (m : Option Nat) : w.grownBy w m := ⟨rfl, rfl, rfl, Nat.le_refl _, fun _ _ _ => rfl⟩
theorem grown_below {w a : World} (h : w.grownBy a none) : Below w.heap.size w a := by
  obtain ⟨h1, h2, h3, h4, h5⟩ := h
  exact ⟨h1, h2, h3, h4, fun k hk => h5 k hk (by simp)⟩
/-- No cell lies in the block m. -/
def NoCells (m : Option Nat) (w : World) : Prop := ∀ b, m = some b → b < w.heap.size ∧ ∀ o, w.cell? ⟨b, o, none⟩ = none
theorem grown_keptC {w a : World} {m : Option Nat} {B : Nat} (h : w.grownBy a m) (hn : NoCells m w) (hB : B ≤ w.heap.size) : KeptC B w a := by
  intro b o v hb hv
  refine (World.cell?_of_block (w := w) (h.block b (by omega) (fun e => ?_))).trans hv
  have := (hn b e.symm).2 o
  rw [hv] at this; cases this

/-- The world without what lies below A. -/
def blank (A : Nat) (w : World) : World := { w with heap := w.heap.mapIdx fun i o => if i < A then .map #[] 0 else o }
theorem blank_cell (A : Nat) (w : World) (b o : Nat) : (blank A w).cell? ⟨b, o, none⟩ = if b < A then none else w.cell? ⟨b, o, none⟩ := by
  unfold blank World.cell?
  simp only [Array.getElem?_mapIdx]
  cases h : w.heap[b]? with
  | none => simp
  | some x =>
    by_cases hb : b < A
    · simp [hb]
    · simp [hb]
theorem blank_kept {A A' B : Nat} {w w' : World} (hA : A' ≤ A) (h : ∀ b o v, A ≤ b → b < B → w.cell? ⟨b, o, none⟩ = some v → w'.cell? ⟨b, o, none⟩ = some v) : KeptC B (blank A w) (blank A' w') := by
  intro b o v hb hv
  rw [blank_cell] at hv ⊢
  by_cases hbA : b < A
  · simp [hbA] at hv
  · simp only [hbA, if_false] at hv
    rw [if_neg (by omega)]
    exact h b o v (by omega) hb hv
theorem blank_off (A B : Nat) (w : World) : KeptC B (blank A w) w := by
  intro b o v hb hv
  rw [blank_cell] at hv
  by_cases hbA : b < A
  · simp [hbA] at hv
  · simpa [hbA] using hv
theorem blank_grown {A A' B : Nat} {w w' : World} {m : Option Nat} (hA : A' ≤ A) (hB : B ≤ w.heap.size) (h : w.grownBy w' m) (hm : ∀ b, m = some b → b < A) : KeptC B (blank A w) (blank A' w') :=
  blank_kept hA fun b o v hbA hbB hv => (World.cell?_of_block (w := w) (h.block b (by omega) (fun e => by have := hm b e.symm; omega))).trans hv

/-- The element x of a row in the block row: what it refers to lies apart from the row. -/
def Apart {X : Type} (At : Nat → World → List Value → X → Prop) (lo : Nat) (row : Option Nat) (w : World) (cs : List Value) (x : X) : Prop :=
  ∃ A B, lo ≤ A ∧ B ≤ w.heap.size ∧ (∀ g, row = some g → g < A ∨ B ≤ g) ∧ At B (blank A w) cs x
def Keeps {X : Type} (At : Nat → World → List Value → X → Prop) : Prop := ∀ B B' w w' cs x, KeptC B w w' → B ≤ B' → At B w cs x → At B' w' cs x
theorem Apart.keep {X : Type} {At : Nat → World → List Value → X → Prop} (hAt : Keeps At) {lo : Nat} {row row' : Option Nat} {w w' : World} {cs : List Value} {x : X} (h : Apart At lo row w cs x)
    (hk : ∀ b, lo ≤ b → b < w.heap.size → row ≠ some b → w'.heap[b]? = w.heap[b]?) (hs : w.heap.size ≤ w'.heap.size) (hr : row' = row ∨ ∃ g, row' = some g ∧ w.heap.size ≤ g) : Apart At lo row' w' cs x := by
  obtain ⟨A, B, h1, h2, h3, h4⟩ := h
  refine ⟨A, B, h1, by omega, fun g hg => ?_, hAt _ _ _ _ _ _ (blank_kept (Nat.le_refl _) fun b o v ha hb hv => ?_) (Nat.le_refl _) h4⟩
  · rcases hr with rfl | ⟨g', hg', hle⟩
    · exact h3 g hg
    · rw [hg] at hg'; have := Option.some.inj hg'; omega
  · refine (World.cell?_of_block (w := w) (hk b (by omega) (by omega) (fun e => ?_))).trans hv
    rcases h3 b e with h | h <;> omega
theorem Apart.out {X : Type} {At : Nat → World → List Value → X → Prop} (hAt : Keeps At) {lo : Nat} {row : Option Nat} {w : World} {cs : List Value} {x : X} (h : Apart At lo row w cs x) : At w.heap.size (blank lo w) cs x := by
  obtain ⟨A, B, h1, h2, h3, h4⟩ := h
  exact hAt _ _ _ _ _ _ (blank_kept h1 fun b o v _ _ hv => hv) h2 h4

theorem keepsExp : Keeps ExpAt := fun _ _ _ _ cs x h hB k => ExpAt.keep h hB x cs k
theorem keepsClause : Keeps ClauseAt := fun _ _ _ _ cs x h hB k => ClauseAt.keep h hB x cs k
theorem keepsTerm : Keeps TermAt := fun _ _ _ _ cs x h hB k => TermAt.keep h hB x cs k
theorem keepsMsg : Keeps MsgAt := fun _ _ _ _ cs x h hB k => by
  obtain ⟨h1, v, h2, h3⟩ := k
  exact ⟨h1, v, h2, (h3.keep h).mono hB⟩

theorem cells_part {w : World} {g : Nat} {cs : List Value} (i n : Nat) (h : CellsAt w g 0 cs) (hi : i * n + n ≤ cs.length) : CellsAt w g (0 + i * n) ((cs.drop (i * n)).take n) := by
  intro j hj
  have hj' : j < n ∧ i * n + j < cs.length := by simp at hj; omega
  have e := h (i * n + j) hj'.2
  rw [show 0 + i * n + j = 0 + (i * n + j) by omega, e]
  simp

/-- The values vs are the cells of the elements l, n for each. -/
def ChunksAt {X : Type} (At : Nat → World → List Value → X → Prop) (n B : Nat) (w : World) (vs : List Value) (l : List X) : Prop :=
  vs.length = l.length * n ∧ ∀ i, (h : i < l.length) → At B w ((vs.drop (i * n)).take n) l[i]
theorem ChunksAt.nil {X : Type} (At : Nat → World → List Value → X → Prop) (n B : Nat) (w : World) : ChunksAt At n B w [] [] := ⟨by simp, fun i h => by simp at h⟩
theorem ChunksAt.imp {X : Type} {At : Nat → World → List Value → X → Prop} {n B B' : Nat} {w w' : World} {vs : List Value} {l : List X} (h : ChunksAt At n B w vs l) (hk : ∀ cs x, At B w cs x → At B' w' cs x) : ChunksAt At n B' w' vs l :=
  ⟨h.1, fun i hi => hk _ _ (h.2 i hi)⟩
theorem ChunksAt.snoc {X : Type} {At : Nat → World → List Value → X → Prop} {n B : Nat} {w : World} {vs cs : List Value} {l : List X} {x : X} (h : ChunksAt At n B w vs l) (hc : At B w cs x) (hn : cs.length = n) : ChunksAt At n B w (vs ++ cs) (l ++ [x]) := by
  refine ⟨by simp [h.1, hn, Nat.add_mul], fun i hi => ?_⟩
  by_cases hlt : i < l.length
  · have e1 : i * n + n ≤ vs.length := by rw [h.1, ← Nat.succ_mul]; exact Nat.mul_le_mul_right n hlt
    have := h.2 i hlt
    rw [List.getElem_append_left hlt, List.drop_append_of_le_length (by omega), List.take_append_of_le_length (by simp; omega)]
    exact this
  · have e : i = l.length := by simp at hi; omega
    subst e
    rw [← h.1, List.drop_left, ← hn, List.take_length]
    simpa using hc
theorem owns_cells {w : World} {A ty n k : Nat} {v : Value} {vs : List Value} (hn : 0 < n) (h : w.ownsRow A ty n v k vs) :
    ∃ a cap, v = .slice a k cap ∧ k ≤ 9223372036854775807 ∧ (k = 0 ∨ ∃ g, a = some ⟨g, 0, none⟩ ∧ g < w.heap.size ∧ A ≤ g ∧ CellsAt w g 0 vs) := by
  obtain ⟨hl, ⟨rfl, h2⟩ | ⟨g, cap, cur, rfl, hBg, hg, hk, hm, hsz, htk⟩⟩ := h
  · exact ⟨none, 0, by rw [h2], by omega, .inl h2⟩
  · refine ⟨_, cap, rfl, by unfold maxLen at hm; omega, .inr ⟨g, rfl, (Array.getElem?_eq_some_iff.1 hg).1, hBg, fun j hj => ?_⟩⟩
    have e0 : j < k * n := by omega
    have e2 : k * n ≤ cur.size := by rw [hsz]; exact Nat.mul_le_mul_right n hk
    have e1 : vs[j] = cur[j]'(by omega) := by
      have : vs[j]? = (cur.toList.take (k * n))[j]? := by rw [htk]
      rw [List.getElem?_take_of_lt e0] at this
      simpa [hj, show j < cur.size by omega] using this
    simp [World.cell?, hg, e1, show j < cur.size by omega]

theorem ExpsAt.mk {B : Nat} {w : World} : ∀ (es : List Exp) (b off : Nat), (∀ i, (h : i < es.length) → ∃ cs, CellsAt w b (off + i * 4) cs ∧ ExpAt B w cs es[i]) → ExpsAt B w b off es
  | [], _, _, _ => trivial
  | e :: es, b, off, h => by
    refine ⟨h 0 (Nat.succ_pos _), ExpsAt.mk es b (off + 4) fun i hi => ?_⟩
    have := h (i + 1) (by simpa using hi)
    rw [show off + (i + 1) * 4 = off + 4 + i * 4 from by omega] at this
    exact this
theorem MsgsAt.mk {B : Nat} {w : World} : ∀ (es : List Msg) (b off : Nat), (∀ i, (h : i < es.length) → ∃ cs, CellsAt w b (off + i * 2) cs ∧ MsgAt B w cs es[i]) → MsgsAt B w b off es
  | [], _, _, _ => trivial
  | e :: es, b, off, h => by
    refine ⟨h 0 (Nat.succ_pos _), MsgsAt.mk es b (off + 2) fun i hi => ?_⟩
    have := h (i + 1) (by simpa using hi)
    rw [show off + (i + 1) * 2 = off + 2 + i * 2 from by omega] at this
    exact this
theorem ClausesAt.mk {B : Nat} {w : World} : ∀ (es : List Clause) (b off : Nat), (∀ i, (h : i < es.length) → ∃ cs, CellsAt w b (off + i * 5) cs ∧ ClauseAt B w cs es[i]) → ClausesAt B w b off es
  | [], _, _, _ => trivial
  | e :: es, b, off, h => by
    refine ⟨h 0 (Nat.succ_pos _), ClausesAt.mk es b (off + 5) fun i hi => ?_⟩
    have := h (i + 1) (by simpa using hi)
    rw [show off + (i + 1) * 5 = off + 5 + i * 5 from by omega] at this
    exact this
theorem TermsAt.mk {B : Nat} {w : World} : ∀ (es : List Term) (b off : Nat), (∀ i, (h : i < es.length) → ∃ cs, CellsAt w b (off + i * 5) cs ∧ TermAt B w cs es[i]) → TermsAt B w b off es
  | [], _, _, _ => trivial
  | e :: es, b, off, h => by
    refine ⟨h 0 (Nat.succ_pos _), TermsAt.mk es b (off + 5) fun i hi => ?_⟩
    have := h (i + 1) (by simpa using hi)
    rw [show off + (i + 1) * 5 = off + 5 + i * 5 from by omega] at this
    exact this
theorem cells_blank {A : Nat} {w : World} {b off : Nat} {cs : List Value} (h : CellsAt w b off cs) (hb : A ≤ b) : CellsAt (blank A w) b off cs := by
  intro j hj
  rw [blank_cell, if_neg (by omega)]
  exact h j hj
/-- A new row of structures as a list in memory. -/
theorem sl_of_chunks {X : Type} {At : Nat → World → List Value → X → Prop} {n A ty : Nat} {w : World} {vs : List Value} {l : List X} {v : Value} {row : Option Nat} (hAt : Keeps At) (hn : 0 < n) (h : w.ownsRow A ty n v l.length vs)
    (hc : ChunksAt (fun _ w cs x => Apart At A row w cs x) n 0 w vs l)
    {P : Nat → Nat → Prop} (hP : ∀ b off, (∀ i, (h : i < l.length) → ∃ cs, CellsAt (blank A w) b (off + i * n) cs ∧ At w.heap.size (blank A w) cs l[i]) → P b off) : SlAt w.heap.size v l.length P := by
  obtain ⟨a, cap, rfl, hk, h⟩ := owns_cells hn h
  refine ⟨a, cap, rfl, hk, ?_⟩
  rcases h with h | ⟨g, rfl, hg, hA, hcell⟩
  · exact .inl h
  · refine .inr ⟨g, 0, rfl, hg, hP g 0 fun i hi => ⟨_, cells_blank (cells_part i n hcell ?_) hA, (hc.2 i hi).out hAt⟩⟩
    rw [hc.1, ← Nat.succ_mul]; exact Nat.mul_le_mul_right n hi
theorem expsSl {A : Nat} {w : World} {vs : List Value} {l : List Exp} {v : Value} {row : Option Nat} (h : w.ownsRow A 36 4 v l.length vs) (hc : ChunksAt (fun _ w cs x => Apart ExpAt A row w cs x) 4 0 w vs l) :
    SlAt w.heap.size v l.length (fun b off => ExpsAt w.heap.size (blank A w) b off l) :=
  sl_of_chunks keepsExp (by omega) h hc fun b off h => ExpsAt.mk l b off h
theorem msgsSl {A : Nat} {w : World} {vs : List Value} {l : List Msg} {v : Value} {row : Option Nat} (h : w.ownsRow A 144 2 v l.length vs) (hc : ChunksAt (fun _ w cs x => Apart MsgAt A row w cs x) 2 0 w vs l) :
    SlAt w.heap.size v l.length (fun b off => MsgsAt w.heap.size (blank A w) b off l) :=
  sl_of_chunks keepsMsg (by omega) h hc fun b off h => MsgsAt.mk l b off h
theorem clausesSl {A : Nat} {w : World} {vs : List Value} {l : List Clause} {v : Value} {row : Option Nat} (h : w.ownsRow A 130 5 v l.length vs) (hc : ChunksAt (fun _ w cs x => Apart ClauseAt A row w cs x) 5 0 w vs l) :
    SlAt w.heap.size v l.length (fun b off => ClausesAt w.heap.size (blank A w) b off l) :=
  sl_of_chunks keepsClause (by omega) h hc fun b off h => ClausesAt.mk l b off h
theorem termsSl {A : Nat} {w : World} {vs : List Value} {l : List Term} {v : Value} {row : Option Nat} (h : w.ownsRow A 33 5 v l.length vs) (hc : ChunksAt (fun _ w cs x => Apart TermAt A row w cs x) 5 0 w vs l) :
    SlAt w.heap.size v l.length (fun b off => TermsAt w.heap.size (blank A w) b off l) :=
  sl_of_chunks keepsTerm (by omega) h hc fun b off h => TermsAt.mk l b off h

end Go.Proofs.YtjmlaeofjjhfmaaGreat
