/- What a loop over a list leaves, each element from the state before it; new rows of structures. -/
import Derived.Test.YtjmlaeofjjhfmaaGreatP14
set_option linter.unusedVariables false
set_option linter.unusedSimpArgs false
namespace Go.Proofs.YtjmlaeofjjhfmaaGreat
open Go.RowKit Go.Shelf Go.Maps

/-- How a call ends whose answer is r: none is given up, with the error of a rule, and K holds. -/
def OutE {Y : Type} (r : Option Y) (e : Ending) (K : Prop) (P : Y → Prop) : Prop := match r with
  | none => e = .panicked (refusal 7) ∧ K
  | some y => P y

theorem stepsM_append {S A B : Type} (F : S → A → Option (B × S)) : ∀ (a b : List A) (s : S), stepsM F s (a ++ b) = match stepsM F s a with
    | none => none
    | some (x, s') => match stepsM F s' b with
      | none => none
      | some (y, s'') => some (x ++ y, s'')
  | [], b, s => by
    simp only [List.nil_append, stepsM]
    cases stepsM F s b with
    | none => rfl
    | some y => rfl
  | c :: a, b, s => by
    simp only [List.cons_append, stepsM]
    cases F s c with
    | none => rfl
    | some y =>
      obtain ⟨d, s'⟩ := y
      simp only
      rw [stepsM_append F a b s']
      cases stepsM F s' a with
      | none => rfl
      | some z =>
        obtain ⟨x, s1⟩ := z
        simp only
        cases stepsM F s1 b with
        | none => rfl
        | some y => rfl
theorem stepsM_more {S A B : Type} {F : S → A → Option (B × S)} {l : List A} {s s' : S} {x : List B} {k : Nat} (h : k < l.length) (hk : stepsM F s (l.take k) = some (x, s')) :
    stepsM F s (l.take (k + 1)) = match F s' l[k] with | none => none | some (y, s'') => some (x ++ [y], s'') := by
  rw [List.take_succ_eq_append_getElem h, stepsM_append, hk]
  simp only [stepsM]
  cases F s' l[k] with
  | none => rfl
  | some z => rfl
theorem stepsM_none {S A B : Type} {F : S → A → Option (B × S)} {l : List A} {s s' : S} {x : List B} {k : Nat} (h : k < l.length) (hk : stepsM F s (l.take k) = some (x, s')) (hn : F s' l[k] = none) : stepsM F s l = none := by
  have h1 := stepsM_more h hk
  rw [hn] at h1
  have h2 := stepsM_append F (l.take (k + 1)) (l.drop (k + 1)) s
  rw [List.take_append_drop, h1] at h2
  exact h2

theorem grown_row {w a b : World} {m row : Option Nat} (h : w.grownBy a m) (g : a.grownBy b row) (hr : ∀ r, row = some r → w.heap.size ≤ r ∨ m = some r) : w.grownBy b m := by
  obtain ⟨h1, h2, h3, h4, h5⟩ := h
  obtain ⟨g1, g2, g3, g4, g5⟩ := g
  refine ⟨g1.trans h1, g2.trans h2, g3.trans h3, Nat.le_trans h4 g4, fun k hk hne => ?_⟩
  refine (g5 k (by omega) (fun e => ?_)).trans (h5 k hk hne)
  rcases hr k e.symm with h | h
  · omega
  · exact hne h.symm
theorem grown_refl (w : World) (m : Option Nat) : w.grownBy w m := ⟨rfl, rfl, rfl, Nat.le_refl _, fun _ _ _ => rfl⟩
theorem grown_below {w a : World} (h : w.grownBy a none) : Below w.heap.size w a := by
  obtain ⟨h1, h2, h3, h4, h5⟩ := h
  exact ⟨h1, h2, h3, h4, fun k hk => h5 k hk (by simp)⟩
/-- No cell lies in the block m. -/
def NoCells (m : Option Nat) (w : World) : Prop := ∀ b, m = some b → b < w.heap.size ∧ ∀ o, w.cell? ⟨b, o, none⟩ = none
theorem grown_keptC {w a : World} {m : Option Nat} {B : Nat} (h : w.grownBy a m) (hn : NoCells m w) (hB : B ≤ w.heap.size) : KeptC B w a := by
  intro b o v hb hv
  refine (World.cell?_of_block (w := w) (h.block b (by omega) (fun e => ?_))).trans hv
  have := (hn b e.symm).2 o
  rw [hv] at this; cases this

/-- The world without what lies below A. -/
def blank (A : Nat) (w : World) : World := { w with heap := w.heap.mapIdx fun i o => if i < A then .map #[] 0 else o }
theorem blank_cell (A : Nat) (w : World) (b o : Nat) : (blank A w).cell? ⟨b, o, none⟩ = if b < A then none else w.cell? ⟨b, o, none⟩ := by
  unfold blank World.cell?
  simp only [Array.getElem?_mapIdx]
  cases h : w.heap[b]? with
  | none => simp
  | some x =>
    by_cases hb : b < A
    · simp [hb]
    · simp [hb]
theorem blank_kept {A A' B : Nat} {w w' : World} (hA : A' ≤ A) (h : ∀ b o v, A ≤ b → b < B → w.cell? ⟨b, o, none⟩ = some v → w'.cell? ⟨b, o, none⟩ = some v) : KeptC B (blank A w) (blank A' w') := by
  intro b o v hb hv
  rw [blank_cell] at hv ⊢
  by_cases hbA : b < A
  · simp [hbA] at hv
  · simp only [hbA, if_false] at hv
    rw [if_neg (by omega)]
    exact h b o v (by omega) hb hv
theorem blank_off (A B : Nat) (w : World) : KeptC B (blank A w) w := by
  intro b o v hb hv
  rw [blank_cell] at hv
  by_cases hbA : b < A
  · simp [hbA] at hv
  · simpa [hbA] using hv
/-- The element x of a row in the block row: what it refers to lies apart from the row. -/
def Apart {X : Type} (At : Nat → World → List Value → X → Prop) (lo : Nat) (row : Option Nat) (w : World) (cs : List Value) (x : X) : Prop :=
  ∃ A B, lo ≤ A ∧ B ≤ w.heap.size ∧ (∀ g, row = some g → g < A ∨ B ≤ g) ∧ At B (blank A w) cs x
def Keeps {X : Type} (At : Nat → World → List Value → X → Prop) : Prop := ∀ B B' w w' cs x, KeptC B w w' → B ≤ B' → At B w cs x → At B' w' cs x
theorem Apart.keep {X : Type} {At : Nat → World → List Value → X → Prop} (hAt : Keeps At) {lo : Nat} {row row' : Option Nat} {w w' : World} {cs : List Value} {x : X} (h : Apart At lo row w cs x)
    (hk : ∀ b, lo ≤ b → b < w.heap.size → row ≠ some b → w'.heap[b]? = w.heap[b]?) (hs : w.heap.size ≤ w'.heap.size) (hr : row' = row ∨ ∃ g, row' = some g ∧ w.heap.size ≤ g) : Apart At lo row' w' cs x := by
  obtain ⟨A, B, h1, h2, h3, h4⟩ := h
  refine ⟨A, B, h1, by omega, fun g hg => ?_, hAt _ _ _ _ _ _ (blank_kept (Nat.le_refl _) fun b o v ha hb hv => ?_) (Nat.le_refl _) h4⟩
  · rcases hr with rfl | ⟨g', hg', hle⟩
    · exact h3 g hg
    · rw [hg] at hg'; have := Option.some.inj hg'; omega
  · refine (World.cell?_of_block (w := w) (hk b (by omega) (by omega) (fun e => ?_))).trans hv
    rcases h3 b e with h | h <;> omega
theorem Apart.out {X : Type} {At : Nat → World → List Value → X → Prop} (hAt : Keeps At) {lo : Nat} {row : Option Nat} {w : World} {cs : List Value} {x : X} (h : Apart At lo row w cs x) : At w.heap.size (blank lo w) cs x := by
  obtain ⟨A, B, h1, h2, h3, h4⟩ := h
  exact hAt _ _ _ _ _ _ (blank_kept h1 fun b o v _ _ hv => hv) h2 h4

theorem keepsExp : Keeps ExpAt := fun _ _ _ _ cs x h hB k => ExpAt.keep h hB x cs k
theorem keepsClause : Keeps ClauseAt := fun _ _ _ _ cs x h hB k => ClauseAt.keep h hB x cs k
theorem keepsTerm : Keeps TermAt := fun _ _ _ _ cs x h hB k => TermAt.keep h hB x cs k
theorem keepsMsg : Keeps MsgAt := fun _ _ _ _ cs x h hB k => by
  obtain ⟨h1, v, h2, h3⟩ := k
  exact ⟨h1, v, h2, (h3.keep h).mono hB⟩

theorem cells_part {w : World} {g : Nat} {cs : List Value} (i n : Nat) (h : CellsAt w g 0 cs) (hi : i * n + n ≤ cs.length) : CellsAt w g (0 + i * n) ((cs.drop (i * n)).take n) := by
  intro j hj
  have hj' : j < n ∧ i * n + j < cs.length := by simp at hj; omega
  have e := h (i * n + j) hj'.2
  rw [show 0 + i * n + j = 0 + (i * n + j) by omega, e]
  simp

/-- The values vs are the cells of the elements l, n for each. -/
def ChunksAt {X : Type} (At : Nat → World → List Value → X → Prop) (n B : Nat) (w : World) (vs : List Value) (l : List X) : Prop :=
  vs.length = l.length * n ∧ ∀ i, (h : i < l.length) → At B w ((vs.drop (i * n)).take n) l[i]
theorem ChunksAt.nil {X : Type} (At : Nat → World → List Value → X → Prop) (n B : Nat) (w : World) : ChunksAt At n B w [] [] := ⟨by simp, fun i h => by simp at h⟩
theorem ChunksAt.imp {X : Type} {At : Nat → World → List Value → X → Prop} {n B B' : Nat} {w w' : World} {vs : List Value} {l : List X} (h : ChunksAt At n B w vs l) (hk : ∀ cs x, At B w cs x → At B' w' cs x) : ChunksAt At n B' w' vs l :=
  ⟨h.1, fun i hi => hk _ _ (h.2 i hi)⟩
theorem ChunksAt.snoc {X : Type} {At : Nat → World → List Value → X → Prop} {n B : Nat} {w : World} {vs cs : List Value} {l : List X} {x : X} (h : ChunksAt At n B w vs l) (hc : At B w cs x) (hn : cs.length = n) : ChunksAt At n B w (vs ++ cs) (l ++ [x]) := by
  refine ⟨by simp [h.1, hn, Nat.add_mul], fun i hi => ?_⟩
  by_cases hlt : i < l.length
  · have e1 : i * n + n ≤ vs.length := by rw [h.1, ← Nat.succ_mul]; exact Nat.mul_le_mul_right n hlt
    have := h.2 i hlt
    rw [List.getElem_append_left hlt, List.drop_append_of_le_length (by omega), List.take_append_of_le_length (by simp; omega)]
    exact this
  · have e : i = l.length := by simp at hi; omega
    subst e
    rw [← h.1, List.drop_left, ← hn, List.take_length]
    simpa using hc
theorem owns_cells {w : World} {A ty n k : Nat} {v : Value} {vs : List Value} (hn : 0 < n) (h : w.ownsRow A ty n v k vs) :
    ∃ a cap, v = .slice a k cap ∧ k ≤ 9223372036854775807 ∧ (k = 0 ∨ ∃ g, a = some ⟨g, 0, none⟩ ∧ g < w.heap.size ∧ A ≤ g ∧ CellsAt w g 0 vs) := by
  obtain ⟨hl, ⟨rfl, h2⟩ | ⟨g, cap, cur, rfl, hBg, hg, hk, hm, hsz, htk⟩⟩ := h
  · exact ⟨none, 0, by rw [h2], by omega, .inl h2⟩
  · refine ⟨_, cap, rfl, by unfold maxLen at hm; omega, .inr ⟨g, rfl, (Array.getElem?_eq_some_iff.1 hg).1, hBg, fun j hj => ?_⟩⟩
    have e0 : j < k * n := by omega
    have e2 : k * n ≤ cur.size := by rw [hsz]; exact Nat.mul_le_mul_right n hk
    have e1 : vs[j] = cur[j]'(by omega) := by
      have : vs[j]? = (cur.toList.take (k * n))[j]? := by rw [htk]
      rw [List.getElem?_take_of_lt e0] at this
      simpa [hj, show j < cur.size by omega] using this
    simp [World.cell?, hg, e1, show j < cur.size by omega]

theorem ExpsAt.mk {B : Nat} {w : World} : ∀ (es : List Exp) (b off : Nat), (∀ i, (h : i < es.length) → ∃ cs, CellsAt w b (off + i * 4) cs ∧ ExpAt B w cs es[i]) → ExpsAt B w b off es
  | [], _, _, _ => trivial
  | e :: es, b, off, h => by
    refine ⟨h 0 (Nat.succ_pos _), ExpsAt.mk es b (off + 4) fun i hi => ?_⟩
    have := h (i + 1) (by simpa using hi)
    rw [show off + (i + 1) * 4 = off + 4 + i * 4 from by omega] at this
    exact this
theorem MsgsAt.mk {B : Nat} {w : World} : ∀ (es : List Msg) (b off : Nat), (∀ i, (h : i < es.length) → ∃ cs, CellsAt w b (off + i * 2) cs ∧ MsgAt B w cs es[i]) → MsgsAt B w b off es
  | [], _, _, _ => trivial
  | e :: es, b, off, h => by
    refine ⟨h 0 (Nat.succ_pos _), MsgsAt.mk es b (off + 2) fun i hi => ?_⟩
    have := h (i + 1) (by simpa using hi)
    rw [show off + (i + 1) * 2 = off + 2 + i * 2 from by omega] at this
    exact this
theorem ClausesAt.mk {B : Nat} {w : World} : ∀ (es : List Clause) (b off : Nat), (∀ i, (h : i < es.length) → ∃ cs, CellsAt w b (off + i * 5) cs ∧ ClauseAt B w cs es[i]) → ClausesAt B w b off es
  | [], _, _, _ => trivial
  | e :: es, b, off, h => by
    refine ⟨h 0 (Nat.succ_pos _), ClausesAt.mk es b (off + 5) fun i hi => ?_⟩
    have := h (i + 1) (by simpa using hi)
    rw [show off + (i + 1) * 5 = off + 5 + i * 5 from by omega] at this
    exact this
theorem TermsAt.mk {B : Nat} {w : World} : ∀ (es : List Term) (b off : Nat), (∀ i, (h : i < es.length) → ∃ cs, CellsAt w b (off + i * 5) cs ∧ TermAt B w cs es[i]) → TermsAt B w b off es
  | [], _, _, _ => trivial
  | e :: es, b, off, h => by
    refine ⟨h 0 (Nat.succ_pos _), TermsAt.mk es b (off + 5) fun i hi => ?_⟩
    have := h (i + 1) (by simpa using hi)
    rw [show off + (i + 1) * 5 = off + 5 + i * 5 from by omega] at this
    exact this
theorem cells_blank {A : Nat} {w : World} {b off : Nat} {cs : List Value} (h : CellsAt w b off cs) (hb : A ≤ b) : CellsAt (blank A w) b off cs := by
  intro j hj
  rw [blank_cell, if_neg (by omega)]
  exact h j hj
/-- A new row of structures as a list in memory. -/
theorem sl_of_chunks {X : Type} {At : Nat → World → List Value → X → Prop} {n A ty : Nat} {w : World} {vs : List Value} {l : List X} {v : Value} {row : Option Nat} (hAt : Keeps At) (hn : 0 < n) (h : w.ownsRow A ty n v l.length vs)
    (hc : ChunksAt (fun _ w cs x => Apart At A row w cs x) n 0 w vs l)
    {P : Nat → Nat → Prop} (hP : ∀ b off, (∀ i, (h : i < l.length) → ∃ cs, CellsAt (blank A w) b (off + i * n) cs ∧ At w.heap.size (blank A w) cs l[i]) → P b off) : SlAt w.heap.size v l.length P := by
  obtain ⟨a, cap, rfl, hk, h⟩ := owns_cells hn h
  refine ⟨a, cap, rfl, hk, ?_⟩
  rcases h with h | ⟨g, rfl, hg, hA, hcell⟩
  · exact .inl h
  · refine .inr ⟨g, 0, rfl, hg, hP g 0 fun i hi => ⟨_, cells_blank (cells_part i n hcell ?_) hA, (hc.2 i hi).out hAt⟩⟩
    rw [hc.1, ← Nat.succ_mul]; exact Nat.mul_le_mul_right n hi
theorem expsSl {A : Nat} {w : World} {vs : List Value} {l : List Exp} {v : Value} {row : Option Nat} (h : w.ownsRow A 36 4 v l.length vs) (hc : ChunksAt (fun _ w cs x => Apart ExpAt A row w cs x) 4 0 w vs l) :
    SlAt w.heap.size v l.length (fun b off => ExpsAt w.heap.size (blank A w) b off l) :=
  sl_of_chunks keepsExp (by omega) h hc fun b off h => ExpsAt.mk l b off h
theorem msgsSl {A : Nat} {w : World} {vs : List Value} {l : List Msg} {v : Value} {row : Option Nat} (h : w.ownsRow A 144 2 v l.length vs) (hc : ChunksAt (fun _ w cs x => Apart MsgAt A row w cs x) 2 0 w vs l) :
    SlAt w.heap.size v l.length (fun b off => MsgsAt w.heap.size (blank A w) b off l) :=
  sl_of_chunks keepsMsg (by omega) h hc fun b off h => MsgsAt.mk l b off h
theorem clausesSl {A : Nat} {w : World} {vs : List Value} {l : List Clause} {v : Value} {row : Option Nat} (h : w.ownsRow A 130 5 v l.length vs) (hc : ChunksAt (fun _ w cs x => Apart ClauseAt A row w cs x) 5 0 w vs l) :
    SlAt w.heap.size v l.length (fun b off => ClausesAt w.heap.size (blank A w) b off l) :=
  sl_of_chunks keepsClause (by omega) h hc fun b off h => ClausesAt.mk l b off h
theorem termsSl {A : Nat} {w : World} {vs : List Value} {l : List Term} {v : Value} {row : Option Nat} (h : w.ownsRow A 33 5 v l.length vs) (hc : ChunksAt (fun _ w cs x => Apart TermAt A row w cs x) 5 0 w vs l) :
    SlAt w.heap.size v l.length (fun b off => TermsAt w.heap.size (blank A w) b off l) :=
  sl_of_chunks keepsTerm (by omega) h hc fun b off h => TermsAt.mk l b off h

end Go.Proofs.YtjmlaeofjjhfmaaGreat
/- each: a new list of what the elements of a list become (expressions). -/
namespace Go.Proofs.YtjmlaeofjjhfmaaGreat
open Go.RowKit Go.Shelf Go.Maps

theorem exp_shape {B : Nat} {w : World} {cs : List Value} {e : Exp} (h : ExpAt B w cs e) : ∃ (o n : Int) (t : ByteArray) (a : Option Addr) (k c : Nat), cs = [.int .i64 o, .int .i64 n, .string t, .slice a k c] := by
  obtain ⟨o, n, t, k⟩ := e
  obtain ⟨_, v, rfl, a, c, rfl, _⟩ := h
  exact ⟨_, _, _, _, _, _, rfl⟩
theorem clause_shape {B : Nat} {w : World} {cs : List Value} {e : Clause} (h : ClauseAt B w cs e) : ∃ (o : Int) (t : ByteArray) (a : Option Addr) (k c : Nat) (a' : Option Addr) (k' c' : Nat) (a'' : Option Addr) (k'' c'' : Nat), cs = [.int .i64 o, .string t, .slice a k c, .slice a' k' c', .slice a'' k'' c''] := by
  obtain ⟨o, t, j, d, k⟩ := e
  obtain ⟨_, v1, v2, v3, rfl, ⟨a1, c1, rfl, _⟩, ⟨a2, c2, rfl, _⟩, ⟨a3, c3, rfl, _⟩⟩ := h
  exact ⟨_, _, _, _, _, _, _, _, _, _, _, rfl⟩
theorem term_shape {B : Nat} {w : World} {cs : List Value} {e : Term} (h : TermAt B w cs e) : ∃ (o : Int) (t : ByteArray) (a : Option Addr) (k c : Nat) (a' : Option Addr) (k' c' : Nat) (a'' : Option Addr) (k'' c'' : Nat), cs = [.int .i64 o, .string t, .slice a k c, .slice a' k' c', .slice a'' k'' c''] := by
  obtain ⟨o, t, j, d, k⟩ := e
  obtain ⟨_, v1, v2, v3, rfl, ⟨a1, c1, rfl, _⟩, ⟨a2, c2, rfl, _⟩, ⟨a3, c3, rfl, _⟩⟩ := h
  exact ⟨_, _, _, _, _, _, _, _, _, _, _, rfl⟩
theorem msg_shape {B : Nat} {w : World} {cs : List Value} {e : Msg} (h : MsgAt B w cs e) : ∃ (t : ByteArray) (a : Option Addr) (k c : Nat), cs = [.string t, .slice a k c] := by
  obtain ⟨_, v, rfl, a, c, rfl, _⟩ := h
  exact ⟨_, _, _, _, rfl⟩

set_option maxRecDepth 10000 in
set_option maxHeartbeats 1000000 in
theorem each_139 {S : Type} (B : Nat) (u : World) (m : Option Nat) (w : World) (sv : Value) (Inv : S → World → Prop) (F : S → Exp → Option (Exp × S)) (l : List Exp) (a : Option Addr) (cap : Nat) (hl : l.length ≤ 1000)
    (hsrc : l.length = 0 ∨ ∃ b off, a = some ⟨b, off, none⟩ ∧ b < B ∧ ExpsAt B u b off l) (hu : KeptC B u w) (hB : B ≤ w.heap.size)
    (hInv : ∀ s W W' row, Inv s W → W.grownBy W' row → (∀ r, row = some r → w.heap.size ≤ r) → Inv s W') (hNC : ∀ s W, Inv s W → NoCells m W) (hm : ∀ b, m = some b → b < w.heap.size)
    (hcall : ∀ k (h : k < l.length) s W cs, Inv s W → w.grownBy W m → ExpAt B u cs l[k] → Calls Tryz.prog 140 #[sv, .agg cs.toArray] W fun e w' => OutE (F s l[k]) e (W.grownBy w' m) fun (x, s') => ∃ cs', e = .returned (.agg cs'.toArray) ∧ ExpAt w'.heap.size (blank W.heap.size w') cs' x ∧ Inv s' w' ∧ W.grownBy w' m)
    (st : S) (hI : Inv st w) :
    Calls Tryz.prog 139 #[.slice a l.length cap, .func (.func 140) #[sv] #[]] w fun e w' => OutE (stepsM F st l) e (w.grownBy w' m) fun (l', s') => ∃ v, e = .returned v ∧ l'.length = l.length ∧ SlAt w'.heap.size v l'.length (fun b off => ExpsAt w'.heap.size (blank w.heap.size w') b off l') ∧ Inv s' w' ∧ w.grownBy w' m := by
  obtain ⟨i0, hi, hz0, hz1, hz2⟩ := info_parts info36
  have eK : ∀ args w, (callFunc 140 args).run Tryz.prog w = .ok (.enter 140 args) w := enters_of Tryz.func140 (by kernel_rfl) rfl
  have hnc := hNC _ _ hI
  have hu' := Lib.hid hu
  clear hu
  go_enter Tryz.func139, Tryz.ntmps139
  go_wp2_with fail
  go_loopw [5, 10] (fun v i wr => ∃ (k : Nat) (xs : List Exp) (s : S) (vals : List Value), k ≤ l.length ∧ i = .int .i64 k ∧ stepsM F st (l.take k) = some (xs, s) ∧ xs.length = k ∧ wr.ownsRow w.heap.size 36 4 v k vals ∧
    ChunksAt (fun _ w1 cs x => Apart ExpAt w.heap.size v.ownBlock w1 cs x) 4 0 wr vals xs ∧ Inv s wr ∧ w.grownBy wr m) (fun _ i _ => l.length - (intOf i).toNat)
  case atStart => exact ⟨0, [], st, [], by omega, rfl, by simp [stepsM], rfl, World.ownsRow_nil _ _ _ _, ChunksAt.nil _ _ _ _, hI, grown_refl _ _⟩
  case round =>
    obtain ⟨k, xs, s, vals, hk, rfl, hst, hxl, hown, hch, hIs, hg⟩ := hrel
    have HXL := Lib.hid hxl; clear hxl
    by_cases hlt : k < l.length
    · rcases hsrc with h0 | ⟨b, off, rfl, hb, hxs⟩
      · omega
      obtain ⟨cs, hcell, hat⟩ := ExpsAt.get l b off hxs k hlt
      have hku : KeptC B u wr := hu'.out.trans (grown_keptC hg hnc hB)
      have hBr : B ≤ wr.heap.size := Nat.le_trans hB hg.size
      have hwr := hg.size
      have hcell' := hcell.keep hku hb
      have hmore := Lib.hid (stepsM_more hlt hst)
      have hnone := Lib.hid (stepsM_none hlt hst)
      have hc := hcall k hlt s (wr.alloc (.cells cs.toArray 36)) cs (hInv s _ _ none hIs (World.grownBy_alloc _ _ none) (by simp)) (grown_row hg (World.grownBy_alloc _ _ none) (by simp)) hat
      obtain ⟨c0, c1, c2, c3, c4, c5, rfl⟩ := exp_shape hat
      obtain ⟨d0, d1, d2, d3⟩ := cells4 hcell'
      clear hat hcell hcell' hxs hcall hst
      obtain ⟨R, hR⟩ : ∃ R, R = F s l[k] := ⟨_, rfl⟩
      rw [← hR] at hc hmore hnone
      have HR := Lib.hid hR
      clear hR
      cases R with
      | none =>
        go_wp2_with (go_at_call 140; refine hc.mono ?_; clear hc; rintro e w3 ⟨rfl, hgp⟩)
        simp only [bodyPost]
        rw [hnone.out (by simp)]
        exact ⟨by trivial, rfl, grown_row (grown_row hg (World.grownBy_alloc wr (.cells #[.int .i64 c0, .int .i64 c1, .string c2, .slice c3 c4 c5] 36) none) (by simp)) hgp (fun r h => .inr h)⟩
      | some r =>
        obtain ⟨x, s'⟩ := r
        have hj : ∀ (w3 : World) (cs' : List Value), ExpAt w3.heap.size (blank (wr.alloc (.cells #[.int .i64 c0, .int .i64 c1, .string c2, .slice c3 c4 c5] 36)).heap.size w3) cs' x → Inv s' w3 → (wr.alloc (.cells #[.int .i64 c0, .int .i64 c1, .string c2, .slice c3 c4 c5] 36)).grownBy w3 m →
            ∃ e0 e1 e2 e3 e4 e5 gg cp w', cs' = [.int .i64 e0, .int .i64 e1, .string e2, .slice e3 e4 e5] ∧ (Builtin.append_ #[29, 29] 29 #[u5, .slice (some ⟨w3.heap.size, 0, none⟩) 1 1]).run Tryz.prog (w3.alloc (.cells #[.int .i64 e0, .int .i64 e1, .string e2, .slice e3 e4 e5] 36)) = .ok (.slice (some ⟨gg, 0, none⟩) (k + 1) cp) w' ∧
              w'.ownsRow w.heap.size 36 4 (.slice (some ⟨gg, 0, none⟩) (k + 1) cp) (k + 1) (vals ++ [.int .i64 e0, .int .i64 e1, .string e2, .slice e3 e4 e5]) ∧ ChunksAt (fun _ w1 cs x => Apart ExpAt w.heap.size (Value.slice (some ⟨gg, 0, none⟩) (k + 1) cp).ownBlock w1 cs x) 4 0 w' (vals ++ [.int .i64 e0, .int .i64 e1, .string e2, .slice e3 e4 e5]) (xs ++ [x]) ∧ Inv s' w' ∧ w.grownBy w' m := by
          intro w3 cs' hat' hI' hg'
          obtain ⟨e0, e1, e2, e3, e4, e5, rfl⟩ := exp_shape hat'
          obtain ⟨W4, hW4⟩ : ∃ W4, W4 = w3.alloc (.cells #[.int .i64 e0, .int .i64 e1, .string e2, .slice e3 e4 e5] 36) := ⟨_, rfl⟩
          have hg3 : wr.grownBy w3 m := grown_row (grown_row (grown_refl _ _) (World.grownBy_alloc wr (.cells #[.int .i64 c0, .int .i64 c1, .string c2, .slice c3 c4 c5] 36) none) (by simp)) hg' (fun r h => .inr h)
          have hg4 : wr.grownBy W4 m := by rw [hW4]; exact grown_row hg3 (World.grownBy_alloc _ _ none) (by simp)
          have hoA := ownsRow_keep hown hg4 (fun b hb e => by have := hm b e; have := (hown.lt b hb).1; omega)
          obtain ⟨v', w', hr, h1, h2, h3, h4⟩ := run_append_own_at (P := Tryz.prog) W4 w.heap.size 29 29 36 i0 (.agg #[.int .i64 0, .int .i64 0, .string ⟨#[]⟩, .slice none 0 0]) 4 56 Tryz.underlying29 hi hz0 hz1 hz2 rfl (by decide) _ k vals hoA
            ⟨w3.heap.size, 0, none⟩ 1 1 [.int .i64 e0, .int .i64 e1, .string e2, .slice e3 e4 e5] rfl (by
              intro j u hj
              have e : (⟨w3.heap.size, 0, none⟩ : Addr).add j = ⟨w3.heap.size, j, none⟩ := by unfold Addr.add; by_cases h : j = 0 <;> simp [h]
              rw [e, hW4, World.cell?_alloc_at _ _ _ _ rfl]
              simpa using hj) (by simp [Value.oneCell']) (by unfold maxLen; omega) (by omega) (by have := hg4.size; omega)
          have hs3 := hg3.size
          have hs4 : W4.heap.size = w3.heap.size + 1 := by rw [hW4]; simp
          have hlo := hown.lt
          have hch' : ChunksAt (fun _ w1 cs x => Apart ExpAt w.heap.size v'.ownBlock w1 cs x) 4 0 w' (vals ++ [.int .i64 e0, .int .i64 e1, .string e2, .slice e3 e4 e5]) (xs ++ [x]) := by
            have hch1 : ChunksAt (fun _ w1 cs x => Apart ExpAt w.heap.size v'.ownBlock w1 cs x) 4 0 w' vals xs := ⟨hch.1, fun i hi => Apart.keep keepsExp (hch.2 i hi) (fun b hb1 hb2 hb3 =>
              (h2.block b (by omega) (fun e => hb3 e.symm)).trans (hg4.block b hb2 (fun e => by have := hm b e.symm; omega))) (by have := h2.size; omega) (by
                rcases h4 with h4 | h4
                · exact .inl h4
                · exact .inr ⟨_, h4, by omega⟩)⟩
            refine ChunksAt.snoc hch1 ?_ rfl
            · refine ⟨wr.heap.size + 1, w3.heap.size, by omega, by have := h2.size; omega, fun g hg => ?_, ?_⟩
              · rcases h4 with h4 | h4
                · rw [h4] at hg; have := (hlo g hg).2; omega
                · rw [h4] at hg; have := Option.some.inj hg; omega
              · rw [World.size_alloc] at hat'
                refine keepsExp _ _ _ _ _ _ (blank_kept (Nat.le_refl _) fun b o v ha hb hv => ?_) (Nat.le_refl _) hat'
                have e1 : W4.cell? ⟨b, o, none⟩ = some v := by rw [hW4, World.cell?_alloc_past _ _ _ hb]; exact hv
                refine (World.cell?_of_block (w := W4) (h2.block b (by omega) (fun e => ?_))).trans e1
                have := (hlo b e.symm).2; omega
          have hI4 : Inv s' w' := hInv s' _ _ _ (hInv s' _ W4 none hI' (by rw [hW4]; exact World.grownBy_alloc _ _ none) (by simp)) h2 (fun r hr => (hlo r hr).1)
          have hgw : w.grownBy w' m := grown_row (grown_row hg hg4 (fun r h => .inr h)) h2 (fun r hr => .inl (hlo r hr).1)
          obtain ⟨_, ⟨_, h0⟩ | ⟨gg, cp, cur, hvf, _⟩⟩ := id h1
          · omega
          subst hvf
          rw [hW4] at hr
          exact ⟨_, _, _, _, _, _, gg, cp, w', rfl, hr, h1, hch', hI4, hgw⟩
        clear hch hIs hown hku
        go_wp2_with (first
          | (go_at_call 140; refine hc.mono ?_; clear hc; rintro e w3 ⟨cs', rfl, hat', hI', hg'⟩; obtain ⟨e0, e1, e2, e3, e4, e5, gg, cp, w', rfl, hr, h1, h2, h3, h4⟩ := hj w3 cs' hat' hI' hg'; have H1 := Lib.hid h1; have H2 := Lib.hid h2; have H3 := Lib.hid h3; have H4 := Lib.hid h4; clear hj hat' hI' hg' h1 h2 h3 h4)
          | (show wpList _ _ _ (⟨some 19, _, _, _, _, _⟩ :: _) _ _; refine wpList_append_eq rfl (.tmp 14) (.tmp 18) 29 29 rfl rfl rfl hr ?_))
        go_roundw
        case rel => exact ⟨k + 1, xs ++ [x], s', _, by omega, by go_num, hmore.out, by simp [HXL.out], H1.out, H2.out, H3.out, H4.out⟩
        case measure => simp [intOf]; omega
    · obtain rfl : k = l.length := by omega
      rw [List.take_length] at hst
      have HXL' := HXL.out
      have hsl := expsSl (by rw [HXL']; exact hown) hch
      have HSL := Lib.hid hsl
      obtain ⟨aa, cc, hvv, _⟩ := owns_cells (by omega) hown
      subst hvv
      clear hsl hch hown
      go_wp2
      go_ret
      rw [hst]
      exact ⟨_, rfl, HXL', HSL.out, hIs, hg⟩

end Go.Proofs.YtjmlaeofjjhfmaaGreat
