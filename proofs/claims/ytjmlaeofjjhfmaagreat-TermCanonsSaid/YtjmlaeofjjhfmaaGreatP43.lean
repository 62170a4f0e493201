/- Processes that are laid out. -/
import Derived.Test.YtjmlaeofjjhfmaaGreatP35
import Derived.Test.YtjmlaeofjjhfmaaGreatP25
import Derived.Test.YtjmlaeofjjhfmaaGreatP41
set_option linter.unusedVariables false
set_option linter.unusedSimpArgs false
namespace Go.Proofs.YtjmlaeofjjhfmaaGreat
open Go.RowKit Go.Shelf Go.Maps
/-- Processes beside each other. -/
def joinT : List Term → Term
  | [] => .mk 1 ByteArray.empty [] [] []
  | [t] => t
  | t :: u :: l => .mk 3 ByteArray.empty [] [] [t, joinT (u :: l)]
mutual
/-- A process laid out. -/
def layT : Term → Term
  | .mk op t a d k => joinT (splitT (.mk op t a (layCs d) (layTs k)))
def layC : Clause → Clause
  | .mk f t j d k => .mk f t j (layCs d) (layTs k)
def layTs : List Term → List Term
  | [] => []
  | a :: l => layT a :: layTs l
def layCs : List Clause → List Clause
  | [] => []
  | a :: l => layC a :: layCs l
end
theorem layTs_map : ∀ l, layTs l = l.map layT
  | [] => rfl
  | a :: l => by rw [layTs, layTs_map l]; rfl
theorem layCs_map : ∀ l, layCs l = l.map layC
  | [] => rfl
  | a :: l => by rw [layCs, layCs_map l]; rfl
def kindT : Term → Int | .mk op _ _ _ _ => op
/-- Neither nothing nor two processes. -/
def Solid (t : Term) : Prop := kindT t ≠ 1 ∧ kindT t ≠ 3
theorem split_solid {t : Term} (h : Solid t) : splitT t = [t] := by
  obtain ⟨op, tx, a, d, k⟩ := t
  rw [splitT, if_neg (show ¬ op = 1 from h.1), if_neg (show ¬ op = 3 from h.2)]
mutual
theorem split_all : ∀ (t : Term), ∀ a ∈ splitT t, Solid a
  | .mk op t a d k, x, hx => by
    rw [splitT] at hx
    by_cases h1 : op = 1
    · rw [if_pos h1] at hx; simp at hx
    · rw [if_neg h1] at hx
      by_cases h3 : op = 3
      · rw [if_pos h3] at hx; exact splits_all k x hx
      · rw [if_neg h3] at hx
        rw [List.mem_singleton.1 hx]
        exact ⟨h1, h3⟩
theorem splits_all : ∀ (l : List Term), ∀ a ∈ splitTs l, Solid a
  | [], x, hx => by simp [splitTs] at hx
  | t :: l, x, hx => by
    rw [splitTs] at hx
    rcases List.mem_append.1 hx with hx | hx
    · exact split_all t x hx
    · exact splits_all l x hx
end
theorem split_join : ∀ l : List Term, (∀ a ∈ l, Solid a) → splitT (joinT l) = l
  | [], _ => rfl
  | [t], h => split_solid (h t (by simp))
  | t :: u :: l, h => by
    rw [joinT, splitT, if_neg (by decide), if_pos rfl, splitTs, splitTs, splitTs, List.append_nil, split_solid (h t (by simp)), split_join (u :: l) (fun a ha => h a (by simp at ha ⊢; exact .inr ha))]
    rfl
abbrev FineT (t : Term) : Prop := NdP (fun q => q.shaped = true) (.proc t)
abbrev FineC (c : Clause) : Prop := NdP (fun q => q.shaped = true) (.def_ c)
/-- What a formed process is, by its kind. -/
theorem fine_cases {op : Int} {t : ByteArray} {a : List Exp} {d : List Clause} {k : List Term} (h : FineT (.mk op t a d k)) :
    (op = 1 ∧ t = ByteArray.empty ∧ a = [] ∧ d = [] ∧ k = []) ∨ (op = 3 ∧ t = ByteArray.empty ∧ a = [] ∧ d = [] ∧ ∃ k1 k2, k = [k1, k2] ∧ FineT k1 ∧ FineT k2) ∨ (op ≠ 1 ∧ op ≠ 3) := by
  have h1 := h.self
  by_cases ho : op = 1
  · subst ho
    simp [Part.shaped, shapedTB] at h1
    exact .inl ⟨rfl, by first | exact h1.1.1.1 | exact empty_of_size h1.1.1.1, h1.1.1.2, h1.1.2, h1.2⟩
  · by_cases h3 : op = 3
    · subst h3
      simp [Part.shaped, shapedTB] at h1
      obtain ⟨⟨⟨a1, a2⟩, a3⟩, a4⟩ := h1
      match k, a4 with
      | [x, y], _ => exact .inr (.inl ⟨rfl, by first | exact a1 | exact empty_of_size a1, a2, a3, x, y, rfl, h.part (part_kids (by simp)), h.part (part_kids (by simp))⟩)
    · exact .inr (.inr ⟨ho, h3⟩)
theorem lay_solid {op : Int} {t : ByteArray} {a : List Exp} {d : List Clause} {k : List Term} (h1 : op ≠ 1) (h3 : op ≠ 3) : layT (.mk op t a d k) = .mk op t a (layCs d) (layTs k) := by
  rw [layT, splitT, if_neg h1, if_neg h3, joinT]
theorem lay_par (k1 k2 : Term) : layT (.mk 3 ByteArray.empty [] [] [k1, k2]) = joinT (splitT (layT k1) ++ splitT (layT k2)) := by
  rw [layT, splitT, if_neg (by decide), if_pos rfl, layTs, layTs, layTs, splitTs, splitTs, splitTs, List.append_nil]
theorem solids {A B : List Term} (hA : ∀ a ∈ A, Solid a) (hB : ∀ a ∈ B, Solid a) : ∀ a ∈ A ++ B, Solid a := fun a ha => (List.mem_append.1 ha).elim (hA a) (hB a)
def szT (t : Term) : Nat := (nodesT 0 t).length
theorem szT_lev (lev : Nat) (t : Term) : (nodesT lev t).length = szT t := nodesOf_len lev 0 (.proc t)
def szC (t : Clause) : Nat := (nodesC 0 t).length
theorem szC_lev (lev : Nat) (t : Clause) : (nodesC lev t).length = szC t := nodesOf_len lev 0 (.def_ t)
def szTs : List Term → Nat
  | [] => 0
  | a :: l => szT a + szTs l
def szCs : List Clause → Nat
  | [] => 0
  | a :: l => szC a + szCs l
theorem szTs_lev (lev : Nat) : ∀ l, (nodesTs lev l).length = szTs l
  | [] => rfl
  | a :: l => by rw [nodesTs, List.length_append, szT_lev, szTs_lev lev l, szTs]
theorem szCs_lev (lev : Nat) : ∀ l, (nodesCs lev l).length = szCs l
  | [] => rfl
  | a :: l => by rw [nodesCs, List.length_append, szC_lev, szCs_lev lev l, szCs]
theorem szTs_append : ∀ a b, szTs (a ++ b) = szTs a + szTs b
  | [], b => by simp [szTs]
  | x :: a, b => by rw [List.cons_append, szTs, szTs, szTs_append a b]; omega
theorem szT_eq (o : Int) (t : ByteArray) (a : List Exp) (d : List Clause) (k : List Term) : szT (.mk o t a d k) = 1 + (nodesEs 1 a).length + szCs d + szTs k := by
  rw [szT, nodesT, List.length_cons, List.length_append, List.length_append, szCs_lev, szTs_lev]
  simp only [Nat.zero_add]
  omega
theorem szC_eq (f : Int) (t : ByteArray) (j : List Msg) (d : List Clause) (k : List Term) : szC (.mk f t j d k) = 1 + szCs d + szTs k := by
  rw [szC, nodesC, List.length_cons, List.length_append, szCs_lev, szTs_lev]; omega
theorem szT_join : ∀ l : List Term, szT (joinT l) + 1 ≤ szTs l + l.length ∨ (l = [] ∧ szT (joinT l) = 1)
  | [] => .inr ⟨rfl, rfl⟩
  | [t] => .inl (by rw [joinT, szTs, szTs]; simp)
  | t :: u :: l => .inl (by
    rw [joinT, szT_eq]
    rcases szT_join (u :: l) with h | h
    · simp only [szTs, szCs, nodesEs, List.length_cons, List.length_nil] at h ⊢; omega
    · cases h.1)
mutual
/-- Laying out makes no more nodes. -/
theorem layT_size : ∀ t : Term, FineT t → szT (layT t) ≤ szT t ∧ szTs (splitT (layT t)) + (splitT (layT t)).length ≤ szT t + 1
  | .mk op t a d ks, h => by
    rcases fine_cases h with ⟨rfl, rfl, rfl, rfl, rfl⟩ | ⟨rfl, rfl, rfl, rfl, k1, k2, rfl, h1, h2⟩ | ⟨h1, h3⟩
    · have e : layT (.mk 1 ByteArray.empty [] [] []) = .mk 1 ByteArray.empty [] [] [] := rfl
      rw [e]
      exact ⟨Nat.le_refl _, by simp [splitT, szTs]⟩
    · have i1 := (layT_size k1 h1).2
      have i2 := (layT_size k2 h2).2
      have e : szT (.mk 3 ByteArray.empty [] [] [k1, k2]) = 1 + szT k1 + szT k2 := by
        rw [szT_eq, szTs, szTs, szTs, szCs, nodesEs]; simp; omega
      have hj := szT_join (splitT (layT k1) ++ splitT (layT k2))
      rw [lay_par, split_join _ (solids (split_all _) (split_all _)), e]
      rw [szTs_append, List.length_append] at hj
      rw [szTs_append, List.length_append]
      refine ⟨?_, by omega⟩
      rcases hj with hj | ⟨_, hj⟩
      · omega
      · rw [hj]; omega
    · have e : szT (layT (.mk op t a d ks)) ≤ szT (.mk op t a d ks) := by
        have c1 := layCs_size d (fun c hc => h.part (part_defs hc))
        have c2 := layTs_size ks (fun c hc => h.part (part_kids hc))
        rw [lay_solid h1 h3, szT_eq, szT_eq]; omega
      refine ⟨e, ?_⟩
      have e4 : splitT (layT (.mk op t a d ks)) = [layT (.mk op t a d ks)] := by rw [lay_solid h1 h3]; exact split_solid ⟨h1, h3⟩
      rw [e4, szTs, szTs]
      simp only [List.length_cons, List.length_nil]
      omega
theorem layTs_size : ∀ l : List Term, (∀ c ∈ l, FineT c) → szTs (layTs l) ≤ szTs l
  | [], _ => by rw [layTs]; exact Nat.le_refl _
  | a :: l, h => by
    have h1 := (layT_size a (h a (by simp))).1
    have h2 := layTs_size l (fun x hx => h x (by simp [hx]))
    rw [layTs, szTs, szTs]; omega
theorem layC_size : ∀ t : Clause, FineC t → szC (layC t) ≤ szC t
  | .mk f t j d ks, h => by
    have c1 := layCs_size d (fun c hc => h.part (partC_defs hc))
    have c2 := layTs_size ks (fun c hc => h.part (partC_kids hc))
    rw [layC, szC_eq, szC_eq]; omega
theorem layCs_size : ∀ l : List Clause, (∀ c ∈ l, FineC c) → szCs (layCs l) ≤ szCs l
  | [], _ => by rw [layCs]; exact Nat.le_refl _
  | a :: l, h => by
    have h1 := layC_size a (h a (by simp))
    have h2 := layCs_size l (fun x hx => h x (by simp [hx]))
    rw [layCs, szCs, szCs]; omega
end
theorem NdP.of_parts {P : Part → Prop} {p : Part} (h : P p) (hq : ∀ q ∈ p.parts, NdP P q) : NdP P p := by
  intro x hx
  rw [nodesOf_eq, List.map_cons] at hx
  rcases List.mem_cons.1 hx with rfl | hx
  · exact h
  · obtain ⟨y, hy, rfl⟩ := List.mem_map.1 hx
    obtain ⟨q, hq1, hq2⟩ := List.mem_flatMap.1 hy
    refine hq q hq1 y.1 ?_
    rw [nodesOf_fst 0 (0 + 1)]
    exact List.mem_map.2 ⟨y, hq2, rfl⟩
theorem fine_nil : FineT (.mk 1 ByteArray.empty [] [] []) := NdP.of_parts rfl (fun q hq => by simp [Part.parts] at hq)
theorem fine_par {k1 k2 : Term} (h1 : FineT k1) (h2 : FineT k2) : FineT (.mk 3 ByteArray.empty [] [] [k1, k2]) :=
  NdP.of_parts rfl (fun q hq => by
    simp [Part.parts] at hq
    rcases hq with rfl | rfl
    · exact h1
    · exact h2)
theorem fine_join : ∀ l : List Term, (∀ a ∈ l, FineT a) → FineT (joinT l)
  | [], _ => fine_nil
  | [t], h => h t (by simp)
  | t :: u :: l, h => fine_par (h t (by simp)) (fine_join (u :: l) (fun a ha => h a (by simp at ha ⊢; exact .inr ha)))
mutual
theorem fine_split : ∀ t : Term, FineT t → ∀ a ∈ splitT t, FineT a
  | .mk op t a d k, h, x, hx => by
    rw [splitT] at hx
    by_cases h1 : op = 1
    · rw [if_pos h1] at hx; simp at hx
    · rw [if_neg h1] at hx
      by_cases h3 : op = 3
      · rw [if_pos h3] at hx; exact fine_splits k (fun c hc => h.part (part_kids hc)) x hx
      · rw [if_neg h3] at hx
        rw [List.mem_singleton.1 hx]
        exact h
theorem fine_splits : ∀ l : List Term, (∀ c ∈ l, FineT c) → ∀ a ∈ splitTs l, FineT a
  | [], _, x, hx => by simp [splitTs] at hx
  | t :: l, h, x, hx => by
    rw [splitTs] at hx
    rcases List.mem_append.1 hx with hx | hx
    · exact fine_split t (h t (by simp)) x hx
    · exact fine_splits l (fun c hc => h c (by simp [hc])) x hx
end
theorem lay_shaped {op : Int} {t : ByteArray} {a : List Exp} {d : List Clause} {k : List Term} (h : (Part.proc (.mk op t a d k)).shaped = true) : (Part.proc (.mk op t a (layCs d) (layTs k))).shaped = true := by
  rw [layCs_map, layTs_map]
  simpa [Part.shaped, shapedTB] using h
theorem layC_shaped {f : Int} {t : ByteArray} {j : List Msg} {d : List Clause} {k : List Term} (h : (Part.def_ (.mk f t j d k)).shaped = true) : (Part.def_ (.mk f t j (layCs d) (layTs k))).shaped = true := by
  rw [layCs_map, layTs_map]
  simpa [Part.shaped, shapedCB] using h
mutual
theorem fine_layT : ∀ t : Term, FineT t → FineT (layT t)
  | .mk op t a d k, h => by
    rw [layT]
    exact fine_join _ (fine_split _ (fine_half op t a d k h (fine_layCs d (fun c hc => h.part (part_defs hc))) (fine_layTs k (fun c hc => h.part (part_kids hc)))))
theorem fine_layTs : ∀ l : List Term, (∀ c ∈ l, FineT c) → ∀ c ∈ layTs l, FineT c
  | [], _, x, hx => by simp [layTs] at hx
  | t :: l, h, x, hx => by
    rw [layTs] at hx
    rcases List.mem_cons.1 hx with rfl | hx
    · exact fine_layT t (h t (by simp))
    · exact fine_layTs l (fun c hc => h c (by simp [hc])) x hx
theorem fine_layC : ∀ t : Clause, FineC t → FineC (layC t)
  | .mk f t j d k, h => by
    rw [layC]
    exact fine_halfC f t j d k h (fine_layCs d (fun c hc => h.part (partC_defs hc))) (fine_layTs k (fun c hc => h.part (partC_kids hc)))
theorem fine_layCs : ∀ l : List Clause, (∀ c ∈ l, FineC c) → ∀ c ∈ layCs l, FineC c
  | [], _, x, hx => by simp [layCs] at hx
  | t :: l, h, x, hx => by
    rw [layCs] at hx
    rcases List.mem_cons.1 hx with rfl | hx
    · exact fine_layC t (h t (by simp))
    · exact fine_layCs l (fun c hc => h c (by simp [hc])) x hx
theorem fine_half : ∀ (op : Int) (t : ByteArray) (a : List Exp) (d : List Clause) (k : List Term), FineT (.mk op t a d k) → (∀ c ∈ layCs d, FineC c) → (∀ c ∈ layTs k, FineT c) → FineT (.mk op t a (layCs d) (layTs k))
  | op, t, a, d, k, h, h1, h2 => NdP.of_parts (lay_shaped h.self) (fun q hq => by
    rw [Part.parts] at hq
    rcases List.mem_append.1 hq with hq | hq
    · rcases List.mem_append.1 hq with hq | hq
      · obtain ⟨e, he, rfl⟩ := List.mem_map.1 hq
        exact h.part (part_args he)
      · obtain ⟨e, he, rfl⟩ := List.mem_map.1 hq
        exact h1 e he
    · obtain ⟨e, he, rfl⟩ := List.mem_map.1 hq
      exact h2 e he)
theorem fine_halfC : ∀ (f : Int) (t : ByteArray) (j : List Msg) (d : List Clause) (k : List Term), FineC (.mk f t j d k) → (∀ c ∈ layCs d, FineC c) → (∀ c ∈ layTs k, FineT c) → FineC (.mk f t j (layCs d) (layTs k))
  | f, t, j, d, k, h, h1, h2 => NdP.of_parts (layC_shaped h.self) (fun q hq => by
    rw [Part.parts] at hq
    rcases List.mem_append.1 hq with hq | hq
    · obtain ⟨e, he, rfl⟩ := List.mem_map.1 hq
      exact h1 e he
    · obtain ⟨e, he, rfl⟩ := List.mem_map.1 hq
      exact h2 e he)
end
end Go.Proofs.YtjmlaeofjjhfmaaGreat
/- Processes that are copied as they are; parts of formed processes. -/
namespace Go.Proofs.YtjmlaeofjjhfmaaGreat
open Go.RowKit Go.Shelf Go.Maps

/-- Scopes in which every name stays as it is. -/
structure IdEnv (v : Env) : Prop where
  base : v.base = .outside
  frames : ∀ f ∈ v.frames, ∀ x n, f x = some n → n = mkB x
theorem IdEnv.becomes {v : Env} (h : IdEnv v) (x : ByteArray) : v.becomes x = nameE x := by
  unfold Env.becomes
  rw [h.base]
  have : ∀ fs : List Frame, (∀ f ∈ fs, ∀ x n, f x = some n → n = mkB x) → becomesF .outside x fs = nameE x := by
    intro fs
    induction fs with
    | nil => intro _; rfl
    | cons f fs ih =>
      intro hf
      rw [becomesF]
      cases hx : f (bytesOf x) with
      | some n => rw [hf f (by simp) _ _ hx, mkB_self]
      | none => exact ih (fun g hg => hf g (by simp [hg]))
  exact this _ h.frames
theorem IdEnv.text {v : Env} (h : IdEnv v) (x : ByteArray) : textM v x = some x := by
  unfold textM
  split
  · rfl
  · rw [h.becomes]; rfl
theorem IdEnv.texts {v : Env} (h : IdEnv v) : ∀ l, textsM v l = some l
  | [] => rfl
  | a :: l => by rw [textsM, h.text, h.texts l]
theorem IdEnv.msgs {v i : Env} (h : IdEnv v) (hi : IdEnv i) : ∀ l, msgsM v i l = some l
  | [] => rfl
  | a :: l => by rw [msgsM, msgM, h.text, hi.texts, IdEnv.msgs h hi l]
theorem IdEnv.inside {v : Env} (h : IdEnv v) (U : Used) (p : Part) : IdEnv (inside v U p).1 ∧ (inside v U p).2 = U := by
  unfold Go.Proofs.YtjmlaeofjjhfmaaGreat.inside
  split
  · exact ⟨h, rfl⟩
  · have e : v.base.renames v p = [] := by rw [h.base]; rfl
    rw [e]
    simp only [List.foldl_nil]
    refine ⟨⟨h.base, fun f hf x n hn => ?_⟩, trivial⟩
    rcases List.mem_cons.1 hf with rfl | hf
    · rw [self_fold] at hn
      split at hn
      · cases hn; rfl
      · cases hn
    · exact h.frames f hf x n hn
mutual
theorem IdEnv.exp {v : Env} (h : IdEnv v) : ∀ e, plainE e = true → copyE v e = e
  | .mk op n t k, hp => by
    rw [plainE, Bool.and_eq_true] at hp
    rw [copyE]
    by_cases ho : op = 2
    · subst ho
      have hp1 := hp.1
      simp at hp1
      rw [if_pos rfl, h.becomes, nameE, hp1.1, hp1.2]
    · rw [if_neg ho, IdEnv.exps h k hp.2]
theorem IdEnv.exps {v : Env} (h : IdEnv v) : ∀ l, plainEs l = true → copyEs v l = l
  | [], _ => rfl
  | a :: l, hp => by
    rw [plainEs, Bool.and_eq_true] at hp
    rw [copyEs, IdEnv.exp h a hp.1, IdEnv.exps h l hp.2]
end
mutual
theorem IdEnv.clause : ∀ (c : Clause) {v : Env} (_ : IdEnv v) (U : Used), FineC c → copyC v U c = some (c, U)
  | .mk f t j d k, v, h, U, hf => by
    obtain ⟨hi, hu⟩ := h.inside U (.def_ (.mk f t j d k))
    rw [copyC]
    simp only [h.text, h.msgs hi, hu, IdEnv.clauses d hi U (fun c hc => hf.part (partC_defs hc)), IdEnv.terms k hi U (fun c hc => hf.part (partC_kids hc))]
theorem IdEnv.clauses : ∀ (l : List Clause) {v : Env} (_ : IdEnv v) (U : Used), (∀ c ∈ l, FineC c) → copyCs v U l = some (l, U)
  | [], v, h, U, _ => rfl
  | a :: l, v, h, U, hf => by
    rw [copyCs, IdEnv.clause a h U (hf a (by simp))]
    simp only
    rw [IdEnv.clauses l h U (fun x hx => hf x (by simp [hx]))]
theorem IdEnv.term : ∀ (c : Term) {v : Env} (_ : IdEnv v) (U : Used), FineT c → copyT v U c = some (c, U)
  | .mk o t a d k, v, h, U, hf => by
    obtain ⟨hi, hu⟩ := h.inside U (.proc (.mk o t a d k))
    have hpl := (okEs_of a (fun c hc => hf.part (part_args hc))).2
    rw [copyT]
    simp only [h.text, hi.exps a hpl, hu, IdEnv.clauses d hi U (fun c hc => hf.part (part_defs hc)), IdEnv.terms k hi U (fun c hc => hf.part (part_kids hc))]
theorem IdEnv.terms : ∀ (l : List Term) {v : Env} (_ : IdEnv v) (U : Used), (∀ c ∈ l, FineT c) → copyTs v U l = some (l, U)
  | [], v, h, U, _ => rfl
  | a :: l, v, h, U, hf => by
    rw [copyTs, IdEnv.term a h U (hf a (by simp))]
    simp only
    rw [IdEnv.terms l h U (fun x hx => hf x (by simp [hx]))]
end
theorem formed_fineT {t : Term} (h : Formed (.proc t)) : FineT t := formed_fine h
end Go.Proofs.YtjmlaeofjjhfmaaGreat
/- Names that are chosen anew: what they become. -/
namespace Go.Proofs.YtjmlaeofjjhfmaaGreat
open Go.RowKit Go.Shelf Go.Maps

theorem differB_iff {ss : List ByteArray} : differB ss = true ↔ (∀ s ∈ ss, nameB s = true) ∧ (ss.map bytesOf).Nodup := by
  rw [differ_good]; unfold good; rw [List.all_eq_true]
theorem fresh_name {U : Used} {m : Nat} (h : Cov U m) (hm : m ≤ 4900) : nameB (mkB (choose U)) = true := by
  obtain ⟨j, hj, hg⟩ := h.free hm
  obtain ⟨h1, _, h3⟩ := firstFrom_spec U 5000 0 j (by omega) (by omega) hg
  obtain ⟨n, hn⟩ : ∃ n, n = firstFrom U 5000 0 := ⟨_, rfl⟩
  unfold choose
  rw [← hn] at h1 h3 ⊢
  have hlen : (strN n).length ≤ 8 := by
    rcases Nat.lt_or_ge 8 (strN n).length with h | h
    · have := strN_long h; omega
    · exact h
  have hpos : 1 ≤ (strN n).length := by
    rcases Nat.eq_zero_or_pos (strN n).length with h | h
    · exact absurd (List.length_eq_zero_iff.1 h) (strN_ne n)
    · exact h
  have hl := (strN_val n).2
  unfold goodAt at h1
  rw [Bool.and_eq_true] at h1
  have hd : (mkB (strN n)).data.toList = strN n := bytesOf_mkB _
  unfold nameB speltB
  rw [hd, mkB_size]
  have hlow : lowerB (strN n) = true := by
    unfold lowerB
    rw [List.all_eq_true]
    intro c hc
    simpa using hl c hc
  rw [hlow]
  have := h1.1
  unfold notWord at this
  rw [this]
  simp
  omega

/-- The names that are chosen, one after another. -/
def picks : Nat → Used → List ByteArray × Used
  | 0, U => ([], U)
  | n + 1, U => (mkB (choose U) :: (picks n (plusU U (choose U))).1, (picks n (plusU U (choose U))).2)
theorem picks_len : ∀ (n : Nat) (U : Used), (picks n U).1.length = n
  | 0, _ => rfl
  | n + 1, U => by rw [picks, List.length_cons, picks_len n]
theorem picks_ok : ∀ (n : Nat) (U : Used) (m : Nat), Cov U m → m + n ≤ 4900 →
    (∀ c ∈ (picks n U).1, nameB c = true ∧ U (bytesOf c) = false ∧ (picks n U).2 (bytesOf c) = true) ∧ ((picks n U).1.map bytesOf).Nodup ∧ (∀ k, U k = true → (picks n U).2 k = true) ∧ Cov (picks n U).2 (m + n)
  | 0, U, m, hC, _ => ⟨fun c hc => by simp [picks] at hc, by simp [picks], fun _ h => h, hC⟩
  | n + 1, U, m, hC, hm => by
    obtain ⟨h1, h2, h3, h4⟩ := picks_ok n (plusU U (choose U)) (m + 1) (hC.plus _) (by omega)
    rw [picks]
    refine ⟨fun c hc => ?_, ?_, fun k hk => h3 k (by simp [plusU, hk]), by rw [show m + (n + 1) = m + 1 + n from by omega]; exact h4⟩
    · rcases List.mem_cons.1 hc with rfl | hc
      · exact ⟨fresh_name hC (by omega), by rw [bytesOf_mkB]; exact choose_good hC (by omega), h3 _ (by rw [bytesOf_mkB]; simp [plusU])⟩
      · obtain ⟨a1, a2, a3⟩ := h1 c hc
        unfold plusU at a2
        exact ⟨a1, (Bool.or_eq_false_iff.1 a2).1, a3⟩
    · rw [List.map_cons, List.nodup_cons]
      refine ⟨fun hmem => ?_, h2⟩
      obtain ⟨c, hc, he⟩ := List.mem_map.1 hmem
      have := (h1 c hc).2.1
      rw [he, bytesOf_mkB] at this
      simp [plusU] at this
theorem anew_picks : ∀ (B : List ByteArray) (f : Frame) (U : Used), (B.map bytesOf).Nodup →
    (B.foldl anew1 (f, U)).2 = (picks B.length U).2 ∧ (∀ i, (h : i < B.length) → (B.foldl anew1 (f, U)).1 (bytesOf B[i]) = (picks B.length U).1[i]?) ∧ (∀ x, x ∉ B.map bytesOf → (B.foldl anew1 (f, U)).1 x = f x)
  | [], f, U, _ => ⟨rfl, fun i h => by simp at h, fun _ _ => rfl⟩
  | b :: B, f, U, hn => by
    rw [List.map_cons, List.nodup_cons] at hn
    obtain ⟨h1, h2, h3⟩ := anew_picks B (upd f b (mkB (choose U))) (plusU U (choose U)) hn.2
    have e : (b :: B).foldl anew1 (f, U) = B.foldl anew1 (upd f b (mkB (choose U)), plusU U (choose U)) := rfl
    rw [e]
    have ep : picks (b :: B).length U = (mkB (choose U) :: (picks B.length (plusU U (choose U))).1, (picks B.length (plusU U (choose U))).2) := rfl
    refine ⟨by rw [ep]; exact h1, fun i h => ?_, fun x hx => ?_⟩
    · rw [ep]
      cases i with
      | zero => rw [List.getElem_cons_zero, h3 _ hn.1, upd, if_pos (by simp)]; rfl
      | succ i => rw [List.getElem_cons_succ, h2 i (by simpa using h)]; rfl
    · rw [List.map_cons, List.mem_cons, not_or] at hx
      rw [h3 x hx.2, upd, if_neg (by simpa using hx.1)]

/-- What a name becomes where all that is bound is chosen anew. -/
def nm (v : Env) (n : ByteArray) : ByteArray := (lookF n v.frames).getD n
theorem anew_becomes {v : Env} (h : v.base = .anew) (n : ByteArray) : v.becomes n = nameE (nm v n) := by
  rw [becomes_look, h]
  unfold nm
  cases lookF n v.frames with
  | some c => rfl
  | none => rfl
theorem anew_text {v : Env} (h : v.base = .anew) {n : ByteArray} (hn : n.size ≠ 0) : textM v n = some (nm v n) := by
  unfold textM
  rw [if_neg hn, anew_becomes h]
  rfl
theorem text_zero {v : Env} {n : ByteArray} (hn : n.size = 0) : textM v n = some n := by unfold textM; rw [if_pos hn]
/-- The scope within a part, where all that is bound is chosen anew. -/
structure InA (v : Env) (U : Used) (p : Part) (i : Env × Used) : Prop where
  base : i.1.base = .anew
  us : i.2 = (picks (bindsP p).length U).2
  new : (bindsP p).map (nm i.1) = (picks (bindsP p).length U).1
  bound : ∀ n, bndP p (bytesOf n) = true → lookF n i.1.frames = some (nm i.1 n)
  old : ∀ n, bndP p (bytesOf n) = false → lookF n i.1.frames = lookF n v.frames
theorem inside_anew {v : Env} {U : Used} {p : Part} (hb : v.base = .anew) (hn : ((bindsP p).map bytesOf).Nodup) : InA v U p (inside v U p) := by
  unfold inside
  by_cases he : bindsP p = []
  · have hb0 : ∀ k, bndP p k = false := fun k => by unfold bndP; rw [he]; rfl
    rw [if_pos he]
    exact ⟨hb, by rw [he]; rfl, by rw [he]; rfl, fun n h => (by rw [hb0] at h; cases h), fun _ _ => rfl⟩
  · rw [if_neg he]
    have e : v.base.renames v p = bindsP p := by rw [hb]; rfl
    rw [e]
    simp only
    obtain ⟨h1, h2, h3⟩ := anew_picks (bindsP p) ((bindsP p).foldl self1 (fun _ => none)) U hn
    have hlk : ∀ n, lookF n (((bindsP p).foldl anew1 ((bindsP p).foldl self1 (fun _ => none), U)).1 :: v.frames) = match ((bindsP p).foldl anew1 ((bindsP p).foldl self1 (fun _ => none), U)).1 (bytesOf n) with
        | some c => some c
        | none => lookF n v.frames := fun n => rfl
    have hb1 : ∀ j, (h : j < (bindsP p).length) → lookF (bindsP p)[j] (((bindsP p).foldl anew1 ((bindsP p).foldl self1 (fun _ => none), U)).1 :: v.frames) = (picks (bindsP p).length U).1[j]? := fun j h => by
      have hl : j < (picks (bindsP p).length U).1.length := by rw [picks_len]; exact h
      rw [hlk, h2 j h, List.getElem?_eq_getElem hl]
    refine ⟨hb, h1, ?_, fun n hbn => ?_, fun n hbn => ?_⟩
    · refine List.ext_getElem (by rw [List.length_map, picks_len]) (fun j hj1 hj2 => ?_)
      rw [List.length_map] at hj1
      rw [List.getElem_map, nm, hb1 j hj1, List.getElem?_eq_getElem hj2]
      rfl
    · obtain ⟨b, hbm, hbe⟩ := (bndP_iff p _).1 hbn
      obtain rfl := bytes_inj hbe
      obtain ⟨j, hj, rfl⟩ := List.mem_iff_getElem.1 hbm
      have hl : j < (picks (bindsP p).length U).1.length := by rw [picks_len]; exact hj
      unfold nm
      rw [hb1 j hj, List.getElem?_eq_getElem hl]
      rfl
    · have hx : bytesOf n ∉ (bindsP p).map bytesOf := fun hm => by
        obtain ⟨b, hbm, hbe⟩ := List.mem_map.1 hm
        have : bndP p (bytesOf n) = true := (bndP_iff p _).2 ⟨b, hbm, hbe.symm⟩
        rw [hbn] at this; cases this
      rw [hlk, h3 _ hx, self_fold, if_neg hx]
theorem InA.nm_old {v : Env} {U : Used} {p : Part} {i : Env × Used} (h : InA v U p i) {n : ByteArray} (hn : bndP p (bytesOf n) = false) : nm i.1 n = nm v n := by
  unfold nm; rw [h.old n hn]
theorem InA.nm_new {v : Env} {U : Used} {p : Part} {i : Env × Used} (h : InA v U p i) {n : ByteArray} (hn : bndP p (bytesOf n) = true) : nm i.1 n ∈ (picks (bindsP p).length U).1 := by
  rw [← h.new]
  obtain ⟨b, hbm, hbe⟩ := (bndP_iff p _).1 hn
  obtain rfl := bytes_inj hbe
  exact List.mem_map.2 ⟨n, hbm, rfl⟩
/-- What is chosen for different names is different. -/
theorem InA.inj {v : Env} {U : Used} {p : Part} {i : Env × Used} {m : Nat} (h : InA v U p i) (hC : Cov U m) (hm : m + (bindsP p).length ≤ 4900) : ∀ a ∈ bindsP p, ∀ b ∈ bindsP p, nm i.1 a = nm i.1 b → a = b := by
  intro a ha b hb he
  obtain ⟨j, hj, rfl⟩ := List.mem_iff_getElem.1 ha
  obtain ⟨k, hk, rfl⟩ := List.mem_iff_getElem.1 hb
  have hnd := (picks_ok _ U m hC hm).2.1
  rw [← h.new] at hnd
  have hnd2 : ((bindsP p).map (nm i.1)).Nodup := (List.pairwise_map.1 hnd).imp (fun hne e => hne (congrArg bytesOf e))
  have hpw := List.pairwise_iff_getElem.1 hnd2
  have hlt : ∀ a b, (ha : a < (bindsP p).length) → (hb : b < (bindsP p).length) → a < b → nm i.1 (bindsP p)[a] ≠ nm i.1 (bindsP p)[b] := fun a b ha hb hab => by
    have := hpw a b (by rw [List.length_map]; exact ha) (by rw [List.length_map]; exact hb) hab
    rw [List.getElem_map, List.getElem_map] at this
    exact this
  rcases Nat.lt_trichotomy j k with h1 | h1 | h1
  · exact absurd he (hlt j k hj hk h1)
  · subst h1; rfl
  · exact absurd he.symm (hlt k j hk hj h1)
end Go.Proofs.YtjmlaeofjjhfmaaGreat
