/- Processes that are copied as they are; parts of formed processes. -/
import Derived.Test.YtjmlaeofjjhfmaaGreatP42
set_option linter.unusedVariables false
set_option linter.unusedSimpArgs false
namespace Go.Proofs.YtjmlaeofjjhfmaaGreat
open Go.RowKit Go.Shelf Go.Maps

mutual
theorem upE (lev : Nat) : ∀ e : Exp, nodesE (lev + 1) e = (nodesE lev e).map (fun y => (y.1, y.2 + 1))
  | .mk o n t k => by rw [nodesE, nodesE, List.map_cons, upEs (lev + 1) k]
theorem upEs (lev : Nat) : ∀ l : List Exp, nodesEs (lev + 1) l = (nodesEs lev l).map (fun y => (y.1, y.2 + 1))
  | [] => rfl
  | a :: l => by rw [nodesEs, nodesEs, List.map_append, upE lev a, upEs lev l]
end
mutual
theorem upC (lev : Nat) : ∀ e : Clause, nodesC (lev + 1) e = (nodesC lev e).map (fun y => (y.1, y.2 + 1))
  | .mk f t j d k => by rw [nodesC, nodesC, List.map_cons, List.map_append, upCs (lev + 1) d, upTs (lev + 1) k]
theorem upCs (lev : Nat) : ∀ l : List Clause, nodesCs (lev + 1) l = (nodesCs lev l).map (fun y => (y.1, y.2 + 1))
  | [] => rfl
  | a :: l => by rw [nodesCs, nodesCs, List.map_append, upC lev a, upCs lev l]
theorem upT (lev : Nat) : ∀ e : Term, nodesT (lev + 1) e = (nodesT lev e).map (fun y => (y.1, y.2 + 1))
  | .mk o t a d k => by rw [nodesT, nodesT, List.map_cons, List.map_append, List.map_append, upEs (lev + 1) a, upCs (lev + 1) d, upTs (lev + 1) k]
theorem upTs (lev : Nat) : ∀ l : List Term, nodesTs (lev + 1) l = (nodesTs lev l).map (fun y => (y.1, y.2 + 1))
  | [] => rfl
  | a :: l => by rw [nodesTs, nodesTs, List.map_append, upT lev a, upTs lev l]
end
theorem up_nodes (lev : Nat) (p : Part) : nodesOf (lev + 1) p = (nodesOf lev p).map (fun y => (y.1, y.2 + 1)) := by
  cases p with
  | proc t => exact upT lev t
  | exp t => exact upE lev t
  | def_ t => exact upC lev t

/-- Scopes in which every name stays as it is. -/
structure IdEnv (v : Env) : Prop where
  base : v.base = .outside
  frames : ∀ f ∈ v.frames, ∀ x n, f x = some n → n = mkB x
theorem IdEnv.becomes {v : Env} (h : IdEnv v) (x : ByteArray) : v.becomes x = nameE x := by
  unfold Env.becomes
  rw [h.base]
  have : ∀ fs : List Frame, (∀ f ∈ fs, ∀ x n, f x = some n → n = mkB x) → becomesF .outside x fs = nameE x := by
    intro fs
    induction fs with
    | nil => intro _; rfl
    | cons f fs ih =>
      intro hf
      rw [becomesF]
      cases hx : f (bytesOf x) with
      | some n => rw [hf f (by simp) _ _ hx, mkB_self]
      | none => exact ih (fun g hg => hf g (by simp [hg]))
  exact this _ h.frames
theorem IdEnv.text {v : Env} (h : IdEnv v) (x : ByteArray) : textM v x = some x := by
  unfold textM
  split
  · rfl
  · rw [h.becomes]; rfl
theorem IdEnv.texts {v : Env} (h : IdEnv v) : ∀ l, textsM v l = some l
  | [] => rfl
  | a :: l => by rw [textsM, h.text, h.texts l]
theorem IdEnv.msgs {v i : Env} (h : IdEnv v) (hi : IdEnv i) : ∀ l, msgsM v i l = some l
  | [] => rfl
  | a :: l => by rw [msgsM, msgM, h.text, hi.texts, IdEnv.msgs h hi l]
theorem IdEnv.inside {v : Env} (h : IdEnv v) (U : Used) (p : Part) : IdEnv (inside v U p).1 ∧ (inside v U p).2 = U := by
  unfold Go.Proofs.YtjmlaeofjjhfmaaGreat.inside
  split
  · exact ⟨h, rfl⟩
  · have e : v.base.renames v p = [] := by rw [h.base]; rfl
    rw [e]
    simp only [List.foldl_nil]
    refine ⟨⟨h.base, fun f hf x n hn => ?_⟩, trivial⟩
    rcases List.mem_cons.1 hf with rfl | hf
    · rw [self_fold] at hn
      split at hn
      · cases hn; rfl
      · cases hn
    · exact h.frames f hf x n hn
mutual
theorem IdEnv.exp {v : Env} (h : IdEnv v) : ∀ e, plainE e = true → copyE v e = e
  | .mk op n t k, hp => by
    rw [plainE, Bool.and_eq_true] at hp
    rw [copyE]
    by_cases ho : op = 2
    · subst ho
      have hp1 := hp.1
      simp at hp1
      rw [if_pos rfl, h.becomes, nameE, hp1.1, hp1.2]
    · rw [if_neg ho, IdEnv.exps h k hp.2]
theorem IdEnv.exps {v : Env} (h : IdEnv v) : ∀ l, plainEs l = true → copyEs v l = l
  | [], _ => rfl
  | a :: l, hp => by
    rw [plainEs, Bool.and_eq_true] at hp
    rw [copyEs, IdEnv.exp h a hp.1, IdEnv.exps h l hp.2]
end
mutual
theorem IdEnv.clause : ∀ (c : Clause) {v : Env} (_ : IdEnv v) (U : Used), FineC c → copyC v U c = some (c, U)
  | .mk f t j d k, v, h, U, hf => by
    obtain ⟨hi, hu⟩ := h.inside U (.def_ (.mk f t j d k))
    rw [copyC]
    simp only [h.text, h.msgs hi, hu, IdEnv.clauses d hi U (fun c hc => hf.part (partC_defs hc)), IdEnv.terms k hi U (fun c hc => hf.part (partC_kids hc))]
theorem IdEnv.clauses : ∀ (l : List Clause) {v : Env} (_ : IdEnv v) (U : Used), (∀ c ∈ l, FineC c) → copyCs v U l = some (l, U)
  | [], v, h, U, _ => rfl
  | a :: l, v, h, U, hf => by
    rw [copyCs, IdEnv.clause a h U (hf a (by simp))]
    simp only
    rw [IdEnv.clauses l h U (fun x hx => hf x (by simp [hx]))]
theorem IdEnv.term : ∀ (c : Term) {v : Env} (_ : IdEnv v) (U : Used), FineT c → copyT v U c = some (c, U)
  | .mk o t a d k, v, h, U, hf => by
    obtain ⟨hi, hu⟩ := h.inside U (.proc (.mk o t a d k))
    have hpl := (okEs_of a (fun c hc => hf.part (part_args hc))).2
    rw [copyT]
    simp only [h.text, hi.exps a hpl, hu, IdEnv.clauses d hi U (fun c hc => hf.part (part_defs hc)), IdEnv.terms k hi U (fun c hc => hf.part (part_kids hc))]
theorem IdEnv.terms : ∀ (l : List Term) {v : Env} (_ : IdEnv v) (U : Used), (∀ c ∈ l, FineT c) → copyTs v U l = some (l, U)
  | [], v, h, U, _ => rfl
  | a :: l, v, h, U, hf => by
    rw [copyTs, IdEnv.term a h U (hf a (by simp))]
    simp only
    rw [IdEnv.terms l h U (fun x hx => hf x (by simp [hx]))]
end
/-- A process that is copied as it is. -/
theorem copy_same (t : Term) (U : Used) (h : FineT t) : copyT ⟨.outside, [frame0]⟩ U t = some (t, U) :=
  IdEnv.term t ⟨rfl, fun f hf x n hn => by rw [List.mem_singleton.1 hf] at hn; cases hn⟩ U h

theorem formed_part {p q : Part} (h : Formed p) (hq : q ∈ p.parts) : Formed q := by
  have hz := size_lt hq
  refine ⟨by have := h.1; omega, fun x hx => ?_⟩
  have hx2 : (x.1, x.2 + 1) ∈ nodesOf 1 p := by
    rw [nodesOf_eq]
    refine List.mem_cons_of_mem _ (mem_nodesL hq ?_)
    rw [up_nodes]
    exact List.mem_map.2 ⟨x, hx, rfl⟩
  obtain ⟨h1, h2, h3⟩ := h.2 _ hx2
  exact ⟨h1, by simp only at h2; omega, h3⟩
mutual
theorem formed_split : ∀ t : Term, Formed (.proc t) → ∀ a ∈ splitT t, Formed (.proc a)
  | .mk op t a d k, h, x, hx => by
    rw [splitT] at hx
    by_cases h1 : op = 1
    · rw [if_pos h1] at hx; simp at hx
    · rw [if_neg h1] at hx
      by_cases h3 : op = 3
      · rw [if_pos h3] at hx; exact formed_splits k (fun c hc => formed_part h (part_kids hc)) x hx
      · rw [if_neg h3] at hx
        rw [List.mem_singleton.1 hx]
        exact h
theorem formed_splits : ∀ l : List Term, (∀ c ∈ l, Formed (.proc c)) → ∀ a ∈ splitTs l, Formed (.proc a)
  | [], _, x, hx => by simp [splitTs] at hx
  | t :: l, h, x, hx => by
    rw [splitTs] at hx
    rcases List.mem_append.1 hx with hx | hx
    · exact formed_split t (h t (by simp)) x hx
    · exact formed_splits l (fun c hc => h c (by simp [hc])) x hx
end
theorem formed_fineT {t : Term} (h : Formed (.proc t)) : FineT t := formed_fine h
/-- The parts of a process that can be laid out can be laid out, too. -/
theorem formed_lays {t : Term} (h : Formed (.proc t)) (hl : Formed (.proc (layT t))) : ∀ a ∈ splitT t, Formed (.proc a) ∧ Formed (.proc (layT a)) := fun a ha =>
  ⟨formed_split t h a ha, formed_split (layT t) hl (layT a) (by rw [split_lay _ t (Nat.le_refl _) (formed_fineT h)]; exact List.mem_map.2 ⟨a, ha, rfl⟩)⟩
end Go.Proofs.YtjmlaeofjjhfmaaGreat
