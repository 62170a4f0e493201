/- Processes that are laid out. -/
import Derived.Test.YtjmlaeofjjhfmaaGreatP33
import Derived.Test.YtjmlaeofjjhfmaaGreatP25
set_option linter.unusedVariables false
set_option linter.unusedSimpArgs false
namespace Go.Proofs.YtjmlaeofjjhfmaaGreat
open Go.RowKit Go.Shelf Go.Maps
/-- Processes beside each other. -/
def joinT : List Term → Term
  | [] => .mk 1 ByteArray.empty [] [] []
  | [t] => t
  | t :: u :: l => .mk 3 ByteArray.empty [] [] [t, joinT (u :: l)]
mutual
/-- A process laid out. -/
def layT : Term → Term
  | .mk op t a d k => joinT (splitT (.mk op t a (layCs d) (layTs k)))
def layC : Clause → Clause
  | .mk f t j d k => .mk f t j (layCs d) (layTs k)
def layTs : List Term → List Term
  | [] => []
  | a :: l => layT a :: layTs l
def layCs : List Clause → List Clause
  | [] => []
  | a :: l => layC a :: layCs l
end
theorem layTs_map : ∀ l, layTs l = l.map layT
  | [] => rfl
  | a :: l => by rw [layTs, layTs_map l]; rfl
theorem layCs_map : ∀ l, layCs l = l.map layC
  | [] => rfl
  | a :: l => by rw [layCs, layCs_map l]; rfl
def kindT : Term → Int | .mk op _ _ _ _ => op
/-- Neither nothing nor two processes. -/
def Solid (t : Term) : Prop := kindT t ≠ 1 ∧ kindT t ≠ 3
theorem split_solid {t : Term} (h : Solid t) : splitT t = [t] := by
  obtain ⟨op, tx, a, d, k⟩ := t
  rw [splitT, if_neg (show ¬ op = 1 from h.1), if_neg (show ¬ op = 3 from h.2)]
mutual
theorem split_all : ∀ (t : Term), ∀ a ∈ splitT t, Solid a
  | .mk op t a d k, x, hx => by
    rw [splitT] at hx
    by_cases h1 : op = 1
    · rw [if_pos h1] at hx; simp at hx
    · rw [if_neg h1] at hx
      by_cases h3 : op = 3
      · rw [if_pos h3] at hx; exact splits_all k x hx
      · rw [if_neg h3] at hx
        rw [List.mem_singleton.1 hx]
        exact ⟨h1, h3⟩
theorem splits_all : ∀ (l : List Term), ∀ a ∈ splitTs l, Solid a
  | [], x, hx => by simp [splitTs] at hx
  | t :: l, x, hx => by
    rw [splitTs] at hx
    rcases List.mem_append.1 hx with hx | hx
    · exact split_all t x hx
    · exact splits_all l x hx
end
theorem split_join : ∀ l : List Term, (∀ a ∈ l, Solid a) → splitT (joinT l) = l
  | [], _ => rfl
  | [t], h => split_solid (h t (by simp))
  | t :: u :: l, h => by
    rw [joinT, splitT, if_neg (by decide), if_pos rfl, splitTs, splitTs, splitTs, List.append_nil, split_solid (h t (by simp)), split_join (u :: l) (fun a ha => h a (by simp at ha ⊢; exact .inr ha))]
    rfl
abbrev FineT (t : Term) : Prop := NdP (fun q => q.shaped = true) (.proc t)
abbrev FineC (c : Clause) : Prop := NdP (fun q => q.shaped = true) (.def_ c)
/-- What a formed process is, by its kind. -/
theorem fine_cases {op : Int} {t : ByteArray} {a : List Exp} {d : List Clause} {k : List Term} (h : FineT (.mk op t a d k)) :
    (op = 1 ∧ t = ByteArray.empty ∧ a = [] ∧ d = [] ∧ k = []) ∨ (op = 3 ∧ t = ByteArray.empty ∧ a = [] ∧ d = [] ∧ ∃ k1 k2, k = [k1, k2] ∧ FineT k1 ∧ FineT k2) ∨ (op ≠ 1 ∧ op ≠ 3) := by
  have h1 := h.self
  by_cases ho : op = 1
  · subst ho
    simp [Part.shaped, shapedTB] at h1
    exact .inl ⟨rfl, by first | exact h1.1.1.1 | exact empty_of_size h1.1.1.1, h1.1.1.2, h1.1.2, h1.2⟩
  · by_cases h3 : op = 3
    · subst h3
      simp [Part.shaped, shapedTB] at h1
      obtain ⟨⟨⟨a1, a2⟩, a3⟩, a4⟩ := h1
      match k, a4 with
      | [x, y], _ => exact .inr (.inl ⟨rfl, by first | exact a1 | exact empty_of_size a1, a2, a3, x, y, rfl, h.part (part_kids (by simp)), h.part (part_kids (by simp))⟩)
    · exact .inr (.inr ⟨ho, h3⟩)
theorem lay_solid {op : Int} {t : ByteArray} {a : List Exp} {d : List Clause} {k : List Term} (h1 : op ≠ 1) (h3 : op ≠ 3) : layT (.mk op t a d k) = .mk op t a (layCs d) (layTs k) := by
  rw [layT, splitT, if_neg h1, if_neg h3, joinT]
theorem lay_par (k1 k2 : Term) : layT (.mk 3 ByteArray.empty [] [] [k1, k2]) = joinT (splitT (layT k1) ++ splitT (layT k2)) := by
  rw [layT, splitT, if_neg (by decide), if_pos rfl, layTs, layTs, layTs, splitTs, splitTs, splitTs, List.append_nil]
theorem solids {A B : List Term} (hA : ∀ a ∈ A, Solid a) (hB : ∀ a ∈ B, Solid a) : ∀ a ∈ A ++ B, Solid a := fun a ha => (List.mem_append.1 ha).elim (hA a) (hB a)
/-- The parts of what is laid out are the parts, laid out. -/
theorem split_lay : ∀ (s : Nat) (t : Term), (Part.proc t).size ≤ s → FineT t → splitT (layT t) = (splitT t).map layT := by
  intro s
  induction s with
  | zero => intro t ht; have := size_pos (.proc t); omega
  | succ s ih =>
    intro t ht hf
    obtain ⟨op, tx, a, d, k⟩ := t
    rcases fine_cases hf with ⟨rfl, rfl, rfl, rfl, rfl⟩ | ⟨rfl, rfl, rfl, rfl, k1, k2, rfl, h1, h2⟩ | ⟨h1, h3⟩
    · rfl
    · have z1 := size_lt (p := .proc (.mk 3 ByteArray.empty [] [] [k1, k2])) (q := .proc k1) (part_kids (by simp))
      have z2 := size_lt (p := .proc (.mk 3 ByteArray.empty [] [] [k1, k2])) (q := .proc k2) (part_kids (by simp))
      rw [lay_par, split_join _ (solids (split_all _) (split_all _)), ih k1 (by omega) h1, ih k2 (by omega) h2]
      have : splitT (.mk 3 ByteArray.empty [] [] [k1, k2]) = splitT k1 ++ splitT k2 := by
        rw [splitT, if_neg (by decide), if_pos rfl, splitTs, splitTs, splitTs, List.append_nil]
      rw [this, List.map_append]
    · rw [lay_solid h1 h3, split_solid (show Solid (.mk op tx a (layCs d) (layTs k)) from ⟨h1, h3⟩), split_solid (show Solid (.mk op tx a d k) from ⟨h1, h3⟩), List.map_cons, List.map_nil, lay_solid h1 h3]
mutual
/-- What is laid out stays as it is. -/
theorem layC_twice : ∀ c : Clause, FineC c → layC (layC c) = layC c
  | .mk f t j d k, h => by
    rw [layC, layC, layCs_twice d (fun c hc => h.part (partC_defs hc)), layTs_twice k (fun c hc => h.part (partC_kids hc))]
theorem layCs_twice : ∀ l : List Clause, (∀ c ∈ l, FineC c) → layCs (layCs l) = layCs l
  | [], _ => by rw [layCs, layCs]
  | a :: l, h => by
    rw [layCs, layCs, layC_twice a (h a (by simp)), layCs_twice l (fun x hx => h x (by simp [hx]))]
theorem layT_twice : ∀ t : Term, FineT t → layT (layT t) = layT t ∧ (∀ a ∈ splitT (layT t), layT a = a)
  | .mk op t a d k, h => by
    have hjoin : ∀ L : List Term, (∀ a ∈ L, Solid a) → (∀ a ∈ L, layT a = a) → layT (joinT L) = joinT L := by
      intro L
      induction L with
      | nil => intro _ _; rfl
      | cons x L ih =>
        intro hs hl
        cases L with
        | nil => rw [joinT]; exact hl x (by simp)
        | cons y L =>
          have hs' : ∀ a ∈ y :: L, Solid a := fun a ha => hs a (by simp at ha ⊢; exact .inr ha)
          have i1 := ih hs' (fun a ha => hl a (by simp at ha ⊢; exact .inr ha))
          rw [joinT, lay_par, i1, hl x (by simp), split_solid (hs x (by simp)), split_join _ hs']
          rw [List.singleton_append, joinT]
    rcases fine_cases h with ⟨rfl, rfl, rfl, rfl, rfl⟩ | ⟨rfl, rfl, rfl, rfl, k1, k2, rfl, h1, h2⟩ | ⟨h1, h3⟩
    · exact ⟨rfl, fun a ha => by simp [layT, layTs, layCs, splitT, joinT] at ha⟩
    · have i1 := (layT_twice k1 h1).2
      have i2 := (layT_twice k2 h2).2
      have hsol := solids (split_all (layT k1)) (split_all (layT k2))
      have hal : ∀ a ∈ splitT (layT k1) ++ splitT (layT k2), layT a = a := fun a ha => (List.mem_append.1 ha).elim (i1 a) (i2 a)
      rw [lay_par]
      exact ⟨hjoin _ hsol hal, by rw [split_join _ hsol]; exact hal⟩
    · have e := layCs_twice d (fun c hc => h.part (part_defs hc))
      have e2 := layTs_twice k (fun c hc => h.part (part_kids hc))
      have e3 : layT (layT (.mk op t a d k)) = layT (.mk op t a d k) := by rw [lay_solid h1 h3, lay_solid h1 h3, e, e2]
      refine ⟨e3, fun x hx => ?_⟩
      have e4 : splitT (layT (.mk op t a d k)) = [layT (.mk op t a d k)] := by rw [lay_solid h1 h3]; exact split_solid ⟨h1, h3⟩
      rw [e4] at hx
      rw [List.mem_singleton.1 hx]; exact e3
theorem layTs_twice : ∀ l : List Term, (∀ c ∈ l, FineT c) → layTs (layTs l) = layTs l
  | [], _ => by rw [layTs, layTs]
  | a :: l, h => by
    rw [layTs, layTs, (layT_twice a (h a (by simp))).1, layTs_twice l (fun x hx => h x (by simp [hx]))]
end
theorem gtexts_cons (c : Clause) (cs : List Clause) : gtexts (c :: cs) = c.joins.map (·.text) ++ gtexts cs := by unfold gtexts; rw [List.flatMap_cons]
mutual
/-- Laying out leaves what is bound. -/
theorem layC_tx : ∀ c : Clause, (layC c).joins = c.joins ∧ alltexts (groupsC (layC c)) = alltexts (groupsC c) ∧ placesC (layC c) = placesC c
  | .mk f t j d k => by
    obtain ⟨h1, h2, h3⟩ := layCs_tx d
    rw [layC]
    refine ⟨rfl, ?_, ?_⟩
    · rw [groupsC, groupsC]
      split
      · have e1 := alltexts_L (layCs d)
        have e2 := alltexts_L d
        unfold groupsL at e1 e2
        rw [e1, e2, h1, h2]
      · rfl
    · rw [placesC, placesC, h3]
theorem layCs_tx : ∀ l : List Clause, gtexts (layCs l) = gtexts l ∧ alltexts (groupsI (layCs l)) = alltexts (groupsI l) ∧ placesL (layCs l) = placesL l
  | [] => by rw [layCs]; exact ⟨rfl, rfl, rfl⟩
  | a :: l => by
    obtain ⟨h1, h2, h3⟩ := layCs_tx l
    obtain ⟨g1, g2, g3⟩ := layC_tx a
    rw [layCs]
    exact ⟨by rw [gtexts_cons, gtexts_cons, h1, g1], by rw [groupsI, groupsI, alltexts_append, alltexts_append, h2, g2], by rw [placesL, placesL, h3, g3]⟩
end
theorem lay_binds (op : Int) (t : ByteArray) (a : List Exp) (d : List Clause) (k k' : List Term) : bindsP (.proc (.mk op t a (layCs d) k')) = bindsP (.proc (.mk op t a d k)) := by
  have e : ∀ d k, bindsP (.proc (.mk op t a d k)) = if op = 4 then channelsL d ++ placesL d else [] := fun _ _ => rfl
  obtain ⟨h1, h2, h3⟩ := layCs_tx d
  rw [e, e, h3]
  unfold channelsL
  rw [alltexts_L, alltexts_L, h1, h2]
theorem fT_nil (k : List UInt8) : fT (.mk 1 ByteArray.empty [] [] []) k = false := by
  rw [fT, fEs, fCs, fTs]; rfl
theorem fT_par (k1 k2 : Term) (k : List UInt8) : fT (.mk 3 ByteArray.empty [] [] [k1, k2]) k = (fT k1 k || fT k2 k) := by
  rw [fT, fEs, fCs, fTs, fTs, fTs]
  have e1 : bndP (.proc (.mk 3 ByteArray.empty [] [] [k1, k2])) k = false := rfl
  have e2 : isT ByteArray.empty k = false := rfl
  rw [e1, e2]; simp
theorem fT_join (k : List UInt8) : ∀ l : List Term, fT (joinT l) k = l.any (fun a => fT a k)
  | [] => fT_nil k
  | [t] => by simp [joinT]
  | t :: u :: l => by rw [joinT, fT_par, fT_join k (u :: l)]; rfl
mutual
/-- Laying out leaves the free names. -/
theorem layT_free (k : List UInt8) : ∀ t : Term, FineT t → fT (layT t) k = fT t k ∧ (splitT (layT t)).any (fun a => fT a k) = fT t k
  | .mk op t a d ks, h => by
    rcases fine_cases h with ⟨rfl, rfl, rfl, rfl, rfl⟩ | ⟨rfl, rfl, rfl, rfl, k1, k2, rfl, h1, h2⟩ | ⟨h1, h3⟩
    · have e : layT (.mk 1 ByteArray.empty [] [] []) = .mk 1 ByteArray.empty [] [] [] := rfl
      rw [e, fT_nil]
      exact ⟨rfl, rfl⟩
    · have i1 := (layT_free k k1 h1).2
      have i2 := (layT_free k k2 h2).2
      rw [lay_par, fT_join, fT_par, split_join _ (solids (split_all _) (split_all _)), List.any_append, i1, i2]
      exact ⟨rfl, rfl⟩
    · have e : fT (layT (.mk op t a d ks)) k = fT (.mk op t a d ks) k := by
        rw [lay_solid h1 h3, fT, fT, layCs_free k d (fun c hc => h.part (part_defs hc)), layTs_free k ks (fun c hc => h.part (part_kids hc))]
        unfold bndP
        rw [lay_binds op t a d ks]
      refine ⟨e, ?_⟩
      have e4 : splitT (layT (.mk op t a d ks)) = [layT (.mk op t a d ks)] := by rw [lay_solid h1 h3]; exact split_solid ⟨h1, h3⟩
      rw [e4]
      simp [e]
theorem layTs_free (k : List UInt8) : ∀ l : List Term, (∀ c ∈ l, FineT c) → fTs (layTs l) k = fTs l k
  | [], _ => by rw [layTs]
  | a :: l, h => by
    rw [layTs, fTs, fTs, (layT_free k a (h a (by simp))).1, layTs_free k l (fun x hx => h x (by simp [hx]))]
theorem layC_free (k : List UInt8) : ∀ t : Clause, FineC t → fC (layC t) k = fC t k
  | .mk f t j d ks, h => by
    rw [layC, fC, fC, layCs_free k d (fun c hc => h.part (partC_defs hc)), layTs_free k ks (fun c hc => h.part (partC_kids hc))]
    rfl
theorem layCs_free (k : List UInt8) : ∀ l : List Clause, (∀ c ∈ l, FineC c) → fCs (layCs l) k = fCs l k
  | [], _ => by rw [layCs]
  | a :: l, h => by
    rw [layCs, fCs, fCs, layC_free k a (h a (by simp)), layCs_free k l (fun x hx => h x (by simp [hx]))]
end
def szT (t : Term) : Nat := (nodesT 0 t).length
theorem szT_lev (lev : Nat) (t : Term) : (nodesT lev t).length = szT t := nodesOf_len lev 0 (.proc t)
def szC (t : Clause) : Nat := (nodesC 0 t).length
theorem szC_lev (lev : Nat) (t : Clause) : (nodesC lev t).length = szC t := nodesOf_len lev 0 (.def_ t)
def szTs : List Term → Nat
  | [] => 0
  | a :: l => szT a + szTs l
def szCs : List Clause → Nat
  | [] => 0
  | a :: l => szC a + szCs l
theorem szTs_lev (lev : Nat) : ∀ l, (nodesTs lev l).length = szTs l
  | [] => rfl
  | a :: l => by rw [nodesTs, List.length_append, szT_lev, szTs_lev lev l, szTs]
theorem szCs_lev (lev : Nat) : ∀ l, (nodesCs lev l).length = szCs l
  | [] => rfl
  | a :: l => by rw [nodesCs, List.length_append, szC_lev, szCs_lev lev l, szCs]
theorem szTs_append : ∀ a b, szTs (a ++ b) = szTs a + szTs b
  | [], b => by simp [szTs]
  | x :: a, b => by rw [List.cons_append, szTs, szTs, szTs_append a b]; omega
theorem szT_eq (o : Int) (t : ByteArray) (a : List Exp) (d : List Clause) (k : List Term) : szT (.mk o t a d k) = 1 + (nodesEs 1 a).length + szCs d + szTs k := by
  rw [szT, nodesT, List.length_cons, List.length_append, List.length_append, szCs_lev, szTs_lev]
  simp only [Nat.zero_add]
  omega
theorem szC_eq (f : Int) (t : ByteArray) (j : List Msg) (d : List Clause) (k : List Term) : szC (.mk f t j d k) = 1 + szCs d + szTs k := by
  rw [szC, nodesC, List.length_cons, List.length_append, szCs_lev, szTs_lev]; omega
theorem szT_join : ∀ l : List Term, szT (joinT l) + 1 ≤ szTs l + l.length ∨ (l = [] ∧ szT (joinT l) = 1)
  | [] => .inr ⟨rfl, rfl⟩
  | [t] => .inl (by rw [joinT, szTs, szTs]; simp)
  | t :: u :: l => .inl (by
    rw [joinT, szT_eq]
    rcases szT_join (u :: l) with h | h
    · simp only [szTs, szCs, nodesEs, List.length_cons, List.length_nil] at h ⊢; omega
    · cases h.1)
mutual
/-- Laying out makes no more nodes. -/
theorem layT_size : ∀ t : Term, FineT t → szT (layT t) ≤ szT t ∧ szTs (splitT (layT t)) + (splitT (layT t)).length ≤ szT t + 1
  | .mk op t a d ks, h => by
    rcases fine_cases h with ⟨rfl, rfl, rfl, rfl, rfl⟩ | ⟨rfl, rfl, rfl, rfl, k1, k2, rfl, h1, h2⟩ | ⟨h1, h3⟩
    · have e : layT (.mk 1 ByteArray.empty [] [] []) = .mk 1 ByteArray.empty [] [] [] := rfl
      rw [e]
      exact ⟨Nat.le_refl _, by simp [splitT, szTs]⟩
    · have i1 := (layT_size k1 h1).2
      have i2 := (layT_size k2 h2).2
      have e : szT (.mk 3 ByteArray.empty [] [] [k1, k2]) = 1 + szT k1 + szT k2 := by
        rw [szT_eq, szTs, szTs, szTs, szCs, nodesEs]; simp; omega
      have hj := szT_join (splitT (layT k1) ++ splitT (layT k2))
      rw [lay_par, split_join _ (solids (split_all _) (split_all _)), e]
      rw [szTs_append, List.length_append] at hj
      rw [szTs_append, List.length_append]
      refine ⟨?_, by omega⟩
      rcases hj with hj | ⟨_, hj⟩
      · omega
      · rw [hj]; omega
    · have e : szT (layT (.mk op t a d ks)) ≤ szT (.mk op t a d ks) := by
        have c1 := layCs_size d (fun c hc => h.part (part_defs hc))
        have c2 := layTs_size ks (fun c hc => h.part (part_kids hc))
        rw [lay_solid h1 h3, szT_eq, szT_eq]; omega
      refine ⟨e, ?_⟩
      have e4 : splitT (layT (.mk op t a d ks)) = [layT (.mk op t a d ks)] := by rw [lay_solid h1 h3]; exact split_solid ⟨h1, h3⟩
      rw [e4, szTs, szTs]
      simp only [List.length_cons, List.length_nil]
      omega
theorem layTs_size : ∀ l : List Term, (∀ c ∈ l, FineT c) → szTs (layTs l) ≤ szTs l
  | [], _ => by rw [layTs]; exact Nat.le_refl _
  | a :: l, h => by
    have h1 := (layT_size a (h a (by simp))).1
    have h2 := layTs_size l (fun x hx => h x (by simp [hx]))
    rw [layTs, szTs, szTs]; omega
theorem layC_size : ∀ t : Clause, FineC t → szC (layC t) ≤ szC t
  | .mk f t j d ks, h => by
    have c1 := layCs_size d (fun c hc => h.part (partC_defs hc))
    have c2 := layTs_size ks (fun c hc => h.part (partC_kids hc))
    rw [layC, szC_eq, szC_eq]; omega
theorem layCs_size : ∀ l : List Clause, (∀ c ∈ l, FineC c) → szCs (layCs l) ≤ szCs l
  | [], _ => by rw [layCs]; exact Nat.le_refl _
  | a :: l, h => by
    have h1 := layC_size a (h a (by simp))
    have h2 := layCs_size l (fun x hx => h x (by simp [hx]))
    rw [layCs, szCs, szCs]; omega
end
theorem NdP.of_parts {P : Part → Prop} {p : Part} (h : P p) (hq : ∀ q ∈ p.parts, NdP P q) : NdP P p := by
  intro x hx
  rw [nodesOf_eq, List.map_cons] at hx
  rcases List.mem_cons.1 hx with rfl | hx
  · exact h
  · obtain ⟨y, hy, rfl⟩ := List.mem_map.1 hx
    obtain ⟨q, hq1, hq2⟩ := List.mem_flatMap.1 hy
    refine hq q hq1 y.1 ?_
    rw [nodesOf_fst 0 (0 + 1)]
    exact List.mem_map.2 ⟨y, hq2, rfl⟩
theorem fine_nil : FineT (.mk 1 ByteArray.empty [] [] []) := NdP.of_parts rfl (fun q hq => by simp [Part.parts] at hq)
theorem fine_par {k1 k2 : Term} (h1 : FineT k1) (h2 : FineT k2) : FineT (.mk 3 ByteArray.empty [] [] [k1, k2]) :=
  NdP.of_parts rfl (fun q hq => by
    simp [Part.parts] at hq
    rcases hq with rfl | rfl
    · exact h1
    · exact h2)
theorem fine_join : ∀ l : List Term, (∀ a ∈ l, FineT a) → FineT (joinT l)
  | [], _ => fine_nil
  | [t], h => h t (by simp)
  | t :: u :: l, h => fine_par (h t (by simp)) (fine_join (u :: l) (fun a ha => h a (by simp at ha ⊢; exact .inr ha)))
mutual
theorem fine_split : ∀ t : Term, FineT t → ∀ a ∈ splitT t, FineT a
  | .mk op t a d k, h, x, hx => by
    rw [splitT] at hx
    by_cases h1 : op = 1
    · rw [if_pos h1] at hx; simp at hx
    · rw [if_neg h1] at hx
      by_cases h3 : op = 3
      · rw [if_pos h3] at hx; exact fine_splits k (fun c hc => h.part (part_kids hc)) x hx
      · rw [if_neg h3] at hx
        rw [List.mem_singleton.1 hx]
        exact h
theorem fine_splits : ∀ l : List Term, (∀ c ∈ l, FineT c) → ∀ a ∈ splitTs l, FineT a
  | [], _, x, hx => by simp [splitTs] at hx
  | t :: l, h, x, hx => by
    rw [splitTs] at hx
    rcases List.mem_append.1 hx with hx | hx
    · exact fine_split t (h t (by simp)) x hx
    · exact fine_splits l (fun c hc => h c (by simp [hc])) x hx
end
theorem lay_shaped {op : Int} {t : ByteArray} {a : List Exp} {d : List Clause} {k : List Term} (h : (Part.proc (.mk op t a d k)).shaped = true) : (Part.proc (.mk op t a (layCs d) (layTs k))).shaped = true := by
  rw [layCs_map, layTs_map]
  simpa [Part.shaped, shapedTB] using h
theorem layC_shaped {f : Int} {t : ByteArray} {j : List Msg} {d : List Clause} {k : List Term} (h : (Part.def_ (.mk f t j d k)).shaped = true) : (Part.def_ (.mk f t j (layCs d) (layTs k))).shaped = true := by
  rw [layCs_map, layTs_map]
  simpa [Part.shaped, shapedCB] using h
mutual
theorem fine_layT : ∀ t : Term, FineT t → FineT (layT t)
  | .mk op t a d k, h => by
    rw [layT]
    exact fine_join _ (fine_split _ (fine_half op t a d k h (fine_layCs d (fun c hc => h.part (part_defs hc))) (fine_layTs k (fun c hc => h.part (part_kids hc)))))
theorem fine_layTs : ∀ l : List Term, (∀ c ∈ l, FineT c) → ∀ c ∈ layTs l, FineT c
  | [], _, x, hx => by simp [layTs] at hx
  | t :: l, h, x, hx => by
    rw [layTs] at hx
    rcases List.mem_cons.1 hx with rfl | hx
    · exact fine_layT t (h t (by simp))
    · exact fine_layTs l (fun c hc => h c (by simp [hc])) x hx
theorem fine_layC : ∀ t : Clause, FineC t → FineC (layC t)
  | .mk f t j d k, h => by
    rw [layC]
    exact fine_halfC f t j d k h (fine_layCs d (fun c hc => h.part (partC_defs hc))) (fine_layTs k (fun c hc => h.part (partC_kids hc)))
theorem fine_layCs : ∀ l : List Clause, (∀ c ∈ l, FineC c) → ∀ c ∈ layCs l, FineC c
  | [], _, x, hx => by simp [layCs] at hx
  | t :: l, h, x, hx => by
    rw [layCs] at hx
    rcases List.mem_cons.1 hx with rfl | hx
    · exact fine_layC t (h t (by simp))
    · exact fine_layCs l (fun c hc => h c (by simp [hc])) x hx
theorem fine_half : ∀ (op : Int) (t : ByteArray) (a : List Exp) (d : List Clause) (k : List Term), FineT (.mk op t a d k) → (∀ c ∈ layCs d, FineC c) → (∀ c ∈ layTs k, FineT c) → FineT (.mk op t a (layCs d) (layTs k))
  | op, t, a, d, k, h, h1, h2 => NdP.of_parts (lay_shaped h.self) (fun q hq => by
    rw [Part.parts] at hq
    rcases List.mem_append.1 hq with hq | hq
    · rcases List.mem_append.1 hq with hq | hq
      · obtain ⟨e, he, rfl⟩ := List.mem_map.1 hq
        exact h.part (part_args he)
      · obtain ⟨e, he, rfl⟩ := List.mem_map.1 hq
        exact h1 e he
    · obtain ⟨e, he, rfl⟩ := List.mem_map.1 hq
      exact h2 e he)
theorem fine_halfC : ∀ (f : Int) (t : ByteArray) (j : List Msg) (d : List Clause) (k : List Term), FineC (.mk f t j d k) → (∀ c ∈ layCs d, FineC c) → (∀ c ∈ layTs k, FineT c) → FineC (.mk f t j (layCs d) (layTs k))
  | f, t, j, d, k, h, h1, h2 => NdP.of_parts (layC_shaped h.self) (fun q hq => by
    rw [Part.parts] at hq
    rcases List.mem_append.1 hq with hq | hq
    · obtain ⟨e, he, rfl⟩ := List.mem_map.1 hq
      exact h1 e he
    · obtain ⟨e, he, rfl⟩ := List.mem_map.1 hq
      exact h2 e he)
end
end Go.Proofs.YtjmlaeofjjhfmaaGreat
