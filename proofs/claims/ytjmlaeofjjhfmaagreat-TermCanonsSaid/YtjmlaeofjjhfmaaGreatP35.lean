/- The free names of a formed process with an expression in place of a name. -/
import Derived.Test.YtjmlaeofjjhfmaaGreatP34
set_option linter.unusedVariables false
set_option linter.unusedSimpArgs false
namespace Go.Proofs.YtjmlaeofjjhfmaaGreat
open Go.RowKit Go.Shelf Go.Maps

theorem nameB_pos {s : ByteArray} (h : nameB s = true) : s.size ≠ 0 := by
  unfold nameB speltB at h
  intro h0
  rw [empty_of_size h0] at h
  revert h
  decide
/-- All nodes of a part are as P says. -/
def NdP (P : Part → Prop) (p : Part) : Prop := ∀ q ∈ (nodesOf 0 p).map (·.1), P q
theorem NdP.part {P : Part → Prop} {p q : Part} (h : NdP P p) (hq : q ∈ p.parts) : NdP P q := by
  intro x hx
  rw [nodesOf_fst 0 1] at hx
  refine h x ?_
  rw [nodesOf_eq]
  obtain ⟨y, hy, rfl⟩ := List.mem_map.1 hx
  exact List.mem_map.2 ⟨y, List.mem_cons_of_mem _ (mem_nodesL hq hy), rfl⟩
theorem NdP.self {P : Part → Prop} {p : Part} (h : NdP P p) : P p := h p (by rw [nodesOf_eq]; simp)
theorem shapedE_cases {op n : Int} {t : ByteArray} {kids : List Exp} (h : (Part.exp (.mk op n t kids)).shaped = true) : (op = 2 → n = 0 ∧ kids = [] ∧ t.size ≠ 0) ∧ (op ≠ 2 → t.size = 0) := by
  simp only [Part.shaped, shapedEB, Bool.or_eq_true, Bool.and_eq_true, beq_iff_eq, decide_eq_true_eq, List.length_eq_zero_iff] at h
  rcases h with (⟨⟨⟨⟨h1, _⟩, _⟩, h2⟩, _⟩ | ⟨⟨⟨h1, h2⟩, h3⟩, h4⟩) | ⟨⟨⟨⟨h1, h2⟩, _⟩, h3⟩, _⟩
  · exact ⟨fun h => by omega, fun _ => h2⟩
  · exact ⟨fun _ => ⟨h2, h4, nameB_pos h3⟩, fun h => absurd h1 h⟩
  · exact ⟨fun h => by omega, fun _ => h3⟩
theorem shapedT_cases {op : Int} {t : ByteArray} {a : List Exp} {d : List Clause} {k : List Term} (h : (Part.proc (.mk op t a d k)).shaped = true) : op = 4 ∨ d = [] := by
  simp only [Part.shaped, shapedTB, Bool.or_eq_true, Bool.and_eq_true, beq_iff_eq, decide_eq_true_eq, List.length_eq_zero_iff] at h
  rcases h with ((((h | h) | h) | h) | h) | h
  · exact .inr h.1.2
  · exact .inr h.1.2
  · exact .inr h.1.2
  · exact .inl h.1.1.1.1.1
  · exact .inr h.1.2
  · exact .inr h.1.2
theorem differ_pos {ss : List ByteArray} (h : differB ss = true) : ∀ x ∈ ss, x.size ≠ 0 := by
  intro x hx
  unfold differB at h
  rw [Bool.and_eq_true, List.all_eq_true] at h
  exact nameB_pos (h.1 x hx)
theorem names_len : ∀ js : List Msg, (∀ j ∈ js, j.names.length ≤ 3) → (js.flatMap (·.names)).length ≤ 3 * js.length
  | [], _ => by simp
  | j :: js, h => by
    have h1 := h j (by simp)
    have h2 := names_len js (fun x hx => h x (by simp [hx]))
    rw [List.flatMap_cons, List.length_append, List.length_cons]
    omega
theorem shapedC_cases {f : Int} {t : ByteArray} {j : List Msg} {d : List Clause} {k : List Term} (h : (Part.def_ (.mk f t j d k)).shaped = true) :
    (f = 2 → j = [] ∧ t.size ≠ 0) ∧ (f ≠ 2 → d = []) ∧ (∀ x ∈ j.flatMap (·.names), x.size ≠ 0) ∧ (∀ x ∈ j.map (·.text), x.size ≠ 0) ∧ j.length ≤ 3 ∧ (j.flatMap (·.names)).length ≤ 9 := by
  simp only [Part.shaped, shapedCB, Bool.or_eq_true, Bool.and_eq_true, beq_iff_eq, decide_eq_true_eq, List.length_eq_zero_iff] at h
  rcases h with ⟨⟨⟨⟨h1, _⟩, h2⟩, h3⟩, _⟩ | ⟨⟨⟨⟨h1, h2⟩, h3⟩, _⟩, _⟩
  · unfold joinedB at h2
    simp only [Bool.and_eq_true, decide_eq_true_eq, List.all_eq_true] at h2
    obtain ⟨⟨⟨⟨_, h4⟩, h5⟩, h6⟩, h7⟩ := h2
    have := names_len j h5
    exact ⟨fun h => by omega, fun _ => h3, differ_pos h7, differ_pos h6, h4, by omega⟩
  · subst h3
    exact ⟨fun _ => ⟨rfl, nameB_pos h2⟩, fun h => absurd h1 h, by simp, by simp, by simp, by simp⟩

theorem part_args {o : Int} {t : ByteArray} {a : List Exp} {d : List Clause} {k : List Term} {e : Exp} (h : e ∈ a) : Part.exp e ∈ (Part.proc (.mk o t a d k)).parts := by
  rw [Part.parts]; exact List.mem_append_left _ (List.mem_append_left _ (List.mem_map.2 ⟨e, h, rfl⟩))
theorem part_defs {o : Int} {t : ByteArray} {a : List Exp} {d : List Clause} {k : List Term} {e : Clause} (h : e ∈ d) : Part.def_ e ∈ (Part.proc (.mk o t a d k)).parts := by
  rw [Part.parts]; exact List.mem_append_left _ (List.mem_append_right _ (List.mem_map.2 ⟨e, h, rfl⟩))
theorem part_kids {o : Int} {t : ByteArray} {a : List Exp} {d : List Clause} {k : List Term} {e : Term} (h : e ∈ k) : Part.proc e ∈ (Part.proc (.mk o t a d k)).parts := by
  rw [Part.parts]; exact List.mem_append_right _ (List.mem_map.2 ⟨e, h, rfl⟩)
theorem partC_defs {f : Int} {t : ByteArray} {j : List Msg} {d : List Clause} {k : List Term} {e : Clause} (h : e ∈ d) : Part.def_ e ∈ (Part.def_ (.mk f t j d k)).parts := by
  rw [Part.parts]; exact List.mem_append_left _ (List.mem_map.2 ⟨e, h, rfl⟩)
theorem partC_kids {f : Int} {t : ByteArray} {j : List Msg} {d : List Clause} {k : List Term} {e : Term} (h : e ∈ k) : Part.proc e ∈ (Part.def_ (.mk f t j d k)).parts := by
  rw [Part.parts]; exact List.mem_append_right _ (List.mem_map.2 ⟨e, h, rfl⟩)
theorem partE_kids {o n : Int} {t : ByteArray} {k : List Exp} {e : Exp} (h : e ∈ k) : Part.exp e ∈ (Part.exp (.mk o n t k)).parts := by
  rw [Part.parts]; exact List.mem_map.2 ⟨e, h, rfl⟩

mutual
/-- No channel and no place that definitions bind is the empty string. -/
theorem txC_pos : ∀ c : Clause, NdP (fun q => q.shaped = true) (.def_ c) → (∀ x ∈ txC c, x.size ≠ 0) ∧ (∀ x ∈ placesC c, x.size ≠ 0)
  | .mk f t j d k, h => by
    obtain ⟨h1, h2, h3, h4, _⟩ := shapedC_cases h.self
    obtain ⟨g1, g2⟩ := txL_pos d (fun c hc => h.part (partC_defs hc))
    unfold txC groupsC placesC
    by_cases hf : f = 2
    · rw [if_pos hf, if_pos hf]
      obtain ⟨rfl, ht⟩ := h1 hf
      refine ⟨fun x hx => g1 x (by simpa [groupsL, Clause.joins] using hx), fun x hx => ?_⟩
      rcases List.mem_cons.1 hx with rfl | hx
      · exact ht
      · exact g2 x hx
    · rw [if_neg hf, if_neg hf]
      exact ⟨fun x hx => h4 x (by simpa [alltexts, Clause.joins] using hx), fun x hx => by simp at hx⟩
theorem txL_pos : ∀ d : List Clause, (∀ c ∈ d, NdP (fun q => q.shaped = true) (.def_ c)) → (∀ x ∈ alltexts (groupsL d), x.size ≠ 0) ∧ (∀ x ∈ placesL d, x.size ≠ 0)
  | [], _ => ⟨fun x hx => by simp [groupsL, groupsI, alltexts, gtexts] at hx, fun x hx => by simp [placesL] at hx⟩
  | c :: cs, h => by
    obtain ⟨h1, h2⟩ := txC_pos c (h c (by simp))
    obtain ⟨h3, h4⟩ := txL_pos cs (fun x hx => h x (by simp [hx]))
    refine ⟨fun x hx => ?_, fun x hx => ?_⟩
    · rcases List.mem_append.1 ((mem_tx_cons c cs x).1 hx) with hx | hx
      · exact h1 x hx
      · exact h3 x hx
    · rw [placesL] at hx
      rcases List.mem_append.1 hx with hx | hx
      · exact h2 x hx
      · exact h4 x hx
end
theorem NdP.mono {P Q : Part → Prop} {p : Part} (h : NdP P p) (hQ : ∀ q, P q → Q q) : NdP Q p := fun q hq => hQ q (h q hq)
/-- What is asked of each node. -/
def OkN (W : List UInt8 → Prop) (q : Part) : Prop := q.shaped = true ∧ ∀ b ∈ bindsP q, W (bytesOf b)
theorem okB_of {W : List UInt8 → Prop} {p : Part} (h : NdP (OkN W) p) : okB W p := by
  intro b hb
  refine ⟨?_, h.self.2 b hb⟩
  cases p with
  | exp e => simp [bindsP] at hb
  | proc t =>
    obtain ⟨o, t, a, d, k⟩ := t
    have e : bindsP (.proc (.mk o t a d k)) = if o = 4 then channelsL d ++ placesL d else [] := rfl
    rw [e] at hb
    split at hb
    · obtain ⟨h1, h2⟩ := txL_pos d (fun c hc => (h.part (part_defs hc)).mono (fun q hq => hq.1))
      rcases List.mem_append.1 hb with hb | hb
      · unfold channelsL at hb
        rw [mem_chFold] at hb
        rcases hb with hb | hb
        · simp at hb
        · exact h1 b hb
      · exact h2 b hb
    · simp at hb
  | def_ c =>
    obtain ⟨f, t, j, d, k⟩ := c
    exact (shapedC_cases h.self.1).2.2.1 b hb
mutual
theorem okE_of : ∀ e : Exp, NdP (fun q => q.shaped = true) (.exp e) → okE e ∧ plainE e = true
  | .mk op n t kids, h => by
    obtain ⟨h1, h2⟩ := shapedE_cases h.self
    obtain ⟨h3, h4⟩ := okEs_of kids (fun e he => h.part (partE_kids he))
    unfold okE plainE
    refine ⟨⟨fun ho => (h1 ho).2, h2, h3⟩, ?_⟩
    rw [h4, Bool.and_true]
    by_cases ho : op = 2
    · obtain ⟨a, b, _⟩ := h1 ho
      rw [a, b]; simp
    · simp [ho]
theorem okEs_of : ∀ es : List Exp, (∀ e ∈ es, NdP (fun q => q.shaped = true) (.exp e)) → okEs es ∧ plainEs es = true
  | [], _ => by unfold okEs plainEs; exact ⟨trivial, rfl⟩
  | e :: es, h => by
    obtain ⟨h1, h2⟩ := okE_of e (h e (by simp))
    obtain ⟨h3, h4⟩ := okEs_of es (fun x hx => h x (by simp [hx]))
    unfold okEs plainEs
    exact ⟨⟨h1, h3⟩, by rw [h2, h4]; rfl⟩
end
mutual
theorem okC_of {W : List UInt8 → Prop} : ∀ c : Clause, NdP (OkN W) (.def_ c) → okC W c
  | .mk f t j d k, h => by
    obtain ⟨h1, h2, _⟩ := shapedC_cases h.self.1
    unfold okC
    exact ⟨fun hf => (h1 hf).1, h2, okB_of h, okCs_of d (fun c hc => h.part (partC_defs hc)), okTs_of k (fun c hc => h.part (partC_kids hc))⟩
theorem okCs_of {W : List UInt8 → Prop} : ∀ d : List Clause, (∀ c ∈ d, NdP (OkN W) (.def_ c)) → okCs W d
  | [], _ => by unfold okCs; trivial
  | c :: cs, h => by unfold okCs; exact ⟨okC_of c (h c (by simp)), okCs_of cs (fun x hx => h x (by simp [hx]))⟩
theorem okT_of {W : List UInt8 → Prop} : ∀ t : Term, NdP (OkN W) (.proc t) → okT W t
  | .mk o t a d k, h => by
    unfold okT
    exact ⟨(okEs_of a (fun c hc => (h.part (part_args hc)).mono (fun q hq => hq.1))).1, okB_of h, okCs_of d (fun c hc => h.part (part_defs hc)), okTs_of k (fun c hc => h.part (part_kids hc))⟩
theorem okTs_of {W : List UInt8 → Prop} : ∀ d : List Term, (∀ c ∈ d, NdP (OkN W) (.proc c)) → okTs W d
  | [], _ => by unfold okTs; trivial
  | c :: cs, h => by unfold okTs; exact ⟨okT_of c (h c (by simp)), okTs_of cs (fun x hx => h x (by simp [hx]))⟩
end
theorem tx_cons_len (c : Clause) (cs : List Clause) : (alltexts (groupsL (c :: cs))).length = (txC c).length + (alltexts (groupsL cs)).length := by
  rw [alltexts_L, alltexts_L, groupsI, alltexts_append]
  have : gtexts (c :: cs) = c.joins.map (·.text) ++ gtexts cs := by unfold gtexts; rw [List.flatMap_cons]
  rw [this]
  unfold txC
  simp only [List.length_append]
  omega
mutual
/-- How many names are bound at most. -/
theorem bcC_le : ∀ (c : Clause) (lev : Nat), NdP (fun q => q.shaped = true) (.def_ c) → bcC c + (txC c).length + (placesC c).length ≤ 13 * (nodesC lev c).length
  | .mk f t j d k, lev, h => by
    obtain ⟨h1, h2, _, _, h3, h4⟩ := shapedC_cases h.self
    have hd := bcCs_le d (lev + 1) (fun c hc => h.part (partC_defs hc))
    have hk := bcTs_le k (lev + 1) (fun c hc => h.part (partC_kids hc))
    rw [bcC, nodesC, List.length_cons, List.length_append]
    have hb : bindsP (.def_ (.mk f t j d k)) = j.flatMap (·.names) := rfl
    rw [hb]
    unfold txC groupsC placesC
    by_cases hf : f = 2
    · rw [if_pos hf, if_pos hf]
      obtain ⟨rfl, _⟩ := h1 hf
      have e : ([] : List Msg).flatMap (·.names) = [] := rfl
      have e2 : (Clause.mk f t [] d k).joins = [] := rfl
      rw [e, e2, List.length_cons]
      have e3 : alltexts (d :: groupsI d) = alltexts (groupsL d) := rfl
      rw [e3]
      simp only [List.map_nil, List.nil_append, List.length_nil]
      omega
    · rw [if_neg hf, if_neg hf]
      obtain rfl := h2 hf
      have e2 : (Clause.mk f t j [] k).joins = j := rfl
      rw [e2]
      simp only [alltexts, List.flatMap_nil, List.append_nil, List.length_map, List.length_nil, bcCs, nodesCs]
      omega
theorem bcCs_le : ∀ (d : List Clause) (lev : Nat), (∀ c ∈ d, NdP (fun q => q.shaped = true) (.def_ c)) → bcCs d + (alltexts (groupsL d)).length + (placesL d).length ≤ 13 * (nodesCs lev d).length
  | [], lev, _ => by simp [bcCs, nodesCs, groupsL, groupsI, alltexts, gtexts, placesL]
  | c :: cs, lev, h => by
    have h1 := bcC_le c lev (h c (by simp))
    have h2 := bcCs_le cs lev (fun x hx => h x (by simp [hx]))
    rw [bcCs, nodesCs, placesL, List.length_append, List.length_append, tx_cons_len]
    omega
theorem bcT_le : ∀ (t : Term) (lev : Nat), NdP (fun q => q.shaped = true) (.proc t) → bcT t ≤ 13 * (nodesT lev t).length
  | .mk o t a d k, lev, h => by
    have hd := bcCs_le d (lev + 1) (fun c hc => h.part (part_defs hc))
    have hk := bcTs_le k (lev + 1) (fun c hc => h.part (part_kids hc))
    rw [bcT, nodesT, List.length_cons, List.length_append, List.length_append]
    have e : bindsP (.proc (.mk o t a d k)) = if o = 4 then channelsL d ++ placesL d else [] := rfl
    have hb : (bindsP (.proc (.mk o t a d k))).length ≤ (alltexts (groupsL d)).length + (placesL d).length := by
      rw [e]
      split
      · rw [List.length_append]
        have := chFold_len [] (alltexts (groupsL d))
        unfold channelsL
        simp only [List.length_nil, Nat.zero_add] at this
        omega
      · simp
    omega
theorem bcTs_le : ∀ (d : List Term) (lev : Nat), (∀ c ∈ d, NdP (fun q => q.shaped = true) (.proc c)) → bcTs d ≤ 13 * (nodesTs lev d).length
  | [], lev, _ => by simp [bcTs]
  | c :: cs, lev, h => by
    have h1 := bcT_le c lev (h c (by simp))
    have h2 := bcTs_le cs lev (fun x hx => h x (by simp [hx]))
    rw [bcTs, nodesTs, List.length_append]
    omega
end
end Go.Proofs.YtjmlaeofjjhfmaaGreat
