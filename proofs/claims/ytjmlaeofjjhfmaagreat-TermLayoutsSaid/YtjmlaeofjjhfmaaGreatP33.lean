/- The free names of copies. -/
import Derived.Test.YtjmlaeofjjhfmaaGreatP32
set_option linter.unusedVariables false
set_option linter.unusedSimpArgs false
namespace Go.Proofs.YtjmlaeofjjhfmaaGreat
open Go.RowKit Go.Shelf Go.Maps

/-- What some texts become. -/
def TI (v : Env) (A B : List ByteArray) : Prop := ∀ x, x ∈ B ↔ ∃ y ∈ A, textM v y = some x
theorem TI.nil (v : Env) : TI v [] [] := fun x => by simp
theorem TI.cons {v : Env} {a b : ByteArray} {A B : List ByteArray} (h : textM v a = some b) (hA : TI v A B) : TI v (a :: A) (b :: B) := fun x => by
  rw [List.mem_cons, hA x]
  constructor
  · rintro (rfl | ⟨y, h1, h2⟩)
    · exact ⟨a, by simp, h⟩
    · exact ⟨y, by simp [h1], h2⟩
  · rintro ⟨y, h1, h2⟩
    rcases List.mem_cons.1 h1 with rfl | h1
    · rw [h] at h2; cases h2; exact .inl rfl
    · exact .inr ⟨y, h1, h2⟩
theorem TI.append {v : Env} {A B C D : List ByteArray} (h : TI v A B) (h' : TI v C D) : TI v (A ++ C) (B ++ D) := fun x => by
  rw [List.mem_append, h x, h' x]
  constructor
  · rintro (⟨y, h1, h2⟩ | ⟨y, h1, h2⟩)
    · exact ⟨y, by simp [h1], h2⟩
    · exact ⟨y, by simp [h1], h2⟩
  · rintro ⟨y, h1, h2⟩
    rcases List.mem_append.1 h1 with h1 | h1
    · exact .inl ⟨y, h1, h2⟩
    · exact .inr ⟨y, h1, h2⟩
/-- The channels that a definition takes messages of, those in its places as well. -/
def txC (c : Clause) : List ByteArray := c.joins.map (·.text) ++ alltexts (groupsC c)
theorem alltexts_append (a b : List (List Clause)) : alltexts (a ++ b) = alltexts a ++ alltexts b := by unfold alltexts; rw [List.flatMap_append]
theorem alltexts_L (d : List Clause) : alltexts (groupsL d) = gtexts d ++ alltexts (groupsI d) := by
  unfold groupsL alltexts; rw [List.flatMap_cons]

theorem Im.or {v : Env} {A B : List UInt8 → Bool} {k : List UInt8} : Im v (fun k => A k || B k) k ↔ Im v A k ∨ Im v B k := by
  unfold Im
  constructor
  · rintro ⟨n, h1, h2⟩
    rw [Bool.or_eq_true] at h1
    exact h1.elim (fun h => .inl ⟨n, h, h2⟩) (fun h => .inr ⟨n, h, h2⟩)
  · rintro (⟨n, h1, h2⟩ | ⟨n, h1, h2⟩)
    · exact ⟨n, by simp [h1], h2⟩
    · exact ⟨n, by simp [h1], h2⟩


end Go.Proofs.YtjmlaeofjjhfmaaGreat
/- The free names of a formed process with an expression in place of a name. -/
namespace Go.Proofs.YtjmlaeofjjhfmaaGreat
open Go.RowKit Go.Shelf Go.Maps

theorem nameB_pos {s : ByteArray} (h : nameB s = true) : s.size ≠ 0 := by
  unfold nameB speltB at h
  intro h0
  rw [empty_of_size h0] at h
  revert h
  decide
/-- All nodes of a part are as P says. -/
def NdP (P : Part → Prop) (p : Part) : Prop := ∀ q ∈ (nodesOf 0 p).map (·.1), P q
theorem NdP.part {P : Part → Prop} {p q : Part} (h : NdP P p) (hq : q ∈ p.parts) : NdP P q := by
  intro x hx
  rw [nodesOf_fst 0 1] at hx
  refine h x ?_
  rw [nodesOf_eq]
  obtain ⟨y, hy, rfl⟩ := List.mem_map.1 hx
  exact List.mem_map.2 ⟨y, List.mem_cons_of_mem _ (mem_nodesL hq hy), rfl⟩
theorem NdP.self {P : Part → Prop} {p : Part} (h : NdP P p) : P p := h p (by rw [nodesOf_eq]; simp)
theorem shapedE_cases {op n : Int} {t : ByteArray} {kids : List Exp} (h : (Part.exp (.mk op n t kids)).shaped = true) : (op = 2 → n = 0 ∧ kids = [] ∧ t.size ≠ 0) ∧ (op ≠ 2 → t.size = 0) := by
  simp only [Part.shaped, shapedEB, Bool.or_eq_true, Bool.and_eq_true, beq_iff_eq, decide_eq_true_eq, List.length_eq_zero_iff] at h
  rcases h with (⟨⟨⟨⟨h1, _⟩, _⟩, h2⟩, _⟩ | ⟨⟨⟨h1, h2⟩, h3⟩, h4⟩) | ⟨⟨⟨⟨h1, h2⟩, _⟩, h3⟩, _⟩
  · exact ⟨fun h => by omega, fun _ => h2⟩
  · exact ⟨fun _ => ⟨h2, h4, nameB_pos h3⟩, fun h => absurd h1 h⟩
  · exact ⟨fun h => by omega, fun _ => h3⟩
theorem differ_pos {ss : List ByteArray} (h : differB ss = true) : ∀ x ∈ ss, x.size ≠ 0 := by
  intro x hx
  unfold differB at h
  rw [Bool.and_eq_true, List.all_eq_true] at h
  exact nameB_pos (h.1 x hx)
theorem names_len : ∀ js : List Msg, (∀ j ∈ js, j.names.length ≤ 3) → (js.flatMap (·.names)).length ≤ 3 * js.length
  | [], _ => by simp
  | j :: js, h => by
    have h1 := h j (by simp)
    have h2 := names_len js (fun x hx => h x (by simp [hx]))
    rw [List.flatMap_cons, List.length_append, List.length_cons]
    omega
theorem shapedC_cases {f : Int} {t : ByteArray} {j : List Msg} {d : List Clause} {k : List Term} (h : (Part.def_ (.mk f t j d k)).shaped = true) :
    (f = 2 → j = [] ∧ t.size ≠ 0) ∧ (f ≠ 2 → d = []) ∧ (∀ x ∈ j.flatMap (·.names), x.size ≠ 0) ∧ (∀ x ∈ j.map (·.text), x.size ≠ 0) ∧ j.length ≤ 3 ∧ (j.flatMap (·.names)).length ≤ 9 := by
  simp only [Part.shaped, shapedCB, Bool.or_eq_true, Bool.and_eq_true, beq_iff_eq, decide_eq_true_eq, List.length_eq_zero_iff] at h
  rcases h with ⟨⟨⟨⟨h1, _⟩, h2⟩, h3⟩, _⟩ | ⟨⟨⟨⟨h1, h2⟩, h3⟩, _⟩, _⟩
  · unfold joinedB at h2
    simp only [Bool.and_eq_true, decide_eq_true_eq, List.all_eq_true] at h2
    obtain ⟨⟨⟨⟨_, h4⟩, h5⟩, h6⟩, h7⟩ := h2
    have := names_len j h5
    exact ⟨fun h => by omega, fun _ => h3, differ_pos h7, differ_pos h6, h4, by omega⟩
  · subst h3
    exact ⟨fun _ => ⟨rfl, nameB_pos h2⟩, fun h => absurd h1 h, by simp, by simp, by simp, by simp⟩

theorem part_args {o : Int} {t : ByteArray} {a : List Exp} {d : List Clause} {k : List Term} {e : Exp} (h : e ∈ a) : Part.exp e ∈ (Part.proc (.mk o t a d k)).parts := by
  rw [Part.parts]; exact List.mem_append_left _ (List.mem_append_left _ (List.mem_map.2 ⟨e, h, rfl⟩))
theorem part_defs {o : Int} {t : ByteArray} {a : List Exp} {d : List Clause} {k : List Term} {e : Clause} (h : e ∈ d) : Part.def_ e ∈ (Part.proc (.mk o t a d k)).parts := by
  rw [Part.parts]; exact List.mem_append_left _ (List.mem_append_right _ (List.mem_map.2 ⟨e, h, rfl⟩))
theorem part_kids {o : Int} {t : ByteArray} {a : List Exp} {d : List Clause} {k : List Term} {e : Term} (h : e ∈ k) : Part.proc e ∈ (Part.proc (.mk o t a d k)).parts := by
  rw [Part.parts]; exact List.mem_append_right _ (List.mem_map.2 ⟨e, h, rfl⟩)
theorem partC_defs {f : Int} {t : ByteArray} {j : List Msg} {d : List Clause} {k : List Term} {e : Clause} (h : e ∈ d) : Part.def_ e ∈ (Part.def_ (.mk f t j d k)).parts := by
  rw [Part.parts]; exact List.mem_append_left _ (List.mem_map.2 ⟨e, h, rfl⟩)
theorem partC_kids {f : Int} {t : ByteArray} {j : List Msg} {d : List Clause} {k : List Term} {e : Term} (h : e ∈ k) : Part.proc e ∈ (Part.def_ (.mk f t j d k)).parts := by
  rw [Part.parts]; exact List.mem_append_right _ (List.mem_map.2 ⟨e, h, rfl⟩)
theorem partE_kids {o n : Int} {t : ByteArray} {k : List Exp} {e : Exp} (h : e ∈ k) : Part.exp e ∈ (Part.exp (.mk o n t k)).parts := by
  rw [Part.parts]; exact List.mem_map.2 ⟨e, h, rfl⟩

theorem NdP.mono {P Q : Part → Prop} {p : Part} (h : NdP P p) (hQ : ∀ q, P q → Q q) : NdP Q p := fun q hq => hQ q (h q hq)
mutual
theorem okE_of : ∀ e : Exp, NdP (fun q => q.shaped = true) (.exp e) → okE e ∧ plainE e = true
  | .mk op n t kids, h => by
    obtain ⟨h1, h2⟩ := shapedE_cases h.self
    obtain ⟨h3, h4⟩ := okEs_of kids (fun e he => h.part (partE_kids he))
    unfold okE plainE
    refine ⟨⟨fun ho => (h1 ho).2, h2, h3⟩, ?_⟩
    rw [h4, Bool.and_true]
    by_cases ho : op = 2
    · obtain ⟨a, b, _⟩ := h1 ho
      rw [a, b]; simp
    · simp [ho]
theorem okEs_of : ∀ es : List Exp, (∀ e ∈ es, NdP (fun q => q.shaped = true) (.exp e)) → okEs es ∧ plainEs es = true
  | [], _ => by unfold okEs plainEs; exact ⟨trivial, rfl⟩
  | e :: es, h => by
    obtain ⟨h1, h2⟩ := okE_of e (h e (by simp))
    obtain ⟨h3, h4⟩ := okEs_of es (fun x hx => h x (by simp [hx]))
    unfold okEs plainEs
    exact ⟨⟨h1, h3⟩, by rw [h2, h4]; rfl⟩
end
theorem tx_cons_len (c : Clause) (cs : List Clause) : (alltexts (groupsL (c :: cs))).length = (txC c).length + (alltexts (groupsL cs)).length := by
  rw [alltexts_L, alltexts_L, groupsI, alltexts_append]
  have : gtexts (c :: cs) = c.joins.map (·.text) ++ gtexts cs := by unfold gtexts; rw [List.flatMap_cons]
  rw [this]
  unfold txC
  simp only [List.length_append]
  omega
mutual
/-- How many names are bound at most. -/
theorem bcC_le : ∀ (c : Clause) (lev : Nat), NdP (fun q => q.shaped = true) (.def_ c) → bcC c + (txC c).length + (placesC c).length ≤ 13 * (nodesC lev c).length
  | .mk f t j d k, lev, h => by
    obtain ⟨h1, h2, _, _, h3, h4⟩ := shapedC_cases h.self
    have hd := bcCs_le d (lev + 1) (fun c hc => h.part (partC_defs hc))
    have hk := bcTs_le k (lev + 1) (fun c hc => h.part (partC_kids hc))
    rw [bcC, nodesC, List.length_cons, List.length_append]
    have hb : bindsP (.def_ (.mk f t j d k)) = j.flatMap (·.names) := rfl
    rw [hb]
    unfold txC groupsC placesC
    by_cases hf : f = 2
    · rw [if_pos hf, if_pos hf]
      obtain ⟨rfl, _⟩ := h1 hf
      have e : ([] : List Msg).flatMap (·.names) = [] := rfl
      have e2 : (Clause.mk f t [] d k).joins = [] := rfl
      rw [e, e2, List.length_cons]
      have e3 : alltexts (d :: groupsI d) = alltexts (groupsL d) := rfl
      rw [e3]
      simp only [List.map_nil, List.nil_append, List.length_nil]
      omega
    · rw [if_neg hf, if_neg hf]
      obtain rfl := h2 hf
      have e2 : (Clause.mk f t j [] k).joins = j := rfl
      rw [e2]
      simp only [alltexts, List.flatMap_nil, List.append_nil, List.length_map, List.length_nil, bcCs, nodesCs]
      omega
theorem bcCs_le : ∀ (d : List Clause) (lev : Nat), (∀ c ∈ d, NdP (fun q => q.shaped = true) (.def_ c)) → bcCs d + (alltexts (groupsL d)).length + (placesL d).length ≤ 13 * (nodesCs lev d).length
  | [], lev, _ => by simp [bcCs, nodesCs, groupsL, groupsI, alltexts, gtexts, placesL]
  | c :: cs, lev, h => by
    have h1 := bcC_le c lev (h c (by simp))
    have h2 := bcCs_le cs lev (fun x hx => h x (by simp [hx]))
    rw [bcCs, nodesCs, placesL, List.length_append, List.length_append, tx_cons_len]
    omega
theorem bcT_le : ∀ (t : Term) (lev : Nat), NdP (fun q => q.shaped = true) (.proc t) → bcT t ≤ 13 * (nodesT lev t).length
  | .mk o t a d k, lev, h => by
    have hd := bcCs_le d (lev + 1) (fun c hc => h.part (part_defs hc))
    have hk := bcTs_le k (lev + 1) (fun c hc => h.part (part_kids hc))
    rw [bcT, nodesT, List.length_cons, List.length_append, List.length_append]
    have e : bindsP (.proc (.mk o t a d k)) = if o = 4 then channelsL d ++ placesL d else [] := rfl
    have hb : (bindsP (.proc (.mk o t a d k))).length ≤ (alltexts (groupsL d)).length + (placesL d).length := by
      rw [e]
      split
      · rw [List.length_append]
        have := chFold_len [] (alltexts (groupsL d))
        unfold channelsL
        simp only [List.length_nil, Nat.zero_add] at this
        omega
      · simp
    omega
theorem bcTs_le : ∀ (d : List Term) (lev : Nat), (∀ c ∈ d, NdP (fun q => q.shaped = true) (.proc c)) → bcTs d ≤ 13 * (nodesTs lev d).length
  | [], lev, _ => by simp [bcTs]
  | c :: cs, lev, h => by
    have h1 := bcT_le c lev (h c (by simp))
    have h2 := bcTs_le cs lev (fun x hx => h x (by simp [hx]))
    rw [bcTs, nodesTs, List.length_append]
    omega
end
end Go.Proofs.YtjmlaeofjjhfmaaGreat
