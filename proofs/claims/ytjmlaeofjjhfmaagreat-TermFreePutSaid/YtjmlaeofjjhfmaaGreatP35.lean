/- The free names of a formed process with an expression in place of a name. -/
import Derived.Test.YtjmlaeofjjhfmaaGreatP34
set_option linter.unusedVariables false
set_option linter.unusedSimpArgs false
namespace Go.Proofs.YtjmlaeofjjhfmaaGreat
open Go.RowKit Go.Shelf Go.Maps

theorem nameB_pos {s : ByteArray} (h : nameB s = true) : s.size ≠ 0 := by
  unfold nameB speltB at h
  intro h0
  rw [empty_of_size h0] at h
  revert h
  decide
/-- All nodes of a part are as P says. -/
def NdP (P : Part → Prop) (p : Part) : Prop := ∀ q ∈ (nodesOf 0 p).map (·.1), P q
theorem NdP.part {P : Part → Prop} {p q : Part} (h : NdP P p) (hq : q ∈ p.parts) : NdP P q := by
  intro x hx
  rw [nodesOf_fst 0 1] at hx
  refine h x ?_
  rw [nodesOf_eq]
  obtain ⟨y, hy, rfl⟩ := List.mem_map.1 hx
  exact List.mem_map.2 ⟨y, List.mem_cons_of_mem _ (mem_nodesL hq hy), rfl⟩
theorem NdP.self {P : Part → Prop} {p : Part} (h : NdP P p) : P p := h p (by rw [nodesOf_eq]; simp)
theorem shapedE_cases {op n : Int} {t : ByteArray} {kids : List Exp} (h : (Part.exp (.mk op n t kids)).shaped = true) : (op = 2 → n = 0 ∧ kids = [] ∧ t.size ≠ 0) ∧ (op ≠ 2 → t.size = 0) := by
  simp only [Part.shaped, shapedEB, Bool.or_eq_true, Bool.and_eq_true, beq_iff_eq, decide_eq_true_eq, List.length_eq_zero_iff] at h
  rcases h with (⟨⟨⟨⟨h1, _⟩, _⟩, h2⟩, _⟩ | ⟨⟨⟨h1, h2⟩, h3⟩, h4⟩) | ⟨⟨⟨⟨h1, h2⟩, _⟩, h3⟩, _⟩
  · exact ⟨fun h => by omega, fun _ => h2⟩
  · exact ⟨fun _ => ⟨h2, h4, nameB_pos h3⟩, fun h => absurd h1 h⟩
  · exact ⟨fun h => by omega, fun _ => h3⟩
theorem differ_pos {ss : List ByteArray} (h : differB ss = true) : ∀ x ∈ ss, x.size ≠ 0 := by
  intro x hx
  unfold differB at h
  rw [Bool.and_eq_true, List.all_eq_true] at h
  exact nameB_pos (h.1 x hx)
theorem names_len : ∀ js : List Msg, (∀ j ∈ js, j.names.length ≤ 3) → (js.flatMap (·.names)).length ≤ 3 * js.length
  | [], _ => by simp
  | j :: js, h => by
    have h1 := h j (by simp)
    have h2 := names_len js (fun x hx => h x (by simp [hx]))
    rw [List.flatMap_cons, List.length_append, List.length_cons]
    omega
theorem shapedC_cases {f : Int} {t : ByteArray} {j : List Msg} {d : List Clause} {k : List Term} (h : (Part.def_ (.mk f t j d k)).shaped = true) :
    (f = 2 → j = [] ∧ t.size ≠ 0) ∧ (f ≠ 2 → d = []) ∧ (∀ x ∈ j.flatMap (·.names), x.size ≠ 0) ∧ (∀ x ∈ j.map (·.text), x.size ≠ 0) ∧ j.length ≤ 3 ∧ (j.flatMap (·.names)).length ≤ 9 := by
  simp only [Part.shaped, shapedCB, Bool.or_eq_true, Bool.and_eq_true, beq_iff_eq, decide_eq_true_eq, List.length_eq_zero_iff] at h
  rcases h with ⟨⟨⟨⟨h1, _⟩, h2⟩, h3⟩, _⟩ | ⟨⟨⟨⟨h1, h2⟩, h3⟩, _⟩, _⟩
  · unfold joinedB at h2
    simp only [Bool.and_eq_true, decide_eq_true_eq, List.all_eq_true] at h2
    obtain ⟨⟨⟨⟨_, h4⟩, h5⟩, h6⟩, h7⟩ := h2
    have := names_len j h5
    exact ⟨fun h => by omega, fun _ => h3, differ_pos h7, differ_pos h6, h4, by omega⟩
  · subst h3
    exact ⟨fun _ => ⟨rfl, nameB_pos h2⟩, fun h => absurd h1 h, by simp, by simp, by simp, by simp⟩

theorem part_args {o : Int} {t : ByteArray} {a : List Exp} {d : List Clause} {k : List Term} {e : Exp} (h : e ∈ a) : Part.exp e ∈ (Part.proc (.mk o t a d k)).parts := by
  rw [Part.parts]; exact List.mem_append_left _ (List.mem_append_left _ (List.mem_map.2 ⟨e, h, rfl⟩))
theorem part_defs {o : Int} {t : ByteArray} {a : List Exp} {d : List Clause} {k : List Term} {e : Clause} (h : e ∈ d) : Part.def_ e ∈ (Part.proc (.mk o t a d k)).parts := by
  rw [Part.parts]; exact List.mem_append_left _ (List.mem_append_right _ (List.mem_map.2 ⟨e, h, rfl⟩))
theorem part_kids {o : Int} {t : ByteArray} {a : List Exp} {d : List Clause} {k : List Term} {e : Term} (h : e ∈ k) : Part.proc e ∈ (Part.proc (.mk o t a d k)).parts := by
  rw [Part.parts]; exact List.mem_append_right _ (List.mem_map.2 ⟨e, h, rfl⟩)
theorem partC_defs {f : Int} {t : ByteArray} {j : List Msg} {d : List Clause} {k : List Term} {e : Clause} (h : e ∈ d) : Part.def_ e ∈ (Part.def_ (.mk f t j d k)).parts := by
  rw [Part.parts]; exact List.mem_append_left _ (List.mem_map.2 ⟨e, h, rfl⟩)
theorem partC_kids {f : Int} {t : ByteArray} {j : List Msg} {d : List Clause} {k : List Term} {e : Term} (h : e ∈ k) : Part.proc e ∈ (Part.def_ (.mk f t j d k)).parts := by
  rw [Part.parts]; exact List.mem_append_right _ (List.mem_map.2 ⟨e, h, rfl⟩)
theorem partE_kids {o n : Int} {t : ByteArray} {k : List Exp} {e : Exp} (h : e ∈ k) : Part.exp e ∈ (Part.exp (.mk o n t k)).parts := by
  rw [Part.parts]; exact List.mem_map.2 ⟨e, h, rfl⟩

mutual
/-- No channel and no place that definitions bind is the empty string. -/
theorem txC_pos : ∀ c : Clause, NdP (fun q => q.shaped = true) (.def_ c) → (∀ x ∈ txC c, x.size ≠ 0) ∧ (∀ x ∈ placesC c, x.size ≠ 0)
  | .mk f t j d k, h => by
    obtain ⟨h1, h2, h3, h4, _⟩ := shapedC_cases h.self
    obtain ⟨g1, g2⟩ := txL_pos d (fun c hc => h.part (partC_defs hc))
    unfold txC groupsC placesC
    by_cases hf : f = 2
    · rw [if_pos hf, if_pos hf]
      obtain ⟨rfl, ht⟩ := h1 hf
      refine ⟨fun x hx => g1 x (by simpa [groupsL, Clause.joins] using hx), fun x hx => ?_⟩
      rcases List.mem_cons.1 hx with rfl | hx
      · exact ht
      · exact g2 x hx
    · rw [if_neg hf, if_neg hf]
      exact ⟨fun x hx => h4 x (by simpa [alltexts, Clause.joins] using hx), fun x hx => by simp at hx⟩
theorem txL_pos : ∀ d : List Clause, (∀ c ∈ d, NdP (fun q => q.shaped = true) (.def_ c)) → (∀ x ∈ alltexts (groupsL d), x.size ≠ 0) ∧ (∀ x ∈ placesL d, x.size ≠ 0)
  | [], _ => ⟨fun x hx => by simp [groupsL, groupsI, alltexts, gtexts] at hx, fun x hx => by simp [placesL] at hx⟩
  | c :: cs, h => by
    obtain ⟨h1, h2⟩ := txC_pos c (h c (by simp))
    obtain ⟨h3, h4⟩ := txL_pos cs (fun x hx => h x (by simp [hx]))
    refine ⟨fun x hx => ?_, fun x hx => ?_⟩
    · rcases List.mem_append.1 ((mem_tx_cons c cs x).1 hx) with hx | hx
      · exact h1 x hx
      · exact h3 x hx
    · rw [placesL] at hx
      rcases List.mem_append.1 hx with hx | hx
      · exact h2 x hx
      · exact h4 x hx
end
theorem NdP.mono {P Q : Part → Prop} {p : Part} (h : NdP P p) (hQ : ∀ q, P q → Q q) : NdP Q p := fun q hq => hQ q (h q hq)
/-- What is asked of each node. -/
def OkN (W : List UInt8 → Prop) (q : Part) : Prop := q.shaped = true ∧ ∀ b ∈ bindsP q, W (bytesOf b)
theorem okB_of {W : List UInt8 → Prop} {p : Part} (h : NdP (OkN W) p) : okB W p := by
  intro b hb
  refine ⟨?_, h.self.2 b hb⟩
  cases p with
  | exp e => simp [bindsP] at hb
  | proc t =>
    obtain ⟨o, t, a, d, k⟩ := t
    have e : bindsP (.proc (.mk o t a d k)) = if o = 4 then channelsL d ++ placesL d else [] := rfl
    rw [e] at hb
    split at hb
    · obtain ⟨h1, h2⟩ := txL_pos d (fun c hc => (h.part (part_defs hc)).mono (fun q hq => hq.1))
      rcases List.mem_append.1 hb with hb | hb
      · unfold channelsL at hb
        rw [mem_chFold] at hb
        rcases hb with hb | hb
        · simp at hb
        · exact h1 b hb
      · exact h2 b hb
    · simp at hb
  | def_ c =>
    obtain ⟨f, t, j, d, k⟩ := c
    exact (shapedC_cases h.self.1).2.2.1 b hb
mutual
theorem okE_of : ∀ e : Exp, NdP (fun q => q.shaped = true) (.exp e) → okE e ∧ plainE e = true
  | .mk op n t kids, h => by
    obtain ⟨h1, h2⟩ := shapedE_cases h.self
    obtain ⟨h3, h4⟩ := okEs_of kids (fun e he => h.part (partE_kids he))
    unfold okE plainE
    refine ⟨⟨fun ho => (h1 ho).2, h2, h3⟩, ?_⟩
    rw [h4, Bool.and_true]
    by_cases ho : op = 2
    · obtain ⟨a, b, _⟩ := h1 ho
      rw [a, b]; simp
    · simp [ho]
theorem okEs_of : ∀ es : List Exp, (∀ e ∈ es, NdP (fun q => q.shaped = true) (.exp e)) → okEs es ∧ plainEs es = true
  | [], _ => by unfold okEs plainEs; exact ⟨trivial, rfl⟩
  | e :: es, h => by
    obtain ⟨h1, h2⟩ := okE_of e (h e (by simp))
    obtain ⟨h3, h4⟩ := okEs_of es (fun x hx => h x (by simp [hx]))
    unfold okEs plainEs
    exact ⟨⟨h1, h3⟩, by rw [h2, h4]; rfl⟩
end
mutual
theorem okC_of {W : List UInt8 → Prop} : ∀ c : Clause, NdP (OkN W) (.def_ c) → okC W c
  | .mk f t j d k, h => by
    obtain ⟨h1, h2, _⟩ := shapedC_cases h.self.1
    unfold okC
    exact ⟨fun hf => (h1 hf).1, h2, okB_of h, okCs_of d (fun c hc => h.part (partC_defs hc)), okTs_of k (fun c hc => h.part (partC_kids hc))⟩
theorem okCs_of {W : List UInt8 → Prop} : ∀ d : List Clause, (∀ c ∈ d, NdP (OkN W) (.def_ c)) → okCs W d
  | [], _ => by unfold okCs; trivial
  | c :: cs, h => by unfold okCs; exact ⟨okC_of c (h c (by simp)), okCs_of cs (fun x hx => h x (by simp [hx]))⟩
theorem okT_of {W : List UInt8 → Prop} : ∀ t : Term, NdP (OkN W) (.proc t) → okT W t
  | .mk o t a d k, h => by
    unfold okT
    exact ⟨(okEs_of a (fun c hc => (h.part (part_args hc)).mono (fun q hq => hq.1))).1, okB_of h, okCs_of d (fun c hc => h.part (part_defs hc)), okTs_of k (fun c hc => h.part (part_kids hc))⟩
theorem okTs_of {W : List UInt8 → Prop} : ∀ d : List Term, (∀ c ∈ d, NdP (OkN W) (.proc c)) → okTs W d
  | [], _ => by unfold okTs; trivial
  | c :: cs, h => by unfold okTs; exact ⟨okT_of c (h c (by simp)), okTs_of cs (fun x hx => h x (by simp [hx]))⟩
end
theorem tx_cons_len (c : Clause) (cs : List Clause) : (alltexts (groupsL (c :: cs))).length = (txC c).length + (alltexts (groupsL cs)).length := by
  rw [alltexts_L, alltexts_L, groupsI, alltexts_append]
  have : gtexts (c :: cs) = c.joins.map (·.text) ++ gtexts cs := by unfold gtexts; rw [List.flatMap_cons]
  rw [this]
  unfold txC
  simp only [List.length_append]
  omega
mutual
/-- How many names are bound at most. -/
theorem bcC_le : ∀ (c : Clause) (lev : Nat), NdP (fun q => q.shaped = true) (.def_ c) → bcC c + (txC c).length + (placesC c).length ≤ 13 * (nodesC lev c).length
  | .mk f t j d k, lev, h => by
    obtain ⟨h1, h2, _, _, h3, h4⟩ := shapedC_cases h.self
    have hd := bcCs_le d (lev + 1) (fun c hc => h.part (partC_defs hc))
    have hk := bcTs_le k (lev + 1) (fun c hc => h.part (partC_kids hc))
    rw [bcC, nodesC, List.length_cons, List.length_append]
    have hb : bindsP (.def_ (.mk f t j d k)) = j.flatMap (·.names) := rfl
    rw [hb]
    unfold txC groupsC placesC
    by_cases hf : f = 2
    · rw [if_pos hf, if_pos hf]
      obtain ⟨rfl, _⟩ := h1 hf
      have e : ([] : List Msg).flatMap (·.names) = [] := rfl
      have e2 : (Clause.mk f t [] d k).joins = [] := rfl
      rw [e, e2, List.length_cons]
      have e3 : alltexts (d :: groupsI d) = alltexts (groupsL d) := rfl
      rw [e3]
      simp only [List.map_nil, List.nil_append, List.length_nil]
      omega
    · rw [if_neg hf, if_neg hf]
      obtain rfl := h2 hf
      have e2 : (Clause.mk f t j [] k).joins = j := rfl
      rw [e2]
      simp only [alltexts, List.flatMap_nil, List.append_nil, List.length_map, List.length_nil, bcCs, nodesCs]
      omega
theorem bcCs_le : ∀ (d : List Clause) (lev : Nat), (∀ c ∈ d, NdP (fun q => q.shaped = true) (.def_ c)) → bcCs d + (alltexts (groupsL d)).length + (placesL d).length ≤ 13 * (nodesCs lev d).length
  | [], lev, _ => by simp [bcCs, nodesCs, groupsL, groupsI, alltexts, gtexts, placesL]
  | c :: cs, lev, h => by
    have h1 := bcC_le c lev (h c (by simp))
    have h2 := bcCs_le cs lev (fun x hx => h x (by simp [hx]))
    rw [bcCs, nodesCs, placesL, List.length_append, List.length_append, tx_cons_len]
    omega
theorem bcT_le : ∀ (t : Term) (lev : Nat), NdP (fun q => q.shaped = true) (.proc t) → bcT t ≤ 13 * (nodesT lev t).length
  | .mk o t a d k, lev, h => by
    have hd := bcCs_le d (lev + 1) (fun c hc => h.part (part_defs hc))
    have hk := bcTs_le k (lev + 1) (fun c hc => h.part (part_kids hc))
    rw [bcT, nodesT, List.length_cons, List.length_append, List.length_append]
    have e : bindsP (.proc (.mk o t a d k)) = if o = 4 then channelsL d ++ placesL d else [] := rfl
    have hb : (bindsP (.proc (.mk o t a d k))).length ≤ (alltexts (groupsL d)).length + (placesL d).length := by
      rw [e]
      split
      · rw [List.length_append]
        have := chFold_len [] (alltexts (groupsL d))
        unfold channelsL
        simp only [List.length_nil, Nat.zero_add] at this
        omega
      · simp
    omega
theorem bcTs_le : ∀ (d : List Term) (lev : Nat), (∀ c ∈ d, NdP (fun q => q.shaped = true) (.proc c)) → bcTs d ≤ 13 * (nodesTs lev d).length
  | [], lev, _ => by simp [bcTs]
  | c :: cs, lev, h => by
    have h1 := bcT_le c lev (h c (by simp))
    have h2 := bcTs_le cs lev (fun x hx => h x (by simp [hx]))
    rw [bcTs, nodesTs, List.length_append]
    omega
end
/-- How many names the nodes of a list bind. -/
def bsum (l : List (Part × Nat)) : Nat := (l.flatMap (fun q => bindsP q.1)).length
theorem bsum_append (a b : List (Part × Nat)) : bsum (a ++ b) = bsum a + bsum b := by unfold bsum; rw [List.flatMap_append, List.length_append]
theorem bsum_cons (a : Part × Nat) (b : List (Part × Nat)) : bsum (a :: b) = (bindsP a.1).length + bsum b := by unfold bsum; rw [List.flatMap_cons, List.length_append]
mutual
theorem bsum_E : ∀ (e : Exp) (lev : Nat), bsum (nodesE lev e) = 0
  | .mk o n t k, lev => by rw [nodesE, bsum_cons, bsum_Es k]; rfl
theorem bsum_Es : ∀ (e : List Exp) (lev : Nat), bsum (nodesEs lev e) = 0
  | [], lev => by rw [nodesEs]; rfl
  | e :: es, lev => by rw [nodesEs, bsum_append, bsum_E e, bsum_Es es]
end
mutual
theorem bsum_C : ∀ (e : Clause) (lev : Nat), bsum (nodesC lev e) = bcC e
  | .mk f t j d k, lev => by rw [nodesC, bsum_cons, bsum_append, bsum_Cs d, bsum_Ts k, bcC, Nat.add_assoc]
theorem bsum_Cs : ∀ (e : List Clause) (lev : Nat), bsum (nodesCs lev e) = bcCs e
  | [], lev => by rw [nodesCs]; rfl
  | e :: es, lev => by rw [nodesCs, bsum_append, bsum_C e, bsum_Cs es, bcCs]
theorem bsum_T : ∀ (e : Term) (lev : Nat), bsum (nodesT lev e) = bcT e
  | .mk o t a d k, lev => by rw [nodesT, bsum_cons, bsum_append, bsum_append, bsum_Es a, bsum_Cs d, bsum_Ts k, bcT, Nat.zero_add, Nat.add_assoc]
theorem bsum_Ts : ∀ (e : List Term) (lev : Nat), bsum (nodesTs lev e) = bcTs e
  | [], lev => by rw [nodesTs]; rfl
  | e :: es, lev => by rw [nodesTs, bsum_append, bsum_T e, bsum_Ts es, bcTs]
end
/-- All names that are written in a part. -/
def wlist (l : List (Part × Nat)) : List (List UInt8) := l.flatMap (fun q => bytesOf (standsP q.1) :: (bindsP q.1).map bytesOf)
theorem wlist_len : ∀ l, (wlist l).length = l.length + bsum l
  | [] => rfl
  | a :: l => by
    have h := wlist_len l
    rw [bsum_cons]
    unfold wlist at h ⊢
    rw [List.flatMap_cons, List.length_append, h]
    simp only [List.length_cons, List.length_map]
    omega
theorem written_mem {p : Part} {k : List UInt8} (h : writtenF p k = true) : k ∈ wlist (nodesOf 1 p) := by
  unfold writtenF at h
  obtain ⟨q, hq, hw⟩ := List.any_eq_true.1 h
  unfold wlist
  refine List.mem_flatMap.2 ⟨q, hq, ?_⟩
  unfold writesB at hw
  rw [Bool.or_eq_true, Bool.and_eq_true] at hw
  rcases hw with hw | hw
  · obtain ⟨b, hb, he⟩ := List.any_eq_true.1 hw
    exact List.mem_cons_of_mem _ (List.mem_map.2 ⟨b, hb, (by simpa using he : k = bytesOf b).symm⟩)
  · rw [(by simpa using hw.2 : k = bytesOf (standsP q.1))]; exact List.mem_cons_self
theorem cov_used (t : Term) (x : ByteArray) (e : Exp) (h1 : (Part.proc t).size ≤ 60) (h2 : NdP (fun q => q.shaped = true) (.proc t)) (h3 : (Part.exp e).size ≤ 60) : Cov (usedP t x e) 1000 := by
  refine ⟨wlist (nodesOf 1 (.proc t)) ++ wlist (nodesOf 1 (.exp e)) ++ [bytesOf x], fun k hk => ?_, ?_⟩
  · unfold usedP at hk
    rw [Bool.or_eq_true, Bool.or_eq_true] at hk
    rcases hk with (hk | hk) | hk
    · exact List.mem_append_left _ (List.mem_append_left _ (written_mem hk))
    · exact List.mem_append_left _ (List.mem_append_right _ (written_mem hk))
    · rw [(by simpa using hk : k = bytesOf x)]; exact List.mem_append_right _ (by simp)
  · rw [List.length_append, List.length_append, wlist_len, wlist_len]
    have e1 : bsum (nodesOf 1 (.proc t)) = bcT t := bsum_T t 1
    have e2 : bsum (nodesOf 1 (.exp e)) = 0 := bsum_E e 1
    have e3 := bcT_le t 1 h2
    have e4 : (nodesOf 1 (.proc t)).length ≤ 60 := by rw [nodesOf_len 1 0]; exact h1
    have e5 : (nodesOf 1 (.exp e)).length ≤ 60 := by rw [nodesOf_len 1 0]; exact h3
    have e6 : (nodesT 1 t).length ≤ 60 := e4
    rw [e1, e2]
    simp only [List.length_cons, List.length_nil]
    omega

theorem Env.frame0_becomes (b : Base) (n : ByteArray) : (Env.mk b [frame0]).becomes n = b.becomes n := rfl
/-- The free names of a process with an expression in place of a name. -/
theorem put_frees (t : Term) (x : ByteArray) (e : Exp) (h1 : (Part.proc t).size ≤ 60) (h2 : Fine (.proc t)) (h3 : (Part.exp e).size ≤ 60) (h4 : Fine (.exp e)) (y : Term × Used) (hy : copyT ⟨.putting x e, [frame0]⟩ (usedP t x e) t = some y) (k : List UInt8) :
    fT y.1 k = true ↔ (fT t k = true ∧ k ≠ bytesOf x) ∨ (fT t (bytesOf x) = true ∧ fE e k = true) := by
  obtain ⟨t', U'⟩ := y
  have hok : okT (fun k => usedP t x e k = true) t := okT_of t (fun q hq => ⟨h2 q hq, fun b hb => by
    unfold usedP writtenF
    rw [nodesOf_fst 0 1] at hq
    obtain ⟨z, hz, rfl⟩ := List.mem_map.1 hq
    have : (nodesOf 1 (.proc t)).any (fun q => writesB q.1 (bytesOf b)) = true := List.any_eq_true.2 ⟨z, hz, by
      unfold writesB
      rw [Bool.or_eq_true]
      exact .inl (List.any_eq_true.2 ⟨b, hb, by simp⟩)⟩
    rw [this]; rfl⟩)
  have hbase : BaseOk (Base.putting x e) := .inr ⟨x, e, rfl, (okE_of e h4).1, h3⟩
  have hst : ∀ (p : Part) (k : List UInt8), fP p k = true → writtenF p k = true := by
    intro p k hk
    have hk' : freeN p.size p k = true := by rw [freeN_fP _ p (Nat.le_refl _)]; exact hk
    have hgen : ∀ (s : Nat) (p : Part) (k : List UInt8), freeN s p k = true → ∃ q ∈ (nodesOf 0 p).map (·.1), writesB q k = true := by
      intro s
      induction s with
      | zero => intro p k h; simp [freeN] at h
      | succ s ih =>
        intro p k h
        rw [freeN, Bool.or_eq_true, Bool.and_eq_true] at h
        rcases h with ⟨h, _⟩ | h
        · obtain ⟨q, hq, hk⟩ := List.any_eq_true.1 h
          obtain ⟨r, hr, hw⟩ := ih q k hk
          rw [nodesOf_fst 0 1] at hr
          obtain ⟨z, hz, rfl⟩ := List.mem_map.1 hr
          refine ⟨z.1, ?_, hw⟩
          rw [nodesOf_eq]
          exact List.mem_map.2 ⟨z, List.mem_cons_of_mem _ (mem_nodesL hq hz), rfl⟩
        · refine ⟨p, by rw [nodesOf_eq]; simp, ?_⟩
          unfold writesB
          rw [h, Bool.or_true]
    obtain ⟨q, hq, hw⟩ := hgen _ p k hk'
    rw [nodesOf_fst 0 1] at hq
    obtain ⟨z, hz, rfl⟩ := List.mem_map.1 hq
    exact List.any_eq_true.2 ⟨z, hz, hw⟩
  have hUt : ∀ k, fT t k = true → usedP t x e k = true := fun k hk => by unfold usedP; rw [hst (.proc t) k hk]; rfl
  have hUe : ∀ k, fE e k = true → usedP t x e k = true := fun k hk => by unfold usedP; rw [hst (.exp e) k hk]; simp
  have hbec : ∀ n k, fE ((Env.mk (.putting x e) [frame0]).becomes n) k = true ↔ (n = x ∧ fE e k = true) ∨ (n ≠ x ∧ isT n k = true) := by
    intro n k
    rw [Env.frame0_becomes]
    simp only [Base.becomes]
    by_cases hn : n = x
    · rw [if_pos hn]; simp [hn]
    · rw [if_neg hn, fE_nameE]; simp [hn]
  have hisT : ∀ (n : ByteArray) k, isT n k = true → k = bytesOf n := fun n k h => by
    unfold isT at h; rw [Bool.and_eq_true] at h; simpa using h.2
  have hfit : Fit (fun k => usedP t x e k = true) ⟨.putting x e, [frame0]⟩ (usedP t x e) (fT t) := by
    refine ⟨fun n k h5 h6 => ?_, fun _ b hb => ⟨hb, fun n c hl => ?_⟩⟩
    · rcases (hbec n k).1 h6 with ⟨_, h6⟩ | ⟨_, h6⟩
      · exact hUe k h6
      · rw [hisT n k h6]; exact hUt _ h5
    · simp [lookF, frame0] at hl
  have hz : (nodesT 0 t).length ≤ 60 := h1
  have hbc := bcT_le t 0 (fun q hq => h2 q hq)
  have hr := (copyT_free t _ _ U' t' 1000 0 hbase hok hz hfit (cov_used t x e h1 h2 h3) (by omega) hy).1 k
  rw [hr]
  unfold Im
  have hne : ∀ n, fT t n = true → n ≠ [] := by
    intro n hn h0
    subst h0
    have hgen : ∀ (s : Nat) (p : Part), freeN s p [] = false := by
      intro s
      induction s with
      | zero => intro p; rfl
      | succ s ih =>
        intro p
        rw [freeN]
        have e1 : p.parts.any (fun q => freeN s q []) = false := by
          rw [List.any_eq_false]; intro q hq; rw [ih q]; simp
        rw [e1]
        cases bytesOf (standsP p) with
        | nil => rfl
        | cons a l => rfl
    have := freeN_fP 60 (.proc t) h1 []
    rw [hgen] at this
    rw [show fP (.proc t) [] = fT t [] from rfl, hn] at this
    cases this
  have hisT' : ∀ n : ByteArray, fT t (bytesOf n) = true → isT n (bytesOf n) = true := fun n hn => by
    have := hne _ hn
    unfold isT
    simp [this]
  constructor
  · rintro ⟨n, h5, h6⟩
    rcases (hbec n k).1 h6 with ⟨rfl, h8⟩ | ⟨h7, h6⟩
    · exact .inr ⟨h5, h8⟩
    · obtain rfl := hisT n k h6
      exact .inl ⟨h5, fun e => h7 (bytes_inj e)⟩
  · rintro (⟨h5, h6⟩ | ⟨h5, h6⟩)
    · refine ⟨mkB k, by rw [bytesOf_mkB]; exact h5, (hbec _ _).2 (.inr ⟨fun e => h6 (by rw [← e, bytesOf_mkB]), ?_⟩)⟩
      have := hisT' (mkB k) (by rw [bytesOf_mkB]; exact h5)
      rwa [bytesOf_mkB] at this
    · exact ⟨x, h5, (hbec _ _).2 (.inl ⟨rfl, h6⟩)⟩
end Go.Proofs.YtjmlaeofjjhfmaaGreat
