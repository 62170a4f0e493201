/- What a TermDef binds, chosen anew. -/
import Derived.Test.YtjmlaeofjjhfmaaGreatP43
set_option linter.unusedVariables false
set_option linter.unusedSimpArgs false
namespace Go.Proofs.YtjmlaeofjjhfmaaGreat
open Go.RowKit Go.Shelf Go.Maps

def jsig (j : Msg) : ByteArray × Nat := (j.text, j.names.length)
/-- How the channels of some definitions are used. -/
def gsig (g : List Clause) : List (ByteArray × Nat) := g.flatMap (fun c => c.joins.map jsig)
def rsig (f : ByteArray → ByteArray) (x : ByteArray × Nat) : ByteArray × Nat := (f x.1, x.2)
theorem gtexts_sig (g : List Clause) : gtexts g = (gsig g).map (·.1) := by
  unfold gtexts gsig
  rw [List.map_flatMap]
  congr 1
  funext c
  rw [List.map_map]
  rfl
theorem alltexts_sig (gs : List (List Clause)) : alltexts gs = ((gs.map gsig).flatMap id).map (·.1) := by
  unfold alltexts
  rw [List.map_flatMap, List.flatMap_map]
  congr 1
  funext g
  exact gtexts_sig g
theorem gsig_cons (c : Clause) (cs : List Clause) : gsig (c :: cs) = c.joins.map jsig ++ gsig cs := by unfold gsig; rw [List.flatMap_cons]
theorem texts_anew {v : Env} (hb : v.base = .anew) : ∀ l l' : List ByteArray, (∀ x ∈ l, x.size ≠ 0) → textsM v l = some l' → l' = l.map (nm v)
  | [], l', _, h => by rw [textsM] at h; cases h; rfl
  | a :: l, l', hz, h => by
    rw [textsM, anew_text hb (hz a (by simp))] at h
    simp only at h
    cases h2 : textsM v l with
    | none => rw [h2] at h; cases h
    | some bs => rw [h2] at h; cases h; rw [texts_anew hb l bs (fun x hx => hz x (by simp [hx])) h2]; rfl
theorem msgs_anew {v i : Env} (hb : v.base = .anew) (hi : i.base = .anew) : ∀ js js' : List Msg, (∀ x ∈ js.map (·.text), x.size ≠ 0) → (∀ x ∈ js.flatMap (·.names), x.size ≠ 0) → msgsM v i js = some js' →
    js' = js.map (fun j => ⟨nm v j.text, j.names.map (nm i)⟩)
  | [], js', _, _, h => by rw [msgsM] at h; cases h; rfl
  | a :: l, js', h1, h2, h => by
    rw [msgsM] at h
    unfold msgM at h
    rw [anew_text hb (h1 a.text (by simp))] at h
    simp only at h
    cases h3 : textsM i a.names with
    | none => rw [h3] at h; cases h
    | some ns =>
      rw [h3] at h
      simp only at h
      have e := texts_anew hi a.names ns (fun x hx => h2 x (by rw [List.flatMap_cons]; exact List.mem_append_left _ hx)) h3
      cases h4 : msgsM v i l with
      | none => rw [h4] at h; cases h
      | some bs =>
        rw [h4] at h; cases h
        rw [msgs_anew hb hi l bs (fun x hx => h1 x (by rw [List.map_cons]; exact List.mem_cons_of_mem _ hx)) (fun x hx => h2 x (by rw [List.flatMap_cons]; exact List.mem_append_right _ hx)) h4, e]
        rfl
theorem sig_map (v i : Env) (js : List Msg) : (js.map (fun j => (⟨nm v j.text, j.names.map (nm i)⟩ : Msg))).map jsig = (js.map jsig).map (rsig (nm v)) := by
  rw [List.map_map, List.map_map]
  congr 1
  funext j
  simp [jsig, rsig]
theorem names_map (v i : Env) : ∀ js : List Msg, (js.map (fun j => (⟨nm v j.text, j.names.map (nm i)⟩ : Msg))).flatMap (·.names) = (js.flatMap (·.names)).map (nm i)
  | [] => rfl
  | j :: js => by rw [List.map_cons, List.flatMap_cons, List.flatMap_cons, List.map_append, names_map v i js]
/-- A node that is shaped, and binds each name once. -/
def QA (q : Part) : Prop := q.shaped = true ∧ ((bindsP q).map bytesOf).Nodup
mutual
theorem copyC_sig : ∀ (c : Clause) (v : Env) (U U' : Used) (c' : Clause), v.base = .anew → NdP QA (.def_ c) → copyC v U c = some (c', U') →
    c'.joins.map jsig = (c.joins.map jsig).map (rsig (nm v)) ∧ (groupsC c').map gsig = (groupsC c).map (fun g => (gsig g).map (rsig (nm v))) ∧ placesC c' = (placesC c).map (nm v)
  | .mk f t j d k, v, U, U', c', hb, hf, h => by
    obtain ⟨t', j', d', U2, k', e1, e2, e3, e4, rfl⟩ := copyC_inv h
    obtain ⟨h1, h2, h3, h4, _⟩ := shapedC_cases hf.self.1
    have hi := inside_anew (U := U) (p := .def_ (.mk f t j d k)) hb hf.self.2
    obtain rfl := msgs_anew hb hi.base j j' h4 h3 e2
    refine ⟨sig_map _ _ _, ?_⟩
    by_cases hf2 : f = 2
    · obtain ⟨rfl, htz⟩ := h1 hf2
      rw [inside_nil (p := .def_ (.mk f t [] d k)) rfl] at e3
      obtain ⟨g1, g2, g3⟩ := copyCs_sig d v U U2 d' hb (fun c hc => hf.part (partC_defs hc)) e3
      rw [groupsC, groupsC, if_pos hf2, if_pos hf2, placesC, placesC, if_pos hf2, if_pos hf2]
      rw [anew_text hb htz] at e1
      cases e1
      exact ⟨by rw [List.map_cons, List.map_cons, g1, g2], by rw [List.map_cons, g3]⟩
    · rw [groupsC, groupsC, if_neg hf2, if_neg hf2, placesC, placesC, if_neg hf2, if_neg hf2]
      exact ⟨rfl, rfl⟩
theorem copyCs_sig : ∀ (d : List Clause) (v : Env) (U U' : Used) (d' : List Clause), v.base = .anew → (∀ c ∈ d, NdP QA (.def_ c)) → copyCs v U d = some (d', U') →
    gsig d' = (gsig d).map (rsig (nm v)) ∧ (groupsI d').map gsig = (groupsI d).map (fun g => (gsig g).map (rsig (nm v))) ∧ placesL d' = (placesL d).map (nm v)
  | [], v, U, U', d', _, _, h => by
    rw [copyCs] at h; cases h
    exact ⟨rfl, rfl, rfl⟩
  | c :: cs, v, U, U', d', hb, hf, h => by
    obtain ⟨b, U2, bs, e1, e2, rfl⟩ := copyCs_inv h
    obtain ⟨g1, g2, g3⟩ := copyC_sig c v U U2 b hb (hf c (by simp)) e1
    obtain ⟨k1, k2, k3⟩ := copyCs_sig cs v U2 U' bs hb (fun x hx => hf x (by simp [hx])) e2
    refine ⟨by rw [gsig_cons, gsig_cons, List.map_append, g1, k1], ?_, by rw [placesL, placesL, List.map_append, g3, k3]⟩
    rw [groupsI, groupsI, List.map_append, List.map_append, g2, k2]
end
theorem groups_sig {f : ByteArray → ByteArray} {d d' : List Clause} (h1 : gsig d' = (gsig d).map (rsig f)) (h2 : (groupsI d').map gsig = (groupsI d).map (fun g => (gsig g).map (rsig f))) : (groupsL d').map gsig = (groupsL d).map (fun g => (gsig g).map (rsig f)) := by
  unfold groupsL; rw [List.map_cons, List.map_cons, h1, h2]
theorem alltexts_ren {f : ByteArray → ByteArray} {gs gs' : List (List Clause)} (h : gs'.map gsig = gs.map (fun g => (gsig g).map (rsig f))) : alltexts gs' = (alltexts gs).map f := by
  rw [alltexts_sig, alltexts_sig, h]
  rw [List.map_flatMap, List.map_flatMap, List.map_flatMap, List.flatMap_map, List.flatMap_map]
  congr 1
  funext g
  simp only [id]
  rw [List.map_map, List.map_map]
  rfl
theorem chFold_ren {f : ByteArray → ByteArray} : ∀ (xs l : List ByteArray), (∀ a ∈ l ++ xs, ∀ b ∈ l ++ xs, f a = f b → a = b) → chFold (l.map f) (xs.map f) = (chFold l xs).map f
  | [], l, _ => rfl
  | x :: xs, l, h => by
    have e : ∀ l x xs, chFold l (x :: xs) = chFold (chStep l x) xs := fun _ _ _ => rfl
    rw [List.map_cons, e, e]
    have hs : chStep (l.map f) (f x) = (chStep l x).map f := by
      unfold chStep
      have hin : inSet ((l.map f).map bytesOf) (bytesOf (f x)) = inSet (l.map bytesOf) (bytesOf x) := by
        unfold inSet
        rw [Bool.eq_iff_iff, List.any_eq_true, List.any_eq_true]
        constructor
        · rintro ⟨y, hy, he⟩
          rw [List.map_map] at hy
          obtain ⟨z, hz, rfl⟩ := List.mem_map.1 hy
          have : f z = f x := bytes_inj (by simpa using he)
          have := h z (by simp [hz]) x (by simp) this
          exact ⟨bytesOf z, List.mem_map.2 ⟨z, hz, rfl⟩, by rw [this]; simp⟩
        · rintro ⟨y, hy, he⟩
          obtain ⟨z, hz, rfl⟩ := List.mem_map.1 hy
          have : z = x := bytes_inj (by simpa using he)
          subst this
          exact ⟨bytesOf (f z), List.mem_map.2 ⟨f z, List.mem_map.2 ⟨z, hz, rfl⟩, rfl⟩, by simp⟩
      rw [hin]
      split
      · rfl
      · rw [List.map_append]; rfl
    rw [hs]
    have hsub : ∀ a, a ∈ chStep l x ++ xs → a ∈ l ++ x :: xs := fun a ha => by
      rcases List.mem_append.1 ha with ha | ha
      · unfold chStep at ha
        split at ha
        · exact List.mem_append_left _ ha
        · rcases List.mem_append.1 ha with ha | ha
          · exact List.mem_append_left _ ha
          · rw [List.mem_singleton.1 ha]; simp
      · exact List.mem_append_right _ (List.mem_cons_of_mem _ ha)
    exact chFold_ren xs _ (fun a ha b hb => h a (hsub a ha) b (hsub b hb))
theorem chFold_nodup : ∀ (xs l : List ByteArray), (l.map bytesOf).Nodup → ((chFold l xs).map bytesOf).Nodup
  | [], l, h => h
  | x :: xs, l, h => by
    have e : chFold l (x :: xs) = chFold (chStep l x) xs := rfl
    rw [e]
    refine chFold_nodup xs _ ?_
    unfold chStep
    split
    · exact h
    · rename_i hn
      rw [List.map_append, List.nodup_append]
      refine ⟨h, by simp, fun a ha b hb => ?_⟩
      rw [List.map_cons, List.map_nil, List.mem_singleton] at hb
      subst hb
      intro he
      subst he
      refine hn ?_
      unfold inSet
      exact List.any_eq_true.2 ⟨_, ha, by simp⟩
theorem agree_sig {d : List Clause} {U : List UInt8 → Int × Int} : (∀ i, (h : i < (groupsL d).length) → ∀ c ∈ (groupsL d)[i], ∀ j ∈ c.joins, U (bytesOf j.text) = ((i : Int), (j.names.length : Int))) ↔
    ∀ (i : Nat) (g : List (ByteArray × Nat)), ((groupsL d).map gsig)[i]? = some g → ∀ x ∈ g, U (bytesOf x.1) = ((i : Int), (x.2 : Int)) := by
  constructor
  · intro h i g hg x hx
    rw [List.getElem?_map] at hg
    cases hq : (groupsL d)[i]? with
    | none => rw [hq] at hg; cases hg
    | some g0 =>
      rw [hq] at hg
      cases hg
      obtain ⟨hi, rfl⟩ := List.getElem?_eq_some_iff.1 hq
      unfold gsig at hx
      obtain ⟨c, hc, hx⟩ := List.mem_flatMap.1 hx
      obtain ⟨j, hj, rfl⟩ := List.mem_map.1 hx
      exact h i hi c hc j hj
  · intro h i hi c hc j hj
    refine h i (gsig (groupsL d)[i]) (by rw [List.getElem?_map, List.getElem?_eq_getElem hi]; rfl) (jsig j) ?_
    unfold gsig
    exact List.mem_flatMap.2 ⟨c, hc, List.mem_map.2 ⟨j, hj, rfl⟩⟩
/-- What is asked of a TermDef's definitions holds of what they become, if different names become different ones. -/
theorem defsOk_ren {f : ByteArray → ByteArray} {d d' : List Clause} (h : DefsOk d) (hz : csize d' = csize d) (h1 : (groupsL d').map gsig = (groupsL d).map (fun g => (gsig g).map (rsig f))) (h2 : placesL d' = (placesL d).map f)
    (hinj : ∀ a ∈ alltexts (groupsL d) ++ placesL d, ∀ b ∈ alltexts (groupsL d) ++ placesL d, f a = f b → a = b) : DefsOk d' := by
  obtain ⟨U, c1, c2, c3, c4, c5⟩ := h
  have ht := alltexts_ren h1
  let U' : List UInt8 → Int × Int := fun k => match (alltexts (groupsL d)).find? (fun y => bytesOf (f y) == k) with
    | some y => U (bytesOf y)
    | none => (0, 0)
  have hU : ∀ y ∈ alltexts (groupsL d), U' (bytesOf (f y)) = U (bytesOf y) := by
    intro y hy
    show (match (alltexts (groupsL d)).find? (fun z => bytesOf (f z) == bytesOf (f y)) with
      | some y => U (bytesOf y)
      | none => (0, 0)) = _
    cases hfd : (alltexts (groupsL d)).find? (fun z => bytesOf (f z) == bytesOf (f y)) with
    | none => exact absurd (List.find?_eq_none.1 hfd y hy) (by simp)
    | some z =>
      have hz1 := List.find?_some hfd
      have hz2 := List.mem_of_find?_eq_some hfd
      have := hinj z (List.mem_append_left _ hz2) y (List.mem_append_left _ hy) (bytes_inj (by simpa using hz1))
      rw [this]
  refine ⟨U', by rw [hz]; exact c1, by rw [ht, List.length_map]; exact c2, agree_sig.2 ?_, ?_, ?_⟩
  · have c3' := agree_sig.1 c3
    intro i g hg x hx
    rw [h1, List.getElem?_map] at hg
    cases hq : (groupsL d)[i]? with
    | none => rw [hq] at hg; cases hg
    | some g0 =>
      rw [hq] at hg
      cases hg
      obtain ⟨y, hy, rfl⟩ := List.mem_map.1 hx
      have h3 := c3' i (gsig g0) (by rw [List.getElem?_map, hq]; rfl) y hy
      have hyt : y.1 ∈ alltexts (groupsL d) := by
        obtain ⟨hi, rfl⟩ := List.getElem?_eq_some_iff.1 hq
        rw [alltexts_sig]
        exact List.mem_map.2 ⟨y, List.mem_flatMap.2 ⟨gsig (groupsL d)[i], List.mem_map.2 ⟨_, List.getElem_mem hi, rfl⟩, hy⟩, rfl⟩
      show U' (bytesOf (f y.1)) = _
      rw [hU _ hyt]
      exact h3
  · intro p hp
    rw [h2] at hp
    obtain ⟨q, hq, rfl⟩ := List.mem_map.1 hp
    have h4 := c4 q hq
    cases hin : inSet ((alltexts (groupsL d')).map bytesOf) (bytesOf (f q)) with
    | false => rfl
    | true =>
      unfold inSet at hin h4
      obtain ⟨y, hy, he⟩ := List.any_eq_true.1 hin
      rw [ht, List.map_map] at hy
      obtain ⟨z, hz, rfl⟩ := List.mem_map.1 hy
      have : z = q := hinj z (List.mem_append_left _ hz) q (List.mem_append_right _ hq) (bytes_inj (by simpa using he))
      subst this
      rw [List.any_eq_false] at h4
      exact absurd (by simp) (h4 (bytesOf z) (List.mem_map.2 ⟨z, hz, rfl⟩))
  · rw [h2, List.map_map]
    have : ∀ l : List ByteArray, (∀ a ∈ l, a ∈ placesL d) → (l.map bytesOf).Nodup → (l.map (bytesOf ∘ f)).Nodup := by
      intro l
      induction l with
      | nil => intro _ _; exact List.nodup_nil
      | cons x l ih =>
        intro hl hn
        rw [List.map_cons, List.nodup_cons] at hn ⊢
        refine ⟨fun hm => ?_, ih (fun a ha => hl a (by simp [ha])) hn.2⟩
        obtain ⟨y, hy, he⟩ := List.mem_map.1 hm
        have := hinj y (List.mem_append_right _ (hl y (by simp [hy]))) x (List.mem_append_right _ (hl x (by simp))) (bytes_inj he)
        subst this
        exact hn.1 (List.mem_map.2 ⟨y, hy, rfl⟩)
    exact this _ (fun _ h => h) c5
end Go.Proofs.YtjmlaeofjjhfmaaGreat
/- Expressions and joins with other names. -/
namespace Go.Proofs.YtjmlaeofjjhfmaaGreat
open Go.RowKit Go.Shelf Go.Maps

theorem nameE_free {s : ByteArray} (h : s.size ≠ 0) : fE (nameE s) (bytesOf s) = true := by rw [fE_nameE]; exact (isT_iff h).2 rfl
/-- What is asked of each node of a process whose bound names are chosen anew. -/
def QC (q : Part) : Prop := QA q ∧ nodeOk q
def QD (q : Part) : Prop := q.shaped = true ∧ nodeOk q
theorem self_map {α : Type} {f : α → α} {l : List α} (h : l.map f = l) : ∀ x ∈ l, f x = x := by
  intro x hx
  obtain ⟨i, hi, rfl⟩ := List.mem_iff_getElem.1 hx
  have e : (l.map f)[i]? = l[i]? := by rw [h]
  rw [List.getElem?_map, List.getElem?_eq_getElem hi] at e
  exact Option.some.inj e
abbrev TW : List UInt8 → Prop := fun _ => True
/-- Within a part: names, and names that have been chosen before. -/
theorem rel_in {v v2 : Env} {U : Used} {p p' : Part} {i i2 : Env × Used} {m : Nat} (h : InA v U p i) (h2 : InA v2 U p' i2) (hC : Cov U m) (hm : m + (bindsP p).length ≤ 4900) (hp : bindsP p' = (picks (bindsP p).length U).1)
    {A : List UInt8 → Bool} (hv : v.base = .anew) (hF : Fit TW v U A) (hnm : ∀ n, A (bytesOf n) = true → nameB (nm v n) = true) (hrel : ∀ n, A (bytesOf n) = true → nm v2 (nm v n) = nm v n)
    (n : ByteArray) (hn : bndP p (bytesOf n) = true ∨ A (bytesOf n) = true) : nm i2.1 (nm i.1 n) = nm i.1 n := by
  have hlen : (bindsP p').length = (bindsP p).length := by rw [hp, picks_len]
  have hself : (bindsP p').map (nm i2.1) = bindsP p' := by rw [h2.new, hlen, ← hp]
  cases hb : bndP p (bytesOf n) with
  | true =>
    have := h.nm_new hb
    rw [← hp] at this
    exact self_map hself _ this
  | false =>
    have hA : A (bytesOf n) = true := hn.elim (fun h => by rw [hb] at h; cases h) id
    rw [h.nm_old hb]
    have hname := hnm n hA
    have hz := nameB_pos hname
    have hU : U (bytesOf (nm v n)) = true := hF.used n _ hA (by rw [anew_becomes hv]; exact nameE_free hz)
    have hnb : bndP p' (bytesOf (nm v n)) = false := by
      cases hq : bndP p' (bytesOf (nm v n)) with
      | false => rfl
      | true =>
        obtain ⟨b, hbm, hbe⟩ := (bndP_iff p' _).1 hq
        rw [hp] at hbm
        have := ((picks_ok _ U m hC hm).1 b hbm).2.1
        rw [← hbe, hU] at this; cases this
    rw [h2.nm_old hnb]
    exact hrel n hA
theorem name_in {v : Env} {U : Used} {p : Part} {i : Env × Used} {m : Nat} (h : InA v U p i) (hC : Cov U m) (hm : m + (bindsP p).length ≤ 4900) {A : List UInt8 → Bool} (hnm : ∀ n, A (bytesOf n) = true → nameB (nm v n) = true)
    (n : ByteArray) (hn : bndP p (bytesOf n) = true ∨ A (bytesOf n) = true) : nameB (nm i.1 n) = true := by
  cases hb : bndP p (bytesOf n) with
  | true => exact ((picks_ok _ U m hC hm).1 _ (h.nm_new hb)).1
  | false =>
    rw [h.nm_old hb]
    exact hnm n (hn.elim (fun h => by rw [hb] at h; cases h) id)
theorem NdP.mk_ {P : Part → Prop} {p : Part} (h : P p) (hq : ∀ q ∈ p.parts, NdP P q) : NdP P p := NdP.of_parts h hq
theorem copyEs_len (v : Env) : ∀ l, (copyEs v l).length = l.length
  | [] => rfl
  | a :: l => by rw [copyEs, List.length_cons, copyEs_len v l]; rfl
mutual
theorem anewE : ∀ (e : Exp) (v : Env) (lev : Nat), v.base = .anew → NdP (fun q => q.shaped = true) (.exp e) → (∀ n, fE e (bytesOf n) = true → nameB (nm v n) = true) →
    NdP QD (.exp (copyE v e)) ∧ (nodesE lev (copyE v e)).map (·.2) = (nodesE lev e).map (·.2) ∧ (∀ v2 : Env, v2.base = .anew → (∀ n, fE e (bytesOf n) = true → nm v2 (nm v n) = nm v n) → copyE v2 (copyE v e) = copyE v e)
  | .mk op n t kids, v, lev, hb, hf, hn => by
    obtain ⟨h1, h2⟩ := shapedE_cases hf.self
    rw [copyE]
    by_cases ho : op = 2
    · obtain ⟨rfl, rfl, htz⟩ := h1 ho
      subst ho
      have hfr : fE (.mk 2 0 t []) (bytesOf t) = true := by rw [fE, fEs, Bool.false_or]; exact (isT_iff htz).2 rfl
      have hnt := hn t hfr
      rw [if_pos rfl, anew_becomes hb]
      refine ⟨NdP.mk_ ⟨?_, trivial⟩ (fun q hq => by simp [nameE, Part.parts] at hq), ?_, fun v2 hb2 hr => ?_⟩
      · simp [nameE, Part.shaped, shapedEB, hnt]
      · simp [nameE, nodesE, nodesEs]
      · rw [nameE, copyE, if_pos rfl, anew_becomes hb2, hr t hfr, nameE]
    · rw [if_neg ho]
      obtain ⟨g1, g2, g3⟩ := anewEs kids v (lev + 1) hb (fun e he => hf.part (partE_kids he)) (fun m hm => hn m (by rw [fE, hm, Bool.true_or]))
      refine ⟨NdP.mk_ ⟨?_, trivial⟩ (fun q hq => ?_), ?_, fun v2 hb2 hr => ?_⟩
      · have := hf.self
        simp only [Part.shaped, shapedEB, copyEs_len] at this ⊢
        exact this
      · rw [Part.parts] at hq
        obtain ⟨e, he, rfl⟩ := List.mem_map.1 hq
        exact g1 e he
      · rw [nodesE, nodesE, List.map_cons, List.map_cons, g2]
      · rw [copyE, if_neg ho, g3 v2 hb2 (fun m hm => hr m (by rw [fE, hm, Bool.true_or]))]
theorem anewEs : ∀ (l : List Exp) (v : Env) (lev : Nat), v.base = .anew → (∀ e ∈ l, NdP (fun q => q.shaped = true) (.exp e)) → (∀ n, fEs l (bytesOf n) = true → nameB (nm v n) = true) →
    (∀ e ∈ copyEs v l, NdP QD (.exp e)) ∧ (nodesEs lev (copyEs v l)).map (·.2) = (nodesEs lev l).map (·.2) ∧ (∀ v2 : Env, v2.base = .anew → (∀ n, fEs l (bytesOf n) = true → nm v2 (nm v n) = nm v n) → copyEs v2 (copyEs v l) = copyEs v l)
  | [], v, lev, _, _, _ => ⟨fun e he => by simp [copyEs] at he, rfl, fun _ _ _ => rfl⟩
  | a :: l, v, lev, hb, hf, hn => by
    obtain ⟨a1, a2, a3⟩ := anewE a v lev hb (hf a (by simp)) (fun m hm => hn m (by rw [fEs, hm, Bool.true_or]))
    obtain ⟨b1, b2, b3⟩ := anewEs l v lev hb (fun x hx => hf x (by simp [hx])) (fun m hm => hn m (by rw [fEs, hm, Bool.or_true]))
    rw [copyEs]
    refine ⟨fun e he => ?_, by rw [nodesEs, nodesEs, List.map_append, List.map_append, a2, b2], fun v2 hb2 hr => ?_⟩
    · rcases List.mem_cons.1 he with rfl | he
      · exact a1
      · exact b1 e he
    · rw [copyEs, a3 v2 hb2 (fun m hm => hr m (by rw [fEs, hm, Bool.true_or])), b3 v2 hb2 (fun m hm => hr m (by rw [fEs, hm, Bool.or_true]))]
end
theorem joined_ren {v i : Env} {j : List Msg} (h : joinedB j = true) (ht : ∀ x ∈ j.map (·.text), nameB (nm v x) = true) (hinj : ∀ a ∈ j.map (·.text), ∀ b ∈ j.map (·.text), nm v a = nm v b → a = b)
    (hn : ∀ c ∈ (j.flatMap (·.names)).map (nm i), nameB c = true) (hnd : (((j.flatMap (·.names)).map (nm i)).map bytesOf).Nodup) : joinedB (j.map (fun j => (⟨nm v j.text, j.names.map (nm i)⟩ : Msg))) = true := by
  unfold joinedB at h ⊢
  simp only [Bool.and_eq_true, decide_eq_true_eq, List.all_eq_true] at h ⊢
  obtain ⟨⟨⟨⟨h1, h2⟩, h3⟩, h4⟩, h5⟩ := h
  rw [differB_iff] at h4
  rw [differB_iff, differB_iff, names_map]
  have e1 : (j.map (fun j => (⟨nm v j.text, j.names.map (nm i)⟩ : Msg))).map (·.text) = (j.map (·.text)).map (nm v) := by rw [List.map_map, List.map_map]; rfl
  rw [e1, List.length_map]
  refine ⟨⟨⟨⟨h1, h2⟩, fun x hx => ?_⟩, fun s hs => ?_, ?_⟩, hn, hnd⟩
  · obtain ⟨y, hy, rfl⟩ := List.mem_map.1 hx
    simpa using h3 y hy
  · obtain ⟨y, hy, rfl⟩ := List.mem_map.1 hs
    exact ht y hy
  · have : ∀ l : List ByteArray, (∀ a ∈ l, a ∈ j.map (·.text)) → (l.map bytesOf).Nodup → ((l.map (nm v)).map bytesOf).Nodup := by
      intro l
      induction l with
      | nil => intro _ _; exact List.nodup_nil
      | cons x l ih =>
        intro hl hn
        rw [List.map_cons, List.nodup_cons] at hn
        rw [List.map_cons, List.map_cons, List.nodup_cons]
        refine ⟨fun hm => ?_, ih (fun a ha => hl a (by simp [ha])) hn.2⟩
        obtain ⟨y, hy, he⟩ := List.mem_map.1 hm
        obtain ⟨z, hz, rfl⟩ := List.mem_map.1 hy
        have := hinj z (hl z (by simp [hz])) x (hl x (by simp)) (bytes_inj he)
        subst this
        exact hn.1 (List.mem_map.2 ⟨z, hz, rfl⟩)
    exact this _ (fun _ h => h) h4.2
theorem okC_fine {c : Clause} (h : NdP QC (.def_ c)) : okC TW c := okC_of c (h.mono (fun q hq => ⟨hq.1.1, fun _ _ => trivial⟩))
theorem okT_fine {c : Term} (h : NdP QC (.proc c)) : okT TW c := okT_of c (h.mono (fun q hq => ⟨hq.1.1, fun _ _ => trivial⟩))
theorem copyCs_len {v : Env} : ∀ (d d' : List Clause) (U U' : Used), copyCs v U d = some (d', U') → d'.length = d.length
  | [], d', U, U', h => by rw [copyCs] at h; cases h; rfl
  | a :: l, d', U, U', h => by
    obtain ⟨b, U2, bs, e1, e2, rfl⟩ := copyCs_inv h
    rw [List.length_cons, List.length_cons, copyCs_len l bs U2 U' e2]
theorem copyTs_len {v : Env} : ∀ (d d' : List Term) (U U' : Used), copyTs v U d = some (d', U') → d'.length = d.length
  | [], d', U, U', h => by rw [copyTs] at h; cases h; rfl
  | a :: l, d', U, U', h => by
    obtain ⟨b, U2, bs, e1, e2, rfl⟩ := copyTs_inv h
    rw [List.length_cons, List.length_cons, copyTs_len l bs U2 U' e2]
end Go.Proofs.YtjmlaeofjjhfmaaGreat
