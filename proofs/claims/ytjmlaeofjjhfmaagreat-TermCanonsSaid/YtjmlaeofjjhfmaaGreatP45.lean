/- Processes whose bound names are chosen anew: formed, as deep, and they stay as they are. -/
import Derived.Test.YtjmlaeofjjhfmaaGreatP44
set_option linter.unusedVariables false
set_option linter.unusedSimpArgs false
namespace Go.Proofs.YtjmlaeofjjhfmaaGreat
open Go.RowKit Go.Shelf Go.Maps

theorem len_levels {a b : List (Part × Nat)} (h : a.map (·.2) = b.map (·.2)) : a.length = b.length := by
  have := congrArg List.length h
  simpa using this
theorem csize_lev (lev : Nat) (d : List Clause) : (nodesCs lev d).length = csize d := by
  unfold csize; rw [szCs_lev, szCs_lev]
/-- The names that a TermDef binds, chosen anew. -/
theorem binds_ren {v : Env} {U U' : Used} {i : Env × Used} {o : Int} {t t' : ByteArray} {a a' : List Exp} {d d' : List Clause} {k k' : List Term} {m : Nat} (h : InA v U (.proc (.mk o t a d k)) i) (ho : o = 4) (hC : Cov U m) (hm : m + (bindsP (.proc (.mk o t a d k))).length ≤ 4900)
    (h1 : gsig d' = (gsig d).map (rsig (nm i.1))) (h2 : (groupsI d').map gsig = (groupsI d).map (fun g => (gsig g).map (rsig (nm i.1)))) (h3 : placesL d' = (placesL d).map (nm i.1)) :
    bindsP (.proc (.mk o t' a' d' k')) = (picks (bindsP (.proc (.mk o t a d k))).length U).1 ∧
      (∀ x ∈ alltexts (groupsL d) ++ placesL d, x ∈ bindsP (.proc (.mk o t a d k))) := by
  have eb : ∀ t a d k, bindsP (.proc (.mk o t a d k)) = channelsL d ++ placesL d := fun t a d k => by
    have : bindsP (.proc (.mk o t a d k)) = if o = 4 then channelsL d ++ placesL d else [] := rfl
    rw [this, if_pos ho]
  have hsub : ∀ x ∈ alltexts (groupsL d) ++ placesL d, x ∈ bindsP (.proc (.mk o t a d k)) := fun x hx => by
    rw [eb]
    rcases List.mem_append.1 hx with hx | hx
    · exact List.mem_append_left _ (by unfold channelsL; rw [mem_chFold]; exact .inr hx)
    · exact List.mem_append_right _ hx
  refine ⟨?_, hsub⟩
  have hinj := h.inj hC hm
  have hch : channelsL d' = (channelsL d).map (nm i.1) := by
    unfold channelsL
    rw [alltexts_ren (groups_sig h1 h2)]
    exact chFold_ren _ [] (fun a ha b hb => hinj a (hsub a (List.mem_append_left _ (by simpa using ha))) b (hsub b (List.mem_append_left _ (by simpa using hb))))
  rw [← h.new, eb, eb, List.map_append, hch, h3]

mutual
theorem anewT : ∀ (t : Term) (v : Env) (U : Used) (m lev : Nat), v.base = .anew → NdP QC (.proc t) → (nodesT lev t).length ≤ 60 → Fit TW v U (fT t) → Cov U m → m + bcT t ≤ 4900 → (∀ n, fT t (bytesOf n) = true → nameB (nm v n) = true) →
    ∃ t' U', copyT v U t = some (t', U') ∧ NdP QD (.proc t') ∧ (nodesT lev t').map (·.2) = (nodesT lev t).map (·.2) ∧
      (∀ v2 : Env, v2.base = .anew → (∀ n, fT t (bytesOf n) = true → nm v2 (nm v n) = nm v n) → copyT v2 U t' = some (t', U'))
  | .mk o t a d ks, v, U, m, lev, hb, hf, h60, hF, hC, hm, hn => by
    obtain ⟨p, hp⟩ : ∃ p, p = Part.proc (.mk o t a d ks) := ⟨_, rfl⟩
    have hself := hf.self
    have h60' := h60
    have hz : p.size ≤ 60 := by rw [hp, Part.size, nodesOf_len 0 lev]; exact h60
    rw [nodesT] at h60
    simp only [List.length_cons, List.length_append] at h60
    rw [bcT] at hm
    have hok := okT_fine hf
    unfold okT at hok
    obtain ⟨k1, k2, k3, k4⟩ := hok
    rw [← hp] at k2 hm
    have hbase : BaseOk v.base := .inl hb
    have hI := inside_ok (m := m) hbase k2 (by rw [hp]; exact hF) hz hC (by omega)
    have hA := inside_anew (U := U) (p := p) hb (by rw [hp]; exact hself.1.2)
    obtain ⟨i, hi⟩ : ∃ i, i = inside v U p := ⟨_, rfl⟩
    rw [← hi] at hI hA
    have hfp : ∀ k, fP p k = (((fEs a k || fCs d k || fTs ks k) && !bndP p k) || isT t k) := fun k => by rw [hp]; show fT _ k = _; rw [fT]
    have hinn : ∀ k, (fEs a k || fCs d k || fTs ks k) = true → bndP p k = true ∨ fP p k = true := fun k hk => by
      cases hbk : bndP p k with
      | true => exact .inl rfl
      | false => exact .inr (by rw [hfp, hbk]; simp only [Bool.not_false, Bool.and_true]; rw [hk]; rfl)
    have hfit := hI.fits (fun k => fEs a k || fCs d k || fTs ks k) hinn
    have hnp : ∀ n, fP p (bytesOf n) = true → nameB (nm v n) = true := fun n h => hn n (by rw [hp] at h; exact h)
    have hname : ∀ n, (fEs a (bytesOf n) || fCs d (bytesOf n) || fTs ks (bytesOf n)) = true → nameB (nm i.1 n) = true := fun n h => name_in hA hC (by omega) hnp n (hinn _ h)
    have hmm : m + (bindsP p).length + bcCs d ≤ 4900 := by omega
    -- the definitions
    have hdef : (∀ x ∈ alltexts (groupsL d) ++ placesL d, x ∈ bindsP p) := by
      rcases shapedT_cases hself.1.1 with ho | rfl
      · intro x hx
        have eb : bindsP p = channelsL d ++ placesL d := by
          rw [hp]
          have : bindsP (.proc (.mk o t a d ks)) = if o = 4 then channelsL d ++ placesL d else [] := rfl
          rw [this, if_pos ho]
        rw [eb]
        rcases List.mem_append.1 hx with hx | hx
        · exact List.mem_append_left _ (by unfold channelsL; rw [mem_chFold]; exact .inr hx)
        · exact List.mem_append_right _ hx
      · intro x hx; simp [groupsL, groupsI, alltexts, gtexts, placesL] at hx
    have hbn : ∀ x ∈ bindsP p, bndP p (bytesOf x) = true := fun x hx => (bndP_iff p _).2 ⟨x, hx, rfl⟩
    have hinj := hA.inj hC (by omega)
    obtain ⟨d', U2, c1, c2, c3, c4⟩ := anewCs d i.1 i.2 (m + (bindsP p).length) (lev + 1) hA.base (fun c hc => hf.part (part_defs hc)) (by omega) (hfit.less (fun _ h => h) (fun k hk => by simp [hk])) hI.cov hmm
      (fun n h => hname n (by simp [h])) (fun x hx => (picks_ok _ U m hC (by omega)).1 _ (hA.nm_new (hbn x (hdef x hx))) |>.1) (fun a ha b hb => hinj a (hdef a (List.mem_append_left _ ha)) b (hdef b (List.mem_append_left _ hb)))
    obtain ⟨_, f2, f3⟩ := copyCs_free d i.1 i.2 U2 d' (m + (bindsP p).length) (lev + 1) (by rw [hA.base]; exact .inl rfl) k3 (by omega) (hfit.less (fun _ h => h) (fun k hk => by simp [hk])) hI.cov hmm c1
    obtain ⟨ks', U3, e1, e2, e3, e4⟩ := anewTs ks i.1 U2 (m + (bindsP p).length + bcCs d) (lev + 1) hA.base (fun c hc => hf.part (part_kids hc)) (by omega) (hfit.less f2 (fun k hk => by simp [hk])) f3 (by omega) (fun n h => hname n (by simp [h]))
    obtain ⟨a1, a2, a3⟩ := anewEs a i.1 (lev + 1) hA.base (fun e he => (hf.part (part_args he)).mono (fun q hq => hq.1.1)) (fun n h => hname n (by simp [h]))
    -- the text
    have htext : ∃ t', textM v t = some t' ∧ (t.size = 0 → t' = t) ∧ (t.size ≠ 0 → t' = nm v t ∧ nameB t' = true) := by
      by_cases htz : t.size = 0
      · exact ⟨t, text_zero htz, fun _ => rfl, fun h => absurd htz h⟩
      · refine ⟨nm v t, anew_text hb htz, fun h => absurd h htz, fun _ => ⟨rfl, hnp t ?_⟩⟩
        rw [hfp, (isT_iff htz).2 rfl, Bool.or_true]
    obtain ⟨t', ht1, ht2, ht3⟩ := htext
    have hsig := copyCs_sig d i.1 i.2 U2 d' hA.base (fun c hc => (hf.part (part_defs hc)).mono (fun q hq => hq.1)) c1
    have hbinds : bindsP (.proc (.mk o t' (copyEs i.1 a) d' ks')) = (picks (bindsP p).length U).1 := by
      by_cases ho : o = 4
      · rw [hp] at hA ⊢
        exact (binds_ren (U' := U) hA ho hC (by rw [← hp]; omega) hsig.1 hsig.2.1 hsig.2.2).1
      · have eb : ∀ t a d k, bindsP (.proc (.mk o t a d k)) = [] := fun t a d k => by
          have : bindsP (.proc (.mk o t a d k)) = if o = 4 then channelsL d ++ placesL d else [] := rfl
          rw [this, if_neg ho]
        rw [hp, eb, eb]; rfl
    refine ⟨.mk o t' (copyEs i.1 a) d' ks', U3, ?_, ?_, ?_, fun v2 hb2 hrel => ?_⟩
    · rw [copyT, ← hp, ← hi]
      simp only [ht1, c1, e1]
    · refine NdP.mk_ ⟨?_, fun ho => ?_⟩ (fun q hq => ?_)
      · have hs := hself.1.1
        have l1 := copyEs_len i.1 a
        have l2 := copyCs_len d d' _ _ c1
        have l3 := copyTs_len ks ks' _ _ e1
        simp only [Part.shaped, shapedTB] at hs ⊢
        rw [l1, l2, l3]
        by_cases htz : t.size = 0
        · rw [ht2 htz]; exact hs
        · obtain ⟨_, hnt⟩ := ht3 htz
          have hz2 : (t.size == 0) = false := by simpa using htz
          rw [hz2] at hs
          simp only [Bool.and_false, Bool.false_and, Bool.or_false, Bool.false_or] at hs
          rw [hnt]
          have hz3 : (t'.size == 0) = false := by simpa using nameB_pos hnt
          rw [hz3]
          simp only [Bool.and_false, Bool.false_and, Bool.or_false, Bool.false_or, Bool.and_true]
          cases hq : nameB t with
          | true => rw [hq] at hs; simpa using hs
          | false => rw [hq] at hs; simp at hs
      · refine defsOk_ren (f := nm i.1) (hself.2 ho) ?_ (groups_sig hsig.1 hsig.2.1) hsig.2.2 (fun a ha b hb => hinj a (hdef a ha) b (hdef b hb))
        have := len_levels c3
        rw [csize_lev, csize_lev] at this
        exact this
      · rw [Part.parts] at hq
        rcases List.mem_append.1 hq with hq | hq
        · rcases List.mem_append.1 hq with hq | hq
          · obtain ⟨e, he, rfl⟩ := List.mem_map.1 hq
            exact a1 e he
          · obtain ⟨e, he, rfl⟩ := List.mem_map.1 hq
            exact c2 e he
        · obtain ⟨e, he, rfl⟩ := List.mem_map.1 hq
          exact e2 e he
    · rw [nodesT, nodesT, List.map_cons, List.map_cons, List.map_append, List.map_append, List.map_append, List.map_append, a2, c3, e3]
    · have hnd' : ((bindsP (.proc (.mk o t' (copyEs i.1 a) d' ks'))).map bytesOf).Nodup := by rw [hbinds]; exact (picks_ok _ U m hC (by omega)).2.1
      have hA2 := inside_anew (U := U) (p := .proc (.mk o t' (copyEs i.1 a) d' ks')) hb2 hnd'
      have hus : (inside v2 U (.proc (.mk o t' (copyEs i.1 a) d' ks'))).2 = i.2 := by rw [hA2.us, hA.us, hbinds, picks_len]
      have hrin : ∀ n, (fEs a (bytesOf n) || fCs d (bytesOf n) || fTs ks (bytesOf n)) = true → nm (inside v2 U (.proc (.mk o t' (copyEs i.1 a) d' ks'))).1 (nm i.1 n) = nm i.1 n := fun n h =>
        rel_in hA hA2 hC (by omega) hbinds hb (A := fP p) (by rw [hp]; exact hF) hnp (fun n h => hrel n (by rw [hp] at h; exact h)) n (hinn _ h)
      have hrb : ∀ x ∈ alltexts (groupsL d) ++ placesL d, nm (inside v2 U (.proc (.mk o t' (copyEs i.1 a) d' ks'))).1 (nm i.1 x) = nm i.1 x := fun x hx =>
        rel_in hA hA2 hC (by omega) hbinds hb (A := fP p) (by rw [hp]; exact hF) hnp (fun n h => hrel n (by rw [hp] at h; exact h)) x (.inl (hbn x (hdef x hx)))
      have ht' : textM v2 t' = some t' := by
        by_cases htz : t.size = 0
        · rw [ht2 htz]; exact text_zero htz
        · obtain ⟨h1, h2⟩ := ht3 htz
          rw [anew_text hb2 (nameB_pos h2), h1]
          have : fT (.mk o t a d ks) (bytesOf t) = true := by
            have := hfp (bytesOf t)
            rw [(isT_iff htz).2 rfl, Bool.or_true, hp] at this
            exact this
          rw [hrel t this]
      rw [copyT]
      simp only [ht', hus]
      rw [c4 _ hA2.base (fun n h => hrin n (by simp [h])) hrb]
      simp only
      rw [e4 _ hA2.base (fun n h => hrin n (by simp [h]))]
      simp only
      rw [a3 _ hA2.base (fun n h => hrin n (by simp [h]))]
theorem anewC : ∀ (c : Clause) (v : Env) (U : Used) (m lev : Nat), v.base = .anew → NdP QC (.def_ c) → (nodesC lev c).length ≤ 60 → Fit TW v U (fC c) → Cov U m → m + bcC c ≤ 4900 → (∀ n, fC c (bytesOf n) = true → nameB (nm v n) = true) →
    (∀ x ∈ txC c ++ placesC c, nameB (nm v x) = true) → (∀ a ∈ txC c, ∀ b ∈ txC c, nm v a = nm v b → a = b) →
    ∃ c' U', copyC v U c = some (c', U') ∧ NdP QD (.def_ c') ∧ (nodesC lev c').map (·.2) = (nodesC lev c).map (·.2) ∧
      (∀ v2 : Env, v2.base = .anew → (∀ n, fC c (bytesOf n) = true → nm v2 (nm v n) = nm v n) → (∀ x ∈ txC c ++ placesC c, nm v2 (nm v x) = nm v x) → copyC v2 U c' = some (c', U'))
  | .mk f t j d ks, v, U, m, lev, hb, hf, h60, hF, hC, hm, hn, hT, hJ => by
    obtain ⟨p, hp⟩ : ∃ p, p = Part.def_ (.mk f t j d ks) := ⟨_, rfl⟩
    have hself := hf.self
    have hz : p.size ≤ 60 := by rw [hp, Part.size, nodesOf_len 0 lev]; exact h60
    rw [nodesC] at h60
    simp only [List.length_cons, List.length_append] at h60
    rw [bcC] at hm
    have hok := okC_fine hf
    unfold okC at hok
    obtain ⟨_, _, k2, k3, k4⟩ := hok
    rw [← hp] at k2 hm
    obtain ⟨s1, s2, s3, s4, _⟩ := shapedC_cases hself.1.1
    have hbase : BaseOk v.base := .inl hb
    have hI := inside_ok (m := m) hbase k2 (by rw [hp]; exact hF) hz hC (by omega)
    have hA := inside_anew (U := U) (p := p) hb (by rw [hp]; exact hself.1.2)
    obtain ⟨i, hi⟩ : ∃ i, i = inside v U p := ⟨_, rfl⟩
    rw [← hi] at hI hA
    have hfp : ∀ k, fP p k = ((fCs d k || fTs ks k) && !bndP p k) := fun k => by rw [hp]; show fC _ k = _; rw [fC]
    have hinn : ∀ k, (fCs d k || fTs ks k) = true → bndP p k = true ∨ fP p k = true := fun k hk => by
      cases hbk : bndP p k with
      | true => exact .inl rfl
      | false => exact .inr (by rw [hfp, hbk]; simp only [Bool.not_false, Bool.and_true]; rw [hk])
    have hfit := hI.fits (fun k => fCs d k || fTs ks k) hinn
    have hnp : ∀ n, fP p (bytesOf n) = true → nameB (nm v n) = true := fun n h => hn n (by rw [hp] at h; exact h)
    have hname : ∀ n, (fCs d (bytesOf n) || fTs ks (bytesOf n)) = true → nameB (nm i.1 n) = true := fun n h => name_in hA hC (by omega) hnp n (hinn _ h)
    have hmm : m + (bindsP p).length + bcCs d ≤ 4900 := by omega
    have hvi : f = 2 → i = (v, U) := fun h => by
      obtain ⟨rfl, _⟩ := s1 h
      rw [hi, hp]; exact inside_nil rfl
    have htx2 : f = 2 → txC (.mk f t j d ks) = alltexts (groupsL d) ∧ placesC (.mk f t j d ks) = t :: placesL d := fun h => by
      obtain ⟨rfl, _⟩ := s1 h
      unfold txC groupsC placesC
      rw [if_pos h, if_pos h]
      exact ⟨rfl, rfl⟩
    have htx1 : txC (.mk f t j d ks) = j.map (·.text) ++ alltexts (groupsC (.mk f t j d ks)) := rfl
    have hdT : ∀ x ∈ alltexts (groupsL d) ++ placesL d, nameB (nm i.1 x) = true := fun x hx => by
      by_cases h2 : f = 2
      · rw [hvi h2]
        obtain ⟨g1, g2⟩ := htx2 h2
        refine hT x ?_
        rw [g1, g2]
        rcases List.mem_append.1 hx with hx | hx
        · exact List.mem_append_left _ hx
        · exact List.mem_append_right _ (List.mem_cons_of_mem _ hx)
      · have hd0 := s2 h2
        rw [hd0] at hx
        simp [groupsL, groupsI, alltexts, gtexts, placesL] at hx
    have hdJ : ∀ a ∈ alltexts (groupsL d), ∀ b ∈ alltexts (groupsL d), nm i.1 a = nm i.1 b → a = b := fun a ha b hb => by
      by_cases h2 : f = 2
      · rw [hvi h2]
        obtain ⟨g1, g2⟩ := htx2 h2
        exact hJ a (by rw [g1]; exact ha) b (by rw [g1]; exact hb)
      · have hd0 := s2 h2
        rw [hd0] at ha
        simp [groupsL, groupsI, alltexts, gtexts] at ha
    obtain ⟨d', U2, c1, c2, c3, c4⟩ := anewCs d i.1 i.2 (m + (bindsP p).length) (lev + 1) hA.base (fun c hc => hf.part (partC_defs hc)) (by omega) (hfit.less (fun _ h => h) (fun k hk => by simp [hk])) hI.cov hmm
      (fun n h => hname n (by simp [h])) hdT hdJ
    obtain ⟨_, f2, f3⟩ := copyCs_free d i.1 i.2 U2 d' (m + (bindsP p).length) (lev + 1) (by rw [hA.base]; exact .inl rfl) k3 (by omega) (hfit.less (fun _ h => h) (fun k hk => by simp [hk])) hI.cov hmm c1
    obtain ⟨ks', U3, e1, e2, e3, e4⟩ := anewTs ks i.1 U2 (m + (bindsP p).length + bcCs d) (lev + 1) hA.base (fun c hc => hf.part (partC_kids hc)) (by omega) (hfit.less f2 (fun k hk => by simp [hk])) f3 (by omega) (fun n h => hname n (by simp [h]))
    have hjt : ∀ x ∈ j.map (·.text), x ∈ txC (.mk f t j d ks) := fun x hx => by rw [htx1]; exact List.mem_append_left _ hx
    obtain ⟨j', hj', hj2⟩ : ∃ j', msgsM v i.1 j = some j' ∧ j' = j.map (fun j => ⟨nm v j.text, j.names.map (nm i.1)⟩) := by
      have : ∀ js : List Msg, (∀ x ∈ js.map (·.text), x.size ≠ 0) → (∀ x ∈ js.flatMap (·.names), x.size ≠ 0) → msgsM v i.1 js = some (js.map (fun j => ⟨nm v j.text, j.names.map (nm i.1)⟩)) := by
        intro js
        induction js with
        | nil => intro _ _; rfl
        | cons a l ih =>
          intro h1 h2
          have hts : ∀ ns : List ByteArray, (∀ x ∈ ns, x.size ≠ 0) → textsM i.1 ns = some (ns.map (nm i.1)) := by
            intro ns
            induction ns with
            | nil => intro _; rfl
            | cons b bs ih2 =>
              intro hz
              rw [textsM, anew_text hA.base (hz b (by simp)), ih2 (fun x hx => hz x (by simp [hx]))]
              rfl
          rw [msgsM, msgM, anew_text hb (h1 a.text (by simp)), hts a.names (fun x hx => h2 x (by rw [List.flatMap_cons]; exact List.mem_append_left _ hx)),
            ih (fun x hx => h1 x (by rw [List.map_cons]; exact List.mem_cons_of_mem _ hx)) (fun x hx => h2 x (by rw [List.flatMap_cons]; exact List.mem_append_right _ hx))]
          rfl
      exact ⟨_, this j s4 s3, rfl⟩
    have htext : ∃ t', textM v t = some t' ∧ (t.size = 0 → t' = t) ∧ (t.size ≠ 0 → t' = nm v t) := by
      by_cases htz : t.size = 0
      · exact ⟨t, text_zero htz, fun _ => rfl, fun h => absurd htz h⟩
      · exact ⟨nm v t, anew_text hb htz, fun h => absurd h htz, fun _ => rfl⟩
    obtain ⟨t', ht1, ht2, ht3⟩ := htext
    have hbinds : bindsP (.def_ (.mk f t' j' d' ks')) = (picks (bindsP p).length U).1 := by
      have eb : ∀ t j d k, bindsP (.def_ (.mk f t j d k)) = j.flatMap (·.names) := fun _ _ _ _ => rfl
      rw [eb, hj2, names_map, ← hA.new, hp, eb]
    have hpk := picks_ok (bindsP p).length U m hC (by omega)
    refine ⟨.mk f t' j' d' ks', U3, ?_, ?_, ?_, fun v2 hb2 hrel hrT => ?_⟩
    · rw [copyC, ← hp, ← hi]
      simp only [ht1, hj', c1, e1]
    · refine NdP.mk_ ⟨?_, trivial⟩ (fun q hq => ?_)
      · have hs := hself.1.1
        have l2 := copyCs_len d d' _ _ c1
        have l3 := copyTs_len ks ks' _ _ e1
        simp only [Part.shaped, shapedCB, Bool.or_eq_true, Bool.and_eq_true, beq_iff_eq, decide_eq_true_eq] at hs ⊢
        rw [l2, l3]
        rcases hs with ⟨⟨⟨⟨g1, g2⟩, g3⟩, g4⟩, g5⟩ | ⟨⟨⟨⟨g1, g2⟩, g3⟩, g4⟩, g5⟩
        · refine .inl ⟨⟨⟨⟨g1, by rw [ht2 g2]; exact g2⟩, ?_⟩, g4⟩, g5⟩
          have hnames : (j.flatMap (·.names)).map (nm i.1) = (picks (bindsP p).length U).1 := by rw [← hA.new, hp]; rfl
          rw [hj2]
          exact joined_ren g3 (fun x hx => hT x (List.mem_append_left _ (hjt x hx))) (fun a ha b hb => hJ a (hjt a ha) b (hjt b hb)) (fun c hc => (hpk.1 c (by rw [← hnames]; exact hc)).1) (by rw [hnames]; exact hpk.2.1)
        · have htz : t.size ≠ 0 := nameB_pos g2
          have hpl := (htx2 g1).2
          refine .inr ⟨⟨⟨⟨g1, ?_⟩, by rw [hj2, List.length_map]; exact g3⟩, g4⟩, g5⟩
          rw [ht3 htz]
          exact hT t (List.mem_append_right _ (by rw [hpl]; exact List.mem_cons_self))
      · rw [Part.parts] at hq
        rcases List.mem_append.1 hq with hq | hq
        · obtain ⟨e, he, rfl⟩ := List.mem_map.1 hq
          exact c2 e he
        · obtain ⟨e, he, rfl⟩ := List.mem_map.1 hq
          exact e2 e he
    · rw [nodesC, nodesC, List.map_cons, List.map_cons, List.map_append, List.map_append, c3, e3]
    · have hnd' : ((bindsP (.def_ (.mk f t' j' d' ks'))).map bytesOf).Nodup := by rw [hbinds]; exact hpk.2.1
      have hA2 := inside_anew (U := U) (p := .def_ (.mk f t' j' d' ks')) hb2 hnd'
      obtain ⟨i2, hi2⟩ : ∃ i2, i2 = inside v2 U (.def_ (.mk f t' j' d' ks')) := ⟨_, rfl⟩
      rw [← hi2] at hA2
      have hus : i2.2 = i.2 := by rw [hA2.us, hA.us, hbinds, picks_len]
      have hri : ∀ n, (bndP p (bytesOf n) = true ∨ fP p (bytesOf n) = true) → nm i2.1 (nm i.1 n) = nm i.1 n := fun n h =>
        rel_in hA hA2 hC (by omega) hbinds hb (A := fP p) (by rw [hp]; exact hF) hnp (fun n h => hrel n (by rw [hp] at h; exact h)) n h
      have hdr : ∀ x ∈ alltexts (groupsL d) ++ placesL d, nm i2.1 (nm i.1 x) = nm i.1 x := fun x hx => by
        by_cases h2 : f = 2
        · have hj0 : j = [] := (s1 h2).1
          have hi2' : i2 = (v2, U) := by
            rw [hi2]
            refine inside_nil ?_
            have : bindsP (.def_ (.mk f t' j' d' ks')) = j'.flatMap (·.names) := rfl
            rw [this, hj2, hj0]; rfl
          rw [hvi h2, hi2']
          obtain ⟨g1, g2⟩ := htx2 h2
          refine hrT x ?_
          rw [g1, g2]
          rcases List.mem_append.1 hx with hx | hx
          · exact List.mem_append_left _ hx
          · exact List.mem_append_right _ (List.mem_cons_of_mem _ hx)
        · have hd0 := s2 h2
          rw [hd0] at hx
          simp [groupsL, groupsI, alltexts, gtexts, placesL] at hx
      have ht' : textM v2 t' = some t' := by
        by_cases htz : t.size = 0
        · rw [ht2 htz]; exact text_zero htz
        · have hf2 : f = 2 := by
            rcases Classical.em (f = 2) with h | h
            · exact h
            · exfalso
              have hs := hself.1.1
              simp only [Part.shaped, shapedCB, Bool.or_eq_true, Bool.and_eq_true, beq_iff_eq, decide_eq_true_eq] at hs
              rcases hs with ⟨⟨⟨⟨_, g2⟩, _⟩, _⟩, _⟩ | ⟨⟨⟨⟨g1, _⟩, _⟩, _⟩, _⟩
              · exact htz g2
              · exact h g1
          have hmem : t ∈ txC (.mk f t j d ks) ++ placesC (.mk f t j d ks) := List.mem_append_right _ (by rw [(htx2 hf2).2]; exact List.mem_cons_self)
          rw [ht3 htz, anew_text hb2 (nameB_pos (hT t hmem)), hrT t hmem]
      have hj'' : msgsM v2 i2.1 j' = some j' := by
        have hall : ∀ js : List Msg, (∀ x ∈ js.map (·.text), nameB (nm v x) = true ∧ nm v2 (nm v x) = nm v x) → (∀ x ∈ js.flatMap (·.names), nameB (nm i.1 x) = true ∧ nm i2.1 (nm i.1 x) = nm i.1 x) →
            msgsM v2 i2.1 (js.map (fun j => ⟨nm v j.text, j.names.map (nm i.1)⟩)) = some (js.map (fun j => ⟨nm v j.text, j.names.map (nm i.1)⟩)) := by
          intro js
          induction js with
          | nil => intro _ _; rfl
          | cons a l ih =>
            intro h1 h2
            have hts : ∀ ns : List ByteArray, (∀ x ∈ ns, nameB (nm i.1 x) = true ∧ nm i2.1 (nm i.1 x) = nm i.1 x) → textsM i2.1 (ns.map (nm i.1)) = some (ns.map (nm i.1)) := by
              intro ns
              induction ns with
              | nil => intro _; rfl
              | cons b bs ih2 =>
                intro hz
                obtain ⟨z1, z2⟩ := hz b (by simp)
                rw [List.map_cons, textsM, anew_text hA2.base (nameB_pos z1), z2, ih2 (fun x hx => hz x (by simp [hx]))]
            obtain ⟨z1, z2⟩ := h1 a.text (by simp)
            rw [List.map_cons, msgsM, msgM]
            simp only
            rw [anew_text hb2 (nameB_pos z1), z2, hts a.names (fun x hx => h2 x (by rw [List.flatMap_cons]; exact List.mem_append_left _ hx)),
              ih (fun x hx => h1 x (by rw [List.map_cons]; exact List.mem_cons_of_mem _ hx)) (fun x hx => h2 x (by rw [List.flatMap_cons]; exact List.mem_append_right _ hx))]
        rw [hj2]
        refine hall j (fun x hx => ⟨hT x (List.mem_append_left _ (hjt x hx)), hrT x (List.mem_append_left _ (hjt x hx))⟩) (fun x hx => ?_)
        have hbx : bndP p (bytesOf x) = true := (bndP_iff p _).2 ⟨x, by rw [hp]; exact hx, rfl⟩
        exact ⟨(hpk.1 _ (hA.nm_new hbx)).1, hri x (.inl hbx)⟩
      rw [copyC, ← hi2]
      simp only [ht', hj'', hus]
      rw [c4 _ hA2.base (fun n h => hri n (hinn _ (by simp [h]))) hdr]
      simp only
      rw [e4 _ hA2.base (fun n h => hri n (hinn _ (by simp [h])))]
theorem anewTs : ∀ (l : List Term) (v : Env) (U : Used) (m lev : Nat), v.base = .anew → (∀ t ∈ l, NdP QC (.proc t)) → (nodesTs lev l).length ≤ 60 → Fit TW v U (fTs l) → Cov U m → m + bcTs l ≤ 4900 → (∀ n, fTs l (bytesOf n) = true → nameB (nm v n) = true) →
    ∃ l' U', copyTs v U l = some (l', U') ∧ (∀ t ∈ l', NdP QD (.proc t)) ∧ (nodesTs lev l').map (·.2) = (nodesTs lev l).map (·.2) ∧
      (∀ v2 : Env, v2.base = .anew → (∀ n, fTs l (bytesOf n) = true → nm v2 (nm v n) = nm v n) → copyTs v2 U l' = some (l', U'))
  | [], v, U, m, lev, _, _, _, _, _, _, _ => ⟨[], U, rfl, fun t ht => by simp at ht, rfl, fun _ _ _ => rfl⟩
  | a :: l, v, U, m, lev, hb, hf, h60, hF, hC, hm, hn => by
    rw [nodesTs, List.length_append] at h60
    rw [bcTs] at hm
    obtain ⟨a', U2, a1, a2, a3, a4⟩ := anewT a v U m lev hb (hf a (by simp)) (by omega) (hF.less (fun _ h => h) (fun k hk => by rw [fTs, hk, Bool.true_or])) hC (by omega) (fun n h => hn n (by rw [fTs, h, Bool.true_or]))
    obtain ⟨_, f2, f3⟩ := copyT_free a v U U2 a' m lev (.inl hb) (okT_fine (hf a (by simp))) (by omega) (hF.less (fun _ h => h) (fun k hk => by rw [fTs, hk, Bool.true_or])) hC (by omega) a1
    obtain ⟨l', U3, b1, b2, b3, b4⟩ := anewTs l v U2 (m + bcT a) lev hb (fun x hx => hf x (by simp [hx])) (by omega) (hF.less f2 (fun k hk => by rw [fTs, hk, Bool.or_true])) f3 (by omega) (fun n h => hn n (by rw [fTs, h, Bool.or_true]))
    refine ⟨a' :: l', U3, by rw [copyTs, a1]; simp only [b1], fun t ht => ?_, by rw [nodesTs, nodesTs, List.map_append, List.map_append, a3, b3], fun v2 hb2 hr => ?_⟩
    · rcases List.mem_cons.1 ht with rfl | ht
      · exact a2
      · exact b2 t ht
    · rw [copyTs, a4 v2 hb2 (fun n h => hr n (by rw [fTs, h, Bool.true_or]))]
      simp only
      rw [b4 v2 hb2 (fun n h => hr n (by rw [fTs, h, Bool.or_true]))]
theorem anewCs : ∀ (l : List Clause) (v : Env) (U : Used) (m lev : Nat), v.base = .anew → (∀ t ∈ l, NdP QC (.def_ t)) → (nodesCs lev l).length ≤ 60 → Fit TW v U (fCs l) → Cov U m → m + bcCs l ≤ 4900 → (∀ n, fCs l (bytesOf n) = true → nameB (nm v n) = true) →
    (∀ x ∈ alltexts (groupsL l) ++ placesL l, nameB (nm v x) = true) → (∀ a ∈ alltexts (groupsL l), ∀ b ∈ alltexts (groupsL l), nm v a = nm v b → a = b) →
    ∃ l' U', copyCs v U l = some (l', U') ∧ (∀ t ∈ l', NdP QD (.def_ t)) ∧ (nodesCs lev l').map (·.2) = (nodesCs lev l).map (·.2) ∧
      (∀ v2 : Env, v2.base = .anew → (∀ n, fCs l (bytesOf n) = true → nm v2 (nm v n) = nm v n) → (∀ x ∈ alltexts (groupsL l) ++ placesL l, nm v2 (nm v x) = nm v x) → copyCs v2 U l' = some (l', U'))
  | [], v, U, m, lev, _, _, _, _, _, _, _, _, _ => ⟨[], U, rfl, fun t ht => by simp at ht, rfl, fun _ _ _ _ => rfl⟩
  | a :: l, v, U, m, lev, hb, hf, h60, hF, hC, hm, hn, hT, hJ => by
    rw [nodesCs, List.length_append] at h60
    rw [bcCs] at hm
    have hin1 : ∀ x, x ∈ txC a → x ∈ alltexts (groupsL (a :: l)) := fun x hx => (mem_tx_cons a l x).2 (List.mem_append_left _ hx)
    have hin2 : ∀ x, x ∈ alltexts (groupsL l) → x ∈ alltexts (groupsL (a :: l)) := fun x hx => (mem_tx_cons a l x).2 (List.mem_append_right _ hx)
    have hin3 : ∀ x, x ∈ placesC a → x ∈ placesL (a :: l) := fun x hx => by rw [placesL]; exact List.mem_append_left _ hx
    have hin4 : ∀ x, x ∈ placesL l → x ∈ placesL (a :: l) := fun x hx => by rw [placesL]; exact List.mem_append_right _ hx
    have hA : ∀ x, x ∈ txC a ++ placesC a → x ∈ alltexts (groupsL (a :: l)) ++ placesL (a :: l) := fun x hx => by
      rcases List.mem_append.1 hx with hx | hx
      · exact List.mem_append_left _ (hin1 x hx)
      · exact List.mem_append_right _ (hin3 x hx)
    have hL : ∀ x, x ∈ alltexts (groupsL l) ++ placesL l → x ∈ alltexts (groupsL (a :: l)) ++ placesL (a :: l) := fun x hx => by
      rcases List.mem_append.1 hx with hx | hx
      · exact List.mem_append_left _ (hin2 x hx)
      · exact List.mem_append_right _ (hin4 x hx)
    obtain ⟨a', U2, a1, a2, a3, a4⟩ := anewC a v U m lev hb (hf a (by simp)) (by omega) (hF.less (fun _ h => h) (fun k hk => by rw [fCs, hk, Bool.true_or])) hC (by omega) (fun n h => hn n (by rw [fCs, h, Bool.true_or])) (fun x hx => hT x (hA x hx)) (fun x hx y hy => hJ x (hin1 x hx) y (hin1 y hy))
    obtain ⟨_, f2, f3⟩ := copyC_free a v U U2 a' m lev (.inl hb) (okC_fine (hf a (by simp))) (by omega) (hF.less (fun _ h => h) (fun k hk => by rw [fCs, hk, Bool.true_or])) hC (by omega) a1
    obtain ⟨l', U3, b1, b2, b3, b4⟩ := anewCs l v U2 (m + bcC a) lev hb (fun x hx => hf x (by simp [hx])) (by omega) (hF.less f2 (fun k hk => by rw [fCs, hk, Bool.or_true])) f3 (by omega) (fun n h => hn n (by rw [fCs, h, Bool.or_true])) (fun x hx => hT x (hL x hx)) (fun x hx y hy => hJ x (hin2 x hx) y (hin2 y hy))
    refine ⟨a' :: l', U3, by rw [copyCs, a1]; simp only [b1], fun t ht => ?_, by rw [nodesCs, nodesCs, List.map_append, List.map_append, a3, b3], fun v2 hb2 hr hrT => ?_⟩
    · rcases List.mem_cons.1 ht with rfl | ht
      · exact a2
      · exact b2 t ht
    · rw [copyCs, a4 v2 hb2 (fun n h => hr n (by rw [fCs, h, Bool.true_or])) (fun x hx => hrT x (hA x hx))]
      simp only
      rw [b4 v2 hb2 (fun n h => hr n (by rw [fCs, h, Bool.or_true])) (fun x hx => hrT x (hL x hx))]
end
end Go.Proofs.YtjmlaeofjjhfmaaGreat
