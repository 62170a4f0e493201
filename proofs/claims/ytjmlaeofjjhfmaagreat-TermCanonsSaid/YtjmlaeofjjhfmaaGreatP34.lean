/- The free names of copies. -/
import Derived.Test.YtjmlaeofjjhfmaaGreatP33
set_option linter.unusedVariables false
set_option linter.unusedSimpArgs false
namespace Go.Proofs.YtjmlaeofjjhfmaaGreat
open Go.RowKit Go.Shelf Go.Maps

theorem mem_chFold : ∀ (xs l : List ByteArray) (x : ByteArray), x ∈ chFold l xs ↔ x ∈ l ∨ x ∈ xs
  | [], l, x => by simp [chFold]
  | y :: ys, l, x => by
    have e : chFold l (y :: ys) = chFold (chStep l y) ys := rfl
    rw [e, mem_chFold ys, List.mem_cons]
    have h : x ∈ chStep l y ↔ x ∈ l ∨ x = y := by
      unfold chStep
      split
      · rename_i hin
        unfold inSet at hin
        obtain ⟨z, hz, he⟩ := List.any_eq_true.1 hin
        obtain ⟨z', hz', rfl⟩ := List.mem_map.1 hz
        have := bytes_inj (by simpa using he : bytesOf z' = bytesOf y)
        subst this
        constructor
        · exact .inl
        · rintro (h | rfl)
          · exact h
          · exact hz'
      · simp
    rw [h, or_assoc]
/-- What some texts become. -/
def TI (v : Env) (A B : List ByteArray) : Prop := ∀ x, x ∈ B ↔ ∃ y ∈ A, textM v y = some x
theorem TI.nil (v : Env) : TI v [] [] := fun x => by simp
theorem TI.cons {v : Env} {a b : ByteArray} {A B : List ByteArray} (h : textM v a = some b) (hA : TI v A B) : TI v (a :: A) (b :: B) := fun x => by
  rw [List.mem_cons, hA x]
  constructor
  · rintro (rfl | ⟨y, h1, h2⟩)
    · exact ⟨a, by simp, h⟩
    · exact ⟨y, by simp [h1], h2⟩
  · rintro ⟨y, h1, h2⟩
    rcases List.mem_cons.1 h1 with rfl | h1
    · rw [h] at h2; cases h2; exact .inl rfl
    · exact .inr ⟨y, h1, h2⟩
theorem TI.append {v : Env} {A B C D : List ByteArray} (h : TI v A B) (h' : TI v C D) : TI v (A ++ C) (B ++ D) := fun x => by
  rw [List.mem_append, h x, h' x]
  constructor
  · rintro (⟨y, h1, h2⟩ | ⟨y, h1, h2⟩)
    · exact ⟨y, by simp [h1], h2⟩
    · exact ⟨y, by simp [h1], h2⟩
  · rintro ⟨y, h1, h2⟩
    rcases List.mem_append.1 h1 with h1 | h1
    · exact .inl ⟨y, h1, h2⟩
    · exact .inr ⟨y, h1, h2⟩
theorem texts_ti (v : Env) : ∀ l l', textsM v l = some l' → TI v l l'
  | [], l', h => by rw [textsM] at h; cases h; exact TI.nil v
  | a :: l, l', h => by
    rw [textsM] at h
    cases h1 : textM v a with
    | none => rw [h1] at h; cases h
    | some b =>
      rw [h1] at h
      simp only at h
      cases h2 : textsM v l with
      | none => rw [h2] at h; cases h
      | some bs => rw [h2] at h; cases h; exact TI.cons h1 (texts_ti v l bs h2)
theorem msgs_ti (v i : Env) : ∀ js js', msgsM v i js = some js' → TI i (js.flatMap (·.names)) (js'.flatMap (·.names)) ∧ TI v (js.map (·.text)) (js'.map (·.text))
  | [], l', h => by rw [msgsM] at h; cases h; exact ⟨TI.nil _, TI.nil _⟩
  | a :: l, l', h => by
    rw [msgsM] at h
    cases h1 : msgM v i a with
    | none => rw [h1] at h; cases h
    | some b =>
      rw [h1] at h
      simp only at h
      cases h2 : msgsM v i l with
      | none => rw [h2] at h; cases h
      | some bs =>
        rw [h2] at h; cases h
        obtain ⟨h3, h4⟩ := msgs_ti v i l bs h2
        unfold msgM at h1
        cases h5 : textM v a.text with
        | none => rw [h5] at h1; cases h1
        | some t =>
          rw [h5] at h1
          simp only at h1
          cases h6 : textsM i a.names with
          | none => rw [h6] at h1; cases h1
          | some ns =>
            rw [h6] at h1; cases h1
            rw [List.flatMap_cons, List.flatMap_cons, List.map_cons, List.map_cons]
            exact ⟨(texts_ti i _ _ h6).append h3, TI.cons h5 h4⟩
/-- The channels that a definition takes messages of, those in its places as well. -/
def txC (c : Clause) : List ByteArray := c.joins.map (·.text) ++ alltexts (groupsC c)
theorem alltexts_append (a b : List (List Clause)) : alltexts (a ++ b) = alltexts a ++ alltexts b := by unfold alltexts; rw [List.flatMap_append]
theorem alltexts_L (d : List Clause) : alltexts (groupsL d) = gtexts d ++ alltexts (groupsI d) := by
  unfold groupsL alltexts; rw [List.flatMap_cons]
theorem mem_tx_cons (c : Clause) (cs : List Clause) (x : ByteArray) : x ∈ alltexts (groupsL (c :: cs)) ↔ x ∈ txC c ++ alltexts (groupsL cs) := by
  rw [alltexts_L, alltexts_L, groupsI, alltexts_append]
  have : gtexts (c :: cs) = c.joins.map (·.text) ++ gtexts cs := by unfold gtexts; rw [List.flatMap_cons]
  rw [this]
  unfold txC
  simp only [List.mem_append]
  constructor
  · rintro ((h | h) | (h | h))
    · exact .inl (.inl h)
    · exact .inr (.inl h)
    · exact .inl (.inr h)
    · exact .inr (.inr h)
  · rintro ((h | h) | (h | h))
    · exact .inl (.inl h)
    · exact .inr (.inl h)
    · exact .inl (.inr h)
    · exact .inr (.inr h)
theorem TI.mem {v : Env} {A A' B B' : List ByteArray} (h : TI v A B) (hA : ∀ x, x ∈ A' ↔ x ∈ A) (hB : ∀ x, x ∈ B' ↔ x ∈ B) : TI v A' B' := fun x => by
  rw [hB, h x]
  exact exists_congr fun y => by rw [hA y]
theorem inside_nil {v : Env} {U : Used} {p : Part} (h : bindsP p = []) : inside v U p = (v, U) := by unfold inside; rw [if_pos h]

theorem copyC_inv {v : Env} {U U' : Used} {f : Int} {t : ByteArray} {j : List Msg} {d : List Clause} {k : List Term} {c' : Clause} (h : copyC v U (.mk f t j d k) = some (c', U')) :
    ∃ t' j' d' U2 k', textM v t = some t' ∧ msgsM v (inside v U (.def_ (.mk f t j d k))).1 j = some j' ∧ copyCs (inside v U (.def_ (.mk f t j d k))).1 (inside v U (.def_ (.mk f t j d k))).2 d = some (d', U2) ∧
      copyTs (inside v U (.def_ (.mk f t j d k))).1 U2 k = some (k', U') ∧ c' = .mk f t' j' d' k' := by
  rw [copyC] at h
  cases h1 : textM v t with
  | none => rw [h1] at h; cases h
  | some t' =>
    rw [h1] at h
    simp only at h
    cases h2 : msgsM v (inside v U (.def_ (.mk f t j d k))).1 j with
    | none => rw [h2] at h; cases h
    | some j' =>
      rw [h2] at h
      simp only at h
      cases h3 : copyCs (inside v U (.def_ (.mk f t j d k))).1 (inside v U (.def_ (.mk f t j d k))).2 d with
      | none => rw [h3] at h; cases h
      | some x =>
        obtain ⟨d', U2⟩ := x
        rw [h3] at h
        simp only at h
        cases h4 : copyTs (inside v U (.def_ (.mk f t j d k))).1 U2 k with
        | none => rw [h4] at h; cases h
        | some y =>
          obtain ⟨k', U3⟩ := y
          rw [h4] at h
          cases h
          exact ⟨t', j', d', U2, k', rfl, rfl, rfl, h4, rfl⟩
theorem copyT_inv {v : Env} {U U' : Used} {o : Int} {t : ByteArray} {a : List Exp} {d : List Clause} {k : List Term} {c' : Term} (h : copyT v U (.mk o t a d k) = some (c', U')) :
    ∃ t' d' U2 k', textM v t = some t' ∧ copyCs (inside v U (.proc (.mk o t a d k))).1 (inside v U (.proc (.mk o t a d k))).2 d = some (d', U2) ∧
      copyTs (inside v U (.proc (.mk o t a d k))).1 U2 k = some (k', U') ∧ c' = .mk o t' (copyEs (inside v U (.proc (.mk o t a d k))).1 a) d' k' := by
  rw [copyT] at h
  cases h1 : textM v t with
  | none => rw [h1] at h; cases h
  | some t' =>
    rw [h1] at h
    simp only at h
    cases h3 : copyCs (inside v U (.proc (.mk o t a d k))).1 (inside v U (.proc (.mk o t a d k))).2 d with
    | none => rw [h3] at h; cases h
    | some x =>
      obtain ⟨d', U2⟩ := x
      rw [h3] at h
      simp only at h
      cases h4 : copyTs (inside v U (.proc (.mk o t a d k))).1 U2 k with
      | none => rw [h4] at h; cases h
      | some y =>
        obtain ⟨k', U3⟩ := y
        rw [h4] at h
        cases h
        exact ⟨t', d', U2, k', rfl, rfl, h4, rfl⟩
theorem copyTs_inv {v : Env} {U U' : Used} {t : Term} {l : List Term} {l' : List Term} (h : copyTs v U (t :: l) = some (l', U')) : ∃ b U2 bs, copyT v U t = some (b, U2) ∧ copyTs v U2 l = some (bs, U') ∧ l' = b :: bs := by
  rw [copyTs] at h
  cases h1 : copyT v U t with
  | none => rw [h1] at h; cases h
  | some x =>
    obtain ⟨b, U2⟩ := x
    rw [h1] at h
    simp only at h
    cases h2 : copyTs v U2 l with
    | none => rw [h2] at h; cases h
    | some y =>
      obtain ⟨bs, U3⟩ := y
      rw [h2] at h; cases h
      exact ⟨b, U2, bs, rfl, h2, rfl⟩
theorem copyCs_inv {v : Env} {U U' : Used} {t : Clause} {l : List Clause} {l' : List Clause} (h : copyCs v U (t :: l) = some (l', U')) : ∃ b U2 bs, copyC v U t = some (b, U2) ∧ copyCs v U2 l = some (bs, U') ∧ l' = b :: bs := by
  rw [copyCs] at h
  cases h1 : copyC v U t with
  | none => rw [h1] at h; cases h
  | some x =>
    obtain ⟨b, U2⟩ := x
    rw [h1] at h
    simp only at h
    cases h2 : copyCs v U2 l with
    | none => rw [h2] at h; cases h
    | some y =>
      obtain ⟨bs, U3⟩ := y
      rw [h2] at h; cases h
      exact ⟨b, U2, bs, rfl, h2, rfl⟩

mutual
theorem copyC_tx {W : List UInt8 → Prop} : ∀ (c : Clause) (v : Env) (U U' : Used) (c' : Clause), okC W c → copyC v U c = some (c', U') → TI v (txC c) (txC c') ∧ TI v (placesC c) (placesC c')
  | .mk f t j d k, v, U, U', c', hok, h => by
    unfold okC at hok
    obtain ⟨h1, h2, h3, h4, h5⟩ := hok
    obtain ⟨t', j', d', U2, k', e1, e2, e3, e4, rfl⟩ := copyC_inv h
    have hj := (msgs_ti _ _ _ _ e2).2
    by_cases hf : f = 2
    · obtain rfl := h1 hf
      rw [inside_nil (p := .def_ (.mk f t [] d k)) rfl] at e2 e3
      rw [msgsM] at e2
      cases e2
      obtain ⟨h6, h7⟩ := copyCs_tx d v U U2 d' h4 e3
      have hg : ∀ t d k, txC (.mk f t [] d k) = alltexts (groupsL d) := fun t d k => by unfold txC groupsC; rw [if_pos hf]; rfl
      have hp : ∀ t d k, placesC (.mk f t [] d k) = t :: placesL d := fun t d k => by unfold placesC; rw [if_pos hf]
      rw [hg, hg, hp, hp]
      exact ⟨h6, TI.cons e1 h7⟩
    · have hg : ∀ t j d k, txC (.mk f t j d k) = j.map (·.text) := fun t j d k => by unfold txC groupsC; rw [if_neg hf]; simp [alltexts, Clause.joins]
      have hp : ∀ t j d k, placesC (.mk f t j d k) = [] := fun t j d k => by unfold placesC; rw [if_neg hf]
      rw [hg, hg, hp, hp]
      exact ⟨hj, TI.nil v⟩
theorem copyCs_tx {W : List UInt8 → Prop} : ∀ (d : List Clause) (v : Env) (U U' : Used) (d' : List Clause), okCs W d → copyCs v U d = some (d', U') → TI v (alltexts (groupsL d)) (alltexts (groupsL d')) ∧ TI v (placesL d) (placesL d')
  | [], v, U, U', d', _, h => by
    rw [copyCs] at h; cases h
    exact ⟨TI.nil v, TI.nil v⟩
  | c :: cs, v, U, U', d', hok, h => by
    unfold okCs at hok
    obtain ⟨b, U2, bs, e1, e2, rfl⟩ := copyCs_inv h
    obtain ⟨h1, h2⟩ := copyC_tx c v U U2 b hok.1 e1
    obtain ⟨h3, h4⟩ := copyCs_tx cs v U2 U' bs hok.2 e2
    refine ⟨(h1.append h3).mem (mem_tx_cons _ _) (mem_tx_cons _ _), ?_⟩
    rw [placesL, placesL]
    exact h2.append h4
end

theorem text_look {v : Env} {n c x : ByteArray} (hn : n.size ≠ 0) (hl : lookF n v.frames = some c) : textM v n = some x ↔ x = c := by
  unfold textM
  rw [if_neg hn, becomes_look, hl]
  simp [nameE, eq_comm]
/-- The names that the copy of a part binds. -/
theorem bound_copy {W : List UInt8 → Prop} {v : Env} {U : Used} {p p' : Part} {i : Env × Used} {m : Nat} (h : InOk W v U p i m) (hB : okB W p) (ht : TI i.1 (bindsP p) (bindsP p')) (k : List UInt8) :
    bndP p' k = true ↔ ∃ b c, bndP p (bytesOf b) = true ∧ lookF b i.1.frames = some c ∧ k = bytesOf c := by
  rw [bndP_iff]
  constructor
  · rintro ⟨x, hx, rfl⟩
    obtain ⟨y, hy, he⟩ := (ht x).1 hx
    have hy' := (bndP_iff p _).2 ⟨y, hy, rfl⟩
    obtain ⟨c, h1, _⟩ := h.new y hy'
    rw [text_look (hB y hy).1 h1] at he
    exact ⟨y, c, hy', h1, by rw [he]⟩
  · rintro ⟨b, c, h1, h2, rfl⟩
    obtain ⟨y, hy, he⟩ := (bndP_iff p _).1 h1
    obtain rfl := bytes_inj he
    exact ⟨c, (ht c).2 ⟨b, hy, (text_look (hB b hy).1 h2).2 rfl⟩, rfl⟩
theorem combine {W : List UInt8 → Prop} {v : Env} {U : Used} {p : Part} {i : Env × Used} {m : Nat} (h : InOk W v U p i m) (inner inner' bd' st st' : List UInt8 → Bool)
    (hin : ∀ k, inner' k = true ↔ Im i.1 inner k) (hbd : ∀ k, bd' k = true ↔ ∃ b c, bndP p (bytesOf b) = true ∧ lookF b i.1.frames = some c ∧ k = bytesOf c)
    (hst : ∀ k, st' k = true ↔ Im v st k) (hp : ∀ k, inner k = true → bndP p k = false → fP p k = true) (k : List UInt8) :
    ((inner' k && !bd' k) || st' k) = true ↔ Im v (fun k => (inner k && !bndP p k) || st k) k := by
  rw [Bool.or_eq_true, Bool.and_eq_true, hst k, hin k]
  constructor
  · rintro (⟨⟨n, h1, h2⟩, h3⟩ | ⟨n, h1, h2⟩)
    · cases hn : bndP p (bytesOf n) with
      | false =>
        rw [h.becomes_old n hn] at h2
        exact ⟨n, by simp [h1, hn], h2⟩
      | true =>
        obtain ⟨c, h4, h5, _⟩ := h.new n hn
        rw [becomes_look, h4, fE_nameE] at h2
        have : bd' k = true := (hbd k).2 ⟨n, c, hn, h4, (isT_iff h5).1 h2⟩
        rw [this] at h3; cases h3
    · exact ⟨n, by simp [h1], h2⟩
  · rintro ⟨n, h1, h2⟩
    rw [Bool.or_eq_true, Bool.and_eq_true] at h1
    rcases h1 with ⟨h1, h3⟩ | h1
    · have hn : bndP p (bytesOf n) = false := by simpa using h3
      refine .inl ⟨⟨n, h1, by rw [h.becomes_old n hn]; exact h2⟩, ?_⟩
      cases hb : bd' k with
      | false => rfl
      | true =>
        obtain ⟨b, c, h4, h5, h6⟩ := (hbd k).1 hb
        exact absurd h6 (h.apart n b c k (hp _ h1 hn) hn h4 h5 h2)
    · exact .inr ⟨n, h1, h2⟩
theorem Im.or {v : Env} {A B : List UInt8 → Bool} {k : List UInt8} : Im v (fun k => A k || B k) k ↔ Im v A k ∨ Im v B k := by
  unfold Im
  constructor
  · rintro ⟨n, h1, h2⟩
    rw [Bool.or_eq_true] at h1
    exact h1.elim (fun h => .inl ⟨n, h, h2⟩) (fun h => .inr ⟨n, h, h2⟩)
  · rintro (⟨n, h1, h2⟩ | ⟨n, h1, h2⟩)
    · exact ⟨n, by simp [h1], h2⟩
    · exact ⟨n, by simp [h1], h2⟩

mutual
theorem copyT_free {W : List UInt8 → Prop} : ∀ (t : Term) (v : Env) (U U' : Used) (t' : Term) (m lev : Nat), BaseOk v.base → okT W t → (nodesT lev t).length ≤ 60 → Fit W v U (fT t) → Cov U m → m + bcT t ≤ 4900 → copyT v U t = some (t', U') →
    (∀ k, fT t' k = true ↔ Im v (fT t) k) ∧ (∀ k, U k = true → U' k = true) ∧ Cov U' (m + bcT t)
  | .mk o t a d ks, v, U, U', t', m, lev, hb, hok, h60, hF, hC, hm, h => by
    obtain ⟨p, hp⟩ : ∃ p, p = Part.proc (.mk o t a d ks) := ⟨_, rfl⟩
    unfold okT at hok
    obtain ⟨h1, h2, h3, h4⟩ := hok
    have hz : p.size ≤ 60 := by rw [hp, Part.size, nodesOf_len 0 lev]; exact h60
    rw [nodesT] at h60
    simp only [List.length_cons, List.length_append] at h60
    rw [bcT] at hm ⊢
    obtain ⟨x', d', U2, k', e1, e3, e4, rfl⟩ := copyT_inv h
    rw [← hp] at h2 hm e3 e4 ⊢
    have hI := inside_ok hb h2 (p := p) (by rw [hp]; exact hF) hz hC (by omega)
    obtain ⟨i, hi⟩ : ∃ i, i = inside v U p := ⟨_, rfl⟩
    rw [← hi] at hI e3 e4 ⊢
    have hb' : BaseOk i.1.base := by rw [hI.base]; exact hb
    have hfp : ∀ k, fP p k = (((fEs a k || fCs d k || fTs ks k) && !bndP p k) || isT t k) := fun k => by rw [hp]; show fT _ k = _; rw [fT]
    have hfit := hI.fits (fun k => fEs a k || fCs d k || fTs ks k) (fun k hk => by
      cases hbk : bndP p k with
      | true => exact .inl rfl
      | false => exact .inr (by rw [hfp, hbk]; simp only [Bool.not_false, Bool.and_true]; rw [hk]; rfl))
    obtain ⟨c1, c2, c3⟩ := copyCs_free d i.1 i.2 U2 d' (m + (bindsP p).length) (lev + 1) hb' h3 (by omega) (hfit.less (fun _ h => h) (fun k hk => by simp [hk])) hI.cov (by omega) e3
    obtain ⟨t1, t2, t3⟩ := copyTs_free ks i.1 U2 U' k' (m + (bindsP p).length + bcCs d) (lev + 1) hb' h4 (by omega) (hfit.less c2 (fun k hk => by simp [hk])) c3 (by omega) e4
    refine ⟨fun k => ?_, fun k hk => t2 k (c2 k (hI.more k hk)), by rw [show m + ((bindsP p).length + bcCs d + bcTs ks) = m + (bindsP p).length + bcCs d + bcTs ks from by omega]; exact t3⟩
    have hbt : TI i.1 (bindsP p) (bindsP (.proc (.mk o x' (copyEs i.1 a) d' k'))) := by
      rw [hp]
      have eb : ∀ t a d k, bindsP (.proc (.mk o t a d k)) = if o = 4 then channelsL d ++ placesL d else [] := fun _ _ _ _ => rfl
      rw [eb, eb]
      by_cases ho : o = 4
      · rw [if_pos ho, if_pos ho]
        obtain ⟨g1, g2⟩ := copyCs_tx d i.1 i.2 U2 d' h3 e3
        refine TI.append (g1.mem (fun x => ?_) (fun x => ?_)) g2
        · unfold channelsL; rw [mem_chFold]; simp
        · unfold channelsL; rw [mem_chFold]; simp
      · rw [if_neg ho, if_neg ho]; exact TI.nil _
    have hcomb := combine hI (fun k => fEs a k || fCs d k || fTs ks k) (fun k => fEs (copyEs i.1 a) k || fCs d' k || fTs k' k) (bndP (.proc (.mk o x' (copyEs i.1 a) d' k'))) (isT t) (isT x')
      (fun k => by
        rw [Im.or (A := fun k => fEs a k || fCs d k), Im.or, Bool.or_eq_true, Bool.or_eq_true, copyEs_free i.1 a h1 k, c1 k, t1 k])
      (bound_copy hI h2 hbt) (text_free hb e1)
      (fun k hk hbk => by rw [hfp, hbk]; simp only [Bool.not_false, Bool.and_true]; rw [hk]; rfl) k
    rw [fT]
    refine hcomb.trans ?_
    unfold Im
    refine exists_congr fun n => ?_
    rw [show fT (.mk o t a d ks) (bytesOf n) = fP p (bytesOf n) from by rw [hp]; rfl, hfp]
theorem copyC_free {W : List UInt8 → Prop} : ∀ (t : Clause) (v : Env) (U U' : Used) (t' : Clause) (m lev : Nat), BaseOk v.base → okC W t → (nodesC lev t).length ≤ 60 → Fit W v U (fC t) → Cov U m → m + bcC t ≤ 4900 → copyC v U t = some (t', U') →
    (∀ k, fC t' k = true ↔ Im v (fC t) k) ∧ (∀ k, U k = true → U' k = true) ∧ Cov U' (m + bcC t)
  | .mk f t j d ks, v, U, U', t', m, lev, hb, hok, h60, hF, hC, hm, h => by
    obtain ⟨p, hp⟩ : ∃ p, p = Part.def_ (.mk f t j d ks) := ⟨_, rfl⟩
    unfold okC at hok
    obtain ⟨_, _, h2, h3, h4⟩ := hok
    have hz : p.size ≤ 60 := by rw [hp, Part.size, nodesOf_len 0 lev]; exact h60
    rw [nodesC] at h60
    simp only [List.length_cons, List.length_append] at h60
    rw [bcC] at hm ⊢
    obtain ⟨x', j', d', U2, k', e1, e2, e3, e4, rfl⟩ := copyC_inv h
    rw [← hp] at h2 hm e2 e3 e4 ⊢
    have hI := inside_ok hb h2 (p := p) (by rw [hp]; exact hF) hz hC (by omega)
    obtain ⟨i, hi⟩ : ∃ i, i = inside v U p := ⟨_, rfl⟩
    rw [← hi] at hI e2 e3 e4
    have hb' : BaseOk i.1.base := by rw [hI.base]; exact hb
    have hfp : ∀ k, fP p k = (((fCs d k || fTs ks k) && !bndP p k) || false) := fun k => by rw [hp, Bool.or_false]; show fC _ k = _; rw [fC]
    have hfit := hI.fits (fun k => fCs d k || fTs ks k) (fun k hk => by
      cases hbk : bndP p k with
      | true => exact .inl rfl
      | false => exact .inr (by rw [hfp, hbk]; simp only [Bool.not_false, Bool.and_true]; rw [hk]; rfl))
    obtain ⟨c1, c2, c3⟩ := copyCs_free d i.1 i.2 U2 d' (m + (bindsP p).length) (lev + 1) hb' h3 (by omega) (hfit.less (fun _ h => h) (fun k hk => by simp [hk])) hI.cov (by omega) e3
    obtain ⟨t1, t2, t3⟩ := copyTs_free ks i.1 U2 U' k' (m + (bindsP p).length + bcCs d) (lev + 1) hb' h4 (by omega) (hfit.less c2 (fun k hk => by simp [hk])) c3 (by omega) e4
    refine ⟨fun k => ?_, fun k hk => t2 k (c2 k (hI.more k hk)), by rw [show m + ((bindsP p).length + bcCs d + bcTs ks) = m + (bindsP p).length + bcCs d + bcTs ks from by omega]; exact t3⟩
    have hbt : TI i.1 (bindsP p) (bindsP (.def_ (.mk f x' j' d' k'))) := by
      rw [hp]
      exact (msgs_ti _ _ _ _ e2).1
    have hcomb := combine hI (fun k => fCs d k || fTs ks k) (fun k => fCs d' k || fTs k' k) (bndP (.def_ (.mk f x' j' d' k'))) (fun _ => false) (fun _ => false)
      (fun k => by rw [Im.or, Bool.or_eq_true, c1 k, t1 k])
      (bound_copy hI h2 hbt) (fun k => ⟨fun h => (by cases h), fun ⟨n, h, _⟩ => (by cases h)⟩)
      (fun k hk hbk => by rw [hfp, hbk]; simp only [Bool.not_false, Bool.and_true]; rw [hk]; rfl) k
    rw [Bool.or_false] at hcomb
    rw [fC]
    refine hcomb.trans ?_
    unfold Im
    refine exists_congr fun n => ?_
    rw [show fC (.mk f t j d ks) (bytesOf n) = fP p (bytesOf n) from by rw [hp]; rfl, hfp]
theorem copyTs_free {W : List UInt8 → Prop} : ∀ (t : List Term) (v : Env) (U U' : Used) (t' : List Term) (m lev : Nat), BaseOk v.base → okTs W t → (nodesTs lev t).length ≤ 60 → Fit W v U (fTs t) → Cov U m → m + bcTs t ≤ 4900 → copyTs v U t = some (t', U') →
    (∀ k, fTs t' k = true ↔ Im v (fTs t) k) ∧ (∀ k, U k = true → U' k = true) ∧ Cov U' (m + bcTs t)
  | [], v, U, U', t', m, lev, hb, hok, h60, hF, hC, hm, h => by
    rw [copyTs] at h; cases h
    exact ⟨fun k => ⟨fun h => by simp [fTs] at h, fun ⟨n, h, _⟩ => by simp [fTs] at h⟩, fun _ h => h, hC⟩
  | c :: cs, v, U, U', t', m, lev, hb, hok, h60, hF, hC, hm, h => by
    unfold okTs at hok
    rw [nodesTs, List.length_append] at h60
    rw [bcTs] at hm ⊢
    obtain ⟨b, U2, bs, e1, e2, rfl⟩ := copyTs_inv h
    obtain ⟨a1, a2, a3⟩ := copyT_free c v U U2 b m lev hb hok.1 (by omega) (hF.less (fun _ h => h) (fun k hk => by rw [fTs, hk, Bool.true_or])) hC (by omega) e1
    obtain ⟨b1, b2, b3⟩ := copyTs_free cs v U2 U' bs (m + bcT c) lev hb hok.2 (by omega) (hF.less a2 (fun k hk => by rw [fTs, hk, Bool.or_true])) a3 (by omega) e2
    refine ⟨fun k => ?_, fun k hk => b2 k (a2 k hk), by rw [← Nat.add_assoc]; exact b3⟩
    rw [fTs, Bool.or_eq_true, a1 k, b1 k, ← Im.or]
    unfold Im
    refine exists_congr fun n => ?_
    rw [fTs]
theorem copyCs_free {W : List UInt8 → Prop} : ∀ (t : List Clause) (v : Env) (U U' : Used) (t' : List Clause) (m lev : Nat), BaseOk v.base → okCs W t → (nodesCs lev t).length ≤ 60 → Fit W v U (fCs t) → Cov U m → m + bcCs t ≤ 4900 → copyCs v U t = some (t', U') →
    (∀ k, fCs t' k = true ↔ Im v (fCs t) k) ∧ (∀ k, U k = true → U' k = true) ∧ Cov U' (m + bcCs t)
  | [], v, U, U', t', m, lev, hb, hok, h60, hF, hC, hm, h => by
    rw [copyCs] at h; cases h
    exact ⟨fun k => ⟨fun h => by simp [fCs] at h, fun ⟨n, h, _⟩ => by simp [fCs] at h⟩, fun _ h => h, hC⟩
  | c :: cs, v, U, U', t', m, lev, hb, hok, h60, hF, hC, hm, h => by
    unfold okCs at hok
    rw [nodesCs, List.length_append] at h60
    rw [bcCs] at hm ⊢
    obtain ⟨b, U2, bs, e1, e2, rfl⟩ := copyCs_inv h
    obtain ⟨a1, a2, a3⟩ := copyC_free c v U U2 b m lev hb hok.1 (by omega) (hF.less (fun _ h => h) (fun k hk => by rw [fCs, hk, Bool.true_or])) hC (by omega) e1
    obtain ⟨b1, b2, b3⟩ := copyCs_free cs v U2 U' bs (m + bcC c) lev hb hok.2 (by omega) (hF.less a2 (fun k hk => by rw [fCs, hk, Bool.or_true])) a3 (by omega) e2
    refine ⟨fun k => ?_, fun k hk => b2 k (a2 k hk), by rw [← Nat.add_assoc]; exact b3⟩
    rw [fCs, Bool.or_eq_true, a1 k, b1 k, ← Im.or]
    unfold Im
    refine exists_congr fun n => ?_
    rw [fCs]
end

end Go.Proofs.YtjmlaeofjjhfmaaGreat
