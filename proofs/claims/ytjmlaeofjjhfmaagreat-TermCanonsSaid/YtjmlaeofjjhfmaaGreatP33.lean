/- The free names of copies: what bound names become. -/
import Derived.Test.YtjmlaeofjjhfmaaGreatP24
set_option linter.unusedVariables false
set_option linter.unusedSimpArgs false
namespace Go.Proofs.YtjmlaeofjjhfmaaGreat
open Go.RowKit Go.Shelf Go.Maps

theorem mkB_self (x : ByteArray) : mkB (bytesOf x) = x := by cases x; simp [mkB, bytesOf]
theorem strN_ne (n : Nat) : strN n ≠ [] := by
  intro h
  have := (strN_val n).1
  rw [h] at this
  cases this
theorem bytes_inj {a b : ByteArray} (h : bytesOf a = bytesOf b) : a = b := by rw [← mkB_self a, h, mkB_self]
/-- A text that stands, as a name. -/
def isT (t : ByteArray) (k : List UInt8) : Bool := !(bytesOf t).isEmpty && k == bytesOf t
def bndP (p : Part) (k : List UInt8) : Bool := (bindsP p).any (fun b => k == bytesOf b)
mutual
/-- The free names, by structure. -/
def fE : Exp → List UInt8 → Bool
  | .mk _ _ t kids, k => fEs kids k || isT t k
def fEs : List Exp → List UInt8 → Bool
  | [], _ => false
  | e :: es, k => fE e k || fEs es k
end
mutual
def fC : Clause → List UInt8 → Bool
  | .mk f t j d ks, k => (fCs d k || fTs ks k) && !bndP (.def_ (.mk f t j d ks)) k
def fCs : List Clause → List UInt8 → Bool
  | [], _ => false
  | c :: cs, k => fC c k || fCs cs k
def fT : Term → List UInt8 → Bool
  | .mk o t a d ks, k => ((fEs a k || fCs d k || fTs ks k) && !bndP (.proc (.mk o t a d ks)) k) || isT t k
def fTs : List Term → List UInt8 → Bool
  | [], _ => false
  | t :: ts, k => fT t k || fTs ts k
end
def fP : Part → List UInt8 → Bool
  | .proc t => fT t
  | .exp e => fE e
  | .def_ c => fC c
theorem fEs_any : ∀ es k, fEs es k = es.any (fun e => fE e k)
  | [], _ => rfl
  | e :: es, k => by rw [fEs, fEs_any es k]; rfl
theorem fCs_any : ∀ es k, fCs es k = es.any (fun e => fC e k)
  | [], _ => rfl
  | e :: es, k => by rw [fCs, fCs_any es k]; rfl
theorem fTs_any : ∀ es k, fTs es k = es.any (fun e => fT e k)
  | [], _ => rfl
  | e :: es, k => by rw [fTs, fTs_any es k]; rfl
theorem fP_parts (p : Part) (k : List UInt8) : fP p k = (((p.parts.any (fun q => fP q k)) && !bndP p k) || isT (standsP p) k) := by
  cases p with
  | proc t =>
    obtain ⟨o, t, a, d, ks⟩ := t
    simp only [fP, fT, Part.parts, List.any_append, List.any_map, fEs_any, fCs_any, fTs_any, standsP]
    rfl
  | exp e =>
    obtain ⟨o, n, t, ks⟩ := e
    simp only [fP, fE, Part.parts, List.any_map, fEs_any, standsP, bndP, bindsP, List.any_nil, Bool.not_false, Bool.and_true]
    rfl
  | def_ c =>
    obtain ⟨f, t, j, d, ks⟩ := c
    have e : isT (standsP (.def_ (.mk f t j d ks))) k = false := rfl
    rw [e]
    simp only [fP, fC, Part.parts, List.any_append, List.any_map, fCs_any, fTs_any, Bool.or_false]
    rfl
theorem freeN_fP : ∀ (n : Nat) (p : Part), p.size ≤ n → ∀ k, freeN n p k = fP p k := by
  intro n
  induction n with
  | zero => intro p hp; have := size_pos p; omega
  | succ n ih =>
    intro p hp k
    rw [fP_parts, freeN]
    have e : p.parts.any (fun q => freeN n q k) = p.parts.any (fun q => fP q k) := by
      rw [Bool.eq_iff_iff, List.any_eq_true, List.any_eq_true]
      constructor
      · rintro ⟨q, hq, h⟩; exact ⟨q, hq, by rw [← ih q (by have := size_lt hq; omega)]; exact h⟩
      · rintro ⟨q, hq, h⟩; exact ⟨q, hq, by rw [ih q (by have := size_lt hq; omega)]; exact h⟩
    rw [e]; rfl

/- What is asked of a process that is copied: as formed ones are; all names that it binds are in W. -/
mutual
def okE : Exp → Prop
  | .mk op _ t kids => (op = 2 → kids = [] ∧ t.size ≠ 0) ∧ (op ≠ 2 → t.size = 0) ∧ okEs kids
def okEs : List Exp → Prop
  | [] => True
  | e :: es => okE e ∧ okEs es
end
def okB (W : List UInt8 → Prop) (p : Part) : Prop := ∀ b ∈ bindsP p, b.size ≠ 0 ∧ W (bytesOf b)
mutual
def okC (W : List UInt8 → Prop) : Clause → Prop
  | .mk f t j d ks => (f = 2 → j = []) ∧ (f ≠ 2 → d = []) ∧ okB W (.def_ (.mk f t j d ks)) ∧ okCs W d ∧ okTs W ks
def okCs (W : List UInt8 → Prop) : List Clause → Prop
  | [] => True
  | c :: cs => okC W c ∧ okCs W cs
def okT (W : List UInt8 → Prop) : Term → Prop
  | .mk o t a d ks => okEs a ∧ okB W (.proc (.mk o t a d ks)) ∧ okCs W d ∧ okTs W ks
def okTs (W : List UInt8 → Prop) : List Term → Prop
  | [] => True
  | t :: ts => okT W t ∧ okTs W ts
end

def lookF (x : ByteArray) : List Frame → Option ByteArray
  | [] => none
  | f :: fs => match f (bytesOf x) with
    | some n => some n
    | none => lookF x fs
theorem becomesF_look (b : Base) (x : ByteArray) : ∀ fs, becomesF b x fs = match lookF x fs with
    | some n => nameE n
    | none => b.becomes x
  | [] => rfl
  | f :: fs => by
    rw [becomesF, lookF]
    cases f (bytesOf x) with
    | some n => rfl
    | none => exact becomesF_look b x fs
theorem lookF_binds (x : ByteArray) : ∀ fs : List Frame, (fs.any (fun f => (f (bytesOf x)).isSome)) = (lookF x fs).isSome
  | [] => rfl
  | f :: fs => by
    rw [List.any_cons, lookF]
    cases f (bytesOf x) with
    | some n => rfl
    | none => simpa using lookF_binds x fs
theorem fE_nameE (s : ByteArray) (k : List UInt8) : fE (nameE s) k = isT s k := by
  unfold nameE; rw [fE, fEs, Bool.false_or]
theorem isT_iff {t : ByteArray} {k : List UInt8} (h : t.size ≠ 0) : isT t k = true ↔ k = bytesOf t := by
  have e : (bytesOf t).isEmpty = false := by
    cases t with | mk d => simp [ByteArray.size] at h; simpa [bytesOf] using h
  simp [isT, e]
theorem isT_zero {t : ByteArray} {k : List UInt8} (h : t.size = 0) : isT t k = false := by
  rw [empty_of_size h]; rfl

/-- What the bound names of a part become. -/
structure FrOk (f : Frame) (U U1 : Used) (B ren : List ByteArray) : Prop where
  is : ∀ x, (f x).isSome = true ↔ x ∈ B.map bytesOf
  what : ∀ n c, f (bytesOf n) = some c → (c = n ∧ n ∉ ren) ∨ (U (bytesOf c) = false ∧ U1 (bytesOf c) = true ∧ c.size ≠ 0)
  more : ∀ k, U k = true → U1 k = true
theorem choose_good {U : Used} {m : Nat} (h : Cov U m) (hm : m ≤ 4900) : U (choose U) = false := by
  obtain ⟨j, hj, hg⟩ := h.free hm
  have h1 := (firstFrom_spec U 5000 0 j (by omega) (by omega) hg).1
  unfold goodAt at h1
  unfold choose
  rw [Bool.and_eq_true] at h1
  simpa using h1.2
theorem self_fold : ∀ (B : List ByteArray) (f : Frame) (x : List UInt8), (B.foldl self1 f) x = if x ∈ B.map bytesOf then some (mkB x) else f x
  | [], f, x => by simp
  | b :: B, f, x => by
    rw [List.foldl_cons, self_fold B]
    by_cases h : x ∈ B.map bytesOf
    · rw [if_pos h, if_pos (by rw [List.map_cons]; exact List.mem_cons_of_mem _ h)]
    · rw [if_neg h]
      by_cases h2 : x = bytesOf b
      · rw [if_pos (by rw [List.map_cons]; exact h2 ▸ List.mem_cons_self), self1, upd, if_pos (by simpa using h2), h2, mkB_self]
      · rw [if_neg (by rw [List.map_cons, List.mem_cons]; exact fun h3 => h3.elim h2 h), self1, upd, if_neg (by simpa using h2)]
theorem anew_fold : ∀ (ren : List ByteArray) (f : Frame) (U : Used) (m : Nat), Cov U m → m + ren.length ≤ 4900 →
    (∀ x, x ∉ ren.map bytesOf → (ren.foldl anew1 (f, U)).1 x = f x) ∧
    (∀ n ∈ ren, ∃ c, (ren.foldl anew1 (f, U)).1 (bytesOf n) = some c ∧ U (bytesOf c) = false ∧ (ren.foldl anew1 (f, U)).2 (bytesOf c) = true ∧ c.size ≠ 0) ∧
    (∀ k, U k = true → (ren.foldl anew1 (f, U)).2 k = true) ∧ Cov (ren.foldl anew1 (f, U)).2 (m + ren.length)
  | [], f, U, m, hC, _ => ⟨fun _ _ => rfl, fun n hn => by simp at hn, fun _ h => h, hC⟩
  | r :: ren, f, U, m, hC, hm => by
    rw [List.length_cons] at hm
    have hch := choose_good hC (by omega)
    obtain ⟨h1, h2, h3, h4⟩ := anew_fold ren (upd f r (mkB (choose U))) (plusU U (choose U)) (m + 1) (hC.plus _) (by omega)
    have e : (r :: ren).foldl anew1 (f, U) = ren.foldl anew1 (upd f r (mkB (choose U)), plusU U (choose U)) := rfl
    rw [e]
    refine ⟨fun x hx => ?_, fun n hn => ?_, fun k hk => h3 k ?_, ?_⟩
    · rw [List.map_cons, List.mem_cons, not_or] at hx
      rw [h1 x hx.2, upd, if_neg (by simpa using hx.1)]
    · by_cases hr : bytesOf n ∈ ren.map bytesOf
      · obtain ⟨n', hn', he⟩ := List.mem_map.1 hr
        obtain rfl := bytes_inj he
        obtain ⟨c, a1, a2, a3, a4⟩ := h2 n' hn'
        refine ⟨c, a1, ?_, a3, a4⟩
        unfold plusU at a2
        exact (Bool.or_eq_false_iff.1 a2).1
      · have hnr : n = r := by
          rcases List.mem_cons.1 hn with h | h
          · exact h
          · exact absurd (List.mem_map.2 ⟨n, h, rfl⟩) hr
        subst hnr
        refine ⟨mkB (choose U), by rw [h1 _ hr, upd, if_pos (by simp)], by rw [bytesOf_mkB]; exact hch, h3 _ (by rw [bytesOf_mkB]; simp [plusU]), ?_⟩
        rw [mkB_size]
        intro h
        exact strN_ne _ (List.length_eq_zero_iff.1 h)
    · simp [plusU, hk]
    · rw [List.length_cons, show m + (ren.length + 1) = m + 1 + ren.length from by omega]; exact h4

theorem frame_ok {B ren : List ByteArray} {U : Used} {m : Nat} (hsub : ∀ b ∈ ren, b ∈ B) (hC : Cov U m) (hm : m + ren.length ≤ 4900) :
    FrOk (ren.foldl anew1 (B.foldl self1 (fun _ => none), U)).1 U (ren.foldl anew1 (B.foldl self1 (fun _ => none), U)).2 B ren := by
  obtain ⟨h1, h2, h3, h4⟩ := anew_fold ren (B.foldl self1 (fun _ => none)) U m hC hm
  have hself := self_fold B (fun _ => none)
  refine ⟨fun x => ?_, fun n c hc => ?_, h3⟩
  · by_cases h : x ∈ ren.map bytesOf
    · obtain ⟨n, hn, rfl⟩ := List.mem_map.1 h
      obtain ⟨c, a1, _⟩ := h2 n hn
      rw [a1]
      exact ⟨fun _ => List.mem_map.2 ⟨n, hsub n hn, rfl⟩, fun _ => rfl⟩
    · rw [h1 x h, hself x]
      by_cases h2 : x ∈ B.map bytesOf
      · rw [if_pos h2]; simp [h2]
      · rw [if_neg h2]; simp [h2]
  · by_cases h : bytesOf n ∈ ren.map bytesOf
    · obtain ⟨n', hn', he⟩ := List.mem_map.1 h
      obtain rfl := bytes_inj he
      obtain ⟨c', a1, a2, a3, a4⟩ := h2 n' hn'
      rw [a1] at hc
      cases hc
      exact .inr ⟨a2, a3, a4⟩
    · rw [h1 _ h, hself] at hc
      by_cases h2 : bytesOf n ∈ B.map bytesOf
      · rw [if_pos h2] at hc
        cases hc
        exact .inl ⟨mkB_self n, fun h3 => h (List.mem_map.2 ⟨n, h3, rfl⟩)⟩
      · rw [if_neg h2] at hc; cases hc

def Im (v : Env) (A : List UInt8 → Bool) (k : List UInt8) : Prop := ∃ n : ByteArray, A (bytesOf n) = true ∧ fE (v.becomes n) k = true
structure Fit (W : List UInt8 → Prop) (v : Env) (U : Used) (A : List UInt8 → Bool) : Prop where
  used : ∀ n k, A (bytesOf n) = true → fE (v.becomes n) k = true → U k = true
  kept : v.base ≠ .anew → ∀ b, W b → U b = true ∧ ∀ n c, lookF n v.frames = some c → c = n ∨ bytesOf c ≠ b
def BaseOk (b : Base) : Prop := b = .anew ∨ ∃ x e, b = .putting x e ∧ okE e ∧ (Part.exp e).size ≤ 60
theorem Fit.less {W : List UInt8 → Prop} {v : Env} {U U' : Used} {A A' : List UInt8 → Bool} (h : Fit W v U A) (hU : ∀ k, U k = true → U' k = true) (hA : ∀ k, A' k = true → A k = true) : Fit W v U' A' :=
  ⟨fun n k h1 h2 => hU k (h.used n k (hA _ h1) h2), fun hb b hW => ⟨hU b (h.kept hb b hW).1, (h.kept hb b hW).2⟩⟩
theorem becomes_shape {v : Env} (hb : BaseOk v.base) (n : ByteArray) : (∃ c, v.becomes n = nameE c) ∨ okE (v.becomes n) := by
  unfold Env.becomes
  rw [becomesF_look]
  cases lookF n v.frames with
  | some c => exact .inl ⟨c, rfl⟩
  | none =>
    rcases hb with hb | ⟨x, e, hb, he, _⟩
    · rw [hb]; exact .inl ⟨n, rfl⟩
    · rw [hb]
      simp only [Base.becomes]
      split
      · exact .inr he
      · exact .inl ⟨n, rfl⟩
mutual
theorem copyE_free (v : Env) : ∀ e, okE e → ∀ k, fE (copyE v e) k = true ↔ Im v (fE e) k
  | .mk op n t kids, he, k => by
    unfold okE at he
    obtain ⟨h1, h2, h3⟩ := he
    rw [copyE]
    by_cases ho : op = 2
    · obtain ⟨rfl, ht⟩ := h1 ho
      rw [if_pos ho]
      unfold Im
      constructor
      · intro h
        exact ⟨t, by rw [fE, fEs, Bool.false_or]; exact (isT_iff ht).2 rfl, h⟩
      · rintro ⟨m, h4, h5⟩
        rw [fE, fEs, Bool.false_or] at h4
        rw [bytes_inj ((isT_iff ht).1 h4)] at h5
        exact h5
    · rw [if_neg ho, fE, isT_zero (h2 ho), Bool.or_false, copyEs_free v kids h3 k]
      unfold Im
      refine exists_congr fun m => ?_
      rw [fE, isT_zero (h2 ho), Bool.or_false]
theorem copyEs_free (v : Env) : ∀ es, okEs es → ∀ k, fEs (copyEs v es) k = true ↔ Im v (fEs es) k
  | [], _, k => by
    rw [copyEs]
    constructor
    · intro h; simp [fEs] at h
    · rintro ⟨m, h, _⟩; simp [fEs] at h
  | e :: es, he, k => by
    unfold okEs at he
    rw [copyEs, fEs, Bool.or_eq_true, copyE_free v e he.1 k, copyEs_free v es he.2 k]
    unfold Im
    constructor
    · rintro (⟨m, h1, h2⟩ | ⟨m, h1, h2⟩)
      · exact ⟨m, by rw [fEs, h1, Bool.true_or], h2⟩
      · exact ⟨m, by rw [fEs, h1, Bool.or_true], h2⟩
    · rintro ⟨m, h1, h2⟩
      rw [fEs, Bool.or_eq_true] at h1
      exact h1.elim (fun h => .inl ⟨m, h, h2⟩) (fun h => .inr ⟨m, h, h2⟩)
end
theorem text_free {v : Env} (hb : BaseOk v.base) {t t' : ByteArray} (h : textM v t = some t') (k : List UInt8) : isT t' k = true ↔ Im v (isT t) k := by
  unfold textM at h
  by_cases hz : t.size = 0
  · rw [if_pos hz] at h
    cases h
    constructor
    · intro h; rw [isT_zero hz] at h; cases h
    · rintro ⟨m, h1, _⟩; rw [isT_zero hz] at h1; cases h1
  · rw [if_neg hz] at h
    have hk : fE (v.becomes t) k = isT t' k := by
      rcases becomes_shape hb t with ⟨c, hc⟩ | hc
      · rw [hc] at h ⊢
        rw [fE_nameE]
        unfold nameE at h
        simp at h
        rw [h]
      · cases hv : v.becomes t with
        | mk op n x kids =>
          rw [hv] at h hc
          simp only at h
          by_cases ho : op = 2
          · rw [if_pos ho] at h
            cases h
            unfold okE at hc
            rw [(hc.1 ho).1, fE, fEs, Bool.false_or]
          · rw [if_neg ho] at h; cases h
    constructor
    · intro h1; exact ⟨t, (isT_iff hz).2 rfl, hk.trans h1⟩
    · rintro ⟨m, h1, h2⟩
      rw [bytes_inj ((isT_iff hz).1 h1)] at h2
      exact hk ▸ h2

theorem bndP_iff (p : Part) (k : List UInt8) : bndP p k = true ↔ ∃ b ∈ bindsP p, k = bytesOf b := by
  unfold bndP; simp [List.any_eq_true]
/-- What a part's names become within it. -/
structure InOk (W : List UInt8 → Prop) (v : Env) (U : Used) (p : Part) (i : Env × Used) (m : Nat) : Prop where
  base : i.1.base = v.base
  more : ∀ k, U k = true → i.2 k = true
  cov : Cov i.2 (m + (bindsP p).length)
  old : ∀ n, bndP p (bytesOf n) = false → lookF n i.1.frames = lookF n v.frames
  new : ∀ n, bndP p (bytesOf n) = true → ∃ c, lookF n i.1.frames = some c ∧ c.size ≠ 0 ∧ i.2 (bytesOf c) = true
  fits : ∀ A : List UInt8 → Bool, (∀ k, A k = true → bndP p k = true ∨ fP p k = true) → Fit W i.1 i.2 A
  apart : ∀ n b c k, fP p (bytesOf n) = true → bndP p (bytesOf n) = false → bndP p (bytesOf b) = true → lookF b i.1.frames = some c → fE (v.becomes n) k = true → k ≠ bytesOf c
theorem becomes_look (v : Env) (n : ByteArray) : v.becomes n = match lookF n v.frames with
    | some c => nameE c
    | none => v.base.becomes n := becomesF_look _ _ _
theorem InOk.becomes_old {W : List UInt8 → Prop} {v : Env} {U : Used} {p : Part} {i : Env × Used} {m : Nat} (h : InOk W v U p i m) (n : ByteArray) (hn : bndP p (bytesOf n) = false) : i.1.becomes n = v.becomes n := by
  rw [becomes_look, becomes_look, h.old n hn, h.base]

theorem inside_ok {W : List UInt8 → Prop} {v : Env} {U : Used} {p : Part} {m : Nat} (hbase : BaseOk v.base) (hB : okB W p) (hF : Fit W v U (fP p)) (h60 : p.size ≤ 60) (hC : Cov U m) (hm : m + (bindsP p).length ≤ 4900) : InOk W v U p (inside v U p) m := by
  unfold inside
  by_cases he : bindsP p = []
  · have hb : ∀ k, bndP p k = false := fun k => by unfold bndP; rw [he]; rfl
    rw [if_pos he]
    refine ⟨rfl, fun _ h => h, by rw [he]; exact hC, fun n _ => rfl, fun n hn => (by rw [hb] at hn; cases hn), fun A hA => hF.less (fun _ h => h) (fun k hk => ?_), fun n b c k _ _ hn => (by rw [hb] at hn; cases hn)⟩
    rcases hA k hk with h | h
    · rw [hb] at h; cases h
    · exact h
  · rw [if_neg he]
    obtain ⟨ren, hren⟩ : ∃ ren, ren = v.base.renames v p := ⟨_, rfl⟩
    have hsub : ∀ b ∈ ren, b ∈ bindsP p := by
      intro b hb
      rw [hren] at hb
      rcases hbase with h | ⟨x, e, h, _, _⟩
      · rw [h] at hb; exact hb
      · rw [h] at hb
        simp only [Base.renames] at hb
        split at hb
        · simp at hb
        · exact (List.mem_filter.1 hb).1
    have hlen : ren.length ≤ (bindsP p).length := by
      rw [hren]
      rcases hbase with h | ⟨x, e, h, _, _⟩
      · rw [h]; exact Nat.le_refl _
      · rw [h]
        simp only [Base.renames]
        split
        · simp
        · exact List.length_filter_le _ _
    rw [← hren]
    obtain ⟨s, hs⟩ : ∃ s, s = ren.foldl anew1 ((bindsP p).foldl self1 (fun _ => none), U) := ⟨_, rfl⟩
    have hfr := frame_ok (m := m) hsub hC (by omega)
    have hcv := (anew_fold ren ((bindsP p).foldl self1 (fun _ => none)) U m hC (by omega)).2.2.2
    rw [← hs] at hfr hcv
    simp only
    rw [← hs]
    have hlook : ∀ n, lookF n (s.1 :: v.frames) = match s.1 (bytesOf n) with
        | some c => some c
        | none => lookF n v.frames := fun n => rfl
    have hnone : ∀ n, bndP p (bytesOf n) = false → s.1 (bytesOf n) = none := by
      intro n hn
      cases hc : s.1 (bytesOf n) with
      | none => rfl
      | some c =>
        obtain ⟨b, hb, he⟩ := List.mem_map.1 ((hfr.is (bytesOf n)).1 (by rw [hc]; rfl))
        have : bndP p (bytesOf n) = true := (bndP_iff p _).2 ⟨b, hb, he.symm⟩
        rw [hn] at this; cases this
    have hsome : ∀ n, bndP p (bytesOf n) = true → ∃ c, s.1 (bytesOf n) = some c := by
      intro n hn
      obtain ⟨b, hb, he⟩ := (bndP_iff p _).1 hn
      exact Option.isSome_iff_exists.1 ((hfr.is (bytesOf n)).2 (List.mem_map.2 ⟨b, hb, he.symm⟩))
    have hanew : v.base = .anew → ren = bindsP p := fun h => by rw [hren, h]; rfl
    have hmemB : ∀ n, bndP p (bytesOf n) = true → n ∈ bindsP p := fun n hn => by
      obtain ⟨b, hb, he⟩ := (bndP_iff p _).1 hn
      rw [bytes_inj he]; exact hb
    have hbB : ∀ n c, s.1 (bytesOf n) = some c → n ∈ bindsP p := fun n c hc => by
      obtain ⟨b, hb, he⟩ := List.mem_map.1 ((hfr.is (bytesOf n)).1 (by rw [hc]; rfl))
      rw [← bytes_inj he]; exact hb
    have hkeep : ∀ n, n ∈ bindsP p → n ∉ ren → W (bytesOf n) ∧ v.base ≠ .anew := fun n hn hr => ⟨(hB n hn).2, fun h => hr (by rw [hanew h]; exact hn)⟩
    refine ⟨rfl, hfr.more, hcv.mono (by omega), fun n hn => by rw [hlook, hnone n hn], fun n hn => ?_, fun A hA => ⟨fun n k h1 h2 => ?_, fun hb b hWb => ⟨hfr.more b (hF.kept hb b hWb).1, fun n c hl => ?_⟩⟩, fun n b c k h1 h2 h3 hl h4 => ?_⟩
    · obtain ⟨c, hc⟩ := hsome n hn
      refine ⟨c, by rw [hlook, hc], ?_⟩
      rcases hfr.what n c hc with ⟨rfl, hr⟩ | ⟨_, h2, h3⟩
      · have hb := hmemB c hn
        obtain ⟨hw1, hw2⟩ := hkeep c hb hr
        exact ⟨(hB c hb).1, hfr.more _ (hF.kept hw2 _ hw1).1⟩
      · exact ⟨h3, h2⟩
    · cases hc : s.1 (bytesOf n) with
      | some c =>
        rw [becomes_look, show lookF n (Env.mk v.base (s.1 :: v.frames)).frames = some c from by rw [hlook, hc], fE_nameE] at h2
        rcases hfr.what n c hc with ⟨rfl, hr⟩ | ⟨_, h3, h4⟩
        · have hb := hbB c c hc
          obtain ⟨hw1, hw2⟩ := hkeep c hb hr
          rw [(isT_iff (hB c hb).1).1 h2]
          exact hfr.more _ (hF.kept hw2 _ hw1).1
        · rw [(isT_iff h4).1 h2]; exact h3
      | none =>
        have e : (Env.mk v.base (s.1 :: v.frames)).becomes n = v.becomes n := by
          rw [becomes_look, becomes_look, show lookF n (Env.mk v.base (s.1 :: v.frames)).frames = lookF n v.frames from by rw [hlook, hc]]
        rw [e] at h2
        rcases hA _ h1 with h | h
        · obtain ⟨c, hc'⟩ := hsome n h
          rw [hc'] at hc; cases hc
        · exact hfr.more k (hF.used n k h h2)
    · rw [hlook] at hl
      cases hc : s.1 (bytesOf n) with
      | some c' =>
        rw [hc] at hl
        cases hl
        rcases hfr.what n c hc with ⟨rfl, _⟩ | ⟨h3, _, _⟩
        · exact .inl rfl
        · refine .inr fun e => ?_
          rw [e, (hF.kept hb b hWb).1] at h3; cases h3
      | none =>
        rw [hc] at hl
        exact (hF.kept hb b hWb).2 n c hl
    · have hmb := hmemB b h3
      obtain ⟨c', hc⟩ := hsome b h3
      have hl' : lookF b (s.1 :: v.frames) = some c := hl
      rw [hlook, hc] at hl'
      cases hl'
      rcases hfr.what b c hc with ⟨rfl, hr⟩ | ⟨h5, _, _⟩
      · obtain ⟨hw1, hw2⟩ := hkeep c hmb hr
        rw [becomes_look] at h4
        have hnc : bytesOf n ≠ bytesOf c := fun e => by rw [e, h3] at h2; cases h2
        cases hln : lookF n v.frames with
        | some d =>
          rw [hln] at h4
          simp only at h4
          rw [fE_nameE] at h4
          intro e
          rw [e] at h4
          have hd : bytesOf c = bytesOf d := by
            unfold isT at h4
            rw [Bool.and_eq_true] at h4
            simpa using h4.2
          rcases (hF.kept hw2 _ hw1).2 n d hln with rfl | hd2
          · exact hnc hd.symm
          · exact hd2 hd.symm
        | none =>
          rw [hln] at h4
          simp only at h4
          rcases hbase with h | ⟨x, e, h, heo, he60⟩
          · exact absurd h hw2
          · rw [h] at h4
            simp only [Base.becomes] at h4
            by_cases hx : n = x
            · rw [if_pos hx] at h4
              rw [h] at hren
              simp only [Base.renames] at hren
              have hvb : v.binds (bytesOf x) = false := by
                unfold Env.binds
                rw [lookF_binds, ← hx, hln]; rfl
              have hfx : freeN 60 p (bytesOf x) = true := by rw [freeN_fP 60 p h60, ← hx]; exact h1
              rw [hvb, hfx] at hren
              simp only [Bool.not_true, Bool.or_self, Bool.false_eq_true, if_false] at hren
              intro ek
              rw [ek] at h4
              refine hr (hren ▸ List.mem_filter.2 ⟨hmb, ?_⟩)
              rw [freeN_fP 60 _ he60]
              exact h4
            · rw [if_neg hx, fE_nameE] at h4
              intro ek
              rw [ek] at h4
              unfold isT at h4
              rw [Bool.and_eq_true] at h4
              exact hnc (by simpa using (beq_iff_eq.1 h4.2).symm)
      · intro e
        rw [← e, hF.used n k h1 h4] at h5
        cases h5

end Go.Proofs.YtjmlaeofjjhfmaaGreat
