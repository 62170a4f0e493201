/- mustBeFormed, whatever comes in. -/
import Derived.Test.YtjmlaeofjjhfmaaGreatP09
import Derived.Test.YtjmlaeofjjhfmaaGreatP37
import Derived.Test.YtjmlaeofjjhfmaaGreatP38
import Derived.Test.YtjmlaeofjjhfmaaGreatP39
import Derived.Test.YtjmlaeofjjhfmaaGreatP10
import Derived.Test.YtjmlaeofjjhfmaaGreatP12
set_option linter.unusedVariables false
set_option linter.unusedSimpArgs false
namespace Go.Proofs.YtjmlaeofjjhfmaaGreat
open Go.RowKit Go.Shelf
attribute [local go_sem] Oper.semAt_some

/-! ### Parts of parts -/
theorem nodes_sub : ∀ (s : Nat) (p : Part) (lev : Nat), p.size ≤ s → ∀ q ∈ nodesOf lev p, q.1.size ≤ p.size ∧ ∀ lev' r, r ∈ nodesOf lev' q.1 → r.1 ∈ (nodesOf lev p).map (·.1) := by
  intro s
  induction s with
  | zero => intro p lev hp; exact absurd (by rw [Part.size, nodesOf_eq]; simp) (Nat.not_lt.2 hp)
  | succ s ih =>
    intro p lev hps q hq
    rw [nodesOf_eq] at hq
    rcases List.mem_cons.1 hq with rfl | hq
    · exact ⟨Nat.le_refl _, fun lev' r hr => by rw [nodesOf_fst lev lev']; exact List.mem_map.2 ⟨r, hr, rfl⟩⟩
    · obtain ⟨k, hk, hqk⟩ := List.mem_flatMap.1 hq
      have hlt := size_lt hk
      obtain ⟨h1, h2⟩ := ih k (lev + 1) (by omega) q hqk
      refine ⟨by omega, fun lev' r hr => ?_⟩
      obtain ⟨y, hy, hyr⟩ := List.mem_map.1 (h2 lev' r hr)
      rw [nodesOf_eq]
      exact List.mem_map.2 ⟨y, List.mem_cons_of_mem _ (mem_nodesL hk hy), hyr⟩

def okJ : Part → Prop
  | .def_ (.mk _ _ j _ _) => j.length ≤ 3
  | _ => True
theorem okJ_of {p : Part} (h : p.shaped = true) : okJ p := by
  cases p with
  | proc t => trivial
  | exp t => trivial
  | def_ t =>
    obtain ⟨f, t, j, d, k⟩ := t
    simp only [Part.shaped, shapedCB, joinedB, Bool.or_eq_true, Bool.and_eq_true, beq_iff_eq, decide_eq_true_eq] at h
    show j.length ≤ 3
    omega
mutual
theorem textsC (lev : Nat) : ∀ c : Clause, (∀ q ∈ nodesC lev c, okJ q.1) → c.joins.length + (alltexts (groupsC c)).length ≤ 3 * (nodesC lev c).length
  | .mk f t j d k, h => by
    have h0 : j.length ≤ 3 := h (.def_ (.mk f t j d k), lev) (by simp [nodesC])
    have h1 := textsL (lev + 1) d (fun q hq => h q (by simp [nodesC, hq]))
    simp only [Clause.joins, nodesC, List.length_cons, List.length_append]
    unfold groupsC
    split
    · have e : alltexts (d :: groupsI d) = gtexts d ++ alltexts (groupsI d) := by simp [alltexts]
      rw [e, List.length_append]; omega
    · simp [alltexts]; omega
theorem textsL (lev : Nat) : ∀ d : List Clause, (∀ q ∈ nodesCs lev d, okJ q.1) → (gtexts d).length + (alltexts (groupsI d)).length ≤ 3 * (nodesCs lev d).length
  | [], _ => by simp [gtexts, alltexts, groupsI]
  | c :: cs, h => by
    have h1 := textsC lev c (fun q hq => h q (by simp [nodesCs, hq]))
    have h2 := textsL lev cs (fun q hq => h q (by simp [nodesCs, hq]))
    have e1 : gtexts (c :: cs) = c.joins.map (·.text) ++ gtexts cs := by simp [gtexts]
    have e2 : alltexts (groupsI (c :: cs)) = alltexts (groupsC c) ++ alltexts (groupsI cs) := by simp [alltexts, groupsI]
    rw [e1, e2]
    simp only [nodesCs, List.length_append, List.length_map]; omega
end
theorem texts_le (d : List Clause) (h : ∀ q ∈ nodesCs 0 d, okJ q.1) : (alltexts (groupsL d)).length ≤ 3 * csize d := by
  have := textsL 0 d h
  have e : alltexts (groupsL d) = gtexts d ++ alltexts (groupsI d) := by simp [alltexts, groupsL]
  rw [e, List.length_append]; exact this

/-- What the first look at the nodes asks. -/
def Even (p : Part) : Prop := p.size ≤ 60 ∧ ∀ q ∈ nodesOf 1 p, q.1.shaped = true ∧ q.2 ≤ 12
theorem even_def {p : Part} (h : Even p) {o : Int} {t : ByteArray} {a : List Exp} {d : List Clause} {k : List Term} {lv : Nat} (hq : (Part.proc (.mk o t a d k), lv) ∈ nodesOf 1 p) : csize d ≤ 60 ∧ (alltexts (groupsL d)).length ≤ 180 := by
  obtain ⟨h1, h2⟩ := nodes_sub p.size p 1 (Nat.le_refl _) _ hq
  have hsz : csize d ≤ (Part.proc (.mk o t a d k)).size := by
    simp only [Part.size, nodesOf, nodesT, List.length_cons, List.length_append, csize]
    rw [nodesCs_len 0 (0 + 1) d]; omega
  have hc : csize d ≤ 60 := by have := h.1; simp only at h1; omega
  refine ⟨hc, ?_⟩
  have := texts_le d (fun q hq2 => by
    have h3 := h2 0 (q.1, q.2 + 1) ?_
    · obtain ⟨y, hy, hyq⟩ := List.mem_map.1 h3
      simp only at hyq
      rw [← hyq]
      exact okJ_of (h.2 y hy).1
    · have : ∀ (d : List Clause) (lev : Nat) (q : Part × Nat), q ∈ nodesCs lev d → (q.1, q.2 + 1) ∈ nodesCs (lev + 1) d := nodesCs_up
      simp only [nodesOf, nodesT]
      exact List.mem_cons_of_mem _ (by simp [this d 0 q hq2]))
  omega
where
  nodesCs_up : ∀ (d : List Clause) (lev : Nat) (q : Part × Nat), q ∈ nodesCs lev d → (q.1, q.2 + 1) ∈ nodesCs (lev + 1) d := by
    have key : ∀ (s : Nat) (p : Part) (lev : Nat), p.size ≤ s → ∀ q ∈ nodesOf lev p, (q.1, q.2 + 1) ∈ nodesOf (lev + 1) p := by
      intro s
      induction s with
      | zero => intro p lev hp; exact absurd (by rw [Part.size, nodesOf_eq]; simp) (Nat.not_lt.2 hp)
      | succ s ih =>
        intro p lev hps q hq
        rw [nodesOf_eq] at hq ⊢
        rcases List.mem_cons.1 hq with rfl | hq
        · exact List.mem_cons_self ..
        · obtain ⟨k, hk, hqk⟩ := List.mem_flatMap.1 hq
          exact List.mem_cons_of_mem _ (mem_nodesL hk (ih k (lev + 1) (by have := size_lt hk; omega) q hqk))
    intro d lev q hq
    rw [nodesCs_eq] at hq ⊢
    obtain ⟨k, hk, hqk⟩ := List.mem_flatMap.1 hq
    exact mem_nodesL hk (key k.size k lev (Nat.le_refl _) q hqk)

def agreesB : Part → Bool
  | .proc (.mk op _ _ defs _) => if op = 4 then agreeB defs else true
  | _ => true
theorem formed_iff {p : Part} : Formed p ↔ Even p ∧ ∀ q ∈ nodesOf 1 p, agreesB q.1 = true := by
  constructor
  · rintro ⟨h1, h2⟩
    refine ⟨⟨h1, fun q hq => ⟨(h2 q hq).1, (h2 q hq).2.1⟩⟩, fun q hq => ?_⟩
    have := (h2 q hq).2.2
    obtain ⟨q, lv⟩ := q
    cases q with
    | exp t => rfl
    | def_ t => rfl
    | proc t =>
      obtain ⟨o, t, a, d, k⟩ := t
      simp only [agreesB]
      split
      · rename_i ho
        obtain ⟨U, _, _, hU⟩ := this ho
        exact agreeB_iff.2 ⟨U, hU⟩
      · rfl
  · rintro ⟨he, h2⟩
    refine ⟨he.1, fun q hq => ⟨(he.2 q hq).1, (he.2 q hq).2, ?_⟩⟩
    have := h2 q hq
    obtain ⟨q, lv⟩ := q
    cases q with
    | exp t => trivial
    | def_ t => trivial
    | proc t =>
      obtain ⟨o, t, a, d, k⟩ := t
      intro ho
      simp only [agreesB, if_pos ho] at this
      obtain ⟨U, hU⟩ := agreeB_iff.1 this
      obtain ⟨b1, b2⟩ := even_def he hq
      exact ⟨U, by omega, by omega, hU⟩

theorem wpE_seq_k {F : Fence} {n : Nat} {P : Program} {Q : Exit → Act → World → Prop} {a : Act} {w : World} {x y : Code}
    (h : ∀ K : Act → World → Prop, (∀ a w, wpE F n P y Q a w → K a w) → wpE F n P x (Exit.then K Q) a w) : wpE F n P (.seq x y) Q a w := wpE_seq (h _ fun _ _ h => h)

/-- What has been seen so far is fine; or the last thing is not. -/
def GoodN {B : Nat} {u : World} (pre : List (NdT B u)) : Prop := pre.length ≤ 60 ∧ ∀ q ∈ pre, q.1.2.1.shaped = true ∧ q.1.2.2 ≤ 12
def BadN {B : Nat} {u : World} (pre : List (NdT B u)) : Prop := 60 < pre.length ∨ ∃ q ∈ pre, ¬ (q.1.2.1.shaped = true ∧ q.1.2.2 ≤ 12)
theorem good_even {B : Nat} {u : World} {p : Part} {xs : List (NdT B u)} (hx : xs.map (fun x => x.1.2) = nodesOf 1 p) (h : GoodN xs) : Even p := by
  constructor
  · have : (nodesOf 1 p).length = xs.length := by rw [← hx, List.length_map]
    rw [Part.size, nodesOf_len 0 1, this]; exact h.1
  · intro q hq
    rw [← hx] at hq
    obtain ⟨y, hy, rfl⟩ := List.mem_map.1 hq
    exact h.2 y hy
theorem bad_even {B : Nat} {u : World} {p : Part} {xs : List (NdT B u)} (hx : xs.map (fun x => x.1.2) <+: nodesOf 1 p) (h : BadN xs) : ¬ Even p := by
  rintro ⟨h1, h2⟩
  rcases h with h | ⟨q, hq, hn⟩
  · have := hx.length_le
    rw [List.length_map] at this
    rw [Part.size, nodesOf_len 0 1] at h1
    omega
  · exact hn (h2 _ (hx.subset (List.mem_map.2 ⟨q, hq, rfl⟩)))

def AllAg {B : Nat} {u : World} (pre : List (NdT B u)) : Prop := ∀ q ∈ pre, agreesB q.1.2.1 = true
def SomeNot {B : Nat} {u : World} (pre : List (NdT B u)) : Prop := ∃ q ∈ pre, agreesB q.1.2.1 = false

/-- What mustBeFormed does. -/
def MustOut (p : Part) (e : Ending) : Prop := (Formed p ∧ e = .returned (.tuple #[])) ∨ (¬ Formed p ∧ e = .panicked (refusal 2))

set_option maxRecDepth 100000 in
set_option maxHeartbeats 2000000 in
theorem must_up (n B : Nat) (hn : 6 ≤ n) (u : World) (p : Part) (v : Value) (w : World) (hu : KeptC B u w) (hB : B ≤ w.heap.size) (hv : PartAt B u v p) :
    CallsIn Fence.wide n Tryz.prog 65 #[v] w fun e w' => MustOut p e ∧ Below w.heap.size w w' := by
  obtain ⟨ty, x, rfl⟩ := part_iface hv
  have hdd : ∀ k : Nat, (Fence.wide.depth.isSome = true → 1 ≤ k) := fun k h => by cases h
  have h1 : 1 ≤ n := by omega
  have h1' : 1 ≤ n - 1 - 1 := by omega
  have hF : ∀ k, Fence.wide.fn k := fun _ => trivial
  refine callsIn_of_wpE_marks Tryz.func65 rfl trivial ?_
  simp only [Tryz.ntmps65, List.size_toArray, List.length_cons, List.length_nil, Nat.reduceAdd, Nat.reduceSub, Array.replicate_succ, Array.replicate_zero, List.push_toArray, List.append_toArray, List.nil_append, List.cons_append]
  refine wpE_seq_k fun K1 hK1 => ?_
  refine wpE_of_wp ?_
  gi_wp2
  refine wpE_seq_k fun K2 hK2 => ?_
  refine wpE_seq_k fun K3 hK3 => ?_
  refine wpE_of_wp ?_
  gi_wp2_with (gi_at_call 116; refine (nodes_in (n - 1) _ _ _).mono ?_; rintro e w' ⟨rfl, rfl⟩)
  refine wpE_block ?_
  obtain ⟨W0, hW0⟩ : ∃ W0, W0 = ((w.alloc (.cells #[.int .i64 0] 3)).alloc (.cells #[.iface ty x] 154)) := ⟨_, rfl⟩
  have hsz : W0.heap.size = w.heap.size + 2 := by rw [hW0]; simp
  have hb0 : Below w.heap.size w W0 := by rw [hW0]; exact ((Below.refl _ w).alloc (Nat.le_refl _) _).alloc (by simp) _
  have c0 : W0.cell? ⟨w.heap.size, 0, none⟩ = some (.int .i64 0) ∧ W0.frozen? ⟨w.heap.size, 0, none⟩ = false := by
    rw [hW0]; constructor
    · rw [World.cell?_alloc_past _ _ _ (by simp), World.cell?_alloc_at _ _ _ _ rfl]; rfl
    · rw [World.frozen?_alloc_past _ _ _ (by simp), World.frozen?_alloc_at _ _ _ _ rfl]
  have c2 : W0.cell? ⟨w.heap.size + 1, 0, none⟩ = some (.iface ty x) := by
    rw [hW0, World.cell?_alloc_at _ _ _ _ (by simp)]; rfl
  rw [← hW0]
  have HW := Lib.hid hW0; clear hW0
  have hst := nodes_up (n - 1) w.heap.size (w.heap.size + 1) (w.heap.size + 1) B u p _ hB (by omega) hv W0 (hu.trans ((Below.keptC hb0).mono hB)) (by omega) c2
  refine wpE_rangeFunc_own rfl h1 (gf := 157) (lb := #[.pointer (some ⟨w.heap.size + 1, 0, none⟩)]) rfl trivial (enters_of Tryz.func157 (by kernel_rfl) rfl)
    hst KpC.trans (fun W l o o' _ h1 h2 _ => KpC.putObj W l o o' h1 h2) (Below.refl _ _) (fun _ => rfl)
    (fun pre W => ((W.cell? ⟨w.heap.size, 0, none⟩ = some (.int .i64 pre.length) ∧ W.frozen? ⟨w.heap.size, 0, none⟩ = false) ∧ Below w.heap.size w W) ∧ GoodN pre)
    (fun c pre W => Below w.heap.size w W ∧ (c = refusal 2 ∧ BadN pre))
    (OwnFrom.and (OwnFrom.and (Own.from (fun s A B row hs hg hr => ⟨cell_kept hs.1 hg hr, (frozen_kept hs.1 hg hr).trans hs.2⟩) _) (ownFrom_below (Nat.le_refl _) (by omega))) (fun _ _ _ _ hs _ _ => hs))
    (fun c => OwnFrom.and (ownFrom_below (Nat.le_refl _) (by omega)) (fun _ _ _ _ hs _ _ => hs))
    ⟨⟨⟨c0.1, c0.2⟩, hb0⟩, by simp, by simp⟩
    (fun x' => { tmps := #[.iface ty x, undef, .pointer (some ⟨w.heap.size, 0, none⟩), x'.1.1, .int .i64 x'.1.2.2, undef, undef, undef, .iface ty x, .func (.func 157) #[] #[.pointer (some ⟨w.heap.size + 1, 0, none⟩)], x'.1.1, .int .i64 x'.1.2.2, undef, undef, undef, undef, undef, undef, undef, undef, undef, undef, undef, undef, undef, undef, undef, undef, undef, undef, undef, undef, undef, undef, undef, undef, undef, undef, undef, undef, undef, undef, undef, undef, undef, undef, undef, undef], defers := [] }) ?assign ?body ?done ?up
  case assign =>
    intro l x W K hK
    dsimp only [encN]
    gi_wp2
    exact hK
  case body =>
    rintro l pre x' W ⟨⟨⟨hc, hf⟩, hB'⟩, hg1, hg2⟩ _
    have hBs := hB'.setCell (p := ⟨w.heap.size, 0, none⟩) (Nat.le_refl _) (.int .i64 ((pre.length : Int) + 1))
    have hlt := lt_of_cell hc
    have ko : KeepsOthers W (W.setCell ⟨w.heap.size, 0, none⟩ (.int .i64 ((pre.length : Int) + 1))) := KeepsOthers.setCell _ _ _
    by_cases h60 : pre.length + 1 ≤ 60
    case neg =>
      have t1 : decide ((60 : Int) < (pre.length : Int) + 1) = true := by simp; omega
      have HBad := Lib.hid (show BadN (pre ++ [x']) from .inl (by simp; omega))
      gi_wp2_with (gi_at_call 103; refine (CallsIn.inRound l (callsIn_wide.2 (refuse_any 2 _))).mono ?_; rintro e W2 ⟨rfl, rfl⟩)
      exact ⟨rfl, ko, hBs, rfl, HBad.out⟩
    have t1 : decide ((60 : Int) < (pre.length : Int) + 1) = false := by simp; omega
    by_cases h12 : x'.1.2.2 ≤ 12
    case neg =>
      have t2 : decide ((12 : Int) < (x'.1.2.2 : Int)) = true := by simp; omega
      have HBad := Lib.hid (show BadN (pre ++ [x']) from .inr ⟨x', by simp, fun h => h12 h.2⟩)
      gi_wp2_with (gi_at_call 103; refine (CallsIn.inRound l (callsIn_wide.2 (refuse_any 2 _))).mono ?_; rintro e W2 ⟨rfl, rfl⟩)
      exact ⟨rfl, ko, hBs, rfl, HBad.out⟩
    have t2 : decide ((12 : Int) < (x'.1.2.2 : Int)) = false := by simp; omega
    have hsh := shaped_any x'.1.2.1 x'.1.1 B u _ (hu.trans ((Below.keptC hBs).mono hB)) (by have := hBs.size; omega) x'.2.1
    have d0 : (W.setCell ⟨w.heap.size, 0, none⟩ (.int .i64 ((pre.length : Int) + 1))).cell? ⟨w.heap.size, 0, none⟩ = some (.int .i64 ((pre.length : Int) + 1)) := World.cell?_setCell_same' _ _ _ (by rw [hc]; rfl)
    have d1 : (W.setCell ⟨w.heap.size, 0, none⟩ (.int .i64 ((pre.length : Int) + 1))).frozen? ⟨w.heap.size, 0, none⟩ = false := by rw [World.frozen?_setCell]; exact hf
    cases hshp : x'.1.2.1.shaped with
    | false =>
      rw [hshp] at hsh
      have HBad := Lib.hid (show BadN (pre ++ [x']) from .inr ⟨x', by simp, fun h => by rw [hshp] at h; cases h.1⟩)
      clear hshp
      gi_wp2_with fail
      refine (CallsIn.inRound l (callsIn_wide.2 hsh)).mono ?_
      clear hsh
      rintro e W2 ⟨rfl, hb2⟩
      gi_wp2_with (gi_at_call 103; refine (CallsIn.inRound l (callsIn_wide.2 (refuse_any 2 _))).mono ?_; rintro e W3 ⟨rfl, rfl⟩)
      exact ⟨rfl, ko.trans (KeepsOthers.of_below hb2), hBs.trans (hb2.mono hBs.size), rfl, HBad.out⟩
    | true =>
      rw [hshp] at hsh
      have HGood := Lib.hid (show GoodN (pre ++ [x']) from ⟨by simp; omega, fun q hq => by
        rcases List.mem_append.1 hq with hq | hq
        · exact hg2 q hq
        · simp at hq; subst hq; exact ⟨hshp, h12⟩⟩)
      have HFine := Lib.hid (show FineN x'.1.2 from ⟨shaped_small' hshp, h12⟩)
      clear hshp hg2
      gi_wp2_with fail
      refine (CallsIn.inRound l (callsIn_wide.2 hsh)).mono ?_
      clear hsh
      rintro e W2 ⟨rfl, hb2⟩
      gi_wp2
      refine ⟨ko.trans (KeepsOthers.of_below hb2), (KpC.setCell _ _ _ (Nat.le_refl _) (by simp)).trans (KpC.of_below hb2), HFine.out, ⟨⟨?_, ?_⟩, hBs.trans (hb2.mono hBs.size)⟩, HGood.out⟩
      · rw [hb2.cell (p := ⟨w.heap.size, 0, none⟩) (by simp [World.setCell]; omega), d0]; simp
      · rw [hb2.frozen (p := ⟨w.heap.size, 0, none⟩) (by simp [World.setCell]; omega), d1]
  case up =>
    rintro D c pre W hD hpre ⟨hB', rfl, hbad⟩ hK
    refine ⟨by simp, .inl ⟨_, _, rfl, run_takeDeferred hK, ?_⟩⟩
    exact ⟨.inr ⟨fun hfm => bad_even hpre hbad (formed_iff.1 hfm).1, rfl⟩, hB'.trans (belowK_b (w := w) (Nat.le_refl _) _ D _ _ (by omega) hK rfl rfl)⟩
  case done =>
    rintro D ys W hD hys ⟨⟨⟨hc, hf⟩, hB'⟩, hgd⟩ hK
    have hev := Lib.hid (good_even hys hgd)
    clear hys hst hgd
    refine hK2 _ _ ?_
    clear hK2 K2
    have hWz := hB'.size
    refine wpE_seq_k fun K4 hK4 => ?_
    refine wpE_of_wp ?_
    gi_wp2_with (gi_at_call 116; refine (nodes_in (n - 1) _ _ _).mono ?_; rintro e w' ⟨rfl, rfl⟩)
    refine wpE_block ?_
    have c3 : (W.alloc (.cells #[.iface ty x] 154)).cell? ⟨W.heap.size, 0, none⟩ = some (.iface ty x) := by rw [World.cell?_alloc_at _ _ _ _ rfl]; rfl
    have hB3 := hB'.alloc hWz (.cells #[.iface ty x] 154)
    have hK3 : (W.alloc (.cells #[.iface ty x] 154)).heap[D]? = some (.deferred (some [])) := (Below.heap_alloc _ _ D (Array.getElem?_eq_some_iff.1 hK).1).trans hK
    have hst := nodes_up (n - 1) w.heap.size W.heap.size W.heap.size B u p _ hB (by omega) hv (W.alloc (.cells #[.iface ty x] 154)) (hu.trans ((Below.keptC hB3).mono hB)) (by simp) c3
    have hDl := (Array.getElem?_eq_some_iff.1 hK).1
    refine wpE_rangeFunc_own rfl h1 (gf := 157) (lb := #[.pointer (some ⟨W.heap.size, 0, none⟩)]) rfl trivial (enters_of Tryz.func157 (by kernel_rfl) rfl)
      hst KpC.trans (fun W l o o' _ h1 h2 _ => KpC.putObj W l o o' h1 h2) (Below.refl _ _) (fun _ => rfl)
      (fun pre W' => (W'.heap[D]? = some (.deferred (some [])) ∧ Below w.heap.size w W') ∧ AllAg pre)
      (fun c pre W' => (W'.heap[D]? = some (.deferred (some [])) ∧ Below w.heap.size w W') ∧ c = refusal 2 ∧ SomeNot pre)
      (OwnFrom.and (OwnFrom.and (fun s A B row hs hg hr => (hg.block D (Array.getElem?_eq_some_iff.1 hs).1 (by intro e; have := (hr D e.symm).1; simp at this; omega)).trans hs) (ownFrom_below (Nat.le_refl _) (by simp; omega))) (fun _ _ _ _ hs _ _ => hs))
      (fun c => OwnFrom.and (OwnFrom.and (fun s A B row hs hg hr => (hg.block D (Array.getElem?_eq_some_iff.1 hs).1 (by intro e; have := (hr D e.symm).1; simp at this; omega)).trans hs) (ownFrom_below (Nat.le_refl _) (by simp; omega))) (fun _ _ _ _ hs _ _ => hs))
      ⟨⟨hK3, hB3⟩, by intro q hq; simp at hq⟩
      (fun x' => { tmps := #[.iface ty x, undef, .pointer (some ⟨w.heap.size, 0, none⟩), undef, undef, x'.1.1, undef, undef, .iface ty x, .func (.func 157) #[] #[.pointer (some ⟨w.heap.size + 1, 0, none⟩)], undef, undef, undef, undef, undef, undef, undef, undef, undef, undef, undef, undef, undef, undef, undef, undef, .iface ty x, .func (.func 157) #[] #[.pointer (some ⟨W.heap.size, 0, none⟩)], x'.1.1, .int .i64 x'.1.2.2, undef, undef, undef, undef, undef, undef, undef, undef, undef, undef, undef, undef, undef, undef, undef, undef, undef, undef], defers := [] }) ?assign2 ?body2 ?done2 ?up2
    case assign2 =>
      intro l x W K hK
      dsimp only [encN]
      gi_wp2
      exact hK
    case body2 =>
      rintro l pre ⟨⟨v', q, lv⟩, hvq, hGq⟩ W4 ⟨⟨hD4, hB4⟩, hag4⟩ hsp
      have q1 := ta_83_83; have q4 := ta_88_83; have q5 := ta_191_83
      have hz4 := hB4.size
      have hmem : (q, lv) ∈ nodesOf 1 p := hsp.subset (List.mem_map.2 ⟨(⟨(v', q, lv), hvq, hGq⟩ : NdT B u), List.mem_append_right _ (List.mem_cons_self ..), rfl⟩)
      have HFine := Lib.hid (show FineN (q, lv) from ⟨shaped_small' (hev.out.2 _ hmem).1, (hev.out.2 _ hmem).2⟩)
      have hagn : agreesB q = true → AllAg (pre ++ [(⟨(v', q, lv), hvq, hGq⟩ : NdT B u)]) := by
        intro h r hr
        rcases List.mem_append.1 hr with hr | hr
        · exact hag4 r hr
        · simp at hr; subst hr; exact h
      have hagb : agreesB q = false → SomeNot (pre ++ [(⟨(v', q, lv), hvq, hGq⟩ : NdT B u)]) := fun h => ⟨(⟨(v', q, lv), hvq, hGq⟩ : NdT B u), List.mem_append_right _ (List.mem_cons_self ..), h⟩
      have HAG := Lib.hid hagn; have HAB := Lib.hid hagb
      clear hagn hagb hsp hag4
      simp only at hvq hGq
      cases q with
      | proc t =>
        obtain ⟨o, t, a, d, k⟩ := t
        obtain ⟨cs, rfl, h1z, va, vd, vk, rfl, ⟨aa, ca, rfl, _, ha⟩, ⟨ad, cd, rfl, _, hd⟩, ⟨ak, ck, rfl, _, hk⟩⟩ := hvq
        have bx : Below W4.heap.size W4 (W4.alloc (.cells #[.int .i64 o, .string t, .slice aa a.length ca, .slice ad d.length cd, .slice ak k.length ck] 83)) := (Below.refl _ W4).alloc (Nat.le_refl _) _
        by_cases ho : o = 4
        · subst ho
          obtain ⟨u1, u2⟩ := even_def hev.out hmem
          have hag := agree_any B u d (by omega) (by omega) ad cd (W4.alloc (.cells #[.int .i64 4, .string t, .slice aa a.length ca, .slice ad d.length cd, .slice ak k.length ck] 83)) (hu.trans ((Below.keptC (hB4.trans (bx.mono hz4))).mono hB)) (by simp; omega) hd
          have e4 : agreesB (.proc (.mk 4 t a d k)) = agreeB d := by simp [agreesB]
          rw [e4] at HAG HAB
          clear e4 hmem
          cases hab : agreeB d with
          | true =>
            rw [hab] at hag
            have HA := Lib.hid (HAG.out hab)
            clear hab
            gi_wp2_with (gi_at_call 118; refine (CallsIn.inRound l (callsIn_wide.2 hag)).mono ?_; clear hag; rintro e W5 ⟨rfl, hb5⟩)
            have b5 : Below W4.heap.size W4 W5 := bx.trans (hb5.mono (by simp))
            exact ⟨KeepsOthers.of_below b5, KpC.of_below b5, HFine.out, ⟨(b5.block D (Array.getElem?_eq_some_iff.1 hD4).1).trans hD4, hB4.trans (b5.mono hz4)⟩, HA.out⟩
          | false =>
            rw [hab] at hag
            have HA := Lib.hid (HAB.out hab)
            clear hab
            gi_wp2_with (first
              | (gi_at_call 118; refine (CallsIn.inRound l (callsIn_wide.2 hag)).mono ?_; clear hag; rintro e W5 ⟨rfl, hb5⟩)
              | (gi_at_call 103; refine (CallsIn.inRound l (callsIn_wide.2 (refuse_any 2 _))).mono ?_; rintro e W6 ⟨rfl, rfl⟩))
            have b5 := bx.trans (hb5.mono (by simp))
            exact ⟨rfl, KeepsOthers.of_below b5, ⟨(b5.block D (Array.getElem?_eq_some_iff.1 hD4).1).trans hD4, hB4.trans (b5.mono hz4)⟩, rfl, HA.out⟩
        · have ho' : (o == 4) = false := by simpa using ho
          have HA := Lib.hid (HAG.out (by simp [agreesB, ho]))
          clear ho hmem
          gi_wp2
          exact ⟨KeepsOthers.of_below bx, KpC.of_below bx, HFine.out, ⟨(bx.block D (Array.getElem?_eq_some_iff.1 hD4).1).trans hD4, hB4.trans (bx.mono hz4)⟩, HA.out⟩
      | exp t =>
        obtain ⟨o, n, t, k⟩ := t
        obtain ⟨cs, rfl, h1z, vk, rfl, ⟨ak, ck, rfl, _, hk⟩⟩ := hvq
        have bx : Below W4.heap.size W4 (W4.alloc (.cells #[.int .i64 0, .string ⟨#[]⟩, .slice none 0 0, .slice none 0 0, .slice none 0 0] 83)) := (Below.refl _ W4).alloc (Nat.le_refl _) _
        have HA := Lib.hid (HAG.out rfl)
        clear hmem
        gi_wp2
        exact ⟨KeepsOthers.of_below bx, KpC.of_below bx, HFine.out, ⟨(bx.block D (Array.getElem?_eq_some_iff.1 hD4).1).trans hD4, hB4.trans (bx.mono hz4)⟩, HA.out⟩
      | def_ t =>
        obtain ⟨f, t, j, d, k⟩ := t
        obtain ⟨cs, rfl, h1z, vj, vd, vk, rfl, ⟨aj, cj, rfl, _, hj⟩, ⟨ad, cd, rfl, _, hd⟩, ⟨ak, ck, rfl, _, hk⟩⟩ := hvq
        have bx : Below W4.heap.size W4 (W4.alloc (.cells #[.int .i64 0, .string ⟨#[]⟩, .slice none 0 0, .slice none 0 0, .slice none 0 0] 83)) := (Below.refl _ W4).alloc (Nat.le_refl _) _
        have HA := Lib.hid (HAG.out rfl)
        clear hmem
        gi_wp2
        exact ⟨KeepsOthers.of_below bx, KpC.of_below bx, HFine.out, ⟨(bx.block D (Array.getElem?_eq_some_iff.1 hD4).1).trans hD4, hB4.trans (bx.mono hz4)⟩, HA.out⟩
    case up2 =>
      rintro D2 c ys W4 hD2 hpre ⟨⟨hD4, hB4⟩, rfl, q, hq, hqb⟩ hK4
      simp at hD2
      have hDl2 := (Array.getElem?_eq_some_iff.1 hK4).1
      have hK5 : (W4.putObj D2 (.deferred none)).heap[D]? = some (.deferred (some [])) := (World.putObj_heap_other (by omega)).trans hD4
      have b5 : Below w.heap.size w (W4.putObj D2 (.deferred none)) := hB4.trans (belowK_b (w := w) (Nat.le_refl _) W4 D2 _ _ (by omega) hK4 rfl rfl)
      have b6 : Below w.heap.size w ((W4.putObj D2 (.deferred none)).putObj D (.deferred none)) := b5.trans (belowK_b (w := w) (Nat.le_refl _) _ D _ _ (by omega) hK5 rfl rfl)
      refine ⟨by simp, .inl ⟨_, _, rfl, run_takeDeferred hK4, ?_⟩⟩
      refine ⟨by simp, .inl ⟨_, _, rfl, run_takeDeferred hK5, ?_⟩⟩
      refine ⟨.inr ⟨fun hfm => ?_, rfl⟩, b6⟩
      have := (formed_iff.1 hfm).2 _ (hpre.subset (List.mem_map.2 ⟨q, hq, rfl⟩))
      rw [hqb] at this
      cases this
    case done2 =>
      rintro D2 ys W4 hD2 hys ⟨⟨hD4, hB4⟩, hall⟩ hK4
      simp at hD2
      have hfm : Formed p := formed_iff.2 ⟨hev.out, fun q hq => by
        rw [← hys] at hq
        obtain ⟨y, hy, rfl⟩ := List.mem_map.1 hq
        exact hall y hy⟩
      have hDl2 := (Array.getElem?_eq_some_iff.1 hK4).1
      have hK5 : (W4.putObj D2 (.deferred none)).heap[D]? = some (.deferred (some [])) := (World.putObj_heap_other (by omega)).trans hD4
      have b5 : Below w.heap.size w (W4.putObj D2 (.deferred none)) := hB4.trans (belowK_b (w := w) (Nat.le_refl _) W4 D2 _ _ (by omega) hK4 rfl rfl)
      have b6 : Below w.heap.size w ((W4.putObj D2 (.deferred none)).putObj D (.deferred none)) := b5.trans (belowK_b (w := w) (Nat.le_refl _) _ D _ _ (by omega) hK5 rfl rfl)
      refine ⟨by simp, .inl ⟨_, _, rfl, run_takeDeferred hK4, ?_⟩⟩
      refine ⟨by simp, .inl ⟨_, _, rfl, run_takeDeferred hK5, ?_⟩⟩
      exact ⟨_, results_none rfl _ _ _, .inl ⟨hfm, rfl⟩, b6⟩

/-- mustBeFormed, whatever comes in. -/
theorem must_any (B : Nat) (u : World) (p : Part) (v : Value) (w : World) (hu : KeptC B u w) (hB : B ≤ w.heap.size) (hv : PartAt B u v p) :
    Calls Tryz.prog 65 #[v] w fun e w' => MustOut p e ∧ Below w.heap.size w w' :=
  (callsIn_wide (n := 6)).1 (must_up 6 B (Nat.le_refl _) u p v w hu hB hv)

end Go.Proofs.YtjmlaeofjjhfmaaGreat
/- Nodes, Depth, Free, formed, Check, CheckExp where they refuse. -/
namespace Go.Proofs.YtjmlaeofjjhfmaaGreat
open Go.RowKit Go.Shelf

theorem must_no (B : Nat) (u : World) (p : Part) (v : Value) (w : World) (hu : KeptC B u w) (hB : B ≤ w.heap.size) (hf : ¬ Formed p) (hv : PartAt B u v p) :
    Calls Tryz.prog 65 #[v] w fun e w' => e = .panicked (refusal 2) ∧ Below w.heap.size w w' :=
  (must_any B u p v w hu hB hv).mono fun _ _ ⟨h, hb⟩ => ⟨h.elim (fun h => absurd h.1 hf) (fun h => h.2), hb⟩

end Go.Proofs.YtjmlaeofjjhfmaaGreat
/- The reference's count of nodes, stopped early: smallExp, smallClause, small. -/
namespace Go.Proofs.YtjmlaeofjjhfmaaGreat
open Go.RowKit

/-- How many parts all these have. -/
def sz (ps : List Part) : Nat := (nodesL 0 ps).length
theorem sz_append (a b : List Part) : sz (a ++ b) = sz a + sz b := by unfold sz; rw [nodesL_append, List.length_append]
theorem sz_one (p : Part) : sz [p] = p.size := by simp [sz, nodesL, Part.size]
theorem size_sz (p : Part) : p.size = 1 + sz p.parts := size_eq p 0
/-- What the count does to the world: the cell of what is left. -/
def SmallOut (lb : Nat) (w : World) (L : Int) (w' : World) : Prop :=
  KpC lb (lb + 1) w w' ∧ Below lb w w' ∧ w'.cell? ⟨lb, 0, none⟩ = some (.int .i64 L) ∧ w'.frozen? ⟨lb, 0, none⟩ = false
theorem SmallOut.trans {lb : Nat} {w w1 w2 : World} {L L' : Int} (h : SmallOut lb w L w1) (k : SmallOut lb w1 L' w2) : SmallOut lb w L' w2 := ⟨h.1.trans k.1, h.2.1.trans k.2.1, k.2.2⟩

end Go.Proofs.YtjmlaeofjjhfmaaGreat
/- The reference's look at an expression: one, exp. -/
namespace Go.Proofs.YtjmlaeofjjhfmaaGreat
open Go.RowKit

/-- All nodes are shaped. -/
def allSh (p : Part) : Bool := (nodesOf 0 p).all (fun q => q.1.shaped)
def allShL (ps : List Part) : Bool := ps.all allSh
theorem allSh_lev (p : Part) (a b : Nat) : (nodesOf a p).all (fun q => q.1.shaped) = (nodesOf b p).all (fun q => q.1.shaped) := by
  have h := nodesOf_fst a b p
  have e : ∀ l : List (Part × Nat), l.all (fun q => q.1.shaped) = (l.map (·.1)).all Part.shaped := fun l => by rw [List.all_map]; rfl
  rw [e, e, h]
theorem allSh_eq (p : Part) : allSh p = (p.shaped && allShL p.parts) := by
  rw [allSh, nodesOf_eq, List.all_cons]
  congr 1
  unfold nodesL allShL
  rw [List.all_flatMap]
  congr 1
  funext q
  rw [allSh_lev q (0 + 1) 0]; rfl
theorem allShL_append (a b : List Part) : allShL (a ++ b) = (allShL a && allShL b) := by simp [allShL, List.all_append]
theorem maxL_append (a b : List Nat) : maxL (a ++ b) = max (maxL a) (maxL b) := by
  have key : ∀ (l : List Nat) (x : Nat), l.foldl max x = max x (l.foldl max 0) := by
    intro l
    induction l with
    | nil => intro x; simp
    | cons y l ih => intro x; simp only [List.foldl_cons]; rw [ih, ih (max 0 y)]; omega
  simp only [maxL, List.foldl_append]
  exact key b _
def dps (ps : List Part) : Nat := maxL (ps.map Part.depth)
theorem levels_up (p : Part) (lev : Nat) : ((nodesOf (lev + 1) p).map (·.2)) = ((nodesOf lev p).map (·.2)).map (· + 1) := by
  have key : ∀ (s : Nat) (p : Part) (lev : Nat), p.size ≤ s → ((nodesOf (lev + 1) p).map (·.2)) = ((nodesOf lev p).map (·.2)).map (· + 1) := by
    intro s
    induction s with
    | zero => intro p lev hp; exact absurd (by rw [Part.size, nodesOf_eq]; simp) (Nat.not_lt.2 hp)
    | succ s ih =>
      intro p lev hp
      rw [nodesOf_eq, nodesOf_eq lev, List.map_cons, List.map_cons, List.map_cons]
      congr 1
      unfold nodesL
      rw [List.map_flatMap, List.map_flatMap, List.map_flatMap]
      have : ∀ q ∈ p.parts, (nodesOf (lev + 1 + 1) q).map (·.2) = ((nodesOf (lev + 1) q).map (·.2)).map (· + 1) := fun q hq => ih q (lev + 1) (by have := size_lt hq; omega)
      generalize p.parts = ps at this
      induction ps with
      | nil => rfl
      | cons q ps ih2 => simp only [List.flatMap_cons]; rw [this q (by simp), ih2 (fun x hx => this x (by simp [hx]))]
  exact key p.size p lev (Nat.le_refl _)
theorem maxL_up (l : List Nat) (h : l ≠ []) : maxL (l.map (· + 1)) = maxL l + 1 := by
  induction l with
  | nil => exact absurd rfl h
  | cons x l ih =>
    have e : ∀ (y : Nat) (m : List Nat), maxL (y :: m) = max y (maxL m) := fun y m => by
      have := maxL_append [y] m
      simpa [maxL] using this
    rw [List.map_cons, e, e]
    by_cases hl : l = []
    · subst hl; simp [maxL]
    · rw [ih hl]; omega
theorem depth_eq (p : Part) : p.depth = 1 + dps p.parts := by
  have key : ∀ ps : List Part, maxL ((nodesL 2 ps).map (·.2)) = if ps = [] then 0 else 1 + dps ps := by
    intro ps
    induction ps with
    | nil => rfl
    | cons q ps ih =>
      have e : nodesL 2 (q :: ps) = nodesOf 2 q ++ nodesL 2 ps := by simp [nodesL]
      have e2 : maxL ((nodesOf 2 q).map (·.2)) = q.depth + 1 := by
        rw [levels_up q 1, maxL_up]; rfl
        rw [nodesOf_eq]; simp
      have e3 : dps (q :: ps) = max q.depth (dps ps) := by
        have := maxL_append [q.depth] (ps.map Part.depth)
        simpa [dps, maxL] using this
      rw [e, List.map_append, maxL_append, e2, ih, e3]
      by_cases hp : ps = []
      · subst hp; simp [dps, maxL]; omega
      · simp [hp]; omega
  rw [Part.depth, nodesOf_eq, List.map_cons]
  have := maxL_append [1] ((nodesL (1 + 1) p.parts).map (·.2))
  simp only [List.cons_append, List.nil_append] at this
  rw [this, key]
  by_cases hp : p.parts = []
  · rw [if_pos hp, hp]; rfl
  · rw [if_neg hp]; simp [maxL]
theorem dps_append (a b : List Part) : dps (a ++ b) = max (dps a) (dps b) := by simp [dps, maxL_append]
/-- What is told of nodes, depth and shape. -/
def ROut (p : Part) (e : Ending) : Prop := ∃ n d : Nat, e = .returned (.tuple #[.int .i64 n, .int .i64 d, .bool (allSh p)]) ∧ n ≤ p.size ∧ d ≤ p.size ∧ (allSh p = true → n = p.size ∧ d = p.depth)
/-- What has been gathered of some parts. -/
def RMid (ps : List Part) (n d : Nat) (is : Bool) : Prop := is = allShL ps ∧ n ≤ 1 + sz ps ∧ d ≤ sz ps ∧ (is = true → n = 1 + sz ps ∧ d = dps ps)
theorem RMid.nil : RMid [] 1 0 true := ⟨rfl, by omega, by omega, fun _ => ⟨rfl, rfl⟩⟩
theorem RMid.step {ps : List Part} {q : Part} {n d m k : Nat} {is ok : Bool} (h : RMid ps n d is) (hm : m ≤ q.size) (hk : k ≤ q.size) (hok : ok = allSh q) (hs : ok = true → m = q.size ∧ k = q.depth) : RMid (ps ++ [q]) (n + m) (max d k) (is && ok) := by
  obtain ⟨rfl, h1, h2, h3⟩ := h
  have e1 := sz_append ps [q]
  have e2 := sz_one q
  have e3 := dps_append ps [q]
  have e4 : dps [q] = q.depth := by simp [dps, maxL]
  refine ⟨by rw [allShL_append, hok]; simp [allShL], by omega, by omega, fun h => ?_⟩
  rw [Bool.and_eq_true] at h
  have := h3 h.1; have := hs h.2
  omega
theorem RMid.out {p : Part} {n d : Nat} {is : Bool} (h : RMid p.parts n d is) (hp : p.shaped = true) : ROut p (.returned (.tuple #[.int .i64 n, .int .i64 ((d : Int) + 1), .bool is])) := by
  obtain ⟨h0, h1, h2, h3⟩ := h
  have e1 := size_sz p; have e2 := depth_eq p
  have e3 : is = allSh p := by rw [allSh_eq, hp, h0]; rfl
  refine ⟨n, d + 1, by rw [e3]; rfl, by omega, by omega, fun h => ?_⟩
  rw [← e3] at h
  have := h3 h
  omega
theorem ROut.no {p : Part} (hp : p.shaped = false) : ROut p (.returned (.tuple #[.int .i64 1, .int .i64 1, .bool false])) := by
  have e1 := size_sz p
  have e3 : allSh p = false := by rw [allSh_eq, hp]; rfl
  exact ⟨1, 1, by rw [e3]; rfl, by omega, by omega, fun h => by rw [e3] at h; cases h⟩

end Go.Proofs.YtjmlaeofjjhfmaaGreat
