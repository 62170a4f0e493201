/- Free. -/
import Derived.Test.YtjmlaeofjjhfmaaGreatM16
set_option linter.unusedVariables false
set_option linter.unusedSimpArgs false
namespace Go.Proofs.YtjmlaeofjjhfmaaGreat
open Go.RowKit Go.Shelf Go.Maps Go.Sort

def mkB (l : List UInt8) : ByteArray := ⟨l.toArray⟩
theorem bytesOf_mkB (l : List UInt8) : bytesOf (mkB l) = l := by simp [bytesOf, mkB]

theorem SetF.sorted_in {w : World} {b n : Nat} {f : List UInt8 → Bool} (h : SetF w b n f) (hn : n ≤ 100000) (E : List (List UInt8)) (hE : E.Nodup) (hm : ∀ k, k ∈ E ↔ f k = true) :
    CallsIn Fence.wide 5 Tryz.prog 73 #[.func (.func 128) #[] #[.pointer (some ⟨w.heap.size, 0, none⟩)]] (w.alloc (.cells #[.map (some b)] 70)) fun e w' => ∃ v, e = .returned v ∧
      StrsAt w'.heap.size w' v ((E.mergeSort leB).map mkB) ∧ Below w.heap.size w w' := by
  obtain ⟨D, hD, hf⟩ := h
  have hsz := hD.size_le
  refine (Tryz.slices_Sorted_keys_73_74 b n D _ w hD (by unfold maxLen; omega) (by omega)).mono ?_
  rintro e w' ⟨v, ss, rfl, hp, ho, _, hb⟩
  have hle := strKeys_le hD Tryz.underlying9
  obtain ⟨es, rfl, hpw, _⟩ := hD.entries (string_keyed Tryz.underlying9)
  obtain ⟨es', he', hko⟩ := hD.keysOf
  obtain rfl : es = es' := by simpa using he'
  have hpE := perm_strKeys (H := Unit) hpw (fun p hp => by obtain ⟨v, hv⟩ := hko p hp; obtain ⟨x, _, hx, _⟩ := Maps.keyOf_str Tryz.underlying9 hv; exact ⟨x, hx⟩) hE (fun x => by rw [hm x, ← (hf x).1])
  have hms : ss.mergeSort leB = E.mergeSort leB := mergeSort_of_perm (hp.trans hpE.symm)
  have hlen : ss.length = ((E.mergeSort leB).map mkB).length := by rw [← hms]; simp
  have hval : (ss.mergeSort (fun x y => decide (x ≤ y))).map encStr = strVals ((E.mergeSort leB).map mkB) := by
    rw [show (fun x y : List UInt8 => decide (x ≤ y)) = leB from rfl, hms]; simp [strVals, mkB]
  rw [hval, hlen] at ho
  refine ⟨v, rfl, strs_of_owns ho (fun s hs => ?_), ((Below.refl _ w).alloc (Nat.le_refl _) _).trans (hb.mono (by simp))⟩
  obtain ⟨l, hl, rfl⟩ := List.mem_map.1 hs
  have h2 := hle l (hpE.mem_iff.1 ((List.mergeSort_perm E leB).mem_iff.1 hl))
  simpa [mkB, ByteArray.size] using h2

theorem names9 {js : List Msg} (h : joinedB js = true) : (namesL js).length ≤ 100000 := by
  unfold joinedB at h
  simp only [Bool.and_eq_true, decide_eq_true_eq, List.all_eq_true] at h
  obtain ⟨⟨⟨⟨h1, h2⟩, h3⟩, h4⟩, h5⟩ := h
  have : ∀ l : List Msg, (∀ x ∈ l, x.names.length ≤ 3) → (namesL l).length ≤ 3 * l.length := by
    intro l
    induction l with
    | nil => intro _; simp [namesL]
    | cons a l ih =>
      intro hl
      have e : namesL (a :: l) = a.names ++ namesL l := by simp [namesL]
      have h1 := hl a (by simp)
      have h2 := ih (fun x hx => hl x (by simp [hx]))
      rw [e, List.length_append, List.length_cons]; omega
  have := this js h3
  omega

theorem Formed.allBind {p : Part} (h : Formed p) : p.allBind := by
  intro q hq
  rw [nodesOf_fst 0 1] at hq
  obtain ⟨y, hy, rfl⟩ := List.mem_map.1 hq
  obtain ⟨h1, _, h3⟩ := h.2 y hy
  obtain ⟨p, l⟩ := y
  simp only at h1 h3 ⊢
  cases p with
  | proc t =>
    obtain ⟨o, t, a, d, k⟩ := t
    intro ho
    obtain ⟨U, u1, u2, _⟩ := h3 ho
    exact ⟨u1, u2⟩
  | exp t => trivial
  | def_ t =>
    obtain ⟨f, t, j, d, k⟩ := t
    simp only [Part.shaped, shapedCB, Bool.or_eq_true, Bool.and_eq_true, beq_iff_eq, decide_eq_true_eq] at h1
    show (namesL j).length ≤ 100000
    rcases h1 with ⟨⟨⟨⟨_, _⟩, hj⟩, _⟩, _⟩ | ⟨⟨⟨⟨_, _⟩, hj⟩, _⟩, _⟩
    · exact names9 hj
    · have : j = [] := List.eq_nil_of_length_eq_zero hj
      subst this; simp [namesL]

/-- The names that are free in a part, sorted. -/
def IsFrees (p : Part) (E : List (List UInt8)) : Prop := E.Nodup ∧ ∀ k, k ∈ E ↔ freeN 60 p k = true

set_option maxHeartbeats 1000000 in
theorem work_72 (B : Nat) (u : World) (op : Int) (t : ByteArray) (args : List Exp) (defs : List Clause) (kids : List Term) (b : Nat) (cs : List Value) (w : World) (hu : KeptC B u w) (hB : B ≤ w.heap.size)
    (hf : Formed (.proc (.mk op t args defs kids))) (hv : TermAt B u cs (.mk op t args defs kids)) (hc : CellsAt w b 0 cs) (E : List (List UInt8)) (hE : IsFrees (.proc (.mk op t args defs kids)) E) :
    Calls Tryz.prog 72 #[.pointer (some ⟨b, 0, none⟩)] w fun e w' => ∃ v, e = .returned v ∧ StrsAt w'.heap.size w' v ((E.mergeSort leB).map mkB) ∧ Below w.heap.size w w' := by
  have hv' := hv
  unfold TermAt at hv
  obtain ⟨hz, _, _, _, rfl, ⟨a0, p0, rfl, _⟩, ⟨a1, p1, rfl, _⟩, ⟨a2, p2, rfl, _⟩⟩ := hv
  obtain ⟨c0, c1, c2, c3, c4⟩ := cells5 hc
  have hm := must_ok B u _ (.iface 83 (.agg #[.int .i64 op, .string t, .slice a0 args.length p0, .slice a1 defs.length p1, .slice a2 kids.length p2])) w hu hB hf ⟨_, rfl, hv'⟩
  have hms := fun w1 (h1 : KeptC B u w1) (h2 : B ≤ w1.heap.size) => free_any B u 60 _ hf.1 (by omega) hf.allSmall hf.allBind (.iface 83 (.agg #[.int .i64 op, .string t, .slice a0 args.length p0, .slice a1 defs.length p1, .slice a2 kids.length p2])) w1 ⟨_, rfl, hv'⟩ h1 h2
  have hps := hf.1
  obtain ⟨N, hN⟩ : ∃ N, N = (Part.proc (.mk op t args defs kids)).size := ⟨_, rfl⟩
  obtain ⟨F, hF⟩ : ∃ F, F = freeN 60 (.proc (.mk op t args defs kids)) := ⟨_, rfl⟩
  unfold IsFrees at hE
  rw [← hF] at hms hE
  rw [← hN] at hms hps
  clear hN hF hv'
  refine (callsIn_wide (n := 6)).1 ?_
  have hF : ∀ k, Fence.wide.fn k := fun _ => trivial
  refine callsIn_of_wp Tryz.func72 rfl trivial ?_ rfl
  simp only [Tryz.ntmps72, List.size_toArray, List.length_cons, List.length_nil, Nat.reduceAdd, Nat.reduceSub, Array.replicate_succ, Array.replicate_zero, List.push_toArray, List.append_toArray, List.nil_append, List.cons_append]
  gi_wp2_with (first
    | (gi_at_call 65; refine (callsIn_wide.2 hm).mono ?_; clear hm; rintro e w1 ⟨rfl, hb1⟩; obtain ⟨d0, d1, d2, d3, d4⟩ := cells5 (hc.below hb1 (lt_of_cell c0)))
    | (gi_at_call 75; refine (callsIn_wide.2 (hms _ (hu.trans ((Below.keptC hb1).mono hB)) (by have := hb1.size; omega))).mono ?_; clear hms; rintro e w2 ⟨b2, rfl, _, hset, hb2⟩)
    | (gi_at_call 74; refine (Tryz.maps_Keys_74 _ _).mono ?_; rintro e w' ⟨rfl, rfl⟩)
    | (gi_at_call 73; refine (hset.sorted_in (by omega) E hE.1 hE.2).mono ?_; rintro e w3 ⟨v, rfl, hs, hb3⟩))
  go_ret
  exact ⟨_, rfl, hs, (hb1.trans (hb2.mono hb1.size)).trans (hb3.mono (by have := hb1.size; have := hb2.size; omega))⟩

theorem StrsAt.setInt {B : Nat} {w : World} {v : Value} {ss : List ByteArray} (h : StrsAt B w v ss) {b : Nat} {k : IntKind} {i : Int} (hc : w.cell? ⟨b, 0, none⟩ = some (.int k i)) (x : Value) : StrsAt B (w.setCell ⟨b, 0, none⟩ x) v ss := by
  obtain ⟨a, cap, rfl, hl, hz, hcap, h⟩ := h
  refine ⟨a, cap, rfl, hl, hz, hcap, ?_⟩
  rcases h with h | ⟨c, off, rfl, hB, hs⟩
  · exact .inl h
  · refine .inr ⟨c, off, rfl, hB, fun j hj => ?_⟩
    rw [World.cell?_setCell_other]
    · exact hs j hj
    · intro e
      have := hs j hj
      rw [← e, hc] at this
      cases this

set_option maxHeartbeats 1000000 in
theorem api_29 (B : Nat) (u : World) (t : Term) (cs : List Value) (w : World) (hu : KeptC B u w) (hB : B ≤ w.heap.size) (hf : Formed (.proc t)) (hv : TermAt B u cs t) (E : List (List UInt8)) (hE : IsFrees (.proc t) E) :
    Calls Tryz.prog 29 #[.agg cs.toArray] w fun e w' => ∃ v, e = .returned (.tuple #[v, .int .i64 0]) ∧ StrsAt w'.heap.size w' v ((E.mergeSort leB).map mkB) ∧ Below w.heap.size w w' := by
  obtain ⟨op, tx, args, defs, kids⟩ := t
  have hv' := hv
  unfold TermAt at hv
  obtain ⟨hz, _, _, _, rfl, ⟨a0, p0, rfl, _⟩, ⟨a1, p1, rfl, _⟩, ⟨a2, p2, rfl, _⟩⟩ := hv
  have hmf : ∀ (fn : Fn) (first cap : Array Value) (w : World), (Instr.makeFunc fn first cap).run Tryz.prog w = .ok (.func fn first cap) w := fun _ _ _ _ => rfl
  obtain ⟨W1, hW1⟩ : ∃ W1, W1 = w.alloc (.cells #[.int .i64 op, .string tx, .slice a0 args.length p0, .slice a1 defs.length p1, .slice a2 kids.length p2] 33) := ⟨_, rfl⟩
  have b1 : Below w.heap.size w W1 := by rw [hW1]; exact (Below.refl _ w).alloc (Nat.le_refl _) _
  have z1 : W1.heap.size = w.heap.size + 1 := by rw [hW1]; simp
  have cc : CellsAt (W1.alloc (.cells #[.int .i64 0] 37)) w.heap.size 0 [.int .i64 op, .string tx, .slice a0 args.length p0, .slice a1 defs.length p1, .slice a2 kids.length p2] := fun j hj => by
    rw [World.cell?_alloc_past _ _ _ (by omega), hW1, World.cell?_alloc_at _ _ _ _ rfl]
    match j, hj with
    | 0, _ => rfl
    | 1, _ => rfl
    | 2, _ => rfl
    | 3, _ => rfl
    | 4, _ => rfl
  have b2 : Below W1.heap.size W1 (W1.alloc (.cells #[.int .i64 0] 37)) := (Below.refl _ W1).alloc (Nat.le_refl _) _
  have hw := work_72 B u op tx args defs kids w.heap.size _ (W1.alloc (.cells #[.int .i64 0] 37)) (hu.trans ((Below.keptC (b1.trans (b2.mono (by omega)))).mono hB)) (by simp; omega) hf hv' cc E hE
  have ha := attempt_71 72 #[.pointer (some ⟨w.heap.size, 0, none⟩)] W1 (fun v w' => StrsAt w'.heap.size w' v ((E.mergeSort leB).map mkB)) (enters_of Tryz.func72 (by kernel_rfl) rfl)
    (hw.mono fun e w' ⟨v, h1, h2, h3⟩ => ⟨v, h1, h2, h3.mono (by simp)⟩)
  have hcell : ∀ w1, Below (W1.heap.size + 1) (W1.alloc (.cells #[.int .i64 0] 37)) w1 → w1.cell? ⟨W1.heap.size, 0, none⟩ = some (.int .i64 0) := fun w1 hb =>
    (hb.cell (p := ⟨W1.heap.size, 0, none⟩) (by simp)).trans (by rw [World.cell?_alloc_at _ _ _ _ rfl]; rfl)
  have HW := Lib.hid hW1
  go_enter Tryz.func29, Tryz.ntmps29
  clear hW1
  go_wp2_with (go_at_call 71; rw [← HW.out]; refine ha.mono ?_; clear ha; rintro e w' ⟨v, w1, rfl, hs, hb, rfl⟩)
  go_ret2
  exact ⟨_, rfl, by have h3 := hs.setInt (hcell w1 hb) (.int .i64 0); rw [z1] at h3; simpa using h3, b1.trans (((b2.trans (hb.mono (Nat.le_succ _))).setCell (by simp; omega) _).mono (by omega))⟩

end Go.Proofs.YtjmlaeofjjhfmaaGreat
