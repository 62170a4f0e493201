/- Free. -/
import Derived.Test.YtjmlaeofjjhfmaaGreatP11
import Derived.RangeFuncWrites
set_option linter.unusedVariables false
set_option linter.unusedSimpArgs false
namespace Go.Proofs.YtjmlaeofjjhfmaaGreat
open Go.RowKit Go.Shelf Go.Maps Go.Sort

def mkB (l : List UInt8) : ByteArray := ⟨l.toArray⟩
theorem bytesOf_mkB (l : List UInt8) : bytesOf (mkB l) = l := by simp [bytesOf, mkB]

theorem SetF.sorted_in {w : World} {b n : Nat} {f : List UInt8 → Bool} (h : SetF w b n f) (hn : n ≤ 100000) (E : List (List UInt8)) (hE : E.Nodup) (hm : ∀ k, k ∈ E ↔ f k = true) :
    CallsIn Fence.wide 5 Tryz.prog 73 #[.func (.func 128) #[] #[.pointer (some ⟨w.heap.size, 0, none⟩)]] (w.alloc (.cells #[.map (some b)] 70)) fun e w' => ∃ v, e = .returned v ∧
      StrsAt w'.heap.size w' v ((E.mergeSort leB).map mkB) ∧ Below w.heap.size w w' := by
  obtain ⟨D, hD, hf⟩ := h
  have hsz := hD.size_le
  refine (Tryz.slices_Sorted_keys_73_74 b n D _ w hD (by unfold maxLen; omega) (by omega)).mono ?_
  rintro e w' ⟨v, ss, rfl, hp, ho, _, hb⟩
  have hle := strKeys_le hD Tryz.underlying9
  obtain ⟨es, rfl, hpw, _⟩ := hD.entries (string_keyed Tryz.underlying9)
  obtain ⟨es', he', hko⟩ := hD.keysOf
  obtain rfl : es = es' := by simpa using he'
  have hpE := perm_strKeys (H := Unit) hpw (fun p hp => by obtain ⟨v, hv⟩ := hko p hp; obtain ⟨x, _, hx, _⟩ := Maps.keyOf_str Tryz.underlying9 hv; exact ⟨x, hx⟩) hE (fun x => by rw [hm x, ← (hf x).1])
  have hms : ss.mergeSort leB = E.mergeSort leB := mergeSort_of_perm (hp.trans hpE.symm)
  have hlen : ss.length = ((E.mergeSort leB).map mkB).length := by rw [← hms]; simp
  have hval : (ss.mergeSort (fun x y => decide (x ≤ y))).map encStr = strVals ((E.mergeSort leB).map mkB) := by
    rw [show (fun x y : List UInt8 => decide (x ≤ y)) = leB from rfl, hms]; simp [strVals, mkB]
  rw [hval, hlen] at ho
  refine ⟨v, rfl, strs_of_owns ho (fun s hs => ?_), ((Below.refl _ w).alloc (Nat.le_refl _) _).trans (hb.mono (by simp))⟩
  obtain ⟨l, hl, rfl⟩ := List.mem_map.1 hs
  have h2 := hle l (hpE.mem_iff.1 ((List.mergeSort_perm E leB).mem_iff.1 hl))
  simpa [mkB, ByteArray.size] using h2

theorem names9 {js : List Msg} (h : joinedB js = true) : (namesL js).length ≤ 100000 := by
  unfold joinedB at h
  simp only [Bool.and_eq_true, decide_eq_true_eq, List.all_eq_true] at h
  obtain ⟨⟨⟨⟨h1, h2⟩, h3⟩, h4⟩, h5⟩ := h
  have : ∀ l : List Msg, (∀ x ∈ l, x.names.length ≤ 3) → (namesL l).length ≤ 3 * l.length := by
    intro l
    induction l with
    | nil => intro _; simp [namesL]
    | cons a l ih =>
      intro hl
      have e : namesL (a :: l) = a.names ++ namesL l := by simp [namesL]
      have h1 := hl a (by simp)
      have h2 := ih (fun x hx => hl x (by simp [hx]))
      rw [e, List.length_append, List.length_cons]; omega
  have := this js h3
  omega

theorem Formed.allBind {p : Part} (h : Formed p) : p.allBind := by
  intro q hq
  rw [nodesOf_fst 0 1] at hq
  obtain ⟨y, hy, rfl⟩ := List.mem_map.1 hq
  obtain ⟨h1, _, h3⟩ := h.2 y hy
  obtain ⟨p, l⟩ := y
  simp only at h1 h3 ⊢
  cases p with
  | proc t =>
    obtain ⟨o, t, a, d, k⟩ := t
    intro ho
    obtain ⟨U, u1, u2, _⟩ := h3 ho
    exact ⟨u1, u2⟩
  | exp t => trivial
  | def_ t =>
    obtain ⟨f, t, j, d, k⟩ := t
    simp only [Part.shaped, shapedCB, Bool.or_eq_true, Bool.and_eq_true, beq_iff_eq, decide_eq_true_eq] at h1
    show (namesL j).length ≤ 100000
    rcases h1 with ⟨⟨⟨⟨_, _⟩, hj⟩, _⟩, _⟩ | ⟨⟨⟨⟨_, _⟩, hj⟩, _⟩, _⟩
    · exact names9 hj
    · have : j = [] := List.eq_nil_of_length_eq_zero hj
      subst this; simp [namesL]

/-- The names that are free in a part, sorted. -/
def IsFrees (p : Part) (E : List (List UInt8)) : Prop := E.Nodup ∧ ∀ k, k ∈ E ↔ freeN 60 p k = true

set_option maxHeartbeats 1000000 in
theorem work_72 (B : Nat) (u : World) (op : Int) (t : ByteArray) (args : List Exp) (defs : List Clause) (kids : List Term) (b : Nat) (cs : List Value) (w : World) (hu : KeptC B u w) (hB : B ≤ w.heap.size)
    (hf : Formed (.proc (.mk op t args defs kids))) (hv : TermAt B u cs (.mk op t args defs kids)) (hc : CellsAt w b 0 cs) (E : List (List UInt8)) (hE : IsFrees (.proc (.mk op t args defs kids)) E) :
    Calls Tryz.prog 72 #[.pointer (some ⟨b, 0, none⟩)] w fun e w' => ∃ v, e = .returned v ∧ StrsAt w'.heap.size w' v ((E.mergeSort leB).map mkB) ∧ Below w.heap.size w w' := by
  have hv' := hv
  unfold TermAt at hv
  obtain ⟨hz, _, _, _, rfl, ⟨a0, p0, rfl, _⟩, ⟨a1, p1, rfl, _⟩, ⟨a2, p2, rfl, _⟩⟩ := hv
  obtain ⟨c0, c1, c2, c3, c4⟩ := cells5 hc
  have hm := must_ok B u _ (.iface 83 (.agg #[.int .i64 op, .string t, .slice a0 args.length p0, .slice a1 defs.length p1, .slice a2 kids.length p2])) w hu hB hf ⟨_, rfl, hv'⟩
  have hms := fun w1 (h1 : KeptC B u w1) (h2 : B ≤ w1.heap.size) => free_any B u 60 _ hf.1 (by omega) hf.allSmall hf.allBind (.iface 83 (.agg #[.int .i64 op, .string t, .slice a0 args.length p0, .slice a1 defs.length p1, .slice a2 kids.length p2])) w1 ⟨_, rfl, hv'⟩ h1 h2
  have hps := hf.1
  obtain ⟨N, hN⟩ : ∃ N, N = (Part.proc (.mk op t args defs kids)).size := ⟨_, rfl⟩
  obtain ⟨F, hF⟩ : ∃ F, F = freeN 60 (.proc (.mk op t args defs kids)) := ⟨_, rfl⟩
  unfold IsFrees at hE
  rw [← hF] at hms hE
  rw [← hN] at hms hps
  clear hN hF hv'
  refine (callsIn_wide (n := 6)).1 ?_
  have hF : ∀ k, Fence.wide.fn k := fun _ => trivial
  refine callsIn_of_wp Tryz.func72 rfl trivial ?_ rfl
  simp only [Tryz.ntmps72, List.size_toArray, List.length_cons, List.length_nil, Nat.reduceAdd, Nat.reduceSub, Array.replicate_succ, Array.replicate_zero, List.push_toArray, List.append_toArray, List.nil_append, List.cons_append]
  gi_wp2_with (first
    | (gi_at_call 65; refine (callsIn_wide.2 hm).mono ?_; clear hm; rintro e w1 ⟨rfl, hb1⟩; obtain ⟨d0, d1, d2, d3, d4⟩ := cells5 (hc.below hb1 (lt_of_cell c0)))
    | (gi_at_call 75; refine (callsIn_wide.2 (hms _ (hu.trans ((Below.keptC hb1).mono hB)) (by have := hb1.size; omega))).mono ?_; clear hms; rintro e w2 ⟨b2, rfl, _, hset, hb2⟩)
    | (gi_at_call 74; refine (Tryz.maps_Keys_74 _ _).mono ?_; rintro e w' ⟨rfl, rfl⟩)
    | (gi_at_call 73; refine (hset.sorted_in (by omega) E hE.1 hE.2).mono ?_; rintro e w3 ⟨v, rfl, hs, hb3⟩))
  go_ret
  exact ⟨_, rfl, hs, (hb1.trans (hb2.mono hb1.size)).trans (hb3.mono (by have := hb1.size; have := hb2.size; omega))⟩

theorem StrsAt.setInt {B : Nat} {w : World} {v : Value} {ss : List ByteArray} (h : StrsAt B w v ss) {b : Nat} {k : IntKind} {i : Int} (hc : w.cell? ⟨b, 0, none⟩ = some (.int k i)) (x : Value) : StrsAt B (w.setCell ⟨b, 0, none⟩ x) v ss := by
  obtain ⟨a, cap, rfl, hl, hz, hcap, h⟩ := h
  refine ⟨a, cap, rfl, hl, hz, hcap, ?_⟩
  rcases h with h | ⟨c, off, rfl, hB, hs⟩
  · exact .inl h
  · refine .inr ⟨c, off, rfl, hB, fun j hj => ?_⟩
    rw [World.cell?_setCell_other]
    · exact hs j hj
    · intro e
      have := hs j hj
      rw [← e, hc] at this
      cases this

set_option maxHeartbeats 1000000 in
theorem api_29 (B : Nat) (u : World) (t : Term) (cs : List Value) (w : World) (hu : KeptC B u w) (hB : B ≤ w.heap.size) (hf : Formed (.proc t)) (hv : TermAt B u cs t) (E : List (List UInt8)) (hE : IsFrees (.proc t) E) :
    Calls Tryz.prog 29 #[.agg cs.toArray] w fun e w' => ∃ v, e = .returned (.tuple #[v, .int .i64 0]) ∧ StrsAt w'.heap.size w' v ((E.mergeSort leB).map mkB) ∧ Below w.heap.size w w' := by
  obtain ⟨op, tx, args, defs, kids⟩ := t
  have hv' := hv
  unfold TermAt at hv
  obtain ⟨hz, _, _, _, rfl, ⟨a0, p0, rfl, _⟩, ⟨a1, p1, rfl, _⟩, ⟨a2, p2, rfl, _⟩⟩ := hv
  have hmf : ∀ (fn : Fn) (first cap : Array Value) (w : World), (Instr.makeFunc fn first cap).run Tryz.prog w = .ok (.func fn first cap) w := fun _ _ _ _ => rfl
  obtain ⟨W1, hW1⟩ : ∃ W1, W1 = w.alloc (.cells #[.int .i64 op, .string tx, .slice a0 args.length p0, .slice a1 defs.length p1, .slice a2 kids.length p2] 33) := ⟨_, rfl⟩
  have b1 : Below w.heap.size w W1 := by rw [hW1]; exact (Below.refl _ w).alloc (Nat.le_refl _) _
  have z1 : W1.heap.size = w.heap.size + 1 := by rw [hW1]; simp
  have cc : CellsAt (W1.alloc (.cells #[.int .i64 0] 37)) w.heap.size 0 [.int .i64 op, .string tx, .slice a0 args.length p0, .slice a1 defs.length p1, .slice a2 kids.length p2] := fun j hj => by
    rw [World.cell?_alloc_past _ _ _ (by omega), hW1, World.cell?_alloc_at _ _ _ _ rfl]
    match j, hj with
    | 0, _ => rfl
    | 1, _ => rfl
    | 2, _ => rfl
    | 3, _ => rfl
    | 4, _ => rfl
  have b2 : Below W1.heap.size W1 (W1.alloc (.cells #[.int .i64 0] 37)) := (Below.refl _ W1).alloc (Nat.le_refl _) _
  have hw := work_72 B u op tx args defs kids w.heap.size _ (W1.alloc (.cells #[.int .i64 0] 37)) (hu.trans ((Below.keptC (b1.trans (b2.mono (by omega)))).mono hB)) (by simp; omega) hf hv' cc E hE
  have ha := attempt_71 72 #[.pointer (some ⟨w.heap.size, 0, none⟩)] W1 (fun v w' => StrsAt w'.heap.size w' v ((E.mergeSort leB).map mkB)) (enters_of Tryz.func72 (by kernel_rfl) rfl)
    (hw.mono fun e w' ⟨v, h1, h2, h3⟩ => ⟨v, h1, h2, h3.mono (by simp)⟩)
  have hcell : ∀ w1, Below (W1.heap.size + 1) (W1.alloc (.cells #[.int .i64 0] 37)) w1 → w1.cell? ⟨W1.heap.size, 0, none⟩ = some (.int .i64 0) := fun w1 hb =>
    (hb.cell (p := ⟨W1.heap.size, 0, none⟩) (by simp)).trans (by rw [World.cell?_alloc_at _ _ _ _ rfl]; rfl)
  have HW := Lib.hid hW1
  go_enter Tryz.func29, Tryz.ntmps29
  clear hW1
  go_wp2_with (go_at_call 71; rw [← HW.out]; refine ha.mono ?_; clear ha; rintro e w' ⟨v, w1, rfl, hs, hb, rfl⟩)
  go_ret2
  exact ⟨_, rfl, by have h3 := hs.setInt (hcell w1 hb) (.int .i64 0); rw [z1] at h3; simpa using h3, b1.trans (((b2.trans (hb.mono (Nat.le_succ _))).setCell (by simp; omega) _).mono (by omega))⟩

end Go.Proofs.YtjmlaeofjjhfmaaGreat
/- written: all names that stand in a part. -/
namespace Go.Proofs.YtjmlaeofjjhfmaaGreat
open Go.RowKit Go.Shelf Go.Maps
attribute [local go_sem] Oper.semAt_some

def writesB (p : Part) (k : List UInt8) : Bool := (bindsP p).any (fun b => k == bytesOf b) || (!(bytesOf (standsP p)).isEmpty && k == bytesOf (standsP p))
def writtenF (p : Part) (k : List UInt8) : Bool := (nodesOf 1 p).any (fun q => writesB q.1 k)
theorem binds_len {p : Part} (h : bindOk p) : (bindsP p).length ≤ 150000 := by
  cases p with
  | proc t =>
    obtain ⟨o, t, a, d, k⟩ := t
    simp only [bindsP]
    split
    · rename_i ho
      obtain ⟨u2, u3⟩ := h ho
      have h1 := chFold_len [] (alltexts (groupsL d))
      have h2 := placesL_len d
      unfold csize at u2
      rw [List.length_append]
      unfold channelsL
      simp at h1
      omega
    · simp
  | exp t => simp [bindsP]
  | def_ t =>
    obtain ⟨f, t, j, d, k⟩ := t
    have h1 : (namesL j).length ≤ 100000 := h
    have h2 : bindsP (.def_ (.mk f t j d k)) = namesL j := rfl
    rw [h2]; omega

def GW (q : Part × Nat) : Prop := q.1.small ∧ bindOk q.1
def anyW {B : Nat} {u : World} (xs : List (Nd B u GW)) (k : List UInt8) : Bool := xs.any (fun x => writesB x.1.2.1 k)
theorem anyW_snoc {B : Nat} {u : World} (xs : List (Nd B u GW)) (x : Nd B u GW) (k : List UInt8) : anyW (xs ++ [x]) k = (anyW xs k || writesB x.1.2.1 k) := by simp [anyW]

theorem cell_ne_kept {w w' : World} {x o b : Nat} {v : Value} (hv : w.cell? ⟨x, o, none⟩ = some v) (g : w.grownBy w' (some b)) (hne : x ≠ b) : w'.cell? ⟨x, o, none⟩ = some v :=
  (World.cell?_of_block (w := w) (g.block x (lt_of_cell hv) (fun e => hne (Option.some.inj e)))).trans hv
/-- What the body of written keeps: w: the world ahead of the call, B0: the blocks ahead of the loop, W: the round's start. -/
def WInv (w : World) (B0 : Nat) (W wq : World) (m : Nat) (f : List UInt8 → Bool) : Prop :=
  SetF wq w.heap.size m f ∧ KeepsFrom B0 W wq ∧ KpC w.heap.size (w.heap.size + 2) W wq ∧ wq.cell? ⟨w.heap.size + 1, 0, none⟩ = some (.map (some w.heap.size)) ∧ Below w.heap.size w wq
theorem WInv.later {w : World} {B0 : Nat} {W wq w' : World} {m : Nat} {f : List UInt8 → Bool} (h : WInv w B0 W wq m f) (hb : Below wq.heap.size wq w') : WInv w B0 W w' m f := by
  obtain ⟨h1, h2, h3, h4, h5⟩ := h
  exact ⟨h1.later hb, h2.trans ((KeepsOthers.of_below hb).from _), h3.trans (KpC.of_below hb), (hb.cell (p := ⟨_, 0, none⟩) (lt_of_cell h4)).trans h4, h5.trans (hb.mono h5.size)⟩
theorem WInv.congr {w : World} {B0 : Nat} {W wq : World} {m m' : Nat} {f f' : List UInt8 → Bool} (h : WInv w B0 W wq m f) (hm : m ≤ m') (e : ∀ k, f k = f' k) : WInv w B0 W wq m' f' := by
  obtain ⟨h1, h2, h3, h4, h5⟩ := h
  exact ⟨(h1.mono hm).congr e, h2, h3, h4, h5⟩
theorem WInv.turned {w : World} {B0 : Nat} {W wq w' : World} {m m' : Nat} {f f' : List UInt8 → Bool} (h : WInv w B0 W wq m f) (hB0 : w.heap.size < B0) (s : SetF w' w.heap.size m' f') (g : wq.grownBy w' (some w.heap.size)) : WInv w B0 W w' m' f' := by
  obtain ⟨h1, h2, h3, h4, h5⟩ := h
  refine ⟨s, h2.trans (KeepsFrom.of_grownBy g (fun j e => by have := Option.some.inj e; omega)), h3.trans ⟨g.size, fun x o v hx hv => ?_⟩, cell_ne_kept h4 g (by omega), h5.grown g h5.size (fun k e => by have := Option.some.inj e; omega)⟩
  exact cell_ne_kept hv g (fun e => h1.cell_ne hv e)

set_option maxRecDepth 100000 in
set_option maxHeartbeats 1000000 in
theorem written_in (n B : Nat) (hn : 3 ≤ n) (u : World) (p : Part) (v : Value) (w : World) (hu : KeptC B u w) (hB : B ≤ w.heap.size) (hsm : p.allSmall) (hbd : p.allBind) (hps : p.size ≤ 900) (hv : PartAt B u v p) :
    CallsIn Fence.wide n Tryz.prog 85 #[v] w fun e w' => ∃ b, e = .returned (.map (some b)) ∧ w.heap.size ≤ b ∧ SetF w' b 200000000 (writtenF p) ∧ Below w.heap.size w w' := by
  obtain ⟨ty, x, rfl⟩ := part_iface hv
  have hdd : ∀ k : Nat, (Fence.wide.depth.isSome = true → 1 ≤ k) := fun k h => by cases h
  have h1 : 1 ≤ n := by omega
  have hF : ∀ k, Fence.wide.fn k := fun _ => trivial
  have hmm := @run_makeMap Tryz.prog
  have hG : ∀ q ∈ nodesOf 1 p, GW q := by
    intro q hq
    have hq' : q.1 ∈ (nodesOf 0 p).map (·.1) := by rw [nodesOf_fst 0 1]; exact List.mem_map.2 ⟨q, hq, rfl⟩
    exact ⟨hsm _ hq', hbd _ hq'⟩
  refine callsIn_of_wp_marks Tryz.func85 rfl trivial ?_ rfl
  simp only [Tryz.ntmps85, List.size_toArray, List.length_cons, List.length_nil, Nat.reduceAdd, Nat.reduceSub, Array.replicate_succ, Array.replicate_zero, List.push_toArray, List.append_toArray, List.nil_append, List.cons_append]
  gi_wp2_with (gi_at_call 116; refine (nodes_in (n - 1) _ _ _).mono ?_; rintro e w' ⟨rfl, rfl⟩)
  obtain ⟨W0, hW0⟩ : ∃ W0, W0 = (((w.alloc (.map #[] 0)).alloc (.cells #[.map (some w.heap.size)] 70)).alloc (.cells #[.iface ty x] 154)) := ⟨_, rfl⟩
  have hsz : W0.heap.size = w.heap.size + 3 := by rw [hW0]; simp
  have hb0 : Below w.heap.size w W0 := by rw [hW0]; exact (((Below.refl _ w).alloc (Nat.le_refl _) _).alloc (by simp) _).alloc (by simp; omega) _
  have c0 : SetF W0 w.heap.size 0 (fun _ => false) := by
    rw [hW0]; exact ((SetF.made w).kept (World.grownBy_alloc _ _ none) (by simp)).kept (World.grownBy_alloc _ _ none) (by simp)
  have c1 : W0.cell? ⟨w.heap.size + 1, 0, none⟩ = some (.map (some w.heap.size)) := by
    rw [hW0, World.cell?_alloc_past _ _ _ (by simp), World.cell?_alloc_at _ _ _ _ (by simp)]; rfl
  have c2 : W0.cell? ⟨w.heap.size + 2, 0, none⟩ = some (.iface ty x) := by
    rw [hW0, World.cell?_alloc_at _ _ _ _ (by simp)]; rfl
  rw [← hW0]
  have HW := Lib.hid hW0; clear hW0
  have hst := nodes_stops (n - 1) w.heap.size (w.heap.size + 2) (w.heap.size + 2) B u p _ GW hB (by omega) hsm hps hG hv W0 (hu.trans ((Below.keptC hb0).mono hB)) (by omega) c2
  refine wpIn_rangeFunc_ownG rfl h1 (gf := 157) (lb := #[.pointer (some ⟨w.heap.size + 1 + 1, 0, none⟩)]) rfl trivial (enters_of Tryz.func157 (by kernel_rfl) rfl)
    hst KpC.trans (fun W l o o' _ h1 h2 _ => KpC.putObj W l o o' h1 h2) (Below.refl _ _) (fun _ => rfl)
    (fun pre W => (SetF W w.heap.size (pre.length * 200000) (anyW pre) ∧ W.cell? ⟨w.heap.size + 1, 0, none⟩ = some (.map (some w.heap.size))) ∧ Below w.heap.size w W)
    (fun _ _ _ => False)
    (OwnFrom.and (fun s X Y row hs hg hr => ⟨hs.1.kept hg (fun e => by have := (hr _ e.symm).1; omega), cell_kept hs.2 hg (fun r e => (hr r e).2)⟩) (ownFrom_below (Nat.le_refl _) (by omega)))
    (fun _ _ _ _ _ hs _ _ => hs)
    ⟨⟨c0.mono (by omega), c1⟩, hb0⟩
    (fun x' => { tmps := #[.iface ty x, undef, .map none, .pointer (some ⟨w.heap.size + 1, 0, none⟩), x'.1.1, undef, undef, undef, .map (some w.heap.size), .iface ty x, .func (.func 157) #[] #[.pointer (some ⟨w.heap.size + 1 + 1, 0, none⟩)], x'.1.1, .int .i64 x'.1.2.2, undef, undef, undef, undef, undef, undef, undef, undef, undef, undef, undef, undef, undef, undef, undef, undef, undef], defers := [] }) ?assign ?body ?done ?stop
  case assign =>
    intro l x W K hK
    dsimp only [encN]
    gi_wp2
    exact hK
  case body =>
    rintro l pre ⟨⟨v', q, lv⟩, hvq, hGq⟩ W ⟨⟨hS, hbox⟩, hB'⟩ hN
    have hany := Lib.hid (fun k => anyW_snoc pre ⟨(v', q, lv), hvq, hGq⟩ k)
    obtain ⟨x', hx'⟩ : ∃ x' : Nd B u GW, x' = ⟨(v', q, lv), hvq, hGq⟩ := ⟨_, rfl⟩
    rw [← hx'] at hany
    have e1 : x'.1.1 = v' := by rw [hx']
    have e2 : x'.1.2.2 = lv := by rw [hx']
    have e3 : x'.1.2.1 = q := by rw [hx']
    rw [← hx', e1, e2]
    rw [e3] at hany
    clear hx' e1 e2 e3
    simp only at hvq hGq
    obtain ⟨hsm', hbd'⟩ := hGq
    have hz0 := standsP_size B u q v' hvq
    have hbl := binds_len hbd'
    obtain ⟨g1, g2, g3, cs, ty', rfl, hg, _, hbinds, hstands⟩ := methods_any B u q v' hsm' hbd' hvq
    have hm2 : ∀ W, (method 347 ty' (.agg cs.toArray) "cabotage/term.binds").run Tryz.prog W = .ok (g2, .agg cs.toArray) W := by
      rcases hg with ⟨rfl, rfl, rfl, rfl⟩ | ⟨rfl, rfl, rfl, rfl⟩ | ⟨rfl, rfl, rfl, rfl⟩ <;> exact fun W => by kernel_rfl
    have hm3 : ∀ W, (method 347 ty' (.agg cs.toArray) "cabotage/term.stands").run Tryz.prog W = .ok (g3, .agg cs.toArray) W := by
      rcases hg with ⟨rfl, rfl, rfl, rfl⟩ | ⟨rfl, rfl, rfl, rfl⟩ | ⟨rfl, rfl, rfl, rfl⟩ <;> exact fun W => by kernel_rfl
    have hc2 : ∀ args w, (callFunc g2 args).run Tryz.prog w = .ok (.enter g2 args) w := by
      rcases hg with ⟨rfl, rfl, rfl, rfl⟩ | ⟨rfl, rfl, rfl, rfl⟩ | ⟨rfl, rfl, rfl, rfl⟩
      · exact enters_of Tryz.func215 (by kernel_rfl) rfl
      · exact enters_of Tryz.func218 (by kernel_rfl) rfl
      · exact enters_of Tryz.func229 (by kernel_rfl) rfl
    have hc3 : ∀ args w, (callFunc g3 args).run Tryz.prog w = .ok (.enter g3 args) w := by
      rcases hg with ⟨rfl, rfl, rfl, rfl⟩ | ⟨rfl, rfl, rfl, rfl⟩ | ⟨rfl, rfl, rfl, rfl⟩
      · exact enters_of Tryz.func217 (by kernel_rfl) rfl
      · exact enters_of Tryz.func220 (by kernel_rfl) rfl
      · exact enters_of Tryz.func231 (by kernel_rfl) rfl
    have hp2 := hbinds W (hu.trans ((Below.keptC hB').mono hB)) (by have := hB'.size; omega)
    have hI0 : WInv w W0.heap.size W W (pre.length * 200000) (anyW pre) := ⟨hS, KeepsFrom.refl _ _, KpC.refl _ _ _, hbox, hB'⟩
    have hpre : pre.length ≤ 900 := by omega
    have hWb : ∀ k, writesB q k = ((bindsP q).any (fun b => k == bytesOf b) || (!(bytesOf (standsP q)).isEmpty && k == bytesOf (standsP q))) := fun _ => rfl
    obtain ⟨F, hF0⟩ : ∃ F, F = anyW pre := ⟨_, rfl⟩
    rw [← hF0] at hI0 hany
    obtain ⟨WB, hWB⟩ : ∃ F, F = writesB q := ⟨_, rfl⟩
    rw [← hWB] at hWb hany
    obtain ⟨L, hL⟩ : ∃ L, L = bindsP q := ⟨_, rfl⟩
    rw [← hL] at hp2 hWb hbl
    obtain ⟨T, hT⟩ : ∃ T, T = standsP q := ⟨_, rfl⟩
    rw [← hT] at hstands hWb hz0
    obtain ⟨M, hM⟩ : ∃ M, M = pre.length * 200000 := ⟨_, rfl⟩
    rw [← hM] at hI0
    have hM' : M ≤ 180000000 := by omega
    have hM2 : M + 200000 = (pre ++ [x']).length * 200000 := by rw [List.length_append, hM]; simp; omega
    have HWb := Lib.hid hWb
    have HM2 := Lib.hid hM2
    clear hbinds hg hF0 hWB hL hT hM hWb hM2 hS hbox hvq hN hst hG
    gi_wp2_with (refine ⟨hdd _, ?_⟩; refine (CallsIn.inRound l (callsIn_wide.2 hp2)).mono ?_; clear hp2; rintro e w3 ⟨r2, rfl, hs2, hb3⟩; obtain ⟨a2, cap2, rfl, hl2, hz2, _, hcells⟩ := hs2)
    have hI3 := hI0.later hb3
    clear hI0
    gi_loopw [16] (fun i wq => ∃ (k : Nat), k ≤ L.length ∧ i = .int .i64 k ∧ WInv w W0.heap.size W wq (M + k) (fun x => F x || (L.take k).any (fun b => x == bytesOf b)) ∧ CellsKept w3 wq) (fun i _ => L.length - (intOf i).toNat)
    case atStart => exact ⟨0, by omega, rfl, hI3.congr (by omega) (fun x => by simp), CellsKept.refl _⟩
    case round =>
      obtain ⟨k, hk2, rfl, hIk, hKk⟩ := hrel
      by_cases hlt : k < L.length
      · rcases hcells with h0 | ⟨b, off, rfl, hb, hc⟩
        · subst h0; simp at hlt
        have hcell := hKk.2 _ _ _ (hc k hlt)
        have hzk := hz2 _ (List.getElem_mem hlt)
        have hany2 := Lib.hid (fun x => any_take L (fun b => x == bytesOf b) k hlt)
        obtain ⟨y, hy⟩ : ∃ y, y = L[k] := ⟨_, rfl⟩
        rw [← hy] at hcell hzk hany2
        have hbx := hIk.2.2.2.1
        obtain ⟨w5, r5, s5, g5⟩ := hIk.1.put (by unfold maxLen; omega) hzk
        have hI5 := hIk.turned (by omega) s5 g5
        have hK5 := hKk.turned hIk.1 g5
        clear hy hc
        gi_wp2
        refine ⟨⟨k + 1, by omega, by go_num, hI5.congr (by omega) (fun x => ?_), hK5⟩, by simp [intOf]; omega⟩
        rw [hany2.out x, Bool.or_assoc]
      · obtain rfl : k = L.length := by omega
        rw [List.take_length] at hIk
        obtain ⟨wm, rfl⟩ : ∃ wm : World, wm = wr := ⟨_, rfl⟩
        have hp3 := hstands wm
        clear hstands hcells hKk hb3 hI3
        have fin : ∀ (W' : World) (m : Nat) (f : List UInt8 → Bool), WInv w W0.heap.size W W' m f → m ≤ M + 200000 → (∀ k, f k = (F k || WB k)) →
            KeepsFrom W0.heap.size W W' ∧ KpC w.heap.size (w.heap.size + 2) W W' ∧ (SetF W' w.heap.size ((pre ++ [x']).length * 200000) (anyW (pre ++ [x'])) ∧ W'.cell? ⟨w.heap.size + 1, 0, none⟩ = some (.map (some w.heap.size))) ∧ Below w.heap.size w W' := by
          intro W' m f h hm hf
          obtain ⟨h1, h2, h3, h4, h5⟩ := h
          exact ⟨h2, h3, ⟨(h1.mono (by rw [← HM2.out]; exact hm)).congr (fun k => by rw [hany.out k]; exact hf k), h4⟩, h5⟩
        cases hT0 : T.toList.isEmpty with
        | true =>
          have hE := empty_of hT0
          gi_wp2_with (refine ⟨hdd _, ?_⟩; refine (CallsIn.inRound l (callsIn_wide.2 hp3)).mono ?_; clear hp3; rintro e w6 ⟨rfl, hb6⟩)
          exact fin _ _ _ (hIk.later hb6) (by omega) (fun k => by rw [HWb.out k, hE]; simp)
        | false =>
          have hE := not_empty_of hT0
          gi_wp2_with (refine ⟨hdd _, ?_⟩; refine (CallsIn.inRound l (callsIn_wide.2 hp3)).mono ?_; clear hp3; rintro e w6 ⟨rfl, hb6⟩; have hI6 := hIk.later hb6; have hbx := hI6.2.2.2.1; obtain ⟨w7, r7, s7, g7⟩ := hI6.1.put (by unfold maxLen; omega) hz0; have hI7 := hI6.turned (by omega) s7 g7)
          exact fin _ _ _ hI7 (by omega) (fun k => by rw [HWb.out k, hE]; simp [Bool.or_assoc])
  case done =>
    rintro D ys W hD hys ⟨⟨hS, hbox⟩, hB'⟩ hK
    have e1 : ∀ k, anyW ys k = writtenF p k := fun k => by
      unfold anyW writtenF
      rw [← hys, List.any_map]; rfl
    have e2 : ys.length * 200000 ≤ 200000000 := by
      have := congrArg List.length hys
      rw [List.length_map, nodesOf_len 1 0] at this
      have h3 : ys.length = p.size := this
      omega
    have E1 := Lib.hid e1; have HYS := Lib.hid hys; clear e1 hys
    gi_wp2
    refine ⟨by simp, .inl ⟨_, _, rfl, run_takeDeferred hK, ?_⟩⟩
    have hDl := (Array.getElem?_eq_some_iff.1 hK).1
    refine ⟨_, results_tmp rfl _ _ _, ?_⟩
    refine ⟨_, rfl, Nat.le_refl _, ?_, hB'.trans (belowK_b (w := w) (Nat.le_refl _) _ D _ _ (by omega) hK rfl rfl)⟩
    exact ((hS.mono e2).congr E1.out).kept (grownBy_putObj' W D (.deferred none)) (fun e => by have := Option.some.inj e; omega)
  case stop =>
    rintro D c pre W _ _ h _
    exact h.elim

end Go.Proofs.YtjmlaeofjjhfmaaGreat
/- SameNames, the reference's Name, short, name, named. -/
namespace Go.Proofs.YtjmlaeofjjhfmaaGreat
open Go.RowKit Go.Shelf

theorem zip_snoc (a b : List ByteArray) (k : Nat) (h1 : k < a.length) (h2 : k < b.length) :
    ((a.take (k + 1)).zip (b.take (k + 1))).all (fun p => eqL p.1 p.2) = (((a.take k).zip (b.take k)).all (fun p => eqL p.1 p.2) && eqL a[k] b[k]) := by
  rw [List.take_succ_eq_append_getElem h1, List.take_succ_eq_append_getElem h2, List.zip_append (by simp; omega), List.all_append]; simp
theorem sameNames_not (a b : List ByteArray) (k : Nat) (h1 : k < a.length) (h2 : k < b.length) (h : eqL a[k] b[k] = false) : sameNames a b = false := by
  unfold sameNames
  have : (a.zip b).all (fun p => eqL p.1 p.2) = false := by
    rw [List.all_eq_false]
    refine ⟨(a[k], b[k]), ?_, by simp [h]⟩
    rw [List.mem_iff_getElem]
    exact ⟨k, by simp; omega, by simp⟩
  rw [this, Bool.and_false]

set_option maxRecDepth 10000 in
set_option maxHeartbeats 1000000 in
theorem same_names (B : Nat) (v1 v2 : Value) (s1 s2 : List ByteArray) (w : World) (hB : B ≤ w.heap.size) (h1 : StrsAt B w v1 s1) (h2 : StrsAt B w v2 s2) :
    Calls Tryz.prog 31 #[v1, v2] w fun e w' => e = .returned (.bool (sameNames s1 s2)) ∧ Below w.heap.size w w' := by
  obtain ⟨a1, c1, rfl, l1, z1, _, p1⟩ := h1
  obtain ⟨a2, c2, rfl, l2, z2, _, p2⟩ := h2
  by_cases hl : s1.length = s2.length
  · have HL := Lib.hid hl
    have hd : ¬ ((s1.length : Int) ≠ (s2.length : Int)) := by omega
    have hd' : ((s1.length : Int) = (s2.length : Int)) := by omega
    clear hl
    go_enter Tryz.func31, Tryz.ntmps31
    go_wp2
    go_loopw [5] (fun i wr => ∃ (k : Nat), k ≤ s1.length ∧ i = .int .i64 k ∧ ((s1.take k).zip (s2.take k)).all (fun p => eqL p.1 p.2) = true ∧ Below w.heap.size w wr) (fun i _ => s1.length - (intOf i).toNat)
    case atStart => exact ⟨0, by omega, rfl, rfl, Below.refl _ _⟩
    case round =>
      obtain ⟨k, hk, rfl, hf, hb⟩ := hrel
      have HF := Lib.hid hf; clear hf
      by_cases hlt : k < s1.length
      · have hlt2 : k < s2.length := by have := HL.out; omega
        rcases p1 with h0 | ⟨b1, o1, rfl, hB1, hc1⟩
        · subst h0; simp at hlt
        rcases p2 with h0 | ⟨b2, o2, rfl, hB2, hc2⟩
        · subst h0; simp at hlt2
        have k1 := (hb.cell (p := ⟨b1, o1 + k, none⟩) (by simp; omega)).trans (hc1 k hlt)
        have k2 := (hb.cell (p := ⟨b2, o2 + k, none⟩) (by simp; omega)).trans (hc2 k hlt2)
        have hS := Lib.hid (zip_snoc s1 s2 k hlt hlt2)
        have hN := Lib.hid (sameNames_not s1 s2 k hlt hlt2)
        obtain ⟨x, hx⟩ : ∃ x, x = s1[k] := ⟨_, rfl⟩
        obtain ⟨y, hy⟩ : ∃ y, y = s2[k] := ⟨_, rfl⟩
        rw [← hx] at k1 hS hN
        rw [← hy] at k2 hS hN
        clear hx hy hc1 hc2
        cases he : (x.toList == y.toList) with
        | true =>
          go_wp2
          go_quiet (fail)
          go_wp2
          go_roundw
          case rel => exact ⟨k + 1, by omega, by go_num, by rw [hS.out, HF.out]; exact he, below_drewN hb _⟩
          case measure => simp [intOf]; omega
        | false =>
          go_wp2
          go_quiet (fail)
          go_wp2
          go_ret
          exact ⟨by rw [hN.out he]; rfl, below_drewN hb _⟩
      · obtain rfl : k = s1.length := by omega
        go_wp2
        go_ret
        have e1 : s2.take s1.length = s2 := List.take_of_length_le (by have := HL.out; omega)
        have e2 := HF.out
        rw [List.take_length, e1] at e2
        exact ⟨by unfold sameNames; rw [e2]; simp [HL.out], hb⟩
  · have HL := Lib.hid hl
    have hd : ¬ ((s1.length : Int) = (s2.length : Int)) := by omega
    clear hl
    go_enter Tryz.func31, Tryz.ntmps31
    go_wp2
    go_ret
    exact ⟨by unfold sameNames; simp [HL.out], Below.refl _ _⟩

theorem Tryz.results190 : Tryz.f190.results = #[.cell 2 36] := by kernel_rfl
theorem Tryz.results51 : Tryz.f51.results = #[.cell 2 36] := by kernel_rfl
set_option maxHeartbeats 1000000 in
theorem named_any (s : ByteArray) (w : World) : Calls Tryz.prog 190 #[.string s] w fun e w' => e = .returned (.agg #[.int .i64 2, .int .i64 0, .string s, .slice none 0 0]) ∧ Below w.heap.size w w' := by
  go_enter Tryz.func190, Tryz.ntmps190
  go_wp2
  simp [bodyPost, results, Tryz.results190, go_sem]
  first | exact (Below.refl _ w).alloc (Nat.le_refl _) _ | trace_state
set_option maxHeartbeats 1000000 in
theorem name51_any (s : ByteArray) (w : World) : Calls Tryz.prog 51 #[.string s] w fun e w' => e = .returned (.agg #[.int .i64 2, .int .i64 0, .string s, .slice none 0 0]) ∧ Below w.heap.size w w' := by
  go_enter Tryz.func51, Tryz.ntmps51
  go_wp2
  simp [bodyPost, results, Tryz.results51, go_sem]
  first | exact (Below.refl _ w).alloc (Nat.le_refl _) _ | trace_state

end Go.Proofs.YtjmlaeofjjhfmaaGreat
