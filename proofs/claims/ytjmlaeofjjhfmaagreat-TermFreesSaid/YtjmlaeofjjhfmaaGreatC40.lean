/- The reference's look at an expression: one, exp. -/
import Derived.Test.YtjmlaeofjjhfmaaGreatC39
import Derived.Test.YtjmlaeofjjhfmaaGreatC12
set_option linter.unusedVariables false
set_option linter.unusedSimpArgs false
namespace Go.Proofs.YtjmlaeofjjhfmaaGreat
open Go.RowKit

theorem hasB_words' (s : ByteArray) : hasB refWords s = inSet words s.data.toList := by
  unfold hasB inSet
  rw [show words = refWords.map bytesOf from rfl, List.any_map]
  congr 1
  funext x
  simp only [Function.comp, ByteArray.toList_eq]
  rw [show bytesOf x = x.data.toList from rfl]
  first | rfl | exact Bool.eq_iff_iff.2 (by simp [eq_comm]) | skip
theorem names_same' (s : ByteArray) : refNameB s = nameB s := by unfold refNameB nameB; rw [hasB_words']

def rOne (s : ByteArray) (b : Bool) : Bool := (b && nameB s) || (!b && s.size == 0)

set_option maxHeartbeats 1000000 in
theorem one_any (s : ByteArray) (b : Bool) (w : World) (hs : s.size ≤ maxLen) :
    Calls Tryz.prog 112 #[.string s, .bool b] w fun e w' => e = .returned (.bool (rOne s b)) ∧ Below w.heap.size w w' := by
  have hR := refName_any s w hs
  rw [names_same'] at hR
  cases b with
  | true =>
    have HS := Lib.hid (show rOne s true = nameB s by simp [rOne])
    cases hn : nameB s with
    | true =>
      rw [hn] at hR HS
      clear hn
      go_enter Tryz.func112, Tryz.ntmps112
      go_wp2_with (go_at_call 15; refine hR.mono ?_; clear hR; rintro e w1 ⟨rfl, hb1⟩)
      go_ret
      exact ⟨ret_bool HS.out.symm, hb1⟩
    | false =>
      rw [hn] at hR HS
      clear hn
      go_enter Tryz.func112, Tryz.ntmps112
      go_wp2_with (go_at_call 15; refine hR.mono ?_; clear hR; rintro e w1 ⟨rfl, hb1⟩)
      go_ret
      exact ⟨ret_bool HS.out.symm, hb1⟩
  | false =>
    have HS := Lib.hid (show rOne s false = (s.size == 0) by simp [rOne])
    go_enter Tryz.func112, Tryz.ntmps112
    go_wp2
    all_goals go_ret
    all_goals refine ⟨ret_bool ?_, Below.refl _ _⟩
    all_goals rw [HS.out, Bool.eq_iff_iff]
    all_goals simp [toList_nil, List.isEmpty_iff]

/-- All nodes are shaped. -/
def allSh (p : Part) : Bool := (nodesOf 0 p).all (fun q => q.1.shaped)
def allShL (ps : List Part) : Bool := ps.all allSh
theorem allSh_lev (p : Part) (a b : Nat) : (nodesOf a p).all (fun q => q.1.shaped) = (nodesOf b p).all (fun q => q.1.shaped) := by
  have h := nodesOf_fst a b p
  have e : ∀ l : List (Part × Nat), l.all (fun q => q.1.shaped) = (l.map (·.1)).all Part.shaped := fun l => by rw [List.all_map]; rfl
  rw [e, e, h]
theorem allSh_eq (p : Part) : allSh p = (p.shaped && allShL p.parts) := by
  rw [allSh, nodesOf_eq, List.all_cons]
  congr 1
  unfold nodesL allShL
  rw [List.all_flatMap]
  congr 1
  funext q
  rw [allSh_lev q (0 + 1) 0]; rfl
theorem allShL_append (a b : List Part) : allShL (a ++ b) = (allShL a && allShL b) := by simp [allShL, List.all_append]
theorem allShL_take {α : Type} (f : α → Part) (l : List α) (k : Nat) (h : k < l.length) : allShL ((l.take (k + 1)).map f) = (allShL ((l.take k).map f) && allSh (f l[k])) := by
  rw [List.take_succ_eq_append_getElem h, List.map_append, allShL_append]; simp [allShL]

theorem maxL_append (a b : List Nat) : maxL (a ++ b) = max (maxL a) (maxL b) := by
  have key : ∀ (l : List Nat) (x : Nat), l.foldl max x = max x (l.foldl max 0) := by
    intro l
    induction l with
    | nil => intro x; simp
    | cons y l ih => intro x; simp only [List.foldl_cons]; rw [ih, ih (max 0 y)]; omega
  simp only [maxL, List.foldl_append]
  exact key b _
def dps (ps : List Part) : Nat := maxL (ps.map Part.depth)
theorem levels_up (p : Part) (lev : Nat) : ((nodesOf (lev + 1) p).map (·.2)) = ((nodesOf lev p).map (·.2)).map (· + 1) := by
  have key : ∀ (s : Nat) (p : Part) (lev : Nat), p.size ≤ s → ((nodesOf (lev + 1) p).map (·.2)) = ((nodesOf lev p).map (·.2)).map (· + 1) := by
    intro s
    induction s with
    | zero => intro p lev hp; exact absurd (by rw [Part.size, nodesOf_eq]; simp) (Nat.not_lt.2 hp)
    | succ s ih =>
      intro p lev hp
      rw [nodesOf_eq, nodesOf_eq lev, List.map_cons, List.map_cons, List.map_cons]
      congr 1
      unfold nodesL
      rw [List.map_flatMap, List.map_flatMap, List.map_flatMap]
      have : ∀ q ∈ p.parts, (nodesOf (lev + 1 + 1) q).map (·.2) = ((nodesOf (lev + 1) q).map (·.2)).map (· + 1) := fun q hq => ih q (lev + 1) (by have := size_lt hq; omega)
      generalize p.parts = ps at this
      induction ps with
      | nil => rfl
      | cons q ps ih2 => simp only [List.flatMap_cons]; rw [this q (by simp), ih2 (fun x hx => this x (by simp [hx]))]
  exact key p.size p lev (Nat.le_refl _)
theorem maxL_up (l : List Nat) (h : l ≠ []) : maxL (l.map (· + 1)) = maxL l + 1 := by
  induction l with
  | nil => exact absurd rfl h
  | cons x l ih =>
    have e : ∀ (y : Nat) (m : List Nat), maxL (y :: m) = max y (maxL m) := fun y m => by
      have := maxL_append [y] m
      simpa [maxL] using this
    rw [List.map_cons, e, e]
    by_cases hl : l = []
    · subst hl; simp [maxL]
    · rw [ih hl]; omega
theorem depth_eq (p : Part) : p.depth = 1 + dps p.parts := by
  have key : ∀ ps : List Part, maxL ((nodesL 2 ps).map (·.2)) = if ps = [] then 0 else 1 + dps ps := by
    intro ps
    induction ps with
    | nil => rfl
    | cons q ps ih =>
      have e : nodesL 2 (q :: ps) = nodesOf 2 q ++ nodesL 2 ps := by simp [nodesL]
      have e2 : maxL ((nodesOf 2 q).map (·.2)) = q.depth + 1 := by
        rw [levels_up q 1, maxL_up]; rfl
        rw [nodesOf_eq]; simp
      have e3 : dps (q :: ps) = max q.depth (dps ps) := by
        have := maxL_append [q.depth] (ps.map Part.depth)
        simpa [dps, maxL] using this
      rw [e, List.map_append, maxL_append, e2, ih, e3]
      by_cases hp : ps = []
      · subst hp; simp [dps, maxL]; omega
      · simp [hp]; omega
  rw [Part.depth, nodesOf_eq, List.map_cons]
  have := maxL_append [1] ((nodesL (1 + 1) p.parts).map (·.2))
  simp only [List.cons_append, List.nil_append] at this
  rw [this, key]
  by_cases hp : p.parts = []
  · rw [if_pos hp, hp]; rfl
  · rw [if_neg hp]; simp [maxL]
theorem dps_append (a b : List Part) : dps (a ++ b) = max (dps a) (dps b) := by simp [dps, maxL_append]
theorem dps_take {α : Type} (f : α → Part) (l : List α) (k : Nat) (h : k < l.length) : dps ((l.take (k + 1)).map f) = max (dps ((l.take k).map f)) (f l[k]).depth := by
  rw [List.take_succ_eq_append_getElem h, List.map_append, dps_append]; simp [dps, maxL]
theorem depth_le_size (p : Part) : p.depth ≤ p.size := by
  have key : ∀ (s : Nat) (p : Part), p.size ≤ s → p.depth ≤ p.size := by
    intro s
    induction s with
    | zero => intro p hp; exact absurd (by rw [Part.size, nodesOf_eq]; simp) (Nat.not_lt.2 hp)
    | succ s ih =>
      intro p hp
      rw [depth_eq, size_sz]
      have : ∀ q ∈ p.parts, q.depth ≤ q.size := fun q hq => ih q (by have := size_lt hq; omega)
      generalize p.parts = ps at this
      have : dps ps ≤ sz ps := by
        induction ps with
        | nil => simp [dps, maxL]
        | cons q ps ih2 =>
          have e1 := dps_append [q] ps
          have e2 := sz_append [q] ps
          have e3 := sz_one q
          have e4 := this q (by simp)
          have e5 := ih2 (fun x hx => this x (by simp [hx]))
          have e6 : dps [q] = q.depth := by simp [dps, maxL]
          simp only [List.cons_append, List.nil_append] at e1 e2
          omega
      omega
  exact key p.size p (Nat.le_refl _)

/-- What is told of nodes, depth and shape. -/
def ROut (p : Part) (e : Ending) : Prop := ∃ n d : Nat, e = .returned (.tuple #[.int .i64 n, .int .i64 d, .bool (allSh p)]) ∧ n ≤ p.size ∧ d ≤ p.size ∧ (allSh p = true → n = p.size ∧ d = p.depth)
/-- What has been gathered of some parts. -/
def RMid (ps : List Part) (n d : Nat) (is : Bool) : Prop := is = allShL ps ∧ n ≤ 1 + sz ps ∧ d ≤ sz ps ∧ (is = true → n = 1 + sz ps ∧ d = dps ps)
theorem RMid.nil : RMid [] 1 0 true := ⟨rfl, by omega, by omega, fun _ => ⟨rfl, rfl⟩⟩
theorem RMid.step {ps : List Part} {q : Part} {n d m k : Nat} {is ok : Bool} (h : RMid ps n d is) (hm : m ≤ q.size) (hk : k ≤ q.size) (hok : ok = allSh q) (hs : ok = true → m = q.size ∧ k = q.depth) : RMid (ps ++ [q]) (n + m) (max d k) (is && ok) := by
  obtain ⟨rfl, h1, h2, h3⟩ := h
  have e1 := sz_append ps [q]
  have e2 := sz_one q
  have e3 := dps_append ps [q]
  have e4 : dps [q] = q.depth := by simp [dps, maxL]
  refine ⟨by rw [allShL_append, hok]; simp [allShL], by omega, by omega, fun h => ?_⟩
  rw [Bool.and_eq_true] at h
  have := h3 h.1; have := hs h.2
  omega
theorem RMid.out {p : Part} {n d : Nat} {is : Bool} (h : RMid p.parts n d is) (hp : p.shaped = true) : ROut p (.returned (.tuple #[.int .i64 n, .int .i64 ((d : Int) + 1), .bool is])) := by
  obtain ⟨h0, h1, h2, h3⟩ := h
  have e1 := size_sz p; have e2 := depth_eq p
  have e3 : is = allSh p := by rw [allSh_eq, hp, h0]; rfl
  refine ⟨n, d + 1, by rw [e3]; rfl, by omega, by omega, fun h => ?_⟩
  rw [← e3] at h
  have := h3 h
  omega
theorem ROut.no {p : Part} (hp : p.shaped = false) : ROut p (.returned (.tuple #[.int .i64 1, .int .i64 1, .bool false])) := by
  have e1 := size_sz p
  have e3 : allSh p = false := by rw [allSh_eq, hp]; rfl
  exact ⟨1, 1, by rw [e3]; rfl, by omega, by omega, fun h => by rw [e3] at h; cases h⟩

end Go.Proofs.YtjmlaeofjjhfmaaGreat
/- The reference's look at an expression: exp. -/
namespace Go.Proofs.YtjmlaeofjjhfmaaGreat
open Go.RowKit

def rFn : Part → Nat
  | .proc _ => 59
  | .exp _ => 62
  | .def_ _ => 113
def RAt (s : Nat) : Prop := ∀ (p : Part), p.size ≤ s → p.size ≤ 60 → ∀ (B : Nat) (u w : World) (cs : List Value), KeptC B u w → B ≤ w.heap.size → PartCs B u cs p →
  Calls Tryz.prog (rFn p) #[.agg cs.toArray] w fun e w' => ROut p e ∧ Below w.heap.size w w'

theorem not_dec {p : Prop} [Decidable p] (h : (!decide p) = false) : p := by simpa using h
theorem exp_contra {op n : Int} {text : ByteArray} {lk : Nat} (hS : ((op == 1 && decide (-1000000000 ≤ n) && decide (n ≤ 1000000000) && text.size == 0 && lk == 0) ||
      (op == 2 && n == 0 && nameB text && lk == 0) || (decide (3 ≤ op) && decide (op ≤ 7) && n == 0 && text.size == 0 && lk == 2)) = false)
    (h1 : 1 ≤ op) (h2 : op ≤ 7) (h3 : rOne text (op == 2) = true) (h4 : 3 ≤ op ∧ lk = 2 ∨ op < 3 ∧ lk = 0) (h5 : op = 1 ∨ n = 0) (h6 : -1000000000 ≤ n) (h7 : n ≤ 1000000000) : False := by
  rw [Bool.eq_false_iff] at hS
  apply hS
  obtain rfl | rfl | h : op = 1 ∨ op = 2 ∨ 3 ≤ op := by omega
  · have e : text.size = 0 := by simpa [rOne] using h3
    have e2 : lk = 0 := by omega
    simp [e, e2, h6, h7]
  · have e : nameB text = true := by simpa [rOne] using h3
    have e2 : lk = 0 := by omega
    have e3 : n = 0 := by omega
    simp [e, e2, e3]
  · have e0 : (op == 2) = false := by simp; omega
    have e : text.size = 0 := by simpa [rOne, e0] using h3
    have e2 : lk = 2 := by omega
    have e3 : n = 0 := by omega
    simp [e, e2, e3, h, h2]

theorem int_eq {a b : Int} (h : a = b) : Value.int .i64 a = .int .i64 b := by rw [h]

set_option maxRecDepth 10000 in
set_option maxHeartbeats 4000000 in
theorem r_exp (s : Nat) (ih : RAt s) (op n : Int) (text : ByteArray) (kids : List Exp) (hs : (Part.exp (.mk op n text kids)).size ≤ s + 1) (h60 : (Part.exp (.mk op n text kids)).size ≤ 60) (B : Nat) (u w : World) (cs : List Value) (hu : KeptC B u w) (hBl : B ≤ w.heap.size)
    (hv : ExpAt B u cs (.mk op n text kids)) :
    Calls Tryz.prog 62 #[.agg cs.toArray] w fun e w' => ROut (.exp (.mk op n text kids)) e ∧ Below w.heap.size w w' := by
  unfold ExpAt at hv
  obtain ⟨hz, _, rfl, ⟨a0, p0, rfl, l0, h0⟩⟩ := hv
  have hss := size_sz (Part.exp (.mk op n text kids))
  simp only [Part.parts] at hss
  have hkl : kids.length ≤ 60 := by
    have : ∀ l : List Exp, l.length ≤ sz (l.map Part.exp) := by
      intro l; induction l with
      | nil => simp
      | cons x l ih =>
        have e1 := sz_append [Part.exp x] (l.map Part.exp)
        have e2 := sz_one (Part.exp x)
        have e3 := size_sz (Part.exp x)
        simp only [List.cons_append, List.nil_append] at e1
        simp only [List.length_cons, List.map_cons]
        omega
    have := this kids
    omega
  obtain ⟨W1, hW1'⟩ : ∃ W1, W1 = w.alloc (.cells #[.int .i64 op, .int .i64 n, .string text, .slice a0 kids.length p0] 36) := ⟨_, rfl⟩
  have z1 : W1.heap.size = w.heap.size + 1 := by rw [hW1']; simp
  have hW1 : Below w.heap.size w W1 := by rw [hW1']; exact (Below.refl _ w).alloc (Nat.le_refl _) _
  have hbox0 : W1.cell? ⟨w.heap.size, 3, none⟩ = some (.slice a0 kids.length p0) := by
    rw [hW1', World.cell?_alloc_at _ _ _ _ rfl]; rfl
  have HW := Lib.hid hW1'; clear hW1'
  cases hsh : shapedEB (.mk op n text kids) with
  | false =>
    obtain ⟨lk, hlk⟩ : ∃ lk, lk = kids.length := ⟨_, rfl⟩
    have hS : Hid (((op == 1 && decide (-1000000000 ≤ n) && decide (n ≤ 1000000000) && text.size == 0 && lk == 0) ||
      (op == 2 && n == 0 && nameB text && lk == 0) || (decide (3 ≤ op) && decide (op ≤ 7) && n == 0 && text.size == 0 && lk == 2)) = false) := Lib.hid (by rw [← hsh, hlk]; rfl)
    have HNO := Lib.hid (ROut.no (p := .exp (.mk op n text kids)) hsh)
    rw [← hlk] at hkl hbox0
    have HW2 := HW.out
    rw [← hlk] at HW2 ⊢
    clear h0 hsh hss hlk HW hbox0 hs
    generalize Part.exp (.mk op n text kids) = p at HNO ⊢
    clear h60
    have HW := Lib.hid HW2; clear HW2
    go_enter Tryz.func62, Tryz.ntmps62
    go_wp2_with (go_at_call 112; refine (one_any _ _ _ hz).mono ?_; rintro e w1 ⟨rfl, hb1⟩; have hc0 := (hb1.cell (p := ⟨w.heap.size, 0, none⟩) (by simp)).trans (World.cell?_alloc_at _ _ _ _ rfl); have hc1 := (hb1.cell (p := ⟨w.heap.size, 1, none⟩) (by simp)).trans (World.cell?_alloc_at _ _ _ _ rfl); have hc3 := (hb1.cell (p := ⟨w.heap.size, 3, none⟩) (by simp)).trans (World.cell?_alloc_at _ _ _ _ rfl))
    all_goals first
      | (go_ret3; refine ⟨HNO.out, ?_⟩; first | exact (Below.refl _ w).alloc (Nat.le_refl _) _ | exact ((Below.refl _ w).alloc (Nat.le_refl _) _).trans (hb1.mono (by simp)))
      | exact (exp_contra hS.out (by omega) (by omega) (by assumption) (by omega) (by omega) (by omega) (by first | omega | exact not_dec (by assumption))).elim
      | trace_state
  | true =>
    have HSH := Lib.hid (show (Part.exp (.mk op n text kids)).shaped = true from hsh)
    have h := hsh
    unfold shapedEB at h
    simp only [Bool.or_eq_true, Bool.and_eq_true, beq_iff_eq, decide_eq_true_eq] at h
    clear hsh
    have Hss := Lib.hid hss
    have hs60 : sz (kids.map Part.exp) ≤ 60 := by omega
    have hss : sz (kids.map Part.exp) ≤ s := by omega
    rcases h with (⟨⟨⟨⟨rfl, h1⟩, h2⟩, h3⟩, h4⟩ | ⟨⟨⟨rfl, rfl⟩, h2⟩, h4⟩) | ⟨⟨⟨⟨h1, h2⟩, rfl⟩, h3⟩, h4⟩
    ·
      have HO := Lib.hid (show rOne text false = true by simp [rOne, h3])
      have ht : ((kids.length : Int) == 0) = true := by rw [h4]; rfl
      have H4 := Lib.hid h4; clear h4 h3
      go_enter Tryz.func62, Tryz.ntmps62
      go_wp2_with (go_at_call 112; refine (one_any _ _ _ hz).mono ?_; rw [HO.out]; rintro e w1 ⟨rfl, hb1⟩; have hc0 := (hb1.cell (p := ⟨w.heap.size, 0, none⟩) (by simp)).trans (World.cell?_alloc_at _ _ _ _ rfl); have hc1 := (hb1.cell (p := ⟨w.heap.size, 1, none⟩) (by simp)).trans (World.cell?_alloc_at _ _ _ _ rfl); have hc3 := (hb1.cell (p := ⟨w.heap.size, 3, none⟩) (by simp)).trans (World.cell?_alloc_at _ _ _ _ rfl); have hB1 : Below (w.heap.size + 1) W1 w1 := by rw [HW.out]; exact hb1.mono (by simp))
      go_loopw [7, 8, 6, 9] (fun vn vd vb i wr => ∃ (k n d : Nat) (b : Bool), k ≤ kids.length ∧ i = .int .i64 k ∧ vn = .int .i64 n ∧ vd = .int .i64 d ∧ vb = .bool b ∧ Hid (RMid ((kids.take k).map .exp) n d b) ∧ Below (w.heap.size + 1) W1 wr) (fun _ _ _ i _ => kids.length - (intOf i).toNat)
      case atStart => exact ⟨0, 1, 0, true, by omega, rfl, rfl, rfl, rfl, Lib.hid RMid.nil, hB1⟩
      case round =>
        obtain ⟨k, n, d, b, hk', rfl, rfl, rfl, rfl, hm, hB⟩ := hrel
        have hBw := hW1.trans (hB.mono (Nat.le_succ _))
        have hBz := hB.size
        have hbox := (hB.cell (p := ⟨w.heap.size, 3, none⟩) (by simp)).trans hbox0
        have hnd : n ≤ 60 ∧ d ≤ 60 := by
          obtain ⟨_, q1, q2, _⟩ := hm.out
          have := sz_le Part.exp kids k
          try simp only [sz_append] at q1 q2
          omega
        obtain ⟨hn60, hd60⟩ := hnd
        by_cases hlt : k < kids.length
        · rcases h0 with h00 | ⟨bb, off, rfl, hb, hk⟩
          · omega
          obtain ⟨cs, hcs, hexp⟩ := hk.get kids bb off k hlt
          have hexp' := hexp
          have hsm := sz_mem Part.exp hlt
          obtain ⟨e0, he0⟩ : ∃ e, e = kids[k] := ⟨_, rfl⟩
          have htk : (kids.take (k + 1)).map Part.exp = ((kids.take k).map Part.exp) ++ [Part.exp e0] := by
            rw [List.take_succ_eq_append_getElem hlt, List.map_append, he0]; simp
          rw [← he0] at hexp hexp' hsm
          have hih := ih (.exp e0) (by omega) (by omega) B u wr cs (hu.trans ((Below.keptC hBw).mono hBl)) (by omega) hexp'
          have HT := Lib.hid htk; clear htk
          clear he0 hexp'
          have HE : ∀ e w2, ROut (.exp e0) e ∧ Below wr.heap.size wr w2 → ∃ m l : Nat, ∃ ok : Bool, e = .returned (.tuple #[.int .i64 m, .int .i64 l, .bool ok]) ∧ m ≤ 60 ∧ l ≤ 60 ∧ Hid (RMid ((kids.take (k + 1)).map .exp) (n + m) (max d l) (b && ok)) ∧ Below wr.heap.size wr w2 := by
            rintro e w2 ⟨⟨m, l, rfl, h1, h2, h3⟩, hb2⟩
            exact ⟨m, l, _, rfl, by omega, by omega, Lib.hid (by rw [HT.out]; exact hm.out.step h1 h2 rfl h3), hb2⟩
          have hih2 := hih.mono HE
          clear hih HE
          obtain ⟨o0, n0, t0, k0⟩ := e0
          unfold ExpAt at hexp
          obtain ⟨_, _, rfl, x0, y0, rfl, _⟩ := hexp
          obtain ⟨c0, c1, c2, c3⟩ := cells4 ((hcs.keep hu hb).below hBw (by omega))
          clear hcs hk
          cases b with
          | true =>
            go_wp2_with (go_at_call 62; refine hih2.mono ?_; clear hih2; rintro e w2 ⟨m, l, ok, rfl, hm60, hl60, HR, hb2⟩)
            all_goals (
              go_roundw
              case rel => exact ⟨k + 1, n + m, max d l, _, by omega, by go_num, by go_num, int_eq (by omega), rfl, Lib.hid (by simpa using HR.out), hB.trans (hb2.mono (by have := hB.size; simp at this ⊢; omega))⟩
              case measure => simp [intOf]; omega)
          | false =>
            go_wp2_with (go_at_call 62; refine hih2.mono ?_; clear hih2; rintro e w2 ⟨m, l, ok, rfl, hm60, hl60, HR, hb2⟩)
            all_goals (
              go_roundw
              case rel => exact ⟨k + 1, n + m, max d l, false, by omega, by go_num, by go_num, int_eq (by omega), rfl, Lib.hid (by simpa using HR.out), hB.trans (hb2.mono (by have := hB.size; simp at this ⊢; omega))⟩
              case measure => simp [intOf]; omega)
        · have hkl : k = kids.length := by omega
          have hm2 := hm.out
          rw [hkl, List.take_length] at hm2
          have hmF := Lib.hid hm2; clear hm2 hm
          obtain rfl := hkl
          go_wp2
          go_ret3
          exact ⟨RMid.out hmF.out HSH.out, hBw⟩
    ·
      have HO := Lib.hid (show rOne text true = true by simp [rOne, h2])
      have ht : ((kids.length : Int) == 0) = true := by rw [h4]; rfl
      have H4 := Lib.hid h4; clear h4 h2
      go_enter Tryz.func62, Tryz.ntmps62
      go_wp2_with (go_at_call 112; refine (one_any _ _ _ hz).mono ?_; rw [HO.out]; rintro e w1 ⟨rfl, hb1⟩; have hc0 := (hb1.cell (p := ⟨w.heap.size, 0, none⟩) (by simp)).trans (World.cell?_alloc_at _ _ _ _ rfl); have hc1 := (hb1.cell (p := ⟨w.heap.size, 1, none⟩) (by simp)).trans (World.cell?_alloc_at _ _ _ _ rfl); have hc3 := (hb1.cell (p := ⟨w.heap.size, 3, none⟩) (by simp)).trans (World.cell?_alloc_at _ _ _ _ rfl); have hB1 : Below (w.heap.size + 1) W1 w1 := by rw [HW.out]; exact hb1.mono (by simp))
      go_loopw [7, 8, 6, 9] (fun vn vd vb i wr => ∃ (k n d : Nat) (b : Bool), k ≤ kids.length ∧ i = .int .i64 k ∧ vn = .int .i64 n ∧ vd = .int .i64 d ∧ vb = .bool b ∧ Hid (RMid ((kids.take k).map .exp) n d b) ∧ Below (w.heap.size + 1) W1 wr) (fun _ _ _ i _ => kids.length - (intOf i).toNat)
      case atStart => exact ⟨0, 1, 0, true, by omega, rfl, rfl, rfl, rfl, Lib.hid RMid.nil, hB1⟩
      case round =>
        obtain ⟨k, n, d, b, hk', rfl, rfl, rfl, rfl, hm, hB⟩ := hrel
        have hBw := hW1.trans (hB.mono (Nat.le_succ _))
        have hBz := hB.size
        have hbox := (hB.cell (p := ⟨w.heap.size, 3, none⟩) (by simp)).trans hbox0
        have hnd : n ≤ 60 ∧ d ≤ 60 := by
          obtain ⟨_, q1, q2, _⟩ := hm.out
          have := sz_le Part.exp kids k
          try simp only [sz_append] at q1 q2
          omega
        obtain ⟨hn60, hd60⟩ := hnd
        by_cases hlt : k < kids.length
        · rcases h0 with h00 | ⟨bb, off, rfl, hb, hk⟩
          · omega
          obtain ⟨cs, hcs, hexp⟩ := hk.get kids bb off k hlt
          have hexp' := hexp
          have hsm := sz_mem Part.exp hlt
          obtain ⟨e0, he0⟩ : ∃ e, e = kids[k] := ⟨_, rfl⟩
          have htk : (kids.take (k + 1)).map Part.exp = ((kids.take k).map Part.exp) ++ [Part.exp e0] := by
            rw [List.take_succ_eq_append_getElem hlt, List.map_append, he0]; simp
          rw [← he0] at hexp hexp' hsm
          have hih := ih (.exp e0) (by omega) (by omega) B u wr cs (hu.trans ((Below.keptC hBw).mono hBl)) (by omega) hexp'
          have HT := Lib.hid htk; clear htk
          clear he0 hexp'
          have HE : ∀ e w2, ROut (.exp e0) e ∧ Below wr.heap.size wr w2 → ∃ m l : Nat, ∃ ok : Bool, e = .returned (.tuple #[.int .i64 m, .int .i64 l, .bool ok]) ∧ m ≤ 60 ∧ l ≤ 60 ∧ Hid (RMid ((kids.take (k + 1)).map .exp) (n + m) (max d l) (b && ok)) ∧ Below wr.heap.size wr w2 := by
            rintro e w2 ⟨⟨m, l, rfl, h1, h2, h3⟩, hb2⟩
            exact ⟨m, l, _, rfl, by omega, by omega, Lib.hid (by rw [HT.out]; exact hm.out.step h1 h2 rfl h3), hb2⟩
          have hih2 := hih.mono HE
          clear hih HE
          obtain ⟨o0, n0, t0, k0⟩ := e0
          unfold ExpAt at hexp
          obtain ⟨_, _, rfl, x0, y0, rfl, _⟩ := hexp
          obtain ⟨c0, c1, c2, c3⟩ := cells4 ((hcs.keep hu hb).below hBw (by omega))
          clear hcs hk
          cases b with
          | true =>
            go_wp2_with (go_at_call 62; refine hih2.mono ?_; clear hih2; rintro e w2 ⟨m, l, ok, rfl, hm60, hl60, HR, hb2⟩)
            all_goals (
              go_roundw
              case rel => exact ⟨k + 1, n + m, max d l, _, by omega, by go_num, by go_num, int_eq (by omega), rfl, Lib.hid (by simpa using HR.out), hB.trans (hb2.mono (by have := hB.size; simp at this ⊢; omega))⟩
              case measure => simp [intOf]; omega)
          | false =>
            go_wp2_with (go_at_call 62; refine hih2.mono ?_; clear hih2; rintro e w2 ⟨m, l, ok, rfl, hm60, hl60, HR, hb2⟩)
            all_goals (
              go_roundw
              case rel => exact ⟨k + 1, n + m, max d l, false, by omega, by go_num, by go_num, int_eq (by omega), rfl, Lib.hid (by simpa using HR.out), hB.trans (hb2.mono (by have := hB.size; simp at this ⊢; omega))⟩
              case measure => simp [intOf]; omega)
        · have hkl : k = kids.length := by omega
          have hm2 := hm.out
          rw [hkl, List.take_length] at hm2
          have hmF := Lib.hid hm2; clear hm2 hm
          obtain rfl := hkl
          go_wp2
          go_ret3
          exact ⟨RMid.out hmF.out HSH.out, hBw⟩
    · obtain rfl | rfl | rfl | rfl | rfl : op = 3 ∨ op = 4 ∨ op = 5 ∨ op = 6 ∨ op = 7 := by omega
      all_goals (
      have HO := Lib.hid (show rOne text false = true by simp [rOne, h3])
      have ht : ((kids.length : Int) == 2) = true := by rw [h4]; rfl
      have H4 := Lib.hid h4; clear h4 h3
      go_enter Tryz.func62, Tryz.ntmps62
      go_wp2_with (go_at_call 112; refine (one_any _ _ _ hz).mono ?_; rw [HO.out]; rintro e w1 ⟨rfl, hb1⟩; have hc0 := (hb1.cell (p := ⟨w.heap.size, 0, none⟩) (by simp)).trans (World.cell?_alloc_at _ _ _ _ rfl); have hc1 := (hb1.cell (p := ⟨w.heap.size, 1, none⟩) (by simp)).trans (World.cell?_alloc_at _ _ _ _ rfl); have hc3 := (hb1.cell (p := ⟨w.heap.size, 3, none⟩) (by simp)).trans (World.cell?_alloc_at _ _ _ _ rfl); have hB1 : Below (w.heap.size + 1) W1 w1 := by rw [HW.out]; exact hb1.mono (by simp))
      go_loopw [7, 8, 6, 9] (fun vn vd vb i wr => ∃ (k n d : Nat) (b : Bool), k ≤ kids.length ∧ i = .int .i64 k ∧ vn = .int .i64 n ∧ vd = .int .i64 d ∧ vb = .bool b ∧ Hid (RMid ((kids.take k).map .exp) n d b) ∧ Below (w.heap.size + 1) W1 wr) (fun _ _ _ i _ => kids.length - (intOf i).toNat)
      case atStart => exact ⟨0, 1, 0, true, by omega, rfl, rfl, rfl, rfl, Lib.hid RMid.nil, hB1⟩
      case round =>
        obtain ⟨k, n, d, b, hk', rfl, rfl, rfl, rfl, hm, hB⟩ := hrel
        have hBw := hW1.trans (hB.mono (Nat.le_succ _))
        have hBz := hB.size
        have hbox := (hB.cell (p := ⟨w.heap.size, 3, none⟩) (by simp)).trans hbox0
        have hnd : n ≤ 60 ∧ d ≤ 60 := by
          obtain ⟨_, q1, q2, _⟩ := hm.out
          have := sz_le Part.exp kids k
          try simp only [sz_append] at q1 q2
          omega
        obtain ⟨hn60, hd60⟩ := hnd
        by_cases hlt : k < kids.length
        · rcases h0 with h00 | ⟨bb, off, rfl, hb, hk⟩
          · omega
          obtain ⟨cs, hcs, hexp⟩ := hk.get kids bb off k hlt
          have hexp' := hexp
          have hsm := sz_mem Part.exp hlt
          obtain ⟨e0, he0⟩ : ∃ e, e = kids[k] := ⟨_, rfl⟩
          have htk : (kids.take (k + 1)).map Part.exp = ((kids.take k).map Part.exp) ++ [Part.exp e0] := by
            rw [List.take_succ_eq_append_getElem hlt, List.map_append, he0]; simp
          rw [← he0] at hexp hexp' hsm
          have hih := ih (.exp e0) (by omega) (by omega) B u wr cs (hu.trans ((Below.keptC hBw).mono hBl)) (by omega) hexp'
          have HT := Lib.hid htk; clear htk
          clear he0 hexp'
          have HE : ∀ e w2, ROut (.exp e0) e ∧ Below wr.heap.size wr w2 → ∃ m l : Nat, ∃ ok : Bool, e = .returned (.tuple #[.int .i64 m, .int .i64 l, .bool ok]) ∧ m ≤ 60 ∧ l ≤ 60 ∧ Hid (RMid ((kids.take (k + 1)).map .exp) (n + m) (max d l) (b && ok)) ∧ Below wr.heap.size wr w2 := by
            rintro e w2 ⟨⟨m, l, rfl, h1, h2, h3⟩, hb2⟩
            exact ⟨m, l, _, rfl, by omega, by omega, Lib.hid (by rw [HT.out]; exact hm.out.step h1 h2 rfl h3), hb2⟩
          have hih2 := hih.mono HE
          clear hih HE
          obtain ⟨o0, n0, t0, k0⟩ := e0
          unfold ExpAt at hexp
          obtain ⟨_, _, rfl, x0, y0, rfl, _⟩ := hexp
          obtain ⟨c0, c1, c2, c3⟩ := cells4 ((hcs.keep hu hb).below hBw (by omega))
          clear hcs hk
          cases b with
          | true =>
            go_wp2_with (go_at_call 62; refine hih2.mono ?_; clear hih2; rintro e w2 ⟨m, l, ok, rfl, hm60, hl60, HR, hb2⟩)
            all_goals (
              go_roundw
              case rel => exact ⟨k + 1, n + m, max d l, _, by omega, by go_num, by go_num, int_eq (by omega), rfl, Lib.hid (by simpa using HR.out), hB.trans (hb2.mono (by have := hB.size; simp at this ⊢; omega))⟩
              case measure => simp [intOf]; omega)
          | false =>
            go_wp2_with (go_at_call 62; refine hih2.mono ?_; clear hih2; rintro e w2 ⟨m, l, ok, rfl, hm60, hl60, HR, hb2⟩)
            all_goals (
              go_roundw
              case rel => exact ⟨k + 1, n + m, max d l, false, by omega, by go_num, by go_num, int_eq (by omega), rfl, Lib.hid (by simpa using HR.out), hB.trans (hb2.mono (by have := hB.size; simp at this ⊢; omega))⟩
              case measure => simp [intOf]; omega)
        · have hkl : k = kids.length := by omega
          have hm2 := hm.out
          rw [hkl, List.take_length] at hm2
          have hmF := Lib.hid hm2; clear hm2 hm
          obtain rfl := hkl
          go_wp2
          go_ret3
          exact ⟨RMid.out hmF.out HSH.out, hBw⟩)

end Go.Proofs.YtjmlaeofjjhfmaaGreat
