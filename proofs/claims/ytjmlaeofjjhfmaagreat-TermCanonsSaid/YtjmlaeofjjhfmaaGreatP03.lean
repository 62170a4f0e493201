/- The nodes of a part, before its parts, with their levels (plain data); and what of memory a round of a loop must keep. -/
import Derived.Test.YtjmlaeofjjhfmaaGreatP02
import Derived.RangeFuncNested
import Derived.RangeFuncBound
import Derived.RangeFuncCalls
import Derived.RangeFuncLeaves
import Derived.Shelf.Abstract
import Derived.Shelf.RegionOpen
import Derived.OwnWalkIn
import Derived.TacticsInMore
import Derived.LoopNIn
import Derived.LoopIn
import Derived.Outline
import Derived.Laws.EntriesVeiled
set_option linter.unusedVariables false
set_option linter.unusedSimpArgs false
namespace Go.Proofs.YtjmlaeofjjhfmaaGreat
open Go.RowKit

def Part.parts : Part → List Part
  | .proc (.mk _ _ args defs kids) => args.map .exp ++ defs.map .def_ ++ kids.map .proc
  | .exp (.mk _ _ _ kids) => kids.map .exp
  | .def_ (.mk _ _ _ defs kids) => defs.map .def_ ++ kids.map .proc

mutual
def nodesE (lev : Nat) : Exp → List (Part × Nat)
  | .mk op n t kids => (.exp (.mk op n t kids), lev) :: nodesEs (lev + 1) kids
def nodesEs (lev : Nat) : List Exp → List (Part × Nat)
  | [] => []
  | e :: es => nodesE lev e ++ nodesEs lev es
end
mutual
def nodesC (lev : Nat) : Clause → List (Part × Nat)
  | .mk f t j d k => (.def_ (.mk f t j d k), lev) :: (nodesCs (lev + 1) d ++ nodesTs (lev + 1) k)
def nodesCs (lev : Nat) : List Clause → List (Part × Nat)
  | [] => []
  | e :: es => nodesC lev e ++ nodesCs lev es
def nodesT (lev : Nat) : Term → List (Part × Nat)
  | .mk o t a d k => (.proc (.mk o t a d k), lev) :: (nodesEs (lev + 1) a ++ nodesCs (lev + 1) d ++ nodesTs (lev + 1) k)
def nodesTs (lev : Nat) : List Term → List (Part × Nat)
  | [] => []
  | e :: es => nodesT lev e ++ nodesTs lev es
end
def nodesOf (lev : Nat) : Part → List (Part × Nat)
  | .proc t => nodesT lev t
  | .exp e => nodesE lev e
  | .def_ c => nodesC lev c
def nodesL (lev : Nat) (ps : List Part) : List (Part × Nat) := ps.flatMap (nodesOf lev)

theorem nodesEs_eq (lev : Nat) : ∀ es : List Exp, nodesEs lev es = nodesL lev (es.map .exp)
  | [] => rfl
  | e :: es => by simp [nodesEs, nodesL, nodesEs_eq lev es, nodesOf]
theorem nodesCs_eq (lev : Nat) : ∀ es : List Clause, nodesCs lev es = nodesL lev (es.map .def_)
  | [] => rfl
  | e :: es => by simp [nodesCs, nodesL, nodesCs_eq lev es, nodesOf]
theorem nodesTs_eq (lev : Nat) : ∀ es : List Term, nodesTs lev es = nodesL lev (es.map .proc)
  | [] => rfl
  | e :: es => by simp [nodesTs, nodesL, nodesTs_eq lev es, nodesOf]
theorem nodesL_append (lev : Nat) (a b : List Part) : nodesL lev (a ++ b) = nodesL lev a ++ nodesL lev b := by simp [nodesL]

theorem nodesOf_eq (lev : Nat) (p : Part) : nodesOf lev p = (p, lev) :: nodesL (lev + 1) p.parts := by
  cases p with
  | proc t => obtain ⟨o, t, a, d, k⟩ := t; simp [nodesOf, nodesT, Part.parts, nodesL_append, nodesEs_eq, nodesCs_eq, nodesTs_eq]
  | exp t => obtain ⟨o, n, t, k⟩ := t; simp [nodesOf, nodesE, Part.parts, nodesEs_eq]
  | def_ t => obtain ⟨f, t, j, d, k⟩ := t; simp [nodesOf, nodesC, Part.parts, nodesL_append, nodesCs_eq, nodesTs_eq]

mutual
theorem nodesE_len (a b : Nat) : ∀ e : Exp, (nodesE a e).length = (nodesE b e).length
  | .mk _ _ _ k => by simp [nodesE, nodesEs_len (a + 1) (b + 1) k]
theorem nodesEs_len (a b : Nat) : ∀ e : List Exp, (nodesEs a e).length = (nodesEs b e).length
  | [] => rfl
  | e :: es => by simp [nodesEs, nodesE_len a b e, nodesEs_len a b es]
end
mutual
theorem nodesC_len (a b : Nat) : ∀ e : Clause, (nodesC a e).length = (nodesC b e).length
  | .mk _ _ _ d k => by simp [nodesC, nodesCs_len (a + 1) (b + 1) d, nodesTs_len (a + 1) (b + 1) k]
theorem nodesCs_len (a b : Nat) : ∀ e : List Clause, (nodesCs a e).length = (nodesCs b e).length
  | [] => rfl
  | e :: es => by simp [nodesCs, nodesC_len a b e, nodesCs_len a b es]
theorem nodesT_len (a b : Nat) : ∀ e : Term, (nodesT a e).length = (nodesT b e).length
  | .mk _ _ g d k => by simp [nodesT, nodesEs_len (a + 1) (b + 1) g, nodesCs_len (a + 1) (b + 1) d, nodesTs_len (a + 1) (b + 1) k]
theorem nodesTs_len (a b : Nat) : ∀ e : List Term, (nodesTs a e).length = (nodesTs b e).length
  | [] => rfl
  | e :: es => by simp [nodesTs, nodesT_len a b e, nodesTs_len a b es]
end
theorem nodesOf_len (a b : Nat) (p : Part) : (nodesOf a p).length = (nodesOf b p).length := by
  cases p with
  | proc t => exact nodesT_len a b t
  | exp t => exact nodesE_len a b t
  | def_ t => exact nodesC_len a b t

mutual
theorem nodesE_fst (a b : Nat) : ∀ e : Exp, (nodesE a e).map (·.1) = (nodesE b e).map (·.1)
  | .mk _ _ _ k => by simp [nodesE, nodesEs_fst (a + 1) (b + 1) k]
theorem nodesEs_fst (a b : Nat) : ∀ e : List Exp, (nodesEs a e).map (·.1) = (nodesEs b e).map (·.1)
  | [] => rfl
  | e :: es => by simp [nodesEs, nodesE_fst a b e, nodesEs_fst a b es]
end
mutual
theorem nodesC_fst (a b : Nat) : ∀ e : Clause, (nodesC a e).map (·.1) = (nodesC b e).map (·.1)
  | .mk _ _ _ d k => by simp [nodesC, nodesCs_fst (a + 1) (b + 1) d, nodesTs_fst (a + 1) (b + 1) k]
theorem nodesCs_fst (a b : Nat) : ∀ e : List Clause, (nodesCs a e).map (·.1) = (nodesCs b e).map (·.1)
  | [] => rfl
  | e :: es => by simp [nodesCs, nodesC_fst a b e, nodesCs_fst a b es]
theorem nodesT_fst (a b : Nat) : ∀ e : Term, (nodesT a e).map (·.1) = (nodesT b e).map (·.1)
  | .mk _ _ g d k => by simp [nodesT, nodesEs_fst (a + 1) (b + 1) g, nodesCs_fst (a + 1) (b + 1) d, nodesTs_fst (a + 1) (b + 1) k]
theorem nodesTs_fst (a b : Nat) : ∀ e : List Term, (nodesTs a e).map (·.1) = (nodesTs b e).map (·.1)
  | [] => rfl
  | e :: es => by simp [nodesTs, nodesT_fst a b e, nodesTs_fst a b es]
end
theorem nodesOf_fst (a b : Nat) (p : Part) : (nodesOf a p).map (·.1) = (nodesOf b p).map (·.1) := by
  cases p with
  | proc t => exact nodesT_fst a b t
  | exp t => exact nodesE_fst a b t
  | def_ t => exact nodesC_fst a b t
theorem mem_nodesL {lev : Nat} {p : Part} {ps : List Part} (h : p ∈ ps) {q : Part × Nat} (hq : q ∈ nodesOf lev p) : q ∈ nodesL lev ps := List.mem_flatMap.2 ⟨p, h, hq⟩

def Part.size (p : Part) : Nat := (nodesOf 0 p).length
theorem size_lt {p q : Part} (h : q ∈ p.parts) : q.size < p.size := by
  have e : p.size = (nodesOf 0 p).length := rfl
  rw [e, nodesOf_eq]
  have : (nodesOf 1 q).length ≤ (nodesL 1 p.parts).length := by
    obtain ⟨a, b, e2⟩ := List.append_of_mem h
    rw [e2, nodesL_append]
    simp [nodesL]; omega
  rw [Part.size, nodesOf_len 0 1]
  simp; omega

theorem nodesL_take (lev : Nat) (ps : List Part) (k : Nat) (h : k < ps.length) : nodesL lev (ps.take (k + 1)) = nodesL lev (ps.take k) ++ nodesOf lev ps[k] := by
  rw [List.take_succ_eq_append_getElem h, nodesL_append]; simp [nodesL]
theorem nodesL_len (a b : Nat) (ps : List Part) : (nodesL a ps).length = (nodesL b ps).length := by
  induction ps with
  | nil => rfl
  | cons p ps ih => 
    have e : ∀ c, nodesL c (p :: ps) = nodesOf c p ++ nodesL c ps := fun c => by simp [nodesL]
    rw [e, e, List.length_append, List.length_append, ih, nodesOf_len a b p]
theorem nodesL_take_le (lev : Nat) (ps : List Part) (k : Nat) : (nodesL lev (ps.take k)).length ≤ (nodesL lev ps).length := by
  have e : nodesL lev ps = nodesL lev (ps.take k) ++ nodesL lev (ps.drop k) := by rw [← nodesL_append, List.take_append_drop]
  rw [e, List.length_append]; omega
theorem size_eq (p : Part) (lev : Nat) : p.size = 1 + (nodesL lev p.parts).length := by
  rw [Part.size, nodesOf_eq, List.length_cons, nodesL_len 1 lev]; omega
theorem size_room (p : Part) (lev k : Nat) (h : k < p.parts.length) : 1 + (nodesL lev (p.parts.take k)).length + (p.parts[k]).size ≤ p.size := by
  rw [size_eq p lev]
  have h1 := nodesL_take_le lev p.parts (k + 1)
  rw [nodesL_take lev p.parts k h, List.length_append, nodesOf_len lev 0] at h1
  unfold Part.size
  omega

/-- A part whose lists are short (each formed part is one). -/
def Part.small : Part → Prop
  | .proc (.mk _ _ args defs kids) => args.length ≤ 100 ∧ defs.length ≤ 100 ∧ kids.length ≤ 100
  | .exp (.mk _ _ _ kids) => kids.length ≤ 100
  | .def_ (.mk _ _ joins defs kids) => joins.length ≤ 100 ∧ defs.length ≤ 100 ∧ kids.length ≤ 100
theorem small_parts {p : Part} (h : p.small) : p.parts.length ≤ 300 := by
  cases p with
  | proc t => obtain ⟨o, t, a, d, k⟩ := t; simp [Part.parts]; have := h.1; have := h.2.1; have := h.2.2; omega
  | exp t => obtain ⟨o, n, t, k⟩ := t; simp [Part.parts]; have : k.length ≤ 100 := h; omega
  | def_ t => obtain ⟨f, t, j, d, k⟩ := t; simp [Part.parts]; have := h.2.1; have := h.2.2; omega
/-- All nodes of it are. -/
def Part.allSmall (p : Part) : Prop := ∀ q ∈ (nodesOf 0 p).map (·.1), q.small

theorem Part.allSmall.part {p q : Part} (h : p.allSmall) (hq : q ∈ p.parts) : q.allSmall := by
  intro x hx
  rw [nodesOf_fst 0 1] at hx
  refine h x ?_
  rw [nodesOf_eq]
  obtain ⟨y, hy, rfl⟩ := List.mem_map.1 hx
  exact List.mem_map.2 ⟨y, List.mem_cons_of_mem _ (mem_nodesL hq hy), rfl⟩

/-- A new row of interface values: nil or cells from a head on. -/
def RowAt (A B : Nat) (w : World) (v : Value) (vs : List Value) : Prop :=
  ∃ a cap, v = .slice a vs.length cap ∧ (vs = [] ∨ ∃ b, a = some ⟨b, 0, none⟩ ∧ A ≤ b ∧ b < B ∧ CellsAt w b 0 vs)

theorem row_of_owns {w : World} {B : Nat} {v : Value} {vs : List Value} (h : w.ownsRow B 154 1 v vs.length vs) : RowAt B w.heap.size w v vs := by
  obtain ⟨_, ⟨rfl, h2⟩ | ⟨g, cap, cur, rfl, hBg, hg, hn, _, hsz, htk⟩⟩ := h
  · exact ⟨none, 0, by rw [h2], .inl (List.eq_nil_of_length_eq_zero h2)⟩
  · refine ⟨_, cap, rfl,   .inr ⟨g, rfl, hBg, (Array.getElem?_eq_some_iff.1 hg).1, fun j hj => ?_⟩⟩
    simp only [Nat.mul_one] at htk hsz
    have e1 : vs[j] = cur[j]'(by omega) := by
      have : vs[j]? = (cur.toList.take vs.length)[j]? := by rw [htk]
      rw [List.getElem?_take_of_lt hj] at this
      simpa [hj, show j < cur.size by omega] using this
    simp [World.cell?, hg, e1, show j < cur.size by omega]

/-- parts of any part whose lists are short: a new row of its parts. The part is told in an elder world u whose cells are kept. -/
theorem parts_any (B : Nat) (u : World) (p : Part) (v : Value) (hs : p.small) (h : PartAt B u v p) :
    ∃ (g : Nat) (cs : List Value) (ty : TypeId), v = .iface ty (.agg cs.toArray) ∧ ((g = 216 ∧ ty = 83) ∨ (g = 219 ∧ ty = 88) ∨ (g = 230 ∧ ty = 191)) ∧
      ∀ w : World, KeptC B u w → B ≤ w.heap.size → Calls Tryz.prog g #[.agg cs.toArray] w fun e w' => ∃ r vs, e = .returned r ∧ w'.ownsRow (w.heap.size + 1) 154 1 r vs.length vs ∧ PartsAt B u vs p.parts ∧ Below w.heap.size w w' := by
  cases p with
  | proc t =>
    obtain ⟨o, t, a, d, k⟩ := t
    obtain ⟨cs, rfl, h1, va, vd, vk, rfl, ⟨aa, ca, rfl, _, ha⟩, ⟨ad, cd, rfl, _, hd⟩, ⟨ak, ck, rfl, _, hk⟩⟩ := h
    exact ⟨216, _, 83, rfl, .inl ⟨rfl, rfl⟩, fun w hu hBs => procParts o t aa ca a ad cd d ak ck k B u w hu hBs hs.1 ha hs.2.1 hd hs.2.2 hk⟩
  | exp t =>
    obtain ⟨o, n, t, k⟩ := t
    obtain ⟨cs, rfl, h1, vk, rfl, ⟨ak, ck, rfl, _, hk⟩⟩ := h
    exact ⟨219, _, 88, rfl, .inr (.inl ⟨rfl, rfl⟩), fun w hu hBs => expParts o n t ak ck k B u w hu hBs hs hk⟩
  | def_ t =>
    obtain ⟨f, t, j, d, k⟩ := t
    obtain ⟨cs, rfl, h1, vj, vd, vk, rfl, ⟨aj, cj, rfl, _, hj⟩, ⟨ad, cd, rfl, _, hd⟩, ⟨ak, ck, rfl, _, hk⟩⟩ := h
    exact ⟨230, _, 191, rfl, .inr (.inr ⟨rfl, rfl⟩), fun w hu hBs => defParts f t aj cj j ad cd d ak ck k B u w hu hBs hs.2.1 hd hs.2.2 hk⟩

end Go.Proofs.YtjmlaeofjjhfmaaGreat
/- The walk through the nodes of a part: nodes and its two closures. -/
namespace Go.Proofs.YtjmlaeofjjhfmaaGreat
open Go.RowKit Go.Shelf
attribute [local go_sem] Oper.semAt_some

/-- What a round keeps: all cells but those of the caller's own boxes, n0 to n1. -/
def KpC (n0 n1 : Nat) (W W' : World) : Prop := W.heap.size ≤ W'.heap.size ∧ ∀ b o v, (b < n0 ∨ n1 ≤ b) → W.cell? ⟨b, o, none⟩ = some v → W'.cell? ⟨b, o, none⟩ = some v
theorem KpC.refl (n0 n1 : Nat) (W : World) : KpC n0 n1 W W := ⟨Nat.le_refl _, fun _ _ _ _ h => h⟩
theorem KpC.trans {n0 n1 : Nat} {a b c : World} (h : KpC n0 n1 a b) (k : KpC n0 n1 b c) : KpC n0 n1 a c := ⟨Nat.le_trans h.1 k.1, fun x o v hx hv => k.2 x o v hx (h.2 x o v hx hv)⟩
theorem KpC.keptC {n0 n1 B : Nat} {a b : World} (h : KpC n0 n1 a b) (hB : B ≤ n0) : KeptC B a b := fun x o v hx hv => h.2 x o v (.inl (by omega)) hv
theorem lt_of_cell {W : World} {b o : Nat} {v : Value} (h : W.cell? ⟨b, o, none⟩ = some v) : b < W.heap.size := by
  unfold World.cell? at h
  cases hb : W.heap[b]? with
  | none => simp [hb] at h
  | some x => exact (Array.getElem?_eq_some_iff.1 hb).1
theorem KpC.of_below {n0 n1 : Nat} {a b : World} (h : Below a.heap.size a b) : KpC n0 n1 a b := ⟨h.size, fun x o v _ hv => (h.cell (p := ⟨x, o, none⟩) (lt_of_cell hv)).trans hv⟩
theorem grown_of_below {a b : World} (h : Below a.heap.size a b) : a.grownBy b none := ⟨h.os, h.tape, h.output, h.size, fun k hk _ => h.block k hk⟩

abbrev Nd (B : Nat) (u : World) (G : Part × Nat → Prop) := { x : Value × Part × Nat // PartAt B u x.1 x.2.1 ∧ G x.2 }
def encN {B : Nat} {u : World} {G : Part × Nat → Prop} (x : Nd B u G) : Array Value := #[x.1.1, .int .i64 x.1.2.2]

set_option maxRecDepth 100000 in
set_option maxHeartbeats 2000000 in
theorem goes_through (l n0 n1 N bt bw B : Nat) (u : World) (G : Part × Nat → Prop) (J Jx : List (Nd B u G) → World → Prop)
    (hB0 : B ≤ n0) (h01 : n0 ≤ n1) (hbt : n1 ≤ bt) (hbw : n1 ≤ bw)
    (hJ : ∀ pre A W, J pre A → A.grownBy W none → J pre W)
    (hY : ∀ m pre (x : Nd B u G) W, J pre W → pre.length < N → YieldAt Fence.wide m Tryz.prog l (encN x) W fun e W' =>
      (e = .returned (.bool true) ∧ J (pre ++ [x]) W' ∧ KpC n0 n1 W W') ∨ (e = .returned (.bool false) ∧ Jx (pre ++ [x]) W')) :
    ∀ (s : Nat) (p : Part), p.size ≤ s → p.allSmall → ∀ (n lev : Nat) (v : Value) (pre : List (Nd B u G)) (W : World), (∀ q ∈ nodesOf lev p, G q) → lev + s ≤ 1000 →
      PartAt B u v p → KeptC B u W → n1 ≤ W.heap.size → W.cell? ⟨bt, 0, none⟩ = some (.func (.yield l) #[] #[]) →
      W.cell? ⟨bw, 0, none⟩ = some (.func (.func 158) #[] #[.pointer (some ⟨bt, 0, none⟩), .pointer (some ⟨bw, 0, none⟩)]) → J pre W → pre.length + p.size ≤ N →
      CallsIn Fence.wide n Tryz.prog 158 #[v, .int .i64 lev, .pointer (some ⟨bt, 0, none⟩), .pointer (some ⟨bw, 0, none⟩)] W fun e W' =>
        (e = .returned (.bool true) ∧ ∃ xs : List (Nd B u G), xs.map (fun x => x.1.2) = nodesOf lev p ∧ J (pre ++ xs) W' ∧ KpC n0 n1 W W') ∨ (e = .returned (.bool false) ∧ ∃ q, Jx q W') := by
  intro s
  induction s with
  | zero => intro p hp; exact absurd (by rw [Part.size, nodesOf_eq]; simp) (Nat.not_lt.2 hp)
  | succ s ih =>
    intro p hps hsm n lev v pre W hG hlev hv hu hn1 ct cw hJp hN
    have hps1 : p.small := hsm p (by rw [nodesOf_eq]; simp)
    have hGp : G (p, lev) := hG _ (by rw [nodesOf_eq]; simp)
    have hsz1 : 1 ≤ p.size := by rw [Part.size, nodesOf_eq]; simp
    obtain ⟨fn, tmps, assign, body, hy, hR⟩ := hY (n - 1) pre ⟨(v, p, lev), hv, hGp⟩ W hJp (by omega)
    dsimp only [encN] at hy
    obtain ⟨g, cs, ty, rfl, hgt, hparts⟩ := parts_any B u p v hps1 hv
    have hdd : ∀ k : Nat, (Fence.wide.depth.isSome = true → 1 ≤ k) := fun k h => by cases h
    refine callsIn_of_wp Tryz.func158 rfl trivial ?_ rfl
    simp only [Tryz.ntmps158, List.size_toArray, List.length_cons, List.length_nil, Nat.reduceAdd, Nat.reduceSub, Array.replicate_succ, Array.replicate_zero, List.push_toArray, List.append_toArray, List.nil_append, List.cons_append]
    have hmm : ∀ W, (method 347 ty (.agg cs.toArray) "cabotage/term.parts").run Tryz.prog W = .ok (g, .agg cs.toArray) W := by
      rcases hgt with ⟨rfl, rfl⟩ | ⟨rfl, rfl⟩ | ⟨rfl, rfl⟩ <;> exact fun W => by kernel_rfl
    have hcf : ∀ args w, (callFunc g args).run Tryz.prog w = .ok (.enter g args) w := by
      rcases hgt with ⟨rfl, rfl⟩ | ⟨rfl, rfl⟩ | ⟨rfl, rfl⟩
      · exact enters_of Tryz.func216 (by kernel_rfl) rfl
      · exact enters_of Tryz.func219 (by kernel_rfl) rfl
      · exact enters_of Tryz.func230 (by kernel_rfl) rfl
    gi_wp2_with (first
      | ((try refine ⟨hdd _, ?_⟩); refine hR.mono ?_; clear hR; rintro e W1 (⟨rfl, hJ1, hk1⟩ | ⟨rfl, hx1⟩))
      | (refine ⟨trivial, hdd _, ?_⟩; refine (callsIn_wide.2 (hparts W1 (hu.trans (hk1.keptC hB0)) (by have := hk1.1; omega))).mono ?_; clear hparts; rintro e W2 ⟨r, vs, rfl, hrow, hpsv, hb2⟩; obtain ⟨ra, rcap, rfl, hra⟩ := row_of_owns hrow; have hlen := Lib.hid hpsv.1))
    · obtain ⟨x0, hx0⟩ : ∃ x : Nd B u G, x = ⟨(_, p, lev), hv, hGp⟩ := ⟨_, rfl⟩
      have hJ1' : J (pre ++ [x0]) W1 := by rw [hx0]; exact hJ1
      have hx0' : x0.1.2 = (p, lev) := by rw [hx0]
      clear hJ1 hx0
      have hJ2 := hJ _ _ _ hJ1' (grown_of_below hb2)
      have hk2 : KpC n0 n1 W W2 := hk1.trans (KpC.of_below hb2)
      have hsz1 := hk2.1
      have HX := Lib.hid hx0'
      have hvl : vs.length ≤ 300 := by have := small_parts hps1; have := hlen.out; omega
      clear hx0' hJ1' hsz1
      gi_loopw [17] (fun i wr => ∃ (k : Nat) (xs : List (Nd B u G)), k ≤ vs.length ∧ i = .int .i64 k ∧ Hid (xs.map (fun x => x.1.2) = nodesL (lev + 1) (p.parts.take k)) ∧ J (pre ++ [x0] ++ xs) wr ∧ KpC n0 n1 W2 wr) (fun i _ => vs.length - (intOf i).toNat)
      case atStart => exact ⟨0, [], by omega, rfl, Lib.hid (by simp [nodesL]), by simpa using hJ2, KpC.refl _ _ _⟩
      case round =>
        obtain ⟨k, xs, hk', rfl, hxs, hJr, hkr⟩ := hrel
        have hkW : KpC n0 n1 W wr := hk2.trans hkr
        have ctr := hkW.2 _ _ _ (.inr hbt) ct
        have cwr := hkW.2 _ _ _ (.inr hbw) cw
        by_cases hlt : k < vs.length
        · have hlt' : k < p.parts.length := by have := hlen.out; omega
          rcases hra with rfl | ⟨b, rfl, hbA, hbB, hcl⟩
          · simp at hlt
          have hcell := hkr.2 _ _ _ (.inr (by have := hk1.1; omega)) (hcl k hlt)
          have hq := hpsv.2.2 k hlt hlt'
          have hqs := size_lt (List.getElem_mem hlt')
          have hroom := size_room p (lev + 1) k hlt'
          have hxl : xs.length = (nodesL (lev + 1) (p.parts.take k)).length := by rw [← hxs.out, List.length_map]
          have hnx : pre.length + 1 + xs.length + (p.parts[k]).size ≤ N := by omega
          have ihk := ih (p.parts[k]) (by omega) (hsm.part (List.getElem_mem hlt')) (n - 1) (lev + 1) vs[k] (pre ++ [x0] ++ xs) wr
            (fun q hq => hG q (by rw [nodesOf_eq]; exact List.mem_cons_of_mem _ (mem_nodesL (List.getElem_mem hlt') hq))) (by omega) hq (hu.trans (hkW.keptC hB0)) (by have := hkW.1; omega) ctr cwr hJr (by simp; omega)
          simp only [Nat.zero_add] at hcell
          rw [show (((lev + 1 : Nat)) : Int) = (lev : Int) + 1 from by omega] at ihk
          have htk := Lib.hid (nodesL_take (lev + 1) p.parts k hlt')
          clear hroom hxl hnx hqs
          gi_wp2_with (first
            | (refine ⟨trivial, hdd _, ?_⟩; refine ihk.mono ?_; clear ihk; rintro e W3 (⟨rfl, ys, hys, hJ3, hk3⟩ | ⟨rfl, q, hx3⟩); have HYS := Lib.hid hys; clear hys))
          · go_roundw
            case rel => exact ⟨k + 1, xs ++ ys, by omega, by go_num, Lib.hid (by rw [htk.out, List.map_append, hxs.out, HYS.out]), by simpa [List.append_assoc] using hJ3, hkr.trans hk3⟩
            case measure => simp [intOf]; omega
          · go_ret
            exact .inr ⟨rfl, _, hx3⟩
        · have hk2' : k = p.parts.length := by have := hlen.out; omega
          have hxs' : xs.map (fun x => x.1.2) = nodesL (lev + 1) p.parts := by rw [hxs.out, hk2', List.take_length]
          have HXS := Lib.hid hxs'
          clear hxs' hk2'
          gi_wp2
          go_ret
          exact .inl ⟨rfl, x0 :: xs, by rw [List.map_cons, HX.out, HXS.out, nodesOf_eq], by simpa [List.append_assoc] using hJr, hk2.trans hkr⟩
    · go_ret
      exact .inr ⟨rfl, _, hx1⟩

end Go.Proofs.YtjmlaeofjjhfmaaGreat
/- nodes: the iterator's contract; measure. -/
namespace Go.Proofs.YtjmlaeofjjhfmaaGreat
open Go.RowKit Go.Shelf
attribute [local go_sem] Oper.semAt_some

set_option maxRecDepth 100000 in
set_option maxHeartbeats 2000000 in
theorem nodes1_in (n l n0 n1 Bp B : Nat) (u : World) (p : Part) (v : Value) (G : Part × Nat → Prop) (J Jx : List (Nd B u G) → World → Prop)
    (hB0 : B ≤ n0) (h01 : n0 ≤ n1) (hsm : p.allSmall) (hps : p.size ≤ 900) (hG : ∀ q ∈ nodesOf 1 p, G q) (hv : PartAt B u v p)
    (hJ : ∀ pre A W, J pre A → A.grownBy W none → J pre W)
    (hY : ∀ m pre (x : Nd B u G) W, J pre W → pre.length < p.size → YieldAt Fence.wide m Tryz.prog l (encN x) W fun e W' =>
      (e = .returned (.bool true) ∧ J (pre ++ [x]) W' ∧ KpC n0 n1 W W') ∨ (e = .returned (.bool false) ∧ Jx (pre ++ [x]) W'))
    (W : World) (hu : KeptC B u W) (hn1 : n1 ≤ W.heap.size) (hBp : W.cell? ⟨Bp, 0, none⟩ = some v) (h0 : J [] W) :
    CallsIn Fence.wide n Tryz.prog 157 #[.func (.yield l) #[] #[], .pointer (some ⟨Bp, 0, none⟩)] W fun e W' => (∃ v, e = .returned v) ∧
      ((∃ xs : List (Nd B u G), xs.map (fun x => x.1.2) = nodesOf 1 p ∧ J xs W') ∨ (∃ pre, True ∧ Jx pre W')) := by
  have hdd : ∀ k : Nat, (Fence.wide.depth.isSome = true → 1 ≤ k) := fun k h => by cases h
  have hmf : ∀ (fn : Fn) (first cap : Array Value) (w : World), (Instr.makeFunc fn first cap).run Tryz.prog w = .ok (.func fn first cap) w := fun _ _ _ _ => rfl
  have hBpl := lt_of_cell hBp
  obtain ⟨W3, hW3⟩ : ∃ W3, W3 = ((W.alloc (.cells #[.func (.yield l) #[] #[]] 188)).alloc (.cells #[.func (.func 158) #[] #[.pointer (some ⟨W.heap.size, 0, none⟩), .pointer (some ⟨W.heap.size + 1, 0, none⟩)]] 188)) := ⟨_, rfl⟩
  have hb3 : Below W.heap.size W W3 := by rw [hW3]; exact ((Below.refl _ W).alloc (Nat.le_refl _) _).alloc (by simp) _
  have ct : W3.cell? ⟨W.heap.size, 0, none⟩ = some (.func (.yield l) #[] #[]) := by
    rw [hW3, World.cell?_alloc_past _ _ _ (by simp), World.cell?_alloc_at _ _ _ _ rfl]; rfl
  have cw : W3.cell? ⟨W.heap.size + 1, 0, none⟩ = some (.func (.func 158) #[] #[.pointer (some ⟨W.heap.size, 0, none⟩), .pointer (some ⟨W.heap.size + 1, 0, none⟩)]) := by
    rw [hW3, World.cell?_alloc_at _ _ _ _ (by simp)]; rfl
  have hw := goes_through l n0 n1 p.size W.heap.size (W.heap.size + 1) B u G J Jx hB0 h01 hn1 (by omega) hJ hY p.size p (Nat.le_refl _) hsm (n - 1) 1 v [] W3 hG (by omega) hv
    (hu.trans ((Below.keptC hb3).mono (by omega))) (by have := hb3.size; omega) ct cw (hJ _ _ _ h0 (grown_of_below hb3)) (by simp)
  have HW := Lib.hid hW3
  refine callsIn_of_wp Tryz.func157 rfl trivial ?_ rfl
  simp only [Tryz.ntmps157, List.size_toArray, List.length_cons, List.length_nil, Nat.reduceAdd, Nat.reduceSub, Array.replicate_succ, Array.replicate_zero, List.push_toArray, List.append_toArray, List.nil_append, List.cons_append]
  clear hW3
  gi_wp2_with (refine ⟨trivial, hdd _, ?_⟩; rw [← HW.out]; refine hw.mono ?_; clear hw; rintro e W1 (⟨rfl, xs, hxs, hJ1, _⟩ | ⟨rfl, q, hx⟩); have HXS := Lib.hid hxs; clear hxs)
  · go_end0
    exact ⟨⟨_, rfl⟩, .inl ⟨xs, HXS.out, by simpa using hJ1⟩⟩
  · go_end0
    exact ⟨⟨_, rfl⟩, .inr ⟨q, trivial, hx⟩⟩

/-- The wide fence has room for any depth. -/
theorem yield_room {m : Nat} (m' : Nat) {P : Program} {l : Nat} {args : Array Value} {W : World} {R : Ending → World → Prop} (h : YieldAt Fence.wide m P l args W R) : YieldAt Fence.wide m' P l args W R := by
  obtain ⟨fn, tmps, assign, body, hy, hR⟩ := h
  exact ⟨fn, tmps, assign, body, hy, hR.1, fun c cs _ => hR.2 c cs (fun d hd => by cases hd)⟩

/-- nodes: the iterator, at Kp := KpC. -/
theorem nodes_stops (n n0 n1 Bp B : Nat) (u : World) (p : Part) (v : Value) (G : Part × Nat → Prop) (hB0 : B ≤ n0) (h01 : n0 ≤ n1) (hsm : p.allSmall) (hps : p.size ≤ 900)
    (hG : ∀ q ∈ nodesOf 1 p, G q) (hv : PartAt B u v p) (w : World) (hu : KeptC B u w) (hn1 : n1 ≤ w.heap.size) (hBp : w.cell? ⟨Bp, 0, none⟩ = some v) :
    SeqStopsK Fence.wide n Tryz.prog 157 #[.pointer (some ⟨Bp, 0, none⟩)] (encN (B := B) (u := u) (G := G)) (KpC n0 n1) (fun xs => xs.map (fun x => x.1.2) = nodesOf 1 p) (fun _ => True) p.size w :=
  fun l J Jx W hW hJ _ hY h0 =>
    nodes1_in n l n0 n1 Bp B u p v G J Jx hB0 h01 hsm hps hG hv (fun pre A W' h hg => hJ pre A W' none h hg (by simp)) (fun m pre x W1 a b => yield_room m (hY pre x W1 a b)) W
      (hu.trans (fun b o v hb hv => (hW.cell (p := ⟨b, o, none⟩) (lt_of_cell hv)).trans hv)) (by have := hW.size; omega) ((hW.cell (p := ⟨Bp, 0, none⟩) (lt_of_cell hBp)).trans hBp) h0

theorem nodes_in (n : Nat) (ty : TypeId) (x : Value) (w : World) :
    CallsIn Fence.wide n Tryz.prog 116 #[.iface ty x] w fun e w' => e = .returned (.func (.func 157) #[] #[.pointer (some ⟨w.heap.size, 0, none⟩)]) ∧ w' = w.alloc (.cells #[.iface ty x] 154) := by
  have hmf : ∀ (fn : Fn) (first cap : Array Value) (w : World), (Instr.makeFunc fn first cap).run Tryz.prog w = .ok (.func fn first cap) w := fun _ _ _ _ => rfl
  refine callsIn_of_wp Tryz.func116 rfl trivial ?_ rfl
  simp only [Tryz.ntmps116, List.size_toArray, List.length_cons, List.length_nil, Nat.reduceAdd, Nat.reduceSub, Array.replicate_succ, Array.replicate_zero, List.push_toArray, List.append_toArray, List.nil_append, List.cons_append]
  gi_wp2
  go_ret
  exact ⟨rfl, rfl⟩

theorem KpC.putObj {n0 n1 : Nat} (W : World) (l : Nat) (o o' : Obj) (hl : W.heap[l]? = some o) (hc : o.isCells = false) : KpC n0 n1 W (W.putObj l o') := by
  refine ⟨by simp [World.putObj], fun b x v _ hv => ?_⟩
  exact cell_kept hv (grownBy_putObj' W l o') (fun r e => by cases e; exact ⟨o, hl, hc⟩)

end Go.Proofs.YtjmlaeofjjhfmaaGreat
