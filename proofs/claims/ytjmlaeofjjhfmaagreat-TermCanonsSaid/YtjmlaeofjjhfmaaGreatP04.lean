/- measure. -/
import Derived.Test.YtjmlaeofjjhfmaaGreatP03
set_option linter.unusedVariables false
set_option linter.unusedSimpArgs false
namespace Go.Proofs.YtjmlaeofjjhfmaaGreat
open Go.RowKit Go.Shelf
attribute [local go_sem] Oper.semAt_some

theorem KpC.setCell {n0 n1 : Nat} (W : World) (a : Addr) (v : Value) (h0 : n0 ≤ a.block) (h1 : a.block < n1) : KpC n0 n1 W (W.setCell a v) := by
  refine ⟨by simp [World.setCell], fun b o x hb hx => ?_⟩
  rw [World.cell?_setCell_other _ _ _ _ (by intro e; have : a.block = b := by simpa using congrArg Addr.block e
                                            omega)]
  exact hx

theorem part_iface {B : Nat} {u : World} {v : Value} {p : Part} (h : PartAt B u v p) : ∃ ty x, v = .iface ty x := by
  cases p with
  | proc t => obtain ⟨cs, h1, _⟩ := h; exact ⟨_, _, h1⟩
  | exp t => obtain ⟨cs, h1, _⟩ := h; exact ⟨_, _, h1⟩
  | def_ t => obtain ⟨cs, h1, _⟩ := h; exact ⟨_, _, h1⟩

def maxL (l : List Nat) : Nat := l.foldl max 0
theorem maxL_snoc (l : List Nat) (x : Nat) : maxL (l ++ [x]) = max (maxL l) x := by simp [maxL]
def Part.depth (p : Part) : Nat := maxL ((nodesOf 1 p).map (·.2))

set_option maxRecDepth 100000 in
set_option maxHeartbeats 2000000 in
theorem measure_in (n B : Nat) (hn : 3 ≤ n) (u : World) (p : Part) (v : Value) (w : World) (hu : KeptC B u w) (hB : B ≤ w.heap.size) (hsm : p.allSmall) (hps : p.size ≤ 900) (hv : PartAt B u v p) :
    CallsIn Fence.wide n Tryz.prog 66 #[v] w fun e w' => e = .returned (.tuple #[.int .i64 p.size, .int .i64 p.depth]) ∧ Below w.heap.size w w' := by
  obtain ⟨ty, x, rfl⟩ := part_iface hv
  have hdd : ∀ k : Nat, (Fence.wide.depth.isSome = true → 1 ≤ k) := fun k h => by cases h
  have h1 : 1 ≤ n := by omega
  have hF : ∀ k, Fence.wide.fn k := fun _ => trivial
  refine callsIn_of_wp_marks Tryz.func66 rfl trivial ?_ rfl
  simp only [Tryz.ntmps66, List.size_toArray, List.length_cons, List.length_nil, Nat.reduceAdd, Nat.reduceSub, Array.replicate_succ, Array.replicate_zero, List.push_toArray, List.append_toArray, List.nil_append, List.cons_append]
  gi_wp2_with (gi_at_call 116; refine (nodes_in (n - 1) _ _ _).mono ?_; rintro e w' ⟨rfl, rfl⟩)
  obtain ⟨W0, hW0⟩ : ∃ W0, W0 = (((w.alloc (.cells #[.int .i64 0] 3)).alloc (.cells #[.int .i64 0] 3)).alloc (.cells #[.iface ty x] 154)) := ⟨_, rfl⟩
  have hsz : W0.heap.size = w.heap.size + 3 := by rw [hW0]; simp
  have hb0 : Below w.heap.size w W0 := by rw [hW0]; exact (((Below.refl _ w).alloc (Nat.le_refl _) _).alloc (by simp) _).alloc (by simp; omega) _
  have c0 : W0.cell? ⟨w.heap.size, 0, none⟩ = some (.int .i64 0) ∧ W0.frozen? ⟨w.heap.size, 0, none⟩ = false := by
    rw [hW0]; constructor
    · rw [World.cell?_alloc_past _ _ _ (by simp; omega), World.cell?_alloc_past _ _ _ (by simp), World.cell?_alloc_at _ _ _ _ rfl]; rfl
    · rw [World.frozen?_alloc_past _ _ _ (by simp; omega), World.frozen?_alloc_past _ _ _ (by simp), World.frozen?_alloc_at _ _ _ _ rfl]
  have c1 : W0.cell? ⟨w.heap.size + 1, 0, none⟩ = some (.int .i64 0) ∧ W0.frozen? ⟨w.heap.size + 1, 0, none⟩ = false := by
    rw [hW0]; constructor
    · rw [World.cell?_alloc_past _ _ _ (by simp), World.cell?_alloc_at _ _ _ _ (by simp)]; rfl
    · rw [World.frozen?_alloc_past _ _ _ (by simp), World.frozen?_alloc_at _ _ _ _ (by simp)]
  have c2 : W0.cell? ⟨w.heap.size + 2, 0, none⟩ = some (.iface ty x) := by
    rw [hW0, World.cell?_alloc_at _ _ _ _ (by simp)]; rfl
  rw [← hW0]
  have HW := Lib.hid hW0; clear hW0
  have hst := nodes_stops (n - 1) w.heap.size (w.heap.size + 2) (w.heap.size + 2) B u p _ (fun _ => True) hB (by omega) hsm hps (fun _ _ => trivial) hv W0 (hu.trans ((Below.keptC hb0).mono hB)) (by omega) c2
  refine wpIn_rangeFunc_ownF rfl h1 (gf := 157) (lb := #[.pointer (some ⟨w.heap.size + 2, 0, none⟩)]) rfl trivial (enters_of Tryz.func157 (by kernel_rfl) rfl)
    hst KpC.trans (fun W l o o' _ h1 h2 _ => KpC.putObj W l o o' h1 h2) (Below.refl _ _) (fun _ => rfl)
    (fun pre W => (W.cell? ⟨w.heap.size, 0, none⟩ = some (.int .i64 pre.length) ∧ W.frozen? ⟨w.heap.size, 0, none⟩ = false ∧ W.cell? ⟨w.heap.size + 1, 0, none⟩ = some (.int .i64 (maxL (pre.map (fun x => x.1.2.2)))) ∧ W.frozen? ⟨w.heap.size + 1, 0, none⟩ = false) ∧ Below w.heap.size w W)
    (fun _ _ _ => False)
    (OwnFrom.and (Own.from (fun s A B row hs hg hr => ⟨cell_kept hs.1 hg hr, (frozen_kept hs.1 hg hr).trans hs.2.1, cell_kept hs.2.2.1 hg hr, (frozen_kept hs.2.2.1 hg hr).trans hs.2.2.2⟩) _) (ownFrom_below (Nat.le_refl _) (by omega)))
    (fun _ _ _ _ _ hs _ _ => hs)
    ⟨⟨c0.1, c0.2, c1.1, c1.2⟩, hb0⟩
    (fun x' => { tmps := #[.iface ty x, undef, .pointer (some ⟨w.heap.size, 0, none⟩), .pointer (some ⟨w.heap.size + 1, 0, none⟩), undef, .int .i64 x'.1.2.2, .iface ty x, .func (.func 157) #[] #[.pointer (some ⟨w.heap.size + 2, 0, none⟩)], x'.1.1, .int .i64 x'.1.2.2, undef, undef, undef, undef, undef, undef, undef], defers := [] }) ?assign ?body ?done ?stop
  case assign =>
    intro l x W K hK
    dsimp only [encN]
    gi_wp2
    exact hK
  case body =>
    rintro l pre x' W ⟨⟨hc, hf, hc1, hf1⟩, hB'⟩ hN
    have key : ∀ m2 : Int, m2 = (max (maxL (pre.map (fun x => x.1.2.2))) x'.1.2.2 : Nat) → KeepsOthers W ((W.setCell ⟨w.heap.size, 0, none⟩ (.int .i64 (pre.length + 1))).setCell ⟨w.heap.size + 1, 0, none⟩ (.int .i64 m2)) ∧
        KpC w.heap.size (w.heap.size + 2) W ((W.setCell ⟨w.heap.size, 0, none⟩ (.int .i64 (pre.length + 1))).setCell ⟨w.heap.size + 1, 0, none⟩ (.int .i64 m2)) ∧
        ((((W.setCell ⟨w.heap.size, 0, none⟩ (.int .i64 (pre.length + 1))).setCell ⟨w.heap.size + 1, 0, none⟩ (.int .i64 m2)).cell? ⟨w.heap.size, 0, none⟩ = some (.int .i64 (pre ++ [x']).length) ∧ ((W.setCell ⟨w.heap.size, 0, none⟩ (.int .i64 (pre.length + 1))).setCell ⟨w.heap.size + 1, 0, none⟩ (.int .i64 m2)).frozen? ⟨w.heap.size, 0, none⟩ = false ∧
          ((W.setCell ⟨w.heap.size, 0, none⟩ (.int .i64 (pre.length + 1))).setCell ⟨w.heap.size + 1, 0, none⟩ (.int .i64 m2)).cell? ⟨w.heap.size + 1, 0, none⟩ = some (.int .i64 (maxL ((pre ++ [x']).map (fun x => x.1.2.2)))) ∧ ((W.setCell ⟨w.heap.size, 0, none⟩ (.int .i64 (pre.length + 1))).setCell ⟨w.heap.size + 1, 0, none⟩ (.int .i64 m2)).frozen? ⟨w.heap.size + 1, 0, none⟩ = false) ∧
          Below w.heap.size w ((W.setCell ⟨w.heap.size, 0, none⟩ (.int .i64 (pre.length + 1))).setCell ⟨w.heap.size + 1, 0, none⟩ (.int .i64 m2))) := by
      intro m2 hm2
      refine ⟨(KeepsOthers.setCell _ _ _).trans (KeepsOthers.setCell _ _ _), (KpC.setCell _ _ _ (Nat.le_refl _) (by simp)).trans (KpC.setCell _ _ _ (by simp) (by simp)), ⟨?_, ?_, ?_, ?_⟩, (hB'.setCell (by simp) _).setCell (by simp) _⟩
      · rw [World.cell?_setCell_other _ _ _ _ (by simp), World.cell?_setCell_same' _ _ _ (by rw [hc]; rfl)]; simp
      · rw [World.frozen?_setCell, World.frozen?_setCell]; exact hf
      · rw [World.cell?_setCell_same' _ _ _ (by rw [World.cell?_setCell_other _ _ _ _ (by simp), hc1]; rfl), hm2, List.map_append, List.map_cons, List.map_nil, maxL_snoc]
      · rw [World.frozen?_setCell, World.frozen?_setCell]; exact hf1
    have HK := Lib.hid key; clear key
    gi_wp2
    all_goals exact HK.out _ (by omega)
  case done =>
    rintro D ys W hD hys ⟨⟨hc, hf, hc1, hf1⟩, hB'⟩ hK
    have e1 : (ys.length : Int) = p.size := by have := congrArg List.length hys; rw [List.length_map, nodesOf_len 1 0] at this; rw [this]; rfl
    have e2 : maxL (ys.map (fun x => x.1.2.2)) = p.depth := by unfold Part.depth; rw [← hys, List.map_map]; rfl
    have E1 := Lib.hid e1; have E2 := Lib.hid e2; have HYS := Lib.hid hys; clear e1 e2 hys
    gi_wp2
    gi_region
    all_goals gi_wp2
    have hKO : KeepsOthers W ((W.setCell ⟨w.heap.size, 0, none⟩ (.int .i64 ys.length)).setCell ⟨w.heap.size + 1, 0, none⟩ (.int .i64 (maxL (ys.map (fun x => x.1.2.2))))) := (KeepsOthers.setCell _ _ _).trans (KeepsOthers.setCell _ _ _)
    have hK2 := hKO.same D _ hK rfl
    have hB2 : Below w.heap.size w ((W.setCell ⟨w.heap.size, 0, none⟩ (.int .i64 ys.length)).setCell ⟨w.heap.size + 1, 0, none⟩ (.int .i64 (maxL (ys.map (fun x => x.1.2.2))))).drew := ((hB'.setCell (by simp) _).setCell (by simp) _).drew
    refine ⟨by simp, .inl ⟨_, _, rfl, run_takeDeferred (hK2.trans rfl), ?_⟩⟩
    obtain ⟨W5, hW5⟩ : ∃ W5, W5 = ((W.setCell ⟨w.heap.size, 0, none⟩ (.int .i64 ys.length)).setCell ⟨w.heap.size + 1, 0, none⟩ (.int .i64 (maxL (ys.map (fun x => x.1.2.2))))).drew := ⟨_, rfl⟩
    have d0 : W5.cell? ⟨w.heap.size, 0, none⟩ = some (.int .i64 p.size) := by
      rw [hW5]; show World.cell? ((W.setCell _ _).setCell _ _) _ = _
      rw [World.cell?_setCell_other _ _ _ _ (by simp), World.cell?_setCell_same' _ _ _ (by rw [hc]; rfl), E1.out]
    have d1 : W5.cell? ⟨w.heap.size + 1, 0, none⟩ = some (.int .i64 p.depth) := by
      rw [hW5]; show World.cell? ((W.setCell _ _).setCell _ _) _ = _
      rw [World.cell?_setCell_same' _ _ _ (by rw [World.cell?_setCell_other _ _ _ _ (by simp), hc1]; rfl), E2.out]
    have hK3 : W5.heap[D]? = some (.deferred (some [])) := by rw [hW5]; exact hK2.trans rfl
    rw [← hW5] at hB2 ⊢
    have d2 := cell_kept d0 (grownBy_putObj' W5 D (.deferred none)) (fun r e => by cases e; exact ⟨_, hK3, rfl⟩)
    have d3 := cell_kept d1 (grownBy_putObj' W5 D (.deferred none)) (fun r e => by cases e; exact ⟨_, hK3, rfl⟩)
    refine ⟨.tuple #[.int .i64 p.size, .int .i64 p.depth], ?_, rfl, ?_⟩
    · simp [results, Tryz.results66, go_sem, d2, d3]
    · exact hB2.trans (belowK_b (w := w) (Nat.le_refl _) _ D _ _ (by omega) hK3 rfl rfl)
  case stop =>
    rintro D c pre W _ _ h _
    exact h.elim

end Go.Proofs.YtjmlaeofjjhfmaaGreat
/- differ; shapedExpression, shapedProcess where they say true. -/
namespace Go.Proofs.YtjmlaeofjjhfmaaGreat
open Go.RowKit Go.Maps

def dcount (acc : List (List UInt8)) : Nat := ((acc.map Lit.string).foldl addKey []).length
theorem SetAt.len {w : World} {b n : Nat} {acc : List (List UInt8)} (h : SetAt w b n acc) (ty : TypeId) :
    (Builtin.len_ #[70] ty #[.map (some b)]).run Tryz.prog w = .ok (.int .i64 (dcount acc)) w := by
  have := World.ownsMap.len h Tryz.underlying70 ty
  rw [size_setOf _ _ (isKey_map acc)] at this
  exact this

def differB (ss : List ByteArray) : Bool := ss.all nameB && decide (dcount (ss.map bytesOf) = ss.length)

theorem allName_snoc (ss : List ByteArray) (k : Nat) (h : k < ss.length) : (ss.take (k + 1)).all nameB = ((ss.take k).all nameB && nameB ss[k]) := by
  rw [List.take_succ_eq_append_getElem h, List.all_append]; simp

set_option maxHeartbeats 1000000 in
theorem differ_any (v : Value) (ss : List ByteArray) (w : World) (h : StrsAt w.heap.size w v ss) :
    Calls Tryz.prog 192 #[v] w fun e w' => e = .returned (.bool (differB ss)) ∧ Below w.heap.size w w' := by
  have h0 := h
  obtain ⟨a, cap, rfl, hl, hz, hcap, h⟩ := h
  go_enter Tryz.func192, Tryz.ntmps192
  go_wp2
  go_loopw [7] (fun i wr => ∃ k : Nat, k ≤ ss.length ∧ i = .int .i64 k ∧ Hid ((ss.take k).all nameB = true) ∧ Below w.heap.size w wr) (fun i _ => ss.length - (intOf i).toNat)
  case atStart => exact ⟨0, by omega, rfl, Lib.hid rfl, Below.refl _ _⟩
  case round =>
    obtain ⟨k, hk, rfl, hn, hB⟩ := hrel
    have hsz := hB.size
    by_cases hlt : k < ss.length
    · rcases h with rfl | ⟨b, off, rfl, hb, hc⟩
      · simp at hlt
      have hcell := (hB.cell (p := ⟨b, off + k, none⟩) hb).trans (hc k hlt)
      have hzk := hz ss[k] (List.getElem_mem hlt)
      have hsn := Lib.hid (allName_snoc ss k hlt)
      by_cases hnm : nameB ss[k] = true
      · go_wp2_with (go_at_call 16; refine (tname_any _ _ hzk).mono ?_; rintro e w1 ⟨rfl, hb1⟩)
        go_roundw
        case rel => exact ⟨k + 1, by omega, by go_num, Lib.hid (by rw [hsn.out, hn.out, hnm]; rfl), hB.trans (hb1.mono hsz)⟩
        case measure => simp [intOf]; omega
      · have hnm' : nameB ss[k] = false := by simpa using hnm
        clear hnm
        have hF : Hid (differB ss = false) := Lib.hid (by
          unfold differB
          have : ss.all nameB = false := by rw [List.all_eq_false]; exact ⟨_, List.getElem_mem hlt, by simp [hnm']⟩
          rw [this]; rfl)
        go_wp2_with (go_at_call 16; refine (tname_any _ _ hzk).mono ?_; rintro e w1 ⟨rfl, hb1⟩)
        go_ret
        exact ⟨by rw [hF.out]; rfl, hB.trans (hb1.mono hsz)⟩
    · obtain rfl : k = ss.length := by omega
      have hst := (h0.below hB).mono hsz
      have hall := hn.out
      rw [List.take_length] at hall
      have HA := Lib.hid hall; clear hall
      go_wp2_with (go_at_call 57; refine (among_any _ ss _ hst).mono ?_; rintro e w1 ⟨rfl, hset, hb1⟩; have hlen := hset.len)
      go_ret
      refine ⟨?_, hB.trans (hb1.mono hsz)⟩
      unfold differB
      rw [HA.out, Bool.true_and]
      refine congrArg (fun x => Ending.returned (.bool x)) ?_
      rw [Bool.eq_iff_iff]; simp; omega

def shapedEB : Exp → Bool
  | .mk op n text kids => (op == 1 && decide (-1000000000 ≤ n) && decide (n ≤ 1000000000) && text.size == 0 && kids.length == 0) ||
      (op == 2 && n == 0 && nameB text && kids.length == 0) || (decide (3 ≤ op) && decide (op ≤ 7) && n == 0 && text.size == 0 && kids.length == 2)

theorem empty_of_size {s : ByteArray} (h : s.size = 0) : s = ByteArray.empty := by
  cases s with | mk d => simp [ByteArray.size] at h; simp [ByteArray.empty, ByteArray.emptyWithCapacity, h]; rfl

set_option maxRecDepth 10000 in
set_option maxHeartbeats 4000000 in
theorem shapedExp_ok (op n : Int) (text : ByteArray) (a : Option Addr) (cap : Nat) (kids : List Exp) (w : World) (hz : text.size ≤ maxLen) (h : shapedEB (.mk op n text kids) = true) :
    Calls Tryz.prog 160 #[.agg #[.int .i64 op, .int .i64 n, .string text, .slice a kids.length cap]] w fun e w' => e = .returned (.bool true) ∧ Below w.heap.size w w' := by
  unfold shapedEB at h
  simp only [Bool.or_eq_true, Bool.and_eq_true, beq_iff_eq, decide_eq_true_eq] at h
  have hb0 : Below w.heap.size w (w.alloc (.cells #[.int .i64 op, .int .i64 n, .string text, .slice a kids.length cap] 88)) := (Below.refl _ w).alloc (Nat.le_refl _) _
  rcases h with (⟨⟨⟨⟨rfl, h1⟩, h2⟩, h3⟩, h4⟩ | ⟨⟨⟨rfl, rfl⟩, h2⟩, h3⟩) | ⟨⟨⟨⟨h0, h1⟩, rfl⟩, h3⟩, h4⟩
  · obtain rfl := empty_of_size h3
    rw [h4] at hb0 ⊢
    clear h3 h4 hz
    go_enter Tryz.func160, Tryz.ntmps160
    go_wp2
    go_ret
    exact ⟨rfl, hb0⟩
  · rw [h3] at hb0 ⊢
    clear h3
    go_enter Tryz.func160, Tryz.ntmps160
    go_wp2_with (go_at_call 16; refine (tname_any _ _ hz).mono ?_; rintro e w1 ⟨rfl, hb1⟩; have hcc := (hb1.cell (p := ⟨w.heap.size, 3, none⟩) (by simp)).trans (World.cell?_alloc_at _ _ _ _ rfl))
    go_ret
    exact ⟨rfl, hb0.trans (hb1.mono (by simp))⟩
  · obtain rfl := empty_of_size h3
    rw [h4] at hb0 ⊢
    clear h3 h4 hz
    obtain rfl | rfl | rfl | rfl | rfl : op = 3 ∨ op = 4 ∨ op = 5 ∨ op = 6 ∨ op = 7 := by omega
    all_goals
      go_enter Tryz.func160, Tryz.ntmps160
      go_wp2
      go_ret
      exact ⟨rfl, hb0⟩

def shapedTB : Term → Bool
  | .mk op text args defs kids =>
    ((op == 1 || op == 7) && text.size == 0 && args.length == 0 && defs.length == 0 && kids.length == 0) ||
    (op == 2 && nameB text && decide (args.length ≤ 3) && defs.length == 0 && kids.length == 0) ||
    (op == 3 && text.size == 0 && args.length == 0 && defs.length == 0 && kids.length == 2) ||
    (op == 4 && text.size == 0 && args.length == 0 && decide (1 ≤ defs.length) && decide (defs.length ≤ 5) && kids.length == 1) ||
    (op == 5 && text.size == 0 && args.length == 1 && defs.length == 0 && kids.length == 2) ||
    ((op == 6 || op == 8) && nameB text && args.length == 0 && defs.length == 0 && kids.length == 1)

set_option maxRecDepth 10000 in
set_option maxHeartbeats 8000000 in
theorem shapedProc_ok (op : Int) (text : ByteArray) (a0 : Option Addr) (p0 : Nat) (args : List Exp) (a1 : Option Addr) (p1 : Nat) (defs : List Clause) (a2 : Option Addr) (p2 : Nat) (kids : List Term) (w : World) (hz : text.size ≤ maxLen) (h : shapedTB (.mk op text args defs kids) = true) :
    Calls Tryz.prog 159 #[.agg #[.int .i64 op, .string text, .slice a0 args.length p0, .slice a1 defs.length p1, .slice a2 kids.length p2]] w fun e w' => e = .returned (.bool true) ∧ Below w.heap.size w w' := by
  unfold shapedTB at h
  simp only [Bool.or_eq_true, Bool.and_eq_true, beq_iff_eq, decide_eq_true_eq] at h
  obtain ⟨la, hla⟩ : ∃ la, la = args.length := ⟨_, rfl⟩
  obtain ⟨ld, hld⟩ : ∃ ld, ld = defs.length := ⟨_, rfl⟩
  obtain ⟨lk, hlk⟩ : ∃ lk, lk = kids.length := ⟨_, rfl⟩
  rw [← hla, ← hld, ← hlk] at h ⊢
  clear hla hld hlk
  rcases h with ((((⟨⟨⟨⟨h0, h1⟩, rfl⟩, rfl⟩, rfl⟩ | ⟨⟨⟨⟨rfl, h1⟩, h2⟩, rfl⟩, rfl⟩) | ⟨⟨⟨⟨rfl, h1⟩, rfl⟩, rfl⟩, rfl⟩) | ⟨⟨⟨⟨⟨rfl, h1⟩, rfl⟩, h2⟩, h3⟩, rfl⟩) | ⟨⟨⟨⟨rfl, h1⟩, rfl⟩, rfl⟩, rfl⟩) | ⟨⟨⟨⟨h0, h1⟩, rfl⟩, rfl⟩, rfl⟩
  · obtain rfl := empty_of_size h1
    clear h1 hz
    have hb0 : Below w.heap.size w (w.alloc (.cells #[.int .i64 op, .string ByteArray.empty, .slice a0 0 p0, .slice a1 0 p1, .slice a2 0 p2] 83)).drew := ((Below.refl _ w).alloc (Nat.le_refl _) _).drew
    rcases h0 with rfl | rfl
    all_goals
      go_enter Tryz.func159, Tryz.ntmps159
      go_wp2
      go_region
      go_wp2
      go_ret
      exact ⟨rfl, hb0⟩
  · have hb0 : Below w.heap.size w (w.alloc (.cells #[.int .i64 2, .string text, .slice a0 la p0, .slice a1 0 p1, .slice a2 0 p2] 83)).drew := ((Below.refl _ w).alloc (Nat.le_refl _) _).drew
    go_enter Tryz.func159, Tryz.ntmps159
    go_wp2
    go_region
    go_wp2_with (go_at_call 16; refine (tname_any _ _ hz).mono ?_; rintro e w1 ⟨rfl, hb1⟩)
    go_ret
    exact ⟨by simp [h2], hb0.trans (hb1.mono (by simp))⟩
  · obtain rfl := empty_of_size h1
    have hb0 : Below w.heap.size w (w.alloc (.cells #[.int .i64 3, .string ByteArray.empty, .slice a0 0 p0, .slice a1 0 p1, .slice a2 2 p2] 83)).drew := ((Below.refl _ w).alloc (Nat.le_refl _) _).drew
    clear h1 hz
    go_enter Tryz.func159, Tryz.ntmps159
    go_wp2
    go_region
    go_wp2
    go_ret
    exact ⟨rfl, hb0⟩
  · obtain rfl := empty_of_size h1
    have hb0 : Below w.heap.size w (w.alloc (.cells #[.int .i64 4, .string ByteArray.empty, .slice a0 0 p0, .slice a1 ld p1, .slice a2 1 p2] 83)).drew := ((Below.refl _ w).alloc (Nat.le_refl _) _).drew
    clear h1 hz
    obtain rfl | rfl | rfl | rfl | rfl : ld = 1 ∨ ld = 2 ∨ ld = 3 ∨ ld = 4 ∨ ld = 5 := by omega
    all_goals
      clear h2 h3
      go_enter Tryz.func159, Tryz.ntmps159
      go_wp2
      go_region
      go_wp2
      go_ret
      exact ⟨rfl, hb0⟩
  · obtain rfl := empty_of_size h1
    have hb0 : Below w.heap.size w (w.alloc (.cells #[.int .i64 5, .string ByteArray.empty, .slice a0 1 p0, .slice a1 0 p1, .slice a2 2 p2] 83)).drew := ((Below.refl _ w).alloc (Nat.le_refl _) _).drew
    clear h1 hz
    go_enter Tryz.func159, Tryz.ntmps159
    go_wp2
    go_region
    go_wp2
    go_ret
    exact ⟨rfl, hb0⟩
  · have hb0 : Below w.heap.size w (w.alloc (.cells #[.int .i64 op, .string text, .slice a0 0 p0, .slice a1 0 p1, .slice a2 1 p2] 83)).drew := ((Below.refl _ w).alloc (Nat.le_refl _) _).drew
    rcases h0 with rfl | rfl
    all_goals
      go_enter Tryz.func159, Tryz.ntmps159
      go_wp2
      go_region
      go_wp2_with (go_at_call 16; refine (tname_any _ _ hz).mono ?_; rintro e w1 ⟨rfl, hb1⟩)
      go_ret
      exact ⟨by simp [h1], hb0.trans (hb1.mono (by simp))⟩

end Go.Proofs.YtjmlaeofjjhfmaaGreat
