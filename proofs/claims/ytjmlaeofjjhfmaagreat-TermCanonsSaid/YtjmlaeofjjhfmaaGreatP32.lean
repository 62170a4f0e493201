/- What the example's copies are. -/
import Derived.Test.YtjmlaeofjjhfmaaGreatP24
import Derived.Test.YtjmlaeofjjhfmaaGreatP25
import Derived.Test.YtjmlaeofjjhfmaaGreatP26
import Derived.Test.YtjmlaeofjjhfmaaGreatP29
import Derived.Test.YtjmlaeofjjhfmaaGreatP31
import Derived.Test.YtjmlaeofjjhfmaaGreatP10
import Derived.Test.YtjmlaeofjjhfmaaGreatP12
import Derived.Test.YtjmlaeofjjhfmaaGreatP13
set_option linter.unusedVariables false
set_option linter.unusedSimpArgs false
namespace Go.Proofs.YtjmlaeofjjhfmaaGreat
open Go.RowKit Go.Shelf Go.Maps

def bC : ByteArray := ⟨#[99]⟩
def bD : ByteArray := ⟨#[100]⟩
def bEe : ByteArray := ⟨#[101]⟩
def putRule : Clause := .mk 1 bE [⟨bC, [bA]⟩, ⟨bY, []⟩] [] [sendT bZ [bA, bX]]
def putSpot : Clause := .mk 2 bP [] [] [.mk 6 bQ [] [] [.mk 2 bC [.mk 1 1 bE []] [] []]]
def putT : Term := .mk 4 bE [] [putRule, putSpot] [exBody]
def canRule : Clause := .mk 1 bE [⟨bA, [bEe]⟩, ⟨bC, []⟩] [] [sendT bZ [bEe, bB]]
def canSpot : Clause := .mk 2 bD [] [] [.mk 6 bQ [] [] [.mk 2 bA [.mk 1 1 bE []] [] []]]
def canT : Term := .mk 4 bE [] [canRule, canSpot] [.mk 3 bE [] [] [sendT bC [], .mk 8 bD [] [] [.mk 1 bE [] [] []]]]
theorem put_eq : (copyT ⟨.putting bB (nmE bX), [frame0]⟩ (usedP exT bB (nmE bX)) exT).map (·.1) = some putT := by kernel_rfl
theorem put_none : (copyT ⟨.putting bQ (.mk 1 2 bE []), [frame0]⟩ (usedP exT bQ (.mk 1 2 bE [])) exT).isSome = false := by kernel_rfl
theorem can_eq : (copyT ⟨.anew, [frame0]⟩ (freeN 60 (.proc exT)) exT).map (·.1) = some canT := by kernel_rfl
theorem out_eq : (copyT ⟨.outside, [frame0]⟩ (fun _ => false) exBody).map (·.1) = some exBody := by kernel_rfl
theorem split_eq : (splitT exBody).length = 2 := by kernel_rfl
theorem bound_put : channelsL [putRule, putSpot] ++ placesL [putRule, putSpot] = [bC, bY, bP] := by kernel_rfl
theorem bound_can : channelsL [canRule, canSpot] ++ placesL [canRule, canSpot] = [bA, bC, bD] := by kernel_rfl
theorem put_defs : DefsOk [putRule, putSpot] := by
  refine ⟨fun k => if k = [121] then (0, 0) else (0, 1), by decide, by decide, ?_, ?_, by decide⟩
  · intro i h c hc j hj
    have hl : (groupsL [putRule, putSpot]).length = 2 := by rfl
    match i, h with
    | 0, _ =>
      have e : (groupsL [putRule, putSpot])[0] = [putRule, putSpot] := rfl
      rw [e] at hc
      simp only [List.mem_cons, List.not_mem_nil, or_false] at hc
      rcases hc with rfl | rfl
      · have e2 : Clause.joins putRule = [⟨bC, [bA]⟩, ⟨bY, []⟩] := rfl
        rw [e2] at hj
        simp only [List.mem_cons, List.not_mem_nil, or_false] at hj
        rcases hj with rfl | rfl <;> rfl
      · have e2 : Clause.joins putSpot = [] := rfl
        rw [e2] at hj; simp at hj
    | 1, h =>
      have e : (groupsL [putRule, putSpot])[1] = [] := rfl
      rw [e] at hc; simp at hc
    | i + 2, h => omega
  · intro p hp
    have e : placesL [putRule, putSpot] = [bP] := rfl
    rw [e] at hp
    simp only [List.mem_cons, List.not_mem_nil, or_false] at hp
    subst hp; rfl
theorem can_defs : DefsOk [canRule, canSpot] := by
  refine ⟨fun k => if k = [99] then (0, 0) else (0, 1), by decide, by decide, ?_, ?_, by decide⟩
  · intro i h c hc j hj
    have hl : (groupsL [canRule, canSpot]).length = 2 := by rfl
    match i, h with
    | 0, _ =>
      have e : (groupsL [canRule, canSpot])[0] = [canRule, canSpot] := rfl
      rw [e] at hc
      simp only [List.mem_cons, List.not_mem_nil, or_false] at hc
      rcases hc with rfl | rfl
      · have e2 : Clause.joins canRule = [⟨bA, [bEe]⟩, ⟨bC, []⟩] := rfl
        rw [e2] at hj
        simp only [List.mem_cons, List.not_mem_nil, or_false] at hj
        rcases hj with rfl | rfl <;> rfl
      · have e2 : Clause.joins canSpot = [] := rfl
        rw [e2] at hj; simp at hj
    | 1, h =>
      have e : (groupsL [canRule, canSpot])[1] = [] := rfl
      rw [e] at hc; simp at hc
    | i + 2, h => omega
  · intro p hp
    have e : placesL [canRule, canSpot] = [bD] := rfl
    rw [e] at hp
    simp only [List.mem_cons, List.not_mem_nil, or_false] at hp
    subst hp; rfl
theorem put_size : (Part.proc putT).size = 13 := by rfl
theorem put_shaped : (nodesOf 1 (.proc putT)).all (fun q => q.1.shaped && decide (q.2 ≤ 12)) = true := by kernel_rfl
theorem put_formed : Formed (.proc putT) := by
  refine ⟨by rw [put_size]; omega, fun q hq => ?_⟩
  have h1 := List.all_eq_true.1 put_shaped q hq
  simp only [Bool.and_eq_true, decide_eq_true_eq] at h1
  refine ⟨h1.1, h1.2, ?_⟩
  rw [nodesOf_eq] at hq
  rcases List.mem_cons.1 hq with rfl | hq
  · exact fun _ => put_defs
  · have ha : (nodesL 2 (Part.proc putT).parts).all (fun q => !defB q.1) = true := by kernel_rfl
    have h2 := List.all_eq_true.1 ha q hq
    exact nodeOk_of (by simpa using h2)
theorem body_fine : Fine (.proc exBody) := by
  have ha : ((nodesOf 0 (.proc exBody)).map (·.1)).all Part.shaped = true := by kernel_rfl
  exact fun q hq => List.all_eq_true.1 ha q hq
theorem body_formed : Formed (.proc exBody) := by
  have ha : (nodesOf 1 (.proc exBody)).all (fun q => q.1.shaped && decide (q.2 ≤ 12) && !defB q.1) = true := by kernel_rfl
  refine ⟨by decide, fun q hq => ?_⟩
  have h2 := List.all_eq_true.1 ha q hq
  simp only [Bool.and_eq_true, decide_eq_true_eq] at h2
  exact ⟨h2.1.1, h2.1.2, nodeOk_of (by simpa using h2.2)⟩
theorem writ_stands (p : Part) (k : List UInt8) (h : writtenF p k = true) : k ∈ ((nodesOf 1 p).flatMap (fun q => standsP q.1 :: bindsP q.1)).map bytesOf := by
  unfold writtenF at h
  obtain ⟨q, hq, h⟩ := List.any_eq_true.1 h
  unfold writesB at h
  rw [Bool.or_eq_true] at h
  rcases h with h | h
  · obtain ⟨b, hb, h⟩ := List.any_eq_true.1 h
    exact List.mem_map.2 ⟨b, List.mem_flatMap.2 ⟨q, hq, List.mem_cons_of_mem _ hb⟩, (by simpa using h : k = bytesOf b).symm⟩
  · rw [Bool.and_eq_true] at h
    exact List.mem_map.2 ⟨standsP q.1, List.mem_flatMap.2 ⟨q, hq, List.mem_cons_self ..⟩, (by simpa using h.2 : k = bytesOf (standsP q.1)).symm⟩
theorem used_cov (t : Term) (x : ByteArray) (e : Exp) (m : Nat) (hm : (((nodesOf 1 (.proc t)).flatMap (fun q => standsP q.1 :: bindsP q.1)).map bytesOf ++ (((nodesOf 1 (.exp e)).flatMap (fun q => standsP q.1 :: bindsP q.1)).map bytesOf ++ [bytesOf x])).length ≤ m) : Cov (usedP t x e) m := by
  refine ⟨_, fun k hk => ?_, hm⟩
  unfold usedP at hk
  rw [Bool.or_eq_true, Bool.or_eq_true] at hk
  rcases hk with (hk | hk) | hk
  · exact List.mem_append_left _ (writ_stands _ _ hk)
  · exact List.mem_append_right _ (List.mem_append_left _ (writ_stands _ _ hk))
  · exact List.mem_append_right _ (List.mem_append_right _ (by simpa using hk))
theorem cov_put1 : Cov (usedP exT bB (nmE bX)) 100 := used_cov _ _ _ _ (by decide)
theorem cov_put2 : Cov (usedP exT bQ (.mk 1 2 bE [])) 100 := used_cov _ _ _ _ (by decide)
theorem cov_can : Cov (freeN 60 (.proc exT)) 100 := ⟨_, fun k hk => free_stands _ _ _ hk, by decide⟩
theorem bc_ex : bcT exT = 4 := by decide
theorem bc_body : bcT exBody = 0 := by decide

end Go.Proofs.YtjmlaeofjjhfmaaGreat
/- What the row's example shows, by the function that says it. -/
namespace Go.Proofs.YtjmlaeofjjhfmaaGreat
open Go.RowKit Go.Shelf Go.Maps

theorem nodes_ex (w : World) (cs : List Value) (h : TermAt w.heap.size w cs exT) :
    Calls Tryz.prog 23 #[.agg cs.toArray] w fun e w' => e = .returned (.tuple #[.int .i64 13, .int .i64 0]) ∧ Below w.heap.size w w' :=
  api_23 w.heap.size w exT cs w (Below.keptC (Below.refl _ w)) (Nat.le_refl _) ex_formed h
theorem depth_ex (w : World) (cs : List Value) (h : TermAt w.heap.size w cs exT) :
    Calls Tryz.prog 24 #[.agg cs.toArray] w fun e w' => e = .returned (.tuple #[.int .i64 5, .int .i64 0]) ∧ Below w.heap.size w w' :=
  api_24 w.heap.size w exT cs w (Below.keptC (Below.refl _ w)) (Nat.le_refl _) ex_formed h
theorem free_ex (w : World) (cs : List Value) (h : TermAt w.heap.size w cs exT) :
    Calls Tryz.prog 29 #[.agg cs.toArray] w fun e w' => ∃ v, e = .returned (.tuple #[v, .int .i64 0]) ∧ StrsAt w'.heap.size w' v [bB, bQ, bZ] ∧ Below w.heap.size w w' := by
  have q := api_29 w.heap.size w exT cs w (Below.keptC (Below.refl _ w)) (Nat.le_refl _) ex_formed h [[98], [113], [122]] ex_frees
  have e : (([[98], [113], [122]] : List (List UInt8)).mergeSort leB).map mkB = [bB, bQ, bZ] := by
    rw [List.mergeSort_of_pairwise (by simp [leB]; exact ⟨⟨by decide, by decide⟩, by decide⟩)]; rfl
  rw [e] at q; exact q
theorem defs_ex (w : World) (cs : List Value) (h : TermAt w.heap.size w cs exT) :
    Calls Tryz.prog 30 #[.agg cs.toArray] w fun e w' => ∃ r1 r2, e = .returned (.tuple #[r1, r2, .int .i64 0]) ∧ StrsAt w'.heap.size w' r1 [bX, bY] ∧ StrsAt w'.heap.size w' r2 [bP] ∧ Below w.heap.size w w' :=
  defines_ok w.heap.size w bE [] [exRule, exSpot] [exBody] cs w (Below.keptC (Below.refl _ w)) (Nat.le_refl _) ex_formed h
theorem put1_ex (w : World) (cs es : List Value) (h : TermAt w.heap.size w cs exT) (he : ExpAt w.heap.size w es (nmE bX)) :
    Calls Tryz.prog 33 #[.agg cs.toArray, .string bB, .agg es.toArray] w fun e' w' => ∃ cs', e' = .returned (.tuple #[.agg cs'.toArray, .int .i64 0]) ∧ TermAt w'.heap.size w' cs' putT ∧ Below w.heap.size w w' := by
  have e0 := put_eq
  cases hR : copyT ⟨.putting bB (nmE bX), [frame0]⟩ (usedP exT bB (nmE bX)) exT with
  | none => rw [hR] at e0; cases e0
  | some y =>
    rw [hR] at e0
    have ey : y.1 = putT := Option.some.inj e0
    have q := put_any w.heap.size w exT bB (nmE bX) ex_formed (by
      have ha : (nodesOf 1 (.exp (nmE bX))).all (fun q => q.1.shaped && decide (q.2 ≤ 12) && !defB q.1) = true := by kernel_rfl
      refine ⟨by decide, fun q hq => ?_⟩
      have h2 := List.all_eq_true.1 ha q hq
      simp only [Bool.and_eq_true, decide_eq_true_eq] at h2
      exact ⟨h2.1.1, h2.1.2, nodeOk_of (by simpa using h2.2)⟩) (by kernel_rfl) (by decide) (by kernel_rfl) cs es h he w (Below.keptC (Below.refl _ w)) (Nat.le_refl _)
      (some y) hR.symm (fun z hz => by rw [← Option.some.inj hz, ey]; exact put_formed) 100 cov_put1 (by rw [bc_ex]; omega)
    refine q.mono ?_
    rintro e' w' ⟨cs', h1, _, h2, h3⟩
    exact ⟨cs', h1, by have := h2 y rfl; rwa [ey] at this, h3⟩
theorem put2_ex (w : World) (cs es : List Value) (h : TermAt w.heap.size w cs exT) (he : ExpAt w.heap.size w es (.mk 1 2 bE [])) :
    Calls Tryz.prog 33 #[.agg cs.toArray, .string bQ, .agg es.toArray] w fun e' w' => ∃ v, e' = .returned (.tuple #[v, .int .i64 7]) ∧ Below w.heap.size w w' := by
  have e0 := put_none
  cases hR : copyT ⟨.putting bQ (.mk 1 2 bE []), [frame0]⟩ (usedP exT bQ (.mk 1 2 bE [])) exT with
  | some y => rw [hR] at e0; cases e0
  | none =>
    have q := put_any w.heap.size w exT bQ (.mk 1 2 bE []) ex_formed (by
      have ha : (nodesOf 1 (.exp (.mk 1 2 bE []))).all (fun q => q.1.shaped && decide (q.2 ≤ 12) && !defB q.1) = true := by kernel_rfl
      refine ⟨by decide, fun q hq => ?_⟩
      have h2 := List.all_eq_true.1 ha q hq
      simp only [Bool.and_eq_true, decide_eq_true_eq] at h2
      exact ⟨h2.1.1, h2.1.2, nodeOk_of (by simpa using h2.2)⟩) (by kernel_rfl) (by decide) (by kernel_rfl) cs es h he w (Below.keptC (Below.refl _ w)) (Nat.le_refl _)
      none hR.symm (fun z hz => by cases hz) 100 cov_put2 (by rw [bc_ex]; omega)
    refine q.mono ?_
    rintro e' w' ⟨cs', h1, _, _, h3⟩
    exact ⟨_, h1, h3⟩
theorem can_ex (w : World) (cs : List Value) (h : TermAt w.heap.size w cs exT) :
    Calls Tryz.prog 42 #[.agg cs.toArray] w fun e' w' => ∃ cs', e' = .returned (.tuple #[.agg cs'.toArray, .int .i64 0]) ∧ TermAt w'.heap.size w' cs' canT ∧ Below w.heap.size w w' := by
  have e0 := can_eq
  cases hR : copyT ⟨.anew, [frame0]⟩ (freeN 60 (.proc exT)) exT with
  | none => rw [hR] at e0; cases e0
  | some y =>
    rw [hR] at e0
    have ey : y.1 = canT := Option.some.inj e0
    have q := canon_any w.heap.size w exT ex_formed cs h w (Below.keptC (Below.refl _ w)) (Nat.le_refl _) y hR 100 cov_can (by rw [bc_ex]; omega)
    rw [ey] at q; exact q
theorem parts_ex (B : Nat) (u w : World) (cs : List Value) (hu : KeptC B u w) (hB : B ≤ w.heap.size) (h : TermAt B u cs exBody) :
    Calls Tryz.prog 45 #[.agg cs.toArray] w fun e' w' => ∃ a c, e' = .returned (.tuple #[.slice a 2 c, .int .i64 0]) ∧ Below w.heap.size w w' := by
  have e0 := out_eq
  cases hR : copyT ⟨.outside, [frame0]⟩ (fun _ => false) exBody with
  | none => rw [hR] at e0; cases e0
  | some y =>
    rw [hR] at e0
    have ey : y.1 = exBody := Option.some.inj e0
    have q := parts_any45 B u exBody body_formed cs h w hu hB y hR (by rw [ey]; exact body_fine) (by rw [ey]; decide) (by rw [bc_body]; omega)
    refine q.mono ?_
    rintro e' w' ⟨v, h1, h2, h3⟩
    rw [ey, split_eq] at h2
    obtain ⟨a, c, rfl, _⟩ := h2
    exact ⟨a, c, h1, h3⟩
theorem exp_int (B : Nat) (w : World) (n : Int) : ExpAt B w [.int .i64 1, .int .i64 n, .string bE, .slice none 0 0] (.mk 1 n bE []) := by
  unfold ExpAt
  exact ⟨by decide, _, rfl, none, 0, rfl, by decide, .inl rfl⟩
theorem exp_name (B : Nat) (w : World) (s : ByteArray) (hs : s.size ≤ maxLen) : ExpAt B w [.int .i64 2, .int .i64 0, .string s, .slice none 0 0] (nmE s) := by
  unfold nmE ExpAt
  exact ⟨hs, _, rfl, none, 0, rfl, by decide, .inl rfl⟩
theorem defs_cells {B : Nat} {w : World} {cs : List Value} {o : Int} {tx : ByteArray} {ar : List Exp} {c1 c2 : Clause} {kd : List Term} (h : TermAt B w cs (.mk o tx ar [c1, c2] kd)) :
    ∃ a0 n0 k0 a cap a2 n2 k2, cs = [.int .i64 o, .string tx, .slice a0 n0 k0, .slice a 2 cap, .slice a2 n2 k2] ∧ ∃ b off, a = some ⟨b, off, none⟩ ∧ b < B ∧ ClausesAt B w b off [c1, c2] := by
  unfold TermAt at h
  obtain ⟨_, va, vd, vk, rfl, ⟨_, _, rfl, _⟩, ⟨a, cap, rfl, _, h0 | h0⟩, ⟨_, _, rfl, _⟩⟩ := h
  · cases h0
  · exact ⟨_, _, _, a, cap, _, _, _, rfl, h0⟩
theorem kid_cells {B : Nat} {w : World} {cs : List Value} {o : Int} {tx : ByteArray} {ar : List Exp} {df : List Clause} {k : Term} (h : TermAt B w cs (.mk o tx ar df [k])) :
    ∃ a0 n0 k0 a1 n1 k1 b off cap kc, cs = [.int .i64 o, .string tx, .slice a0 n0 k0, .slice a1 n1 k1, .slice (some ⟨b, off, none⟩) 1 cap] ∧ b < B ∧ CellsAt w b off kc ∧ TermAt B w kc k := by
  unfold TermAt at h
  obtain ⟨_, va, vd, vk, rfl, ⟨_, _, rfl, _⟩, ⟨_, _, rfl, _⟩, ⟨a, cap, rfl, _, h0 | ⟨b, off, rfl, hb, h0⟩⟩⟩ := h
  · cases h0
  · unfold TermsAt at h0
    obtain ⟨⟨kc, h1, h2⟩, _⟩ := h0
    exact ⟨_, _, _, _, _, _, b, off, cap, kc, rfl, hb, h1, h2⟩
theorem kid_cells2 {B : Nat} {w : World} {cs : List Value} {o : Int} {tx : ByteArray} {ar : List Exp} {df : List Clause} {kd : List Term} (h : TermAt B w cs (.mk o tx ar df kd)) :
    ∃ a0 n0 k0 a1 n1 k1 a2 n2 k2, cs = [.int .i64 o, .string tx, .slice a0 n0 k0, .slice a1 n1 k1, .slice a2 n2 k2] := by
  unfold TermAt at h
  obtain ⟨_, va, vd, vk, rfl, ⟨_, _, rfl, _⟩, ⟨_, _, rfl, _⟩, ⟨_, _, rfl, _⟩⟩ := h
  exact ⟨_, _, _, _, _, _, _, _, _, rfl⟩
theorem lit_strs (ss : List ByteArray) (w : World) (cs : Array Value) (hcs : cs = (ss.map Value.string).toArray) (hz : ∀ s ∈ ss, s.size ≤ maxLen) (hl : ss.length ≤ 100) (n : Nat) (hn : n = ss.length) :
    StrsAt (w.alloc (.cells cs 9)).heap.size (w.alloc (.cells cs 9)) (.slice (some ⟨w.heap.size, 0, none⟩) n n) ss := by
  subst hn
  refine ⟨_, _, rfl, by omega, hz, (by simp), .inr ⟨_, 0, rfl, by simp, fun j hj => ?_⟩⟩
  have e : (w.alloc (.cells cs 9)).heap[w.heap.size]? = some (.cells cs 9) := World.alloc_heap_new w _
  subst hcs
  unfold World.cell?
  simp only
  rw [e]
  simp [hj]
theorem same_lit (w0 w : World) (v : Value) (s1 ss : List ByteArray) (h : StrsAt w0.heap.size w0 v s1) (hb : Below w0.heap.size w0 w) (cs : Array Value) (hcs : cs = (ss.map Value.string).toArray) (hz : ∀ s ∈ ss, s.size ≤ maxLen) (hl : ss.length ≤ 100) (n : Nat) (hn : n = ss.length) (hs : sameNames s1 ss = true) :
    Calls Tryz.prog 31 #[v, .slice (some ⟨w.heap.size, 0, none⟩) n n] (w.alloc (.cells cs 9)) fun e w' => e = .returned (.bool true) ∧ Below w.heap.size w w' := by
  have b1 : Below w.heap.size w (w.alloc (.cells cs 9)) := (Below.refl _ w).alloc (Nat.le_refl _) _
  have q := same_names _ v _ s1 ss _ (Nat.le_refl _) ((h.later hb).later b1) (lit_strs ss w cs hcs hz hl n hn)
  rw [hs] at q
  refine q.mono ?_
  rintro e w' ⟨h1, h2⟩
  exact ⟨h1, b1.trans (h2.mono b1.size)⟩
theorem fresh_ex (w : World) :
    Calls Tryz.prog 18 #[.slice (some ⟨w.heap.size, 0, none⟩) 2 2] (w.alloc (.cells #[.string ⟨#[97]⟩, .string ⟨#[99]⟩] 9)) fun e w' => e = .returned (.string ⟨#[98]⟩) ∧ Below w.heap.size w w' := by
  have b1 : Below w.heap.size w (w.alloc (.cells #[.string ⟨#[97]⟩, .string ⟨#[99]⟩] 9)) := (Below.refl _ w).alloc (Nat.le_refl _) _
  refine (fresh_any _ [bA, bC] _ (lit_strs [bA, bC] w _ rfl (by decide) (by decide) 2 rfl) (by decide)).mono ?_
  rintro e w' ⟨j, rfl, hj, hb⟩
  refine ⟨?_, b1.trans (hb.mono b1.size)⟩
  have e : j = 1 := hj.unique ⟨⟨by kernel_rfl, by kernel_rfl⟩, fun i hi => by
    obtain rfl : i = 0 := by omega
    intro h
    have h2 := h.2
    rw [show inSet (List.map bytesOf [bA, bC]) (strN 0) = true by kernel_rfl] at h2
    cases h2⟩
  subst e
  rfl

set_option maxRecDepth 10000 in
set_option maxHeartbeats 4000000 in
theorem known_any (w : World) :
    Calls Tryz.prog 14 #[] w fun e w' => e = .returned (.bool true) ∧ Below w.heap.size w w' := by
  go_enter Tryz.func14, Tryz.ntmps14
  go_wp2_with fail
  refine (example_any _).mono ?_
  rintro e w1 ⟨c1, rfl, t1, b1⟩
  go_wp2_with fail
  refine (nodes_ex _ c1 t1).mono ?_
  rintro e w2 ⟨rfl, b2⟩
  go_wp2_with fail
  refine (example_any _).mono ?_
  rintro e w3 ⟨c3, rfl, t3, b3⟩
  go_wp2_with fail
  refine (depth_ex _ c3 t3).mono ?_
  rintro e w4 ⟨rfl, b4⟩
  go_wp2_with fail
  refine (example_any _).mono ?_
  rintro e w5 ⟨c5, rfl, t5, b5⟩
  go_wp2_with fail
  refine (free_ex _ c5 t5).mono ?_
  rintro e w6 ⟨vl, rfl, sl, b6⟩
  go_wp2_with fail
  refine (example_any _).mono ?_
  rintro e w7 ⟨c7, rfl, t7, b7⟩
  go_wp2_with fail
  refine (defs_ex _ c7 t7).mono ?_
  rintro e w8 ⟨vc, vp, rfl, sc, sp, b8⟩
  have B06 : Below w.heap.size w w6 := ((((b1.trans (b2.mono b1.size)).trans (b3.mono (b1.trans (b2.mono b1.size)).size)).trans (b4.mono (by have := b1.size; have := b2.size; have := b3.size; omega))).trans (b5.mono (by have := b1.size; have := b2.size; have := b3.size; have := b4.size; omega))).trans (b6.mono (by have := b1.size; have := b2.size; have := b3.size; have := b4.size; have := b5.size; omega))
  have B68 : Below w6.heap.size w6 w8 := (b7.trans (b8.mono b7.size))
  have B08 : Below w.heap.size w w8 := B06.trans (B68.mono B06.size)
  clear b1 b2 b3 b4 b5 b6 b7 b8 t1 t3 t5 t7 B06
  go_wp2_with fail
  refine (same_lit w6 w8 vl _ [bB, bQ, bZ] sl B68 _ rfl (by decide) (by decide) 3 rfl (by kernel_rfl)).mono ?_
  rintro e w9 ⟨rfl, b9⟩
  go_wp2_with fail
  refine (same_lit w8 w9 vc _ [bX, bY] sc b9 _ rfl (by decide) (by decide) 2 rfl (by kernel_rfl)).mono ?_
  rintro e w10 ⟨rfl, b10⟩
  go_wp2_with fail
  refine (same_lit w8 w10 vp _ [bP] sp (b9.trans (b10.mono b9.size)) _ rfl (by decide) (by decide) 1 rfl (by kernel_rfl)).mono ?_
  rintro e w11 ⟨rfl, b11⟩
  have B11 : Below w.heap.size w w11 := ((B08.trans (b9.mono B08.size)).trans (b10.mono (by have := B08.size; have := b9.size; omega))).trans (b11.mono (by have := B08.size; have := b9.size; have := b10.size; omega))
  clear b9 b10 b11 B08 B68 sl sc sp
  go_wp2_with fail
  refine (example_any _).mono ?_
  rintro e w12 ⟨c12, rfl, t12, b12⟩
  go_wp2_with fail
  refine (name51_any _ _).mono ?_
  rintro e w13 ⟨rfl, b13⟩
  go_wp2_with fail
  refine (put1_ex w13 c12 [.int .i64 2, .int .i64 0, .string bX, .slice none 0 0] (TermAt.below b13 b13.size _ _ t12) (exp_name _ _ _ (by decide))).mono ?_
  rintro e w14 ⟨c14, rfl, t14, b14⟩
  obtain ⟨p0, q0, r0, pa, pcap, p2, q2, r2, rfl, pb, poff, rfl, hpb, hpc⟩ := defs_cells t14
  have B14 : Below w.heap.size w w14 := ((B11.trans (b12.mono B11.size)).trans (b13.mono (by have := B11.size; have := b12.size; omega))).trans (b14.mono (by have := B11.size; have := b12.size; have := b13.size; omega))
  clear b12 b13 b14 B11 t12 t14
  obtain ⟨WP, hWP⟩ : ∃ WP, WP = w14.alloc (.cells #[.int .i64 4, .string bE, .slice p0 q0 r0, .slice (some ⟨pb, poff, none⟩) 2 pcap, .slice p2 q2 r2] 33) := ⟨_, rfl⟩
  have BP : Below w14.heap.size w14 WP := by rw [hWP]; exact (Below.refl _ w14).alloc (Nat.le_refl _) _
  have kP : WP.heap[w14.heap.size]? = some (.cells #[.int .i64 4, .string bE, .slice p0 q0 r0, .slice (some ⟨pb, poff, none⟩) 2 pcap, .slice p2 q2 r2] 33) := by rw [hWP]; exact World.alloc_heap_new w14 _
  have zP : WP.heap.size = w14.heap.size + 1 := by rw [hWP]; simp
  go_wp2_with fail
  rw [← hWP]
  clear hWP
  refine (example_any _).mono ?_
  rintro e w15 ⟨c15, rfl, t15, b15⟩
  go_wp2_with fail
  refine (put2_ex w15 c15 [.int .i64 1, .int .i64 2, .string bE, .slice none 0 0] t15 (exp_int _ _ _)).mono ?_
  rintro e w16 ⟨vr, rfl, b16⟩
  go_wp2_with fail
  refine (example_any _).mono ?_
  rintro e w17 ⟨c17, rfl, t17, b17⟩
  go_wp2_with fail
  refine (can_ex w17 c17 t17).mono ?_
  rintro e w18 ⟨c18, rfl, t18, b18⟩
  obtain ⟨a0, a1, a2, ca, ccap, a3, a4, a5, rfl, cb, coff, rfl, hcb, hcc⟩ := defs_cells t18
  have BP18 : Below WP.heap.size WP w18 := ((b15.trans (b16.mono b15.size)).trans (b17.mono (by have := b15.size; have := b16.size; omega))).trans (b18.mono (by have := b15.size; have := b16.size; have := b17.size; omega))
  clear b15 b16 b17 b18 t15 t17 t18
  obtain ⟨WC, hWC⟩ : ∃ WC, WC = w18.alloc (.cells #[.int .i64 4, .string bE, .slice a0 a1 a2, .slice (some ⟨cb, coff, none⟩) 2 ccap, .slice a3 a4 a5] 33) := ⟨_, rfl⟩
  have BC : Below w18.heap.size w18 WC := by rw [hWC]; exact (Below.refl _ w18).alloc (Nat.le_refl _) _
  have kC : WC.heap[w18.heap.size]? = some (.cells #[.int .i64 4, .string bE, .slice a0 a1 a2, .slice (some ⟨cb, coff, none⟩) 2 ccap, .slice a3 a4 a5] 33) := by rw [hWC]; exact World.alloc_heap_new w18 _
  have zC : WC.heap.size = w18.heap.size + 1 := by rw [hWC]; simp
  go_wp2_with fail
  rw [← hWC]
  clear hWC
  refine (example_any _).mono ?_
  rintro e w19 ⟨c19, rfl, t19, b19⟩
  obtain ⟨d0, d1, d2, d3, d4, d5, kb, koff, kcap, kc, rfl, hkb, hkc, hkt⟩ := kid_cells t19
  obtain ⟨f0, f1, f2, f3, f4, f5, gb, goff, gcap, rfl⟩ := kid_cells2 hkt
  have l0 := hkc 0 (by simp)
  have l1 := hkc 1 (by simp)
  have l2 := hkc 2 (by simp)
  have l3 := hkc 3 (by simp)
  have l4 := hkc 4 (by simp)
  simp only [List.getElem_cons_zero, List.getElem_cons_succ, Nat.add_zero] at l0 l1 l2 l3 l4
  have hfd : ∀ w : World, (Instr.field 33 (.agg #[.int .i64 4, .string bE, .slice d0 d1 d2, .slice d3 d4 d5, .slice (some ⟨kb, koff, none⟩) 1 kcap]) 4).run Tryz.prog w = .ok (.slice (some ⟨kb, koff, none⟩) 1 kcap) w := fun _ => by kernel_rfl
  clear t19
  go_wp2_with fail
  refine (parts_ex w19.heap.size w19 w19 _ (Below.keptC (Below.refl _ w19)) (Nat.le_refl _) hkt).mono ?_
  rintro e w20 ⟨g0, g1, rfl, b20⟩
  have B20 : Below WC.heap.size WC w20 := b19.trans (b20.mono b19.size)
  have kC20 := (B20.block w18.heap.size (by omega)).trans kC
  have BPC : Below WP.heap.size WP w20 := (BP18.trans (BC.mono BP18.size)).trans (B20.mono (by have := BP18.size; have := BC.size; omega))
  have kP20 := (BPC.block w14.heap.size (by omega)).trans kP
  have B14_20 : Below w14.heap.size w14 w20 := BP.trans (BPC.mono BP.size)
  have B18_20 : Below w18.heap.size w18 w20 := BC.trans (B20.mono BC.size)
  have B00_20 : Below w.heap.size w w20 := B14.trans (B14_20.mono B14.size)
  have m10 : w20.cell? ⟨w14.heap.size, 3, none⟩ = some (.slice (some ⟨pb, poff, none⟩) 2 pcap) := by unfold World.cell?; simp only; rw [kP20]; rfl
  have m11 : w20.cell? ⟨w18.heap.size, 3, none⟩ = some (.slice (some ⟨cb, coff, none⟩) 2 ccap) := by unfold World.cell?; simp only; rw [kC20]; rfl
  clear l0 l1 l2 l3 l4 hkc hkt hfd b19 b20 kP kC BP BC BP18 BPC
  go_wp2_with fail
  refine (bound_any w14.heap.size w14 [putRule, putSpot] put_defs (by decide) (some ⟨pb, poff, none⟩) pcap (by decide) (.inr ⟨pb, poff, rfl, hpb, hpc⟩) w20 (Below.keptC B14_20) B14_20.size).mono ?_
  rw [bound_put]
  rintro e w21 ⟨vb, rfl, sb, b21⟩
  go_wp2_with fail
  refine (same_lit w21 w21 vb _ [bC, bY, bP] sb (Below.refl _ _) _ rfl (by decide) (by decide) 3 rfl (by kernel_rfl)).mono ?_
  rintro e w22 ⟨rfl, b22⟩
  have b2022 := b21.trans (b22.mono b21.size)
  have m11' : w22.cell? ⟨w18.heap.size, 3, none⟩ = some (.slice (some ⟨cb, coff, none⟩) 2 ccap) := by
    have z := B20.size
    have e := (b2022.block w18.heap.size (by omega)).trans kC20
    unfold World.cell?; simp only; rw [e]; rfl
  go_wp2_with fail
  refine (bound_any w18.heap.size w18 [canRule, canSpot] can_defs (by decide) (some ⟨cb, coff, none⟩) ccap (by decide) (.inr ⟨cb, coff, rfl, hcb, hcc⟩) w22 (Below.keptC (B18_20.trans (b2022.mono B18_20.size))) (by have := B18_20.size; have := b2022.size; omega)).mono ?_
  rw [bound_can]
  rintro e w23 ⟨ve, rfl, se, b23⟩
  go_wp2_with fail
  refine (same_lit w23 w23 ve _ [bA, bC, bD] se (Below.refl _ _) _ rfl (by decide) (by decide) 3 rfl (by kernel_rfl)).mono ?_
  rintro e w24 ⟨rfl, b24⟩
  go_wp2_with fail
  refine (tname_any _ _ (by decide)).mono ?_
  rw [show nameB ⟨#[97, 98, 99]⟩ = true by kernel_rfl]
  rintro e w25 ⟨rfl, b25⟩
  go_wp2_with fail
  refine (tname_any _ _ (by decide)).mono ?_
  rw [show nameB ⟨#[116, 104, 101, 110]⟩ = false by kernel_rfl]
  rintro e w26 ⟨rfl, b26⟩
  go_wp2_with fail
  refine (fresh_ex w26).mono ?_
  rintro e w27 ⟨rfl, b27⟩
  go_wp2_with fail
  go_ret
  have z0 := B00_20.size
  have z1 := b2022.size
  have z2 := b23.size
  have z3 := b24.size
  have z4 := b25.size
  have z5 := b26.size
  exact ⟨rfl, (((((B00_20.trans (b2022.mono z0)).trans (b23.mono (by omega))).trans (b24.mono (by omega))).trans (b25.mono (by omega))).trans (b26.mono (by omega))).trans (b27.mono (by omega))⟩

end Go.Proofs.YtjmlaeofjjhfmaaGreat
