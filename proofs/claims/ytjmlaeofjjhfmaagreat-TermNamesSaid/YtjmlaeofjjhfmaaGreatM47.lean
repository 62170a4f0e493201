/- The example is formed; its free names. -/
import Derived.Test.YtjmlaeofjjhfmaaGreatM46
import Derived.Test.YtjmlaeofjjhfmaaGreatM38
import Derived.Test.YtjmlaeofjjhfmaaGreatM40
import Derived.Test.YtjmlaeofjjhfmaaGreatM45
set_option linter.unusedVariables false
set_option linter.unusedSimpArgs false
namespace Go.Proofs.YtjmlaeofjjhfmaaGreat
open Go.RowKit Go.Shelf Go.Maps

theorem ex_size : (Part.proc exT).size = 13 := by rfl
theorem ex_shaped : (nodesOf 1 (.proc exT)).all (fun q => q.1.shaped && decide (q.2 ≤ 12)) = true := by kernel_rfl
theorem ex_depth : (Part.proc exT).depth = 5 := by rfl

theorem free_stands : ∀ (s : Nat) (p : Part) (k : List UInt8), freeN s p k = true → k ∈ (nodesOf 0 p).map (fun q => bytesOf (standsP q.1))
  | 0, _, _, h => by simp [freeN] at h
  | s + 1, p, k, h => by
    rw [freeN, Bool.or_eq_true] at h
    rw [nodesOf_eq, List.map_cons]
    rcases h with h | h
    · rw [Bool.and_eq_true] at h
      obtain ⟨q, hq, hf⟩ := List.any_eq_true.1 h.1
      have h2 := free_stands s q k hf
      refine List.mem_cons_of_mem _ ?_
      obtain ⟨y, hy, he⟩ := List.mem_map.1 h2
      have h3 : y.1 ∈ (nodesOf 1 q).map (·.1) := by rw [nodesOf_fst 1 0]; exact List.mem_map.2 ⟨y, hy, rfl⟩
      obtain ⟨z, hz, hzy⟩ := List.mem_map.1 h3
      exact List.mem_map.2 ⟨z, mem_nodesL hq hz, by rw [hzy]; exact he⟩
    · rw [Bool.and_eq_true] at h
      rw [show k = bytesOf (standsP p) by simpa using h.2]
      exact List.mem_cons_self ..

theorem ex_frees : IsFrees (.proc exT) [[98], [113], [122]] := by
  refine ⟨by decide, fun k => ?_⟩
  constructor
  · intro h
    simp only [List.mem_cons, List.not_mem_nil, or_false] at h
    rcases h with rfl | rfl | rfl <;> kernel_rfl
  · intro h
    have h1 := free_stands 60 _ _ h
    have e : (nodesOf 0 (.proc exT)).map (fun q => bytesOf (standsP q.1)) = [[], [], [122], [97], [98], [], [113], [120], [], [], [121], [112], []] := by kernel_rfl
    rw [e] at h1
    simp only [List.mem_cons, List.not_mem_nil, or_false] at h1
    have f0 : freeN 60 (.proc exT) [] = false := by kernel_rfl
    have f1 : freeN 60 (.proc exT) [97] = false := by kernel_rfl
    have f2 : freeN 60 (.proc exT) [120] = false := by kernel_rfl
    have f3 : freeN 60 (.proc exT) [121] = false := by kernel_rfl
    have f4 : freeN 60 (.proc exT) [112] = false := by kernel_rfl
    rcases h1 with rfl | rfl | rfl | rfl | rfl | rfl | rfl | rfl | rfl | rfl | rfl | rfl | rfl <;> simp_all

end Go.Proofs.YtjmlaeofjjhfmaaGreat
/- The example is formed. -/
namespace Go.Proofs.YtjmlaeofjjhfmaaGreat
open Go.RowKit Go.Shelf Go.Maps

def defB : Part → Bool
  | .proc (.mk op _ _ _ _) => op == 4
  | _ => false
theorem nodeOk_of {p : Part} (h : defB p = false) : nodeOk p := by
  cases p with
  | proc t => obtain ⟨o, t, a, d, k⟩ := t; intro ho; subst ho; simp [defB] at h
  | exp e => trivial
  | def_ c => trivial
theorem ex_defs : DefsOk [exRule, exSpot] := by
  refine ⟨fun k => if k = [121] then (0, 0) else (0, 1), by decide, by decide, ?_, ?_, by decide⟩
  · intro i h c hc j hj
    have hl : (groupsL [exRule, exSpot]).length = 2 := by rfl
    match i, h with
    | 0, _ =>
      have e : (groupsL [exRule, exSpot])[0] = [exRule, exSpot] := rfl
      rw [e] at hc
      simp only [List.mem_cons, List.not_mem_nil, or_false] at hc
      rcases hc with rfl | rfl
      · have e2 : Clause.joins exRule = [⟨bX, [bA]⟩, ⟨bY, []⟩] := rfl
        rw [e2] at hj
        simp only [List.mem_cons, List.not_mem_nil, or_false] at hj
        rcases hj with rfl | rfl <;> rfl
      · have e2 : Clause.joins exSpot = [] := rfl
        rw [e2] at hj; simp at hj
    | 1, h =>
      have e : (groupsL [exRule, exSpot])[1] = [] := rfl
      rw [e] at hc; simp at hc
    | i + 2, h => omega
  · intro p hp
    have e : placesL [exRule, exSpot] = [bP] := rfl
    rw [e] at hp
    simp only [List.mem_cons, List.not_mem_nil, or_false] at hp
    subst hp; rfl
theorem ex_formed : Formed (.proc exT) := by
  refine ⟨by rw [ex_size]; omega, fun q hq => ?_⟩
  have h1 := List.all_eq_true.1 ex_shaped q hq
  simp only [Bool.and_eq_true, decide_eq_true_eq] at h1
  refine ⟨h1.1, h1.2, ?_⟩
  rw [nodesOf_eq] at hq
  rcases List.mem_cons.1 hq with rfl | hq
  · exact fun _ => ex_defs
  · have ha : (nodesL 2 (Part.proc exT).parts).all (fun q => !defB q.1) = true := by kernel_rfl
    have h2 := List.all_eq_true.1 ha q hq
    exact nodeOk_of (by simpa using h2)

end Go.Proofs.YtjmlaeofjjhfmaaGreat
/- What the example's copies are. -/
namespace Go.Proofs.YtjmlaeofjjhfmaaGreat
open Go.RowKit Go.Shelf Go.Maps

def bC : ByteArray := ⟨#[99]⟩
def bD : ByteArray := ⟨#[100]⟩
def bEe : ByteArray := ⟨#[101]⟩
def putRule : Clause := .mk 1 bE [⟨bC, [bA]⟩, ⟨bY, []⟩] [] [sendT bZ [bA, bX]]
def putSpot : Clause := .mk 2 bP [] [] [.mk 6 bQ [] [] [.mk 2 bC [.mk 1 1 bE []] [] []]]
def putT : Term := .mk 4 bE [] [putRule, putSpot] [exBody]
def canRule : Clause := .mk 1 bE [⟨bA, [bEe]⟩, ⟨bC, []⟩] [] [sendT bZ [bEe, bB]]
def canSpot : Clause := .mk 2 bD [] [] [.mk 6 bQ [] [] [.mk 2 bA [.mk 1 1 bE []] [] []]]
def canT : Term := .mk 4 bE [] [canRule, canSpot] [.mk 3 bE [] [] [sendT bC [], .mk 8 bD [] [] [.mk 1 bE [] [] []]]]
theorem put_eq : (copyT ⟨.putting bB (nmE bX), [frame0]⟩ (usedP exT bB (nmE bX)) exT).map (·.1) = some putT := by kernel_rfl
theorem put_none : (copyT ⟨.putting bQ (.mk 1 2 bE []), [frame0]⟩ (usedP exT bQ (.mk 1 2 bE [])) exT).isSome = false := by kernel_rfl
theorem can_eq : (copyT ⟨.anew, [frame0]⟩ (freeN 60 (.proc exT)) exT).map (·.1) = some canT := by kernel_rfl
theorem out_eq : (copyT ⟨.outside, [frame0]⟩ (fun _ => false) exBody).map (·.1) = some exBody := by kernel_rfl
theorem split_eq : (splitT exBody).length = 2 := by kernel_rfl
theorem bound_put : channelsL [putRule, putSpot] ++ placesL [putRule, putSpot] = [bC, bY, bP] := by kernel_rfl
theorem bound_can : channelsL [canRule, canSpot] ++ placesL [canRule, canSpot] = [bA, bC, bD] := by kernel_rfl
theorem put_defs : DefsOk [putRule, putSpot] := by
  refine ⟨fun k => if k = [121] then (0, 0) else (0, 1), by decide, by decide, ?_, ?_, by decide⟩
  · intro i h c hc j hj
    have hl : (groupsL [putRule, putSpot]).length = 2 := by rfl
    match i, h with
    | 0, _ =>
      have e : (groupsL [putRule, putSpot])[0] = [putRule, putSpot] := rfl
      rw [e] at hc
      simp only [List.mem_cons, List.not_mem_nil, or_false] at hc
      rcases hc with rfl | rfl
      · have e2 : Clause.joins putRule = [⟨bC, [bA]⟩, ⟨bY, []⟩] := rfl
        rw [e2] at hj
        simp only [List.mem_cons, List.not_mem_nil, or_false] at hj
        rcases hj with rfl | rfl <;> rfl
      · have e2 : Clause.joins putSpot = [] := rfl
        rw [e2] at hj; simp at hj
    | 1, h =>
      have e : (groupsL [putRule, putSpot])[1] = [] := rfl
      rw [e] at hc; simp at hc
    | i + 2, h => omega
  · intro p hp
    have e : placesL [putRule, putSpot] = [bP] := rfl
    rw [e] at hp
    simp only [List.mem_cons, List.not_mem_nil, or_false] at hp
    subst hp; rfl
theorem can_defs : DefsOk [canRule, canSpot] := by
  refine ⟨fun k => if k = [99] then (0, 0) else (0, 1), by decide, by decide, ?_, ?_, by decide⟩
  · intro i h c hc j hj
    have hl : (groupsL [canRule, canSpot]).length = 2 := by rfl
    match i, h with
    | 0, _ =>
      have e : (groupsL [canRule, canSpot])[0] = [canRule, canSpot] := rfl
      rw [e] at hc
      simp only [List.mem_cons, List.not_mem_nil, or_false] at hc
      rcases hc with rfl | rfl
      · have e2 : Clause.joins canRule = [⟨bA, [bEe]⟩, ⟨bC, []⟩] := rfl
        rw [e2] at hj
        simp only [List.mem_cons, List.not_mem_nil, or_false] at hj
        rcases hj with rfl | rfl <;> rfl
      · have e2 : Clause.joins canSpot = [] := rfl
        rw [e2] at hj; simp at hj
    | 1, h =>
      have e : (groupsL [canRule, canSpot])[1] = [] := rfl
      rw [e] at hc; simp at hc
    | i + 2, h => omega
  · intro p hp
    have e : placesL [canRule, canSpot] = [bD] := rfl
    rw [e] at hp
    simp only [List.mem_cons, List.not_mem_nil, or_false] at hp
    subst hp; rfl
theorem put_size : (Part.proc putT).size = 13 := by rfl
theorem put_shaped : (nodesOf 1 (.proc putT)).all (fun q => q.1.shaped && decide (q.2 ≤ 12)) = true := by kernel_rfl
theorem put_formed : Formed (.proc putT) := by
  refine ⟨by rw [put_size]; omega, fun q hq => ?_⟩
  have h1 := List.all_eq_true.1 put_shaped q hq
  simp only [Bool.and_eq_true, decide_eq_true_eq] at h1
  refine ⟨h1.1, h1.2, ?_⟩
  rw [nodesOf_eq] at hq
  rcases List.mem_cons.1 hq with rfl | hq
  · exact fun _ => put_defs
  · have ha : (nodesL 2 (Part.proc putT).parts).all (fun q => !defB q.1) = true := by kernel_rfl
    have h2 := List.all_eq_true.1 ha q hq
    exact nodeOk_of (by simpa using h2)
theorem body_fine : Fine (.proc exBody) := by
  have ha : ((nodesOf 0 (.proc exBody)).map (·.1)).all Part.shaped = true := by kernel_rfl
  exact fun q hq => List.all_eq_true.1 ha q hq
theorem body_formed : Formed (.proc exBody) := by
  have ha : (nodesOf 1 (.proc exBody)).all (fun q => q.1.shaped && decide (q.2 ≤ 12) && !defB q.1) = true := by kernel_rfl
  refine ⟨by decide, fun q hq => ?_⟩
  have h2 := List.all_eq_true.1 ha q hq
  simp only [Bool.and_eq_true, decide_eq_true_eq] at h2
  exact ⟨h2.1.1, h2.1.2, nodeOk_of (by simpa using h2.2)⟩
theorem writ_stands (p : Part) (k : List UInt8) (h : writtenF p k = true) : k ∈ ((nodesOf 1 p).flatMap (fun q => standsP q.1 :: bindsP q.1)).map bytesOf := by
  unfold writtenF at h
  obtain ⟨q, hq, h⟩ := List.any_eq_true.1 h
  unfold writesB at h
  rw [Bool.or_eq_true] at h
  rcases h with h | h
  · obtain ⟨b, hb, h⟩ := List.any_eq_true.1 h
    exact List.mem_map.2 ⟨b, List.mem_flatMap.2 ⟨q, hq, List.mem_cons_of_mem _ hb⟩, (by simpa using h : k = bytesOf b).symm⟩
  · rw [Bool.and_eq_true] at h
    exact List.mem_map.2 ⟨standsP q.1, List.mem_flatMap.2 ⟨q, hq, List.mem_cons_self ..⟩, (by simpa using h.2 : k = bytesOf (standsP q.1)).symm⟩
theorem used_cov (t : Term) (x : ByteArray) (e : Exp) (m : Nat) (hm : (((nodesOf 1 (.proc t)).flatMap (fun q => standsP q.1 :: bindsP q.1)).map bytesOf ++ (((nodesOf 1 (.exp e)).flatMap (fun q => standsP q.1 :: bindsP q.1)).map bytesOf ++ [bytesOf x])).length ≤ m) : Cov (usedP t x e) m := by
  refine ⟨_, fun k hk => ?_, hm⟩
  unfold usedP at hk
  rw [Bool.or_eq_true, Bool.or_eq_true] at hk
  rcases hk with (hk | hk) | hk
  · exact List.mem_append_left _ (writ_stands _ _ hk)
  · exact List.mem_append_right _ (List.mem_append_left _ (writ_stands _ _ hk))
  · exact List.mem_append_right _ (List.mem_append_right _ (by simpa using hk))
theorem cov_put1 : Cov (usedP exT bB (nmE bX)) 100 := used_cov _ _ _ _ (by decide)
theorem cov_put2 : Cov (usedP exT bQ (.mk 1 2 bE [])) 100 := used_cov _ _ _ _ (by decide)
theorem cov_can : Cov (freeN 60 (.proc exT)) 100 := ⟨_, fun k hk => free_stands _ _ _ hk, by decide⟩
theorem bc_ex : bcT exT = 4 := by decide
theorem bc_body : bcT exBody = 0 := by decide

end Go.Proofs.YtjmlaeofjjhfmaaGreat
