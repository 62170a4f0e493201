/- groups, placesOf. -/
import Derived.Test.YtjmlaeofjjhfmaaGreatP05
set_option linter.unusedVariables false
set_option linter.unusedSimpArgs false
namespace Go.Proofs.YtjmlaeofjjhfmaaGreat
open Go.RowKit Go.Maps

def Clause.form : Clause → Int | .mk f _ _ _ _ => f
def Clause.text : Clause → ByteArray | .mk _ t _ _ _ => t
def Clause.joins : Clause → List Msg | .mk _ _ j _ _ => j
def Clause.defs : Clause → List Clause | .mk _ _ _ d _ => d
def Clause.kids : Clause → List Term | .mk _ _ _ _ k => k

mutual
def groupsC : Clause → List (List Clause)
  | .mk f _ _ d _ => if f = 2 then d :: groupsI d else []
def groupsI : List Clause → List (List Clause)
  | [] => []
  | c :: cs => groupsC c ++ groupsI cs
end
/-- groups: the definitions, then those of each place. -/
def groupsL (d : List Clause) : List (List Clause) := d :: groupsI d
mutual
def placesC : Clause → List ByteArray
  | .mk f t _ d _ => if f = 2 then t :: placesL d else []
def placesL : List Clause → List ByteArray
  | [] => []
  | c :: cs => placesC c ++ placesL cs
end
def csize (d : List Clause) : Nat := (nodesCs 0 d).length

theorem groupsI_take (d : List Clause) (k : Nat) (h : k < d.length) : groupsI (d.take (k + 1)) = groupsI (d.take k) ++ groupsC d[k] := by
  have e : ∀ a b : List Clause, groupsI (a ++ b) = groupsI a ++ groupsI b := by
    intro a b; induction a with
    | nil => rfl
    | cons x a ih => simp [groupsI, ih]
  rw [List.take_succ_eq_append_getElem h, e]; simp [groupsI]
theorem placesL_take (d : List Clause) (k : Nat) (h : k < d.length) : placesL (d.take (k + 1)) = placesL (d.take k) ++ placesC d[k] := by
  have e : ∀ a b : List Clause, placesL (a ++ b) = placesL a ++ placesL b := by
    intro a b; induction a with
    | nil => rfl
    | cons x a ih => simp [placesL, ih]
  rw [List.take_succ_eq_append_getElem h, e]; simp [placesL]

theorem csize_part {d : List Clause} {k : Nat} (h : k < d.length) : csize (d[k]).defs < csize d := by
  obtain ⟨a, b, e⟩ := List.append_of_mem (List.getElem_mem h)
  have e2 : csize d = (nodesL 0 (d.map .def_)).length := by rw [csize, nodesCs_eq]
  have e3' : ∀ c : Clause, csize c.defs ≤ (nodesC 1 c).length - 1 ∧ 1 ≤ (nodesC 1 c).length := by
    intro c; obtain ⟨f, t, j, dd, kk⟩ := c
    simp only [Clause.defs, nodesC, List.length_cons, List.length_append, csize]
    rw [nodesCs_len 0 (1 + 1)]; omega
  have e3 := (e3' d[k]).1
  have e5 := (e3' d[k]).2
  have e4' : ∀ (c : Clause) (a b : List Clause), (nodesC 0 c).length ≤ (nodesL 0 ((a ++ c :: b).map .def_)).length := by
    intro c a b
    rw [List.map_append, List.map_cons, nodesL_append]
    have : nodesL 0 (Part.def_ c :: b.map .def_) = nodesC 0 c ++ nodesL 0 (b.map .def_) := by simp [nodesL, nodesOf]
    rw [this, List.length_append, List.length_append]; omega
  have e4 := e4' d[k] a b
  rw [← e] at e4
  rw [nodesC_len 0 1] at e4
  omega

theorem len_csize : ∀ d : List Clause, d.length ≤ csize d
  | [] => by simp
  | c :: cs => by
    have := len_csize cs
    have h1 : 1 ≤ (nodesC 0 c).length := by obtain ⟨f, t, j, dd, kk⟩ := c; simp [nodesC]
    simp only [csize, nodesCs, List.length_append, List.length_cons] at this ⊢; omega

mutual
theorem groupsC_len : ∀ c : Clause, (groupsC c).length ≤ (nodesC 0 c).length
  | .mk f _ _ d k => by
    have := groupsI_len d
    unfold groupsC
    split
    · simp [nodesC]; rw [nodesCs_len 1 0]; omega
    · simp
theorem groupsI_len : ∀ d : List Clause, (groupsI d).length ≤ (nodesCs 0 d).length
  | [] => by simp [groupsI]
  | c :: cs => by have := groupsC_len c; have := groupsI_len cs; simp [groupsI, nodesCs]; omega
end
mutual
theorem placesC_len : ∀ c : Clause, (placesC c).length ≤ (nodesC 0 c).length
  | .mk f _ _ d k => by
    have := placesL_len d
    unfold placesC
    split
    · simp [nodesC]; rw [nodesCs_len 1 0]; omega
    · simp
theorem placesL_len : ∀ d : List Clause, (placesL d).length ≤ (nodesCs 0 d).length
  | [] => by simp [placesL]
  | c :: cs => by have := placesC_len c; have := placesL_len cs; simp [placesL, nodesCs]; omega
end

theorem info30 : (Tryz.prog.info? 30).map (fun i => (i.zero, i.size, i.bytes)) = some (some (.slice none 0 0), 1, 24) := by kernel_rfl

/-- The slice values vs are the lists gs of definitions. -/
def GroupsAt (B : Nat) (u : World) (vs : List Value) (gs : List (List Clause)) : Prop :=
  vs.length = gs.length ∧ ∀ i, (h : i < vs.length) → (h' : i < gs.length) → SlAt B vs[i] (gs[i]).length (fun b off => ClausesAt B u b off gs[i])
theorem GroupsAt.append {B : Nat} {u : World} {v1 v2 : List Value} {g1 g2 : List (List Clause)} (h : GroupsAt B u v1 g1) (k : GroupsAt B u v2 g2) : GroupsAt B u (v1 ++ v2) (g1 ++ g2) := by
  refine ⟨by simp [h.1, k.1], fun i hi hi' => ?_⟩
  by_cases hl : i < v1.length
  · rw [List.getElem_append_left hl, List.getElem_append_left (by have := h.1; omega)]; exact h.2 i hl (by have := h.1; omega)
  · have e := h.1
    rw [List.getElem_append_right (by omega), List.getElem_append_right (by omega)]
    simp only [e]
    exact k.2 _ (by simp at hi; omega) (by simp at hi'; omega)
theorem GroupsAt.one {B : Nat} {u : World} {vs : List Value} {gs : List (List Clause)} (h : GroupsAt B u vs gs) : ∀ v ∈ vs, v.oneCell' = true := by
  intro v hv
  obtain ⟨i, hi, rfl⟩ := List.getElem_of_mem hv
  obtain ⟨a, cap, e, _⟩ := h.2 i hi (by rw [← h.1]; exact hi)
  rw [e]; rfl

set_option maxRecDepth 10000 in
set_option maxHeartbeats 1000000 in
theorem groups_any (B : Nat) (u : World) : ∀ (s : Nat) (d : List Clause), csize d ≤ s → s ≤ 900 → ∀ (a : Option Addr) (cap : Nat) (w : World), KeptC B u w → B ≤ w.heap.size →
    (d.length = 0 ∨ ∃ b off, a = some ⟨b, off, none⟩ ∧ b < B ∧ ClausesAt B u b off d) → (∀ c ∈ d, True) →
    Calls Tryz.prog 129 #[.slice a d.length cap] w fun e w' => ∃ r vs, e = .returned r ∧ w'.ownsRow w.heap.size 30 1 r vs.length vs ∧ GroupsAt B u vs (groupsL d) ∧ Below w.heap.size w w' := by
  intro s
  induction s with
  | zero =>
    intro d hds hs9 a cap w hu hBs hd _
    have : d = [] := by have := len_csize d; exact List.eq_nil_of_length_eq_zero (by omega)
    subst this
    go_enter Tryz.func129, Tryz.ntmps129
    go_wp2
    refine wp_loop_rounds 1 ?_
    rw [rounds_succ]
    go_wp2
    go_ret
    refine ⟨_, [.slice a 0 cap], rfl, ⟨by simp, .inr ⟨w.heap.size, 1, #[.slice a 0 cap], rfl, Nat.le_refl _, World.alloc_heap_new w _, by simp, by unfold maxLen; omega, rfl, rfl⟩⟩, ⟨rfl, ?_⟩, (Below.refl _ w).alloc (Nat.le_refl _) _⟩
    · intro i h h'
      have : i = 0 := by simp at h; omega
      subst this
      exact ⟨a, cap, rfl, Nat.zero_le _, .inl rfl⟩
  | succ s ih =>
    intro d hds hs9 a cap w hu hBs hd _
    obtain ⟨i0, hi, hz0, hz1, hz2⟩ := info_parts info30
    have hdl : d.length ≤ 900 := by have := len_csize d; omega
    have hgl : (groupsI d).length ≤ 900 := by have := groupsI_len d; unfold csize at hds; omega
    have ho0 : (w.alloc (.cells #[.slice a d.length cap] 30)).ownsRow w.heap.size 30 1 (.slice (some ⟨w.heap.size, 0, none⟩) 1 1) 1 [.slice a d.length cap] :=
      ⟨by simp, .inr ⟨w.heap.size, 1, #[.slice a d.length cap], rfl, Nat.le_refl _, World.alloc_heap_new w _, by simp, by unfold maxLen; omega, rfl, rfl⟩⟩
    have hg0 : GroupsAt B u [.slice a d.length cap] [d] := ⟨rfl, fun i h h' => by
      have : i = 0 := by simp at h; omega
      subst this
      exact ⟨a, cap, rfl, by show d.length ≤ _; omega, hd⟩⟩
    go_enter Tryz.func129, Tryz.ntmps129
    go_wp2
    go_loopw [3, 10] (fun v i wr => ∃ (k : Nat) (vs : List Value), k ≤ d.length ∧ i = .int .i64 k ∧ Below w.heap.size w wr ∧ wr.ownsRow w.heap.size 30 1 v vs.length vs ∧ GroupsAt B u vs (d :: groupsI (d.take k))) (fun _ i _ => d.length - (intOf i).toNat)
    case atStart => exact ⟨0, _, by omega, rfl, (Below.refl _ w).alloc (Nat.le_refl _) _, ho0, hg0⟩
    case round =>
      obtain ⟨k, vs, hk', rfl, hB, ho, hg⟩ := hrel
      have hsz := hB.size
      by_cases hlt : k < d.length
      · rcases hd with h0 | ⟨b, off, rfl, hb, hcl⟩
        · omega
        obtain ⟨cs, hcs, hce⟩ := hcl.get d b off k hlt
        have hpart := csize_part hlt
        have htk := groupsI_take d k hlt
        have hvl : vs.length ≤ 901 := by
          have := hg.1
          have h2 : (groupsI (d.take k)).length ≤ (groupsI d).length := by
            have e : ∀ a b : List Clause, groupsI (a ++ b) = groupsI a ++ groupsI b := by
              intro a b; induction a with
              | nil => rfl
              | cons x a ih => simp [groupsI, ih]
            conv => rhs; rw [← List.take_append_drop k d, e, List.length_append]
            omega
          simp at this; omega
        obtain ⟨c, hc⟩ : ∃ c, c = d[k] := ⟨_, rfl⟩
        rw [← hc] at hce hpart htk
        obtain ⟨f, t, j, dd, kk⟩ := c
        have hce' := hce
        unfold ClauseAt at hce
        obtain ⟨_, _, _, _, rfl, ⟨a0, p0, rfl, _⟩, ⟨a1, p1, rfl, _, hdd⟩, ⟨a2, p2, rfl, _⟩⟩ := hce
        obtain ⟨c0, c1, c2, c3, c4⟩ := cells5 ((hcs.keep hu hb).below hB (by omega))
        simp only [Clause.defs] at hpart
        by_cases hf : f = 2
        · subst hf
          have HTK := Lib.hid htk; clear htk
          have hBx : Below wr.heap.size wr (wr.alloc (.cells #[.int .i64 2, .string t, .slice a0 j.length p0, .slice a1 dd.length p1, .slice a2 kk.length p2] 130)) := (Below.refl _ wr).alloc (Nat.le_refl _) _
          have hrec := ih dd (by omega) (by omega) a1 p1 (wr.alloc (.cells #[.int .i64 2, .string t, .slice a0 j.length p0, .slice a1 dd.length p1, .slice a2 kk.length p2] 130)) (hu.trans ((Below.keptC (hB.trans (hBx.mono hsz))).mono hBs)) (by simp; omega) hdd (fun _ _ => trivial)
          go_wp2_with fail
          refine hrec.mono ?_
          clear hrec
          rintro e w1 ⟨r, vs1, rfl, ho1, hg1, hb1⟩
          have hrl : vs1.length ≤ 901 := by
            have := hg1.1; have h2 := groupsI_len dd; simp [groupsL] at this; unfold csize at hpart hds; omega
          have hB1 : Below w.heap.size w w1 := (hB.trans (hBx.mono hsz)).trans (hb1.mono (by simp; omega))
          have ho' : w1.ownsRow w.heap.size 30 1 u3 vs.length vs := ownsRow_kept (ho.alloc (.cells #[.int .i64 2, .string t, .slice a0 j.length p0, .slice a1 dd.length p1, .slice a2 kk.length p2] 130)) (grown_of_below hb1) (fun g _ e => by cases e)
          have hg' : GroupsAt B u (vs ++ vs1) (d :: groupsI (d.take (k + 1))) := by
            rw [HTK.out]; simp only [groupsC]; exact hg.append hg1
          have HG := Lib.hid hg'; clear hg'
          have hone := hg1.one
          have hge : 1 ≤ vs1.length := by have := hg1.1; simp [groupsL] at this; omega
          obtain ⟨hlr, ⟨rfl, h0⟩ | ⟨g, rc, cur, rfl, hgb, hgh, hgn, hgm, hgs, hgt⟩⟩ := ho1
          · omega
          have hnews : Hid (∀ jj x, vs1[jj]? = some x → w1.cell? ((⟨g, 0, none⟩ : Addr).add jj) = some x) := Lib.hid (fun jj x hx => by
            simp only [Nat.mul_one] at hgt hgs
            have hj1 : jj < vs1.length := (List.getElem?_eq_some_iff.1 hx).1
            have e : (⟨g, 0, none⟩ : Addr).add jj = ⟨g, jj, none⟩ := by unfold Addr.add; by_cases h : jj = 0 <;> simp [h]
            rw [e]
            have : vs1[jj]? = (cur.toList.take vs1.length)[jj]? := by rw [hgt]
            rw [List.getElem?_take_of_lt hj1, hx] at this
            simp [World.cell?, hgh]; simpa using this.symm)
          clear hgt hgs hgh hgn hgm hlr
          go_wp2_with (show wpList _ _ _ (⟨some 21, _, _, _, _, _⟩ :: _) _ _; refine wpList_append_own _ rfl (.tmp 17) (.tmp 20) 163 rfl w.heap.size 30 i0 (.slice none 0 0) 1 24 Tryz.underlying163 hi hz0 hz1 hz2 rfl (by decide) _ _ _ rfl ho' ⟨g, 0, none⟩ vs1.length rc vs1 rfl (by omega) hnews.out hone (by unfold maxLen; omega) (by omega) hB1.size ?_; intro v' w2 o2 g2 _)
          go_roundw
          case rel => exact ⟨k + 1, vs ++ vs1, by omega, by go_num, hB1.grown g2 hB1.size (fun k e => (ho'.lt k e).1), by rw [List.length_append]; exact o2, HG.out⟩
          case measure => simp [intOf]; omega
        · have hfb : ((f : Int) == 2) = false := by simpa using hf
          have htk' : groupsI (d.take (k + 1)) = groupsI (d.take k) := by rw [htk]; simp [groupsC, hf]
          have HTK := Lib.hid htk'; clear htk htk'
          go_wp2
          go_roundw
          case rel => exact ⟨k + 1, vs, by omega, by go_num, hB.alloc hsz _, ho.alloc _, by rw [HTK.out]; exact hg⟩
          case measure => simp [intOf]; omega
      · obtain rfl : k = d.length := by omega
        rw [List.take_length] at hg
        go_wp2
        go_ret
        exact ⟨_, vs, rfl, ho, hg, hB⟩

theorem strs_append {w : World} {B : Nat} {v : Value} {ss : List ByteArray} (h : StrsAt B w v ss) (hne : ss ≠ []) : ∃ g off cap, v = .slice (some ⟨g, off, none⟩) ss.length cap ∧ ∀ jj x, (strVals ss)[jj]? = some x → w.cell? ((⟨g, off, none⟩ : Addr).add jj) = some x := by
  obtain ⟨a, cap, rfl, hl, hz, hcap, h⟩ := h
  rcases h with h | ⟨b, off, rfl, hB, hc⟩
  · exact absurd h hne
  · refine ⟨b, off, cap, rfl, fun jj x hx => ?_⟩
    have hj : jj < ss.length := by have := (List.getElem?_eq_some_iff.1 hx).1; simpa [strVals] using this
    have e : (⟨b, off, none⟩ : Addr).add jj = ⟨b, off + jj, none⟩ := by unfold Addr.add; by_cases h : jj = 0 <;> simp [h]
    rw [e]
    simp [strVals, hj] at hx
    subst hx
    exact hc jj hj

set_option maxRecDepth 10000 in
set_option maxHeartbeats 1000000 in
theorem places_any (B : Nat) (u : World) : ∀ (s : Nat) (d : List Clause), csize d ≤ s → s ≤ 900 → ∀ (a : Option Addr) (cap : Nat) (w : World), KeptC B u w → B ≤ w.heap.size →
    (d.length = 0 ∨ ∃ b off, a = some ⟨b, off, none⟩ ∧ b < B ∧ ClausesAt B u b off d) →
    Calls Tryz.prog 77 #[.slice a d.length cap] w fun e w' => ∃ r, e = .returned r ∧ w'.ownsRow w.heap.size 9 1 r (placesL d).length (strVals (placesL d)) ∧ (∀ t ∈ placesL d, t.size ≤ maxLen) ∧ Below w.heap.size w w' := by
  intro s
  induction s with
  | zero =>
    intro d hds hs9 a cap w hu hBs hd
    have : d = [] := by have := len_csize d; exact List.eq_nil_of_length_eq_zero (by omega)
    subst this
    go_enter Tryz.func77, Tryz.ntmps77
    go_wp2
    refine wp_loop_rounds 1 ?_
    rw [rounds_succ]
    go_wp2
    go_ret
    exact ⟨_, rfl, World.ownsRow_nil _ _ _ _, by simp [placesL], Below.refl _ _⟩
  | succ s ih =>
    intro d hds hs9 a cap w hu hBs hd
    obtain ⟨i0, hi, hz0, hz1, hz2⟩ := info_parts info9
    have hdl : d.length ≤ 900 := by have := len_csize d; omega
    go_enter Tryz.func77, Tryz.ntmps77
    go_wp2
    go_loopw [3, 8] (fun v i wr => ∃ (k : Nat), k ≤ d.length ∧ i = .int .i64 k ∧ Below w.heap.size w wr ∧ wr.ownsRow w.heap.size 9 1 v (placesL (d.take k)).length (strVals (placesL (d.take k))) ∧ (∀ t ∈ placesL (d.take k), t.size ≤ maxLen)) (fun _ i _ => d.length - (intOf i).toNat)
    case atStart => exact ⟨0, by omega, rfl, Below.refl _ _, World.ownsRow_nil _ _ _ _, by simp [placesL]⟩
    case round =>
      obtain ⟨k, hk', rfl, hB, ho, hg⟩ := hrel
      have hsz := hB.size
      by_cases hlt : k < d.length
      · rcases hd with h0 | ⟨b, off, rfl, hb, hcl⟩
        · omega
        obtain ⟨cs, hcs, hce⟩ := hcl.get d b off k hlt
        have hpart := csize_part hlt
        have htk := placesL_take d k hlt
        have hvl : (placesL (d.take k)).length ≤ 900 := by
          have e : ∀ a b : List Clause, placesL (a ++ b) = placesL a ++ placesL b := by
            intro a b; induction a with
            | nil => rfl
            | cons x a ih => simp [placesL, ih]
          have h2 : (placesL (d.take k)).length ≤ (placesL d).length := by
            conv => rhs; rw [← List.take_append_drop k d, e, List.length_append]
            omega
          have := placesL_len d; unfold csize at hds; omega
        obtain ⟨c, hc⟩ : ∃ c, c = d[k] := ⟨_, rfl⟩
        rw [← hc] at hce hpart htk
        obtain ⟨f, t, j, dd, kk⟩ := c
        unfold ClauseAt at hce
        obtain ⟨htz, _, _, _, rfl, ⟨a0, p0, rfl, _⟩, ⟨a1, p1, rfl, _, hdd⟩, ⟨a2, p2, rfl, _⟩⟩ := hce
        obtain ⟨c0, c1, c2, c3, c4⟩ := cells5 ((hcs.keep hu hb).below hB (by omega))
        simp only [Clause.defs] at hpart
        have hBx : Below wr.heap.size wr (wr.alloc (.cells #[.int .i64 f, .string t, .slice a0 j.length p0, .slice a1 dd.length p1, .slice a2 kk.length p2] 130)) := (Below.refl _ wr).alloc (Nat.le_refl _) _
        by_cases hf : f = 2
        · subst hf
          have HTK := Lib.hid htk; clear htk
          have hox := ho.alloc (.cells #[.int .i64 2, .string t, .slice a0 j.length p0, .slice a1 dd.length p1, .slice a2 kk.length p2] 130)
          have hcell : (wr.alloc (.cells #[.int .i64 2, .string t, .slice a0 j.length p0, .slice a1 dd.length p1, .slice a2 kk.length p2] 130)).cell? ⟨wr.heap.size, 3, none⟩ = some (.slice a1 dd.length p1) := by
            rw [World.cell?_alloc_at _ _ _ _ rfl]; rfl
          have hpd : (placesL dd).length ≤ 900 := by have := placesL_len dd; unfold csize at hpart hds; omega
          have hol := Lib.hid ho.lt
          have D1 : Hid (∀ w1, ((wr.alloc (.cells #[.int .i64 2, .string t, .slice a0 j.length p0, .slice a1 dd.length p1, .slice a2 kk.length p2] 130)).alloc (.cells #[.string t] 9)).grownBy w1 u3.ownBlock → w1.cell? ⟨wr.heap.size, 3, none⟩ = some (.slice a1 dd.length p1) ∧ Below w.heap.size w w1) := Lib.hid (fun w1 g1 => by
            refine ⟨(World.cell?_of_block (w := (wr.alloc (.cells #[.int .i64 2, .string t, .slice a0 j.length p0, .slice a1 dd.length p1, .slice a2 kk.length p2] 130)).alloc (.cells #[.string t] 9)) (g1.block wr.heap.size (by simp; omega) (by intro e; have := hol.out _ e.symm; omega))).trans ?_, ?_⟩
            · rw [World.cell?_alloc_past _ _ _ (by simp)]; exact hcell
            · exact ((hB.alloc hsz _).alloc (by simp; omega) _).grown g1 (by simp; omega) (fun k e => (hol.out k e).1))
          clear hcell
          go_wp2_with (show wpList _ _ _ (⟨some 19, _, _, _, _, _⟩ :: _) _ _; refine wpList_append_own_at _ rfl (.tmp 15) (.tmp 18) 22 rfl w.heap.size 9 i0 (.string ⟨#[]⟩) 1 16 Tryz.underlying22 hi hz0 hz1 hz2 rfl (by decide) _ _ _ rfl (hox.alloc _) ⟨wr.heap.size + 1, 0, none⟩ 1 1 [.string t] rfl rfl (cell_one_at _ _ _ _ (by simp)) (by simp [Value.oneCell']) (by unfold maxLen; omega) (by omega) (by simp; omega) ?_; intro v1 w1 o1 g1 _ p1'; obtain ⟨hcw, hB1⟩ := D1.out w1 g1)
          have hrec := ih dd (by omega) (by omega) a1 p1 w1 (hu.trans ((Below.keptC hB1).mono hBs)) (by have := hB1.size; omega) hdd
          refine hrec.mono ?_
          clear hrec
          rintro e w2 ⟨r, rfl, ho2, hz2', hb2⟩
          have hB2 : Below w.heap.size w w2 := hB1.trans (hb2.mono hB1.size)
          have ho1' : w2.ownsRow w.heap.size 9 1 v1 ((placesL (d.take k)).length + 1) (strVals (placesL (d.take k)) ++ [.string t]) := ownsRow_kept o1 (grown_of_below hb2) (fun g _ e => by cases e)
          have hall : ∀ x ∈ placesL (d.take (k + 1)), x.size ≤ maxLen := by
            rw [HTK.out]; simp only [placesC]; intro x hx
            rcases List.mem_append.1 hx with hx | hx
            · exact hg x hx
            · simp at hx; rcases hx with rfl | hx
              · exact htz
              · exact hz2' x hx
          have hlen2 : (placesL (d.take (k + 1))).length = (placesL (d.take k)).length + 1 + (placesL dd).length := by rw [HTK.out]; simp [placesC]; omega
          have hval2 : strVals (placesL (d.take (k + 1))) = strVals (placesL (d.take k)) ++ [.string t] ++ strVals (placesL dd) := by rw [HTK.out]; simp [placesC, strVals]
          have HL2 := Lib.hid hlen2; have HV2 := Lib.hid hval2; clear hlen2 hval2
          by_cases hpe : placesL dd = []
          · rw [hpe] at ho2 HL2 HV2
            obtain ⟨_, ⟨rfl, _⟩ | ⟨g, rc, cur, rfl, _⟩⟩ := ho2
            · go_wp2_with (show wpList _ _ _ (⟨some 24, _, _, _, _, _⟩ :: _) _ _; refine wpList_append_own_none rfl (.tmp 20) (.tmp 23) 22 rfl w.heap.size 9 i0 1 Tryz.underlying22 hi _ _ _ rfl ho1' rfl ?_)
              go_roundw
              case rel => exact ⟨k + 1, by omega, by go_num, hB2, by rw [HL2.out, HV2.out]; simpa [strVals] using ho1', hall⟩
              case measure => simp [intOf]; omega
            · go_wp2_with (show wpList _ _ _ (⟨some 24, _, _, _, _, _⟩ :: _) _ _; refine wpList_append_own _ rfl (.tmp 20) (.tmp 23) 22 rfl w.heap.size 9 i0 (.string ⟨#[]⟩) 1 16 Tryz.underlying22 hi hz0 hz1 hz2 rfl (by decide) _ _ _ rfl ho1' ⟨g, 0, none⟩ 0 rc [] rfl rfl (by simp) (by simp) (by unfold maxLen; omega) (by omega) hB2.size ?_; intro v3 w3 o3 g3 _)
              go_roundw
              case rel => exact ⟨k + 1, by omega, by go_num, hB2.grown g3 hB2.size (fun k e => (ho1'.lt k e).1), by rw [HL2.out, HV2.out]; simpa [strVals] using o3, hall⟩
              case measure => simp [intOf]; omega
          · obtain ⟨g, goff, gcap, rfl, hnews⟩ := strs_append (strs_of_owns ho2 hz2') hpe
            have HN := Lib.hid hnews; clear hnews
            go_wp2_with (show wpList _ _ _ (⟨some 24, _, _, _, _, _⟩ :: _) _ _; refine wpList_append_own _ rfl (.tmp 20) (.tmp 23) 22 rfl w.heap.size 9 i0 (.string ⟨#[]⟩) 1 16 Tryz.underlying22 hi hz0 hz1 hz2 rfl (by decide) _ _ _ rfl ho1' ⟨g, goff, none⟩ (placesL dd).length gcap (strVals (placesL dd)) rfl (by simp [strVals]) HN.out (by simp [strVals, Value.oneCell']) (by unfold maxLen; omega) (by omega) hB2.size ?_; intro v3 w3 o3 g3 _)
            go_roundw
            case rel => exact ⟨k + 1, by omega, by go_num, hB2.grown g3 hB2.size (fun k e => (ho1'.lt k e).1), by rw [HL2.out, HV2.out]; exact o3, hall⟩
            case measure => simp [intOf]; omega
        · have hfb : ((f : Int) == 2) = false := by simpa using hf
          have htk' : placesL (d.take (k + 1)) = placesL (d.take k) := by rw [htk]; simp [placesC, hf]
          have HTK := Lib.hid htk'; clear htk htk'
          go_wp2
          go_roundw
          case rel => exact ⟨k + 1, by omega, by go_num, hB.alloc hsz _, by rw [HTK.out]; exact ho.alloc _, by rw [HTK.out]; exact hg⟩
          case measure => simp [intOf]; omega
      · obtain rfl : k = d.length := by omega
        rw [List.take_length] at hg ho
        go_wp2
        go_ret
        exact ⟨_, rfl, ho, hg, hB⟩

end Go.Proofs.YtjmlaeofjjhfmaaGreat
