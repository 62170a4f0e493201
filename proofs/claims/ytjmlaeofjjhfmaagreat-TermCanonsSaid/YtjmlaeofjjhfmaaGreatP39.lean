/- agree, whatever comes in. -/
import Derived.Test.YtjmlaeofjjhfmaaGreatP08
import Derived.Test.YtjmlaeofjjhfmaaGreatP37
set_option linter.unusedVariables false
set_option linter.unusedSimpArgs false
namespace Go.Proofs.YtjmlaeofjjhfmaaGreat
open Go.RowKit Go.Maps Go.WideMaps

theorem neq195' (a b c d : Int) (h : (a, b) ≠ (c, d)) (w : World) : (binOp .neq 195 (.agg #[.int .i64 a, .int .i64 b]) (.agg #[.int .i64 c, .int .i64 d])).run Tryz.prog w = .ok (.bool true) w := by
  have : ¬ (a = c ∧ b = d) := fun ⟨h1, h2⟩ => h (by rw [h1, h2])
  by_cases h1 : a = c
  · have h2 : ¬ b = d := fun e => this ⟨h1, e⟩
    simp [binOp, Op.equal, Op.maxDepth, go_sem, h1, h2]
  · simp [binOp, Op.equal, Op.maxDepth, go_sem, h1]

/-- How channels stand in Joins: each with its group, and how many names it has, in order. -/
def usesC (i : Nat) (c : Clause) : List (List UInt8 × (Int × Int)) := c.joins.map (fun j => (bytesOf j.text, ((i : Int), (j.names.length : Int))))
def usesG (i : Nat) (g : List Clause) : List (List UInt8 × (Int × Int)) := g.flatMap (usesC i)
def usesFrom : Nat → List (List Clause) → List (List UInt8 × (Int × Int))
  | _, [] => []
  | i, g :: gs => usesG i g ++ usesFrom (i + 1) gs
def uses (gs : List (List Clause)) : List (List UInt8 × (Int × Int)) := usesFrom 0 gs
/-- The first one of a list for a key. -/
def useOf : List (List UInt8 × (Int × Int)) → List UInt8 → Int × Int
  | [], _ => (0, 0)
  | x :: l, k => if x.1 = k then x.2 else useOf l k
theorem useOf_skip (a b : List (List UInt8 × (Int × Int))) (k : List UInt8) (h : inSet (a.map (·.1)) k = false) : useOf (a ++ b) k = useOf b k := by
  induction a with
  | nil => rfl
  | cons x a ih =>
    simp only [inSet, List.map_cons, List.any_cons, Bool.or_eq_false_iff, beq_eq_false_iff_ne, ne_eq] at h
    rw [List.cons_append, useOf, if_neg h.1]
    exact ih h.2
theorem usesFrom_append (i : Nat) (a b : List (List Clause)) : usesFrom i (a ++ b) = usesFrom i a ++ usesFrom (i + a.length) b := by
  induction a generalizing i with
  | nil => simp [usesFrom]
  | cons x a ih => simp [usesFrom, ih, List.append_assoc, Nat.add_comm, Nat.add_left_comm]
theorem usesG_fst (i : Nat) (g : List Clause) : (usesG i g).map (·.1) = (gtexts g).map bytesOf := by
  unfold usesG gtexts usesC
  rw [List.map_flatMap, List.map_flatMap]
  congr 1
  funext c
  simp
theorem usesFrom_fst (i : Nat) (gs : List (List Clause)) : (usesFrom i gs).map (·.1) = (alltexts gs).map bytesOf := by
  induction gs generalizing i with
  | nil => rfl
  | cons g gs ih =>
    have e : alltexts (g :: gs) = gtexts g ++ alltexts gs := by simp [alltexts]
    rw [usesFrom, List.map_append, usesG_fst, ih, e, List.map_append]

def Ent (gs : List (List Clause)) (U : List UInt8 → Int × Int) (T : List ByteArray) (x : ByteArray) (i m : Nat) : Prop :=
  (bytesOf x, ((i : Int), (m : Int))) ∈ uses gs ∧ (inSet (T.map bytesOf) (bytesOf x) = false → U (bytesOf x) = ((i : Int), (m : Int)))

theorem ent_of (gs : List (List Clause)) (k1 : Nat) (h1 : k1 < gs.length) (k2 : Nat) (h2 : k2 < (gs[k1]).length) (k3 : Nat) (h3 : k3 < ((gs[k1])[k2]).joins.length) :
    Ent gs (useOf (uses gs)) (alltexts (gs.take k1) ++ gtexts ((gs[k1]).take k2) ++ (((gs[k1])[k2]).joins.take k3).map (·.text)) (((gs[k1])[k2]).joins[k3]).text k1 (((gs[k1])[k2]).joins[k3]).names.length := by
  obtain ⟨g, hg⟩ : ∃ g, g = gs[k1] := ⟨_, rfl⟩
  have e1 : uses gs = usesFrom 0 (gs.take k1) ++ (usesG k1 g ++ usesFrom (k1 + 1) (gs.drop (k1 + 1))) := by
    conv => lhs; rw [uses, ← List.take_append_drop k1 gs, ← List.getElem_cons_drop h1, usesFrom_append]
    rw [usesFrom, hg, List.length_take, Nat.min_eq_left (Nat.le_of_lt h1), Nat.zero_add]
  subst hg
  obtain ⟨g, hg⟩ : ∃ g, g = gs[k1] := ⟨_, rfl⟩
  simp only [← hg] at e1 h2 h3 ⊢
  obtain ⟨c, hc⟩ : ∃ c, c = g[k2] := ⟨_, rfl⟩
  have e2 : usesG k1 g = usesG k1 (g.take k2) ++ (usesC k1 c ++ usesG k1 (g.drop (k2 + 1))) := by
    conv => lhs; rw [usesG, ← List.take_append_drop k2 g, ← List.getElem_cons_drop h2]
    rw [List.flatMap_append, List.flatMap_cons, hc]; rfl
  simp only [← hc] at h3 ⊢
  obtain ⟨j, hj⟩ : ∃ j, j = c.joins[k3] := ⟨_, rfl⟩
  have e3 : usesC k1 c = (c.joins.take k3).map (fun j => (bytesOf j.text, ((k1 : Int), (j.names.length : Int)))) ++ ((bytesOf j.text, ((k1 : Int), (j.names.length : Int))) :: (c.joins.drop (k3 + 1)).map (fun j => (bytesOf j.text, ((k1 : Int), (j.names.length : Int))))) := by
    conv => lhs; rw [usesC, ← List.take_append_drop k3 c.joins, ← List.getElem_cons_drop h3]
    rw [List.map_append, List.map_cons, hj]
  simp only [← hj]
  rw [e2, e3] at e1
  constructor
  · rw [e1]; simp
  · intro hin
    have e4 : uses gs = (usesFrom 0 (gs.take k1) ++ usesG k1 (g.take k2) ++ (c.joins.take k3).map (fun j => (bytesOf j.text, ((k1 : Int), (j.names.length : Int))))) ++ ((bytesOf j.text, ((k1 : Int), (j.names.length : Int))) :: ((c.joins.drop (k3 + 1)).map (fun j => (bytesOf j.text, ((k1 : Int), (j.names.length : Int)))) ++ (usesG k1 (g.drop (k2 + 1)) ++ usesFrom (k1 + 1) (gs.drop (k1 + 1))))) := by
      rw [e1]; simp [List.append_assoc]
    rw [e4, useOf_skip]
    · rw [useOf, if_pos rfl]
    · rw [List.map_append, List.map_append, usesFrom_fst, usesG_fst]
      rw [List.map_append, List.map_append] at hin
      rw [← hin]
      congr 2
      rw [List.map_map, List.map_map]
      rfl

/-- What agree says. -/
def agreeB (d : List Clause) : Bool :=
  (uses (groupsL d)).all (fun x => useOf (uses (groupsL d)) x.1 == x.2) && (placesL d).all (fun p => !inSet ((alltexts (groupsL d)).map bytesOf) (bytesOf p)) && decide ((placesL d).map bytesOf).Nodup

theorem agreeB_use {d : List Clause} (T : List ByteArray) (x : ByteArray) (i m : Nat) (h : Ent (groupsL d) (useOf (uses (groupsL d))) T x i m) (hn : useOf (uses (groupsL d)) (bytesOf x) ≠ ((i : Int), (m : Int))) : agreeB d = false := by
  unfold agreeB
  have : (uses (groupsL d)).all (fun x => useOf (uses (groupsL d)) x.1 == x.2) = false := by
    rw [List.all_eq_false]; exact ⟨_, h.1, by simpa using hn⟩
  rw [this]; rfl
def upToJ (U : List UInt8 → Int × Int) (i : Nat) (js : List Msg) : Prop := ∀ j ∈ js, U (bytesOf j.text) = ((i : Int), (j.names.length : Int))
def upToG (U : List UInt8 → Int × Int) (i : Nat) (g : List Clause) : Prop := ∀ c ∈ g, upToJ U i c.joins
def upTo (gs : List (List Clause)) (U : List UInt8 → Int × Int) (k : Nat) : Prop := ∀ i, (h : i < gs.length) → i < k → upToG U i gs[i]
theorem upTo_zero (gs : List (List Clause)) (U : List UInt8 → Int × Int) : upTo gs U 0 := fun _ _ h => by omega
theorem upTo_succ {gs : List (List Clause)} {U : List UInt8 → Int × Int} {k : Nat} (h : k < gs.length) (hu : upTo gs U k) : upToG U k gs[k] → upTo gs U (k + 1) := by
  intro hg i hi hk
  by_cases e : i = k
  · subst e; exact hg
  · exact hu i hi (by omega)
theorem upToG_succ {g : List Clause} {U : List UInt8 → Int × Int} {i k : Nat} (h : k < g.length) (hu : upToG U i (g.take k)) : upToJ U i (g[k]).joins → upToG U i (g.take (k + 1)) := by
  intro hj c hc
  rw [List.take_succ_eq_append_getElem h, List.mem_append] at hc
  rcases hc with hc | hc
  · exact hu c hc
  · simp at hc; subst hc; exact hj
theorem upToJ_succ {js : List Msg} {U : List UInt8 → Int × Int} {i k : Nat} (h : k < js.length) (hu : upToJ U i (js.take k)) : U (bytesOf (js[k]).text) = ((i : Int), ((js[k]).names.length : Int)) → upToJ U i (js.take (k + 1)) := by
  intro hj c hc
  rw [List.take_succ_eq_append_getElem h, List.mem_append] at hc
  rcases hc with hc | hc
  · exact hu c hc
  · simp at hc; subst hc; exact hj
def placesOk (d : List Clause) (k : Nat) : Prop := (∀ p ∈ (placesL d).take k, inSet ((alltexts (groupsL d)).map bytesOf) (bytesOf p) = false) ∧ (((placesL d).take k).map bytesOf).Nodup
theorem placesOk_zero (d : List Clause) : placesOk d 0 := ⟨by simp, by simp⟩
theorem placesOk_succ {d : List Clause} {k : Nat} (h : k < (placesL d).length) (hp : placesOk d k) : inSet ((alltexts (groupsL d)).map bytesOf) (bytesOf (placesL d)[k]) = false → inSet (((placesL d).take k).map bytesOf) (bytesOf (placesL d)[k]) = false → placesOk d (k + 1) := by
  intro h1 h2
  constructor
  · intro p hpm
    rw [List.take_succ_eq_append_getElem h, List.mem_append] at hpm
    rcases hpm with hpm | hpm
    · exact hp.1 p hpm
    · simp at hpm; subst hpm; exact h1
  · rw [List.take_succ_eq_append_getElem h, List.map_append, List.nodup_append]
    refine ⟨hp.2, by simp, fun y hy z hz => ?_⟩
    simp at hz
    subst hz
    intro e
    subst e
    simp only [inSet, List.any_eq_false] at h2
    exact h2 _ hy (by simp)
theorem agreeB_place {d : List Clause} (k : Nat) (h : k < (placesL d).length) : inSet ((alltexts (groupsL d)).map bytesOf) (bytesOf (placesL d)[k]) = true ∨ inSet (((placesL d).take k).map bytesOf) (bytesOf (placesL d)[k]) = true → agreeB d = false := by
  rintro (h1 | h1)
  · have : (placesL d).all (fun p => !inSet ((alltexts (groupsL d)).map bytesOf) (bytesOf p)) = false := by
      rw [List.all_eq_false]; exact ⟨_, List.getElem_mem h, by rw [h1]; simp⟩
    unfold agreeB; rw [this]; simp
  · have : ¬ ((placesL d).map bytesOf).Nodup := by
      intro hn
      have e3 : (placesL d).map bytesOf = ((placesL d).take k).map bytesOf ++ (bytesOf (placesL d)[k] :: ((placesL d).drop (k + 1)).map bytesOf) := by
        conv => lhs; rw [← List.take_append_drop k (placesL d)]
        rw [List.map_append, ← List.getElem_cons_drop h, List.map_cons]
      rw [e3, List.nodup_append] at hn
      simp only [inSet, List.any_eq_true] at h1
      obtain ⟨y, hy, hy2⟩ := h1
      exact hn.2.2 y hy _ (List.mem_cons_self ..) (by simpa using hy2)
    unfold agreeB
    rw [decide_eq_false this]; simp
theorem uses_mem {gs : List (List Clause)} {x : List UInt8 × (Int × Int)} {i0 : Nat} (h : x ∈ usesFrom i0 gs) : ∃ i, ∃ h : i < gs.length, ∃ c ∈ gs[i], ∃ j ∈ c.joins, x = (bytesOf j.text, (((i0 + i : Nat) : Int), (j.names.length : Int))) := by
  induction gs generalizing i0 with
  | nil => simp [usesFrom] at h
  | cons g gs ih =>
    rw [usesFrom, List.mem_append] at h
    rcases h with h | h
    · obtain ⟨c, hc, hx⟩ := List.mem_flatMap.1 h
      obtain ⟨j, hj, rfl⟩ := List.mem_map.1 hx
      exact ⟨0, by simp, c, hc, j, hj, rfl⟩
    · obtain ⟨i, hi, c, hc, j, hj, rfl⟩ := ih h
      exact ⟨i + 1, by simpa using hi, c, by simpa using hc, j, hj, by rw [show i0 + 1 + i = i0 + (i + 1) from by omega]⟩
theorem agreeB_all {d : List Clause} (hu : upTo (groupsL d) (useOf (uses (groupsL d))) (groupsL d).length) (hp : placesOk d (placesL d).length) : agreeB d = true := by
  unfold agreeB
  rw [Bool.and_eq_true, Bool.and_eq_true]
  obtain ⟨p1, p2⟩ := hp
  rw [List.take_length] at p1 p2
  refine ⟨⟨?_, ?_⟩, by simpa using p2⟩
  · rw [List.all_eq_true]
    intro x hx
    obtain ⟨i, hi, c, hc, j, hj, rfl⟩ := uses_mem hx
    have := hu i hi hi c hc j hj
    simpa using this
  · rw [List.all_eq_true]; intro p hpm; rw [p1 p hpm]; rfl
theorem agreeB_iff {d : List Clause} : agreeB d = true ↔ ∃ U, AgreeOk d U := by
  constructor
  · intro h
    unfold agreeB at h
    rw [Bool.and_eq_true, Bool.and_eq_true, List.all_eq_true, List.all_eq_true] at h
    obtain ⟨⟨h1, h2⟩, h3⟩ := h
    refine ⟨useOf (uses (groupsL d)), ?_, fun p hp => by simpa using h2 p hp, by simpa using h3⟩
    intro i hi c hc j hj
    obtain ⟨k2, hk2, rfl⟩ := List.getElem_of_mem hc
    obtain ⟨k3, hk3, rfl⟩ := List.getElem_of_mem hj
    have := h1 _ (ent_of (groupsL d) i hi k2 hk2 k3 hk3).1
    simpa using this
  · rintro ⟨U, hU1, hU2, hU3⟩
    have key : ∀ (l : List (List UInt8 × (Int × Int))), (∀ x ∈ l, U x.1 = x.2) → ∀ x ∈ l, useOf l x.1 = U x.1 := by
      intro l
      induction l with
      | nil => intro _ x hx; simp at hx
      | cons y l ih =>
        intro hl x hx
        rw [useOf]
        by_cases e : y.1 = x.1
        · rw [if_pos e, ← hl y (by simp), e]
        · rw [if_neg e]
          rcases List.mem_cons.1 hx with rfl | hx
          · exact absurd rfl e
          · exact ih (fun z hz => hl z (by simp [hz])) x hx
    have hl : ∀ x ∈ uses (groupsL d), U x.1 = x.2 := by
      intro x hx
      obtain ⟨i, hi, c, hc, j, hj, rfl⟩ := uses_mem hx
      have := hU1 i hi c hc j hj
      simpa using this
    refine agreeB_all ?_ ⟨fun p hp => hU2 p (List.mem_of_mem_take hp), by rw [List.take_length]; exact hU3⟩
    intro i hi _ c hc j hj
    obtain ⟨k2, hk2, rfl⟩ := List.getElem_of_mem hc
    obtain ⟨k3, hk3, rfl⟩ := List.getElem_of_mem hj
    rw [key _ hl _ (ent_of (groupsL d) i hi k2 hk2 k3 hk3).1]
    exact hU1 i hi _ hc _ hj

set_option maxRecDepth 10000 in
set_option maxHeartbeats 2000000 in
theorem agree_any (B : Nat) (u : World) (d : List Clause) (hds : csize d ≤ 900) (hN : (alltexts (groupsL d)).length ≤ 100000) (a : Option Addr) (cap : Nat) (w : World) (hu : KeptC B u w) (hBs : B ≤ w.heap.size)
    (hd : d.length = 0 ∨ ∃ b off, a = some ⟨b, off, none⟩ ∧ b < B ∧ ClausesAt B u b off d) :
    Calls Tryz.prog 118 #[.slice a d.length cap] w fun e w' => e = .returned (.bool (agreeB d)) ∧ Below w.heap.size w w' := by
  obtain ⟨U, hUe⟩ : ∃ U, U = useOf (uses (groupsL d)) := ⟨_, rfl⟩
  have hent := fun k1 h1 k2 h2 k3 h3 => ent_of (groupsL d) k1 h1 k2 h2 k3 h3
  have hbad := @agreeB_use d
  have hall := @agreeB_all d
  rw [← hUe] at hent hbad hall
  have hplb := @agreeB_place d
  have HBAD := Lib.hid hbad; have HPLB := Lib.hid hplb; have HALL := Lib.hid hall; have HENT := Lib.hid hent
  clear hbad hplb hall hent hUe
  have hmm := @run_makeMap Tryz.prog
  have s0 := UseAt.made w U
  have b0 : Below w.heap.size w (w.alloc (.map #[] 0)) := (Below.refl _ w).alloc (Nat.le_refl _) _
  have hgr := groups_any B u (csize d) d (Nat.le_refl _) hds a cap (w.alloc (.map #[] 0)) (hu.trans ((Below.keptC b0).mono hBs)) (by simp; omega) hd (fun _ _ => trivial)
  have hpl : ∀ W, KeptC B u W → B ≤ W.heap.size → _ := fun W h1 h2 => places_any B u (csize d) d (Nat.le_refl _) hds a cap W h1 h2 hd
  go_enter Tryz.func118, Tryz.ntmps118
  go_wp2_with (go_at_call 129; refine hgr.mono ?_; clear hgr; rintro e w1 ⟨r, gv, rfl, hog, hg, hb1⟩; obtain ⟨ga, gcap, rfl, hgc⟩ := row_of_owns' hog)
  have s1 : UseAt w1 w.heap.size 0 [] U := s0.kept (grown_of_below hb1) (by simp)
  have hgl := Lib.hid hg.1
  have hgm : gv.length ≤ 901 := by have h1 := hg.1; have h2 := groupsI_len d; unfold csize at hds; simp [groupsL] at h1; omega
  have hB1 : Below w.heap.size w w1 := b0.trans (hb1.mono (by simp))
  go_loopw [22] (fun i wr => ∃ (k : Nat), k ≤ gv.length ∧ i = .int .i64 k ∧ Hid (upTo (groupsL d) U k) ∧ UseAt wr w.heap.size (alltexts ((groupsL d).take k)).length ((alltexts ((groupsL d).take k)).map bytesOf) U ∧ Below w.heap.size w wr ∧ Mid w.heap.size w1 wr) (fun i _ => gv.length - (intOf i).toNat)
  case atStart => exact ⟨0, by omega, rfl, Lib.hid (upTo_zero _ _), s1, hB1, Mid.refl _ _⟩
  case round =>
    obtain ⟨k1, hk1, rfl, hup1, hs1, hBr, hW1⟩ := hrel
    by_cases hlt1 : k1 < gv.length
    · have hlt1' : k1 < (groupsL d).length := by have := hgl.out; omega
      obtain ⟨a2, cap2, hv2, hl2, hd2⟩ := hg.2 k1 hlt1 hlt1'
      rcases hgc with h0 | ⟨gb, rfl, hgA, hgB, hcl⟩
      · subst h0; simp at hlt1
      have hcell := hW1.2 gb (0 + k1) _ (by simp at hgA; omega) hgB (hcl k1 hlt1)
      rw [hv2, Nat.zero_add] at hcell
      have hTT := alltexts_take (groupsL d) k1 hlt1'
      have hE1 := HENT.out k1 hlt1'
      have hup1s := upTo_succ (U := U) hlt1' hup1.out
      obtain ⟨g, hgg⟩ : ∃ g, g = (groupsL d)[k1] := ⟨_, rfl⟩
      rw [← hgg] at hl2 hd2 hcell hTT hup1s
      have hE1' : ∀ k2 (h2 : k2 < g.length) k3 (h3 : k3 < (g[k2]).joins.length), Ent (groupsL d) U (alltexts ((groupsL d).take k1) ++ gtexts (g.take k2) ++ ((g[k2]).joins.take k3).map (·.text)) ((g[k2]).joins[k3]).text k1 ((g[k2]).joins[k3]).names.length := by subst hgg; exact hE1
      have HE1 := Lib.hid hE1'; have HUP1 := Lib.hid hup1s; clear hE1 hE1' hup1s
      have hTN : (alltexts ((groupsL d).take k1)).length + (gtexts g).length ≤ 100000 := by
        have e : alltexts (groupsL d) = alltexts ((groupsL d).take (k1 + 1)) ++ alltexts ((groupsL d).drop (k1 + 1)) := by
          rw [← List.take_append_drop (k1 + 1) (groupsL d)]; unfold alltexts; rw [List.flatMap_append]; simp
        rw [e, hTT] at hN; simp at hN; omega
      obtain ⟨T, hT⟩ : ∃ T, T = alltexts ((groupsL d).take k1) := ⟨_, rfl⟩
      rw [← hT] at hTT hTN hs1 HE1
      have HTT := Lib.hid hTT; clear hTT hT hgg hcl hv2
      obtain ⟨wo, rfl⟩ : ∃ wo : World, wo = wr := ⟨_, rfl⟩
      go_wp2
      go_loopw [29] (fun i wq => ∃ (k : Nat), k ≤ g.length ∧ i = .int .i64 k ∧ Hid (upToG U k1 (g.take k)) ∧ UseAt wq w.heap.size (T ++ gtexts (g.take k)).length ((T ++ gtexts (g.take k)).map bytesOf) U ∧ Below w.heap.size w wq ∧ Mid w.heap.size w1 wq) (fun i _ => g.length - (intOf i).toNat)
      case atStart => exact ⟨0, by omega, rfl, Lib.hid (by intro c hc; simp at hc), by simpa [gtexts] using hs1, hBr, hW1⟩
      case round =>
        obtain ⟨k2, hk2, rfl, hup2, hs2, hBq, hW2⟩ := hrel
        by_cases hlt2 : k2 < g.length
        · rcases hd2 with h0 | ⟨b, off, rfl, hb, hcls⟩
          · omega
          obtain ⟨cs, hcs, hce⟩ := hcls.get g b off k2 hlt2
          have hGT := gtexts_take g k2 hlt2
          have hE2 := HE1.out k2 hlt2
          have hup2s := upToG_succ (U := U) (i := k1) hlt2 hup2.out
          obtain ⟨c, hc⟩ : ∃ c, c = g[k2] := ⟨_, rfl⟩
          rw [← hc] at hce hGT hup2s
          have hE2' : ∀ k3 (h3 : k3 < (c).joins.length), Ent (groupsL d) U (T ++ gtexts (g.take k2) ++ ((c).joins.take k3).map (·.text)) ((c).joins[k3]).text k1 ((c).joins[k3]).names.length := by subst hc; exact hE2
          clear hE2
          have hTN2 : T.length + (gtexts (g.take k2)).length + (c.joins).length ≤ 100000 := by
            have e : gtexts g = gtexts (g.take (k2 + 1)) ++ gtexts (g.drop (k2 + 1)) := by
              rw [← List.take_append_drop (k2 + 1) g]; unfold gtexts; rw [List.flatMap_append]; simp
            rw [e, hGT] at hTN; simp at hTN; omega
          obtain ⟨f, t, js, dd, kk⟩ := c
          unfold ClauseAt at hce
          obtain ⟨htz, _, _, _, rfl, ⟨a0, p0, rfl, hjl, hjs⟩, ⟨a1, p1, rfl, _⟩, ⟨a3, p3, rfl, _⟩⟩ := hce
          obtain ⟨c0, c1, c2, c3, c4⟩ := cells5 ((hcs.keep hu hb).below hBq (by omega))
          simp only [Clause.joins] at hGT hTN2 hE2' hup2s
          have HE2 := Lib.hid hE2'; have HUP2 := Lib.hid hup2s; clear hE2' hup2s
          obtain ⟨T2, hT2⟩ : ∃ T2, T2 = T ++ gtexts (g.take k2) := ⟨_, rfl⟩
          have hGT' : T ++ gtexts (g.take (k2 + 1)) = T2 ++ js.map (·.text) := by rw [hGT, hT2, List.append_assoc]
          have hT2l : T2.length + js.length ≤ 100000 := by rw [hT2, List.length_append]; omega
          rw [← hT2] at hs2 HE2
          have HGT := Lib.hid hGT'; clear hGT hGT' hT2 hTN2 hTN hcs
          obtain ⟨wp, rfl⟩ : ∃ wp : World, wp = wr := ⟨_, rfl⟩
          have hsz := hBq.size
          have hsb := hs2.kept (World.grownBy_alloc wp (.cells #[.int .i64 f, .string t, .slice a0 js.length p0, .slice a1 dd.length p1, .slice a3 kk.length p3] 130) none) (by simp)
          have hBb := hBq.alloc hsz (.cells #[.int .i64 f, .string t, .slice a0 js.length p0, .slice a1 dd.length p1, .slice a3 kk.length p3] 130)
          have hWb := hW2.alloc (.cells #[.int .i64 f, .string t, .slice a0 js.length p0, .slice a1 dd.length p1, .slice a3 kk.length p3] 130)
          go_wp2
          go_loopw [36] (fun i wq => ∃ (k : Nat), k ≤ js.length ∧ i = .int .i64 k ∧ Hid (upToJ U k1 (js.take k)) ∧ UseAt wq w.heap.size (T2 ++ (js.take k).map (·.text)).length ((T2 ++ (js.take k).map (·.text)).map bytesOf) U ∧ Below w.heap.size w wq ∧ Mid w.heap.size w1 wq) (fun i _ => js.length - (intOf i).toNat)
          case atStart => exact ⟨0, by omega, rfl, Lib.hid (by intro c hc; simp at hc), by simpa using hsb, hBb, hWb⟩
          case round =>
            obtain ⟨k3, hk3, rfl, hup3, hs3, hB3, hW3⟩ := hrel
            by_cases hlt3 : k3 < js.length
            · rcases hjs with h0 | ⟨mb, moff, rfl, hmb, hms⟩
              · omega
              obtain ⟨mcs, hmcs, hmz, mv, rfl, hmn⟩ := hms.get js mb moff k3 hlt3
              have hE3 := HE2.out k3 hlt3
              have hup3s := upToJ_succ (U := U) (i := k1) hlt3 hup3.out
              have hm3 : T2 ++ (js.take (k3 + 1)).map (·.text) = T2 ++ (js.take k3).map (·.text) ++ [(js[k3]).text] := by
                rw [List.take_succ_eq_append_getElem hlt3, List.map_append, List.append_assoc]; rfl
              obtain ⟨x, hx⟩ : ∃ x, x = (js[k3]).text := ⟨_, rfl⟩
              obtain ⟨nm, hnm⟩ : ∃ nm, nm = (js[k3]).names.length := ⟨_, rfl⟩
              rw [← hx] at hm3 hmz hmcs hE3 hup3s; rw [← hnm] at hE3 hup3s
              obtain ⟨T3, hT3⟩ : ∃ T3, T3 = T2 ++ (js.take k3).map (·.text) := ⟨_, rfl⟩
              have hT3l : T3.length ≤ 100000 := by rw [hT3, List.length_append, List.length_map, List.length_take]; omega
              rw [← hT3] at hm3 hs3 hE3
              have HE3 := Lib.hid hE3; have HUP3 := Lib.hid hup3s; clear hE3 hup3s
              obtain ⟨na, nc, rfl, hnl, _⟩ := hmn
              rw [← hnm] at hmcs hnl
              obtain ⟨d0, d1⟩ := cells2 ((hmcs.keep hu hmb).below hB3 (by omega))
              have HM := Lib.hid hm3; clear hm3 hT3 hmcs hx hnm
              have hz3 := hB3.size
              have sA := (hs3.kept (World.grownBy_alloc wr (.cells #[.string x, .slice na nm nc] 144) none) (by simp)).kept (World.grownBy_alloc _ (.cells #[.int .i64 k1, .int .i64 nm] 195) none) (by simp)
              have hlook := sA.look hmz
              have bA := (hB3.alloc hz3 (.cells #[.string x, .slice na nm nc] 144)).alloc (by simp; omega) (.cells #[.int .i64 k1, .int .i64 nm] 195)
              have mA := (hW3.alloc (.cells #[.string x, .slice na nm nc] 144)).alloc (.cells #[.int .i64 k1, .int .i64 nm] 195)
              have hsl := hs3.lt
              have hq := neq195 k1 nm
              have fin : U (bytesOf x) = ((k1 : Int), (nm : Int)) → ∀ X3 : Obj, ∃ w5, (Instr.mapUpdate 193 (.map (some w.heap.size)) (.string x) (.agg #[.int .i64 k1, .int .i64 nm])).run Tryz.prog (((wr.alloc (.cells #[.string x, .slice na nm nc] 144)).alloc (.cells #[.int .i64 k1, .int .i64 nm] 195)).alloc X3) = .ok () w5 ∧
                  UseAt w5 w.heap.size (T2 ++ (js.take (k3 + 1)).map (·.text)).length ((T2 ++ (js.take (k3 + 1)).map (·.text)).map bytesOf) U ∧ Below w.heap.size w w5 ∧ Mid w.heap.size w1 w5 := by
                intro hUx X3
                obtain ⟨w5, r5, s5, g5⟩ := (sA.kept (World.grownBy_alloc _ X3 none) (by simp)).put (by unfold maxLen; omega) hmz
                refine ⟨w5, ?_, ?_, (bA.alloc bA.size X3).grown g5 (by have := bA.size; simp at this ⊢; omega) (fun k e => by have e1 := Option.some.inj e; omega), (mA.alloc X3).grown g5 (fun r e => by have e1 := Option.some.inj e; exact .inl (by omega))⟩
                · rw [← r5, hUx]; rfl
                · rw [HM.out, List.length_append, List.map_append]; exact s5
              cases hin : inSet (T3.map bytesOf) (bytesOf x) with
              | true =>
                by_cases hUx : U (bytesOf x) = ((k1 : Int), (nm : Int))
                · rw [hin, hUx] at hlook
                  simp only [if_true, valU] at hlook
                  obtain ⟨w5, r5, s5, b5, m5⟩ := fin hUx (.cells #[.int .i64 k1, .int .i64 nm] 195)
                  have HUP := Lib.hid (HUP3.out hUx)
                  clear fin hin hUx
                  go_wp2
                  go_roundw
                  case rel => exact ⟨k3 + 1, by omega, by go_num, HUP, s5, b5, m5⟩
                  case measure => simp [intOf]; omega
                · obtain ⟨p1, p2, hp⟩ : ∃ p1 p2, U (bytesOf x) = (p1, p2) := ⟨_, _, rfl⟩
                  have hF := Lib.hid (HBAD.out _ _ _ _ HE3.out hUx)
                  have hq' := neq195' p1 p2 k1 nm (by rw [← hp]; exact hUx)
                  rw [hin, hp] at hlook
                  simp only [if_true, valU] at hlook
                  clear fin hin hUx hp hq
                  go_wp2
                  go_ret
                  exact ⟨ret_bool hF.out.symm, bA.alloc bA.size _⟩
              | false =>
                have hUx := HE3.out.2 hin
                have HUP := Lib.hid (HUP3.out hUx)
                rw [hin] at hlook
                simp only [Bool.false_eq_true, if_false, valU] at hlook
                obtain ⟨w5, r5, s5, b5, m5⟩ := fin hUx (.cells #[.int .i64 0, .int .i64 0] 195)
                clear fin hin hUx
                go_wp2
                go_roundw
                case rel => exact ⟨k3 + 1, by omega, by go_num, HUP, s5, b5, m5⟩
                case measure => simp [intOf]; omega
            · obtain rfl : k3 = js.length := by omega
              rw [List.take_length, ← HGT.out] at hs3
              go_wp2
              go_roundw
              case rel => exact ⟨k2 + 1, by omega, by go_num, Lib.hid (HUP2.out (by have := hup3.out; rwa [List.take_length] at this)), hs3, hB3, hW3⟩
              case measure => simp [intOf]; omega
        · obtain rfl : k2 = g.length := by omega
          rw [List.take_length] at hs2
          go_wp2
          go_roundw
          case rel => exact ⟨k1 + 1, by omega, by go_num, Lib.hid (HUP1.out (by have := hup2.out; rwa [List.take_length] at this)), by rw [HTT.out]; exact hs2, hBq, hW2⟩
          case measure => simp [intOf]; omega
    · obtain rfl : k1 = gv.length := by omega
      have e : (groupsL d).take gv.length = groupsL d := List.take_of_length_le (by have := hgl.out; omega)
      have HUPD := Lib.hid (show upTo (groupsL d) U (groupsL d).length by have h := hup1.out; rwa [hgl.out] at h)
      clear hup1
      rw [e] at hs1
      obtain ⟨wm, rfl⟩ : ∃ wm : World, wm = wr := ⟨_, rfl⟩
      have hzr := hBr.size
      have st0 := SetAt.made wm
      have bm0 : Below w.heap.size w (wm.alloc (.map #[] 0)) := hBr.alloc hzr _
      have u0 := hs1.kept (World.grownBy_alloc wm (.map #[] 0) none) (by simp)
      have hpc := hpl (wm.alloc (.map #[] 0)) (hu.trans ((Below.keptC bm0).mono hBs)) (by simp; omega)
      clear hpl
      go_wp2_with (go_at_call 77; refine hpc.mono ?_; clear hpc; rintro e w2 ⟨r, rfl, hop, hpz, hb2⟩; obtain ⟨pa, pcap, rfl, hpcell⟩ := row_of_owns' (vs := strVals (placesL d)) (by simpa [strVals] using hop); have hvlen : (strVals (placesL d)).length = (placesL d).length := (by simp [strVals]); rw [hvlen])
      have hB2 := bm0.trans (hb2.mono (by simp; omega))
      have u2 := u0.kept (grown_of_below hb2) (by simp)
      have st2 := st0.below hb2 (by simp)
      have hz2 := hb2.size
      simp at hz2
      have hus := hs1.lt
      have hpn : (placesL d).length ≤ 900 := by have := placesL_len d; unfold csize at hds; omega
      have HV := Lib.hid hvlen; clear hvlen
      go_loopw [69] (fun i wq => ∃ (k : Nat), k ≤ (placesL d).length ∧ i = .int .i64 k ∧ Hid (placesOk d k) ∧ UseAt wq w.heap.size (alltexts (groupsL d)).length ((alltexts (groupsL d)).map bytesOf) U ∧ SetAt wq wm.heap.size k (((placesL d).take k).map bytesOf) ∧ Below w.heap.size w wq ∧ Mid wm.heap.size w2 wq) (fun i _ => (placesL d).length - (intOf i).toNat)
      case atStart => exact ⟨0, by omega, rfl, Lib.hid (placesOk_zero d), u2, st2, hB2, Mid.refl _ _⟩
      case round =>
        obtain ⟨k, hk, rfl, hpo, uk, sk, bk, mk⟩ := hrel
        by_cases hlt : k < (placesL d).length
        · rcases hpcell with h0 | ⟨pb, rfl, hpA, hpB, hpc⟩
          · have e1 : (strVals (placesL d)).length = 0 := by rw [h0]; rfl
            have := HV.out
            omega
          have hpA' : wm.heap.size + 1 ≤ pb := by first | exact hpA | (simpa using hpA)
          have hcell := mk.2 pb (0 + k) _ (by omega) hpB (hpc k (by have := HV.out; omega))
          rw [Nat.zero_add, show (strVals (placesL d))[k]'(by have := HV.out; omega) = .string (placesL d)[k] from by simp [strVals]] at hcell
          have hpk := hpz (placesL d)[k] (List.getElem_mem hlt)
          have hpos := placesOk_succ hlt hpo.out
          have hpb := HPLB.out k hlt
          have htk := Lib.hid (take_snoc_map (placesL d) k hlt)
          obtain ⟨x, hx⟩ : ∃ x, x = (placesL d)[k] := ⟨_, rfl⟩
          rw [← hx] at hcell hpk htk hpos hpb
          have HPOS := Lib.hid hpos; have HPB := Lib.hid hpb; clear hpos hpb
          have hzk := bk.size
          have hl1 := uk.look hpk
          have ux := uk.kept (World.grownBy_alloc wr (.cells #[.int .i64 0, .int .i64 0] 195) none) (by simp)
          have sx := sk.kept (World.grownBy_alloc wr (.cells #[.int .i64 0, .int .i64 0] 195) none) (by simp)
          have hl2 := sx.look hpk
          rw [show x.data.toList = bytesOf x from rfl] at hl2
          cases huk : inSet ((alltexts (groupsL d)).map bytesOf) (bytesOf x) with
          | true =>
            have hF := Lib.hid (HPB.out (.inl huk))
            rw [huk] at hl1
            obtain ⟨p1, p2, hp⟩ : ∃ p1 p2, U (bytesOf x) = (p1, p2) := ⟨_, _, rfl⟩
            rw [hp] at hl1
            simp only [if_true, valU] at hl1
            clear hl2 huk hp hx
            go_wp2
            go_ret
            exact ⟨ret_bool hF.out.symm, bk.alloc hzk _⟩
          | false =>
          rw [huk] at hl1
          simp only [Bool.false_eq_true, if_false, valU] at hl1
          cases hnd : inSet (((placesL d).take k).map bytesOf) (bytesOf x) with
          | true =>
            have hF := Lib.hid (HPB.out (.inr hnd))
            rw [hnd] at hl2
            clear huk hnd hx
            go_wp2
            go_ret
            exact ⟨ret_bool hF.out.symm, bk.alloc hzk _⟩
          | false =>
          have HPO := Lib.hid (HPOS.out huk hnd)
          rw [hnd] at hl2
          obtain ⟨w5, r5, s5, g5⟩ := sx.put (by unfold maxLen; omega) hpk
          have hne : (some w.heap.size : Option Nat) ≠ some wm.heap.size := by intro e; have := Option.some.inj e; omega
          have u5 := ux.kept g5 hne
          have b5 := (bk.alloc hzk (.cells #[.int .i64 0, .int .i64 0] 195)).grown g5 (by simp; omega) (fun k e => by have := Option.some.inj e; omega)
          have m5 := (mk.alloc (.cells #[.int .i64 0, .int .i64 0] 195)).grown g5 (fun r e => .inl (by have := Option.some.inj e; omega))
          clear huk hnd hx
          go_wp2
          go_roundw
          case rel => exact ⟨k + 1, by omega, by go_num, HPO, u5, by rw [htk.out]; exact s5, b5, m5⟩
          case measure => simp [intOf]; omega
        · obtain rfl : k = (placesL d).length := by omega
          go_wp2
          go_ret
          exact ⟨ret_bool (HALL.out HUPD.out hpo.out).symm, bk⟩

end Go.Proofs.YtjmlaeofjjhfmaaGreat
