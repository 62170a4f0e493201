/- unused: the first name that is not used. -/
import Derived.Test.YtjmlaeofjjhfmaaGreatC12
import Derived.RangeFuncWrites
import Derived.Test.YtjmlaeofjjhfmaaGreatC11
import Derived.Maps.StringElems
set_option linter.unusedVariables false
set_option linter.unusedSimpArgs false
namespace Go.Proofs.YtjmlaeofjjhfmaaGreat
open Go.RowKit Go.Shelf
attribute [local go_sem] Oper.semAt_some

theorem Tryz.results56 : Tryz.f56.results = #[.cell 2 9] := by kernel_rfl
theorem pref_mem {j i : Nat} (h : i < j) (hw : notWord (strN i) = true) : mkB (strN i) ∈ pref j := by
  unfold pref
  exact List.mem_map.2 ⟨strN i, List.mem_filter.2 ⟨List.mem_map.2 ⟨i, List.mem_range.2 h, rfl⟩, hw⟩, rfl⟩
theorem pref_last : ∀ (j : Nat) (P : List ByteArray) (x : ByteArray), pref j = P ++ [x] → ∃ i, x = mkB (strN i) ∧ notWord (strN i) = true ∧ P = pref i
  | 0, P, x, h => by simp [pref] at h
  | j + 1, P, x, h => by
    rw [pref_succ] at h
    cases hw : notWord (strN j) with
    | true =>
      rw [hw, if_pos rfl] at h
      obtain ⟨h1, h2⟩ := List.append_inj' h rfl
      exact ⟨j, by simpa using h2.symm, hw, h1.symm⟩
    | false =>
      rw [hw, if_neg (by decide), List.append_nil] at h
      exact pref_last j P x h

theorem allNames_in (n : Nat) (w : World) : CallsIn Fence.wide n Tryz.prog 110 #[] w fun e w' => e = .returned (.func (.func 154) #[] #[]) ∧ w' = w := by
  refine callsIn_of_wp Tryz.func110 rfl trivial ?_ rfl
  simp only [Tryz.ntmps110, List.size_toArray, List.length_cons, List.length_nil, Nat.reduceAdd, Nat.reduceSub, Array.replicate_succ, Array.replicate_zero, List.push_toArray, List.append_toArray, List.nil_append, List.cons_append]
  gi_wp2
  go_ret
  exact ⟨rfl, rfl⟩

set_option maxRecDepth 100000 in
set_option maxHeartbeats 1000000 in
theorem unused_in (n : Nat) (hn : 3 ≤ n) (w : World) (b m : Nat) (f : List UInt8 → Bool) (hS : SetF w b m f) (j0 : Nat) (hj0 : j0 < 5000) (hg0 : notWord (strN j0) = true ∧ f (strN j0) = false) :
    CallsIn Fence.wide n Tryz.prog 56 #[.map (some b)] w fun e w' => ∃ j, e = .returned (.string (mkB (strN j))) ∧ (notWord (strN j) = true ∧ f (strN j) = false) ∧ (∀ i, i < j → ¬ (notWord (strN i) = true ∧ f (strN i) = false)) ∧ Below w.heap.size w w' := by
  have hdd : ∀ k : Nat, (Fence.wide.depth.isSome = true → 1 ≤ k) := fun k h => by cases h
  have h1 : 1 ≤ n := by omega
  have hF : ∀ k, Fence.wide.fn k := fun _ => trivial
  refine callsIn_of_wp_marks Tryz.func56 rfl trivial ?_ rfl
  simp only [Tryz.ntmps56, List.size_toArray, List.length_cons, List.length_nil, Nat.reduceAdd, Nat.reduceSub, Array.replicate_succ, Array.replicate_zero, List.push_toArray, List.append_toArray, List.nil_append, List.cons_append]
  gi_wp2_with (gi_at_call 110; refine (allNames_in (n - 1) _).mono ?_; rintro e w' ⟨rfl, rfl⟩)
  obtain ⟨W0, hW0⟩ : ∃ W0, W0 = ((w.alloc (.cells #[.map (some b)] 70)).alloc (.cells #[.string ⟨#[]⟩] 9)) := ⟨_, rfl⟩
  have hsz : W0.heap.size = w.heap.size + 2 := by rw [hW0]; simp
  have hb0 : Below w.heap.size w W0 := by rw [hW0]; exact ((Below.refl _ w).alloc (Nat.le_refl _) _).alloc (by simp) _
  have hS0 : SetF W0 b m f := by rw [hW0]; exact (hS.kept (World.grownBy_alloc _ _ none) (by simp)).kept (World.grownBy_alloc _ _ none) (by simp)
  have c0 : W0.cell? ⟨w.heap.size, 0, none⟩ = some (.map (some b)) := by
    rw [hW0, World.cell?_alloc_past _ _ _ (by simp), World.cell?_alloc_at _ _ _ _ rfl]; rfl
  have c1 : W0.cell? ⟨w.heap.size + 1, 0, none⟩ = some (.string ⟨#[]⟩) ∧ W0.frozen? ⟨w.heap.size + 1, 0, none⟩ = false := by
    rw [hW0]; exact ⟨by rw [World.cell?_alloc_at _ _ _ _ (by simp)]; rfl, by rw [World.frozen?_alloc_at _ _ _ _ (by simp)]⟩
  have hbw := hS.lt
  rw [← hW0]
  have HW := Lib.hid hW0; clear hW0
  refine wpIn_rangeFunc_ownG rfl h1 (gf := 154) (lb := #[]) rfl trivial (enters_of Tryz.func154 (by kernel_rfl) rfl)
    (names_stops (n - 1) W0) KeepsWalks.trans (fun W l o o' _ h1 _ h3 => KeepsWalks.putObj o' h1 h3) (Below.refl _ _) (fun _ => rfl)
    (fun pre W => ((∀ x ∈ pre, f (bytesOf x.1) = true) ∧ SetF W b m f ∧ W.cell? ⟨w.heap.size, 0, none⟩ = some (.map (some b)) ∧ W.cell? ⟨w.heap.size + 1, 0, none⟩ = some (.string ⟨#[]⟩) ∧ W.frozen? ⟨w.heap.size + 1, 0, none⟩ = false) ∧ Below w.heap.size w W)
    (fun c pre W => (c = .ret ∧ ∃ pre0 x, pre = pre0 ++ [x] ∧ (∀ y ∈ pre0, f (bytesOf y.1) = true) ∧ f (bytesOf x.1) = false ∧ W.cell? ⟨w.heap.size + 1, 0, none⟩ = some (.string x.1)) ∧ Below w.heap.size w W)
    (OwnFrom.and (fun s X Y row hs hg hr => ⟨hs.1, hs.2.1.kept hg (fun e => by have := (hr _ e.symm).1; omega), cell_kept hs.2.2.1 hg (fun r e => (hr r e).2), cell_kept hs.2.2.2.1 hg (fun r e => (hr r e).2), (frozen_kept hs.2.2.2.1 hg (fun r e => (hr r e).2)).trans hs.2.2.2.2⟩) (ownFrom_below (Nat.le_refl _) (by omega)))
    (fun c => OwnFrom.and (fun s X Y row hs hg hr => by
      obtain ⟨h1, p0, x, h2, h3, h4, h5⟩ := hs
      exact ⟨h1, p0, x, h2, h3, h4, cell_kept h5 hg (fun r e => (hr r e).2)⟩) (ownFrom_below (Nat.le_refl _) (by omega)))
    ⟨⟨by simp, hS0, c0, c1.1, c1.2⟩, hb0⟩
    (fun x' => { tmps := #[.map (some b), .pointer (some ⟨w.heap.size, 0, none⟩), .pointer (some ⟨w.heap.size + 1, 0, none⟩), .string x'.1, .func (.func 154) #[] #[], .string x'.1, undef, undef, undef, undef, undef], defers := [] }) ?assign ?body ?done ?stop
  case assign =>
    intro l x W K hK
    gi_wp2
    exact hK
  case body =>
    rintro l pre ⟨x, hx⟩ W ⟨⟨hu, hSW, hc0, hc1, hf1⟩, hB'⟩ hN
    have hlook := hSW.look (k := x) (by unfold maxLen; omega)
    cases hfx : f (bytesOf x) with
    | true =>
      rw [hfx] at hlook
      gi_wp2
      refine ⟨KeepsFrom.refl _ _, KeepsWalks.refl _, ⟨?_, hSW, hc0, hc1, hf1⟩, hB'⟩
      intro y hy
      rcases List.mem_append.1 hy with hy | hy
      · exact hu y hy
      · obtain rfl := List.mem_singleton.1 hy; exact hfx
    | false =>
      rw [hfx] at hlook
      gi_wp2
      exact ⟨(KeepsOthers.setCell _ _ _).from _, ⟨rfl, pre, _, rfl, hu, hfx, World.cell?_setCell_same' _ _ _ (by rw [hc1]; rfl)⟩, hB'.setCell (by simp) _⟩
  case done =>
    rintro D ys W hD ⟨j, hj, hys⟩ ⟨⟨hu, _⟩, hB'⟩ hK
    exfalso
    have h2 := pref_mem (i := j0) (j := j) (by omega) hg0.1
    rw [← hys] at h2
    obtain ⟨y, hy, he⟩ := List.mem_map.1 h2
    have h3 := hu y hy
    rw [he, bytesOf_mkB, hg0.2] at h3
    cases h3
  case stop =>
    rintro D c pre W hD ⟨j, hj⟩ ⟨⟨rfl, pre0, x, rfl, hu, hfx, hcx⟩, hB'⟩ hK
    rw [List.map_append] at hj
    obtain ⟨i, hi1, hi2, hi3⟩ := pref_last j _ _ hj.symm
    have hi1' : x.1 = mkB (strN i) := hi1
    have hxi : bytesOf x.1 = strN i := by rw [hi1', bytesOf_mkB]
    have hDl := (Array.getElem?_eq_some_iff.1 hK).1
    have hmin : ∀ k, k < i → notWord (strN k) = true → f (strN k) = true := by
      intro k hk hw
      have h2 := pref_mem hk hw
      rw [← hi3] at h2
      obtain ⟨y, hy, he⟩ := List.mem_map.1 h2
      have h3 := hu y hy
      rwa [he, bytesOf_mkB] at h3
    have HI := Lib.hid hi1'; have HM := Lib.hid hmin
    clear hj hi1 hi1' hmin
    gi_wp2
    refine ⟨by simp, .inl ⟨_, _, rfl, run_takeDeferred hK, ?_⟩⟩
    have d0 := cell_kept hcx (grownBy_putObj' W D (.deferred none)) (fun r e => by cases e; exact ⟨_, hK, rfl⟩)
    refine ⟨.string x.1, by simp [results, Tryz.results56, go_sem, d0], i, by rw [HI.out], ⟨hi2, by rw [← hxi]; exact hfx⟩, ?_, hB'.trans (belowK_b (w := w) (Nat.le_refl _) _ D _ _ (by omega) hK rfl rfl)⟩
    exact fun k hk hc => by have := HM.out k hk; simp_all

end Go.Proofs.YtjmlaeofjjhfmaaGreat
/- term.Fresh, and how far one must look. -/
namespace Go.Proofs.YtjmlaeofjjhfmaaGreat
open Go.RowKit Go.Shelf Go.Maps

theorem fold_facts (k : List UInt8) : ∀ (acc : List (List UInt8)) (D : DataW Unit) (_ : IsMap D),
    has ((acc.map Lit.string).foldl (fun m x => m.put x (.lit (.bool true))) D) (.string k) = (inSet acc k || has D (.string k)) ∧
    ∀ z, ((acc.map Lit.string).foldl (fun m x => m.put x (.lit (.bool true))) D).atKey (.string k) z = if inSet acc k then .lit (.bool true) else D.atKey (.string k) z := by
  intro acc
  induction acc with
  | nil => intro D _; simp [inSet]
  | cons a acc ih =>
    intro D hD
    obtain ⟨h1, h2⟩ := ih (D.put (.string a) (.lit (.bool true))) (by obtain ⟨es, rfl⟩ := hD; exact ⟨_, rfl⟩)
    rw [List.map_cons, List.foldl_cons]
    have hi : inSet (a :: acc) k = ((a == k) || inSet acc k) := by simp [inSet]
    rw [h1, hi]
    by_cases e : a = k
    · subst e
      rw [has_put_same hD (by simp [WideAt.IsKeyLit])]
      refine ⟨by simp, fun z => ?_⟩
      rw [h2 z, atKey_put_same hD (by simp [WideAt.IsKeyLit])]; simp
    · rw [has_put_other (by simp; exact fun h => e h.symm)]
      have e' : (a == k) = false := by simpa using e
      refine ⟨by rw [e']; simp, fun z => ?_⟩
      rw [h2 z, atKey_put_other (by simp; exact fun h => e h.symm), e']; simp

theorem SetAt.toF {w : World} {b n : Nat} {acc : List (List UInt8)} (h : SetAt w b n acc) : SetF w b n (inSet acc) := by
  refine ⟨_, h, fun k => ?_⟩
  obtain ⟨h1, h2⟩ := fold_facts k acc (.map []) ⟨[], rfl⟩
  unfold setOf
  refine ⟨by rw [h1]; simp [has], fun z => ?_⟩
  rw [h2 z]; cases inSet acc k <;> simp [DataW.atKey]

theorem strN_inj {i j : Nat} (h : strN i = strN j) : i = j := by
  have h1 := (strN_val i).1
  have h2 := (strN_val j).1
  rw [h] at h1; omega

/-- Some name among the first 101 strings is none of at most 90. -/
theorem some_free (S : List (List UInt8)) (hS : S.length ≤ 90) : ∃ j0, j0 < 1000 ∧ notWord (strN j0) = true ∧ inSet S (strN j0) = false := by
  refine Classical.byContradiction fun hno => ?_
  have hall : ∀ j, j < 101 → strN j ∈ words ++ S := by
    intro j hj
    refine Classical.byContradiction fun hn => hno ⟨j, by omega, ?_, ?_⟩
    · unfold notWord
      cases hw : inSet words (strN j) with
      | false => rfl
      | true =>
        refine absurd (List.mem_append_left _ ?_) hn
        unfold inSet at hw
        obtain ⟨x, hx, he⟩ := List.any_eq_true.1 hw
        rw [← show x = strN j by simpa using he]; exact hx
    · cases hw : inSet S (strN j) with
      | false => rfl
      | true =>
        refine absurd (List.mem_append_right _ ?_) hn
        unfold inSet at hw
        obtain ⟨x, hx, he⟩ := List.any_eq_true.1 hw
        rw [← show x = strN j by simpa using he]; exact hx
  have hnd : ((List.range 101).map strN).Nodup := by
    refine List.pairwise_map.2 ((List.nodup_range (n := 101)).imp ?_)
    intro a b hab h
    exact hab (strN_inj h)
  have hsub : ((List.range 101).map strN) ⊆ words ++ S := by
    intro x hx
    obtain ⟨j, hj, rfl⟩ := List.mem_map.1 hx
    exact hall j (List.mem_range.1 hj)
  have hlen := hnd.length_le_of_subset hsub
  have hw : words.length = 10 := rfl
  rw [List.length_map, List.length_range, List.length_append, hw] at hlen
  omega

/-- The first string of letters that is a name and none of S. -/
def IsFresh (S : List (List UInt8)) (j : Nat) : Prop := (notWord (strN j) = true ∧ inSet S (strN j) = false) ∧ ∀ i, i < j → ¬ (notWord (strN i) = true ∧ inSet S (strN i) = false)
theorem IsFresh.unique {S : List (List UInt8)} {i j : Nat} (h : IsFresh S i) (k : IsFresh S j) : i = j := by
  rcases Nat.lt_trichotomy i j with hlt | h2 | hlt
  · exact absurd h.1 (k.2 i hlt)
  · exact h2
  · exact absurd k.1 (h.2 j hlt)
theorem IsFresh.lt {S : List (List UInt8)} (hS : S.length ≤ 90) {j : Nat} (h : IsFresh S j) : j < 1000 := by
  obtain ⟨j0, h0, h1⟩ := some_free S hS
  refine Classical.byContradiction fun hn => h.2 j0 (by omega) h1

set_option maxHeartbeats 1000000 in
theorem fresh_any (v : Value) (ss : List ByteArray) (w : World) (h : StrsAt w.heap.size w v ss) (hl : ss.length ≤ 90) :
    Calls Tryz.prog 18 #[v] w fun e w' => ∃ j, e = .returned (.string (mkB (strN j))) ∧ IsFresh (ss.map bytesOf) j ∧ Below w.heap.size w w' := by
  obtain ⟨j0, hj0, hg0⟩ := some_free (ss.map bytesOf) (by simpa using hl)
  have ha := among_any v ss w h
  go_enter Tryz.func18, Tryz.ntmps18
  go_wp2_with (go_at_call 57; refine ha.mono ?_; clear ha; rintro e w1 ⟨rfl, hs, hb1⟩)
  have hun := (callsIn_wide (n := 6)).1 (unused_in 6 (by omega) w1 w.heap.size _ _ hs.toF j0 (by omega) hg0)
  go_wp2_with (go_at_call 56; refine hun.mono ?_; clear hun; rintro e w2 ⟨j, rfl, h1, h2, hb2⟩)
  go_ret
  exact ⟨j, rfl, ⟨h1, h2⟩, hb1.trans (hb2.mono hb1.size)⟩

end Go.Proofs.YtjmlaeofjjhfmaaGreat
/- Copies, as plain data: what a process becomes in a scope. -/
namespace Go.Proofs.YtjmlaeofjjhfmaaGreat
open Go.RowKit Go.Shelf Go.Maps

/-- The names that a scope's part binds, with what each becomes. -/
abbrev Frame := List UInt8 → Option ByteArray
inductive Base where
  | outside | anew | putting (x : ByteArray) (e : Exp)
/-- A scope: what is around all, and the frames, the innermost one first. -/
structure Env where
  base : Base
  frames : List Frame
abbrev Used := List UInt8 → Bool

def goodAt (U : Used) (j : Nat) : Bool := notWord (strN j) && !U (strN j)
def firstFrom (U : Used) : Nat → Nat → Nat
  | 0, i => i
  | n + 1, i => if goodAt U i then i else firstFrom U n (i + 1)
def choose (U : Used) : List UInt8 := strN (firstFrom U 5000 0)
theorem firstFrom_spec (U : Used) : ∀ (n i j : Nat), i ≤ j → j < i + n → goodAt U j = true → goodAt U (firstFrom U n i) = true ∧ (∀ k, i ≤ k → k < firstFrom U n i → goodAt U k = false) ∧ firstFrom U n i ≤ j := by
  intro n
  induction n with
  | zero => intro i j h1 h2; omega
  | succ n ih =>
    intro i j h1 h2 h3
    unfold firstFrom
    cases hg : goodAt U i with
    | true => simp only [if_true]; exact ⟨hg, fun k _ _ => by omega, h1⟩
    | false =>
      simp only [Bool.false_eq_true, if_false]
      have hij : i ≠ j := fun e => by rw [e, h3] at hg; cases hg
      obtain ⟨a, b, c⟩ := ih (i + 1) j (by omega) (by omega) h3
      refine ⟨a, fun k h1 h2 => ?_, c⟩
      by_cases hk : k = i
      · rw [hk]; exact hg
      · exact b k (by omega) h2

/-- All used names are among at most m. -/
def Cov (U : Used) (m : Nat) : Prop := ∃ L : List (List UInt8), (∀ k, U k = true → k ∈ L) ∧ L.length ≤ m
theorem Cov.mono {U : Used} {m n : Nat} (h : Cov U m) (hn : m ≤ n) : Cov U n := by
  obtain ⟨L, h1, h2⟩ := h; exact ⟨L, h1, by omega⟩
def plusU (U : Used) (c : List UInt8) : Used := fun x => U x || x == c
theorem Cov.plus {U : Used} {m : Nat} (h : Cov U m) (c : List UInt8) : Cov (plusU U c) (m + 1) := by
  obtain ⟨L, h1, h2⟩ := h
  refine ⟨c :: L, fun k hk => ?_, by simp; omega⟩
  simp only [plusU, Bool.or_eq_true, beq_iff_eq] at hk
  rcases hk with hk | hk
  · exact List.mem_cons_of_mem _ (h1 k hk)
  · exact hk ▸ List.mem_cons_self
theorem Cov.free {U : Used} {m : Nat} (h : Cov U m) (hm : m ≤ 4900) : ∃ j, j < 5000 ∧ goodAt U j = true := by
  obtain ⟨L, h1, h2⟩ := h
  refine Classical.byContradiction fun hno => ?_
  have hall : ∀ j, j < 5000 → strN j ∈ words ++ L := by
    intro j hj
    refine Classical.byContradiction fun hn => hno ⟨j, hj, ?_⟩
    unfold goodAt
    rw [Bool.and_eq_true]
    refine ⟨?_, ?_⟩
    · unfold notWord
      cases hw : inSet words (strN j) with
      | false => rfl
      | true =>
        refine absurd (List.mem_append_left _ ?_) hn
        unfold inSet at hw
        obtain ⟨x, hx, he⟩ := List.any_eq_true.1 hw
        rw [← show x = strN j by simpa using he]; exact hx
    · cases hw : U (strN j) with
      | false => rfl
      | true => exact absurd (List.mem_append_right _ (h1 _ hw)) hn
  have hnd : ((List.range 5000).map strN).Nodup := by
    refine List.pairwise_map.2 ((List.nodup_range (n := 5000)).imp ?_)
    intro a b hab h
    exact hab (strN_inj h)
  have hsub : ((List.range 5000).map strN) ⊆ words ++ L := by
    intro x hx
    obtain ⟨j, hj, rfl⟩ := List.mem_map.1 hx
    exact hall j (List.mem_range.1 hj)
  have hlen := hnd.length_le_of_subset hsub
  have hw : words.length = 10 := rfl
  rw [List.length_map, List.length_range, List.length_append, hw] at hlen
  omega
theorem choose_is {U : Used} {j : Nat} (h1 : goodAt U j = true) (h2 : ∀ i, i < j → ¬ goodAt U i = true) (hj : j < 5000) : strN j = choose U := by
  obtain ⟨a, b, c⟩ := firstFrom_spec U 5000 0 j (by omega) (by omega) h1
  unfold choose
  by_cases e : firstFrom U 5000 0 = j
  · rw [e]
  · exact absurd a (h2 _ (by omega))

def nameE (s : ByteArray) : Exp := .mk 2 0 s []
def Env.binds (v : Env) (x : List UInt8) : Bool := v.frames.any (fun f => (f x).isSome)
def Base.becomes : Base → ByteArray → Exp
  | .putting y e, x => if x = y then e else nameE x
  | _, x => nameE x
def becomesF (b : Base) (x : ByteArray) : List Frame → Exp
  | [] => b.becomes x
  | f :: fs => match f (bytesOf x) with
    | some n => nameE n
    | none => becomesF b x fs
def Env.becomes (v : Env) (x : ByteArray) : Exp := becomesF v.base x v.frames
def Base.renames : Base → Env → Part → List ByteArray
  | .outside, _, _ => []
  | .anew, _, p => bindsP p
  | .putting y e, v, p => if v.binds (bytesOf y) || !freeN 60 p (bytesOf y) then [] else (bindsP p).filter (fun n => freeN 60 (.exp e) (bytesOf n))
def upd (f : Frame) (k v : ByteArray) : Frame := fun x => if x == bytesOf k then some v else f x
def self1 (f : Frame) (n : ByteArray) : Frame := upd f n n
def anew1 (s : Frame × Used) (n : ByteArray) : Frame × Used := (upd s.1 n (mkB (choose s.2)), plusU s.2 (choose s.2))
def inside (v : Env) (U : Used) (p : Part) : Env × Used :=
  if bindsP p = [] then (v, U) else
    let s := (v.base.renames v p).foldl anew1 ((bindsP p).foldl self1 (fun _ => none), U)
    ({ base := v.base, frames := s.1 :: v.frames }, s.2)
def textM (v : Env) (x : ByteArray) : Option ByteArray :=
  if x.size = 0 then some x else match v.becomes x with
    | .mk op _ t _ => if op = 2 then some t else none

mutual
def copyE (v : Env) : Exp → Exp
  | .mk op n t kids => if op = 2 then v.becomes t else .mk op n t (copyEs v kids)
def copyEs (v : Env) : List Exp → List Exp
  | [] => []
  | e :: es => copyE v e :: copyEs v es
end
theorem copyEs_eq (v : Env) : ∀ es, copyEs v es = es.map (copyE v)
  | [] => rfl
  | e :: es => by rw [copyEs, copyEs_eq v es]; rfl
/-- The steps of a list from the front, each from the state that the earlier ones left. -/
def stepsM {S A B : Type} (F : S → A → Option (B × S)) : S → List A → Option (List B × S)
  | s, [] => some ([], s)
  | s, a :: l => match F s a with
    | none => none
    | some (b, s') => match stepsM F s' l with
      | none => none
      | some (bs, s'') => some (b :: bs, s'')
def textsM (v : Env) : List ByteArray → Option (List ByteArray)
  | [] => some []
  | a :: l => match textM v a with
    | none => none
    | some b => match textsM v l with
      | none => none
      | some bs => some (b :: bs)
def msgM (v inn : Env) (j : Msg) : Option Msg :=
  match textM v j.text with
  | none => none
  | some t => match textsM inn j.names with
    | none => none
    | some ns => some ⟨t, ns⟩
def msgsM (v inn : Env) : List Msg → Option (List Msg)
  | [] => some []
  | a :: l => match msgM v inn a with
    | none => none
    | some b => match msgsM v inn l with
      | none => none
      | some bs => some (b :: bs)
mutual
def copyT (v : Env) (U : Used) : Term → Option (Term × Used)
  | .mk op t args defs kids =>
    let i := inside v U (.proc (.mk op t args defs kids))
    match textM v t with
    | none => none
    | some t' => match copyCs i.1 i.2 defs with
      | none => none
      | some (defs', U2) => match copyTs i.1 U2 kids with
        | none => none
        | some (kids', U3) => some (.mk op t' (copyEs i.1 args) defs' kids', U3)
def copyC (v : Env) (U : Used) : Clause → Option (Clause × Used)
  | .mk form t joins defs kids =>
    let i := inside v U (.def_ (.mk form t joins defs kids))
    match textM v t with
    | none => none
    | some t' => match msgsM v i.1 joins with
      | none => none
      | some js' => match copyCs i.1 i.2 defs with
        | none => none
        | some (defs', U2) => match copyTs i.1 U2 kids with
          | none => none
          | some (kids', U3) => some (.mk form t' js' defs' kids', U3)
def copyTs (v : Env) (U : Used) : List Term → Option (List Term × Used)
  | [] => some ([], U)
  | a :: l => match copyT v U a with
    | none => none
    | some (b, U') => match copyTs v U' l with
      | none => none
      | some (bs, U'') => some (b :: bs, U'')
def copyCs (v : Env) (U : Used) : List Clause → Option (List Clause × Used)
  | [] => some ([], U)
  | a :: l => match copyC v U a with
    | none => none
    | some (b, U') => match copyCs v U' l with
      | none => none
      | some (bs, U'') => some (b :: bs, U'')
end
theorem copyTs_eq (v : Env) : ∀ (l : List Term) (U : Used), copyTs v U l = stepsM (copyT v) U l
  | [], _ => rfl
  | a :: l, U => by
    rw [copyTs, stepsM]
    cases copyT v U a with
    | none => rfl
    | some x =>
      obtain ⟨b, U'⟩ := x
      simp only
      rw [copyTs_eq v l U']
      cases stepsM (copyT v) U' l with
      | none => rfl
      | some y => rfl
theorem copyCs_eq (v : Env) : ∀ (l : List Clause) (U : Used), copyCs v U l = stepsM (copyC v) U l
  | [], _ => rfl
  | a :: l, U => by
    rw [copyCs, stepsM]
    cases copyC v U a with
    | none => rfl
    | some x =>
      obtain ⟨b, U'⟩ := x
      simp only
      rw [copyCs_eq v l U']
      cases stepsM (copyC v) U' l with
      | none => rfl
      | some y => rfl
theorem msgsM_eq (v i : Env) : ∀ (l : List Msg), msgsM v i l = (stepsM (fun (_ : Unit) a => (msgM v i a).map (fun b => (b, ()))) () l).map (·.1)
  | [] => rfl
  | a :: l => by
    rw [msgsM, stepsM]
    cases h : msgM v i a with
    | none => rfl
    | some x =>
      simp only [Option.map_some]
      rw [msgsM_eq v i l]
      cases stepsM (fun (_ : Unit) a => (msgM v i a).map (fun b => (b, ()))) () l with
      | none => rfl
      | some y => rfl
theorem textsM_eq (v : Env) : ∀ (l : List ByteArray), textsM v l = (stepsM (fun (_ : Unit) a => (textM v a).map (fun b => (b, ()))) () l).map (·.1)
  | [] => rfl
  | a :: l => by
    rw [textsM, stepsM]
    cases h : textM v a with
    | none => rfl
    | some x =>
      simp only [Option.map_some]
      rw [textsM_eq v l]
      cases stepsM (fun (_ : Unit) a => (textM v a).map (fun b => (b, ()))) () l with
      | none => rfl
      | some y => rfl

end Go.Proofs.YtjmlaeofjjhfmaaGreat
/- Frames in memory: maps from names to names. -/
namespace Go.Proofs.YtjmlaeofjjhfmaaGreat
open Go.RowKit Go.Shelf Go.Maps Go.WideMaps

theorem Tryz.underlyingMS : Tryz.prog.underlying 121 = some (.map 9 9) := by kernel_rfl
theorem zero9 (w : World) : (zeroValue 9).run Tryz.prog w = .ok (.string ⟨#[]⟩) w := by kernel_rfl
/-- Block b is a map of at most n entries: of the strings at which f has something, to what it has. -/
def OwnF (w : World) (b n : Nat) (f : Frame) : Prop :=
  ∃ D, w.ownsMap (H := Unit) Tryz.prog 9 (plainElem Tryz.prog 9) b n D ∧ ∀ k, has D (.string k) = (f k).isSome ∧ ∀ z, D.atKey (.string k) z = match f k with | some v => .lit (.string (bytesOf v)) | none => z
theorem OwnF.congr {w : World} {b n : Nat} {f g : Frame} (h : OwnF w b n f) (e : ∀ k, f k = g k) : OwnF w b n g := by
  rw [← funext e]; exact h
theorem OwnF.made (w : World) : OwnF (w.alloc (.map #[] 0)) w.heap.size 0 (fun _ => none) :=
  ⟨.map [], World.ownsMap_made _ _ _ _, fun k => ⟨rfl, fun z => rfl⟩⟩
theorem OwnF.lt {w : World} {b n : Nat} {f : Frame} (h : OwnF w b n f) : b < w.heap.size := by
  obtain ⟨D, h, _⟩ := h; exact h.lt
theorem OwnF.mono {w : World} {b n m : Nat} {f : Frame} (h : OwnF w b n f) (hn : n ≤ m) : OwnF w b m f := by
  obtain ⟨D, h, r⟩ := h; exact ⟨D, h.mono hn, r⟩
theorem OwnF.kept {w w' : World} {b n : Nat} {f : Frame} {row : Option Nat} (h : OwnF w b n f) (hg : w.grownBy w' row) (hne : some b ≠ row) : OwnF w' b n f := by
  obtain ⟨D, h, r⟩ := h; exact ⟨D, h.kept hg hne, r⟩
theorem OwnF.later {w w' : World} {b n : Nat} {f : Frame} (h : OwnF w b n f) (hb : Below w.heap.size w w') : OwnF w' b n f := h.kept (grown_of_below hb) (by simp)
theorem OwnF.look {w : World} {b n : Nat} {f : Frame} (h : OwnF w b n f) {k : ByteArray} (hk : k.size ≤ maxLen) :
    (Instr.lookup 121 (.map (some b)) (.string k) true).run Tryz.prog w = .ok (.tuple #[.string ((f (bytesOf k)).getD ⟨#[]⟩), .bool (f (bytesOf k)).isSome]) w ∧ ((f (bytesOf k)).getD ⟨#[]⟩).size ≤ maxLen := by
  obtain ⟨D, hD, hf⟩ := h
  obtain ⟨v, ps, hrun, hv⟩ := World.ownsMap.look_ok hD (string_keyed Tryz.underlying9) Tryz.underlyingMS (zero9 w) (plainElem_string (s := ⟨#[]⟩) Tryz.underlying9 (by simp [ByteArray.size])) (keyOf_string_mk Tryz.underlying9 hk)
  obtain ⟨a, rfl, ha, hz⟩ := plainElem_string_inv Tryz.underlying9 hv
  rw [hrun]
  have e1 := (hf (bytesOf k)).1
  have e2 := (hf (bytesOf k)).2 (.lit (.string []))
  rw [show Lit.string k.data.toList = Lit.string (bytesOf k) from rfl] at ha ⊢
  have ha' : D.atKey (.string (bytesOf k)) (.lit (.string [])) = .lit (.string a.data.toList) := congrArg Prod.fst ha
  rw [e1]
  cases hfk : f (bytesOf k) with
  | none =>
    rw [(hf _).2, hfk] at ha'
    have e : [] = a.data.toList := Lit.string.inj (DataW.lit.inj ha')
    have : a = ⟨#[]⟩ := ByteArray.ext (Array.toList_inj.1 (show a.data.toList = [] from e.symm))
    subst this
    exact ⟨by simp, by simp [ByteArray.size]⟩
  | some x =>
    rw [(hf _).2, hfk] at ha'
    have e : bytesOf x = a.data.toList := Lit.string.inj (DataW.lit.inj ha')
    have : a = x := ByteArray.ext (Array.toList_inj.1 (show a.data.toList = x.data.toList from e.symm))
    subst this
    exact ⟨by simp, by simpa using hz⟩
theorem OwnF.put {w : World} {b n : Nat} {f : Frame} (h : OwnF w b n f) (hn : n < maxLen) {k v : ByteArray} (hk : k.size ≤ maxLen) (hv : v.size ≤ maxLen) :
    ∃ w', (Instr.mapUpdate 121 (.map (some b)) (.string k) (.string v)).run Tryz.prog w = .ok () w' ∧ OwnF w' b (n + 1) (upd f k v) ∧ w.grownBy w' (some b) := by
  obtain ⟨D, hD, hf⟩ := h
  obtain ⟨w', h1, h2, h3⟩ := World.ownsMap.update hD (string_keyed Tryz.underlying9) Tryz.underlyingMS hn (keyOf_string_mk Tryz.underlying9 hk) (plainElem_string Tryz.underlying9 hv)
  refine ⟨w', h1, ⟨_, h2, fun x => ?_⟩, h3⟩
  have hm : IsMap D := hD.isMap
  by_cases hx : x = bytesOf k
  · subst hx
    have e1 := has_put_same (D := D) hm (k := .string (bytesOf k)) (by simp [WideAt.IsKeyLit]) (.lit (.string (bytesOf v)))
    refine ⟨by simp [upd]; exact e1, fun z => ?_⟩
    have e2 := atKey_put_same (D := D) hm (k := .string (bytesOf k)) (by simp [WideAt.IsKeyLit]) (.lit (.string (bytesOf v))) z
    simp [upd]; exact e2
  · have hne : Lit.string x ≠ Lit.string k.data.toList := by simp; exact hx
    have hb : (x == bytesOf k) = false := by simpa using hx
    simp only [upd, hb, Bool.false_eq_true, if_false]
    rw [has_put_other hne]
    exact ⟨(hf x).1, fun z => by rw [atKey_put_other hne]; exact (hf x).2 z⟩

/-- A frame as a value. -/
def FrameAt (w : World) (bu : Nat) (v : Value) (f : Frame) : Prop :=
  (v = .map none ∧ ∀ k, f k = none) ∨ ∃ b, v = .map (some b) ∧ b ≠ bu ∧ OwnF w b 1000000 f
theorem FrameAt.kept {w w' : World} {bu : Nat} {v : Value} {f : Frame} (h : FrameAt w bu v f) (hg : w.grownBy w' (some bu)) : FrameAt w' bu v f := by
  rcases h with h | ⟨b, h1, h2, h3⟩
  · exact .inl h
  · exact .inr ⟨b, h1, h2, h3.kept hg (fun e => h2 (Option.some.inj e))⟩
theorem FrameAt.later {w w' : World} {bu : Nat} {v : Value} {f : Frame} (h : FrameAt w bu v f) (hb : Below w.heap.size w w') : FrameAt w' bu v f := by
  rcases h with h | ⟨b, h1, h2, h3⟩
  · exact .inl h
  · exact .inr ⟨b, h1, h2, h3.later hb⟩
theorem FrameAt.look {w : World} {bu : Nat} {v : Value} {f : Frame} (h : FrameAt w bu v f) {k : ByteArray} (hk : k.size ≤ maxLen) :
    (Instr.lookup 121 v (.string k) true).run Tryz.prog w = .ok (.tuple #[.string ((f (bytesOf k)).getD ⟨#[]⟩), .bool (f (bytesOf k)).isSome]) w ∧ ((f (bytesOf k)).getD ⟨#[]⟩).size ≤ maxLen := by
  rcases h with ⟨rfl, h⟩ | ⟨b, rfl, _, h⟩
  · rw [h]
    refine ⟨?_, by simp [ByteArray.size]⟩
    have := look_nil (P := Tryz.prog) (w := w) (t := 121) true (string_keyed Tryz.underlying9) Tryz.underlyingMS (zero9 w) (keyOf_string_mk Tryz.underlying9 hk)
    rw [this]; rfl
  · exact h.look hk

end Go.Proofs.YtjmlaeofjjhfmaaGreat
/- The reference's word and Fresh. -/
namespace Go.Proofs.YtjmlaeofjjhfmaaGreat
open Go.RowKit Go.Shelf Go.Maps

theorem valR_inj : ∀ (l l' : List UInt8), lettersL l → lettersL l' → valR l = valR l' → l = l'
  | [], [], _, _, _ => rfl
  | [], c :: cs, _, h, e => by have := h c (by simp); simp only [valR] at e; omega
  | c :: cs, [], h, _, e => by have := h c (by simp); simp only [valR] at e; omega
  | c :: cs, d :: ds, h, k, e => by
    have hc := h c (by simp)
    have hd := k d (by simp)
    simp only [valR] at e
    have e1 : c.toNat = d.toNat := by omega
    have e2 : valR cs = valR ds := by omega
    rw [UInt8.toNat_inj.1 e1, valR_inj cs ds (fun x hx => h x (by simp [hx])) (fun x hx => k x (by simp [hx])) e2]
theorem valR_append : ∀ (l m : List UInt8), valR (l ++ m) = valR l + 26 ^ l.length * valR m
  | [], m => by simp [valR]
  | c :: cs, m => by
    rw [List.cons_append]
    simp only [valR, valR_append cs m, List.length_cons, Nat.pow_succ, Nat.mul_add]
    rw [show 26 * (26 ^ cs.length * valR m) = 26 ^ cs.length * 26 * valR m by rw [Nat.mul_comm (26 ^ cs.length) 26, Nat.mul_assoc]]
    omega
theorem valL_cons (c : UInt8) (l : List UInt8) : valL (c :: l) = valL l + 26 ^ l.length * (c.toNat - 96) := by
  unfold valL
  rw [List.reverse_cons, valR_append, List.length_reverse]
  simp [valR]
theorem strN_of_val {l : List UInt8} {j : Nat} (hl : lettersL l) (h : valL l = j + 1) : l = strN j := by
  obtain ⟨h1, h2⟩ := strN_val j
  have := valR_inj l.reverse (strN j).reverse (fun c hc => hl c (List.mem_reverse.1 hc)) (fun c hc => h2 c (List.mem_reverse.1 hc)) (by show valL l = valL (strN j); rw [h, h1])
  simpa using congrArg List.reverse this

theorem mkB_cons (c : UInt8) (l : List UInt8) : (mkB [c] ++ mkB l : ByteArray) = mkB (c :: l) := by
  apply bytes_inj'; simp [mkB]

set_option maxRecDepth 10000 in
set_option maxHeartbeats 1000000 in
theorem word_any (j : Nat) (w : World) (hj : j < 1000) :
    Calls Tryz.prog 55 #[.int .i64 (j + 1 : Nat)] w fun e w' => e = .returned (.string (mkB (strN j))) ∧ Below w.heap.size w w' := by
  go_enter Tryz.func55, Tryz.ntmps55
  go_wp2
  go_loopw [0, 3] (fun nv sv wr => ∃ (n : Nat) (l : List UInt8), n ≤ 1000 ∧ nv = .int .i64 n ∧ sv = .string (mkB l) ∧ lettersL l ∧ j + 1 = valL l + 26 ^ l.length * n ∧ Below w.heap.size w wr) (fun nv _ _ => (intOf nv).toNat)
  case atStart => exact ⟨j + 1, [], by omega, by first | rfl | simp, rfl, by intro c hc; simp at hc, by simp [valL, valR], Below.refl _ _⟩
  case round =>
    obtain ⟨n, l, hn, rfl, rfl, hl, hv, hb⟩ := hrel
    have hb0 := hb.size
    by_cases h0 : 0 < n
    · obtain ⟨m, rfl⟩ : ∃ m, n = m + 1 := ⟨n - 1, by omega⟩
      have h0' : (0 : Int) < ((m + 1 : Nat) : Int) := by omega
      have hlen : l.length ≤ 1000 := by
        have := valR_ge l.reverse (fun c hc => hl c (List.mem_reverse.1 hc))
        rw [List.length_reverse] at this
        have h9 : valR l.reverse = valL l := rfl
        omega
      obtain ⟨c, hc⟩ : ∃ c : UInt8, c = UInt8.ofNat (97 + m % 26) := ⟨_, rfl⟩
      have hct : c.toNat = 97 + m % 26 := by rw [hc, UInt8.toNat_ofNat']; omega
      have hnew : lettersL (c :: l) := by
        intro d hd
        rcases List.mem_cons.1 hd with hd | hd
        · subst hd; omega
        · exact hl d hd
      have hval : j + 1 = valL (c :: l) + 26 ^ (c :: l).length * (m / 26) := by
        rw [valL_cons, hct, List.length_cons, Nat.pow_succ, Nat.mul_assoc, Nat.add_assoc, ← Nat.mul_add, hv]
        congr 2; omega
      have HV := Lib.hid hval; have HV0 := Lib.hid hv
      have hcz : ((c.toNat : Int)) = 97 + (m : Int) % 26 := by omega
      have hconv : (convert 146 9 (.slice (some ⟨wr.heap.size, 0, none⟩) 1 1)).run Tryz.prog (wr.alloc (.cells #[.int .u8 (97 + (m : Int) % 26)] 5)) = .ok (.string (mkB [c])) (wr.alloc (.cells #[.int .u8 (97 + (m : Int) % 26)] 5)) := by
        refine run_convert_bytes_back _ 146 9 5 ⟨wr.heap.size, 0, none⟩ 1 [c] Tryz.underlying146 Tryz.underlying5 Tryz.underlying9 (fun i hi => ?_)
        have hi0 : i = 0 := by simpa using hi
        subst hi0
        show World.cell? _ ⟨wr.heap.size, 0, none⟩ = _
        rw [World.cell?_alloc_at _ _ _ _ rfl]
        simp [hcz]
      have hsz : ¬ 9223372036854775807 < (mkB [c]).size + (mkB l).size := by rw [mkB_size, mkB_size]; simp; omega
      obtain ⟨s1, hs1⟩ : ∃ s1, s1 = mkB [c] := ⟨_, rfl⟩
      obtain ⟨s2, hs2⟩ : ∃ s2, s2 = mkB l := ⟨_, rfl⟩
      have hcat : Hid (s1 ++ s2 = mkB (c :: l)) := Lib.hid (by rw [hs1, hs2]; exact mkB_cons c l)
      rw [← hs1] at hconv hsz
      rw [← hs2] at hsz ⊢
      have HS1 := Lib.hid hs1; have HS2 := Lib.hid hs2
      clear hc hval hv hs1 hs2 hcz
      go_wp2
      go_roundw
      case rel => exact ⟨m / 26, c :: l, by omega, by go_num, by rw [hcat.out], hnew, HV.out, hb.alloc hb0 _⟩
      case measure => simp [intOf]; omega
    · obtain rfl : n = 0 := by omega
      have he := strN_of_val hl (by simpa using hv.symm)
      go_wp2
      go_ret
      exact ⟨by rw [← he]; rfl, hb⟩

end Go.Proofs.YtjmlaeofjjhfmaaGreat
