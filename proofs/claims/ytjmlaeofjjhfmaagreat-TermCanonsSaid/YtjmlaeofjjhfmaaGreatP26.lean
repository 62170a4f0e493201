/- Parts. -/
import Derived.Test.YtjmlaeofjjhfmaaGreatP25
import Derived.Test.YtjmlaeofjjhfmaaGreatP15
set_option linter.unusedVariables false
set_option linter.unusedSimpArgs false
namespace Go.Proofs.YtjmlaeofjjhfmaaGreat
open Go.RowKit Go.Shelf Go.Maps Go.WideMaps

set_option maxRecDepth 10000 in
set_option maxHeartbeats 4000000 in
theorem parts_work (B : Nat) (u : World) (t : Term) (hf : Formed (.proc t)) (cs : List Value) (hat : TermAt B u cs t) (w : World) (hu : KeptC B u w) (hB : B ≤ w.heap.size) (n0 : Nat) (c0 : CellsAt w n0 0 cs)
    (y : Term × Used) (hR : copyT ⟨.outside, [frame0]⟩ (fun _ => false) t = some y) (hyf : Fine (.proc y.1)) (hys : (Part.proc y.1).size ≤ 60) (hbc : bcT t ≤ 4000) :
    Calls Tryz.prog 99 #[.pointer (some ⟨n0, 0, none⟩)] w fun e' w' => ∃ v, e' = .returned v ∧ SlAt w'.heap.size v (splitT y.1).length (fun b off => TermsAt w'.heap.size (blank w.heap.size w') b off (splitT y.1)) ∧ Below w.heap.size w w' := by
  obtain ⟨o0, tx, s0, m0, k0, s1, m1, k1, s2, m2, k2, rfl⟩ := term_shape hat
  have hpt : PartAt B u (.iface 83 (.agg #[.int .i64 o0, .string tx, .slice s0 m0 k0, .slice s1 m1 k1, .slice s2 m2 k2])) (.proc t) := ⟨_, rfl, hat⟩
  obtain ⟨G, hG⟩ : ∃ G : World → Prop, G = fun W => Below w.heap.size w W := ⟨_, rfl⟩
  have hrd : ∀ W, G W → (W.cell? ⟨n0, 0, none⟩ = some (.int .i64 o0) ∧ W.cell? ⟨n0, 1, none⟩ = some (.string tx) ∧ W.cell? ⟨n0, 2, none⟩ = some (.slice s0 m0 k0) ∧ W.cell? ⟨n0, 3, none⟩ = some (.slice s1 m1 k1) ∧ W.cell? ⟨n0, 4, none⟩ = some (.slice s2 m2 k2)) ∧ KeptC B u W ∧ B ≤ W.heap.size := by
    intro W h
    rw [hG] at h
    exact ⟨cells5 (c0.below h (lt_of_cell (c0 0 (by simp)))), hu.trans ((Below.keptC h).mono hB), by have := h.size; omega⟩
  have hcop : ∀ W, G W → Calls Tryz.prog 101 #[] W fun e w' => e = .returned (.agg #[.iface 116 (.agg #[.map none]), .map none]) ∧ G w' := fun W h => by
    rw [hG] at h ⊢
    exact (copied_any W).mono fun _ w' ⟨h1, h2⟩ => ⟨h1, h.trans (h2.mono h.size)⟩
  have hcp : ∀ W, G W → Calls Tryz.prog 87 #[.agg #[.iface 116 (.agg #[.map none]), .map none], .agg #[.int .i64 o0, .string tx, .slice s0 m0 k0, .slice s1 m1 k1, .slice s2 m2 k2]] W fun e' w' =>
      ∃ cs', e' = .returned (.agg cs'.toArray) ∧ TermAt w'.heap.size (blank w.heap.size w') cs' y.1 ∧ G w' := fun W h => by
    obtain ⟨_, hu1, hB1⟩ := hrd W h
    have hpst := copy_start (B := B) (u := u) (m := none) (b := .outside) (fun r e => by cases e) (fun _ => rfl) t hf (.iface 116 (.agg #[.map none])) W rfl hu1 hB1 (fun _ => false) 0 _ hat (bud_none _ (by omega) W)
    rw [hR] at hpst
    refine hpst.mono ?_
    rintro e' w' ⟨cs', rfl, h1, _, h3⟩
    rw [hG] at h ⊢
    exact ⟨_, rfl, TermAt.keep (blank_kept h.size fun b o v _ _ hv => hv) (Nat.le_refl _) _ _ h1, h.trans ((grown_below h3).mono h.size)⟩
  have hsp : ∀ W cs', G W → TermAt W.heap.size (blank w.heap.size W) cs' y.1 → Calls Tryz.prog 100 #[.agg cs'.toArray] W fun e' w' => ∃ a c, e' = .returned (.slice a (splitT y.1).length c) ∧ SlAt w'.heap.size (.slice a (splitT y.1).length c) (splitT y.1).length (fun b off => TermsAt w'.heap.size (blank w.heap.size w') b off (splitT y.1)) ∧ G w' := fun W cs' h ht => by
    rw [hG] at h ⊢
    refine (split_any W.heap.size (blank w.heap.size W) 60 y.1 hys (Nat.le_refl _) hyf cs' W ht (blank_off _ _ _) (Nat.le_refl _)).mono ?_
    rintro e' w' ⟨r, vals, rfl, h1, h2, h3⟩
    obtain ⟨a, c, rfl, hk, hcell⟩ := owns_cells (by omega) h1
    refine ⟨a, c, rfl, ⟨a, c, rfl, hk, ?_⟩, h.trans (h3.mono h.size)⟩
    rcases hcell with hcell | ⟨g, rfl, hg, hA, hcc⟩
    · exact .inl hcell
    · refine .inr ⟨g, 0, rfl, hg, TermsAt.mk _ g 0 fun i hi => ⟨_, cells_blank (cells_part i 5 hcc ?_) (by have := h.size; omega), ?_⟩⟩
      · rw [h2.1, ← Nat.succ_mul]; exact Nat.mul_le_mul_right 5 hi
      · exact TermAt.keep (blank_kept (Nat.le_refl _) fun b o v _ hb hv => (h3.cell (p := ⟨b, o, none⟩) hb).trans hv) h3.size _ _ (h2.2 i hi)
  have hm1 := must_ok B u _ _ w hu hB hf hpt
  obtain ⟨⟨a0, a1, a2, a3, a4⟩, _⟩ := hrd w (by rw [hG]; exact Below.refl _ _)
  have HG := Lib.hid hG
  clear c0 hG hat
  go_enter Tryz.func99, Tryz.ntmps99
  go_wp2_with fail
  refine hm1.mono ?_
  clear hm1
  rintro e' w1 ⟨rfl, hb1⟩
  clear a0 a1 a2 a3 a4
  have g1 : G w1.drew := by rw [HG.out]; exact hb1.drew
  obtain ⟨⟨b0', b1', b2', b3', b4'⟩, _⟩ := hrd w1.drew g1
  go_wp2_with fail
  go_region_held3 (fun w' => w'.cell? ⟨n0, 0, none⟩ = some (.int .i64 o0) ∧ w'.cell? ⟨n0, 1, none⟩ = some (.string tx) ∧ w'.cell? ⟨n0, 2, none⟩ = some (.slice s0 m0 k0) ∧ w'.cell? ⟨n0, 3, none⟩ = some (.slice s1 m1 k1) ∧ w'.cell? ⟨n0, 4, none⟩ = some (.slice s2 m2 k2)) (go_keep)
    (first
    | (go_at_call 101; refine (hcop _ (by assumption)).mono ?_; rintro e' w2 ⟨rfl, g2⟩; obtain ⟨⟨s0', s1', s2', s3', s4'⟩, _⟩ := hrd w2 g2)
    | (go_at_call 87; refine (hcp _ (by assumption)).mono ?_; rintro e' w3 ⟨cs', rfl, ht3, g3⟩; obtain ⟨⟨t0', t1', t2', t3', t4'⟩, _⟩ := hrd w3 g3)
    | (go_at_call 100; refine (hsp _ _ (by assumption) (by assumption)).mono ?_; rintro e' w4 ⟨ra, rc, rfl, hs4, g4⟩; obtain ⟨⟨x0', x1', x2', x3', x4'⟩, _⟩ := hrd w4 g4))
  all_goals
    have hbF : Below w.heap.size w w4 := by rw [HG.out] at g4; exact g4
    go_wp2
    go_ret
    exact ⟨_, rfl, hs4, hbF⟩

set_option maxRecDepth 10000 in
set_option maxHeartbeats 4000000 in
theorem parts_any45 (B : Nat) (u : World) (t : Term) (hf : Formed (.proc t)) (cs : List Value) (hat : TermAt B u cs t) (w : World) (hu : KeptC B u w) (hB : B ≤ w.heap.size)
    (y : Term × Used) (hR : copyT ⟨.outside, [frame0]⟩ (fun _ => false) t = some y) (hyf : Fine (.proc y.1)) (hys : (Part.proc y.1).size ≤ 60) (hbc : bcT t ≤ 4000) :
    Calls Tryz.prog 45 #[.agg cs.toArray] w fun e' w' => ∃ v, e' = .returned (.tuple #[v, .int .i64 0]) ∧ SlAt w'.heap.size v (splitT y.1).length (fun b off => TermsAt w'.heap.size w' b off (splitT y.1)) ∧ Below w.heap.size w w' := by
  obtain ⟨o0, tx, s0, m0, k0, s1, m1, k1, s2, m2, k2, rfl⟩ := term_shape hat
  obtain ⟨W0, hW0⟩ : ∃ W0, W0 = w.alloc (.cells #[.int .i64 o0, .string tx, .slice s0 m0 k0, .slice s1 m1 k1, .slice s2 m2 k2] 33) := ⟨_, rfl⟩
  have hb0 : Below w.heap.size w W0 := by rw [hW0]; exact (Below.refl _ w).alloc (Nat.le_refl _) _
  have hz : W0.heap.size = w.heap.size + 1 := by rw [hW0]; simp
  have h0 : W0.heap[w.heap.size]? = some (.cells #[.int .i64 o0, .string tx, .slice s0 m0 k0, .slice s1 m1 k1, .slice s2 m2 k2] 33) := by rw [hW0]; exact World.alloc_heap_new w _
  have hbC : Below W0.heap.size W0 (W0.alloc (.cells #[.int .i64 0] 37)) := (Below.refl _ W0).alloc (Nat.le_refl _) _
  have hbwC := hb0.trans (hbC.mono (by omega))
  have hw := parts_work B u t hf _ hat (W0.alloc (.cells #[.int .i64 0] 37)) (hu.trans ((Below.keptC hbwC).mono hB)) (by have := hbwC.size; omega) w.heap.size
    (fun j hj => by
      have q := (hbC.block w.heap.size (by omega)).trans h0
      match j, hj with
      | 0, _ => simp [World.cell?, q]
      | 1, _ => simp [World.cell?, q]
      | 2, _ => simp [World.cell?, q]
      | 3, _ => simp [World.cell?, q]
      | 4, _ => simp [World.cell?, q]) y hR hyf hys hbc
  have hmf : ∀ (fn : Fn) (first cap : Array Value) (w : World), (Instr.makeFunc fn first cap).run Tryz.prog w = .ok (.func fn first cap) w := fun _ _ _ _ => rfl
  have ha := attempt_98 99 #[.pointer (some ⟨w.heap.size, 0, none⟩)] W0 (fun v w' => SlAt w'.heap.size v (splitT y.1).length (fun b off => TermsAt w'.heap.size (blank (W0.heap.size + 1) w') b off (splitT y.1))) (enters_of Tryz.func99 (by kernel_rfl) rfl) (by
    refine hw.mono ?_
    rintro e' w' ⟨v, rfl, h1, h2⟩
    rw [World.size_alloc] at h1 h2
    exact ⟨v, rfl, h1, h2⟩)
  have HW := Lib.hid hW0
  have HZ := Lib.hid hz
  clear hw hW0 hz
  go_enter Tryz.func45, Tryz.ntmps45
  go_wp2_with (go_at_call 98; rw [← HW.out]; refine ha.mono ?_; clear ha; rintro e' w2 ⟨v, w1, rfl, hR1, hb1, rfl⟩)
  go_ret2
  have hz := HZ.out
  have hL : Later (w.heap.size + 2) w1 (w1.setCell ⟨W0.heap.size, 0, none⟩ (.int .i64 0)) := (Later.refl _ _).set _ _ (by simp; omega)
  refine ⟨_, rfl, ?_, ?_⟩
  · obtain ⟨a, c, rfl, hk, h⟩ := hR1
    refine ⟨a, c, rfl, hk, ?_⟩
    rcases h with h | ⟨b, off, h1, h2, h3⟩
    · exact .inl h
    · have h4 := TermsAt.keep (hL.kept (A0 := W0.heap.size + 1) (A' := 0) (B := w1.heap.size) (by omega) (by omega) (Nat.le_refl _)) (Nat.le_refl _) _ b off h2 h3
      exact .inr ⟨b, off, h1, by rw [World.size_setCell]; exact h2, TermsAt.keep (blank_off 0 _ _) (by rw [World.size_setCell]; exact Nat.le_refl _) _ b off h2 h4⟩
  · exact (hbwC.trans (hb1.mono (by omega))).setCell (show w.heap.size ≤ W0.heap.size by omega) _

end Go.Proofs.YtjmlaeofjjhfmaaGreat
/- The reference's Spots: the lists of definitions that are beside each other. -/
namespace Go.Proofs.YtjmlaeofjjhfmaaGreat
open Go.RowKit Go.Shelf Go.Maps

theorem groupsI_append : ∀ a b : List Clause, groupsI (a ++ b) = groupsI a ++ groupsI b
  | [], b => rfl
  | x :: a, b => by simp [groupsI, groupsI_append a b]
theorem groupsI_take_le (d : List Clause) (k : Nat) : (groupsI (d.take k)).length ≤ (groupsI d).length := by
  have h := groupsI_append (d.take k) (d.drop k)
  rw [List.take_append_drop] at h
  rw [h, List.length_append]; omega
theorem groupsI_nil : groupsI [] = [] := rfl
set_option maxRecDepth 10000 in
set_option maxHeartbeats 2000000 in
theorem spots_any (B : Nat) (u : World) : ∀ (s : Nat) (d : List Clause), csize d ≤ s → s ≤ 900 → ∀ (a : Option Addr) (cap : Nat) (w : World) (A : Nat) (v : Value) (vals : List Value) (gs : List (List Clause)), KeptC B u w → B ≤ A → A ≤ w.heap.size →
    w.ownsRow A 30 1 v vals.length vals → GroupsAt B u vals gs → vals.length + (groupsI d).length ≤ 5000 → (d.length = 0 ∨ ∃ b off, a = some ⟨b, off, none⟩ ∧ b < B ∧ ClausesAt B u b off d) →
    Calls Tryz.prog 164 #[v, .slice a d.length cap] w fun e w' => ∃ r vals', e = .returned r ∧ w'.ownsRow A 30 1 r vals'.length vals' ∧ GroupsAt B u vals' (gs ++ groupsI d) ∧ Below A w w' := by
  intro s
  induction s with
  | zero =>
    intro d hd _ a cap w A v vals gs hu hBA hAw ho hg hn hs
    have hd0 : d = [] := by
      have := len_csize d
      exact List.eq_nil_of_length_eq_zero (by omega)
    subst hd0
    obtain ⟨r1, r2, hr, _⟩ := owns_cells (by omega) ho
    subst hr
    go_enter Tryz.func164, Tryz.ntmps164
    go_wp2_with fail
    go_loopw [0, 5] (fun v' i wr => v' = .slice r1 vals.length r2 ∧ i = .int .i64 0 ∧ wr = w) (fun _ _ _ => 0)
    case atStart => exact ⟨rfl, rfl, rfl⟩
    case round =>
      obtain ⟨rfl, rfl, rfl⟩ := hrel
      go_wp2
      go_ret
      exact ⟨_, vals, rfl, ho, by rw [groupsI_nil, List.append_nil]; exact hg, Below.refl _ _⟩
  | succ s ih =>
    intro d hd hs9 a cap w A v vals gs hu hBA hAw ho hg hn hsrc
    obtain ⟨i0, hi, hz0, hz1, hz2⟩ := info_parts info30
    obtain ⟨r1, r2, hr, _⟩ := owns_cells (by omega) ho
    subst hr
    have hdl := len_csize d
    have hIl := groupsI_take_le d
    have hu' := Lib.hid hu
    clear hu
    go_enter Tryz.func164, Tryz.ntmps164
    go_wp2_with fail
    go_loopw [0, 5] (fun v' i wr => ∃ (k : Nat) (vs : List Value), k ≤ d.length ∧ i = .int .i64 k ∧ wr.ownsRow A 30 1 v' vs.length vs ∧ GroupsAt B u vs (gs ++ groupsI (d.take k)) ∧ Below A w wr) (fun _ i _ => d.length - (intOf i).toNat)
    case atStart => exact ⟨0, vals, by omega, rfl, ho, by simpa [groupsI_nil] using hg, Below.refl _ _⟩
    case round =>
      obtain ⟨k, vs, hk, rfl, hown, hgr, hb⟩ := hrel
      have hvl := hgr.1
      have hIk := hIl k
      have hIk1 := hIl (k + 1)
      have hgl := hg.1
      rw [List.length_append] at hvl
      have hwr := hb.size
      by_cases hlt : k < d.length
      · rcases hsrc with h0 | ⟨b, off, rfl, hbB, hcs⟩
        · omega
        obtain ⟨cc, hcell, hat⟩ := ClausesAt.get d b off hcs k hlt
        have hpart := csize_part hlt
        have htk := groupsI_take d k hlt
        obtain ⟨q, hq⟩ : ∃ q, q = d[k] := ⟨_, rfl⟩
        rw [← hq] at hat hpart htk
        obtain ⟨f, t, j, dd, kk⟩ := q
        obtain ⟨htz, _, _, _, rfl, ⟨a0, p0, rfl, _⟩, ⟨a1, p1, rfl, hl1, hx1⟩, ⟨a2, p2, rfl, _⟩⟩ := hat
        obtain ⟨c0, c1, c2, c3, c4⟩ := cells5 (hcell.keep (hu'.out.trans ((Below.keptC hb).mono hBA)) hbB)
        have HQ := Lib.hid hq
        have HCL := Lib.hid hcell
        clear hcell hcs hq
        by_cases hf : f = 2
        · subst hf
          have e1 : groupsC (.mk 2 t j dd kk) = dd :: groupsI dd := by rw [groupsC, if_pos rfl]
          rw [e1] at htk
          have hlen : (groupsI (d.take (k + 1))).length = (groupsI (d.take k)).length + (1 + (groupsI dd).length) := by rw [htk]; simp; omega
          have HTK := Lib.hid htk
          clear htk
          have hAl : Below wr.heap.size wr (wr.alloc (.cells #[.slice a1 dd.length p1] 30)) := (Below.refl _ wr).alloc (Nat.le_refl _) _
          have hoA := ownsRow_keep hown (grown_of_below hAl) (fun g _ e => by cases e)
          obtain ⟨v', w', hr, h1, h2, _, _⟩ := run_append_own_at (P := Tryz.prog) (wr.alloc (.cells #[.slice a1 dd.length p1] 30)) A 163 163 30 i0 (.slice none 0 0) 1 24 Tryz.underlying163 hi hz0 hz1 hz2 rfl (by decide) _ _ _ hoA
            ⟨wr.heap.size, 0, none⟩ 1 1 [.slice a1 dd.length p1] rfl (by
              intro j u hj
              have e : (⟨wr.heap.size, 0, none⟩ : Addr).add j = ⟨wr.heap.size, j, none⟩ := by unfold Addr.add; by_cases h : j = 0 <;> simp [h]
              rw [e, World.cell?_alloc_at _ _ _ _ rfl]
              simpa using hj) (by simp [Value.oneCell']) (by unfold maxLen; omega) (by omega) (by simp; omega)
          have hbw : Below A w w' := (hb.trans (hAl.mono (by omega))).grown h2 (by simp; omega) (fun r e => (hown.lt r e).1)
          obtain ⟨_, ⟨_, h0⟩ | ⟨gg, cp, cur, hvf, _⟩⟩ := id h1
          · omega
          subst hvf
          have hg2 : GroupsAt B u (vs ++ [.slice a1 dd.length p1]) ((gs ++ groupsI (d.take k)) ++ [dd]) := hgr.append ⟨by simp, fun i h h' => by
            have : i = 0 := by simp at h; omega
            subst this
            exact ⟨a1, p1, rfl, hl1, hx1⟩⟩
          have hih := ih dd (by have h5 : csize (Clause.defs (.mk 2 t j dd kk)) < csize d := hpart; simp only [Clause.defs] at h5; omega) (by omega) a1 p1 w' A (.slice (some ⟨gg, 0, none⟩) (vs.length + 1) cp) (vs ++ [.slice a1 dd.length p1]) _ (hu'.out.trans ((Below.keptC hbw).mono hBA)) hBA (by have := hbw.size; omega)
            (by rw [List.length_append]; exact h1) hg2 (by rw [List.length_append]; simp; omega) hx1
          have hzw := hbw.size
          obtain ⟨z0, z1, z2, z3, z4⟩ := cells5 (HCL.out.keep (hu'.out.trans ((Below.keptC hbw).mono hBA)) hbB)
          clear h1 h2 hoA hg2 hgr hown hvl
          go_wp2_with (first
            | (show wpList _ _ _ (⟨some 25, _, _, _, _, _⟩ :: _) _ _; refine wpList_append_eq rfl (.tmp 18) (.tmp 24) 163 163 rfl rfl rfl hr ?_)
            | (go_at_call 164; refine hih.mono ?_; clear hih; rintro e w3 ⟨r, vals', rfl, ho3, hg3, hb3⟩; have H1 := Lib.hid ho3; have H2 := Lib.hid hg3; have H3 := Lib.hid (hbw.trans hb3); clear ho3 hg3 hb3))
          go_roundw
          case rel => exact ⟨k + 1, vals', by omega, by go_num, H1.out, by rw [HTK.out]; have := H2.out; simpa using this, H3.out⟩
          case measure => simp [intOf]; omega
        · have e1 : groupsC (.mk f t j dd kk) = [] := by rw [groupsC, if_neg hf]
          rw [e1, List.append_nil] at htk
          have HTK := Lib.hid htk
          clear htk
          go_wp2
          go_roundw
          case rel => exact ⟨k + 1, vs, by omega, by go_num, hown, by rw [HTK.out]; exact hgr, hb⟩
          case measure => simp [intOf]; omega
      · obtain rfl : k = d.length := by omega
        rw [List.take_length] at hgr
        obtain ⟨x1, x2, hx, _⟩ := owns_cells (by omega) hown
        subst hx
        go_wp2
        go_ret
        exact ⟨_, vs, rfl, hown, hgr, hb⟩

set_option maxHeartbeats 1000000 in
theorem spots_all (B : Nat) (u : World) (d : List Clause) (hd : csize d ≤ 900) (a : Option Addr) (cap : Nat) (hdl : d.length ≤ 9223372036854775807) (hsrc : d.length = 0 ∨ ∃ b off, a = some ⟨b, off, none⟩ ∧ b < B ∧ ClausesAt B u b off d) (w : World) (hu : KeptC B u w) (hB : B ≤ w.heap.size) :
    Calls Tryz.prog 123 #[.slice a d.length cap] w fun e w' => ∃ r vals', e = .returned r ∧ w'.ownsRow w.heap.size 30 1 r vals'.length vals' ∧ GroupsAt B u vals' (groupsL d) ∧ Below w.heap.size w w' := by
  have hAl : Below w.heap.size w (w.alloc (.cells #[.slice a d.length cap] 30)) := (Below.refl _ w).alloc (Nat.le_refl _) _
  have h := spots_any B u 900 d hd (Nat.le_refl _) a cap (w.alloc (.cells #[.slice a d.length cap] 30)) w.heap.size (.slice (some ⟨w.heap.size, 0, none⟩) 1 1) [.slice a d.length cap] [d] (hu.trans ((Below.keptC hAl).mono hB)) hB (by simp)
    ⟨rfl, .inr ⟨w.heap.size, 1, #[.slice a d.length cap], rfl, Nat.le_refl _, World.alloc_heap_new w _, by simp, by unfold maxLen; omega, rfl, rfl⟩⟩ ⟨rfl, fun i hi hi' => by
      cases i with
      | zero => exact ⟨a, cap, rfl, hdl, hsrc⟩
      | succ i => simp at hi⟩ (by have := groupsI_len d; unfold csize at hd; simp; omega) hsrc
  go_enter Tryz.func123, Tryz.ntmps123
  go_wp2_with (go_at_call 164; refine h.mono ?_; clear h; rintro e w1 ⟨r, vals', rfl, h1, h2, h3⟩; obtain ⟨x1, x2, hx, _⟩ := owns_cells (by omega) h1; subst hx)
  go_ret
  exact ⟨_, vals', rfl, h1, h2, hAl.trans h3⟩

end Go.Proofs.YtjmlaeofjjhfmaaGreat
/- What the reference has seen of definitions: in memory. -/
namespace Go.Proofs.YtjmlaeofjjhfmaaGreat
open Go.RowKit Go.Shelf Go.Maps

theorem info3 : (Tryz.prog.info? 3).map (fun i => (i.zero, i.size, i.bytes)) = some (some (.int .i64 0), 1, 8) := by kernel_rfl
def Ints (l : List Value) : Prop := ∀ v ∈ l, ∃ i, v = .int .i64 i
/-- The rows of two values lie in two blocks. -/
def Sep (v v' : Value) : Prop := ∀ g, v.ownBlock = some g → v'.ownBlock ≠ some g
theorem Sep.symm {v v' : Value} (h : Sep v v') : Sep v' v := fun g h1 h2 => h g h2 h1
/-- The box sb of what was seen: its four rows lie from A on, each in a block of its own, none in the block X. -/
structure Seen (A sb X : Nat) (ch pl : List ByteArray) (vch vm va vp : Value) (bad : Bool) (ms ats : List Value) (W : World) : Prop where
  box : W.heap[sb]? = some (.cells #[vch, vm, va, vp, .bool bad] 95)
  low : sb < A
  rch : W.ownsRow A 9 1 vch ch.length (strVals ch)
  rm : W.ownsRow A 3 1 vm ms.length ms
  ra : W.ownsRow A 3 1 va ats.length ats
  rp : W.ownsRow A 9 1 vp pl.length (strVals pl)
  zch : ∀ s ∈ ch, s.size ≤ maxLen
  zp : ∀ s ∈ pl, s.size ≤ maxLen
  im : Ints ms
  ia : Ints ats
  s1 : Sep vch vm
  s2 : Sep vch va
  s3 : Sep vch vp
  s4 : Sep vm va
  s5 : Sep vm vp
  s6 : Sep va vp
  x1 : vch.ownBlock ≠ some X
  x2 : vm.ownBlock ≠ some X
  x3 : va.ownBlock ≠ some X
  x4 : vp.ownBlock ≠ some X
section
variable {A sb X : Nat} {ch pl : List ByteArray} {vch vm va vp : Value} {bad : Bool} {ms ats : List Value} {W W' : World}
theorem Seen.lt (h : Seen A sb X ch pl vch vm va vp bad ms ats W) : sb < W.heap.size := (Array.getElem?_eq_some_iff.1 h.box).1
theorem Seen.cells (h : Seen A sb X ch pl vch vm va vp bad ms ats W) : W.cell? ⟨sb, 0, none⟩ = some vch ∧ W.cell? ⟨sb, 1, none⟩ = some vm ∧ W.cell? ⟨sb, 2, none⟩ = some va ∧ W.cell? ⟨sb, 3, none⟩ = some vp ∧ W.cell? ⟨sb, 4, none⟩ = some (.bool bad) ∧ ∀ o, W.frozen? ⟨sb, o, none⟩ = false := by
  have q := h.box
  exact ⟨by simp [World.cell?, q], by simp [World.cell?, q], by simp [World.cell?, q], by simp [World.cell?, q], by simp [World.cell?, q], fun o => by simp [World.frozen?, q]⟩
theorem Seen.later (h : Seen A sb X ch pl vch vm va vp bad ms ats W) (g : Below W.heap.size W W') : Seen A sb X ch pl vch vm va vp bad ms ats W' :=
  { h with box := (g.block sb h.lt).trans h.box, rch := ownsRow_keep h.rch (grown_of_below g) (fun _ _ e => by cases e), rm := ownsRow_keep h.rm (grown_of_below g) (fun _ _ e => by cases e), ra := ownsRow_keep h.ra (grown_of_below g) (fun _ _ e => by cases e), rp := ownsRow_keep h.rp (grown_of_below g) (fun _ _ e => by cases e) }
theorem row_set {w : World} {base e size n : Nat} {v x : Value} {xs : List Value} {c o : Nat} (h : w.ownsRow base e size v n xs) (hc : c < base) : (w.setCell ⟨c, o, none⟩ x).ownsRow base e size v n xs :=
  ownsRow_keep h (grownBy_setCellAt w ⟨c, o, none⟩ x) (fun g hg e => by have := (h.lt g hg).1; have h8 := Option.some.inj e; simp only at h8; omega)
theorem box_set (h : W.heap[sb]? = some (.cells #[vch, vm, va, vp, .bool bad] 95)) (o : Nat) (x : Value) : (W.setCell ⟨sb, o, none⟩ x).heap[sb]? = some (.cells (#[vch, vm, va, vp, .bool bad].setIfInBounds o x) 95) := by
  show (World.setCell W ⟨sb, o, none⟩ x).heap[sb]? = _
  simp [World.setCell, Array.getElem?_modify, h]
theorem Seen.setBad (h : Seen A sb X ch pl vch vm va vp bad ms ats W) (b : Bool) : Seen A sb X ch pl vch vm va vp b ms ats (W.setCell ⟨sb, 4, none⟩ (.bool b)) :=
  { h with box := box_set h.box 4 (.bool b), rch := row_set h.rch h.low, rm := row_set h.rm h.low, ra := row_set h.ra h.low, rp := row_set h.rp h.low }
/-- A row's own block, or a new one. -/
theorem sep_new {v v' y : Value} (h : Sep v y) (hr : v'.ownBlock = v.ownBlock ∨ v'.ownBlock = some W.heap.size) (hy : ∀ g, y.ownBlock = some g → g < W.heap.size) : Sep v' y := by
  intro g hg he
  rcases hr with hr | hr
  · rw [hr] at hg; exact h g hg he
  · rw [hr] at hg
    have := Option.some.inj hg
    have := hy g he
    omega
theorem x_new {v v' : Value} (h : v.ownBlock ≠ some X) (hr : v'.ownBlock = v.ownBlock ∨ v'.ownBlock = some W.heap.size) (hX : X < W.heap.size) : v'.ownBlock ≠ some X := by
  rcases hr with hr | hr
  · rw [hr]; exact h
  · rw [hr]; intro e; have := Option.some.inj e; omega
theorem Seen.setPlaces (h : Seen A sb X ch pl vch vm va vp bad ms ats W) {x : ByteArray} {vp' : Value} (hx : x.size ≤ maxLen) (hX : X < W.heap.size) (ho : W'.ownsRow A 9 1 vp' (pl.length + 1) (strVals (pl ++ [x]))) (g : W.grownBy W' vp.ownBlock) (hr : vp'.ownBlock = vp.ownBlock ∨ vp'.ownBlock = some W.heap.size) :
    Seen A sb X ch (pl ++ [x]) vch vm va vp' bad ms ats (W'.setCell ⟨sb, 3, none⟩ vp') where
  box := box_set ((g.block sb h.lt (fun e => by have := (h.rp.lt sb e.symm).1; have := h.low; omega)).trans h.box) 3 vp'
  low := h.low
  rch := row_set (ownsRow_keep h.rch g (fun b hb e => h.s3 b hb e)) h.low
  rm := row_set (ownsRow_keep h.rm g (fun b hb e => h.s5 b hb e)) h.low
  ra := row_set (ownsRow_keep h.ra g (fun b hb e => h.s6 b hb e)) h.low
  rp := row_set (by rw [List.length_append]; exact ho) h.low
  zch := h.zch
  zp := fun s hs => by
    rcases List.mem_append.1 hs with hs | hs
    · exact h.zp s hs
    · rw [List.mem_singleton.1 hs]; exact hx
  im := h.im
  ia := h.ia
  s1 := h.s1
  s2 := h.s2
  s3 := (sep_new h.s3.symm hr (fun g hg => (h.rch.lt g hg).2)).symm
  s4 := h.s4
  s5 := (sep_new h.s5.symm hr (fun g hg => (h.rm.lt g hg).2)).symm
  s6 := (sep_new h.s6.symm hr (fun g hg => (h.ra.lt g hg).2)).symm
  x1 := h.x1
  x2 := h.x2
  x3 := h.x3
  x4 := x_new h.x4 hr hX

theorem Seen.setChans (h : Seen A sb X ch pl vch vm va vp bad ms ats W) {x : ByteArray} {v' : Value} (hx : x.size ≤ maxLen) (hX : X < W.heap.size) (ho : W'.ownsRow A 9 1 v' (ch.length + 1) (strVals (ch ++ [x]))) (g : W.grownBy W' vch.ownBlock) (hr : v'.ownBlock = vch.ownBlock ∨ v'.ownBlock = some W.heap.size) :
    Seen A sb X (ch ++ [x]) pl v' vm va vp bad ms ats (W'.setCell ⟨sb, 0, none⟩ v') where
  box := box_set ((g.block sb h.lt (fun e => by have := (h.rch.lt sb e.symm).1; have := h.low; omega)).trans h.box) 0 v'
  low := h.low
  rch := row_set (by rw [List.length_append]; exact ho) h.low
  rm := row_set (ownsRow_keep h.rm g (fun b hb e => h.s1.symm b hb e)) h.low
  ra := row_set (ownsRow_keep h.ra g (fun b hb e => h.s2.symm b hb e)) h.low
  rp := row_set (ownsRow_keep h.rp g (fun b hb e => h.s3.symm b hb e)) h.low
  zch := fun s hs => by
    rcases List.mem_append.1 hs with hs | hs
    · exact h.zch s hs
    · rw [List.mem_singleton.1 hs]; exact hx
  zp := h.zp
  im := h.im
  ia := h.ia
  s1 := sep_new h.s1 hr (fun g hg => (h.rm.lt g hg).2)
  s2 := sep_new h.s2 hr (fun g hg => (h.ra.lt g hg).2)
  s3 := sep_new h.s3 hr (fun g hg => (h.rp.lt g hg).2)
  s4 := h.s4
  s5 := h.s5
  s6 := h.s6
  x1 := x_new h.x1 hr hX
  x2 := h.x2
  x3 := h.x3
  x4 := h.x4
theorem Seen.setMany (h : Seen A sb X ch pl vch vm va vp bad ms ats W) {x : Int} {v' : Value} (hX : X < W.heap.size) (ho : W'.ownsRow A 3 1 v' (ms.length + 1) (ms ++ [.int .i64 x])) (g : W.grownBy W' vm.ownBlock) (hr : v'.ownBlock = vm.ownBlock ∨ v'.ownBlock = some W.heap.size) :
    Seen A sb X ch pl vch v' va vp bad (ms ++ [.int .i64 x]) ats (W'.setCell ⟨sb, 1, none⟩ v') where
  box := box_set ((g.block sb h.lt (fun e => by have := (h.rm.lt sb e.symm).1; have := h.low; omega)).trans h.box) 1 v'
  low := h.low
  rch := row_set (ownsRow_keep h.rch g (fun b hb e => h.s1 b hb e)) h.low
  rm := row_set (by rw [List.length_append]; exact ho) h.low
  ra := row_set (ownsRow_keep h.ra g (fun b hb e => h.s4.symm b hb e)) h.low
  rp := row_set (ownsRow_keep h.rp g (fun b hb e => h.s5.symm b hb e)) h.low
  zch := h.zch
  zp := h.zp
  im := fun v hv => by
    rcases List.mem_append.1 hv with hv | hv
    · exact h.im v hv
    · exact ⟨x, List.mem_singleton.1 hv⟩
  ia := h.ia
  s1 := (sep_new h.s1.symm hr (fun g hg => (h.rch.lt g hg).2)).symm
  s2 := h.s2
  s3 := h.s3
  s4 := sep_new h.s4 hr (fun g hg => (h.ra.lt g hg).2)
  s5 := sep_new h.s5 hr (fun g hg => (h.rp.lt g hg).2)
  s6 := h.s6
  x1 := h.x1
  x2 := x_new h.x2 hr hX
  x3 := h.x3
  x4 := h.x4
theorem Seen.setAts (h : Seen A sb X ch pl vch vm va vp bad ms ats W) {x : Int} {v' : Value} (hX : X < W.heap.size) (ho : W'.ownsRow A 3 1 v' (ats.length + 1) (ats ++ [.int .i64 x])) (g : W.grownBy W' va.ownBlock) (hr : v'.ownBlock = va.ownBlock ∨ v'.ownBlock = some W.heap.size) :
    Seen A sb X ch pl vch vm v' vp bad ms (ats ++ [.int .i64 x]) (W'.setCell ⟨sb, 2, none⟩ v') where
  box := box_set ((g.block sb h.lt (fun e => by have := (h.ra.lt sb e.symm).1; have := h.low; omega)).trans h.box) 2 v'
  low := h.low
  rch := row_set (ownsRow_keep h.rch g (fun b hb e => h.s2 b hb e)) h.low
  rm := row_set (ownsRow_keep h.rm g (fun b hb e => h.s4 b hb e)) h.low
  ra := row_set (by rw [List.length_append]; exact ho) h.low
  rp := row_set (ownsRow_keep h.rp g (fun b hb e => h.s6.symm b hb e)) h.low
  zch := h.zch
  zp := h.zp
  im := h.im
  ia := fun v hv => by
    rcases List.mem_append.1 hv with hv | hv
    · exact h.ia v hv
    · exact ⟨x, List.mem_singleton.1 hv⟩
  s1 := h.s1
  s2 := (sep_new h.s2.symm hr (fun g hg => (h.rch.lt g hg).2)).symm
  s3 := h.s3
  s4 := (sep_new h.s4.symm hr (fun g hg => (h.rm.lt g hg).2)).symm
  s5 := h.s5
  s6 := sep_new h.s6 hr (fun g hg => (h.rp.lt g hg).2)
  x1 := h.x1
  x2 := h.x2
  x3 := x_new h.x3 hr hX
  x4 := h.x4
end

/-- append(row, x) in a drawn region: its run. -/
theorem grow9 {W : World} {A : Nat} {v : Value} {n : Nat} {xs : List Value} (h : W.ownsRow A 9 1 v n xs) (x : ByteArray) (hA : A ≤ W.heap.size) (hn : n ≤ 100000) :
    ∃ g cp w3, (Builtin.append_ #[22, 22] 22 #[v, .slice (some ⟨W.heap.size, 0, none⟩) 1 1]).run Tryz.prog ((W.alloc (.cells #[.string x] 9)).drew) = .ok (.slice (some ⟨g, 0, none⟩) (n + 1) cp) w3 ∧ w3.ownsRow A 9 1 (.slice (some ⟨g, 0, none⟩) (n + 1) cp) (n + 1) (xs ++ [.string x]) ∧
      ((W.alloc (.cells #[.string x] 9)).drew).grownBy w3 v.ownBlock ∧ ((Value.slice (some ⟨g, 0, none⟩) (n + 1) cp).ownBlock = v.ownBlock ∨ (Value.slice (some ⟨g, 0, none⟩) (n + 1) cp).ownBlock = some ((W.alloc (.cells #[.string x] 9)).drew).heap.size) := by
  obtain ⟨i0, hi, hz0, hz1, hz2⟩ := info_parts info9
  have bA : Below W.heap.size W ((W.alloc (.cells #[.string x] 9)).drew) := ((Below.refl _ W).alloc (Nat.le_refl _) _).drew
  have hoA := ownsRow_keep h (grown_of_below bA) (fun g _ e => by cases e)
  obtain ⟨v', w3, hr, q1, q2, _, q4⟩ := run_append_own_at (P := Tryz.prog) ((W.alloc (.cells #[.string x] 9)).drew) A 22 22 9 i0 (.string ⟨#[]⟩) 1 16 Tryz.underlying22 hi hz0 hz1 hz2 rfl (by decide) _ _ _ hoA
    ⟨W.heap.size, 0, none⟩ 1 1 [.string x] rfl (by
      intro j u hj
      have e : (⟨W.heap.size, 0, none⟩ : Addr).add j = ⟨W.heap.size, j, none⟩ := by unfold Addr.add; by_cases h : j = 0 <;> simp [h]
      have e2 : ((W.alloc (.cells #[.string x] 9)).drew).cell? ⟨W.heap.size, j, none⟩ = (W.alloc (.cells #[.string x] 9)).cell? ⟨W.heap.size, j, none⟩ := rfl
      rw [e, e2, World.cell?_alloc_at _ _ _ _ rfl]
      simpa using hj) (by simp [Value.oneCell']) (by unfold maxLen; omega) (by omega) (by simp; omega)
  obtain ⟨_, ⟨_, h0⟩ | ⟨gg, cp, cur, hvf, _⟩⟩ := id q1
  · omega
  subst hvf
  exact ⟨gg, cp, w3, hr, q1, q2, q4⟩
theorem grow3 {W : World} {A : Nat} {v : Value} {n : Nat} {xs : List Value} (h : W.ownsRow A 3 1 v n xs) (x : Int) (hA : A ≤ W.heap.size) (hn : n ≤ 100000) :
    ∃ g cp w3, (Builtin.append_ #[93, 93] 93 #[v, .slice (some ⟨W.heap.size, 0, none⟩) 1 1]).run Tryz.prog ((W.alloc (.cells #[.int .i64 x] 3)).drew) = .ok (.slice (some ⟨g, 0, none⟩) (n + 1) cp) w3 ∧ w3.ownsRow A 3 1 (.slice (some ⟨g, 0, none⟩) (n + 1) cp) (n + 1) (xs ++ [.int .i64 x]) ∧
      ((W.alloc (.cells #[.int .i64 x] 3)).drew).grownBy w3 v.ownBlock ∧ ((Value.slice (some ⟨g, 0, none⟩) (n + 1) cp).ownBlock = v.ownBlock ∨ (Value.slice (some ⟨g, 0, none⟩) (n + 1) cp).ownBlock = some ((W.alloc (.cells #[.int .i64 x] 3)).drew).heap.size) := by
  obtain ⟨i0, hi, hz0, hz1, hz2⟩ := info_parts info3
  have bA : Below W.heap.size W ((W.alloc (.cells #[.int .i64 x] 3)).drew) := ((Below.refl _ W).alloc (Nat.le_refl _) _).drew
  have hoA := ownsRow_keep h (grown_of_below bA) (fun g _ e => by cases e)
  obtain ⟨v', w3, hr, q1, q2, _, q4⟩ := run_append_own_at (P := Tryz.prog) ((W.alloc (.cells #[.int .i64 x] 3)).drew) A 93 93 3 i0 (.int .i64 0) 1 8 Tryz.underlying93 hi hz0 hz1 hz2 rfl (by decide) _ _ _ hoA
    ⟨W.heap.size, 0, none⟩ 1 1 [.int .i64 x] rfl (by
      intro j u hj
      have e : (⟨W.heap.size, 0, none⟩ : Addr).add j = ⟨W.heap.size, j, none⟩ := by unfold Addr.add; by_cases h : j = 0 <;> simp [h]
      have e2 : ((W.alloc (.cells #[.int .i64 x] 3)).drew).cell? ⟨W.heap.size, j, none⟩ = (W.alloc (.cells #[.int .i64 x] 3)).cell? ⟨W.heap.size, j, none⟩ := rfl
      rw [e, e2, World.cell?_alloc_at _ _ _ _ rfl]
      simpa using hj) (by simp [Value.oneCell']) (by unfold maxLen; omega) (by omega) (by simp; omega)
  obtain ⟨_, ⟨_, h0⟩ | ⟨gg, cp, cur, hvf, _⟩⟩ := id q1
  · omega
  subst hvf
  exact ⟨gg, cp, w3, hr, q1, q2, q4⟩

end Go.Proofs.YtjmlaeofjjhfmaaGreat
