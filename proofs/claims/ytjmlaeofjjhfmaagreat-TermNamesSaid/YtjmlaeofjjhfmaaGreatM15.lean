/- binds of a process. -/
import Derived.Test.YtjmlaeofjjhfmaaGreatM14
import Derived.Deep.RegionLaw
import Derived.Outline
set_option linter.unusedVariables false
set_option linter.unusedSimpArgs false
namespace Go.Proofs.YtjmlaeofjjhfmaaGreat
open Go.RowKit Go.Shelf

/-- append at a step of a region that draws, by an equation of its run. -/
theorem step_append_eq {ops : Array Oper} {o : Oper} {a : Act} {w : World} {K : Act → World → Prop} {Q : Exit → Act → World → Prop} {E : Prop} (hg : o.guard = none) (s x : Operand) (t t' : TypeId)
    (ho : o.op = .call { callee := .builtin .append, args := #[s, x], argTypes := #[t, t'] }) {v1 v2 v' : Value} {w' : World} (h1 : a.eval s = v1) (h2 : a.eval x = v2)
    (hr : (Builtin.append_ #[t, t'] o.type #[v1, v2]).run Tryz.prog w = .ok v' w') (hK : K (a.put o.dst v') w') :
    if Region.wanted o (yielded ops a.tmps) = true then Oper.wp Tryz.prog o a w K Q else E := by
  have hw : Region.wanted o (yielded ops a.tmps) = true := by simp [Region.wanted, hg]
  rw [if_pos hw]
  unfold Oper.wp execOp
  simp only [ho, resolve, invoke, builtin, Sem.run_bind, Sem.run_pure, Result.andThen_ok, List.map_toArray, List.map_cons, List.map_nil, h1, h2, hr]
  exact hK
theorem StrsAt.nil (B : Nat) (w : World) : StrsAt B w (.slice none 0 0) [] := ⟨none, 0, rfl, by simp, by simp, fun _ => rfl, .inl rfl⟩

set_option maxRecDepth 10000 in
set_option maxHeartbeats 1000000 in
theorem procBinds (B : Nat) (u : World) (op : Int) (t : ByteArray) (d : List Clause) (a0 a1 a2 : Option Addr) (k0 k2 c0 c1 c2 : Nat) (w : World) (hu : KeptC B u w) (hBs : B ≤ w.heap.size)
    (u1 : op = 4 → csize d ≤ 900 ∧ (alltexts (groupsL d)).length ≤ 100000) (hd : d.length = 0 ∨ ∃ b off, a1 = some ⟨b, off, none⟩ ∧ b < B ∧ ClausesAt B u b off d) :
    Calls Tryz.prog 215 #[.agg #[.int .i64 op, .string t, .slice a0 k0 c0, .slice a1 d.length c1, .slice a2 k2 c2]] w fun e w' => ∃ r, e = .returned r ∧
      StrsAt w'.heap.size w' r (if op = 4 then channelsL d ++ placesL d else []) ∧ Below w.heap.size w w' := by
  obtain ⟨W1, HW1⟩ : ∃ W, W = w.alloc (.cells #[.int .i64 op, .string t, .slice a0 k0 c0, .slice a1 d.length c1, .slice a2 k2 c2] 83) := ⟨_, rfl⟩
  have b1 : Below w.heap.size w W1 := by rw [HW1]; exact (Below.refl _ w).alloc (Nat.le_refl _) _
  have z1 : W1.heap.size = w.heap.size + 1 := by rw [HW1]; simp
  have k0' : W1.cell? ⟨w.heap.size, 0, none⟩ = some (.int .i64 op) := by rw [HW1, World.cell?_alloc_at _ _ _ _ rfl]; rfl
  have k3 : W1.cell? ⟨w.heap.size, 3, none⟩ = some (.slice a1 d.length c1) := by rw [HW1, World.cell?_alloc_at _ _ _ _ rfl]; rfl
  have HW := Lib.hid HW1
  by_cases hop : op = 4
  · obtain ⟨u2, u3⟩ := u1 hop
    subst hop
    obtain ⟨Q, hQ⟩ : ∃ Q : World → Prop, Q = fun W => Below W1.heap.size W1 W := ⟨_, rfl⟩
    have hch : ∀ W, Q W → Calls Tryz.prog 76 #[.slice a1 d.length c1] W fun e w' => ∃ r, e = .returned r ∧ (w'.ownsRow w.heap.size 9 1 r (channelsL d).length (strVals (channelsL d)) ∧ (∀ t ∈ channelsL d, t.size ≤ maxLen)) ∧ Below W.heap.size W w' ∧ w'.cell? ⟨w.heap.size, 3, none⟩ = some (.slice a1 d.length c1) ∧ Q w' := fun W hW => by
      rw [hQ] at hW
      have hs := hW.size
      exact (channels_any B u d u2 u3 a1 c1 W (hu.trans ((Below.keptC (b1.trans (hW.mono (by omega)))).mono hBs)) (by omega) hd).mono fun e w' ⟨r, h1, h2, h3, h4⟩ => by
        have h5 : Below W1.heap.size W1 w' := hW.trans (h4.mono hs)
        exact ⟨r, h1, ⟨ownsRow_low h2 (by omega), h3⟩, h4, (h5.cell (p := ⟨w.heap.size, 3, none⟩) (by simp; omega)).trans k3, by rw [hQ]; exact h5⟩
    have hpl : ∀ W, Q W → Calls Tryz.prog 77 #[.slice a1 d.length c1] W fun e w' => ∃ r, e = .returned r ∧ StrsAt w'.heap.size w' r (placesL d) ∧ Below W.heap.size W w' ∧ w'.cell? ⟨w.heap.size, 3, none⟩ = some (.slice a1 d.length c1) ∧ Q w' := fun W hW => by
      rw [hQ] at hW
      have hs := hW.size
      exact (places_any B u (csize d) d (Nat.le_refl _) u2 a1 c1 W (hu.trans ((Below.keptC (b1.trans (hW.mono (by omega)))).mono hBs)) (by omega) hd).mono fun e w' ⟨r, h1, h2, h3, h4⟩ => by
        have h5 : Below W1.heap.size W1 w' := hW.trans (h4.mono hs)
        exact ⟨r, h1, strs_of_owns h2 h3, h4, (h5.cell (p := ⟨w.heap.size, 3, none⟩) (by simp; omega)).trans k3, by rw [hQ]; exact h5⟩
    have hcl : (channelsL d).length ≤ 100000 := by have := chFold_len [] (alltexts (groupsL d)); unfold channelsL; simp at this; omega
    have hpn : (placesL d).length ≤ 900 := by have := placesL_len d; unfold csize at u2; omega
    have hj : ∀ W v1 v2, Q W → (W.ownsRow w.heap.size 9 1 v1 (channelsL d).length (strVals (channelsL d)) ∧ (∀ t ∈ channelsL d, t.size ≤ maxLen)) → StrsAt W.heap.size W v2 (placesL d) →
        ∃ v' W', (Builtin.append_ #[22, 22] 22 #[v1, v2]).run Tryz.prog W = .ok v' W' ∧ StrsAt W'.heap.size W' v' (channelsL d ++ placesL d) ∧ Below w.heap.size w W' := by
      intro W v1 v2 hW h1 h2
      rw [hQ] at hW
      have hs := hW.size
      obtain ⟨v', W', hr, h3, h4, h5⟩ := strs_joined 22 h1.1 h2 (by omega) (by omega) (by omega) h1.2
      exact ⟨v', W', hr, strs_of_owns h3 h4, (b1.trans (hW.mono (by omega))).grown h5 (by omega) (fun r e => (h1.1.lt r e).1)⟩
    have hq0 : Q W1.drew ∧ W1.drew.cell? ⟨w.heap.size, 3, none⟩ = some (.slice a1 d.length c1) := by
      rw [hQ]; exact ⟨(Below.refl _ _).drew, k3⟩
    obtain ⟨hQ0, hc0⟩ := hq0
    clear hQ u1 u2 u3 hd
    go_enter Tryz.func215, Tryz.ntmps215
    go_wp2_with fail
    rw [← HW.out]
    clear HW1
    go_wp2
    go_region_law (first
      | (revert hs1; intro hs1; revert hs2; intro hs2; have hk1 := ownsRow_kept hs1.1 (grown_of_below hb4) (fun g _ e => by cases e); obtain ⟨v', w', hr, hs, hb⟩ := hj w4 r1 r2 hQ4 ⟨hk1, hs1.2⟩ hs2; refine step_append_eq rfl (.tmp 8) (.tmp 11) 22 22 rfl rfl rfl hr ?_)
      | (revert hs1; intro hs1; revert hs2; intro hs2; obtain ⟨v', w', hr, hs, hb⟩ := hj w3 r1 r2 hQ3 hs1 (hs2.later hb3); refine step_append_eq rfl (.tmp 8) (.tmp 11) 22 22 rfl rfl rfl hr ?_)
      | (go_simp; go_wp2_with (first
        | (go_at_call 76; refine (hch _ (by assumption)).mono ?_; rintro e w3 ⟨r1, rfl, hs1, hb3, hc31, hQ3⟩)
        | (go_at_call 77; refine (hpl _ (by assumption)).mono ?_; rintro e w4 ⟨r2, rfl, hs2, hb4, hc32, hQ4⟩))))
    all_goals
      go_wp2
      go_ret
      exact ⟨_, rfl, by simpa using hs, hb⟩
  · rw [if_neg hop]
    go_enter Tryz.func215, Tryz.ntmps215
    go_wp2_with fail
    rw [← HW.out]
    clear HW1
    go_wp2
    go_ret
    exact ⟨_, rfl, StrsAt.nil _ _, b1⟩

end Go.Proofs.YtjmlaeofjjhfmaaGreat
/- free: the free names of a part. -/
namespace Go.Proofs.YtjmlaeofjjhfmaaGreat
open Go.RowKit Go.Shelf Go.Maps

def freeN : Nat → Part → List UInt8 → Bool
  | 0, _, _ => false
  | s + 1, p, k => ((p.parts.any (fun q => freeN s q k)) && !((bindsP p).any (fun b => k == bytesOf b))) || (!(bytesOf (standsP p)).isEmpty && k == bytesOf (standsP p))

/-- What the names that a part binds need. -/
def bindOk : Part → Prop
  | .proc (.mk op _ _ d _) => op = 4 → csize d ≤ 900 ∧ (alltexts (groupsL d)).length ≤ 100000
  | .def_ (.mk _ _ j _ _) => (namesL j).length ≤ 100000
  | .exp _ => True
def Part.allBind (p : Part) : Prop := ∀ q ∈ (nodesOf 0 p).map (·.1), bindOk q
theorem Part.allBind.part {p q : Part} (h : p.allBind) (hq : q ∈ p.parts) : q.allBind := by
  intro x hx
  rw [nodesOf_fst 0 1] at hx
  refine h x ?_
  rw [nodesOf_eq]
  obtain ⟨y, hy, rfl⟩ := List.mem_map.1 hx
  exact List.mem_map.2 ⟨y, List.mem_cons_of_mem _ (mem_nodesL hq hy), rfl⟩

theorem StrsAt.lenmax {B : Nat} {w : World} {v : Value} {ss : List ByteArray} (h : StrsAt B w v ss) : ∀ s ∈ ss, s.size ≤ maxLen := by
  obtain ⟨_, _, _, _, hz, _⟩ := h; exact hz

theorem standsP_size (B : Nat) (u : World) (p : Part) (v : Value) (h : PartAt B u v p) : (standsP p).size ≤ maxLen := by
  cases p with
  | proc t => obtain ⟨o, t, a, d, k⟩ := t; obtain ⟨cs, rfl, h1, _⟩ := h; exact h1
  | exp t => obtain ⟨o, n, t, k⟩ := t; obtain ⟨cs, rfl, h1, _⟩ := h; exact h1
  | def_ t => simp [standsP]

/-- The three methods of a part. -/
theorem methods_any (B : Nat) (u : World) (p : Part) (v : Value) (hs : p.small) (hb : bindOk p) (h : PartAt B u v p) :
    ∃ (g1 g2 g3 : Nat) (cs : List Value) (ty : TypeId), v = .iface ty (.agg cs.toArray) ∧ ((g1 = 216 ∧ g2 = 215 ∧ g3 = 217 ∧ ty = 83) ∨ (g1 = 219 ∧ g2 = 218 ∧ g3 = 220 ∧ ty = 88) ∨ (g1 = 230 ∧ g2 = 229 ∧ g3 = 231 ∧ ty = 191)) ∧
      (∀ w : World, KeptC B u w → B ≤ w.heap.size → Calls Tryz.prog g1 #[.agg cs.toArray] w fun e w' => ∃ r vs, e = .returned r ∧ w'.ownsRow (w.heap.size + 1) 154 1 r vs.length vs ∧ PartsAt B u vs p.parts ∧ Below w.heap.size w w') ∧
      (∀ w : World, KeptC B u w → B ≤ w.heap.size → Calls Tryz.prog g2 #[.agg cs.toArray] w fun e w' => ∃ r, e = .returned r ∧ StrsAt w'.heap.size w' r (bindsP p) ∧ Below w.heap.size w w') ∧
      (∀ w : World, Calls Tryz.prog g3 #[.agg cs.toArray] w fun e w' => e = .returned (.string (standsP p)) ∧ Below w.heap.size w w') := by
  cases p with
  | proc t =>
    obtain ⟨o, t, a, d, k⟩ := t
    obtain ⟨cs, rfl, h1, va, vd, vk, rfl, ⟨aa, ca, rfl, _, ha⟩, ⟨ad, cd, rfl, _, hd⟩, ⟨ak, ck, rfl, _, hk⟩⟩ := h
    exact ⟨216, 215, 217, _, 83, rfl, .inl ⟨rfl, rfl, rfl, rfl⟩, fun w hu hBs => procParts o t aa ca a ad cd d ak ck k B u w hu hBs hs.1 ha hs.2.1 hd hs.2.2 hk,
      fun w hu hBs => procBinds B u o t d aa ad ak _ _ ca cd ck w hu hBs hb hd, fun w => procStands w o t aa ad ak _ _ _ ca cd ck⟩
  | exp t =>
    obtain ⟨o, n, t, k⟩ := t
    obtain ⟨cs, rfl, h1, vk, rfl, ⟨ak, ck, rfl, _, hk⟩⟩ := h
    exact ⟨219, 218, 220, _, 88, rfl, .inr (.inl ⟨rfl, rfl, rfl, rfl⟩), fun w hu hBs => expParts o n t ak ck k B u w hu hBs hs hk,
      fun w hu hBs => (expBinds #[] w o n t ak _ ck).mono fun e w' ⟨h1, h2⟩ => ⟨_, h1, StrsAt.nil _ _, h2⟩, fun w => expStands w o n t ak _ ck⟩
  | def_ t =>
    obtain ⟨f, t, j, d, k⟩ := t
    obtain ⟨cs, rfl, h1, vj, vd, vk, rfl, ⟨aj, cj, rfl, _, hj⟩, ⟨ad, cd, rfl, _, hd⟩, ⟨ak, ck, rfl, _, hk⟩⟩ := h
    exact ⟨230, 229, 231, _, 191, rfl, .inr (.inr ⟨rfl, rfl, rfl, rfl⟩), fun w hu hBs => defParts f t aj cj j ad cd d ak ck k B u w hu hBs hs.2.1 hd hs.2.2 hk,
      fun w hu hBs => (defBinds B u f t j aj ad ak _ _ cj cd ck w hu hBs hb hj (by have := hs.1; omega)).mono fun e w' ⟨r, h1, h2, h3, h4⟩ => ⟨r, h1, strs_of_owns h2 h3, h4⟩, fun w => defStands w f t aj ad ak _ _ _ cj cd ck⟩

end Go.Proofs.YtjmlaeofjjhfmaaGreat
