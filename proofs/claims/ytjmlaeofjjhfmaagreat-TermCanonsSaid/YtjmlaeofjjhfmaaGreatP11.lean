/- binds of a definition and of a process. -/
import Derived.Test.YtjmlaeofjjhfmaaGreatP10
import Derived.Deep.RegionLaw
import Derived.Outline
import Derived.Test.YtjmlaeofjjhfmaaGreatShelf
import Derived.Shelf.SlIter.Nil
import Derived.Shelf.SortM.Plain
import Derived.Shelf.SortM.SortNone
import Derived.Ground.GgzProg
import Derived.Ground.SlgmProg
set_option linter.unusedVariables false
set_option linter.unusedSimpArgs false
namespace Go.Proofs.YtjmlaeofjjhfmaaGreat
open Go.RowKit Go.Shelf

def namesL (js : List Msg) : List ByteArray := js.flatMap (·.names)
theorem namesL_nil : namesL [] = [] := rfl
/-- append by an equation of its run. -/
theorem wpList_append_eq {w : World} {ops : Array Oper} {rest : List Oper} {o : Oper} {a : Act} {Q : Exit → Act → World → Prop} (hgd : o.guard = none) (s x : Operand) (t t' : TypeId)
    (ho : o.op = .call { callee := .builtin .append, args := #[s, x], argTypes := #[t, t'] }) {v1 v2 v' : Value} {w' : World} (h1 : a.eval s = v1) (h2 : a.eval x = v2)
    (hr : (Builtin.append_ #[t, t'] o.type #[v1, v2]).run Tryz.prog w = .ok v' w') (h : wpList Tryz.prog ops Q rest (a.put o.dst v') w') :
    wpList Tryz.prog ops Q (o :: rest) a w := by
  refine wpList_plain hgd fun K hK => ?_
  unfold Oper.wp execOp
  simp only [ho, resolve, invoke, builtin, Sem.run_bind, Sem.run_pure, Result.andThen_ok, List.map_toArray, List.map_cons, List.map_nil, h1, h2, hr]
  exact hK _ _ h
theorem names_take (js : List Msg) (k : Nat) (h : k < js.length) : namesL (js.take (k + 1)) = namesL (js.take k) ++ (js[k]).names := by
  unfold namesL
  rw [List.take_succ_eq_append_getElem h, List.flatMap_append]; simp
theorem names_take_len (js : List Msg) (k : Nat) : (namesL (js.take k)).length ≤ (namesL js).length := by
  conv => rhs; rw [← List.take_append_drop k js]
  unfold namesL
  rw [List.flatMap_append, List.length_append]; omega
theorem names_get_len (js : List Msg) (k : Nat) (h : k < js.length) : (js[k]).names.length ≤ (namesL js).length := by
  have h1 := names_take_len js (k + 1)
  rw [names_take js k h, List.length_append] at h1; omega

set_option maxHeartbeats 1000000 in
set_option maxRecDepth 10000 in
theorem defBinds (B : Nat) (u : World) (f : Int) (t : ByteArray) (js : List Msg) (a0 a1 a2 : Option Addr) (k1 k2 c0 c1 c2 : Nat) (w : World) (hu : KeptC B u w) (hBs : B ≤ w.heap.size)
    (hN : (namesL js).length ≤ 100000) (hjs : js.length = 0 ∨ ∃ b off, a0 = some ⟨b, off, none⟩ ∧ b < B ∧ MsgsAt B u b off js) (hjl : js.length ≤ 100000) :
    Calls Tryz.prog 229 #[.agg #[.int .i64 f, .string t, .slice a0 js.length c0, .slice a1 k1 c1, .slice a2 k2 c2]] w fun e w' => ∃ r, e = .returned r ∧
      w'.ownsRow w.heap.size 9 1 r (namesL js).length (strVals (namesL js)) ∧ (∀ s ∈ namesL js, s.size ≤ maxLen) ∧ Below w.heap.size w w' := by
  obtain ⟨W1, HW1⟩ : ∃ W, W = w.alloc (.cells #[.int .i64 f, .string t, .slice a0 js.length c0, .slice a1 k1 c1, .slice a2 k2 c2] 191) := ⟨_, rfl⟩
  have hW1 : Below w.heap.size w W1 := by rw [HW1]; exact (Below.refl _ w).alloc (Nat.le_refl _) _
  have hW1s : W1.heap.size = w.heap.size + 1 := by rw [HW1]; simp
  have hbox : W1.cell? ⟨w.heap.size, 2, none⟩ = some (.slice a0 js.length c0) := by rw [HW1, World.cell?_alloc_at _ _ _ _ rfl]; rfl
  have HWH := Lib.hid HW1
  go_enter Tryz.func229, Tryz.ntmps229
  go_wp2_with fail
  rw [← HWH.out]
  clear HW1
  go_wp2
  go_loopw [3, 9] (fun v i wr => ∃ (k : Nat), k ≤ js.length ∧ i = .int .i64 k ∧ Below w.heap.size w wr ∧ w.heap.size ≤ wr.heap.size ∧ wr.ownsRow w.heap.size 9 1 v (namesL (js.take k)).length (strVals (namesL (js.take k))) ∧ (∀ s ∈ namesL (js.take k), s.size ≤ maxLen)) (fun _ i _ => js.length - (intOf i).toNat)
  case atStart => exact ⟨0, by omega, rfl, hW1, by omega, World.ownsRow_nil _ _ _ _, by simp [namesL_nil]⟩
  case round =>
    obtain ⟨k, hk', rfl, hB, hws, hown, hsz⟩ := hrel
    by_cases hlt : k < js.length
    · rcases hjs with h0 | ⟨b, off, rfl, hb, hms⟩
      · omega
      obtain ⟨mcs, hmcs, hmz, mv, rfl, hmn⟩ := hms.get js b off k hlt
      have hl1 := names_take_len js k
      have hl2 := names_get_len js k hlt
      have htk := Lib.hid (names_take js k hlt)
      obtain ⟨x, hx⟩ : ∃ x, x = (js[k]).text := ⟨_, rfl⟩
      obtain ⟨nm, hnm⟩ : ∃ nm, nm = (js[k]).names := ⟨_, rfl⟩
      rw [← hnm] at hmn htk hl2
      rw [← hx] at hmcs
      have hst := ((hmn.keep hu).mono hBs).below hB
      obtain ⟨T, hT⟩ : ∃ T, T = namesL (js.take k) := ⟨_, rfl⟩
      rw [← hT] at hown hsz hl1 htk
      have hst2 : StrsAt (wr.alloc (.cells #[.string x, mv] 144)).heap.size (wr.alloc (.cells #[.string x, mv] 144)) mv nm := (hst.below ((Below.refl _ wr).alloc hws _)).mono (by simp; omega)
      obtain ⟨v', w', hr, ho', hz', hg⟩ := strs_joined (w := wr.alloc (.cells #[.string x, mv] 144)) 22 (hown.alloc _) hst2 (by simp; omega) (by omega) (by omega) hsz
      obtain ⟨d0, d1⟩ := cells2 ((hmcs.keep hu hb).below hB (by omega))
      obtain ⟨na, nc, rfl, _⟩ := hmn
      clear hx hnm hT hmcs hst hst2
      go_wp2_with (show wpList _ _ _ (⟨some 16, _, _, _, _, _⟩ :: _) _ _; refine wpList_append_eq rfl (.tmp 13) (.tmp 15) 22 22 rfl rfl rfl hr ?_)
      go_roundw
      case rel =>
        refine ⟨k + 1, by omega, by go_num, ?_, ?_, ?_, ?_⟩
        · exact ((hB.alloc hws _).grown hg (by simp; omega) (fun r e => (hown.lt r e).1))
        · have := hg.size; simp at this; omega
        · rw [htk.out]; exact ho'
        · rw [htk.out]; exact hz'
      case measure => simp [intOf]; omega
    · obtain rfl : k = js.length := by omega
      rw [List.take_length] at hown hsz
      go_wp2
      go_ret
      exact ⟨_, rfl, hown, hsz, hB⟩

end Go.Proofs.YtjmlaeofjjhfmaaGreat
/- binds of a process. -/
namespace Go.Proofs.YtjmlaeofjjhfmaaGreat
open Go.RowKit Go.Shelf

/-- append at a step of a region that draws, by an equation of its run. -/
theorem step_append_eq {ops : Array Oper} {o : Oper} {a : Act} {w : World} {K : Act → World → Prop} {Q : Exit → Act → World → Prop} {E : Prop} (hg : o.guard = none) (s x : Operand) (t t' : TypeId)
    (ho : o.op = .call { callee := .builtin .append, args := #[s, x], argTypes := #[t, t'] }) {v1 v2 v' : Value} {w' : World} (h1 : a.eval s = v1) (h2 : a.eval x = v2)
    (hr : (Builtin.append_ #[t, t'] o.type #[v1, v2]).run Tryz.prog w = .ok v' w') (hK : K (a.put o.dst v') w') :
    if Region.wanted o (yielded ops a.tmps) = true then Oper.wp Tryz.prog o a w K Q else E := by
  have hw : Region.wanted o (yielded ops a.tmps) = true := by simp [Region.wanted, hg]
  rw [if_pos hw]
  unfold Oper.wp execOp
  simp only [ho, resolve, invoke, builtin, Sem.run_bind, Sem.run_pure, Result.andThen_ok, List.map_toArray, List.map_cons, List.map_nil, h1, h2, hr]
  exact hK
theorem StrsAt.nil (B : Nat) (w : World) : StrsAt B w (.slice none 0 0) [] := ⟨none, 0, rfl, by simp, by simp, fun _ => rfl, .inl rfl⟩

set_option maxRecDepth 10000 in
set_option maxHeartbeats 1000000 in
theorem procBinds (B : Nat) (u : World) (op : Int) (t : ByteArray) (d : List Clause) (a0 a1 a2 : Option Addr) (k0 k2 c0 c1 c2 : Nat) (w : World) (hu : KeptC B u w) (hBs : B ≤ w.heap.size)
    (u1 : op = 4 → csize d ≤ 900 ∧ (alltexts (groupsL d)).length ≤ 100000) (hd : d.length = 0 ∨ ∃ b off, a1 = some ⟨b, off, none⟩ ∧ b < B ∧ ClausesAt B u b off d) :
    Calls Tryz.prog 215 #[.agg #[.int .i64 op, .string t, .slice a0 k0 c0, .slice a1 d.length c1, .slice a2 k2 c2]] w fun e w' => ∃ r, e = .returned r ∧
      StrsAt w'.heap.size w' r (if op = 4 then channelsL d ++ placesL d else []) ∧ Below w.heap.size w w' := by
  obtain ⟨W1, HW1⟩ : ∃ W, W = w.alloc (.cells #[.int .i64 op, .string t, .slice a0 k0 c0, .slice a1 d.length c1, .slice a2 k2 c2] 83) := ⟨_, rfl⟩
  have b1 : Below w.heap.size w W1 := by rw [HW1]; exact (Below.refl _ w).alloc (Nat.le_refl _) _
  have z1 : W1.heap.size = w.heap.size + 1 := by rw [HW1]; simp
  have k0' : W1.cell? ⟨w.heap.size, 0, none⟩ = some (.int .i64 op) := by rw [HW1, World.cell?_alloc_at _ _ _ _ rfl]; rfl
  have k3 : W1.cell? ⟨w.heap.size, 3, none⟩ = some (.slice a1 d.length c1) := by rw [HW1, World.cell?_alloc_at _ _ _ _ rfl]; rfl
  have HW := Lib.hid HW1
  by_cases hop : op = 4
  · obtain ⟨u2, u3⟩ := u1 hop
    subst hop
    obtain ⟨Q, hQ⟩ : ∃ Q : World → Prop, Q = fun W => Below W1.heap.size W1 W := ⟨_, rfl⟩
    have hch : ∀ W, Q W → Calls Tryz.prog 76 #[.slice a1 d.length c1] W fun e w' => ∃ r, e = .returned r ∧ (w'.ownsRow w.heap.size 9 1 r (channelsL d).length (strVals (channelsL d)) ∧ (∀ t ∈ channelsL d, t.size ≤ maxLen)) ∧ Below W.heap.size W w' ∧ w'.cell? ⟨w.heap.size, 3, none⟩ = some (.slice a1 d.length c1) ∧ Q w' := fun W hW => by
      rw [hQ] at hW
      have hs := hW.size
      exact (channels_any B u d u2 u3 a1 c1 W (hu.trans ((Below.keptC (b1.trans (hW.mono (by omega)))).mono hBs)) (by omega) hd).mono fun e w' ⟨r, h1, h2, h3, h4⟩ => by
        have h5 : Below W1.heap.size W1 w' := hW.trans (h4.mono hs)
        exact ⟨r, h1, ⟨ownsRow_low h2 (by omega), h3⟩, h4, (h5.cell (p := ⟨w.heap.size, 3, none⟩) (by simp; omega)).trans k3, by rw [hQ]; exact h5⟩
    have hpl : ∀ W, Q W → Calls Tryz.prog 77 #[.slice a1 d.length c1] W fun e w' => ∃ r, e = .returned r ∧ StrsAt w'.heap.size w' r (placesL d) ∧ Below W.heap.size W w' ∧ w'.cell? ⟨w.heap.size, 3, none⟩ = some (.slice a1 d.length c1) ∧ Q w' := fun W hW => by
      rw [hQ] at hW
      have hs := hW.size
      exact (places_any B u (csize d) d (Nat.le_refl _) u2 a1 c1 W (hu.trans ((Below.keptC (b1.trans (hW.mono (by omega)))).mono hBs)) (by omega) hd).mono fun e w' ⟨r, h1, h2, h3, h4⟩ => by
        have h5 : Below W1.heap.size W1 w' := hW.trans (h4.mono hs)
        exact ⟨r, h1, strs_of_owns h2 h3, h4, (h5.cell (p := ⟨w.heap.size, 3, none⟩) (by simp; omega)).trans k3, by rw [hQ]; exact h5⟩
    have hcl : (channelsL d).length ≤ 100000 := by have := chFold_len [] (alltexts (groupsL d)); unfold channelsL; simp at this; omega
    have hpn : (placesL d).length ≤ 900 := by have := placesL_len d; unfold csize at u2; omega
    have hj : ∀ W v1 v2, Q W → (W.ownsRow w.heap.size 9 1 v1 (channelsL d).length (strVals (channelsL d)) ∧ (∀ t ∈ channelsL d, t.size ≤ maxLen)) → StrsAt W.heap.size W v2 (placesL d) →
        ∃ v' W', (Builtin.append_ #[22, 22] 22 #[v1, v2]).run Tryz.prog W = .ok v' W' ∧ StrsAt W'.heap.size W' v' (channelsL d ++ placesL d) ∧ Below w.heap.size w W' := by
      intro W v1 v2 hW h1 h2
      rw [hQ] at hW
      have hs := hW.size
      obtain ⟨v', W', hr, h3, h4, h5⟩ := strs_joined 22 h1.1 h2 (by omega) (by omega) (by omega) h1.2
      exact ⟨v', W', hr, strs_of_owns h3 h4, (b1.trans (hW.mono (by omega))).grown h5 (by omega) (fun r e => (h1.1.lt r e).1)⟩
    have hq0 : Q W1.drew ∧ W1.drew.cell? ⟨w.heap.size, 3, none⟩ = some (.slice a1 d.length c1) := by
      rw [hQ]; exact ⟨(Below.refl _ _).drew, k3⟩
    obtain ⟨hQ0, hc0⟩ := hq0
    clear hQ u1 u2 u3 hd
    go_enter Tryz.func215, Tryz.ntmps215
    go_wp2_with fail
    rw [← HW.out]
    clear HW1
    go_wp2
    go_region_law (first
      | (revert hs1; intro hs1; revert hs2; intro hs2; have hk1 := ownsRow_kept hs1.1 (grown_of_below hb4) (fun g _ e => by cases e); obtain ⟨v', w', hr, hs, hb⟩ := hj w4 r1 r2 hQ4 ⟨hk1, hs1.2⟩ hs2; refine step_append_eq rfl (.tmp 8) (.tmp 11) 22 22 rfl rfl rfl hr ?_)
      | (revert hs1; intro hs1; revert hs2; intro hs2; obtain ⟨v', w', hr, hs, hb⟩ := hj w3 r1 r2 hQ3 hs1 (hs2.later hb3); refine step_append_eq rfl (.tmp 8) (.tmp 11) 22 22 rfl rfl rfl hr ?_)
      | (go_simp; go_wp2_with (first
        | (go_at_call 76; refine (hch _ (by assumption)).mono ?_; rintro e w3 ⟨r1, rfl, hs1, hb3, hc31, hQ3⟩)
        | (go_at_call 77; refine (hpl _ (by assumption)).mono ?_; rintro e w4 ⟨r2, rfl, hs2, hb4, hc32, hQ4⟩))))
    all_goals
      go_wp2
      go_ret
      exact ⟨_, rfl, by simpa using hs, hb⟩
  · rw [if_neg hop]
    go_enter Tryz.func215, Tryz.ntmps215
    go_wp2_with fail
    rw [← HW.out]
    clear HW1
    go_wp2
    go_ret
    exact ⟨_, rfl, StrsAt.nil _ _, b1⟩

end Go.Proofs.YtjmlaeofjjhfmaaGreat
/- free: the free names of a part. -/
namespace Go.Proofs.YtjmlaeofjjhfmaaGreat
open Go.RowKit Go.Shelf Go.Maps

def freeN : Nat → Part → List UInt8 → Bool
  | 0, _, _ => false
  | s + 1, p, k => ((p.parts.any (fun q => freeN s q k)) && !((bindsP p).any (fun b => k == bytesOf b))) || (!(bytesOf (standsP p)).isEmpty && k == bytesOf (standsP p))

/-- What the names that a part binds need. -/
def bindOk : Part → Prop
  | .proc (.mk op _ _ d _) => op = 4 → csize d ≤ 900 ∧ (alltexts (groupsL d)).length ≤ 100000
  | .def_ (.mk _ _ j _ _) => (namesL j).length ≤ 100000
  | .exp _ => True
def Part.allBind (p : Part) : Prop := ∀ q ∈ (nodesOf 0 p).map (·.1), bindOk q
theorem Part.allBind.part {p q : Part} (h : p.allBind) (hq : q ∈ p.parts) : q.allBind := by
  intro x hx
  rw [nodesOf_fst 0 1] at hx
  refine h x ?_
  rw [nodesOf_eq]
  obtain ⟨y, hy, rfl⟩ := List.mem_map.1 hx
  exact List.mem_map.2 ⟨y, List.mem_cons_of_mem _ (mem_nodesL hq hy), rfl⟩

theorem standsP_size (B : Nat) (u : World) (p : Part) (v : Value) (h : PartAt B u v p) : (standsP p).size ≤ maxLen := by
  cases p with
  | proc t => obtain ⟨o, t, a, d, k⟩ := t; obtain ⟨cs, rfl, h1, _⟩ := h; exact h1
  | exp t => obtain ⟨o, n, t, k⟩ := t; obtain ⟨cs, rfl, h1, _⟩ := h; exact h1
  | def_ t => simp [standsP]

/-- The three methods of a part. -/
theorem methods_any (B : Nat) (u : World) (p : Part) (v : Value) (hs : p.small) (hb : bindOk p) (h : PartAt B u v p) :
    ∃ (g1 g2 g3 : Nat) (cs : List Value) (ty : TypeId), v = .iface ty (.agg cs.toArray) ∧ ((g1 = 216 ∧ g2 = 215 ∧ g3 = 217 ∧ ty = 83) ∨ (g1 = 219 ∧ g2 = 218 ∧ g3 = 220 ∧ ty = 88) ∨ (g1 = 230 ∧ g2 = 229 ∧ g3 = 231 ∧ ty = 191)) ∧
      (∀ w : World, KeptC B u w → B ≤ w.heap.size → Calls Tryz.prog g1 #[.agg cs.toArray] w fun e w' => ∃ r vs, e = .returned r ∧ w'.ownsRow (w.heap.size + 1) 154 1 r vs.length vs ∧ PartsAt B u vs p.parts ∧ Below w.heap.size w w') ∧
      (∀ w : World, KeptC B u w → B ≤ w.heap.size → Calls Tryz.prog g2 #[.agg cs.toArray] w fun e w' => ∃ r, e = .returned r ∧ StrsAt w'.heap.size w' r (bindsP p) ∧ Below w.heap.size w w') ∧
      (∀ w : World, Calls Tryz.prog g3 #[.agg cs.toArray] w fun e w' => e = .returned (.string (standsP p)) ∧ Below w.heap.size w w') := by
  cases p with
  | proc t =>
    obtain ⟨o, t, a, d, k⟩ := t
    obtain ⟨cs, rfl, h1, va, vd, vk, rfl, ⟨aa, ca, rfl, _, ha⟩, ⟨ad, cd, rfl, _, hd⟩, ⟨ak, ck, rfl, _, hk⟩⟩ := h
    exact ⟨216, 215, 217, _, 83, rfl, .inl ⟨rfl, rfl, rfl, rfl⟩, fun w hu hBs => procParts o t aa ca a ad cd d ak ck k B u w hu hBs hs.1 ha hs.2.1 hd hs.2.2 hk,
      fun w hu hBs => procBinds B u o t d aa ad ak _ _ ca cd ck w hu hBs hb hd, fun w => procStands w o t aa ad ak _ _ _ ca cd ck⟩
  | exp t =>
    obtain ⟨o, n, t, k⟩ := t
    obtain ⟨cs, rfl, h1, vk, rfl, ⟨ak, ck, rfl, _, hk⟩⟩ := h
    exact ⟨219, 218, 220, _, 88, rfl, .inr (.inl ⟨rfl, rfl, rfl, rfl⟩), fun w hu hBs => expParts o n t ak ck k B u w hu hBs hs hk,
      fun w hu hBs => (expBinds #[] w o n t ak _ ck).mono fun e w' ⟨h1, h2⟩ => ⟨_, h1, StrsAt.nil _ _, h2⟩, fun w => expStands w o n t ak _ ck⟩
  | def_ t =>
    obtain ⟨f, t, j, d, k⟩ := t
    obtain ⟨cs, rfl, h1, vj, vd, vk, rfl, ⟨aj, cj, rfl, _, hj⟩, ⟨ad, cd, rfl, _, hd⟩, ⟨ak, ck, rfl, _, hk⟩⟩ := h
    exact ⟨230, 229, 231, _, 191, rfl, .inr (.inr ⟨rfl, rfl, rfl, rfl⟩), fun w hu hBs => defParts f t aj cj j ad cd d ak ck k B u w hu hBs hs.2.1 hd hs.2.2 hk,
      fun w hu hBs => (defBinds B u f t j aj ad ak _ _ cj cd ck w hu hBs hb hj (by have := hs.1; omega)).mono fun e w' ⟨r, h1, h2, h3, h4⟩ => ⟨r, h1, strs_of_owns h2 h3, h4⟩, fun w => defStands w f t aj ad ak _ _ _ cj cd ck⟩

end Go.Proofs.YtjmlaeofjjhfmaaGreat
/- free: the walk. -/
namespace Go.Proofs.YtjmlaeofjjhfmaaGreat
open Go.RowKit Go.Shelf Go.Maps

theorem SetF.cell_ne {w : World} {b n : Nat} {f : List UInt8 → Bool} (h : SetF w b n f) {c o : Nat} {v : Value} (hc : w.cell? ⟨c, o, none⟩ = some v) : c ≠ b := by
  obtain ⟨D, ⟨es, clock, hb, _⟩, _⟩ := h
  intro e; subst e; simp [World.cell?, hb] at hc

/-- All cells read as they did. -/
def CellsKept (w w' : World) : Prop := w.heap.size ≤ w'.heap.size ∧ ∀ b o v, w.cell? ⟨b, o, none⟩ = some v → w'.cell? ⟨b, o, none⟩ = some v
theorem CellsKept.refl (w : World) : CellsKept w w := ⟨Nat.le_refl _, fun _ _ _ h => h⟩
theorem CellsKept.turned {w0 w w' : World} {b n : Nat} {f : List UInt8 → Bool} (h : CellsKept w0 w) (hs : SetF w b n f) (g : w.grownBy w' (some b)) : CellsKept w0 w' := by
  refine ⟨Nat.le_trans h.1 g.size, fun c o v hc => ?_⟩
  have h1 := h.2 c o v hc
  have h2 := hs.cell_ne h1
  exact (World.cell?_of_block (w := w) (g.block c (lt_of_cell h1) (fun e => h2 (Option.some.inj e)))).trans h1

theorem nodesL_len_take (p : Part) (k : Nat) (h : k < p.parts.length) : (nodesL 1 (p.parts.take (k + 1))).length = (nodesL 1 (p.parts.take k)).length + (p.parts[k]).size := by
  rw [nodesL_take 1 p.parts k h, List.length_append, nodesOf_len 1 0]; rfl
theorem any_take {α : Type} (l : List α) (f : α → Bool) (k : Nat) (h : k < l.length) : (l.take (k + 1)).any f = ((l.take k).any f || f l[k]) := by
  rw [List.take_succ_eq_append_getElem h, List.any_append]; simp

theorem empty_of {T : ByteArray} (h : T.toList.isEmpty = true) : (bytesOf T).isEmpty = true := by
  rw [ByteArray.toList_eq] at h; exact h
theorem not_empty_of {T : ByteArray} (h : T.toList.isEmpty = false) : (bytesOf T).isEmpty = false := by
  rw [ByteArray.toList_eq] at h; exact h
set_option maxRecDepth 10000 in
set_option maxHeartbeats 1000000 in
theorem free_any (B : Nat) (u : World) : ∀ (s : Nat) (p : Part), p.size ≤ s → s ≤ 1000 → p.allSmall → p.allBind → ∀ (v : Value) (w : World), PartAt B u v p → KeptC B u w → B ≤ w.heap.size →
    Calls Tryz.prog 75 #[v] w fun e w' => ∃ b, e = .returned (.map (some b)) ∧ w.heap.size ≤ b ∧ SetF w' b p.size (freeN s p) ∧ Below w.heap.size w w' := by
  intro s
  induction s with
  | zero => intro p hp; exact absurd (by rw [Part.size, nodesOf_eq]; simp) (Nat.not_lt.2 hp)
  | succ s ih =>
    intro p hps hs1 hsm hbd v w hv hu hBs
    have hz0 := standsP_size B u p v hv
    obtain ⟨g1, g2, g3, cs, ty, rfl, hg, hparts, hbinds, hstands⟩ := methods_any B u p v (hsm p (by rw [nodesOf_eq]; simp)) (hbd p (by rw [nodesOf_eq]; simp)) hv
    have hm1 : ∀ W, (method 347 ty (.agg cs.toArray) "cabotage/term.parts").run Tryz.prog W = .ok (g1, .agg cs.toArray) W := by
      rcases hg with ⟨rfl, rfl, rfl, rfl⟩ | ⟨rfl, rfl, rfl, rfl⟩ | ⟨rfl, rfl, rfl, rfl⟩ <;> exact fun W => by kernel_rfl
    have hm2 : ∀ W, (method 347 ty (.agg cs.toArray) "cabotage/term.binds").run Tryz.prog W = .ok (g2, .agg cs.toArray) W := by
      rcases hg with ⟨rfl, rfl, rfl, rfl⟩ | ⟨rfl, rfl, rfl, rfl⟩ | ⟨rfl, rfl, rfl, rfl⟩ <;> exact fun W => by kernel_rfl
    have hm3 : ∀ W, (method 347 ty (.agg cs.toArray) "cabotage/term.stands").run Tryz.prog W = .ok (g3, .agg cs.toArray) W := by
      rcases hg with ⟨rfl, rfl, rfl, rfl⟩ | ⟨rfl, rfl, rfl, rfl⟩ | ⟨rfl, rfl, rfl, rfl⟩ <;> exact fun W => by kernel_rfl
    have hc1 : ∀ args w, (callFunc g1 args).run Tryz.prog w = .ok (.enter g1 args) w := by
      rcases hg with ⟨rfl, rfl, rfl, rfl⟩ | ⟨rfl, rfl, rfl, rfl⟩ | ⟨rfl, rfl, rfl, rfl⟩
      · exact enters_of Tryz.func216 (by kernel_rfl) rfl
      · exact enters_of Tryz.func219 (by kernel_rfl) rfl
      · exact enters_of Tryz.func230 (by kernel_rfl) rfl
    have hc2 : ∀ args w, (callFunc g2 args).run Tryz.prog w = .ok (.enter g2 args) w := by
      rcases hg with ⟨rfl, rfl, rfl, rfl⟩ | ⟨rfl, rfl, rfl, rfl⟩ | ⟨rfl, rfl, rfl, rfl⟩
      · exact enters_of Tryz.func215 (by kernel_rfl) rfl
      · exact enters_of Tryz.func218 (by kernel_rfl) rfl
      · exact enters_of Tryz.func229 (by kernel_rfl) rfl
    have hc3 : ∀ args w, (callFunc g3 args).run Tryz.prog w = .ok (.enter g3 args) w := by
      rcases hg with ⟨rfl, rfl, rfl, rfl⟩ | ⟨rfl, rfl, rfl, rfl⟩ | ⟨rfl, rfl, rfl, rfl⟩
      · exact enters_of Tryz.func217 (by kernel_rfl) rfl
      · exact enters_of Tryz.func220 (by kernel_rfl) rfl
      · exact enters_of Tryz.func231 (by kernel_rfl) rfl
    have hsp := small_parts (hsm p (by rw [nodesOf_eq]; simp))
    have hmm := @run_makeMap Tryz.prog
    have s0 := SetF.made w
    have b0 : Below w.heap.size w (w.alloc (.map #[] 0)) := (Below.refl _ w).alloc (Nat.le_refl _) _
    have hp1 := hparts (w.alloc (.map #[] 0)) (hu.trans ((Below.keptC b0).mono hBs)) (by simp; omega)
    have hpsz := Lib.hid (size_eq p 1)
    have HV := Lib.hid hv
    clear hparts hv hg
    go_enter Tryz.func75, Tryz.ntmps75
    go_wp2_with (refine hp1.mono ?_; clear hp1; rintro e w1 ⟨r, vs, rfl, hrow, hpsv, hb1⟩; obtain ⟨ra, rcap, rfl, hra⟩ := row_of_owns hrow)
    have hB1 : Below w.heap.size w w1 := b0.trans (hb1.mono (by simp))
    have hs1' : SetF w1 w.heap.size 0 (fun _ => false) := s0.later hb1
    have hlen := Lib.hid hpsv.1
    have hsz1 := hb1.size
    simp at hsz1
    have hvl : vs.length ≤ 300 := by have := hlen.out; omega
    go_loopw [13] (fun i wr => ∃ (k : Nat), k ≤ vs.length ∧ i = .int .i64 k ∧ SetF wr w.heap.size (nodesL 1 (p.parts.take k)).length (fun x => (p.parts.take k).any (fun q => freeN s q x)) ∧ Below w.heap.size w wr ∧ Mid w.heap.size w1 wr) (fun i _ => vs.length - (intOf i).toNat)
    case atStart => exact ⟨0, by omega, rfl, by simpa [nodesL] using hs1', hB1, Mid.refl _ _⟩
    case round =>
      obtain ⟨k, hk', rfl, hset, hB, hW⟩ := hrel
      by_cases hlt : k < vs.length
      · have hlt' : k < p.parts.length := by have := hlen.out; omega
        rcases hra with rfl | ⟨rb, rfl, hbA, hbB, hcl⟩
        · simp at hlt
        have hcell := hW.2 rb (0 + k) _ (by simp at hbA; omega) hbB (hcl k hlt)
        simp only [Nat.zero_add] at hcell
        have hq := hpsv.2.2 k hlt hlt'
        have hqs := size_lt (List.getElem_mem hlt')
        have hws := hB.size
        have ihk := ih (p.parts[k]) (by omega) (by omega) (hsm.part (List.getElem_mem hlt')) (hbd.part (List.getElem_mem hlt')) vs[k] wr hq (hu.trans ((Below.keptC hB).mono hBs)) (by omega)
        have hcnt := nodesL_len_take p k hlt'
        have hmore := nodesL_take_le 1 p.parts (k + 1)
        have hps1 := hpsz.out
        have hany := Lib.hid (fun x => any_take p.parts (fun q => freeN s q x) k hlt')
        obtain ⟨f1, hf1⟩ : ∃ f, f = (fun x => (p.parts.take k).any (fun q => freeN s q x)) := ⟨_, rfl⟩
        rw [← hf1] at hset
        obtain ⟨f2, hf2⟩ : ∃ f, f = freeN s p.parts[k] := ⟨_, rfl⟩
        rw [← hf2] at ihk
        obtain ⟨vk, hvk⟩ : ∃ x, x = vs[k] := ⟨_, rfl⟩
        rw [← hvk] at ihk hcell
        have HF1 := Lib.hid hf1
        have HF2 := Lib.hid hf2
        have hroom : (nodesL 1 (p.parts.take k)).length + (p.parts[k]).size ≤ 1000 := by omega
        have HC := Lib.hid hcnt
        clear hf1 hf2 hvk hq hcl hcnt hmore hqs hps1
        go_wp2_with (go_at_call 75; refine ihk.mono ?_; clear ihk; rintro e w3 ⟨b2, rfl, hb2, hs2, hbl⟩)
        have hcopy := (hset.later hbl).copy hs2 (by have := hset.lt; omega) (by unfold maxLen; omega)
        go_wp2_with (go_at_call 86; refine hcopy.mono ?_; clear hcopy; rintro e w4 ⟨rfl, h4, g4⟩)
        have hB4 : Below w.heap.size w w4 := (hB.trans (hbl.mono hws)).grown g4 (by have := hbl.size; omega) (fun r e => by have := Option.some.inj e; omega)
        have hW4 : Mid w.heap.size w1 w4 := (hW.grown (grown_of_below hbl) (fun r e => by cases e)).grown g4 (fun r e => .inl (by have := Option.some.inj e; omega))
        go_roundw
        case rel => exact ⟨k + 1, by omega, by go_num, by rw [HC.out]; exact h4.congr (fun x => by rw [hany.out x, HF1.out, HF2.out]), hB4, hW4⟩
        case measure => simp [intOf]; omega
      · obtain rfl : k = vs.length := by omega
        have e1 : p.parts.take vs.length = p.parts := List.take_of_length_le (by have := hlen.out; omega)
        rw [e1] at hset
        obtain ⟨wm, rfl⟩ : ∃ wm : World, wm = wr := ⟨_, rfl⟩
        have hwm := hB.size
        have hp2 := hbinds wm (hu.trans ((Below.keptC hB).mono hBs)) (by omega)
        obtain ⟨F, hF⟩ : ∃ f, f = (fun x => p.parts.any (fun q => freeN s q x)) := ⟨_, rfl⟩
        rw [← hF] at hset
        obtain ⟨L, hL⟩ : ∃ L, L = bindsP p := ⟨_, rfl⟩
        rw [← hL] at hp2
        obtain ⟨N1, hN1⟩ : ∃ n, n = (nodesL 1 p.parts).length := ⟨_, rfl⟩
        rw [← hN1] at hset
        have hpsz' := Lib.hid (show p.size = 1 + N1 by rw [hN1]; exact hpsz.out)
        have HF := Lib.hid hF
        have HL := Lib.hid hL
        clear hbinds hF hL hN1 hra hW hrow hpsv hb1 hs1' hlen hsz1
        go_wp2_with (refine hp2.mono ?_; clear hp2; rintro e w3 ⟨r2, rfl, hs2, hb3⟩; obtain ⟨a2, cap2, rfl, hl2, hz2, _, hcells⟩ := hs2)
        have hset3 := hset.later hb3
        have hB3 := hB.trans (hb3.mono hwm)
        go_loopw [25] (fun i wq => ∃ (k : Nat), k ≤ L.length ∧ i = .int .i64 k ∧ SetF wq w.heap.size N1 (fun x => F x && !((L.take k).any (fun b => x == bytesOf b))) ∧ Below w.heap.size w wq ∧ CellsKept w3 wq) (fun i _ => L.length - (intOf i).toNat)
        case atStart => exact ⟨0, by omega, rfl, hset3.congr (fun x => by simp), hB3, CellsKept.refl _⟩
        case round =>
          obtain ⟨k, hk2, rfl, hsk, hBk, hKk⟩ := hrel
          by_cases hlt : k < L.length
          · rcases hcells with h0 | ⟨b, off, rfl, hb, hc⟩
            · subst h0; simp at hlt
            have hcell := hKk.2 _ _ _ (hc k hlt)
            have hzk := hz2 _ (List.getElem_mem hlt)
            have hany := Lib.hid (fun x => any_take L (fun b => x == bytesOf b) k hlt)
            obtain ⟨y, hy⟩ : ∃ y, y = L[k] := ⟨_, rfl⟩
            rw [← hy] at hcell hzk hany
            obtain ⟨w5, r5, s5, g5⟩ := hsk.del hzk 0
            have hB5 := hBk.grown g5 hBk.size (fun r e => by have := Option.some.inj e; omega)
            have hK5 := hKk.turned hsk g5
            clear hy hc
            go_wp2
            refine ⟨⟨k + 1, by omega, by go_num, s5.congr (fun x => ?_), hB5, hK5⟩, by simp [intOf]; omega⟩
            rw [hany.out x]; cases F x <;> simp
          · obtain rfl : k = L.length := by omega
            rw [List.take_length] at hsk
            have hwk := hBk.size
            have hp3 := hstands wr
            obtain ⟨T, hT⟩ : ∃ T, T = standsP p := ⟨_, rfl⟩
            rw [← hT] at hp3 hz0
            have HT := Lib.hid hT
            clear hstands hT hcells
            obtain ⟨we, rfl⟩ : ∃ we : World, we = wr := ⟨_, rfl⟩
            cases hT0 : T.toList.isEmpty with
            | true =>
              go_wp2_with (refine hp3.mono ?_; clear hp3; rintro e w6 ⟨rfl, hb6⟩)
              go_ret
              refine ⟨_, rfl, Nat.le_refl _, (hsk.later hb6).mono (by have := hpsz'.out; omega) |>.congr (fun x => ?_), hBk.trans (hb6.mono hwk)⟩
              rw [freeN, ← HT.out, ← HL.out, HF.out, empty_of hT0]
              simp
            | false =>
              go_wp2_with (refine hp3.mono ?_; clear hp3; rintro e w6 ⟨rfl, hb6⟩; obtain ⟨w7, r7, s7, g7⟩ := (hsk.later hb6).put (by have := hpsz'.out; unfold maxLen; omega) hz0)
              go_ret
              refine ⟨_, rfl, Nat.le_refl _, s7.mono (by have := hpsz'.out; omega) |>.congr (fun x => ?_), (hBk.trans (hb6.mono hwk)).grown g7 (by have := hb6.size; omega) (fun r e => by have := Option.some.inj e; omega)⟩
              rw [freeN, ← HT.out, ← HL.out, HF.out, not_empty_of hT0]
              simp

end Go.Proofs.YtjmlaeofjjhfmaaGreat
/-
  DERIVED. MADE BY PROGRAM (lay-iter.mjs) off ytjmlaeofjjhfmaagreat.cut.gsa: THE SHELF's CONTRACTS ON 'slices.Sorted(maps.Keys(m))' LAID AT THIS DUMP: 1 map type. NO WALK OF THE LIBRARY's TEXT: each is one application of a contract over any P and ρ (Derived/Shelf/SlIter/, Derived/Shelf/SortM/).
-/
namespace Go.Proofs
open Go.RowKit Go.Maps Go.Sort Go.Shelf

-- maps.Keys[map[string]bool,string,bool] (function 74; its iterator 128) · slices.Sorted[string] (73) · slices.Sort[[]string,string] (127) · the map's type 70, the keys' 9

/-- slices.Sort's two contracts at this dump, at the fence that asks nothing. -/
theorem Tryz.sorts73 (m : Nat) : AnyZ.SortsIn Tryz.prog Tryz.sorted73_ren Fence.wide m :=
  ⟨fun blk off cap ss W hH hblk hsz => callsIn_wide.2 (AnyM.slices_Sort_string Tryz.sort127 blk off cap ss W hH hblk hsz),
   fun p cap W => callsIn_wide.2 (AnyM.slices_Sort_string_none Tryz.sort127 p cap W)⟩

/-- **maps.Keys[map[string]bool,string,bool], at whatever map, the nil one too:** a function value over ONE NEW BLOCK, which holds the map. -/
theorem Tryz.maps_Keys_74 (mb : Option Nat) (W : World) : CallsIn Fence.wide 5 Tryz.prog 74 #[.map mb] W fun e w' => e = .returned (.func (.func 128) #[] #[.pointer (some ⟨W.heap.size, 0, none⟩)]) ∧ w' = W.alloc (.cells #[.map mb] 70) :=
  AnyZ.keys_in Tryz.keys74 Fence.wide 5 trivial rfl mb W

set_option maxHeartbeats 1000000 in
/-- **slices.Sorted[string] AT WHAT maps.Keys[map[string]bool,string,bool] HANDED BACK FOR A MAP THAT IS NOT nil** ('w': the world AHEAD of maps.Keys' call): A NEW SLICE THAT HOLDS THE MAP's KEYS, SORTED; nil just where it has none; nothing that lay before has turned. -/
theorem Tryz.slices_Sorted_keys_73_74 {H : Type} (b nn : Nat) (D0 : DataW H) (R : Value → Option (DataW H × List MemPlace)) (w : World) (hown : w.ownsMap Tryz.prog 9 R b nn D0) (hmax : Maps.size D0 ≤ maxLen) (hbytes : Maps.size D0 * 16 ≤ 140737488355328) :
    CallsIn Fence.wide 5 Tryz.prog 73 #[.func (.func 128) #[] #[.pointer (some ⟨w.heap.size, 0, none⟩)]] (w.alloc (.cells #[.map (some b)] 70)) fun e w' => ∃ (v : Value) (ss : List (List UInt8)), e = .returned v ∧ ss.Perm (strKeys D0) ∧
      w'.ownsRow (w.alloc (.cells #[.map (some b)] 70)).heap.size 9 1 v ss.length ((ss.mergeSort (fun x y => decide (x ≤ y))).map encStr) ∧ (v = .slice none 0 0 ↔ ss = []) ∧ Below (w.alloc (.cells #[.map (some b)] 70)).heap.size (w.alloc (.cells #[.map (some b)] 70)) w' := by
  have hbl := hown.lt
  have hseq : SeqGives Fence.wide 2 Tryz.prog 128 #[.pointer (some ⟨w.heap.size, 0, none⟩)] encStr (fun ss => ss.Perm (strKeys D0)) (Maps.size D0) (w.alloc (.cells #[.map (some b)] 70)) :=
    AnyZ.keys_gives (ρ := Tryz.keys74_ren) { Tryz.keys74 with } Fence.wide _ trivial rfl (by omega) w.heap.size b nn D0 _ (by simp) (by simp) (by
      obtain ⟨es, clock, hb, Ft, hs, hD⟩ := hown
      exact ⟨es, clock, (Below.heap_alloc _ _ b hbl).trans hb, Ft, hs, hD⟩)
  exact AnyZ.sorted_in Tryz.sorted73 Fence.wide 5 trivial trivial trivial trivial rfl (by omega) (Tryz.sorts73 _) (enters_of Tryz.func127 (by kernel_rfl) rfl) 128 #[.pointer (some ⟨w.heap.size, 0, none⟩)] trivial (enters_of Tryz.func128 (by kernel_rfl) rfl) _ _ hmax hbytes _ hseq

end Go.Proofs
