/- inside, where a part binds names. -/
import Derived.Test.YtjmlaeofjjhfmaaGreatP18
set_option linter.unusedVariables false
set_option linter.unusedSimpArgs false
namespace Go.Proofs.YtjmlaeofjjhfmaaGreat
open Go.RowKit Go.Shelf Go.Maps Go.WideMaps

theorem renames_len (b : Base) (v : Env) (p : Part) : (b.renames v p).length ≤ (bindsP p).length := by
  cases b with
  | outside => simp [Base.renames]
  | anew => simp [Base.renames]
  | putting y e =>
    simp only [Base.renames]
    split
    · simp
    · exact List.length_filter_le _ _
/-- The two boxes of inside. -/
def BoxesI (n : Nat) (aty : TypeId) (acs : Array Value) (fx : Option Nat) (W : World) : Prop :=
  W.heap[n]? = some (.cells #[.iface aty (.agg acs), .map fx] 123) ∧ W.heap[n + 1]? = some (.cells #[.nilIface, .map none] 123)
theorem BoxesI.kept {n : Nat} {aty : TypeId} {acs : Array Value} {fx : Option Nat} {W W' : World} {row : Option Nat} (h : BoxesI n aty acs fx W) (g : W.grownBy W' row) (hr : ∀ r, row = some r → r ≠ n ∧ r ≠ n + 1) : BoxesI n aty acs fx W' :=
  ⟨(g.block n (Array.getElem?_eq_some_iff.1 h.1).1 (fun e => (hr n e.symm).1 rfl)).trans h.1, (g.block (n + 1) (Array.getElem?_eq_some_iff.1 h.2).1 (fun e => (hr (n + 1) e.symm).2 rfl)).trans h.2⟩
theorem BoxesI.cells {n : Nat} {aty : TypeId} {acs : Array Value} {fx : Option Nat} {W : World} (h : BoxesI n aty acs fx W) : W.cell? ⟨n, 0, none⟩ = some (.iface aty (.agg acs)) ∧ W.cell? ⟨n, 1, none⟩ = some (.map fx) ∧ W.cell? ⟨n + 1, 0, none⟩ = some .nilIface ∧ W.cell? ⟨n + 1, 1, none⟩ = some (.map none) ∧ ∀ o, W.frozen? ⟨n + 1, o, none⟩ = false := by
  obtain ⟨q3, q4⟩ := h
  exact ⟨by simp [World.cell?, q3], by simp [World.cell?, q3], by simp [World.cell?, q4], by simp [World.cell?, q4], fun o => by simp [World.frozen?, q4]⟩

set_option maxRecDepth 10000 in
set_option maxHeartbeats 4000000 in
theorem inside_some {B N : Nat} {u : World} {m : Option Nat} {b : Base} (hBN : B ≤ N) (hm : ∀ r, m = some r → B ≤ r) (f : Frame) (fs : List Frame) (hfs : fs.length < 340) (av fv : Value)
    (p : Part) (pv : Value) (hps : p.size ≤ 60) (hsm : p.allSmall) (hbd : p.allBind) (hp : PartAt B u pv p) (w : World) (hg : Good B u N m b (f :: fs) (.iface 123 (.agg #[av, fv])) w) (hsome : bindsP p ≠ [])
    (hmb : m = none → b = .outside) (nU : Nat) (U : Used) (hS : StateAt w m nU U) (hnU : nU ≤ 500000000) (kc : Nat) (hC : Cov U kc) (hk : kc + (bindsP p).length ≤ 4900) (S : Frame × Used) (hSd : S = (b.renames ⟨b, f :: fs⟩ p).foldl anew1 ((bindsP p).foldl self1 (fun _ => none), U)) :
    Calls Tryz.prog 137 #[.agg #[av, fv], pv] w fun e w' => ∃ mp, e = .returned (.agg #[.iface 123 (.agg #[av, fv]), .map (some mp)]) ∧ mp < w'.heap.size ∧ m ≠ some mp ∧ OwnF w' mp 1000000 S.1 ∧
      StateAt w' m (nU + (bindsP p).length) S.2 ∧ Cov S.2 (kc + (bindsP p).length) ∧ w.grownBy w' m := by
  obtain ⟨aty, acs, fx, rfl, rfl, hfr, har⟩ := hg.values
  obtain ⟨gr, rcv, hrm, hrc, hren⟩ := ren_any hBN hm f fs hfs aty acs (.map fx) p pv hps hsm hbd hp w har
  have hch := fun W => choose_method (B := B) (N := N) (u := u) (m := m) (b := b) W fs 347 w aty acs (by omega) har
  have hc223 : ∀ args W, (callFunc 223 args).run Tryz.prog W = .ok (.enter 223 args) W := enters_of Tryz.func223 (by kernel_rfl) rfl
  have hrl := renames_len b ⟨b, f :: fs⟩ p
  obtain ⟨g, pc, ty, rfl, hmbd, hcb, hbs⟩ := binds_face B u p pv (hsm p (by rw [nodesOf_eq]; simp)) (hbd p (by rw [nodesOf_eq]; simp)) hp
  obtain ⟨W0, hW0⟩ : ∃ W0, W0 = ((w.alloc (.cells #[.iface aty (.agg acs), .map fx] 123)).alloc (.cells #[.nilIface, .map none] 123)) := ⟨_, rfl⟩
  have hb0 : Below w.heap.size w W0 := by rw [hW0]; exact ((Below.refl _ w).alloc (Nat.le_refl _) _).alloc (by simp) _
  have hz : W0.heap.size = w.heap.size + 2 := by rw [hW0]; simp
  have k0 : BoxesI w.heap.size aty acs fx W0 := by
    refine ⟨?_, ?_⟩
    · rw [hW0, Below.heap_alloc _ _ _ (by simp)]; exact World.alloc_heap_new w _
    · rw [hW0]; have := World.alloc_heap_new (w.alloc (.cells #[.iface aty (.agg acs), .map fx] 123)) (.cells #[.nilIface, .map none] 123); rwa [World.size_alloc] at this
  have hstay := Good.stays (b := b) (fs := f :: fs) (v := .iface 123 (.agg #[.iface aty (.agg acs), .map fx])) (u := u) hBN hm
  have hg0 := hstay.below hg hb0
  have hbc := hbs W0 hg0.kept hg0.room
  have hmlt : ∀ r, m = some r → r < w.heap.size := fun r hr => (hS r hr).lt
  obtain ⟨L, hL⟩ : ∃ L, L = bindsP p := ⟨_, rfl⟩
  obtain ⟨R, hR⟩ : ∃ R, R = b.renames ⟨b, f :: fs⟩ p := ⟨_, rfl⟩
  rw [← hL] at hbc hrl hSd hsome hk ⊢
  rw [← hR] at hrl hSd hren
  have hLn : L.length ≠ 0 := fun h => hsome (List.eq_nil_of_length_eq_zero h)
  have hRm : ∀ k, k < R.length → ∃ bu, m = some bu := by
    intro k hk
    cases hmn : m with
    | some bu => exact ⟨bu, rfl⟩
    | none => rw [hmb hmn] at hR; simp only [Base.renames] at hR; rw [hR] at hk; simp at hk
  have hmm := @run_makeMap Tryz.prog
  have HW := Lib.hid hW0
  have HZ := Lib.hid hz
  have HL := Lib.hid hL
  have HR := Lib.hid hR
  clear hW0 hbs hL hR hz hsome
  go_enter Tryz.func137, Tryz.ntmps137
  go_wp2_with (rw [← HW.out]; refine hbc.mono ?_; clear hbc; rintro e w1 ⟨r, rfl, ⟨ra, rc, rfl, _, hLz, _, hLc⟩, hb1⟩)
  have hb1w := hb0.trans (hb1.mono (by have := HZ.out; omega))
  have k1 := k0.kept (grown_of_below hb1) (by simp)
  have hsz1 : w.heap.size + 2 ≤ w1.heap.size := by have := hb1.size; have := HZ.out; omega
  have HO := Lib.hid (OwnF.made w1)
  have b0' : Below w1.heap.size w1 (w1.alloc (.map #[] 0)) := (Below.refl _ w1).alloc (Nat.le_refl _) _
  have hg1 := hstay.below hg hb1w
  have hS1 : StateAt w1 m nU U := hS.kept (grown_of_below hb1w) (by simp)
  clear hb1 k0 hg0 hb0 hg hS
  go_wp2_with fail
  go_loopw [20] (fun i wr => ∃ (k : Nat), k ≤ L.length ∧ i = .int .i64 k ∧ OwnF wr w1.heap.size k ((L.take k).foldl self1 (fun _ => none)) ∧ Below w1.heap.size w1 wr) (fun i _ => L.length - (intOf i).toNat)
  case atStart => exact ⟨0, by omega, rfl, by simpa using HO.out, b0'⟩
  case round =>
    obtain ⟨k, hk', rfl, hO, hb⟩ := hrel
    by_cases hlt : k < L.length
    · rcases hLc with h0 | ⟨bb, off, rfl, hbB, hc⟩
      · subst h0; simp at hlt
      have hwr := hb.size
      have ck := (hb.cell (p := ⟨bb, off + k, none⟩) hbB).trans (hc k hlt)
      have hxk := hLz _ (List.getElem_mem hlt)
      have hft := foldl_more self1 L (fun _ => none) k hlt
      obtain ⟨x, hx⟩ : ∃ x, x = L[k] := ⟨_, rfl⟩
      rw [← hx] at ck hxk hft
      have HFT := Lib.hid hft
      obtain ⟨w', hr, o2, g2⟩ := hO.put (by unfold maxLen; omega) hxk hxk
      have hbw : Below w1.heap.size w1 w' := hb.grown g2 hwr (fun r e => by have := Option.some.inj e; omega)
      have O2 := Lib.hid o2
      clear hft hx hc hO o2 g2
      go_wp2
      refine ⟨⟨k + 1, by omega, by go_num, by rw [HFT.out]; exact O2.out, hbw⟩, by simp [intOf]; omega⟩
    · obtain rfl : k = L.length := by omega
      rw [List.take_length] at hO
      have hwr := hb.size
      have hgr := hstay.below hg1 hb
      have hrc' := hren wr hgr
      have kr := k1.kept (grown_of_below hb) (by simp)
      have hSr : StateAt wr m nU U := hS1.kept (grown_of_below hb) (by simp)
      obtain ⟨f1, hf1⟩ : ∃ f1, f1 = L.foldl self1 (fun _ => none) := ⟨_, rfl⟩
      rw [← hf1] at hO hSd
      have HF1 := Lib.hid hf1
      obtain ⟨c0, c1, c2, c3, cf⟩ := kr.cells
      obtain ⟨wm, hwm⟩ : ∃ wm : World, wm = wr := ⟨_, rfl⟩
      subst hwm
      clear hLc hLz hren hf1 hg1 hS1 HO b0'
      go_wp2_with (refine hrc'.mono ?_; clear hrc'; rintro e w3 ⟨r, rfl, ⟨ra2, rc2, rfl, _, hRz, _, hRc⟩, hb3⟩)
      have hW3 : w.grownBy w3 m := grown_row (grown_row (grown_refl w m) (grown_of_below (hb1w.trans (hb.mono (by omega)))) (by simp)) (grown_of_below hb3) (by simp)
      have kr3 := kr.kept (grown_of_below hb3) (by simp)
      have hO3 := hO.later hb3
      have hS3 : StateAt w3 m nU U := hSr.kept (grown_of_below hb3) (by simp)
      have hw3 := hb3.size
      have hmp : ∀ r, m = some r → r ≠ w1.heap.size := fun r hr => by have := hmlt r hr; omega
      clear hb3 kr hO hSr hb hgr c0 c1 c2 c3 cf hstay
      go_loopw [34] (fun i wq => ∃ (k : Nat), k ≤ R.length ∧ i = .int .i64 k ∧ OwnF wq w1.heap.size (L.length + k) ((R.take k).foldl anew1 (f1, U)).1 ∧ StateAt wq m (nU + k) ((R.take k).foldl anew1 (f1, U)).2 ∧
        Cov ((R.take k).foldl anew1 (f1, U)).2 (kc + k) ∧ CellsKept w3 wq ∧ w.grownBy wq m ∧ BoxesI w.heap.size aty acs fx wq) (fun i _ => R.length - (intOf i).toNat)
      case atStart => exact ⟨0, by omega, rfl, by simpa using hO3, by simpa using hS3, by simpa using hC, CellsKept.refl _, hW3, kr3⟩
      case round =>
        obtain ⟨k, hk', rfl, hO, hSt, hCv, hkc, hgw, hbx⟩ := hrel
        obtain ⟨c0, c1, c2, c3, cf⟩ := hbx.cells
        by_cases hlt : k < R.length
        · obtain ⟨bu, hbu⟩ := hRm k hlt
          rcases hRc with h0 | ⟨bb, off, rfl, hbB, hc⟩
          · subst h0; simp at hlt
          have ck := hkc.2 _ _ _ (hc k hlt)
          have hxk := hRz _ (List.getElem_mem hlt)
          have hft := foldl_more anew1 R (f1, U) k hlt
          obtain ⟨x, hx⟩ : ∃ x, x = R[k] := ⟨_, rfl⟩
          rw [← hx] at ck hxk hft
          obtain ⟨FU, hFU⟩ : ∃ FU, FU = (R.take k).foldl anew1 (f1, U) := ⟨_, rfl⟩
          rw [← hFU] at hO hSt hCv hft
          have HFT := Lib.hid hft
          have hS1 := hSt bu hbu
          have hcl := choose_any bu (nU + k) FU.2 wr hS1 (by unfold maxLen; omega) (kc + k) hCv (by omega)
          have hcm := hch
          rw [hbu] at hcm
          have hmpb := hmp bu hbu
          have hbw := hmlt bu hbu
          have hcs := choose_small FU.2
          obtain ⟨CU, hCU⟩ : ∃ c, c = choose FU.2 := ⟨_, rfl⟩
          rw [← hCU] at hcl hcs
          have HCU := Lib.hid hCU
          have hj : ∀ w5, SetF w5 bu (nU + k + 1) (plusU FU.2 CU) → wr.grownBy w5 (some bu) → ∃ w6, (Instr.mapUpdate 121 (.map (some w1.heap.size)) (.string x) (.string (mkB CU))).run Tryz.prog w5 = .ok () w6 ∧ OwnF w6 w1.heap.size (L.length + (k + 1)) (upd FU.1 x (mkB CU)) ∧
              StateAt w6 m (nU + (k + 1)) (plusU FU.2 CU) ∧ CellsKept w3 w6 ∧ w.grownBy w6 m ∧ BoxesI w.heap.size aty acs fx w6 := by
            intro w5 s5 g5
            have o5 := hO.kept g5 (fun e => hmpb (Option.some.inj e).symm)
            obtain ⟨w6, r6, o6, g6⟩ := o5.put (by unfold maxLen; omega) hxk hcs
            have s6 := s5.kept g6 (fun e => hmpb (Option.some.inj e))
            refine ⟨w6, r6, o6, fun b' hb' => ?_, (hkc.turned hS1 g5).turnedF o5 g6, ?_, ?_⟩
            · rw [hbu] at hb'; obtain rfl := Option.some.inj hb'; exact s6
            · exact grown_row (grown_row hgw g5 (fun r e => .inr (by rw [hbu, ← e]))) g6 (fun r e => .inl (by have := Option.some.inj e; omega))
            · exact (hbx.kept g5 (fun r e => by have := Option.some.inj e; omega)).kept g6 (fun r e => by have := Option.some.inj e; omega)
          clear hft hx hc hRz hO hSt hFU hCU hkc hgw hbx hS1
          go_wp2_with (go_at_call 223; refine hcl.mono ?_; clear hcl; rintro e w5 ⟨rfl, s5, g5⟩; obtain ⟨w6, r6, o6, st6, ck6, gw6, bx6⟩ := hj w5 s5 g5; have H1 := Lib.hid o6; have H2 := Lib.hid st6; have H3 := Lib.hid ck6; have H4 := Lib.hid gw6; clear hj o6 st6 ck6 gw6 s5 g5)
          go_roundw
          case rel => exact ⟨k + 1, by omega, by go_num, by rw [HFT.out]; unfold anew1; rw [← HCU.out]; exact H1.out, by rw [HFT.out]; unfold anew1; rw [← HCU.out]; exact H2.out, by rw [HFT.out]; unfold anew1; exact hCv.plus _, H3.out, H4.out, bx6⟩
          case measure => simp [intOf]; omega
        · obtain rfl : k = R.length := by omega
          rw [List.take_length, ← hSd] at hO hSt hCv
          have g1 := grownBy_setCellAt
          have H1 := Lib.hid hO; have H2 := Lib.hid hSt; have H3 := Lib.hid hgw
          clear hO hSt hgw hkc hbx
          go_wp2_with fail
          simp [bodyPost, results, Tryz.results137, go_sem, c2, c3]
          have e1 := g1 wr ⟨w.heap.size + 1, 0, none⟩ (.iface 123 (.agg #[.iface aty (.agg acs), .map fx]))
          have e2 := g1 (wr.setCell ⟨w.heap.size + 1, 0, none⟩ (.iface 123 (.agg #[.iface aty (.agg acs), .map fx]))) ⟨w.heap.size + 1, 1, none⟩ (.map (some w1.heap.size))
          have hlt1 := H1.out.lt
          refine ⟨hlt1, fun e => hmp _ e rfl, ?_, ?_, hCv.mono (by omega), ?_⟩
          · exact ((H1.out.kept e1 (fun e => by have := Option.some.inj e; simp only at this; omega)).kept e2 (fun e => by have := Option.some.inj e; simp only at this; omega)).mono (by omega)
          · intro b' hb'
            have hb'' := hmlt b' hb'
            exact ((((H2.out b' hb').kept e1 (fun e => by have := Option.some.inj e; simp only at this; omega)).kept e2 (fun e => by have := Option.some.inj e; simp only at this; omega))).mono (by omega)
          · exact grown_row (grown_row H3.out e1 (fun r e => .inl (by have := Option.some.inj e; simp only at this; omega))) e2 (fun r e => .inl (by have := Option.some.inj e; simp only at this; omega))

end Go.Proofs.YtjmlaeofjjhfmaaGreat
/- What the copies of formed processes need: names that are bound, and how many names are chosen at most. -/
namespace Go.Proofs.YtjmlaeofjjhfmaaGreat
open Go.RowKit Go.Shelf Go.Maps Go.WideMaps

def Bound (fs : List Frame) (x : ByteArray) : Prop := fs.any (fun f => (f (bytesOf x)).isSome) = true
theorem becomesF_bound (b : Base) (x : ByteArray) : ∀ fs, Bound fs x → ∃ n, becomesF b x fs = nameE n
  | [], h => by simp [Bound] at h
  | f :: fs, h => by
    unfold Bound at h
    rw [List.any_cons, Bool.or_eq_true] at h
    rw [becomesF]
    cases hf : f (bytesOf x) with
    | some n => exact ⟨n, rfl⟩
    | none =>
      rw [hf] at h
      rcases h with h | h
      · simp at h
      · exact becomesF_bound b x fs h
theorem textT_bound (b : Base) (x : ByteArray) (fs : List Frame) (h : Bound fs x) : ∃ t, textT (fun x => becomesF b x fs) x = some t := by
  obtain ⟨n, hn⟩ := becomesF_bound b x fs h
  unfold textT
  split
  · exact ⟨x, rfl⟩
  · refine ⟨n, ?_⟩
    simp only [hn]
    rfl
theorem mapM1_all {A C : Type} (F : A → Option C) : ∀ l : List A, (∀ a ∈ l, ∃ c, F a = some c) → ∃ l', mapM1 F l = some l'
  | [], _ => ⟨[], rfl⟩
  | a :: l, h => by
    obtain ⟨c, hc⟩ := h a (by simp)
    obtain ⟨l', hl'⟩ := mapM1_all F l (fun x hx => h x (by simp [hx]))
    unfold mapM1 at hl' ⊢
    rw [stepsM, hc]
    simp only [Option.map_some]
    cases hs : stepsM (fun (_ : Unit) a => (F a).map fun b => (b, ())) () l with
    | none => rw [hs] at hl'; simp at hl'
    | some y => exact ⟨c :: y.1, rfl⟩
theorem upd_some {f : Frame} {k v : ByteArray} {x : List UInt8} (h : (f x).isSome = true ∨ x = bytesOf k) : (upd f k v x).isSome = true := by
  unfold upd
  split
  · rfl
  · rename_i hn
    rcases h with h | h
    · exact h
    · simp [h] at hn
theorem self1_some : ∀ (l : List ByteArray) (f : Frame) (x : List UInt8), ((f x).isSome = true ∨ ∃ y ∈ l, x = bytesOf y) → ((l.foldl self1 f) x).isSome = true
  | [], f, x, h => by
    rcases h with h | ⟨y, hy, _⟩
    · exact h
    · simp at hy
  | a :: l, f, x, h => by
    rw [List.foldl_cons]
    refine self1_some l _ x ?_
    rcases h with h | ⟨y, hy, e⟩
    · exact .inl (upd_some (.inl h))
    · rcases List.mem_cons.1 hy with rfl | hy
      · exact .inl (upd_some (.inr e))
      · exact .inr ⟨y, hy, e⟩
theorem anew1_some : ∀ (l : List ByteArray) (s : Frame × Used) (x : List UInt8), (s.1 x).isSome = true → ((l.foldl anew1 s).1 x).isSome = true
  | [], _, _, h => h
  | a :: l, s, x, h => by
    rw [List.foldl_cons]
    exact anew1_some l _ x (upd_some (.inl h))
/-- Within a part all names are bound that it binds, and those that were. -/
theorem inside_bound (b : Base) (f : Frame) (fs : List Frame) (U : Used) (p : Part) (x : ByteArray) (h : Bound (f :: fs) x ∨ x ∈ bindsP p) : Bound (inside ⟨b, f :: fs⟩ U p).1.frames x := by
  unfold inside
  by_cases hn : bindsP p = []
  · rw [if_pos hn]
    rcases h with h | h
    · exact h
    · rw [hn] at h; simp at h
  · rw [if_neg hn]
    unfold Bound
    simp only
    rw [List.any_cons, Bool.or_eq_true]
    rcases h with h | h
    · exact .inr h
    · exact .inl (anew1_some _ _ _ (self1_some _ _ _ (.inr ⟨x, h, rfl⟩)))
theorem inside_base (b : Base) (f : Frame) (fs : List Frame) (U : Used) (p : Part) : (inside ⟨b, f :: fs⟩ U p).1.base = b := by
  unfold inside; split <;> rfl

theorem chFold_mem : ∀ (xs l : List ByteArray) (x : ByteArray), (x ∈ l ∨ x ∈ xs) → x ∈ chFold l xs
  | [], l, x, h => by
    rcases h with h | h
    · exact h
    · simp at h
  | y :: xs, l, x, h => by
    have e : chFold l (y :: xs) = chFold (chStep l y) xs := by simp [chFold]
    rw [e]
    refine chFold_mem xs _ x ?_
    have hst : ∀ z, z ∈ l → z ∈ chStep l y := by
      intro z hz; unfold chStep; split
      · exact hz
      · exact List.mem_append_left _ hz
    rcases h with h | h
    · exact .inl (hst x h)
    · rcases List.mem_cons.1 h with rfl | h
      · left
        unfold chStep
        split
        · rename_i hm
          unfold inSet at hm
          obtain ⟨y, hy, he⟩ := List.any_eq_true.1 hm
          obtain ⟨z, hz, rfl⟩ := List.mem_map.1 hy
          have e1 : bytesOf z = bytesOf x := by simpa using he
          have e2 : z = x := ByteArray.ext (Array.toList_inj.1 e1)
          exact e2 ▸ hz
        · simp
      · exact .inr h
def tsL (d : List Clause) : List ByteArray := alltexts (groupsL d)
def tsC (c : Clause) : List ByteArray := c.joins.map (·.text) ++ alltexts (groupsC c)
theorem tsC_sub : ∀ (d : List Clause) (c : Clause), c ∈ d → ∀ x, x ∈ tsC c → x ∈ tsL d := by
  intro d c hc x hx
  unfold tsC at hx
  unfold tsL groupsL alltexts
  rw [List.flatMap_cons, List.mem_append]
  rcases List.mem_append.1 hx with h | h
  · left
    unfold gtexts
    exact List.mem_flatMap.2 ⟨c, hc, h⟩
  · right
    unfold alltexts at h
    obtain ⟨g, hg, hxg⟩ := List.mem_flatMap.1 h
    refine List.mem_flatMap.2 ⟨g, ?_, hxg⟩
    clear hx h hxg
    induction d with
    | nil => simp at hc
    | cons a d ih =>
      rw [groupsI, List.mem_append]
      rcases List.mem_cons.1 hc with rfl | hc
      · exact .inl hg
      · exact .inr (ih hc)
theorem tsC_place (f : Int) (t : ByteArray) (j : List Msg) (d : List Clause) (k : List Term) (hf : f = 2) (x : ByteArray) (hx : x ∈ tsL d) : x ∈ tsC (.mk f t j d k) := by
  unfold tsC
  refine List.mem_append_right _ ?_
  rw [groupsC, if_pos hf]
  exact hx

mutual
/-- How many names a process binds, all parts of it together. -/
def bcT : Term → Nat
  | .mk o t a d k => (bindsP (.proc (.mk o t a d k))).length + bcCs d + bcTs k
def bcC : Clause → Nat
  | .mk f t j d k => (bindsP (.def_ (.mk f t j d k))).length + bcCs d + bcTs k
def bcTs : List Term → Nat
  | [] => 0
  | a :: l => bcT a + bcTs l
def bcCs : List Clause → Nat
  | [] => 0
  | a :: l => bcC a + bcCs l
end
theorem bcTs_drop (l : List Term) (k : Nat) (h : k < l.length) : bcTs (l.drop k) = bcT l[k] + bcTs (l.drop (k + 1)) := by
  rw [List.drop_eq_getElem_cons h, bcTs]
theorem bcCs_drop (l : List Clause) (k : Nat) (h : k < l.length) : bcCs (l.drop k) = bcC l[k] + bcCs (l.drop (k + 1)) := by
  rw [List.drop_eq_getElem_cons h, bcCs]

/-- The map of the names that are not chosen, with room for r more. -/
def Bud (m : Option Nat) (r : Nat) (U : Used) (W : World) : Prop := (∃ n, n + r ≤ 500000000 ∧ StateAt W m n U) ∧ ∃ c, c + r ≤ 4900 ∧ Cov U c
theorem Bud.kept {m row : Option Nat} {r : Nat} {U : Used} {W W' : World} (h : Bud m r U W) (g : W.grownBy W' row) (hne : ∀ x, row = some x → m ≠ some x) : Bud m r U W' := by
  obtain ⟨⟨n, h1, h2⟩, h3⟩ := h
  exact ⟨⟨n, h1, h2.kept g hne⟩, h3⟩
theorem Bud.noCells {m : Option Nat} {r : Nat} {U : Used} {W : World} (h : Bud m r U W) : NoCells m W := by
  obtain ⟨⟨n, _, h2⟩, _⟩ := h; exact h2.noCells
theorem Bud.lt {m : Option Nat} {r : Nat} {U : Used} {W : World} (h : Bud m r U W) : ∀ b, m = some b → b < W.heap.size := fun b hb => (h.noCells b hb).1
theorem Bud.less {m : Option Nat} {r r' : Nat} {U : Used} {W : World} (h : Bud m r U W) (hr : r' ≤ r) : Bud m r' U W := by
  obtain ⟨⟨n, h1, h2⟩, c, h3, h4⟩ := h
  exact ⟨⟨n, by omega, h2⟩, c, by omega, h4⟩
theorem Good.mono {B N N' : Nat} {u : World} {m : Option Nat} {b : Base} {fs : List Frame} {v : Value} {W : World} (h : Good B u N m b fs v W) (hN : N ≤ N') : Good B u N' m b fs v W := ⟨h.kept, h.room, h.at_.mono hN⟩
/-- A cell of a block of cells is written. -/
theorem FrAt.set {w : World} {N : Nat} {m : Option Nat} {v : Value} {f : Frame} (h : FrAt w N m v f) {c o : Nat} {cs : Array Value} {ty : TypeId} {fz : Nat × Nat} (hc : w.heap[c]? = some (.cells cs ty fz)) (x : Value) : FrAt (w.setCell ⟨c, o, none⟩ x) N m v f := by
  rcases h with h | ⟨b, h1, h2, h3, h4⟩
  · exact .inl h
  · refine .inr ⟨b, h1, h2, h3, h4.kept (grownBy_setCellAt w ⟨c, o, none⟩ x) (fun e => ?_)⟩
    have : b = c := Option.some.inj e
    subst this
    obtain ⟨D, ⟨es, clock, hb, _⟩, _⟩ := h4
    rw [hb] at hc; cases hc
theorem AroundAt.set {B N : Nat} {u : World} {m : Option Nat} {b : Base} {c o : Nat} {cs : Array Value} {ty : TypeId} {fz : Nat × Nat} {w : World} (hc : w.heap[c]? = some (.cells cs ty fz)) (x : Value) : ∀ {fs : List Frame} {v : Value}, AroundAt B u N m b fs w v → AroundAt B u N m b fs (w.setCell ⟨c, o, none⟩ x) v
  | [], _, h => h
  | _ :: _, _, ⟨av, fv, h1, h2, h3⟩ => ⟨av, fv, h1, h2.set hc x, h3.set hc x⟩
theorem Good.set {B N : Nat} {u : World} {m : Option Nat} {b : Base} {fs : List Frame} {v : Value} {w : World} (h : Good B u N m b fs v w) {c o : Nat} {cs : Array Value} {ty : TypeId} {fz : Nat × Nat} (hc : w.heap[c]? = some (.cells cs ty fz)) (hBc : B ≤ c) (x : Value) : Good B u N m b fs v (w.setCell ⟨c, o, none⟩ x) := by
  refine ⟨fun b' o' v' hb hv => ?_, by have := h.room; simpa using this, h.at_.set hc x⟩
  refine (World.cell?_of_block (w := w) ?_).trans (h.kept b' o' v' hb hv)
  rw [Below.heap_setCell _ _ _ _ (by simp; omega)]
theorem Bud.set {m : Option Nat} {r : Nat} {U : Used} {w : World} (h : Bud m r U w) {c o : Nat} {cs : Array Value} {ty : TypeId} {fz : Nat × Nat} (hc : w.heap[c]? = some (.cells cs ty fz)) (x : Value) : Bud m r U (w.setCell ⟨c, o, none⟩ x) := by
  refine h.kept (grownBy_setCellAt w ⟨c, o, none⟩ x) (fun y e hm => ?_)
  have : c = y := Option.some.inj e
  subst this
  obtain ⟨⟨n, _, h2⟩, _⟩ := h
  obtain ⟨D, ⟨es, clock, hb, _⟩, _⟩ := h2 c hm
  rw [hb] at hc; cases hc

/-- All nodes are shaped. -/
def Fine (p : Part) : Prop := ∀ q ∈ (nodesOf 0 p).map (·.1), q.shaped = true
theorem Fine.part {p q : Part} (h : Fine p) (hq : q ∈ p.parts) : Fine q := by
  intro x hx
  rw [nodesOf_fst 0 1] at hx
  refine h x ?_
  rw [nodesOf_eq]
  obtain ⟨y, hy, rfl⟩ := List.mem_map.1 hx
  exact List.mem_map.2 ⟨y, List.mem_cons_of_mem _ (mem_nodesL hq hy), rfl⟩
theorem Fine.self {p : Part} (h : Fine p) : p.shaped = true := h p (by rw [nodesOf_eq]; simp)
theorem fine_term {o : Int} {t : ByteArray} {a : List Exp} {d : List Clause} {k : List Term} (h : Fine (.proc (.mk o t a d k))) : o = 4 ∨ d = [] := by
  have h1 := h.self
  simp only [Part.shaped, shapedTB, Bool.or_eq_true, Bool.and_eq_true, beq_iff_eq, decide_eq_true_eq, List.length_eq_zero_iff] at h1
  rcases h1 with ((((h1 | h1) | h1) | h1) | h1) | h1
  · exact .inr h1.1.2
  · exact .inr h1.1.2
  · exact .inr h1.1.2
  · exact .inl h1.1.1.1.1.1
  · exact .inr h1.1.2
  · exact .inr h1.1.2
theorem fine_clause {f : Int} {t : ByteArray} {j : List Msg} {d : List Clause} {k : List Term} (h : Fine (.def_ (.mk f t j d k))) : (f = 2 ∨ d = []) ∧ ∀ x ∈ j, x.names.length ≤ 1000 := by
  have h1 := h.self
  simp only [Part.shaped, shapedCB, Bool.or_eq_true, Bool.and_eq_true, beq_iff_eq, decide_eq_true_eq, List.length_eq_zero_iff] at h1
  rcases h1 with h1 | h1
  · refine ⟨.inr h1.1.2, fun x hx => ?_⟩
    have hj := h1.1.1.2
    unfold joinedB at hj
    simp only [Bool.and_eq_true, decide_eq_true_eq, List.all_eq_true] at hj
    have := hj.1.1.2 x hx
    omega
  · refine ⟨.inl h1.1.1.1.1, fun x hx => ?_⟩
    have hj := h1.1.1.2
    rw [hj] at hx; simp at hx

end Go.Proofs.YtjmlaeofjjhfmaaGreat
/- inside: of whatever part. -/
namespace Go.Proofs.YtjmlaeofjjhfmaaGreat
open Go.RowKit Go.Shelf Go.Maps Go.WideMaps

theorem AroundAt.fit {B N : Nat} {u : World} {m : Option Nat} {b : Base} {w : World} : ∀ {fs : List Frame} {v : Value}, AroundAt B u N m b fs w v → AroundAt B u w.heap.size m b fs w v
  | [], _, h => h
  | _ :: _, _, ⟨av, fv, h1, h2, h3⟩ => by
    refine ⟨av, fv, h1, ?_, h3.fit⟩
    rcases h2 with h2 | ⟨c, a1, a2, a3, a4⟩
    · exact .inl h2
    · exact .inr ⟨c, a1, a4.lt, a3, a4⟩
theorem Good.fit {B N : Nat} {u : World} {m : Option Nat} {b : Base} {fs : List Frame} {v : Value} {w : World} (h : Good B u N m b fs v w) : Good B u w.heap.size m b fs v w := ⟨h.kept, h.room, h.at_.fit⟩

theorem inside_any {B N : Nat} {u : World} {m : Option Nat} {b : Base} (hBN : B ≤ N) (hm : ∀ r, m = some r → B ≤ r) (hmb : m = none → b = .outside) (f : Frame) (fs : List Frame) (hfs : fs.length < 340) (av fv : Value)
    (p : Part) (pv : Value) (hps : p.size ≤ 60) (hsm : p.allSmall) (hbd : p.allBind) (hp : PartAt B u pv p) (w : World) (hg : Good B u N m b (f :: fs) (.iface 123 (.agg #[av, fv])) w)
    (U : Used) (r : Nat) (hB : Bud m ((bindsP p).length + r) U w) :
    Calls Tryz.prog 137 #[.agg #[av, fv], pv] w fun e w' => ∃ (aty : TypeId) (acs : Array Value) (fx : Option Nat) (f' : Frame) (fs' : List Frame), e = .returned (.agg #[.iface aty (.agg acs), .map fx]) ∧ (inside ⟨b, f :: fs⟩ U p).1 = ⟨b, f' :: fs'⟩ ∧ fs'.length ≤ fs.length + 1 ∧
      Good B u w'.heap.size m b (f' :: fs') (.iface 123 (.agg #[.iface aty (.agg acs), .map fx])) w' ∧ Bud m r (inside ⟨b, f :: fs⟩ U p).2 w' ∧ w.grownBy w' m := by
  obtain ⟨aty, acs, fx, e1, e2, hfr, har⟩ := hg.values
  obtain ⟨⟨nU, hn, hS⟩, kc, hk, hC⟩ := id hB
  by_cases hn0 : bindsP p = []
  · refine (inside_none hBN hm f fs av fv p pv hsm hbd hp w hg hn0).mono ?_
    rintro e w' ⟨rfl, hb⟩
    have hg' := (Good.stays hBN hm).below hg hb
    refine ⟨aty, acs, fx, f, fs, by rw [e1, e2], by unfold inside; rw [if_pos hn0], by omega, ?_, ?_, ?_⟩
    · rw [← e1, ← e2]
      exact hg'.fit
    · have e3 : (inside ⟨b, f :: fs⟩ U p).2 = U := by unfold inside; rw [if_pos hn0]
      rw [e3]
      exact (hB.less (by omega)).kept (grown_of_below hb) (by simp)
    · exact grown_row (grown_refl w m) (grown_of_below hb) (by simp)
  · refine (inside_some hBN hm f fs hfs av fv p pv hps hsm hbd hp w hg hn0 hmb nU U hS (by omega) kc hC (by omega) _ rfl).mono ?_
    rintro e w' ⟨mp, rfl, h1, h2, h3, h4, h5, h6⟩
    have e3 : inside ⟨b, f :: fs⟩ U p = (⟨b, ((b.renames ⟨b, f :: fs⟩ p).foldl anew1 ((bindsP p).foldl self1 (fun _ => none), U)).1 :: f :: fs⟩, ((b.renames ⟨b, f :: fs⟩ p).foldl anew1 ((bindsP p).foldl self1 (fun _ => none), U)).2) := by
      unfold inside; rw [if_neg hn0]
    have hg' := Good.stays hBN hm w w' m hg h6 (fun x hx => .inr hx)
    rw [e3]
    refine ⟨123, #[av, fv], some mp, _, _, rfl, rfl, by simp, ?_, ⟨⟨_, by omega, h4⟩, _, by omega, h5⟩, h6⟩
    refine ⟨hg'.kept, hg'.room, .iface 123 (.agg #[av, fv]), .map (some mp), rfl, .inr ⟨mp, rfl, h1, h2, h3⟩, hg'.fit.at_⟩

end Go.Proofs.YtjmlaeofjjhfmaaGreat
