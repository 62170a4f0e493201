/- The reference's look and Bound: what a TermDef defines. -/
import Derived.Test.YtjmlaeofjjhfmaaGreatP28
set_option linter.unusedVariables false
set_option linter.unusedSimpArgs false
namespace Go.Proofs.YtjmlaeofjjhfmaaGreat
open Go.RowKit Go.Shelf Go.Maps

theorem chFold_append (l a b : List ByteArray) : chFold l (a ++ b) = chFold (chFold l a) b := by simp [chFold]
theorem chFold_sub : ∀ (xs l : List ByteArray) (x : ByteArray), x ∈ chFold l xs → x ∈ l ∨ x ∈ xs
  | [], l, x, h => .inl h
  | y :: xs, l, x, h => by
    have e : chFold l (y :: xs) = chFold (chStep l y) xs := by simp [chFold]
    rw [e] at h
    rcases chFold_sub xs _ x h with h | h
    · unfold chStep at h
      split at h
      · exact .inl h
      · rcases List.mem_append.1 h with h | h
        · exact .inl h
        · exact .inr (by rw [List.mem_singleton.1 h]; exact List.mem_cons_self ..)
    · exact .inr (List.mem_cons_of_mem _ h)
/-- The texts that come ahead of message l of definition j of list i. -/
def seenTo (gs : List (List Clause)) (i j l : Nat) : List ByteArray :=
  alltexts (gs.take i) ++ (match gs[i]? with
    | none => []
    | some g => gtexts (g.take j) ++ (match g[j]? with
      | none => []
      | some c => (c.joins.take l).map (·.text)))
theorem seenTo_msg {gs : List (List Clause)} {i j l : Nat} (hi : i < gs.length) (hj : j < (gs[i]).length) (hl : l < ((gs[i])[j]).joins.length) : seenTo gs i j (l + 1) = seenTo gs i j l ++ [(((gs[i])[j]).joins[l]).text] := by
  unfold seenTo
  simp only [List.getElem?_eq_getElem hi, List.getElem?_eq_getElem hj]
  rw [List.take_succ_eq_append_getElem hl, List.map_append, List.map_cons, List.map_nil]
  simp only [List.append_assoc]
theorem seenTo_def {gs : List (List Clause)} {i j : Nat} (hi : i < gs.length) (hj : j < (gs[i]).length) : seenTo gs i (j + 1) 0 = seenTo gs i j ((gs[i])[j]).joins.length := by
  unfold seenTo
  simp only [List.getElem?_eq_getElem hi, List.getElem?_eq_getElem hj, List.take_length, List.take_zero, List.map_nil]
  rw [gtexts_take _ _ hj]
  congr 1
  cases h : (gs[i])[j + 1]? with
  | none => simp
  | some c => simp
theorem seenTo_list {gs : List (List Clause)} {i : Nat} (hi : i < gs.length) : seenTo gs (i + 1) 0 0 = seenTo gs i (gs[i]).length 0 := by
  unfold seenTo
  simp only [List.getElem?_eq_getElem hi, List.take_zero, List.map_nil, List.take_length]
  rw [alltexts_take _ _ hi]
  have h1 : (gs[i])[(gs[i]).length]? = none := by simp
  rw [h1]
  cases h : gs[i + 1]? with
  | none => simp [gtexts]
  | some g =>
    simp only [gtexts, List.flatMap_nil, List.nil_append]
    cases h2 : g[0]? with
    | none => simp
    | some c => simp
theorem seenTo_zero (gs : List (List Clause)) : seenTo gs 0 0 0 = [] := by
  unfold seenTo
  simp only [List.take_zero, alltexts, List.flatMap_nil, List.nil_append, gtexts, List.map_nil]
  cases h : gs[0]? with
  | none => rfl
  | some g =>
    simp only
    cases h2 : g[0]? with
    | none => rfl
    | some c => rfl
theorem seenTo_all (gs : List (List Clause)) : seenTo gs gs.length 0 0 = alltexts gs := by
  unfold seenTo
  rw [List.take_length]
  simp

theorem seenTo_le {gs : List (List Clause)} (i j l : Nat) : (seenTo gs i j l).length ≤ (alltexts gs).length := by
  have h0 : alltexts gs = alltexts (gs.take i) ++ alltexts (gs.drop i) := by
    unfold alltexts; rw [← List.flatMap_append, List.take_append_drop]
  rw [h0]
  unfold seenTo
  rw [List.length_append, List.length_append]
  refine Nat.add_le_add_left ?_ _
  cases hg : gs[i]? with
  | none => simp
  | some g =>
    obtain ⟨hi, rfl⟩ := List.getElem?_eq_some_iff.1 hg
    rw [List.drop_eq_getElem_cons hi]
    have h1 : alltexts (gs[i] :: gs.drop (i + 1)) = gtexts gs[i] ++ alltexts (gs.drop (i + 1)) := by unfold alltexts; rw [List.flatMap_cons]
    have h3 : (alltexts (gs[i] :: gs.drop (i + 1))).length = (gtexts gs[i]).length + (alltexts (gs.drop (i + 1))).length := by rw [h1, List.length_append]
    rw [h3]
    refine Nat.le_trans ?_ (Nat.le_add_right _ _)
    have h2 : gtexts gs[i] = gtexts ((gs[i]).take j) ++ gtexts ((gs[i]).drop j) := by
      unfold gtexts; rw [← List.flatMap_append, List.take_append_drop]
    simp only
    rw [h2, List.length_append, List.length_append]
    refine Nat.add_le_add_left ?_ _
    cases hc : (gs[i])[j]? with
    | none => simp
    | some c =>
      obtain ⟨hj, rfl⟩ := List.getElem?_eq_some_iff.1 hc
      rw [List.drop_eq_getElem_cons hj]
      simp only [gtexts, List.flatMap_cons, List.length_append, List.length_map, List.length_take]
      omega
theorem Seen.reX {A sb X X' : Nat} {ch pl : List ByteArray} {vch vm va vp : Value} {bad : Bool} {ms ats : List Value} {W : World} (h : Seen A sb X ch pl vch vm va vp bad ms ats W) (hX : W.heap.size ≤ X') : Seen A sb X' ch pl vch vm va vp bad ms ats W :=
  { h with
    x1 := fun e => by have := (h.rch.lt _ e).2; omega
    x2 := fun e => by have := (h.rm.lt _ e).2; omega
    x3 := fun e => by have := (h.ra.lt _ e).2; omega
    x4 := fun e => by have := (h.rp.lt _ e).2; omega }

theorem strrow_cell {W : World} {A g n c : Nat} {ss : List ByteArray} (h : W.ownsRow A 9 1 (.slice (some ⟨g, 0, none⟩) n c) n (strVals ss)) (k : Nat) (hk : k < ss.length) : W.cell? ⟨g, k, none⟩ = some (.string ss[k]) := by
  obtain ⟨a', c', he, _, hcell⟩ := owns_cells (by omega) h
  injection he with e1 e2 e3
  have hl := h.1
  rcases hcell with h0 | ⟨g', hg', _, _, hc⟩
  · rw [h0] at hl; simp [strVals] at hl; subst hl; simp at hk
  · rw [hg'] at e1
    have e4 : g = g' := by injection e1 with e1; injection e1
    subst e4
    have := hc k (by simp [strVals]; exact hk)
    rw [Nat.zero_add] at this
    rw [this]; simp [strVals]
/-- What the loops of look keep: what was seen, and the row of the lists. -/
structure Lk (U : List UInt8 → Int × Int) (n0 xb : Nat) (gs : List (List Clause)) (pl : List ByteArray) (w w2 : World) (i j l : Nat) (W : World) : Prop where
  seen : SeenAt U (n0 + 1) n0 xb (chFold [] (seenTo gs i j l)) pl W
  below : Below n0 w W
  row : W.heap[xb]? = w2.heap[xb]?
  lt : xb < W.heap.size
set_option maxRecDepth 10000 in
set_option maxHeartbeats 4000000 in
theorem look_any (B : Nat) (u : World) (d : List Clause) (U : List UInt8 → Int × Int) (hd : csize d ≤ 900) (hN : (alltexts (groupsL d)).length ≤ 5000) (hU : AgreeOk d U) (a : Option Addr) (cap : Nat) (hdl : d.length ≤ 9223372036854775807)
    (hsrc : d.length = 0 ∨ ∃ b off, a = some ⟨b, off, none⟩ ∧ b < B ∧ ClausesAt B u b off d) (w : World) (hu : KeptC B u w) (hB : B ≤ w.heap.size) :
    Calls Tryz.prog 70 #[.slice a d.length cap] w fun e w' => ∃ X, e = .returned (.tuple #[.pointer (some ⟨w.heap.size, 0, none⟩), .bool true]) ∧ SeenAt U (w.heap.size + 1) w.heap.size X (channelsL d) (placesL d) w' ∧ Below w.heap.size w w' := by
  obtain ⟨hU1, hU2, hU3⟩ := hU
  obtain ⟨W0, hW0⟩ : ∃ W0, W0 = w.alloc (.cells #[.slice none 0 0, .slice none 0 0, .slice none 0 0, .slice none 0 0, .bool false] 95) := ⟨_, rfl⟩
  have hb0 : Below w.heap.size w W0 := by rw [hW0]; exact (Below.refl _ w).alloc (Nat.le_refl _) _
  have hz : W0.heap.size = w.heap.size + 1 := by rw [hW0]; simp
  have hS0 : SeenAt U (w.heap.size + 1) w.heap.size w.heap.size [] [] W0 := by
    refine ⟨.slice none 0 0, .slice none 0 0, .slice none 0 0, .slice none 0 0, ?_⟩
    exact { box := (by rw [hW0]; exact World.alloc_heap_new w _), low := Nat.lt_succ_self _, rch := World.ownsRow_nil _ _ _ _, rm := World.ownsRow_nil _ _ _ _, ra := World.ownsRow_nil _ _ _ _, rp := World.ownsRow_nil _ _ _ _,
            zch := (by simp), zp := (by simp), im := fun v hv => (by simp [manyL] at hv), ia := fun v hv => (by simp [atL] at hv),
            s1 := fun g hg => (by cases hg), s2 := fun g hg => (by cases hg), s3 := fun g hg => (by cases hg), s4 := fun g hg => (by cases hg), s5 := fun g hg => (by cases hg), s6 := fun g hg => (by cases hg), x1 := (by simp [Value.ownBlock]), x2 := (by simp [Value.ownBlock]), x3 := (by simp [Value.ownBlock]), x4 := (by simp [Value.ownBlock]) }
  have hpl := placesL_len d
  have hnm := name_any B u U (w.heap.size + 1) w.heap.size w.heap.size hB [] 900 d hd (Nat.le_refl _) a cap W0 [] (hu.trans ((Below.keptC hb0).mono hB)) hS0 (by omega) (by omega) (by unfold csize at hd; simp; omega) (by simpa using hU3) hsrc
  have HW := Lib.hid hW0
  have HZ := Lib.hid hz
  clear hW0 hz hS0
  go_enter Tryz.func70, Tryz.ntmps70
  go_wp2_with (go_at_call 122; rw [← HW.out]; refine hnm.mono ?_; clear hnm; rintro e w1 ⟨rfl, hs1, hb1⟩)
  have hbw1 : Below w.heap.size w w1 := hb0.trans hb1
  have hsp := spots_all B u d hd a cap hdl hsrc w1 (hu.trans ((Below.keptC hbw1).mono hB)) (by have := hbw1.size; omega)
  go_wp2_with (go_at_call 123; refine hsp.mono ?_; clear hsp; rintro e w2 ⟨r, vals, rfl, ho2, hg2, hb2⟩; obtain ⟨ra, rc, rfl, _, hrcell⟩ := owns_cells (by omega) ho2)
  obtain ⟨gs, hgs⟩ : ∃ gs, gs = groupsL d := ⟨_, rfl⟩
  rw [← hgs] at hg2 hU1 hU2 hN
  have hvl := hg2.1
  have hg1 : 1 ≤ gs.length := by rw [hgs]; simp [groupsL]
  obtain ⟨xb, rfl, hxb, hxA, hxc⟩ := hrcell.resolve_left (by omega)
  have hzz := HZ.out
  have hz1 := hb1.size
  have hz2 := hb2.size
  have L0 : Lk U w.heap.size xb gs (placesL d) w w2 0 0 0 w2 := by
    obtain ⟨x1, x2, x3, x4, hS⟩ := hs1
    rw [List.nil_append] at hS
    refine ⟨⟨x1, x2, x3, x4, ?_⟩, hbw1.trans (hb2.mono (by omega)), rfl, hxb⟩
    rw [seenTo_zero]
    exact (hS.reX hxA).later hb2
  have hrowc : ∀ (W : World) (i : Nat), W.heap[xb]? = w2.heap[xb]? → (h : i < vals.length) → W.cell? ⟨xb, i, none⟩ = some (vals[i]'h) := fun W i hW h => by
    have := hxc i h
    rw [Nat.zero_add] at this
    exact (World.cell?_of_block (w := w2) hW).trans this
  have HGS := Lib.hid hgs
  have HVL := Lib.hid hvl
  have hxs : w.heap.size ≠ xb := by omega
  obtain ⟨nv, hnv⟩ : ∃ n, n = vals.length := ⟨_, rfl⟩
  have HNV := Lib.hid hnv
  rw [← hnv]
  clear hgs hvl hs1 hb1 hb2 ho2 hxc hrcell hb0 hnv hbw1
  go_wp2_with fail
  go_loopw [6] (fun i wr => ∃ (k : Nat), k ≤ nv ∧ i = .int .i64 k ∧ Lk U w.heap.size xb gs (placesL d) w w2 k 0 0 wr) (fun i _ => nv - (intOf i).toNat)
  case atStart => exact ⟨0, by omega, rfl, L0⟩
  case round =>
    obtain ⟨k, hk, rfl, hL⟩ := hrel
    by_cases hlt : k < nv
    · have hkv : k < vals.length := by have := HNV.out; omega
      have hkg : k < gs.length := by have := HVL.out; omega
      obtain ⟨ga, gc, hvk, hgl, hgsrc⟩ := hg2.2 k hkv hkg
      have hck : ∀ (W : World), W.heap[xb]? = w2.heap[xb]? → W.cell? ⟨xb, k, none⟩ = some (.slice ga (gs[k]).length gc) := fun W hW => by rw [hrowc W k hW hkv, hvk]
      have hUk := hU1 k hkg
      have hmsg := @seenTo_msg gs k
      have hdef := @seenTo_def gs k
      have hlist := Lib.hid (seenTo_list hkg)
      have hUk' := Lib.hid hUk
      have hmsg' := Lib.hid (fun j l hj hl => hmsg (j := j) (l := l) hkg hj hl)
      have hdef' := Lib.hid (fun j hj => hdef (j := j) hkg hj)
      clear hUk hmsg hdef hvk
      obtain ⟨g, hg⟩ : ∃ g, g = gs[k] := ⟨_, rfl⟩
      rw [← hg] at hck hgsrc hUk' hmsg' hdef' hlist hgl
      obtain ⟨ng, hng⟩ : ∃ n, n = g.length := ⟨_, rfl⟩
      have HNG := Lib.hid hng
      rw [← hng] at hck hgl
      have c0 := hck wr hL.row
      clear hg hng
      go_wp2_with fail
      obtain ⟨wo, hwo⟩ : ∃ wo : World, wo = wr := ⟨_, rfl⟩
      subst hwo
      go_loopw [7] (fun i wr => ∃ (j : Nat), j ≤ ng ∧ i = .int .i64 j ∧ Lk U w.heap.size xb gs (placesL d) w w2 k j 0 wr) (fun i _ => ng - (intOf i).toNat)
      case atStart => exact ⟨0, by omega, rfl, hL⟩
      case round =>
        obtain ⟨j, hj, rfl, hLj⟩ := hrel
        have c1 := hck wr hLj.row
        by_cases hltj : j < ng
        · have hjg : j < g.length := by have := HNG.out; omega
          rcases hgsrc with h0 | ⟨gb, goff, rfl, hgB, hgcs⟩
          · omega
          have hku : ∀ W, Below w.heap.size w W → KeptC B u W := fun W h => hu.trans ((Below.keptC h).mono hB)
          obtain ⟨cs, hcell, hat⟩ := ClausesAt.get g gb goff hgcs j hjg
          obtain ⟨c, hc⟩ : ∃ c, c = g[j] := ⟨_, rfl⟩
          have hmj := Lib.hid (fun l hl => hmsg'.out j l hjg hl)
          have hdj := hdef'.out j hjg
          have hUj := Lib.hid (fun (m : Msg) (hm : m ∈ (g[j]).joins) => hUk'.out g[j] (List.getElem_mem hjg) m hm)
          rw [← hc] at hat hmj hdj hUj
          have hDJ := Lib.hid hdj
          obtain ⟨cf, ctx, cj, cd, ck⟩ := c
          obtain ⟨_, _, _, _, rfl, ⟨ja, jc, rfl, hjl, hjsrc⟩, ⟨da, dc, rfl, _⟩, ⟨ka, kc, rfl, _⟩⟩ := hat
          obtain ⟨nj, hnj⟩ : ∃ n, n = cj.length := ⟨_, rfl⟩
          rw [← hnj] at hcell
          have HNJ := Lib.hid hnj
          have hcj : ∀ W, Below w.heap.size w W → W.cell? ⟨gb, goff + j * 5 + 2, none⟩ = some (.slice ja nj jc) := fun W h => (cells5 (hcell.keep (hku W h) hgB)).2.2.1
          have c2 := hcj wr hLj.below
          clear hgcs hcell hdj hc hnj
          go_wp2_with fail
          obtain ⟨wj, hwj⟩ : ∃ wj : World, wj = wr := ⟨_, rfl⟩
          subst hwj
          go_loopw [8] (fun i wr => ∃ (l : Nat), l ≤ nj ∧ i = .int .i64 l ∧ Lk U w.heap.size xb gs (placesL d) w w2 k j l wr) (fun i _ => nj - (intOf i).toNat)
          case atStart => exact ⟨0, by omega, rfl, hLj⟩
          case round =>
            obtain ⟨l, hl, rfl, hLl⟩ := hrel
            have c1 := hck wr hLl.row
            have c2 := hcj wr hLl.below
            by_cases hltl : l < nj
            · have hlj : l < cj.length := by have := HNJ.out; omega
              rcases hjsrc with h0 | ⟨jb, joff, rfl, hjB, hjcs⟩
              · omega
              obtain ⟨ms, hmcell, hmz, mv, rfl, hmn⟩ := MsgsAt.get cj jb joff hjcs l hlj
              obtain ⟨ma, mc, rfl, _⟩ := hmn
              obtain ⟨m0, m1⟩ := cells2 (hmcell.keep (hku wr hLl.below) hjB)
              have hUl := hUj.out cj[l] (List.getElem_mem hlj)
              have hml := hmj.out l hlj
              have hsl := seenTo_le (gs := gs) k j l
              have hfl := chFold_len [] (seenTo gs k j l)
              have hjn := join_any U (w.heap.size + 1) w.heap.size xb (chFold [] (seenTo gs k j l)) (placesL d) (cj[l]).text hmz ma (cj[l]).names.length mc (k : Int) hUl wr hLl.seen hLl.lt hxs (by have := hLl.lt; omega) (by simp at hfl; omega)
              have e2 : chStep (chFold [] (seenTo gs k j l)) (cj[l]).text = chFold [] (seenTo gs k j (l + 1)) := by rw [hml, chFold_append]; rfl
              rw [e2] at hjn
              obtain ⟨tx, htx⟩ : ∃ x, x = (cj[l]).text := ⟨_, rfl⟩
              obtain ⟨nn, hnn⟩ : ∃ x, x = (cj[l]).names.length := ⟨_, rfl⟩
              rw [← htx] at hjn m0
              rw [← hnn] at hjn m1
              clear hmcell hjcs hml hUl e2 htx hnn hsl hfl
              go_wp2_with (go_at_call 124; refine hjn.mono ?_; clear hjn; rintro e w6 ⟨rfl, hse, hbe, hxe⟩)
              go_roundw
              case rel => exact ⟨l + 1, by omega, by go_num, ⟨hse, hLl.below.trans hbe, hxe.trans hLl.row, Nat.lt_of_lt_of_le hLl.lt hbe.size⟩⟩
              case measure => simp [intOf]; omega
            · obtain rfl : l = nj := by omega
              go_wp2_with fail
              go_roundw
              case rel => exact ⟨j + 1, by omega, by go_num, by have h1 := hDJ.out; have h2 := HNJ.out; have h3 : (Clause.joins (.mk cf ctx cj cd ck)).length = l := (by rw [h2]; rfl); exact ⟨by rw [h1, h3]; exact hLl.seen, hLl.below, hLl.row, hLl.lt⟩⟩
              case measure => simp [intOf]; omega
        · obtain rfl : j = ng := by omega
          go_wp2_with fail
          go_roundw
          case rel => exact ⟨k + 1, by omega, by go_num, by have h1 := hlist.out; have h2 := HNG.out; exact ⟨by rw [h1, ← h2]; exact hLj.seen, hLj.below, hLj.row, hLj.lt⟩⟩
          case measure => simp [intOf]; omega
    · obtain rfl : k = nv := by omega
      have hkl : k = gs.length := by have := HVL.out; have := HNV.out; omega
      obtain ⟨hse, hbl, _, _⟩ := hL
      rw [hkl, seenTo_all] at hse
      have hch : ∀ x ∈ chFold [] (alltexts gs), x ∈ alltexts gs := fun x hx => by
        rcases chFold_sub _ _ _ hx with h | h
        · simp at h
        · exact h
      have hcl := chFold_len [] (alltexts gs)
      obtain ⟨CH, hCH⟩ : ∃ CH, CH = chFold [] (alltexts gs) := ⟨_, rfl⟩
      rw [← hCH] at hse hch hcl
      have HCH := Lib.hid hCH
      obtain ⟨PL, hPL⟩ : ∃ PL, PL = placesL d := ⟨_, rfl⟩
      have HPL := Lib.hid hPL
      rw [← hPL] at hse hU2
      have hno : ∀ x ∈ CH, hasB PL x = false := fun x hx => by
        cases hh : hasB PL x with
        | false => rfl
        | true =>
          obtain ⟨p, hp, he⟩ := List.mem_map.1 (hasB_mem hh)
          have h1 := hU2 p hp
          have h2 : inSet ((alltexts gs).map bytesOf) (bytesOf p) = true := by
            unfold inSet
            exact List.any_eq_true.2 ⟨bytesOf x, List.mem_map.2 ⟨x, hch x hx, rfl⟩, by rw [he]; simp⟩
          rw [h1] at h2; cases h2
      obtain ⟨vch, vm, va, vp, hS⟩ := hse
      obtain ⟨ca, cc, rfl, _, hcc⟩ := owns_cells (by omega) hS.rch
      obtain ⟨pa, pc, rfl, _, _⟩ := owns_cells (by omega) hS.rp
      have hcz : CH.length ≤ 5000 := by simp at hcl; omega
      obtain ⟨wo, hwo⟩ : ∃ wo : World, wo = wr := ⟨_, rfl⟩
      subst hwo
      have HNO := Lib.hid hno
      clear hCH hPL hkl hch hcl hU2 hU1 hrowc hno L0 hg2
      go_wp2_with fail
      go_loopw [9] (fun i wr => ∃ (k : Nat), k ≤ CH.length ∧ i = .int .i64 k ∧ Seen (w.heap.size + 1) w.heap.size xb CH PL (.slice ca CH.length cc) vm va (.slice pa PL.length pc) false (manyL U CH) (atL U CH) wr ∧ Below w.heap.size w wr) (fun i _ => CH.length - (intOf i).toNat)
      case atStart => exact ⟨0, by omega, rfl, hS, hbl⟩
      case round =>
        obtain ⟨q, hq, rfl, hSr, hbr⟩ := hrel
        obtain ⟨e0, e1, e2, e3, e4, ef⟩ := hSr.cells
        by_cases hltq : q < CH.length
        · obtain ⟨cg, rfl, _⟩ := hcc.resolve_left (by omega)
          have hSd := hSr.later (Below.refl wr.heap.size wr).drew
          obtain ⟨f0, _, _, f3, f4, ff⟩ := hSd.cells
          have f5 := strrow_cell hSd.rch q hltq
          have hS1 := (hSr.setBad false).later (Below.refl (wr.setCell ⟨w.heap.size, 4, none⟩ (.bool false)).heap.size _).drew
          obtain ⟨g0, _, _, g3, g4, _⟩ := hS1.cells
          have g5 := strrow_cell hS1.rch q hltq
          have hxz := hSr.zch _ (List.getElem_mem hltq)
          have hhas := has_any _ (.slice pa PL.length pc) PL CH[q] wr.drew (strs_row hSd.rp hSd.zp)
          rw [HNO.out _ (List.getElem_mem hltq)] at hhas
          obtain ⟨x, hx⟩ : ∃ x, x = CH[q] := ⟨_, rfl⟩
          rw [← hx] at f5 g5 hhas
          have HS1 := Lib.hid hS1
          have HB1 := Lib.hid ((hbr.setCell (show w.heap.size ≤ (⟨w.heap.size, 4, none⟩ : Addr).block from Nat.le_refl _) (.bool false)).drew)
          clear hSd hS1 hx hxz hS hSr hcc
          go_wp2_with fail
          go_region_held3 (fun w' => w'.cell? ⟨w.heap.size, 4, none⟩ = some (.bool false) ∧ w'.cell? ⟨w.heap.size, 3, none⟩ = some (.slice pa PL.length pc) ∧ w'.cell? ⟨w.heap.size, 0, none⟩ = some (.slice (some ⟨cg, 0, none⟩) CH.length cc) ∧ w'.cell? ⟨cg, q, none⟩ = some (.string x)) (go_keep)
            (first
            | (go_at_call 36; refine hhas.mono ?_; rintro e' w2 ⟨rfl, rfl⟩))
          go_wp2_with fail
          go_roundw
          case rel => exact ⟨q + 1, by omega, by go_num, HS1.out, HB1.out⟩
          case measure => simp [intOf]; omega
        · obtain rfl : q = CH.length := by omega
          go_wp2_with fail
          go_quiet (fail)
          have hSF := hSr.later (below_drewN (Below.refl wr.heap.size wr) nq)
          have hBF := below_drewN hbr nq
          go_wp2
          go_ret2
          have e1 : channelsL d = CH := by rw [HCH.out, HGS.out]; rfl
          refine ⟨xb, rfl, ?_, hBF⟩
          rw [e1, ← HPL.out]
          exact ⟨_, _, _, _, hSF⟩

end Go.Proofs.YtjmlaeofjjhfmaaGreat
/- The reference's Bound. -/
namespace Go.Proofs.YtjmlaeofjjhfmaaGreat
open Go.RowKit Go.Shelf Go.Maps

set_option maxRecDepth 10000 in
set_option maxHeartbeats 4000000 in
theorem bound_any (B : Nat) (u : World) (d : List Clause) (hok : DefsOk d) (hN : (alltexts (groupsL d)).length ≤ 5000) (a : Option Addr) (cap : Nat) (hdl : d.length ≤ 9223372036854775807)
    (hsrc : d.length = 0 ∨ ∃ b off, a = some ⟨b, off, none⟩ ∧ b < B ∧ ClausesAt B u b off d) (w : World) (hu : KeptC B u w) (hB : B ≤ w.heap.size) :
    Calls Tryz.prog 52 #[.slice a d.length cap] w fun e w' => ∃ v, e = .returned v ∧ StrsAt w'.heap.size w' v (channelsL d ++ placesL d) ∧ Below w.heap.size w w' := by
  obtain ⟨U, hds, _, hU⟩ := hok
  have hl := look_any B u d U hds hN hU a cap hdl hsrc w hu hB
  have hcl := chFold_len [] (alltexts (groupsL d))
  have hpl := placesL_len d
  obtain ⟨CH, hCH⟩ : ∃ CH, CH = channelsL d := ⟨_, rfl⟩
  obtain ⟨PL, hPL⟩ : ∃ PL, PL = placesL d := ⟨_, rfl⟩
  rw [← hCH, ← hPL] at hl ⊢
  have hc5 : CH.length ≤ 5000 := by rw [hCH]; unfold channelsL; simp at hcl; omega
  have hp5 : PL.length ≤ 5000 := by rw [hPL]; unfold csize at hds; omega
  clear hCH hPL hcl hpl
  go_enter Tryz.func52, Tryz.ntmps52
  go_wp2_with (go_at_call 70; refine hl.mono ?_; clear hl; rintro e w1 ⟨X, rfl, ⟨vch, vm, va, vp, hS⟩, hb1⟩)
  obtain ⟨ca, cc, rfl, _⟩ := owns_cells (by omega) hS.rch
  obtain ⟨pa, pc, rfl, _⟩ := owns_cells (by omega) hS.rp
  have bA : Below w1.heap.size w1 ((w1.alloc (.cells #[] 9)).drew) := ((Below.refl _ w1).alloc (Nat.le_refl _) _).drew
  have hSA := hS.later bA
  have zA : ((w1.alloc (.cells #[] 9)).drew).heap.size = w1.heap.size + 1 := by simp
  have hown : ((w1.alloc (.cells #[] 9)).drew).ownsRow w1.heap.size 9 1 (.slice (some ⟨w1.heap.size, 0, none⟩) 0 0) ([] : List ByteArray).length (strVals []) :=
    ⟨rfl, .inr ⟨w1.heap.size, 0, #[], rfl, Nat.le_refl _, World.alloc_heap_new w1 _, Nat.le_refl _, by unfold maxLen; omega, rfl, rfl⟩⟩
  obtain ⟨v1, w2, hr1, ho1, hz1, hg1⟩ := strs_joined 22 hown (strs_row hSA.rch hSA.zch) (by rw [zA]; omega) (by simp) (by omega) (by simp)
  rw [List.nil_append] at ho1 hz1
  obtain ⟨x1, c1, rfl, _⟩ := owns_cells (by omega) ho1
  have hbx : ∀ b, b < w1.heap.size → w2.heap[b]? = ((w1.alloc (.cells #[] 9)).drew).heap[b]? := fun b hb => hg1.block b (by rw [zA]; omega) (fun e => by
    have := Option.some.inj e; simp only at this; omega)
  have hltS := hS.lt
  have hbA2 : Below w1.heap.size w1 w2 := bA.grown hg1 (by rw [zA]; omega) (fun r e => by have := Option.some.inj e; simp only at this; omega)
  have hS2 := hS.later hbA2
  have hz2 := hg1.size
  rw [zA] at hz2
  obtain ⟨v2, w3, hr2, ho2, hz3, hg2⟩ := strs_joined 22 ho1 (strs_row hS2.rp hS2.zp) (by omega) (by omega) (by omega) hz1
  obtain ⟨x2, c2, rfl, _⟩ := owns_cells (by omega) ho2
  have hfin := strs_of_owns ho2 hz3
  have hbF : Below w.heap.size w w3 := (hb1.trans (hbA2.mono hb1.size)).grown hg2 (by have := hb1.size; omega) (fun r e => by have := (ho1.lt r e).1; have := hb1.size; omega)
  obtain ⟨d0, _, _, d3, _, _⟩ := (hS.later (Below.refl w1.heap.size w1).drew).cells
  obtain ⟨e0, _, _, e3, _, _⟩ := hSA.cells
  obtain ⟨_, _, _, f3, _, _⟩ := hS2.cells
  rw [List.length_append] at hfin
  have FIN := Lib.hid (And.intro hfin hbF)
  have f0 := hS2.cells.1
  have hS3 : w3.heap[w.heap.size]? = w2.heap[w.heap.size]? := hg2.block _ (by omega) (fun e => by have := (ho1.lt _ e.symm).1; omega)
  clear hfin hbF ho1 ho2 hz1 hz3 hg1 hg2 hS hSA hS2 bA hbA2 hbx hown zA hS3
  go_wp2
  go_region_law (first
    | (refine step_append_eq rfl (.tmp 10) (.tmp 14) 22 22 rfl rfl rfl hr1 ?_)
    | (refine step_append_eq rfl (.tmp 15) (.tmp 19) 22 22 rfl rfl rfl hr2 ?_))
  all_goals
    go_wp2
    go_ret
    exact ⟨_, rfl, FIN.out.1, FIN.out.2⟩

end Go.Proofs.YtjmlaeofjjhfmaaGreat
