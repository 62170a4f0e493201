/- look of the reference, whatever comes in. -/
import Derived.Test.YtjmlaeofjjhfmaaGreatC29
import Derived.Test.YtjmlaeofjjhfmaaGreatC48
import Derived.Test.YtjmlaeofjjhfmaaGreatC41
import Derived.Test.YtjmlaeofjjhfmaaGreatC36
set_option linter.unusedVariables false
set_option linter.unusedSimpArgs false
namespace Go.Proofs.YtjmlaeofjjhfmaaGreat
open Go.RowKit Go.Shelf Go.Maps

structure LkB (U : List UInt8 → Int × Int) (n0 xb : Nat) (gs : List (List Clause)) (pl : List ByteArray) (w w2 : World) (i j l : Nat) (bad : Bool) (W : World) : Prop where
  seen : SeenB U (n0 + 1) n0 xb (chFold [] (seenTo gs i j l)) pl bad W
  below : Below n0 w W
  row : W.heap[xb]? = w2.heap[xb]?
  lt : xb < W.heap.size
theorem seen_eq {gs : List (List Clause)} {i j l : Nat} (hi : i < gs.length) (hj : j < (gs[i]).length) (_ : l < ((gs[i])[j]).joins.length) : seenTo gs i j l = alltexts (gs.take i) ++ gtexts ((gs[i]).take j) ++ (((gs[i])[j]).joins.take l).map (·.text) := by
  unfold seenTo
  simp only [List.getElem?_eq_getElem hi, List.getElem?_eq_getElem hj, List.append_assoc]
theorem chFold_in : ∀ (xs l : List ByteArray) (k : List UInt8), inSet ((chFold l xs).map bytesOf) k = (inSet (l.map bytesOf) k || inSet (xs.map bytesOf) k)
  | [], l, k => by simp [chFold, inSet]
  | y :: xs, l, k => by
    have e : chFold l (y :: xs) = chFold (chStep l y) xs := by simp [chFold]
    have e2 : inSet ((y :: xs).map bytesOf) k = ((bytesOf y == k) || inSet (xs.map bytesOf) k) := by simp [inSet]
    rw [e, chFold_in xs, e2, ← Bool.or_assoc]
    congr 1
    unfold chStep
    split
    · rename_i h
      by_cases hy : bytesOf y = k
      · subst hy; rw [h]; simp
      · have : (bytesOf y == k) = false := by simpa using hy
        rw [this, Bool.or_false]
    · simp [inSet, List.map_append, List.any_append]
theorem dup_iff : ∀ (l pl : List ByteArray), (pl.map bytesOf).Nodup → (dupB pl l = false ↔ ((pl ++ l).map bytesOf).Nodup)
  | [], pl, h => by simp [dupB, h]
  | x :: l, pl, h => by
    have e : pl ++ x :: l = (pl ++ [x]) ++ l := by simp
    rw [dupB, Bool.or_eq_false_iff, e]
    have hx : hasB pl x = false ↔ ((pl ++ [x]).map bytesOf).Nodup := by
      rw [hasB_in, List.map_append, List.nodup_append]
      simp only [inSet, List.any_eq_false, beq_iff_eq]
      constructor
      · intro h2
        refine ⟨h, by simp, fun y hy z hz => ?_⟩
        simp at hz; subst hz; exact h2 y hy
      · rintro ⟨_, _, h2⟩ y hy
        exact h2 y hy _ (by simp)
    constructor
    · rintro ⟨h1, h2⟩
      exact (dup_iff l (pl ++ [x]) (hx.1 h1)).1 h2
    · intro h2
      have h3 : ((pl ++ [x]).map bytesOf).Nodup := by
        rw [List.map_append] at h2; exact (List.nodup_append.1 h2).1
      exact ⟨hx.2 h3, (dup_iff l (pl ++ [x]) h3).2 h2⟩
theorem dup_bad {d : List Clause} : dupB [] (placesL d) = true → agreeB d = false := by
  intro h
  have : ¬ ((placesL d).map bytesOf).Nodup := fun hn => by
    have := (dup_iff (placesL d) [] (by simp)).2 (by simpa using hn)
    rw [h] at this; cases this
  unfold agreeB
  rw [decide_eq_false this]; simp
theorem dup_good {d : List Clause} : dupB [] (placesL d) = false → ((placesL d).map bytesOf).Nodup := fun h => by
  simpa using (dup_iff (placesL d) [] (by simp)).1 h
theorem places_bad {d : List Clause} {CH : List ByteArray} (hc : CH = chFold [] (alltexts (groupsL d))) : ∀ x ∈ CH, hasB (placesL d) x = true → agreeB d = false := by
  intro x hx hh
  rw [hasB_in] at hh
  obtain ⟨y, hy, he⟩ := List.any_eq_true.1 hh
  obtain ⟨p, hp, rfl⟩ := List.mem_map.1 hy
  have h1 : inSet ((alltexts (groupsL d)).map bytesOf) (bytesOf p) = true := by
    have h2 : inSet (CH.map bytesOf) (bytesOf p) = true := List.any_eq_true.2 ⟨bytesOf x, List.mem_map.2 ⟨x, hx, rfl⟩, by simp at he; simp [he]⟩
    rw [hc, chFold_in] at h2
    simpa [inSet] using h2
  have : (placesL d).all (fun p => !inSet ((alltexts (groupsL d)).map bytesOf) (bytesOf p)) = false := by
    rw [List.all_eq_false]; exact ⟨p, hp, by rw [h1]; simp⟩
  unfold agreeB; rw [this]; simp
theorem places_fin {d : List Clause} {CH : List ByteArray} (hc : CH = chFold [] (alltexts (groupsL d))) : ((placesL d).map bytesOf).Nodup → (∀ x ∈ CH, hasB (placesL d) x = false) → placesOk d (placesL d).length := by
  intro h1 h2
  refine ⟨fun p hp => ?_, by rw [List.take_length]; exact h1⟩
  rw [List.take_length] at hp
  cases hh : inSet ((alltexts (groupsL d)).map bytesOf) (bytesOf p) with
  | false => rfl
  | true =>
    have h3 : inSet (CH.map bytesOf) (bytesOf p) = true := by rw [hc, chFold_in, hh]; simp
    obtain ⟨y, hy, he⟩ := List.any_eq_true.1 h3
    obtain ⟨x, hx, rfl⟩ := List.mem_map.1 hy
    have h4 := h2 x hx
    rw [hasB_in] at h4
    have h5 : inSet ((placesL d).map bytesOf) (bytesOf x) = true := List.any_eq_true.2 ⟨bytesOf p, List.mem_map.2 ⟨p, hp, rfl⟩, by simp at he; simp [he]⟩
    rw [h4] at h5; cases h5
theorem take_has {PL CH : List ByteArray} {q : Nat} (h : q < CH.length) : hasB PL CH[q] = false → (∀ x ∈ CH.take q, hasB PL x = false) → ∀ x ∈ CH.take (q + 1), hasB PL x = false := by
  intro h1 h2 x hx
  rw [List.take_succ_eq_append_getElem h, List.mem_append] at hx
  rcases hx with hx | hx
  · exact h2 x hx
  · simp at hx; subst hx; exact h1

set_option maxRecDepth 10000 in
set_option maxHeartbeats 40000000 in
theorem look_anyB (B : Nat) (u : World) (d : List Clause) (hd : csize d ≤ 900) (hN : (alltexts (groupsL d)).length ≤ 5000) (a : Option Addr) (cap : Nat) (hdl : d.length ≤ 9223372036854775807)
    (hsrc : d.length = 0 ∨ ∃ b off, a = some ⟨b, off, none⟩ ∧ b < B ∧ ClausesAt B u b off d) (w : World) (hu : KeptC B u w) (hB : B ≤ w.heap.size) :
    Calls Tryz.prog 70 #[.slice a d.length cap] w fun e w' => ∃ X, e = .returned (.tuple #[.pointer (some ⟨w.heap.size, 0, none⟩), .bool (agreeB d)]) ∧ SeenB (useOf (uses (groupsL d))) (w.heap.size + 1) w.heap.size X (channelsL d) (placesL d) (!agreeB d) w' ∧ Below w.heap.size w w' := by
  obtain ⟨U, hUe⟩ : ∃ U, U = useOf (uses (groupsL d)) := ⟨_, rfl⟩
  have hent := fun k1 h1 k2 h2 k3 h3 => ent_of (groupsL d) k1 h1 k2 h2 k3 h3
  have hbad := @agreeB_use d
  have hall := @agreeB_all d
  rw [← hUe] at hent hbad hall ⊢
  have HBAD := Lib.hid hbad; have HALL := Lib.hid hall; have HENT := Lib.hid hent
  clear hbad hall hent hUe
  obtain ⟨W0, hW0⟩ : ∃ W0, W0 = w.alloc (.cells #[.slice none 0 0, .slice none 0 0, .slice none 0 0, .slice none 0 0, .bool false] 95) := ⟨_, rfl⟩
  have hb0 : Below w.heap.size w W0 := by rw [hW0]; exact (Below.refl _ w).alloc (Nat.le_refl _) _
  have hz : W0.heap.size = w.heap.size + 1 := by rw [hW0]; simp
  have hS0 : SeenB U (w.heap.size + 1) w.heap.size w.heap.size [] [] false W0 := by
    refine ⟨.slice none 0 0, .slice none 0 0, .slice none 0 0, .slice none 0 0, ?_⟩
    exact { box := (by rw [hW0]; exact World.alloc_heap_new w _), low := Nat.lt_succ_self _, rch := World.ownsRow_nil _ _ _ _, rm := World.ownsRow_nil _ _ _ _, ra := World.ownsRow_nil _ _ _ _, rp := World.ownsRow_nil _ _ _ _,
            zch := (by simp), zp := (by simp), im := fun v hv => (by simp [manyL] at hv), ia := fun v hv => (by simp [atL] at hv),
            s1 := fun g hg => (by cases hg), s2 := fun g hg => (by cases hg), s3 := fun g hg => (by cases hg), s4 := fun g hg => (by cases hg), s5 := fun g hg => (by cases hg), s6 := fun g hg => (by cases hg), x1 := (by simp [Value.ownBlock]), x2 := (by simp [Value.ownBlock]), x3 := (by simp [Value.ownBlock]), x4 := (by simp [Value.ownBlock]) }
  have hpl := placesL_len d
  have hnm := name_anyB B u U (w.heap.size + 1) w.heap.size w.heap.size hB [] 900 d hd (Nat.le_refl _) a cap W0 [] false (hu.trans ((Below.keptC hb0).mono hB)) hS0 (by omega) (by omega) (by unfold csize at hd; simp; omega) hsrc
  have HW := Lib.hid hW0
  have HZ := Lib.hid hz
  clear hW0 hz hS0
  go_enter Tryz.func70, Tryz.ntmps70
  go_wp2_with (go_at_call 122; rw [← HW.out]; refine hnm.mono ?_; clear hnm; rintro e w1 ⟨rfl, hs1, hb1⟩)
  have hbw1 : Below w.heap.size w w1 := hb0.trans hb1
  have hsp := spots_all B u d hd a cap hdl hsrc w1 (hu.trans ((Below.keptC hbw1).mono hB)) (by have := hbw1.size; omega)
  go_wp2_with (go_at_call 123; refine hsp.mono ?_; clear hsp; rintro e w2 ⟨r, vals, rfl, ho2, hg2, hb2⟩; obtain ⟨ra, rc, rfl, _, hrcell⟩ := owns_cells (by omega) ho2)
  obtain ⟨gs, hgs⟩ : ∃ gs, gs = groupsL d := ⟨_, rfl⟩
  have hent' := HENT.out; have hall' := HALL.out; have hbad' := HBAD.out
  rw [← hgs] at hg2 hN hent' hall' hbad'
  have HENT := Lib.hid hent'; have HALL := Lib.hid hall'; have HBAD := Lib.hid hbad'
  clear hent' hall' hbad'
  have hvl := hg2.1
  have hg1 : 1 ≤ gs.length := by rw [hgs]; simp [groupsL]
  obtain ⟨xb, rfl, hxb, hxA, hxc⟩ := hrcell.resolve_left (by omega)
  have hzz := HZ.out
  have hz1 := hb1.size
  have hz2 := hb2.size
  have L0 : LkB U w.heap.size xb gs (placesL d) w w2 0 0 0 (dupB [] (placesL d)) w2 := by
    obtain ⟨x1, x2, x3, x4, hS⟩ := hs1
    rw [List.nil_append, Bool.false_or] at hS
    refine ⟨⟨x1, x2, x3, x4, ?_⟩, hbw1.trans (hb2.mono (by omega)), rfl, hxb⟩
    rw [seenTo_zero]
    exact (hS.reX hxA).later hb2
  have hrowc : ∀ (W : World) (i : Nat), W.heap[xb]? = w2.heap[xb]? → (h : i < vals.length) → W.cell? ⟨xb, i, none⟩ = some (vals[i]'h) := fun W i hW h => by
    have := hxc i h
    rw [Nat.zero_add] at this
    exact (World.cell?_of_block (w := w2) hW).trans this
  have HGS := Lib.hid hgs
  have HVL := Lib.hid hvl
  have hxs : w.heap.size ≠ xb := by omega
  obtain ⟨nv, hnv⟩ : ∃ n, n = vals.length := ⟨_, rfl⟩
  have HNV := Lib.hid hnv
  rw [← hnv]
  clear hgs hvl hs1 hb1 hb2 ho2 hxc hrcell hb0 hnv hbw1
  go_wp2_with fail
  have hb1' := dup_bad (d := d)
  have hb2' := dup_good (d := d)
  obtain ⟨bd, hbd⟩ : ∃ bd, bd = dupB [] (placesL d) := ⟨_, rfl⟩
  rw [← hbd] at L0 hb1' hb2'
  have HB1 := Lib.hid hb1'; have HB2 := Lib.hid hb2'
  clear hb1' hb2' hbd
  go_loopw [6] (fun i wr => ∃ (k : Nat) (bad : Bool), k ≤ nv ∧ i = .int .i64 k ∧ LkB U w.heap.size xb gs (placesL d) w w2 k 0 0 bad wr ∧ Hid (bad = true → agreeB d = false) ∧ Hid (bad = false → upTo gs U k ∧ bd = false)) (fun i _ => nv - (intOf i).toNat)
  case atStart => exact ⟨0, bd, by omega, rfl, L0, HB1, Lib.hid (fun h => ⟨upTo_zero _ _, h⟩)⟩
  case round =>
    obtain ⟨k, bad, hk, rfl, hL, hbT, hbF⟩ := hrel
    by_cases hlt : k < nv
    · have hkv : k < vals.length := by have := HNV.out; omega
      have hkg : k < gs.length := by have := HVL.out; omega
      obtain ⟨ga, gc, hvk, hgl, hgsrc⟩ := hg2.2 k hkv hkg
      have hck : ∀ (W : World), W.heap[xb]? = w2.heap[xb]? → W.cell? ⟨xb, k, none⟩ = some (.slice ga (gs[k]).length gc) := fun W hW => by rw [hrowc W k hW hkv, hvk]
      have hE1 := HENT.out k hkg
      have hup1s := upTo_succ (gs := gs) (U := U) (k := k) hkg
      have hmsg := @seenTo_msg gs k
      have hdef := @seenTo_def gs k
      have hlist := Lib.hid (seenTo_list hkg)
      have hseen := fun j hj l hl => seen_eq (gs := gs) (i := k) (j := j) (l := l) hkg hj hl
      have hmsg' := Lib.hid (fun j l hj hl => hmsg (j := j) (l := l) hkg hj hl)
      have hdef' := Lib.hid (fun j hj => hdef (j := j) hkg hj)
      clear hmsg hdef hvk
      obtain ⟨g, hg⟩ : ∃ g, g = gs[k] := ⟨_, rfl⟩
      have hE1' : ∀ k2 (h2 : k2 < g.length) k3 (h3 : k3 < (g[k2]).joins.length), Ent gs U (seenTo gs k k2 k3) ((g[k2]).joins[k3]).text k ((g[k2]).joins[k3]).names.length := by subst hg; intro k2 h2 k3 h3; rw [hseen k2 h2 k3 h3]; exact hE1 k2 h2 k3 h3
      rw [← hg] at hck hgsrc hmsg' hdef' hlist hgl hup1s
      have HE1 := Lib.hid hE1'; have HUP1 := Lib.hid hup1s; clear hE1 hE1' hup1s hseen
      obtain ⟨ng, hng⟩ : ∃ n, n = g.length := ⟨_, rfl⟩
      have HNG := Lib.hid hng
      rw [← hng] at hck hgl
      have c0 := hck wr hL.row
      clear hg hng
      go_wp2_with fail
      obtain ⟨wo, hwo⟩ : ∃ wo : World, wo = wr := ⟨_, rfl⟩
      subst hwo
      go_loopw [7] (fun i wr => ∃ (j : Nat) (bad : Bool), j ≤ ng ∧ i = .int .i64 j ∧ LkB U w.heap.size xb gs (placesL d) w w2 k j 0 bad wr ∧ Hid (bad = true → agreeB d = false) ∧ Hid (bad = false → (upTo gs U k ∧ bd = false) ∧ upToG U k (g.take j))) (fun i _ => ng - (intOf i).toNat)
      case atStart => exact ⟨0, bad, by omega, rfl, hL, hbT, Lib.hid (fun h => ⟨hbF.out h, by intro c hc; simp at hc⟩)⟩
      case round =>
        obtain ⟨j, bad, hj, rfl, hLj, hbT, hbF⟩ := hrel
        have c1 := hck wr hLj.row
        by_cases hltj : j < ng
        · have hjg : j < g.length := by have := HNG.out; omega
          rcases hgsrc with h0 | ⟨gb, goff, rfl, hgB, hgcs⟩
          · omega
          have hku : ∀ W, Below w.heap.size w W → KeptC B u W := fun W h => hu.trans ((Below.keptC h).mono hB)
          obtain ⟨cs, hcell, hat⟩ := ClausesAt.get g gb goff hgcs j hjg
          obtain ⟨c, hc⟩ : ∃ c, c = g[j] := ⟨_, rfl⟩
          have hmj := Lib.hid (fun l hl => hmsg'.out j l hjg hl)
          have hdj := hdef'.out j hjg
          have hE2 := HE1.out j hjg
          have hup2s := upToG_succ (g := g) (U := U) (i := k) (k := j) hjg
          have hE2' : ∀ k3 (h3 : k3 < (c).joins.length), Ent gs U (seenTo gs k j k3) ((c).joins[k3]).text k ((c).joins[k3]).names.length := by subst hc; exact hE2
          rw [← hc] at hat hmj hdj hup2s
          have HE2 := Lib.hid hE2'; have HUP2 := Lib.hid hup2s; clear hE2 hE2' hup2s
          have hDJ := Lib.hid hdj
          obtain ⟨cf, ctx, cj, cd, ck⟩ := c
          obtain ⟨_, _, _, _, rfl, ⟨ja, jc, rfl, hjl, hjsrc⟩, ⟨da, dc, rfl, _⟩, ⟨ka, kc, rfl, _⟩⟩ := hat
          obtain ⟨nj, hnj⟩ : ∃ n, n = cj.length := ⟨_, rfl⟩
          rw [← hnj] at hcell
          have HNJ := Lib.hid hnj
          have hcj : ∀ W, Below w.heap.size w W → W.cell? ⟨gb, goff + j * 5 + 2, none⟩ = some (.slice ja nj jc) := fun W h => (cells5 (hcell.keep (hku W h) hgB)).2.2.1
          have c2 := hcj wr hLj.below
          clear hgcs hcell hdj hc hnj
          go_wp2_with fail
          obtain ⟨wj, hwj⟩ : ∃ wj : World, wj = wr := ⟨_, rfl⟩
          subst hwj
          go_loopw [8] (fun i wr => ∃ (l : Nat) (bad : Bool), l ≤ nj ∧ i = .int .i64 l ∧ LkB U w.heap.size xb gs (placesL d) w w2 k j l bad wr ∧ Hid (bad = true → agreeB d = false) ∧ Hid (bad = false → ((upTo gs U k ∧ bd = false) ∧ upToG U k (g.take j)) ∧ upToJ U k (cj.take l))) (fun i _ => nj - (intOf i).toNat)
          case atStart => exact ⟨0, bad, by omega, rfl, hLj, hbT, Lib.hid (fun h => ⟨hbF.out h, by intro c hc; simp at hc⟩)⟩
          case round =>
            obtain ⟨l, bad, hl, rfl, hLl, hbT, hbF⟩ := hrel
            have c1 := hck wr hLl.row
            have c2 := hcj wr hLl.below
            by_cases hltl : l < nj
            · have hlj : l < cj.length := by have := HNJ.out; omega
              rcases hjsrc with h0 | ⟨jb, joff, rfl, hjB, hjcs⟩
              · omega
              obtain ⟨ms, hmcell, hmz, mv, rfl, hmn⟩ := MsgsAt.get cj jb joff hjcs l hlj
              obtain ⟨ma, mc, rfl, _⟩ := hmn
              obtain ⟨m0, m1⟩ := cells2 (hmcell.keep (hku wr hLl.below) hjB)
              have hE3 := HE2.out l hlj
              have hup3s := upToJ_succ (js := cj) (U := U) (i := k) (k := l) hlj
              simp only [Clause.joins] at hE3
              have hUl : inSet ((chFold [] (seenTo gs k j l)).map bytesOf) (bytesOf (cj[l]).text) = false → U (bytesOf (cj[l]).text) = ((k : Int), ((cj[l]).names.length : Int)) := fun h => hE3.2 (by rw [chFold_in] at h; simpa [inSet] using h)
              have hml := hmj.out l hlj
              have hsl := seenTo_le (gs := gs) k j l
              have hfl := chFold_len [] (seenTo gs k j l)
              have hjn := join_anyB U (w.heap.size + 1) w.heap.size xb (chFold [] (seenTo gs k j l)) (placesL d) (cj[l]).text hmz ma (cj[l]).names.length mc (k : Int) bad hUl wr hLl.seen hLl.lt hxs (by have := hLl.lt; omega) (by simp at hfl; omega)
              have e2 : chStep (chFold [] (seenTo gs k j l)) (cj[l]).text = chFold [] (seenTo gs k j (l + 1)) := by rw [hml, chFold_append]; rfl
              rw [e2] at hjn
              obtain ⟨tx, htx⟩ : ∃ x, x = (cj[l]).text := ⟨_, rfl⟩
              obtain ⟨nn, hnn⟩ : ∃ x, x = (cj[l]).names.length := ⟨_, rfl⟩
              rw [← htx] at hjn m0 hE3 hup3s
              rw [← hnn] at hjn m1 hE3 hup3s
              have hbT2 : Hid ((bad || decide (U (bytesOf tx) ≠ ((k : Int), (nn : Int)))) = true → agreeB d = false) := Lib.hid (fun h => by
                rw [Bool.or_eq_true] at h
                rcases h with h | h
                · exact hbT.out h
                · exact HBAD.out _ _ _ _ hE3 (by simpa using h))
              have hbF2 : Hid ((bad || decide (U (bytesOf tx) ≠ ((k : Int), (nn : Int)))) = false → ((upTo gs U k ∧ bd = false) ∧ upToG U k (g.take j)) ∧ upToJ U k (cj.take (l + 1))) := Lib.hid (fun h => by
                rw [Bool.or_eq_false_iff] at h
                obtain ⟨h1, h2⟩ := h
                obtain ⟨h3, h4⟩ := hbF.out h1
                exact ⟨h3, hup3s h4 (by simpa using h2)⟩)
              clear hE3 hup3s
              clear hmcell hjcs hml hUl e2 htx hnn hsl hfl
              go_wp2_with (go_at_call 124; refine hjn.mono ?_; clear hjn; rintro e w6 ⟨rfl, hse, hbe, hxe⟩)
              go_roundw
              case rel => exact ⟨l + 1, _, by omega, by go_num, ⟨hse, hLl.below.trans hbe, hxe.trans hLl.row, Nat.lt_of_lt_of_le hLl.lt hbe.size⟩, hbT2, hbF2⟩
              case measure => simp [intOf]; omega
            · obtain rfl : l = nj := by omega
              go_wp2_with fail
              go_roundw
              case rel => exact ⟨j + 1, bad, by omega, by go_num, (by have h1 := hDJ.out; have h2 := HNJ.out; have h3 : (Clause.joins (.mk cf ctx cj cd ck)).length = l := (by rw [h2]; rfl); exact ⟨by rw [h1, h3]; exact hLl.seen, hLl.below, hLl.row, hLl.lt⟩), hbT, Lib.hid (fun h => by obtain ⟨h3, h4⟩ := hbF.out h; exact ⟨h3.1, HUP2.out h3.2 (by rw [HNJ.out, List.take_length] at h4; exact h4)⟩)⟩
              case measure => simp [intOf]; omega
        · obtain rfl : j = ng := by omega
          go_wp2_with fail
          go_roundw
          case rel => exact ⟨k + 1, bad, by omega, by go_num, (by have h1 := hlist.out; have h2 := HNG.out; exact ⟨by rw [h1, ← h2]; exact hLj.seen, hLj.below, hLj.row, hLj.lt⟩), hbT, Lib.hid (fun h => by obtain ⟨h3, h4⟩ := hbF.out h; exact ⟨HUP1.out h3.1 (by rw [HNG.out, List.take_length] at h4; exact h4), h3.2⟩)⟩
          case measure => simp [intOf]; omega
    · obtain rfl : k = nv := by omega
      have hkl : k = gs.length := by have := HVL.out; have := HNV.out; omega
      obtain ⟨hse, hbl, _, _⟩ := hL
      rw [hkl, seenTo_all] at hse
      have hch : ∀ x ∈ chFold [] (alltexts gs), x ∈ alltexts gs := fun x hx => by
        rcases chFold_sub _ _ _ hx with h | h
        · simp at h
        · exact h
      have hcl := chFold_len [] (alltexts gs)
      obtain ⟨CH, hCH⟩ : ∃ CH, CH = chFold [] (alltexts gs) := ⟨_, rfl⟩
      rw [← hCH] at hse hch hcl
      have HCH := Lib.hid hCH
      obtain ⟨PL, hPL⟩ : ∃ PL, PL = placesL d := ⟨_, rfl⟩
      have HPL := Lib.hid hPL
      rw [← hPL] at hse
      have hchp := places_bad (d := d) (CH := CH) (by rw [hCH, HGS.out])
      rw [← hPL] at hchp
      have HCHP := Lib.hid hchp; clear hchp
      have hfin := places_fin (d := d) (CH := CH) (by rw [hCH, HGS.out])
      rw [← hPL] at hfin
      have HFIN := Lib.hid hfin; clear hfin
      have hbF3 : Hid (bad = false → upTo (groupsL d) U (groupsL d).length ∧ bd = false) := Lib.hid (fun h => by have := hbF.out h; rw [hkl] at this; rw [← HGS.out]; exact this)
      obtain ⟨vch, vm, va, vp, hS⟩ := hse
      obtain ⟨ca, cc, rfl, _, hcc⟩ := owns_cells (by omega) hS.rch
      obtain ⟨pa, pc, rfl, _, _⟩ := owns_cells (by omega) hS.rp
      have hcz : CH.length ≤ 5000 := by simp at hcl; omega
      obtain ⟨wo, hwo⟩ : ∃ wo : World, wo = wr := ⟨_, rfl⟩
      subst hwo
      clear hCH hPL hkl hch hcl hrowc L0 hg2
      go_wp2_with fail
      go_loopw [9] (fun i wr => ∃ (k : Nat) (b : Bool), k ≤ CH.length ∧ i = .int .i64 k ∧ Seen (w.heap.size + 1) w.heap.size xb CH PL (.slice ca CH.length cc) vm va (.slice pa PL.length pc) b (manyL U CH) (atL U CH) wr ∧ Below w.heap.size w wr ∧ Hid (b = true → agreeB d = false) ∧ Hid (b = false → bad = false ∧ ∀ x ∈ CH.take k, hasB PL x = false)) (fun i _ => CH.length - (intOf i).toNat)
      case atStart => exact ⟨0, bad, by omega, rfl, hS, hbl, hbT, Lib.hid (fun h => ⟨h, by simp⟩)⟩
      case round =>
        obtain ⟨q, b, hq, rfl, hSr, hbr, hbT3, hbF4⟩ := hrel
        obtain ⟨e0, e1, e2, e3, e4, ef⟩ := hSr.cells
        by_cases hltq : q < CH.length
        · obtain ⟨cg, rfl, _⟩ := hcc.resolve_left (by omega)
          have hSd := hSr.later (Below.refl wr.heap.size wr).drew
          obtain ⟨f0, _, _, f3, f4, ff⟩ := hSd.cells
          have f5 := strrow_cell hSd.rch q hltq
          have hxz := hSr.zch _ (List.getElem_mem hltq)
          have hhas := has_any _ (.slice pa PL.length pc) PL CH[q] wr.drew (strs_row hSd.rp hSd.zp)
          have htkq := take_has (PL := PL) hltq
          have hcb := HCHP.out CH[q] (List.getElem_mem hltq)
          obtain ⟨x, hx⟩ : ∃ x, x = CH[q] := ⟨_, rfl⟩
          rw [← hx] at f5 hhas htkq hcb
          have HTK := Lib.hid htkq; have HCB := Lib.hid hcb; clear htkq hcb
          cases b with
          | true =>
            have HTT := Lib.hid (hbT3.out rfl)
            clear hhas
            have hS1 := (hSr.setBad true).later (Below.refl (wr.setCell ⟨w.heap.size, 4, none⟩ (.bool true)).heap.size _).drew
            obtain ⟨g0, _, _, g3, g4, _⟩ := hS1.cells
            have g5 := strrow_cell hS1.rch q hltq
            rw [← hx] at g5
            have HS1 := Lib.hid hS1
            have HB1 := Lib.hid ((hbr.setCell (show w.heap.size ≤ (⟨w.heap.size, 4, none⟩ : Addr).block from Nat.le_refl _) (.bool true)).drew)
            clear hSd hS1 hx hxz hSr
            go_wp2_with fail
            go_region
            go_wp2_with fail
            go_roundw
            case rel => exact ⟨q + 1, true, by omega, by go_num, HS1.out, HB1.out, Lib.hid (fun _ => HTT.out), Lib.hid (fun h => by cases h)⟩
            case measure => simp [intOf]; omega
          | false =>
            cases hhf : hasB PL x with
            | false =>
              rw [hhf] at hhas
              have HN := Lib.hid (HTK.out hhf)
              have HFF := Lib.hid (hbF4.out rfl)
              clear hhf
              have hS1 := (hSr.setBad false).later (Below.refl (wr.setCell ⟨w.heap.size, 4, none⟩ (.bool false)).heap.size _).drew
              obtain ⟨g0, _, _, g3, g4, _⟩ := hS1.cells
              have g5 := strrow_cell hS1.rch q hltq
              rw [← hx] at g5
              have HS1 := Lib.hid hS1
              have HB1 := Lib.hid ((hbr.setCell (show w.heap.size ≤ (⟨w.heap.size, 4, none⟩ : Addr).block from Nat.le_refl _) (.bool false)).drew)
              clear hSd hS1 hx hxz hSr
              go_wp2_with fail
              go_region_held3 (fun w' => w'.cell? ⟨w.heap.size, 4, none⟩ = some (.bool false) ∧ w'.cell? ⟨w.heap.size, 3, none⟩ = some (.slice pa PL.length pc) ∧ w'.cell? ⟨w.heap.size, 0, none⟩ = some (.slice (some ⟨cg, 0, none⟩) CH.length cc) ∧ w'.cell? ⟨cg, q, none⟩ = some (.string x)) (go_keep)
                (first
                | (go_at_call 36; refine hhas.mono ?_; rintro e' w2 ⟨rfl, rfl⟩))
              go_wp2_with fail
              go_roundw
              case rel => exact ⟨q + 1, false, by omega, by go_num, HS1.out, HB1.out, Lib.hid (fun h => by cases h), Lib.hid (fun h => ⟨HFF.out.1, HN.out HFF.out.2⟩)⟩
              case measure => simp [intOf]; omega
            | true =>
              rw [hhf] at hhas
              have HN := Lib.hid (HCB.out hhf)
              clear hhf
              have hS1 := (hSr.setBad true).later (Below.refl (wr.setCell ⟨w.heap.size, 4, none⟩ (.bool true)).heap.size _).drew
              obtain ⟨g0, _, _, g3, g4, _⟩ := hS1.cells
              have g5 := strrow_cell hS1.rch q hltq
              rw [← hx] at g5
              have HS1 := Lib.hid hS1
              have HB1 := Lib.hid ((hbr.setCell (show w.heap.size ≤ (⟨w.heap.size, 4, none⟩ : Addr).block from Nat.le_refl _) (.bool true)).drew)
              clear hSd hS1 hx hxz hSr
              go_wp2_with fail
              go_still_tail 21, (by kernel_rfl)
              still_call hhas
              repeat still_step
              refine wpStill_nil ?_
              change wpList _ _ _ _ _ wr.drew
              go_wp2_with fail
              go_roundw
              case rel => exact ⟨q + 1, true, by omega, by go_num, HS1.out, HB1.out, Lib.hid (fun _ => HN.out), Lib.hid (fun h => by cases h)⟩
              case measure => simp [intOf]; omega
        · obtain rfl : q = CH.length := by omega
          go_wp2_with fail
          go_quiet (fail)
          have hSF := hSr.later (below_drewN (Below.refl wr.heap.size wr) nq)
          have hBF := below_drewN hbr nq
          have hag : Hid (agreeB d = !b) := Lib.hid (by
            cases b with
            | true => exact hbT3.out rfl
            | false =>
              obtain ⟨h1, h2⟩ := hbF4.out rfl
              rw [List.take_length] at h2
              obtain ⟨h3, h4⟩ := hbF3.out h1
              exact HALL.out (by rw [HGS.out]; exact h3) (by have hh := HFIN.out (by rw [HPL.out]; exact HB2.out h4) h2; rw [HPL.out] at hh; exact hh))
          go_wp2
          go_ret2
          have e1 : channelsL d = CH := by rw [HCH.out, HGS.out]; rfl
          refine ⟨xb, by rw [hag.out]; rfl, ?_, hBF⟩
          rw [e1, ← HPL.out, hag.out, Bool.not_not]
          exact ⟨_, _, _, _, hSF⟩


end Go.Proofs.YtjmlaeofjjhfmaaGreat
