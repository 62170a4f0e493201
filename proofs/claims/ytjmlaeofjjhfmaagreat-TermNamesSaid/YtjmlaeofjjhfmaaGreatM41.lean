/- What the reference has seen of definitions: in memory. -/
import Derived.Test.YtjmlaeofjjhfmaaGreatM40
set_option linter.unusedVariables false
set_option linter.unusedSimpArgs false
namespace Go.Proofs.YtjmlaeofjjhfmaaGreat
open Go.RowKit Go.Shelf Go.Maps

theorem info3 : (Tryz.prog.info? 3).map (fun i => (i.zero, i.size, i.bytes)) = some (some (.int .i64 0), 1, 8) := by kernel_rfl
def Ints (l : List Value) : Prop := ∀ v ∈ l, ∃ i, v = .int .i64 i
/-- The rows of two values lie in two blocks. -/
def Sep (v v' : Value) : Prop := ∀ g, v.ownBlock = some g → v'.ownBlock ≠ some g
theorem Sep.symm {v v' : Value} (h : Sep v v') : Sep v' v := fun g h1 h2 => h g h2 h1
/-- The box sb of what was seen: its four rows lie from A on, each in a block of its own, none in the block X. -/
structure Seen (A sb X : Nat) (ch pl : List ByteArray) (vch vm va vp : Value) (bad : Bool) (ms ats : List Value) (W : World) : Prop where
  box : W.heap[sb]? = some (.cells #[vch, vm, va, vp, .bool bad] 95)
  low : sb < A
  rch : W.ownsRow A 9 1 vch ch.length (strVals ch)
  rm : W.ownsRow A 3 1 vm ms.length ms
  ra : W.ownsRow A 3 1 va ats.length ats
  rp : W.ownsRow A 9 1 vp pl.length (strVals pl)
  zch : ∀ s ∈ ch, s.size ≤ maxLen
  zp : ∀ s ∈ pl, s.size ≤ maxLen
  im : Ints ms
  ia : Ints ats
  s1 : Sep vch vm
  s2 : Sep vch va
  s3 : Sep vch vp
  s4 : Sep vm va
  s5 : Sep vm vp
  s6 : Sep va vp
  x1 : vch.ownBlock ≠ some X
  x2 : vm.ownBlock ≠ some X
  x3 : va.ownBlock ≠ some X
  x4 : vp.ownBlock ≠ some X
section
variable {A sb X : Nat} {ch pl : List ByteArray} {vch vm va vp : Value} {bad : Bool} {ms ats : List Value} {W W' : World}
theorem Seen.lt (h : Seen A sb X ch pl vch vm va vp bad ms ats W) : sb < W.heap.size := (Array.getElem?_eq_some_iff.1 h.box).1
theorem Seen.cells (h : Seen A sb X ch pl vch vm va vp bad ms ats W) : W.cell? ⟨sb, 0, none⟩ = some vch ∧ W.cell? ⟨sb, 1, none⟩ = some vm ∧ W.cell? ⟨sb, 2, none⟩ = some va ∧ W.cell? ⟨sb, 3, none⟩ = some vp ∧ W.cell? ⟨sb, 4, none⟩ = some (.bool bad) ∧ ∀ o, W.frozen? ⟨sb, o, none⟩ = false := by
  have q := h.box
  exact ⟨by simp [World.cell?, q], by simp [World.cell?, q], by simp [World.cell?, q], by simp [World.cell?, q], by simp [World.cell?, q], fun o => by simp [World.frozen?, q]⟩
theorem Seen.later (h : Seen A sb X ch pl vch vm va vp bad ms ats W) (g : Below W.heap.size W W') : Seen A sb X ch pl vch vm va vp bad ms ats W' :=
  { h with box := (g.block sb h.lt).trans h.box, rch := ownsRow_keep h.rch (grown_of_below g) (fun _ _ e => by cases e), rm := ownsRow_keep h.rm (grown_of_below g) (fun _ _ e => by cases e), ra := ownsRow_keep h.ra (grown_of_below g) (fun _ _ e => by cases e), rp := ownsRow_keep h.rp (grown_of_below g) (fun _ _ e => by cases e) }
theorem row_set {w : World} {base e size n : Nat} {v x : Value} {xs : List Value} {c o : Nat} (h : w.ownsRow base e size v n xs) (hc : c < base) : (w.setCell ⟨c, o, none⟩ x).ownsRow base e size v n xs :=
  ownsRow_keep h (grownBy_setCellAt w ⟨c, o, none⟩ x) (fun g hg e => by have := (h.lt g hg).1; have h8 := Option.some.inj e; simp only at h8; omega)
theorem box_set (h : W.heap[sb]? = some (.cells #[vch, vm, va, vp, .bool bad] 95)) (o : Nat) (x : Value) : (W.setCell ⟨sb, o, none⟩ x).heap[sb]? = some (.cells (#[vch, vm, va, vp, .bool bad].setIfInBounds o x) 95) := by
  show (World.setCell W ⟨sb, o, none⟩ x).heap[sb]? = _
  simp [World.setCell, Array.getElem?_modify, h]
theorem Seen.setBad (h : Seen A sb X ch pl vch vm va vp bad ms ats W) (b : Bool) : Seen A sb X ch pl vch vm va vp b ms ats (W.setCell ⟨sb, 4, none⟩ (.bool b)) :=
  { h with box := box_set h.box 4 (.bool b), rch := row_set h.rch h.low, rm := row_set h.rm h.low, ra := row_set h.ra h.low, rp := row_set h.rp h.low }
/-- A row's own block, or a new one. -/
theorem sep_new {v v' y : Value} (h : Sep v y) (hr : v'.ownBlock = v.ownBlock ∨ v'.ownBlock = some W.heap.size) (hy : ∀ g, y.ownBlock = some g → g < W.heap.size) : Sep v' y := by
  intro g hg he
  rcases hr with hr | hr
  · rw [hr] at hg; exact h g hg he
  · rw [hr] at hg
    have := Option.some.inj hg
    have := hy g he
    omega
theorem x_new {v v' : Value} (h : v.ownBlock ≠ some X) (hr : v'.ownBlock = v.ownBlock ∨ v'.ownBlock = some W.heap.size) (hX : X < W.heap.size) : v'.ownBlock ≠ some X := by
  rcases hr with hr | hr
  · rw [hr]; exact h
  · rw [hr]; intro e; have := Option.some.inj e; omega
theorem Seen.setPlaces (h : Seen A sb X ch pl vch vm va vp bad ms ats W) {x : ByteArray} {vp' : Value} (hx : x.size ≤ maxLen) (hX : X < W.heap.size) (ho : W'.ownsRow A 9 1 vp' (pl.length + 1) (strVals (pl ++ [x]))) (g : W.grownBy W' vp.ownBlock) (hr : vp'.ownBlock = vp.ownBlock ∨ vp'.ownBlock = some W.heap.size) :
    Seen A sb X ch (pl ++ [x]) vch vm va vp' bad ms ats (W'.setCell ⟨sb, 3, none⟩ vp') where
  box := box_set ((g.block sb h.lt (fun e => by have := (h.rp.lt sb e.symm).1; have := h.low; omega)).trans h.box) 3 vp'
  low := h.low
  rch := row_set (ownsRow_keep h.rch g (fun b hb e => h.s3 b hb e)) h.low
  rm := row_set (ownsRow_keep h.rm g (fun b hb e => h.s5 b hb e)) h.low
  ra := row_set (ownsRow_keep h.ra g (fun b hb e => h.s6 b hb e)) h.low
  rp := row_set (by rw [List.length_append]; exact ho) h.low
  zch := h.zch
  zp := fun s hs => by
    rcases List.mem_append.1 hs with hs | hs
    · exact h.zp s hs
    · rw [List.mem_singleton.1 hs]; exact hx
  im := h.im
  ia := h.ia
  s1 := h.s1
  s2 := h.s2
  s3 := (sep_new h.s3.symm hr (fun g hg => (h.rch.lt g hg).2)).symm
  s4 := h.s4
  s5 := (sep_new h.s5.symm hr (fun g hg => (h.rm.lt g hg).2)).symm
  s6 := (sep_new h.s6.symm hr (fun g hg => (h.ra.lt g hg).2)).symm
  x1 := h.x1
  x2 := h.x2
  x3 := h.x3
  x4 := x_new h.x4 hr hX

theorem Seen.setChans (h : Seen A sb X ch pl vch vm va vp bad ms ats W) {x : ByteArray} {v' : Value} (hx : x.size ≤ maxLen) (hX : X < W.heap.size) (ho : W'.ownsRow A 9 1 v' (ch.length + 1) (strVals (ch ++ [x]))) (g : W.grownBy W' vch.ownBlock) (hr : v'.ownBlock = vch.ownBlock ∨ v'.ownBlock = some W.heap.size) :
    Seen A sb X (ch ++ [x]) pl v' vm va vp bad ms ats (W'.setCell ⟨sb, 0, none⟩ v') where
  box := box_set ((g.block sb h.lt (fun e => by have := (h.rch.lt sb e.symm).1; have := h.low; omega)).trans h.box) 0 v'
  low := h.low
  rch := row_set (by rw [List.length_append]; exact ho) h.low
  rm := row_set (ownsRow_keep h.rm g (fun b hb e => h.s1.symm b hb e)) h.low
  ra := row_set (ownsRow_keep h.ra g (fun b hb e => h.s2.symm b hb e)) h.low
  rp := row_set (ownsRow_keep h.rp g (fun b hb e => h.s3.symm b hb e)) h.low
  zch := fun s hs => by
    rcases List.mem_append.1 hs with hs | hs
    · exact h.zch s hs
    · rw [List.mem_singleton.1 hs]; exact hx
  zp := h.zp
  im := h.im
  ia := h.ia
  s1 := sep_new h.s1 hr (fun g hg => (h.rm.lt g hg).2)
  s2 := sep_new h.s2 hr (fun g hg => (h.ra.lt g hg).2)
  s3 := sep_new h.s3 hr (fun g hg => (h.rp.lt g hg).2)
  s4 := h.s4
  s5 := h.s5
  s6 := h.s6
  x1 := x_new h.x1 hr hX
  x2 := h.x2
  x3 := h.x3
  x4 := h.x4
theorem Seen.setMany (h : Seen A sb X ch pl vch vm va vp bad ms ats W) {x : Int} {v' : Value} (hX : X < W.heap.size) (ho : W'.ownsRow A 3 1 v' (ms.length + 1) (ms ++ [.int .i64 x])) (g : W.grownBy W' vm.ownBlock) (hr : v'.ownBlock = vm.ownBlock ∨ v'.ownBlock = some W.heap.size) :
    Seen A sb X ch pl vch v' va vp bad (ms ++ [.int .i64 x]) ats (W'.setCell ⟨sb, 1, none⟩ v') where
  box := box_set ((g.block sb h.lt (fun e => by have := (h.rm.lt sb e.symm).1; have := h.low; omega)).trans h.box) 1 v'
  low := h.low
  rch := row_set (ownsRow_keep h.rch g (fun b hb e => h.s1 b hb e)) h.low
  rm := row_set (by rw [List.length_append]; exact ho) h.low
  ra := row_set (ownsRow_keep h.ra g (fun b hb e => h.s4.symm b hb e)) h.low
  rp := row_set (ownsRow_keep h.rp g (fun b hb e => h.s5.symm b hb e)) h.low
  zch := h.zch
  zp := h.zp
  im := fun v hv => by
    rcases List.mem_append.1 hv with hv | hv
    · exact h.im v hv
    · exact ⟨x, List.mem_singleton.1 hv⟩
  ia := h.ia
  s1 := (sep_new h.s1.symm hr (fun g hg => (h.rch.lt g hg).2)).symm
  s2 := h.s2
  s3 := h.s3
  s4 := sep_new h.s4 hr (fun g hg => (h.ra.lt g hg).2)
  s5 := sep_new h.s5 hr (fun g hg => (h.rp.lt g hg).2)
  s6 := h.s6
  x1 := h.x1
  x2 := x_new h.x2 hr hX
  x3 := h.x3
  x4 := h.x4
theorem Seen.setAts (h : Seen A sb X ch pl vch vm va vp bad ms ats W) {x : Int} {v' : Value} (hX : X < W.heap.size) (ho : W'.ownsRow A 3 1 v' (ats.length + 1) (ats ++ [.int .i64 x])) (g : W.grownBy W' va.ownBlock) (hr : v'.ownBlock = va.ownBlock ∨ v'.ownBlock = some W.heap.size) :
    Seen A sb X ch pl vch vm v' vp bad ms (ats ++ [.int .i64 x]) (W'.setCell ⟨sb, 2, none⟩ v') where
  box := box_set ((g.block sb h.lt (fun e => by have := (h.ra.lt sb e.symm).1; have := h.low; omega)).trans h.box) 2 v'
  low := h.low
  rch := row_set (ownsRow_keep h.rch g (fun b hb e => h.s2 b hb e)) h.low
  rm := row_set (ownsRow_keep h.rm g (fun b hb e => h.s4 b hb e)) h.low
  ra := row_set (by rw [List.length_append]; exact ho) h.low
  rp := row_set (ownsRow_keep h.rp g (fun b hb e => h.s6.symm b hb e)) h.low
  zch := h.zch
  zp := h.zp
  im := h.im
  ia := fun v hv => by
    rcases List.mem_append.1 hv with hv | hv
    · exact h.ia v hv
    · exact ⟨x, List.mem_singleton.1 hv⟩
  s1 := h.s1
  s2 := (sep_new h.s2.symm hr (fun g hg => (h.rch.lt g hg).2)).symm
  s3 := h.s3
  s4 := (sep_new h.s4.symm hr (fun g hg => (h.rm.lt g hg).2)).symm
  s5 := h.s5
  s6 := sep_new h.s6 hr (fun g hg => (h.rp.lt g hg).2)
  x1 := h.x1
  x2 := h.x2
  x3 := x_new h.x3 hr hX
  x4 := h.x4
end

/-- append(row, x) in a drawn region: its run. -/
theorem grow9 {W : World} {A : Nat} {v : Value} {n : Nat} {xs : List Value} (h : W.ownsRow A 9 1 v n xs) (x : ByteArray) (hA : A ≤ W.heap.size) (hn : n ≤ 100000) :
    ∃ g cp w3, (Builtin.append_ #[22, 22] 22 #[v, .slice (some ⟨W.heap.size, 0, none⟩) 1 1]).run Tryz.prog ((W.alloc (.cells #[.string x] 9)).drew) = .ok (.slice (some ⟨g, 0, none⟩) (n + 1) cp) w3 ∧ w3.ownsRow A 9 1 (.slice (some ⟨g, 0, none⟩) (n + 1) cp) (n + 1) (xs ++ [.string x]) ∧
      ((W.alloc (.cells #[.string x] 9)).drew).grownBy w3 v.ownBlock ∧ ((Value.slice (some ⟨g, 0, none⟩) (n + 1) cp).ownBlock = v.ownBlock ∨ (Value.slice (some ⟨g, 0, none⟩) (n + 1) cp).ownBlock = some ((W.alloc (.cells #[.string x] 9)).drew).heap.size) := by
  obtain ⟨i0, hi, hz0, hz1, hz2⟩ := info_parts info9
  have bA : Below W.heap.size W ((W.alloc (.cells #[.string x] 9)).drew) := ((Below.refl _ W).alloc (Nat.le_refl _) _).drew
  have hoA := ownsRow_keep h (grown_of_below bA) (fun g _ e => by cases e)
  obtain ⟨v', w3, hr, q1, q2, _, q4⟩ := run_append_own_at (P := Tryz.prog) ((W.alloc (.cells #[.string x] 9)).drew) A 22 22 9 i0 (.string ⟨#[]⟩) 1 16 Tryz.underlying22 hi hz0 hz1 hz2 rfl (by decide) _ _ _ hoA
    ⟨W.heap.size, 0, none⟩ 1 1 [.string x] rfl (by
      intro j u hj
      have e : (⟨W.heap.size, 0, none⟩ : Addr).add j = ⟨W.heap.size, j, none⟩ := by unfold Addr.add; by_cases h : j = 0 <;> simp [h]
      have e2 : ((W.alloc (.cells #[.string x] 9)).drew).cell? ⟨W.heap.size, j, none⟩ = (W.alloc (.cells #[.string x] 9)).cell? ⟨W.heap.size, j, none⟩ := rfl
      rw [e, e2, World.cell?_alloc_at _ _ _ _ rfl]
      simpa using hj) (by simp [Value.oneCell']) (by unfold maxLen; omega) (by omega) (by simp; omega)
  obtain ⟨_, ⟨_, h0⟩ | ⟨gg, cp, cur, hvf, _⟩⟩ := id q1
  · omega
  subst hvf
  exact ⟨gg, cp, w3, hr, q1, q2, q4⟩
theorem grow3 {W : World} {A : Nat} {v : Value} {n : Nat} {xs : List Value} (h : W.ownsRow A 3 1 v n xs) (x : Int) (hA : A ≤ W.heap.size) (hn : n ≤ 100000) :
    ∃ g cp w3, (Builtin.append_ #[93, 93] 93 #[v, .slice (some ⟨W.heap.size, 0, none⟩) 1 1]).run Tryz.prog ((W.alloc (.cells #[.int .i64 x] 3)).drew) = .ok (.slice (some ⟨g, 0, none⟩) (n + 1) cp) w3 ∧ w3.ownsRow A 3 1 (.slice (some ⟨g, 0, none⟩) (n + 1) cp) (n + 1) (xs ++ [.int .i64 x]) ∧
      ((W.alloc (.cells #[.int .i64 x] 3)).drew).grownBy w3 v.ownBlock ∧ ((Value.slice (some ⟨g, 0, none⟩) (n + 1) cp).ownBlock = v.ownBlock ∨ (Value.slice (some ⟨g, 0, none⟩) (n + 1) cp).ownBlock = some ((W.alloc (.cells #[.int .i64 x] 3)).drew).heap.size) := by
  obtain ⟨i0, hi, hz0, hz1, hz2⟩ := info_parts info3
  have bA : Below W.heap.size W ((W.alloc (.cells #[.int .i64 x] 3)).drew) := ((Below.refl _ W).alloc (Nat.le_refl _) _).drew
  have hoA := ownsRow_keep h (grown_of_below bA) (fun g _ e => by cases e)
  obtain ⟨v', w3, hr, q1, q2, _, q4⟩ := run_append_own_at (P := Tryz.prog) ((W.alloc (.cells #[.int .i64 x] 3)).drew) A 93 93 3 i0 (.int .i64 0) 1 8 Tryz.underlying93 hi hz0 hz1 hz2 rfl (by decide) _ _ _ hoA
    ⟨W.heap.size, 0, none⟩ 1 1 [.int .i64 x] rfl (by
      intro j u hj
      have e : (⟨W.heap.size, 0, none⟩ : Addr).add j = ⟨W.heap.size, j, none⟩ := by unfold Addr.add; by_cases h : j = 0 <;> simp [h]
      have e2 : ((W.alloc (.cells #[.int .i64 x] 3)).drew).cell? ⟨W.heap.size, j, none⟩ = (W.alloc (.cells #[.int .i64 x] 3)).cell? ⟨W.heap.size, j, none⟩ := rfl
      rw [e, e2, World.cell?_alloc_at _ _ _ _ rfl]
      simpa using hj) (by simp [Value.oneCell']) (by unfold maxLen; omega) (by omega) (by simp; omega)
  obtain ⟨_, ⟨_, h0⟩ | ⟨gg, cp, cur, hvf, _⟩⟩ := id q1
  · omega
  subst hvf
  exact ⟨gg, cp, w3, hr, q1, q2, q4⟩

end Go.Proofs.YtjmlaeofjjhfmaaGreat
