/- The reference's put, both, Names: sorted lists of names. -/
import Derived.Test.YtjmlaeofjjhfmaaGreatP42
import Derived.Test.YtjmlaeofjjhfmaaGreatP12
import Derived.Test.YtjmlaeofjjhfmaaGreatP29
set_option linter.unusedVariables false
set_option linter.unusedSimpArgs false
namespace Go.Proofs.YtjmlaeofjjhfmaaGreat
open Go.RowKit Go.Shelf Go.Maps Go.Sort

/-- Sorted, nothing twice. -/
def Srt (l : List ByteArray) : Prop := (l.map bytesOf).Pairwise (· < ·)
theorem bl_dec (x s : ByteArray) : Op.bytesLess x.toList s.toList = decide (bytesOf x < bytesOf s) := by
  rw [bytesLess_eq]
  simp only [ByteArray.toList_eq]
  rfl
theorem lt_of_not {a b : List UInt8} (h : ¬ a < b) (hn : b ≠ a) : b < a := by
  refine Classical.byContradiction fun h2 => hn ?_
  exact List.le_antisymm h h2
theorem pw_insert {L : List (List UInt8)} {x : List UInt8} (k : Nat) (h : L.Pairwise (· < ·)) (h1 : ∀ y ∈ L.take k, y < x) (h2 : ∀ y ∈ L.drop k, x < y) : (L.take k ++ x :: L.drop k).Pairwise (· < ·) := by
  rw [← List.take_append_drop k L, List.pairwise_append] at h
  obtain ⟨a, b, c⟩ := h
  rw [List.pairwise_append, List.pairwise_cons]
  refine ⟨a, ⟨h2, b⟩, fun y hy z hz => ?_⟩
  rcases List.mem_cons.1 hz with rfl | hz
  · exact h1 y hy
  · exact c y hy z hz
theorem srt_insert {l : List ByteArray} {s : ByteArray} {k : Nat} (h : Srt l) (hk : k ≤ l.length) (h1 : ∀ x ∈ l.take k, bytesOf x < bytesOf s) (h2 : ∀ hk : k < l.length, ¬ bytesOf l[k] < bytesOf s) (hn : bytesOf s ∉ l.map bytesOf) : Srt (l.take k ++ s :: l.drop k) := by
  unfold Srt at h ⊢
  rw [List.map_append, List.map_cons, List.map_take, List.map_drop]
  refine pw_insert k h ?_ ?_
  · intro y hy
    rw [← List.map_take] at hy
    obtain ⟨x, hx, rfl⟩ := List.mem_map.1 hy
    exact h1 x hx
  · intro y hy
    by_cases hkl : k < l.length
    · have e := List.drop_eq_getElem_cons hkl
      have hsk : bytesOf s < bytesOf l[k] := lt_of_not (h2 hkl) (fun e => hn (by rw [e]; exact List.mem_map.2 ⟨_, List.getElem_mem hkl, rfl⟩))
      rw [← List.map_drop, e, List.map_cons] at hy
      rcases List.mem_cons.1 hy with rfl | hy
      · exact hsk
      · rw [← List.take_append_drop k (l.map bytesOf), ← List.map_drop, e, List.map_cons, List.pairwise_append, List.pairwise_cons] at h
        exact List.lt_trans hsk (h.2.1.1 y hy)
    · rw [List.drop_of_length_le (by simp; omega)] at hy; cases hy
theorem mem_has {l : List ByteArray} {s : ByteArray} : hasB l s = true ↔ bytesOf s ∈ l.map bytesOf := by
  rw [hasB_in]; simp [inSet]

/-- A list that a call has made for itself. -/
structure OutAt (w : World) (v : Value) (l : List ByteArray) : Prop where
  own : w.ownsRow 0 9 1 v l.length (strVals l)
  sz : ∀ s ∈ l, s.size ≤ maxLen
theorem OutAt.nil (w : World) : OutAt w (.slice none 0 0) [] := ⟨World.ownsRow_nil _ _ _ _, by simp⟩
theorem OutAt.later {w w' : World} {v : Value} {l : List ByteArray} (h : OutAt w v l) (g : Below w.heap.size w w') : OutAt w' v l := ⟨ownsRow_keep h.own (grown_of_below g) (fun _ _ e => by cases e), h.sz⟩
theorem OutAt.strs {w : World} {v : Value} {l : List ByteArray} (h : OutAt w v l) : StrsAt w.heap.size w v l := strs_row h.own h.sz

/-- What a call that adds names to a sorted list gives. -/
def AddOut (out : List ByteArray) (F : List UInt8 → Prop) (n : Nat) (w : World) (e : Ending) (w' : World) : Prop :=
  ∃ v out', e = .returned v ∧ OutAt w' v out' ∧ Srt out' ∧ (∀ k, k ∈ out'.map bytesOf ↔ k ∈ out.map bytesOf ∨ F k) ∧ out'.length ≤ out.length + n ∧ Below w.heap.size w w'

theorem fresh_row (w : World) (l : List ByteArray) (hl : l.length ≤ 1000) : (w.alloc (.cells (strVals l).toArray 9)).ownsRow w.heap.size 9 1 (.slice (some ⟨w.heap.size, 0, none⟩) l.length l.length) l.length (strVals l) :=
  ⟨by simp [strVals], .inr ⟨w.heap.size, l.length, (strVals l).toArray, rfl, Nat.le_refl _, World.alloc_heap_new w _, Nat.le_refl _, by unfold maxLen; omega, by simp [strVals], by simp only [strVals, Nat.mul_one]; exact List.take_of_length_le (by simp)⟩⟩

set_option maxRecDepth 10000 in
set_option maxHeartbeats 4000000 in
theorem both_any (v1 v2 : Value) (s1 s2 : List ByteArray) (w : World) (h1 : StrsAt w.heap.size w v1 s1) (h2 : StrsAt w.heap.size w v2 s2) (l1 : s1.length ≤ 500000) (l2 : s2.length ≤ 500000) :
    Calls Tryz.prog 79 #[v1, v2] w fun e w' => ∃ v, e = .returned v ∧ OutAt w' v (s1 ++ s2) ∧ Below w.heap.size w w' := by
  have zA : (w.alloc (.cells #[] 9)).heap.size = w.heap.size + 1 := by simp
  have bA : Below w.heap.size w (w.alloc (.cells #[] 9)) := (Below.refl _ w).alloc (Nat.le_refl _) _
  obtain ⟨r1, w2, hr1, ho1, hz1, hg1⟩ := strs_joined 22 (fresh_row w [] (by simp)) (h1.later bA) (by rw [show (strVals []).toArray = #[] from rfl, zA]; omega) (by simp) (by omega) (by simp)
  rw [List.nil_append] at ho1 hz1
  rw [show (strVals []).toArray = #[] from rfl] at hr1 hg1
  have hbA2 : Below w.heap.size w w2 := bA.grown hg1 (by rw [zA]; omega) (fun r e => by have := Option.some.inj e; simp only at this; omega)
  have hz2 := hg1.size
  obtain ⟨r2, w3, hr2, ho2, hz3, hg2⟩ := strs_joined 22 ho1 (h2.later hbA2) (by omega) (by omega) (by omega) hz1
  have hbF : Below w.heap.size w w3 := hbA2.grown hg2 (by omega) (fun r e => by have := (ho1.lt r e).1; omega)
  have FIN := Lib.hid (And.intro (OutAt.mk (ownsRow_low ho2 (Nat.zero_le _)) hz3) hbF)
  clear hbF ho1 ho2 hz1 hz3 hg1 hg2 bA hbA2 zA hz2
  obtain ⟨a1, c1, rfl, _⟩ := h1
  obtain ⟨a2, c2, rfl, _⟩ := h2
  go_enter Tryz.func79, Tryz.ntmps79
  go_wp2_with (first
    | (show wpList _ _ _ (⟨some 7, _, _, _, _, _⟩ :: _) _ _; refine wpList_append_eq rfl (.tmp 5) (.tmp 6) 22 22 rfl rfl rfl hr1 ?_)
    | (show wpList _ _ _ (⟨some 9, _, _, _, _, _⟩ :: _) _ _; refine wpList_append_eq rfl (.tmp 7) (.tmp 8) 22 22 rfl rfl rfl hr2 ?_))
  go_ret
  exact ⟨_, rfl, FIN.out.1, FIN.out.2⟩

set_option maxRecDepth 10000 in
set_option maxHeartbeats 4000000 in
theorem names_any (B : Nat) (u : World) (js : List Msg) (a0 : Option Addr) (c0 : Nat) (w : World) (hu : KeptC B u w) (hBs : B ≤ w.heap.size)
    (hN : (namesL js).length ≤ 100000) (hjs : js.length = 0 ∨ ∃ b off, a0 = some ⟨b, off, none⟩ ∧ b < B ∧ MsgsAt B u b off js) (hjl : js.length ≤ 100000) :
    Calls Tryz.prog 170 #[.slice a0 js.length c0] w fun e w' => ∃ r, e = .returned r ∧ OutAt w' r (namesL js) ∧ Below w.heap.size w w' := by
  have hW1 : Below w.heap.size w w := Below.refl _ _
  go_enter Tryz.func170, Tryz.ntmps170
  go_wp2
  go_loopw [3, 4] (fun v i wr => ∃ (k : Nat), k ≤ js.length ∧ i = .int .i64 k ∧ Below w.heap.size w wr ∧ w.heap.size ≤ wr.heap.size ∧ wr.ownsRow w.heap.size 9 1 v (namesL (js.take k)).length (strVals (namesL (js.take k))) ∧ (∀ s ∈ namesL (js.take k), s.size ≤ maxLen)) (fun _ i _ => js.length - (intOf i).toNat)
  case atStart => exact ⟨0, by omega, rfl, hW1, by omega, World.ownsRow_nil _ _ _ _, by simp [namesL_nil]⟩
  case round =>
    obtain ⟨k, hk', rfl, hB, hws, hown, hsz⟩ := hrel
    by_cases hlt : k < js.length
    · rcases hjs with h0 | ⟨b, off, rfl, hb, hms⟩
      · omega
      obtain ⟨mcs, hmcs, hmz, mv, rfl, hmn⟩ := hms.get js b off k hlt
      have hl1 := names_take_len js k
      have hl2 := names_get_len js k hlt
      have htk := Lib.hid (names_take js k hlt)
      obtain ⟨x, hx⟩ : ∃ x, x = (js[k]).text := ⟨_, rfl⟩
      obtain ⟨nm, hnm⟩ : ∃ nm, nm = (js[k]).names := ⟨_, rfl⟩
      rw [← hnm] at hmn htk hl2
      rw [← hx] at hmcs
      have hst := ((hmn.keep hu).mono hBs).below hB
      obtain ⟨T, hT⟩ : ∃ T, T = namesL (js.take k) := ⟨_, rfl⟩
      rw [← hT] at hown hsz hl1 htk
      obtain ⟨v', w', hr, ho', hz', hg⟩ := strs_joined (w := wr) 22 hown (hst.mono hws) hws (by omega) (by omega) hsz
      obtain ⟨d0, d1⟩ := cells2 ((hmcs.keep hu hb).below hB (by omega))
      obtain ⟨na, nc, rfl, _⟩ := hmn
      clear hx hnm hT hmcs hst
      go_wp2_with (show wpList _ _ _ (⟨some 17, _, _, _, _, _⟩ :: _) _ _; refine wpList_append_eq rfl (.tmp 11) (.tmp 16) 22 22 rfl rfl rfl hr ?_)
      go_roundw
      case rel =>
        refine ⟨k + 1, by omega, by go_num, ?_, ?_, ?_, ?_⟩
        · exact (hB.grown hg hws (fun r e => (hown.lt r e).1))
        · have := hg.size; omega
        · rw [htk.out]; exact ho'
        · rw [htk.out]; exact hz'
      case measure => simp [intOf]; omega
    · obtain rfl : k = js.length := by omega
      rw [List.take_length] at hown hsz
      go_wp2
      go_ret
      exact ⟨_, rfl, ⟨ownsRow_low hown (Nat.zero_le _), hsz⟩, hB⟩

theorem strs_drop {w : World} {g co k : Nat} {out : List ByteArray} (hg : g < w.heap.size) (hc : StrCells w g 0 out) (hz : ∀ s ∈ out, s.size ≤ maxLen) (hk : k ≤ out.length) (hl : out.length ≤ 1000) : StrsAt w.heap.size w (.slice (some ⟨g, k, none⟩) (out.length - k) (co - k)) (out.drop k) := by
  refine ⟨_, _, by rw [List.length_drop], by rw [List.length_drop]; omega, fun s hs => hz s (List.mem_of_mem_drop hs), (by simp), .inr ⟨g, k, rfl, hg, fun j hj => ?_⟩⟩
  rw [List.length_drop] at hj
  have := hc (k + j) (by omega)
  rw [Nat.zero_add] at this
  rw [this]; simp
theorem strs_take {w : World} {g co k : Nat} {out : List ByteArray} (hg : g < w.heap.size) (hc : StrCells w g 0 out) (hz : ∀ s ∈ out, s.size ≤ maxLen) (hk : k ≤ out.length) (hl : out.length ≤ 1000) : StrsAt w.heap.size w (.slice (some ⟨g, 0, none⟩) k co) (out.take k) := by
  have e : (out.take k).length = k := by rw [List.length_take]; omega
  refine ⟨_, _, by rw [e], by rw [e]; omega, fun s hs => hz s (List.mem_of_mem_take hs), (by simp), .inr ⟨g, 0, rfl, hg, fun j hj => ?_⟩⟩
  rw [e] at hj
  have := hc j (by omega)
  rw [this]; simp
theorem put_tail (w : World) (s : ByteArray) (vd vt : Value) (ld lt : List ByteArray) (hd : StrsAt w.heap.size w vd ld) (ht : StrsAt w.heap.size w vt lt) (hz : s.size ≤ maxLen) (l1 : ld.length ≤ 1000) (l2 : lt.length ≤ 1000) :
    ∃ r1 w2 r2 w4 r3 w5, (Builtin.append_ #[22, 22] 22 #[.slice (some ⟨w.heap.size, 0, none⟩) 1 1, vd]).run Tryz.prog (w.alloc (.cells #[.string s] 9)) = .ok r1 w2 ∧
      (Builtin.append_ #[22, 22] 22 #[.slice (some ⟨w2.heap.size, 0, none⟩) 0 0, vt]).run Tryz.prog (w2.alloc (.cells #[] 9)) = .ok r2 w4 ∧
      (Builtin.append_ #[22, 22] 22 #[r2, r1]).run Tryz.prog w4 = .ok r3 w5 ∧ OutAt w5 r3 (lt ++ s :: ld) ∧ Below w.heap.size w w5 := by
  have b1 : Below w.heap.size w (w.alloc (.cells #[.string s] 9)) := (Below.refl _ w).alloc (Nat.le_refl _) _
  have z1 : (w.alloc (.cells #[.string s] 9)).heap.size = w.heap.size + 1 := by simp
  have f1 := fresh_row w [s] (by simp)
  rw [show (strVals [s]).toArray = #[.string s] from rfl] at f1
  obtain ⟨r1, w2, hr1, ho1, hz1, hg1⟩ := strs_joined 22 f1 (hd.later b1) (by rw [z1]; omega) (by simp) (by omega) (by simpa using hz)
  have b2 : Below w.heap.size w w2 := b1.grown hg1 (by rw [z1]; omega) (fun r e => by have := Option.some.inj e; simp only at this; omega)
  have z2 := hg1.size
  have b3 : Below w2.heap.size w2 (w2.alloc (.cells #[] 9)) := (Below.refl _ w2).alloc (Nat.le_refl _) _
  have z3 : (w2.alloc (.cells #[] 9)).heap.size = w2.heap.size + 1 := by simp
  have f2 := fresh_row w2 [] (by simp)
  rw [show (strVals []).toArray = #[] from rfl] at f2
  have b23 := b2.trans (b3.mono b2.size)
  obtain ⟨r2, w4, hr2, ho2, hz2, hg2⟩ := strs_joined 22 f2 (ht.later b23) (by rw [z3]; omega) (by simp) (by omega) (by simp)
  rw [List.nil_append] at ho2 hz2
  have b4' : Below w2.heap.size w2 w4 := b3.grown hg2 (by rw [z3]; omega) (fun r e => by have := Option.some.inj e; simp only at this; omega)
  have s1 := (strs_of_owns ho1 hz1).later b4'
  have z4 := hg2.size
  obtain ⟨r3, w5, hr3, ho3, hz3, hg3⟩ := strs_joined 22 ho2 s1 (by omega) (by omega) (by simp; omega) hz2
  have b5 : Below w.heap.size w w5 := (b2.trans (b4'.mono b2.size)).grown hg3 (by have := b2.size; have := b4'.size; omega) (fun r e => by have := (ho2.lt r e).1; have := b2.size; omega)
  exact ⟨r1, w2, r2, w4, r3, w5, hr1, hr2, hr3, ⟨ownsRow_low ho3 (Nat.zero_le _), hz3⟩, b5⟩
theorem put_mem {out bound : List ByteArray} {s : ByteArray} {k : Nat} (hnb : bytesOf s ∉ bound.map bytesOf) (x : List UInt8) : x ∈ (out.take k ++ s :: out.drop k).map bytesOf ↔ x ∈ out.map bytesOf ∨ (x = bytesOf s ∧ x ∉ bound.map bytesOf) := by
  have e : x ∈ out.map bytesOf ↔ x ∈ (out.take k).map bytesOf ∨ x ∈ (out.drop k).map bytesOf := by
    rw [← List.mem_append, ← List.map_append, List.take_append_drop]
  rw [e, List.map_append, List.map_cons, List.mem_append, List.mem_cons]
  constructor
  · rintro (h | h | h)
    · exact .inl (.inl h)
    · subst h; exact .inr ⟨rfl, hnb⟩
    · exact .inl (.inr h)
  · rintro ((h | h) | ⟨h, _⟩)
    · exact .inl h
    · exact .inr (.inr h)
    · exact .inr (.inl h)

set_option maxRecDepth 10000 in
set_option maxHeartbeats 4000000 in
theorem put_ref (v vb : Value) (out bound : List ByteArray) (s : ByteArray) (w : World) (ho : OutAt w v out) (hb : StrsAt w.heap.size w vb bound) (hz : s.size ≤ maxLen) (hs : Srt out) (hl : out.length ≤ 1000) :
    Calls Tryz.prog 143 #[v, vb, .string s] w (AddOut out (fun k => k = bytesOf s ∧ k ∉ bound.map bytesOf) 1 w) := by
  obtain ⟨F, hFe⟩ : ∃ F : List UInt8 → Prop, F = fun k => k = bytesOf s ∧ k ∉ bound.map bytesOf := ⟨_, rfl⟩
  rw [← hFe]
  have hh1 := has_any _ vb bound s w hb
  have hh2 := has_any _ v out s w ho.strs
  have DONE : (hasB bound s = true ∨ hasB out s = true) → AddOut out F 1 w (.returned v) w := fun h => by
    rw [hFe]; exact
    ⟨v, out, rfl, ho, hs, fun k => ⟨.inl, fun h2 => by
      rcases h2 with h2 | ⟨rfl, h2⟩
      · exact h2
      · rcases h with h | h
        · exact absurd (mem_has.1 h) h2
        · exact mem_has.1 h⟩, by omega, Below.refl _ _⟩
  have HD := Lib.hid DONE
  have HFE := Lib.hid hFe
  clear DONE hFe
  cases hb1 : hasB bound s with
  | true =>
    have HF := Lib.hid (HD.out (.inl hb1))
    rw [hb1] at hh1
    clear hb1 HD hh2
    obtain ⟨ab, cb, rfl, _⟩ := hb
    obtain ⟨ao, co, rfl, _⟩ := ho.strs
    go_enter Tryz.func143, Tryz.ntmps143
    go_wp2_with (go_at_call 36; refine hh1.mono ?_; clear hh1; rintro e w1 ⟨rfl, hw1⟩; obtain rfl := hw1.symm)
    go_ret
    exact HF.out
  | false =>
  cases hb2 : hasB out s with
  | true =>
    have HF := Lib.hid (HD.out (.inr hb2))
    rw [hb1] at hh1
    rw [hb2] at hh2
    clear hb1 hb2 HD
    obtain ⟨ab, cb, rfl, _⟩ := hb
    obtain ⟨ao, co, rfl, _⟩ := ho.strs
    go_enter Tryz.func143, Tryz.ntmps143
    go_wp2_with (first
      | (go_at_call 36; refine hh1.mono ?_; clear hh1; rintro e w1 ⟨rfl, hw1⟩; obtain rfl := hw1.symm)
      | (go_at_call 36; refine hh2.mono ?_; clear hh2; rintro e w2 ⟨rfl, hw2⟩; obtain rfl := hw2.symm))
    go_ret
    exact HF.out
  | false =>
  rw [hb1] at hh1
  rw [hb2] at hh2
  have hnb : bytesOf s ∉ bound.map bytesOf := fun h => by rw [mem_has.2 h] at hb1; cases hb1
  have hno : bytesOf s ∉ out.map bytesOf := fun h => by rw [mem_has.2 h] at hb2; cases hb2
  have HNB := Lib.hid hnb; have HNO := Lib.hid hno; have HS := Lib.hid hs
  clear hb1 hb2 HD hnb hno hs
  have hst := ho.strs
  have HO := Lib.hid ho
  obtain ⟨hol, hoc⟩ := ho.own
  have hzo := ho.sz
  obtain ⟨ab, cb, rfl, _⟩ := hb
  clear ho
  have hcase : ∃ ao co, v = .slice ao out.length co ∧ out.length ≤ co ∧ co ≤ maxLen ∧ (out.length = 0 ∧ ao = none ∧ co = 0 ∨ ∃ g, ao = some ⟨g, 0, none⟩ ∧ g < w.heap.size ∧ StrCells w g 0 out) := by
    obtain ⟨a2, c2, e2, _, _, hn2, hcl⟩ := hst
    rcases hoc with ⟨rfl, h0⟩ | ⟨g, cap, cur, rfl, _, hg, h1, h2, _⟩
    · exact ⟨none, 0, by rw [h0], by omega, by omega, .inl ⟨h0, rfl, rfl⟩⟩
    · injection e2 with e3 e4 e5
      refine ⟨_, cap, rfl, h1, h2, .inr ⟨g, rfl, (Array.getElem?_eq_some_iff.1 hg).1, ?_⟩⟩
      rcases hcl with h | ⟨b, off, h, _, hc⟩
      · subst h; intro j hj; simp at hj
      · rw [h] at e3; cases e3; exact hc
  obtain ⟨ao, co, rfl, hco, hcm, hcs⟩ := hcase
  clear hoc hst hol
  go_enter Tryz.func143, Tryz.ntmps143
  go_wp2_with (first
    | (go_at_call 36; refine hh1.mono ?_; clear hh1; rintro e w1 ⟨rfl, hw1⟩; obtain rfl := hw1.symm)
    | (go_at_call 36; refine hh2.mono ?_; clear hh2; rintro e w2 ⟨rfl, hw2⟩; obtain rfl := hw2.symm))
  go_loopw [7] (fun i wr => ∃ (k : Nat), k ≤ out.length ∧ i = .int .i64 k ∧ Hid (wr = w) ∧ Hid (∀ x ∈ out.take k, bytesOf x < bytesOf s)) (fun i _ => out.length - (intOf i).toNat)
  case atStart => exact ⟨0, by omega, rfl, Lib.hid rfl, Lib.hid (by simp)⟩
  case round =>
    obtain ⟨k, hk', rfl, hw, hlt⟩ := hrel
    obtain rfl := hw.out.symm
    by_cases hgo : ∃ h : k < out.length, bytesOf out[k] < bytesOf s
    · obtain ⟨hkl, hbl⟩ := hgo
      obtain ⟨_, rfl, rfl⟩ | ⟨g, rfl, hg, hc⟩ := hcs
      · omega
      have hcell := hc k hkl
      rw [Nat.zero_add] at hcell
      have hbl2 : Op.bytesLess (out[k]).toList s.toList = true := by rw [bl_dec]; simpa using hbl
      have HT := Lib.hid (show ∀ x ∈ out.take (k + 1), bytesOf x < bytesOf s by
        intro x hx
        rw [List.take_succ_eq_append_getElem hkl, List.mem_append] at hx
        rcases hx with hx | hx
        · exact hlt.out x hx
        · simp at hx; subst hx; exact hbl)
      obtain ⟨x, hx⟩ : ∃ x, x = out[k] := ⟨_, rfl⟩
      rw [← hx] at hcell hbl2
      clear hx hbl
      go_wp2
      go_roundw
      case rel => exact ⟨k + 1, by omega, by go_num, (by first | exact Lib.hid rfl | exact Lib.hid trivial), HT⟩
      case measure => simp [intOf]; omega
    · have HG := Lib.hid (show ∀ hk : k < out.length, ¬ bytesOf out[k] < bytesOf s from fun h h2 => hgo ⟨h, h2⟩)
      clear hgo
      have FIN : ∀ w5 r3, OutAt w5 r3 (out.take k ++ s :: out.drop k) → Below w.heap.size w w5 → AddOut out F 1 w (.returned r3) w5 := fun w5 r3 h1 h2 => by
        rw [HFE.out]; exact ⟨r3, _, rfl, h1, srt_insert HS.out hk' hlt.out HG.out HNO.out, put_mem HNB.out, by simp; omega, h2⟩
      have HFIN := Lib.hid FIN
      clear FIN
      by_cases hkl : k < out.length
      · obtain ⟨_, rfl, rfl⟩ | ⟨g, rfl, hg, hc⟩ := hcs
        · omega
        have hcell := hc k hkl
        rw [Nat.zero_add] at hcell
        have hbl2 : Op.bytesLess (out[k]).toList s.toList = false := by rw [bl_dec]; simpa using HG.out hkl
        obtain ⟨r1, w2, r2, w4, r3, w5, hr1, hr2, hr3, ho5, hb5⟩ := put_tail w s _ _ _ _ (strs_drop (co := co) hg hc hzo hk' hl) (strs_take (co := co) hg hc hzo hk' hl) hz (by simp; omega) (by simp; omega)
        have HF := Lib.hid (HFIN.out _ _ ho5 hb5)
        obtain ⟨x, hx⟩ : ∃ x, x = out[k] := ⟨_, rfl⟩
        rw [← hx] at hcell hbl2
        clear hx ho5 hb5 HFIN HS HG HNO HNB
        go_wp2_with (first
          | (show wpList _ _ _ (⟨some 37, _, _, _, _, _⟩ :: _) _ _; refine wpList_append_eq rfl (.tmp 33) (.tmp 36) 22 22 rfl rfl rfl hr1 ?_)
          | (show wpList _ _ _ (⟨some 42, _, _, _, _, _⟩ :: _) _ _; refine wpList_append_eq rfl (.tmp 38) (.tmp 41) 22 22 rfl rfl rfl hr2 ?_)
          | (show wpList _ _ _ (⟨some 44, _, _, _, _, _⟩ :: _) _ _; refine wpList_append_eq rfl (.tmp 42) (.tmp 43) 22 22 rfl rfl rfl hr3 ?_))
        go_ret
        exact HF.out
      · obtain rfl : k = out.length := by omega
        obtain ⟨h0, rfl, rfl⟩ | ⟨g, rfl, hg, hc⟩ := hcs
        · obtain ⟨r1, w2, r2, w4, r3, w5, hr1, hr2, hr3, ho5, hb5⟩ := put_tail w s (.slice none 0 0) (.slice none 0 0) (out.drop out.length) (out.take out.length) (by rw [List.drop_length]; exact StrsAt.nil _ _) (by rw [List.take_length, List.eq_nil_of_length_eq_zero h0]; exact StrsAt.nil _ _) hz (by simp) (by simp; omega)
          have HF := Lib.hid (HFIN.out _ _ ho5 hb5)
          clear ho5 hb5 HFIN HS HG HNO HNB
          rw [h0]
          go_wp2_with (first
            | (show wpList _ _ _ (⟨some 37, _, _, _, _, _⟩ :: _) _ _; refine wpList_append_eq rfl (.tmp 33) (.tmp 36) 22 22 rfl rfl rfl hr1 ?_)
            | (show wpList _ _ _ (⟨some 42, _, _, _, _, _⟩ :: _) _ _; refine wpList_append_eq rfl (.tmp 38) (.tmp 41) 22 22 rfl rfl rfl hr2 ?_)
            | (show wpList _ _ _ (⟨some 44, _, _, _, _, _⟩ :: _) _ _; refine wpList_append_eq rfl (.tmp 42) (.tmp 43) 22 22 rfl rfl rfl hr3 ?_))
          go_ret
          exact HF.out
        · have hdn : out.drop out.length = [] := List.drop_length
          have htn := strs_take (co := co) hg hc hzo hk' hl
          by_cases hce : co = out.length
          · obtain ⟨r1, w2, r2, w4, r3, w5, hr1, hr2, hr3, ho5, hb5⟩ := put_tail w s (.slice (some ⟨g, 0, none⟩) 0 0) _ (out.drop out.length) _ (by rw [hdn]; exact ⟨_, _, rfl, by simp, by simp, by simp, .inl rfl⟩) htn hz (by simp) (by simp; omega)
            have HF := Lib.hid (HFIN.out _ _ ho5 hb5)
            clear ho5 hb5 HFIN HS HG HNO HNB htn hdn
            subst hce
            go_wp2_with (first
            | (show wpList _ _ _ (⟨some 37, _, _, _, _, _⟩ :: _) _ _; refine wpList_append_eq rfl (.tmp 33) (.tmp 36) 22 22 rfl rfl rfl hr1 ?_)
            | (show wpList _ _ _ (⟨some 42, _, _, _, _, _⟩ :: _) _ _; refine wpList_append_eq rfl (.tmp 38) (.tmp 41) 22 22 rfl rfl rfl hr2 ?_)
            | (show wpList _ _ _ (⟨some 44, _, _, _, _, _⟩ :: _) _ _; refine wpList_append_eq rfl (.tmp 42) (.tmp 43) 22 22 rfl rfl rfl hr3 ?_))
            go_ret
            exact HF.out
          · by_cases hl0 : out.length = 0
            · have h00 : out = [] := List.eq_nil_of_length_eq_zero hl0
              subst h00
              obtain ⟨r1, w2, r2, w4, r3, w5, hr1, hr2, hr3, ho5, hb5⟩ := put_tail w s (.slice (some ⟨g, 0, none⟩) 0 co) (.slice (some ⟨g, 0, none⟩) 0 co) [] [] ⟨_, _, rfl, by simp, by simp, by simp, .inl rfl⟩ ⟨_, _, rfl, by simp, by simp, by simp, .inl rfl⟩ hz (by simp) (by simp)
              have HF := Lib.hid (HFIN.out _ _ ho5 hb5)
              clear ho5 hb5 HFIN HS HG HNO HNB htn hdn hl0 hlt hl hk'
              go_wp2_with (first
            | (show wpList _ _ _ (⟨some 37, _, _, _, _, _⟩ :: _) _ _; refine wpList_append_eq rfl (.tmp 33) (.tmp 36) 22 22 rfl rfl rfl hr1 ?_)
            | (show wpList _ _ _ (⟨some 42, _, _, _, _, _⟩ :: _) _ _; refine wpList_append_eq rfl (.tmp 38) (.tmp 41) 22 22 rfl rfl rfl hr2 ?_)
            | (show wpList _ _ _ (⟨some 44, _, _, _, _, _⟩ :: _) _ _; refine wpList_append_eq rfl (.tmp 42) (.tmp 43) 22 22 rfl rfl rfl hr3 ?_))
              go_ret
              exact HF.out
            · obtain ⟨r1, w2, r2, w4, r3, w5, hr1, hr2, hr3, ho5, hb5⟩ := put_tail w s (.slice (some ⟨g, out.length, none⟩) 0 (co - out.length)) _ (out.drop out.length) _ (by rw [hdn]; exact ⟨_, _, rfl, by simp, by simp, by simp, .inl rfl⟩) htn hz (by simp) (by simp; omega)
              have HF := Lib.hid (HFIN.out _ _ ho5 hb5)
              clear ho5 hb5 HFIN HS HG HNO HNB htn hdn
              go_wp2_with (first
            | (show wpList _ _ _ (⟨some 37, _, _, _, _, _⟩ :: _) _ _; refine wpList_append_eq rfl (.tmp 33) (.tmp 36) 22 22 rfl rfl rfl hr1 ?_)
            | (show wpList _ _ _ (⟨some 42, _, _, _, _, _⟩ :: _) _ _; refine wpList_append_eq rfl (.tmp 38) (.tmp 41) 22 22 rfl rfl rfl hr2 ?_)
            | (show wpList _ _ _ (⟨some 44, _, _, _, _, _⟩ :: _) _ _; refine wpList_append_eq rfl (.tmp 42) (.tmp 43) 22 22 rfl rfl rfl hr3 ?_))
              go_ret
              exact HF.out

end Go.Proofs.YtjmlaeofjjhfmaaGreat
