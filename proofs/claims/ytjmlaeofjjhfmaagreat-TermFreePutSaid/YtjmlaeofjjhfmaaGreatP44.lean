/- The reference's free names: freeExp, freeClause, freeTerm. -/
import Derived.Test.YtjmlaeofjjhfmaaGreatP43
import Derived.Test.YtjmlaeofjjhfmaaGreatP41
import Derived.Test.YtjmlaeofjjhfmaaGreatP42
import Derived.Test.YtjmlaeofjjhfmaaGreatP27
import Derived.StillTailTactics
import Derived.Test.YtjmlaeofjjhfmaaGreatP26
import Derived.Deep.RegionLaw
import Derived.Deep.RegionHeld3
import Derived.Test.YtjmlaeofjjhfmaaGreatP28
import Derived.BigQuiet
import Derived.Deep.QuietTactic
import Derived.Test.YtjmlaeofjjhfmaaGreatP29
import Derived.Test.YtjmlaeofjjhfmaaGreatP39
set_option linter.unusedVariables false
set_option linter.unusedSimpArgs false
namespace Go.Proofs.YtjmlaeofjjhfmaaGreat
open Go.RowKit Go.Shelf Go.Maps Go.Sort

def fFn : Part → Nat
  | .proc _ => 121
  | .exp _ => 91
  | .def_ _ => 163
def fset (s : Nat) (bound : List ByteArray) (p : Part) : List UInt8 → Prop := fun k => freeN s p k = true ∧ k ∉ bound.map bytesOf
def FAt (s : Nat) : Prop := ∀ (p : Part), p.size ≤ s → p.size ≤ 60 → allSh p = true → agAll p = true → ∀ (B : Nat) (u w : World) (cs : List Value) (v vb : Value) (out bound : List ByteArray), KeptC B u w → B ≤ w.heap.size → PartCs B u cs p →
  OutAt w v out → StrsAt w.heap.size w vb bound → Srt out → out.length + p.size ≤ 900 → bound.length + 300 * p.size ≤ 30000 →
  Calls Tryz.prog (fFn p) #[v, vb, .agg cs.toArray] w (AddOut out (fset s bound p) p.size w)

/-- What has been gathered of some parts, on top of what was there. -/
def Gath (s : Nat) (out bound : List ByteArray) (n0 : Nat) (F0 : List UInt8 → Prop) (qs : List Part) (v : Value) (wr : World) : Prop :=
  ∃ out', OutAt wr v out' ∧ Srt out' ∧ (∀ x, x ∈ out'.map bytesOf ↔ x ∈ out.map bytesOf ∨ F0 x ∨ (qs.any (fun q => freeN s q x) = true ∧ x ∉ bound.map bytesOf)) ∧ out'.length ≤ out.length + n0 + sz qs
theorem Gath.nil {s : Nat} {out bound : List ByteArray} {v : Value} {w : World} (h : OutAt w v out) (hs : Srt out) : Gath s out bound 0 (fun _ => False) [] v w := ⟨out, h, hs, by simp, by simp⟩
theorem Gath.put {s : Nat} {out bound : List ByteArray} {F : List UInt8 → Prop} {w : World} {e : Ending} {w' : World} (h : AddOut out F 1 w e w') : ∃ v, e = .returned v ∧ Gath s out bound 1 F [] v w' ∧ Below w.heap.size w w' := by
  obtain ⟨v, out', rfl, h1, h2, h3, h4, h5⟩ := h
  exact ⟨v, rfl, ⟨out', h1, h2, by intro x; rw [h3]; simp, by omega⟩, h5⟩
theorem Gath.later {s : Nat} {out bound : List ByteArray} {n0 : Nat} {F0 : List UInt8 → Prop} {qs : List Part} {v : Value} {w w' : World} (h : Gath s out bound n0 F0 qs v w) (g : Below w.heap.size w w') : Gath s out bound n0 F0 qs v w' := by
  obtain ⟨out', h1, h2⟩ := h
  exact ⟨out', h1.later g, h2⟩
theorem Gath.step {s : Nat} {out bound : List ByteArray} {n0 : Nat} {F0 : List UInt8 → Prop} {qs : List Part} {out' : List ByteArray} {q : Part} {w : World} {e : Ending} {w' : World}
    (h : ∀ x, x ∈ out'.map bytesOf ↔ x ∈ out.map bytesOf ∨ F0 x ∨ (qs.any (fun q => freeN s q x) = true ∧ x ∉ bound.map bytesOf)) (hl : out'.length ≤ out.length + n0 + sz qs) (k : AddOut out' (fset s bound q) q.size w e w') :
    ∃ v, e = .returned v ∧ Gath s out bound n0 F0 (qs ++ [q]) v w' ∧ Below w.heap.size w w' := by
  obtain ⟨v, o2, rfl, h1, h2, h3, h4, h5⟩ := k
  refine ⟨v, rfl, ⟨o2, h1, h2, fun x => ?_, ?_⟩, h5⟩
  · rw [h3, h, List.any_append, Bool.or_eq_true, fset]
    simp only [List.any_cons, List.any_nil, Bool.or_false]
    constructor
    · rintro ((a | b | ⟨c, d⟩) | ⟨a, b⟩)
      · exact .inl a
      · exact .inr (.inl b)
      · exact .inr (.inr ⟨.inl c, d⟩)
      · exact .inr (.inr ⟨.inr a, b⟩)
    · rintro (a | b | ⟨c | c, d⟩)
      · exact .inl (.inl a)
      · exact .inl (.inr (.inl b))
      · exact .inl (.inr (.inr ⟨c, d⟩))
      · exact .inr ⟨c, d⟩
  · rw [sz_append, sz_one]; omega
theorem agAll_parts {p : Part} (h : agAll p = true) : ∀ q ∈ p.parts, agAll q = true := by
  rw [agAll_eq, Bool.and_eq_true] at h
  intro q hq
  exact List.all_eq_true.1 h.2 q hq
theorem allSh_parts {p : Part} (h : allSh p = true) : ∀ q ∈ p.parts, allSh q = true := by
  rw [allSh_eq, Bool.and_eq_true] at h
  intro q hq
  exact List.all_eq_true.1 h.2 q hq

theorem bytes_nil (t : ByteArray) (h : bytesOf t = []) : t.size = 0 := by
  have := congrArg List.length h
  simp only [bytesOf, List.length_nil, Array.length_toList] at this
  exact this
theorem name_ne {t : ByteArray} (h : nameB t = true) : (bytesOf t).isEmpty = false := by
  cases hh : bytesOf t with
  | nil =>
    have e := empty_of_size (bytes_nil t hh)
    subst e
    have : nameB ByteArray.empty = false := by kernel_rfl
    rw [this] at h; cases h
  | cons a l => rfl
theorem bytes_empty {t : ByteArray} (h : t.size = 0) : (bytesOf t).isEmpty = true := by rw [empty_of_size h]; rfl

set_option maxRecDepth 10000 in
set_option maxHeartbeats 4000000 in
theorem f_exp (s : Nat) (ih : FAt s) (op n : Int) (text : ByteArray) (kids : List Exp) (hs : (Part.exp (.mk op n text kids)).size ≤ s + 1) (h60 : (Part.exp (.mk op n text kids)).size ≤ 60) (hsh : allSh (.exp (.mk op n text kids)) = true)
    (B : Nat) (u w : World) (cs : List Value) (v vb : Value) (out bound : List ByteArray) (hu : KeptC B u w) (hBl : B ≤ w.heap.size) (hv : ExpAt B u cs (.mk op n text kids)) (ho : OutAt w v out) (hb : StrsAt w.heap.size w vb bound) (hs0 : Srt out)
    (hl : out.length + (Part.exp (.mk op n text kids)).size ≤ 900) (hbl : bound.length + 300 * (Part.exp (.mk op n text kids)).size ≤ 30000) :
    Calls Tryz.prog 91 #[v, vb, .agg cs.toArray] w (AddOut out (fset (s + 1) bound (.exp (.mk op n text kids))) (Part.exp (.mk op n text kids)).size w) := by
  unfold ExpAt at hv
  obtain ⟨hz, _, rfl, ⟨a0, p0, rfl, l0, h0⟩⟩ := hv
  have hss := size_sz (Part.exp (.mk op n text kids))
  simp only [Part.parts] at hss
  have hkl := len_sz Part.exp kids
  have hshk := allSh_parts hsh
  rw [allSh_eq, Bool.and_eq_true] at hsh
  have hsp := hsh.1
  clear hsh
  simp only [Part.shaped, shapedEB, Bool.or_eq_true, Bool.and_eq_true, beq_iff_eq, decide_eq_true_eq] at hsp
  obtain ⟨F, hF⟩ : ∃ F, F = fset (s + 1) bound (.exp (.mk op n text kids)) := ⟨_, rfl⟩
  obtain ⟨N, hN⟩ : ∃ N, N = (Part.exp (.mk op n text kids)).size := ⟨_, rfl⟩
  rw [← hF, ← hN]
  rw [← hN] at hs h60 hl hbl hss
  obtain ⟨W1, hW1⟩ : ∃ W1, W1 = w.alloc (.cells #[.int .i64 op, .int .i64 n, .string text, .slice a0 kids.length p0] 36) := ⟨_, rfl⟩
  have z1 : W1.heap.size = w.heap.size + 1 := by rw [hW1]; simp
  have b1 : Below w.heap.size w W1 := by rw [hW1]; exact (Below.refl _ w).alloc (Nat.le_refl _) _
  have hbox : ∀ W, Below W1.heap.size W1 W → W.cell? ⟨w.heap.size, 3, none⟩ = some (.slice a0 kids.length p0) := fun W hW => by
    rw [hW.cell (p := ⟨w.heap.size, 3, none⟩) (by simp; omega), hW1, World.cell?_alloc_at _ _ _ _ rfl]; rfl
  by_cases ho2 : op = 2
  · have hk0 : kids = [] ∧ nameB text = true := by
      rcases hsp with (⟨⟨⟨⟨h, _⟩, _⟩, _⟩, _⟩ | ⟨⟨⟨_, _⟩, h1⟩, h2⟩) | ⟨⟨⟨⟨h, _⟩, _⟩, _⟩, _⟩
      · omega
      · exact ⟨List.eq_nil_of_length_eq_zero h2, h1⟩
      · omega
    obtain ⟨rfl, hnm⟩ := hk0
    have hne := name_ne hnm
    have hFF : F = fun k => k = bytesOf text ∧ k ∉ bound.map bytesOf := by
      rw [hF]; funext k; simp [fset, freeN, Part.parts, bindsP, standsP, hne]
    have hpr := put_ref v vb out bound text W1 (ho.later b1) (hb.later b1) hz hs0 (by omega)
    rw [← hFF] at hpr
    have hN1 : 1 ≤ N := by omega
    subst ho2
    have HW := Lib.hid (show W1 = w.alloc (.cells #[.int .i64 2, .int .i64 n, .string text, .slice a0 0 p0] 36) from hW1); have HB := Lib.hid (show ∀ W, Below W1.heap.size W1 W → W.cell? ⟨w.heap.size, 3, none⟩ = some (.slice a0 0 p0) from hbox)
    have hbx1 := HB.out W1 (Below.refl _ _)
    rw [HW.out] at hbx1
    obtain ⟨ab, cb, rfl, _⟩ := hb
    obtain ⟨ao, co, rfl, _⟩ := ho.strs
    clear hFF hW1 hbox hsp hshk hF hN ih ho hnm hne h0
    go_enter Tryz.func91, Tryz.ntmps91
    go_wp2_with (go_at_call 143; rw [← HW.out]; refine hpr.mono ?_; clear hpr; rintro e w2 ⟨v2, o2, rfl, q1, q2, q3, q4, q5⟩; have hbx2 := HB.out w2 q5)
    refine wp_loop_rounds 1 ?_
    rw [rounds_succ]
    go_wp2
    go_ret
    exact ⟨v2, o2, rfl, q1, q2, q3, by omega, b1.trans (q5.mono (by omega))⟩
  · have hte : text.size = 0 := by
      rcases hsp with (⟨⟨⟨⟨_, _⟩, _⟩, h⟩, _⟩ | ⟨⟨⟨h, _⟩, h1⟩, h2⟩) | ⟨⟨⟨⟨_, _⟩, _⟩, h⟩, _⟩
      · exact h
      · exact absurd h ho2
      · exact h
    have hFF : ∀ k, F k ↔ ((kids.map Part.exp).any (fun q => freeN s q k) = true ∧ k ∉ bound.map bytesOf) := by
      intro k
      rw [hF]; simp [fset, freeN, Part.parts, bindsP, standsP, bytes_empty hte]
    have hcall := fun k (hk : k < kids.length) (cs : List Value) (W : World) (vo : Value) (o2 : List ByteArray) (h1 : KeptC B u W) (h2 : B ≤ W.heap.size) (h3 : ExpAt B u cs kids[k]) (h4 : OutAt W vo o2) (h5 : StrsAt W.heap.size W vb bound) (h6 : Srt o2) (h7 : o2.length ≤ out.length + 0 + sz ((kids.take k).map Part.exp)) =>
      ih (.exp kids[k]) (by have := sz_mem Part.exp hk; omega) (by have := sz_mem Part.exp hk; omega) (hshk _ (List.mem_map.2 ⟨_, List.getElem_mem hk, rfl⟩)) (agAll_exp _) B u W cs vo vb o2 bound h1 h2 h3 h4 h5 h6 (by have := sz_take Part.exp kids k hk; have := sz_le Part.exp kids (k + 1); omega) (by have := sz_mem Part.exp hk; omega)
    have hG0 : Gath s out bound 0 (fun _ => False) [] v W1 := (Gath.nil ho hs0).later b1
    have HC := Lib.hid hcall; have HFF := Lib.hid hFF; have HW := Lib.hid hW1; have HB := Lib.hid hbox; have HG0 := Lib.hid hG0
    have hbs := hb
    have HBS := Lib.hid hbs
    obtain ⟨ab, cb, rfl, _⟩ := hb
    obtain ⟨ao, co, rfl, _⟩ := ho.strs
    clear hcall hFF hW1 hbox hG0 hbs hsp hshk hF hN ih ho
    have hbx1 := HB.out W1 (Below.refl _ _)
    rw [HW.out] at hbx1
    have ho2' : (op == 2) = false := by simpa using ho2
    have hb0 : Below W1.heap.size W1 W1 := Below.refl _ _
    clear hbx1
    have hbx1 := HB.out W1 (Below.refl _ _)
    rw [HW.out] at hbx1
    go_enter Tryz.func91, Tryz.ntmps91
    go_wp2
    rw [← HW.out]
    go_loopw [0, 7] (fun vo i wr => ∃ (k : Nat), k ≤ kids.length ∧ i = .int .i64 k ∧ Hid (Gath s out bound 0 (fun _ => False) ((kids.take k).map .exp) vo wr) ∧ Below W1.heap.size W1 wr) (fun _ i _ => kids.length - (intOf i).toNat)
    case atStart => exact ⟨0, by omega, rfl, HG0, hb0⟩
    case round =>
      obtain ⟨k, hk', rfl, hm, hB⟩ := hrel
      have hBw := b1.trans (hB.mono (by omega))
      have hBz := hBw.size
      have hbox := HB.out _ hB
      by_cases hlt : k < kids.length
      · rcases h0 with h00 | ⟨bb, off, rfl, hbb, hk⟩
        · omega
        obtain ⟨cs, hcs, hexp⟩ := hk.get kids bb off k hlt
        obtain ⟨o2, g1, g2, g3, g4⟩ := hm.out
        have hih := HC.out k hlt cs wr _ o2 (hu.trans ((Below.keptC hBw).mono hBl)) (by omega) hexp g1 (HBS.out.later hBw) g2 g4
        obtain ⟨e0, he0⟩ : ∃ e, e = kids[k] := ⟨_, rfl⟩
        have htk : (kids.take (k + 1)).map Part.exp = ((kids.take k).map Part.exp) ++ [Part.exp e0] := by
          rw [List.take_succ_eq_append_getElem hlt, List.map_append, he0]; simp
        rw [← he0] at hexp hih
        have hih2 := hih.mono (fun e w2 hq => Gath.step g3 g4 hq)
        rw [← htk] at hih2
        have HK : ∀ e w2, (∃ v, e = Ending.returned v ∧ Gath s out bound 0 (fun _ => False) ((kids.take (k + 1)).map Part.exp) v w2 ∧ Below wr.heap.size wr w2) → ∃ v, e = Ending.returned v ∧ Hid (Gath s out bound 0 (fun _ => False) ((kids.take (k + 1)).map Part.exp) v w2) ∧ Below wr.heap.size wr w2 := fun e w2 ⟨v, h1, h2, h3⟩ => ⟨v, h1, Lib.hid h2, h3⟩
        have hih3 := hih2.mono HK
        obtain ⟨oa, oc, rfl, _⟩ := g1.strs
        clear hih hih2 HK he0 htk g1 g2 g3 g4
        obtain ⟨oo, no, to, ko⟩ := e0
        unfold ExpAt at hexp
        obtain ⟨_, _, rfl, x0, y0, rfl, _⟩ := hexp
        obtain ⟨c0, c1, c2, c3⟩ := cells4 ((hcs.keep hu hbb).below hBw (by omega))
        clear hcs hk
        go_wp2_with (go_at_call 91; refine hih3.mono ?_; clear hih3; rintro e w2 ⟨v2, rfl, HG2, hb2⟩)
        go_roundw
        case rel => exact ⟨k + 1, by omega, by go_num, HG2, hB.trans (hb2.mono hB.size)⟩
        case measure => simp [intOf]; omega
      · obtain rfl : k = kids.length := by omega
        obtain ⟨o2, g1, g2, g3, g4⟩ := hm.out
        rw [List.take_length] at g3 g4
        have HFIN := Lib.hid (show AddOut out F N w (.returned _) wr from ⟨_, o2, rfl, g1, g2, fun x => by rw [g3, HFF.out]; simp, by omega, hBw⟩)
        clear g1 g2 g3 g4
        go_wp2
        go_ret
        exact HFIN.out

end Go.Proofs.YtjmlaeofjjhfmaaGreat
/- name of what the reference has seen, whatever comes in. -/
namespace Go.Proofs.YtjmlaeofjjhfmaaGreat
open Go.RowKit Go.Shelf Go.Maps

def SeenB (U : List UInt8 → Int × Int) (A sb X : Nat) (ch pl : List ByteArray) (bad : Bool) (W : World) : Prop := ∃ vch vm va vp, Seen A sb X ch pl vch vm va vp bad (manyL U ch) (atL U ch) W

end Go.Proofs.YtjmlaeofjjhfmaaGreat
/- join of what the reference has seen, whatever comes in. -/
namespace Go.Proofs.YtjmlaeofjjhfmaaGreat
open Go.RowKit Go.Shelf Go.Maps

end Go.Proofs.YtjmlaeofjjhfmaaGreat
/- look of the reference, whatever comes in. -/
namespace Go.Proofs.YtjmlaeofjjhfmaaGreat
open Go.RowKit Go.Shelf Go.Maps

structure LkB (U : List UInt8 → Int × Int) (n0 xb : Nat) (gs : List (List Clause)) (pl : List ByteArray) (w w2 : World) (i j l : Nat) (bad : Bool) (W : World) : Prop where
  seen : SeenB U (n0 + 1) n0 xb (chFold [] (seenTo gs i j l)) pl bad W
  below : Below n0 w W
  row : W.heap[xb]? = w2.heap[xb]?
  lt : xb < W.heap.size
end Go.Proofs.YtjmlaeofjjhfmaaGreat
/- The reference's look at all TermDefs of a process: defs, within. -/
namespace Go.Proofs.YtjmlaeofjjhfmaaGreat
open Go.RowKit

theorem texts_of_sh {d : List Clause} (h : allShL (d.map .def_) = true) : (alltexts (groupsL d)).length ≤ 3 * csize d := by
  refine texts_le d (fun q hq => okJ_of ?_)
  rw [nodesCs_eq] at hq
  obtain ⟨p, hp, hqp⟩ := List.mem_flatMap.1 hq
  unfold allShL at h
  rw [List.all_eq_true] at h
  have h2 := h p hp
  unfold allSh at h2
  rw [List.all_eq_true] at h2
  exact h2 q hqp
theorem csize_sz (d : List Clause) : csize d = sz (d.map .def_) := by rw [csize, nodesCs_eq]; rfl

end Go.Proofs.YtjmlaeofjjhfmaaGreat
/- The reference's free names: freeTerm. -/
namespace Go.Proofs.YtjmlaeofjjhfmaaGreat
open Go.RowKit Go.Shelf Go.Maps Go.Sort

theorem gath_call (s : Nat) (ih : FAt s) (q : Part) (hq : q.size ≤ s) (h60 : q.size ≤ 60) (hsh : allSh q = true) (hag : agAll q = true) (B : Nat) (u wr : World) (cs : List Value) (vo vb : Value) (out bound : List ByteArray) (n0 : Nat) (F0 : List UInt8 → Prop) (qs : List Part)
    (hu : KeptC B u wr) (hB : B ≤ wr.heap.size) (hc : PartCs B u cs q) (hm : Gath s out bound n0 F0 qs vo wr) (hb : StrsAt wr.heap.size wr vb bound) (hl : out.length + n0 + sz qs + q.size ≤ 900) (hbl : bound.length + 300 * q.size ≤ 30000) :
    Calls Tryz.prog (fFn q) #[vo, vb, .agg cs.toArray] wr fun e w' => ∃ v, e = .returned v ∧ Hid (Gath s out bound n0 F0 (qs ++ [q]) v w') ∧ Below wr.heap.size wr w' := by
  obtain ⟨o2, g1, g2, g3, g4⟩ := hm
  refine (ih q hq h60 hsh hag B u wr cs vo vb o2 bound hu hB hc g1 hb g2 (by omega) hbl).mono ?_
  intro e w' hq2
  obtain ⟨v, h1, h2, h3⟩ := Gath.step g3 g4 hq2
  exact ⟨v, h1, Lib.hid h2, h3⟩
theorem Gath.slice {s : Nat} {out bound : List ByteArray} {n0 : Nat} {F0 : List UInt8 → Prop} {qs : List Part} {v : Value} {w : World} (h : Gath s out bound n0 F0 qs v w) : ∃ a l c, v = .slice a l c := by
  obtain ⟨o2, g1, _⟩ := h
  obtain ⟨a, c, rfl, _⟩ := g1.strs
  exact ⟨_, _, _, rfl⟩
theorem take_map {α : Type} (f : α → Part) (l : List α) (k : Nat) (h : k < l.length) (e0 : α) (he : e0 = l[k]) (qs : List Part) : qs ++ (l.take (k + 1)).map f = (qs ++ (l.take k).map f) ++ [f e0] := by
  rw [List.take_succ_eq_append_getElem h, List.map_append, he]; simp

set_option maxRecDepth 10000 in
set_option maxHeartbeats 8000000 in
theorem f_term4 (s : Nat) (ih : FAt s) (text : ByteArray) (args : List Exp) (defs : List Clause) (kids : List Term) (hs : (Part.proc (.mk 4 text args defs kids)).size ≤ s + 1) (h60 : (Part.proc (.mk 4 text args defs kids)).size ≤ 60) (hsh : allSh (.proc (.mk 4 text args defs kids)) = true) (hag : agAll (.proc (.mk 4 text args defs kids)) = true)
    (B : Nat) (u w : World) (cs : List Value) (v vb : Value) (out bound : List ByteArray) (hu : KeptC B u w) (hBl : B ≤ w.heap.size) (hv : TermAt B u cs (.mk 4 text args defs kids)) (ho : OutAt w v out) (hb : StrsAt w.heap.size w vb bound) (hs0 : Srt out)
    (hl : out.length + (Part.proc (.mk 4 text args defs kids)).size ≤ 900) (hbl : bound.length + 300 * (Part.proc (.mk 4 text args defs kids)).size ≤ 30000) :
    Calls Tryz.prog 121 #[v, vb, .agg cs.toArray] w (AddOut out (fset (s + 1) bound (.proc (.mk 4 text args defs kids))) (Part.proc (.mk 4 text args defs kids)).size w) := by
  unfold TermAt at hv
  obtain ⟨hz, _, _, _, rfl, ⟨a0, p0, rfl, l0, h0⟩, ⟨a1, p1, rfl, l1, h1⟩, ⟨a2, p2, rfl, l2, h2⟩⟩ := hv
  have hss := size_sz (Part.proc (.mk 4 text args defs kids))
  simp only [Part.parts, sz_append] at hss
  have hshk := allSh_parts hsh
  have hagk := agAll_parts hag
  have hag0 := hag
  rw [agAll_eq, Bool.and_eq_true] at hag0
  have hagB : agreeB defs = true := by simpa [agreesB] using hag0.1
  have hsd : allShL (defs.map .def_) = true := by
    have h := hsh
    rw [allSh_eq] at h
    simp only [Part.parts, allShL_append, Bool.and_eq_true] at h
    exact h.2.1.2
  rw [allSh_eq, Bool.and_eq_true] at hsh
  have hsp := hsh.1
  simp only [Part.shaped, shapedTB, Bool.or_eq_true, Bool.and_eq_true, beq_iff_eq, decide_eq_true_eq] at hsp
  have hsp' : text.size = 0 ∧ args.length = 0 := by omega
  obtain ⟨ht0, hg0⟩ := hsp'
  obtain rfl := empty_of_size ht0
  obtain rfl := List.eq_nil_of_length_eq_zero hg0
  clear hsp hsh hag0 hag ht0 hg0
  have hcs := csize_sz defs
  have htx := texts_of_sh hsd
  have hck : (channelsL defs ++ placesL defs).length ≤ 240 := by
    have h1 := chFold_len [] (alltexts (groupsL defs))
    have h2 := placesL_len defs
    rw [List.length_append]; unfold channelsL; simp at h1; unfold csize at *; omega
  obtain ⟨U, hU⟩ := agreeB_iff.1 hagB
  have hbd := bound_any B u defs ⟨U, by omega, by omega, hU⟩ (by omega) a1 p1 l1 h1
  obtain ⟨bn, hbn⟩ : ∃ bn, bn = channelsL defs ++ placesL defs := ⟨_, rfl⟩
  rw [← hbn] at hbd hck
  obtain ⟨F, hF⟩ : ∃ F, F = fset (s + 1) bound (.proc (.mk 4 ByteArray.empty [] defs kids)) := ⟨_, rfl⟩
  obtain ⟨N, hN⟩ : ∃ N, N = (Part.proc (.mk 4 ByteArray.empty [] defs kids)).size := ⟨_, rfl⟩
  have hFF : ∀ k, F k ↔ ((defs.map Part.def_ ++ kids.map Part.proc).any (fun q => freeN s q k) = true ∧ k ∉ (bound ++ bn).map bytesOf) := by
    intro k
    rw [hF, hbn]
    have e : (bytesOf ByteArray.empty).isEmpty = true := rfl
    simp only [fset, freeN, Part.parts, bindsP, standsP, e, if_true, List.map_nil, List.nil_append, Bool.not_true, Bool.false_and, Bool.or_false, Bool.and_eq_true, Bool.not_eq_true', List.map_append, List.mem_append, not_or]
    have e2 : ((channelsL defs ++ placesL defs).any fun b => k == bytesOf b) = false ↔ (k ∉ (channelsL defs).map bytesOf ∧ k ∉ (placesL defs).map bytesOf) := by
      rw [← not_or, ← List.mem_append, ← List.map_append, ← Bool.not_eq_true, List.any_eq_true]
      simp only [List.mem_map, beq_iff_eq]
      constructor
      · rintro h ⟨x, hx, rfl⟩; exact h ⟨x, hx, rfl⟩
      · rintro h ⟨x, hx, e⟩; exact h ⟨x, hx, e.symm⟩
    rw [e2]
    constructor
    · rintro ⟨⟨a, b, c⟩, d⟩; exact ⟨a, d, b, c⟩
    · rintro ⟨a, d, b, c⟩; exact ⟨⟨a, b, c⟩, d⟩
  rw [← hF, ← hN]
  rw [← hN] at hs h60 hl hbl hss
  obtain ⟨W1, hW1⟩ : ∃ W1, W1 = w.alloc (.cells #[.int .i64 4, .string ByteArray.empty, .slice a0 0 p0, .slice a1 defs.length p1, .slice a2 kids.length p2] 33) := ⟨_, rfl⟩
  have z1 : W1.heap.size = w.heap.size + 1 := by rw [hW1]; simp
  have b1 : Below w.heap.size w W1 := by rw [hW1]; exact (Below.refl _ w).alloc (Nat.le_refl _) _
  have cc : ∀ W, Below W1.heap.size W1 W → W.cell? ⟨w.heap.size, 0, none⟩ = some (.int .i64 4) ∧ W.cell? ⟨w.heap.size, 2, none⟩ = some (.slice a0 0 p0) ∧ W.cell? ⟨w.heap.size, 3, none⟩ = some (.slice a1 defs.length p1) ∧ W.cell? ⟨w.heap.size, 4, none⟩ = some (.slice a2 kids.length p2) := fun W hW => by
    have e : ∀ o, W.cell? ⟨w.heap.size, o, none⟩ = W1.cell? ⟨w.heap.size, o, none⟩ := fun o => hW.cell (p := ⟨w.heap.size, o, none⟩) (by simp; omega)
    rw [e, e, e, e, hW1]
    simp only [World.cell?_alloc_at _ _ _ _ rfl]
    exact ⟨rfl, rfl, rfl, rfl⟩
  have hsz3 : sz (defs.map Part.def_) + sz (kids.map Part.proc) + 1 ≤ N := by simp at hss; omega
  have hm1 : ∀ (k : Nat) (h : k < defs.length), (Part.def_ defs[k]).size + 1 ≤ N ∧ allSh (.def_ defs[k]) = true ∧ agAll (.def_ defs[k]) = true := fun k h =>
    ⟨by have := sz_mem Part.def_ h; omega, hshk _ (by simp only [Part.parts]; exact List.mem_append.2 (.inl (List.mem_append.2 (.inr (List.mem_map.2 ⟨_, List.getElem_mem h, rfl⟩))))), hagk _ (by simp only [Part.parts]; exact List.mem_append.2 (.inl (List.mem_append.2 (.inr (List.mem_map.2 ⟨_, List.getElem_mem h, rfl⟩)))))⟩
  have hm2 : ∀ (k : Nat) (h : k < kids.length), (Part.proc kids[k]).size + 1 ≤ N ∧ allSh (.proc kids[k]) = true ∧ agAll (.proc kids[k]) = true := fun k h =>
    ⟨by have := sz_mem Part.proc h; omega, hshk _ (by simp only [Part.parts]; exact List.mem_append.2 (.inr (List.mem_map.2 ⟨_, List.getElem_mem h, rfl⟩))), hagk _ (by simp only [Part.parts]; exact List.mem_append.2 (.inr (List.mem_map.2 ⟨_, List.getElem_mem h, rfl⟩)))⟩
  have hst1 : ∀ (k : Nat) (h : k < defs.length), sz ((defs.take k).map Part.def_) + (Part.def_ defs[k]).size ≤ sz (defs.map Part.def_) := fun k h => by have := sz_take Part.def_ defs k h; have := sz_le Part.def_ defs (k + 1); omega
  have hst2 : ∀ (k : Nat) (h : k < kids.length), sz ((kids.take k).map Part.proc) + (Part.proc kids[k]).size ≤ sz (kids.map Part.proc) := fun k h => by have := sz_take Part.proc kids k h; have := sz_le Part.proc kids (k + 1); omega
  have hbd1 := hbd W1 (hu.trans ((Below.keptC b1).mono hBl)) (by omega)
  have hbs := hb.later b1
  have hG0 := (Gath.nil (s := s) (bound := bound ++ bn) ho hs0).later b1
  have HW := Lib.hid hW1; have HC := Lib.hid cc; have HFF := Lib.hid hFF; have HM1 := Lib.hid hm1; have HM2 := Lib.hid hm2; have HT1 := Lib.hid hst1; have HT2 := Lib.hid hst2; have HBS := Lib.hid hbs; have HG0 := Lib.hid hG0; have HS3 := Lib.hid hsz3; have IH := Lib.hid ih
  obtain ⟨ab, cb, rfl, _⟩ := hb
  obtain ⟨ao, co, rfl, _⟩ := ho.strs
  obtain ⟨x0, x2, x3, x4⟩ := HC.out W1 (Below.refl _ _)
  rw [HW.out] at x0 x2 x3 x4
  have hbl0 : bound.length ≤ 30000 := by omega
  clear hF hFF hm1 hm2 hst1 hst2 hbd hbs hG0 hW1 cc hN hshk hagk hsd hcs htx hU hbn hsz3 hss hs0 ho ih hagB h0
  go_enter Tryz.func121, Tryz.ntmps121
  go_wp2
  refine wp_loop_rounds 1 ?_
  rw [rounds_succ]
  go_wp2_with (first
    | (go_at_call 52; rw [← HW.out]; refine hbd1.mono ?_; clear hbd1; rintro e w2 ⟨vn, rfl, hvn, hb2⟩)
    | (go_at_call 79; refine (both_any _ vn bound bn w2 (HBS.out.later hb2) hvn (by omega) (by omega)).mono ?_; rintro e w3 ⟨vb3, rfl, hvb3, hb3⟩; have hb13 := hb2.trans (hb3.mono hb2.size); obtain ⟨y0, y2, y3, y4⟩ := HC.out w3 hb13))
  have HB13 := Lib.hid hb13
  have hz13 := hb13.size
  have hbw3 := b1.trans (hb13.mono (by omega))
  obtain ⟨BND, hBND⟩ : ∃ BND, BND = bound ++ bn := ⟨_, rfl⟩
  have hbnl : BND.length ≤ bound.length + 240 := by rw [hBND, List.length_append]; omega
  have HFF' := HFF.out
  have HG0' := HG0.out
  rw [← hBND] at HFF' HG0' hvb3
  have HGD := Lib.hid (show Gath s out BND 0 (fun _ => False) (([] : List Part) ++ (defs.take 0).map .def_) _ w3 from by simpa using HG0'.later hb13)
  have HBD : Below w3.heap.size w3 w3 := Below.refl _ _
  have HV := Lib.hid (show ∀ W, Below w3.heap.size w3 W → StrsAt W.heap.size W vb3 BND from fun W h => (hvb3.later h).strs)
  obtain ⟨oa3, oc3, hvb3', _⟩ := hvb3.strs
  subst hvb3'
  have HFF := Lib.hid HFF'
  clear HFF' HG0' hvb3 hb2 hb3 hvn HBS HG0 hBND
  go_loopw [0, 8] (fun vo i wr => ∃ (k : Nat), k ≤ defs.length ∧ i = .int .i64 k ∧ Hid (Gath s out BND 0 (fun _ => False) (([] : List Part) ++ (defs.take k).map .def_) vo wr) ∧ Below w3.heap.size w3 wr) (fun _ i _ => defs.length - (intOf i).toNat)
  case atStart => exact ⟨0, by omega, rfl, HGD, HBD⟩
  case round =>
    obtain ⟨k, hk', rfl, hm, hB⟩ := hrel
    have hBw := hbw3.trans (hB.mono (by omega))
    have hBz := hBw.size
    obtain ⟨z0, z2, z3, z4⟩ := HC.out _ (HB13.out.trans (hB.mono (by omega)))
    obtain ⟨oa, ol, oc, rfl⟩ := hm.out.slice
    by_cases hlt : k < defs.length
    · rcases h1 with h00 | ⟨bb, off, rfl, hbb, hk⟩
      · omega
      obtain ⟨cs, hcs, hexp⟩ := hk.get defs bb off k hlt
      obtain ⟨m1, m2, m3⟩ := HM1.out k hlt
      have m4 := HT1.out k hlt
      have m5 := HS3.out
      have hcall := gath_call s IH.out (.def_ defs[k]) (by omega) (by omega) m2 m3 B u wr cs _ _ out BND 0 (fun _ => False) _ (hu.trans ((Below.keptC hBw).mono hBl)) (by omega) hexp hm.out (HV.out _ hB) (by rw [List.nil_append]; omega) (by omega)
      obtain ⟨e0, he0⟩ : ∃ e, e = defs[k] := ⟨_, rfl⟩
      rw [← take_map Part.def_ defs k hlt defs[k] rfl] at hcall
      rw [← he0] at hexp hcall
      clear m1 m2 m3 m4 m5 he0
      obtain ⟨oo, to, jo, do', ko⟩ := e0
      unfold ClauseAt at hexp
      obtain ⟨_, _, _, _, rfl, ⟨s0, t0, rfl, _⟩, ⟨s1, t1, rfl, _⟩, ⟨s2, t2, rfl, _⟩⟩ := hexp
      obtain ⟨c0, c1, c2, c3, c4⟩ := cells5 ((hcs.keep hu hbb).below hBw (by omega))
      clear hcs hk hm
      go_wp2_with (go_at_call 163; refine hcall.mono ?_; clear hcall; rintro e w5 ⟨v5, rfl, HG5, hb5⟩)
      go_roundw
      case rel => exact ⟨k + 1, by omega, by go_num, HG5, hB.trans (hb5.mono hB.size)⟩
      case measure => simp [intOf]; omega
    · obtain rfl : k = defs.length := by omega
      have hm2 := hm.out
      rw [List.take_length, List.nil_append] at hm2
      have HGA := Lib.hid (show Gath s out BND 0 (fun _ => False) (defs.map .def_ ++ (kids.take 0).map .proc) _ wr from by simpa using hm2)
      obtain ⟨wa, hwa⟩ : ∃ wa : World, wa = wr := ⟨_, rfl⟩
      subst hwa
      have HBA := hB
      clear hm hm2 hB hBw hBz
      go_wp2
      go_loopw [0, 9] (fun vo i wr => ∃ (k : Nat), k ≤ kids.length ∧ i = .int .i64 k ∧ Hid (Gath s out BND 0 (fun _ => False) (defs.map .def_ ++ (kids.take k).map .proc) vo wr) ∧ Below w3.heap.size w3 wr) (fun _ i _ => kids.length - (intOf i).toNat)
      case atStart => exact ⟨0, by omega, rfl, HGA, HBA⟩
      case round =>
        obtain ⟨k, hk', rfl, hm, hB⟩ := hrel
        have hBw := hbw3.trans (hB.mono (by omega))
        have hBz := hBw.size
        obtain ⟨z0, z2, z3, z4⟩ := HC.out _ (HB13.out.trans (hB.mono (by omega)))
        obtain ⟨oa, ol, oc, rfl⟩ := hm.out.slice
        by_cases hlt : k < kids.length
        · rcases h2 with h00 | ⟨bb, off, rfl, hbb, hk⟩
          · omega
          obtain ⟨cs, hcs, hexp⟩ := hk.get kids bb off k hlt
          obtain ⟨m1, m2, m3⟩ := HM2.out k hlt
          have m4 := HT2.out k hlt
          have m5 := HS3.out
          have hcall := gath_call s IH.out (.proc kids[k]) (by omega) (by omega) m2 m3 B u wr cs _ _ out BND 0 (fun _ => False) _ (hu.trans ((Below.keptC hBw).mono hBl)) (by omega) hexp hm.out (HV.out _ hB) (by rw [sz_append]; omega) (by omega)
          obtain ⟨e0, he0⟩ : ∃ e, e = kids[k] := ⟨_, rfl⟩
          rw [← take_map Part.proc kids k hlt kids[k] rfl] at hcall
          rw [← he0] at hexp hcall
          clear m1 m2 m3 m4 m5 he0
          obtain ⟨oo, to, ao', do', ko⟩ := e0
          unfold TermAt at hexp
          obtain ⟨_, _, _, _, rfl, ⟨s0, t0, rfl, _⟩, ⟨s1, t1, rfl, _⟩, ⟨s2, t2, rfl, _⟩⟩ := hexp
          obtain ⟨c0, c1, c2, c3, c4⟩ := cells5 ((hcs.keep hu hbb).below hBw (by omega))
          clear hcs hk hm
          go_wp2_with (go_at_call 121; refine hcall.mono ?_; clear hcall; rintro e w5 ⟨v5, rfl, HG5, hb5⟩)
          go_roundw
          case rel => exact ⟨k + 1, by omega, by go_num, HG5, hB.trans (hb5.mono hB.size)⟩
          case measure => simp [intOf]; omega
        · obtain rfl : k = kids.length := by omega
          have hm2 := hm.out
          rw [List.take_length] at hm2
          obtain ⟨o2, g1, g2, g3, g4⟩ := hm2
          have HFIN := Lib.hid (show AddOut out F N w (.returned _) wr from ⟨_, o2, rfl, g1, g2, fun x => by rw [g3, HFF.out]; simp, by have := HS3.out; rw [sz_append] at g4; omega, hBw⟩)
          clear g1 g2 g3 g4 hm
          go_wp2
          go_ret
          exact HFIN.out

end Go.Proofs.YtjmlaeofjjhfmaaGreat
