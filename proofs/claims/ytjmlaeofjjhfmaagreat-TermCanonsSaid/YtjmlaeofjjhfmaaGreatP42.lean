/- The reference's free names: freeExp, freeClause, freeTerm. -/
import Derived.Test.YtjmlaeofjjhfmaaGreatP41
import Derived.Test.YtjmlaeofjjhfmaaGreatP27
import Derived.StillTailTactics
import Derived.Test.YtjmlaeofjjhfmaaGreatP26
import Derived.Deep.RegionLaw
import Derived.Deep.RegionHeld3
import Derived.Test.YtjmlaeofjjhfmaaGreatP28
import Derived.BigQuiet
import Derived.Deep.QuietTactic
import Derived.Test.YtjmlaeofjjhfmaaGreatP29
import Derived.Test.YtjmlaeofjjhfmaaGreatP39
import Derived.Test.YtjmlaeofjjhfmaaGreatP40
import Derived.Test.YtjmlaeofjjhfmaaGreatP10
import Derived.Test.YtjmlaeofjjhfmaaGreatP32
import Derived.Test.YtjmlaeofjjhfmaaGreatP31
set_option linter.unusedVariables false
set_option linter.unusedSimpArgs false
namespace Go.Proofs.YtjmlaeofjjhfmaaGreat
open Go.RowKit Go.Shelf Go.Maps Go.Sort

def fset (s : Nat) (bound : List ByteArray) (p : Part) : List UInt8 → Prop := fun k => freeN s p k = true ∧ k ∉ bound.map bytesOf
/-- What has been gathered of some parts, on top of what was there. -/
def Gath (s : Nat) (out bound : List ByteArray) (n0 : Nat) (F0 : List UInt8 → Prop) (qs : List Part) (v : Value) (wr : World) : Prop :=
  ∃ out', OutAt wr v out' ∧ Srt out' ∧ (∀ x, x ∈ out'.map bytesOf ↔ x ∈ out.map bytesOf ∨ F0 x ∨ (qs.any (fun q => freeN s q x) = true ∧ x ∉ bound.map bytesOf)) ∧ out'.length ≤ out.length + n0 + sz qs
theorem Gath.nil {s : Nat} {out bound : List ByteArray} {v : Value} {w : World} (h : OutAt w v out) (hs : Srt out) : Gath s out bound 0 (fun _ => False) [] v w := ⟨out, h, hs, by simp, by simp⟩
theorem Gath.put {s : Nat} {out bound : List ByteArray} {F : List UInt8 → Prop} {w : World} {e : Ending} {w' : World} (h : AddOut out F 1 w e w') : ∃ v, e = .returned v ∧ Gath s out bound 1 F [] v w' ∧ Below w.heap.size w w' := by
  obtain ⟨v, out', rfl, h1, h2, h3, h4, h5⟩ := h
  exact ⟨v, rfl, ⟨out', h1, h2, by intro x; rw [h3]; simp, by omega⟩, h5⟩
theorem Gath.later {s : Nat} {out bound : List ByteArray} {n0 : Nat} {F0 : List UInt8 → Prop} {qs : List Part} {v : Value} {w w' : World} (h : Gath s out bound n0 F0 qs v w) (g : Below w.heap.size w w') : Gath s out bound n0 F0 qs v w' := by
  obtain ⟨out', h1, h2⟩ := h
  exact ⟨out', h1.later g, h2⟩
theorem Gath.step {s : Nat} {out bound : List ByteArray} {n0 : Nat} {F0 : List UInt8 → Prop} {qs : List Part} {out' : List ByteArray} {q : Part} {w : World} {e : Ending} {w' : World}
    (h : ∀ x, x ∈ out'.map bytesOf ↔ x ∈ out.map bytesOf ∨ F0 x ∨ (qs.any (fun q => freeN s q x) = true ∧ x ∉ bound.map bytesOf)) (hl : out'.length ≤ out.length + n0 + sz qs) (k : AddOut out' (fset s bound q) q.size w e w') :
    ∃ v, e = .returned v ∧ Gath s out bound n0 F0 (qs ++ [q]) v w' ∧ Below w.heap.size w w' := by
  obtain ⟨v, o2, rfl, h1, h2, h3, h4, h5⟩ := k
  refine ⟨v, rfl, ⟨o2, h1, h2, fun x => ?_, ?_⟩, h5⟩
  · rw [h3, h, List.any_append, Bool.or_eq_true, fset]
    simp only [List.any_cons, List.any_nil, Bool.or_false]
    constructor
    · rintro ((a | b | ⟨c, d⟩) | ⟨a, b⟩)
      · exact .inl a
      · exact .inr (.inl b)
      · exact .inr (.inr ⟨.inl c, d⟩)
      · exact .inr (.inr ⟨.inr a, b⟩)
    · rintro (a | b | ⟨c | c, d⟩)
      · exact .inl (.inl a)
      · exact .inl (.inr (.inl b))
      · exact .inl (.inr (.inr ⟨c, d⟩))
      · exact .inr ⟨c, d⟩
  · rw [sz_append, sz_one]; omega
end Go.Proofs.YtjmlaeofjjhfmaaGreat
/- name of what the reference has seen, whatever comes in. -/
namespace Go.Proofs.YtjmlaeofjjhfmaaGreat
open Go.RowKit Go.Shelf Go.Maps

def SeenB (U : List UInt8 → Int × Int) (A sb X : Nat) (ch pl : List ByteArray) (bad : Bool) (W : World) : Prop := ∃ vch vm va vp, Seen A sb X ch pl vch vm va vp bad (manyL U ch) (atL U ch) W

end Go.Proofs.YtjmlaeofjjhfmaaGreat
/- join of what the reference has seen, whatever comes in. -/
namespace Go.Proofs.YtjmlaeofjjhfmaaGreat
open Go.RowKit Go.Shelf Go.Maps

end Go.Proofs.YtjmlaeofjjhfmaaGreat
/- look of the reference, whatever comes in. -/
namespace Go.Proofs.YtjmlaeofjjhfmaaGreat
open Go.RowKit Go.Shelf Go.Maps

structure LkB (U : List UInt8 → Int × Int) (n0 xb : Nat) (gs : List (List Clause)) (pl : List ByteArray) (w w2 : World) (i j l : Nat) (bad : Bool) (W : World) : Prop where
  seen : SeenB U (n0 + 1) n0 xb (chFold [] (seenTo gs i j l)) pl bad W
  below : Below n0 w W
  row : W.heap[xb]? = w2.heap[xb]?
  lt : xb < W.heap.size
end Go.Proofs.YtjmlaeofjjhfmaaGreat
/- The reference's look at all TermDefs of a process: defs, within. -/
namespace Go.Proofs.YtjmlaeofjjhfmaaGreat
open Go.RowKit

end Go.Proofs.YtjmlaeofjjhfmaaGreat
/- The reference's free names: freeTerm. -/
namespace Go.Proofs.YtjmlaeofjjhfmaaGreat
open Go.RowKit Go.Shelf Go.Maps Go.Sort

theorem Gath.slice {s : Nat} {out bound : List ByteArray} {n0 : Nat} {F0 : List UInt8 → Prop} {qs : List Part} {v : Value} {w : World} (h : Gath s out bound n0 F0 qs v w) : ∃ a l c, v = .slice a l c := by
  obtain ⟨o2, g1, _⟩ := h
  obtain ⟨a, c, rfl, _⟩ := g1.strs
  exact ⟨_, _, _, rfl⟩
end Go.Proofs.YtjmlaeofjjhfmaaGreat
/- The reference's free names: freeTerm at what is no TermDef. -/
namespace Go.Proofs.YtjmlaeofjjhfmaaGreat
open Go.RowKit Go.Shelf Go.Maps Go.Sort

end Go.Proofs.YtjmlaeofjjhfmaaGreat
/- The reference's free names: freeClause; all together. -/
namespace Go.Proofs.YtjmlaeofjjhfmaaGreat
open Go.RowKit Go.Shelf Go.Maps Go.Sort

end Go.Proofs.YtjmlaeofjjhfmaaGreat
/- The reference's Free, and the program's, told alike. -/
namespace Go.Proofs.YtjmlaeofjjhfmaaGreat
open Go.RowKit Go.Shelf Go.Maps Go.Sort

end Go.Proofs.YtjmlaeofjjhfmaaGreat
/- The reference's Defines, and the program's, told alike. -/
namespace Go.Proofs.YtjmlaeofjjhfmaaGreat
open Go.RowKit Go.Shelf Go.Maps Go.Sort

def opT : Term → Int
  | .mk o _ _ _ _ => o
def defT : Term → List Clause
  | .mk _ _ _ d _ => d
def dCode (t : Term) : Int := if formedB (.proc t) then (if opT t = 4 then 0 else 5) else 2
def dCh (t : Term) : List ByteArray := if formedB (.proc t) ∧ opT t = 4 then channelsL (defT t) else []
def dPl (t : Term) : List ByteArray := if formedB (.proc t) ∧ opT t = 4 then placesL (defT t) else []
def DOut (t : Term) (w : World) (e : Ending) (w' : World) : Prop := ∃ v1 v2, e = .returned (.tuple #[v1, v2, .int .i64 (dCode t)]) ∧ StrsAt w'.heap.size w' v1 (dCh t) ∧ StrsAt w'.heap.size w' v2 (dPl t) ∧ Below w.heap.size w w'
theorem DOut.no {t : Term} (h : formedB (.proc t) = false) {w w' : World} (hb : Below w.heap.size w w') : DOut t w (.returned (.tuple #[.slice none 0 0, .slice none 0 0, .int .i64 2])) w' :=
  ⟨_, _, by rw [dCode, h]; rfl, by rw [dCh, h]; exact StrsAt.nil _ _, by rw [dPl, h]; exact StrsAt.nil _ _, hb⟩
theorem DOut.op {t : Term} (h : formedB (.proc t) = true) (ho : opT t ≠ 4) {w w' : World} (hb : Below w.heap.size w w') : DOut t w (.returned (.tuple #[.slice none 0 0, .slice none 0 0, .int .i64 5])) w' :=
  ⟨_, _, by rw [dCode, h, if_pos rfl, if_neg ho], by rw [dCh, if_neg (fun k => ho k.2)]; exact StrsAt.nil _ _, by rw [dPl, if_neg (fun k => ho k.2)]; exact StrsAt.nil _ _, hb⟩
end Go.Proofs.YtjmlaeofjjhfmaaGreat
/- What the third row of the layer's laws does, by contracts. -/
namespace Go.Proofs.YtjmlaeofjjhfmaaGreat
open Go.RowKit Go.Shelf Go.Maps

theorem sameNames_refl (L : List ByteArray) : sameNames L L = true := by
  unfold sameNames
  simp only [beq_self_eq_true, Bool.true_and, List.all_eq_true]
  intro p hp
  have : p.1 = p.2 := by
    induction L with
    | nil => simp at hp
    | cons a l ih =>
      simp only [List.zip_cons_cons, List.mem_cons] at hp
      rcases hp with rfl | hp
      · rfl
      · exact ih hp
  rw [this]; simp [eqL]

end Go.Proofs.YtjmlaeofjjhfmaaGreat
/- The reference's Same at two definitions that are equal; at all. -/
namespace Go.Proofs.YtjmlaeofjjhfmaaGreat
open Go.RowKit

set_option maxHeartbeats 2000000 in
theorem sameC_one (s : Nat) (ihT : SameTAt s) (ihC : SameCAt s) (form : Int) (text : ByteArray) (joins : List Msg) (defs : List Clause) (kids : List Term) (hs : (Part.def_ (.mk form text joins defs kids)).size ≤ s + 1) (B : Nat) (u w : World) (c1 c2 : List Value) (hu : KeptC B u w) (hBl : B ≤ w.heap.size)
    (hv1 : ClauseAt B u c1 (.mk form text joins defs kids)) (hv2 : ClauseAt B u c2 (.mk form text joins defs kids)) :
    Calls Tryz.prog 90 #[.agg c1.toArray, .agg c2.toArray] w fun e w' => e = .returned (.bool true) ∧ Below w.heap.size w w' := by
  unfold ClauseAt at hv1 hv2
  obtain ⟨hz, _, _, _, rfl, ⟨a0, p0, rfl, l0, h0⟩, ⟨a1, p1, rfl, l1, h1⟩, ⟨a2, p2, rfl, l2, h2⟩⟩ := hv1
  obtain ⟨_, _, _, _, rfl, ⟨b0', q0, rfl, _, g0⟩, ⟨b1', q1, rfl, _, g1⟩, ⟨b2', q2, rfl, _, g2⟩⟩ := hv2
  obtain ⟨W1, hW1⟩ : ∃ W1, W1 = (w.alloc (.cells #[.int .i64 form, .string text, .slice a0 joins.length p0, .slice a1 defs.length p1, .slice a2 kids.length p2] 130)).alloc (.cells #[.int .i64 form, .string text, .slice b0' joins.length q0, .slice b1' defs.length q1, .slice b2' kids.length q2] 130) := ⟨_, rfl⟩
  have z1 : W1.heap.size = w.heap.size + 2 := by rw [hW1]; simp
  have b1 : Below w.heap.size w W1 := by rw [hW1]; exact ((Below.refl _ w).alloc (Nat.le_refl _) _).alloc (by simp) _
  have hrd : ∀ W, Below (w.heap.size + 2) W1 W → KeptC B u W ∧ B ≤ W.heap.size ∧ Below w.heap.size w W := by
    intro W h
    have hb := b1.trans (h.mono (by omega))
    exact ⟨hu.trans ((Below.keptC hb).mono hBl), by have := hb.size; omega, hb⟩
  have hrd2 : ∀ W, Below (w.heap.size + 2) W1 W → W.cell? ⟨w.heap.size, 2, none⟩ = some (.slice a0 joins.length p0) ∧ W.cell? ⟨w.heap.size + 1, 2, none⟩ = some (.slice b0' joins.length q0) ∧ KeptC B u W := by
    intro W h
    refine ⟨(h.cell (p := ⟨w.heap.size, 2, none⟩) (by simp)).trans ?_, (h.cell (p := ⟨w.heap.size + 1, 2, none⟩) (by simp)).trans ?_, (hrd W h).1⟩
    · rw [hW1, World.cell?_alloc_past _ _ _ (by simp), World.cell?_alloc_at _ _ _ _ rfl]; rfl
    · rw [hW1, World.cell?_alloc_at _ _ _ _ (by simp)]; rfl
  have hrd3 : ∀ W, Below (w.heap.size + 2) W1 W → W.cell? ⟨w.heap.size, 3, none⟩ = some (.slice a1 defs.length p1) ∧ W.cell? ⟨w.heap.size + 1, 3, none⟩ = some (.slice b1' defs.length q1) ∧ KeptC B u W := by
    intro W h
    refine ⟨(h.cell (p := ⟨w.heap.size, 3, none⟩) (by simp)).trans ?_, (h.cell (p := ⟨w.heap.size + 1, 3, none⟩) (by simp)).trans ?_, (hrd W h).1⟩
    · rw [hW1, World.cell?_alloc_past _ _ _ (by simp), World.cell?_alloc_at _ _ _ _ rfl]; rfl
    · rw [hW1, World.cell?_alloc_at _ _ _ _ (by simp)]; rfl
  have hrd4 : ∀ W, Below (w.heap.size + 2) W1 W → W.cell? ⟨w.heap.size, 4, none⟩ = some (.slice a2 kids.length p2) ∧ W.cell? ⟨w.heap.size + 1, 4, none⟩ = some (.slice b2' kids.length q2) ∧ KeptC B u W := by
    intro W h
    refine ⟨(h.cell (p := ⟨w.heap.size, 4, none⟩) (by simp)).trans ?_, (h.cell (p := ⟨w.heap.size + 1, 4, none⟩) (by simp)).trans ?_, (hrd W h).1⟩
    · rw [hW1, World.cell?_alloc_past _ _ _ (by simp), World.cell?_alloc_at _ _ _ _ rfl]; rfl
    · rw [hW1, World.cell?_alloc_at _ _ _ _ (by simp)]; rfl
  have hkd : ∀ k, (h : k < defs.length) → (Part.def_ defs[k]).size ≤ s := fun k h => by
    have := size_lt (p := .def_ (.mk form text joins defs kids)) (q := .def_ defs[k]) (partC_defs (List.getElem_mem h)); omega
  have hkk : ∀ k, (h : k < kids.length) → ∀ (B : Nat) (u w : World) (c1 c2 : List Value), KeptC B u w → B ≤ w.heap.size → TermAt B u c1 kids[k] → TermAt B u c2 kids[k] →
      Calls Tryz.prog 34 #[.agg c1.toArray, .agg c2.toArray] w fun e w' => e = .returned (.bool true) ∧ Below w.heap.size w w' := fun k h => ihT kids[k] (by
    have := size_lt (p := .def_ (.mk form text joins defs kids)) (q := .proc kids[k]) (partC_kids (List.getElem_mem h)); omega)
  have HW := Lib.hid hW1
  clear hW1 hs
  go_enter Tryz.func90, Tryz.ntmps90
  go_wp2
  rw [← HW.out]
  go_loopw [5] (fun i wr => ∃ (k : Nat), k ≤ joins.length ∧ i = .int .i64 k ∧ Below (w.heap.size + 2) W1 wr) (fun i _ => joins.length - (intOf i).toNat)
  case atStart => exact ⟨0, by omega, rfl, Below.refl _ _⟩
  case round =>
    obtain ⟨k, hk, rfl, hb⟩ := hrel
    obtain ⟨m0, m1, hu1⟩ := hrd2 wr hb
    obtain ⟨hu1, hB1, hbw⟩ := hrd wr hb
    by_cases hlt : k < joins.length
    · rcases h0 with h0 | ⟨b0, o0, rfl, hB0, hc0⟩
      · rw [h0] at hlt; simp at hlt
      rcases g0 with h1 | ⟨b2, o2, rfl, hB2, hc2⟩
      · rw [h1] at hlt; simp at hlt
      obtain ⟨d1, e1, f1⟩ := hc0.get joins b0 o0 k hlt
      obtain ⟨d2, e2, f2⟩ := hc2.get joins b2 o2 k hlt
      obtain ⟨tj, htj⟩ : ∃ x, x = joins[k].text := ⟨_, rfl⟩
      obtain ⟨nj, hnj⟩ : ∃ x, x = joins[k].names := ⟨_, rfl⟩
      obtain ⟨tz, v1, rfl, st1⟩ := f1
      obtain ⟨_, v2, rfl, st2⟩ := f2
      rw [← htj] at e1 e2 tz
      rw [← hnj] at st1 st2
      have st1' := st1
      have st2' := st2
      obtain ⟨ja0, jp0, rfl, jl0, _⟩ := st1
      obtain ⟨ja1, jp1, rfl, jl1, _⟩ := st2
      have hS : ∀ W, Below (w.heap.size + 2) W1 W → W.cell? ⟨w.heap.size, 2, none⟩ = some (.slice (some ⟨b0, o0, none⟩) joins.length p0) ∧ W.cell? ⟨w.heap.size + 1, 2, none⟩ = some (.slice (some ⟨b2, o2, none⟩) joins.length q0) ∧
          (W.cell? ⟨b0, o0 + k * 2, none⟩ = some (.string tj) ∧ W.cell? ⟨b0, o0 + k * 2 + 1, none⟩ = some (.slice ja0 nj.length jp0)) ∧ W.cell? ⟨b2, o2 + k * 2, none⟩ = some (.string tj) ∧ W.cell? ⟨b2, o2 + k * 2 + 1, none⟩ = some (.slice ja1 nj.length jp1) := fun W h => by
        obtain ⟨y0, y1, hu2⟩ := hrd2 W h
        exact ⟨y0, y1, cells2 (e1.keep hu2 hB0), cells2 (e2.keep hu2 hB2)⟩
      have hcall : ∀ W, Below (w.heap.size + 2) W1 W → Calls Tryz.prog 31 #[.slice ja0 nj.length jp0, .slice ja1 nj.length jp1] W fun e w' => e = .returned (.bool true) ∧ Below W.heap.size W w' := fun W h => by
        obtain ⟨q1, q2, _⟩ := hrd W h
        have := same_names B _ _ nj nj W q2 (st1'.keep q1) (st2'.keep q1)
        rwa [sameNames_refl] at this
      obtain ⟨_, _, ⟨z2, z3⟩, z4, z5⟩ := hS wr hb
      have hbd := hb.drew
      obtain ⟨y0, y1, ⟨y2, y3⟩, y4, y5⟩ := hS _ hbd
      clear hc0 hc2 htj hnj st1' st2'
      have hc31 := hcall _ hbd
      go_wp2
      go_region_held3 (fun W => W.cell? ⟨w.heap.size, 2, none⟩ = some (.slice (some ⟨b0, o0, none⟩) joins.length p0) ∧ W.cell? ⟨w.heap.size + 1, 2, none⟩ = some (.slice (some ⟨b2, o2, none⟩) joins.length q0) ∧
          W.cell? ⟨b0, o0 + k * 2, none⟩ = some (.string tj) ∧ W.cell? ⟨b0, o0 + k * 2 + 1, none⟩ = some (.slice ja0 nj.length jp0) ∧ W.cell? ⟨b2, o2 + k * 2, none⟩ = some (.string tj) ∧ W.cell? ⟨b2, o2 + k * 2 + 1, none⟩ = some (.slice ja1 nj.length jp1)) (go_keep)
        (first | (go_at_call 31; refine hc31.mono ?_; rintro e w2 ⟨rfl, hb2⟩; have hbd2 := hbd.trans (hb2.mono (by simp; have := hb.size; omega)); obtain ⟨yy0, yy1, ⟨yy2, yy3⟩, yy4, yy5⟩ := hS w2 hbd2))
      all_goals go_wp2
      go_roundw
      case rel => exact ⟨k + 1, by omega, by go_num, hbd2⟩
      case measure => simp [intOf]; omega
    · obtain rfl : k = joins.length := by omega
      go_wp2
      have hbb := hb
      clear hb hu1 m0 m1
      go_loopw [6] (fun i wr => ∃ (k : Nat), k ≤ defs.length ∧ i = .int .i64 k ∧ Below (w.heap.size + 2) W1 wr) (fun i _ => defs.length - (intOf i).toNat)
      case atStart => exact ⟨0, by omega, rfl, hbb⟩
      case round =>
        obtain ⟨k, hk, rfl, hb⟩ := hrel
        obtain ⟨m0, m1, hu1⟩ := hrd3 wr hb
        obtain ⟨hu1, hB1, hbw⟩ := hrd wr hb
        by_cases hlt : k < defs.length
        · rcases h1 with h0 | ⟨b0, o0, rfl, hB0, hc0⟩
          · rw [h0] at hlt; simp at hlt
          rcases g1 with h1 | ⟨b2, o2, rfl, hB2, hc2⟩
          · rw [h1] at hlt; simp at hlt
          obtain ⟨d1, e1, f1⟩ := hc0.get defs b0 o0 k hlt
          obtain ⟨d2, e2, f2⟩ := hc2.get defs b2 o2 k hlt
          obtain ⟨g0, g1, g2, g3, g4, g5, g6, g7, g8, g9, gA, rfl⟩ := clause_shape f1
          obtain ⟨i0, i1, i2, i3, i4, i5, i6, i7, i8, i9, iA, rfl⟩ := clause_shape f2
          have hbd := hb.drew
          obtain ⟨hu2, hB2', _⟩ := hrd wr.drew hbd
          have hS : ∀ W, Below (w.heap.size + 2) W1 W → W.cell? ⟨w.heap.size, 3, none⟩ = some (.slice (some ⟨b0, o0, none⟩) defs.length p1) ∧ W.cell? ⟨w.heap.size + 1, 3, none⟩ = some (.slice (some ⟨b2, o2, none⟩) defs.length q1) ∧ (W.cell? ⟨b0, o0 + k * 5, none⟩ = some (.int .i64 g0) ∧ W.cell? ⟨b0, o0 + k * 5 + 1, none⟩ = some (.string g1) ∧ W.cell? ⟨b0, o0 + k * 5 + 2, none⟩ = some (.slice g2 g3 g4) ∧ W.cell? ⟨b0, o0 + k * 5 + 3, none⟩ = some (.slice g5 g6 g7) ∧ W.cell? ⟨b0, o0 + k * 5 + 4, none⟩ = some (.slice g8 g9 gA)) ∧ W.cell? ⟨b2, o2 + k * 5, none⟩ = some (.int .i64 i0) ∧ W.cell? ⟨b2, o2 + k * 5 + 1, none⟩ = some (.string i1) ∧ W.cell? ⟨b2, o2 + k * 5 + 2, none⟩ = some (.slice i2 i3 i4) ∧ W.cell? ⟨b2, o2 + k * 5 + 3, none⟩ = some (.slice i5 i6 i7) ∧ W.cell? ⟨b2, o2 + k * 5 + 4, none⟩ = some (.slice i8 i9 iA) := fun W h => by
            obtain ⟨y0, y1, hu2⟩ := hrd3 W h
            exact ⟨y0, y1, cells5 (e1.keep hu2 hB0), cells5 (e2.keep hu2 hB2)⟩
          have hcall := ihC defs[k] (hkd k hlt) B u wr.drew _ _ hu2 hB2' f1 f2
          obtain ⟨z0, z1, ⟨y0, y1, y2, y3, y4⟩, x0, x1, x2, x3, x4⟩ := hS _ hbd
          clear f1 f2 hc0 hc2
          go_wp2
          go_region_held3 (fun W => W.cell? ⟨w.heap.size, 3, none⟩ = some (.slice (some ⟨b0, o0, none⟩) defs.length p1) ∧ W.cell? ⟨w.heap.size + 1, 3, none⟩ = some (.slice (some ⟨b2, o2, none⟩) defs.length q1) ∧ W.cell? ⟨b0, o0 + k * 5, none⟩ = some (.int .i64 g0) ∧ W.cell? ⟨b0, o0 + k * 5 + 1, none⟩ = some (.string g1) ∧ W.cell? ⟨b0, o0 + k * 5 + 2, none⟩ = some (.slice g2 g3 g4) ∧ W.cell? ⟨b0, o0 + k * 5 + 3, none⟩ = some (.slice g5 g6 g7) ∧ W.cell? ⟨b0, o0 + k * 5 + 4, none⟩ = some (.slice g8 g9 gA) ∧ W.cell? ⟨b2, o2 + k * 5, none⟩ = some (.int .i64 i0) ∧ W.cell? ⟨b2, o2 + k * 5 + 1, none⟩ = some (.string i1) ∧ W.cell? ⟨b2, o2 + k * 5 + 2, none⟩ = some (.slice i2 i3 i4) ∧ W.cell? ⟨b2, o2 + k * 5 + 3, none⟩ = some (.slice i5 i6 i7) ∧ W.cell? ⟨b2, o2 + k * 5 + 4, none⟩ = some (.slice i8 i9 iA)) (go_keep)
            (first | (go_at_call 90; refine hcall.mono ?_; rintro e w2 ⟨rfl, hb2⟩; have hbd2 := hbd.trans (hb2.mono (by simp; have := hb.size; omega)); obtain ⟨zz0, zz1, ⟨yy0, yy1, yy2, yy3, yy4⟩, xx0, xx1, xx2, xx3, xx4⟩ := hS w2 hbd2))
          all_goals go_wp2
          go_roundw
          case rel => exact ⟨k + 1, by omega, by go_num, hbd2⟩
          case measure => simp [intOf]; omega
        · obtain rfl : k = defs.length := by omega
          obtain ⟨t0, t1, _⟩ := hrd4 wr hb
          have hcall := sameTs_any kids hkk B u wr _ _ hu1 hB1 ⟨a2, p2, rfl, l2, h2⟩ ⟨b2', q2, rfl, l2, g2⟩
          go_wp2_with (go_at_call 47; refine hcall.mono ?_; rintro e w2 ⟨rfl, hb2⟩)
          go_ret
          exact ⟨rfl, hbw.trans (hb2.mono hbw.size)⟩


theorem same_all : ∀ s, SameTAt s ∧ SameCAt s := by
  intro s
  induction s with
  | zero =>
    refine ⟨fun t ht => ?_, fun t ht => ?_⟩
    · have := size_pos (.proc t); omega
    · have := size_pos (.def_ t); omega
  | succ s ih =>
    refine ⟨fun t ht B u w c1 c2 hu hB h1 h2 => ?_, fun t ht B u w c1 c2 hu hB h1 h2 => ?_⟩
    · obtain ⟨op, text, args, defs, kids⟩ := t
      exact sameT_one s ih.1 ih.2 op text args defs kids ht B u w c1 c2 hu hB h1 h2
    · obtain ⟨form, text, joins, defs, kids⟩ := t
      exact sameC_one s ih.1 ih.2 form text joins defs kids ht B u w c1 c2 hu hB h1 h2
theorem same_any (t : Term) (B : Nat) (u w : World) (c1 c2 : List Value) (hu : KeptC B u w) (hB : B ≤ w.heap.size) (h1 : TermAt B u c1 t) (h2 : TermAt B u c2 t) :
    Calls Tryz.prog 34 #[.agg c1.toArray, .agg c2.toArray] w fun e w' => e = .returned (.bool true) ∧ Below w.heap.size w w' :=
  (same_all (Part.proc t).size).1 t (Nat.le_refl _) B u w c1 c2 hu hB h1 h2

end Go.Proofs.YtjmlaeofjjhfmaaGreat
/- Free names as lists: of a formed process, of an expression; Same at nothing. -/
namespace Go.Proofs.YtjmlaeofjjhfmaaGreat
open Go.RowKit Go.Shelf Go.Maps Go.Sort

def dd : List (List UInt8) → List (List UInt8)
  | [] => []
  | a :: l => if a ∈ dd l then dd l else a :: dd l
theorem dd_mem : ∀ (l : List (List UInt8)) (x : List UInt8), x ∈ dd l ↔ x ∈ l
  | [], x => Iff.rfl
  | a :: l, x => by
    unfold dd
    split
    · rename_i h
      rw [dd_mem l x, List.mem_cons]
      exact ⟨.inr, fun h2 => h2.elim (fun e => by rw [e]; exact (dd_mem l a).1 h) id⟩
    · rw [List.mem_cons, List.mem_cons, dd_mem l x]
theorem dd_nodup : ∀ l : List (List UInt8), (dd l).Nodup
  | [] => List.nodup_nil
  | a :: l => by
    unfold dd
    split
    · exact dd_nodup l
    · rename_i h
      exact List.nodup_cons.2 ⟨h, dd_nodup l⟩
theorem frees_ex (p : Part) : ∃ E, IsFrees p E := by
  refine ⟨dd (((nodesOf 0 p).map (fun q => bytesOf (standsP q.1))).filter (fun k => freeN 60 p k)), dd_nodup _, fun k => ?_⟩
  rw [dd_mem, List.mem_filter]
  exact ⟨fun h => h.2, fun h => ⟨free_stands 60 p k h, h⟩⟩
theorem zero_at (B : Nat) (w : World) : TermAt B w zero5 (.mk 0 ByteArray.empty [] [] []) := by
  unfold TermAt zero5
  refine ⟨by decide, .slice none 0 0, .slice none 0 0, .slice none 0 0, rfl, ?_, ?_, ?_⟩
  · exact ⟨none, 0, rfl, by simp, .inl rfl⟩
  · exact ⟨none, 0, rfl, by simp, .inl rfl⟩
  · exact ⟨none, 0, rfl, by simp, .inl rfl⟩
set_option maxHeartbeats 1000000 in
theorem none_zero (w : World) : Calls Tryz.prog 35 #[.agg zero5.toArray] w fun e w' => e = .returned (.bool true) ∧ Below w.heap.size w w' := by
  have hs := fun W : World => same_any (.mk 0 ByteArray.empty [] [] []) W.heap.size W W zero5 zero5 (KeptC.refl _ _) (Nat.le_refl _) (zero_at _ _) (zero_at _ _)
  unfold zero5 at hs ⊢
  go_enter Tryz.func35, Tryz.ntmps35
  go_wp2_with (go_at_call 34; refine (hs _).mono ?_; rintro e w1 ⟨rfl, hb1⟩)
  go_ret
  exact ⟨rfl, ((Below.refl _ w).alloc (Nat.le_refl _) _).trans (hb1.mono (by simp))⟩

end Go.Proofs.YtjmlaeofjjhfmaaGreat
