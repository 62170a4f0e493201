/- Example. -/
import Derived.Test.YtjmlaeofjjhfmaaGreatP14
set_option linter.unusedVariables false
set_option linter.unusedSimpArgs false
namespace Go.Proofs.YtjmlaeofjjhfmaaGreat
open Go.RowKit Go.Shelf Go.Maps

def bA : ByteArray := ⟨#[97]⟩
def bB : ByteArray := ⟨#[98]⟩
def bX : ByteArray := ⟨#[120]⟩
def bY : ByteArray := ⟨#[121]⟩
def bZ : ByteArray := ⟨#[122]⟩
def bP : ByteArray := ⟨#[112]⟩
def bQ : ByteArray := ⟨#[113]⟩
def bE : ByteArray := ⟨#[]⟩
def nmE (s : ByteArray) : Exp := .mk 2 0 s []
def sendT (s : ByteArray) (ss : List ByteArray) : Term := .mk 2 s (ss.map nmE) [] []
def exRule : Clause := .mk 1 bE [⟨bX, [bA]⟩, ⟨bY, []⟩] [] [sendT bZ [bA, bB]]
def exOne : Term := .mk 2 bX [.mk 1 1 bE []] [] []
def exSpot : Clause := .mk 2 bP [] [] [.mk 6 bQ [] [] [exOne]]
def exWatch : Term := .mk 8 bP [] [] [.mk 1 bE [] [] []]
def exBody : Term := .mk 3 bE [] [] [sendT bY [], exWatch]
def exT : Term := .mk 4 bE [] [exRule, exSpot] [exBody]
theorem Tryz.results50 : Tryz.f50.results = #[.cell 0 33] := by kernel_rfl

theorem nms_at {B : Nat} {w : World} {b : Nat} : ∀ (ss : List ByteArray) (off : Nat), (∀ s ∈ ss, s.size ≤ maxLen) → CellsAt w b off (nmCs ss) → ExpsAt B w b off (ss.map nmE)
  | [], _, _, _ => trivial
  | s :: ss, off, hz, h => by
    have e : nmCs (s :: ss) = nmC s ++ nmCs ss := by simp [nmCs]
    rw [e] at h
    refine ⟨⟨nmC s, fun j hj => ?_, hz s (by simp), .slice none 0 0, rfl, none, 0, rfl, by simp, .inl rfl⟩, nms_at ss (off + 4) (fun t ht => hz t (by simp [ht])) (fun j hj => ?_)⟩
    · have := h j (by rw [List.length_append]; omega)
      rw [List.getElem_append_left hj] at this
      exact this
    · have := h (4 + j) (by rw [List.length_append]; simp [nmC]; omega)
      rw [List.getElem_append_right (by simp [nmC])] at this
      simp only [nmC, List.length_cons, List.length_nil, Nat.reduceAdd, Nat.add_sub_cancel_left] at this
      rw [show off + 4 + j = off + (4 + j) by omega]; exact this
theorem nms_sl {w : World} {base : Nat} {r : Value} {ss : List ByteArray} (hz : ∀ s ∈ ss, s.size ≤ maxLen) (h : w.ownsRow base 36 4 r ss.length (nmCs ss)) (hl : ss.length ≤ 1000) :
    SlAt w.heap.size r (ss.map nmE).length (fun b off => ExpsAt w.heap.size w b off (ss.map nmE)) := by
  obtain ⟨hn, ⟨rfl, h2⟩ | ⟨g, cap, cur, rfl, hb, hg, hc, _, hsz, htk⟩⟩ := h
  · exact ⟨none, 0, by rw [List.length_map, h2], by rw [List.length_map]; omega, .inl (by rw [List.length_map]; exact h2)⟩
  · refine ⟨_, cap, by rw [List.length_map], by rw [List.length_map]; omega, .inr ⟨g, 0, rfl, (Array.getElem?_eq_some_iff.1 hg).1, nms_at ss 0 hz (fun j hj => ?_)⟩⟩
    have hj' : j < ss.length * 4 := by rw [← hn]; exact hj
    have hjc : j < cur.size := by have := Nat.mul_le_mul_right 4 hc; omega
    have e1 : (nmCs ss)[j] = cur[j] := by
      have : (nmCs ss)[j]? = (cur.toList.take (ss.length * 4))[j]? := by rw [htk]
      rw [List.getElem?_take_of_lt hj'] at this
      simpa [hj, hjc] using this
    simp [World.cell?, hg, e1, hjc]

theorem cells_any {W : World} {b : Nat} {arr : Array Value} {ty : TypeId} {fr : Nat × Nat} (h : W.heap[b]? = some (.cells arr ty fr)) (o : Nat) (v : Value) (hv : arr[o]? = some v) : W.cell? ⟨b, o, none⟩ = some v := by
  simp [World.cell?, h, hv]
theorem at5 {W : World} {b off : Nat} {arr : Array Value} {ty : TypeId} {fr : Nat × Nat} (h : W.heap[b]? = some (.cells arr ty fr)) {v0 v1 v2 v3 v4 : Value} (h0 : arr[off]? = some v0) (h1 : arr[off + 1]? = some v1) (h2 : arr[off + 2]? = some v2) (h3 : arr[off + 3]? = some v3) (h4 : arr[off + 4]? = some v4) : CellsAt W b off [v0, v1, v2, v3, v4] := by
  intro j hj
  match j, hj with
  | 0, _ => exact cells_any h _ _ h0
  | 1, _ => exact cells_any h _ _ h1
  | 2, _ => exact cells_any h _ _ h2
  | 3, _ => exact cells_any h _ _ h3
  | 4, _ => exact cells_any h _ _ h4
theorem at4 {W : World} {b off : Nat} {arr : Array Value} {ty : TypeId} {fr : Nat × Nat} (h : W.heap[b]? = some (.cells arr ty fr)) {v0 v1 v2 v3 : Value} (h0 : arr[off]? = some v0) (h1 : arr[off + 1]? = some v1) (h2 : arr[off + 2]? = some v2) (h3 : arr[off + 3]? = some v3) : CellsAt W b off [v0, v1, v2, v3] := by
  intro j hj
  match j, hj with
  | 0, _ => exact cells_any h _ _ h0
  | 1, _ => exact cells_any h _ _ h1
  | 2, _ => exact cells_any h _ _ h2
  | 3, _ => exact cells_any h _ _ h3
theorem at2 {W : World} {b off : Nat} {arr : Array Value} {ty : TypeId} {fr : Nat × Nat} (h : W.heap[b]? = some (.cells arr ty fr)) {v0 v1 : Value} (h0 : arr[off]? = some v0) (h1 : arr[off + 1]? = some v1) : CellsAt W b off [v0, v1] := by
  intro j hj
  match j, hj with
  | 0, _ => exact cells_any h _ _ h0
  | 1, _ => exact cells_any h _ _ h1
theorem heap_lt {W : World} {b : Nat} {o : Obj} (h : W.heap[b]? = some o) : b < W.heap.size := (Array.getElem?_eq_some_iff.1 h).1
theorem slNil (B n : Nat) (a : Option Addr) (c : Nat) (P : Nat → Nat → Prop) (h : n = 0) : SlAt B (.slice a n c) n P := ⟨a, c, rfl, by omega, .inl h⟩
theorem slAt {B b n c : Nat} {P : Nat → Nat → Prop} (hb : b < B) (hn : n ≤ 100) (h : P b 0) : SlAt B (.slice (some ⟨b, 0, none⟩) n c) n P := ⟨_, c, rfl, by omega, .inr ⟨b, 0, rfl, hb, h⟩⟩

/-- The example lies in a world that holds these blocks. -/
theorem example_at {F : World} {n m bc bt bk : Nat} {a' a2 : Option Addr} {cp c2 : Nat} {ty : TypeId}
    (A1 : F.heap[n + 1]? = some (.cells #[.string ⟨#[97]⟩] 9))
    (A2 : F.heap[n + 2]? = some (.cells #[.string ⟨#[120]⟩, .slice (some ⟨n + 1, 0, none⟩) 1 1, .string ⟨#[121]⟩, .slice none 0 0] 144))
    (x0 : F.heap[m]? = some (.cells #[.int .i64 2, .string ⟨#[122]⟩, .slice a' 2 cp, .slice none 0 0, .slice none 0 0] 33))
    (x2 : F.heap[m + 2]? = some (.cells #[.int .i64 1, .int .i64 1, .string ⟨#[]⟩, .slice none 0 0] 36))
    (x4 : F.heap[m + 4]? = some (.cells #[.int .i64 2, .string ⟨#[120]⟩, .slice (some ⟨m + 2, 0, none⟩) 1 1, .slice none 0 0, .slice none 0 0] 33))
    (x5 : F.heap[m + 5]? = some (.cells #[.int .i64 6, .string ⟨#[113]⟩, .slice none 0 0, .slice none 0 0, .slice (some ⟨m + 4, 0, none⟩) 1 1] 33))
    (x7 : F.heap[m + 7]? = some (.cells #[.int .i64 1, .string ⟨#[]⟩, .slice none 0 0, .slice none 0 0, .slice none 0 0] 33))
    (ho : F.ownsRow ty 36 4 (.slice a' 2 cp) [bA, bB].length (nmCs [bA, bB]))
    (hc : F.heap[bc]? = some (.cells #[.int .i64 1, .string ⟨#[]⟩, .slice (some ⟨n + 2, 0, none⟩) 2 2, .slice none 0 0, .slice (some ⟨m, 0, none⟩) 1 1, .int .i64 2, .string ⟨#[112]⟩, .slice none 0 0, .slice none 0 0, .slice (some ⟨m + 5, 0, none⟩) 1 1] 130))
    (hk : F.heap[bk]? = some (.cells #[.int .i64 2, .string ⟨#[121]⟩, .slice a2 0 c2, .slice none 0 0, .slice none 0 0, .int .i64 8, .string ⟨#[112]⟩, .slice none 0 0, .slice none 0 0, .slice (some ⟨m + 7, 0, none⟩) 1 1] 33))
    (ht : F.heap[bt]? = some (.cells #[.int .i64 3, .string ⟨#[]⟩, .slice none 0 0, .slice none 0 0, .slice (some ⟨bk, 0, none⟩) 2 2] 33)) :
    TermAt F.heap.size F [.int .i64 4, .string ⟨#[]⟩, .slice none 0 0, .slice (some ⟨bc, 0, none⟩) 2 2, .slice (some ⟨bt, 0, none⟩) 1 1] exT := by
  have tz : TermAt F.heap.size F [.int .i64 2, .string ⟨#[122]⟩, .slice a' 2 cp, .slice none 0 0, .slice none 0 0] (sendT bZ [bA, bB]) := by
    refine ⟨by decide, _, _, _, rfl, ?_, slNil _ _ _ _ _ rfl, slNil _ _ _ _ _ rfl⟩
    exact nms_sl (by decide) ho (by decide)
  have tone : TermAt F.heap.size F [.int .i64 2, .string ⟨#[120]⟩, .slice (some ⟨m + 2, 0, none⟩) 1 1, .slice none 0 0, .slice none 0 0] exOne := by
    refine ⟨by decide, _, _, _, rfl, slAt (heap_lt x2) (by decide) ?_, slNil _ _ _ _ _ rfl, slNil _ _ _ _ _ rfl⟩
    exact ⟨⟨_, at4 x2 rfl rfl rfl rfl, by decide, _, rfl, slNil _ _ _ _ _ rfl⟩, trivial⟩
  have tgo : TermAt F.heap.size F [.int .i64 6, .string ⟨#[113]⟩, .slice none 0 0, .slice none 0 0, .slice (some ⟨m + 4, 0, none⟩) 1 1] (.mk 6 bQ [] [] [exOne]) := by
    refine ⟨by decide, _, _, _, rfl, slNil _ _ _ _ _ rfl, slNil _ _ _ _ _ rfl, slAt (heap_lt x4) (by decide) ?_⟩
    exact ⟨⟨_, at5 x4 rfl rfl rfl rfl rfl, tone⟩, trivial⟩
  have crule : ClauseAt F.heap.size F [.int .i64 1, .string ⟨#[]⟩, .slice (some ⟨n + 2, 0, none⟩) 2 2, .slice none 0 0, .slice (some ⟨m, 0, none⟩) 1 1] exRule := by
    refine ⟨by decide, _, _, _, rfl, slAt (heap_lt A2) (by decide) ?_, slNil _ _ _ _ _ rfl, slAt (heap_lt x0) (by decide) ?_⟩
    · refine ⟨⟨_, at2 A2 rfl rfl, by decide, _, rfl, ?_⟩, ⟨_, at2 A2 rfl rfl, by decide, _, rfl, StrsAt.nil _ _⟩, trivial⟩
      refine ⟨_, _, rfl, by decide, by decide, (by simp), .inr ⟨_, 0, rfl, heap_lt A1, fun j hj => ?_⟩⟩
      match j, hj with
      | 0, _ => exact cells_any A1 0 _ rfl
    · exact ⟨⟨_, at5 x0 rfl rfl rfl rfl rfl, tz⟩, trivial⟩
  have cspot : ClauseAt F.heap.size F [.int .i64 2, .string ⟨#[112]⟩, .slice none 0 0, .slice none 0 0, .slice (some ⟨m + 5, 0, none⟩) 1 1] exSpot := by
    refine ⟨by decide, _, _, _, rfl, slNil _ _ _ _ _ rfl, slNil _ _ _ _ _ rfl, slAt (heap_lt x5) (by decide) ?_⟩
    exact ⟨⟨_, at5 x5 rfl rfl rfl rfl rfl, tgo⟩, trivial⟩
  have twatch : TermAt F.heap.size F [.int .i64 8, .string ⟨#[112]⟩, .slice none 0 0, .slice none 0 0, .slice (some ⟨m + 7, 0, none⟩) 1 1] exWatch := by
    refine ⟨by decide, _, _, _, rfl, slNil _ _ _ _ _ rfl, slNil _ _ _ _ _ rfl, slAt (heap_lt x7) (by decide) ?_⟩
    exact ⟨⟨_, at5 x7 rfl rfl rfl rfl rfl, by decide, _, _, _, rfl, slNil _ _ _ _ _ rfl, slNil _ _ _ _ _ rfl, slNil _ _ _ _ _ rfl⟩, trivial⟩
  have ty' : TermAt F.heap.size F [.int .i64 2, .string ⟨#[121]⟩, .slice a2 0 c2, .slice none 0 0, .slice none 0 0] (sendT bY []) :=
    ⟨by decide, _, _, _, rfl, slNil _ _ _ _ _ rfl, slNil _ _ _ _ _ rfl, slNil _ _ _ _ _ rfl⟩
  have tbody : TermAt F.heap.size F [.int .i64 3, .string ⟨#[]⟩, .slice none 0 0, .slice none 0 0, .slice (some ⟨bk, 0, none⟩) 2 2] exBody := by
    refine ⟨by decide, _, _, _, rfl, slNil _ _ _ _ _ rfl, slNil _ _ _ _ _ rfl, slAt (heap_lt hk) (by decide) ?_⟩
    exact ⟨⟨_, at5 hk rfl rfl rfl rfl rfl, ty'⟩, ⟨_, at5 hk rfl rfl rfl rfl rfl, twatch⟩, trivial⟩
  refine ⟨by decide, _, _, _, rfl, slNil _ _ _ _ _ rfl, slAt (heap_lt hc) (by decide) ?_, slAt (heap_lt ht) (by decide) ?_⟩
  · exact ⟨⟨_, at5 hc rfl rfl rfl rfl rfl, crule⟩, ⟨_, at5 hc rfl rfl rfl rfl rfl, cspot⟩, trivial⟩
  · exact ⟨⟨_, at5 ht rfl rfl rfl rfl rfl, tbody⟩, trivial⟩
theorem allocs_size : ∀ (os : List Obj) (w : World), (os.foldl World.alloc w).heap.size = w.heap.size + os.length
  | [], _ => rfl
  | o :: os, w => by rw [List.foldl_cons, allocs_size os]; simp; omega
theorem allocs_below : ∀ (os : List Obj) (w : World), Below w.heap.size w (os.foldl World.alloc w)
  | [], w => Below.refl _ w
  | o :: os, w => by rw [List.foldl_cons]; exact ((Below.refl _ w).alloc (Nat.le_refl _) o).trans ((allocs_below os _).mono (by simp))
theorem allocs_heap : ∀ (os : List Obj) (w : World) (i : Nat) (h : i < os.length), (os.foldl World.alloc w).heap[w.heap.size + i]? = some os[i]
  | o :: os, w, 0, _ => by
    rw [List.foldl_cons]
    exact ((allocs_below os _).block _ (by simp)).trans (by simpa using World.alloc_heap_new w o)
  | o :: os, w, i + 1, h => by
    rw [List.foldl_cons]
    have := allocs_heap os (w.alloc o) i (by simpa using h)
    rw [World.size_alloc] at this
    rw [show w.heap.size + (i + 1) = w.heap.size + 1 + i by omega]; exact this
theorem zfacts (W : World) (b : Nat) (h : W.heap[b]? = some (.cells #[.int .i64 0, .string ⟨#[]⟩, .slice none 0 0, .slice none 0 0, .slice none 0 0] 33)) : W.cell? ⟨b, 0, none⟩ = some (.int .i64 0) ∧ W.cell? ⟨b, 1, none⟩ = some (.string ⟨#[]⟩) ∧ W.cell? ⟨b, 2, none⟩ = some (.slice none 0 0) ∧ W.cell? ⟨b, 3, none⟩ = some (.slice none 0 0) ∧ W.cell? ⟨b, 4, none⟩ = some (.slice none 0 0) ∧ ∀ o, W.frozen? ⟨b, o, none⟩ = false :=
  ⟨by simp [World.cell?, h], by simp [World.cell?, h], by simp [World.cell?, h], by simp [World.cell?, h], by simp [World.cell?, h], fun o => by simp [World.frozen?, h]⟩
theorem heap_new' (w : World) (o : Obj) (n : Nat) (h : n = w.heap.size) : (w.alloc o).heap[n]? = some o := by subst h; exact World.alloc_heap_new w o

end Go.Proofs.YtjmlaeofjjhfmaaGreat
