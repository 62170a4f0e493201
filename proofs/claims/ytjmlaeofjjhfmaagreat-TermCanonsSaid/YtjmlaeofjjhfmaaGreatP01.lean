/- Terms as plain data, and how they lie in memory. -/
import Derived.Test.YtjmlaeofjjhfmaaGreatP00
set_option linter.unusedVariables false
set_option linter.unusedSimpArgs false
namespace Go.Proofs.YtjmlaeofjjhfmaaGreat
open Go.RowKit

inductive Exp where | mk (op n : Int) (text : ByteArray) (kids : List Exp)
structure Msg where
  text : ByteArray
  names : List ByteArray
mutual
inductive Clause where | mk (form : Int) (text : ByteArray) (joins : List Msg) (defs : List Clause) (kids : List Term)
inductive Term where | mk (op : Int) (text : ByteArray) (args : List Exp) (defs : List Clause) (kids : List Term)
end

/-- The cells cs lie from b, off on. -/
def CellsAt (w : World) (b off : Nat) (cs : List Value) : Prop := ∀ j, (h : j < cs.length) → w.cell? ⟨b, off + j, none⟩ = some cs[j]

/-- A slice value of n elements: nil or empty, or at a head below B of which P holds. -/
def SlAt (B : Nat) (v : Value) (n : Nat) (P : Nat → Nat → Prop) : Prop :=
  ∃ a cap, v = .slice a n cap ∧ n ≤ 9223372036854775807 ∧ (n = 0 ∨ ∃ b off, a = some ⟨b, off, none⟩ ∧ b < B ∧ P b off)

mutual
def ExpAt (B : Nat) (w : World) : List Value → Exp → Prop
  | cs, .mk op n text kids => text.size ≤ maxLen ∧ ∃ v, cs = [.int .i64 op, .int .i64 n, .string text, v] ∧ SlAt B v kids.length (fun b off => ExpsAt B w b off kids)
def ExpsAt (B : Nat) (w : World) : Nat → Nat → List Exp → Prop
  | _, _, [] => True
  | b, off, e :: es => (∃ cs, CellsAt w b off cs ∧ ExpAt B w cs e) ∧ ExpsAt B w b (off + 4) es
end

def MsgAt (B : Nat) (w : World) (cs : List Value) (m : Msg) : Prop :=
  m.text.size ≤ maxLen ∧ ∃ v, cs = [.string m.text, v] ∧ StrsAt B w v m.names
def MsgsAt (B : Nat) (w : World) : Nat → Nat → List Msg → Prop
  | _, _, [] => True
  | b, off, e :: es => (∃ cs, CellsAt w b off cs ∧ MsgAt B w cs e) ∧ MsgsAt B w b (off + 2) es

mutual
def ClauseAt (B : Nat) (w : World) : List Value → Clause → Prop
  | cs, .mk form text joins defs kids => text.size ≤ maxLen ∧ ∃ vj vd vk, cs = [.int .i64 form, .string text, vj, vd, vk] ∧
      SlAt B vj joins.length (fun b off => MsgsAt B w b off joins) ∧ SlAt B vd defs.length (fun b off => ClausesAt B w b off defs) ∧ SlAt B vk kids.length (fun b off => TermsAt B w b off kids)
def ClausesAt (B : Nat) (w : World) : Nat → Nat → List Clause → Prop
  | _, _, [] => True
  | b, off, e :: es => (∃ cs, CellsAt w b off cs ∧ ClauseAt B w cs e) ∧ ClausesAt B w b (off + 5) es
def TermAt (B : Nat) (w : World) : List Value → Term → Prop
  | cs, .mk op text args defs kids => text.size ≤ maxLen ∧ ∃ va vd vk, cs = [.int .i64 op, .string text, va, vd, vk] ∧
      SlAt B va args.length (fun b off => ExpsAt B w b off args) ∧ SlAt B vd defs.length (fun b off => ClausesAt B w b off defs) ∧ SlAt B vk kids.length (fun b off => TermsAt B w b off kids)
def TermsAt (B : Nat) (w : World) : Nat → Nat → List Term → Prop
  | _, _, [] => True
  | b, off, e :: es => (∃ cs, CellsAt w b off cs ∧ TermAt B w cs e) ∧ TermsAt B w b (off + 5) es
end

theorem CellsAt.below {B : Nat} {w w' : World} {b off : Nat} {cs : List Value} (h : CellsAt w b off cs) (hb : Below B w w') (hB : b < B) : CellsAt w' b off cs :=
  fun j hj => (hb.cell (p := ⟨b, off + j, none⟩) hB).trans (h j hj)

theorem SlAt.imp {B B' : Nat} {v : Value} {n : Nat} {P Q : Nat → Nat → Prop} (h : SlAt B v n P) (hB : B ≤ B') (hPQ : ∀ b off, b < B → P b off → Q b off) : SlAt B' v n Q := by
  obtain ⟨a, cap, rfl, hl, h⟩ := h
  refine ⟨a, cap, rfl, hl, ?_⟩
  rcases h with h | ⟨b, off, rfl, hb, hp⟩
  · exact .inl h
  · exact .inr ⟨b, off, rfl, by omega, hPQ b off hb hp⟩

mutual
theorem ExpAt.below {B B' : Nat} {w w' : World} (hb : Below B w w') (hB : B ≤ B') : ∀ (e : Exp) (cs : List Value), ExpAt B w cs e → ExpAt B' w' cs e
  | .mk _ _ _ kids, _, ⟨h1, v, h2, h3⟩ => ⟨h1, v, h2, h3.imp hB (fun b off hbB hp => ExpsAt.below hb hB kids b off hbB hp)⟩
theorem ExpsAt.below {B B' : Nat} {w w' : World} (hb : Below B w w') (hB : B ≤ B') : ∀ (es : List Exp) (b off : Nat), b < B → ExpsAt B w b off es → ExpsAt B' w' b off es
  | [], _, _, _, _ => trivial
  | e :: es, b, off, hbB, ⟨⟨cs, h1, h2⟩, h3⟩ => ⟨⟨cs, h1.below hb hbB, ExpAt.below hb hB e cs h2⟩, ExpsAt.below hb hB es b (off + 4) hbB h3⟩
end

theorem MsgsAt.below {B B' : Nat} {w w' : World} (hb : Below B w w') (hB : B ≤ B') : ∀ (es : List Msg) (b off : Nat), b < B → MsgsAt B w b off es → MsgsAt B' w' b off es
  | [], _, _, _, _ => trivial
  | _ :: es, b, off, hbB, ⟨⟨cs, h1, h2, v, h4, h5⟩, h3⟩ => ⟨⟨cs, h1.below hb hbB, h2, v, h4, (h5.below hb).mono hB⟩, MsgsAt.below hb hB es b (off + 2) hbB h3⟩

mutual
theorem ClauseAt.below {B B' : Nat} {w w' : World} (hb : Below B w w') (hB : B ≤ B') : ∀ (e : Clause) (cs : List Value), ClauseAt B w cs e → ClauseAt B' w' cs e
  | .mk _ _ joins defs kids, _, ⟨h1, vj, vd, vk, h2, h3, h4, h5⟩ => ⟨h1, vj, vd, vk, h2, h3.imp hB (fun b off hbB hp => MsgsAt.below hb hB joins b off hbB hp),
      h4.imp hB (fun b off hbB hp => ClausesAt.below hb hB defs b off hbB hp), h5.imp hB (fun b off hbB hp => TermsAt.below hb hB kids b off hbB hp)⟩
theorem ClausesAt.below {B B' : Nat} {w w' : World} (hb : Below B w w') (hB : B ≤ B') : ∀ (es : List Clause) (b off : Nat), b < B → ClausesAt B w b off es → ClausesAt B' w' b off es
  | [], _, _, _, _ => trivial
  | e :: es, b, off, hbB, ⟨⟨cs, h1, h2⟩, h3⟩ => ⟨⟨cs, h1.below hb hbB, ClauseAt.below hb hB e cs h2⟩, ClausesAt.below hb hB es b (off + 5) hbB h3⟩
theorem TermAt.below {B B' : Nat} {w w' : World} (hb : Below B w w') (hB : B ≤ B') : ∀ (e : Term) (cs : List Value), TermAt B w cs e → TermAt B' w' cs e
  | .mk _ _ args defs kids, _, ⟨h1, va, vd, vk, h2, h3, h4, h5⟩ => ⟨h1, va, vd, vk, h2, h3.imp hB (fun b off hbB hp => ExpsAt.below hb hB args b off hbB hp),
      h4.imp hB (fun b off hbB hp => ClausesAt.below hb hB defs b off hbB hp), h5.imp hB (fun b off hbB hp => TermsAt.below hb hB kids b off hbB hp)⟩
theorem TermsAt.below {B B' : Nat} {w w' : World} (hb : Below B w w') (hB : B ≤ B') : ∀ (es : List Term) (b off : Nat), b < B → TermsAt B w b off es → TermsAt B' w' b off es
  | [], _, _, _, _ => trivial
  | e :: es, b, off, hbB, ⟨⟨cs, h1, h2⟩, h3⟩ => ⟨⟨cs, h1.below hb hbB, TermAt.below hb hB e cs h2⟩, TermsAt.below hb hB es b (off + 5) hbB h3⟩
end

theorem ExpsAt.get {B : Nat} {w : World} : ∀ (es : List Exp) (b off : Nat), ExpsAt B w b off es → ∀ i, (h : i < es.length) → ∃ cs, CellsAt w b (off + i * 4) cs ∧ ExpAt B w cs es[i]
  | e :: es, b, off, ⟨⟨cs, h1, h2⟩, h3⟩, i, hi => by
    cases i with
    | zero => exact ⟨cs, by simpa using h1, h2⟩
    | succ i =>
      obtain ⟨cs', a1, a2⟩ := ExpsAt.get es b (off + 4) h3 i (by simpa using hi)
      exact ⟨cs', by rw [show off + (i + 1) * 4 = off + 4 + i * 4 from by omega]; exact a1, a2⟩
theorem MsgsAt.get {B : Nat} {w : World} : ∀ (es : List Msg) (b off : Nat), MsgsAt B w b off es → ∀ i, (h : i < es.length) → ∃ cs, CellsAt w b (off + i * 2) cs ∧ MsgAt B w cs es[i]
  | e :: es, b, off, ⟨⟨cs, h1, h2⟩, h3⟩, i, hi => by
    cases i with
    | zero => exact ⟨cs, by simpa using h1, h2⟩
    | succ i =>
      obtain ⟨cs', a1, a2⟩ := MsgsAt.get es b (off + 2) h3 i (by simpa using hi)
      exact ⟨cs', by rw [show off + (i + 1) * 2 = off + 2 + i * 2 from by omega]; exact a1, a2⟩
theorem ClausesAt.get {B : Nat} {w : World} : ∀ (es : List Clause) (b off : Nat), ClausesAt B w b off es → ∀ i, (h : i < es.length) → ∃ cs, CellsAt w b (off + i * 5) cs ∧ ClauseAt B w cs es[i]
  | e :: es, b, off, ⟨⟨cs, h1, h2⟩, h3⟩, i, hi => by
    cases i with
    | zero => exact ⟨cs, by simpa using h1, h2⟩
    | succ i =>
      obtain ⟨cs', a1, a2⟩ := ClausesAt.get es b (off + 5) h3 i (by simpa using hi)
      exact ⟨cs', by rw [show off + (i + 1) * 5 = off + 5 + i * 5 from by omega]; exact a1, a2⟩
theorem TermsAt.get {B : Nat} {w : World} : ∀ (es : List Term) (b off : Nat), TermsAt B w b off es → ∀ i, (h : i < es.length) → ∃ cs, CellsAt w b (off + i * 5) cs ∧ TermAt B w cs es[i]
  | e :: es, b, off, ⟨⟨cs, h1, h2⟩, h3⟩, i, hi => by
    cases i with
    | zero => exact ⟨cs, by simpa using h1, h2⟩
    | succ i =>
      obtain ⟨cs', a1, a2⟩ := TermsAt.get es b (off + 5) h3 i (by simpa using hi)
      exact ⟨cs', by rw [show off + (i + 1) * 5 = off + 5 + i * 5 from by omega]; exact a1, a2⟩

/-- A part of the program: a process, an expression or a definition. -/
inductive Part where
  | proc (t : Term)
  | exp (e : Exp)
  | def_ (c : Clause)

/-- The interface value that the program makes of a part. -/
def PartAt (B : Nat) (w : World) (v : Value) : Part → Prop
  | .proc t => ∃ cs : List Value, v = .iface 83 (.agg cs.toArray) ∧ TermAt B w cs t
  | .exp e => ∃ cs : List Value, v = .iface 88 (.agg cs.toArray) ∧ ExpAt B w cs e
  | .def_ c => ∃ cs : List Value, v = .iface 191 (.agg cs.toArray) ∧ ClauseAt B w cs c

theorem PartAt.below {B B' : Nat} {w w' : World} {v : Value} {p : Part} (h : PartAt B w v p) (hb : Below B w w') (hB : B ≤ B') : PartAt B' w' v p := by
  cases p with
  | proc t => obtain ⟨cs, h1, h2⟩ := h; exact ⟨cs, h1, TermAt.below hb hB t cs h2⟩
  | exp t => obtain ⟨cs, h1, h2⟩ := h; exact ⟨cs, h1, ExpAt.below hb hB t cs h2⟩
  | def_ t => obtain ⟨cs, h1, h2⟩ := h; exact ⟨cs, h1, ClauseAt.below hb hB t cs h2⟩

/-- Cells below B read as they did. -/
def KeptC (B : Nat) (w w' : World) : Prop := ∀ b o v, b < B → w.cell? ⟨b, o, none⟩ = some v → w'.cell? ⟨b, o, none⟩ = some v
theorem Below.keptC {B : Nat} {w w' : World} (h : Below B w w') : KeptC B w w' := fun b o _ hb hv => (h.cell (p := ⟨b, o, none⟩) hb).trans hv
theorem KeptC.trans {B : Nat} {a b c : World} (h : KeptC B a b) (k : KeptC B b c) : KeptC B a c := fun x o v hx hv => k x o v hx (h x o v hx hv)
theorem KeptC.refl (B : Nat) (w : World) : KeptC B w w := fun _ _ _ _ h => h
theorem KeptC.mono {B B' : Nat} {a b : World} (h : KeptC B a b) (hB : B' ≤ B) : KeptC B' a b := fun x o v hx hv => h x o v (by omega) hv

theorem CellsAt.keep {B : Nat} {w w' : World} {b off : Nat} {cs : List Value} (h : CellsAt w b off cs) (hb : KeptC B w w') (hB : b < B) : CellsAt w' b off cs :=
  fun j hj => hb _ _ _ hB (h j hj)
theorem StrsAt.keep {B : Nat} {w w' : World} {v : Value} {ss : List ByteArray} (h : StrsAt B w v ss) (hb : KeptC B w w') : StrsAt B w' v ss := by
  obtain ⟨a, cap, rfl, hl, hz, hcap, h⟩ := h
  refine ⟨a, cap, rfl, hl, hz, hcap, ?_⟩
  rcases h with h | ⟨b, off, rfl, hB, hc⟩
  · exact .inl h
  · exact .inr ⟨b, off, rfl, hB, fun j hj => hb _ _ _ hB (hc j hj)⟩

mutual
theorem ExpAt.keep {B B' : Nat} {w w' : World} (hb : KeptC B w w') (hB : B ≤ B') : ∀ (e : Exp) (cs : List Value), ExpAt B w cs e → ExpAt B' w' cs e
  | .mk _ _ _ kids, _, ⟨h1, v, h2, h3⟩ => ⟨h1, v, h2, h3.imp hB (fun b off hbB hp => ExpsAt.keep hb hB kids b off hbB hp)⟩
theorem ExpsAt.keep {B B' : Nat} {w w' : World} (hb : KeptC B w w') (hB : B ≤ B') : ∀ (es : List Exp) (b off : Nat), b < B → ExpsAt B w b off es → ExpsAt B' w' b off es
  | [], _, _, _, _ => trivial
  | e :: es, b, off, hbB, ⟨⟨cs, h1, h2⟩, h3⟩ => ⟨⟨cs, h1.keep hb hbB, ExpAt.keep hb hB e cs h2⟩, ExpsAt.keep hb hB es b (off + 4) hbB h3⟩
end
theorem MsgsAt.keep {B B' : Nat} {w w' : World} (hb : KeptC B w w') (hB : B ≤ B') : ∀ (es : List Msg) (b off : Nat), b < B → MsgsAt B w b off es → MsgsAt B' w' b off es
  | [], _, _, _, _ => trivial
  | _ :: es, b, off, hbB, ⟨⟨cs, h1, h2, v, h4, h5⟩, h3⟩ => ⟨⟨cs, h1.keep hb hbB, h2, v, h4, (h5.keep hb).mono hB⟩, MsgsAt.keep hb hB es b (off + 2) hbB h3⟩
mutual
theorem ClauseAt.keep {B B' : Nat} {w w' : World} (hb : KeptC B w w') (hB : B ≤ B') : ∀ (e : Clause) (cs : List Value), ClauseAt B w cs e → ClauseAt B' w' cs e
  | .mk _ _ joins defs kids, _, ⟨h1, vj, vd, vk, h2, h3, h4, h5⟩ => ⟨h1, vj, vd, vk, h2, h3.imp hB (fun b off hbB hp => MsgsAt.keep hb hB joins b off hbB hp),
      h4.imp hB (fun b off hbB hp => ClausesAt.keep hb hB defs b off hbB hp), h5.imp hB (fun b off hbB hp => TermsAt.keep hb hB kids b off hbB hp)⟩
theorem ClausesAt.keep {B B' : Nat} {w w' : World} (hb : KeptC B w w') (hB : B ≤ B') : ∀ (es : List Clause) (b off : Nat), b < B → ClausesAt B w b off es → ClausesAt B' w' b off es
  | [], _, _, _, _ => trivial
  | e :: es, b, off, hbB, ⟨⟨cs, h1, h2⟩, h3⟩ => ⟨⟨cs, h1.keep hb hbB, ClauseAt.keep hb hB e cs h2⟩, ClausesAt.keep hb hB es b (off + 5) hbB h3⟩
theorem TermAt.keep {B B' : Nat} {w w' : World} (hb : KeptC B w w') (hB : B ≤ B') : ∀ (e : Term) (cs : List Value), TermAt B w cs e → TermAt B' w' cs e
  | .mk _ _ args defs kids, _, ⟨h1, va, vd, vk, h2, h3, h4, h5⟩ => ⟨h1, va, vd, vk, h2, h3.imp hB (fun b off hbB hp => ExpsAt.keep hb hB args b off hbB hp),
      h4.imp hB (fun b off hbB hp => ClausesAt.keep hb hB defs b off hbB hp), h5.imp hB (fun b off hbB hp => TermsAt.keep hb hB kids b off hbB hp)⟩
theorem TermsAt.keep {B B' : Nat} {w w' : World} (hb : KeptC B w w') (hB : B ≤ B') : ∀ (es : List Term) (b off : Nat), b < B → TermsAt B w b off es → TermsAt B' w' b off es
  | [], _, _, _, _ => trivial
  | e :: es, b, off, hbB, ⟨⟨cs, h1, h2⟩, h3⟩ => ⟨⟨cs, h1.keep hb hbB, TermAt.keep hb hB e cs h2⟩, TermsAt.keep hb hB es b (off + 5) hbB h3⟩
end
theorem PartAt.keep {B B' : Nat} {w w' : World} {v : Value} {p : Part} (h : PartAt B w v p) (hb : KeptC B w w') (hB : B ≤ B') : PartAt B' w' v p := by
  cases p with
  | proc t => obtain ⟨cs, h1, h2⟩ := h; exact ⟨cs, h1, TermAt.keep hb hB t cs h2⟩
  | exp t => obtain ⟨cs, h1, h2⟩ := h; exact ⟨cs, h1, ExpAt.keep hb hB t cs h2⟩
  | def_ t => obtain ⟨cs, h1, h2⟩ := h; exact ⟨cs, h1, ClauseAt.keep hb hB t cs h2⟩


end Go.Proofs.YtjmlaeofjjhfmaaGreat
