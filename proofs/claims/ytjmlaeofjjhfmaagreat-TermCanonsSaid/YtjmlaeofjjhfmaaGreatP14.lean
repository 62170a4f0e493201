/- Copies, as plain data: what a process becomes in a scope. -/
import Derived.Test.YtjmlaeofjjhfmaaGreatP12
import Derived.Test.YtjmlaeofjjhfmaaGreatP13
import Derived.Maps.StringElems
import Derived.Deep.RegionLaw
set_option linter.unusedVariables false
set_option linter.unusedSimpArgs false
namespace Go.Proofs.YtjmlaeofjjhfmaaGreat
open Go.RowKit Go.Shelf Go.Maps

/-- The names that a scope's part binds, with what each becomes. -/
abbrev Frame := List UInt8 → Option ByteArray
inductive Base where
  | outside | anew | putting (x : ByteArray) (e : Exp)
/-- A scope: what is around all, and the frames, the innermost one first. -/
structure Env where
  base : Base
  frames : List Frame
abbrev Used := List UInt8 → Bool

def goodAt (U : Used) (j : Nat) : Bool := notWord (strN j) && !U (strN j)
def firstFrom (U : Used) : Nat → Nat → Nat
  | 0, i => i
  | n + 1, i => if goodAt U i then i else firstFrom U n (i + 1)
def choose (U : Used) : List UInt8 := strN (firstFrom U 5000 0)
theorem firstFrom_spec (U : Used) : ∀ (n i j : Nat), i ≤ j → j < i + n → goodAt U j = true → goodAt U (firstFrom U n i) = true ∧ (∀ k, i ≤ k → k < firstFrom U n i → goodAt U k = false) ∧ firstFrom U n i ≤ j := by
  intro n
  induction n with
  | zero => intro i j h1 h2; omega
  | succ n ih =>
    intro i j h1 h2 h3
    unfold firstFrom
    cases hg : goodAt U i with
    | true => simp only [if_true]; exact ⟨hg, fun k _ _ => by omega, h1⟩
    | false =>
      simp only [Bool.false_eq_true, if_false]
      have hij : i ≠ j := fun e => by rw [e, h3] at hg; cases hg
      obtain ⟨a, b, c⟩ := ih (i + 1) j (by omega) (by omega) h3
      refine ⟨a, fun k h1 h2 => ?_, c⟩
      by_cases hk : k = i
      · rw [hk]; exact hg
      · exact b k (by omega) h2

/-- All used names are among at most m. -/
def Cov (U : Used) (m : Nat) : Prop := ∃ L : List (List UInt8), (∀ k, U k = true → k ∈ L) ∧ L.length ≤ m
theorem Cov.mono {U : Used} {m n : Nat} (h : Cov U m) (hn : m ≤ n) : Cov U n := by
  obtain ⟨L, h1, h2⟩ := h; exact ⟨L, h1, by omega⟩
def plusU (U : Used) (c : List UInt8) : Used := fun x => U x || x == c
theorem Cov.plus {U : Used} {m : Nat} (h : Cov U m) (c : List UInt8) : Cov (plusU U c) (m + 1) := by
  obtain ⟨L, h1, h2⟩ := h
  refine ⟨c :: L, fun k hk => ?_, by simp; omega⟩
  simp only [plusU, Bool.or_eq_true, beq_iff_eq] at hk
  rcases hk with hk | hk
  · exact List.mem_cons_of_mem _ (h1 k hk)
  · exact hk ▸ List.mem_cons_self
theorem Cov.free {U : Used} {m : Nat} (h : Cov U m) (hm : m ≤ 4900) : ∃ j, j < 5000 ∧ goodAt U j = true := by
  obtain ⟨L, h1, h2⟩ := h
  refine Classical.byContradiction fun hno => ?_
  have hall : ∀ j, j < 5000 → strN j ∈ words ++ L := by
    intro j hj
    refine Classical.byContradiction fun hn => hno ⟨j, hj, ?_⟩
    unfold goodAt
    rw [Bool.and_eq_true]
    refine ⟨?_, ?_⟩
    · unfold notWord
      cases hw : inSet words (strN j) with
      | false => rfl
      | true =>
        refine absurd (List.mem_append_left _ ?_) hn
        unfold inSet at hw
        obtain ⟨x, hx, he⟩ := List.any_eq_true.1 hw
        rw [← show x = strN j by simpa using he]; exact hx
    · cases hw : U (strN j) with
      | false => rfl
      | true => exact absurd (List.mem_append_right _ (h1 _ hw)) hn
  have hnd : ((List.range 5000).map strN).Nodup := by
    refine List.pairwise_map.2 ((List.nodup_range (n := 5000)).imp ?_)
    intro a b hab h
    exact hab (strN_inj h)
  have hsub : ((List.range 5000).map strN) ⊆ words ++ L := by
    intro x hx
    obtain ⟨j, hj, rfl⟩ := List.mem_map.1 hx
    exact hall j (List.mem_range.1 hj)
  have hlen := hnd.length_le_of_subset hsub
  have hw : words.length = 10 := rfl
  rw [List.length_map, List.length_range, List.length_append, hw] at hlen
  omega
theorem choose_is {U : Used} {j : Nat} (h1 : goodAt U j = true) (h2 : ∀ i, i < j → ¬ goodAt U i = true) (hj : j < 5000) : strN j = choose U := by
  obtain ⟨a, b, c⟩ := firstFrom_spec U 5000 0 j (by omega) (by omega) h1
  unfold choose
  by_cases e : firstFrom U 5000 0 = j
  · rw [e]
  · exact absurd a (h2 _ (by omega))

def nameE (s : ByteArray) : Exp := .mk 2 0 s []
def Env.binds (v : Env) (x : List UInt8) : Bool := v.frames.any (fun f => (f x).isSome)
def Base.becomes : Base → ByteArray → Exp
  | .putting y e, x => if x = y then e else nameE x
  | _, x => nameE x
def becomesF (b : Base) (x : ByteArray) : List Frame → Exp
  | [] => b.becomes x
  | f :: fs => match f (bytesOf x) with
    | some n => nameE n
    | none => becomesF b x fs
def Env.becomes (v : Env) (x : ByteArray) : Exp := becomesF v.base x v.frames
def Base.renames : Base → Env → Part → List ByteArray
  | .outside, _, _ => []
  | .anew, _, p => bindsP p
  | .putting y e, v, p => if v.binds (bytesOf y) || !freeN 60 p (bytesOf y) then [] else (bindsP p).filter (fun n => freeN 60 (.exp e) (bytesOf n))
def upd (f : Frame) (k v : ByteArray) : Frame := fun x => if x == bytesOf k then some v else f x
def self1 (f : Frame) (n : ByteArray) : Frame := upd f n n
def anew1 (s : Frame × Used) (n : ByteArray) : Frame × Used := (upd s.1 n (mkB (choose s.2)), plusU s.2 (choose s.2))
def inside (v : Env) (U : Used) (p : Part) : Env × Used :=
  if bindsP p = [] then (v, U) else
    let s := (v.base.renames v p).foldl anew1 ((bindsP p).foldl self1 (fun _ => none), U)
    ({ base := v.base, frames := s.1 :: v.frames }, s.2)
def textM (v : Env) (x : ByteArray) : Option ByteArray :=
  if x.size = 0 then some x else match v.becomes x with
    | .mk op _ t _ => if op = 2 then some t else none

mutual
def copyE (v : Env) : Exp → Exp
  | .mk op n t kids => if op = 2 then v.becomes t else .mk op n t (copyEs v kids)
def copyEs (v : Env) : List Exp → List Exp
  | [] => []
  | e :: es => copyE v e :: copyEs v es
end
/-- The steps of a list from the front, each from the state that the earlier ones left. -/
def stepsM {S A B : Type} (F : S → A → Option (B × S)) : S → List A → Option (List B × S)
  | s, [] => some ([], s)
  | s, a :: l => match F s a with
    | none => none
    | some (b, s') => match stepsM F s' l with
      | none => none
      | some (bs, s'') => some (b :: bs, s'')
def textsM (v : Env) : List ByteArray → Option (List ByteArray)
  | [] => some []
  | a :: l => match textM v a with
    | none => none
    | some b => match textsM v l with
      | none => none
      | some bs => some (b :: bs)
def msgM (v inn : Env) (j : Msg) : Option Msg :=
  match textM v j.text with
  | none => none
  | some t => match textsM inn j.names with
    | none => none
    | some ns => some ⟨t, ns⟩
def msgsM (v inn : Env) : List Msg → Option (List Msg)
  | [] => some []
  | a :: l => match msgM v inn a with
    | none => none
    | some b => match msgsM v inn l with
      | none => none
      | some bs => some (b :: bs)
mutual
def copyT (v : Env) (U : Used) : Term → Option (Term × Used)
  | .mk op t args defs kids =>
    let i := inside v U (.proc (.mk op t args defs kids))
    match textM v t with
    | none => none
    | some t' => match copyCs i.1 i.2 defs with
      | none => none
      | some (defs', U2) => match copyTs i.1 U2 kids with
        | none => none
        | some (kids', U3) => some (.mk op t' (copyEs i.1 args) defs' kids', U3)
def copyC (v : Env) (U : Used) : Clause → Option (Clause × Used)
  | .mk form t joins defs kids =>
    let i := inside v U (.def_ (.mk form t joins defs kids))
    match textM v t with
    | none => none
    | some t' => match msgsM v i.1 joins with
      | none => none
      | some js' => match copyCs i.1 i.2 defs with
        | none => none
        | some (defs', U2) => match copyTs i.1 U2 kids with
          | none => none
          | some (kids', U3) => some (.mk form t' js' defs' kids', U3)
def copyTs (v : Env) (U : Used) : List Term → Option (List Term × Used)
  | [] => some ([], U)
  | a :: l => match copyT v U a with
    | none => none
    | some (b, U') => match copyTs v U' l with
      | none => none
      | some (bs, U'') => some (b :: bs, U'')
def copyCs (v : Env) (U : Used) : List Clause → Option (List Clause × Used)
  | [] => some ([], U)
  | a :: l => match copyC v U a with
    | none => none
    | some (b, U') => match copyCs v U' l with
      | none => none
      | some (bs, U'') => some (b :: bs, U'')
end
theorem copyTs_eq (v : Env) : ∀ (l : List Term) (U : Used), copyTs v U l = stepsM (copyT v) U l
  | [], _ => rfl
  | a :: l, U => by
    rw [copyTs, stepsM]
    cases copyT v U a with
    | none => rfl
    | some x =>
      obtain ⟨b, U'⟩ := x
      simp only
      rw [copyTs_eq v l U']
      cases stepsM (copyT v) U' l with
      | none => rfl
      | some y => rfl
theorem copyCs_eq (v : Env) : ∀ (l : List Clause) (U : Used), copyCs v U l = stepsM (copyC v) U l
  | [], _ => rfl
  | a :: l, U => by
    rw [copyCs, stepsM]
    cases copyC v U a with
    | none => rfl
    | some x =>
      obtain ⟨b, U'⟩ := x
      simp only
      rw [copyCs_eq v l U']
      cases stepsM (copyC v) U' l with
      | none => rfl
      | some y => rfl
theorem msgsM_eq (v i : Env) : ∀ (l : List Msg), msgsM v i l = (stepsM (fun (_ : Unit) a => (msgM v i a).map (fun b => (b, ()))) () l).map (·.1)
  | [] => rfl
  | a :: l => by
    rw [msgsM, stepsM]
    cases h : msgM v i a with
    | none => rfl
    | some x =>
      simp only [Option.map_some]
      rw [msgsM_eq v i l]
      cases stepsM (fun (_ : Unit) a => (msgM v i a).map (fun b => (b, ()))) () l with
      | none => rfl
      | some y => rfl
theorem textsM_eq (v : Env) : ∀ (l : List ByteArray), textsM v l = (stepsM (fun (_ : Unit) a => (textM v a).map (fun b => (b, ()))) () l).map (·.1)
  | [] => rfl
  | a :: l => by
    rw [textsM, stepsM]
    cases h : textM v a with
    | none => rfl
    | some x =>
      simp only [Option.map_some]
      rw [textsM_eq v l]
      cases stepsM (fun (_ : Unit) a => (textM v a).map (fun b => (b, ()))) () l with
      | none => rfl
      | some y => rfl

end Go.Proofs.YtjmlaeofjjhfmaaGreat
/- Frames in memory: maps from names to names. -/
namespace Go.Proofs.YtjmlaeofjjhfmaaGreat
open Go.RowKit Go.Shelf Go.Maps Go.WideMaps

theorem Tryz.underlyingMS : Tryz.prog.underlying 121 = some (.map 9 9) := by kernel_rfl
theorem zero9 (w : World) : (zeroValue 9).run Tryz.prog w = .ok (.string ⟨#[]⟩) w := by kernel_rfl
/-- Block b is a map of at most n entries: of the strings at which f has something, to what it has. -/
def OwnF (w : World) (b n : Nat) (f : Frame) : Prop :=
  ∃ D, w.ownsMap (H := Unit) Tryz.prog 9 (plainElem Tryz.prog 9) b n D ∧ ∀ k, has D (.string k) = (f k).isSome ∧ ∀ z, D.atKey (.string k) z = match f k with | some v => .lit (.string (bytesOf v)) | none => z
theorem OwnF.congr {w : World} {b n : Nat} {f g : Frame} (h : OwnF w b n f) (e : ∀ k, f k = g k) : OwnF w b n g := by
  rw [← funext e]; exact h
theorem OwnF.made (w : World) : OwnF (w.alloc (.map #[] 0)) w.heap.size 0 (fun _ => none) :=
  ⟨.map [], World.ownsMap_made _ _ _ _, fun k => ⟨rfl, fun z => rfl⟩⟩
theorem OwnF.lt {w : World} {b n : Nat} {f : Frame} (h : OwnF w b n f) : b < w.heap.size := by
  obtain ⟨D, h, _⟩ := h; exact h.lt
theorem OwnF.mono {w : World} {b n m : Nat} {f : Frame} (h : OwnF w b n f) (hn : n ≤ m) : OwnF w b m f := by
  obtain ⟨D, h, r⟩ := h; exact ⟨D, h.mono hn, r⟩
theorem OwnF.kept {w w' : World} {b n : Nat} {f : Frame} {row : Option Nat} (h : OwnF w b n f) (hg : w.grownBy w' row) (hne : some b ≠ row) : OwnF w' b n f := by
  obtain ⟨D, h, r⟩ := h; exact ⟨D, h.kept hg hne, r⟩
theorem OwnF.later {w w' : World} {b n : Nat} {f : Frame} (h : OwnF w b n f) (hb : Below w.heap.size w w') : OwnF w' b n f := h.kept (grown_of_below hb) (by simp)
theorem OwnF.look {w : World} {b n : Nat} {f : Frame} (h : OwnF w b n f) {k : ByteArray} (hk : k.size ≤ maxLen) :
    (Instr.lookup 121 (.map (some b)) (.string k) true).run Tryz.prog w = .ok (.tuple #[.string ((f (bytesOf k)).getD ⟨#[]⟩), .bool (f (bytesOf k)).isSome]) w ∧ ((f (bytesOf k)).getD ⟨#[]⟩).size ≤ maxLen := by
  obtain ⟨D, hD, hf⟩ := h
  obtain ⟨v, ps, hrun, hv⟩ := World.ownsMap.look_ok hD (string_keyed Tryz.underlying9) Tryz.underlyingMS (zero9 w) (plainElem_string (s := ⟨#[]⟩) Tryz.underlying9 (by simp [ByteArray.size])) (keyOf_string_mk Tryz.underlying9 hk)
  obtain ⟨a, rfl, ha, hz⟩ := plainElem_string_inv Tryz.underlying9 hv
  rw [hrun]
  have e1 := (hf (bytesOf k)).1
  have e2 := (hf (bytesOf k)).2 (.lit (.string []))
  rw [show Lit.string k.data.toList = Lit.string (bytesOf k) from rfl] at ha ⊢
  have ha' : D.atKey (.string (bytesOf k)) (.lit (.string [])) = .lit (.string a.data.toList) := congrArg Prod.fst ha
  rw [e1]
  cases hfk : f (bytesOf k) with
  | none =>
    rw [(hf _).2, hfk] at ha'
    have e : [] = a.data.toList := Lit.string.inj (DataW.lit.inj ha')
    have : a = ⟨#[]⟩ := ByteArray.ext (Array.toList_inj.1 (show a.data.toList = [] from e.symm))
    subst this
    exact ⟨by simp, by simp [ByteArray.size]⟩
  | some x =>
    rw [(hf _).2, hfk] at ha'
    have e : bytesOf x = a.data.toList := Lit.string.inj (DataW.lit.inj ha')
    have : a = x := ByteArray.ext (Array.toList_inj.1 (show a.data.toList = x.data.toList from e.symm))
    subst this
    exact ⟨by simp, by simpa using hz⟩
theorem OwnF.put {w : World} {b n : Nat} {f : Frame} (h : OwnF w b n f) (hn : n < maxLen) {k v : ByteArray} (hk : k.size ≤ maxLen) (hv : v.size ≤ maxLen) :
    ∃ w', (Instr.mapUpdate 121 (.map (some b)) (.string k) (.string v)).run Tryz.prog w = .ok () w' ∧ OwnF w' b (n + 1) (upd f k v) ∧ w.grownBy w' (some b) := by
  obtain ⟨D, hD, hf⟩ := h
  obtain ⟨w', h1, h2, h3⟩ := World.ownsMap.update hD (string_keyed Tryz.underlying9) Tryz.underlyingMS hn (keyOf_string_mk Tryz.underlying9 hk) (plainElem_string Tryz.underlying9 hv)
  refine ⟨w', h1, ⟨_, h2, fun x => ?_⟩, h3⟩
  have hm : IsMap D := hD.isMap
  by_cases hx : x = bytesOf k
  · subst hx
    have e1 := has_put_same (D := D) hm (k := .string (bytesOf k)) (by simp [WideAt.IsKeyLit]) (.lit (.string (bytesOf v)))
    refine ⟨by simp [upd]; exact e1, fun z => ?_⟩
    have e2 := atKey_put_same (D := D) hm (k := .string (bytesOf k)) (by simp [WideAt.IsKeyLit]) (.lit (.string (bytesOf v))) z
    simp [upd]; exact e2
  · have hne : Lit.string x ≠ Lit.string k.data.toList := by simp; exact hx
    have hb : (x == bytesOf k) = false := by simpa using hx
    simp only [upd, hb, Bool.false_eq_true, if_false]
    rw [has_put_other hne]
    exact ⟨(hf x).1, fun z => by rw [atKey_put_other hne]; exact (hf x).2 z⟩

/-- A frame as a value. -/
def FrameAt (w : World) (bu : Nat) (v : Value) (f : Frame) : Prop :=
  (v = .map none ∧ ∀ k, f k = none) ∨ ∃ b, v = .map (some b) ∧ b ≠ bu ∧ OwnF w b 1000000 f
theorem FrameAt.kept {w w' : World} {bu : Nat} {v : Value} {f : Frame} (h : FrameAt w bu v f) (hg : w.grownBy w' (some bu)) : FrameAt w' bu v f := by
  rcases h with h | ⟨b, h1, h2, h3⟩
  · exact .inl h
  · exact .inr ⟨b, h1, h2, h3.kept hg (fun e => h2 (Option.some.inj e))⟩
theorem FrameAt.later {w w' : World} {bu : Nat} {v : Value} {f : Frame} (h : FrameAt w bu v f) (hb : Below w.heap.size w w') : FrameAt w' bu v f := by
  rcases h with h | ⟨b, h1, h2, h3⟩
  · exact .inl h
  · exact .inr ⟨b, h1, h2, h3.later hb⟩
theorem FrameAt.look {w : World} {bu : Nat} {v : Value} {f : Frame} (h : FrameAt w bu v f) {k : ByteArray} (hk : k.size ≤ maxLen) :
    (Instr.lookup 121 v (.string k) true).run Tryz.prog w = .ok (.tuple #[.string ((f (bytesOf k)).getD ⟨#[]⟩), .bool (f (bytesOf k)).isSome]) w ∧ ((f (bytesOf k)).getD ⟨#[]⟩).size ≤ maxLen := by
  rcases h with ⟨rfl, h⟩ | ⟨b, rfl, _, h⟩
  · rw [h]
    refine ⟨?_, by simp [ByteArray.size]⟩
    have := look_nil (P := Tryz.prog) (w := w) (t := 121) true (string_keyed Tryz.underlying9) Tryz.underlyingMS (zero9 w) (keyOf_string_mk Tryz.underlying9 hk)
    rw [this]; rfl
  · exact h.look hk

end Go.Proofs.YtjmlaeofjjhfmaaGreat
/- The reference's word and Fresh. -/
namespace Go.Proofs.YtjmlaeofjjhfmaaGreat
open Go.RowKit Go.Shelf Go.Maps

end Go.Proofs.YtjmlaeofjjhfmaaGreat
/- The reference's Fresh; short. -/
namespace Go.Proofs.YtjmlaeofjjhfmaaGreat
open Go.RowKit Go.Shelf Go.Maps

end Go.Proofs.YtjmlaeofjjhfmaaGreat
/- short; name. -/
namespace Go.Proofs.YtjmlaeofjjhfmaaGreat
open Go.RowKit Go.Shelf Go.Maps

end Go.Proofs.YtjmlaeofjjhfmaaGreat
/- send. -/
namespace Go.Proofs.YtjmlaeofjjhfmaaGreat
open Go.RowKit Go.Shelf Go.Maps

theorem info36 : (Tryz.prog.info? 36).map (fun i => (i.zero, i.size, i.bytes)) = some (some (.agg #[.int .i64 0, .int .i64 0, .string ⟨#[]⟩, .slice none 0 0]), 4, 56) := by kernel_rfl
def nmC (s : ByteArray) : List Value := [.int .i64 2, .int .i64 0, .string s, .slice none 0 0]
def nmCs (ss : List ByteArray) : List Value := ss.flatMap nmC
theorem nmCs_take (ss : List ByteArray) (k : Nat) (h : k < ss.length) : nmCs (ss.take (k + 1)) = nmCs (ss.take k) ++ nmC ss[k] := by
  unfold nmCs; rw [List.take_succ_eq_append_getElem h, List.flatMap_append]; simp
theorem Tryz.results109 : Tryz.f109.results = #[.cell 4 33] := by kernel_rfl

theorem ownsRow_keep {w w' : World} {base e size n : Nat} {v : Value} {xs : List Value} {row : Option Nat} (h : w.ownsRow base e size v n xs) (g : w.grownBy w' row) (hne : ∀ b, v.ownBlock = some b → row ≠ some b) : w'.ownsRow base e size v n xs := by
  obtain ⟨h1, h2 | ⟨b, cap, cur, rfl, hb, hg, r⟩⟩ := h
  · exact ⟨h1, .inl h2⟩
  · exact ⟨h1, .inr ⟨b, cap, cur, rfl, hb, (g.block b (Array.getElem?_eq_some_iff.1 hg).1 (fun e => hne b rfl e.symm)).trans hg, r⟩⟩
theorem ownsRow_lowS {w : World} {a b e size n : Nat} {v : Value} {xs : List Value} (h : w.ownsRow a e size v n xs) (hb : b ≤ a) : w.ownsRow b e size v n xs := by
  obtain ⟨h1, h2 | ⟨g, cap, cur, h3, h4, r⟩⟩ := h
  · exact ⟨h1, .inl h2⟩
  · exact ⟨h1, .inr ⟨g, cap, cur, h3, by omega, r⟩⟩
theorem grownBy_setCellAt (W : World) (a : Addr) (v : Value) : W.grownBy (W.setCell a v) (some a.block) :=
  ⟨rfl, rfl, rfl, (KeepsWalks.setCell W _ v).size, fun k _ hk => Below.heap_setCell _ _ _ k (fun e => hk (by rw [e]))⟩

set_option maxRecDepth 10000 in
set_option maxHeartbeats 1000000 in
theorem send_any (s : ByteArray) (v : Value) (ss : List ByteArray) (w : World) (hs : s.size ≤ maxLen) (h : StrsAt w.heap.size w v ss) (hl : ss.length ≤ 1000) :
    Calls Tryz.prog 109 #[.string s, v] w fun e w' => ∃ r, e = .returned (.agg #[.int .i64 2, .string s, r, .slice none 0 0, .slice none 0 0]) ∧ w'.ownsRow w.heap.size 36 4 r ss.length (nmCs ss) ∧ Below w.heap.size w w' := by
  obtain ⟨i0, hi, hz0, hz1, hz2⟩ := info_parts info36
  obtain ⟨a, cap, rfl, _, hz, _, hp⟩ := h
  obtain ⟨W0, hW0⟩ : ∃ W0, W0 = ((w.alloc (.cells #[.int .i64 0, .string ⟨#[]⟩, .slice none 0 0, .slice none 0 0, .slice none 0 0] 33)).alloc (.cells #[.int .i64 2, .string s, .slice none 0 0, .slice none 0 0, .slice none 0 0] 33)) := ⟨_, rfl⟩
  have hb0 : Below w.heap.size w W0 := by rw [hW0]; exact ((Below.refl _ w).alloc (Nat.le_refl _) _).alloc (by simp) _
  have hz0' : W0.heap.size = w.heap.size + 2 := by rw [hW0]; simp
  have k4 : W0.heap[w.heap.size]? = some (.cells #[.int .i64 0, .string ⟨#[]⟩, .slice none 0 0, .slice none 0 0, .slice none 0 0] 33) := by
    rw [hW0, Below.heap_alloc _ _ _ (by simp)]; exact World.alloc_heap_new w _
  have k5 : W0.heap[w.heap.size + 1]? = some (.cells #[.int .i64 2, .string s, .slice none 0 0, .slice none 0 0, .slice none 0 0] 33) := by
    rw [hW0]; have := World.alloc_heap_new (w.alloc (.cells #[.int .i64 0, .string ⟨#[]⟩, .slice none 0 0, .slice none 0 0, .slice none 0 0] 33)) (.cells #[.int .i64 2, .string s, .slice none 0 0, .slice none 0 0, .slice none 0 0] 33); rwa [World.size_alloc] at this
  have HW := Lib.hid hW0
  go_enter Tryz.func109, Tryz.ntmps109
  go_wp2_with fail
  rw [← HW.out]
  clear hW0
  go_loopw [6] (fun i wr => ∃ (k : Nat) (r : Value), k ≤ ss.length ∧ i = .int .i64 k ∧ wr.heap[w.heap.size]? = some (.cells #[.int .i64 0, .string ⟨#[]⟩, .slice none 0 0, .slice none 0 0, .slice none 0 0] 33) ∧
    wr.heap[w.heap.size + 1]? = some (.cells #[.int .i64 2, .string s, r, .slice none 0 0, .slice none 0 0] 33) ∧ wr.ownsRow (w.heap.size + 2) 36 4 r k (nmCs (ss.take k)) ∧ Below w.heap.size w wr) (fun i _ => ss.length - (intOf i).toNat)
  case atStart => exact ⟨0, _, by omega, rfl, k4, k5, World.ownsRow_nil _ _ _ _, hb0⟩
  case round =>
    obtain ⟨k, r, hk, rfl, q4, q5, hown, hb⟩ := hrel
    have hz5 := (Array.getElem?_eq_some_iff.1 q5).1
    by_cases hlt : k < ss.length
    · rcases hp with h0 | ⟨b, off, rfl, hbb, hc⟩
      · subst h0; simp at hlt
      have htk := Lib.hid (nmCs_take ss k hlt)
      have ck := (hb.cell (p := ⟨b, off + k, none⟩) hbb).trans (hc k hlt)
      obtain ⟨x, hx⟩ : ∃ x, x = ss[k] := ⟨_, rfl⟩
      rw [← hx] at ck htk
      obtain ⟨T, hT⟩ : ∃ T, T = nmCs (ss.take k) := ⟨_, rfl⟩
      rw [← hT] at hown htk
      obtain ⟨Q, hQ⟩ : ∃ Q : World → Prop, Q = fun W => Below wr.heap.size wr W := ⟨_, rfl⟩
      have cbox : ∀ W, Below wr.heap.size wr W → W.cell? ⟨w.heap.size + 1, 2, none⟩ = some r := fun W hW => by
        have := (hW.block (w.heap.size + 1) hz5).trans q5
        simp [World.cell?, this]
      have hnm : ∀ W, Q W → Calls Tryz.prog 51 #[.string x] W fun e w' => e = .returned (.agg #[.int .i64 2, .int .i64 0, .string x, .slice none 0 0]) ∧ Q w' ∧ w'.cell? ⟨w.heap.size + 1, 2, none⟩ = some r ∧
          (w'.alloc (.cells #[.int .i64 2, .int .i64 0, .string x, .slice none 0 0] 36)).cell? ⟨w.heap.size + 1, 2, none⟩ = some r := fun W hW => by
        rw [hQ] at hW
        refine (name51_any x W).mono fun e w' ⟨h1, h2⟩ => ?_
        have h3 : Below wr.heap.size wr w' := hW.trans (h2.mono hW.size)
        exact ⟨h1, by rw [hQ]; exact h3, cbox _ h3, cbox _ (h3.alloc h3.size _)⟩
      have hj : ∀ W, Q W → ∃ g cp w' v', v' = .slice (some ⟨g, 0, none⟩) (k + 1) cp ∧ (Builtin.append_ #[29, 29] 29 #[r, .slice (some ⟨W.heap.size, 0, none⟩) 1 1]).run Tryz.prog (W.alloc (.cells #[.int .i64 2, .int .i64 0, .string x, .slice none 0 0] 36)) = .ok v' w' ∧
          w'.cell? ⟨w.heap.size + 1, 2, none⟩ = some r ∧ w'.frozen? ⟨w.heap.size + 1, 2, none⟩ = false ∧
          (w'.setCell ⟨w.heap.size + 1, 2, none⟩ v').heap[w.heap.size]? = some (.cells #[.int .i64 0, .string ⟨#[]⟩, .slice none 0 0, .slice none 0 0, .slice none 0 0] 33) ∧
          (w'.setCell ⟨w.heap.size + 1, 2, none⟩ v').heap[w.heap.size + 1]? = some (.cells #[.int .i64 2, .string s, v', .slice none 0 0, .slice none 0 0] 33) ∧
          (w'.setCell ⟨w.heap.size + 1, 2, none⟩ v').ownsRow (w.heap.size + 2) 36 4 v' (k + 1) (T ++ nmC x) ∧ Below w.heap.size w (w'.setCell ⟨w.heap.size + 1, 2, none⟩ v') := by
        intro W hW
        rw [hQ] at hW
        have hA : Below wr.heap.size wr (W.alloc (.cells #[.int .i64 2, .int .i64 0, .string x, .slice none 0 0] 36)) := hW.alloc hW.size _
        have hoA := ownsRow_keep hown (grown_of_below hA) (fun g _ e => by cases e)
        have hsz := hW.size
        obtain ⟨v', w', hr, h1, h2, _, _⟩ := run_append_own_at (P := Tryz.prog) (W.alloc (.cells #[.int .i64 2, .int .i64 0, .string x, .slice none 0 0] 36)) (w.heap.size + 2) 29 29 36 i0 (.agg #[.int .i64 0, .int .i64 0, .string ⟨#[]⟩, .slice none 0 0]) 4 56 Tryz.underlying29 hi hz0 hz1 hz2 rfl (by decide) r k T hoA
          ⟨W.heap.size, 0, none⟩ 1 1 (nmC x) rfl (by
            intro j u hj
            have e : (⟨W.heap.size, 0, none⟩ : Addr).add j = ⟨W.heap.size, j, none⟩ := by unfold Addr.add; by_cases h : j = 0 <;> simp [h]
            rw [e, World.cell?_alloc_at _ _ _ _ rfl]
            simpa [nmC] using hj) (by simp [nmC, Value.oneCell']) (by unfold maxLen; omega) (by omega) (by simp; omega)
        have hne : ∀ g, r.ownBlock = some g → w.heap.size + 2 ≤ g := fun g hg => (hoA.lt g hg).1
        have p4 : w'.heap[w.heap.size]? = some (.cells #[.int .i64 0, .string ⟨#[]⟩, .slice none 0 0, .slice none 0 0, .slice none 0 0] 33) :=
          (h2.block _ (by simp; omega) (fun e => by have := hne _ e.symm; omega)).trans ((hA.block _ (by omega)).trans q4)
        have p5 : w'.heap[w.heap.size + 1]? = some (.cells #[.int .i64 2, .string s, r, .slice none 0 0, .slice none 0 0] 33) :=
          (h2.block _ (by simp; omega) (fun e => by have := hne _ e.symm; omega)).trans ((hA.block _ hz5).trans q5)
        have hbw : Below w.heap.size w w' := (hb.trans (hA.mono hb.size)).grown h2 (by simp; omega) (fun g e => by have := hne g e; omega)
        obtain ⟨_, ⟨_, h0⟩ | ⟨g, cp, cur, hvf, _⟩⟩ := id h1
        · omega
        refine ⟨g, cp, w', v', hvf, hr, by simp [World.cell?, p5], by simp [World.frozen?, p5], ?_, ?_, ?_, hbw.setCell (by simp) _⟩
        · rw [Below.heap_setCell _ _ _ _ (by simp)]; exact p4
        · show (World.setCell w' ⟨w.heap.size + 1, 2, none⟩ v').heap[w.heap.size + 1]? = _
          simp [World.setCell, Array.getElem?_modify, p5]
        · refine ownsRow_keep h1 (grownBy_setCellAt w' ⟨w.heap.size + 1, 2, none⟩ v') (fun g hg e => ?_)
          have h9 := (h1.lt g hg).1
          have h8 := Option.some.inj e
          simp only at h8
          omega
      have HQ := Lib.hid hQ
      clear hQ hT hx hc hz
      have hq0 : Q wr.drew := by rw [HQ.out]; exact (Below.refl _ _).drew
      have cb0 : wr.drew.cell? ⟨w.heap.size + 1, 2, none⟩ = some r := cbox _ (Below.refl _ _).drew
      clear cbox
      go_wp2
      go_region_law (first
        | (revert hQ3; intro hQ3; obtain ⟨g, cp, w', _, rfl, hr, f1, f2, f3, f4, f5, f6⟩ := hj w3 hQ3; refine step_append_eq rfl (.tmp 16) (.tmp 22) 29 29 rfl rfl rfl hr ?_)
        | (go_simp; go_wp2_with (go_at_call 51; refine (hnm _ (by assumption)).mono ?_; rintro e w3 ⟨rfl, hQ3, hc3, hc4⟩)))
      all_goals
        have FA := Lib.hid f3; have FB := Lib.hid f4; have FC := Lib.hid f5; have FD := Lib.hid f6
        clear f1 f2 f3 f4 f5 f6 hr
        go_wp2
        go_roundw
        case rel => exact ⟨k + 1, _, by omega, by go_num, FA.out, FB.out, by rw [htk.out]; exact FC.out, FD.out⟩
        case measure => simp [intOf]; omega
    · obtain rfl : k = ss.length := by omega
      rw [List.take_length] at hown
      have hr : ∃ a' cp, r = .slice a' ss.length cp := by
        obtain ⟨_, ⟨rfl, h0⟩ | ⟨g, cp, cur, hvf, _⟩⟩ := hown
        · exact ⟨none, 0, by rw [h0]⟩
        · exact ⟨_, _, hvf⟩
      obtain ⟨a', cp, rfl⟩ := hr
      have c50 : wr.cell? ⟨w.heap.size + 1, 0, none⟩ = some (.int .i64 2) := by simp [World.cell?, q5]
      have c51 : wr.cell? ⟨w.heap.size + 1, 1, none⟩ = some (.string s) := by simp [World.cell?, q5]
      have c52 : wr.cell? ⟨w.heap.size + 1, 2, none⟩ = some (.slice a' ss.length cp) := by simp [World.cell?, q5]
      have c53 : wr.cell? ⟨w.heap.size + 1, 3, none⟩ = some (.slice none 0 0) := by simp [World.cell?, q5]
      have c54 : wr.cell? ⟨w.heap.size + 1, 4, none⟩ = some (.slice none 0 0) := by simp [World.cell?, q5]
      have c40 : wr.cell? ⟨w.heap.size, 0, none⟩ = some (.int .i64 0) := by simp [World.cell?, q4]
      have c41 : wr.cell? ⟨w.heap.size, 1, none⟩ = some (.string ⟨#[]⟩) := by simp [World.cell?, q4]
      have c42 : wr.cell? ⟨w.heap.size, 2, none⟩ = some (.slice none 0 0) := by simp [World.cell?, q4]
      have c43 : wr.cell? ⟨w.heap.size, 3, none⟩ = some (.slice none 0 0) := by simp [World.cell?, q4]
      have c44 : wr.cell? ⟨w.heap.size, 4, none⟩ = some (.slice none 0 0) := by simp [World.cell?, q4]
      have cf : ∀ o, wr.frozen? ⟨w.heap.size, o, none⟩ = false := fun o => by simp [World.frozen?, q4]
      have hset : ∀ (W : World) (o : Nat) (x : Value), W.ownsRow (w.heap.size + 2) 36 4 (.slice a' ss.length cp) ss.length (nmCs ss) → (W.setCell ⟨w.heap.size, o, none⟩ x).ownsRow (w.heap.size + 2) 36 4 (.slice a' ss.length cp) ss.length (nmCs ss) := fun W o x h =>
        ownsRow_keep h (grownBy_setCellAt W ⟨w.heap.size, o, none⟩ x) (fun g hg e => by
          have h9 := (h.lt g hg).1
          have h8 := Option.some.inj e
          simp only at h8
          omega)
      go_wp2
      simp [bodyPost, results, Tryz.results109, go_sem, c40, c41, c42, c43, c44]
      exact ⟨ownsRow_lowS (hset _ _ _ (hset _ _ _ (hset _ _ _ (hset _ _ _ (hset _ _ _ hown))))) (by omega), ((((hb.setCell (by simp) _).setCell (by simp) _).setCell (by simp) _).setCell (by simp) _).setCell (by simp) _⟩

end Go.Proofs.YtjmlaeofjjhfmaaGreat
