/- Names for lemmas of the library. -/
import Derived.Lib.Hide
import Derived.Below
import Derived.Laws.AppendOwn
import Derived.Laws.NewBlocks
import Derived.RangeFuncRecord
import Derived.Calls
set_option linter.unusedVariables false
set_option linter.unusedSimpArgs false
namespace Go.Proofs.YtjmlaeofjjhfmaaGreat
open Go.RowKit
theorem ZH {p:Prop} (h:p) : Hid p := Lib.hid h
theorem ZL (n:Nat) : n<=n := Nat.le_refl n
theorem ZA {w:World} (c:Array Value) (t:TypeId) (n i:Nat) (hn:n=w.heap.size) : (w.alloc (.cells c t)).cell? ⟨n,i,none⟩=c[i]? := World.cell?_alloc_at c t n i hn
theorem ZN (w:World) (o:Obj) : (w.alloc o).heap[w.heap.size]?=some o := World.alloc_heap_new w o
theorem ZC (w:World) (a:Addr) (u:Value) (k:Nat) (h:k≠a.block) : (w.setCell a u).heap[k]?=w.heap[k]? := Below.heap_setCell w a u k h
theorem ZT {t:Type} {i:Nat} {l:List t} (h:i<l.length) : l.take (i+1)=l.take i++[l[i]] := List.take_succ_eq_append_getElem h
theorem ZG {t:Type} {a:Array t} {i:Nat} {x:t} (h:a[i]?=some x) : ∃h:i<a.size, a[i]=x := Array.getElem?_eq_some_iff.1 h
theorem ZJ {t:Type} {a b:t} (h:some a=some b) : a=b := Option.some.inj h
theorem ZB {w w':World} {a:Addr} (h:w'.heap[a.block]?=w.heap[a.block]?) : w'.cell? a=w.cell? a := World.cell?_of_block h
theorem ZP {w:World} (o:Obj) (n i:Nat) (hn:n<w.heap.size) : (w.alloc o).cell? ⟨n,i,none⟩=w.cell? ⟨n,i,none⟩ := World.cell?_alloc_past o n i hn
theorem ZW (w:World) (o:Obj) (r:Option Nat) : w.grownBy (w.alloc o) r := World.grownBy_alloc w o r
theorem ZO (w:World) (o:Obj) (k:Nat) (h:k<w.heap.size) : (w.alloc o).heap[k]?=w.heap[k]? := Below.heap_alloc w o k h
theorem ZM {t:Type} {l:List t} {n:Nat} (h:n<l.length) : l[n]∈l := List.getElem_mem h
theorem ZR (w:World) (b:Nat) (e:TypeId) (s:Nat) : w.ownsRow b e s (.slice none 0 0) 0 [] := World.ownsRow_nil w b e s
theorem ZF (B:Nat) (w:World) : Below B w w := Below.refl B w
theorem ZQ (w:World) (o:Obj) : Below w.heap.size w (w.alloc o) := (Below.refl _ w).alloc (Nat.le_refl _) o
theorem ZS : (∀(a:Act)(d:Option Tmp)(v:Value), a.put d v=match d with | some d => {a with tmps:=a.tmps.setIfInBounds d v} | none => a) ∧ (∀(l:List Value)(i:Nat)(a:Value), l.toArray.setIfInBounds i a=(l.set i a).toArray) ∧ (∀(x a:Value)(l:List Value), (x::l).set 0 a=a::l) ∧ (∀(x a:Value)(l:List Value)(i:Nat), (x::l).set (i+1) a=x::l.set i a) := ⟨fun _ _ _ => rfl,fun _ _ _ => by simp,fun _ _ _ => rfl,fun _ _ _ _ => rfl⟩
end Go.Proofs.YtjmlaeofjjhfmaaGreat
