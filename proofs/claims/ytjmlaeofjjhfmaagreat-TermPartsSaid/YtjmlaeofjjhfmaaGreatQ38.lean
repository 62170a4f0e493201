/- Lemmas. -/
import Derived.Test.YtjmlaeofjjhfmaaGreatQ36
set_option linter.unusedVariables false
set_option linter.unusedSimpArgs false
set_option maxRecDepth 10000
set_option maxHeartbeats 16000000
namespace Go.Proofs.YtjmlaeofjjhfmaaGreat
open Go.RowKit Go.Shelf Go.Maps
section
variable {P:Program} {ops:Array Oper} {Q:Exit->Act->World->Prop} {md:Region.Mode} {S:World->Prop} {k:Nat}
theorem Sunk.takeD (i:Nat) (d:Option Tmp) (v:Value) {oi:Oper} {f:Nat} {listed:Array Bool} {a:Act} {w:World} (hi:ops[i]?=some oi) (hd:oi.dst=d) (hs:Region.noSelect ops=true) (hf:Region.free md ops listed i=true)
  (hr:(Region.ready md ops listed).contains i=true) (hwt:zaw md ops k i=true) (hQ:∀c a w,Q (.panic c) (a.put d v) w->Q (.panic c) a w) (hS:S w)
  (hw:Region.wanted oi (yielded ops a.tmps)=true) (hy:∀w,S w->(execOp a.eval oi).run P w= .ok (.value v) w)
  (h:Sunk P md ops Q S k f (listed.setIfInBounds i true) (a.put d v) w):Sunk P md ops Q S k (f + 1) listed a w:=by
 subst hd;exact Sunk.take i v hi hs hf hr hwt hQ hS hw hy h
theorem Sunk.skipD (i:Nat) (d:Option Tmp) {oi:Oper} {f:Nat} {listed:Array Bool} {a:Act} {w:World} (hi:ops[i]?=some oi) (hd:oi.dst=d) (hs:Region.noSelect ops=true) (hf:Region.free md ops listed i=true)
  (hr:(Region.ready md ops listed).contains i=true) (hwt:zaw md ops k i=true) (hQ:∀c a w,Q (.panic c) (a.put d undef) w->Q (.panic c) a w) (hS:S w)
  (hw:Region.wanted oi (yielded ops a.tmps)=false) (h:Sunk P md ops Q S k f (listed.setIfInBounds i true) (a.put d undef) w):Sunk P md ops Q S k (f + 1) listed a w:=by
 subst hd;exact Sunk.skip i hi hs hf hr hwt hQ hS hw h
end
end Go.Proofs.YtjmlaeofjjhfmaaGreat
