/- Lemmas. -/
import Derived.Test.YtjmlaeofjjhfmaaGreatS43
set_option linter.unusedVariables false
set_option linter.unusedSimpArgs false
set_option maxRecDepth 10000
set_option maxHeartbeats 16000000
namespace Go.Proofs.YtjmlaeofjjhfmaaGreat
section
open Go.RowKit Go.Shelf Go.Maps
section
variable {P:Program} {ops:Array Oper} {Q:Exit->Act->World->Prop} {md:Region.Mode} {S:World->Prop} {k:Nat}
def Sunk (P:Program) (md:Region.Mode) (ops:Array Oper) (Q:Exit->Act->World->Prop) (S:World->Prop) (k:Nat):Nat->Array Bool->Act->World->Prop
 | 0,listed,a,w=> Region.ready md ops listed= []/\Q .normal a w
 | f + 1,listed,a,w=> (Region.ready md ops listed= []->Q .normal a w)/\
   ∀i∈Region.ready md ops listed,wpOp P ops Q i (fun a' w'=> (i≠k->S w')/\Sunk P md ops Q S k f (listed.setIfInBounds i true) a' w') a w
theorem Sunk.any:∀(f:Nat) (listed:Array Bool) (a:Act) (w:World),Sunk P md ops Q S k f listed a w->wpAny P md ops Q f listed a w
 | 0,_,_,_,h=> h
 | f + 1,_,_,_,h=> ⟨h.1,fun i hi=> wpOp_mono (fun a' w' g=> Sunk.any f _ a' w' g.2) (h.2 i hi)⟩
def zaw (md:Region.Mode) (ops:Array Oper) (k i:Nat):Bool:=i !=k && (match ops[k]? with
 | some ok=> ok.after.toList.any (fun e=> Region.binds md e && e.on==i)
 | none=> false)
theorem Sunk.first {i:Nat} {oi:Oper} {v:Value} (hi:ops[i]?=some oi) (hsel:∀(j:Nat) (o:Oper) cs b,ops[j]?=some o->o.op≠ .select cs b) (hwt:zaw md ops k i=true)
  (hQ:∀c a w,Q (.panic c) (a.put oi.dst v) w->Q (.panic c) a w) (f:Nat):
  ∀(listed:Array Bool) (a:Act) (w:World),
   (∀j oj,ops[j]?=some oj->j≠i->listed.getD j true=false->(∀e∈oj.after,Region.binds md e=true->e.on≠i)->oi.apart ops oj=true)->
   i∈Region.ready md ops listed->YieldsIf P ops S oi v a->S w->
   Sunk P md ops Q S k f (listed.setIfInBounds i true) (a.put oi.dst v) w->Sunk P md ops Q S k (f + 1) listed a w:=by
 have hwt':i≠k/\∀ok,ops[k]?=some ok->∃e∈ok.after,Region.binds md e=true/\e.on=i:=by
  unfold zaw at hwt;rw [Bool.and_eq_true,bne_iff_ne] at hwt;refine ⟨hwt.1,fun ok hok=> ?_⟩;have h2:=hwt.2;rw [hok] at h2;simp only [List.any_eq_true,Bool.and_eq_true,beq_iff_eq] at h2;obtain ⟨e,he,hb,ho⟩:=h2;exact ⟨e,Array.mem_toList_iff.1 he,hb,ho⟩
 induction f with
 | zero=>
  intro listed a w _ hr hy hS H;refine ⟨fun h=> (by rw [h] at hr;cases hr),fun j hj=> ?_⟩;by_cases hji:j=i
  ·subst hji;exact hy.wpOp hi hS ⟨fun _=> hS,H⟩
  ·have:=ready_mono hj hji
   rw [H.1] at this;cases this
 | succ f ih=>
  intro listed a w hfree hr hy hS H;refine ⟨fun h=> (by rw [h] at hr;cases hr),fun j hj=> ?_⟩;by_cases hji:j=i
  ·subst hji;exact hy.wpOp hi hS ⟨fun _=> hS,H⟩
  ·have g1:=H.2 j (ready_mono hj hji)
   obtain ⟨hun,oj,hoj,hall⟩:=mem_ready.1 hj
   have hnot:∀e∈oj.after,Region.binds md e=true->e.on≠i:=fun e he hb heq=> by
    have h1:=hall e he hb;have h0:=(mem_ready.1 hr).1;rw [heq] at h1;rcases Nat.lt_or_ge i listed.size with h' | h'
    ·simp [h'] at h0 h1;rw [h0] at h1;cases h1
    ·simp [Array.getElem?_eq_none h'] at h1
   have hjk:j≠k:=fun e=> by
    subst e;obtain ⟨x,hx,hb,ho⟩:=hwt'.2 oj hoj;exact hnot x hx hb ho
   have g2:=wpOp_putIf hoj (hfree j oj hoj hji hun hnot) (fun cs b=> hsel i oi cs b hi) (fun cs b=> hsel j oj cs b hoj) hQ hy g1;refine wpOp_mono (fun a' w' g3=> ⟨g3.2.1,ih (listed.setIfInBounds j true) a' w' (fun m om hm hmi hum hno=> hfree m om hm hmi ?_ hno) (ready_mono hr (Ne.symm hji)) g3.1 (g3.2.1 hjk) ?_⟩) g2
   ·by_cases hjm:j=m
    ·subst hjm;exact hun
    ·rw [getD_set_ne true hjm] at hum;exact hum
   ·rw [Array.setIfInBounds_comm _ _ hji]
    exact g3.2.2
theorem Sunk.take (i:Nat) {oi:Oper} (v:Value) {f:Nat} {listed:Array Bool} {a:Act} {w:World} (hi:ops[i]?=some oi) (hs:Region.noSelect ops=true) (hf:Region.free md ops listed i=true)
  (hr:(Region.ready md ops listed).contains i=true) (hwt:zaw md ops k i=true) (hQ:∀c a w,Q (.panic c) (a.put oi.dst v) w->Q (.panic c) a w) (hS:S w)
  (hw:Region.wanted oi (yielded ops a.tmps)=true) (hy:∀w,S w->(execOp a.eval oi).run P w= .ok (.value v) w)
  (h:Sunk P md ops Q S k f (listed.setIfInBounds i true) (a.put oi.dst v) w):Sunk P md ops Q S k (f + 1) listed a w:=
 Sunk.first hi (Region.noSelect_spec hs) hwt hQ f listed a w (Region.free_spec hi hf) (by simpa using hr) (.inl ⟨hw,hy⟩) hS h
theorem Sunk.skip (i:Nat) {oi:Oper} {f:Nat} {listed:Array Bool} {a:Act} {w:World} (hi:ops[i]?=some oi) (hs:Region.noSelect ops=true) (hf:Region.free md ops listed i=true)
  (hr:(Region.ready md ops listed).contains i=true) (hwt:zaw md ops k i=true) (hQ:∀c a w,Q (.panic c) (a.put oi.dst undef) w->Q (.panic c) a w) (hS:S w)
  (hw:Region.wanted oi (yielded ops a.tmps)=false) (h:Sunk P md ops Q S k f (listed.setIfInBounds i true) (a.put oi.dst undef) w):Sunk P md ops Q S k (f + 1) listed a w:=
 Sunk.first hi (Region.noSelect_spec hs) hwt hQ f listed a w (Region.free_spec hi hf) (by simpa using hr) (.inr ⟨hw,rfl⟩) hS h
theorem Sunk.one (i:Nat) {o:Oper} {f:Nat} {listed:Array Bool} {a:Act} {w:World} (hr:Region.ready md ops listed= [i]) (ho:ops[i]?=some o) (hw:Region.wanted o (yielded ops a.tmps)=true)
  (h:∀K':Act->World->Prop,Shut (∀a w,(i≠k->S w)->Sunk P md ops Q S k f (listed.setIfInBounds i true) a w->K' a w)->Oper.wp P o a w K' Q):Sunk P md ops Q S k (f + 1) listed a w:=by
 refine ⟨fun h0=> (by rw [hr] at h0;cases h0),fun j hj=> ?_⟩;rw [hr] at hj;obtain rfl:=List.mem_singleton.1 hj;exact wpOp_step ho (fun K' hK=> by rw [if_pos hw];exact h K' (fun a w g1 g2=> hK a w ⟨g1,g2⟩))
theorem Sunk.done {f:Nat} {listed:Array Bool} {a:Act} {w:World} (hr:Region.ready md ops listed= []) (h:Q .normal a w):Sunk P md ops Q S k f listed a w:=by
 cases f with
 | zero=> exact ⟨hr,h⟩
 | succ f=> exact ⟨fun _=> h,by rw [hr];simp⟩
theorem jg {id:Nat} {a:Act} {w:World} (S:World->Prop) (k:Nat) (hm:P.follows .mixedOrders=true) (h:Sunk P .any ops Q S k ops.size (Array.replicate ops.size false) a w.drew):(Code.region id ops true).wp P Q a w:=
 wp_region_any hm (Sunk.any _ _ _ _ h)
end
section
variable {P:Program} {ops:Array Oper} {Q:Exit->Act->World->Prop} {md:Region.Mode} {S:World->Prop} {k:Nat}
end
section
variable {P:Program} {ops:Array Oper} {Q:Exit->Act->World->Prop} {md:Region.Mode} {S:World->Prop} {k:Nat}
theorem Sunk.firstN {i:Nat} {oi:Oper} {v:Value} (hi:ops[i]?=some oi) (hsel:∀(j:Nat) (o:Oper) cs b,ops[j]?=some o->o.op≠ .select cs b) (hk:ops[k]?=none)
  (hQ:∀c a w,Q (.panic c) (a.put oi.dst v) w->Q (.panic c) a w) (f:Nat):
  ∀(listed:Array Bool) (a:Act) (w:World),
   (∀j oj,ops[j]?=some oj->j≠i->listed.getD j true=false->(∀e∈oj.after,Region.binds md e=true->e.on≠i)->oi.apart ops oj=true)->
   i∈Region.ready md ops listed->YieldsIf P ops S oi v a->S w->
   Sunk P md ops Q S k f (listed.setIfInBounds i true) (a.put oi.dst v) w->Sunk P md ops Q S k (f + 1) listed a w:=by
 induction f with
 | zero=>
  intro listed a w _ hr hy hS H;refine ⟨fun h=> (by rw [h] at hr;cases hr),fun j hj=> ?_⟩;by_cases hji:j=i
  ·subst hji;exact hy.wpOp hi hS ⟨fun _=> hS,H⟩
  ·have:=ready_mono hj hji
   rw [H.1] at this;cases this
 | succ f ih=>
  intro listed a w hfree hr hy hS H;refine ⟨fun h=> (by rw [h] at hr;cases hr),fun j hj=> ?_⟩;by_cases hji:j=i
  ·subst hji;exact hy.wpOp hi hS ⟨fun _=> hS,H⟩
  ·have g1:=H.2 j (ready_mono hj hji)
   obtain ⟨hun,oj,hoj,hall⟩:=mem_ready.1 hj
   have hnot:∀e∈oj.after,Region.binds md e=true->e.on≠i:=fun e he hb heq=> by
    have h1:=hall e he hb;have h0:=(mem_ready.1 hr).1;rw [heq] at h1;rcases Nat.lt_or_ge i listed.size with h' | h'
    ·simp [h'] at h0 h1;rw [h0] at h1;cases h1
    ·simp [Array.getElem?_eq_none h'] at h1
   have hjk:j≠k:=fun e=> by
    subst e;rw [hk] at hoj;cases hoj
   have g2:=wpOp_putIf hoj (hfree j oj hoj hji hun hnot) (fun cs b=> hsel i oi cs b hi) (fun cs b=> hsel j oj cs b hoj) hQ hy g1;refine wpOp_mono (fun a' w' g3=> ⟨g3.2.1,ih (listed.setIfInBounds j true) a' w' (fun m om hm hmi hum hno=> hfree m om hm hmi ?_ hno) (ready_mono hr (Ne.symm hji)) g3.1 (g3.2.1 hjk) ?_⟩) g2
   ·by_cases hjm:j=m
    ·subst hjm;exact hun
    ·rw [getD_set_ne true hjm] at hum;exact hum
   ·rw [Array.setIfInBounds_comm _ _ hji]
    exact g3.2.2
theorem Sunk.takeN (i:Nat) (d:Option Tmp) (v:Value) {oi:Oper} {f:Nat} {listed:Array Bool} {a:Act} {w:World} (hi:ops[i]?=some oi) (hd:oi.dst=d) (hs:Region.noSelect ops=true) (hf:Region.free md ops listed i=true)
  (hr:(Region.ready md ops listed).contains i=true) (hk:ops[k]?=none) (hQ:∀c a w,Q (.panic c) (a.put d v) w->Q (.panic c) a w) (hS:S w)
  (hw:Region.wanted oi (yielded ops a.tmps)=true) (hy:∀w,S w->(execOp a.eval oi).run P w= .ok (.value v) w)
  (h:Sunk P md ops Q S k f (listed.setIfInBounds i true) (a.put d v) w):Sunk P md ops Q S k (f + 1) listed a w:=by
 subst hd;exact Sunk.firstN hi (Region.noSelect_spec hs) hk hQ f listed a w (Region.free_spec hi hf) (by simpa using hr) (.inl ⟨hw,hy⟩) hS h
theorem Sunk.skipN (i:Nat) (d:Option Tmp) {oi:Oper} {f:Nat} {listed:Array Bool} {a:Act} {w:World} (hi:ops[i]?=some oi) (hd:oi.dst=d) (hs:Region.noSelect ops=true) (hf:Region.free md ops listed i=true)
  (hr:(Region.ready md ops listed).contains i=true) (hk:ops[k]?=none) (hQ:∀c a w,Q (.panic c) (a.put d undef) w->Q (.panic c) a w) (hS:S w)
  (hw:Region.wanted oi (yielded ops a.tmps)=false) (h:Sunk P md ops Q S k f (listed.setIfInBounds i true) (a.put d undef) w):Sunk P md ops Q S k (f + 1) listed a w:=by
 subst hd;exact Sunk.firstN hi (Region.noSelect_spec hs) hk hQ f listed a w (Region.free_spec hi hf) (by simpa using hr) (.inr ⟨hw,rfl⟩) hS h
end
end
end Go.Proofs.YtjmlaeofjjhfmaaGreat
