/- Lemmas. -/
import Derived.Test.YtjmlaeofjjhfmaaGreatQ34
import Derived.Test.YtjmlaeofjjhfmaaGreatQ32
set_option linter.unusedVariables false
set_option linter.unusedSimpArgs false
set_option maxRecDepth 10000
set_option maxHeartbeats 16000000
namespace Go.Proofs.YtjmlaeofjjhfmaaGreat
section
open Go.RowKit Go.Shelf Go.Maps
theorem zfx {ops:Array Oper} {o:Oper} {a:Act} {w:World} {K:Act->World->Prop} {Q:Exit->Act->World->Prop} {E:Prop} (hg:o.guard=none) (s x:Operand) (t t':TypeId)
  (ho:o.op= .call { callee:= .builtin .append,args:=#[s,x],argTypes:=#[t,t'] }) {v1 v2:Value} (h1:a.eval s=v1) (h2:a.eval x=v2) {R:Value->World->Prop}
  (hr:∃v' w',(Builtin.append_ #[t,t'] o.type #[v1,v2]).run Tryz.prog w= .ok v' w'/\R v' w') (hK:∀v' w',R v' w'->K (a.put o.dst v') w'):
  if Region.wanted o (yielded ops a.tmps)=true then Oper.wp Tryz.prog o a w K Q else E:=by
 obtain ⟨v',w',hr,hR⟩:=hr;exact zU hg s x t t' ho h1 h2 hr (hK v' w' hR)
theorem zen {X:Type} {R:List Value->X->Prop} {t e:TypeId} {n y:Nat} {z:Value} (hE:zcj t e n y z) {w:World} {A:Nat} {v1:Value} {vals:List Value} {l1 l2:List X} (ho:w.ownsRow A e n v1 l1.length vals)
  (hc:zq (fun _ _ cs x=> R cs x) n 0 w vals l1) {a:Option Addr} {cap:Nat} (hcap:a=none->cap=0/\l2= []) (news:List Value) (k1:zq (fun _ _ cs x=> R cs x) n 0 w news l2) (k2:∀u∈news,u.oneCell'=true)
  (k3:∀ad,a=some ad->∀j u,news[j]?=some u->w.cell? (ad.add j)=some u) (hA:A<=w.heap.size) (n1:l1.length<=100000) (n2:l2.length<=100000):
  ∃v' w',(Builtin.append_ #[t,t] t #[v1, .slice a l2.length cap]).run Tryz.prog w= .ok v' w'/\w'.ownsRow A e n v' (l1 ++ l2).length (vals ++ news)/\zq (fun _ _ cs x=> R cs x) n 0 w' (vals ++ news) (l1 ++ l2)/\w.grownBy w' v1.ownBlock:=by
 obtain ⟨i0,hi,hz0,hz1,hz2⟩:=info_parts hE.info
 have happ:∀w',zq (fun _ _ cs x=> R cs x) n 0 w' (vals ++ news) (l1 ++ l2):=by
  intro w';refine ⟨by rw [List.length_append,List.length_append,hc.1,k1.1,Nat.add_mul],fun i hi=> ?_⟩;by_cases hlt:i < l1.length
  ·have e1:i * n + n<=vals.length:=by rw [hc.1,<-Nat.succ_mul];exact Nat.mul_le_mul_right n hlt
   rw [List.getElem_append_left hlt,List.drop_append_of_le_length (by omega),List.take_append_of_le_length (by simp;omega)];exact hc.2 i hlt
  ·have hl:i - l1.length < l2.length:=by simp at hi;omega
   have e2:i * n=vals.length + (i - l1.length) * n:=by rw [hc.1,<-Nat.add_mul,Nat.add_sub_cancel' (Nat.le_of_not_lt hlt)]
   rw [List.getElem_append_right (by omega),e2,<-List.drop_drop,List.drop_left];exact k1.2 _ hl
 cases a with
 | none=>
  obtain ⟨rfl,rfl⟩:=hcap rfl;have hn0:news= []:=by have:=k1.1;simp at this;exact this
  subst hn0;have hr:=run_append_owned_none (P:=Tryz.prog) (w:=w) A t t e i0 n hE.under hi v1 l1.length vals ho;exact ⟨v1,w,hr,by simpa using ho,happ w,World.grownBy.refl _ _⟩
 | some ad=>
  have hby:(l1.length + l2.length) * y<=140737488355328:=by
   have:=Nat.mul_le_mul (show l1.length + l2.length<=200000 by omega) hE.small;omega
  obtain ⟨v',w',hr,h4,h5,_,_⟩:=run_append_own_at (P:=Tryz.prog) w A t t e i0 z n y hE.under hi hz0 hz1 hz2 hE.zero hE.pos v1 l1.length vals ho ad l2.length cap news k1.1 (k3 ad rfl) k2 (by unfold maxLen;omega) hby hA;exact ⟨v',w',hr,by rw [List.length_append];exact h4,happ w',h5⟩
theorem zmZ (v1 v2:Value) (s1 s2:List ByteArray) (w:World) (h1:zx w.heap.size w v1 s1) (h2:zx w.heap.size w v2 s2) (l1:s1.length<=500000) (l2:s2.length<=500000):
  Calls Tryz.prog 79 #[v1,v2] w fun e w'=> ∃v,e= .returned v/\w'.ownsRow w.heap.size 9 1 v (s1 ++ s2).length (zn (s1 ++ s2))/\(∀s∈s1 ++ s2,s.size<=maxLen)/\Below w.heap.size w w':=by
 have zA:(w.alloc (.cells #[] 9)).heap.size=w.heap.size + 1:=by simp
 have bA:Below w.heap.size w (w.alloc (.cells #[] 9)):=ZQ w _;obtain ⟨r1,w2,hr1,ho1,hz1,hg1⟩:=yQ 22 (zfT w [] (by simp)) (h1.later bA) (by rw [show (zn []).toArray=#[] from rfl,zA];omega) (by simp) (by omega) (by simp);rw [List.nil_append] at ho1 hz1;rw [show (zn []).toArray=#[] from rfl] at hr1 hg1;have hbA2:Below w.heap.size w w2:=bA.grown hg1 (by rw [zA];omega) (fun r e=> by have:=ZJ e;simp only at this;omega);have hz2:=hg1.size;obtain ⟨r2,w3,hr2,ho2,hz3,hg2⟩:=yQ 22 ho1 (h2.later hbA2) (by omega) (by omega) (by omega) hz1;have hbF:Below w.heap.size w w3:=hbA2.grown hg2 (by omega) (fun r e=> by have:=(ho1.lt r e).1;omega);have FIN:=ZH (And.intro ho2 (And.intro hz3 hbF));clear hbF ho1 ho2 hz1 hz3 hg1 hg2 bA hbA2 zA hz2;obtain ⟨a1,c1,rfl,_⟩:=h1;obtain ⟨a2,c2,rfl,_⟩:=h2;go_enter Tryz.func79,Tryz.ntmps79
 go_wp2_with (first
  | (show wpList _ _ _ (⟨some 7,_,_,_,_,_⟩::_) _ _;refine qe rfl (.tmp 5) (.tmp 6) 22 22 rfl rfl rfl hr1 ?_)
  | (show wpList _ _ _ (⟨some 9,_,_,_,_,_⟩::_) _ _;refine qe rfl (.tmp 7) (.tmp 8) 22 22 rfl rfl rfl hr2 ?_))
 go_ret;exact ⟨_,rfl,FIN.out.1,FIN.out.2.1,FIN.out.2.2⟩
abbrev z111:Obj:= .cells #[.slice none 0 0, .slice none 0 0] 111
structure PS (c:Chg) (l:List ByteArray) (B:Nat) (u W1:World) (oN oS:Option Nat) (oA oC:Option Value) (W:World):Prop where
 below:Below W1.heap.size W1 W
 box:∀n,oN=some n->W1.heap.size<=n/\W.heap[n]?=some z111
 row:∀n,oS=some n->W1.heap.size<=n/\W.heap[n]?=some (.cells #[] 36)
 exps:∀v,oA=some v->∃vals,W.ownsRow W1.heap.size 36 4 v c.length vals/\zq (fun _ _ cs x=> zy B u cs x) 4 0 W vals (c.map (·.2))
 names:∀v,oC=some v->W.ownsRow W1.heap.size 9 1 v (c.map (·.1) ++ l).length (zn (c.map (·.1) ++ l))
theorem PS.later {c:Chg} {l:List ByteArray} {B:Nat} {u W1:World} {oN oS:Option Nat} {oA oC:Option Value} {W W':World} (h:PS c l B u W1 oN oS oA oC W) (hb:Below W.heap.size W W'):PS c l B u W1 oN oS oA oC W':=by
 have hs:=h.below.size;have hg:=zj hb;refine ⟨h.below.trans (hb.mono hs),fun n hn=> ?_,fun n hn=> ?_,fun v hv=> ?_,fun v hv=> ?_⟩
 ·obtain ⟨h1,h2⟩:=h.box n hn
  exact ⟨h1,(hb.block n (ZG h2).1).trans h2⟩
 ·obtain ⟨h1,h2⟩:=h.row n hn
  exact ⟨h1,(hb.block n (ZG h2).1).trans h2⟩
 ·obtain ⟨vals,h1,h2⟩:=h.exps v hv
  exact ⟨vals,zt h1 hg (fun b _ e=> by cases e),h2⟩
 ·exact zt (h.names v hv) hg (fun b _ e=> by cases e)
theorem PS.start (c:Chg) (l:List ByteArray) (B:Nat) (u W1:World):PS c l B u W1 none none none none W1.drew:=
 ⟨(ZF _ _).drew,(fun n h=> by cases h),(fun n h=> by cases h),(fun n h=> by cases h),(fun n h=> by cases h)⟩
theorem PS.allocN {c:Chg} {l:List ByteArray} {B:Nat} {u W1:World} {oS:Option Nat} {oA oC:Option Value} {W:World} {n:Nat} (hn:n=W.heap.size) (h:PS c l B u W1 none oS oA oC W):PS c l B u W1 (some n) oS oA oC (W.alloc z111):=by
 have h':=h.later ((ZF _ W).alloc (ZL _) z111);refine ⟨h'.below,fun k hk=> ?_,h'.row,h'.exps,h'.names⟩;obtain rfl:=ZJ hk;subst hn;exact ⟨h.below.size,ZN W _⟩
theorem PS.allocS {c:Chg} {l:List ByteArray} {B:Nat} {u W1:World} {oN:Option Nat} {oC:Option Value} {W:World} {n:Nat} (hn:n=W.heap.size) (h:PS c l B u W1 oN none none oC W):PS c l B u W1 oN (some n) none oC (W.alloc (.cells #[] 36)):=by
 have h':=h.later ((ZF _ W).alloc (ZL _) (.cells #[] 36));refine ⟨h'.below,h'.box,fun k hk=> ?_,h'.exps,h'.names⟩;obtain rfl:=ZJ hk;subst hn;exact ⟨h.below.size,ZN W _⟩
theorem PS.call {c:Chg} {l:List ByteArray} {B:Nat} {u W1:World} {oN oS:Option Nat} {oA:Option Value} {W W':World} {v:Value} (h:PS c l B u W1 oN oS oA none W) (hb:Below W.heap.size W W') (ho:W'.ownsRow W.heap.size 9 1 v (c.map (·.1) ++ l).length (zn (c.map (·.1) ++ l))):
  PS c l B u W1 oN oS oA (some v) W':=by
 have h':=h.later hb;refine ⟨h'.below,h'.box,h'.row,h'.exps,fun x hx=> ?_⟩;obtain rfl:=ZJ hx;exact xN ho h.below.size
theorem PS.cellsN {c:Chg} {l:List ByteArray} {B:Nat} {u W1:World} {n:Nat} {oS:Option Nat} {oA oC:Option Value} {W:World} (h:PS c l B u W1 (some n) oS oA oC W):
  W.cell? ⟨n,0,none⟩=some (.slice none 0 0)/\W.cell? ⟨n,1,none⟩=some (.slice none 0 0)/\W.frozen? ⟨n,0,none⟩=false/\W.frozen? ⟨n,1,none⟩=false:=by
 obtain ⟨_,h2⟩:=h.box n rfl;exact ⟨by simp [World.cell?,h2],by simp [World.cell?,h2],by simp [World.frozen?,h2],by simp [World.frozen?,h2]⟩
theorem zae {w:World} {A n m k:Nat} {ty ty':TypeId} {v:Value} {xs:List Value} {cs:Array Value} (h:w.ownsRow A ty n v m xs) (hk:w.heap[k]?=some (.cells cs ty')) (hne:ty'≠ty):v.ownBlock≠some k:=by
 intro e;obtain ⟨_,⟨h0,_⟩ | ⟨g,cp,cur,h1,h2,h3,_⟩⟩:=h
 ·rw [h0] at e;cases e
 ·rw [h1] at e
  obtain rfl:g=k:=by simpa [Value.ownBlock] using e
  rw [hk] at h3;cases h3;exact hne rfl
theorem zmQ {w:World} {A A' n n' m m':Nat} {ty ty':TypeId} {v v':Value} {xs xs':List Value} (h:w.ownsRow A ty n v m xs) (h':w.ownsRow A' ty' n' v' m' xs') (hne:ty'≠ty) (b:Nat) (hb:v.ownBlock=some b):v'.ownBlock≠some b:=by
 intro hb';obtain ⟨_,⟨h0,_⟩ | ⟨g,cp,cur,h1,h2,h3,_⟩⟩:=h'
 ·rw [h0] at hb';cases hb'
 ·rw [h1] at hb'
  obtain rfl:g=b:=by simpa [Value.ownBlock] using hb'
  exact zae h h3 hne hb
theorem PS.app {c:Chg} {l:List ByteArray} {B:Nat} {u W1:World} {oN:Option Nat} {n:Nat} {oC:Option Value} {W:World} (h:PS c l B u W1 oN (some n) none oC W) (hB:B<=W1.heap.size) (hcl:c.length<=100000)
  {a:Option Addr} {cap:Nat} (hu:zh B u W1) (h2:SlAt B (.slice a c.length cap) c.length (fun b off=> zW B u b off (c.map (·.2)))) (hcap:a=none->cap=0):
  ∃v' w',(Builtin.append_ #[29,29] 29 #[.slice (some ⟨n,0,none⟩) 0 0, .slice a c.length cap]).run Tryz.prog W= .ok v' w'/\(∃aa cc,v'= .slice aa c.length cc)/\Hid (PS c l B u W1 oN none (some v') oC w'):=by
 obtain ⟨hn1,hn2⟩:=h.row n rfl;have hs:=h.below.size;have hnl:n < W.heap.size:=(ZG hn2).1
 have hown:W.ownsRow W1.heap.size 36 4 (.slice (some ⟨n,0,none⟩) ([]:List Exp).length 0) ([]:List Exp).length []:=
  ⟨rfl, .inr ⟨n,0,#[],rfl,hn1,hn2,ZL _,by unfold maxLen;omega,rfl,rfl⟩⟩
 have hkW:zh B u W:=hu.trans ((Below.keptC h.below).mono hB);obtain ⟨a',cap',e',_,hsrc⟩:=h2;cases e'
 obtain ⟨news,k1,k2,k3⟩:∃news:List Value,zq (fun _ _ cs x=> zy B u cs x) 4 0 W news (c.map (·.2))/\(∀x∈news,x.oneCell'=true)/\(∀ad,a=some ad->∀j x,news[j]?=some x->W.cell? (ad.add j)=some x):=by
  rcases hsrc with h0 | ⟨b,off,hb,hlt,hx⟩
  ·obtain rfl:=List.length_eq_zero_iff.1 h0
   exact ⟨[],zq.nil _ _ _ _,by simp,by simp⟩
  ·obtain ⟨vs,g1,g3,g4⟩:=zfD (c.map (·.2)) b off hx
   refine ⟨vs,g1,g3,fun ad had j x hj=> ?_⟩;cases hb.symm.trans had;have e:(⟨b,off,none⟩:Addr).add j=⟨b,off + j,none⟩:=by unfold Addr.add;by_cases h:j=0 <;> simp [h]
   obtain ⟨hlt',hx'⟩:=List.getElem?_eq_some_iff.1 hj;rw [e];exact hkW _ _ _ hlt (by rw [g4 j hlt',hx'])
 obtain ⟨v',w',hr,h3,h4,h5⟩:=zen zhc (R:=zy B u) (l2:=c.map (·.2)) hown (zq.nil _ _ _ _) (a:=a) (cap:=cap) (fun ha=> ⟨hcap ha,by
  rcases hsrc with h0 | ⟨b,off,hb,_⟩
  ·rw [List.length_eq_zero_iff.1 h0];rfl
  ·rw [ha] at hb;cases hb⟩) news k1 k2 k3 hs (by simp) (by simpa using hcl)
 rw [List.length_map] at hr;rw [List.nil_append,List.nil_append,List.length_map] at h3;rw [List.nil_append,List.nil_append] at h4;have hrow:(Value.slice (some ⟨n,0,none⟩) ([]:List Exp).length 0).ownBlock=some n:=rfl;rw [hrow] at h5;have hblk:∀b,b < W.heap.size->b≠n->w'.heap[b]?=W.heap[b]?:=fun b hb hne=> h5.block b hb (fun e=> hne (ZJ e));obtain ⟨aa,cc,hv,_⟩:=zJ (by omega) h3;refine ⟨v',w',hr,⟨aa,cc,hv⟩,ZH ⟨h.below.grown h5 hs (fun k e=> by cases e;exact hn1),fun k hk=> ?_,(fun k hk=> by cases hk),fun v hv=> ?_,fun v hv=> ?_⟩⟩
 ·obtain ⟨g1,g2⟩:=h.box k hk
  exact ⟨g1,(hblk k (ZG g2).1 (fun e=> by rw [e,hn2] at g2;cases g2)).trans g2⟩
 ·obtain rfl:=ZJ hv
  exact ⟨news,h3,h4⟩
 ·have ho:=h.names v hv
  exact zt ho h5 (fun b hb e=> zae ho hn2 (by decide) (by rw [hb,<-ZJ e]))
def jH (es:List Exp) (ns:List ByteArray) (B:Nat) (u:World) (N n:Nat) (vf:Value) (a:Option Addr) (k cap:Nat) (W:World):Prop:=
 es.length=k/\N<=n/\W.heap[n]?=some (.cells #[vf, .slice a k cap] 111)/\W.ownsRow N 9 1 vf ns.length (zn ns)/\∃vals,W.ownsRow N 36 4 (.slice a k cap) k vals/\zq (fun _ _ cs x=> zy B u cs x) 4 0 W vals es
theorem PS.done {c:Chg} {l:List ByteArray} {B:Nat} {u W1:World} {n:Nat} {vf:Value} {aa:Option Addr} {cc:Nat} {W:World} (h:PS c l B u W1 (some n) none (some (.slice aa c.length cc)) (some vf) W):
  jH (c.map (·.2)) (c.map (·.1) ++ l) B u W1.heap.size n vf aa c.length cc ((W.setCell ⟨n,0,none⟩ vf).setCell ⟨n,1,none⟩ (.slice aa c.length cc))/\Below W1.heap.size W1 ((W.setCell ⟨n,0,none⟩ vf).setCell ⟨n,1,none⟩ (.slice aa c.length cc)):=by
 obtain ⟨g1,g2⟩:=h.box n rfl;obtain ⟨vals,e1,e2⟩:=h.exps _ rfl;have ho:=h.names _ rfl
 have hgr:W.grownBy ((W.setCell ⟨n,0,none⟩ vf).setCell ⟨n,1,none⟩ (.slice aa c.length cc)) (some n):=⟨rfl,rfl,rfl,by simp [World.setCell],fun b hb hne=> by
  have hbn:b≠n:=fun e=> hne (by rw [e]);rw [ZC _ _ _ _ hbn,ZC _ _ _ _ hbn]⟩
 refine ⟨⟨List.length_map ..,g1,?_,zt ho hgr (fun b hb e=> zae ho g2 (by decide) (by rw [hb,<-ZJ e])),vals,zt e1 hgr (fun b hb e=> zae e1 g2 (by decide) (by rw [hb,<-ZJ e])),e2⟩,?_⟩
 ·have:=qD (qD g2 0 vf) 1 (.slice aa c.length cc)
  simpa using this
 ·exact (h.below.setCell (p:=⟨n,0,none⟩) g1 _).setCell (p:=⟨n,1,none⟩) g1 _
theorem PS.doneA {c:Chg} {l:List ByteArray} {B:Nat} {u W1:World} {vf:Value} {aa:Option Addr} {cc:Nat} {W:World} {n:Nat} (hn:n=W.heap.size) (h:PS c l B u W1 none none (some (.slice aa c.length cc)) (some vf) W):
  jH (c.map (·.2)) (c.map (·.1) ++ l) B u W1.heap.size n vf aa c.length cc (W.alloc (.cells #[vf, .slice aa c.length cc] 111))/\Below W1.heap.size W1 (W.alloc (.cells #[vf, .slice aa c.length cc] 111)):=by
 subst hn;have hb:Below W.heap.size W (W.alloc (.cells #[vf, .slice aa c.length cc] 111)):=ZQ W _;have h':=h.later hb;obtain ⟨vals,e1,e2⟩:=h'.exps _ rfl;exact ⟨⟨List.length_map ..,h.below.size,ZN W _,h'.names _ rfl,vals,e1,e2⟩,h'.below⟩
theorem jH.step {es:List Exp} {ns:List ByteArray} {B:Nat} {u W1:World} {n:Nat} {vf:Value} {a:Option Addr} {k cap:Nat} {W w3:World} (h:jH es ns B u W1.heap.size n vf a k cap W) (hW:Below W1.heap.size W1 W) (hk:k<=100000) (hb:Below W.heap.size W w3)
  {s:ByteArray} (hs:s.size<=maxLen):
  ∃gg cp w',(Builtin.append_ #[29,29] 29 #[.slice a k cap, .slice (some ⟨w3.heap.size,0,none⟩) 1 1]).run Tryz.prog (w3.alloc (.cells #[.int .i64 2, .int .i64 0, .string s, .slice none 0 0] 36))= .ok (.slice (some ⟨gg,0,none⟩) (k + 1) cp) w'/\
   w'.cell? ⟨n,1,none⟩=some (.slice a k cap)/\w'.frozen? ⟨n,1,none⟩=false/\
   Hid (jH (es ++ [yq s]) ns B u W1.heap.size n vf (some ⟨gg,0,none⟩) (k + 1) cp (w'.setCell ⟨n,1,none⟩ (.slice (some ⟨gg,0,none⟩) (k + 1) cp))/\Below W1.heap.size W1 (w'.setCell ⟨n,1,none⟩ (.slice (some ⟨gg,0,none⟩) (k + 1) cp))):=by
 obtain ⟨he,hn,hbox,ho,vals,hr,hch⟩:=h;subst he;have hs0:=hW.size;have hs1:=hb.size;obtain ⟨W4,hW4⟩:∃W4,W4=w3.alloc (.cells #[.int .i64 2, .int .i64 0, .string s, .slice none 0 0] 36):=⟨_,rfl⟩;have hb4:Below W.heap.size W W4:=by rw [hW4];exact hb.alloc hs1 _
 have hg4:=zj hb4;have hs4:=hb4.size;have hrA:=zt hr hg4 (fun b hb e=> by cases e);have hoA:=zt ho hg4 (fun b hb e=> by cases e);have hboxA:W4.heap[n]?=some (.cells #[vf, .slice a es.length cap] 111):=(hb4.block n (ZG hbox).1).trans hbox
 obtain ⟨v',w',hrun,h3,h4,h5⟩:=zen zhc (R:=zy B u) (l2:= [yq s]) hrA hch (a:=some ⟨w3.heap.size,0,none⟩) (cap:=1) (fun e=> by cases e) [.int .i64 2, .int .i64 0, .string s, .slice none 0 0]
  ⟨rfl,fun i hi=> by
   obtain rfl:i=0:=by simp at hi;omega
   exact ⟨hs,_,rfl,none,0,rfl,by simp, .inl rfl⟩⟩ (by simp [Value.oneCell']) (fun ad had j x hj=> by
   cases had;have e:(⟨w3.heap.size,0,none⟩:Addr).add j=⟨w3.heap.size,j,none⟩:=by unfold Addr.add;by_cases h:j=0 <;> simp [h]
   rw [e,hW4,ZA _ _ _ _ rfl];simpa using hj) (by omega) hk (by simp)
 obtain ⟨_,⟨_,h0⟩ | ⟨gg,cp,cur,hvf,hgA,hgc,_⟩⟩:=id h3
 ·simp at h0
 subst hvf;rw [hW4,List.length_append] at hrun
 replace hrun:(Builtin.append_ #[29,29] 29 #[.slice a es.length cap, .slice (some ⟨w3.heap.size,0,none⟩) 1 1]).run Tryz.prog (w3.alloc (.cells #[.int .i64 2, .int .i64 0, .string s, .slice none 0 0] 36))= .ok (.slice (some ⟨gg,0,none⟩) (es.length + 1) cp) w':=hrun
 rw [List.length_append] at h3
 replace h3:w'.ownsRow W1.heap.size 36 4 (.slice (some ⟨gg,0,none⟩) (es.length + 1) cp) (es.length + 1) (vals ++ [.int .i64 2, .int .i64 0, .string s, .slice none 0 0]):=by
  exact h3
 have hne:some n≠(Value.slice a es.length cap).ownBlock:=fun e=> zae hrA hboxA (by decide) e.symm;have hbox':w'.heap[n]?=some (.cells #[vf, .slice a es.length cap] 111):=(h5.block n (ZG hboxA).1 hne).trans hboxA;have ho':=zt hoA h5 (fun b hb e=> zmQ hoA hrA (by decide) b hb e);have hbw:Below W1.heap.size W1 w':=(hW.trans (hb4.mono hs0)).grown h5 (by omega) (fun r e=> by have:=(hr.lt r e).1;omega);have hset:w'.grownBy (w'.setCell ⟨n,1,none⟩ (.slice (some ⟨gg,0,none⟩) (es.length + 1) cp)) (some n):=⟨rfl,rfl,rfl,by simp [World.setCell],fun b hb hne=> ZC _ _ _ _ (fun e=> hne (by rw [e]))⟩;refine ⟨gg,cp,w',hrun,by simp [World.cell?,hbox'],by simp [World.frozen?,hbox'],ZH ⟨⟨by rw [List.length_append];rfl,hn,?_,zt ho' hset (fun b hb e=> zae ho' hbox' (by decide) (by rw [hb,<-ZJ e])),vals ++ [.int .i64 2, .int .i64 0, .string s, .slice none 0 0],zt h3 hset (fun b hb e=> zae h3 hbox' (by decide) (by rw [hb,<-ZJ e])),h4.1,h4.2⟩,hbw.setCell (p:=⟨n,1,none⟩) hn _⟩⟩;have:=qD hbox' 1 (.slice (some ⟨gg,0,none⟩) (es.length + 1) cp);simpa using this
theorem zN.callE {f:Nat} {args:Array Value} {ob fi:Nat} {box:Value->Obj} (hB:zaI ob fi box) {W2:World} {ys:List Exp} {k:Nat} {a:Option Addr} {cap:Nat} {wr W:World} (h:zN zy 36 4 ob box W2 ys k a cap wr) (hk:k<=1000) (hob:ob < W2.heap.size)
  (hW:Below wr.heap.size wr W) {x:Exp} (hc:Calls Tryz.prog f args W fun e w'=> ∃rs,e= .returned (.agg rs.toArray)/\zy w'.heap.size (blank W.heap.size w') rs x/\Below W.heap.size W w'):
  Calls Tryz.prog f args W fun e w'=> ∃(c0 c1:Int) (c2:ByteArray) (c3:Option Addr) (c4 c5 gg cp:Nat) (w5:World),e= .returned (.agg #[.int .i64 c0, .int .i64 c1, .string c2, .slice c3 c4 c5])/\Hid (Below wr.heap.size wr w')/\
   (Builtin.append_ #[29,29] 29 #[.slice a k cap, .slice (some ⟨w'.heap.size,0,none⟩) 1 1]).run Tryz.prog (w'.alloc (.cells #[.int .i64 c0, .int .i64 c1, .string c2, .slice c3 c4 c5] 36))= .ok (.slice (some ⟨gg,0,none⟩) (k + 1) cp) w5/\
   w5.cell? ⟨ob,fi,none⟩=some (.slice a k cap)/\w5.frozen? ⟨ob,fi,none⟩=false/\Hid (zN zy 36 4 ob box W2 (ys ++ [x]) (k + 1) (some ⟨gg,0,none⟩) cp (w5.setCell ⟨ob,fi,none⟩ (.slice (some ⟨gg,0,none⟩) (k + 1) cp))):=by
 refine hc.mono ?_;rintro e' w' ⟨rs,rfl,hat,hb3⟩;have hb5:=hW.trans (hb3.mono hW.size);obtain ⟨c0,c1,c2,c3,c4,c5,rfl⟩:=qG hat;obtain ⟨gg,cp,w5,r1,r2,r3,r4⟩:=zN.step xc zhc hB h hk hob hb5 _ rfl (by simp [Value.oneCell']) x (xc _ _ _ _ _ _ (qg hW.size fun b o v _ _ hv=> hv) (ZL _) hat);exact ⟨c0,c1,c2,c3,c4,c5,gg,cp,w5,rfl,ZH hb5,r1,r2,r3,r4⟩
theorem zN.callC {f:Nat} {args:Array Value} {ob fi:Nat} {box:Value->Obj} (hB:zaI ob fi box) {W2:World} {ys:List zg} {k:Nat} {a:Option Addr} {cap:Nat} {wr W:World} (h:zN zo 130 5 ob box W2 ys k a cap wr) (hk:k<=1000) (hob:ob < W2.heap.size)
  (hW:Below wr.heap.size wr W) {x:zg} (hc:Calls Tryz.prog f args W fun e w'=> ∃rs,e= .returned (.agg rs.toArray)/\zo w'.heap.size (blank W.heap.size w') rs x/\Below W.heap.size W w'):
  Calls Tryz.prog f args W fun e w'=> ∃(c0:Int) (c1:ByteArray) (c2:Option Addr) (c3 c4:Nat) (c5:Option Addr) (c6 c7:Nat) (c8:Option Addr) (c9 c10 gg cp:Nat) (w5:World),e= .returned (.agg #[.int .i64 c0, .string c1, .slice c2 c3 c4, .slice c5 c6 c7, .slice c8 c9 c10])/\Hid (Below wr.heap.size wr w')/\
   (Builtin.append_ #[30,30] 30 #[.slice a k cap, .slice (some ⟨w'.heap.size,0,none⟩) 1 1]).run Tryz.prog (w'.alloc (.cells #[.int .i64 c0, .string c1, .slice c2 c3 c4, .slice c5 c6 c7, .slice c8 c9 c10] 130))= .ok (.slice (some ⟨gg,0,none⟩) (k + 1) cp) w5/\
   w5.cell? ⟨ob,fi,none⟩=some (.slice a k cap)/\w5.frozen? ⟨ob,fi,none⟩=false/\Hid (zN zo 130 5 ob box W2 (ys ++ [x]) (k + 1) (some ⟨gg,0,none⟩) cp (w5.setCell ⟨ob,fi,none⟩ (.slice (some ⟨gg,0,none⟩) (k + 1) cp))):=by
 refine hc.mono ?_;rintro e' w' ⟨rs,rfl,hat,hb3⟩;have hb5:=hW.trans (hb3.mono hW.size);obtain ⟨c0,c1,c2,c3,c4,c5,c6,c7,c8,c9,c10,rfl⟩:=qW hat;obtain ⟨gg,cp,w5,r1,r2,r3,r4⟩:=zN.step jB zmE hB h hk hob hb5 _ rfl (by simp [Value.oneCell']) x (jB _ _ _ _ _ _ (qg hW.size fun b o v _ _ hv=> hv) (ZL _) hat);exact ⟨c0,c1,c2,c3,c4,c5,c6,c7,c8,c9,c10,gg,cp,w5,rfl,ZH hb5,r1,r2,r3,r4⟩
theorem zN.callT {f:Nat} {args:Array Value} {ob fi:Nat} {box:Value->Obj} (hB:zaI ob fi box) {W2:World} {ys:List Term} {k:Nat} {a:Option Addr} {cap:Nat} {wr W:World} (h:zN ze 33 5 ob box W2 ys k a cap wr) (hk:k<=1000) (hob:ob < W2.heap.size)
  (hW:Below wr.heap.size wr W) {x:Term} (hc:Calls Tryz.prog f args W fun e w'=> ∃rs,e= .returned (.agg rs.toArray)/\ze w'.heap.size (blank W.heap.size w') rs x/\Below W.heap.size W w'):
  Calls Tryz.prog f args W fun e w'=> ∃(c0:Int) (c1:ByteArray) (c2:Option Addr) (c3 c4:Nat) (c5:Option Addr) (c6 c7:Nat) (c8:Option Addr) (c9 c10 gg cp:Nat) (w5:World),e= .returned (.agg #[.int .i64 c0, .string c1, .slice c2 c3 c4, .slice c5 c6 c7, .slice c8 c9 c10])/\Hid (Below wr.heap.size wr w')/\
   (Builtin.append_ #[31,31] 31 #[.slice a k cap, .slice (some ⟨w'.heap.size,0,none⟩) 1 1]).run Tryz.prog (w'.alloc (.cells #[.int .i64 c0, .string c1, .slice c2 c3 c4, .slice c5 c6 c7, .slice c8 c9 c10] 33))= .ok (.slice (some ⟨gg,0,none⟩) (k + 1) cp) w5/\
   w5.cell? ⟨ob,fi,none⟩=some (.slice a k cap)/\w5.frozen? ⟨ob,fi,none⟩=false/\Hid (zN ze 33 5 ob box W2 (ys ++ [x]) (k + 1) (some ⟨gg,0,none⟩) cp (w5.setCell ⟨ob,fi,none⟩ (.slice (some ⟨gg,0,none⟩) (k + 1) cp))):=by
 refine hc.mono ?_;rintro e' w' ⟨rs,rfl,hat,hb3⟩;have hb5:=hW.trans (hb3.mono hW.size);obtain ⟨c0,c1,c2,c3,c4,c5,c6,c7,c8,c9,c10,rfl⟩:=zz hat;obtain ⟨gg,cp,w5,r1,r2,r3,r4⟩:=zN.step jo zng hB h hk hob hb5 _ rfl (by simp [Value.oneCell']) x (jo _ _ _ _ _ _ (qg hW.size fun b o v _ _ hv=> hv) (ZL _) hat);exact ⟨c0,c1,c2,c3,c4,c5,c6,c7,c8,c9,c10,gg,cp,w5,rfl,ZH hb5,r1,r2,r3,r4⟩
theorem ziq (ob:Nat) (x0 x1 x3 x4:Value):zaI ob 2 (fun v=> .cells #[x0,x1,v,x3,x4] 33):=
 ⟨fun W v v' h=> by have:=qD h 2 v';simpa using this,fun W v h=> ⟨by simp [World.cell?,h],by simp [World.frozen?,h]⟩⟩
theorem zir (ob:Nat) (x0 x1 x2 x4:Value):zaI ob 3 (fun v=> .cells #[x0,x1,x2,v,x4] 33):=
 ⟨fun W v v' h=> by have:=qD h 3 v';simpa using this,fun W v h=> ⟨by simp [World.cell?,h],by simp [World.frozen?,h]⟩⟩
theorem zit (ob:Nat) (x0 x1 x2 x3:Value):zaI ob 4 (fun v=> .cells #[x0,x1,x2,x3,v] 33):=
 ⟨fun W v v' h=> by have:=qD h 4 v';simpa using this,fun W v h=> ⟨by simp [World.cell?,h],by simp [World.frozen?,h]⟩⟩
theorem zll (ob:Nat) (x0 x1 x3 x4:Value):zaI ob 2 (fun v=> .cells #[x0,x1,v,x3,x4] 130):=
 ⟨fun W v v' h=> by have:=qD h 2 v';simpa using this,fun W v h=> ⟨by simp [World.cell?,h],by simp [World.frozen?,h]⟩⟩
theorem zgR (ob:Nat) (x0 x1 x2 x4:Value):zaI ob 3 (fun v=> .cells #[x0,x1,x2,v,x4] 130):=
 ⟨fun W v v' h=> by have:=qD h 3 v';simpa using this,fun W v h=> ⟨by simp [World.cell?,h],by simp [World.frozen?,h]⟩⟩
theorem zgU (ob:Nat) (x0 x1 x2 x3:Value):zaI ob 4 (fun v=> .cells #[x0,x1,x2,x3,v] 130):=
 ⟨fun W v v' h=> by have:=qD h 4 v';simpa using this,fun W v h=> ⟨by simp [World.cell?,h],by simp [World.frozen?,h]⟩⟩
def zE (A:Nat) (W W':World):Prop:=W.heap.size<=W'.heap.size/\∀b,A<=b->b < W.heap.size->W'.heap[b]?=W.heap[b]?
theorem zE.refl (A:Nat) (W:World):zE A W W:=⟨ZL _,fun _ _ _=> rfl⟩
theorem zE.trans {A:Nat} {a b c:World} (h:zE A a b) (g:zE A b c):zE A a c:=
 ⟨Nat.le_trans h.1 g.1,fun k hk hl=> (g.2 k hk (Nat.lt_of_lt_of_le hl h.1)).trans (h.2 k hk hl)⟩
theorem zE.of_grown {A:Nat} {W W':World} {r:Nat} (h:W.grownBy W' (some r)) (hr:r < A):zE A W W':=⟨h.size,fun b hb hl=> h.block b hl (fun e=> by have:=ZJ e;omega)⟩
theorem zE.of_below {A:Nat} {W W':World} (h:Below W.heap.size W W'):zE A W W':=⟨h.size,fun b _ hl=> h.block b hl⟩
theorem zE.set {A b:Nat} (W:World) (hb:b < A) (o:Nat) (v:Value):zE A W (W.setCell ⟨b,o,none⟩ v):=⟨by simp [World.setCell],fun k hk _=> ZC _ _ _ _ (by simp;omega)⟩
theorem zE.blank {A A':Nat} {W W':World} (h:zE A W W') (hA:A'<=A):zh W.heap.size (blank A W) (blank A' W'):=
 qg hA fun b o v hb hl hv=> (ZB (w:=W) (h.2 b hb hl)).trans hv
theorem zft {A A':Nat} {W W':World} {v:Value} {l:List Exp} {n:Nat} (h:SlAt W.heap.size v n (fun b off=> zW W.heap.size (blank A W) b off l)) (g:zE A W W') (hA:A'<=A):SlAt W'.heap.size v n (fun b off=> zW W'.heap.size (blank A' W') b off l):=
 h.imp g.1 fun b off hb hx=> zW.keep (g.blank hA) g.1 _ _ _ hb hx
theorem zai {A A':Nat} {W W':World} {v:Value} {l:List zg} {n:Nat} (h:SlAt W.heap.size v n (fun b off=> zr W.heap.size (blank A W) b off l)) (g:zE A W W') (hA:A'<=A):SlAt W'.heap.size v n (fun b off=> zr W'.heap.size (blank A' W') b off l):=
 h.imp g.1 fun b off hb hx=> zr.keep (g.blank hA) g.1 _ _ _ hb hx
theorem zcy {A A':Nat} {W W':World} {v:Value} {l:List Term} {n:Nat} (h:SlAt W.heap.size v n (fun b off=> zu W.heap.size (blank A W) b off l)) (g:zE A W W') (hA:A'<=A):SlAt W'.heap.size v n (fun b off=> zu W'.heap.size (blank A' W') b off l):=
 h.imp g.1 fun b off hb hx=> zu.keep (g.blank hA) g.1 _ _ _ hb hx
theorem zib {A A':Nat} {W W':World} {v:Value} {l:List Msg} {n:Nat} (h:SlAt W.heap.size v n (fun b off=> zX W.heap.size (blank A W) b off l)) (g:zE A W W') (hA:A'<=A):SlAt W'.heap.size v n (fun b off=> zX W'.heap.size (blank A' W') b off l):=
 h.imp g.1 fun b off hb hx=> zX.keep (g.blank hA) g.1 _ _ _ hb hx
theorem Tryz.results132:Tryz.f132.results=#[.cell 6 111]:=by kernel_rfl
def zbi (c:Chg) (l l':List ByteArray):Chg:=c ++ l.zip (l'.map yq)
theorem zkF {c:Chg} {l l':List ByteArray} (h:l.length=l'.length):(zbi c l l').map (·.1)=c.map (·.1) ++ l:=by
 rw [zbi,List.map_append]
 congr 1
 exact List.map_fst_zip (by rw [List.length_map,h];exact ZL _)
theorem zkO {c:Chg} {l l':List ByteArray} (h:l.length=l'.length):(zbi c l l').map (·.2)=c.map (·.2) ++ l'.map yq:=by
 rw [zbi,List.map_append]
 congr 1
 exact List.map_snd_zip (by rw [List.length_map,h];exact ZL _)
theorem zee (c:Chg) (l:List ByteArray):zbi c l l=zaD c l:=by
 unfold zbi zaD
 congr 1
 induction l with
 | nil=> rfl
 | cons a l ih=> simp [ih]
def xI (B:Nat) (w:World) (cs:List Value) (c:Chg):Prop:=zao B w cs c/\∀v1 k cap,cs= [v1, .slice none k cap]->cap=0
theorem xI.nil (B:Nat) (w:World):xI B w [.slice none 0 0, .slice none 0 0] []:=
 ⟨⟨_,_,rfl,zx.nil _ _,none,0,rfl,by simp, .inl rfl⟩,fun v1 k cap h=> by cases h;rfl⟩
theorem zhm {w:World} {A m n:Nat} {ty:TypeId} {k cap:Nat} {xs:List Value} (h:w.ownsRow A ty m (.slice none k cap) n xs):cap=0:=by
 obtain ⟨_,⟨h0,_⟩ | ⟨g,cp,cur,h1,_⟩⟩:=h
 ·cases h0;rfl
 ·cases h1
theorem jH.chg {es:List Exp} {ns:List ByteArray} {B:Nat} {u:World} {N n:Nat} {vf:Value} {a:Option Addr} {k cap:Nat} {W:World} {z:Chg} (h:jH es ns B u N n vf a k cap W) (hu:zh B u W) (hBN:B<=N) (hsz:∀s∈ns,s.size<=maxLen) (hz1:z.map (·.1)=ns) (hz2:z.map (·.2)=es) {A:Nat} (hA:A<=N):
  xI W.heap.size (mid u B A W) [vf, .slice a k cap] z:=by
 obtain ⟨he,hn,hbox,ho,vals,hr,hch⟩:=h;have hzl:z.length=k:=by rw [<-he,<-hz2,List.length_map]
 subst hz1;subst hz2
 have hnone:∀v1 k' cap', [vf, .slice a k cap]= [v1, .slice none k' cap']->cap'=0:=fun v1 k' cap' e=> by
  cases e;exact zhm hr
 refine ⟨⟨vf, .slice a k cap,rfl,?_,?_⟩,hnone⟩
 ·obtain ⟨a1,c1,rfl,hl1,hs1⟩:=zJ (by omega) ho
  refine ⟨a1,c1,rfl,hl1,hsz,fun e=> by subst e;exact zhm ho,?_⟩;rcases hs1 with h0 | ⟨g,rfl,hg,hgA,hc⟩
  ·exact .inl (List.length_eq_zero_iff.1 h0)
  ·refine .inr ⟨g,0,rfl,hg,fun j hj=> ?_⟩
   have hlj:j < (zn (z.map (·.1))).length:=by simpa [zn] using hj
   have:=zbH (u:=u) (N:=B) (A:=A) hc (by omega) (by omega) j hlj;simpa [zn] using this
 ·obtain ⟨a2,c2,e2,hl2,hs2⟩:=zJ (by omega) hr
  cases e2;refine ⟨a,cap,by rw [hzl],by rw [hzl];exact hl2,?_⟩;rcases hs2 with h0 | ⟨g,rfl,hg,hgA,hc⟩
  ·exact .inl (by rw [hzl];exact h0)
  ·refine .inr ⟨g,0,rfl,hg,zW.mk _ g 0 fun i hi=> ?_⟩
   refine ⟨_,zbH (u:=u) (N:=B) (A:=A) (zag i 4 hc ?_) (by omega) (by omega),zy.keep (fun b o v hb hv=> (yM _ _ _ _ _ _ _).2 ⟨zD (hu b o v hb hv), .inl ⟨hb,hv⟩⟩) (by have:=(ZG hbox).1;omega) _ _ (hch.2 i hi)⟩;rw [hch.1,<-Nat.succ_mul];exact Nat.mul_le_mul_right 4 hi
theorem jH.skip {es:List Exp} {ns:List ByteArray} {B:Nat} {u:World} {N n:Nat} {vf:Value} {a:Option Addr} {k cap:Nat} {W W':World} (h:jH es ns B u N n vf a k cap W) {r:Nat} (hg:W.grownBy W' (some r)) (hr:r < N):jH es ns B u N n vf a k cap W':=by
 obtain ⟨he,hn,hbox,ho,vals,hw,hch⟩:=h;have hne:∀b,N<=b->some b≠some r:=fun b hb e=> by have:=ZJ e;omega
 exact ⟨he,hn,(hg.block n ((ZG hbox).1) (hne n hn)).trans hbox,zt ho hg (fun b hb e=> hne b (ho.lt b hb).1 e.symm),vals,zt hw hg (fun b hb e=> hne b (hw.lt b hb).1 e.symm),hch⟩
end
end Go.Proofs.YtjmlaeofjjhfmaaGreat
