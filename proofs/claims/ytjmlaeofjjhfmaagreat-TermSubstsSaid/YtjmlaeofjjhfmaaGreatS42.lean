/- Lemmas. -/
import Derived.Test.YtjmlaeofjjhfmaaGreatS41
import Derived.Test.YtjmlaeofjjhfmaaGreatS35
import Derived.Test.YtjmlaeofjjhfmaaGreatS36
import Derived.Test.YtjmlaeofjjhfmaaGreatS39
import Derived.Test.YtjmlaeofjjhfmaaGreatS34
import Derived.Test.YtjmlaeofjjhfmaaGreatS40
import Derived.Test.YtjmlaeofjjhfmaaGreatS30
import Derived.Test.YtjmlaeofjjhfmaaGreatS25
set_option linter.unusedVariables false
set_option linter.unusedSimpArgs false
set_option maxRecDepth 10000
set_option maxHeartbeats 16000000
namespace Go.Proofs.YtjmlaeofjjhfmaaGreat
section
open Go.RowKit Go.Shelf Go.Maps
structure Rel (v1 v2:Env) (σ1 σ2:Sb) (n:Nat) (S1 S2:ByteArray->Prop):Prop where
 b1:v1.base= .anew
 b2:v2.base= .anew
 g1:∀s,S1 s->∃y,σ1 s=yq y/\y.size≠0/\∀m,n<=m->y≠lvl m
 g2:∀s,S2 s->∃y,σ2 s=yq y/\y.size≠0/\∀m,n<=m->y≠lvl m
 r:∀s1 s2,S1 s1->S2 s2->σ1 s1=σ2 s2->nm v1 s1=nm v2 s2
theorem nameE_inj {a b:ByteArray} (h:yq a=yq b):a=b:=by unfold yq at h;cases h;rfl
theorem mem_bnd {p:Part} {s:ByteArray}:bndP p (zb s)=true↔s∈zR p:=by
 rw [bndP_iff];exact ⟨fun ⟨b,hb,he⟩=> by rw [zjS he];exact hb,fun hx=> ⟨s,hx,rfl⟩⟩
theorem ext_new (σ:Sb) (n:Nat) {B:List ByteArray} {s:ByteArray} (h:s∈B):∃i,∃h:i < B.length,B[i]=s/\ext σ n B s=yq (lvl (n + i)):=by
 cases hq:posn B s with
 | none=> exact absurd h ((posn_none _ _).1 hq)
 | some i=>
  obtain ⟨h1,h2⟩:=posn_some _ _ _ hq;exact ⟨i,h1,h2,by unfold ext;rw [hq]⟩
theorem ext_old (σ:Sb) (n:Nat) {B:List ByteArray} {s:ByteArray} (h:s ∉ B):ext σ n B s=σ s:=by
 unfold ext;rw [(posn_none _ _).2 h]
theorem InA.at_ {v:Env} {U:Used} {p:Part} {i:Env×Used} (h:InA v U p i) (j:Nat) (hj:j < (zR p).length):some (nm i.1 (zR p)[j])=(xS (zR p).length U).1[j]?:=by
 rw [<-h.new,List.getElem?_map,List.getElem?_eq_getElem hj];rfl
theorem Rel.inside {v1 v2:Env} {σ1 σ2:Sb} {n:Nat} {S1 S2:ByteArray->Prop} (h:Rel v1 v2 σ1 σ2 n S1 S2) {U:Used} {p1 p2:Part} {i1 i2:Env×Used} (h1:InA v1 U p1 i1) (h2:InA v2 U p2 i2) (hl:(zR p1).length=(zR p2).length):
  Rel i1.1 i2.1 (ext σ1 n (zR p1)) (ext σ2 n (zR p2)) (n + (zR p1).length) (fun s=> s∈zR p1∨S1 s) (fun s=> s∈zR p2∨S2 s):=by
 refine ⟨h1.base,h2.base,fun s hs=> ?_,fun s hs=> ?_,fun s1 s2 a1 a2 he=> ?_⟩
 ·by_cases hm:s∈zR p1
  ·obtain ⟨i,hi,_,e⟩:=ext_new σ1 n hm
   exact ⟨_,e,lvl_size _,fun m hm e=> by have:=lvl_inj e;omega⟩
  ·obtain ⟨y,e1,e2,e3⟩:=h.g1 s (hs.resolve_left hm)
   exact ⟨y,by rw [ext_old _ _ hm,e1],e2,fun m hm=> e3 m (by omega)⟩
 ·by_cases hm:s∈zR p2
  ·obtain ⟨i,hi,_,e⟩:=ext_new σ2 n hm
   exact ⟨_,e,lvl_size _,fun m hm e=> by have:=lvl_inj e;omega⟩
  ·obtain ⟨y,e1,e2,e3⟩:=h.g2 s (hs.resolve_left hm)
   exact ⟨y,by rw [ext_old _ _ hm,e1],e2,fun m hm=> e3 m (by omega)⟩
 ·by_cases hm1:s1∈zR p1
  ·obtain ⟨i,hi,e1,e2⟩:=ext_new σ1 n hm1
   by_cases hm2:s2∈zR p2
   ·obtain ⟨j,hj,e3,e4⟩:=ext_new σ2 n hm2
    rw [e2,e4] at he;have hij:i=j:=by have:=lvl_inj (nameE_inj he);omega
    subst hij;have q1:=h1.at_ i hi;have q2:=h2.at_ i hj;rw [hl,<-q2,e1,e3] at q1;exact ZJ q1
   ·obtain ⟨y,f1,f2,f3⟩:=h.g2 s2 (a2.resolve_left hm2)
    rw [e2,ext_old _ _ hm2,f1] at he;exact absurd (nameE_inj he).symm (f3 _ (by omega))
  ·obtain ⟨y,f1,f2,f3⟩:=h.g1 s1 (a1.resolve_left hm1)
   by_cases hm2:s2∈zR p2
   ·obtain ⟨j,hj,e3,e4⟩:=ext_new σ2 n hm2
    rw [e4,ext_old _ _ hm1,f1] at he;exact absurd (nameE_inj he) (f3 _ (by omega))
   ·rw [ext_old _ _ hm1,ext_old _ _ hm2] at he
    have b1:bndP p1 (zb s1)=false:=by rw [Bool.eq_false_iff];exact fun hb=> hm1 (mem_bnd.1 hb)
    have b2:bndP p2 (zb s2)=false:=by rw [Bool.eq_false_iff];exact fun hb=> hm2 (mem_bnd.1 hb)
    rw [h1.nm_old b1,h2.nm_old b2];exact h.r s1 s2 (a1.resolve_left hm1) (a2.resolve_left hm2) he
theorem Rel.text {v1 v2:Env} {σ1 σ2:Sb} {n:Nat} {S1 S2:ByteArray->Prop} (h:Rel v1 v2 σ1 σ2 n S1 S2) {t1 t2:ByteArray} (h1:t1.size≠0->S1 t1) (h2:t2.size≠0->S2 t2) (he:dtx σ1 t1=dtx σ2 t2):yS v1 t1=yS v2 t2:=by
 unfold dtx at he;by_cases z1:t1.size=0
 ·by_cases z2:t2.size=0
  ·rw [text_zero z1,text_zero z2,xd z1,xd z2]
  ·obtain ⟨y,e1,e2,_⟩:=h.g2 t2 (h2 z2)
   rw [if_pos z1,if_neg z2,e1] at he;exact absurd (by rw [he] at z1;exact z1) e2
 ·obtain ⟨y1,e1,e2,_⟩:=h.g1 t1 (h1 z1)
  by_cases z2:t2.size=0
  ·rw [if_neg z1,if_pos z2,e1] at he
   exact absurd (by rw [<-he] at z2;exact z2) e2
  ·obtain ⟨y2,f1,f2,_⟩:=h.g2 t2 (h2 z2)
   rw [if_neg z1,if_neg z2,e1,f1] at he;have hy:y1=y2:=he;rw [anew_text h.b1 z1,anew_text h.b2 z2,h.r t1 t2 (h1 z1) (h2 z2) (by rw [e1,f1,hy])]
theorem Rel.texts {v1 v2:Env} {σ1 σ2:Sb} {n:Nat} {S1 S2:ByteArray->Prop} (h:Rel v1 v2 σ1 σ2 n S1 S2):∀l1 l2:List ByteArray,(∀s∈l1,S1 s)->(∀s∈l2,S2 s)->l1.map (dtx σ1)=l2.map (dtx σ2)->zbr v1 l1=zbr v2 l2
 | [], [],_,_,_=> by rw [zbr,zbr]
 | [],_::_,_,_,he=> by simp at he
 | _::_, [],_,_,he=> by simp at he
 | a::l1,b::l2,h1,h2,he=> by
  rw [List.map_cons,List.map_cons] at he
  injection he with e1 e2
  rw [zbr,zbr,h.text (fun _=> h1 a (by simp)) (fun _=> h2 b (by simp)) e1,h.texts l1 l2 (fun s hs=> h1 s (by simp [hs])) (fun s hs=> h2 s (by simp [hs])) e2]
theorem Rel.msgs {v1 v2 i1 i2:Env} {σ1 σ2 τ1 τ2:Sb} {n k:Nat} {S1 S2 T1 T2:ByteArray->Prop} (h:Rel v1 v2 σ1 σ2 n S1 S2) (hi:Rel i1 i2 τ1 τ2 k T1 T2):∀l1 l2:List Msg,(∀x∈l1,S1 x.text/\∀s∈x.names,T1 s)->(∀x∈l2,S2 x.text/\∀s∈x.names,T2 s)->
  mapJ (dtx σ1) (dtx τ1) l1=mapJ (dtx σ2) (dtx τ2) l2->zau v1 i1 l1=zau v2 i2 l2
 | [], [],_,_,_=> by rw [zau,zau]
 | [],_::_,_,_,he=> by simp [mapJ] at he
 | _::_, [],_,_,he=> by simp [mapJ] at he
 | a::l1,b::l2,h1,h2,he=> by
  unfold mapJ at he;rw [List.map_cons,List.map_cons] at he
  injection he with e1 e2
  injection e1 with e3 e4
  have q:msgM v1 i1 a=msgM v2 i2 b:=by
   unfold msgM;rw [h.text (fun _=> (h1 a (by simp)).1) (fun _=> (h2 b (by simp)).1) e3,hi.texts _ _ (h1 a (by simp)).2 (h2 b (by simp)).2 e4]
  rw [zau,zau,q,h.msgs hi l1 l2 (fun x hx=> h1 x (by simp [hx])) (fun x hx=> h2 x (by simp [hx])) (by unfold mapJ;exact e2)]
mutual
theorem Rel.exp {v1 v2:Env} {σ1 σ2:Sb} {n:Nat} {S1 S2:ByteArray->Prop} (h:Rel v1 v2 σ1 σ2 n S1 S2):∀e1 e2:Exp,okE e1->okE e2->(∀s,fE e1 (zb s)=true->S1 s)->(∀s,fE e2 (zb s)=true->S2 s)->denE σ1 e1=denE σ2 e2->zeS v1 e1=zeS v2 e2
 | .mk o1 n1 t1 k1, .mk o2 n2 t2 k2,he1,he2,h1,h2,he=> by
  unfold okE at he1 he2;obtain ⟨a1,a2,a3⟩:=he1;obtain ⟨b1,b2,b3⟩:=he2;rw [denE,denE] at he;rw [zeS,zeS];by_cases ho1:o1=2
  ·have s1:=h1 t1 (by rw [fE,(isT_iff (a1 ho1).2).2 rfl,Bool.or_true])
   obtain ⟨y1,e1,_⟩:=h.g1 t1 s1;by_cases ho2:o2=2
   ·have s2:=h2 t2 (by rw [fE,(isT_iff (b1 ho2).2).2 rfl,Bool.or_true])
    rw [if_pos ho1,if_pos ho2] at he;rw [if_pos ho1,if_pos ho2,anew_becomes h.b1,anew_becomes h.b2,h.r t1 t2 s1 s2 he]
   ·rw [if_pos ho1,if_neg ho2,e1] at he
    unfold yq at he
    injection he with e5
    exact absurd e5.symm ho2
  ·by_cases ho2:o2=2
   ·have s2:=h2 t2 (by rw [fE,(isT_iff (b1 ho2).2).2 rfl,Bool.or_true])
    obtain ⟨y2,e2,_⟩:=h.g2 t2 s2;rw [if_neg ho1,if_pos ho2,e2] at he;unfold yq at he
    injection he with e5
    exact absurd e5 ho1
   ·rw [if_neg ho1,if_neg ho2] at he ⊢
    injection he with e5 e6 e7 e8
    rw [e5,e6,e7,h.exps k1 k2 a3 b3 (fun s hs=> h1 s (by rw [fE,hs,Bool.true_or])) (fun s hs=> h2 s (by rw [fE,hs,Bool.true_or])) e8]
theorem Rel.exps {v1 v2:Env} {σ1 σ2:Sb} {n:Nat} {S1 S2:ByteArray->Prop} (h:Rel v1 v2 σ1 σ2 n S1 S2):∀e1 e2:List Exp,okEs e1->okEs e2->(∀s,fEs e1 (zb s)=true->S1 s)->(∀s,fEs e2 (zb s)=true->S2 s)->denEs σ1 e1=denEs σ2 e2->jM v1 e1=jM v2 e2
 | [], [],_,_,_,_,_=> by rw [jM,jM]
 | [],_::_,_,_,_,_,he=> by rw [denEs,denEs] at he;cases he
 | _::_, [],_,_,_,_,he=> by rw [denEs,denEs] at he;cases he
 | a::l1,b::l2,he1,he2,h1,h2,he=> by
  unfold okEs at he1 he2;rw [denEs,denEs] at he
  injection he with e1 e2
  rw [jM,jM,h.exp a b he1.1 he2.1 (fun s hs=> h1 s (by rw [fEs,hs,Bool.true_or])) (fun s hs=> h2 s (by rw [fEs,hs,Bool.true_or])) e1,
   h.exps l1 l2 he1.2 he2.2 (fun s hs=> h1 s (by rw [fEs,hs,Bool.or_true])) (fun s hs=> h2 s (by rw [fEs,hs,Bool.or_true])) e2]
end
theorem dtx_new (σ:Sb) (n:Nat) {B:List ByteArray} {s:ByteArray} (h:s∈B) (hz:s.size≠0):∃i,∃h:i < B.length,B[i]=s/\dtx (ext σ n B) s=lvl (n + i):=by
 obtain ⟨i,hi,e1,e2⟩:=ext_new σ n h;exact ⟨i,hi,e1,by unfold dtx;rw [if_neg hz,e2];rfl⟩
theorem den_inj {W:List UInt8->Prop} {p:Part} (hB:okB W p) (σ:Sb) (n:Nat):∀a∈zR p,∀b∈zR p,dtx (ext σ n (zR p)) a=dtx (ext σ n (zR p)) b->a=b:=by
 intro a ha b hb e;obtain ⟨i,hi,e1,e2⟩:=dtx_new σ n ha (hB a ha).1;obtain ⟨j,hj,e3,e4⟩:=dtx_new σ n hb (hB b hb).1;rw [e2,e4] at e;have:i=j:=by have:=lvl_inj e;omega
 subst this;rw [<-e1,<-e3]
mutual
theorem canoT:∀(t1 t2:Term) {v1 v2:Env} {σ1 σ2:Sb} {n:Nat} {S1 S2:ByteArray->Prop} (U:Used),Rel v1 v2 σ1 σ2 n S1 S2->okT TW t1->okT TW t2->NdP QA (.proc t1)->NdP QA (.proc t2)->(∀s,fT t1 (zb s)=true->S1 s)->(∀s,fT t2 (zb s)=true->S2 s)->
  denT σ1 n t1=denT σ2 n t2->yl v1 U t1=yl v2 U t2
 | .mk o t a d ks, .mk o2 t2 a2 d2 ks2,v1,v2,σ1,σ2,n,S1,S2,U,hr,hk1,hk2,hn1,hn2,hs1,hs2,he=> by
  have hc1:∀c∈d,NdP QA (.def_ c):=fun c hc=> hn1.part (yu hc);have hc2:∀c∈d2,NdP QA (.def_ c):=fun c hc=> hn2.part (yu hc);have ht1:∀c∈ks,NdP QA (.proc c):=fun c hc=> hn1.part (qV hc);have ht2:∀c∈ks2,NdP QA (.proc c):=fun c hc=> hn2.part (qV hc);unfold okT at hk1 hk2;obtain ⟨x1,x2,x3,x4⟩:=hk1;obtain ⟨y1,y2,y3,y4⟩:=hk2
  have hbl:(zR (.proc (.mk o t a d ks))).length=(zR (.proc (.mk o2 t2 a2 d2 ks2))).length:=by
   have q1:=binds_map (o:=o) (t:=t) (t':=dtx σ1 t) (a:=a) (a':=denEs (ext σ1 n (zR (.proc (.mk o t a d ks)))) a) (k:=ks) (k':=denTs (ext σ1 n (zR (.proc (.mk o t a d ks)))) (n + (zR (.proc (.mk o t a d ks))).length) ks)
    (denCs_sig d (ext σ1 n (zR (.proc (.mk o t a d ks)))) (n + (zR (.proc (.mk o t a d ks))).length) x3) (den_inj x2 σ1 n)
   have q2:=binds_map (o:=o2) (t:=t2) (t':=dtx σ2 t2) (a:=a2) (a':=denEs (ext σ2 n (zR (.proc (.mk o2 t2 a2 d2 ks2)))) a2) (k:=ks2) (k':=denTs (ext σ2 n (zR (.proc (.mk o2 t2 a2 d2 ks2)))) (n + (zR (.proc (.mk o2 t2 a2 d2 ks2))).length) ks2)
    (denCs_sig d2 (ext σ2 n (zR (.proc (.mk o2 t2 a2 d2 ks2)))) (n + (zR (.proc (.mk o2 t2 a2 d2 ks2))).length) y3) (den_inj y2 σ2 n)
   rw [denT,denT] at he;rw [he,q2] at q1;have:=congrArg List.length q1;simpa using this.symm
  obtain ⟨p1,hp1⟩:∃p,p=Part.proc (.mk o t a d ks):=⟨_,rfl⟩;obtain ⟨p2,hp2⟩:∃p,p=Part.proc (.mk o2 t2 a2 d2 ks2):=⟨_,rfl⟩;rw [denT,denT] at he;rw [yl,yl];have hA1:=inside_anew (U:=U) (p:= .proc (.mk o t a d ks)) hr.b1 hn1.self.2;have hA2:=inside_anew (U:=U) (p:= .proc (.mk o2 t2 a2 d2 ks2)) hr.b2 hn2.self.2;have hri:=hr.inside hA1 hA2 hbl
  have hf1:∀s,(fEs a (zb s) || fCs d (zb s) || fTs ks (zb s))=true->s∈zR (.proc (.mk o t a d ks))∨S1 s:=fun s hs=> by
   cases hb:bndP (.proc (.mk o t a d ks)) (zb s) with
   | true=> exact .inl (mem_bnd.1 hb)
   | false=> exact .inr (hs1 s (by rw [fT,hb,hs];rfl))
  have hf2:∀s,(fEs a2 (zb s) || fCs d2 (zb s) || fTs ks2 (zb s))=true->s∈zR (.proc (.mk o2 t2 a2 d2 ks2))∨S2 s:=fun s hs=> by
   cases hb:bndP (.proc (.mk o2 t2 a2 d2 ks2)) (zb s) with
   | true=> exact .inl (mem_bnd.1 hb)
   | false=> exact .inr (hs2 s (by rw [fT,hb,hs];rfl))
  have hU:(inside v1 U (.proc (.mk o t a d ks))).2=(inside v2 U (.proc (.mk o2 t2 a2 d2 ks2))).2:=by rw [hA1.us,hA2.us,hbl]
  rw [<-hbl] at he
  injection he with e1 e2 e3 e4 e5
  subst e1;have g1:yS v1 t=yS v2 t2:=hr.text (fun h0=> hs1 t (by rw [fT,(isT_iff h0).2 rfl,Bool.or_true])) (fun h0=> hs2 t2 (by rw [fT,(isT_iff h0).2 rfl,Bool.or_true])) e2;have g2:=hri.exps a a2 x1 y1 (fun s hs=> hf1 s (by rw [hs];rfl)) (fun s hs=> hf2 s (by rw [hs];rfl)) e3
  have hd1:∀s∈zl (zm d) ++ zi d,s∈zR (.proc (.mk o t a d ks))∨S1 s:=fun s hs=> .inl (by
   have ho:o=4:=by
    rcases shapedT_cases hn1.self.1 with ho | hd
    ·exact ho
    ·subst hd;simp [zm,zO,zl,zS,zi] at hs
   subst ho;exact (mem_binds4 s).2 hs)
  have hd2:∀s∈zl (zm d2) ++ zi d2,s∈zR (.proc (.mk o t2 a2 d2 ks2))∨S2 s:=fun s hs=> .inl (by
   have ho:o=4:=by
    rcases shapedT_cases hn2.self.1 with ho | hd
    ·exact ho
    ·subst hd;simp [zm,zO,zl,zS,zi] at hs
   subst ho;exact (mem_binds4 s).2 hs)
  have g3:=fun U=> canoCs d d2 U hri x3 y3 hc1 hc2 (fun s hs=> hf1 s (by rw [hs];simp)) (fun s hs=> hf2 s (by rw [hs];simp)) hd1 hd2 e4;have g4:=fun U=> canoTs ks ks2 U hri x4 y4 ht1 ht2 (fun s hs=> hf1 s (by rw [hs,Bool.or_true])) (fun s hs=> hf2 s (by rw [hs,Bool.or_true])) e5;simp only [g1,g2,hU,g3,g4]
theorem canoC:∀(c1 c2:zg) {v1 v2:Env} {σ1 σ2:Sb} {n:Nat} {S1 S2:ByteArray->Prop} (U:Used),Rel v1 v2 σ1 σ2 n S1 S2->okC TW c1->okC TW c2->NdP QA (.def_ c1)->NdP QA (.def_ c2)->(∀s,fC c1 (zb s)=true->S1 s)->(∀s,fC c2 (zb s)=true->S2 s)->
  (∀s∈txC c1 ++ yc c1,S1 s)->(∀s∈txC c2 ++ yc c2,S2 s)->denC σ1 n c1=denC σ2 n c2->xJ v1 U c1=xJ v2 U c2
 | .mk f t j d ks, .mk f2 t2 j2 d2 ks2,v1,v2,σ1,σ2,n,S1,S2,U,hr,hk1,hk2,hn1,hn2,hs1,hs2,hx1,hx2,he=> by
  have hc1:∀c∈d,NdP QA (.def_ c):=fun c hc=> hn1.part (ji hc);have hc2:∀c∈d2,NdP QA (.def_ c):=fun c hc=> hn2.part (ji hc);have ht1:∀c∈ks,NdP QA (.proc c):=fun c hc=> hn1.part (jl hc);have ht2:∀c∈ks2,NdP QA (.proc c):=fun c hc=> hn2.part (jl hc);unfold okC at hk1 hk2;obtain ⟨u1,u2,x2,x3,x4⟩:=hk1;obtain ⟨w1,w2,y2,y3,y4⟩:=hk2;rw [denC,denC] at he
  have hbl:(zR (.def_ (.mk f t j d ks))).length=(zR (.def_ (.mk f2 t2 j2 d2 ks2))).length:=by
   have:=congrArg (fun c=> (zR (.def_ c)).length) he;simp only [zR] at this;have m1:=mapJ_names (dtx σ1) (dtx (ext σ1 n (zR (.def_ (.mk f t j d ks))))) j;have m2:=mapJ_names (dtx σ2) (dtx (ext σ2 n (zR (.def_ (.mk f2 t2 j2 d2 ks2))))) j2;unfold mapJ at m1 m2;simp only [zR] at m1 m2 ⊢;rw [m1,m2,List.length_map,List.length_map] at this;exact this
  rw [xJ,xJ];have hA1:=inside_anew (U:=U) (p:= .def_ (.mk f t j d ks)) hr.b1 hn1.self.2;have hA2:=inside_anew (U:=U) (p:= .def_ (.mk f2 t2 j2 d2 ks2)) hr.b2 hn2.self.2;have hri:=hr.inside hA1 hA2 hbl
  have hf1:∀s,(fCs d (zb s) || fTs ks (zb s))=true->s∈zR (.def_ (.mk f t j d ks))∨S1 s:=fun s hs=> by
   cases hb:bndP (.def_ (.mk f t j d ks)) (zb s) with
   | true=> exact .inl (mem_bnd.1 hb)
   | false=> exact .inr (hs1 s (by rw [fC,hb,hs];rfl))
  have hf2:∀s,(fCs d2 (zb s) || fTs ks2 (zb s))=true->s∈zR (.def_ (.mk f2 t2 j2 d2 ks2))∨S2 s:=fun s hs=> by
   cases hb:bndP (.def_ (.mk f2 t2 j2 d2 ks2)) (zb s) with
   | true=> exact .inl (mem_bnd.1 hb)
   | false=> exact .inr (hs2 s (by rw [fC,hb,hs];rfl))
  have hU:(inside v1 U (.def_ (.mk f t j d ks))).2=(inside v2 U (.def_ (.mk f2 t2 j2 d2 ks2))).2:=by rw [hA1.us,hA2.us,hbl]
  rw [<-hbl] at he
  injection he with e1 e2 e3 e4 e5
  subst e1
  have g1:yS v1 t=yS v2 t2:=hr.text
   (fun h0=> by
    by_cases hf:f=2
    ·exact hx1 t (List.mem_append_right _ (by rw [yc,if_pos hf];simp))
    ·exact absurd (shapedC_text hn1.self.1 hf) h0)
   (fun h0=> by
    by_cases hf:f=2
    ·exact hx2 t2 (List.mem_append_right _ (by rw [yc,if_pos hf];simp))
    ·exact absurd (shapedC_text hn2.self.1 hf) h0) e2
  have g2:=hr.msgs hri j j2 (fun x hx=> ⟨hx1 x.text (List.mem_append_left _ (List.mem_append_left _ (List.mem_map.2 ⟨x,hx,rfl⟩))),fun s hs=> .inl (List.mem_flatMap.2 ⟨x,hx,hs⟩)⟩)
   (fun x hx=> ⟨hx2 x.text (List.mem_append_left _ (List.mem_append_left _ (List.mem_map.2 ⟨x,hx,rfl⟩))),fun s hs=> .inl (List.mem_flatMap.2 ⟨x,hx,hs⟩)⟩) e3
  have hd1:∀s∈zl (zm d) ++ zi d,s∈zR (.def_ (.mk f t j d ks))∨S1 s:=fun s hs=> .inr (by
   by_cases hf:f=2
   ·obtain rfl:=u1 hf
    refine hx1 s ?_;rw [txC,yk,yc,if_pos hf,if_pos hf];rcases List.mem_append.1 hs with hs | hs
    ·exact List.mem_append_left _ (List.mem_append_right _ (by simpa [zm,zg.joins] using hs))
    ·exact List.mem_append_right _ (List.mem_cons_of_mem _ hs)
   ·rw [u2 hf] at hs
    simp [zm,zO,zl,zS,zi] at hs)
  have hd2:∀s∈zl (zm d2) ++ zi d2,s∈zR (.def_ (.mk f t2 j2 d2 ks2))∨S2 s:=fun s hs=> .inr (by
   by_cases hf:f=2
   ·obtain rfl:=w1 hf
    refine hx2 s ?_;rw [txC,yk,yc,if_pos hf,if_pos hf];rcases List.mem_append.1 hs with hs | hs
    ·exact List.mem_append_left _ (List.mem_append_right _ (by simpa [zm,zg.joins] using hs))
    ·exact List.mem_append_right _ (List.mem_cons_of_mem _ hs)
   ·rw [w2 hf] at hs
    simp [zm,zO,zl,zS,zi] at hs)
  have g3:=fun U=> canoCs d d2 U hri x3 y3 hc1 hc2 (fun s hs=> hf1 s (by rw [hs];rfl)) (fun s hs=> hf2 s (by rw [hs];rfl)) hd1 hd2 e4;have g4:=fun U=> canoTs ks ks2 U hri x4 y4 ht1 ht2 (fun s hs=> hf1 s (by rw [hs,Bool.or_true])) (fun s hs=> hf2 s (by rw [hs,Bool.or_true])) e5;simp only [g1,g2,hU,g3,g4]
theorem canoTs:∀(l1 l2:List Term) {v1 v2:Env} {σ1 σ2:Sb} {n:Nat} {S1 S2:ByteArray->Prop} (U:Used),Rel v1 v2 σ1 σ2 n S1 S2->okTs TW l1->okTs TW l2->(∀x∈l1,NdP QA (.proc x))->(∀x∈l2,NdP QA (.proc x))->(∀s,fTs l1 (zb s)=true->S1 s)->(∀s,fTs l2 (zb s)=true->S2 s)->
  denTs σ1 n l1=denTs σ2 n l2->ju v1 U l1=ju v2 U l2
 | [], [],_,_,_,_,_,_,_,U,_,_,_,_,_,_,_,_=> by rw [ju,ju]
 | [],_::_,_,_,_,_,_,_,_,U,_,_,_,_,_,_,_,he=> by rw [denTs,denTs] at he;cases he
 | _::_, [],_,_,_,_,_,_,_,U,_,_,_,_,_,_,_,he=> by rw [denTs,denTs] at he;cases he
 | a::l1,b::l2,v1,v2,σ1,σ2,n,S1,S2,U,hr,hk1,hk2,hn1,hn2,hs1,hs2,he=> by
  unfold okTs at hk1 hk2;rw [denTs,denTs] at he
  injection he with e1 e2
  have g1:=canoT a b U hr hk1.1 hk2.1 (hn1 a (by simp)) (hn2 b (by simp)) (fun s hs=> hs1 s (by rw [fTs,hs,Bool.true_or])) (fun s hs=> hs2 s (by rw [fTs,hs,Bool.true_or])) e1;have g2:=fun U=> canoTs l1 l2 U hr hk1.2 hk2.2 (fun x hx=> hn1 x (by simp [hx])) (fun x hx=> hn2 x (by simp [hx])) (fun s hs=> hs1 s (by rw [fTs,hs,Bool.or_true])) (fun s hs=> hs2 s (by rw [fTs,hs,Bool.or_true])) e2;rw [ju,ju,g1];simp only [g2]
theorem canoCs:∀(l1 l2:List zg) {v1 v2:Env} {σ1 σ2:Sb} {n:Nat} {S1 S2:ByteArray->Prop} (U:Used),Rel v1 v2 σ1 σ2 n S1 S2->okCs TW l1->okCs TW l2->(∀x∈l1,NdP QA (.def_ x))->(∀x∈l2,NdP QA (.def_ x))->(∀s,fCs l1 (zb s)=true->S1 s)->(∀s,fCs l2 (zb s)=true->S2 s)->
  (∀s∈zl (zm l1) ++ zi l1,S1 s)->(∀s∈zl (zm l2) ++ zi l2,S2 s)->denCs σ1 n l1=denCs σ2 n l2->jx v1 U l1=jx v2 U l2
 | [], [],_,_,_,_,_,_,_,U,_,_,_,_,_,_,_,_,_,_=> by rw [jx,jx]
 | [],_::_,_,_,_,_,_,_,_,U,_,_,_,_,_,_,_,_,_,he=> by rw [denCs,denCs] at he;cases he
 | _::_, [],_,_,_,_,_,_,_,U,_,_,_,_,_,_,_,_,_,he=> by rw [denCs,denCs] at he;cases he
 | a::l1,b::l2,v1,v2,σ1,σ2,n,S1,S2,U,hr,hk1,hk2,hn1,hn2,hs1,hs2,hx1,hx2,he=> by
  unfold okCs at hk1 hk2;rw [denCs,denCs] at he
  injection he with e1 e2
  have ha:∀(c:zg) (cs:List zg) (S:ByteArray->Prop),(∀s∈zl (zm (c::cs)) ++ zi (c::cs),S s)->(∀s∈txC c ++ yc c,S s)/\(∀s∈zl (zm cs) ++ zi cs,S s):=fun c cs S hx=> by
   refine ⟨fun s hs=> hx s ?_,fun s hs=> hx s ?_⟩
   ·rcases List.mem_append.1 hs with hs | hs
    ·exact List.mem_append_left _ ((mem_tx_cons c cs s).2 (List.mem_append_left _ hs))
    ·exact List.mem_append_right _ (by rw [zi];exact List.mem_append_left _ hs)
   ·rcases List.mem_append.1 hs with hs | hs
    ·exact List.mem_append_left _ ((mem_tx_cons c cs s).2 (List.mem_append_right _ hs))
    ·exact List.mem_append_right _ (by rw [zi];exact List.mem_append_right _ hs)
  obtain ⟨ha1,ha2⟩:=ha a l1 S1 hx1;obtain ⟨hb1,hb2⟩:=ha b l2 S2 hx2;have g1:=canoC a b U hr hk1.1 hk2.1 (hn1 a (by simp)) (hn2 b (by simp)) (fun s hs=> hs1 s (by rw [fCs,hs,Bool.true_or])) (fun s hs=> hs2 s (by rw [fCs,hs,Bool.true_or])) ha1 hb1 e1;have g2:=fun U=> canoCs l1 l2 U hr hk1.2 hk2.2 (fun x hx=> hn1 x (by simp [hx])) (fun x hx=> hn2 x (by simp [hx])) (fun s hs=> hs1 s (by rw [fCs,hs,Bool.or_true])) (fun s hs=> hs2 s (by rw [fCs,hs,Bool.or_true])) ha2 hb2 e2;rw [jx,jx,g1];simp only [g2]
end
def putSg (x:ByteArray) (e:Exp):Sb:=fun s=> if s=x then e else yq s
theorem put_den (t:Term) (x:ByteArray) (e:Exp) (h1:(Part.proc t).size<=60) (h2:Fine (.proc t)) (hq:NdP QA (.proc t)) (h3:(Part.exp e).size<=60) (h4:Fine (.exp e)) (y:Term×Used) (hy:yl ⟨.putting x e, [jp]⟩ (xy t x e) t=some y) (σ:Sb) (n:Nat):
  denT σ n y.1=denT (fun s=> denE σ (putSg x e s)) n t:=by
 obtain ⟨t',U'⟩:=y
 have hok:okT (fun k=> xy t x e k=true) t:=okT_of t (fun q hq=> ⟨h2 q hq,fun b hb=> by
  unfold xy xW;rw [qJ 0 1] at hq;obtain ⟨z,hz,rfl⟩:=List.mem_map.1 hq
  have:(zw 1 (.proc t)).any (fun q=> zbk q.1 (zb b))=true:=List.any_eq_true.2 ⟨z,hz,by
   unfold zbk;rw [Bool.or_eq_true];exact .inl (List.any_eq_true.2 ⟨b,hb,by simp⟩)⟩
  rw [this];rfl⟩)
 have hbase:BaseOk (Base.putting x e):= .inr ⟨x,e,rfl,(zni e h4).1,h3⟩
 have hst:∀(p:Part) (k:List UInt8),fP p k=true->xW p k=true:=by
  intro p k hk;have hk':qE p.size p k=true:=by rw [freeN_fP _ p (ZL _)];exact hk
  have hgen:∀(s:Nat) (p:Part) (k:List UInt8),qE s p k=true->∃q∈(zw 0 p).map (·.1),zbk q k=true:=by
   intro s
   induction s with
   | zero=> intro p k h;simp [qE] at h
   | succ s ih=>
    intro p k h;rw [qE,Bool.or_eq_true,Bool.and_eq_true] at h;rcases h with ⟨h,_⟩ | h
    ·obtain ⟨q,hq,hk⟩:=List.any_eq_true.1 h
     obtain ⟨r,hr,hw⟩:=ih q k hk;rw [qJ 0 1] at hr;obtain ⟨z,hz,rfl⟩:=List.mem_map.1 hr;refine ⟨z.1,?_,hw⟩;rw [zv];exact List.mem_map.2 ⟨z,List.mem_cons_of_mem _ (jh hq hz),rfl⟩
    ·refine ⟨p,by rw [zv];simp,?_⟩
     unfold zbk;rw [h,Bool.or_true]
  obtain ⟨q,hq,hw⟩:=hgen _ p k hk';rw [qJ 0 1] at hq;obtain ⟨z,hz,rfl⟩:=List.mem_map.1 hq;exact List.any_eq_true.2 ⟨z,hz,hw⟩
 have hUt:∀k,fT t k=true->xy t x e k=true:=fun k hk=> by unfold xy;rw [hst (.proc t) k hk];rfl
 have hUe:∀k,fE e k=true->xy t x e k=true:=fun k hk=> by unfold xy;rw [hst (.exp e) k hk];simp
 have hbec:∀n k,fE ((Env.mk (.putting x e) [jp]).becomes n) k=true↔(n=x/\fE e k=true)∨(n≠x/\isT n k=true):=by
  intro n k;rw [Env.frame0_becomes];simp only [Base.becomes];by_cases hn:n=x
  ·rw [if_pos hn];simp [hn]
  ·rw [if_neg hn,fE_nameE];simp [hn]
 have hisT:∀(n:ByteArray) k,isT n k=true->k=zb n:=fun n k h=> by
  unfold isT at h;rw [Bool.and_eq_true] at h;simpa using h.2
 have hfit:Fit (fun k=> xy t x e k=true) ⟨.putting x e, [jp]⟩ (xy t x e) (fT t):=by
  refine ⟨fun n k h5 h6=> ?_,fun _ b hb=> ⟨hb,fun n c hl=> ?_⟩⟩
  ·rcases (hbec n k).1 h6 with ⟨_,h6⟩ | ⟨_,h6⟩
   ·exact hUe k h6
   ·rw [hisT n k h6];exact hUt _ h5
  ·simp [zaF,jp] at hl
 have hz:(qL 0 t).length<=60:=h1;have hbc:=zed t 0 (fun q hq=> h2 q hq);exact copyT_den t _ _ U' t' 1000 0 hbase (fun n c hl=> by simp [zaF,jp] at hl) hok hq hz hfit (cov_used t x e h1 h2 h3) (by omega) hy σ _ n (fun s _=> by rw [Env.frame0_becomes];rfl)
mutual
theorem denE_comp {σ κ:Sb}:∀e:Exp,okE e->denE σ (denE κ e)=denE (fun s=> denE σ (κ s)) e
 | .mk op n t kids,he=> by
  unfold okE at he;rw [denE.eq_1 κ,denE.eq_1 (fun s=> denE σ (κ s))];by_cases ho:op=2
  ·rw [if_pos ho,if_pos ho]
  ·rw [if_neg ho,if_neg ho,denE,if_neg ho,denEs_comp kids he.2.2]
theorem denEs_comp {σ κ:Sb}:∀es:List Exp,okEs es->denEs σ (denEs κ es)=denEs (fun s=> denE σ (κ s)) es
 | [],_=> by rw [denEs,denEs,denEs]
 | e::es,he=> by
  unfold okEs at he;rw [denEs,denEs,denEs,denE_comp e he.1,denEs_comp es he.2]
end
mutual
theorem denE_free (σ:Sb):∀e,okE e->∀k,fE (denE σ e) k=true↔∃n:ByteArray,fE e (zb n)=true/\fE (σ n) k=true
 | .mk op n t kids,he,k=> by
  unfold okE at he;obtain ⟨h1,h2,h3⟩:=he;rw [denE];by_cases ho:op=2
  ·obtain ⟨rfl,ht⟩:=h1 ho
   rw [if_pos ho];constructor
   ·intro h
    exact ⟨t,by rw [fE,fEs,Bool.false_or];exact (isT_iff ht).2 rfl,h⟩
   ·rintro ⟨m,h4,h5⟩
    rw [fE,fEs,Bool.false_or] at h4;rw [zjS ((isT_iff ht).1 h4)] at h5;exact h5
  ·rw [if_neg ho,fE,isT_zero (h2 ho),Bool.or_false,denEs_free σ kids h3 k]
   refine exists_congr fun m=> ?_;rw [fE,isT_zero (h2 ho),Bool.or_false]
theorem denEs_free (σ:Sb):∀es,okEs es->∀k,fEs (denEs σ es) k=true↔∃n:ByteArray,fEs es (zb n)=true/\fE (σ n) k=true
 | [],_,k=> by
  rw [denEs];constructor
  ·intro h;simp [fEs] at h
  ·rintro ⟨m,h,_⟩;simp [fEs] at h
 | e::es,he,k=> by
  unfold okEs at he;rw [denEs,fEs,Bool.or_eq_true,denE_free σ e he.1 k,denEs_free σ es he.2 k];constructor
  ·rintro (⟨m,h1,h2⟩ | ⟨m,h1,h2⟩)
   ·exact ⟨m,by rw [fEs,h1,Bool.true_or],h2⟩
   ·exact ⟨m,by rw [fEs,h1,Bool.or_true],h2⟩
  ·rintro ⟨m,h1,h2⟩
   rw [fEs,Bool.or_eq_true] at h1;exact h1.elim (fun h=> .inl ⟨m,h,h2⟩) (fun h=> .inr ⟨m,h,h2⟩)
end
mutual
theorem okE_free_nil:∀e:Exp,okE e->fE e []=false
 | .mk op n t kids,he=> by
  unfold okE at he;rw [fE,okEs_free_nil kids he.2.2,Bool.false_or];unfold isT;cases zb t with
  | nil=> rfl
  | cons a l=> rfl
theorem okEs_free_nil:∀es:List Exp,okEs es->fEs es []=false
 | [],_=> rfl
 | e::es,he=> by
  unfold okEs at he;rw [fEs,okE_free_nil e he.1,okEs_free_nil es he.2];rfl
end
theorem lvl_no_name (m:Nat):qn (lvl m)=false:=by
 unfold lvl;rw [List.replicate_succ]
 rfl
theorem canon_same {c d:Term} (hc:zT (.proc c)) (hd:zT (.proc d)) (he:denT yq 0 c=denT yq 0 d) (hf:∀k,fT c k=fT d k):yl anew0 (qE 60 (.proc c)) c=yl anew0 (qE 60 (.proc d)) d:=by
 have hU:qE 60 (.proc c)=qE 60 (.proc d):=by
  funext k
  rw [freeN_fP 60 _ hc.1,freeN_fP 60 _ hd.1];exact hf k
 rw [<-hU]
 have hr:Rel anew0 anew0 yq yq 0 (fun s=> qn s=true) (fun s=> qn s=true):=by
  have hg:∀s,qn s=true->∃y,yq s=yq y/\y.size≠0/\∀m,0<=m->y≠lvl m:=fun s hs=> ⟨s,rfl,zcU hs,fun m _ e=> by rw [e,lvl_no_name] at hs;cases hs⟩;exact ⟨rfl,rfl,hg,hg,fun s1 s2 _ _ e=> by rw [nameE_inj e]⟩
 exact canoT c d _ hr (okT_fine (formed_QC hc)) (okT_fine (formed_QC hd)) ((formed_QC hc).mono fun q h=> h.1) ((formed_QC hd).mono fun q h=> h.1) (fun s hs=> free_name hc s hs) (fun s hs=> free_name hd s hs) he
theorem substs_same {t a b c d:Term} {X Y:ByteArray} {E F G:Exp} (ht:zT (.proc t)) (hE:zT (.exp E)) (hF:zT (.exp F)) (hG:zT (.exp G)) (hXY:X≠Y) (hX:fE F (zb X)=false) (hGe:G=denE (putSg Y F) E)
  {u1 u2 u3 u4:Used} (h1:yl ⟨.putting X E, [jp]⟩ (xy t X E) t=some (a,u1)) (h2:yl ⟨.putting Y F, [jp]⟩ (xy t Y F) t=some (b,u2))
  (h3:yl ⟨.putting Y F, [jp]⟩ (xy a Y F) a=some (c,u3)) (h4:yl ⟨.putting X G, [jp]⟩ (xy b X G) b=some (d,u4))
  (ha:zT (.proc a)) (hb:zT (.proc b)) (hc:zT (.proc c)) (hd:zT (.proc d)):yl anew0 (qE 60 (.proc c)) c=yl anew0 (qE 60 (.proc d)) d:=by
 have okEe:=(zni E (xg hE)).1;have okFf:=(zni F (xg hF)).1;have hq:∀{p:Part},zT p->NdP QA p:=fun h=> (formed_QC h).mono fun q h=> h.1;refine canon_same hc hd ?_ fun k=> ?_
 ·have e1:=put_den t X E ht.1 (xg ht) (hq ht) hE.1 (xg hE) _ h1 (fun s=> denE yq (putSg Y F s)) 0
  have e2:=put_den t Y F ht.1 (xg ht) (hq ht) hF.1 (xg hF) _ h2 (fun s=> denE yq (putSg X G s)) 0;have e3:=put_den a Y F ha.1 (xg ha) (hq ha) hF.1 (xg hF) _ h3 yq 0;have e4:=put_den b X G hb.1 (xg hb) (hq hb) hG.1 (xg hG) _ h4 yq 0;rw [show denT yq 0 c=_ from e3,show denT yq 0 d=_ from e4,show denT _ 0 a=_ from e1,show denT _ 0 b=_ from e2]
  have hfun:(fun s=> denE (fun s=> denE yq (putSg Y F s)) (putSg X E s))=fun s=> denE (fun s=> denE yq (putSg X G s)) (putSg Y F s):=by
   funext s
   by_cases hsX:s=X
   ·subst hsX
    have q1:putSg s E s=E:=by unfold putSg;rw [if_pos rfl]
    have q2:putSg Y F s=yq s:=by unfold putSg;rw [if_neg hXY]
    have q3:putSg s G s=G:=by unfold putSg;rw [if_pos rfl]
    rw [q1,q2,denE_name,q3,hGe,denE_comp E okEe]
   ·have q1:putSg X E s=yq s:=by unfold putSg;rw [if_neg hsX]
    rw [q1,denE_name];by_cases hsY:s=Y
    ·subst hsY
     have q2:putSg s F s=F:=by unfold putSg;rw [if_pos rfl]
     rw [q2];refine denE_congr F okFf fun y hy=> ?_;have hyX:y≠X:=fun e=> by rw [e,hX] at hy;cases hy
     have q4:putSg X G y=yq y:=by unfold putSg;rw [if_neg hyX]
     rw [q4,denE_name]
    ·have q2:putSg Y F s=yq s:=by unfold putSg;rw [if_neg hsY]
     rw [q2,denE_name,denE_name];have q4:putSg X G s=yq s:=by unfold putSg;rw [if_neg hsX]
     rw [q4,denE_name]
  rw [hfun]
 ·have f1:=put_frees t X E ht.1 (xg ht) hE.1 (xg hE) _ h1
  have f2:=put_frees t Y F ht.1 (xg ht) hF.1 (xg hF) _ h2;have f3:=put_frees a Y F ha.1 (xg ha) hF.1 (xg hF) _ h3;have f4:=put_frees b X G hb.1 (xg hb) hG.1 (xg hG) _ h4;simp only at f1 f2 f3 f4;have hbXY:zb X≠zb Y:=fun e=> hXY (zjS e)
  have fG:∀k,fE G k=true↔(fE E k=true/\k≠zb Y)∨(fE E (zb Y)=true/\fE F k=true):=fun k=> by
   rw [hGe,denE_free _ E okEe k];constructor
   ·rintro ⟨n,g1,g2⟩
    unfold putSg at g2;by_cases hn:n=Y
    ·subst hn;rw [if_pos rfl] at g2;exact .inr ⟨g1,g2⟩
    ·rw [if_neg hn,fE_nameE] at g2
     have:k=zb n:=by unfold isT at g2;rw [Bool.and_eq_true] at g2;simpa using g2.2
     subst this;exact .inl ⟨g1,fun e=> hn (zjS e)⟩
   ·rintro (⟨g1,g2⟩ | ⟨g1,g2⟩)
    ·refine ⟨mkB k,by rw [yv];exact g1,?_⟩
     unfold putSg;rw [if_neg (fun e=> g2 (by rw [<-e,yv])),fE_nameE]
     have hk:k≠ []:=fun e=> by
      subst e;exact absurd g1 (by rw [okE_free_nil E okEe];decide)
     unfold isT;rw [yv];cases k with
     | nil=> exact absurd rfl hk
     | cons x l=> simp
    ·exact ⟨Y,g1,by unfold putSg;rw [if_pos rfl];exact g2⟩
  have hXF:¬fE F (zb X)=true:=by rw [hX];decide
  rw [Bool.eq_iff_iff,f3 k,f4 k,f1 k,f1 (zb Y),f2 k,f2 (zb X),fG k];by_cases k1:k=zb X
  ·subst k1
   simp [hX,hbXY,hbXY.symm]
  ·by_cases k2:k=zb Y
   ·subst k2
    simp [hbXY,hbXY.symm,hX]
    grind
   ·simp [k1,k2,hbXY,hbXY.symm,hX]
    grind
mutual
theorem expL_put (x:ByteArray) (e:Exp):∀f:Exp,NdP (fun q=> q.shaped=true) (.exp f)->expL [(x,e)] f=denE (putSg x e) f
 | .mk op n t kids,h=> by
  obtain ⟨h1,h2⟩:=za3 h.self;rw [expL,denE];by_cases ho:op=2
  ·rw [if_pos ho,if_pos ho]
   obtain ⟨rfl,rfl,_⟩:=h1 ho;unfold putSg;by_cases hx:t=x
   ·rw [if_pos hx,yh,yh,if_pos ((zey _ _).2 hx.symm)]
   ·rw [if_neg hx,yh,yh,if_neg (fun hb=> hx ((zey _ _).1 hb).symm),ho]
    rfl
  ·rw [if_neg ho,if_neg ho,<-expL_puts x e kids (fun k hk=> h.part (ziO hk))]
theorem expL_puts (x:ByteArray) (e:Exp):∀fs:List Exp,(∀f∈fs,NdP (fun q=> q.shaped=true) (.exp f))->fs.map (fun k=> expL [(x,e)] k)=denEs (putSg x e) fs
 | [],_=> by rw [denEs];rfl
 | f::fs,h=> by rw [List.map_cons,denEs,expL_put x e f (h f (by simp)),expL_puts x e fs (fun k hk=> h k (by simp [hk]))]
end
def nilT:Term:= .mk 0 ByteArray.empty [] [] []
def TOut (code:Int) (t:Term) (w:World) (e:Ending) (w':World):Prop:=
 ∃(p0:Int) (ux:ByteArray) (r0:Option Addr) (l0 q0:Nat) (r1:Option Addr) (l1 q1:Nat) (r2:Option Addr) (l2 q2:Nat),e= .returned (.tuple #[.agg #[.int .i64 p0, .string ux, .slice r0 l0 q0, .slice r1 l1 q1, .slice r2 l2 q2], .int .i64 code])/\Hid (ze w'.heap.size w' [.int .i64 p0, .string ux, .slice r0 l0 q0, .slice r1 l1 q1, .slice r2 l2 q2] t)/\Below w.heap.size w w'
theorem TOut.mk' {code:Int} {t:Term} {w w':World} {cs:List Value} (hat:ze w'.heap.size w' cs t) (hb:Below w.heap.size w w'):TOut code t w (.returned (.tuple #[.agg cs.toArray, .int .i64 code])) w':=by
 obtain ⟨p0,ux,r0,l0,q0,r1,l1,q1,r2,l2,q2,rfl⟩:=zz hat;exact ⟨p0,ux,r0,l0,q0,r1,l1,q1,r2,l2,q2,rfl,ZH hat,hb⟩
def putL (t:Term) (x:ByteArray) (e:Exp):Term:=if putCode t x e=0 then (match putR t x e with | some y=> y.1 | none=> nilT) else nilT
theorem put_out (t:Term) (x:ByteArray) (e:Exp) (hxz:x.size<=maxLen) (B:Nat) (u w:World) (cs es:List Value) (hu:zh B u w) (hB:B<=w.heap.size) (hat:ze B u cs t) (hae:zy B u es e):
  Calls Tryz.prog 33 #[.agg cs.toArray, .string x, .agg es.toArray] w (TOut (putCode t x e) (putL t x e) w):=by
 refine (pput_any t x e hxz B u w cs es hu hB hat hae).mono ?_;rintro e' w' ⟨cs',rfl,h1,-,hb⟩;rcases h1.out with ⟨hc,-,-,y,hy,-,hat'⟩ | ⟨hc,rfl⟩
 ·have hp:putL t x e=y.1:=by unfold putL;rw [if_pos hc,hy]
  rw [hp];exact TOut.mk' hat' hb
 ·have hp:putL t x e=nilT:=by unfold putL;rw [if_neg hc]
  rw [hp];exact TOut.mk' (cs:=zgy) (zdk _ _) hb
theorem put_good {t:Term} {x:ByteArray} {e:Exp} (h:putCode t x e=0):zT (.proc t)/\qn x=true/\zT (.exp e)/\zT (.proc (putL t x e))/\∃u,yl ⟨.putting x e, [jp]⟩ (xy t x e) t=some (putL t x e,u):=by
 have hp:putL t x e=(match putR t x e with | some y=> y.1 | none=> nilT):=by unfold putL;rw [if_pos h]
 unfold putCode at h;by_cases hb:(zL (.proc t) && qn x && zL (.exp e))=true
 ·rw [if_pos hb] at h
  rw [Bool.and_eq_true,Bool.and_eq_true] at hb;cases hy:putR t x e with
  | none=> rw [hy] at h;cases h
  | some y=>
   rw [hy] at h hp;unfold putOut at h;simp only at h hp
   have hf:zL (.proc y.1)=true:=by
    cases hq:zL (.proc y.1) with
    | true=> rfl
    | false=> rw [hq] at h;cases h
   rw [hp];exact ⟨qI.2 hb.1.1,hb.1.2,qI.2 hb.2,qI.2 hf,y.2,hy⟩
 ·rw [if_neg hb] at h;cases h
theorem formed_op {o:Int} {t:ByteArray} {a:List Exp} {d:List zg} {k:List Term} (h:zT (.proc (.mk o t a d k))):o≠0:=by
 have hs:=(formed_QC h).self.1.1;intro h0;subst h0;simp [Part.shaped,yg] at hs
theorem same_op_no (o:Int) (ho:o≠0) (tx:ByteArray) (s0:Option Addr) (m0 k0:Nat) (s1:Option Addr) (m1 k1:Nat) (s2:Option Addr) (m2 k2:Nat) (w:World):
  Calls Tryz.prog 34 #[.agg #[.int .i64 o, .string tx, .slice s0 m0 k0, .slice s1 m1 k1, .slice s2 m2 k2], .agg #[.int .i64 0, .string ⟨#[]⟩, .slice none 0 0, .slice none 0 0, .slice none 0 0]] w fun e w'=> e= .returned (.bool false)/\Below w.heap.size w w':=by
 have h0:(o==0)=false:=by simpa using ho
 go_enter Tryz.func34,Tryz.ntmps34;go_wp2;go_ret;exact ⟨rfl,(ZQ w _).alloc (by simp) _⟩
theorem none_not (o:Int) (ho:o≠0) (tx:ByteArray) (s0:Option Addr) (m0 k0:Nat) (s1:Option Addr) (m1 k1:Nat) (s2:Option Addr) (m2 k2:Nat) (w:World):
  Calls Tryz.prog 35 #[.agg #[.int .i64 o, .string tx, .slice s0 m0 k0, .slice s1 m1 k1, .slice s2 m2 k2]] w fun e w'=> e= .returned (.bool false)/\Below w.heap.size w w':=by
 have hs:=same_op_no o ho tx s0 m0 k0 s1 m1 k1 s2 m2 k2;go_enter Tryz.func35,Tryz.ntmps35;go_wp2_with (go_at_call 34;refine (hs _).mono ?_;rintro e w1 ⟨rfl,hb1⟩);go_ret;exact ⟨rfl,(ZQ w _).trans (hb1.mono (by simp))⟩
theorem none_nil (w:World) (p0:Int) (ux:ByteArray) (r0:Option Addr) (l0 q0:Nat) (r1:Option Addr) (l1 q1:Nat) (r2:Option Addr) (l2 q2:Nat)
  (hat:ze w.heap.size w [.int .i64 p0, .string ux, .slice r0 l0 q0, .slice r1 l1 q1, .slice r2 l2 q2] nilT):
  Calls Tryz.prog 35 #[.agg #[.int .i64 p0, .string ux, .slice r0 l0 q0, .slice r1 l1 q1, .slice r2 l2 q2]] w fun e' w'=> e'= .returned (.bool true)/\Below w.heap.size w w':=by
 have hs:=fun (W:World) (hW:zh w.heap.size w W) (hz:w.heap.size<=W.heap.size)=> zg1 nilT w.heap.size W W _ zgy (zh.refl _ _) hz (ze.keep hW (ZL _) _ _ hat) (zdk _ _);have hb:Below w.heap.size w (w.alloc (.cells #[.int .i64 p0, .string ux, .slice r0 l0 q0, .slice r1 l1 q1, .slice r2 l2 q2] 33)):=ZQ w _;have hs1:=hs _ (Below.keptC hb) hb.size;unfold zgy at hs1;clear hs hat;go_enter Tryz.func35,Tryz.ntmps35;go_wp2_with (go_at_call 34;refine hs1.mono ?_;rintro e w1 ⟨rfl,hb1⟩);go_ret;exact ⟨rfl,hb.trans (hb1.mono hb.size)⟩
theorem none_put (t:Term) (x:ByteArray) (e:Exp) (w:World) (p0:Int) (ux:ByteArray) (r0:Option Addr) (l0 q0:Nat) (r1:Option Addr) (l1 q1:Nat) (r2:Option Addr) (l2 q2:Nat)
  (hat:ze w.heap.size w [.int .i64 p0, .string ux, .slice r0 l0 q0, .slice r1 l1 q1, .slice r2 l2 q2] (putL t x e)):
  Calls Tryz.prog 35 #[.agg #[.int .i64 p0, .string ux, .slice r0 l0 q0, .slice r1 l1 q1, .slice r2 l2 q2]] w fun e' w'=> e'= .returned (.bool (!(putCode t x e==0)))/\Below w.heap.size w w':=by
 by_cases h:putCode t x e=0
 ·have hg:=(put_good h).2.2.2.1
  have hb:(!(putCode t x e==0))=false:=by rw [h];rfl
  rw [hb];cases hp:putL t x e with
  | mk o tx a d k=>
   rw [hp] at hat hg;unfold ze at hat;obtain ⟨_,_,_,_,hcs,_⟩:=hat
   injection hcs with h1
   injection h1 with _ h1
   subst h1;exact none_not _ (formed_op hg) ux r0 l0 q0 r1 l1 q1 r2 l2 q2 w
 ·have hp:putL t x e=nilT:=by unfold putL;rw [if_neg h]
  have hb:(!(putCode t x e==0))=true:=by
   have:(putCode t x e==0)=false:=by simpa using h
   rw [this];rfl
  rw [hb];rw [hp] at hat;exact none_nil w _ _ _ _ _ _ _ _ _ _ _ hat
end
end Go.Proofs.YtjmlaeofjjhfmaaGreat
