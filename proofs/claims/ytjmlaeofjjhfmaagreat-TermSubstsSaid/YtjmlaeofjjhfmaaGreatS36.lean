/- Lemmas. -/
import Derived.Test.YtjmlaeofjjhfmaaGreatS35
import Derived.Test.YtjmlaeofjjhfmaaGreatS34
import Derived.Test.YtjmlaeofjjhfmaaGreatS24
import Derived.Test.YtjmlaeofjjhfmaaGreatS23
set_option linter.unusedVariables false
set_option linter.unusedSimpArgs false
set_option maxRecDepth 10000
set_option maxHeartbeats 16000000
namespace Go.Proofs.YtjmlaeofjjhfmaaGreat
section
open Go.RowKit Go.Shelf Go.Maps
theorem len_levels {a b:List (Part×Nat)} (h:a.map (·.2)=b.map (·.2)):a.length=b.length:=by
 have:=congrArg List.length h;simpa using this
theorem csize_lev (lev:Nat) (d:List zg):(qu lev d).length=zZ d:=by
 unfold zZ;rw [zbu,zbu]
theorem binds_ren {v:Env} {U U':Used} {i:Env×Used} {o:Int} {t t':ByteArray} {a a':List Exp} {d d':List zg} {k k':List Term} {m:Nat} (h:InA v U (.proc (.mk o t a d k)) i) (ho:o=4) (hC:Cov U m) (hm:m + (zR (.proc (.mk o t a d k))).length<=4900)
  (h1:gsig d'=(gsig d).map (rsig (nm i.1))) (h2:(zO d').map gsig=(zO d).map (fun g=> (gsig g).map (rsig (nm i.1)))) (h3:zi d'=(zi d).map (nm i.1)):
  zR (.proc (.mk o t' a' d' k'))=(xS (zR (.proc (.mk o t a d k))).length U).1/\
   (∀x∈zl (zm d) ++ zi d,x∈zR (.proc (.mk o t a d k))):=by
 have eb:∀t a d k,zR (.proc (.mk o t a d k))=qb d ++ zi d:=fun t a d k=> by
  have:zR (.proc (.mk o t a d k))=if o=4 then qb d ++ zi d else []:=rfl
  rw [this,if_pos ho]
 have hsub:∀x∈zl (zm d) ++ zi d,x∈zR (.proc (.mk o t a d k)):=fun x hx=> by
  rw [eb];rcases List.mem_append.1 hx with hx | hx
  ·exact List.mem_append_left _ (by unfold qb;rw [mem_chFold];exact .inr hx)
  ·exact List.mem_append_right _ hx
 refine ⟨?_,hsub⟩;have hinj:=h.inj hC hm
 have hch:qb d'=(qb d).map (nm i.1):=by
  unfold qb;rw [alltexts_ren (groups_sig h1 h2)];exact chFold_ren _ [] (fun a ha b hb=> hinj a (hsub a (List.mem_append_left _ (by simpa using ha))) b (hsub b (List.mem_append_left _ (by simpa using hb))))
 rw [<-h.new,eb,eb,List.map_append,hch,h3]
mutual
theorem anewT:∀(t:Term) (v:Env) (U:Used) (m lev:Nat),v.base= .anew->NdP QC (.proc t)->(qL lev t).length<=60->Fit TW v U (fT t)->Cov U m->m + bcT t<=4900->(∀n,fT t (zb n)=true->qn (nm v n)=true)->
  ∃t' U',yl v U t=some (t',U')/\NdP QD (.proc t')/\(qL lev t').map (·.2)=(qL lev t).map (·.2)/\
   (∀v2:Env,v2.base= .anew->(∀n,fT t (zb n)=true->nm v2 (nm v n)=nm v n)->yl v2 U t'=some (t',U'))
 | .mk o t a d ks,v,U,m,lev,hb,hf,h60,hF,hC,hm,hn=> by
  obtain ⟨p,hp⟩:∃p,p=Part.proc (.mk o t a d ks):=⟨_,rfl⟩;have hself:=hf.self;have h60':=h60;have hz:p.size<=60:=by rw [hp,Part.size,yP 0 lev];exact h60
  rw [qL] at h60;simp only [List.length_cons,List.length_append] at h60;rw [bcT] at hm;have hok:=okT_fine hf;unfold okT at hok;obtain ⟨k1,k2,k3,k4⟩:=hok;rw [<-hp] at k2 hm;have hbase:BaseOk v.base:= .inl hb;have hI:=inside_ok (m:=m) hbase k2 (by rw [hp];exact hF) hz hC (by omega);have hA:=inside_anew (U:=U) (p:=p) hb (by rw [hp];exact hself.1.2);obtain ⟨i,hi⟩:∃i,i=inside v U p:=⟨_,rfl⟩;rw [<-hi] at hI hA;have hfp:∀k,fP p k=(((fEs a k || fCs d k || fTs ks k) && !bndP p k) || isT t k):=fun k=> by rw [hp];show fT _ k=_;rw [fT]
  have hinn:∀k,(fEs a k || fCs d k || fTs ks k)=true->bndP p k=true∨fP p k=true:=fun k hk=> by
   cases hbk:bndP p k with
   | true=> exact .inl rfl
   | false=> exact .inr (by rw [hfp,hbk];simp only [Bool.not_false,Bool.and_true];rw [hk];rfl)
  have hfit:=hI.fits (fun k=> fEs a k || fCs d k || fTs ks k) hinn;have hnp:∀n,fP p (zb n)=true->qn (nm v n)=true:=fun n h=> hn n (by rw [hp] at h;exact h);have hname:∀n,(fEs a (zb n) || fCs d (zb n) || fTs ks (zb n))=true->qn (nm i.1 n)=true:=fun n h=> name_in hA hC (by omega) hnp n (hinn _ h);have hmm:m + (zR p).length + bcCs d<=4900:=by omega
  have hdef:(∀x∈zl (zm d) ++ zi d,x∈zR p):=by
   rcases shapedT_cases hself.1.1 with ho | rfl
   ·intro x hx
    have eb:zR p=qb d ++ zi d:=by
     rw [hp];have:zR (.proc (.mk o t a d ks))=if o=4 then qb d ++ zi d else []:=rfl
     rw [this,if_pos ho]
    rw [eb];rcases List.mem_append.1 hx with hx | hx
    ·exact List.mem_append_left _ (by unfold qb;rw [mem_chFold];exact .inr hx)
    ·exact List.mem_append_right _ hx
   ·intro x hx;simp [zm,zO,zl,zS,zi] at hx
  have hbn:∀x∈zR p,bndP p (zb x)=true:=fun x hx=> (bndP_iff p _).2 ⟨x,hx,rfl⟩;have hinj:=hA.inj hC (by omega)
  obtain ⟨d',U2,c1,c2,c3,c4⟩:=anewCs d i.1 i.2 (m + (zR p).length) (lev + 1) hA.base (fun c hc=> hf.part (yu hc)) (by omega) (hfit.less (fun _ h=> h) (fun k hk=> by simp [hk])) hI.cov hmm
   (fun n h=> hname n (by simp [h])) (fun x hx=> (zhq _ U m hC (by omega)).1 _ (hA.nm_new (hbn x (hdef x hx))) |>.1) (fun a ha b hb=> hinj a (hdef a (List.mem_append_left _ ha)) b (hdef b (List.mem_append_left _ hb)))
  obtain ⟨_,f2,f3⟩:=copyCs_free d i.1 i.2 U2 d' (m + (zR p).length) (lev + 1) (by rw [hA.base];exact .inl rfl) k3 (by omega) (hfit.less (fun _ h=> h) (fun k hk=> by simp [hk])) hI.cov hmm c1;obtain ⟨ks',U3,e1,e2,e3,e4⟩:=anewTs ks i.1 U2 (m + (zR p).length + bcCs d) (lev + 1) hA.base (fun c hc=> hf.part (qV hc)) (by omega) (hfit.less f2 (fun k hk=> by simp [hk])) f3 (by omega) (fun n h=> hname n (by simp [h]));obtain ⟨a1,a2,a3⟩:=anewEs a i.1 (lev + 1) hA.base (fun e he=> (hf.part (zda he)).mono (fun q hq=> hq.1.1)) (fun n h=> hname n (by simp [h]))
  have htext:∃t',yS v t=some t'/\(t.size=0->t'=t)/\(t.size≠0->t'=nm v t/\qn t'=true):=by
   by_cases htz:t.size=0
   ·exact ⟨t,text_zero htz,fun _=> rfl,fun h=> absurd htz h⟩
   ·refine ⟨nm v t,anew_text hb htz,fun h=> absurd h htz,fun _=> ⟨rfl,hnp t ?_⟩⟩
    rw [hfp,(isT_iff htz).2 rfl,Bool.or_true]
  obtain ⟨t',ht1,ht2,ht3⟩:=htext;have hsig:=copyCs_sig d i.1 i.2 U2 d' hA.base (fun c hc=> (hf.part (yu hc)).mono (fun q hq=> hq.1)) c1
  have hbinds:zR (.proc (.mk o t' (jM i.1 a) d' ks'))=(xS (zR p).length U).1:=by
   by_cases ho:o=4
   ·rw [hp] at hA ⊢
    exact (binds_ren (U':=U) hA ho hC (by rw [<-hp];omega) hsig.1 hsig.2.1 hsig.2.2).1
   ·have eb:∀t a d k,zR (.proc (.mk o t a d k))= []:=fun t a d k=> by
     have:zR (.proc (.mk o t a d k))=if o=4 then qb d ++ zi d else []:=rfl
     rw [this,if_neg ho]
    rw [hp,eb,eb];rfl
  refine ⟨.mk o t' (jM i.1 a) d' ks',U3,?_,?_,?_,fun v2 hb2 hrel=> ?_⟩
  ·rw [yl,<-hp,<-hi]
   simp only [ht1,c1,e1]
  ·refine NdP.mk_ ⟨?_,fun ho=> ?_⟩ (fun q hq=> ?_)
   ·have hs:=hself.1.1
    have l1:=copyEs_len i.1 a;have l2:=copyCs_len d d' _ _ c1;have l3:=copyTs_len ks ks' _ _ e1;simp only [Part.shaped,yg] at hs ⊢;rw [l1,l2,l3];by_cases htz:t.size=0
    ·rw [ht2 htz];exact hs
    ·obtain ⟨_,hnt⟩:=ht3 htz
     have hz2:(t.size==0)=false:=by simpa using htz
     rw [hz2] at hs;simp only [Bool.and_false,Bool.false_and,Bool.or_false,Bool.false_or] at hs;rw [hnt];have hz3:(t'.size==0)=false:=by simpa using zcU hnt
     rw [hz3];simp only [Bool.and_false,Bool.false_and,Bool.or_false,Bool.false_or,Bool.and_true];cases hq:qn t with
     | true=> rw [hq] at hs;simpa using hs
     | false=> rw [hq] at hs;simp at hs
   ·refine defsOk_ren (f:=nm i.1) (hself.2 ho) ?_ (groups_sig hsig.1 hsig.2.1) hsig.2.2 (fun a ha b hb=> hinj a (hdef a ha) b (hdef b hb))
    have:=len_levels c3;rw [csize_lev,csize_lev] at this;exact this
   ·rw [Part.parts] at hq
    rcases List.mem_append.1 hq with hq | hq
    ·rcases List.mem_append.1 hq with hq | hq
     ·obtain ⟨e,he,rfl⟩:=List.mem_map.1 hq
      exact a1 e he
     ·obtain ⟨e,he,rfl⟩:=List.mem_map.1 hq
      exact c2 e he
    ·obtain ⟨e,he,rfl⟩:=List.mem_map.1 hq
     exact e2 e he
  ·rw [qL,qL,List.map_cons,List.map_cons,List.map_append,List.map_append,List.map_append,List.map_append,a2,c3,e3]
  ·have hnd':((zR (.proc (.mk o t' (jM i.1 a) d' ks'))).map zb).Nodup:=by rw [hbinds];exact (zhq _ U m hC (by omega)).2.1
   have hA2:=inside_anew (U:=U) (p:= .proc (.mk o t' (jM i.1 a) d' ks')) hb2 hnd';have hus:(inside v2 U (.proc (.mk o t' (jM i.1 a) d' ks'))).2=i.2:=by rw [hA2.us,hA.us,hbinds,picks_len]
   have hrin:∀n,(fEs a (zb n) || fCs d (zb n) || fTs ks (zb n))=true->nm (inside v2 U (.proc (.mk o t' (jM i.1 a) d' ks'))).1 (nm i.1 n)=nm i.1 n:=fun n h=>
    rel_in hA hA2 hC (by omega) hbinds hb (A:=fP p) (by rw [hp];exact hF) hnp (fun n h=> hrel n (by rw [hp] at h;exact h)) n (hinn _ h)
   have hrb:∀x∈zl (zm d) ++ zi d,nm (inside v2 U (.proc (.mk o t' (jM i.1 a) d' ks'))).1 (nm i.1 x)=nm i.1 x:=fun x hx=>
    rel_in hA hA2 hC (by omega) hbinds hb (A:=fP p) (by rw [hp];exact hF) hnp (fun n h=> hrel n (by rw [hp] at h;exact h)) x (.inl (hbn x (hdef x hx)))
   have ht':yS v2 t'=some t':=by
    by_cases htz:t.size=0
    ·rw [ht2 htz];exact text_zero htz
    ·obtain ⟨h1,h2⟩:=ht3 htz
     rw [anew_text hb2 (zcU h2),h1]
     have:fT (.mk o t a d ks) (zb t)=true:=by
      have:=hfp (zb t);rw [(isT_iff htz).2 rfl,Bool.or_true,hp] at this;exact this
     rw [hrel t this]
   rw [yl];simp only [ht',hus];rw [c4 _ hA2.base (fun n h=> hrin n (by simp [h])) hrb];simp only;rw [e4 _ hA2.base (fun n h=> hrin n (by simp [h]))];simp only;rw [a3 _ hA2.base (fun n h=> hrin n (by simp [h]))]
theorem anewC:∀(c:zg) (v:Env) (U:Used) (m lev:Nat),v.base= .anew->NdP QC (.def_ c)->(qF lev c).length<=60->Fit TW v U (fC c)->Cov U m->m + bcC c<=4900->(∀n,fC c (zb n)=true->qn (nm v n)=true)->
  (∀x∈txC c ++ yc c,qn (nm v x)=true)->(∀a∈txC c,∀b∈txC c,nm v a=nm v b->a=b)->
  ∃c' U',xJ v U c=some (c',U')/\NdP QD (.def_ c')/\(qF lev c').map (·.2)=(qF lev c).map (·.2)/\
   (∀v2:Env,v2.base= .anew->(∀n,fC c (zb n)=true->nm v2 (nm v n)=nm v n)->(∀x∈txC c ++ yc c,nm v2 (nm v x)=nm v x)->xJ v2 U c'=some (c',U'))
 | .mk f t j d ks,v,U,m,lev,hb,hf,h60,hF,hC,hm,hn,hT,hJ=> by
  obtain ⟨p,hp⟩:∃p,p=Part.def_ (.mk f t j d ks):=⟨_,rfl⟩;have hself:=hf.self;have hz:p.size<=60:=by rw [hp,Part.size,yP 0 lev];exact h60
  rw [qF] at h60;simp only [List.length_cons,List.length_append] at h60;rw [bcC] at hm;have hok:=okC_fine hf;unfold okC at hok;obtain ⟨_,_,k2,k3,k4⟩:=hok;rw [<-hp] at k2 hm;obtain ⟨s1,s2,s3,s4,_⟩:=zgp hself.1.1;have hbase:BaseOk v.base:= .inl hb;have hI:=inside_ok (m:=m) hbase k2 (by rw [hp];exact hF) hz hC (by omega);have hA:=inside_anew (U:=U) (p:=p) hb (by rw [hp];exact hself.1.2);obtain ⟨i,hi⟩:∃i,i=inside v U p:=⟨_,rfl⟩;rw [<-hi] at hI hA;have hfp:∀k,fP p k=((fCs d k || fTs ks k) && !bndP p k):=fun k=> by rw [hp];show fC _ k=_;rw [fC]
  have hinn:∀k,(fCs d k || fTs ks k)=true->bndP p k=true∨fP p k=true:=fun k hk=> by
   cases hbk:bndP p k with
   | true=> exact .inl rfl
   | false=> exact .inr (by rw [hfp,hbk];simp only [Bool.not_false,Bool.and_true];rw [hk])
  have hfit:=hI.fits (fun k=> fCs d k || fTs ks k) hinn;have hnp:∀n,fP p (zb n)=true->qn (nm v n)=true:=fun n h=> hn n (by rw [hp] at h;exact h);have hname:∀n,(fCs d (zb n) || fTs ks (zb n))=true->qn (nm i.1 n)=true:=fun n h=> name_in hA hC (by omega) hnp n (hinn _ h);have hmm:m + (zR p).length + bcCs d<=4900:=by omega
  have hvi:f=2->i=(v,U):=fun h=> by
   obtain ⟨rfl,_⟩:=s1 h;rw [hi,hp];exact inside_nil rfl
  have htx2:f=2->txC (.mk f t j d ks)=zl (zm d)/\yc (.mk f t j d ks)=t::zi d:=fun h=> by
   obtain ⟨rfl,_⟩:=s1 h;unfold txC yk yc;rw [if_pos h,if_pos h];exact ⟨rfl,rfl⟩
  have htx1:txC (.mk f t j d ks)=j.map (·.text) ++ zl (yk (.mk f t j d ks)):=rfl
  have hdT:∀x∈zl (zm d) ++ zi d,qn (nm i.1 x)=true:=fun x hx=> by
   by_cases h2:f=2
   ·rw [hvi h2]
    obtain ⟨g1,g2⟩:=htx2 h2;refine hT x ?_;rw [g1,g2];rcases List.mem_append.1 hx with hx | hx
    ·exact List.mem_append_left _ hx
    ·exact List.mem_append_right _ (List.mem_cons_of_mem _ hx)
   ·have hd0:=s2 h2
    rw [hd0] at hx;simp [zm,zO,zl,zS,zi] at hx
  have hdJ:∀a∈zl (zm d),∀b∈zl (zm d),nm i.1 a=nm i.1 b->a=b:=fun a ha b hb=> by
   by_cases h2:f=2
   ·rw [hvi h2]
    obtain ⟨g1,g2⟩:=htx2 h2;exact hJ a (by rw [g1];exact ha) b (by rw [g1];exact hb)
   ·have hd0:=s2 h2
    rw [hd0] at ha;simp [zm,zO,zl,zS] at ha
  obtain ⟨d',U2,c1,c2,c3,c4⟩:=anewCs d i.1 i.2 (m + (zR p).length) (lev + 1) hA.base (fun c hc=> hf.part (ji hc)) (by omega) (hfit.less (fun _ h=> h) (fun k hk=> by simp [hk])) hI.cov hmm
   (fun n h=> hname n (by simp [h])) hdT hdJ
  obtain ⟨_,f2,f3⟩:=copyCs_free d i.1 i.2 U2 d' (m + (zR p).length) (lev + 1) (by rw [hA.base];exact .inl rfl) k3 (by omega) (hfit.less (fun _ h=> h) (fun k hk=> by simp [hk])) hI.cov hmm c1;obtain ⟨ks',U3,e1,e2,e3,e4⟩:=anewTs ks i.1 U2 (m + (zR p).length + bcCs d) (lev + 1) hA.base (fun c hc=> hf.part (jl hc)) (by omega) (hfit.less f2 (fun k hk=> by simp [hk])) f3 (by omega) (fun n h=> hname n (by simp [h]));have hjt:∀x∈j.map (·.text),x∈txC (.mk f t j d ks):=fun x hx=> by rw [htx1];exact List.mem_append_left _ hx
  obtain ⟨j',hj',hj2⟩:∃j',zau v i.1 j=some j'/\j'=j.map (fun j=> ⟨nm v j.text,j.names.map (nm i.1)⟩):=by
   have:∀js:List Msg,(∀x∈js.map (·.text),x.size≠0)->(∀x∈js.flatMap (·.names),x.size≠0)->zau v i.1 js=some (js.map (fun j=> ⟨nm v j.text,j.names.map (nm i.1)⟩)):=by
    intro js
    induction js with
    | nil=> intro _ _;rfl
    | cons a l ih=>
     intro h1 h2
     have hts:∀ns:List ByteArray,(∀x∈ns,x.size≠0)->zbr i.1 ns=some (ns.map (nm i.1)):=by
      intro ns
      induction ns with
      | nil=> intro _;rfl
      | cons b bs ih2=>
       intro hz;rw [zbr,anew_text hA.base (hz b (by simp)),ih2 (fun x hx=> hz x (by simp [hx]))]
       rfl
     rw [zau,msgM,anew_text hb (h1 a.text (by simp)),hts a.names (fun x hx=> h2 x (by rw [List.flatMap_cons];exact List.mem_append_left _ hx)),
      ih (fun x hx=> h1 x (by rw [List.map_cons];exact List.mem_cons_of_mem _ hx)) (fun x hx=> h2 x (by rw [List.flatMap_cons];exact List.mem_append_right _ hx))]
     rfl
   exact ⟨_,this j s4 s3,rfl⟩
  have htext:∃t',yS v t=some t'/\(t.size=0->t'=t)/\(t.size≠0->t'=nm v t):=by
   by_cases htz:t.size=0
   ·exact ⟨t,text_zero htz,fun _=> rfl,fun h=> absurd htz h⟩
   ·exact ⟨nm v t,anew_text hb htz,fun h=> absurd h htz,fun _=> rfl⟩
  obtain ⟨t',ht1,ht2,ht3⟩:=htext
  have hbinds:zR (.def_ (.mk f t' j' d' ks'))=(xS (zR p).length U).1:=by
   have eb:∀t j d k,zR (.def_ (.mk f t j d k))=j.flatMap (·.names):=fun _ _ _ _=> rfl;rw [eb,hj2,names_map,<-hA.new,hp,eb]
  have hpk:=zhq (zR p).length U m hC (by omega);refine ⟨.mk f t' j' d' ks',U3,?_,?_,?_,fun v2 hb2 hrel hrT=> ?_⟩
  ·rw [xJ,<-hp,<-hi]
   simp only [ht1,hj',c1,e1]
  ·refine NdP.mk_ ⟨?_,trivial⟩ (fun q hq=> ?_)
   ·have hs:=hself.1.1
    have l2:=copyCs_len d d' _ _ c1;have l3:=copyTs_len ks ks' _ _ e1;simp only [Part.shaped,yB,Bool.or_eq_true,Bool.and_eq_true,beq_iff_eq,decide_eq_true_eq] at hs ⊢;rw [l2,l3];rcases hs with ⟨⟨⟨⟨g1,g2⟩,g3⟩,g4⟩,g5⟩ | ⟨⟨⟨⟨g1,g2⟩,g3⟩,g4⟩,g5⟩
    ·refine .inl ⟨⟨⟨⟨g1,by rw [ht2 g2];exact g2⟩,?_⟩,g4⟩,g5⟩
     have hnames:(j.flatMap (·.names)).map (nm i.1)=(xS (zR p).length U).1:=by rw [<-hA.new,hp];rfl
     rw [hj2];exact joined_ren g3 (fun x hx=> hT x (List.mem_append_left _ (hjt x hx))) (fun a ha b hb=> hJ a (hjt a ha) b (hjt b hb)) (fun c hc=> (hpk.1 c (by rw [<-hnames];exact hc)).1) (by rw [hnames];exact hpk.2.1)
    ·have htz:t.size≠0:=zcU g2
     have hpl:=(htx2 g1).2;refine .inr ⟨⟨⟨⟨g1,?_⟩,by rw [hj2,List.length_map];exact g3⟩,g4⟩,g5⟩;rw [ht3 htz];exact hT t (List.mem_append_right _ (by rw [hpl];exact List.mem_cons_self))
   ·rw [Part.parts] at hq
    rcases List.mem_append.1 hq with hq | hq
    ·obtain ⟨e,he,rfl⟩:=List.mem_map.1 hq
     exact c2 e he
    ·obtain ⟨e,he,rfl⟩:=List.mem_map.1 hq
     exact e2 e he
  ·rw [qF,qF,List.map_cons,List.map_cons,List.map_append,List.map_append,c3,e3]
  ·have hnd':((zR (.def_ (.mk f t' j' d' ks'))).map zb).Nodup:=by rw [hbinds];exact hpk.2.1
   have hA2:=inside_anew (U:=U) (p:= .def_ (.mk f t' j' d' ks')) hb2 hnd';obtain ⟨i2,hi2⟩:∃i2,i2=inside v2 U (.def_ (.mk f t' j' d' ks')):=⟨_,rfl⟩;rw [<-hi2] at hA2;have hus:i2.2=i.2:=by rw [hA2.us,hA.us,hbinds,picks_len]
   have hri:∀n,(bndP p (zb n)=true∨fP p (zb n)=true)->nm i2.1 (nm i.1 n)=nm i.1 n:=fun n h=>
    rel_in hA hA2 hC (by omega) hbinds hb (A:=fP p) (by rw [hp];exact hF) hnp (fun n h=> hrel n (by rw [hp] at h;exact h)) n h
   have hdr:∀x∈zl (zm d) ++ zi d,nm i2.1 (nm i.1 x)=nm i.1 x:=fun x hx=> by
    by_cases h2:f=2
    ·have hj0:j= []:=(s1 h2).1
     have hi2':i2=(v2,U):=by
      rw [hi2];refine inside_nil ?_;have:zR (.def_ (.mk f t' j' d' ks'))=j'.flatMap (·.names):=rfl;rw [this,hj2,hj0];rfl
     rw [hvi h2,hi2'];obtain ⟨g1,g2⟩:=htx2 h2;refine hrT x ?_;rw [g1,g2];rcases List.mem_append.1 hx with hx | hx
     ·exact List.mem_append_left _ hx
     ·exact List.mem_append_right _ (List.mem_cons_of_mem _ hx)
    ·have hd0:=s2 h2
     rw [hd0] at hx;simp [zm,zO,zl,zS,zi] at hx
   have ht':yS v2 t'=some t':=by
    by_cases htz:t.size=0
    ·rw [ht2 htz];exact text_zero htz
    ·have hf2:f=2:=by
      rcases Classical.em (f=2) with h | h
      ·exact h
      ·exfalso
       have hs:=hself.1.1;simp only [Part.shaped,yB,Bool.or_eq_true,Bool.and_eq_true,beq_iff_eq,decide_eq_true_eq] at hs;rcases hs with ⟨⟨⟨⟨_,g2⟩,_⟩,_⟩,_⟩ | ⟨⟨⟨⟨g1,_⟩,_⟩,_⟩,_⟩
       ·exact htz g2
       ·exact h g1
     have hmem:t∈txC (.mk f t j d ks) ++ yc (.mk f t j d ks):=List.mem_append_right _ (by rw [(htx2 hf2).2];exact List.mem_cons_self);rw [ht3 htz,anew_text hb2 (zcU (hT t hmem)),hrT t hmem]
   have hj'':zau v2 i2.1 j'=some j':=by
    have hall:∀js:List Msg,(∀x∈js.map (·.text),qn (nm v x)=true/\nm v2 (nm v x)=nm v x)->(∀x∈js.flatMap (·.names),qn (nm i.1 x)=true/\nm i2.1 (nm i.1 x)=nm i.1 x)->
      zau v2 i2.1 (js.map (fun j=> ⟨nm v j.text,j.names.map (nm i.1)⟩))=some (js.map (fun j=> ⟨nm v j.text,j.names.map (nm i.1)⟩)):=by
     intro js
     induction js with
     | nil=> intro _ _;rfl
     | cons a l ih=>
      intro h1 h2
      have hts:∀ns:List ByteArray,(∀x∈ns,qn (nm i.1 x)=true/\nm i2.1 (nm i.1 x)=nm i.1 x)->zbr i2.1 (ns.map (nm i.1))=some (ns.map (nm i.1)):=by
       intro ns
       induction ns with
       | nil=> intro _;rfl
       | cons b bs ih2=>
        intro hz;obtain ⟨z1,z2⟩:=hz b (by simp);rw [List.map_cons,zbr,anew_text hA2.base (zcU z1),z2,ih2 (fun x hx=> hz x (by simp [hx]))]
      obtain ⟨z1,z2⟩:=h1 a.text (by simp);rw [List.map_cons,zau,msgM];simp only
      rw [anew_text hb2 (zcU z1),z2,hts a.names (fun x hx=> h2 x (by rw [List.flatMap_cons];exact List.mem_append_left _ hx)),
       ih (fun x hx=> h1 x (by rw [List.map_cons];exact List.mem_cons_of_mem _ hx)) (fun x hx=> h2 x (by rw [List.flatMap_cons];exact List.mem_append_right _ hx))]
    rw [hj2];refine hall j (fun x hx=> ⟨hT x (List.mem_append_left _ (hjt x hx)),hrT x (List.mem_append_left _ (hjt x hx))⟩) (fun x hx=> ?_);have hbx:bndP p (zb x)=true:=(bndP_iff p _).2 ⟨x,by rw [hp];exact hx,rfl⟩;exact ⟨(hpk.1 _ (hA.nm_new hbx)).1,hri x (.inl hbx)⟩
   rw [xJ,<-hi2];simp only [ht',hj'',hus];rw [c4 _ hA2.base (fun n h=> hri n (hinn _ (by simp [h]))) hdr];simp only;rw [e4 _ hA2.base (fun n h=> hri n (hinn _ (by simp [h])))]
theorem anewTs:∀(l:List Term) (v:Env) (U:Used) (m lev:Nat),v.base= .anew->(∀t∈l,NdP QC (.proc t))->(yj lev l).length<=60->Fit TW v U (fTs l)->Cov U m->m + bcTs l<=4900->(∀n,fTs l (zb n)=true->qn (nm v n)=true)->
  ∃l' U',ju v U l=some (l',U')/\(∀t∈l',NdP QD (.proc t))/\(yj lev l').map (·.2)=(yj lev l).map (·.2)/\
   (∀v2:Env,v2.base= .anew->(∀n,fTs l (zb n)=true->nm v2 (nm v n)=nm v n)->ju v2 U l'=some (l',U'))
 | [],v,U,m,lev,_,_,_,_,_,_,_=> ⟨[],U,rfl,fun t ht=> by simp at ht,rfl,fun _ _ _=> rfl⟩
 | a::l,v,U,m,lev,hb,hf,h60,hF,hC,hm,hn=> by
  rw [yj,List.length_append] at h60;rw [bcTs] at hm;obtain ⟨a',U2,a1,a2,a3,a4⟩:=anewT a v U m lev hb (hf a (by simp)) (by omega) (hF.less (fun _ h=> h) (fun k hk=> by rw [fTs,hk,Bool.true_or])) hC (by omega) (fun n h=> hn n (by rw [fTs,h,Bool.true_or]));obtain ⟨_,f2,f3⟩:=copyT_free a v U U2 a' m lev (.inl hb) (okT_fine (hf a (by simp))) (by omega) (hF.less (fun _ h=> h) (fun k hk=> by rw [fTs,hk,Bool.true_or])) hC (by omega) a1;obtain ⟨l',U3,b1,b2,b3,b4⟩:=anewTs l v U2 (m + bcT a) lev hb (fun x hx=> hf x (by simp [hx])) (by omega) (hF.less f2 (fun k hk=> by rw [fTs,hk,Bool.or_true])) f3 (by omega) (fun n h=> hn n (by rw [fTs,h,Bool.or_true]));refine ⟨a'::l',U3,by rw [ju,a1];simp only [b1],fun t ht=> ?_,by rw [yj,yj,List.map_append,List.map_append,a3,b3],fun v2 hb2 hr=> ?_⟩
  ·rcases List.mem_cons.1 ht with rfl | ht
   ·exact a2
   ·exact b2 t ht
  ·rw [ju,a4 v2 hb2 (fun n h=> hr n (by rw [fTs,h,Bool.true_or]))]
   simp only;rw [b4 v2 hb2 (fun n h=> hr n (by rw [fTs,h,Bool.or_true]))]
theorem anewCs:∀(l:List zg) (v:Env) (U:Used) (m lev:Nat),v.base= .anew->(∀t∈l,NdP QC (.def_ t))->(qu lev l).length<=60->Fit TW v U (fCs l)->Cov U m->m + bcCs l<=4900->(∀n,fCs l (zb n)=true->qn (nm v n)=true)->
  (∀x∈zl (zm l) ++ zi l,qn (nm v x)=true)->(∀a∈zl (zm l),∀b∈zl (zm l),nm v a=nm v b->a=b)->
  ∃l' U',jx v U l=some (l',U')/\(∀t∈l',NdP QD (.def_ t))/\(qu lev l').map (·.2)=(qu lev l).map (·.2)/\
   (∀v2:Env,v2.base= .anew->(∀n,fCs l (zb n)=true->nm v2 (nm v n)=nm v n)->(∀x∈zl (zm l) ++ zi l,nm v2 (nm v x)=nm v x)->jx v2 U l'=some (l',U'))
 | [],v,U,m,lev,_,_,_,_,_,_,_,_,_=> ⟨[],U,rfl,fun t ht=> by simp at ht,rfl,fun _ _ _ _=> rfl⟩
 | a::l,v,U,m,lev,hb,hf,h60,hF,hC,hm,hn,hT,hJ=> by
  rw [qu,List.length_append] at h60;rw [bcCs] at hm;have hin1:∀x,x∈txC a->x∈zl (zm (a::l)):=fun x hx=> (mem_tx_cons a l x).2 (List.mem_append_left _ hx);have hin2:∀x,x∈zl (zm l)->x∈zl (zm (a::l)):=fun x hx=> (mem_tx_cons a l x).2 (List.mem_append_right _ hx);have hin3:∀x,x∈yc a->x∈zi (a::l):=fun x hx=> by rw [zi];exact List.mem_append_left _ hx
  have hin4:∀x,x∈zi l->x∈zi (a::l):=fun x hx=> by rw [zi];exact List.mem_append_right _ hx
  have hA:∀x,x∈txC a ++ yc a->x∈zl (zm (a::l)) ++ zi (a::l):=fun x hx=> by
   rcases List.mem_append.1 hx with hx | hx
   ·exact List.mem_append_left _ (hin1 x hx)
   ·exact List.mem_append_right _ (hin3 x hx)
  have hL:∀x,x∈zl (zm l) ++ zi l->x∈zl (zm (a::l)) ++ zi (a::l):=fun x hx=> by
   rcases List.mem_append.1 hx with hx | hx
   ·exact List.mem_append_left _ (hin2 x hx)
   ·exact List.mem_append_right _ (hin4 x hx)
  obtain ⟨a',U2,a1,a2,a3,a4⟩:=anewC a v U m lev hb (hf a (by simp)) (by omega) (hF.less (fun _ h=> h) (fun k hk=> by rw [fCs,hk,Bool.true_or])) hC (by omega) (fun n h=> hn n (by rw [fCs,h,Bool.true_or])) (fun x hx=> hT x (hA x hx)) (fun x hx y hy=> hJ x (hin1 x hx) y (hin1 y hy));obtain ⟨_,f2,f3⟩:=copyC_free a v U U2 a' m lev (.inl hb) (okC_fine (hf a (by simp))) (by omega) (hF.less (fun _ h=> h) (fun k hk=> by rw [fCs,hk,Bool.true_or])) hC (by omega) a1;obtain ⟨l',U3,b1,b2,b3,b4⟩:=anewCs l v U2 (m + bcC a) lev hb (fun x hx=> hf x (by simp [hx])) (by omega) (hF.less f2 (fun k hk=> by rw [fCs,hk,Bool.or_true])) f3 (by omega) (fun n h=> hn n (by rw [fCs,h,Bool.or_true])) (fun x hx=> hT x (hL x hx)) (fun x hx y hy=> hJ x (hin2 x hx) y (hin2 y hy));refine ⟨a'::l',U3,by rw [jx,a1];simp only [b1],fun t ht=> ?_,by rw [qu,qu,List.map_append,List.map_append,a3,b3],fun v2 hb2 hr hrT=> ?_⟩
  ·rcases List.mem_cons.1 ht with rfl | ht
   ·exact a2
   ·exact b2 t ht
  ·rw [jx,a4 v2 hb2 (fun n h=> hr n (by rw [fCs,h,Bool.true_or])) (fun x hx=> hrT x (hA x hx))]
   simp only;rw [b4 v2 hb2 (fun n h=> hr n (by rw [fCs,h,Bool.or_true])) (fun x hx=> hrT x (hL x hx))]
end
theorem stands_name {q:Part} (h:q.shaped=true) (hz:(yA q).size≠0):qn (yA q)=true:=by
 cases q with
 | proc t=>
  obtain ⟨o,t,a,d,k⟩:=t;simp only [Part.shaped,yg,Bool.or_eq_true,Bool.and_eq_true,beq_iff_eq,decide_eq_true_eq] at h;have hz:t.size≠0:=hz;show qn t=true;cases hn:qn t with
  | true=> rfl
  | false=> simp only [hn,Bool.false_eq_true,and_false,false_and,or_false,false_or] at h;omega
 | exp t=>
  obtain ⟨o,n,t,k⟩:=t;simp only [Part.shaped,j8,Bool.or_eq_true,Bool.and_eq_true,beq_iff_eq,decide_eq_true_eq] at h;have hz:t.size≠0:=hz;show qn t=true;cases hn:qn t with
  | true=> rfl
  | false=> simp only [hn,Bool.false_eq_true,and_false,false_and,or_false,false_or] at h;omega
 | def_ t=> exact absurd rfl hz
theorem free_full:∀(s:Nat) (p:Part) (k:List UInt8),qE s p k=true->∃q∈(zw 0 p).map (·.1),k=zb (yA q)/\(yA q).size≠0
 | 0,_,_,h=> by simp [qE] at h
 | s + 1,p,k,h=> by
  rw [qE,Bool.or_eq_true] at h;rw [zv,List.map_cons];rcases h with h | h
  ·rw [Bool.and_eq_true] at h
   obtain ⟨q,hq,hf⟩:=List.any_eq_true.1 h.1;obtain ⟨x,hx,h3⟩:=free_full s q k hf;refine ⟨x,List.mem_cons_of_mem _ ?_,h3⟩;rw [qJ 0 1] at hx;obtain ⟨z,hz,hzy⟩:=List.mem_map.1 hx;exact List.mem_map.2 ⟨z,jh hq hz,hzy⟩
  ·rw [Bool.and_eq_true] at h
   refine ⟨p,List.mem_cons_self ..,by simpa using h.2,fun h0=> ?_⟩;have h1:=h.1;rw [xd h0] at h1
   revert h1
   decide
theorem free_name {t:Term} (h:zT (.proc t)) (n:ByteArray) (hn:fT t (zb n)=true):qn n=true:=by
 have h1:qE 60 (.proc t) (zb n)=true:=by rw [freeN_fP 60 _ h.1];exact hn
 obtain ⟨q,hq,h2,h3⟩:=free_full 60 _ _ h1;have h4:=stands_name (xg h q hq) h3;have e:n=yA q:=by rw [<-zcL n,h2,zcL]
 rw [e];exact h4
theorem formed_QC {p:Part} (h:zT p):NdP QC p:=by
 intro q hq;rw [qJ 0 1] at hq;obtain ⟨y,hy,rfl⟩:=List.mem_map.1 hq;obtain ⟨h1,_,h3⟩:=h.2 y hy;refine ⟨⟨h1,?_⟩,h3⟩;obtain ⟨p,l⟩:=y;cases p with
 | exp e=> exact List.nodup_nil
 | def_ c=>
  obtain ⟨f,t,j,d,k⟩:=c;show (List.map zb (j.flatMap (·.names))).Nodup;cases hj:qH j with
  | true=> exact ((zaL j).1 hj).2.2.2.1.2
  | false=>
   simp only [Part.shaped,yB,hj,Bool.or_eq_true,Bool.and_eq_true,beq_iff_eq,decide_eq_true_eq,Bool.false_eq_true,and_false,false_and,or_false,false_or] at h1;rw [List.length_eq_zero_iff.1 h1.1.1.2];exact List.nodup_nil
 | proc t=>
  obtain ⟨o,t,a,d,k⟩:=t;show (List.map zb (if o=4 then qb d ++ zi d else [])).Nodup;by_cases ho:o=4
  ·rw [if_pos ho]
   obtain ⟨U,_,_,_,h5,h6⟩:=h3 ho;rw [List.map_append,List.nodup_append];refine ⟨chFold_nodup _ [] List.nodup_nil,h6,fun x hx y hy e=> ?_⟩;obtain ⟨a',ha,rfl⟩:=List.mem_map.1 hx;obtain ⟨b',hb,rfl⟩:=List.mem_map.1 hy;have h7:=h5 b' hb;rw [<-e] at h7;rcases zcM _ _ _ ha with h8 | h8
   ·cases h8
   ·have h9:zF ((zl (zm d)).map zb) (zb a')=true:=by unfold zF;exact List.any_eq_true.2 ⟨_,List.mem_map.2 ⟨a',h8,rfl⟩,by simp⟩
    rw [h9] at h7;cases h7
  ·rw [if_neg ho];exact List.nodup_nil
theorem formed_of_levels {p q:Part} (h:zT p) (hq:NdP QD q) (hl:(zw 1 q).map (·.2)=(zw 1 p).map (·.2)):zT q:=by
 refine ⟨?_,fun y hy=> ?_⟩
 ·have h1:(zw 1 q).length=(zw 1 p).length:=len_levels hl
  have:=h.1;rw [Part.size,yP 0 1] at this ⊢;omega
 ·have h1:y.2∈(zw 1 p).map (·.2):=by rw [<-hl];exact List.mem_map.2 ⟨y,hy,rfl⟩
  obtain ⟨z,hz,he⟩:=List.mem_map.1 h1;have h2:QD y.1:=hq y.1 (by rw [qJ 0 1];exact List.mem_map.2 ⟨y,hy,rfl⟩);exact ⟨h2.1,by rw [<-he];exact (h.2 z hz).2.1,h2.2⟩
def anew0:Env:=⟨.anew, [jp]⟩
theorem nm0 (n:ByteArray):nm anew0 n=n:=by unfold nm anew0;rfl
theorem fit0 {t:Term} (h:zT (.proc t)):Fit TW anew0 (qE 60 (.proc t)) (fT t):=by
 refine ⟨fun n k h1 h2=> ?_,fun hb=> absurd rfl hb⟩;have hz:=zcU (free_name h n h1);rw [anew_becomes rfl,nm0,fE_nameE] at h2;rw [freeN_fP 60 _ h.1];have e:=(isT_iff hz).1 h2;first | (rw [e];exact h1) | (rw [<-e];exact h1)
theorem cov0 {t:Term} (h:zT (.proc t)):Cov (qE 60 (.proc t)) 60:=⟨_,fun k hk=> zb9 _ _ _ hk,by rw [List.length_map];exact h.1⟩
theorem bc0 {t:Term} (h:zT (.proc t)):60 + bcT t<=4900:=by
 have:=zed t 0 (xg h);have h:(qL 0 t).length<=60:=h.1;omega
theorem canon_facts {t:Term} (h:zT (.proc t)):∃(c:Term) (U:Used),yl anew0 (qE 60 (.proc t)) t=some (c,U)/\yl anew0 (qE 60 (.proc c)) c=some (c,U)/\zT (.proc c)/\
  (∀k,fT c k=fT t k)/\(Part.proc c).size=(Part.proc t).size/\(Part.proc c).depth=(Part.proc t).depth:=by
 have h60:(qL 1 t).length<=60:=by have:=h.1;rw [Part.size,yP 0 1] at this;exact this
 have h600:(qL 0 t).length<=60:=h.1;obtain ⟨c,U,h1,h2,h3,h4⟩:=anewT t anew0 (qE 60 (.proc t)) 60 1 rfl (formed_QC h) h60 (fit0 h) (cov0 h) (bc0 h) (fun n hn=> by rw [nm0];exact free_name h n hn);have hfc:zT (.proc c):=formed_of_levels h h2 h3
 have hfr:∀k,fT c k=fT t k:=fun k=> by
  have hk:=(copyT_free t anew0 (qE 60 (.proc t)) U c 60 0 (.inl rfl) (okT_fine (formed_QC h)) h600 (fit0 h) (cov0 h) (bc0 h) h1).1 k;rw [Bool.eq_iff_iff,hk];constructor
  ·rintro ⟨n,h5,h6⟩
   have hz:=zcU (free_name h n h5);rw [anew_becomes rfl,nm0,fE_nameE] at h6;have e:=(isT_iff hz).1 h6;first | (rw [e];exact h5) | (rw [<-e];exact h5)
  ·intro h5
   obtain ⟨n,hn⟩:∃n:ByteArray,zb n=k:=⟨mkB k,yv k⟩;have hz:=zcU (free_name h n (by rw [hn];exact h5));refine ⟨n,by rw [hn];exact h5,?_⟩;rw [anew_becomes rfl,nm0,<-hn];exact nameE_free hz
 have hUe:qE 60 (.proc c)=qE 60 (.proc t):=funext fun k=> by
  rw [freeN_fP 60 _ hfc.1,freeN_fP 60 _ h.1];exact hfr k
 refine ⟨c,U,h1,?_,hfc,hfr,?_,?_⟩
 ·rw [hUe]
  exact h4 anew0 rfl (fun n _=> by rw [nm0,nm0])
 ·rw [Part.size,Part.size,yP 0 1,yP 0 1 (.proc t)]
  exact len_levels h3
 ·unfold Part.depth
  show maxL ((qL 1 c).map (·.2))=maxL ((qL 1 t).map (·.2));rw [h3]
end
end Go.Proofs.YtjmlaeofjjhfmaaGreat
