/- Lemmas. -/
import Derived.Test.YtjmlaeofjjhfmaaGreatS25
set_option linter.unusedVariables false
set_option linter.unusedSimpArgs false
set_option maxRecDepth 10000
set_option maxHeartbeats 16000000
namespace Go.Proofs.YtjmlaeofjjhfmaaGreat
section
open Go.RowKit Go.Shelf Go.Maps
theorem mem_chFold:∀(xs l:List ByteArray) (x:ByteArray),x∈qp l xs↔x∈l∨x∈xs
 | [],l,x=> by simp [qp]
 | y::ys,l,x=> by
  have e:qp l (y::ys)=qp (qU l y) ys:=rfl;rw [e,mem_chFold ys,List.mem_cons]
  have h:x∈qU l y↔x∈l∨x=y:=by
   unfold qU
   split
   ·rename_i hin
    unfold zF at hin;obtain ⟨z,hz,he⟩:=List.any_eq_true.1 hin;obtain ⟨z',hz',rfl⟩:=List.mem_map.1 hz;have:=zjS (by simpa using he:zb z'=zb y);subst this;constructor
    ·exact .inl
    ·rintro (h | rfl)
     ·exact h
     ·exact hz'
   ·simp
  rw [h,or_assoc]
def TI (v:Env) (A B:List ByteArray):Prop:=∀x,x∈B↔∃y∈A,yS v y=some x
theorem TI.nil (v:Env):TI v [] []:=fun x=> by simp
theorem TI.cons {v:Env} {a b:ByteArray} {A B:List ByteArray} (h:yS v a=some b) (hA:TI v A B):TI v (a::A) (b::B):=fun x=> by
 rw [List.mem_cons,hA x];constructor
 ·rintro (rfl | ⟨y,h1,h2⟩)
  ·exact ⟨a,by simp,h⟩
  ·exact ⟨y,by simp [h1],h2⟩
 ·rintro ⟨y,h1,h2⟩
  rcases List.mem_cons.1 h1 with rfl | h1
  ·rw [h] at h2;cases h2;exact .inl rfl
  ·exact .inr ⟨y,h1,h2⟩
theorem TI.append {v:Env} {A B C D:List ByteArray} (h:TI v A B) (h':TI v C D):TI v (A ++ C) (B ++ D):=fun x=> by
 rw [List.mem_append,h x,h' x];constructor
 ·rintro (⟨y,h1,h2⟩ | ⟨y,h1,h2⟩)
  ·exact ⟨y,by simp [h1],h2⟩
  ·exact ⟨y,by simp [h1],h2⟩
 ·rintro ⟨y,h1,h2⟩
  rcases List.mem_append.1 h1 with h1 | h1
  ·exact .inl ⟨y,h1,h2⟩
  ·exact .inr ⟨y,h1,h2⟩
theorem texts_ti (v:Env):∀l l',zbr v l=some l'->TI v l l'
 | [],l',h=> by rw [zbr] at h;cases h;exact TI.nil v
 | a::l,l',h=> by
  rw [zbr] at h;cases h1:yS v a with
  | none=> rw [h1] at h;cases h
  | some b=>
   rw [h1] at h;simp only at h;cases h2:zbr v l with
   | none=> rw [h2] at h;cases h
   | some bs=> rw [h2] at h;cases h;exact TI.cons h1 (texts_ti v l bs h2)
theorem msgs_ti (v i:Env):∀js js',zau v i js=some js'->TI i (js.flatMap (·.names)) (js'.flatMap (·.names))/\TI v (js.map (·.text)) (js'.map (·.text))
 | [],l',h=> by rw [zau] at h;cases h;exact ⟨TI.nil _,TI.nil _⟩
 | a::l,l',h=> by
  rw [zau] at h;cases h1:msgM v i a with
  | none=> rw [h1] at h;cases h
  | some b=>
   rw [h1] at h;simp only at h;cases h2:zau v i l with
   | none=> rw [h2] at h;cases h
   | some bs=>
    rw [h2] at h;cases h;obtain ⟨h3,h4⟩:=msgs_ti v i l bs h2;unfold msgM at h1;cases h5:yS v a.text with
    | none=> rw [h5] at h1;cases h1
    | some t=>
     rw [h5] at h1;simp only at h1;cases h6:zbr i a.names with
     | none=> rw [h6] at h1;cases h1
     | some ns=>
      rw [h6] at h1;cases h1;rw [List.flatMap_cons,List.flatMap_cons,List.map_cons,List.map_cons];exact ⟨(texts_ti i _ _ h6).append h3,TI.cons h5 h4⟩
def txC (c:zg):List ByteArray:=c.joins.map (·.text) ++ zl (yk c)
theorem ze2 (a b:List (List zg)):zl (a ++ b)=zl a ++ zl b:=by unfold zl;rw [List.flatMap_append]
theorem zel (d:List zg):zl (zm d)=zS d ++ zl (zO d):=by
 unfold zm zl;rw [List.flatMap_cons]
theorem mem_tx_cons (c:zg) (cs:List zg) (x:ByteArray):x∈zl (zm (c::cs))↔x∈txC c ++ zl (zm cs):=by
 rw [zel,zel,zO,ze2];have:zS (c::cs)=c.joins.map (·.text) ++ zS cs:=by unfold zS;rw [List.flatMap_cons]
 rw [this];unfold txC;simp only [List.mem_append];constructor
 ·rintro ((h | h) | (h | h))
  ·exact .inl (.inl h)
  ·exact .inr (.inl h)
  ·exact .inl (.inr h)
  ·exact .inr (.inr h)
 ·rintro ((h | h) | (h | h))
  ·exact .inl (.inl h)
  ·exact .inr (.inl h)
  ·exact .inl (.inr h)
  ·exact .inr (.inr h)
theorem TI.mem {v:Env} {A A' B B':List ByteArray} (h:TI v A B) (hA:∀x,x∈A'↔x∈A) (hB:∀x,x∈B'↔x∈B):TI v A' B':=fun x=> by
 rw [hB,h x];exact exists_congr fun y=> by rw [hA y]
theorem inside_nil {v:Env} {U:Used} {p:Part} (h:zR p= []):inside v U p=(v,U):=by unfold inside;rw [if_pos h]
theorem copyC_inv {v:Env} {U U':Used} {f:Int} {t:ByteArray} {j:List Msg} {d:List zg} {k:List Term} {c':zg} (h:xJ v U (.mk f t j d k)=some (c',U')):
  ∃t' j' d' U2 k',yS v t=some t'/\zau v (inside v U (.def_ (.mk f t j d k))).1 j=some j'/\jx (inside v U (.def_ (.mk f t j d k))).1 (inside v U (.def_ (.mk f t j d k))).2 d=some (d',U2)/\
   ju (inside v U (.def_ (.mk f t j d k))).1 U2 k=some (k',U')/\c'= .mk f t' j' d' k':=by
 rw [xJ] at h;cases h1:yS v t with
 | none=> rw [h1] at h;cases h
 | some t'=>
  rw [h1] at h;simp only at h;cases h2:zau v (inside v U (.def_ (.mk f t j d k))).1 j with
  | none=> rw [h2] at h;cases h
  | some j'=>
   rw [h2] at h;simp only at h;cases h3:jx (inside v U (.def_ (.mk f t j d k))).1 (inside v U (.def_ (.mk f t j d k))).2 d with
   | none=> rw [h3] at h;cases h
   | some x=>
    obtain ⟨d',U2⟩:=x;rw [h3] at h;simp only at h;cases h4:ju (inside v U (.def_ (.mk f t j d k))).1 U2 k with
    | none=> rw [h4] at h;cases h
    | some y=>
     obtain ⟨k',U3⟩:=y;rw [h4] at h;cases h;exact ⟨t',j',d',U2,k',rfl,rfl,rfl,h4,rfl⟩
theorem copyT_inv {v:Env} {U U':Used} {o:Int} {t:ByteArray} {a:List Exp} {d:List zg} {k:List Term} {c':Term} (h:yl v U (.mk o t a d k)=some (c',U')):
  ∃t' d' U2 k',yS v t=some t'/\jx (inside v U (.proc (.mk o t a d k))).1 (inside v U (.proc (.mk o t a d k))).2 d=some (d',U2)/\
   ju (inside v U (.proc (.mk o t a d k))).1 U2 k=some (k',U')/\c'= .mk o t' (jM (inside v U (.proc (.mk o t a d k))).1 a) d' k':=by
 rw [yl] at h;cases h1:yS v t with
 | none=> rw [h1] at h;cases h
 | some t'=>
  rw [h1] at h;simp only at h;cases h3:jx (inside v U (.proc (.mk o t a d k))).1 (inside v U (.proc (.mk o t a d k))).2 d with
  | none=> rw [h3] at h;cases h
  | some x=>
   obtain ⟨d',U2⟩:=x;rw [h3] at h;simp only at h;cases h4:ju (inside v U (.proc (.mk o t a d k))).1 U2 k with
   | none=> rw [h4] at h;cases h
   | some y=>
    obtain ⟨k',U3⟩:=y;rw [h4] at h;cases h;exact ⟨t',d',U2,k',rfl,rfl,h4,rfl⟩
theorem copyTs_inv {v:Env} {U U':Used} {t:Term} {l:List Term} {l':List Term} (h:ju v U (t::l)=some (l',U')):∃b U2 bs,yl v U t=some (b,U2)/\ju v U2 l=some (bs,U')/\l'=b::bs:=by
 rw [ju] at h;cases h1:yl v U t with
 | none=> rw [h1] at h;cases h
 | some x=>
  obtain ⟨b,U2⟩:=x;rw [h1] at h;simp only at h;cases h2:ju v U2 l with
  | none=> rw [h2] at h;cases h
  | some y=>
   obtain ⟨bs,U3⟩:=y;rw [h2] at h;cases h;exact ⟨b,U2,bs,rfl,h2,rfl⟩
theorem copyCs_inv {v:Env} {U U':Used} {t:zg} {l:List zg} {l':List zg} (h:jx v U (t::l)=some (l',U')):∃b U2 bs,xJ v U t=some (b,U2)/\jx v U2 l=some (bs,U')/\l'=b::bs:=by
 rw [jx] at h;cases h1:xJ v U t with
 | none=> rw [h1] at h;cases h
 | some x=>
  obtain ⟨b,U2⟩:=x;rw [h1] at h;simp only at h;cases h2:jx v U2 l with
  | none=> rw [h2] at h;cases h
  | some y=>
   obtain ⟨bs,U3⟩:=y;rw [h2] at h;cases h;exact ⟨b,U2,bs,rfl,h2,rfl⟩
mutual
theorem copyC_tx {W:List UInt8->Prop}:∀(c:zg) (v:Env) (U U':Used) (c':zg),okC W c->xJ v U c=some (c',U')->TI v (txC c) (txC c')/\TI v (yc c) (yc c')
 | .mk f t j d k,v,U,U',c',hok,h=> by
  unfold okC at hok;obtain ⟨h1,h2,h3,h4,h5⟩:=hok;obtain ⟨t',j',d',U2,k',e1,e2,e3,e4,rfl⟩:=copyC_inv h;have hj:=(msgs_ti _ _ _ _ e2).2;by_cases hf:f=2
  ·obtain rfl:=h1 hf
   rw [inside_nil (p:= .def_ (.mk f t [] d k)) rfl] at e2 e3;rw [zau] at e2;cases e2;obtain ⟨h6,h7⟩:=copyCs_tx d v U U2 d' h4 e3;have hg:∀t d k,txC (.mk f t [] d k)=zl (zm d):=fun t d k=> by unfold txC yk;rw [if_pos hf];rfl
   have hp:∀t d k,yc (.mk f t [] d k)=t::zi d:=fun t d k=> by unfold yc;rw [if_pos hf]
   rw [hg,hg,hp,hp];exact ⟨h6,TI.cons e1 h7⟩
  ·have hg:∀t j d k,txC (.mk f t j d k)=j.map (·.text):=fun t j d k=> by unfold txC yk;rw [if_neg hf];simp [zl,zg.joins]
   have hp:∀t j d k,yc (.mk f t j d k)= []:=fun t j d k=> by unfold yc;rw [if_neg hf]
   rw [hg,hg,hp,hp];exact ⟨hj,TI.nil v⟩
theorem copyCs_tx {W:List UInt8->Prop}:∀(d:List zg) (v:Env) (U U':Used) (d':List zg),okCs W d->jx v U d=some (d',U')->TI v (zl (zm d)) (zl (zm d'))/\TI v (zi d) (zi d')
 | [],v,U,U',d',_,h=> by
  rw [jx] at h;cases h;exact ⟨TI.nil v,TI.nil v⟩
 | c::cs,v,U,U',d',hok,h=> by
  unfold okCs at hok;obtain ⟨b,U2,bs,e1,e2,rfl⟩:=copyCs_inv h;obtain ⟨h1,h2⟩:=copyC_tx c v U U2 b hok.1 e1;obtain ⟨h3,h4⟩:=copyCs_tx cs v U2 U' bs hok.2 e2;refine ⟨(h1.append h3).mem (mem_tx_cons _ _) (mem_tx_cons _ _),?_⟩;rw [zi,zi];exact h2.append h4
end
theorem text_look {v:Env} {n c x:ByteArray} (hn:n.size≠0) (hl:zaF n v.frames=some c):yS v n=some x↔x=c:=by
 unfold yS;rw [if_neg hn,becomes_look,hl];simp [yq,eq_comm]
theorem bound_copy {W:List UInt8->Prop} {v:Env} {U:Used} {p p':Part} {i:Env×Used} {m:Nat} (h:InOk W v U p i m) (hB:okB W p) (ht:TI i.1 (zR p) (zR p')) (k:List UInt8):
  bndP p' k=true↔∃b c,bndP p (zb b)=true/\zaF b i.1.frames=some c/\k=zb c:=by
 rw [bndP_iff];constructor
 ·rintro ⟨x,hx,rfl⟩
  obtain ⟨y,hy,he⟩:=(ht x).1 hx;have hy':=(bndP_iff p _).2 ⟨y,hy,rfl⟩;obtain ⟨c,h1,_⟩:=h.new y hy';rw [text_look (hB y hy).1 h1] at he;exact ⟨y,c,hy',h1,by rw [he]⟩
 ·rintro ⟨b,c,h1,h2,rfl⟩
  obtain ⟨y,hy,he⟩:=(bndP_iff p _).1 h1;obtain rfl:=zjS he;exact ⟨c,(ht c).2 ⟨b,hy,(text_look (hB b hy).1 h2).2 rfl⟩,rfl⟩
theorem combine {W:List UInt8->Prop} {v:Env} {U:Used} {p:Part} {i:Env×Used} {m:Nat} (h:InOk W v U p i m) (inner inner' bd' st st':List UInt8->Bool)
  (hin:∀k,inner' k=true↔Im i.1 inner k) (hbd:∀k,bd' k=true↔∃b c,bndP p (zb b)=true/\zaF b i.1.frames=some c/\k=zb c)
  (hst:∀k,st' k=true↔Im v st k) (hp:∀k,inner k=true->bndP p k=false->fP p k=true) (k:List UInt8):
  ((inner' k && !bd' k) || st' k)=true↔Im v (fun k=> (inner k && !bndP p k) || st k) k:=by
 rw [Bool.or_eq_true,Bool.and_eq_true,hst k,hin k];constructor
 ·rintro (⟨⟨n,h1,h2⟩,h3⟩ | ⟨n,h1,h2⟩)
  ·cases hn:bndP p (zb n) with
   | false=>
    rw [h.becomes_old n hn] at h2;exact ⟨n,by simp [h1,hn],h2⟩
   | true=>
    obtain ⟨c,h4,h5,_⟩:=h.new n hn;rw [becomes_look,h4,fE_nameE] at h2;have:bd' k=true:=(hbd k).2 ⟨n,c,hn,h4,(isT_iff h5).1 h2⟩;rw [this] at h3;cases h3
  ·exact ⟨n,by simp [h1],h2⟩
 ·rintro ⟨n,h1,h2⟩
  rw [Bool.or_eq_true,Bool.and_eq_true] at h1;rcases h1 with ⟨h1,h3⟩ | h1
  ·have hn:bndP p (zb n)=false:=by simpa using h3
   refine .inl ⟨⟨n,h1,by rw [h.becomes_old n hn];exact h2⟩,?_⟩;cases hb:bd' k with
   | false=> rfl
   | true=>
    obtain ⟨b,c,h4,h5,h6⟩:=(hbd k).1 hb;exact absurd h6 (h.apart n b c k (hp _ h1 hn) hn h4 h5 h2)
  ·exact .inr ⟨n,h1,h2⟩
theorem Im.or {v:Env} {A B:List UInt8->Bool} {k:List UInt8}:Im v (fun k=> A k || B k) k↔Im v A k∨Im v B k:=by
 unfold Im;constructor
 ·rintro ⟨n,h1,h2⟩
  rw [Bool.or_eq_true] at h1;exact h1.elim (fun h=> .inl ⟨n,h,h2⟩) (fun h=> .inr ⟨n,h,h2⟩)
 ·rintro (⟨n,h1,h2⟩ | ⟨n,h1,h2⟩)
  ·exact ⟨n,by simp [h1],h2⟩
  ·exact ⟨n,by simp [h1],h2⟩
mutual
theorem copyT_free {W:List UInt8->Prop}:∀(t:Term) (v:Env) (U U':Used) (t':Term) (m lev:Nat),BaseOk v.base->okT W t->(qL lev t).length<=60->Fit W v U (fT t)->Cov U m->m + bcT t<=4900->yl v U t=some (t',U')->
  (∀k,fT t' k=true↔Im v (fT t) k)/\(∀k,U k=true->U' k=true)/\Cov U' (m + bcT t)
 | .mk o t a d ks,v,U,U',t',m,lev,hb,hok,h60,hF,hC,hm,h=> by
  obtain ⟨p,hp⟩:∃p,p=Part.proc (.mk o t a d ks):=⟨_,rfl⟩;unfold okT at hok;obtain ⟨h1,h2,h3,h4⟩:=hok;have hz:p.size<=60:=by rw [hp,Part.size,yP 0 lev];exact h60
  rw [qL] at h60;simp only [List.length_cons,List.length_append] at h60;rw [bcT] at hm ⊢;obtain ⟨x',d',U2,k',e1,e3,e4,rfl⟩:=copyT_inv h;rw [<-hp] at h2 hm e3 e4 ⊢;have hI:=inside_ok hb h2 (p:=p) (by rw [hp];exact hF) hz hC (by omega);obtain ⟨i,hi⟩:∃i,i=inside v U p:=⟨_,rfl⟩;rw [<-hi] at hI e3 e4 ⊢;have hb':BaseOk i.1.base:=by rw [hI.base];exact hb
  have hfp:∀k,fP p k=(((fEs a k || fCs d k || fTs ks k) && !bndP p k) || isT t k):=fun k=> by rw [hp];show fT _ k=_;rw [fT]
  have hfit:=hI.fits (fun k=> fEs a k || fCs d k || fTs ks k) (fun k hk=> by
   cases hbk:bndP p k with
   | true=> exact .inl rfl
   | false=> exact .inr (by rw [hfp,hbk];simp only [Bool.not_false,Bool.and_true];rw [hk];rfl))
  obtain ⟨c1,c2,c3⟩:=copyCs_free d i.1 i.2 U2 d' (m + (zR p).length) (lev + 1) hb' h3 (by omega) (hfit.less (fun _ h=> h) (fun k hk=> by simp [hk])) hI.cov (by omega) e3;obtain ⟨t1,t2,t3⟩:=copyTs_free ks i.1 U2 U' k' (m + (zR p).length + bcCs d) (lev + 1) hb' h4 (by omega) (hfit.less c2 (fun k hk=> by simp [hk])) c3 (by omega) e4;refine ⟨fun k=> ?_,fun k hk=> t2 k (c2 k (hI.more k hk)),by rw [show m + ((zR p).length + bcCs d + bcTs ks)=m + (zR p).length + bcCs d + bcTs ks from by omega];exact t3⟩
  have hbt:TI i.1 (zR p) (zR (.proc (.mk o x' (jM i.1 a) d' k'))):=by
   rw [hp];have eb:∀t a d k,zR (.proc (.mk o t a d k))=if o=4 then qb d ++ zi d else []:=fun _ _ _ _=> rfl
   rw [eb,eb];by_cases ho:o=4
   ·rw [if_pos ho,if_pos ho]
    obtain ⟨g1,g2⟩:=copyCs_tx d i.1 i.2 U2 d' h3 e3;refine TI.append (g1.mem (fun x=> ?_) (fun x=> ?_)) g2
    ·unfold qb;rw [mem_chFold];simp
    ·unfold qb;rw [mem_chFold];simp
   ·rw [if_neg ho,if_neg ho];exact TI.nil _
  have hcomb:=combine hI (fun k=> fEs a k || fCs d k || fTs ks k) (fun k=> fEs (jM i.1 a) k || fCs d' k || fTs k' k) (bndP (.proc (.mk o x' (jM i.1 a) d' k'))) (isT t) (isT x')
   (fun k=> by
    rw [Im.or (A:=fun k=> fEs a k || fCs d k),Im.or,Bool.or_eq_true,Bool.or_eq_true,copyEs_free i.1 a h1 k,c1 k,t1 k])
   (bound_copy hI h2 hbt) (text_free hb e1)
   (fun k hk hbk=> by rw [hfp,hbk];simp only [Bool.not_false,Bool.and_true];rw [hk];rfl) k
  rw [fT];refine hcomb.trans ?_;unfold Im;refine exists_congr fun n=> ?_;rw [show fT (.mk o t a d ks) (zb n)=fP p (zb n) from by rw [hp];rfl,hfp]
theorem copyC_free {W:List UInt8->Prop}:∀(t:zg) (v:Env) (U U':Used) (t':zg) (m lev:Nat),BaseOk v.base->okC W t->(qF lev t).length<=60->Fit W v U (fC t)->Cov U m->m + bcC t<=4900->xJ v U t=some (t',U')->
  (∀k,fC t' k=true↔Im v (fC t) k)/\(∀k,U k=true->U' k=true)/\Cov U' (m + bcC t)
 | .mk f t j d ks,v,U,U',t',m,lev,hb,hok,h60,hF,hC,hm,h=> by
  obtain ⟨p,hp⟩:∃p,p=Part.def_ (.mk f t j d ks):=⟨_,rfl⟩;unfold okC at hok;obtain ⟨_,_,h2,h3,h4⟩:=hok;have hz:p.size<=60:=by rw [hp,Part.size,yP 0 lev];exact h60
  rw [qF] at h60;simp only [List.length_cons,List.length_append] at h60;rw [bcC] at hm ⊢;obtain ⟨x',j',d',U2,k',e1,e2,e3,e4,rfl⟩:=copyC_inv h;rw [<-hp] at h2 hm e2 e3 e4 ⊢;have hI:=inside_ok hb h2 (p:=p) (by rw [hp];exact hF) hz hC (by omega);obtain ⟨i,hi⟩:∃i,i=inside v U p:=⟨_,rfl⟩;rw [<-hi] at hI e2 e3 e4;have hb':BaseOk i.1.base:=by rw [hI.base];exact hb
  have hfp:∀k,fP p k=(((fCs d k || fTs ks k) && !bndP p k) || false):=fun k=> by rw [hp,Bool.or_false];show fC _ k=_;rw [fC]
  have hfit:=hI.fits (fun k=> fCs d k || fTs ks k) (fun k hk=> by
   cases hbk:bndP p k with
   | true=> exact .inl rfl
   | false=> exact .inr (by rw [hfp,hbk];simp only [Bool.not_false,Bool.and_true];rw [hk];rfl))
  obtain ⟨c1,c2,c3⟩:=copyCs_free d i.1 i.2 U2 d' (m + (zR p).length) (lev + 1) hb' h3 (by omega) (hfit.less (fun _ h=> h) (fun k hk=> by simp [hk])) hI.cov (by omega) e3;obtain ⟨t1,t2,t3⟩:=copyTs_free ks i.1 U2 U' k' (m + (zR p).length + bcCs d) (lev + 1) hb' h4 (by omega) (hfit.less c2 (fun k hk=> by simp [hk])) c3 (by omega) e4;refine ⟨fun k=> ?_,fun k hk=> t2 k (c2 k (hI.more k hk)),by rw [show m + ((zR p).length + bcCs d + bcTs ks)=m + (zR p).length + bcCs d + bcTs ks from by omega];exact t3⟩
  have hbt:TI i.1 (zR p) (zR (.def_ (.mk f x' j' d' k'))):=by
   rw [hp];exact (msgs_ti _ _ _ _ e2).1
  have hcomb:=combine hI (fun k=> fCs d k || fTs ks k) (fun k=> fCs d' k || fTs k' k) (bndP (.def_ (.mk f x' j' d' k'))) (fun _=> false) (fun _=> false)
   (fun k=> by rw [Im.or,Bool.or_eq_true,c1 k,t1 k])
   (bound_copy hI h2 hbt) (fun k=> ⟨fun h=> (by cases h),fun ⟨n,h,_⟩=> (by cases h)⟩)
   (fun k hk hbk=> by rw [hfp,hbk];simp only [Bool.not_false,Bool.and_true];rw [hk];rfl) k
  rw [Bool.or_false] at hcomb;rw [fC];refine hcomb.trans ?_;unfold Im;refine exists_congr fun n=> ?_;rw [show fC (.mk f t j d ks) (zb n)=fP p (zb n) from by rw [hp];rfl,hfp]
theorem copyTs_free {W:List UInt8->Prop}:∀(t:List Term) (v:Env) (U U':Used) (t':List Term) (m lev:Nat),BaseOk v.base->okTs W t->(yj lev t).length<=60->Fit W v U (fTs t)->Cov U m->m + bcTs t<=4900->ju v U t=some (t',U')->
  (∀k,fTs t' k=true↔Im v (fTs t) k)/\(∀k,U k=true->U' k=true)/\Cov U' (m + bcTs t)
 | [],v,U,U',t',m,lev,hb,hok,h60,hF,hC,hm,h=> by
  rw [ju] at h;cases h;exact ⟨fun k=> ⟨fun h=> by simp [fTs] at h,fun ⟨n,h,_⟩=> by simp [fTs] at h⟩,fun _ h=> h,hC⟩
 | c::cs,v,U,U',t',m,lev,hb,hok,h60,hF,hC,hm,h=> by
  unfold okTs at hok;rw [yj,List.length_append] at h60;rw [bcTs] at hm ⊢;obtain ⟨b,U2,bs,e1,e2,rfl⟩:=copyTs_inv h;obtain ⟨a1,a2,a3⟩:=copyT_free c v U U2 b m lev hb hok.1 (by omega) (hF.less (fun _ h=> h) (fun k hk=> by rw [fTs,hk,Bool.true_or])) hC (by omega) e1;obtain ⟨b1,b2,b3⟩:=copyTs_free cs v U2 U' bs (m + bcT c) lev hb hok.2 (by omega) (hF.less a2 (fun k hk=> by rw [fTs,hk,Bool.or_true])) a3 (by omega) e2;refine ⟨fun k=> ?_,fun k hk=> b2 k (a2 k hk),by rw [<-Nat.add_assoc];exact b3⟩;rw [fTs,Bool.or_eq_true,a1 k,b1 k,<-Im.or];unfold Im;refine exists_congr fun n=> ?_;rw [fTs]
theorem copyCs_free {W:List UInt8->Prop}:∀(t:List zg) (v:Env) (U U':Used) (t':List zg) (m lev:Nat),BaseOk v.base->okCs W t->(qu lev t).length<=60->Fit W v U (fCs t)->Cov U m->m + bcCs t<=4900->jx v U t=some (t',U')->
  (∀k,fCs t' k=true↔Im v (fCs t) k)/\(∀k,U k=true->U' k=true)/\Cov U' (m + bcCs t)
 | [],v,U,U',t',m,lev,hb,hok,h60,hF,hC,hm,h=> by
  rw [jx] at h;cases h;exact ⟨fun k=> ⟨fun h=> by simp [fCs] at h,fun ⟨n,h,_⟩=> by simp [fCs] at h⟩,fun _ h=> h,hC⟩
 | c::cs,v,U,U',t',m,lev,hb,hok,h60,hF,hC,hm,h=> by
  unfold okCs at hok;rw [qu,List.length_append] at h60;rw [bcCs] at hm ⊢;obtain ⟨b,U2,bs,e1,e2,rfl⟩:=copyCs_inv h;obtain ⟨a1,a2,a3⟩:=copyC_free c v U U2 b m lev hb hok.1 (by omega) (hF.less (fun _ h=> h) (fun k hk=> by rw [fCs,hk,Bool.true_or])) hC (by omega) e1;obtain ⟨b1,b2,b3⟩:=copyCs_free cs v U2 U' bs (m + bcC c) lev hb hok.2 (by omega) (hF.less a2 (fun k hk=> by rw [fCs,hk,Bool.or_true])) a3 (by omega) e2;refine ⟨fun k=> ?_,fun k hk=> b2 k (a2 k hk),by rw [<-Nat.add_assoc];exact b3⟩;rw [fCs,Bool.or_eq_true,a1 k,b1 k,<-Im.or];unfold Im;refine exists_congr fun n=> ?_;rw [fCs]
end
theorem zcU {s:ByteArray} (h:qn s=true):s.size≠0:=by
 unfold qn yJ at h;intro h0;rw [xd h0] at h
 revert h
 decide
def NdP (P:Part->Prop) (p:Part):Prop:=∀q∈(zw 0 p).map (·.1),P q
theorem NdP.part {P:Part->Prop} {p q:Part} (h:NdP P p) (hq:q∈p.parts):NdP P q:=by
 intro x hx;rw [qJ 0 1] at hx;refine h x ?_;rw [zv];obtain ⟨y,hy,rfl⟩:=List.mem_map.1 hx;exact List.mem_map.2 ⟨y,List.mem_cons_of_mem _ (jh hq hy),rfl⟩
theorem NdP.self {P:Part->Prop} {p:Part} (h:NdP P p):P p:=h p (by rw [zv];simp)
theorem za3 {op n:Int} {t:ByteArray} {kids:List Exp} (h:(Part.exp (.mk op n t kids)).shaped=true):(op=2->n=0/\kids= []/\t.size≠0)/\(op≠2->t.size=0):=by
 simp only [Part.shaped,j8,Bool.or_eq_true,Bool.and_eq_true,beq_iff_eq,decide_eq_true_eq,List.length_eq_zero_iff] at h;rcases h with (⟨⟨⟨⟨h1,_⟩,_⟩,h2⟩,_⟩ | ⟨⟨⟨h1,h2⟩,h3⟩,h4⟩) | ⟨⟨⟨⟨h1,h2⟩,_⟩,h3⟩,_⟩
 ·exact ⟨fun h=> by omega,fun _=> h2⟩
 ·exact ⟨fun _=> ⟨h2,h4,zcU h3⟩,fun h=> absurd h1 h⟩
 ·exact ⟨fun h=> by omega,fun _=> h3⟩
theorem shapedT_cases {op:Int} {t:ByteArray} {a:List Exp} {d:List zg} {k:List Term} (h:(Part.proc (.mk op t a d k)).shaped=true):op=4∨d= []:=by
 simp only [Part.shaped,yg,Bool.or_eq_true,Bool.and_eq_true,beq_iff_eq,decide_eq_true_eq,List.length_eq_zero_iff] at h;rcases h with ((((h | h) | h) | h) | h) | h
 ·exact .inr h.1.2
 ·exact .inr h.1.2
 ·exact .inr h.1.2
 ·exact .inl h.1.1.1.1.1
 ·exact .inr h.1.2
 ·exact .inr h.1.2
theorem zeR {ss:List ByteArray} (h:jF ss=true):∀x∈ss,x.size≠0:=by
 intro x hx;unfold jF at h;rw [Bool.and_eq_true,List.all_eq_true] at h;exact zcU (h.1 x hx)
theorem zfW:∀js:List Msg,(∀j∈js,j.names.length<=3)->(js.flatMap (·.names)).length<=3 * js.length
 | [],_=> by simp
 | j::js,h=> by
  have h1:=h j (by simp);have h2:=zfW js (fun x hx=> h x (by simp [hx]));rw [List.flatMap_cons,List.length_append,List.length_cons];omega
theorem zgp {f:Int} {t:ByteArray} {j:List Msg} {d:List zg} {k:List Term} (h:(Part.def_ (.mk f t j d k)).shaped=true):
  (f=2->j= []/\t.size≠0)/\(f≠2->d= [])/\(∀x∈j.flatMap (·.names),x.size≠0)/\(∀x∈j.map (·.text),x.size≠0)/\j.length<=3/\(j.flatMap (·.names)).length<=9:=by
 simp only [Part.shaped,yB,Bool.or_eq_true,Bool.and_eq_true,beq_iff_eq,decide_eq_true_eq,List.length_eq_zero_iff] at h;rcases h with ⟨⟨⟨⟨h1,_⟩,h2⟩,h3⟩,_⟩ | ⟨⟨⟨⟨h1,h2⟩,h3⟩,_⟩,_⟩
 ·unfold qH at h2
  simp only [Bool.and_eq_true,decide_eq_true_eq,List.all_eq_true] at h2;obtain ⟨⟨⟨⟨_,h4⟩,h5⟩,h6⟩,h7⟩:=h2;have:=zfW j h5;exact ⟨fun h=> by omega,fun _=> h3,zeR h7,zeR h6,h4,by omega⟩
 ·subst h3
  exact ⟨fun _=> ⟨rfl,zcU h2⟩,fun h=> absurd h1 h,by simp,by simp,by simp,by simp⟩
theorem zda {o:Int} {t:ByteArray} {a:List Exp} {d:List zg} {k:List Term} {e:Exp} (h:e∈a):Part.exp e∈(Part.proc (.mk o t a d k)).parts:=by
 rw [Part.parts];exact List.mem_append_left _ (List.mem_append_left _ (List.mem_map.2 ⟨e,h,rfl⟩))
theorem yu {o:Int} {t:ByteArray} {a:List Exp} {d:List zg} {k:List Term} {e:zg} (h:e∈d):Part.def_ e∈(Part.proc (.mk o t a d k)).parts:=by
 rw [Part.parts];exact List.mem_append_left _ (List.mem_append_right _ (List.mem_map.2 ⟨e,h,rfl⟩))
theorem qV {o:Int} {t:ByteArray} {a:List Exp} {d:List zg} {k:List Term} {e:Term} (h:e∈k):Part.proc e∈(Part.proc (.mk o t a d k)).parts:=by
 rw [Part.parts];exact List.mem_append_right _ (List.mem_map.2 ⟨e,h,rfl⟩)
theorem ji {f:Int} {t:ByteArray} {j:List Msg} {d:List zg} {k:List Term} {e:zg} (h:e∈d):Part.def_ e∈(Part.def_ (.mk f t j d k)).parts:=by
 rw [Part.parts];exact List.mem_append_left _ (List.mem_map.2 ⟨e,h,rfl⟩)
theorem jl {f:Int} {t:ByteArray} {j:List Msg} {d:List zg} {k:List Term} {e:Term} (h:e∈k):Part.proc e∈(Part.def_ (.mk f t j d k)).parts:=by
 rw [Part.parts];exact List.mem_append_right _ (List.mem_map.2 ⟨e,h,rfl⟩)
theorem ziO {o n:Int} {t:ByteArray} {k:List Exp} {e:Exp} (h:e∈k):Part.exp e∈(Part.exp (.mk o n t k)).parts:=by
 rw [Part.parts];exact List.mem_map.2 ⟨e,h,rfl⟩
mutual
theorem txC_pos:∀c:zg,NdP (fun q=> q.shaped=true) (.def_ c)->(∀x∈txC c,x.size≠0)/\(∀x∈yc c,x.size≠0)
 | .mk f t j d k,h=> by
  obtain ⟨h1,h2,h3,h4,_⟩:=zgp h.self;obtain ⟨g1,g2⟩:=txL_pos d (fun c hc=> h.part (ji hc));unfold txC yk yc;by_cases hf:f=2
  ·rw [if_pos hf,if_pos hf]
   obtain ⟨rfl,ht⟩:=h1 hf;refine ⟨fun x hx=> g1 x (by simpa [zm,zg.joins] using hx),fun x hx=> ?_⟩;rcases List.mem_cons.1 hx with rfl | hx
   ·exact ht
   ·exact g2 x hx
  ·rw [if_neg hf,if_neg hf]
   exact ⟨fun x hx=> h4 x (by simpa [zl,zg.joins] using hx),fun x hx=> by simp at hx⟩
theorem txL_pos:∀d:List zg,(∀c∈d,NdP (fun q=> q.shaped=true) (.def_ c))->(∀x∈zl (zm d),x.size≠0)/\(∀x∈zi d,x.size≠0)
 | [],_=> ⟨fun x hx=> by simp [zm,zO,zl,zS] at hx,fun x hx=> by simp [zi] at hx⟩
 | c::cs,h=> by
  obtain ⟨h1,h2⟩:=txC_pos c (h c (by simp));obtain ⟨h3,h4⟩:=txL_pos cs (fun x hx=> h x (by simp [hx]));refine ⟨fun x hx=> ?_,fun x hx=> ?_⟩
  ·rcases List.mem_append.1 ((mem_tx_cons c cs x).1 hx) with hx | hx
   ·exact h1 x hx
   ·exact h3 x hx
  ·rw [zi] at hx
   rcases List.mem_append.1 hx with hx | hx
   ·exact h2 x hx
   ·exact h4 x hx
end
theorem NdP.mono {P Q:Part->Prop} {p:Part} (h:NdP P p) (hQ:∀q,P q->Q q):NdP Q p:=fun q hq=> hQ q (h q hq)
def OkN (W:List UInt8->Prop) (q:Part):Prop:=q.shaped=true/\∀b∈zR q,W (zb b)
theorem okB_of {W:List UInt8->Prop} {p:Part} (h:NdP (OkN W) p):okB W p:=by
 intro b hb;refine ⟨?_,h.self.2 b hb⟩;cases p with
 | exp e=> simp [zR] at hb
 | proc t=>
  obtain ⟨o,t,a,d,k⟩:=t;have e:zR (.proc (.mk o t a d k))=if o=4 then qb d ++ zi d else []:=rfl
  rw [e] at hb
  split at hb
  ·obtain ⟨h1,h2⟩:=txL_pos d (fun c hc=> (h.part (yu hc)).mono (fun q hq=> hq.1))
   rcases List.mem_append.1 hb with hb | hb
   ·unfold qb at hb
    rw [mem_chFold] at hb;rcases hb with hb | hb
    ·simp at hb
    ·exact h1 b hb
   ·exact h2 b hb
  ·simp at hb
 | def_ c=>
  obtain ⟨f,t,j,d,k⟩:=c;exact (zgp h.self.1).2.2.1 b hb
mutual
theorem zni:∀e:Exp,NdP (fun q=> q.shaped=true) (.exp e)->okE e/\xr e=true
 | .mk op n t kids,h=> by
  obtain ⟨h1,h2⟩:=za3 h.self;obtain ⟨h3,h4⟩:=zfj kids (fun e he=> h.part (ziO he));unfold okE xr;refine ⟨⟨fun ho=> (h1 ho).2,h2,h3⟩,?_⟩;rw [h4,Bool.and_true];by_cases ho:op=2
  ·obtain ⟨a,b,_⟩:=h1 ho
   rw [a,b];simp
  ·simp [ho]
theorem zfj:∀es:List Exp,(∀e∈es,NdP (fun q=> q.shaped=true) (.exp e))->okEs es/\xK es=true
 | [],_=> by unfold okEs xK;exact ⟨trivial,rfl⟩
 | e::es,h=> by
  obtain ⟨h1,h2⟩:=zni e (h e (by simp));obtain ⟨h3,h4⟩:=zfj es (fun x hx=> h x (by simp [hx]));unfold okEs xK;exact ⟨⟨h1,h3⟩,by rw [h2,h4];rfl⟩
end
mutual
theorem okC_of {W:List UInt8->Prop}:∀c:zg,NdP (OkN W) (.def_ c)->okC W c
 | .mk f t j d k,h=> by
  obtain ⟨h1,h2,_⟩:=zgp h.self.1;unfold okC;exact ⟨fun hf=> (h1 hf).1,h2,okB_of h,okCs_of d (fun c hc=> h.part (ji hc)),okTs_of k (fun c hc=> h.part (jl hc))⟩
theorem okCs_of {W:List UInt8->Prop}:∀d:List zg,(∀c∈d,NdP (OkN W) (.def_ c))->okCs W d
 | [],_=> by unfold okCs;trivial
 | c::cs,h=> by unfold okCs;exact ⟨okC_of c (h c (by simp)),okCs_of cs (fun x hx=> h x (by simp [hx]))⟩
theorem okT_of {W:List UInt8->Prop}:∀t:Term,NdP (OkN W) (.proc t)->okT W t
 | .mk o t a d k,h=> by
  unfold okT;exact ⟨(zfj a (fun c hc=> (h.part (zda hc)).mono (fun q hq=> hq.1))).1,okB_of h,okCs_of d (fun c hc=> h.part (yu hc)),okTs_of k (fun c hc=> h.part (qV hc))⟩
theorem okTs_of {W:List UInt8->Prop}:∀d:List Term,(∀c∈d,NdP (OkN W) (.proc c))->okTs W d
 | [],_=> by unfold okTs;trivial
 | c::cs,h=> by unfold okTs;exact ⟨okT_of c (h c (by simp)),okTs_of cs (fun x hx=> h x (by simp [hx]))⟩
end
theorem zhV (c:zg) (cs:List zg):(zl (zm (c::cs))).length=(txC c).length + (zl (zm cs)).length:=by
 rw [zel,zel,zO,ze2];have:zS (c::cs)=c.joins.map (·.text) ++ zS cs:=by unfold zS;rw [List.flatMap_cons]
 rw [this];unfold txC;simp only [List.length_append];omega
mutual
theorem znh:∀(c:zg) (lev:Nat),NdP (fun q=> q.shaped=true) (.def_ c)->bcC c + (txC c).length + (yc c).length<=13 * (qF lev c).length
 | .mk f t j d k,lev,h=> by
  obtain ⟨h1,h2,_,_,h3,h4⟩:=zgp h.self;have hd:=zdo d (lev + 1) (fun c hc=> h.part (ji hc));have hk:=zff k (lev + 1) (fun c hc=> h.part (jl hc));rw [bcC,qF,List.length_cons,List.length_append];have hb:zR (.def_ (.mk f t j d k))=j.flatMap (·.names):=rfl;rw [hb];unfold txC yk yc;by_cases hf:f=2
  ·rw [if_pos hf,if_pos hf]
   obtain ⟨rfl,_⟩:=h1 hf;have e:([]:List Msg).flatMap (·.names)= []:=rfl;have e2:(zg.mk f t [] d k).joins= []:=rfl;rw [e,e2,List.length_cons];have e3:zl (d::zO d)=zl (zm d):=rfl;rw [e3];simp only [List.map_nil,List.nil_append,List.length_nil];omega
  ·rw [if_neg hf,if_neg hf]
   obtain rfl:=h2 hf;have e2:(zg.mk f t j [] k).joins=j:=rfl;rw [e2];simp only [zl,List.flatMap_nil,List.append_nil,List.length_map,List.length_nil,bcCs,qu];omega
theorem zdo:∀(d:List zg) (lev:Nat),(∀c∈d,NdP (fun q=> q.shaped=true) (.def_ c))->bcCs d + (zl (zm d)).length + (zi d).length<=13 * (qu lev d).length
 | [],lev,_=> by simp [bcCs,qu,zm,zO,zl,zS,zi]
 | c::cs,lev,h=> by
  have h1:=znh c lev (h c (by simp));have h2:=zdo cs lev (fun x hx=> h x (by simp [hx]));rw [bcCs,qu,zi,List.length_append,List.length_append,zhV];omega
theorem zed:∀(t:Term) (lev:Nat),NdP (fun q=> q.shaped=true) (.proc t)->bcT t<=13 * (qL lev t).length
 | .mk o t a d k,lev,h=> by
  have hd:=zdo d (lev + 1) (fun c hc=> h.part (yu hc));have hk:=zff k (lev + 1) (fun c hc=> h.part (qV hc));rw [bcT,qL,List.length_cons,List.length_append,List.length_append];have e:zR (.proc (.mk o t a d k))=if o=4 then qb d ++ zi d else []:=rfl
  have hb:(zR (.proc (.mk o t a d k))).length<=(zl (zm d)).length + (zi d).length:=by
   rw [e]
   split
   ·rw [List.length_append]
    have:=yR [] (zl (zm d));unfold qb;simp only [List.length_nil,Nat.zero_add] at this;omega
   ·simp
  omega
theorem zff:∀(d:List Term) (lev:Nat),(∀c∈d,NdP (fun q=> q.shaped=true) (.proc c))->bcTs d<=13 * (yj lev d).length
 | [],lev,_=> by simp [bcTs]
 | c::cs,lev,h=> by
  have h1:=zed c lev (h c (by simp));have h2:=zff cs lev (fun x hx=> h x (by simp [hx]));rw [bcTs,yj,List.length_append];omega
end
def bsum (l:List (Part×Nat)):Nat:=(l.flatMap (fun q=> zR q.1)).length
theorem bsum_append (a b:List (Part×Nat)):bsum (a ++ b)=bsum a + bsum b:=by unfold bsum;rw [List.flatMap_append,List.length_append]
theorem bsum_cons (a:Part×Nat) (b:List (Part×Nat)):bsum (a::b)=(zR a.1).length + bsum b:=by unfold bsum;rw [List.flatMap_cons,List.length_append]
mutual
theorem bsum_E:∀(e:Exp) (lev:Nat),bsum (jV lev e)=0
 | .mk o n t k,lev=> by rw [jV,bsum_cons,bsum_Es k];rfl
theorem bsum_Es:∀(e:List Exp) (lev:Nat),bsum (yG lev e)=0
 | [],lev=> by rw [yG];rfl
 | e::es,lev=> by rw [yG,bsum_append,bsum_E e,bsum_Es es]
end
mutual
theorem bsum_C:∀(e:zg) (lev:Nat),bsum (qF lev e)=bcC e
 | .mk f t j d k,lev=> by rw [qF,bsum_cons,bsum_append,bsum_Cs d,bsum_Ts k,bcC,Nat.add_assoc]
theorem bsum_Cs:∀(e:List zg) (lev:Nat),bsum (qu lev e)=bcCs e
 | [],lev=> by rw [qu];rfl
 | e::es,lev=> by rw [qu,bsum_append,bsum_C e,bsum_Cs es,bcCs]
theorem bsum_T:∀(e:Term) (lev:Nat),bsum (qL lev e)=bcT e
 | .mk o t a d k,lev=> by rw [qL,bsum_cons,bsum_append,bsum_append,bsum_Es a,bsum_Cs d,bsum_Ts k,bcT,Nat.zero_add,Nat.add_assoc]
theorem bsum_Ts:∀(e:List Term) (lev:Nat),bsum (yj lev e)=bcTs e
 | [],lev=> by rw [yj];rfl
 | e::es,lev=> by rw [yj,bsum_append,bsum_T e,bsum_Ts es,bcTs]
end
def wlist (l:List (Part×Nat)):List (List UInt8):=l.flatMap (fun q=> zb (yA q.1)::(zR q.1).map zb)
theorem wlist_len:∀l,(wlist l).length=l.length + bsum l
 | []=> rfl
 | a::l=> by
  have h:=wlist_len l;rw [bsum_cons];unfold wlist at h ⊢;rw [List.flatMap_cons,List.length_append,h];simp only [List.length_cons,List.length_map];omega
theorem written_mem {p:Part} {k:List UInt8} (h:xW p k=true):k∈wlist (zw 1 p):=by
 unfold xW at h;obtain ⟨q,hq,hw⟩:=List.any_eq_true.1 h;unfold wlist;refine List.mem_flatMap.2 ⟨q,hq,?_⟩;unfold zbk at hw;rw [Bool.or_eq_true,Bool.and_eq_true] at hw;rcases hw with hw | hw
 ·obtain ⟨b,hb,he⟩:=List.any_eq_true.1 hw
  exact List.mem_cons_of_mem _ (List.mem_map.2 ⟨b,hb,(by simpa using he:k=zb b).symm⟩)
 ·rw [(by simpa using hw.2:k=zb (yA q.1))];exact List.mem_cons_self
theorem cov_used (t:Term) (x:ByteArray) (e:Exp) (h1:(Part.proc t).size<=60) (h2:NdP (fun q=> q.shaped=true) (.proc t)) (h3:(Part.exp e).size<=60):Cov (xy t x e) 1000:=by
 refine ⟨wlist (zw 1 (.proc t)) ++ wlist (zw 1 (.exp e)) ++ [zb x],fun k hk=> ?_,?_⟩
 ·unfold xy at hk
  rw [Bool.or_eq_true,Bool.or_eq_true] at hk;rcases hk with (hk | hk) | hk
  ·exact List.mem_append_left _ (List.mem_append_left _ (written_mem hk))
  ·exact List.mem_append_left _ (List.mem_append_right _ (written_mem hk))
  ·rw [(by simpa using hk:k=zb x)];exact List.mem_append_right _ (by simp)
 ·rw [List.length_append,List.length_append,wlist_len,wlist_len]
  have e1:bsum (zw 1 (.proc t))=bcT t:=bsum_T t 1;have e2:bsum (zw 1 (.exp e))=0:=bsum_E e 1;have e3:=zed t 1 h2;have e4:(zw 1 (.proc t)).length<=60:=by rw [yP 1 0];exact h1
  have e5:(zw 1 (.exp e)).length<=60:=by rw [yP 1 0];exact h3
  have e6:(qL 1 t).length<=60:=e4;rw [e1,e2];simp only [List.length_cons,List.length_nil];omega
theorem Env.frame0_becomes (b:Base) (n:ByteArray):(Env.mk b [jp]).becomes n=b.becomes n:=rfl
theorem put_frees (t:Term) (x:ByteArray) (e:Exp) (h1:(Part.proc t).size<=60) (h2:Fine (.proc t)) (h3:(Part.exp e).size<=60) (h4:Fine (.exp e)) (y:Term×Used) (hy:yl ⟨.putting x e, [jp]⟩ (xy t x e) t=some y) (k:List UInt8):
  fT y.1 k=true↔(fT t k=true/\k≠zb x)∨(fT t (zb x)=true/\fE e k=true):=by
 obtain ⟨t',U'⟩:=y
 have hok:okT (fun k=> xy t x e k=true) t:=okT_of t (fun q hq=> ⟨h2 q hq,fun b hb=> by
  unfold xy xW;rw [qJ 0 1] at hq;obtain ⟨z,hz,rfl⟩:=List.mem_map.1 hq
  have:(zw 1 (.proc t)).any (fun q=> zbk q.1 (zb b))=true:=List.any_eq_true.2 ⟨z,hz,by
   unfold zbk;rw [Bool.or_eq_true];exact .inl (List.any_eq_true.2 ⟨b,hb,by simp⟩)⟩
  rw [this];rfl⟩)
 have hbase:BaseOk (Base.putting x e):= .inr ⟨x,e,rfl,(zni e h4).1,h3⟩
 have hst:∀(p:Part) (k:List UInt8),fP p k=true->xW p k=true:=by
  intro p k hk;have hk':qE p.size p k=true:=by rw [freeN_fP _ p (ZL _)];exact hk
  have hgen:∀(s:Nat) (p:Part) (k:List UInt8),qE s p k=true->∃q∈(zw 0 p).map (·.1),zbk q k=true:=by
   intro s
   induction s with
   | zero=> intro p k h;simp [qE] at h
   | succ s ih=>
    intro p k h;rw [qE,Bool.or_eq_true,Bool.and_eq_true] at h;rcases h with ⟨h,_⟩ | h
    ·obtain ⟨q,hq,hk⟩:=List.any_eq_true.1 h
     obtain ⟨r,hr,hw⟩:=ih q k hk;rw [qJ 0 1] at hr;obtain ⟨z,hz,rfl⟩:=List.mem_map.1 hr;refine ⟨z.1,?_,hw⟩;rw [zv];exact List.mem_map.2 ⟨z,List.mem_cons_of_mem _ (jh hq hz),rfl⟩
    ·refine ⟨p,by rw [zv];simp,?_⟩
     unfold zbk;rw [h,Bool.or_true]
  obtain ⟨q,hq,hw⟩:=hgen _ p k hk';rw [qJ 0 1] at hq;obtain ⟨z,hz,rfl⟩:=List.mem_map.1 hq;exact List.any_eq_true.2 ⟨z,hz,hw⟩
 have hUt:∀k,fT t k=true->xy t x e k=true:=fun k hk=> by unfold xy;rw [hst (.proc t) k hk];rfl
 have hUe:∀k,fE e k=true->xy t x e k=true:=fun k hk=> by unfold xy;rw [hst (.exp e) k hk];simp
 have hbec:∀n k,fE ((Env.mk (.putting x e) [jp]).becomes n) k=true↔(n=x/\fE e k=true)∨(n≠x/\isT n k=true):=by
  intro n k;rw [Env.frame0_becomes];simp only [Base.becomes];by_cases hn:n=x
  ·rw [if_pos hn];simp [hn]
  ·rw [if_neg hn,fE_nameE];simp [hn]
 have hisT:∀(n:ByteArray) k,isT n k=true->k=zb n:=fun n k h=> by
  unfold isT at h;rw [Bool.and_eq_true] at h;simpa using h.2
 have hfit:Fit (fun k=> xy t x e k=true) ⟨.putting x e, [jp]⟩ (xy t x e) (fT t):=by
  refine ⟨fun n k h5 h6=> ?_,fun _ b hb=> ⟨hb,fun n c hl=> ?_⟩⟩
  ·rcases (hbec n k).1 h6 with ⟨_,h6⟩ | ⟨_,h6⟩
   ·exact hUe k h6
   ·rw [hisT n k h6];exact hUt _ h5
  ·simp [zaF,jp] at hl
 have hz:(qL 0 t).length<=60:=h1;have hbc:=zed t 0 (fun q hq=> h2 q hq);have hr:=(copyT_free t _ _ U' t' 1000 0 hbase hok hz hfit (cov_used t x e h1 h2 h3) (by omega) hy).1 k;rw [hr];unfold Im
 have hne:∀n,fT t n=true->n≠ []:=by
  intro n hn h0;subst h0
  have hgen:∀(s:Nat) (p:Part),qE s p []=false:=by
   intro s
   induction s with
   | zero=> intro p;rfl
   | succ s ih=>
    intro p;rw [qE]
    have e1:p.parts.any (fun q=> qE s q [])=false:=by
     rw [List.any_eq_false];intro q hq;rw [ih q];simp
    rw [e1];cases zb (yA p) with
    | nil=> rfl
    | cons a l=> rfl
  have:=freeN_fP 60 (.proc t) h1 [];rw [hgen] at this;rw [show fP (.proc t) []=fT t [] from rfl,hn] at this;cases this
 have hisT':∀n:ByteArray,fT t (zb n)=true->isT n (zb n)=true:=fun n hn=> by
  have:=hne _ hn;unfold isT;simp [this]
 constructor
 ·rintro ⟨n,h5,h6⟩
  rcases (hbec n k).1 h6 with ⟨rfl,h8⟩ | ⟨h7,h6⟩
  ·exact .inr ⟨h5,h8⟩
  ·obtain rfl:=hisT n k h6
   exact .inl ⟨h5,fun e=> h7 (zjS e)⟩
 ·rintro (⟨h5,h6⟩ | ⟨h5,h6⟩)
  ·refine ⟨mkB k,by rw [yv];exact h5,(hbec _ _).2 (.inr ⟨fun e=> h6 (by rw [<-e,yv]),?_⟩)⟩
   have:=hisT' (mkB k) (by rw [yv];exact h5)
   rwa [yv] at this
  ·exact ⟨x,h5,(hbec _ _).2 (.inl ⟨rfl,h6⟩)⟩
end
end Go.Proofs.YtjmlaeofjjhfmaaGreat
