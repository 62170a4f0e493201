/- Lemmas. -/
import Derived.Test.YtjmlaeofjjhfmaaGreatS34
import Derived.Test.YtjmlaeofjjhfmaaGreatS29
set_option linter.unusedVariables false
set_option linter.unusedSimpArgs false
set_option maxRecDepth 10000
set_option maxHeartbeats 16000000
namespace Go.Proofs.YtjmlaeofjjhfmaaGreat
section
open Go.RowKit Go.Shelf Go.Maps
theorem differB_iff {ss:List ByteArray}:jF ss=true↔(∀s∈ss,qn s=true)/\(ss.map zb).Nodup:=by
 rw [zdG];unfold good;rw [List.all_eq_true]
theorem zjx {U:Used} {m:Nat} (h:Cov U m) (hm:m<=4900):qn (mkB (choose U))=true:=by
 obtain ⟨j,hj,hg⟩:=h.free hm;obtain ⟨h1,_,h3⟩:=zaA U 5000 0 j (by omega) (by omega) hg;obtain ⟨n,hn⟩:∃n,n=yW U 5000 0:=⟨_,rfl⟩;unfold choose;rw [<-hn] at h1 h3 ⊢
 have hlen:(strN n).length<=8:=by
  rcases Nat.lt_or_ge 8 (strN n).length with h | h
  ·have:=zfR h;omega
  ·exact h
 have hpos:1<=(strN n).length:=by
  rcases Nat.eq_zero_or_pos (strN n).length with h | h
  ·exact absurd (List.length_eq_zero_iff.1 h) (zmX n)
  ·exact h
 have hl:=(jN n).2;unfold jZ at h1;rw [Bool.and_eq_true] at h1;have hd:(mkB (strN n)).data.toList=strN n:=yv _;unfold qn yJ;rw [hd,zgO]
 have hlow:zaf (strN n)=true:=by
  unfold zaf;rw [List.all_eq_true];intro c hc;simpa using hl c hc
 rw [hlow];have:=h1.1;unfold yp at this;rw [this];simp;omega
def xS:Nat->Used->List ByteArray×Used
 | 0,U=> ([],U)
 | n + 1,U=> (mkB (choose U)::(xS n (xl U (choose U))).1,(xS n (xl U (choose U))).2)
theorem picks_len:∀(n:Nat) (U:Used),(xS n U).1.length=n
 | 0,_=> rfl
 | n + 1,U=> by rw [xS,List.length_cons,picks_len n]
theorem zhq:∀(n:Nat) (U:Used) (m:Nat),Cov U m->m + n<=4900->
  (∀c∈(xS n U).1,qn c=true/\U (zb c)=false/\(xS n U).2 (zb c)=true)/\((xS n U).1.map zb).Nodup/\(∀k,U k=true->(xS n U).2 k=true)/\Cov (xS n U).2 (m + n)
 | 0,U,m,hC,_=> ⟨fun c hc=> by simp [xS] at hc,by simp [xS],fun _ h=> h,hC⟩
 | n + 1,U,m,hC,hm=> by
  obtain ⟨h1,h2,h3,h4⟩:=zhq n (xl U (choose U)) (m + 1) (hC.plus _) (by omega);rw [xS];refine ⟨fun c hc=> ?_,?_,fun k hk=> h3 k (by simp [xl,hk]),by rw [show m + (n + 1)=m + 1 + n from by omega];exact h4⟩
  ·rcases List.mem_cons.1 hc with rfl | hc
   ·exact ⟨zjx hC (by omega),by rw [yv];exact zh5 hC (by omega),h3 _ (by rw [yv];simp [xl])⟩
   ·obtain ⟨a1,a2,a3⟩:=h1 c hc
    unfold xl at a2;exact ⟨a1,(Bool.or_eq_false_iff.1 a2).1,a3⟩
  ·rw [List.map_cons,List.nodup_cons]
   refine ⟨fun hmem=> ?_,h2⟩;obtain ⟨c,hc,he⟩:=List.mem_map.1 hmem;have:=(h1 c hc).2.1;rw [he,yv] at this;simp [xl] at this
theorem anew_picks:∀(B:List ByteArray) (f:Frame) (U:Used),(B.map zb).Nodup->
  (B.foldl xC (f,U)).2=(xS B.length U).2/\(∀i,(h:i < B.length)->(B.foldl xC (f,U)).1 (zb B[i])=(xS B.length U).1[i]?)/\(∀x,x ∉ B.map zb->(B.foldl xC (f,U)).1 x=f x)
 | [],f,U,_=> ⟨rfl,fun i h=> by simp at h,fun _ _=> rfl⟩
 | b::B,f,U,hn=> by
  rw [List.map_cons,List.nodup_cons] at hn;obtain ⟨h1,h2,h3⟩:=anew_picks B (upd f b (mkB (choose U))) (xl U (choose U)) hn.2;have e:(b::B).foldl xC (f,U)=B.foldl xC (upd f b (mkB (choose U)),xl U (choose U)):=rfl;rw [e];have ep:xS (b::B).length U=(mkB (choose U)::(xS B.length (xl U (choose U))).1,(xS B.length (xl U (choose U))).2):=rfl;refine ⟨by rw [ep];exact h1,fun i h=> ?_,fun x hx=> ?_⟩
  ·rw [ep]
   cases i with
   | zero=> rw [List.getElem_cons_zero,h3 _ hn.1,upd,if_pos (by simp)];rfl
   | succ i=> rw [List.getElem_cons_succ,h2 i (by simpa using h)];rfl
  ·rw [List.map_cons,List.mem_cons,not_or] at hx
   rw [h3 x hx.2,upd,if_neg (by simpa using hx.1)]
def nm (v:Env) (n:ByteArray):ByteArray:=(zaF n v.frames).getD n
theorem anew_becomes {v:Env} (h:v.base= .anew) (n:ByteArray):v.becomes n=yq (nm v n):=by
 rw [becomes_look,h];unfold nm;cases zaF n v.frames with
 | some c=> rfl
 | none=> rfl
theorem anew_text {v:Env} (h:v.base= .anew) {n:ByteArray} (hn:n.size≠0):yS v n=some (nm v n):=by
 unfold yS;rw [if_neg hn,anew_becomes h]
 rfl
theorem text_zero {v:Env} {n:ByteArray} (hn:n.size=0):yS v n=some n:=by unfold yS;rw [if_pos hn]
structure InA (v:Env) (U:Used) (p:Part) (i:Env×Used):Prop where
 base:i.1.base= .anew
 us:i.2=(xS (zR p).length U).2
 new:(zR p).map (nm i.1)=(xS (zR p).length U).1
 bound:∀n,bndP p (zb n)=true->zaF n i.1.frames=some (nm i.1 n)
 old:∀n,bndP p (zb n)=false->zaF n i.1.frames=zaF n v.frames
theorem inside_anew {v:Env} {U:Used} {p:Part} (hb:v.base= .anew) (hn:((zR p).map zb).Nodup):InA v U p (inside v U p):=by
 unfold inside;by_cases he:zR p= []
 ·have hb0:∀k,bndP p k=false:=fun k=> by unfold bndP;rw [he];rfl
  rw [if_pos he];exact ⟨hb,by rw [he];rfl,by rw [he];rfl,fun n h=> (by rw [hb0] at h;cases h),fun _ _=> rfl⟩
 ·rw [if_neg he]
  have e:v.base.renames v p=zR p:=by rw [hb];rfl
  rw [e];simp only;obtain ⟨h1,h2,h3⟩:=anew_picks (zR p) ((zR p).foldl zak (fun _=> none)) U hn
  have hlk:∀n,zaF n (((zR p).foldl xC ((zR p).foldl zak (fun _=> none),U)).1::v.frames)=match ((zR p).foldl xC ((zR p).foldl zak (fun _=> none),U)).1 (zb n) with
    | some c=> some c
    | none=> zaF n v.frames:=fun n=> rfl
  have hb1:∀j,(h:j < (zR p).length)->zaF (zR p)[j] (((zR p).foldl xC ((zR p).foldl zak (fun _=> none),U)).1::v.frames)=(xS (zR p).length U).1[j]?:=fun j h=> by
   have hl:j < (xS (zR p).length U).1.length:=by rw [picks_len];exact h
   rw [hlk,h2 j h,List.getElem?_eq_getElem hl]
  refine ⟨hb,h1,?_,fun n hbn=> ?_,fun n hbn=> ?_⟩
  ·refine List.ext_getElem (by rw [List.length_map,picks_len]) (fun j hj1 hj2=> ?_)
   rw [List.length_map] at hj1;rw [List.getElem_map,nm,hb1 j hj1,List.getElem?_eq_getElem hj2]
   rfl
  ·obtain ⟨b,hbm,hbe⟩:=(bndP_iff p _).1 hbn
   obtain rfl:=zjS hbe;obtain ⟨j,hj,rfl⟩:=List.mem_iff_getElem.1 hbm;have hl:j < (xS (zR p).length U).1.length:=by rw [picks_len];exact hj
   unfold nm;rw [hb1 j hj,List.getElem?_eq_getElem hl]
   rfl
  ·have hx:zb n ∉ (zR p).map zb:=fun hm=> by
    obtain ⟨b,hbm,hbe⟩:=List.mem_map.1 hm;have:bndP p (zb n)=true:=(bndP_iff p _).2 ⟨b,hbm,hbe.symm⟩;rw [hbn] at this;cases this
   rw [hlk,h3 _ hx,zfU,if_neg hx]
theorem InA.nm_old {v:Env} {U:Used} {p:Part} {i:Env×Used} (h:InA v U p i) {n:ByteArray} (hn:bndP p (zb n)=false):nm i.1 n=nm v n:=by
 unfold nm;rw [h.old n hn]
theorem InA.nm_new {v:Env} {U:Used} {p:Part} {i:Env×Used} (h:InA v U p i) {n:ByteArray} (hn:bndP p (zb n)=true):nm i.1 n∈(xS (zR p).length U).1:=by
 rw [<-h.new];obtain ⟨b,hbm,hbe⟩:=(bndP_iff p _).1 hn;obtain rfl:=zjS hbe;exact List.mem_map.2 ⟨n,hbm,rfl⟩
theorem InA.inj {v:Env} {U:Used} {p:Part} {i:Env×Used} {m:Nat} (h:InA v U p i) (hC:Cov U m) (hm:m + (zR p).length<=4900):∀a∈zR p,∀b∈zR p,nm i.1 a=nm i.1 b->a=b:=by
 intro a ha b hb he;obtain ⟨j,hj,rfl⟩:=List.mem_iff_getElem.1 ha;obtain ⟨k,hk,rfl⟩:=List.mem_iff_getElem.1 hb;have hnd:=(zhq _ U m hC hm).2.1;rw [<-h.new] at hnd;have hnd2:((zR p).map (nm i.1)).Nodup:=(List.pairwise_map.1 hnd).imp (fun hne e=> hne (congrArg zb e));have hpw:=List.pairwise_iff_getElem.1 hnd2
 have hlt:∀a b,(ha:a < (zR p).length)->(hb:b < (zR p).length)->a < b->nm i.1 (zR p)[a]≠nm i.1 (zR p)[b]:=fun a b ha hb hab=> by
  have:=hpw a b (by rw [List.length_map];exact ha) (by rw [List.length_map];exact hb) hab;rw [List.getElem_map,List.getElem_map] at this;exact this
 rcases Nat.lt_trichotomy j k with h1 | h1 | h1
 ·exact absurd he (hlt j k hj hk h1)
 ·subst h1;rfl
 ·exact absurd he.symm (hlt k j hk hj h1)
def jsig (j:Msg):ByteArray×Nat:=(j.text,j.names.length)
def gsig (g:List zg):List (ByteArray×Nat):=g.flatMap (fun c=> c.joins.map jsig)
def rsig (f:ByteArray->ByteArray) (x:ByteArray×Nat):ByteArray×Nat:=(f x.1,x.2)
theorem gtexts_sig (g:List zg):zS g=(gsig g).map (·.1):=by
 unfold zS gsig;rw [List.map_flatMap]
 congr 1
 funext c
 rw [List.map_map]
 rfl
theorem alltexts_sig (gs:List (List zg)):zl gs=((gs.map gsig).flatMap id).map (·.1):=by
 unfold zl;rw [List.map_flatMap,List.flatMap_map]
 congr 1
 funext g
 exact gtexts_sig g
theorem gsig_cons (c:zg) (cs:List zg):gsig (c::cs)=c.joins.map jsig ++ gsig cs:=by unfold gsig;rw [List.flatMap_cons]
theorem texts_anew {v:Env} (hb:v.base= .anew):∀l l':List ByteArray,(∀x∈l,x.size≠0)->zbr v l=some l'->l'=l.map (nm v)
 | [],l',_,h=> by rw [zbr] at h;cases h;rfl
 | a::l,l',hz,h=> by
  rw [zbr,anew_text hb (hz a (by simp))] at h;simp only at h;cases h2:zbr v l with
  | none=> rw [h2] at h;cases h
  | some bs=> rw [h2] at h;cases h;rw [texts_anew hb l bs (fun x hx=> hz x (by simp [hx])) h2];rfl
theorem msgs_anew {v i:Env} (hb:v.base= .anew) (hi:i.base= .anew):∀js js':List Msg,(∀x∈js.map (·.text),x.size≠0)->(∀x∈js.flatMap (·.names),x.size≠0)->zau v i js=some js'->
  js'=js.map (fun j=> ⟨nm v j.text,j.names.map (nm i)⟩)
 | [],js',_,_,h=> by rw [zau] at h;cases h;rfl
 | a::l,js',h1,h2,h=> by
  rw [zau] at h;unfold msgM at h;rw [anew_text hb (h1 a.text (by simp))] at h;simp only at h;cases h3:zbr i a.names with
  | none=> rw [h3] at h;cases h
  | some ns=>
   rw [h3] at h;simp only at h;have e:=texts_anew hi a.names ns (fun x hx=> h2 x (by rw [List.flatMap_cons];exact List.mem_append_left _ hx)) h3;cases h4:zau v i l with
   | none=> rw [h4] at h;cases h
   | some bs=>
    rw [h4] at h;cases h;rw [msgs_anew hb hi l bs (fun x hx=> h1 x (by rw [List.map_cons];exact List.mem_cons_of_mem _ hx)) (fun x hx=> h2 x (by rw [List.flatMap_cons];exact List.mem_append_right _ hx)) h4,e]
    rfl
theorem sig_map (v i:Env) (js:List Msg):(js.map (fun j=> (⟨nm v j.text,j.names.map (nm i)⟩:Msg))).map jsig=(js.map jsig).map (rsig (nm v)):=by
 rw [List.map_map,List.map_map]
 congr 1
 funext j
 simp [jsig,rsig]
theorem names_map (v i:Env):∀js:List Msg,(js.map (fun j=> (⟨nm v j.text,j.names.map (nm i)⟩:Msg))).flatMap (·.names)=(js.flatMap (·.names)).map (nm i)
 | []=> rfl
 | j::js=> by rw [List.map_cons,List.flatMap_cons,List.flatMap_cons,List.map_append,names_map v i js]
def QA (q:Part):Prop:=q.shaped=true/\((zR q).map zb).Nodup
mutual
theorem copyC_sig:∀(c:zg) (v:Env) (U U':Used) (c':zg),v.base= .anew->NdP QA (.def_ c)->xJ v U c=some (c',U')->
  c'.joins.map jsig=(c.joins.map jsig).map (rsig (nm v))/\(yk c').map gsig=(yk c).map (fun g=> (gsig g).map (rsig (nm v)))/\yc c'=(yc c).map (nm v)
 | .mk f t j d k,v,U,U',c',hb,hf,h=> by
  obtain ⟨t',j',d',U2,k',e1,e2,e3,e4,rfl⟩:=copyC_inv h;obtain ⟨h1,h2,h3,h4,_⟩:=zgp hf.self.1;have hi:=inside_anew (U:=U) (p:= .def_ (.mk f t j d k)) hb hf.self.2;obtain rfl:=msgs_anew hb hi.base j j' h4 h3 e2;refine ⟨sig_map _ _ _,?_⟩;by_cases hf2:f=2
  ·obtain ⟨rfl,htz⟩:=h1 hf2
   rw [inside_nil (p:= .def_ (.mk f t [] d k)) rfl] at e3;obtain ⟨g1,g2,g3⟩:=copyCs_sig d v U U2 d' hb (fun c hc=> hf.part (ji hc)) e3;rw [yk,yk,if_pos hf2,if_pos hf2,yc,yc,if_pos hf2,if_pos hf2];rw [anew_text hb htz] at e1;cases e1;exact ⟨by rw [List.map_cons,List.map_cons,g1,g2],by rw [List.map_cons,g3]⟩
  ·rw [yk,yk,if_neg hf2,if_neg hf2,yc,yc,if_neg hf2,if_neg hf2]
   exact ⟨rfl,rfl⟩
theorem copyCs_sig:∀(d:List zg) (v:Env) (U U':Used) (d':List zg),v.base= .anew->(∀c∈d,NdP QA (.def_ c))->jx v U d=some (d',U')->
  gsig d'=(gsig d).map (rsig (nm v))/\(zO d').map gsig=(zO d).map (fun g=> (gsig g).map (rsig (nm v)))/\zi d'=(zi d).map (nm v)
 | [],v,U,U',d',_,_,h=> by
  rw [jx] at h;cases h;exact ⟨rfl,rfl,rfl⟩
 | c::cs,v,U,U',d',hb,hf,h=> by
  obtain ⟨b,U2,bs,e1,e2,rfl⟩:=copyCs_inv h;obtain ⟨g1,g2,g3⟩:=copyC_sig c v U U2 b hb (hf c (by simp)) e1;obtain ⟨k1,k2,k3⟩:=copyCs_sig cs v U2 U' bs hb (fun x hx=> hf x (by simp [hx])) e2;refine ⟨by rw [gsig_cons,gsig_cons,List.map_append,g1,k1],?_,by rw [zi,zi,List.map_append,g3,k3]⟩;rw [zO,zO,List.map_append,List.map_append,g2,k2]
end
theorem groups_sig {f:ByteArray->ByteArray} {d d':List zg} (h1:gsig d'=(gsig d).map (rsig f)) (h2:(zO d').map gsig=(zO d).map (fun g=> (gsig g).map (rsig f))):(zm d').map gsig=(zm d).map (fun g=> (gsig g).map (rsig f)):=by
 unfold zm;rw [List.map_cons,List.map_cons,h1,h2]
theorem alltexts_ren {f:ByteArray->ByteArray} {gs gs':List (List zg)} (h:gs'.map gsig=gs.map (fun g=> (gsig g).map (rsig f))):zl gs'=(zl gs).map f:=by
 rw [alltexts_sig,alltexts_sig,h];rw [List.map_flatMap,List.map_flatMap,List.map_flatMap,List.flatMap_map,List.flatMap_map]
 congr 1
 funext g
 simp only [id];rw [List.map_map,List.map_map]
 rfl
theorem chFold_ren {f:ByteArray->ByteArray}:∀(xs l:List ByteArray),(∀a∈l ++ xs,∀b∈l ++ xs,f a=f b->a=b)->qp (l.map f) (xs.map f)=(qp l xs).map f
 | [],l,_=> rfl
 | x::xs,l,h=> by
  have e:∀l x xs,qp l (x::xs)=qp (qU l x) xs:=fun _ _ _=> rfl;rw [List.map_cons,e,e]
  have hs:qU (l.map f) (f x)=(qU l x).map f:=by
   unfold qU
   have hin:zF ((l.map f).map zb) (zb (f x))=zF (l.map zb) (zb x):=by
    unfold zF;rw [Bool.eq_iff_iff,List.any_eq_true,List.any_eq_true];constructor
    ·rintro ⟨y,hy,he⟩
     rw [List.map_map] at hy;obtain ⟨z,hz,rfl⟩:=List.mem_map.1 hy;have:f z=f x:=zjS (by simpa using he);have:=h z (by simp [hz]) x (by simp) this;exact ⟨zb z,List.mem_map.2 ⟨z,hz,rfl⟩,by rw [this];simp⟩
    ·rintro ⟨y,hy,he⟩
     obtain ⟨z,hz,rfl⟩:=List.mem_map.1 hy;have:z=x:=zjS (by simpa using he);subst this;exact ⟨zb (f z),List.mem_map.2 ⟨f z,List.mem_map.2 ⟨z,hz,rfl⟩,rfl⟩,by simp⟩
   rw [hin]
   split
   ·rfl
   ·rw [List.map_append];rfl
  rw [hs]
  have hsub:∀a,a∈qU l x ++ xs->a∈l ++ x::xs:=fun a ha=> by
   rcases List.mem_append.1 ha with ha | ha
   ·unfold qU at ha
    split at ha
    ·exact List.mem_append_left _ ha
    ·rcases List.mem_append.1 ha with ha | ha
     ·exact List.mem_append_left _ ha
     ·rw [List.mem_singleton.1 ha];simp
   ·exact List.mem_append_right _ (List.mem_cons_of_mem _ ha)
  exact chFold_ren xs _ (fun a ha b hb=> h a (hsub a ha) b (hsub b hb))
theorem chFold_nodup:∀(xs l:List ByteArray),(l.map zb).Nodup->((qp l xs).map zb).Nodup
 | [],l,h=> h
 | x::xs,l,h=> by
  have e:qp l (x::xs)=qp (qU l x) xs:=rfl;rw [e];refine chFold_nodup xs _ ?_;unfold qU
  split
  ·exact h
  ·rename_i hn
   rw [List.map_append,List.nodup_append];refine ⟨h,by simp,fun a ha b hb=> ?_⟩;rw [List.map_cons,List.map_nil,List.mem_singleton] at hb;subst hb;intro he;subst he;refine hn ?_;unfold zF;exact List.any_eq_true.2 ⟨_,ha,by simp⟩
theorem zfI {d:List zg} {U:List UInt8->Int×Int}:(∀i,(h:i < (zm d).length)->∀c∈(zm d)[i],∀j∈c.joins,U (zb j.text)=((i:Int),(j.names.length:Int)))↔
  ∀(i:Nat) (g:List (ByteArray×Nat)),((zm d).map gsig)[i]?=some g->∀x∈g,U (zb x.1)=((i:Int),(x.2:Int)):=by
 constructor
 ·intro h i g hg x hx
  rw [List.getElem?_map] at hg;cases hq:(zm d)[i]? with
  | none=> rw [hq] at hg;cases hg
  | some g0=>
   rw [hq] at hg;cases hg;obtain ⟨hi,rfl⟩:=List.getElem?_eq_some_iff.1 hq;unfold gsig at hx;obtain ⟨c,hc,hx⟩:=List.mem_flatMap.1 hx;obtain ⟨j,hj,rfl⟩:=List.mem_map.1 hx;exact h i hi c hc j hj
 ·intro h i hi c hc j hj
  refine h i (gsig (zm d)[i]) (by rw [List.getElem?_map,List.getElem?_eq_getElem hi];rfl) (jsig j) ?_;unfold gsig;exact List.mem_flatMap.2 ⟨c,hc,List.mem_map.2 ⟨j,hj,rfl⟩⟩
theorem defsOk_ren {f:ByteArray->ByteArray} {d d':List zg} (h:zaQ d) (hz:zZ d'=zZ d) (h1:(zm d').map gsig=(zm d).map (fun g=> (gsig g).map (rsig f))) (h2:zi d'=(zi d).map f)
  (hinj:∀a∈zl (zm d) ++ zi d,∀b∈zl (zm d) ++ zi d,f a=f b->a=b):zaQ d':=by
 obtain ⟨U,c1,c2,c3,c4,c5⟩:=h;have ht:=alltexts_ren h1
 let U':List UInt8->Int×Int:=fun k=> match (zl (zm d)).find? (fun y=> zb (f y)==k) with
  | some y=> U (zb y)
  | none=> (0,0)
 have hU:∀y∈zl (zm d),U' (zb (f y))=U (zb y):=by
  intro y hy
  show (match (zl (zm d)).find? (fun z=> zb (f z)==zb (f y)) with
   | some y=> U (zb y)
   | none=> (0,0))=_
  cases hfd:(zl (zm d)).find? (fun z=> zb (f z)==zb (f y)) with
  | none=> exact absurd (List.find?_eq_none.1 hfd y hy) (by simp)
  | some z=>
   have hz1:=List.find?_some hfd;have hz2:=List.mem_of_find?_eq_some hfd;have:=hinj z (List.mem_append_left _ hz2) y (List.mem_append_left _ hy) (zjS (by simpa using hz1));rw [this]
 refine ⟨U',by rw [hz];exact c1,by rw [ht,List.length_map];exact c2,zfI.2 ?_,?_,?_⟩
 ·have c3':=zfI.1 c3
  intro i g hg x hx;rw [h1,List.getElem?_map] at hg;cases hq:(zm d)[i]? with
  | none=> rw [hq] at hg;cases hg
  | some g0=>
   rw [hq] at hg;cases hg;obtain ⟨y,hy,rfl⟩:=List.mem_map.1 hx;have h3:=c3' i (gsig g0) (by rw [List.getElem?_map,hq];rfl) y hy
   have hyt:y.1∈zl (zm d):=by
    obtain ⟨hi,rfl⟩:=List.getElem?_eq_some_iff.1 hq;rw [alltexts_sig];exact List.mem_map.2 ⟨y,List.mem_flatMap.2 ⟨gsig (zm d)[i],List.mem_map.2 ⟨_,ZM hi,rfl⟩,hy⟩,rfl⟩
   show U' (zb (f y.1))=_;rw [hU _ hyt];exact h3
 ·intro p hp
  rw [h2] at hp;obtain ⟨q,hq,rfl⟩:=List.mem_map.1 hp;have h4:=c4 q hq;cases hin:zF ((zl (zm d')).map zb) (zb (f q)) with
  | false=> rfl
  | true=>
   unfold zF at hin h4;obtain ⟨y,hy,he⟩:=List.any_eq_true.1 hin;rw [ht,List.map_map] at hy;obtain ⟨z,hz,rfl⟩:=List.mem_map.1 hy;have:z=q:=hinj z (List.mem_append_left _ hz) q (List.mem_append_right _ hq) (zjS (by simpa using he));subst this;rw [List.any_eq_false] at h4;exact absurd (by simp) (h4 (zb z) (List.mem_map.2 ⟨z,hz,rfl⟩))
 ·rw [h2,List.map_map]
  have:∀l:List ByteArray,(∀a∈l,a∈zi d)->(l.map zb).Nodup->(l.map (zb∘f)).Nodup:=by
   intro l
   induction l with
   | nil=> intro _ _;exact List.nodup_nil
   | cons x l ih=>
    intro hl hn;rw [List.map_cons,List.nodup_cons] at hn ⊢;refine ⟨fun hm=> ?_,ih (fun a ha=> hl a (by simp [ha])) hn.2⟩;obtain ⟨y,hy,he⟩:=List.mem_map.1 hm;have:=hinj y (List.mem_append_right _ (hl y (by simp [hy]))) x (List.mem_append_right _ (hl x (by simp))) (zjS he);subst this;exact hn.1 (List.mem_map.2 ⟨y,hy,rfl⟩)
  exact this _ (fun _ h=> h) c5
theorem nameE_free {s:ByteArray} (h:s.size≠0):fE (yq s) (zb s)=true:=by rw [fE_nameE];exact (isT_iff h).2 rfl
def QC (q:Part):Prop:=QA q/\zeq q
def QD (q:Part):Prop:=q.shaped=true/\zeq q
theorem self_map {α:Type} {f:α->α} {l:List α} (h:l.map f=l):∀x∈l,f x=x:=by
 intro x hx;obtain ⟨i,hi,rfl⟩:=List.mem_iff_getElem.1 hx;have e:(l.map f)[i]?=l[i]?:=by rw [h]
 rw [List.getElem?_map,List.getElem?_eq_getElem hi] at e;exact ZJ e
abbrev TW:List UInt8->Prop:=fun _=> True
theorem rel_in {v v2:Env} {U:Used} {p p':Part} {i i2:Env×Used} {m:Nat} (h:InA v U p i) (h2:InA v2 U p' i2) (hC:Cov U m) (hm:m + (zR p).length<=4900) (hp:zR p'=(xS (zR p).length U).1)
  {A:List UInt8->Bool} (hv:v.base= .anew) (hF:Fit TW v U A) (hnm:∀n,A (zb n)=true->qn (nm v n)=true) (hrel:∀n,A (zb n)=true->nm v2 (nm v n)=nm v n)
  (n:ByteArray) (hn:bndP p (zb n)=true∨A (zb n)=true):nm i2.1 (nm i.1 n)=nm i.1 n:=by
 have hlen:(zR p').length=(zR p).length:=by rw [hp,picks_len]
 have hself:(zR p').map (nm i2.1)=zR p':=by rw [h2.new,hlen,<-hp]
 cases hb:bndP p (zb n) with
 | true=>
  have:=h.nm_new hb;rw [<-hp] at this;exact self_map hself _ this
 | false=>
  have hA:A (zb n)=true:=hn.elim (fun h=> by rw [hb] at h;cases h) id;rw [h.nm_old hb];have hname:=hnm n hA;have hz:=zcU hname;have hU:U (zb (nm v n))=true:=hF.used n _ hA (by rw [anew_becomes hv];exact nameE_free hz)
  have hnb:bndP p' (zb (nm v n))=false:=by
   cases hq:bndP p' (zb (nm v n)) with
   | false=> rfl
   | true=>
    obtain ⟨b,hbm,hbe⟩:=(bndP_iff p' _).1 hq;rw [hp] at hbm;have:=((zhq _ U m hC hm).1 b hbm).2.1;rw [<-hbe,hU] at this;cases this
  rw [h2.nm_old hnb];exact hrel n hA
theorem name_in {v:Env} {U:Used} {p:Part} {i:Env×Used} {m:Nat} (h:InA v U p i) (hC:Cov U m) (hm:m + (zR p).length<=4900) {A:List UInt8->Bool} (hnm:∀n,A (zb n)=true->qn (nm v n)=true)
  (n:ByteArray) (hn:bndP p (zb n)=true∨A (zb n)=true):qn (nm i.1 n)=true:=by
 cases hb:bndP p (zb n) with
 | true=> exact ((zhq _ U m hC hm).1 _ (h.nm_new hb)).1
 | false=>
  rw [h.nm_old hb];exact hnm n (hn.elim (fun h=> by rw [hb] at h;cases h) id)
theorem NdP.mk_ {P:Part->Prop} {p:Part} (h:P p) (hq:∀q∈p.parts,NdP P q):NdP P p:=NdP.of_parts h hq
theorem copyEs_len (v:Env):∀l,(jM v l).length=l.length
 | []=> rfl
 | a::l=> by rw [jM,List.length_cons,copyEs_len v l];rfl
mutual
theorem anewE:∀(e:Exp) (v:Env) (lev:Nat),v.base= .anew->NdP (fun q=> q.shaped=true) (.exp e)->(∀n,fE e (zb n)=true->qn (nm v n)=true)->
  NdP QD (.exp (zeS v e))/\(jV lev (zeS v e)).map (·.2)=(jV lev e).map (·.2)/\(∀v2:Env,v2.base= .anew->(∀n,fE e (zb n)=true->nm v2 (nm v n)=nm v n)->zeS v2 (zeS v e)=zeS v e)
 | .mk op n t kids,v,lev,hb,hf,hn=> by
  obtain ⟨h1,h2⟩:=za3 hf.self;rw [zeS];by_cases ho:op=2
  ·obtain ⟨rfl,rfl,htz⟩:=h1 ho
   subst ho;have hfr:fE (.mk 2 0 t []) (zb t)=true:=by rw [fE,fEs,Bool.false_or];exact (isT_iff htz).2 rfl
   have hnt:=hn t hfr;rw [if_pos rfl,anew_becomes hb];refine ⟨NdP.mk_ ⟨?_,trivial⟩ (fun q hq=> by simp [yq,Part.parts] at hq),?_,fun v2 hb2 hr=> ?_⟩
   ·simp [yq,Part.shaped,j8,hnt]
   ·simp [yq,jV,yG]
   ·rw [yq,zeS,if_pos rfl,anew_becomes hb2,hr t hfr,yq]
  ·rw [if_neg ho]
   obtain ⟨g1,g2,g3⟩:=anewEs kids v (lev + 1) hb (fun e he=> hf.part (ziO he)) (fun m hm=> hn m (by rw [fE,hm,Bool.true_or]));refine ⟨NdP.mk_ ⟨?_,trivial⟩ (fun q hq=> ?_),?_,fun v2 hb2 hr=> ?_⟩
   ·have:=hf.self
    simp only [Part.shaped,j8,copyEs_len] at this ⊢;exact this
   ·rw [Part.parts] at hq
    obtain ⟨e,he,rfl⟩:=List.mem_map.1 hq;exact g1 e he
   ·rw [jV,jV,List.map_cons,List.map_cons,g2]
   ·rw [zeS,if_neg ho,g3 v2 hb2 (fun m hm=> hr m (by rw [fE,hm,Bool.true_or]))]
theorem anewEs:∀(l:List Exp) (v:Env) (lev:Nat),v.base= .anew->(∀e∈l,NdP (fun q=> q.shaped=true) (.exp e))->(∀n,fEs l (zb n)=true->qn (nm v n)=true)->
  (∀e∈jM v l,NdP QD (.exp e))/\(yG lev (jM v l)).map (·.2)=(yG lev l).map (·.2)/\(∀v2:Env,v2.base= .anew->(∀n,fEs l (zb n)=true->nm v2 (nm v n)=nm v n)->jM v2 (jM v l)=jM v l)
 | [],v,lev,_,_,_=> ⟨fun e he=> by simp [jM] at he,rfl,fun _ _ _=> rfl⟩
 | a::l,v,lev,hb,hf,hn=> by
  obtain ⟨a1,a2,a3⟩:=anewE a v lev hb (hf a (by simp)) (fun m hm=> hn m (by rw [fEs,hm,Bool.true_or]));obtain ⟨b1,b2,b3⟩:=anewEs l v lev hb (fun x hx=> hf x (by simp [hx])) (fun m hm=> hn m (by rw [fEs,hm,Bool.or_true]));rw [jM];refine ⟨fun e he=> ?_,by rw [yG,yG,List.map_append,List.map_append,a2,b2],fun v2 hb2 hr=> ?_⟩
  ·rcases List.mem_cons.1 he with rfl | he
   ·exact a1
   ·exact b1 e he
  ·rw [jM,a3 v2 hb2 (fun m hm=> hr m (by rw [fEs,hm,Bool.true_or])),b3 v2 hb2 (fun m hm=> hr m (by rw [fEs,hm,Bool.or_true]))]
end
theorem joined_ren {v i:Env} {j:List Msg} (h:qH j=true) (ht:∀x∈j.map (·.text),qn (nm v x)=true) (hinj:∀a∈j.map (·.text),∀b∈j.map (·.text),nm v a=nm v b->a=b)
  (hn:∀c∈(j.flatMap (·.names)).map (nm i),qn c=true) (hnd:(((j.flatMap (·.names)).map (nm i)).map zb).Nodup):qH (j.map (fun j=> (⟨nm v j.text,j.names.map (nm i)⟩:Msg)))=true:=by
 unfold qH at h ⊢;simp only [Bool.and_eq_true,decide_eq_true_eq,List.all_eq_true] at h ⊢;obtain ⟨⟨⟨⟨h1,h2⟩,h3⟩,h4⟩,h5⟩:=h;rw [differB_iff] at h4;rw [differB_iff,differB_iff,names_map];have e1:(j.map (fun j=> (⟨nm v j.text,j.names.map (nm i)⟩:Msg))).map (·.text)=(j.map (·.text)).map (nm v):=by rw [List.map_map,List.map_map];rfl
 rw [e1,List.length_map];refine ⟨⟨⟨⟨h1,h2⟩,fun x hx=> ?_⟩,fun s hs=> ?_,?_⟩,hn,hnd⟩
 ·obtain ⟨y,hy,rfl⟩:=List.mem_map.1 hx
  simpa using h3 y hy
 ·obtain ⟨y,hy,rfl⟩:=List.mem_map.1 hs
  exact ht y hy
 ·have:∀l:List ByteArray,(∀a∈l,a∈j.map (·.text))->(l.map zb).Nodup->((l.map (nm v)).map zb).Nodup:=by
   intro l
   induction l with
   | nil=> intro _ _;exact List.nodup_nil
   | cons x l ih=>
    intro hl hn;rw [List.map_cons,List.nodup_cons] at hn;rw [List.map_cons,List.map_cons,List.nodup_cons];refine ⟨fun hm=> ?_,ih (fun a ha=> hl a (by simp [ha])) hn.2⟩;obtain ⟨y,hy,he⟩:=List.mem_map.1 hm;obtain ⟨z,hz,rfl⟩:=List.mem_map.1 hy;have:=hinj z (hl z (by simp [hz])) x (hl x (by simp)) (zjS he);subst this;exact hn.1 (List.mem_map.2 ⟨z,hz,rfl⟩)
  exact this _ (fun _ h=> h) h4.2
theorem okC_fine {c:zg} (h:NdP QC (.def_ c)):okC TW c:=okC_of c (h.mono (fun q hq=> ⟨hq.1.1,fun _ _=> trivial⟩))
theorem okT_fine {c:Term} (h:NdP QC (.proc c)):okT TW c:=okT_of c (h.mono (fun q hq=> ⟨hq.1.1,fun _ _=> trivial⟩))
theorem copyCs_len {v:Env}:∀(d d':List zg) (U U':Used),jx v U d=some (d',U')->d'.length=d.length
 | [],d',U,U',h=> by rw [jx] at h;cases h;rfl
 | a::l,d',U,U',h=> by
  obtain ⟨b,U2,bs,e1,e2,rfl⟩:=copyCs_inv h;rw [List.length_cons,List.length_cons,copyCs_len l bs U2 U' e2]
theorem copyTs_len {v:Env}:∀(d d':List Term) (U U':Used),ju v U d=some (d',U')->d'.length=d.length
 | [],d',U,U',h=> by rw [ju] at h;cases h;rfl
 | a::l,d',U,U',h=> by
  obtain ⟨b,U2,bs,e1,e2,rfl⟩:=copyTs_inv h;rw [List.length_cons,List.length_cons,copyTs_len l bs U2 U' e2]
end
end Go.Proofs.YtjmlaeofjjhfmaaGreat
