/- Lemmas. -/
import Derived.Test.YtjmlaeofjjhfmaaGreatS40
import Derived.Test.YtjmlaeofjjhfmaaGreatS35
set_option linter.unusedVariables false
set_option linter.unusedSimpArgs false
set_option maxRecDepth 10000
set_option maxHeartbeats 16000000
namespace Go.Proofs.YtjmlaeofjjhfmaaGreat
section
open Go.RowKit Go.Shelf Go.Maps
theorem zq.cons {X:Type} {At:Nat->World->List Value->X->Prop} {n B:Nat} {w:World} {vs cs:List Value} {l:List X} {x:X} (hc:At B w cs x) (hn:cs.length=n) (h:zq At n B w vs l):zq At n B w (cs ++ vs) (x::l):=by
 refine ⟨by simp [h.1,hn,Nat.add_mul,Nat.add_comm],fun i hi=> ?_⟩;cases i with
 | zero=>
  rw [Nat.zero_mul,List.drop_zero,<-hn,List.take_left];exact hc
 | succ i=>
  have e:(cs ++ vs).drop ((i + 1) * n)=vs.drop (i * n):=by
   rw [show (i + 1) * n=cs.length + i * n by rw [hn,Nat.add_mul];omega,<-List.drop_drop,List.drop_left]
  rw [e];exact h.2 i (by simpa using hi)
theorem Tryz.results38:Tryz.f38.results=#[.cell 6 36]:=by kernel_rfl
theorem found_one {x:ByteArray} {e:Exp} (h:NdP (fun q=> q.shaped=true) (.exp e)):FoundOk [(x,e)]:=by
 intro s y hy;simp only [yh] at hy
 split at hy
 ·cases ZJ hy;exact h
 ·cases hy
theorem putExp_38 (f e:Exp) (x:ByteArray) (hx:x.size<=maxLen) (hf:NdP (fun q=> q.shaped=true) (.exp f)) (he:NdP (fun q=> q.shaped=true) (.exp e)) (B:Nat) (u w:World) (c1 c2:List Value) (hu:zh B u w) (hBl:B<=w.heap.size)
  (h1:zy B u c1 f) (h2:zy B u c2 e):
  Calls Tryz.prog 38 #[.agg c1.toArray, .string x, .agg c2.toArray] w fun e' w'=> ∃rs,e'= .returned (.agg rs.toArray)/\zy w'.heap.size (blank w.heap.size w') rs (expL [(x,e)] f)/\Below w.heap.size w w':=by
 obtain ⟨o0,n0,t0,a0,k0,p0,rfl⟩:=qG h1;obtain ⟨o1,n1,t1,a1,k1,p1,rfl⟩:=qG h2;obtain ⟨W1,hW1⟩:∃W1,W1=((w.alloc (.cells #[.int .i64 o0, .int .i64 n0, .string t0, .slice a0 k0 p0] 36)).alloc (.cells #[.int .i64 o1, .int .i64 n1, .string t1, .slice a1 k1 p1] 36)).alloc (.cells #[.int .i64 0, .int .i64 0, .string ⟨#[]⟩, .slice none 0 0] 36):=⟨_,rfl⟩;obtain ⟨W3,hW3⟩:∃W3,W3=(W1.alloc (.cells #[.string x] 9)).alloc (.cells #[.int .i64 o1, .int .i64 n1, .string t1, .slice a1 k1 p1] 36):=⟨_,rfl⟩;have z1:W1.heap.size=w.heap.size + 3:=by rw [hW1];simp
 have z3:W3.heap.size=w.heap.size + 5:=by rw [hW3];simp;omega
 have b1:Below w.heap.size w W1:=by rw [hW1];exact ((ZQ w _).alloc (by simp) _).alloc (by simp;omega) _
 have b3':Below W1.heap.size W1 W3:=by rw [hW3];exact (ZQ W1 _).alloc (by simp) _
 have b3:Below w.heap.size w W3:=b1.trans (b3'.mono (by omega))
 have k2:ya W1 (w.heap.size + 2):=by
  unfold ya;rw [hW1];have:=ZN ((w.alloc (.cells #[.int .i64 o0, .int .i64 n0, .string t0, .slice a0 k0 p0] 36)).alloc (.cells #[.int .i64 o1, .int .i64 n1, .string t1, .slice a1 k1 p1] 36)) (.cells #[.int .i64 0, .int .i64 0, .string ⟨#[]⟩, .slice none 0 0] 36);rwa [World.size_alloc,World.size_alloc] at this
 have hk:zh B u W3:=hu.trans ((Below.keptC b3).mono hBl)
 have hch:zao W3.heap.size W3 [.slice (some ⟨w.heap.size + 3,0,none⟩) 1 1, .slice (some ⟨w.heap.size + 4,0,none⟩) 1 1] [(x,e)]:=by
  refine ⟨_,_,rfl,⟨_,_,rfl,by simp,by simpa using hx,by simp, .inr ⟨w.heap.size + 3,0,rfl,by omega,fun j hj=> ?_⟩⟩,⟨_,_,rfl,by simp, .inr ⟨w.heap.size + 4,0,rfl,by omega,⟨⟨[.int .i64 o1, .int .i64 n1, .string t1, .slice a1 k1 p1],fun j hj=> ?_,zy.keep hk (by omega) e _ h2⟩,trivial⟩⟩⟩⟩
  ·have:j=0:=by simp at hj;omega
   subst this;rw [hW3,ZP _ _ _ (by simp;omega),ZA _ _ _ _ (by omega)];rfl
  ·rw [hW3,ZA _ _ _ _ (by simp;omega)]
   simp
 have hc:=refE_any [(x,e)] (found_one he) f hf W3.heap.size W3 W3 _ _ (zh.refl _ _) (ZL _) hch (zy.keep hk (by omega) f _ h1);have HW:=ZH (And.intro hW1 hW3);have HZ:=ZH (And.intro z1 (And.intro z3 (And.intro b1 b3')));clear hch hk h1 h2 b1 b3 b3' z1 z3 hW1 hW3;go_enter Tryz.func38,Tryz.ntmps38;go_wp2_with fail;rw [<-HW.out.1,<-HW.out.2];refine hc.mono ?_;clear hc;rintro e' w3 ⟨rs,rfl,hat,hb3⟩;obtain ⟨g0,g1,g2,g3,g4,g5,rfl⟩:=qG hat;have hzz:=HZ.out;obtain ⟨c0,c1,c2,c3,cf⟩:=ya.cells (show ya w3 (w.heap.size + 2) from (hb3.block (w.heap.size + 2) (by omega)).trans ((hzz.2.2.2.block (w.heap.size + 2) (by omega)).trans k2));have HAT:=ZH hat;have HB3:=ZH hb3;clear hat hb3 hzz;go_wp2;simp [bodyPost,results,Tryz.results38,go_sem,c0,c1,c2,c3];obtain ⟨z1,z3,b1,b3'⟩:=HZ.out;refine ⟨zcg (n:=w.heap.size + 2) HAT.out (by omega) _ (fun b hb=> by rw [ZC _ _ _ _ (by simp;omega),ZC _ _ _ _ (by simp;omega),ZC _ _ _ _ (by simp;omega),ZC _ _ _ _ (by simp;omega)]) _ (by omega),set4 (b1.trans ((b3'.trans (HB3.out.mono (by omega))).mono (by omega))) (w.heap.size + 1 + 1) (by omega) _ _ _ _⟩
def lvl (n:Nat):ByteArray:=mkB (List.replicate (n + 1) 0)
theorem lvl_inj {a b:Nat} (h:lvl a=lvl b):a=b:=by
 have h1:(zb (lvl a)).length=(zb (lvl b)).length:=by rw [h]
 unfold lvl at h1;rw [yv,yv,List.length_replicate,List.length_replicate] at h1;omega
theorem lvl_size (n:Nat):(lvl n).size≠0:=by unfold lvl;rw [zgO];simp
def posn:List ByteArray->ByteArray->Option Nat
 | [],_=> none
 | b::l,s=> if b=s then some 0 else (posn l s).map (· + 1)
theorem posn_some:∀(l:List ByteArray) (s:ByteArray) (i:Nat),posn l s=some i->∃h:i < l.length,l[i]=s
 | [],s,i,h=> by simp [posn] at h
 | b::l,s,i,h=> by
  rw [posn] at h;by_cases hb:b=s
  ·rw [if_pos hb] at h;cases h;exact ⟨by simp,hb⟩
  ·rw [if_neg hb] at h
   cases hq:posn l s with
   | none=> rw [hq] at h;cases h
   | some j=>
    rw [hq] at h;cases h;obtain ⟨h1,h2⟩:=posn_some l s j hq;exact ⟨by simp;omega,by simpa using h2⟩
theorem posn_none:∀(l:List ByteArray) (s:ByteArray),posn l s=none↔s ∉ l
 | [],s=> by simp [posn]
 | b::l,s=> by
  rw [posn];by_cases hb:b=s
  ·rw [if_pos hb];simp [hb]
  ·rw [if_neg hb,Option.map_eq_none_iff,posn_none l s]
   simp [Ne.symm hb,eq_comm]
theorem posn_map {f:ByteArray->ByteArray}:∀(l:List ByteArray) (s:ByteArray),(∀a∈l,∀b∈l,f a=f b->a=b)->s∈l->posn (l.map f) (f s)=posn l s
 | [],s,_,h=> by simp at h
 | b::l,s,hi,h=> by
  rw [List.map_cons,posn,posn];by_cases hb:b=s
  ·rw [if_pos hb,if_pos (by rw [hb])]
  ·have h':s∈l:=by
    rcases List.mem_cons.1 h with h | h
    ·exact absurd h.symm hb
    ·exact h
   rw [if_neg hb,if_neg (fun e=> hb (hi b (by simp) s h e)),posn_map l s (fun a ha c hc=> hi a (by simp [ha]) c (by simp [hc])) h']
abbrev Sb:=ByteArray->Exp
def ext (σ:Sb) (n:Nat) (B:List ByteArray):Sb:=fun s=> match posn B s with
 | some i=> yq (lvl (n + i))
 | none=> σ s
def tE:Exp->ByteArray
 | .mk _ _ t _=> t
def dtx (σ:Sb) (s:ByteArray):ByteArray:=if s.size=0 then s else tE (σ s)
mutual
def denE (σ:Sb):Exp->Exp
 | .mk op n t kids=> if op=2 then σ t else .mk op n t (denEs σ kids)
def denEs (σ:Sb):List Exp->List Exp
 | []=> []
 | e::es=> denE σ e::denEs σ es
end
mutual
def denT (σ:Sb) (n:Nat):Term->Term
 | .mk o t a d k=> .mk o (dtx σ t) (denEs (ext σ n (zR (.proc (.mk o t a d k)))) a) (denCs (ext σ n (zR (.proc (.mk o t a d k)))) (n + (zR (.proc (.mk o t a d k))).length) d)
   (denTs (ext σ n (zR (.proc (.mk o t a d k)))) (n + (zR (.proc (.mk o t a d k))).length) k)
def denC (σ:Sb) (n:Nat):zg->zg
 | .mk f t j d k=> .mk f (dtx σ t) (j.map fun x=> ⟨dtx σ x.text,x.names.map (dtx (ext σ n (zR (.def_ (.mk f t j d k)))))⟩) (denCs (ext σ n (zR (.def_ (.mk f t j d k)))) (n + (zR (.def_ (.mk f t j d k))).length) d)
   (denTs (ext σ n (zR (.def_ (.mk f t j d k)))) (n + (zR (.def_ (.mk f t j d k))).length) k)
def denTs (σ:Sb) (n:Nat):List Term->List Term
 | []=> []
 | a::l=> denT σ n a::denTs σ n l
def denCs (σ:Sb) (n:Nat):List zg->List zg
 | []=> []
 | a::l=> denC σ n a::denCs σ n l
end
theorem denE_name (σ:Sb) (s:ByteArray):denE σ (yq s)=σ s:=by unfold yq;rw [denE,if_pos rfl]
mutual
theorem denE_congr {σ τ:Sb}:∀e:Exp,okE e->(∀s,fE e (zb s)=true->σ s=τ s)->denE σ e=denE τ e
 | .mk op n t kids,he,h=> by
  unfold okE at he;obtain ⟨h1,h2,h3⟩:=he;rw [denE,denE];by_cases ho:op=2
  ·rw [if_pos ho,if_pos ho]
   exact h t (by rw [fE,(isT_iff (h1 ho).2).2 rfl,Bool.or_true])
  ·rw [if_neg ho,if_neg ho,denEs_congr kids h3 (fun s hs=> h s (by rw [fE,hs,Bool.true_or]))]
theorem denEs_congr {σ τ:Sb}:∀es:List Exp,okEs es->(∀s,fEs es (zb s)=true->σ s=τ s)->denEs σ es=denEs τ es
 | [],_,_=> rfl
 | e::es,he,h=> by
  unfold okEs at he;rw [denEs,denEs,denE_congr e he.1 (fun s hs=> h s (by rw [fEs,hs,Bool.true_or])),denEs_congr es he.2 (fun s hs=> h s (by rw [fEs,hs,Bool.or_true]))]
end
mutual
theorem denE_copy {v:Env} {σ τ:Sb}:∀e:Exp,okE e->(∀s,fE e (zb s)=true->τ s=denE σ (v.becomes s))->denE σ (zeS v e)=denE τ e
 | .mk op n t kids,he,h=> by
  unfold okE at he;obtain ⟨h1,h2,h3⟩:=he;rw [zeS,denE];by_cases ho:op=2
  ·rw [if_pos ho,if_pos ho]
   exact (h t (by rw [fE,(isT_iff (h1 ho).2).2 rfl,Bool.or_true])).symm
  ·rw [if_neg ho,if_neg ho,denE,if_neg ho,denEs_copy kids h3 (fun s hs=> h s (by rw [fE,hs,Bool.true_or]))]
theorem denEs_copy {v:Env} {σ τ:Sb}:∀es:List Exp,okEs es->(∀s,fEs es (zb s)=true->τ s=denE σ (v.becomes s))->denEs σ (jM v es)=denEs τ es
 | [],_,_=> rfl
 | e::es,he,h=> by
  unfold okEs at he;rw [jM,denEs,denEs,denE_copy e he.1 (fun s hs=> h s (by rw [fEs,hs,Bool.true_or])),denEs_copy es he.2 (fun s hs=> h s (by rw [fEs,hs,Bool.or_true]))]
end
theorem text_nm {v:Env} {s t:ByteArray} (h:yS v s=some t):t=dtx v.becomes s:=by
 unfold yS at h;unfold dtx;by_cases hz:s.size=0
 ·rw [if_pos hz] at h ⊢;cases h;rfl
 ·rw [if_neg hz] at h ⊢
  cases hv:v.becomes s with
  | mk op n x k=>
   rw [hv] at h;simp only at h;by_cases ho:op=2
   ·rw [if_pos ho] at h;cases h;rfl
   ·rw [if_neg ho] at h;cases h
theorem texts_nm (v:Env):∀l l':List ByteArray,zbr v l=some l'->l'=l.map (dtx v.becomes)
 | [],l',h=> by rw [zbr] at h;cases h;rfl
 | a::l,l',h=> by
  rw [zbr] at h;cases h1:yS v a with
  | none=> rw [h1] at h;cases h
  | some b=>
   rw [h1] at h;simp only at h;cases h2:zbr v l with
   | none=> rw [h2] at h;cases h
   | some bs=> rw [h2] at h;cases h;rw [List.map_cons,text_nm h1,texts_nm v l bs h2]
def mapJ (f g:ByteArray->ByteArray) (js:List Msg):List Msg:=js.map fun x=> ⟨f x.text,x.names.map g⟩
theorem msgs_nm (v i:Env):∀js js':List Msg,zau v i js=some js'->js'=mapJ (dtx v.becomes) (dtx i.becomes) js
 | [],l',h=> by rw [zau] at h;cases h;rfl
 | a::l,l',h=> by
  rw [zau] at h;cases h1:msgM v i a with
  | none=> rw [h1] at h;cases h
  | some b=>
   rw [h1] at h;simp only at h;cases h2:zau v i l with
   | none=> rw [h2] at h;cases h
   | some bs=>
    rw [h2] at h;cases h;unfold msgM at h1;cases h5:yS v a.text with
    | none=> rw [h5] at h1;cases h1
    | some t=>
     rw [h5] at h1;simp only at h1;cases h6:zbr i a.names with
     | none=> rw [h6] at h1;cases h1
     | some ns=>
      rw [h6] at h1;cases h1;unfold mapJ;rw [List.map_cons,text_nm h5,texts_nm i _ _ h6];have:=msgs_nm v i l bs h2;unfold mapJ at this;rw [<-this]
theorem mapJ_sig (f g:ByteArray->ByteArray) (js:List Msg):(mapJ f g js).map jsig=(js.map jsig).map (rsig f):=by
 unfold mapJ;rw [List.map_map,List.map_map]
 congr 1
 funext j
 simp [jsig,rsig]
theorem mapJ_names (f g:ByteArray->ByteArray):∀js:List Msg,(mapJ f g js).flatMap (·.names)=(js.flatMap (·.names)).map g
 | []=> rfl
 | j::js=> by
  have:=mapJ_names f g js;unfold mapJ at this ⊢;rw [List.map_cons,List.flatMap_cons,List.flatMap_cons,List.map_append,this]
def SigC (f:ByteArray->ByteArray) (c c':zg):Prop:=c'.joins.map jsig=(c.joins.map jsig).map (rsig f)/\(yk c').map gsig=(yk c).map (fun g=> (gsig g).map (rsig f))/\yc c'=(yc c).map f
def SigL (f:ByteArray->ByteArray) (d d':List zg):Prop:=gsig d'=(gsig d).map (rsig f)/\(zO d').map gsig=(zO d).map (fun g=> (gsig g).map (rsig f))/\zi d'=(zi d).map f
theorem SigL.nil (f:ByteArray->ByteArray):SigL f [] []:=⟨rfl,rfl,rfl⟩
theorem SigL.cons {f:ByteArray->ByteArray} {c c':zg} {d d':List zg} (h:SigC f c c') (hd:SigL f d d'):SigL f (c::d) (c'::d'):=by
 obtain ⟨g1,g2,g3⟩:=h;obtain ⟨k1,k2,k3⟩:=hd;refine ⟨by rw [gsig_cons,gsig_cons,List.map_append,g1,k1],?_,by rw [zi,zi,List.map_append,g3,k3]⟩;rw [zO,zO,List.map_append,List.map_append,g2,k2]
theorem SigC.place {f:ByteArray->ByteArray} {t t':ByteArray} {d d':List zg} {k k':List Term} (ht:t'=f t) (h:SigL f d d'):SigC f (.mk 2 t [] d k) (.mk 2 t' [] d' k'):=by
 obtain ⟨g1,g2,g3⟩:=h;refine ⟨rfl,?_,?_⟩
 ·rw [yk,yk,if_pos rfl,if_pos rfl,List.map_cons,List.map_cons,g1,g2]
 ·rw [yc,yc,if_pos rfl,if_pos rfl,List.map_cons,g3,ht]
theorem SigC.rule {f g:ByteArray->ByteArray} {o:Int} {t t':ByteArray} {j:List Msg} {d d':List zg} {k k':List Term} (ho:o≠2):SigC f (.mk o t j d k) (.mk o t' (mapJ f g j) d' k'):=by
 refine ⟨mapJ_sig f g j,?_,?_⟩
 ·rw [yk,yk,if_neg ho,if_neg ho];rfl
 ·rw [yc,yc,if_neg ho,if_neg ho];rfl
mutual
theorem copyC_sigG {W:List UInt8->Prop}:∀(c:zg) (v:Env) (U U':Used) (c':zg),okC W c->xJ v U c=some (c',U')->SigC (dtx v.becomes) c c'
 | .mk f t j d k,v,U,U',c',hok,h=> by
  obtain ⟨t',j',d',U2,k',e1,e2,e3,e4,rfl⟩:=copyC_inv h;unfold okC at hok;obtain ⟨h1,h2,_,h4,_⟩:=hok;by_cases hf2:f=2
  ·obtain rfl:=h1 hf2
   subst hf2;rw [inside_nil (p:= .def_ (.mk 2 t [] d k)) rfl] at e2 e3;rw [zau] at e2;cases e2;exact SigC.place (text_nm e1) (copyCs_sigG d v U U2 d' h4 e3)
  ·rw [msgs_nm _ _ _ _ e2]
   exact SigC.rule hf2
theorem copyCs_sigG {W:List UInt8->Prop}:∀(d:List zg) (v:Env) (U U':Used) (d':List zg),okCs W d->jx v U d=some (d',U')->SigL (dtx v.becomes) d d'
 | [],v,U,U',d',_,h=> by rw [jx] at h;cases h;exact SigL.nil _
 | c::cs,v,U,U',d',hok,h=> by
  unfold okCs at hok;obtain ⟨b,U2,bs,e1,e2,rfl⟩:=copyCs_inv h;exact SigL.cons (copyC_sigG c v U U2 b hok.1 e1) (copyCs_sigG cs v U2 U' bs hok.2 e2)
end
mutual
theorem denC_sig {W:List UInt8->Prop}:∀(c:zg) (σ:Sb) (n:Nat),okC W c->SigC (dtx σ) c (denC σ n c)
 | .mk f t j d k,σ,n,hok=> by
  unfold okC at hok;obtain ⟨h1,h2,_,h4,_⟩:=hok;rw [denC];by_cases hf2:f=2
  ·obtain rfl:=h1 hf2
   subst hf2;exact SigC.place rfl (denCs_sig d σ _ h4)
  ·exact SigC.rule hf2
theorem denCs_sig {W:List UInt8->Prop}:∀(d:List zg) (σ:Sb) (n:Nat),okCs W d->SigL (dtx σ) d (denCs σ n d)
 | [],σ,n,_=> by rw [denCs];exact SigL.nil _
 | c::cs,σ,n,hok=> by
  unfold okCs at hok;rw [denCs];exact SigL.cons (denC_sig c σ n hok.1) (denCs_sig cs σ n hok.2)
end
theorem mem_binds4 {t:ByteArray} {a:List Exp} {d:List zg} {k:List Term} (x:ByteArray):x∈zR (.proc (.mk 4 t a d k))↔x∈zl (zm d) ++ zi d:=by
 have e:zR (.proc (.mk 4 t a d k))=qb d ++ zi d:=by rw [zR,if_pos rfl]
 rw [e,List.mem_append,List.mem_append];unfold qb;rw [mem_chFold];simp
theorem binds_map {f:ByteArray->ByteArray} {o:Int} {t t':ByteArray} {a a':List Exp} {d d':List zg} {k k':List Term} (h:SigL f d d')
  (hinj:∀x∈zR (.proc (.mk o t a d k)),∀y∈zR (.proc (.mk o t a d k)),f x=f y->x=y):zR (.proc (.mk o t' a' d' k'))=(zR (.proc (.mk o t a d k))).map f:=by
 by_cases ho:o=4
 ·subst ho
  obtain ⟨h1,h2,h3⟩:=h;have hg:=groups_sig h1 h2;have ha:=alltexts_ren hg;have e:∀t a d k,zR (.proc (.mk 4 t a d k))=qb d ++ zi d:=fun t a d k=> by rw [zR,if_pos rfl]
  rw [e,e,List.map_append,h3]
  congr 1
  unfold qb;rw [ha];exact chFold_ren _ [] (fun x hx y hy=> hinj x ((mem_binds4 x).2 (List.mem_append_left _ (by simpa using hx))) y ((mem_binds4 y).2 (List.mem_append_left _ (by simpa using hy))))
 ·rw [zR,zR,if_neg ho,if_neg ho];rfl
theorem nodup_get {X:Type} {l:List X} (h:l.Nodup) {i j:Nat} (hi:i < l.length) (hj:j < l.length) (e:l[i]=l[j]):i=j:=by
 have hp:=List.pairwise_iff_getElem.1 h;rcases Nat.lt_trichotomy i j with h1 | h1 | h1
 ·exact absurd e (hp i j hi hj h1)
 ·exact h1
 ·exact absurd e.symm (hp j i hj hi h1)
theorem inside_inj {W:List UInt8->Prop} {v:Env} {U:Used} {p:Part} {m:Nat} (hbase:BaseOk v.base) (hB:okB W p) (hF:Fit W v U (fP p)) (hC:Cov U m) (hm:m + (zR p).length<=4900)
  (hn:((zR p).map zb).Nodup):∀a∈zR p,∀b∈zR p,zaF a (inside v U p).1.frames=zaF b (inside v U p).1.frames->a=b:=by
 intro a ha b hb he;have hne:zR p≠ []:=fun h=> by rw [h] at ha;simp at ha
 unfold inside at he;rw [if_neg hne] at he;obtain ⟨ren,hren⟩:∃ren,ren=v.base.renames v p:=⟨_,rfl⟩;rw [<-hren] at he;simp only at he
 have hsub:ren.Sublist (zR p):=by
  rw [hren];rcases hbase with h | ⟨x,e,h,_,_⟩
  ·rw [h];exact List.Sublist.refl _
  ·rw [h]
   simp only [Base.renames]
   split
   ·exact List.nil_sublist _
   ·exact List.filter_sublist
 have hrn:(ren.map zb).Nodup:=hn.sublist (hsub.map zb);have hrl:=hsub.length_le;obtain ⟨h1,h2,h3⟩:=anew_picks ren ((zR p).foldl zak (fun _=> none)) U hrn;obtain ⟨p1,p2,p3,p4⟩:=zhq ren.length U m hC (by omega);obtain ⟨F,hFd⟩:∃F,F=(ren.foldl xC ((zR p).foldl zak (fun _=> none),U)).1:=⟨_,rfl⟩;rw [<-hFd] at he h2 h3
 have hself:∀x∈zR p,x ∉ ren->F (zb x)=some x:=fun x hx hxr=> by
  rw [h3 _ (fun hm=> by obtain ⟨y,hy,hye⟩:=List.mem_map.1 hm;rw [zjS hye] at hy;exact hxr hy),zfU,if_pos (List.mem_map.2 ⟨x,hx,rfl⟩),zcL]
 have hpick:∀x∈ren,∃i,∃h:i < ren.length,∃h':i < (xS ren.length U).1.length,ren[i]=x/\F (zb x)=some (xS ren.length U).1[i]:=fun x hx=> by
  obtain ⟨i,hi,rfl⟩:=List.mem_iff_getElem.1 hx;have hl:i < (xS ren.length U).1.length:=by rw [picks_len];exact hi
  exact ⟨i,hi,hl,rfl,by rw [h2 i hi,List.getElem?_eq_getElem hl]⟩
 have hU:∀x∈zR p,x ∉ ren->U (zb x)=true:=fun x hx hxr=> (hF.kept (fun h=> hxr (by rw [hren,h];exact hx)) _ (hB x hx).2).1;have hlk:∀x c,F (zb x)=some c->zaF x (F::v.frames)=some c:=fun x c h=> by rw [zaF,h]
 by_cases har:a∈ren
 ·obtain ⟨i,hi,hi',rfl,hia⟩:=hpick a har
  rw [hlk _ _ hia] at he;by_cases hbr:b∈ren
  ·obtain ⟨j,hj,hj',rfl,hjb⟩:=hpick b hbr
   rw [hlk _ _ hjb] at he;have hnd2:(xS ren.length U).1.Nodup:=(List.pairwise_map.1 p2).imp (fun hne e=> hne (congrArg zb e));have:i=j:=nodup_get hnd2 hi' hj' (ZJ he);subst this;rfl
  ·rw [hlk _ _ (hself b hb hbr)] at he
   have:=(p1 _ (ZM hi')).2.1;rw [ZJ he,hU b hb hbr] at this;cases this
 ·rw [hlk _ _ (hself a ha har)] at he
  by_cases hbr:b∈ren
  ·obtain ⟨j,hj,hj',rfl,hjb⟩:=hpick b hbr
   rw [hlk _ _ hjb] at he;have:=(p1 _ (ZM hj')).2.1;rw [<-ZJ he,hU a ha har] at this;cases this
  ·rw [hlk _ _ (hself b hb hbr)] at he
   exact ZJ he
theorem ext_copy {W:List UInt8->Prop} {v:Env} {U:Used} {p:Part} {i:Env×Used} {m:Nat} (h:InOk W v U p i m) (hbase:BaseOk v.base) (hB:okB W p)
  (hinj:∀a∈zR p,∀b∈zR p,zaF a i.1.frames=zaF b i.1.frames->a=b) {σ τ:Sb} {n:Nat} (hτ:∀s,fP p (zb s)=true->τ s=denE σ (v.becomes s)) (s:ByteArray)
  (hs:bndP p (zb s)=true∨fP p (zb s)=true):ext τ n (zR p) s=denE (ext σ n ((zR p).map (dtx i.1.becomes))) (i.1.becomes s):=by
 have hmem:∀x,bndP p (zb x)=true↔x∈zR p:=fun x=> by
  rw [bndP_iff];exact ⟨fun ⟨b,hb,he⟩=> by rw [zjS he];exact hb,fun hx=> ⟨x,hx,rfl⟩⟩
 have hbx:∀x∈zR p,∃c,zaF x i.1.frames=some c/\c.size≠0/\i.1.becomes x=yq c/\dtx i.1.becomes x=c:=fun x hx=> by
  obtain ⟨c,h1,h2,_⟩:=h.new x ((hmem x).2 hx);have h3:i.1.becomes x=yq c:=by rw [becomes_look,h1]
  exact ⟨c,h1,h2,h3,by unfold dtx;rw [if_neg (hB x hx).1,h3];rfl⟩
 cases hb:bndP p (zb s) with
 | true=>
  have hsm:=(hmem s).1 hb;obtain ⟨c,h1,h2,h3,h4⟩:=hbx s hsm;rw [h3,denE_name]
  have hp:posn ((zR p).map (dtx i.1.becomes)) (dtx i.1.becomes s)=posn (zR p) s:=posn_map _ s (fun a ha b hb e=> by
   obtain ⟨ca,a1,_,_,a4⟩:=hbx a ha;obtain ⟨cb,b1,_,_,b4⟩:=hbx b hb;rw [a4,b4] at e;exact hinj a ha b hb (by rw [a1,b1,e])) hsm
  rw [h4] at hp;unfold ext;rw [hp];cases hq:posn (zR p) s with
  | none=> exact absurd hsm ((posn_none _ _).1 hq)
  | some j=> rfl
 | false=>
  have hf:fP p (zb s)=true:=hs.elim (fun h=> by rw [hb] at h;cases h) id;have hns:s ∉ zR p:=fun hx=> by rw [(hmem s).2 hx] at hb;cases hb
  have e1:ext τ n (zR p) s=τ s:=by
   unfold ext;rw [(posn_none _ _).2 hns]
  rw [e1,hτ s hf,h.becomes_old s hb]
  have hfree:∀y,y ∉ (zR p).map (dtx i.1.becomes)->ext σ n ((zR p).map (dtx i.1.becomes)) y=σ y:=fun y hy=> by
   unfold ext;rw [(posn_none _ _).2 hy]
  have hap:∀y,fE (v.becomes s) (zb y)=true->y ∉ (zR p).map (dtx i.1.becomes):=fun y hy hm=> by
   obtain ⟨b,hbm,rfl⟩:=List.mem_map.1 hm;obtain ⟨c,b1,_,_,b4⟩:=hbx b hbm;rw [b4] at hy;exact h.apart s b c _ hf hb ((hmem b).2 hbm) b1 hy rfl
  rcases becomes_shape hbase s with ⟨c,hc⟩ | hok
  ·rw [hc,denE_name,denE_name]
   refine (hfree c fun hm=> ?_).symm;obtain ⟨b,hbm,he⟩:=List.mem_map.1 hm;obtain ⟨c',b1,b2,_,b4⟩:=hbx b hbm;refine hap c ?_ hm;rw [hc,fE_nameE];exact (isT_iff (by rw [<-he,b4];exact b2)).2 rfl
  ·exact denE_congr _ hok fun y hy=> (hfree y (hap y hy)).symm
theorem dtx_copy {v:Env} {t t':ByteArray} {σ τ:Sb} (h:yS v t=some t') (hb:BaseOk v.base) (hτ:t.size≠0->τ t=denE σ (v.becomes t)) (hz:t.size≠0->t'.size≠0):dtx σ t'=dtx τ t:=by
 unfold yS at h;by_cases h0:t.size=0
 ·rw [if_pos h0] at h;cases h
  unfold dtx;rw [if_pos h0,if_pos h0]
 ·rw [if_neg h0] at h
  unfold dtx;rw [if_neg h0,if_neg (hz h0),hτ h0];rcases becomes_shape hb t with ⟨c,hc⟩ | hc
  ·rw [hc] at h ⊢
   unfold yq at h;simp at h;rw [denE_name,h]
  ·cases hv:v.becomes t with
   | mk op n x kids=>
    rw [hv] at h hc;simp only at h;by_cases ho:op=2
    ·rw [if_pos ho] at h;cases h
     rw [denE,if_pos ho]
    ·rw [if_neg ho] at h;cases h
def NZ (v:Env):Prop:=∀n c,zaF n v.frames=some c->c.size≠0
theorem NZ.inside {W:List UInt8->Prop} {v:Env} {U:Used} {p:Part} {i:Env×Used} {m:Nat} (h:NZ v) (hI:InOk W v U p i m):NZ i.1:=fun n c hl=> by
 cases hb:bndP p (zb n) with
 | true=>
  obtain ⟨c',h1,h2,_⟩:=hI.new n hb;rw [h1] at hl;cases hl;exact h2
 | false=>
  rw [hI.old n hb] at hl;exact h n c hl
theorem text_pos {v:Env} (hb:BaseOk v.base) (hz:NZ v) {t t':ByteArray} (h:yS v t=some t') (h0:t.size≠0):t'.size≠0:=by
 unfold yS at h;rw [if_neg h0,becomes_look] at h;cases hl:zaF t v.frames with
 | some c=>
  rw [hl] at h;unfold yq at h;simp at h;rw [<-h];exact hz t c hl
 | none=>
  rw [hl] at h;rcases hb with hb | ⟨x,e,hb,he,_⟩
  ·rw [hb] at h
   simp [Base.becomes,yq] at h;rw [<-h];exact h0
  ·rw [hb] at h
   simp only [Base.becomes] at h
   split at h
   ·rename_i op n y kids heq
    split at heq
    ·rw [heq] at he
     unfold okE at he;by_cases ho:op=2
     ·rw [if_pos ho] at h;cases h;exact (he.1 ho).2
     ·rw [if_neg ho] at h;cases h
    ·unfold yq at heq
     cases heq;simp at h;rw [<-h];exact h0
theorem injD {W:List UInt8->Prop} {v:Env} {U:Used} {p:Part} {i:Env×Used} {m:Nat} (h:InOk W v U p i m) (hB:okB W p) (hinj:∀a∈zR p,∀b∈zR p,zaF a i.1.frames=zaF b i.1.frames->a=b):
  ∀a∈zR p,∀b∈zR p,dtx i.1.becomes a=dtx i.1.becomes b->a=b:=by
 have hbx:∀x∈zR p,zaF x i.1.frames=some (dtx i.1.becomes x):=fun x hx=> by
  obtain ⟨c,h1,h2,_⟩:=h.new x ((bndP_iff p _).2 ⟨x,hx,rfl⟩);have h3:i.1.becomes x=yq c:=by rw [becomes_look,h1]
  rw [h1];unfold dtx;rw [if_neg (hB x hx).1,h3];rfl
 intro a ha b hb e;exact hinj a ha b hb (by rw [hbx a ha,hbx b hb,e])
theorem shapedC_text {f:Int} {t:ByteArray} {j:List Msg} {d:List zg} {k:List Term} (h:(Part.def_ (.mk f t j d k)).shaped=true) (hf:f≠2):t.size=0:=by
 simp only [Part.shaped,yB,Bool.or_eq_true,Bool.and_eq_true,beq_iff_eq] at h;rcases h with ⟨⟨⟨⟨_,h1⟩,_⟩,_⟩,_⟩ | ⟨⟨⟨⟨h1,_⟩,_⟩,_⟩,_⟩
 ·exact h1
 ·exact absurd h1 hf
theorem msgs_texts (v i:Env):∀js js':List Msg,zau v i js=some js'->∀x∈js,∃t,yS v x.text=some t
 | [],_,_,x,hx=> by simp at hx
 | a::l,l',h,x,hx=> by
  rw [zau] at h;cases h1:msgM v i a with
  | none=> rw [h1] at h;cases h
  | some b=>
   rw [h1] at h;simp only at h;cases h2:zau v i l with
   | none=> rw [h2] at h;cases h
   | some bs=>
    rcases List.mem_cons.1 hx with rfl | hx
    ·unfold msgM at h1
     cases h5:yS v x.text with
     | none=> rw [h5] at h1;cases h1
     | some t=> exact ⟨t,rfl⟩
    ·exact msgs_texts v i l bs h2 x hx
theorem dtx_in {W:List UInt8->Prop} {v:Env} {U:Used} {p:Part} {i:Env×Used} {m:Nat} (h:InOk W v U p i m) (hB:okB W p) {σ' τ':Sb} (hext:∀s,bndP p (zb s)=true->τ' s=denE σ' (i.1.becomes s)) (y:ByteArray) (hy:y∈zR p):
  dtx σ' (dtx i.1.becomes y)=dtx τ' y:=by
 have hb:=(bndP_iff p _).2 ⟨y,hy,rfl⟩;obtain ⟨c,h1,h2,_⟩:=h.new y hb;have h3:i.1.becomes y=yq c:=by rw [becomes_look,h1]
 have h4:dtx i.1.becomes y=c:=by unfold dtx;rw [if_neg (hB y hy).1,h3];rfl
 rw [h4];unfold dtx;rw [if_neg h2,if_neg (hB y hy).1,hext y hb,h3,denE_name]
mutual
theorem copyT_den {W:List UInt8->Prop}:∀(t:Term) (v:Env) (U U':Used) (t':Term) (m lev:Nat),BaseOk v.base->NZ v->okT W t->NdP QA (.proc t)->(qL lev t).length<=60->Fit W v U (fT t)->Cov U m->m + bcT t<=4900->yl v U t=some (t',U')->
  ∀(σ τ:Sb) (n:Nat),(∀s,fT t (zb s)=true->τ s=denE σ (v.becomes s))->denT σ n t'=denT τ n t
 | .mk o t a d ks,v,U,U',t',m,lev,hb,hnz,hok,hnd,h60,hF,hC,hm,h,σ,τ,n,hτ=> by
  obtain ⟨p,hp⟩:∃p,p=Part.proc (.mk o t a d ks):=⟨_,rfl⟩;have hdefs:∀c∈d,NdP QA (.def_ c):=fun c hc=> hnd.part (yu hc);have hkids:∀c∈ks,NdP QA (.proc c):=fun c hc=> hnd.part (qV hc);unfold okT at hok;obtain ⟨h1,h2,h3,h4⟩:=hok;have hz:p.size<=60:=by rw [hp,Part.size,yP 0 lev];exact h60
  rw [qL] at h60;simp only [List.length_cons,List.length_append] at h60;rw [bcT] at hm;obtain ⟨x',d',U2,k',e1,e3,e4,rfl⟩:=copyT_inv h;rw [<-hp] at h2 hm e3 e4 ⊢;have hFp:Fit W v U (fP p):=by rw [hp];exact hF
  have hI:=inside_ok hb h2 (p:=p) hFp hz hC (by omega);have hinj:=inside_inj hb h2 (p:=p) hFp hC (by omega) (by rw [hp];exact hnd.self.2);obtain ⟨i,hi⟩:∃i,i=inside v U p:=⟨_,rfl⟩;rw [<-hi] at hI hinj e3 e4 ⊢;have hb':BaseOk i.1.base:=by rw [hI.base];exact hb
  have hnz':=hnz.inside hI;have hfp:∀k,fP p k=(((fEs a k || fCs d k || fTs ks k) && !bndP p k) || isT t k):=fun k=> by rw [hp];show fT _ k=_;rw [fT]
  have hin:∀k,(fEs a k || fCs d k || fTs ks k)=true->bndP p k=true∨fP p k=true:=fun k hk=> by
   cases hbk:bndP p k with
   | true=> exact .inl rfl
   | false=> exact .inr (by rw [hfp,hbk];simp only [Bool.not_false,Bool.and_true];rw [hk];rfl)
  have hfit:=hI.fits (fun k=> fEs a k || fCs d k || fTs ks k) hin;obtain ⟨c1,c2,c3⟩:=copyCs_free d i.1 i.2 U2 d' (m + (zR p).length) (lev + 1) hb' h3 (by omega) (hfit.less (fun _ h=> h) (fun k hk=> by simp [hk])) hI.cov (by omega) e3;have hτp:∀s,fP p (zb s)=true->τ s=denE σ (v.becomes s):=fun s hs=> hτ s (by rw [hp] at hs;exact hs);have hext:=ext_copy (n:=n) hI hb h2 hinj hτp
  have hbm:zR (.proc (.mk o x' (jM i.1 a) d' k'))=(zR p).map (dtx i.1.becomes):=by
   have hq:=injD hI h2 hinj;rw [hp] at hq ⊢;exact binds_map (copyCs_sigG d i.1 i.2 U2 d' h3 e3) hq
  rw [denT,denT,hbm,List.length_map,<-hp];have g1:dtx σ x'=dtx τ t:=dtx_copy e1 hb (fun h0=> hτ t (by rw [fT,(isT_iff h0).2 rfl,Bool.or_true])) (fun h0=> text_pos hb hnz e1 h0);have g2:denEs (ext σ n ((zR p).map (dtx i.1.becomes))) (jM i.1 a)=denEs (ext τ n (zR p)) a:=denEs_copy a h1 (fun s hs=> hext s (hin _ (by rw [hs];rfl)))
  have g3:denCs (ext σ n ((zR p).map (dtx i.1.becomes))) (n + (zR p).length) d'=denCs (ext τ n (zR p)) (n + (zR p).length) d:=
   copyCs_den d i.1 i.2 U2 d' (m + (zR p).length) (lev + 1) hb' hnz' h3 hdefs (by omega) (hfit.less (fun _ h=> h) (fun k hk=> by simp [hk])) hI.cov (by omega) e3 _ _ _
    (fun s hs=> hext s (hin _ (by rw [hs];simp)))
    (fun s hs=> hext s (.inl ((bndP_iff p _).2 ⟨s,by
     have ho:o=4:=by
      rcases shapedT_cases hnd.self.1 with ho | hd
      ·exact ho
      ·subst hd;simp [zm,zO,zl,zS,zi] at hs
     rw [hp];subst ho;exact (mem_binds4 s).2 hs,rfl⟩)))
  have g4:denTs (ext σ n ((zR p).map (dtx i.1.becomes))) (n + (zR p).length) k'=denTs (ext τ n (zR p)) (n + (zR p).length) ks:=
   copyTs_den ks i.1 U2 U' k' (m + (zR p).length + bcCs d) (lev + 1) hb' hnz' h4 hkids (by omega) (hfit.less c2 (fun k hk=> by simp [hk])) c3 (by omega) e4 _ _ _
    (fun s hs=> hext s (hin _ (by rw [hs,Bool.or_true])))
  rw [g1,g2,g3,g4]
theorem copyC_den {W:List UInt8->Prop}:∀(t:zg) (v:Env) (U U':Used) (t':zg) (m lev:Nat),BaseOk v.base->NZ v->okC W t->NdP QA (.def_ t)->(qF lev t).length<=60->Fit W v U (fC t)->Cov U m->m + bcC t<=4900->xJ v U t=some (t',U')->
  ∀(σ τ:Sb) (n:Nat),(∀s,fC t (zb s)=true->τ s=denE σ (v.becomes s))->(∀s∈txC t ++ yc t,τ s=denE σ (v.becomes s))->denC σ n t'=denC τ n t
 | .mk f t j d ks,v,U,U',t',m,lev,hb,hnz,hok,hnd,h60,hF,hC,hm,h,σ,τ,n,hτ,hx=> by
  obtain ⟨p,hp⟩:∃p,p=Part.def_ (.mk f t j d ks):=⟨_,rfl⟩;have hdefs:∀c∈d,NdP QA (.def_ c):=fun c hc=> hnd.part (ji hc);have hkids:∀c∈ks,NdP QA (.proc c):=fun c hc=> hnd.part (jl hc);unfold okC at hok;obtain ⟨hj2,hd2,h2,h3,h4⟩:=hok;have hz:p.size<=60:=by rw [hp,Part.size,yP 0 lev];exact h60
  rw [qF] at h60;simp only [List.length_cons,List.length_append] at h60;rw [bcC] at hm;obtain ⟨x',j',d',U2,k',e1,e2,e3,e4,rfl⟩:=copyC_inv h;rw [<-hp] at h2 hm e2 e3 e4;have hFp:Fit W v U (fP p):=by rw [hp];exact hF
  have hI:=inside_ok hb h2 (p:=p) hFp hz hC (by omega);have hinj:=inside_inj hb h2 (p:=p) hFp hC (by omega) (by rw [hp];exact hnd.self.2);obtain ⟨i,hi⟩:∃i,i=inside v U p:=⟨_,rfl⟩;rw [<-hi] at hI hinj e2 e3 e4;have hb':BaseOk i.1.base:=by rw [hI.base];exact hb
  have hnz':=hnz.inside hI;have hfp:∀k,fP p k=((fCs d k || fTs ks k) && !bndP p k):=fun k=> by rw [hp];show fC _ k=_;rw [fC]
  have hin:∀k,(fCs d k || fTs ks k)=true->bndP p k=true∨fP p k=true:=fun k hk=> by
   cases hbk:bndP p k with
   | true=> exact .inl rfl
   | false=> exact .inr (by rw [hfp,hbk,hk];rfl)
  have hfit:=hI.fits (fun k=> fCs d k || fTs ks k) hin;obtain ⟨c1,c2,c3⟩:=copyCs_free d i.1 i.2 U2 d' (m + (zR p).length) (lev + 1) hb' h3 (by omega) (hfit.less (fun _ h=> h) (fun k hk=> by simp [hk])) hI.cov (by omega) e3;have hτp:∀s,fP p (zb s)=true->τ s=denE σ (v.becomes s):=fun s hs=> hτ s (by rw [hp] at hs;exact hs);have hext:=ext_copy (n:=n) hI hb h2 hinj hτp;have hj':=msgs_nm _ _ _ _ e2
  have hbm:zR (.def_ (.mk f x' j' d' k'))=(zR p).map (dtx i.1.becomes):=by
   rw [hj',hp];exact mapJ_names _ _ _
  have g1:dtx σ x'=dtx τ t:=by
   by_cases hf:f=2
   ·exact dtx_copy e1 hb (fun _=> hx t (List.mem_append_right _ (by rw [yc,if_pos hf];simp))) (fun h0=> text_pos hb hnz e1 h0)
   ·have h0:=shapedC_text hnd.self.1 hf
    exact dtx_copy e1 hb (fun h=> absurd h0 h) (fun h=> absurd h0 h)
  have g0:(j'.map fun x=> (⟨dtx σ x.text,x.names.map (dtx (ext σ n ((zR p).map (dtx i.1.becomes))))⟩:Msg))=j.map fun x=> ⟨dtx τ x.text,x.names.map (dtx (ext τ n (zR p)))⟩:=by
   rw [hj'];unfold mapJ;rw [List.map_map];refine List.map_congr_left fun x hxj=> ?_;obtain ⟨y,hy⟩:=msgs_texts _ _ _ _ e2 x hxj;have hf:f≠2:=fun hf=> by rw [hj2 hf] at hxj;simp at hxj
   have q1:dtx σ (dtx v.becomes x.text)=dtx τ x.text:=by
    rw [<-text_nm hy];exact dtx_copy hy hb (fun _=> hx x.text (List.mem_append_left _ (List.mem_append_left _ (List.mem_map.2 ⟨x,hxj,rfl⟩)))) (fun h0=> text_pos hb hnz hy h0)
   have q2:(x.names.map (dtx i.1.becomes)).map (dtx (ext σ n ((zR p).map (dtx i.1.becomes))))=x.names.map (dtx (ext τ n (zR p))):=by
    rw [List.map_map];refine List.map_congr_left fun y hy=> ?_;exact dtx_in hI h2 (fun s hs=> hext s (.inl hs)) y (by rw [hp];exact List.mem_flatMap.2 ⟨x,hxj,hy⟩)
   simp only [Function.comp];rw [q1,q2]
  have g3:denCs (ext σ n ((zR p).map (dtx i.1.becomes))) (n + (zR p).length) d'=denCs (ext τ n (zR p)) (n + (zR p).length) d:=by
   refine copyCs_den d i.1 i.2 U2 d' (m + (zR p).length) (lev + 1) hb' hnz' h3 hdefs (by omega) (hfit.less (fun _ h=> h) (fun k hk=> by simp [hk])) hI.cov (by omega) e3 _ _ _
    (fun s hs=> hext s (hin _ (by rw [hs];rfl))) (fun s hs=> ?_)
   by_cases hf:f=2
   ·obtain rfl:=hj2 hf
    have hB0:zR p= []:=by rw [hp];rfl
    have hi0:i=(v,U):=by rw [hi];exact inside_nil hB0
    rw [hB0,hi0];refine hx s ?_;rw [txC,yk,yc,if_pos hf,if_pos hf];rcases List.mem_append.1 hs with hs | hs
    ·exact List.mem_append_left _ (List.mem_append_right _ (by simpa [zm,zg.joins] using hs))
    ·exact List.mem_append_right _ (List.mem_cons_of_mem _ hs)
   ·rw [hd2 hf] at hs
    simp [zm,zO,zl,zS,zi] at hs
  have g4:denTs (ext σ n ((zR p).map (dtx i.1.becomes))) (n + (zR p).length) k'=denTs (ext τ n (zR p)) (n + (zR p).length) ks:=
   copyTs_den ks i.1 U2 U' k' (m + (zR p).length + bcCs d) (lev + 1) hb' hnz' h4 hkids (by omega) (hfit.less c2 (fun k hk=> by simp [hk])) c3 (by omega) e4 _ _ _
    (fun s hs=> hext s (hin _ (by rw [hs,Bool.or_true])))
  rw [denC,denC,hbm,List.length_map,<-hp,g0,g1,g3,g4]
theorem copyTs_den {W:List UInt8->Prop}:∀(t:List Term) (v:Env) (U U':Used) (t':List Term) (m lev:Nat),BaseOk v.base->NZ v->okTs W t->(∀x∈t,NdP QA (.proc x))->(yj lev t).length<=60->Fit W v U (fTs t)->Cov U m->m + bcTs t<=4900->ju v U t=some (t',U')->
  ∀(σ τ:Sb) (n:Nat),(∀s,fTs t (zb s)=true->τ s=denE σ (v.becomes s))->denTs σ n t'=denTs τ n t
 | [],v,U,U',t',m,lev,hb,hnz,hok,hnd,h60,hF,hC,hm,h,σ,τ,n,hτ=> by
  rw [ju] at h;cases h;rw [denTs,denTs]
 | c::cs,v,U,U',t',m,lev,hb,hnz,hok,hnd,h60,hF,hC,hm,h,σ,τ,n,hτ=> by
  unfold okTs at hok;rw [yj,List.length_append] at h60;rw [bcTs] at hm;obtain ⟨b,U2,bs,e1,e2,rfl⟩:=copyTs_inv h;have hF1:Fit W v U (fT c):=hF.less (fun _ h=> h) (fun k hk=> by rw [fTs,hk,Bool.true_or]);obtain ⟨a1,a2,a3⟩:=copyT_free c v U U2 b m lev hb hok.1 (by omega) hF1 hC (by omega) e1
  rw [denTs,denTs,copyT_den c v U U2 b m lev hb hnz hok.1 (hnd c (by simp)) (by omega) hF1 hC (by omega) e1 σ τ n (fun s hs=> hτ s (by rw [fTs,hs,Bool.true_or])),
   copyTs_den cs v U2 U' bs (m + bcT c) lev hb hnz hok.2 (fun x hx=> hnd x (by simp [hx])) (by omega) (hF.less a2 (fun k hk=> by rw [fTs,hk,Bool.or_true])) a3 (by omega) e2 σ τ n (fun s hs=> hτ s (by rw [fTs,hs,Bool.or_true]))]
theorem copyCs_den {W:List UInt8->Prop}:∀(t:List zg) (v:Env) (U U':Used) (t':List zg) (m lev:Nat),BaseOk v.base->NZ v->okCs W t->(∀x∈t,NdP QA (.def_ x))->(qu lev t).length<=60->Fit W v U (fCs t)->Cov U m->m + bcCs t<=4900->jx v U t=some (t',U')->
  ∀(σ τ:Sb) (n:Nat),(∀s,fCs t (zb s)=true->τ s=denE σ (v.becomes s))->(∀s∈zl (zm t) ++ zi t,τ s=denE σ (v.becomes s))->denCs σ n t'=denCs τ n t
 | [],v,U,U',t',m,lev,hb,hnz,hok,hnd,h60,hF,hC,hm,h,σ,τ,n,hτ,hx=> by
  rw [jx] at h;cases h;rw [denCs,denCs]
 | c::cs,v,U,U',t',m,lev,hb,hnz,hok,hnd,h60,hF,hC,hm,h,σ,τ,n,hτ,hx=> by
  unfold okCs at hok;rw [qu,List.length_append] at h60;rw [bcCs] at hm;obtain ⟨b,U2,bs,e1,e2,rfl⟩:=copyCs_inv h;have hF1:Fit W v U (fC c):=hF.less (fun _ h=> h) (fun k hk=> by rw [fCs,hk,Bool.true_or]);obtain ⟨a1,a2,a3⟩:=copyC_free c v U U2 b m lev hb hok.1 (by omega) hF1 hC (by omega) e1
  have hx1:∀s∈txC c ++ yc c,τ s=denE σ (v.becomes s):=fun s hs=> hx s (by
   rcases List.mem_append.1 hs with hs | hs
   ·exact List.mem_append_left _ ((mem_tx_cons c cs s).2 (List.mem_append_left _ hs))
   ·exact List.mem_append_right _ (by rw [zi];exact List.mem_append_left _ hs))
  have hx2:∀s∈zl (zm cs) ++ zi cs,τ s=denE σ (v.becomes s):=fun s hs=> hx s (by
   rcases List.mem_append.1 hs with hs | hs
   ·exact List.mem_append_left _ ((mem_tx_cons c cs s).2 (List.mem_append_right _ hs))
   ·exact List.mem_append_right _ (by rw [zi];exact List.mem_append_right _ hs))
  rw [denCs,denCs,copyC_den c v U U2 b m lev hb hnz hok.1 (hnd c (by simp)) (by omega) hF1 hC (by omega) e1 σ τ n (fun s hs=> hτ s (by rw [fCs,hs,Bool.true_or])) hx1,
   copyCs_den cs v U2 U' bs (m + bcC c) lev hb hnz hok.2 (fun x hx=> hnd x (by simp [hx])) (by omega) (hF.less a2 (fun k hk=> by rw [fCs,hk,Bool.or_true])) a3 (by omega) e2 σ τ n (fun s hs=> hτ s (by rw [fCs,hs,Bool.or_true])) hx2]
end
end
end Go.Proofs.YtjmlaeofjjhfmaaGreat
