/- Lemmas. -/
import Derived.Test.YtjmlaeofjjhfmaaGreatS22
import Derived.Test.YtjmlaeofjjhfmaaGreatS12
set_option linter.unusedVariables false
set_option linter.unusedSimpArgs false
set_option maxRecDepth 10000
set_option maxHeartbeats 16000000
namespace Go.Proofs.YtjmlaeofjjhfmaaGreat
section
open Go.RowKit Go.Shelf Go.Maps
theorem zcP (l a b:List ByteArray):qp l (a ++ b)=qp (qp l a) b:=by simp [qp]
theorem zcM:∀(xs l:List ByteArray) (x:ByteArray),x∈qp l xs->x∈l∨x∈xs
 | [],l,x,h=> .inl h
 | y::xs,l,x,h=> by
  have e:qp l (y::xs)=qp (qU l y) xs:=by simp [qp]
  rw [e] at h;rcases zcM xs _ x h with h | h
  ·unfold qU at h
   split at h
   ·exact .inl h
   ·rcases List.mem_append.1 h with h | h
    ·exact .inl h
    ·exact .inr (by rw [List.mem_singleton.1 h];exact List.mem_cons_self ..)
  ·exact .inr (List.mem_cons_of_mem _ h)
def qP (gs:List (List zg)) (i j l:Nat):List ByteArray:=
 zl (gs.take i) ++ (match gs[i]? with
  | none=> []
  | some g=> zS (g.take j) ++ (match g[j]? with
   | none=> []
   | some c=> (c.joins.take l).map (·.text)))
theorem zeI {gs:List (List zg)} {i j l:Nat} (hi:i < gs.length) (hj:j < (gs[i]).length) (hl:l < ((gs[i])[j]).joins.length):qP gs i j (l + 1)=qP gs i j l ++ [(((gs[i])[j]).joins[l]).text]:=by
 unfold qP;simp only [List.getElem?_eq_getElem hi,List.getElem?_eq_getElem hj];rw [ZT hl,List.map_append,List.map_cons,List.map_nil];simp only [List.append_assoc]
theorem zeG {gs:List (List zg)} {i j:Nat} (hi:i < gs.length) (hj:j < (gs[i]).length):qP gs i (j + 1) 0=qP gs i j ((gs[i])[j]).joins.length:=by
 unfold qP;simp only [List.getElem?_eq_getElem hi,List.getElem?_eq_getElem hj,List.take_length,List.take_zero,List.map_nil];rw [zb0 _ _ hj]
 congr 1
 cases h:(gs[i])[j + 1]? with
 | none=> simp
 | some c=> simp
theorem zdH {gs:List (List zg)} {i:Nat} (hi:i < gs.length):qP gs (i + 1) 0 0=qP gs i (gs[i]).length 0:=by
 unfold qP;simp only [List.getElem?_eq_getElem hi,List.take_zero,List.map_nil,List.take_length];rw [zaZ _ _ hi];have h1:(gs[i])[(gs[i]).length]?=none:=by simp
 rw [h1];cases h:gs[i + 1]? with
 | none=> simp [zS]
 | some g=>
  simp only [zS,List.flatMap_nil,List.nil_append];cases h2:g[0]? with
  | none=> simp
  | some c=> simp
theorem zdJ (gs:List (List zg)):qP gs 0 0 0= []:=by
 unfold qP;simp only [List.take_zero,zl,List.flatMap_nil,List.nil_append,zS,List.map_nil];cases h:gs[0]? with
 | none=> rfl
 | some g=>
  simp only;cases h2:g[0]? with
  | none=> rfl
  | some c=> rfl
theorem zeL (gs:List (List zg)):qP gs gs.length 0 0=zl gs:=by
 unfold qP;rw [List.take_length];simp
theorem zga {gs:List (List zg)} (i j l:Nat):(qP gs i j l).length<=(zl gs).length:=by
 have h0:zl gs=zl (gs.take i) ++ zl (gs.drop i):=by
  unfold zl;rw [<-List.flatMap_append,List.take_append_drop]
 rw [h0];unfold qP;rw [List.length_append,List.length_append];refine Nat.add_le_add_left ?_ _;cases hg:gs[i]? with
 | none=> simp
 | some g=>
  obtain ⟨hi,rfl⟩:=List.getElem?_eq_some_iff.1 hg;rw [List.drop_eq_getElem_cons hi];have h1:zl (gs[i]::gs.drop (i + 1))=zS gs[i] ++ zl (gs.drop (i + 1)):=by unfold zl;rw [List.flatMap_cons]
  have h3:(zl (gs[i]::gs.drop (i + 1))).length=(zS gs[i]).length + (zl (gs.drop (i + 1))).length:=by rw [h1,List.length_append]
  rw [h3];refine Nat.le_trans ?_ (Nat.le_add_right _ _)
  have h2:zS gs[i]=zS ((gs[i]).take j) ++ zS ((gs[i]).drop j):=by
   unfold zS;rw [<-List.flatMap_append,List.take_append_drop]
  simp only;rw [h2,List.length_append,List.length_append];refine Nat.add_le_add_left ?_ _;cases hc:(gs[i])[j]? with
  | none=> simp
  | some c=>
   obtain ⟨hj,rfl⟩:=List.getElem?_eq_some_iff.1 hc;rw [List.drop_eq_getElem_cons hj];simp only [zS,List.flatMap_cons,List.length_append,List.length_map,List.length_take];omega
theorem Seen.reX {A sb X X':Nat} {ch pl:List ByteArray} {vch vm va vp:Value} {bad:Bool} {ms ats:List Value} {W:World} (h:Seen A sb X ch pl vch vm va vp bad ms ats W) (hX:W.heap.size<=X'):Seen A sb X' ch pl vch vm va vp bad ms ats W:=
 { h with
  x1:=fun e=> by have:=(h.rch.lt _ e).2;omega
  x2:=fun e=> by have:=(h.rm.lt _ e).2;omega
  x3:=fun e=> by have:=(h.ra.lt _ e).2;omega
  x4:=fun e=> by have:=(h.rp.lt _ e).2;omega }
theorem xh {W:World} {A g n c:Nat} {ss:List ByteArray} (h:W.ownsRow A 9 1 (.slice (some ⟨g,0,none⟩) n c) n (zn ss)) (k:Nat) (hk:k < ss.length):W.cell? ⟨g,k,none⟩=some (.string ss[k]):=by
 obtain ⟨a',c',he,_,hcell⟩:=zJ (by omega) h
 injection he with e1 e2 e3
 have hl:=h.1;rcases hcell with h0 | ⟨g',hg',_,_,hc⟩
 ·rw [h0] at hl;simp [zn] at hl;subst hl;simp at hk
 ·rw [hg'] at e1
  have e4:g=g':=by injection e1 with e1;injection e1
  subst e4;have:=hc k (by simp [zn];exact hk);rw [Nat.zero_add] at this;rw [this];simp [zn]
structure Lk (U:List UInt8->Int×Int) (n0 xb:Nat) (gs:List (List zg)) (pl:List ByteArray) (w w2:World) (i j l:Nat) (W:World):Prop where
 seen:xQ U (n0 + 1) n0 xb (qp [] (qP gs i j l)) pl W
 below:Below n0 w W
 row:W.heap[xb]?=w2.heap[xb]?
 lt:xb < W.heap.size
theorem zlm (B:Nat) (u:World) (d:List zg) (U:List UInt8->Int×Int) (hd:zZ d<=900) (hN:(zl (zm d)).length<=5000) (hU:zfo d U) (a:Option Addr) (cap:Nat) (hdl:d.length<=9223372036854775807)
  (hsrc:d.length=0∨∃b off,a=some ⟨b,off,none⟩/\b < B/\zr B u b off d) (w:World) (hu:zh B u w) (hB:B<=w.heap.size):
  Calls Tryz.prog 70 #[.slice a d.length cap] w fun e w'=> ∃X,e= .returned (.tuple #[.pointer (some ⟨w.heap.size,0,none⟩), .bool true])/\xQ U (w.heap.size + 1) w.heap.size X (qb d) (zi d) w'/\Below w.heap.size w w':=by
 obtain ⟨hU1,hU2,hU3⟩:=hU;obtain ⟨W0,hW0⟩:∃W0,W0=w.alloc (.cells #[.slice none 0 0, .slice none 0 0, .slice none 0 0, .slice none 0 0, .bool false] 95):=⟨_,rfl⟩;have hb0:Below w.heap.size w W0:=by rw [hW0];exact ZQ w _
 have hz:W0.heap.size=w.heap.size + 1:=by rw [hW0];simp
 have hS0:xQ U (w.heap.size + 1) w.heap.size w.heap.size [] [] W0:=by
  refine ⟨.slice none 0 0, .slice none 0 0, .slice none 0 0, .slice none 0 0,?_⟩;exact { box:=(by rw [hW0];exact ZN w _),low:=Nat.lt_succ_self _,rch:=ZR _ _ _ _,rm:=ZR _ _ _ _,ra:=ZR _ _ _ _,rp:=ZR _ _ _ _,zch:=(by simp),zp:=(by simp),im:=fun v hv=> (by simp [yi] at hv),ia:=fun v hv=> (by simp [atL] at hv),s1:=fun g hg=> (by cases hg),s2:=fun g hg=> (by cases hg),s3:=fun g hg=> (by cases hg),s4:=fun g hg=> (by cases hg),s5:=fun g hg=> (by cases hg),s6:=fun g hg=> (by cases hg),x1:=(by simp [Value.ownBlock]),x2:=(by simp [Value.ownBlock]),x3:=(by simp [Value.ownBlock]),x4:=(by simp [Value.ownBlock]) }
 have hpl:=yx d;have hnm:=zlN B u U (w.heap.size + 1) w.heap.size w.heap.size hB [] 900 d hd (ZL _) a cap W0 [] (hu.trans ((Below.keptC hb0).mono hB)) hS0 (by omega) (by omega) (by unfold zZ at hd;simp;omega) (by simpa using hU3) hsrc;have HW:=ZH hW0;have HZ:=ZH hz;clear hW0 hz hS0;go_enter Tryz.func70,Tryz.ntmps70;go_wp2_with (go_at_call 122;rw [<-HW.out];refine hnm.mono ?_;clear hnm;rintro e w1 ⟨rfl,hs1,hb1⟩);have hbw1:Below w.heap.size w w1:=hb0.trans hb1;have hsp:=zf8 B u d hd a cap hdl hsrc w1 (hu.trans ((Below.keptC hbw1).mono hB)) (by have:=hbw1.size;omega);go_wp2_with (go_at_call 123;refine hsp.mono ?_;clear hsp;rintro e w2 ⟨r,vals,rfl,ho2,hg2,hb2⟩;obtain ⟨ra,rc,rfl,_,hrcell⟩:=zJ (by omega) ho2);obtain ⟨gs,hgs⟩:∃gs,gs=zm d:=⟨_,rfl⟩;rw [<-hgs] at hg2 hU1 hU2 hN;have hvl:=hg2.1;have hg1:1<=gs.length:=by rw [hgs];simp [zm]
 obtain ⟨xb,rfl,hxb,hxA,hxc⟩:=hrcell.resolve_left (by omega);have hzz:=HZ.out;have hz1:=hb1.size;have hz2:=hb2.size
 have L0:Lk U w.heap.size xb gs (zi d) w w2 0 0 0 w2:=by
  obtain ⟨x1,x2,x3,x4,hS⟩:=hs1;rw [List.nil_append] at hS;refine ⟨⟨x1,x2,x3,x4,?_⟩,hbw1.trans (hb2.mono (by omega)),rfl,hxb⟩;rw [zdJ];exact (hS.reX hxA).later hb2
 have hrowc:∀(W:World) (i:Nat),W.heap[xb]?=w2.heap[xb]?->(h:i < vals.length)->W.cell? ⟨xb,i,none⟩=some (vals[i]'h):=fun W i hW h=> by
  have:=hxc i h;rw [Nat.zero_add] at this;exact (ZB (w:=w2) hW).trans this
 have HGS:=ZH hgs;have HVL:=ZH hvl;have hxs:w.heap.size≠xb:=by omega
 obtain ⟨nv,hnv⟩:∃n,n=vals.length:=⟨_,rfl⟩;have HNV:=ZH hnv;rw [<-hnv];clear hgs hvl hs1 hb1 hb2 ho2 hxc hrcell hb0 hnv hbw1;go_wp2_with fail
 go_loopw [6] (fun i wr=> ∃(k:Nat),k<=nv/\i= .int .i64 k/\Lk U w.heap.size xb gs (zi d) w w2 k 0 0 wr) (fun i _=> nv - (intOf i).toNat)
 case atStart=> exact ⟨0,by omega,rfl,L0⟩
 case round=>
  obtain ⟨k,hk,rfl,hL⟩:=hrel;by_cases hlt:k < nv
  ·have hkv:k < vals.length:=by have:=HNV.out;omega
   have hkg:k < gs.length:=by have:=HVL.out;omega
   obtain ⟨ga,gc,hvk,hgl,hgsrc⟩:=hg2.2 k hkv hkg;have hck:∀(W:World),W.heap[xb]?=w2.heap[xb]?->W.cell? ⟨xb,k,none⟩=some (.slice ga (gs[k]).length gc):=fun W hW=> by rw [hrowc W k hW hkv,hvk]
   have hUk:=hU1 k hkg;have hmsg:=@zeI gs k;have hdef:=@zeG gs k;have hlist:=ZH (zdH hkg);have hUk':=ZH hUk;have hmsg':=ZH (fun j l hj hl=> hmsg (j:=j) (l:=l) hkg hj hl);have hdef':=ZH (fun j hj=> hdef (j:=j) hkg hj);clear hUk hmsg hdef hvk;obtain ⟨g,hg⟩:∃g,g=gs[k]:=⟨_,rfl⟩;rw [<-hg] at hck hgsrc hUk' hmsg' hdef' hlist hgl;obtain ⟨ng,hng⟩:∃n,n=g.length:=⟨_,rfl⟩;have HNG:=ZH hng;rw [<-hng] at hck hgl;have c0:=hck wr hL.row;clear hg hng;go_wp2_with fail;obtain ⟨wo,hwo⟩:∃wo:World,wo=wr:=⟨_,rfl⟩;subst hwo
   go_loopw [7] (fun i wr=> ∃(j:Nat),j<=ng/\i= .int .i64 j/\Lk U w.heap.size xb gs (zi d) w w2 k j 0 wr) (fun i _=> ng - (intOf i).toNat)
   case atStart=> exact ⟨0,by omega,rfl,hL⟩
   case round=>
    obtain ⟨j,hj,rfl,hLj⟩:=hrel;have c1:=hck wr hLj.row;by_cases hltj:j < ng
    ·have hjg:j < g.length:=by have:=HNG.out;omega
     rcases hgsrc with h0 | ⟨gb,goff,rfl,hgB,hgcs⟩
     ·omega
     have hku:∀W,Below w.heap.size w W->zh B u W:=fun W h=> hu.trans ((Below.keptC h).mono hB);obtain ⟨cs,hcell,hat⟩:=zr.get g gb goff hgcs j hjg;obtain ⟨c,hc⟩:∃c,c=g[j]:=⟨_,rfl⟩;have hmj:=ZH (fun l hl=> hmsg'.out j l hjg hl);have hdj:=hdef'.out j hjg;have hUj:=ZH (fun (m:Msg) (hm:m∈(g[j]).joins)=> hUk'.out g[j] (ZM hjg) m hm);rw [<-hc] at hat hmj hdj hUj;have hDJ:=ZH hdj;obtain ⟨cf,ctx,cj,cd,ck⟩:=c;obtain ⟨_,_,_,_,rfl,⟨ja,jc,rfl,hjl,hjsrc⟩,⟨da,dc,rfl,_⟩,⟨ka,kc,rfl,_⟩⟩:=hat;obtain ⟨nj,hnj⟩:∃n,n=cj.length:=⟨_,rfl⟩;rw [<-hnj] at hcell;have HNJ:=ZH hnj;have hcj:∀W,Below w.heap.size w W->W.cell? ⟨gb,goff + j * 5 + 2,none⟩=some (.slice ja nj jc):=fun W h=> (zK (hcell.keep (hku W h) hgB)).2.2.1;have c2:=hcj wr hLj.below;clear hgcs hcell hdj hc hnj;go_wp2_with fail;obtain ⟨wj,hwj⟩:∃wj:World,wj=wr:=⟨_,rfl⟩;subst hwj
     go_loopw [8] (fun i wr=> ∃(l:Nat),l<=nj/\i= .int .i64 l/\Lk U w.heap.size xb gs (zi d) w w2 k j l wr) (fun i _=> nj - (intOf i).toNat)
     case atStart=> exact ⟨0,by omega,rfl,hLj⟩
     case round=>
      obtain ⟨l,hl,rfl,hLl⟩:=hrel;have c1:=hck wr hLl.row;have c2:=hcj wr hLl.below;by_cases hltl:l < nj
      ·have hlj:l < cj.length:=by have:=HNJ.out;omega
       rcases hjsrc with h0 | ⟨jb,joff,rfl,hjB,hjcs⟩
       ·omega
       obtain ⟨ms,hmcell,hmz,mv,rfl,hmn⟩:=zX.get cj jb joff hjcs l hlj;obtain ⟨ma,mc,rfl,_⟩:=hmn;obtain ⟨m0,m1⟩:=yO (hmcell.keep (hku wr hLl.below) hjB);have hUl:=hUj.out cj[l] (ZM hlj);have hml:=hmj.out l hlj;have hsl:=zga (gs:=gs) k j l;have hfl:=yR [] (qP gs k j l);have hjn:=zlE U (w.heap.size + 1) w.heap.size xb (qp [] (qP gs k j l)) (zi d) (cj[l]).text hmz ma (cj[l]).names.length mc (k:Int) hUl wr hLl.seen hLl.lt hxs (by have:=hLl.lt;omega) (by simp at hfl;omega);have e2:qU (qp [] (qP gs k j l)) (cj[l]).text=qp [] (qP gs k j (l + 1)):=by rw [hml,zcP];rfl
       rw [e2] at hjn;obtain ⟨tx,htx⟩:∃x,x=(cj[l]).text:=⟨_,rfl⟩;obtain ⟨nn,hnn⟩:∃x,x=(cj[l]).names.length:=⟨_,rfl⟩;rw [<-htx] at hjn m0;rw [<-hnn] at hjn m1;clear hmcell hjcs hml hUl e2 htx hnn hsl hfl;go_wp2_with (go_at_call 124;refine hjn.mono ?_;clear hjn;rintro e w6 ⟨rfl,hse,hbe,hxe⟩);go_roundw
       case rel=> exact ⟨l + 1,by omega,by go_num,⟨hse,hLl.below.trans hbe,hxe.trans hLl.row,Nat.lt_of_lt_of_le hLl.lt hbe.size⟩⟩
       case measure=> simp [intOf];omega
      ·obtain rfl:l=nj:=by omega
       go_wp2_with fail;go_roundw
       case rel=> exact ⟨j + 1,by omega,by go_num,by have h1:=hDJ.out;have h2:=HNJ.out;have h3:(zg.joins (.mk cf ctx cj cd ck)).length=l:=(by rw [h2];rfl);exact ⟨by rw [h1,h3];exact hLl.seen,hLl.below,hLl.row,hLl.lt⟩⟩
       case measure=> simp [intOf];omega
    ·obtain rfl:j=ng:=by omega
     go_wp2_with fail;go_roundw
     case rel=> exact ⟨k + 1,by omega,by go_num,by have h1:=hlist.out;have h2:=HNG.out;exact ⟨by rw [h1,<-h2];exact hLj.seen,hLj.below,hLj.row,hLj.lt⟩⟩
     case measure=> simp [intOf];omega
  ·obtain rfl:k=nv:=by omega
   have hkl:k=gs.length:=by have:=HVL.out;have:=HNV.out;omega
   obtain ⟨hse,hbl,_,_⟩:=hL;rw [hkl,zeL] at hse
   have hch:∀x∈qp [] (zl gs),x∈zl gs:=fun x hx=> by
    rcases zcM _ _ _ hx with h | h
    ·simp at h
    ·exact h
   have hcl:=yR [] (zl gs);obtain ⟨CH,hCH⟩:∃CH,CH=qp [] (zl gs):=⟨_,rfl⟩;rw [<-hCH] at hse hch hcl;have HCH:=ZH hCH;obtain ⟨PL,hPL⟩:∃PL,PL=zi d:=⟨_,rfl⟩;have HPL:=ZH hPL;rw [<-hPL] at hse hU2
   have hno:∀x∈CH,hasB PL x=false:=fun x hx=> by
    cases hh:hasB PL x with
    | false=> rfl
    | true=>
     obtain ⟨p,hp,he⟩:=List.mem_map.1 (zgG hh);have h1:=hU2 p hp
     have h2:zF ((zl gs).map zb) (zb p)=true:=by
      unfold zF;exact List.any_eq_true.2 ⟨zb x,List.mem_map.2 ⟨x,hch x hx,rfl⟩,by rw [he];simp⟩
     rw [h1] at h2;cases h2
   obtain ⟨vch,vm,va,vp,hS⟩:=hse;obtain ⟨ca,cc,rfl,_,hcc⟩:=zJ (by omega) hS.rch;obtain ⟨pa,pc,rfl,_,_⟩:=zJ (by omega) hS.rp;have hcz:CH.length<=5000:=by simp at hcl;omega
   obtain ⟨wo,hwo⟩:∃wo:World,wo=wr:=⟨_,rfl⟩;subst hwo;have HNO:=ZH hno;clear hCH hPL hkl hch hcl hU2 hU1 hrowc hno L0 hg2;go_wp2_with fail
   go_loopw [9] (fun i wr=> ∃(k:Nat),k<=CH.length/\i= .int .i64 k/\Seen (w.heap.size + 1) w.heap.size xb CH PL (.slice ca CH.length cc) vm va (.slice pa PL.length pc) false (yi U CH) (atL U CH) wr/\Below w.heap.size w wr) (fun i _=> CH.length - (intOf i).toNat)
   case atStart=> exact ⟨0,by omega,rfl,hS,hbl⟩
   case round=>
    obtain ⟨q,hq,rfl,hSr,hbr⟩:=hrel;obtain ⟨e0,e1,e2,e3,e4,ef⟩:=hSr.cells;by_cases hltq:q < CH.length
    ·obtain ⟨cg,rfl,_⟩:=hcc.resolve_left (by omega)
     have hSd:=hSr.later (ZF wr.heap.size wr).drew;obtain ⟨f0,_,_,f3,f4,ff⟩:=hSd.cells;have f5:=xh hSd.rch q hltq;have hS1:=(hSr.setBad false).later (ZF (wr.setCell ⟨w.heap.size,4,none⟩ (.bool false)).heap.size _).drew;obtain ⟨g0,_,_,g3,g4,_⟩:=hS1.cells;have g5:=xh hS1.rch q hltq;have hxz:=hSr.zch _ (ZM hltq);have hhas:=zay _ (.slice pa PL.length pc) PL CH[q] wr.drew (xX hSd.rp hSd.zp);rw [HNO.out _ (ZM hltq)] at hhas;obtain ⟨x,hx⟩:∃x,x=CH[q]:=⟨_,rfl⟩;rw [<-hx] at f5 g5 hhas;have HS1:=ZH hS1;have HB1:=ZH ((hbr.setCell (show w.heap.size<=(⟨w.heap.size,4,none⟩:Addr).block from ZL _) (.bool false)).drew);clear hSd hS1 hx hxz hS hSr hcc;go_wp2_with fail
     go_region_held3 (fun w'=> w'.cell? ⟨w.heap.size,4,none⟩=some (.bool false)/\w'.cell? ⟨w.heap.size,3,none⟩=some (.slice pa PL.length pc)/\w'.cell? ⟨w.heap.size,0,none⟩=some (.slice (some ⟨cg,0,none⟩) CH.length cc)/\w'.cell? ⟨cg,q,none⟩=some (.string x)) (go_keep)
      (first
      | (go_at_call 36;refine hhas.mono ?_;rintro e' w2 ⟨rfl,rfl⟩))
     go_wp2_with fail;go_roundw
     case rel=> exact ⟨q + 1,by omega,by go_num,HS1.out,HB1.out⟩
     case measure=> simp [intOf];omega
    ·obtain rfl:q=CH.length:=by omega
     go_wp2_with fail
     go_quiet (fail)
     have hSF:=hSr.later (below_drewN (ZF wr.heap.size wr) nq);have hBF:=below_drewN hbr nq;go_wp2;go_ret2;have e1:qb d=CH:=by rw [HCH.out,HGS.out];rfl
     refine ⟨xb,rfl,?_,hBF⟩;rw [e1,<-HPL.out];exact ⟨_,_,_,_,hSF⟩
theorem zdb (B:Nat) (u:World) (d:List zg) (hok:zaQ d) (hN:(zl (zm d)).length<=5000) (a:Option Addr) (cap:Nat) (hdl:d.length<=9223372036854775807)
  (hsrc:d.length=0∨∃b off,a=some ⟨b,off,none⟩/\b < B/\zr B u b off d) (w:World) (hu:zh B u w) (hB:B<=w.heap.size):
  Calls Tryz.prog 52 #[.slice a d.length cap] w fun e w'=> ∃v,e= .returned v/\zx w'.heap.size w' v (qb d ++ zi d)/\Below w.heap.size w w':=by
 obtain ⟨U,hds,_,hU⟩:=hok;have hl:=zlm B u d U hds hN hU a cap hdl hsrc w hu hB;have hcl:=yR [] (zl (zm d));have hpl:=yx d;obtain ⟨CH,hCH⟩:∃CH,CH=qb d:=⟨_,rfl⟩;obtain ⟨PL,hPL⟩:∃PL,PL=zi d:=⟨_,rfl⟩;rw [<-hCH,<-hPL] at hl ⊢;have hc5:CH.length<=5000:=by rw [hCH];unfold qb;simp at hcl;omega
 have hp5:PL.length<=5000:=by rw [hPL];unfold zZ at hds;omega
 clear hCH hPL hcl hpl;go_enter Tryz.func52,Tryz.ntmps52;go_wp2_with (go_at_call 70;refine hl.mono ?_;clear hl;rintro e w1 ⟨X,rfl,⟨vch,vm,va,vp,hS⟩,hb1⟩);obtain ⟨ca,cc,rfl,_⟩:=zJ (by omega) hS.rch;obtain ⟨pa,pc,rfl,_⟩:=zJ (by omega) hS.rp;have bA:Below w1.heap.size w1 ((w1.alloc (.cells #[] 9)).drew):=(ZQ w1 _).drew;have hSA:=hS.later bA;have zA:((w1.alloc (.cells #[] 9)).drew).heap.size=w1.heap.size + 1:=by simp
 have hown:((w1.alloc (.cells #[] 9)).drew).ownsRow w1.heap.size 9 1 (.slice (some ⟨w1.heap.size,0,none⟩) 0 0) ([]:List ByteArray).length (zn []):=
  ⟨rfl, .inr ⟨w1.heap.size,0,#[],rfl,ZL _,ZN w1 _,ZL _,by unfold maxLen;omega,rfl,rfl⟩⟩
 obtain ⟨v1,w2,hr1,ho1,hz1,hg1⟩:=yQ 22 hown (xX hSA.rch hSA.zch) (by rw [zA];omega) (by simp) (by omega) (by simp);rw [List.nil_append] at ho1 hz1;obtain ⟨x1,c1,rfl,_⟩:=zJ (by omega) ho1
 have hbx:∀b,b < w1.heap.size->w2.heap[b]?=((w1.alloc (.cells #[] 9)).drew).heap[b]?:=fun b hb=> hg1.block b (by rw [zA];omega) (fun e=> by
  have:=ZJ e;simp only at this;omega)
 have hltS:=hS.lt;have hbA2:Below w1.heap.size w1 w2:=bA.grown hg1 (by rw [zA];omega) (fun r e=> by have:=ZJ e;simp only at this;omega);have hS2:=hS.later hbA2;have hz2:=hg1.size;rw [zA] at hz2;obtain ⟨v2,w3,hr2,ho2,hz3,hg2⟩:=yQ 22 ho1 (xX hS2.rp hS2.zp) (by omega) (by omega) (by omega) hz1;obtain ⟨x2,c2,rfl,_⟩:=zJ (by omega) ho2;have hfin:=qM ho2 hz3;have hbF:Below w.heap.size w w3:=(hb1.trans (hbA2.mono hb1.size)).grown hg2 (by have:=hb1.size;omega) (fun r e=> by have:=(ho1.lt r e).1;have:=hb1.size;omega);obtain ⟨d0,_,_,d3,_,_⟩:=(hS.later (ZF w1.heap.size w1).drew).cells;obtain ⟨e0,_,_,e3,_,_⟩:=hSA.cells;obtain ⟨_,_,_,f3,_,_⟩:=hS2.cells;rw [List.length_append] at hfin;have FIN:=ZH (And.intro hfin hbF);have f0:=hS2.cells.1;have hS3:w3.heap[w.heap.size]?=w2.heap[w.heap.size]?:=hg2.block _ (by omega) (fun e=> by have:=(ho1.lt _ e.symm).1;omega);clear hfin hbF ho1 ho2 hz1 hz3 hg1 hg2 hS hSA hS2 bA hbA2 hbx hown zA hS3;go_wp2
 go_region_law (first
  | (refine zU rfl (.tmp 10) (.tmp 14) 22 22 rfl rfl rfl hr1 ?_)
  | (refine zU rfl (.tmp 15) (.tmp 19) 22 22 rfl rfl rfl hr2 ?_))
 all_goals
  go_wp2;go_ret;exact ⟨_,rfl,FIN.out.1,FIN.out.2⟩
def bA:ByteArray:=⟨#[97]⟩
def bB:ByteArray:=⟨#[98]⟩
def bX:ByteArray:=⟨#[120]⟩
def bY:ByteArray:=⟨#[121]⟩
def bZ:ByteArray:=⟨#[122]⟩
def bP:ByteArray:=⟨#[112]⟩
def bQ:ByteArray:=⟨#[113]⟩
def bE:ByteArray:=⟨#[]⟩
def nmE (s:ByteArray):Exp:= .mk 2 0 s []
def zct (s:ByteArray) (ss:List ByteArray):Term:= .mk 2 s (ss.map nmE) [] []
def xO:zg:= .mk 1 bE [⟨bX, [bA]⟩,⟨bY, []⟩] [] [zct bZ [bA,bB]]
def ziN:Term:= .mk 2 bX [.mk 1 1 bE []] [] []
def xR:zg:= .mk 2 bP [] [] [.mk 6 bQ [] [] [ziN]]
def zif:Term:= .mk 8 bP [] [] [.mk 1 bE [] [] []]
def jv:Term:= .mk 3 bE [] [] [zct bY [],zif]
def exT:Term:= .mk 4 bE [] [xO,xR] [jv]
theorem Tryz.results50:Tryz.f50.results=#[.cell 0 33]:=by kernel_rfl
theorem zkc {B:Nat} {w:World} {b:Nat}:∀(ss:List ByteArray) (off:Nat),(∀s∈ss,s.size<=maxLen)->zI w b off (nmCs ss)->zW B w b off (ss.map nmE)
 | [],_,_,_=> trivial
 | s::ss,off,hz,h=> by
  have e:nmCs (s::ss)=nmC s ++ nmCs ss:=by simp [nmCs]
  rw [e] at h;refine ⟨⟨nmC s,fun j hj=> ?_,hz s (by simp), .slice none 0 0,rfl,none,0,rfl,by simp, .inl rfl⟩,zkc ss (off + 4) (fun t ht=> hz t (by simp [ht])) (fun j hj=> ?_)⟩
  ·have:=h j (by rw [List.length_append];omega)
   rw [List.getElem_append_left hj] at this;exact this
  ·have:=h (4 + j) (by rw [List.length_append];simp [nmC];omega)
   rw [List.getElem_append_right (by simp [nmC])] at this;simp only [nmC,List.length_cons,List.length_nil,Nat.reduceAdd,Nat.add_sub_cancel_left] at this;rw [show off + 4 + j=off + (4 + j) by omega];exact this
theorem znp {w:World} {base:Nat} {r:Value} {ss:List ByteArray} (hz:∀s∈ss,s.size<=maxLen) (h:w.ownsRow base 36 4 r ss.length (nmCs ss)) (hl:ss.length<=1000):
  SlAt w.heap.size r (ss.map nmE).length (fun b off=> zW w.heap.size w b off (ss.map nmE)):=by
 obtain ⟨hn,⟨rfl,h2⟩ | ⟨g,cap,cur,rfl,hb,hg,hc,_,hsz,htk⟩⟩:=h
 ·exact ⟨none,0,by rw [List.length_map,h2],by rw [List.length_map];omega, .inl (by rw [List.length_map];exact h2)⟩
 ·refine ⟨_,cap,by rw [List.length_map],by rw [List.length_map];omega, .inr ⟨g,0,rfl,(ZG hg).1,zkc ss 0 hz (fun j hj=> ?_)⟩⟩
  have hj':j < ss.length * 4:=by rw [<-hn];exact hj
  have hjc:j < cur.size:=by have:=Nat.mul_le_mul_right 4 hc;omega
  have e1:(nmCs ss)[j]=cur[j]:=by
   have:(nmCs ss)[j]?=(cur.toList.take (ss.length * 4))[j]?:=by rw [htk]
   rw [List.getElem?_take_of_lt hj'] at this;simpa [hj,hjc] using this
  simp [World.cell?,hg,e1,hjc]
theorem qy {W:World} {b:Nat} {arr:Array Value} {ty:TypeId} {fr:Nat×Nat} (h:W.heap[b]?=some (.cells arr ty fr)) (o:Nat) (v:Value) (hv:arr[o]?=some v):W.cell? ⟨b,o,none⟩=some v:=by
 simp [World.cell?,h,hv]
theorem at5 {W:World} {b off:Nat} {arr:Array Value} {ty:TypeId} {fr:Nat×Nat} (h:W.heap[b]?=some (.cells arr ty fr)) {v0 v1 v2 v3 v4:Value} (h0:arr[off]?=some v0) (h1:arr[off + 1]?=some v1) (h2:arr[off + 2]?=some v2) (h3:arr[off + 3]?=some v3) (h4:arr[off + 4]?=some v4):zI W b off [v0,v1,v2,v3,v4]:=by
 intro j hj
 match j,hj with
 | 0,_=> exact qy h _ _ h0
 | 1,_=> exact qy h _ _ h1
 | 2,_=> exact qy h _ _ h2
 | 3,_=> exact qy h _ _ h3
 | 4,_=> exact qy h _ _ h4
theorem at4 {W:World} {b off:Nat} {arr:Array Value} {ty:TypeId} {fr:Nat×Nat} (h:W.heap[b]?=some (.cells arr ty fr)) {v0 v1 v2 v3:Value} (h0:arr[off]?=some v0) (h1:arr[off + 1]?=some v1) (h2:arr[off + 2]?=some v2) (h3:arr[off + 3]?=some v3):zI W b off [v0,v1,v2,v3]:=by
 intro j hj
 match j,hj with
 | 0,_=> exact qy h _ _ h0
 | 1,_=> exact qy h _ _ h1
 | 2,_=> exact qy h _ _ h2
 | 3,_=> exact qy h _ _ h3
theorem at2 {W:World} {b off:Nat} {arr:Array Value} {ty:TypeId} {fr:Nat×Nat} (h:W.heap[b]?=some (.cells arr ty fr)) {v0 v1:Value} (h0:arr[off]?=some v0) (h1:arr[off + 1]?=some v1):zI W b off [v0,v1]:=by
 intro j hj
 match j,hj with
 | 0,_=> exact qy h _ _ h0
 | 1,_=> exact qy h _ _ h1
theorem yF {W:World} {b:Nat} {o:Obj} (h:W.heap[b]?=some o):b < W.heap.size:=(ZG h).1
theorem jm (B n:Nat) (a:Option Addr) (c:Nat) (P:Nat->Nat->Prop) (h:n=0):SlAt B (.slice a n c) n P:=⟨a,c,rfl,by omega, .inl h⟩
theorem slAt {B b n c:Nat} {P:Nat->Nat->Prop} (hb:b < B) (hn:n<=100) (h:P b 0):SlAt B (.slice (some ⟨b,0,none⟩) n c) n P:=⟨_,c,rfl,by omega, .inr ⟨b,0,rfl,hb,h⟩⟩
theorem zjw {F:World} {n m bc bt bk:Nat} {a' a2:Option Addr} {cp c2:Nat} {ty:TypeId}
  (A1:F.heap[n + 1]?=some (.cells #[.string ⟨#[97]⟩] 9))
  (A2:F.heap[n + 2]?=some (.cells #[.string ⟨#[120]⟩, .slice (some ⟨n + 1,0,none⟩) 1 1, .string ⟨#[121]⟩, .slice none 0 0] 144))
  (x0:F.heap[m]?=some (.cells #[.int .i64 2, .string ⟨#[122]⟩, .slice a' 2 cp, .slice none 0 0, .slice none 0 0] 33))
  (x2:F.heap[m + 2]?=some (.cells #[.int .i64 1, .int .i64 1, .string ⟨#[]⟩, .slice none 0 0] 36))
  (x4:F.heap[m + 4]?=some (.cells #[.int .i64 2, .string ⟨#[120]⟩, .slice (some ⟨m + 2,0,none⟩) 1 1, .slice none 0 0, .slice none 0 0] 33))
  (x5:F.heap[m + 5]?=some (.cells #[.int .i64 6, .string ⟨#[113]⟩, .slice none 0 0, .slice none 0 0, .slice (some ⟨m + 4,0,none⟩) 1 1] 33))
  (x7:F.heap[m + 7]?=some (.cells #[.int .i64 1, .string ⟨#[]⟩, .slice none 0 0, .slice none 0 0, .slice none 0 0] 33))
  (ho:F.ownsRow ty 36 4 (.slice a' 2 cp) [bA,bB].length (nmCs [bA,bB]))
  (hc:F.heap[bc]?=some (.cells #[.int .i64 1, .string ⟨#[]⟩, .slice (some ⟨n + 2,0,none⟩) 2 2, .slice none 0 0, .slice (some ⟨m,0,none⟩) 1 1, .int .i64 2, .string ⟨#[112]⟩, .slice none 0 0, .slice none 0 0, .slice (some ⟨m + 5,0,none⟩) 1 1] 130))
  (hk:F.heap[bk]?=some (.cells #[.int .i64 2, .string ⟨#[121]⟩, .slice a2 0 c2, .slice none 0 0, .slice none 0 0, .int .i64 8, .string ⟨#[112]⟩, .slice none 0 0, .slice none 0 0, .slice (some ⟨m + 7,0,none⟩) 1 1] 33))
  (ht:F.heap[bt]?=some (.cells #[.int .i64 3, .string ⟨#[]⟩, .slice none 0 0, .slice none 0 0, .slice (some ⟨bk,0,none⟩) 2 2] 33)):
  ze F.heap.size F [.int .i64 4, .string ⟨#[]⟩, .slice none 0 0, .slice (some ⟨bc,0,none⟩) 2 2, .slice (some ⟨bt,0,none⟩) 1 1] exT:=by
 have tz:ze F.heap.size F [.int .i64 2, .string ⟨#[122]⟩, .slice a' 2 cp, .slice none 0 0, .slice none 0 0] (zct bZ [bA,bB]):=by
  refine ⟨by decide,_,_,_,rfl,?_,jm _ _ _ _ _ rfl,jm _ _ _ _ _ rfl⟩;exact znp (by decide) ho (by decide)
 have tone:ze F.heap.size F [.int .i64 2, .string ⟨#[120]⟩, .slice (some ⟨m + 2,0,none⟩) 1 1, .slice none 0 0, .slice none 0 0] ziN:=by
  refine ⟨by decide,_,_,_,rfl,slAt (yF x2) (by decide) ?_,jm _ _ _ _ _ rfl,jm _ _ _ _ _ rfl⟩;exact ⟨⟨_,at4 x2 rfl rfl rfl rfl,by decide,_,rfl,jm _ _ _ _ _ rfl⟩,trivial⟩
 have tgo:ze F.heap.size F [.int .i64 6, .string ⟨#[113]⟩, .slice none 0 0, .slice none 0 0, .slice (some ⟨m + 4,0,none⟩) 1 1] (.mk 6 bQ [] [] [ziN]):=by
  refine ⟨by decide,_,_,_,rfl,jm _ _ _ _ _ rfl,jm _ _ _ _ _ rfl,slAt (yF x4) (by decide) ?_⟩;exact ⟨⟨_,at5 x4 rfl rfl rfl rfl rfl,tone⟩,trivial⟩
 have crule:zo F.heap.size F [.int .i64 1, .string ⟨#[]⟩, .slice (some ⟨n + 2,0,none⟩) 2 2, .slice none 0 0, .slice (some ⟨m,0,none⟩) 1 1] xO:=by
  refine ⟨by decide,_,_,_,rfl,slAt (yF A2) (by decide) ?_,jm _ _ _ _ _ rfl,slAt (yF x0) (by decide) ?_⟩
  ·refine ⟨⟨_,at2 A2 rfl rfl,by decide,_,rfl,?_⟩,⟨_,at2 A2 rfl rfl,by decide,_,rfl,zx.nil _ _⟩,trivial⟩
   refine ⟨_,_,rfl,by decide,by decide,(by simp), .inr ⟨_,0,rfl,yF A1,fun j hj=> ?_⟩⟩
   match j,hj with
   | 0,_=> exact qy A1 0 _ rfl
  ·exact ⟨⟨_,at5 x0 rfl rfl rfl rfl rfl,tz⟩,trivial⟩
 have cspot:zo F.heap.size F [.int .i64 2, .string ⟨#[112]⟩, .slice none 0 0, .slice none 0 0, .slice (some ⟨m + 5,0,none⟩) 1 1] xR:=by
  refine ⟨by decide,_,_,_,rfl,jm _ _ _ _ _ rfl,jm _ _ _ _ _ rfl,slAt (yF x5) (by decide) ?_⟩;exact ⟨⟨_,at5 x5 rfl rfl rfl rfl rfl,tgo⟩,trivial⟩
 have twatch:ze F.heap.size F [.int .i64 8, .string ⟨#[112]⟩, .slice none 0 0, .slice none 0 0, .slice (some ⟨m + 7,0,none⟩) 1 1] zif:=by
  refine ⟨by decide,_,_,_,rfl,jm _ _ _ _ _ rfl,jm _ _ _ _ _ rfl,slAt (yF x7) (by decide) ?_⟩;exact ⟨⟨_,at5 x7 rfl rfl rfl rfl rfl,by decide,_,_,_,rfl,jm _ _ _ _ _ rfl,jm _ _ _ _ _ rfl,jm _ _ _ _ _ rfl⟩,trivial⟩
 have ty':ze F.heap.size F [.int .i64 2, .string ⟨#[121]⟩, .slice a2 0 c2, .slice none 0 0, .slice none 0 0] (zct bY []):=
  ⟨by decide,_,_,_,rfl,jm _ _ _ _ _ rfl,jm _ _ _ _ _ rfl,jm _ _ _ _ _ rfl⟩
 have tbody:ze F.heap.size F [.int .i64 3, .string ⟨#[]⟩, .slice none 0 0, .slice none 0 0, .slice (some ⟨bk,0,none⟩) 2 2] jv:=by
  refine ⟨by decide,_,_,_,rfl,jm _ _ _ _ _ rfl,jm _ _ _ _ _ rfl,slAt (yF hk) (by decide) ?_⟩;exact ⟨⟨_,at5 hk rfl rfl rfl rfl rfl,ty'⟩,⟨_,at5 hk rfl rfl rfl rfl rfl,twatch⟩,trivial⟩
 refine ⟨by decide,_,_,_,rfl,jm _ _ _ _ _ rfl,slAt (yF hc) (by decide) ?_,slAt (yF ht) (by decide) ?_⟩
 ·exact ⟨⟨_,at5 hc rfl rfl rfl rfl rfl,crule⟩,⟨_,at5 hc rfl rfl rfl rfl rfl,cspot⟩,trivial⟩
 ·exact ⟨⟨_,at5 ht rfl rfl rfl rfl rfl,tbody⟩,trivial⟩
theorem zdO:∀(os:List Obj) (w:World),(os.foldl World.alloc w).heap.size=w.heap.size + os.length
 | [],_=> rfl
 | o::os,w=> by rw [List.foldl_cons,zdO os];simp;omega
theorem zbt:∀(os:List Obj) (w:World),Below w.heap.size w (os.foldl World.alloc w)
 | [],w=> ZF _ w
 | o::os,w=> by rw [List.foldl_cons];exact ((ZF _ w).alloc (ZL _) o).trans ((zbt os _).mono (by simp))
theorem zdN:∀(os:List Obj) (w:World) (i:Nat) (h:i < os.length),(os.foldl World.alloc w).heap[w.heap.size + i]?=some os[i]
 | o::os,w,0,_=> by
  rw [List.foldl_cons];exact ((zbt os _).block _ (by simp)).trans (by simpa using ZN w o)
 | o::os,w,i + 1,h=> by
  rw [List.foldl_cons];have:=zdN os (w.alloc o) i (by simpa using h);rw [World.size_alloc] at this;rw [show w.heap.size + (i + 1)=w.heap.size + 1 + i by omega];exact this
theorem zcl (W:World) (b:Nat) (h:W.heap[b]?=some (.cells #[.int .i64 0, .string ⟨#[]⟩, .slice none 0 0, .slice none 0 0, .slice none 0 0] 33)):W.cell? ⟨b,0,none⟩=some (.int .i64 0)/\W.cell? ⟨b,1,none⟩=some (.string ⟨#[]⟩)/\W.cell? ⟨b,2,none⟩=some (.slice none 0 0)/\W.cell? ⟨b,3,none⟩=some (.slice none 0 0)/\W.cell? ⟨b,4,none⟩=some (.slice none 0 0)/\∀o,W.frozen? ⟨b,o,none⟩=false:=
 ⟨by simp [World.cell?,h],by simp [World.cell?,h],by simp [World.cell?,h],by simp [World.cell?,h],by simp [World.cell?,h],fun o=> by simp [World.frozen?,h]⟩
theorem j2 (w:World) (o:Obj) (n:Nat) (h:n=w.heap.size):(w.alloc o).heap[n]?=some o:=by subst h;exact ZN w o
end
end Go.Proofs.YtjmlaeofjjhfmaaGreat
