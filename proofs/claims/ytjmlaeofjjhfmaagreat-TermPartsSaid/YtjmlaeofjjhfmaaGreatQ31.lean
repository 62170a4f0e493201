/- Lemmas. -/
import Derived.Test.YtjmlaeofjjhfmaaGreatQ23
import Derived.Test.YtjmlaeofjjhfmaaGreatQ30
import Derived.Test.YtjmlaeofjjhfmaaGreatQ28
import Derived.Test.YtjmlaeofjjhfmaaGreatQ07
import Derived.Test.YtjmlaeofjjhfmaaGreatQ29
set_option linter.unusedVariables false
set_option linter.unusedSimpArgs false
set_option maxRecDepth 10000
set_option maxHeartbeats 16000000
namespace Go.Proofs.YtjmlaeofjjhfmaaGreat
section
open Go.RowKit Go.Shelf Go.Maps
structure LkB (U:List UInt8->Int×Int) (n0 xb:Nat) (gs:List (List zg)) (pl:List ByteArray) (w w2:World) (i j l:Nat) (bad:Bool) (W:World):Prop where
 seen:zaM U (n0 + 1) n0 xb (qp [] (qP gs i j l)) pl bad W
 below:Below n0 w W
 row:W.heap[xb]?=w2.heap[xb]?
 lt:xb < W.heap.size
theorem zmx {gs:List (List zg)} {i j l:Nat} (hi:i < gs.length) (hj:j < (gs[i]).length) (_:l < ((gs[i])[j]).joins.length):qP gs i j l=zl (gs.take i) ++ zS ((gs[i]).take j) ++ (((gs[i])[j]).joins.take l).map (·.text):=by
 unfold qP;simp only [List.getElem?_eq_getElem hi,List.getElem?_eq_getElem hj,List.append_assoc]
theorem zbI:∀(xs l:List ByteArray) (k:List UInt8),zF ((qp l xs).map zb) k=(zF (l.map zb) k || zF (xs.map zb) k)
 | [],l,k=> by simp [qp,zF]
 | y::xs,l,k=> by
  have e:qp l (y::xs)=qp (qU l y) xs:=by simp [qp]
  have e2:zF ((y::xs).map zb) k=((zb y==k) || zF (xs.map zb) k):=by simp [zF]
  rw [e,zbI xs,e2,<-Bool.or_assoc]
  congr 1
  unfold qU
  split
  ·rename_i h
   by_cases hy:zb y=k
   ·subst hy;rw [h];simp
   ·have:(zb y==k)=false:=by simpa using hy
    rw [this,Bool.or_false]
  ·simp [zF,List.map_append,List.any_append]
theorem zdl:∀(l pl:List ByteArray),(pl.map zb).Nodup->(dupB pl l=false↔((pl ++ l).map zb).Nodup)
 | [],pl,h=> by simp [dupB,h]
 | x::l,pl,h=> by
  have e:pl ++ x::l=(pl ++ [x]) ++ l:=by simp
  rw [dupB,Bool.or_eq_false_iff,e]
  have hx:hasB pl x=false↔((pl ++ [x]).map zb).Nodup:=by
   rw [zdm,List.map_append,List.nodup_append];simp only [zF,List.any_eq_false,beq_iff_eq];constructor
   ·intro h2
    refine ⟨h,by simp,fun y hy z hz=> ?_⟩;simp at hz;subst hz;exact h2 y hy
   ·rintro ⟨_,_,h2⟩ y hy
    exact h2 y hy _ (by simp)
  constructor
  ·rintro ⟨h1,h2⟩
   exact (zdl l (pl ++ [x]) (hx.1 h1)).1 h2
  ·intro h2
   have h3:((pl ++ [x]).map zb).Nodup:=by
    rw [List.map_append] at h2;exact (List.nodup_append.1 h2).1
   exact ⟨hx.2 h3,(zdl l (pl ++ [x]) h3).2 h2⟩
theorem zmq {d:List zg}:dupB [] (zi d)=true->qZ d=false:=by
 intro h
 have:¬((zi d).map zb).Nodup:=fun hn=> by
  have:=(zdl (zi d) [] (by simp)).2 (by simpa using hn);rw [h] at this;cases this
 unfold qZ;rw [decide_eq_false this];simp
theorem zlz {d:List zg}:dupB [] (zi d)=false->((zi d).map zb).Nodup:=fun h=> by
 simpa using (zdl (zi d) [] (by simp)).1 h
theorem ziG {d:List zg} {CH:List ByteArray} (hc:CH=qp [] (zl (zm d))):∀x∈CH,hasB (zi d) x=true->qZ d=false:=by
 intro x hx hh;rw [zdm] at hh;obtain ⟨y,hy,he⟩:=List.any_eq_true.1 hh;obtain ⟨p,hp,rfl⟩:=List.mem_map.1 hy
 have h1:zF ((zl (zm d)).map zb) (zb p)=true:=by
  have h2:zF (CH.map zb) (zb p)=true:=List.any_eq_true.2 ⟨zb x,List.mem_map.2 ⟨x,hx,rfl⟩,by simp at he;simp [he]⟩;rw [hc,zbI] at h2;simpa [zF] using h2
 have:(zi d).all (fun p=> !zF ((zl (zm d)).map zb) (zb p))=false:=by
  rw [List.all_eq_false];exact ⟨p,hp,by rw [h1];simp⟩
 unfold qZ;rw [this];simp
theorem ziM {d:List zg} {CH:List ByteArray} (hc:CH=qp [] (zl (zm d))):((zi d).map zb).Nodup->(∀x∈CH,hasB (zi d) x=false)->zax d (zi d).length:=by
 intro h1 h2;refine ⟨fun p hp=> ?_,by rw [List.take_length];exact h1⟩;rw [List.take_length] at hp;cases hh:zF ((zl (zm d)).map zb) (zb p) with
 | false=> rfl
 | true=>
  have h3:zF (CH.map zb) (zb p)=true:=by rw [hc,zbI,hh];simp
  obtain ⟨y,hy,he⟩:=List.any_eq_true.1 h3;obtain ⟨x,hx,rfl⟩:=List.mem_map.1 hy;have h4:=h2 x hx;rw [zdm] at h4;have h5:zF ((zi d).map zb) (zb x)=true:=List.any_eq_true.2 ⟨zb p,List.mem_map.2 ⟨p,hp,rfl⟩,by simp at he;simp [he]⟩;rw [h4] at h5;cases h5
theorem zl9 {PL CH:List ByteArray} {q:Nat} (h:q < CH.length):hasB PL CH[q]=false->(∀x∈CH.take q,hasB PL x=false)->∀x∈CH.take (q + 1),hasB PL x=false:=by
 intro h1 h2 x hx;rw [ZT h,List.mem_append] at hx;rcases hx with hx | hx
 ·exact h2 x hx
 ·simp at hx;subst hx;exact h1
theorem zkp (B:Nat) (u:World) (d:List zg) (hd:zZ d<=900) (hN:(zl (zm d)).length<=5000) (a:Option Addr) (cap:Nat) (hdl:d.length<=9223372036854775807)
  (hsrc:d.length=0∨∃b off,a=some ⟨b,off,none⟩/\b < B/\zr B u b off d) (w:World) (hu:zh B u w) (hB:B<=w.heap.size):
  Calls Tryz.prog 70 #[.slice a d.length cap] w fun e w'=> ∃X,e= .returned (.tuple #[.pointer (some ⟨w.heap.size,0,none⟩), .bool (qZ d)])/\zaM (jL (uses (zm d))) (w.heap.size + 1) w.heap.size X (qb d) (zi d) (!qZ d) w'/\Below w.heap.size w w':=by
 obtain ⟨U,hUe⟩:∃U,U=jL (uses (zm d)):=⟨_,rfl⟩;have hent:=fun k1 h1 k2 h2 k3 h3=> zfa (zm d) k1 h1 k2 h2 k3 h3;have hbad:=@zeY d;have hall:=@zcN d;rw [<-hUe] at hent hbad hall ⊢;have HBAD:=ZH hbad;have HALL:=ZH hall;have HENT:=ZH hent;clear hbad hall hent hUe;obtain ⟨W0,hW0⟩:∃W0,W0=w.alloc (.cells #[.slice none 0 0, .slice none 0 0, .slice none 0 0, .slice none 0 0, .bool false] 95):=⟨_,rfl⟩;have hb0:Below w.heap.size w W0:=by rw [hW0];exact ZQ w _
 have hz:W0.heap.size=w.heap.size + 1:=by rw [hW0];simp
 have hS0:zaM U (w.heap.size + 1) w.heap.size w.heap.size [] [] false W0:=by
  refine ⟨.slice none 0 0, .slice none 0 0, .slice none 0 0, .slice none 0 0,?_⟩;exact { box:=(by rw [hW0];exact ZN w _),low:=Nat.lt_succ_self _,rch:=ZR _ _ _ _,rm:=ZR _ _ _ _,ra:=ZR _ _ _ _,rp:=ZR _ _ _ _,zch:=(by simp),zp:=(by simp),im:=fun v hv=> (by simp [yi] at hv),ia:=fun v hv=> (by simp [atL] at hv),s1:=fun g hg=> (by cases hg),s2:=fun g hg=> (by cases hg),s3:=fun g hg=> (by cases hg),s4:=fun g hg=> (by cases hg),s5:=fun g hg=> (by cases hg),s6:=fun g hg=> (by cases hg),x1:=(by simp [Value.ownBlock]),x2:=(by simp [Value.ownBlock]),x3:=(by simp [Value.ownBlock]),x4:=(by simp [Value.ownBlock]) }
 have hpl:=yx d;have hnm:=zjO B u U (w.heap.size + 1) w.heap.size w.heap.size hB [] 900 d hd (ZL _) a cap W0 [] false (hu.trans ((Below.keptC hb0).mono hB)) hS0 (by omega) (by omega) (by unfold zZ at hd;simp;omega) hsrc;have HW:=ZH hW0;have HZ:=ZH hz;clear hW0 hz hS0;go_enter Tryz.func70,Tryz.ntmps70;go_wp2_with (go_at_call 122;rw [<-HW.out];refine hnm.mono ?_;clear hnm;rintro e w1 ⟨rfl,hs1,hb1⟩);have hbw1:Below w.heap.size w w1:=hb0.trans hb1;have hsp:=zf8 B u d hd a cap hdl hsrc w1 (hu.trans ((Below.keptC hbw1).mono hB)) (by have:=hbw1.size;omega);go_wp2_with (go_at_call 123;refine hsp.mono ?_;clear hsp;rintro e w2 ⟨r,vals,rfl,ho2,hg2,hb2⟩;obtain ⟨ra,rc,rfl,_,hrcell⟩:=zJ (by omega) ho2);obtain ⟨gs,hgs⟩:∃gs,gs=zm d:=⟨_,rfl⟩;have hent':=HENT.out;have hall':=HALL.out;have hbad':=HBAD.out;rw [<-hgs] at hg2 hN hent' hall' hbad';have HENT:=ZH hent';have HALL:=ZH hall';have HBAD:=ZH hbad';clear hent' hall' hbad';have hvl:=hg2.1;have hg1:1<=gs.length:=by rw [hgs];simp [zm]
 obtain ⟨xb,rfl,hxb,hxA,hxc⟩:=hrcell.resolve_left (by omega);have hzz:=HZ.out;have hz1:=hb1.size;have hz2:=hb2.size
 have L0:LkB U w.heap.size xb gs (zi d) w w2 0 0 0 (dupB [] (zi d)) w2:=by
  obtain ⟨x1,x2,x3,x4,hS⟩:=hs1;rw [List.nil_append,Bool.false_or] at hS;refine ⟨⟨x1,x2,x3,x4,?_⟩,hbw1.trans (hb2.mono (by omega)),rfl,hxb⟩;rw [zdJ];exact (hS.reX hxA).later hb2
 have hrowc:∀(W:World) (i:Nat),W.heap[xb]?=w2.heap[xb]?->(h:i < vals.length)->W.cell? ⟨xb,i,none⟩=some (vals[i]'h):=fun W i hW h=> by
  have:=hxc i h;rw [Nat.zero_add] at this;exact (ZB (w:=w2) hW).trans this
 have HGS:=ZH hgs;have HVL:=ZH hvl;have hxs:w.heap.size≠xb:=by omega
 obtain ⟨nv,hnv⟩:∃n,n=vals.length:=⟨_,rfl⟩;have HNV:=ZH hnv;rw [<-hnv];clear hgs hvl hs1 hb1 hb2 ho2 hxc hrcell hb0 hnv hbw1;go_wp2_with fail;have hb1':=zmq (d:=d);have hb2':=zlz (d:=d);obtain ⟨bd,hbd⟩:∃bd,bd=dupB [] (zi d):=⟨_,rfl⟩;rw [<-hbd] at L0 hb1' hb2';have HB1:=ZH hb1';have HB2:=ZH hb2';clear hb1' hb2' hbd
 go_loopw [6] (fun i wr=> ∃(k:Nat) (bad:Bool),k<=nv/\i= .int .i64 k/\LkB U w.heap.size xb gs (zi d) w w2 k 0 0 bad wr/\Hid (bad=true->qZ d=false)/\Hid (bad=false->upTo gs U k/\bd=false)) (fun i _=> nv - (intOf i).toNat)
 case atStart=> exact ⟨0,bd,by omega,rfl,L0,HB1,ZH (fun h=> ⟨zfN _ _,h⟩)⟩
 case round=>
  obtain ⟨k,bad,hk,rfl,hL,hbT,hbF⟩:=hrel;by_cases hlt:k < nv
  ·have hkv:k < vals.length:=by have:=HNV.out;omega
   have hkg:k < gs.length:=by have:=HVL.out;omega
   obtain ⟨ga,gc,hvk,hgl,hgsrc⟩:=hg2.2 k hkv hkg;have hck:∀(W:World),W.heap[xb]?=w2.heap[xb]?->W.cell? ⟨xb,k,none⟩=some (.slice ga (gs[k]).length gc):=fun W hW=> by rw [hrowc W k hW hkv,hvk]
   have hE1:=HENT.out k hkg;have hup1s:=zfS (gs:=gs) (U:=U) (k:=k) hkg;have hmsg:=@zeI gs k;have hdef:=@zeG gs k;have hlist:=ZH (zdH hkg);have hseen:=fun j hj l hl=> zmx (gs:=gs) (i:=k) (j:=j) (l:=l) hkg hj hl;have hmsg':=ZH (fun j l hj hl=> hmsg (j:=j) (l:=l) hkg hj hl);have hdef':=ZH (fun j hj=> hdef (j:=j) hkg hj);clear hmsg hdef hvk;obtain ⟨g,hg⟩:∃g,g=gs[k]:=⟨_,rfl⟩;have hE1':∀k2 (h2:k2 < g.length) k3 (h3:k3 < (g[k2]).joins.length),Ent gs U (qP gs k k2 k3) ((g[k2]).joins[k3]).text k ((g[k2]).joins[k3]).names.length:=by subst hg;intro k2 h2 k3 h3;rw [hseen k2 h2 k3 h3];exact hE1 k2 h2 k3 h3
   rw [<-hg] at hck hgsrc hmsg' hdef' hlist hgl hup1s;have HE1:=ZH hE1';have HUP1:=ZH hup1s;clear hE1 hE1' hup1s hseen;obtain ⟨ng,hng⟩:∃n,n=g.length:=⟨_,rfl⟩;have HNG:=ZH hng;rw [<-hng] at hck hgl;have c0:=hck wr hL.row;clear hg hng;go_wp2_with fail;obtain ⟨wo,hwo⟩:∃wo:World,wo=wr:=⟨_,rfl⟩;subst hwo
   go_loopw [7] (fun i wr=> ∃(j:Nat) (bad:Bool),j<=ng/\i= .int .i64 j/\LkB U w.heap.size xb gs (zi d) w w2 k j 0 bad wr/\Hid (bad=true->qZ d=false)/\Hid (bad=false->(upTo gs U k/\bd=false)/\zbF U k (g.take j))) (fun i _=> ng - (intOf i).toNat)
   case atStart=> exact ⟨0,bad,by omega,rfl,hL,hbT,ZH (fun h=> ⟨hbF.out h,by intro c hc;simp at hc⟩)⟩
   case round=>
    obtain ⟨j,bad,hj,rfl,hLj,hbT,hbF⟩:=hrel;have c1:=hck wr hLj.row;by_cases hltj:j < ng
    ·have hjg:j < g.length:=by have:=HNG.out;omega
     rcases hgsrc with h0 | ⟨gb,goff,rfl,hgB,hgcs⟩
     ·omega
     have hku:∀W,Below w.heap.size w W->zh B u W:=fun W h=> hu.trans ((Below.keptC h).mono hB);obtain ⟨cs,hcell,hat⟩:=zr.get g gb goff hgcs j hjg;obtain ⟨c,hc⟩:∃c,c=g[j]:=⟨_,rfl⟩;have hmj:=ZH (fun l hl=> hmsg'.out j l hjg hl);have hdj:=hdef'.out j hjg;have hE2:=HE1.out j hjg;have hup2s:=zer (g:=g) (U:=U) (i:=k) (k:=j) hjg;have hE2':∀k3 (h3:k3 < (c).joins.length),Ent gs U (qP gs k j k3) ((c).joins[k3]).text k ((c).joins[k3]).names.length:=by subst hc;exact hE2
     rw [<-hc] at hat hmj hdj hup2s;have HE2:=ZH hE2';have HUP2:=ZH hup2s;clear hE2 hE2' hup2s;have hDJ:=ZH hdj;obtain ⟨cf,ctx,cj,cd,ck⟩:=c;obtain ⟨_,_,_,_,rfl,⟨ja,jc,rfl,hjl,hjsrc⟩,⟨da,dc,rfl,_⟩,⟨ka,kc,rfl,_⟩⟩:=hat;obtain ⟨nj,hnj⟩:∃n,n=cj.length:=⟨_,rfl⟩;rw [<-hnj] at hcell;have HNJ:=ZH hnj;have hcj:∀W,Below w.heap.size w W->W.cell? ⟨gb,goff + j * 5 + 2,none⟩=some (.slice ja nj jc):=fun W h=> (zK (hcell.keep (hku W h) hgB)).2.2.1;have c2:=hcj wr hLj.below;clear hgcs hcell hdj hc hnj;go_wp2_with fail;obtain ⟨wj,hwj⟩:∃wj:World,wj=wr:=⟨_,rfl⟩;subst hwj
     go_loopw [8] (fun i wr=> ∃(l:Nat) (bad:Bool),l<=nj/\i= .int .i64 l/\LkB U w.heap.size xb gs (zi d) w w2 k j l bad wr/\Hid (bad=true->qZ d=false)/\Hid (bad=false->((upTo gs U k/\bd=false)/\zbF U k (g.take j))/\zcv U k (cj.take l))) (fun i _=> nj - (intOf i).toNat)
     case atStart=> exact ⟨0,bad,by omega,rfl,hLj,hbT,ZH (fun h=> ⟨hbF.out h,by intro c hc;simp at hc⟩)⟩
     case round=>
      obtain ⟨l,bad,hl,rfl,hLl,hbT,hbF⟩:=hrel;have c1:=hck wr hLl.row;have c2:=hcj wr hLl.below;by_cases hltl:l < nj
      ·have hlj:l < cj.length:=by have:=HNJ.out;omega
       rcases hjsrc with h0 | ⟨jb,joff,rfl,hjB,hjcs⟩
       ·omega
       obtain ⟨ms,hmcell,hmz,mv,rfl,hmn⟩:=zX.get cj jb joff hjcs l hlj;obtain ⟨ma,mc,rfl,_⟩:=hmn;obtain ⟨m0,m1⟩:=yO (hmcell.keep (hku wr hLl.below) hjB);have hE3:=HE2.out l hlj;have hup3s:=ze4 (js:=cj) (U:=U) (i:=k) (k:=l) hlj;simp only [zg.joins] at hE3;have hUl:zF ((qp [] (qP gs k j l)).map zb) (zb (cj[l]).text)=false->U (zb (cj[l]).text)=((k:Int),((cj[l]).names.length:Int)):=fun h=> hE3.2 (by rw [zbI] at h;simpa [zF] using h);have hml:=hmj.out l hlj;have hsl:=zga (gs:=gs) k j l;have hfl:=yR [] (qP gs k j l);have hjn:=zj3 U (w.heap.size + 1) w.heap.size xb (qp [] (qP gs k j l)) (zi d) (cj[l]).text hmz ma (cj[l]).names.length mc (k:Int) bad hUl wr hLl.seen hLl.lt hxs (by have:=hLl.lt;omega) (by simp at hfl;omega);have e2:qU (qp [] (qP gs k j l)) (cj[l]).text=qp [] (qP gs k j (l + 1)):=by rw [hml,zcP];rfl
       rw [e2] at hjn;obtain ⟨tx,htx⟩:∃x,x=(cj[l]).text:=⟨_,rfl⟩;obtain ⟨nn,hnn⟩:∃x,x=(cj[l]).names.length:=⟨_,rfl⟩;rw [<-htx] at hjn m0 hE3 hup3s;rw [<-hnn] at hjn m1 hE3 hup3s
       have hbT2:Hid ((bad || decide (U (zb tx)≠((k:Int),(nn:Int))))=true->qZ d=false):=ZH (fun h=> by
        rw [Bool.or_eq_true] at h;rcases h with h | h
        ·exact hbT.out h
        ·exact HBAD.out _ _ _ _ hE3 (by simpa using h))
       have hbF2:Hid ((bad || decide (U (zb tx)≠((k:Int),(nn:Int))))=false->((upTo gs U k/\bd=false)/\zbF U k (g.take j))/\zcv U k (cj.take (l + 1))):=ZH (fun h=> by
        rw [Bool.or_eq_false_iff] at h;obtain ⟨h1,h2⟩:=h;obtain ⟨h3,h4⟩:=hbF.out h1;exact ⟨h3,hup3s h4 (by simpa using h2)⟩)
       clear hE3 hup3s;clear hmcell hjcs hml hUl e2 htx hnn hsl hfl;go_wp2_with (go_at_call 124;refine hjn.mono ?_;clear hjn;rintro e w6 ⟨rfl,hse,hbe,hxe⟩);go_roundw
       case rel=> exact ⟨l + 1,_,by omega,by go_num,⟨hse,hLl.below.trans hbe,hxe.trans hLl.row,Nat.lt_of_lt_of_le hLl.lt hbe.size⟩,hbT2,hbF2⟩
       case measure=> simp [intOf];omega
      ·obtain rfl:l=nj:=by omega
       go_wp2_with fail;go_roundw
       case rel=> exact ⟨j + 1,bad,by omega,by go_num,(by have h1:=hDJ.out;have h2:=HNJ.out;have h3:(zg.joins (.mk cf ctx cj cd ck)).length=l:=(by rw [h2];rfl);exact ⟨by rw [h1,h3];exact hLl.seen,hLl.below,hLl.row,hLl.lt⟩),hbT,ZH (fun h=> by obtain ⟨h3,h4⟩:=hbF.out h;exact ⟨h3.1,HUP2.out h3.2 (by rw [HNJ.out,List.take_length] at h4;exact h4)⟩)⟩
       case measure=> simp [intOf];omega
    ·obtain rfl:j=ng:=by omega
     go_wp2_with fail;go_roundw
     case rel=> exact ⟨k + 1,bad,by omega,by go_num,(by have h1:=hlist.out;have h2:=HNG.out;exact ⟨by rw [h1,<-h2];exact hLj.seen,hLj.below,hLj.row,hLj.lt⟩),hbT,ZH (fun h=> by obtain ⟨h3,h4⟩:=hbF.out h;exact ⟨HUP1.out h3.1 (by rw [HNG.out,List.take_length] at h4;exact h4),h3.2⟩)⟩
     case measure=> simp [intOf];omega
  ·obtain rfl:k=nv:=by omega
   have hkl:k=gs.length:=by have:=HVL.out;have:=HNV.out;omega
   obtain ⟨hse,hbl,_,_⟩:=hL;rw [hkl,zeL] at hse
   have hch:∀x∈qp [] (zl gs),x∈zl gs:=fun x hx=> by
    rcases zcM _ _ _ hx with h | h
    ·simp at h
    ·exact h
   have hcl:=yR [] (zl gs);obtain ⟨CH,hCH⟩:∃CH,CH=qp [] (zl gs):=⟨_,rfl⟩;rw [<-hCH] at hse hch hcl;have HCH:=ZH hCH;obtain ⟨PL,hPL⟩:∃PL,PL=zi d:=⟨_,rfl⟩;have HPL:=ZH hPL;rw [<-hPL] at hse;have hchp:=ziG (d:=d) (CH:=CH) (by rw [hCH,HGS.out]);rw [<-hPL] at hchp;have HCHP:=ZH hchp;clear hchp;have hfin:=ziM (d:=d) (CH:=CH) (by rw [hCH,HGS.out]);rw [<-hPL] at hfin;have HFIN:=ZH hfin;clear hfin;have hbF3:Hid (bad=false->upTo (zm d) U (zm d).length/\bd=false):=ZH (fun h=> by have:=hbF.out h;rw [hkl] at this;rw [<-HGS.out];exact this);obtain ⟨vch,vm,va,vp,hS⟩:=hse;obtain ⟨ca,cc,rfl,_,hcc⟩:=zJ (by omega) hS.rch;obtain ⟨pa,pc,rfl,_,_⟩:=zJ (by omega) hS.rp;have hcz:CH.length<=5000:=by simp at hcl;omega
   obtain ⟨wo,hwo⟩:∃wo:World,wo=wr:=⟨_,rfl⟩;subst hwo;clear hCH hPL hkl hch hcl hrowc L0 hg2;go_wp2_with fail
   go_loopw [9] (fun i wr=> ∃(k:Nat) (b:Bool),k<=CH.length/\i= .int .i64 k/\Seen (w.heap.size + 1) w.heap.size xb CH PL (.slice ca CH.length cc) vm va (.slice pa PL.length pc) b (yi U CH) (atL U CH) wr/\Below w.heap.size w wr/\Hid (b=true->qZ d=false)/\Hid (b=false->bad=false/\∀x∈CH.take k,hasB PL x=false)) (fun i _=> CH.length - (intOf i).toNat)
   case atStart=> exact ⟨0,bad,by omega,rfl,hS,hbl,hbT,ZH (fun h=> ⟨h,by simp⟩)⟩
   case round=>
    obtain ⟨q,b,hq,rfl,hSr,hbr,hbT3,hbF4⟩:=hrel;obtain ⟨e0,e1,e2,e3,e4,ef⟩:=hSr.cells;by_cases hltq:q < CH.length
    ·obtain ⟨cg,rfl,_⟩:=hcc.resolve_left (by omega)
     have hSd:=hSr.later (ZF wr.heap.size wr).drew;obtain ⟨f0,_,_,f3,f4,ff⟩:=hSd.cells;have f5:=xh hSd.rch q hltq;have hxz:=hSr.zch _ (ZM hltq);have hhas:=zay _ (.slice pa PL.length pc) PL CH[q] wr.drew (xX hSd.rp hSd.zp);have htkq:=zl9 (PL:=PL) hltq;have hcb:=HCHP.out CH[q] (ZM hltq);obtain ⟨x,hx⟩:∃x,x=CH[q]:=⟨_,rfl⟩;rw [<-hx] at f5 hhas htkq hcb;have HTK:=ZH htkq;have HCB:=ZH hcb;clear htkq hcb;cases b with
     | true=>
      have HTT:=ZH (hbT3.out rfl);clear hhas;have hS1:=(hSr.setBad true).later (ZF (wr.setCell ⟨w.heap.size,4,none⟩ (.bool true)).heap.size _).drew;obtain ⟨g0,_,_,g3,g4,_⟩:=hS1.cells;have g5:=xh hS1.rch q hltq;rw [<-hx] at g5;have HS1:=ZH hS1;have HB1:=ZH ((hbr.setCell (show w.heap.size<=(⟨w.heap.size,4,none⟩:Addr).block from ZL _) (.bool true)).drew);clear hSd hS1 hx hxz hSr;go_wp2_with fail
      go_region
      go_wp2_with fail;go_roundw
      case rel=> exact ⟨q + 1,true,by omega,by go_num,HS1.out,HB1.out,ZH (fun _=> HTT.out),ZH (fun h=> by cases h)⟩
      case measure=> simp [intOf];omega
     | false=>
      cases hhf:hasB PL x with
      | false=>
       rw [hhf] at hhas;have HN:=ZH (HTK.out hhf);have HFF:=ZH (hbF4.out rfl);clear hhf;have hS1:=(hSr.setBad false).later (ZF (wr.setCell ⟨w.heap.size,4,none⟩ (.bool false)).heap.size _).drew;obtain ⟨g0,_,_,g3,g4,_⟩:=hS1.cells;have g5:=xh hS1.rch q hltq;rw [<-hx] at g5;have HS1:=ZH hS1;have HB1:=ZH ((hbr.setCell (show w.heap.size<=(⟨w.heap.size,4,none⟩:Addr).block from ZL _) (.bool false)).drew);clear hSd hS1 hx hxz hSr;go_wp2_with fail
       go_region_held3 (fun w'=> w'.cell? ⟨w.heap.size,4,none⟩=some (.bool false)/\w'.cell? ⟨w.heap.size,3,none⟩=some (.slice pa PL.length pc)/\w'.cell? ⟨w.heap.size,0,none⟩=some (.slice (some ⟨cg,0,none⟩) CH.length cc)/\w'.cell? ⟨cg,q,none⟩=some (.string x)) (go_keep)
        (first
        | (go_at_call 36;refine hhas.mono ?_;rintro e' w2 ⟨rfl,rfl⟩))
       go_wp2_with fail;go_roundw
       case rel=> exact ⟨q + 1,false,by omega,by go_num,HS1.out,HB1.out,ZH (fun h=> by cases h),ZH (fun h=> ⟨HFF.out.1,HN.out HFF.out.2⟩)⟩
       case measure=> simp [intOf];omega
      | true=>
       rw [hhf] at hhas;have HN:=ZH (HCB.out hhf);clear hhf;have hS1:=(hSr.setBad true).later (ZF (wr.setCell ⟨w.heap.size,4,none⟩ (.bool true)).heap.size _).drew;obtain ⟨g0,_,_,g3,g4,_⟩:=hS1.cells;have g5:=xh hS1.rch q hltq;rw [<-hx] at g5;have HS1:=ZH hS1;have HB1:=ZH ((hbr.setCell (show w.heap.size<=(⟨w.heap.size,4,none⟩:Addr).block from ZL _) (.bool true)).drew);clear hSd hS1 hx hxz hSr;go_wp2_with fail
       go_still_tail 21,(by kernel_rfl)
       still_call hhas
       repeat still_step
       refine wpStill_nil ?_;change wpList _ _ _ _ _ wr.drew;go_wp2_with fail;go_roundw
       case rel=> exact ⟨q + 1,true,by omega,by go_num,HS1.out,HB1.out,ZH (fun _=> HN.out),ZH (fun h=> by cases h)⟩
       case measure=> simp [intOf];omega
    ·obtain rfl:q=CH.length:=by omega
     go_wp2_with fail
     go_quiet (fail)
     have hSF:=hSr.later (below_drewN (ZF wr.heap.size wr) nq);have hBF:=below_drewN hbr nq
     have hag:Hid (qZ d= !b):=ZH (by
      cases b with
      | true=> exact hbT3.out rfl
      | false=>
       obtain ⟨h1,h2⟩:=hbF4.out rfl;rw [List.take_length] at h2;obtain ⟨h3,h4⟩:=hbF3.out h1;exact HALL.out (by rw [HGS.out];exact h3) (by have hh:=HFIN.out (by rw [HPL.out];exact HB2.out h4) h2;rw [HPL.out] at hh;exact hh))
     go_wp2;go_ret2;have e1:qb d=CH:=by rw [HCH.out,HGS.out];rfl
     refine ⟨xb,by rw [hag.out];rfl,?_,hBF⟩;rw [e1,<-HPL.out,hag.out,Bool.not_not];exact ⟨_,_,_,_,hSF⟩
end
section
open Go.RowKit
theorem zbb {α:Type} (f:α->Part) {l:List α} (h:jJ (l.map f)=true) (k:Nat) (hk:k < l.length):jS (f l[k])=true:=by
 unfold jJ at h;rw [List.all_eq_true] at h;exact h _ (List.mem_map.2 ⟨l[k],ZM hk,rfl⟩)
theorem zhG {d:List zg} (h:jJ (d.map .def_)=true):(zl (zm d)).length<=3 * zZ d:=by
 refine zg8 d (fun q hq=> zkC ?_);rw [j6] at hq;obtain ⟨p,hp,hqp⟩:=List.mem_flatMap.1 hq;unfold jJ at h;rw [List.all_eq_true] at h;have h2:=h p hp;unfold jS at h2;rw [List.all_eq_true] at h2;exact h2 q hqp
theorem zmc (d:List zg):zZ d=sz (d.map .def_):=by rw [zZ,j6];rfl
def RD (s:Nat):Prop:=
 (∀t:Term,(Part.proc t).size<=s->(Part.proc t).size<=60->jS (.proc t)=true->∀(B:Nat) (u w:World) (cs:List Value),zh B u w->B<=w.heap.size->ze B u cs t->
  Calls Tryz.prog 60 #[.agg cs.toArray] w fun e w'=> e= .returned (.bool (yY (.proc t)))/\Below w.heap.size w w')/\
 (∀l:List zg,sz (l.map .def_)<=s->sz (l.map .def_)<=60->jJ (l.map .def_)=true->∀(B:Nat) (u w:World) (a:Option Addr) (cap:Nat),zh B u w->B<=w.heap.size->
  (l.length=0∨∃b off,a=some ⟨b,off,none⟩/\b < B/\zr B u b off l)->
  Calls Tryz.prog 114 #[.slice a l.length cap] w fun e w'=> e= .returned (.bool (qR (l.map .def_)))/\Below w.heap.size w w')
theorem zhH (s:Nat) (ih:RD s) (l:List zg) (hs:sz (l.map .def_)<=s + 1) (h60:sz (l.map .def_)<=60) (hsh:jJ (l.map .def_)=true) (B:Nat) (u w:World) (a:Option Addr) (cap:Nat) (hu:zh B u w) (hBl:B<=w.heap.size)
  (h0:l.length=0∨∃b off,a=some ⟨b,off,none⟩/\b < B/\zr B u b off l):
  Calls Tryz.prog 114 #[.slice a l.length cap] w fun e w'=> e= .returned (.bool (qR (l.map .def_)))/\Below w.heap.size w w':=by
 have hll:=xp Part.def_ l;have hl60:l.length<=60:=by omega
 clear hll;have HSH:=ZH hsh;clear hsh;go_enter Tryz.func114,Tryz.ntmps114;go_wp2
 go_loopw [3] (fun i wr=> ∃(k:Nat),k<=l.length/\i= .int .i64 k/\Hid (qR ((l.take k).map .def_)=true)/\Below w.heap.size w wr) (fun i _=> l.length - (intOf i).toNat)
 case atStart=> exact ⟨0,by omega,rfl,ZH rfl,ZF _ _⟩
 case round=>
  obtain ⟨k,hk',rfl,hm,hB⟩:=hrel;have hBz:=hB.size;by_cases hlt:k < l.length
  ·rcases h0 with h00 | ⟨b,off,rfl,hb,hk⟩
   ·omega
   obtain ⟨cs,hcs,hexp⟩:=hk.get l b off k hlt;have hsm:=yU Part.def_ hlt;have hsk:=zbb Part.def_ HSH.out k hlt;have htk:=zb7 Part.def_ l k hlt;have hno:=zbz Part.def_ l k hlt;obtain ⟨e0,he0⟩:∃e,e=l[k]:=⟨_,rfl⟩;rw [<-he0] at hexp hsm hsk htk hno;clear he0;obtain ⟨f0,t0,j0,d0,k0⟩:=e0;have hss:=yV (Part.def_ (.mk f0 t0 j0 d0 k0));simp only [Part.parts,qB] at hss;rw [zcG] at hsk;simp only [Part.parts,za4,Bool.and_eq_true] at hsk;obtain ⟨hsp,hsd,hskk⟩:=hsk;have hag:=zeb (.def_ (.mk f0 t0 j0 d0 k0));simp only [yb,Bool.true_and,Part.parts,za6] at hag
   have hk1:k0.length=1:=by
    simp only [Part.shaped,yB,Bool.or_eq_true,Bool.and_eq_true,beq_iff_eq,decide_eq_true_eq] at hsp;rcases hsp with ⟨_,h⟩ | ⟨_,h⟩ <;> exact h
   obtain ⟨q,rfl⟩:∃q,k0= [q]:=List.length_eq_one_iff.1 hk1;unfold zo at hexp;obtain ⟨_,_,_,_,rfl,⟨x0,y0,rfl,_⟩,⟨x1,y1,rfl,_,hd1⟩,⟨x2,y2,rfl,_,hd2⟩⟩:=hexp
   have hcw:∀W,Below w.heap.size w W->W.cell? ⟨b,off + k * 5 + 3,none⟩=some (.slice x1 d0.length y1)/\W.cell? ⟨b,off + k * 5 + 4,none⟩=some (.slice x2 1 y2):=fun W hW=> by
    obtain ⟨_,_,_,c3,c4⟩:=zK ((hcs.keep hu hb).below hW (by omega));exact ⟨c3,c4⟩
   obtain ⟨c3,c4⟩:=hcw wr hB;have hq0:(Part.proc q).size=sz ([q].map Part.proc):=by simp [zcf]
   rcases hd2 with h00 | ⟨kb,koff,rfl,hkb,hkk⟩
   ·simp at h00
   obtain ⟨kcs,hkcs,hkt⟩:=hkk.get [q] kb koff 0 (by simp);simp only [Nat.zero_mul,Nat.add_zero,List.getElem_cons_zero] at hkcs hkt;have hW1:=ih.2 d0 (by omega) (by omega) hsd B u wr x1 y1 (hu.trans ((Below.keptC hB).mono hBl)) (by omega) hd1;have hD1:=fun W (hW:Below w.heap.size w W)=> ih.1 q (by omega) (by omega) (by have:=zbb Part.proc (l:= [q]) hskk 0 (by simp);simpa using this) B u W kcs (hu.trans ((Below.keptC hW).mono hBl)) (by have:=hW.size;omega) hkt;have HD1:=ZH hD1;have HCW:=ZH hcw;have hag2:yY (.def_ (.mk f0 t0 j0 d0 [q]))=(qR (d0.map .def_) && yY (.proc q)):=by rw [hag];simp [qR]
   have HAG:=ZH hag2;have HTK:=ZH htk;have HNO:=ZH hno;have hkcW:∀W,Below w.heap.size w W->zI W kb koff kcs:=fun W hW=> (hkcs.keep hu hkb).below hW (by omega);have HKC:=ZH hkcW;clear hag hag2 htk hno hD1 hcw hkcW hsm hss hq0 hkcs hkk hk1;have hkt':=hkt;obtain ⟨qo,qt,qa,qd,qk⟩:=q;unfold ze at hkt';obtain ⟨_,_,_,_,rfl,⟨z0,v0,rfl,_⟩,⟨z1,v1,rfl,_⟩,⟨z2,v2,rfl,_⟩⟩:=hkt';cases hwd:qR (d0.map .def_) with
   | false=>
    rw [hwd] at hW1;have HF:=ZH (HNO.out (by rw [HAG.out,hwd];rfl));clear hwd;go_wp2_with (go_at_call 114;refine hW1.mono ?_;clear hW1;rintro e w1 ⟨rfl,hb1⟩);go_ret;exact ⟨qA HF.out.symm,hB.trans (hb1.mono hBz)⟩
   | true=>
   rw [hwd] at hW1;cases hdd:yY (.proc (.mk qo qt qa qd qk)) with
   | false=>
    have HF:=ZH (HNO.out (by rw [HAG.out,hdd];simp));rw [hdd] at HD1;clear hwd hdd
    go_wp2_with (first
     | (go_at_call 114;refine hW1.mono ?_;clear hW1;rintro e w1 ⟨rfl,hb1⟩;obtain ⟨f3,f4⟩:=HCW.out w1 (hB.trans (hb1.mono hBz));obtain ⟨m0,m1,m2,m3,m4⟩:=zK (HKC.out w1 (hB.trans (hb1.mono hBz))))
     | (go_at_call 60;refine (HD1.out w1 (hB.trans (hb1.mono hBz))).mono ?_;rintro e w2 ⟨rfl,hb2⟩))
    go_ret;exact ⟨qA HF.out.symm,hB.trans ((hb1.trans (hb2.mono hb1.size)).mono hBz)⟩
   | true=>
    have HT:=ZH (show qR ((l.take (k + 1)).map .def_)=true by rw [HTK.out,hm.out,HAG.out,hwd,hdd];rfl);rw [hdd] at HD1;clear hwd hdd
    go_wp2_with (first
     | (go_at_call 114;refine hW1.mono ?_;clear hW1;rintro e w1 ⟨rfl,hb1⟩;obtain ⟨f3,f4⟩:=HCW.out w1 (hB.trans (hb1.mono hBz));obtain ⟨m0,m1,m2,m3,m4⟩:=zK (HKC.out w1 (hB.trans (hb1.mono hBz))))
     | (go_at_call 60;refine (HD1.out w1 (hB.trans (hb1.mono hBz))).mono ?_;rintro e w2 ⟨rfl,hb2⟩))
    go_roundw
    case rel=> exact ⟨k + 1,by omega,by go_num,HT,hB.trans ((hb1.trans (hb2.mono hb1.size)).mono hBz)⟩
    case measure=> simp [intOf];omega
  ·have hkl:k=l.length:=by omega
   have hm2:=hm.out;rw [hkl,List.take_length] at hm2;have HF:=ZH hm2;clear hm2 hm;obtain rfl:=hkl;go_wp2;go_ret;exact ⟨qA HF.out.symm,hB⟩
theorem zjF (s:Nat) (ih:RD s) (op:Int) (text:ByteArray) (args:List Exp) (defs:List zg) (kids:List Term) (hs:(Part.proc (.mk op text args defs kids)).size<=s + 1) (h60:(Part.proc (.mk op text args defs kids)).size<=60) (hsh:jS (.proc (.mk op text args defs kids))=true)
  (B:Nat) (u w:World) (cs:List Value) (hu:zh B u w) (hBl:B<=w.heap.size) (hv:ze B u cs (.mk op text args defs kids)):
  Calls Tryz.prog 60 #[.agg cs.toArray] w fun e w'=> e= .returned (.bool (yY (.proc (.mk op text args defs kids))))/\Below w.heap.size w w':=by
 unfold ze at hv;obtain ⟨hz,_,_,_,rfl,⟨a0,p0,rfl,l0,h0⟩,⟨a1,p1,rfl,l1,h1⟩,⟨a2,p2,rfl,l2,h2⟩⟩:=hv;have hss:=yV (Part.proc (.mk op text args defs kids));simp only [Part.parts,qB] at hss;have hkl:=xp Part.proc kids;have hkl60:kids.length<=60:=by omega
 rw [zcG] at hsh;simp only [Part.parts,za4,Bool.and_eq_true] at hsh;obtain ⟨hsp,⟨_,hsd⟩,hskk⟩:=hsh;have hag:=zeb (.proc (.mk op text args defs kids));simp only [Part.parts,za6,ziC,Bool.true_and] at hag;obtain ⟨W1,hW1'⟩:∃W1,W1=w.alloc (.cells #[.int .i64 op, .string text, .slice a0 args.length p0, .slice a1 defs.length p1, .slice a2 kids.length p2] 33):=⟨_,rfl⟩;have z1:W1.heap.size=w.heap.size + 1:=by rw [hW1'];simp
 have hW1:Below w.heap.size w W1:=by rw [hW1'];exact ZQ w _
 have hbox1:W1.cell? ⟨w.heap.size,3,none⟩=some (.slice a1 defs.length p1):=by rw [hW1',ZA _ _ _ _ rfl];rfl
 have hbox2:W1.cell? ⟨w.heap.size,4,none⟩=some (.slice a2 kids.length p2):=by rw [hW1',ZA _ _ _ _ rfl];rfl
 have HW:=ZH hW1';clear hW1';have hcs:=zmc defs;have htx:=zhG hsd;have hlk:=zkp B u defs (by omega) (by omega) a1 p1 l1 h1 W1 (hu.trans ((Below.keptC hW1).mono hBl)) (by omega);have hwi:=fun W (hW:Below w.heap.size w W)=> ih.2 defs (by omega) (by omega) hsd B u W a1 p1 (hu.trans ((Below.keptC hW).mono hBl)) (by have:=hW.size;omega) h1;have HLK:=ZH hlk;have HWI:=ZH hwi;have HAG:=ZH hag;have HSK:=ZH hskk;have hsz2:sz (kids.map Part.proc)<=s/\sz (kids.map Part.proc)<=60:=by omega
 obtain ⟨hks,hk60⟩:=hsz2;have hsp':=ZH hsp;clear hlk hwi hag hskk hsp hss hcs htx hkl hs h60 h0 h1;by_cases ho:op=4
 ·subst ho
  have HA:Hid (yb (.proc (.mk 4 text args defs kids))=qZ defs):=ZH (by simp [yb]);cases hab:qZ defs with
  | false=>
   have HF:=ZH (show yY (.proc (.mk 4 text args defs kids))=false by rw [HAG.out,HA.out,hab];rfl);rw [hab] at HLK;clear hab;go_enter Tryz.func60,Tryz.ntmps60;go_wp2_with (go_at_call 70;rw [<-HW.out];refine HLK.out.mono ?_;rintro e w1 ⟨X,rfl,_,hb1⟩);go_ret;exact ⟨qA HF.out.symm,hW1.trans (hb1.mono (by omega))⟩
  | true=>
  rw [hab] at HLK;cases hwd:qR (defs.map .def_) with
  | false=>
   have HF:=ZH (show yY (.proc (.mk 4 text args defs kids))=false by rw [HAG.out,HA.out,hab,hwd];rfl);rw [hwd] at HWI;clear hab hwd;go_enter Tryz.func60,Tryz.ntmps60
   go_wp2_with (first
    | (go_at_call 70;rw [<-HW.out];refine HLK.out.mono ?_;rintro e w1 ⟨X,rfl,_,hb1⟩;have g1:=(hb1.cell (p:=⟨w.heap.size,3,none⟩) (by simp;omega)).trans hbox1)
    | (go_at_call 114;refine (HWI.out w1 (hW1.trans (hb1.mono (by omega)))).mono ?_;rintro e w2 ⟨rfl,hb2⟩))
   go_ret;exact ⟨qA HF.out.symm,hW1.trans ((hb1.trans (hb2.mono hb1.size)).mono (by omega))⟩
  | true=>
   have HK:Hid (yY (.proc (.mk 4 text args defs kids))=qR (kids.map .proc)):=ZH (by rw [HAG.out,HA.out,hab,hwd];rfl);rw [hwd] at HWI;clear hab hwd;go_enter Tryz.func60,Tryz.ntmps60
   go_wp2_with (first
    | (go_at_call 70;rw [<-HW.out];refine HLK.out.mono ?_;rintro e w1 ⟨X,rfl,_,hb1⟩;have g1:=(hb1.cell (p:=⟨w.heap.size,3,none⟩) (by simp;omega)).trans hbox1)
    | (go_at_call 114;refine (HWI.out w1 (hW1.trans (hb1.mono (by omega)))).mono ?_;rintro e w2 ⟨rfl,hb2⟩;have hB0:Below (w.heap.size + 1) W1 w2:=(hb1.trans (hb2.mono hb1.size)).mono (by omega)))
   go_loopw [5] (fun i wr=> ∃(k:Nat),k<=kids.length/\i= .int .i64 k/\Hid (qR ((kids.take k).map .proc)=true)/\Below (w.heap.size + 1) W1 wr) (fun i _=> kids.length - (intOf i).toNat)
   case atStart=> exact ⟨0,by omega,rfl,ZH rfl,hB0⟩
   case round=>
    obtain ⟨k,hk',rfl,hm,hB⟩:=hrel;have hBw:=hW1.trans (hB.mono (Nat.le_succ _));have hBz:=hBw.size;have hbox:=(hB.cell (p:=⟨w.heap.size,4,none⟩) (by simp)).trans hbox2;by_cases hlt:k < kids.length
    ·rcases h2 with h00 | ⟨b,off,rfl,hb,hk⟩
     ·omega
     obtain ⟨cs,hcs,hexp⟩:=hk.get kids b off k hlt;have hexp':=hexp;have hsm:=yU Part.proc hlt;have hsk:=zbb Part.proc HSK.out k hlt;have htk:=zb7 Part.proc kids k hlt;have hno:=zbz Part.proc kids k hlt;obtain ⟨e0,he0⟩:∃e,e=kids[k]:=⟨_,rfl⟩;rw [<-he0] at hexp hexp' hsm hsk htk hno;clear he0;have hih:=ih.1 e0 (by omega) (by omega) hsk B u wr cs (hu.trans ((Below.keptC hBw).mono hBl)) (by omega) hexp';have HTK:=ZH htk;have HNO:=ZH hno;clear htk hno hsm hsk hexp';obtain ⟨o0,t0,g0,d0,k0⟩:=e0;unfold ze at hexp;obtain ⟨_,_,_,_,rfl,⟨x0,y0,rfl,_⟩,⟨x1,y1,rfl,_⟩,⟨x2,y2,rfl,_⟩⟩:=hexp;obtain ⟨c0,c1,c2,c3,c4⟩:=zK ((hcs.keep hu hb).below hBw (by omega));clear hcs hk;cases hdd:yY (.proc (.mk o0 t0 g0 d0 k0)) with
     | false=>
      have HF:=ZH (HNO.out hdd);rw [hdd] at hih;clear hdd;go_wp2_with (go_at_call 60;refine hih.mono ?_;clear hih;rintro e w5 ⟨rfl,hb5⟩);go_ret;exact ⟨qA (by rw [HK.out,HF.out]),hBw.trans (hb5.mono hBz)⟩
     | true=>
      have HT:=ZH (show qR ((kids.take (k + 1)).map .proc)=true by rw [HTK.out,hm.out,hdd];rfl);rw [hdd] at hih;clear hdd;go_wp2_with (go_at_call 60;refine hih.mono ?_;clear hih;rintro e w5 ⟨rfl,hb5⟩);go_roundw
      case rel=> exact ⟨k + 1,by omega,by go_num,HT,hB.trans (hb5.mono (by have:=hB.size;omega))⟩
      case measure=> simp [intOf];omega
    ·have hkl:k=kids.length:=by omega
     have hm2:=hm.out;rw [hkl,List.take_length] at hm2;have HF:=ZH hm2;clear hm2 hm;obtain rfl:=hkl;go_wp2;go_ret;exact ⟨qA (by rw [HK.out,HF.out]),hBw⟩
 ·have ho':(op==4)=false:=by simpa using ho
  have HA:Hid (yb (.proc (.mk op text args defs kids))=true):=ZH (by simp [yb,ho])
  have HK:Hid (yY (.proc (.mk op text args defs kids))=qR (kids.map .proc)):=ZH (by
   have hd:defs= []:=by
    have h:=hsp'.out;simp only [Part.shaped,yg,Bool.or_eq_true,Bool.and_eq_true,beq_iff_eq,decide_eq_true_eq] at h;exact List.eq_nil_of_length_eq_zero (by omega)
   rw [HAG.out,HA.out,hd];simp [qR])
  have hB0:Below (w.heap.size + 1) W1 W1:=ZF _ _;clear ho;go_enter Tryz.func60,Tryz.ntmps60;go_wp2_with fail;try rw [<-HW.out]
  go_loopw [5] (fun i wr=> ∃(k:Nat),k<=kids.length/\i= .int .i64 k/\Hid (qR ((kids.take k).map .proc)=true)/\Below (w.heap.size + 1) W1 wr) (fun i _=> kids.length - (intOf i).toNat)
  case atStart=> exact ⟨0,by omega,rfl,ZH rfl,hB0⟩
  case round=>
   obtain ⟨k,hk',rfl,hm,hB⟩:=hrel;have hBw:=hW1.trans (hB.mono (Nat.le_succ _));have hBz:=hBw.size;have hbox:=(hB.cell (p:=⟨w.heap.size,4,none⟩) (by simp)).trans hbox2;by_cases hlt:k < kids.length
   ·rcases h2 with h00 | ⟨b,off,rfl,hb,hk⟩
    ·omega
    obtain ⟨cs,hcs,hexp⟩:=hk.get kids b off k hlt;have hexp':=hexp;have hsm:=yU Part.proc hlt;have hsk:=zbb Part.proc HSK.out k hlt;have htk:=zb7 Part.proc kids k hlt;have hno:=zbz Part.proc kids k hlt;obtain ⟨e0,he0⟩:∃e,e=kids[k]:=⟨_,rfl⟩;rw [<-he0] at hexp hexp' hsm hsk htk hno;clear he0;have hih:=ih.1 e0 (by omega) (by omega) hsk B u wr cs (hu.trans ((Below.keptC hBw).mono hBl)) (by omega) hexp';have HTK:=ZH htk;have HNO:=ZH hno;clear htk hno hsm hsk hexp';obtain ⟨o0,t0,g0,d0,k0⟩:=e0;unfold ze at hexp;obtain ⟨_,_,_,_,rfl,⟨x0,y0,rfl,_⟩,⟨x1,y1,rfl,_⟩,⟨x2,y2,rfl,_⟩⟩:=hexp;obtain ⟨c0,c1,c2,c3,c4⟩:=zK ((hcs.keep hu hb).below hBw (by omega));clear hcs hk;cases hdd:yY (.proc (.mk o0 t0 g0 d0 k0)) with
    | false=>
     have HF:=ZH (HNO.out hdd);rw [hdd] at hih;clear hdd;go_wp2_with (go_at_call 60;refine hih.mono ?_;clear hih;rintro e w5 ⟨rfl,hb5⟩);go_ret;exact ⟨qA (by rw [HK.out,HF.out]),hBw.trans (hb5.mono hBz)⟩
    | true=>
     have HT:=ZH (show qR ((kids.take (k + 1)).map .proc)=true by rw [HTK.out,hm.out,hdd];rfl);rw [hdd] at hih;clear hdd;go_wp2_with (go_at_call 60;refine hih.mono ?_;clear hih;rintro e w5 ⟨rfl,hb5⟩);go_roundw
     case rel=> exact ⟨k + 1,by omega,by go_num,HT,hB.trans (hb5.mono (by have:=hB.size;omega))⟩
     case measure=> simp [intOf];omega
   ·have hkl:k=kids.length:=by omega
    have hm2:=hm.out;rw [hkl,List.take_length] at hm2;have HF:=ZH hm2;clear hm2 hm;obtain rfl:=hkl;go_wp2;go_ret;exact ⟨qA (by rw [HK.out,HF.out]),hBw⟩
theorem zm9:∀s,RD s:=by
 intro s
 induction s with
 | zero=>
  refine ⟨fun t ht=> absurd (by rw [Part.size,zv];simp) (Nat.not_lt.2 ht),fun l hl h60 hsh B u w a cap hu hB hsrc=> ?_⟩;have hl0:l= []:=by have:=xp Part.def_ l;exact List.eq_nil_of_length_eq_zero (by omega)
  subst hl0;go_enter Tryz.func114,Tryz.ntmps114;go_wp2;refine wp_loop_rounds 1 ?_;rw [rounds_succ];go_wp2;go_ret;exact ⟨rfl,ZF _ _⟩
 | succ s ih=>
  refine ⟨fun t ht h60 hsh B u w cs hu hB hv=> ?_,fun l hl h60 hsh B u w a cap hu hB hsrc=> zhH s ih l hl h60 hsh B u w a cap hu hB hsrc⟩;obtain ⟨o,tx,a,d,k⟩:=t;exact zjF s ih o tx a d k ht h60 hsh B u w cs hu hB hv
end
section
open Go.RowKit Go.Shelf Go.Maps Go.Sort
theorem Gath.slice {s:Nat} {out bound:List ByteArray} {n0:Nat} {F0:List UInt8->Prop} {qs:List Part} {v:Value} {w:World} (h:Gath s out bound n0 F0 qs v w):∃a l c,v= .slice a l c:=by
 obtain ⟨o2,g1,_⟩:=h;obtain ⟨a,c,rfl,_⟩:=g1.strs;exact ⟨_,_,_,rfl⟩


end
end Go.Proofs.YtjmlaeofjjhfmaaGreat
