/- Lemmas. -/
import Derived.Test.YtjmlaeofjjhfmaaGreatS03
import Derived.Test.YtjmlaeofjjhfmaaGreatS06
set_option linter.unusedVariables false
set_option linter.unusedSimpArgs false
set_option maxRecDepth 10000
set_option maxHeartbeats 16000000
namespace Go.Proofs.YtjmlaeofjjhfmaaGreat
open Go.RowKit Go.Maps Go.WideMaps
theorem zm1 (a b c d:Int) (h:(a,b)≠(c,d)) (w:World):(binOp .neq 195 (.agg #[.int .i64 a, .int .i64 b]) (.agg #[.int .i64 c, .int .i64 d])).run Tryz.prog w= .ok (.bool true) w:=by
 have:¬(a=c/\b=d):=fun ⟨h1,h2⟩=> h (by rw [h1,h2]);by_cases h1:a=c
 ·have h2:¬b=d:=fun e=> this ⟨h1,e⟩
  simp [binOp,Op.equal,Op.maxDepth,go_sem,h1,h2]
 ·simp [binOp,Op.equal,Op.maxDepth,go_sem,h1]
def zeT (i:Nat) (c:zg):List (List UInt8×(Int×Int)):=c.joins.map (fun j=> (zb j.text,((i:Int),(j.names.length:Int))))
def zaG (i:Nat) (g:List zg):List (List UInt8×(Int×Int)):=g.flatMap (zeT i)
def yt:Nat->List (List zg)->List (List UInt8×(Int×Int))
 | _, []=> []
 | i,g::gs=> zaG i g ++ yt (i + 1) gs
def uses (gs:List (List zg)):List (List UInt8×(Int×Int)):=yt 0 gs
def jL:List (List UInt8×(Int×Int))->List UInt8->Int×Int
 | [],_=> (0,0)
 | x::l,k=> if x.1=k then x.2 else jL l k
theorem zjz (a b:List (List UInt8×(Int×Int))) (k:List UInt8) (h:zF (a.map (·.1)) k=false):jL (a ++ b) k=jL b k:=by
 induction a with
 | nil=> rfl
 | cons x a ih=>
  simp only [zF,List.map_cons,List.any_cons,Bool.or_eq_false_iff,beq_eq_false_iff_ne,ne_eq] at h;rw [List.cons_append,jL,if_neg h.1];exact ih h.2
theorem zeO (i:Nat) (a b:List (List zg)):yt i (a ++ b)=yt i a ++ yt (i + a.length) b:=by
 induction a generalizing i with
 | nil=> simp [yt]
 | cons x a ih=> simp [yt,ih,List.append_assoc,Nat.add_comm,Nat.add_left_comm]
theorem zfP (i:Nat) (g:List zg):(zaG i g).map (·.1)=(zS g).map zb:=by
 unfold zaG zS zeT;rw [List.map_flatMap,List.map_flatMap]
 congr 1
 funext c
 simp
theorem zgS (i:Nat) (gs:List (List zg)):(yt i gs).map (·.1)=(zl gs).map zb:=by
 induction gs generalizing i with
 | nil=> rfl
 | cons g gs ih=>
  have e:zl (g::gs)=zS g ++ zl gs:=by simp [zl]
  rw [yt,List.map_append,zfP,ih,e,List.map_append]
def Ent (gs:List (List zg)) (U:List UInt8->Int×Int) (T:List ByteArray) (x:ByteArray) (i m:Nat):Prop:=
 (zb x,((i:Int),(m:Int)))∈uses gs/\(zF (T.map zb) (zb x)=false->U (zb x)=((i:Int),(m:Int)))
theorem zfa (gs:List (List zg)) (k1:Nat) (h1:k1 < gs.length) (k2:Nat) (h2:k2 < (gs[k1]).length) (k3:Nat) (h3:k3 < ((gs[k1])[k2]).joins.length):
  Ent gs (jL (uses gs)) (zl (gs.take k1) ++ zS ((gs[k1]).take k2) ++ (((gs[k1])[k2]).joins.take k3).map (·.text)) (((gs[k1])[k2]).joins[k3]).text k1 (((gs[k1])[k2]).joins[k3]).names.length:=by
 obtain ⟨g,hg⟩:∃g,g=gs[k1]:=⟨_,rfl⟩
 have e1:uses gs=yt 0 (gs.take k1) ++ (zaG k1 g ++ yt (k1 + 1) (gs.drop (k1 + 1))):=by
  conv=> lhs;rw [uses,<-List.take_append_drop k1 gs,<-List.getElem_cons_drop h1,zeO]
  rw [yt,hg,List.length_take,Nat.min_eq_left (Nat.le_of_lt h1),Nat.zero_add]
 subst hg;obtain ⟨g,hg⟩:∃g,g=gs[k1]:=⟨_,rfl⟩;simp only [<-hg] at e1 h2 h3 ⊢;obtain ⟨c,hc⟩:∃c,c=g[k2]:=⟨_,rfl⟩
 have e2:zaG k1 g=zaG k1 (g.take k2) ++ (zeT k1 c ++ zaG k1 (g.drop (k2 + 1))):=by
  conv=> lhs;rw [zaG,<-List.take_append_drop k2 g,<-List.getElem_cons_drop h2]
  rw [List.flatMap_append,List.flatMap_cons,hc];rfl
 simp only [<-hc] at h3 ⊢;obtain ⟨j,hj⟩:∃j,j=c.joins[k3]:=⟨_,rfl⟩
 have e3:zeT k1 c=(c.joins.take k3).map (fun j=> (zb j.text,((k1:Int),(j.names.length:Int)))) ++ ((zb j.text,((k1:Int),(j.names.length:Int)))::(c.joins.drop (k3 + 1)).map (fun j=> (zb j.text,((k1:Int),(j.names.length:Int))))):=by
  conv=> lhs;rw [zeT,<-List.take_append_drop k3 c.joins,<-List.getElem_cons_drop h3]
  rw [List.map_append,List.map_cons,hj]
 simp only [<-hj];rw [e2,e3] at e1;constructor
 ·rw [e1];simp
 ·intro hin
  have e4:uses gs=(yt 0 (gs.take k1) ++ zaG k1 (g.take k2) ++ (c.joins.take k3).map (fun j=> (zb j.text,((k1:Int),(j.names.length:Int))))) ++ ((zb j.text,((k1:Int),(j.names.length:Int)))::((c.joins.drop (k3 + 1)).map (fun j=> (zb j.text,((k1:Int),(j.names.length:Int)))) ++ (zaG k1 (g.drop (k2 + 1)) ++ yt (k1 + 1) (gs.drop (k1 + 1))))):=by
   rw [e1];simp [List.append_assoc]
  rw [e4,zjz]
  ·rw [jL,if_pos rfl]
  ·rw [List.map_append,List.map_append,zgS,zfP]
   rw [List.map_append,List.map_append] at hin;rw [<-hin]
   congr 2
   rw [List.map_map,List.map_map]
   rfl
def qZ (d:List zg):Bool:=
 (uses (zm d)).all (fun x=> jL (uses (zm d)) x.1==x.2) && (zi d).all (fun p=> !zF ((zl (zm d)).map zb) (zb p)) && decide ((zi d).map zb).Nodup
theorem zeY {d:List zg} (T:List ByteArray) (x:ByteArray) (i m:Nat) (h:Ent (zm d) (jL (uses (zm d))) T x i m) (hn:jL (uses (zm d)) (zb x)≠((i:Int),(m:Int))):qZ d=false:=by
 unfold qZ
 have:(uses (zm d)).all (fun x=> jL (uses (zm d)) x.1==x.2)=false:=by
  rw [List.all_eq_false];exact ⟨_,h.1,by simpa using hn⟩
 rw [this];rfl
def zcv (U:List UInt8->Int×Int) (i:Nat) (js:List Msg):Prop:=∀j∈js,U (zb j.text)=((i:Int),(j.names.length:Int))
def zbF (U:List UInt8->Int×Int) (i:Nat) (g:List zg):Prop:=∀c∈g,zcv U i c.joins
def upTo (gs:List (List zg)) (U:List UInt8->Int×Int) (k:Nat):Prop:=∀i,(h:i < gs.length)->i < k->zbF U i gs[i]
theorem zfN (gs:List (List zg)) (U:List UInt8->Int×Int):upTo gs U 0:=fun _ _ h=> by omega
theorem zfS {gs:List (List zg)} {U:List UInt8->Int×Int} {k:Nat} (h:k < gs.length) (hu:upTo gs U k):zbF U k gs[k]->upTo gs U (k + 1):=by
 intro hg i hi hk;by_cases e:i=k
 ·subst e;exact hg
 ·exact hu i hi (by omega)
theorem zer {g:List zg} {U:List UInt8->Int×Int} {i k:Nat} (h:k < g.length) (hu:zbF U i (g.take k)):zcv U i (g[k]).joins->zbF U i (g.take (k + 1)):=by
 intro hj c hc;rw [ZT h,List.mem_append] at hc;rcases hc with hc | hc
 ·exact hu c hc
 ·simp at hc;subst hc;exact hj
theorem ze4 {js:List Msg} {U:List UInt8->Int×Int} {i k:Nat} (h:k < js.length) (hu:zcv U i (js.take k)):U (zb (js[k]).text)=((i:Int),((js[k]).names.length:Int))->zcv U i (js.take (k + 1)):=by
 intro hj c hc;rw [ZT h,List.mem_append] at hc;rcases hc with hc | hc
 ·exact hu c hc
 ·simp at hc;subst hc;exact hj
def zax (d:List zg) (k:Nat):Prop:=(∀p∈(zi d).take k,zF ((zl (zm d)).map zb) (zb p)=false)/\(((zi d).take k).map zb).Nodup
theorem zgl (d:List zg):zax d 0:=⟨by simp,by simp⟩
theorem zgk {d:List zg} {k:Nat} (h:k < (zi d).length) (hp:zax d k):zF ((zl (zm d)).map zb) (zb (zi d)[k])=false->zF (((zi d).take k).map zb) (zb (zi d)[k])=false->zax d (k + 1):=by
 intro h1 h2;constructor
 ·intro p hpm
  rw [ZT h,List.mem_append] at hpm;rcases hpm with hpm | hpm
  ·exact hp.1 p hpm
  ·simp at hpm;subst hpm;exact h1
 ·rw [ZT h,List.map_append,List.nodup_append]
  refine ⟨hp.2,by simp,fun y hy z hz=> ?_⟩;simp at hz;subst hz;intro e;subst e;simp only [zF,List.any_eq_false] at h2;exact h2 _ hy (by simp)
theorem zhs {d:List zg} (k:Nat) (h:k < (zi d).length):zF ((zl (zm d)).map zb) (zb (zi d)[k])=true∨zF (((zi d).take k).map zb) (zb (zi d)[k])=true->qZ d=false:=by
 rintro (h1 | h1)
 ·have:(zi d).all (fun p=> !zF ((zl (zm d)).map zb) (zb p))=false:=by
   rw [List.all_eq_false];exact ⟨_,ZM h,by rw [h1];simp⟩
  unfold qZ;rw [this];simp
 ·have:¬((zi d).map zb).Nodup:=by
   intro hn
   have e3:(zi d).map zb=((zi d).take k).map zb ++ (zb (zi d)[k]::((zi d).drop (k + 1)).map zb):=by
    conv=> lhs;rw [<-List.take_append_drop k (zi d)]
    rw [List.map_append,<-List.getElem_cons_drop h,List.map_cons]
   rw [e3,List.nodup_append] at hn;simp only [zF,List.any_eq_true] at h1;obtain ⟨y,hy,hy2⟩:=h1;exact hn.2.2 y hy _ (List.mem_cons_self ..) (by simpa using hy2)
  unfold qZ;rw [decide_eq_false this];simp
theorem zgH {gs:List (List zg)} {x:List UInt8×(Int×Int)} {i0:Nat} (h:x∈yt i0 gs):∃i,∃h:i < gs.length,∃c∈gs[i],∃j∈c.joins,x=(zb j.text,(((i0 + i:Nat):Int),(j.names.length:Int))):=by
 induction gs generalizing i0 with
 | nil=> simp [yt] at h
 | cons g gs ih=>
  rw [yt,List.mem_append] at h;rcases h with h | h
  ·obtain ⟨c,hc,hx⟩:=List.mem_flatMap.1 h
   obtain ⟨j,hj,rfl⟩:=List.mem_map.1 hx;exact ⟨0,by simp,c,hc,j,hj,rfl⟩
  ·obtain ⟨i,hi,c,hc,j,hj,rfl⟩:=ih h
   exact ⟨i + 1,by simpa using hi,c,by simpa using hc,j,hj,by rw [show i0 + 1 + i=i0 + (i + 1) from by omega]⟩
theorem zcN {d:List zg} (hu:upTo (zm d) (jL (uses (zm d))) (zm d).length) (hp:zax d (zi d).length):qZ d=true:=by
 unfold qZ;rw [Bool.and_eq_true,Bool.and_eq_true];obtain ⟨p1,p2⟩:=hp;rw [List.take_length] at p1 p2;refine ⟨⟨?_,?_⟩,by simpa using p2⟩
 ·rw [List.all_eq_true]
  intro x hx;obtain ⟨i,hi,c,hc,j,hj,rfl⟩:=zgH hx;have:=hu i hi hi c hc j hj;simpa using this
 ·rw [List.all_eq_true];intro p hpm;rw [p1 p hpm];rfl
theorem zeQ {d:List zg}:qZ d=true↔∃U,zfo d U:=by
 constructor
 ·intro h
  unfold qZ at h;rw [Bool.and_eq_true,Bool.and_eq_true,List.all_eq_true,List.all_eq_true] at h;obtain ⟨⟨h1,h2⟩,h3⟩:=h;refine ⟨jL (uses (zm d)),?_,fun p hp=> by simpa using h2 p hp,by simpa using h3⟩;intro i hi c hc j hj;obtain ⟨k2,hk2,rfl⟩:=List.getElem_of_mem hc;obtain ⟨k3,hk3,rfl⟩:=List.getElem_of_mem hj;have:=h1 _ (zfa (zm d) i hi k2 hk2 k3 hk3).1;simpa using this
 ·rintro ⟨U,hU1,hU2,hU3⟩
  have key:∀(l:List (List UInt8×(Int×Int))),(∀x∈l,U x.1=x.2)->∀x∈l,jL l x.1=U x.1:=by
   intro l
   induction l with
   | nil=> intro _ x hx;simp at hx
   | cons y l ih=>
    intro hl x hx;rw [jL];by_cases e:y.1=x.1
    ·rw [if_pos e,<-hl y (by simp),e]
    ·rw [if_neg e]
     rcases List.mem_cons.1 hx with rfl | hx
     ·exact absurd rfl e
     ·exact ih (fun z hz=> hl z (by simp [hz])) x hx
  have hl:∀x∈uses (zm d),U x.1=x.2:=by
   intro x hx;obtain ⟨i,hi,c,hc,j,hj,rfl⟩:=zgH hx;have:=hU1 i hi c hc j hj;simpa using this
  refine zcN ?_ ⟨fun p hp=> hU2 p (List.mem_of_mem_take hp),by rw [List.take_length];exact hU3⟩;intro i hi _ c hc j hj;obtain ⟨k2,hk2,rfl⟩:=List.getElem_of_mem hc;obtain ⟨k3,hk3,rfl⟩:=List.getElem_of_mem hj;rw [key _ hl _ (zfa (zm d) i hi k2 hk2 k3 hk3).1];exact hU1 i hi _ hc _ hj
theorem zjJ (B:Nat) (u:World) (d:List zg) (hds:zZ d<=900) (hN:(zl (zm d)).length<=100000) (a:Option Addr) (cap:Nat) (w:World) (hu:zh B u w) (hBs:B<=w.heap.size)
  (hd:d.length=0∨∃b off,a=some ⟨b,off,none⟩/\b < B/\zr B u b off d):
  Calls Tryz.prog 118 #[.slice a d.length cap] w fun e w'=> e= .returned (.bool (qZ d))/\Below w.heap.size w w':=by
 obtain ⟨U,hUe⟩:∃U,U=jL (uses (zm d)):=⟨_,rfl⟩;have hent:=fun k1 h1 k2 h2 k3 h3=> zfa (zm d) k1 h1 k2 h2 k3 h3;have hbad:=@zeY d;have hall:=@zcN d;rw [<-hUe] at hent hbad hall;have hplb:=@zhs d;have HBAD:=ZH hbad;have HPLB:=ZH hplb;have HALL:=ZH hall;have HENT:=ZH hent;clear hbad hplb hall hent hUe;have hmm:=@run_makeMap Tryz.prog;have s0:=jy.made w U;have b0:Below w.heap.size w (w.alloc (.map #[] 0)):=ZQ w _;have hgr:=zep B u (zZ d) d (ZL _) hds a cap (w.alloc (.map #[] 0)) (hu.trans ((Below.keptC b0).mono hBs)) (by simp;omega) hd (fun _ _=> trivial);have hpl:∀W,zh B u W->B<=W.heap.size->_:=fun W h1 h2=> zcJ B u (zZ d) d (ZL _) hds a cap W h1 h2 hd;go_enter Tryz.func118,Tryz.ntmps118;go_wp2_with (go_at_call 129;refine hgr.mono ?_;clear hgr;rintro e w1 ⟨r,gv,rfl,hog,hg,hb1⟩;obtain ⟨ga,gcap,rfl,hgc⟩:=zbE hog);have s1:jy w1 w.heap.size 0 [] U:=s0.kept (zj hb1) (by simp);have hgl:=ZH hg.1;have hgm:gv.length<=901:=by have h1:=hg.1;have h2:=jP d;unfold zZ at hds;simp [zm] at h1;omega
 have hB1:Below w.heap.size w w1:=b0.trans (hb1.mono (by simp))
 go_loopw [22] (fun i wr=> ∃(k:Nat),k<=gv.length/\i= .int .i64 k/\Hid (upTo (zm d) U k)/\jy wr w.heap.size (zl ((zm d).take k)).length ((zl ((zm d).take k)).map zb) U/\Below w.heap.size w wr/\Mid w.heap.size w1 wr) (fun i _=> gv.length - (intOf i).toNat)
 case atStart=> exact ⟨0,by omega,rfl,ZH (zfN _ _),s1,hB1,Mid.refl _ _⟩
 case round=>
  obtain ⟨k1,hk1,rfl,hup1,hs1,hBr,hW1⟩:=hrel;by_cases hlt1:k1 < gv.length
  ·have hlt1':k1 < (zm d).length:=by have:=hgl.out;omega
   obtain ⟨a2,cap2,hv2,hl2,hd2⟩:=hg.2 k1 hlt1 hlt1';rcases hgc with h0 | ⟨gb,rfl,hgA,hgB,hcl⟩
   ·subst h0;simp at hlt1
   have hcell:=hW1.2 gb (0 + k1) _ (by simp at hgA;omega) hgB (hcl k1 hlt1);rw [hv2,Nat.zero_add] at hcell;have hTT:=zaZ (zm d) k1 hlt1';have hE1:=HENT.out k1 hlt1';have hup1s:=zfS (U:=U) hlt1' hup1.out;obtain ⟨g,hgg⟩:∃g,g=(zm d)[k1]:=⟨_,rfl⟩;rw [<-hgg] at hl2 hd2 hcell hTT hup1s;have hE1':∀k2 (h2:k2 < g.length) k3 (h3:k3 < (g[k2]).joins.length),Ent (zm d) U (zl ((zm d).take k1) ++ zS (g.take k2) ++ ((g[k2]).joins.take k3).map (·.text)) ((g[k2]).joins[k3]).text k1 ((g[k2]).joins[k3]).names.length:=by subst hgg;exact hE1
   have HE1:=ZH hE1';have HUP1:=ZH hup1s;clear hE1 hE1' hup1s
   have hTN:(zl ((zm d).take k1)).length + (zS g).length<=100000:=by
    have e:zl (zm d)=zl ((zm d).take (k1 + 1)) ++ zl ((zm d).drop (k1 + 1)):=by
     rw [<-List.take_append_drop (k1 + 1) (zm d)];unfold zl;rw [List.flatMap_append];simp
    rw [e,hTT] at hN;simp at hN;omega
   obtain ⟨T,hT⟩:∃T,T=zl ((zm d).take k1):=⟨_,rfl⟩;rw [<-hT] at hTT hTN hs1 HE1;have HTT:=ZH hTT;clear hTT hT hgg hcl hv2;obtain ⟨wo,rfl⟩:∃wo:World,wo=wr:=⟨_,rfl⟩;go_wp2
   go_loopw [29] (fun i wq=> ∃(k:Nat),k<=g.length/\i= .int .i64 k/\Hid (zbF U k1 (g.take k))/\jy wq w.heap.size (T ++ zS (g.take k)).length ((T ++ zS (g.take k)).map zb) U/\Below w.heap.size w wq/\Mid w.heap.size w1 wq) (fun i _=> g.length - (intOf i).toNat)
   case atStart=> exact ⟨0,by omega,rfl,ZH (by intro c hc;simp at hc),by simpa [zS] using hs1,hBr,hW1⟩
   case round=>
    obtain ⟨k2,hk2,rfl,hup2,hs2,hBq,hW2⟩:=hrel;by_cases hlt2:k2 < g.length
    ·rcases hd2 with h0 | ⟨b,off,rfl,hb,hcls⟩
     ·omega
     obtain ⟨cs,hcs,hce⟩:=hcls.get g b off k2 hlt2;have hGT:=zb0 g k2 hlt2;have hE2:=HE1.out k2 hlt2;have hup2s:=zer (U:=U) (i:=k1) hlt2 hup2.out;obtain ⟨c,hc⟩:∃c,c=g[k2]:=⟨_,rfl⟩;rw [<-hc] at hce hGT hup2s;have hE2':∀k3 (h3:k3 < (c).joins.length),Ent (zm d) U (T ++ zS (g.take k2) ++ ((c).joins.take k3).map (·.text)) ((c).joins[k3]).text k1 ((c).joins[k3]).names.length:=by subst hc;exact hE2
     clear hE2
     have hTN2:T.length + (zS (g.take k2)).length + (c.joins).length<=100000:=by
      have e:zS g=zS (g.take (k2 + 1)) ++ zS (g.drop (k2 + 1)):=by
       rw [<-List.take_append_drop (k2 + 1) g];unfold zS;rw [List.flatMap_append];simp
      rw [e,hGT] at hTN;simp at hTN;omega
     obtain ⟨f,t,js,dd,kk⟩:=c;unfold zo at hce;obtain ⟨htz,_,_,_,rfl,⟨a0,p0,rfl,hjl,hjs⟩,⟨a1,p1,rfl,_⟩,⟨a3,p3,rfl,_⟩⟩:=hce;obtain ⟨c0,c1,c2,c3,c4⟩:=zK ((hcs.keep hu hb).below hBq (by omega));simp only [zg.joins] at hGT hTN2 hE2' hup2s;have HE2:=ZH hE2';have HUP2:=ZH hup2s;clear hE2' hup2s;obtain ⟨T2,hT2⟩:∃T2,T2=T ++ zS (g.take k2):=⟨_,rfl⟩;have hGT':T ++ zS (g.take (k2 + 1))=T2 ++ js.map (·.text):=by rw [hGT,hT2,List.append_assoc]
     have hT2l:T2.length + js.length<=100000:=by rw [hT2,List.length_append];omega
     rw [<-hT2] at hs2 HE2;have HGT:=ZH hGT';clear hGT hGT' hT2 hTN2 hTN hcs;obtain ⟨wp,rfl⟩:∃wp:World,wp=wr:=⟨_,rfl⟩;have hsz:=hBq.size;have hsb:=hs2.kept (ZW wp (.cells #[.int .i64 f, .string t, .slice a0 js.length p0, .slice a1 dd.length p1, .slice a3 kk.length p3] 130) none) (by simp);have hBb:=hBq.alloc hsz (.cells #[.int .i64 f, .string t, .slice a0 js.length p0, .slice a1 dd.length p1, .slice a3 kk.length p3] 130);have hWb:=hW2.alloc (.cells #[.int .i64 f, .string t, .slice a0 js.length p0, .slice a1 dd.length p1, .slice a3 kk.length p3] 130);go_wp2
     go_loopw [36] (fun i wq=> ∃(k:Nat),k<=js.length/\i= .int .i64 k/\Hid (zcv U k1 (js.take k))/\jy wq w.heap.size (T2 ++ (js.take k).map (·.text)).length ((T2 ++ (js.take k).map (·.text)).map zb) U/\Below w.heap.size w wq/\Mid w.heap.size w1 wq) (fun i _=> js.length - (intOf i).toNat)
     case atStart=> exact ⟨0,by omega,rfl,ZH (by intro c hc;simp at hc),by simpa using hsb,hBb,hWb⟩
     case round=>
      obtain ⟨k3,hk3,rfl,hup3,hs3,hB3,hW3⟩:=hrel;by_cases hlt3:k3 < js.length
      ·rcases hjs with h0 | ⟨mb,moff,rfl,hmb,hms⟩
       ·omega
       obtain ⟨mcs,hmcs,hmz,mv,rfl,hmn⟩:=hms.get js mb moff k3 hlt3;have hE3:=HE2.out k3 hlt3;have hup3s:=ze4 (U:=U) (i:=k1) hlt3 hup3.out
       have hm3:T2 ++ (js.take (k3 + 1)).map (·.text)=T2 ++ (js.take k3).map (·.text) ++ [(js[k3]).text]:=by
        rw [ZT hlt3,List.map_append,List.append_assoc];rfl
       obtain ⟨x,hx⟩:∃x,x=(js[k3]).text:=⟨_,rfl⟩;obtain ⟨nm,hnm⟩:∃nm,nm=(js[k3]).names.length:=⟨_,rfl⟩;rw [<-hx] at hm3 hmz hmcs hE3 hup3s;rw [<-hnm] at hE3 hup3s;obtain ⟨T3,hT3⟩:∃T3,T3=T2 ++ (js.take k3).map (·.text):=⟨_,rfl⟩;have hT3l:T3.length<=100000:=by rw [hT3,List.length_append,List.length_map,List.length_take];omega
       rw [<-hT3] at hm3 hs3 hE3;have HE3:=ZH hE3;have HUP3:=ZH hup3s;clear hE3 hup3s;obtain ⟨na,nc,rfl,hnl,_⟩:=hmn;rw [<-hnm] at hmcs hnl;obtain ⟨d0,d1⟩:=yO ((hmcs.keep hu hmb).below hB3 (by omega));have HM:=ZH hm3;clear hm3 hT3 hmcs hx hnm;have hz3:=hB3.size;have sA:=(hs3.kept (ZW wr (.cells #[.string x, .slice na nm nc] 144) none) (by simp)).kept (ZW _ (.cells #[.int .i64 k1, .int .i64 nm] 195) none) (by simp);have hlook:=sA.look hmz;have bA:=(hB3.alloc hz3 (.cells #[.string x, .slice na nm nc] 144)).alloc (by simp;omega) (.cells #[.int .i64 k1, .int .i64 nm] 195);have mA:=(hW3.alloc (.cells #[.string x, .slice na nm nc] 144)).alloc (.cells #[.int .i64 k1, .int .i64 nm] 195);have hsl:=hs3.lt;have hq:=znk k1 nm
       have fin:U (zb x)=((k1:Int),(nm:Int))->∀X3:Obj,∃w5,(Instr.mapUpdate 193 (.map (some w.heap.size)) (.string x) (.agg #[.int .i64 k1, .int .i64 nm])).run Tryz.prog (((wr.alloc (.cells #[.string x, .slice na nm nc] 144)).alloc (.cells #[.int .i64 k1, .int .i64 nm] 195)).alloc X3)= .ok () w5/\
         jy w5 w.heap.size (T2 ++ (js.take (k3 + 1)).map (·.text)).length ((T2 ++ (js.take (k3 + 1)).map (·.text)).map zb) U/\Below w.heap.size w w5/\Mid w.heap.size w1 w5:=by
        intro hUx X3;obtain ⟨w5,r5,s5,g5⟩:=(sA.kept (ZW _ X3 none) (by simp)).put (by unfold maxLen;omega) hmz;refine ⟨w5,?_,?_,(bA.alloc bA.size X3).grown g5 (by have:=bA.size;simp at this ⊢;omega) (fun k e=> by have e1:=ZJ e;omega),(mA.alloc X3).grown g5 (fun r e=> by have e1:=ZJ e;exact .inl (by omega))⟩
        ·rw [<-r5,hUx];rfl
        ·rw [HM.out,List.length_append,List.map_append];exact s5
       cases hin:zF (T3.map zb) (zb x) with
       | true=>
        by_cases hUx:U (zb x)=((k1:Int),(nm:Int))
        ·rw [hin,hUx] at hlook
         simp only [if_true,valU] at hlook;obtain ⟨w5,r5,s5,b5,m5⟩:=fin hUx (.cells #[.int .i64 k1, .int .i64 nm] 195);have HUP:=ZH (HUP3.out hUx);clear fin hin hUx;go_wp2;go_roundw
         case rel=> exact ⟨k3 + 1,by omega,by go_num,HUP,s5,b5,m5⟩
         case measure=> simp [intOf];omega
        ·obtain ⟨p1,p2,hp⟩:∃p1 p2,U (zb x)=(p1,p2):=⟨_,_,rfl⟩
         have hF:=ZH (HBAD.out _ _ _ _ HE3.out hUx);have hq':=zm1 p1 p2 k1 nm (by rw [<-hp];exact hUx);rw [hin,hp] at hlook;simp only [if_true,valU] at hlook;clear fin hin hUx hp hq;go_wp2;go_ret;exact ⟨qA hF.out.symm,bA.alloc bA.size _⟩
       | false=>
        have hUx:=HE3.out.2 hin;have HUP:=ZH (HUP3.out hUx);rw [hin] at hlook;simp only [Bool.false_eq_true,if_false,valU] at hlook;obtain ⟨w5,r5,s5,b5,m5⟩:=fin hUx (.cells #[.int .i64 0, .int .i64 0] 195);clear fin hin hUx;go_wp2;go_roundw
        case rel=> exact ⟨k3 + 1,by omega,by go_num,HUP,s5,b5,m5⟩
        case measure=> simp [intOf];omega
      ·obtain rfl:k3=js.length:=by omega
       rw [List.take_length,<-HGT.out] at hs3;go_wp2;go_roundw
       case rel=> exact ⟨k2 + 1,by omega,by go_num,ZH (HUP2.out (by have:=hup3.out;rwa [List.take_length] at this)),hs3,hB3,hW3⟩
       case measure=> simp [intOf];omega
    ·obtain rfl:k2=g.length:=by omega
     rw [List.take_length] at hs2;go_wp2;go_roundw
     case rel=> exact ⟨k1 + 1,by omega,by go_num,ZH (HUP1.out (by have:=hup2.out;rwa [List.take_length] at this)),by rw [HTT.out];exact hs2,hBq,hW2⟩
     case measure=> simp [intOf];omega
  ·obtain rfl:k1=gv.length:=by omega
   have e:(zm d).take gv.length=zm d:=List.take_of_length_le (by have:=hgl.out;omega);have HUPD:=ZH (show upTo (zm d) U (zm d).length by have h:=hup1.out;rwa [hgl.out] at h);clear hup1;rw [e] at hs1;obtain ⟨wm,rfl⟩:∃wm:World,wm=wr:=⟨_,rfl⟩;have hzr:=hBr.size;have st0:=qK.made wm;have bm0:Below w.heap.size w (wm.alloc (.map #[] 0)):=hBr.alloc hzr _;have u0:=hs1.kept (ZW wm (.map #[] 0) none) (by simp);have hpc:=hpl (wm.alloc (.map #[] 0)) (hu.trans ((Below.keptC bm0).mono hBs)) (by simp;omega);clear hpl;go_wp2_with (go_at_call 77;refine hpc.mono ?_;clear hpc;rintro e w2 ⟨r,rfl,hop,hpz,hb2⟩;obtain ⟨pa,pcap,rfl,hpcell⟩:=zbE (vs:=zn (zi d)) (by simpa [zn] using hop);have hvlen:(zn (zi d)).length=(zi d).length:=(by simp [zn]);rw [hvlen]);have hB2:=bm0.trans (hb2.mono (by simp;omega));have u2:=u0.kept (zj hb2) (by simp);have st2:=st0.below hb2 (by simp);have hz2:=hb2.size;simp at hz2;have hus:=hs1.lt;have hpn:(zi d).length<=900:=by have:=yx d;unfold zZ at hds;omega
   have HV:=ZH hvlen;clear hvlen
   go_loopw [69] (fun i wq=> ∃(k:Nat),k<=(zi d).length/\i= .int .i64 k/\Hid (zax d k)/\jy wq w.heap.size (zl (zm d)).length ((zl (zm d)).map zb) U/\qK wq wm.heap.size k (((zi d).take k).map zb)/\Below w.heap.size w wq/\Mid wm.heap.size w2 wq) (fun i _=> (zi d).length - (intOf i).toNat)
   case atStart=> exact ⟨0,by omega,rfl,ZH (zgl d),u2,st2,hB2,Mid.refl _ _⟩
   case round=>
    obtain ⟨k,hk,rfl,hpo,uk,sk,bk,mk⟩:=hrel;by_cases hlt:k < (zi d).length
    ·rcases hpcell with h0 | ⟨pb,rfl,hpA,hpB,hpc⟩
     ·have e1:(zn (zi d)).length=0:=by rw [h0];rfl
      have:=HV.out;omega
     have hpA':wm.heap.size + 1<=pb:=by first | exact hpA | (simpa using hpA)
     have hcell:=mk.2 pb (0 + k) _ (by omega) hpB (hpc k (by have:=HV.out;omega));rw [Nat.zero_add,show (zn (zi d))[k]'(by have:=HV.out;omega)= .string (zi d)[k] from by simp [zn]] at hcell;have hpk:=hpz (zi d)[k] (ZM hlt);have hpos:=zgk hlt hpo.out;have hpb:=HPLB.out k hlt;have htk:=ZH (zcR (zi d) k hlt);obtain ⟨x,hx⟩:∃x,x=(zi d)[k]:=⟨_,rfl⟩;rw [<-hx] at hcell hpk htk hpos hpb;have HPOS:=ZH hpos;have HPB:=ZH hpb;clear hpos hpb;have hzk:=bk.size;have hl1:=uk.look hpk;have ux:=uk.kept (ZW wr (.cells #[.int .i64 0, .int .i64 0] 195) none) (by simp);have sx:=sk.kept (ZW wr (.cells #[.int .i64 0, .int .i64 0] 195) none) (by simp);have hl2:=sx.look hpk;rw [show x.data.toList=zb x from rfl] at hl2;cases huk:zF ((zl (zm d)).map zb) (zb x) with
     | true=>
      have hF:=ZH (HPB.out (.inl huk));rw [huk] at hl1;obtain ⟨p1,p2,hp⟩:∃p1 p2,U (zb x)=(p1,p2):=⟨_,_,rfl⟩;rw [hp] at hl1;simp only [if_true,valU] at hl1;clear hl2 huk hp hx;go_wp2;go_ret;exact ⟨qA hF.out.symm,bk.alloc hzk _⟩
     | false=>
     rw [huk] at hl1;simp only [Bool.false_eq_true,if_false,valU] at hl1;cases hnd:zF (((zi d).take k).map zb) (zb x) with
     | true=>
      have hF:=ZH (HPB.out (.inr hnd));rw [hnd] at hl2;clear huk hnd hx;go_wp2;go_ret;exact ⟨qA hF.out.symm,bk.alloc hzk _⟩
     | false=>
     have HPO:=ZH (HPOS.out huk hnd);rw [hnd] at hl2;obtain ⟨w5,r5,s5,g5⟩:=sx.put (by unfold maxLen;omega) hpk;have hne:(some w.heap.size:Option Nat)≠some wm.heap.size:=by intro e;have:=ZJ e;omega
     have u5:=ux.kept g5 hne;have b5:=(bk.alloc hzk (.cells #[.int .i64 0, .int .i64 0] 195)).grown g5 (by simp;omega) (fun k e=> by have:=ZJ e;omega);have m5:=(mk.alloc (.cells #[.int .i64 0, .int .i64 0] 195)).grown g5 (fun r e=> .inl (by have:=ZJ e;omega));clear huk hnd hx;go_wp2;go_roundw
     case rel=> exact ⟨k + 1,by omega,by go_num,HPO,u5,by rw [htk.out];exact s5,b5,m5⟩
     case measure=> simp [intOf];omega
    ·obtain rfl:k=(zi d).length:=by omega
     go_wp2;go_ret;exact ⟨qA (HALL.out HUPD.out hpo.out).symm,bk⟩
end Go.Proofs.YtjmlaeofjjhfmaaGreat
