/- Lemmas. -/
import Derived.Test.YtjmlaeofjjhfmaaGreatS02
set_option linter.unusedVariables false
set_option linter.unusedSimpArgs false
set_option maxRecDepth 10000
set_option maxHeartbeats 16000000
namespace Go.Proofs.YtjmlaeofjjhfmaaGreat
section
open Go.RowKit Go.Maps
def zg.form:zg->Int | .mk f _ _ _ _=> f
def zg.text:zg->ByteArray | .mk _ t _ _ _=> t
def zg.joins:zg->List Msg | .mk _ _ j _ _=> j
def zg.defs:zg->List zg | .mk _ _ _ d _=> d
def zg.kids:zg->List Term | .mk _ _ _ _ k=> k
mutual
def yk:zg->List (List zg)
 | .mk f _ _ d _=> if f=2 then d::zO d else []
def zO:List zg->List (List zg)
 | []=> []
 | c::cs=> yk c ++ zO cs
end
def zm (d:List zg):List (List zg):=d::zO d
mutual
def yc:zg->List ByteArray
 | .mk f t _ d _=> if f=2 then t::zi d else []
def zi:List zg->List ByteArray
 | []=> []
 | c::cs=> yc c ++ zi cs
end
def zZ (d:List zg):Nat:=(qu 0 d).length
theorem zc4 (d:List zg) (k:Nat) (h:k < d.length):zO (d.take (k + 1))=zO (d.take k) ++ yk d[k]:=by
 have e:∀a b:List zg,zO (a ++ b)=zO a ++ zO b:=by
  intro a b;induction a with
  | nil=> rfl
  | cons x a ih=> simp [zO,ih]
 rw [ZT h,e];simp [zO]
theorem zby (d:List zg) (k:Nat) (h:k < d.length):zi (d.take (k + 1))=zi (d.take k) ++ yc d[k]:=by
 have e:∀a b:List zg,zi (a ++ b)=zi a ++ zi b:=by
  intro a b;induction a with
  | nil=> rfl
  | cons x a ih=> simp [zi,ih]
 rw [ZT h,e];simp [zi]
theorem zaq {d:List zg} {k:Nat} (h:k < d.length):zZ (d[k]).defs < zZ d:=by
 obtain ⟨a,b,e⟩:=List.append_of_mem (ZM h);have e2:zZ d=(zM 0 (d.map .def_)).length:=by rw [zZ,j6]
 have e3':∀c:zg,zZ c.defs<=(qF 1 c).length - 1/\1<=(qF 1 c).length:=by
  intro c;obtain ⟨f,t,j,dd,kk⟩:=c;simp only [zg.defs,qF,List.length_cons,List.length_append,zZ];rw [jz 0 (1 + 1)];omega
 have e3:=(e3' d[k]).1;have e5:=(e3' d[k]).2
 have e4':∀(c:zg) (a b:List zg),(qF 0 c).length<=(zM 0 ((a ++ c::b).map .def_)).length:=by
  intro c a b;rw [List.map_append,List.map_cons,yX];have:zM 0 (Part.def_ c::b.map .def_)=qF 0 c ++ zM 0 (b.map .def_):=by simp [zM,zw]
  rw [this,List.length_append,List.length_append];omega
 have e4:=e4' d[k] a b;rw [<-e] at e4;rw [zcA 0 1] at e4;omega
theorem jq:∀d:List zg,d.length<=zZ d
 | []=> by simp
 | c::cs=> by
  have:=jq cs;have h1:1<=(qF 0 c).length:=by obtain ⟨f,t,j,dd,kk⟩:=c;simp [qF]
  simp only [zZ,qu,List.length_append,List.length_cons] at this ⊢;omega
mutual
theorem zh7:∀c:zg,(yk c).length<=(qF 0 c).length
 | .mk f _ _ d k=> by
  have:=jP d;unfold yk
  split
  ·simp [qF];rw [jz 1 0];omega
  ·simp
theorem jP:∀d:List zg,(zO d).length<=(qu 0 d).length
 | []=> by simp [zO]
 | c::cs=> by have:=zh7 c;have:=jP cs;simp [zO,qu];omega
end
mutual
theorem zhv:∀c:zg,(yc c).length<=(qF 0 c).length
 | .mk f _ _ d k=> by
  have:=yx d;unfold yc
  split
  ·simp [qF];rw [jz 1 0];omega
  ·simp
theorem yx:∀d:List zg,(zi d).length<=(qu 0 d).length
 | []=> by simp [zi]
 | c::cs=> by have:=zhv c;have:=yx cs;simp [zi,qu];omega
end
theorem zjN:(Tryz.prog.info? 30).map (fun i=> (i.zero,i.size,i.bytes))=some (some (.slice none 0 0),1,24):=by kernel_rfl
def yN (B:Nat) (u:World) (vs:List Value) (gs:List (List zg)):Prop:=
 vs.length=gs.length/\∀i,(h:i < vs.length)->(h':i < gs.length)->SlAt B vs[i] (gs[i]).length (fun b off=> zr B u b off gs[i])
theorem yN.append {B:Nat} {u:World} {v1 v2:List Value} {g1 g2:List (List zg)} (h:yN B u v1 g1) (k:yN B u v2 g2):yN B u (v1 ++ v2) (g1 ++ g2):=by
 refine ⟨by simp [h.1,k.1],fun i hi hi'=> ?_⟩;by_cases hl:i < v1.length
 ·rw [List.getElem_append_left hl,List.getElem_append_left (by have:=h.1;omega)];exact h.2 i hl (by have:=h.1;omega)
 ·have e:=h.1
  rw [List.getElem_append_right (by omega),List.getElem_append_right (by omega)];simp only [e];exact k.2 _ (by simp at hi;omega) (by simp at hi';omega)
theorem yN.one {B:Nat} {u:World} {vs:List Value} {gs:List (List zg)} (h:yN B u vs gs):∀v∈vs,v.oneCell'=true:=by
 intro v hv;obtain ⟨i,hi,rfl⟩:=List.getElem_of_mem hv;obtain ⟨a,cap,e,_⟩:=h.2 i hi (by rw [<-h.1];exact hi);rw [e];rfl
theorem zep (B:Nat) (u:World):∀(s:Nat) (d:List zg),zZ d<=s->s<=900->∀(a:Option Addr) (cap:Nat) (w:World),zh B u w->B<=w.heap.size->
  (d.length=0∨∃b off,a=some ⟨b,off,none⟩/\b < B/\zr B u b off d)->(∀c∈d,True)->
  Calls Tryz.prog 129 #[.slice a d.length cap] w fun e w'=> ∃r vs,e= .returned r/\w'.ownsRow w.heap.size 30 1 r vs.length vs/\yN B u vs (zm d)/\Below w.heap.size w w':=by
 intro s
 induction s with
 | zero=>
  intro d hds hs9 a cap w hu hBs hd _;have:d= []:=by have:=jq d;exact List.eq_nil_of_length_eq_zero (by omega)
  subst this;go_enter Tryz.func129,Tryz.ntmps129;go_wp2;refine wp_loop_rounds 1 ?_;rw [rounds_succ];go_wp2;go_ret;refine ⟨_, [.slice a 0 cap],rfl,⟨by simp, .inr ⟨w.heap.size,1,#[.slice a 0 cap],rfl,ZL _,ZN w _,by simp,by unfold maxLen;omega,rfl,rfl⟩⟩,⟨rfl,?_⟩,ZQ w _⟩
  ·intro i h h'
   have:i=0:=by simp at h;omega
   subst this;exact ⟨a,cap,rfl,Nat.zero_le _, .inl rfl⟩
 | succ s ih=>
  intro d hds hs9 a cap w hu hBs hd _;obtain ⟨i0,hi,hz0,hz1,hz2⟩:=info_parts zjN;have hdl:d.length<=900:=by have:=jq d;omega
  have hgl:(zO d).length<=900:=by have:=jP d;unfold zZ at hds;omega
  have ho0:(w.alloc (.cells #[.slice a d.length cap] 30)).ownsRow w.heap.size 30 1 (.slice (some ⟨w.heap.size,0,none⟩) 1 1) 1 [.slice a d.length cap]:=
   ⟨by simp, .inr ⟨w.heap.size,1,#[.slice a d.length cap],rfl,ZL _,ZN w _,by simp,by unfold maxLen;omega,rfl,rfl⟩⟩
  have hg0:yN B u [.slice a d.length cap] [d]:=⟨rfl,fun i h h'=> by
   have:i=0:=by simp at h;omega
   subst this;exact ⟨a,cap,rfl,by show d.length<=_;omega,hd⟩⟩
  go_enter Tryz.func129,Tryz.ntmps129;go_wp2
  go_loopw [3,10] (fun v i wr=> ∃(k:Nat) (vs:List Value),k<=d.length/\i= .int .i64 k/\Below w.heap.size w wr/\wr.ownsRow w.heap.size 30 1 v vs.length vs/\yN B u vs (d::zO (d.take k))) (fun _ i _=> d.length - (intOf i).toNat)
  case atStart=> exact ⟨0,_,by omega,rfl,ZQ w _,ho0,hg0⟩
  case round=>
   obtain ⟨k,vs,hk',rfl,hB,ho,hg⟩:=hrel;have hsz:=hB.size;by_cases hlt:k < d.length
   ·rcases hd with h0 | ⟨b,off,rfl,hb,hcl⟩
    ·omega
    obtain ⟨cs,hcs,hce⟩:=hcl.get d b off k hlt;have hpart:=zaq hlt;have htk:=zc4 d k hlt
    have hvl:vs.length<=901:=by
     have:=hg.1
     have h2:(zO (d.take k)).length<=(zO d).length:=by
      have e:∀a b:List zg,zO (a ++ b)=zO a ++ zO b:=by
       intro a b;induction a with
       | nil=> rfl
       | cons x a ih=> simp [zO,ih]
      conv=> rhs;rw [<-List.take_append_drop k d,e,List.length_append]
      omega
     simp at this;omega
    obtain ⟨c,hc⟩:∃c,c=d[k]:=⟨_,rfl⟩;rw [<-hc] at hce hpart htk;obtain ⟨f,t,j,dd,kk⟩:=c;have hce':=hce;unfold zo at hce;obtain ⟨_,_,_,_,rfl,⟨a0,p0,rfl,_⟩,⟨a1,p1,rfl,_,hdd⟩,⟨a2,p2,rfl,_⟩⟩:=hce;obtain ⟨c0,c1,c2,c3,c4⟩:=zK ((hcs.keep hu hb).below hB (by omega));simp only [zg.defs] at hpart;by_cases hf:f=2
    ·subst hf
     have HTK:=ZH htk;clear htk;have hBx:Below wr.heap.size wr (wr.alloc (.cells #[.int .i64 2, .string t, .slice a0 j.length p0, .slice a1 dd.length p1, .slice a2 kk.length p2] 130)):=ZQ wr _;have hrec:=ih dd (by omega) (by omega) a1 p1 (wr.alloc (.cells #[.int .i64 2, .string t, .slice a0 j.length p0, .slice a1 dd.length p1, .slice a2 kk.length p2] 130)) (hu.trans ((Below.keptC (hB.trans (hBx.mono hsz))).mono hBs)) (by simp;omega) hdd (fun _ _=> trivial);go_wp2_with fail;refine hrec.mono ?_;clear hrec;rintro e w1 ⟨r,vs1,rfl,ho1,hg1,hb1⟩
     have hrl:vs1.length<=901:=by
      have:=hg1.1;have h2:=jP dd;simp [zm] at this;unfold zZ at hpart hds;omega
     have hB1:Below w.heap.size w w1:=(hB.trans (hBx.mono hsz)).trans (hb1.mono (by simp;omega));have ho':w1.ownsRow w.heap.size 30 1 u3 vs.length vs:=qX (ho.alloc (.cells #[.int .i64 2, .string t, .slice a0 j.length p0, .slice a1 dd.length p1, .slice a2 kk.length p2] 130)) (zj hb1) (fun g _ e=> by cases e)
     have hg':yN B u (vs ++ vs1) (d::zO (d.take (k + 1))):=by
      rw [HTK.out];simp only [yk];exact hg.append hg1
     have HG:=ZH hg';clear hg';have hone:=hg1.one;have hge:1<=vs1.length:=by have:=hg1.1;simp [zm] at this;omega
     obtain ⟨hlr,⟨rfl,h0⟩ | ⟨g,rc,cur,rfl,hgb,hgh,hgn,hgm,hgs,hgt⟩⟩:=ho1
     ·omega
     have hnews:Hid (∀jj x,vs1[jj]?=some x->w1.cell? ((⟨g,0,none⟩:Addr).add jj)=some x):=ZH (fun jj x hx=> by
      simp only [Nat.mul_one] at hgt hgs;have hj1:jj < vs1.length:=(List.getElem?_eq_some_iff.1 hx).1;have e:(⟨g,0,none⟩:Addr).add jj=⟨g,jj,none⟩:=by unfold Addr.add;by_cases h:jj=0 <;> simp [h]
      rw [e];have:vs1[jj]?=(cur.toList.take vs1.length)[jj]?:=by rw [hgt]
      rw [List.getElem?_take_of_lt hj1,hx] at this;simp [World.cell?,hgh];simpa using this.symm)
     clear hgt hgs hgh hgn hgm hlr;go_wp2_with (show wpList _ _ _ (⟨some 21,_,_,_,_,_⟩::_) _ _;refine wpList_append_own _ rfl (.tmp 17) (.tmp 20) 163 rfl w.heap.size 30 i0 (.slice none 0 0) 1 24 Tryz.underlying163 hi hz0 hz1 hz2 rfl (by decide) _ _ _ rfl ho' ⟨g,0,none⟩ vs1.length rc vs1 rfl (by omega) hnews.out hone (by unfold maxLen;omega) (by omega) hB1.size ?_;intro v' w2 o2 g2 _);go_roundw
     case rel=> exact ⟨k + 1,vs ++ vs1,by omega,by go_num,hB1.grown g2 hB1.size (fun k e=> (ho'.lt k e).1),by rw [List.length_append];exact o2,HG.out⟩
     case measure=> simp [intOf];omega
    ·have hfb:((f:Int)==2)=false:=by simpa using hf
     have htk':zO (d.take (k + 1))=zO (d.take k):=by rw [htk];simp [yk,hf]
     have HTK:=ZH htk';clear htk htk';go_wp2;go_roundw
     case rel=> exact ⟨k + 1,vs,by omega,by go_num,hB.alloc hsz _,ho.alloc _,by rw [HTK.out];exact hg⟩
     case measure=> simp [intOf];omega
   ·obtain rfl:k=d.length:=by omega
    rw [List.take_length] at hg;go_wp2;go_ret;exact ⟨_,vs,rfl,ho,hg,hB⟩
theorem zhZ {w:World} {B:Nat} {v:Value} {ss:List ByteArray} (h:zx B w v ss) (hne:ss≠ []):∃g off cap,v= .slice (some ⟨g,off,none⟩) ss.length cap/\∀jj x,(zn ss)[jj]?=some x->w.cell? ((⟨g,off,none⟩:Addr).add jj)=some x:=by
 obtain ⟨a,cap,rfl,hl,hz,hcap,h⟩:=h;rcases h with h | ⟨b,off,rfl,hB,hc⟩
 ·exact absurd h hne
 ·refine ⟨b,off,cap,rfl,fun jj x hx=> ?_⟩
  have hj:jj < ss.length:=by have:=(List.getElem?_eq_some_iff.1 hx).1;simpa [zn] using this
  have e:(⟨b,off,none⟩:Addr).add jj=⟨b,off + jj,none⟩:=by unfold Addr.add;by_cases h:jj=0 <;> simp [h]
  rw [e];simp [zn,hj] at hx;subst hx;exact hc jj hj
theorem zcJ (B:Nat) (u:World):∀(s:Nat) (d:List zg),zZ d<=s->s<=900->∀(a:Option Addr) (cap:Nat) (w:World),zh B u w->B<=w.heap.size->
  (d.length=0∨∃b off,a=some ⟨b,off,none⟩/\b < B/\zr B u b off d)->
  Calls Tryz.prog 77 #[.slice a d.length cap] w fun e w'=> ∃r,e= .returned r/\w'.ownsRow w.heap.size 9 1 r (zi d).length (zn (zi d))/\(∀t∈zi d,t.size<=maxLen)/\Below w.heap.size w w':=by
 intro s
 induction s with
 | zero=>
  intro d hds hs9 a cap w hu hBs hd;have:d= []:=by have:=jq d;exact List.eq_nil_of_length_eq_zero (by omega)
  subst this;go_enter Tryz.func77,Tryz.ntmps77;go_wp2;refine wp_loop_rounds 1 ?_;rw [rounds_succ];go_wp2;go_ret;exact ⟨_,rfl,ZR _ _ _ _,by simp [zi],ZF _ _⟩
 | succ s ih=>
  intro d hds hs9 a cap w hu hBs hd;obtain ⟨i0,hi,hz0,hz1,hz2⟩:=info_parts zaK;have hdl:d.length<=900:=by have:=jq d;omega
  go_enter Tryz.func77,Tryz.ntmps77;go_wp2
  go_loopw [3,8] (fun v i wr=> ∃(k:Nat),k<=d.length/\i= .int .i64 k/\Below w.heap.size w wr/\wr.ownsRow w.heap.size 9 1 v (zi (d.take k)).length (zn (zi (d.take k)))/\(∀t∈zi (d.take k),t.size<=maxLen)) (fun _ i _=> d.length - (intOf i).toNat)
  case atStart=> exact ⟨0,by omega,rfl,ZF _ _,ZR _ _ _ _,by simp [zi]⟩
  case round=>
   obtain ⟨k,hk',rfl,hB,ho,hg⟩:=hrel;have hsz:=hB.size;by_cases hlt:k < d.length
   ·rcases hd with h0 | ⟨b,off,rfl,hb,hcl⟩
    ·omega
    obtain ⟨cs,hcs,hce⟩:=hcl.get d b off k hlt;have hpart:=zaq hlt;have htk:=zby d k hlt
    have hvl:(zi (d.take k)).length<=900:=by
     have e:∀a b:List zg,zi (a ++ b)=zi a ++ zi b:=by
      intro a b;induction a with
      | nil=> rfl
      | cons x a ih=> simp [zi,ih]
     have h2:(zi (d.take k)).length<=(zi d).length:=by
      conv=> rhs;rw [<-List.take_append_drop k d,e,List.length_append]
      omega
     have:=yx d;unfold zZ at hds;omega
    obtain ⟨c,hc⟩:∃c,c=d[k]:=⟨_,rfl⟩;rw [<-hc] at hce hpart htk;obtain ⟨f,t,j,dd,kk⟩:=c;unfold zo at hce;obtain ⟨htz,_,_,_,rfl,⟨a0,p0,rfl,_⟩,⟨a1,p1,rfl,_,hdd⟩,⟨a2,p2,rfl,_⟩⟩:=hce;obtain ⟨c0,c1,c2,c3,c4⟩:=zK ((hcs.keep hu hb).below hB (by omega));simp only [zg.defs] at hpart;have hBx:Below wr.heap.size wr (wr.alloc (.cells #[.int .i64 f, .string t, .slice a0 j.length p0, .slice a1 dd.length p1, .slice a2 kk.length p2] 130)):=ZQ wr _;by_cases hf:f=2
    ·subst hf
     have HTK:=ZH htk;clear htk;have hox:=ho.alloc (.cells #[.int .i64 2, .string t, .slice a0 j.length p0, .slice a1 dd.length p1, .slice a2 kk.length p2] 130)
     have hcell:(wr.alloc (.cells #[.int .i64 2, .string t, .slice a0 j.length p0, .slice a1 dd.length p1, .slice a2 kk.length p2] 130)).cell? ⟨wr.heap.size,3,none⟩=some (.slice a1 dd.length p1):=by
      rw [ZA _ _ _ _ rfl];rfl
     have hpd:(zi dd).length<=900:=by have:=yx dd;unfold zZ at hpart hds;omega
     have hol:=ZH ho.lt
     have D1:Hid (∀w1,((wr.alloc (.cells #[.int .i64 2, .string t, .slice a0 j.length p0, .slice a1 dd.length p1, .slice a2 kk.length p2] 130)).alloc (.cells #[.string t] 9)).grownBy w1 u3.ownBlock->w1.cell? ⟨wr.heap.size,3,none⟩=some (.slice a1 dd.length p1)/\Below w.heap.size w w1):=ZH (fun w1 g1=> by
      refine ⟨(ZB (w:=(wr.alloc (.cells #[.int .i64 2, .string t, .slice a0 j.length p0, .slice a1 dd.length p1, .slice a2 kk.length p2] 130)).alloc (.cells #[.string t] 9)) (g1.block wr.heap.size (by simp;omega) (by intro e;have:=hol.out _ e.symm;omega))).trans ?_,?_⟩
      ·rw [ZP _ _ _ (by simp)];exact hcell
      ·exact ((hB.alloc hsz _).alloc (by simp;omega) _).grown g1 (by simp;omega) (fun k e=> (hol.out k e).1))
     clear hcell;go_wp2_with (show wpList _ _ _ (⟨some 19,_,_,_,_,_⟩::_) _ _;refine wpList_append_own_at _ rfl (.tmp 15) (.tmp 18) 22 rfl w.heap.size 9 i0 (.string ⟨#[]⟩) 1 16 Tryz.underlying22 hi hz0 hz1 hz2 rfl (by decide) _ _ _ rfl (hox.alloc _) ⟨wr.heap.size + 1,0,none⟩ 1 1 [.string t] rfl rfl (yw _ _ _ _ (by simp)) (by simp [Value.oneCell']) (by unfold maxLen;omega) (by omega) (by simp;omega) ?_;intro v1 w1 o1 g1 _ p1';obtain ⟨hcw,hB1⟩:=D1.out w1 g1);have hrec:=ih dd (by omega) (by omega) a1 p1 w1 (hu.trans ((Below.keptC hB1).mono hBs)) (by have:=hB1.size;omega) hdd;refine hrec.mono ?_;clear hrec;rintro e w2 ⟨r,rfl,ho2,hz2',hb2⟩;have hB2:Below w.heap.size w w2:=hB1.trans (hb2.mono hB1.size);have ho1':w2.ownsRow w.heap.size 9 1 v1 ((zi (d.take k)).length + 1) (zn (zi (d.take k)) ++ [.string t]):=qX o1 (zj hb2) (fun g _ e=> by cases e)
     have hall:∀x∈zi (d.take (k + 1)),x.size<=maxLen:=by
      rw [HTK.out];simp only [yc];intro x hx;rcases List.mem_append.1 hx with hx | hx
      ·exact hg x hx
      ·simp at hx;rcases hx with rfl | hx
       ·exact htz
       ·exact hz2' x hx
     have hlen2:(zi (d.take (k + 1))).length=(zi (d.take k)).length + 1 + (zi dd).length:=by rw [HTK.out];simp [yc];omega
     have hval2:zn (zi (d.take (k + 1)))=zn (zi (d.take k)) ++ [.string t] ++ zn (zi dd):=by rw [HTK.out];simp [yc,zn]
     have HL2:=ZH hlen2;have HV2:=ZH hval2;clear hlen2 hval2;by_cases hpe:zi dd= []
     ·rw [hpe] at ho2 HL2 HV2
      obtain ⟨_,⟨rfl,_⟩ | ⟨g,rc,cur,rfl,_⟩⟩:=ho2
      ·go_wp2_with (show wpList _ _ _ (⟨some 24,_,_,_,_,_⟩::_) _ _;refine wpList_append_own_none rfl (.tmp 20) (.tmp 23) 22 rfl w.heap.size 9 i0 1 Tryz.underlying22 hi _ _ _ rfl ho1' rfl ?_)
       go_roundw
       case rel=> exact ⟨k + 1,by omega,by go_num,hB2,by rw [HL2.out,HV2.out];simpa [zn] using ho1',hall⟩
       case measure=> simp [intOf];omega
      ·go_wp2_with (show wpList _ _ _ (⟨some 24,_,_,_,_,_⟩::_) _ _;refine wpList_append_own _ rfl (.tmp 20) (.tmp 23) 22 rfl w.heap.size 9 i0 (.string ⟨#[]⟩) 1 16 Tryz.underlying22 hi hz0 hz1 hz2 rfl (by decide) _ _ _ rfl ho1' ⟨g,0,none⟩ 0 rc [] rfl rfl (by simp) (by simp) (by unfold maxLen;omega) (by omega) hB2.size ?_;intro v3 w3 o3 g3 _)
       go_roundw
       case rel=> exact ⟨k + 1,by omega,by go_num,hB2.grown g3 hB2.size (fun k e=> (ho1'.lt k e).1),by rw [HL2.out,HV2.out];simpa [zn] using o3,hall⟩
       case measure=> simp [intOf];omega
     ·obtain ⟨g,goff,gcap,rfl,hnews⟩:=zhZ (qM ho2 hz2') hpe
      have HN:=ZH hnews;clear hnews;go_wp2_with (show wpList _ _ _ (⟨some 24,_,_,_,_,_⟩::_) _ _;refine wpList_append_own _ rfl (.tmp 20) (.tmp 23) 22 rfl w.heap.size 9 i0 (.string ⟨#[]⟩) 1 16 Tryz.underlying22 hi hz0 hz1 hz2 rfl (by decide) _ _ _ rfl ho1' ⟨g,goff,none⟩ (zi dd).length gcap (zn (zi dd)) rfl (by simp [zn]) HN.out (by simp [zn,Value.oneCell']) (by unfold maxLen;omega) (by omega) hB2.size ?_;intro v3 w3 o3 g3 _);go_roundw
      case rel=> exact ⟨k + 1,by omega,by go_num,hB2.grown g3 hB2.size (fun k e=> (ho1'.lt k e).1),by rw [HL2.out,HV2.out];exact o3,hall⟩
      case measure=> simp [intOf];omega
    ·have hfb:((f:Int)==2)=false:=by simpa using hf
     have htk':zi (d.take (k + 1))=zi (d.take k):=by rw [htk];simp [yc,hf]
     have HTK:=ZH htk';clear htk htk';go_wp2;go_roundw
     case rel=> exact ⟨k + 1,by omega,by go_num,hB.alloc hsz _,by rw [HTK.out];exact ho.alloc _,by rw [HTK.out];exact hg⟩
     case measure=> simp [intOf];omega
   ·obtain rfl:k=d.length:=by omega
    rw [List.take_length] at hg ho;go_wp2;go_ret;exact ⟨_,rfl,ho,hg,hB⟩
def qU (l:List ByteArray) (x:ByteArray):List ByteArray:=if zF (l.map zb) (zb x) then l else l ++ [x]
def qp (l xs:List ByteArray):List ByteArray:=xs.foldl qU l
theorem zhN (l xs:List ByteArray) (x:ByteArray):qp l (xs ++ [x])=qU (qp l xs) x:=by simp [qp]
theorem yR (l xs:List ByteArray):(qp l xs).length<=l.length + xs.length:=by
 induction xs generalizing l with
 | nil=> simp [qp]
 | cons x xs ih=>
  have:=ih (qU l x);have h2:(qU l x).length<=l.length + 1:=by unfold qU;split <;> simp
  simp only [qp,List.foldl_cons,List.length_cons] at this ⊢;omega
def zS (g:List zg):List ByteArray:=g.flatMap (fun c=> c.joins.map (·.text))
def zl (gs:List (List zg)):List ByteArray:=gs.flatMap zS
def qb (d:List zg):List ByteArray:=qp [] (zl (zm d))
theorem zaZ (gs:List (List zg)) (k:Nat) (h:k < gs.length):zl (gs.take (k + 1))=zl (gs.take k) ++ zS gs[k]:=by
 unfold zl;rw [ZT h,List.flatMap_append];simp
theorem zb0 (g:List zg) (k:Nat) (h:k < g.length):zS (g.take (k + 1))=zS (g.take k) ++ (g[k]).joins.map (·.text):=by
 unfold zS;rw [ZT h,List.flatMap_append];simp
theorem zek {w:World} {b n:Nat} {acc:List (List UInt8)} {base e m:Nat} {v:Value} {xs:List Value} (hs:qK w b n acc) (ho:w.ownsRow base e 1 v m xs):v.ownBlock≠some b:=by
 obtain ⟨es,clock,hb,_⟩:=hs;obtain ⟨_,⟨rfl,_⟩ | ⟨g,cap,cur,rfl,_,hg,_⟩⟩:=ho
 ·simp [Value.ownBlock]
 ·intro e;simp [Value.ownBlock] at e;subst e;rw [hb] at hg;cases hg
theorem zbE {w:World} {B e:Nat} {v:Value} {vs:List Value} (h:w.ownsRow B e 1 v vs.length vs):zmn B w.heap.size w v vs:=by
 obtain ⟨_,⟨rfl,h2⟩ | ⟨g,cap,cur,rfl,hBg,hg,hn,_,hsz,htk⟩⟩:=h
 ·exact ⟨none,0,by rw [h2], .inl (List.eq_nil_of_length_eq_zero h2)⟩
 ·refine ⟨_,cap,rfl, .inr ⟨g,rfl,hBg,(ZG hg).1,fun j hj=> ?_⟩⟩
  simp only [Nat.mul_one] at htk hsz
  have e1:vs[j]=cur[j]'(by omega):=by
   have:vs[j]?=(cur.toList.take vs.length)[j]?:=by rw [htk]
   rw [List.getElem?_take_of_lt hj] at this;simpa [hj,show j < cur.size by omega] using this
  simp [World.cell?,hg,e1,show j < cur.size by omega]
def zaE (W0:World) (A bset:Nat) (v:Value) (wr:World) (l:List ByteArray):Prop:=
 Below W0.heap.size W0 wr/\qK wr bset l.length (l.map zb)/\wr.ownsRow A 9 1 v l.length (zn l)/\(∀t∈l,t.size<=maxLen)/\W0.heap.size<=bset/\W0.heap.size<=A/\A<=wr.heap.size
theorem zaE.alloc {W0:World} {A bset:Nat} {v:Value} {wr:World} {l:List ByteArray} (h:zaE W0 A bset v wr l) (o:Obj):zaE W0 A bset v (wr.alloc o) l:=by
 obtain ⟨h1,h2,h3,h4,h5,h6,h7⟩:=h;exact ⟨h1.alloc h1.size o,h2.kept (ZW wr o none) (by simp),h3.alloc o,h4,h5,h6,by simp;omega⟩
theorem zaE.step {W0:World} {A bset:Nat} {v v':Value} {wr w1 w2:World} {l:List ByteArray} {x:ByteArray} (h:zaE W0 A bset v wr l) (hx:x.size<=maxLen)
  (s1:qK w1 bset (l.length + 1) (l.map zb ++ [zb x])) (g1:wr.grownBy w1 (some bset)) (o:Obj)
  (o2:w2.ownsRow A 9 1 v' (l.length + 1) (zn l ++ [.string x])) (g2:(w1.alloc o).grownBy w2 v.ownBlock):zaE W0 A bset v' w2 (l ++ [x]):=by
 obtain ⟨h1,h2,h3,h4,h5,h6,h7⟩:=h;have hne:=zek h2 h3;have e1:=g1.size;have e2:=g2.size;simp at e2;have s1':=s1.kept (ZW w1 o none) (by simp);refine ⟨(((h1.grown g1 h1.size (fun k e=> by cases e;exact h5)).alloc (by have:=h1.size;omega) o).grown g2 (by have:=h1.size;simp;omega) (fun k e=> by have:=(h3.lt k e).1;omega)),?_,?_,?_,h5,h6,by omega⟩
 ·rw [List.length_append,List.map_append];exact s1'.kept g2 (fun e=> hne e.symm)
 ·rw [List.length_append];simpa [zn] using o2
 ·intro t ht;rcases List.mem_append.1 ht with ht | ht
  ·exact h4 t ht
  ·simp at ht;rw [ht];exact hx
theorem xN {w:World} {a b e n:Nat} {v:Value} {xs:List Value} (h:w.ownsRow a e 1 v n xs) (hb:b<=a):w.ownsRow b e 1 v n xs:=by
 obtain ⟨h1,h2 | ⟨g,cap,cur,h3,h4,r⟩⟩:=h
 ·exact ⟨h1, .inl h2⟩
 ·exact ⟨h1, .inr ⟨g,cap,cur,h3,by omega,r⟩⟩
def Mid (lo:Nat) (w1 wr:World):Prop:=w1.heap.size<=wr.heap.size/\∀b o v,lo < b->b < w1.heap.size->w1.cell? ⟨b,o,none⟩=some v->wr.cell? ⟨b,o,none⟩=some v
theorem Mid.refl (lo:Nat) (w:World):Mid lo w w:=⟨ZL _,fun _ _ _ _ _ h=> h⟩
theorem Mid.grown {lo:Nat} {w1 wr w2:World} {row:Option Nat} (h:Mid lo w1 wr) (g:wr.grownBy w2 row) (hr:∀r,row=some r->r<=lo∨w1.heap.size<=r):Mid lo w1 w2:=by
 refine ⟨Nat.le_trans h.1 g.size,fun b o v h1 h2 h3=> ?_⟩;have h4:=h.2 b o v h1 h2 h3;refine (ZB (w:=wr) (g.block b (by have:=h.1;omega) (by intro e;have:=hr b e.symm;omega))).trans h4
theorem Mid.alloc {lo:Nat} {w1 wr:World} (h:Mid lo w1 wr) (o:Obj):Mid lo w1 (wr.alloc o):=h.grown (ZW wr o none) (fun r e=> by cases e)
theorem zc3 (B:Nat) (u:World) (d:List zg) (hds:zZ d<=900) (hN:(zl (zm d)).length<=100000) (a:Option Addr) (cap:Nat) (w:World) (hu:zh B u w) (hBs:B<=w.heap.size)
  (hd:d.length=0∨∃b off,a=some ⟨b,off,none⟩/\b < B/\zr B u b off d):
  Calls Tryz.prog 76 #[.slice a d.length cap] w fun e w'=> ∃r,e= .returned r/\w'.ownsRow w.heap.size 9 1 r (qb d).length (zn (qb d))/\(∀t∈qb d,t.size<=maxLen)/\Below w.heap.size w w':=by
 obtain ⟨i0,hi,hz0,hz1,hz2⟩:=info_parts zaK;have hmm:=@run_makeMap Tryz.prog;have s0:=qK.made w;have b0:Below w.heap.size w (w.alloc (.map #[] 0)):=ZQ w _;have hgr:=zep B u (zZ d) d (ZL _) hds a cap (w.alloc (.map #[] 0)) (hu.trans ((Below.keptC b0).mono hBs)) (by simp;omega) hd (fun _ _=> trivial);go_enter Tryz.func76,Tryz.ntmps76;go_wp2_with (go_at_call 129;refine hgr.mono ?_;clear hgr;rintro e w1 ⟨r,gv,rfl,hog,hg,hb1⟩;obtain ⟨ga,gcap,rfl,hgc⟩:=zbE hog);have hI0:zaE w w1.heap.size w.heap.size (.slice none 0 0) w1 []:=⟨b0.trans (hb1.mono (by simp)),(s0.below hb1 (by simp)),ZR _ _ _ _,by simp,ZL _,by have:=hb1.size;simp at this;omega,ZL _⟩;have hgl:=ZH hg.1;have hgm:gv.length<=901:=by have h1:=hg.1;have h2:=jP d;unfold zZ at hds;simp [zm] at h1;omega
 go_loopw [3,15] (fun v i wr=> ∃(k:Nat),k<=gv.length/\i= .int .i64 k/\zaE w w1.heap.size w.heap.size v wr (qp [] (zl ((zm d).take k)))/\Mid w.heap.size w1 wr) (fun _ i _=> gv.length - (intOf i).toNat)
 case atStart=> exact ⟨0,by omega,rfl,hI0,Mid.refl _ _⟩
 case round=>
  obtain ⟨k1,hk1,rfl,hI1,hW1⟩:=hrel;by_cases hlt1:k1 < gv.length
  ·have hlt1':k1 < (zm d).length:=by have:=hgl.out;omega
   obtain ⟨a2,cap2,hv2,hl2,hd2⟩:=hg.2 k1 hlt1 hlt1';rcases hgc with h0 | ⟨gb,rfl,hgA,hgB,hcl⟩
   ·subst h0;simp at hlt1
   have hcell:=hW1.2 gb (0 + k1) _ (by simp at hgA;omega) hgB (hcl k1 hlt1);rw [hv2,Nat.zero_add] at hcell;have hTT:=zaZ (zm d) k1 hlt1';obtain ⟨g,hgg⟩:∃g,g=(zm d)[k1]:=⟨_,rfl⟩;rw [<-hgg] at hl2 hd2 hcell hTT
   have hTN:(zl ((zm d).take k1)).length + (zS g).length<=100000:=by
    have e:zl (zm d)=zl ((zm d).take (k1 + 1)) ++ zl ((zm d).drop (k1 + 1)):=by
     rw [<-List.take_append_drop (k1 + 1) (zm d)];unfold zl;rw [List.flatMap_append];simp
    rw [e,hTT] at hN;simp at hN;omega
   obtain ⟨T,hT⟩:∃T,T=zl ((zm d).take k1):=⟨_,rfl⟩;rw [<-hT] at hTT hTN hI1;have HTT:=ZH hTT;clear hTT hT hgg hcl hv2;obtain ⟨wo,rfl⟩:∃wo:World,wo=wr:=⟨_,rfl⟩;go_wp2
   go_loopw [3,21] (fun v i wq=> ∃(k:Nat),k<=g.length/\i= .int .i64 k/\zaE w w1.heap.size w.heap.size v wq (qp [] (T ++ zS (g.take k)))/\Mid w.heap.size w1 wq) (fun _ i _=> g.length - (intOf i).toNat)
   case atStart=> exact ⟨0,by omega,rfl,by simpa [zS] using hI1,hW1⟩
   case round=>
    obtain ⟨k2,hk2,rfl,hI2,hW2⟩:=hrel;by_cases hlt2:k2 < g.length
    ·rcases hd2 with h0 | ⟨b,off,rfl,hb,hcls⟩
     ·omega
     obtain ⟨cs,hcs,hce⟩:=hcls.get g b off k2 hlt2;have hGT:=zb0 g k2 hlt2;obtain ⟨c,hc⟩:∃c,c=g[k2]:=⟨_,rfl⟩;rw [<-hc] at hce hGT
     have hTN2:T.length + (zS (g.take k2)).length + (c.joins).length<=100000:=by
      have e:zS g=zS (g.take (k2 + 1)) ++ zS (g.drop (k2 + 1)):=by
       rw [<-List.take_append_drop (k2 + 1) g];unfold zS;rw [List.flatMap_append];simp
      rw [e,hGT] at hTN;simp at hTN;omega
     obtain ⟨f,t,js,dd,kk⟩:=c;unfold zo at hce;obtain ⟨htz,_,_,_,rfl,⟨a0,p0,rfl,hjl,hjs⟩,⟨a1,p1,rfl,_⟩,⟨a3,p3,rfl,_⟩⟩:=hce;have hBq:=hI2.1;obtain ⟨c0,c1,c2,c3,c4⟩:=zK ((hcs.keep hu hb).below hBq (by omega));simp only [zg.joins] at hGT hTN2;obtain ⟨T2,hT2⟩:∃T2,T2=T ++ zS (g.take k2):=⟨_,rfl⟩;have hGT':T ++ zS (g.take (k2 + 1))=T2 ++ js.map (·.text):=by rw [hGT,hT2,List.append_assoc]
     have hT2l:T2.length + js.length<=100000:=by rw [hT2,List.length_append];omega
     rw [<-hT2] at hI2;have HGT:=ZH hGT';clear hGT hGT' hT2 hTN2 hTN hcs;obtain ⟨wp,rfl⟩:∃wp:World,wp=wr:=⟨_,rfl⟩;have hIb:=hI2.alloc (.cells #[.int .i64 f, .string t, .slice a0 js.length p0, .slice a1 dd.length p1, .slice a3 kk.length p3] 130);have hWb:Mid w.heap.size w1 (wp.alloc (.cells #[.int .i64 f, .string t, .slice a0 js.length p0, .slice a1 dd.length p1, .slice a3 kk.length p3] 130)):=hW2.alloc _;go_wp2
     go_loopw [3,28] (fun v i wq=> ∃(k:Nat),k<=js.length/\i= .int .i64 k/\zaE w w1.heap.size w.heap.size v wq (qp [] (T2 ++ (js.take k).map (·.text)))/\Mid w.heap.size w1 wq) (fun _ i _=> js.length - (intOf i).toNat)
     case atStart=> exact ⟨0,by omega,rfl,by simpa using hIb,hWb⟩
     case round=>
      obtain ⟨k3,hk3,rfl,hI3,hW3⟩:=hrel;by_cases hlt3:k3 < js.length
      ·rcases hjs with h0 | ⟨mb,moff,rfl,hmb,hms⟩
       ·omega
       obtain ⟨mcs,hmcs,hmz,mv,rfl,hmn⟩:=hms.get js mb moff k3 hlt3
       have hm3:T2 ++ (js.take (k3 + 1)).map (·.text)=T2 ++ (js.take k3).map (·.text) ++ [(js[k3]).text]:=by
        rw [ZT hlt3,List.map_append,List.append_assoc];rfl
       obtain ⟨x,hx⟩:∃x,x=(js[k3]).text:=⟨_,rfl⟩;rw [<-hx] at hm3 hmz hmcs;obtain ⟨T3,hT3⟩:∃T3,T3=T2 ++ (js.take k3).map (·.text):=⟨_,rfl⟩;have hT3l:T3.length<=100000:=by rw [hT3,List.length_append,List.length_map,List.length_take];omega
       rw [<-hT3] at hm3 hI3;obtain ⟨na,nc,rfl,_⟩:=hmn;obtain ⟨d0,d1⟩:=yO ((hmcs.keep hu hmb).below hI3.1 (by omega));obtain ⟨l,hl⟩:∃l,l=qp [] T3:=⟨_,rfl⟩;have hll:l.length<=100000:=by rw [hl];have:=yR [] T3;simp at this;omega
       have hm4:qp [] (T2 ++ (js.take (k3 + 1)).map (·.text))=qU l x:=by rw [hm3,zhN,hl]
       rw [<-hl] at hI3;have HM:=ZH hm4;clear hm3 hm4 hT3 hl hmcs hx;have hIx:=hI3.alloc (.cells #[.string x, .slice na (js[k3]).names.length nc] 144);have hlook:=hIx.2.1.look hmz;by_cases hin:zF (l.map zb) (zb x)=true
       ·have hstep:qU l x=l:=by unfold qU;rw [if_pos hin]
        have HS:=ZH hstep;clear hstep;have hlook':(Instr.lookup 70 (.map (some w.heap.size)) (.string x) false).run Tryz.prog (wr.alloc (.cells #[.string x, .slice na (js[k3]).names.length nc] 144))= .ok (.bool true) (wr.alloc (.cells #[.string x, .slice na (js[k3]).names.length nc] 144)):=by rw [hlook];rw [show zF (l.map zb) x.data.toList=true from hin]
        clear hlook hin;go_wp2;go_roundw
        case rel=> exact ⟨k3 + 1,by omega,by go_num,by rw [HM.out,HS.out];exact hIx,hW3.alloc _⟩
        case measure=> simp [intOf];omega
       ·have hstep:qU l x=l ++ [x]:=by unfold qU;rw [if_neg hin]
        have HS:=ZH hstep;clear hstep;have hlook':(Instr.lookup 70 (.map (some w.heap.size)) (.string x) false).run Tryz.prog (wr.alloc (.cells #[.string x, .slice na (js[k3]).names.length nc] 144))= .ok (.bool false) (wr.alloc (.cells #[.string x, .slice na (js[k3]).names.length nc] 144)):=by rw [hlook];rw [show zF (l.map zb) x.data.toList=false from by cases h:zF (l.map zb) (zb x) with | true=> exact absurd h hin | false=> exact h]
        clear hlook hin;obtain ⟨w5,r5,s5,g5⟩:=hIx.2.1.put (by unfold maxLen;omega) hmz;have hsl:=hI3.2.1.lt
        have hcx:w5.cell? ⟨wr.heap.size,0,none⟩=some (.string x):=by
         refine (ZB (w:=wr.alloc (.cells #[.string x, .slice na (js[k3]).names.length nc] 144)) (g5.block wr.heap.size (by simp) (by intro e;have e1:=ZJ e;omega))).trans ?_;rw [ZA _ _ _ _ rfl];rfl
        have hne:=zek hIx.2.1 hIx.2.2.1;have ho5:=qX hIx.2.2.1 g5 (fun g hg e=> hne (by rw [hg];exact e.symm));have hz5:=g5.size;simp at hz5;have hwz:=hI3.1.size;have hB5:Mid w.heap.size w1 w5:=(hW3.alloc _).grown g5 (fun r e=> by cases e;exact .inl (ZL _));have h57:=hIx.2.2.2.2.2.2;simp at h57;go_wp2_with (show wpList _ _ _ (⟨some 44,_,_,_,_,_⟩::_) _ _;refine wpList_append_own _ rfl (.tmp 40) (.tmp 43) 22 rfl w1.heap.size 9 i0 (.string ⟨#[]⟩) 1 16 Tryz.underlying22 hi hz0 hz1 hz2 rfl (by decide) _ _ _ rfl (ho5.alloc _) ⟨w5.heap.size,0,none⟩ 1 1 [.string x] rfl rfl (yw _ _ _ _ rfl) (by simp [Value.oneCell']) (by unfold maxLen;omega) (by omega) (by simp;omega) ?_;intro v6 w6 o6 g6 _);have hIn:=hIx.step hmz s5 g5 _ o6 g6;go_roundw
        case rel=> exact ⟨k3 + 1,by omega,by go_num,by rw [HM.out,HS.out];exact hIn,(hB5.alloc _).grown g6 (fun k e=> .inr (ho5.lt k e).1)⟩
        case measure=> simp [intOf];omega
      ·obtain rfl:k3=js.length:=by omega
       rw [List.take_length,<-HGT.out] at hI3;go_wp2;go_roundw
       case rel=> exact ⟨k2 + 1,by omega,by go_num,hI3,hW3⟩
       case measure=> simp [intOf];omega
    ·obtain rfl:k2=g.length:=by omega
     rw [List.take_length] at hI2;go_wp2;go_roundw
     case rel=> exact ⟨k1 + 1,by omega,by go_num,by rw [HTT.out];exact hI2,hW2⟩
     case measure=> simp [intOf];omega
  ·obtain rfl:k1=gv.length:=by omega
   have e:(zm d).take gv.length=zm d:=List.take_of_length_le (by have:=hgl.out;omega);rw [e] at hI1;obtain ⟨h1,h2,h3,h4,h5,h6,h7⟩:=hI1;go_wp2;go_ret;exact ⟨_,rfl,xN h3 h6,h4,h1⟩
end
section
open Go.RowKit Go.Maps Go.WideMaps
theorem zmr:(Tryz.prog.info? 195).map (fun i=> (i.zero,i.size,i.bytes))=some (some (.agg #[.int .i64 0, .int .i64 0]),2,16):=by kernel_rfl
theorem znk (a b:Int) (w:World):(binOp .neq 195 (.agg #[.int .i64 a, .int .i64 b]) (.agg #[.int .i64 a, .int .i64 b])).run Tryz.prog w= .ok (.bool false) w:=by
 simp [binOp,Op.equal,Op.maxDepth,go_sem]
theorem zmB (w:World):(zeroValue 195).run Tryz.prog w= .ok (.agg #[.int .i64 0, .int .i64 0]) w:=by
 obtain ⟨i0,hi,hz0,hz1,hz2⟩:=info_parts zmr;simp [zeroValue,typeInfo,hi,hz0]
def R2:Value->Option (DataW Unit×List MemPlace)
 | .agg ⟨[.int .i64 a, .int .i64 b]⟩=> some (.agg [.lit (.int .i64 a), .lit (.int .i64 b)], [])
 | _=> none
theorem zkX {v:Value} {a b:Int} {ps:List MemPlace} (h:R2 v=some (.agg [.lit (.int .i64 a), .lit (.int .i64 b)],ps)):v= .agg #[.int .i64 a, .int .i64 b]:=by
 unfold R2 at h
 split at h
 ·simp at h;obtain ⟨⟨rfl,rfl⟩,_⟩:=h;rfl
 ·cases h
def encU (p:Int×Int):DataW Unit:= .agg [.lit (.int .i64 p.1), .lit (.int .i64 p.2)]
def valU (p:Int×Int):Value:= .agg #[.int .i64 p.1, .int .i64 p.2]
def jy (w:World) (b n:Nat) (acc:List (List UInt8)) (U:List UInt8->Int×Int):Prop:=
 ∃D,w.ownsMap (H:=Unit) Tryz.prog 9 R2 b n D/\∀k,(zF acc k=true->has D (.string k)=true/\∀z,D.atKey (.string k) z=encU (U k))/\(zF acc k=false->has D (.string k)=false/\∀z,D.atKey (.string k) z=z)
theorem jy.made (w:World) (U:List UInt8->Int×Int):jy (w.alloc (.map #[] 0)) w.heap.size 0 [] U:=
 ⟨.map [],World.ownsMap_made _ _ _ _,fun k=> ⟨by simp [zF],fun _=> ⟨rfl,fun z=> rfl⟩⟩⟩
theorem jy.lt {w:World} {b n:Nat} {acc:List (List UInt8)} {U:List UInt8->Int×Int} (h:jy w b n acc U):b < w.heap.size:=by
 obtain ⟨D,h,_⟩:=h;exact h.lt
theorem jy.kept {w w':World} {b n:Nat} {acc:List (List UInt8)} {U:List UInt8->Int×Int} {row:Option Nat} (h:jy w b n acc U) (hg:w.grownBy w' row) (hne:some b≠row):jy w' b n acc U:=by
 obtain ⟨D,h,r⟩:=h;exact ⟨D,h.kept hg hne,r⟩
theorem jy.look {w:World} {b n:Nat} {acc:List (List UInt8)} {U:List UInt8->Int×Int} (h:jy w b n acc U) {k:ByteArray} (hk:k.size<=maxLen):
  (Instr.lookup 193 (.map (some b)) (.string k) true).run Tryz.prog w= .ok (.tuple #[if zF acc (zb k) then valU (U (zb k)) else valU (0,0), .bool (zF acc (zb k))]) w:=by
 obtain ⟨D,hD,hk1⟩:=h;obtain ⟨v,ps,hrun,hv⟩:=World.ownsMap.look_ok hD (string_keyed Tryz.underlying9) Tryz.underlying193 (zmB w) (zd:=encU (0,0)) (zp:= []) rfl (keyOf_string_mk Tryz.underlying9 hk);rw [hrun];cases hin:zF acc (zb k) with
 | true=>
  obtain ⟨h1,h2⟩:=(hk1 _).1 hin;rw [show Lit.string k.data.toList=Lit.string (zb k) from rfl] at hv ⊢;rw [h2] at hv;rw [h1,zkX hv];rfl
 | false=>
  obtain ⟨h1,h2⟩:=(hk1 _).2 hin;rw [show Lit.string k.data.toList=Lit.string (zb k) from rfl] at hv ⊢;rw [h2] at hv;rw [h1,zkX hv];rfl
theorem jy.put {w:World} {b n:Nat} {acc:List (List UInt8)} {U:List UInt8->Int×Int} (h:jy w b n acc U) (hn:n < maxLen) {k:ByteArray} (hk:k.size<=maxLen):
  ∃w',(Instr.mapUpdate 193 (.map (some b)) (.string k) (valU (U (zb k)))).run Tryz.prog w= .ok () w'/\jy w' b (n + 1) (acc ++ [zb k]) U/\w.grownBy w' (some b):=by
 obtain ⟨D,hD,hk1⟩:=h;obtain ⟨w',h1,h2,h3⟩:=World.ownsMap.update hD (string_keyed Tryz.underlying9) Tryz.underlying193 hn (keyOf_string_mk Tryz.underlying9 hk) (val:=valU (U (zb k))) (d:=encU (U (zb k))) (ps:= []) rfl;refine ⟨w',h1,⟨_,h2,fun x=> ?_⟩,h3⟩;have hm:IsMap D:=hD.isMap;by_cases hx:x=zb k
 ·subst hx
  refine ⟨fun _=> ⟨has_put_same hm (by simp [WideAt.IsKeyLit]) _,fun z=> atKey_put_same hm (by simp [WideAt.IsKeyLit]) _ _⟩,fun hf=> ?_⟩;simp [zF] at hf
 ·have hne:Lit.string x≠Lit.string k.data.toList:=by simp;exact hx
  have hin:zF (acc ++ [zb k]) x=zF acc x:=by simp only [zF,List.any_append,List.any_cons,List.any_nil];simp;intro h;exact absurd h.symm hx
  rw [hin];refine ⟨fun ht=> ?_,fun hf=> ?_⟩
  ·rw [has_put_other hne];exact ⟨((hk1 x).1 ht).1,fun z=> by rw [atKey_put_other hne];exact ((hk1 x).1 ht).2 z⟩
  ·rw [has_put_other hne];exact ⟨((hk1 x).2 hf).1,fun z=> by rw [atKey_put_other hne];exact ((hk1 x).2 hf).2 z⟩
def zfo (d:List zg) (U:List UInt8->Int×Int):Prop:=
 (∀i,(h:i < (zm d).length)->∀c∈(zm d)[i],∀j∈c.joins,U (zb j.text)=((i:Int),(j.names.length:Int)))/\
 (∀p∈zi d,zF ((zl (zm d)).map zb) (zb p)=false)/\((zi d).map zb).Nodup
end
end Go.Proofs.YtjmlaeofjjhfmaaGreat
