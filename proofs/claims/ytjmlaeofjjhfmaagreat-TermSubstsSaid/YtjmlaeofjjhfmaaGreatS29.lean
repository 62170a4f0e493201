/- Lemmas. -/
import Derived.Test.YtjmlaeofjjhfmaaGreatS28
import Derived.Test.YtjmlaeofjjhfmaaGreatS06
set_option linter.unusedVariables false
set_option linter.unusedSimpArgs false
set_option maxRecDepth 10000
set_option maxHeartbeats 16000000
namespace Go.Proofs.YtjmlaeofjjhfmaaGreat
section
open Go.RowKit Go.Maps
def good (ss:List ByteArray):Prop:=ss.all qn=true/\(ss.map zb).Nodup
theorem zdm (ss:List ByteArray) (s:ByteArray):hasB ss s=zF (ss.map zb) (zb s):=by
 unfold hasB zF;rw [List.any_map]
 congr 1
 funext x
 simp only [Function.comp,ByteArray.toList_eq]
 rfl
theorem zgX:good []:=⟨rfl,by simp⟩
theorem zge {ss:List ByteArray} {x:ByteArray}:good (ss ++ [x])↔good ss/\qn x=true/\hasB ss x=false:=by
 unfold good;rw [List.all_append,List.map_append,List.nodup_append,zdm];simp only [List.all_cons,List.all_nil,Bool.and_true,Bool.and_eq_true,List.map_cons,List.map_nil,List.nodup_cons,List.not_mem_nil,not_false_eq_true,List.nodup_nil,and_self,true_and,List.mem_singleton,zF,List.any_eq_false,beq_iff_eq];constructor
 ·rintro ⟨⟨h1,h2⟩,h3,h4⟩
  exact ⟨⟨h1,h3⟩,h2,fun y hy=> h4 y hy _ rfl⟩
 ·rintro ⟨⟨h1,h3⟩,h2,h4⟩
  exact ⟨⟨h1,h2⟩,h3,fun y hy z hz=> by subst hz;exact h4 y hy⟩
theorem zaB {a b:List ByteArray} (h:a <+:b) (hb:good b):good a:=by
 obtain ⟨c,rfl⟩:=h;unfold good at *;rw [List.all_append,List.map_append,List.nodup_append] at hb;simp only [Bool.and_eq_true] at hb;exact ⟨hb.1.1,hb.2.1⟩
theorem zdE:∀(acc:List (List UInt8)) (L:List (List UInt8)),(L ++ acc).Nodup->((acc.map Lit.string).foldl addKey (L.map Lit.string))=(L ++ acc).map Lit.string:=by
 intro acc
 induction acc with
 | nil=> intro L _;simp
 | cons x acc ih=>
  intro L h
  have hx:(L.map Lit.string).any (fun y=> y.sameKey (Lit.string x))=false:=by
   rw [List.any_eq_false];intro y hy;obtain ⟨z,hz,rfl⟩:=List.mem_map.1 hy;rw [List.nodup_append] at h;have:=h.2.2 z hz x (List.mem_cons_self ..);simp [Lit.sameKey];exact this
  have e:L ++ x::acc=(L ++ [x]) ++ acc:=by simp
  rw [List.map_cons,List.foldl_cons];rw [show addKey (L.map Lit.string) (Lit.string x)=(L ++ [x]).map Lit.string by unfold addKey;rw [hx];simp];rw [ih (L ++ [x]) (by rw [<-e];exact h),e]
theorem zmA:∀(acc:List Lit) (L:List Lit),(acc.foldl addKey L).length<=L.length + acc.length:=by
 intro acc
 induction acc with
 | nil=> intro L;simp
 | cons x acc ih=>
  intro L;rw [List.foldl_cons];have h1:=ih (addKey L x);have h2:(addKey L x).length<=L.length + 1:=by unfold addKey;split <;> simp
  simp;omega
theorem zmz:∀(acc:List (List UInt8)) (L:List (List UInt8)),L.Nodup->¬(L ++ acc).Nodup->((acc.map Lit.string).foldl addKey (L.map Lit.string)).length < L.length + acc.length:=by
 intro acc
 induction acc with
 | nil=> intro L hL h;simp at h;exact absurd hL h
 | cons x acc ih=>
  intro L hL h;rw [List.map_cons,List.foldl_cons];by_cases hx:x∈L
  ·have:addKey (L.map Lit.string) (Lit.string x)=L.map Lit.string:=by
    unfold addKey;rw [if_pos];rw [List.any_eq_true];exact ⟨Lit.string x,List.mem_map.2 ⟨x,hx,rfl⟩,by simp [Lit.sameKey]⟩
   rw [this];have:=zmA (acc.map Lit.string) (L.map Lit.string);simp at this ⊢;omega
  ·have e:L ++ x::acc=(L ++ [x]) ++ acc:=by simp
   have h1:addKey (L.map Lit.string) (Lit.string x)=(L ++ [x]).map Lit.string:=by
    have:=zdE [x] L (by rw [List.nodup_append];exact ⟨hL,by simp,fun y hy z hz=> by simp at hz;subst hz;rintro rfl;exact hx hy⟩);simpa using this
   rw [h1];have:=ih (L ++ [x]) (by rw [List.nodup_append];exact ⟨hL,by simp,fun y hy z hz=> by simp at hz;subst hz;rintro rfl;exact hx hy⟩) (by rw [<-e];exact h);simp at this ⊢;omega
theorem zdG (ss:List ByteArray):jF ss=true↔good ss:=by
 unfold jF good;rw [Bool.and_eq_true,decide_eq_true_eq]
 have key:zem (ss.map zb)=ss.length↔(ss.map zb).Nodup:=by
  unfold zem;by_cases h:(ss.map zb).Nodup
  ·have:=zdE (ss.map zb) [] (by simpa using h)
   simp only [List.map_nil,List.nil_append] at this;rw [this];simp [h]
  ·have:=zmz (ss.map zb) [] (by simp) (by simpa using h)
   simp only [List.map_nil,List.length_nil,List.length_map,Nat.zero_add] at this;constructor
   ·intro e;omega
   ·intro e;exact absurd e h
 rw [key]
def xm (js:List Msg):Prop:=good (js.map (·.text))/\good (js.flatMap (·.names))/\∀j∈js,j.names.length<=3
theorem zaL (js:List Msg):qH js=true↔1<=js.length/\js.length<=3/\xm js:=by
 unfold qH xm;rw [Bool.and_eq_true,Bool.and_eq_true,Bool.and_eq_true,Bool.and_eq_true,zdG,zdG,List.all_eq_true];simp only [decide_eq_true_eq];constructor
 ·rintro ⟨⟨⟨⟨h1,h2⟩,h3⟩,h4⟩,h5⟩;exact ⟨h1,h2,h4,h5,h3⟩
 ·rintro ⟨h1,h2,h4,h5,h3⟩;exact ⟨⟨⟨⟨h1,h2⟩,h3⟩,h4⟩,h5⟩
theorem zg4 {a b:List Msg} (h:a <+:b) (hb:xm b):xm a:=by
 obtain ⟨c,rfl⟩:=h;obtain ⟨h1,h2,h3⟩:=hb;refine ⟨zaB ⟨c.map (·.text),by simp⟩ h1,zaB ⟨c.flatMap (·.names),by simp⟩ h2,fun j hj=> h3 j (by simp [hj])⟩
theorem zj4:xm []:=⟨zgX,zgX,by simp⟩
theorem ziA {js:List Msg} {x:Msg}:xm (js ++ [x])↔xm js/\(qn x.text=true/\hasB (js.map (·.text)) x.text=false)/\x.names.length<=3/\good (js.flatMap (·.names) ++ x.names):=by
 unfold xm;have e1:(js ++ [x]).map (·.text)=js.map (·.text) ++ [x.text]:=by simp
 have e2:(js ++ [x]).flatMap (·.names)=js.flatMap (·.names) ++ x.names:=by simp
 rw [e1,e2,zge];constructor
 ·rintro ⟨⟨h1,h2⟩,h3,h4⟩
  exact ⟨⟨h1,zaB ⟨x.names,rfl⟩ h3,fun j hj=> h4 j (by simp [hj])⟩,h2,h4 x (by simp),h3⟩
 ·rintro ⟨⟨h1,_,h5⟩,h2,h4,h3⟩
  exact ⟨⟨h1,h2⟩,h3,fun j hj=> by
   rcases List.mem_append.1 hj with hj | hj
   ·exact h5 j hj
   ·simp at hj;subst hj;exact h4⟩
theorem Away.symm {v v':Value} (h:Away v v'):Away v' v:=fun g hg e=> h g e hg
theorem zji (a:Option Addr) (cap:Nat) (js:List Msg) (B:Nat) (u w:World) (hu:zh B u w) (hBs:B<=w.heap.size) (hj:js.length=0∨∃b off,a=some ⟨b,off,none⟩/\b < B/\zX B u b off js) (hjl:js.length<=9223372036854775807):
  Calls Tryz.prog 156 #[.slice a js.length cap] w fun e w'=> e= .returned (.bool (qH js))/\Below w.heap.size w w':=by
 by_cases h12:1<=js.length/\js.length<=3
 case neg=>
  have hF:Hid (qH js=false):=ZH (by
   rw [Bool.eq_false_iff];intro h;exact h12 ⟨((zaL js).1 h).1,((zaL js).1 h).2.1⟩)
  obtain ⟨n,hn⟩:∃n,n=js.length:=⟨_,rfl⟩;rw [<-hn] at h12 hjl ⊢;rw [hF.out];clear hn hj hF;go_enter Tryz.func156,Tryz.ntmps156;by_cases h0:n < 1
  ·obtain rfl:n=0:=by omega
   go_wp2;go_ret;exact ⟨rfl,ZF _ _⟩
  ·have h3:3 < n:=by omega
   have h1:1<=n:=by omega
   go_wp2;go_ret;exact ⟨rfl,ZF _ _⟩
 obtain ⟨h1,h2⟩:=h12;obtain ⟨i0,hi,hz0,hz1,hz2⟩:=info_parts zaK;have hbad:¬xm js->qH js=false:=fun h=> by rw [Bool.eq_false_iff];intro h';exact h ((zaL js).1 h').2.2
 have hyes:xm js->qH js=true:=fun h=> (zaL js).2 ⟨h1,h2,h⟩;have HBAD:=ZH hbad;have HYES:=ZH hyes;clear hbad hyes;go_enter Tryz.func156,Tryz.ntmps156;go_wp2
 go_loopw [3,4,5] (fun v3 v4 i wr=> ∃(k:Nat),k<=js.length/\i= .int .i64 k/\Below w.heap.size w wr/\wr.ownsRow w.heap.size 9 1 v3 k (zn ((js.take k).map (·.text)))/\
   wr.ownsRow w.heap.size 9 1 v4 ((js.take k).flatMap (·.names)).length (zn ((js.take k).flatMap (·.names)))/\Away v3 v4/\Hid (xm (js.take k))/\Hid (((js.take k).flatMap (·.names)).length<=3 * k)) (fun _ _ i _=> js.length - (intOf i).toNat)
 case atStart=> exact ⟨0,by omega,rfl,ZF _ _,ZR _ _ _ _,ZR _ _ _ _,(fun g e=> by cases e),ZH zj4,ZH (by simp)⟩
 case round=>
  obtain ⟨k,hk',rfl,hB,ho3,ho4,haw,hgd,hlen⟩:=hrel;have hsz:=hB.size;by_cases hlt:k < js.length
  ·rcases hj with h0 | ⟨b,off,rfl,hb,hms⟩
   ·omega
   obtain ⟨cs,hcs,hz1',nv,rfl,hns⟩:=hms.get js b off k hlt;have hcW:∀W,Below w.heap.size w W->zI W b (off + k * 2) [.string (js[k]).text,nv]:=fun W hW=> (hcs.keep hu hb).below hW (by omega);have hst:=(hns.keep hu).mono hBs |>.below hB;have hstW:∀W,Below w.heap.size w W->zx w.heap.size W nv (js[k]).names:=fun W hW=> (hns.keep hu).mono hBs |>.below hW
   have hsn:xm (js.take (k + 1))↔xm (js.take k)/\(qn (js[k]).text=true/\hasB ((js.take k).map (·.text)) (js[k]).text=false)/\(js[k]).names.length<=3/\good ((js.take k).flatMap (·.names) ++ (js[k]).names):=by
    rw [ZT hlt];exact ziA
   have hbk:¬xm (js.take (k + 1))->qH js=false:=fun h=> HBAD.out (fun hg=> h (zg4 (List.take_prefix _ _) hg));have e3:=ZH (show (js.take (k + 1)).map (·.text)=(js.take k).map (·.text) ++ [(js[k]).text] by rw [ZT hlt,List.map_append];rfl);have e4:=ZH (show (js.take (k + 1)).flatMap (·.names)=(js.take k).flatMap (·.names) ++ (js[k]).names by rw [ZT hlt,List.flatMap_append];simp)
   have hzt:∀s∈(js.take k).map (·.text),s.size<=maxLen:=by
    intro s hs;obtain ⟨j,hj',rfl⟩:=List.mem_map.1 hs;obtain ⟨i,hi',rfl⟩:=List.getElem_of_mem (List.mem_of_mem_take hj');obtain ⟨cs,hcs,hz1',_⟩:=hms.get js b off i hi';exact hz1'
   have hzn:∀s∈(js.take k).flatMap (·.names),s.size<=maxLen:=by
    intro s hs;obtain ⟨j,hj',hsj⟩:=List.mem_flatMap.1 hs;obtain ⟨i,hi',rfl⟩:=List.getElem_of_mem (List.mem_of_mem_take hj');obtain ⟨cs,hcs,hz1',nv,_,hns⟩:=hms.get js b off i hi';obtain ⟨_,_,_,_,hnz,_⟩:=hns;exact hnz s hsj
   obtain ⟨jt,hjt⟩:∃x,x=(js[k]).text:=⟨_,rfl⟩;obtain ⟨jn,hjn⟩:∃x,x=(js[k]).names:=⟨_,rfl⟩;obtain ⟨T,hT⟩:∃x,x=(js.take k).map (·.text):=⟨_,rfl⟩;obtain ⟨N,hN⟩:∃x,x=(js.take k).flatMap (·.names):=⟨_,rfl⟩;rw [<-hjt] at hz1' hcW hsn e3;rw [<-hjn] at hst hstW hsn e4;rw [<-hT] at hsn e3 hzt ho3;rw [<-hN] at hsn e4 hzn ho4 hlen;have HSN:=ZH hsn;have HBK:=ZH hbk;have HCW:=ZH hcW;have HSTW:=ZH hstW;have hTl:T.length=k:=by rw [hT,List.length_map,List.length_take];omega
   have HTL:=ZH hTl;have HGN:=ZH (show good N by rw [hN];exact hgd.out.2.1);clear hjt hjn hT hN hsn hbk hcW hstW hcs hns hms hTl;obtain ⟨na,nc,rfl,hnl,hnz,hncap,hncells⟩:=hst;have hR:=zb2 jt wr hz1';rw [zbW] at hR;have hst3:zx wr.heap.size wr u3 T:=qM (by rw [HTL.out];exact ho3) hzt;obtain ⟨c0,c1⟩:=yO (HCW.out wr hB);cases hn:qn jt with
   | false=>
    rw [hn] at hR;have hF:=ZH (HBK.out (fun h=> by have:=((HSN.out.1 h).2.1).1;rw [hn] at this;cases this));clear hn;go_wp2_with (go_at_call 15;refine hR.mono ?_;clear hR;rintro e w1 ⟨rfl,hb1⟩);go_ret;exact ⟨qA hF.out.symm,hB.trans (hb1.mono hsz)⟩
   | true=>
   rw [hn] at hR;have hH:=fun w1 (hb1:Below wr.heap.size wr w1)=> zay wr.heap.size u3 T jt w1 (hst3.below hb1);cases hh:hasB T jt with
   | true=>
    rw [hh] at hH;have hF:=ZH (HBK.out (fun h=> by have:=((HSN.out.1 h).2.1).2;rw [hh] at this;cases this));clear hn hh
    go_wp2_with (first
     | (go_at_call 15;refine hR.mono ?_;clear hR;rintro e w1 ⟨rfl,hb1⟩;obtain ⟨d0,d1⟩:=yO (HCW.out w1 (hB.trans (hb1.mono hsz))))
     | (go_at_call 36;refine (hH _ hb1).mono ?_;clear hH;rintro e w2 ⟨rfl,rfl⟩))
    go_ret;exact ⟨qA hF.out.symm,hB.trans (hb1.mono hsz)⟩
   | false=>
   rw [hh] at hH;by_cases hn3:jn.length<=3
   case neg=>
    have hn3':3 < jn.length:=by omega
    have hF:=ZH (HBK.out (fun h=> hn3 (HSN.out.1 h).2.2.1));clear hn hh hn3
    go_wp2_with (first
     | (go_at_call 15;refine hR.mono ?_;clear hR;rintro e w1 ⟨rfl,hb1⟩;obtain ⟨d0,d1⟩:=yO (HCW.out w1 (hB.trans (hb1.mono hsz))))
     | (go_at_call 36;refine (hH _ hb1).mono ?_;clear hH;rintro e w2 ⟨rfl,rfl⟩))
    go_ret;exact ⟨qA hF.out.symm,hB.trans (hb1.mono hsz)⟩
   have HNB:=ZH hn;have HHB:=ZH hh;clear hn hh;have l3:=ZH ho3.lt;have l4:=ZH ho4.lt;have hNl:N.length<=9:=by have:=hlen.out;omega
   go_wp2_with (first
    | (go_at_call 15;refine hR.mono ?_;clear hR;rintro e w1 ⟨rfl,hb1⟩;obtain ⟨d0,d1⟩:=yO (HCW.out w1 (hB.trans (hb1.mono hsz)));have o3:=qX ho3 (zj hb1) (fun g _ e=> by cases e);have o4:=qX ho4 (zj hb1) (fun g _ e=> by cases e);have hz1s:=hb1.size)
    | (go_at_call 36;refine (hH _ hb1).mono ?_;clear hH;rintro e w2 ⟨rfl,rfl⟩)
    | (show wpList _ _ _ (⟨some 53,_,_,_,_,_⟩::_) _ _;refine wpList_append_own_at _ rfl (.tmp 46) (.tmp 52) 22 rfl w.heap.size 9 i0 (.string ⟨#[]⟩) 1 16 Tryz.underlying22 hi hz0 hz1 hz2 rfl (by decide) _ _ _ rfl (o3.alloc _) ⟨w2.heap.size,0,none⟩ 1 1 [.string jt] rfl rfl (yw _ _ _ _ rfl) (by simp [Value.oneCell']) (by unfold maxLen;omega) (by omega) (by simp;omega) ?_;intro v3' w3 o3' g3 _ p3))
   have q3:=o3.lt;have o4':=qX (o4.alloc (.cells #[.string jt] 9)) g3 (fun g hg e=> haw g e hg);have B2:Below w.heap.size w w2:=hB.trans (hb1.mono hsz);have B3:Below w.heap.size w w3:=(B2.alloc B2.size _).grown g3 (by simp;omega) (fun r e=> (q3 r e).1);have z3:=g3.size;simp at z3
   have haw':Away v3' u4:=by
    intro g hg e;have r4:=(l4.out g e).2;rcases (show v3'.ownBlock=u3.ownBlock∨v3'.ownBlock=some (w2.heap.size + 1) from p3.imp id (fun h=> by simpa using h)) with p3 | p3
    ·exact haw g (by rw [<-p3];exact hg) e
    ·rw [p3] at hg;simp at hg;omega
   go_loopw [4,6] (fun v4 i wq=> ∃(m:Nat),m<=jn.length/\i= .int .i64 m/\Below w.heap.size w wq/\wq.ownsRow w.heap.size 9 1 v3' (k + 1) (zn T ++ [.string jt])/\
     wq.ownsRow w.heap.size 9 1 v4 (N.length + m) (zn (N ++ jn.take m))/\Away v3' v4/\Hid (good (N ++ jn.take m))) (fun _ i _=> jn.length - (intOf i).toNat)
   case atStart=> exact ⟨0,by omega,rfl,B3,o3',by simpa using o4',haw',ZH (by simpa using HGN.out)⟩
   case round=>
    obtain ⟨m,hm',rfl,hBq,hq3,hq4,hqa,hgq⟩:=hrel;have hszq:=hBq.size;obtain ⟨e0,e1⟩:=yO (HCW.out wr hBq);by_cases hltm:m < jn.length
    ·obtain ⟨na',nc',en,_,_,_,hnc⟩:=HSTW.out wr hBq
     cases en;rcases hnc with h00 | ⟨nb,noff,rfl,hnb,hnc⟩
     ·subst h00;simp at hltm
     have hxc:=hnc m hltm;have hxz:=hnz jn[m] (ZM hltm);have etk:=ZH (show N ++ jn.take (m + 1)=(N ++ jn.take m) ++ [jn[m]] by rw [ZT hltm,List.append_assoc])
     have hpre:N ++ jn.take (m + 1) <+:N ++ jn:=by
      rw [List.prefix_append_right_inj];exact List.take_prefix _ _
     have hgs:good (N ++ jn.take (m + 1))↔good (N ++ jn.take m)/\qn jn[m]=true/\hasB (N ++ jn.take m) jn[m]=false:=by rw [etk.out];exact zge
     have hnot:¬good (N ++ jn.take (m + 1))->qH js=false:=fun h=> HBK.out (fun hg=> h (zaB hpre (HSN.out.1 hg).2.2.2))
     have hszs:∀s∈N ++ jn.take m,s.size<=maxLen:=fun s hs=> by
      rcases List.mem_append.1 hs with hs | hs
      ·exact hzn s hs
      ·exact hnz s (List.mem_of_mem_take hs)
     have hlN:(N ++ jn.take m).length=N.length + m:=by rw [List.length_append,List.length_take];omega
     have hst4:zx wr.heap.size wr u4 (N ++ jn.take m):=qM (by rw [hlN];exact hq4) hszs;obtain ⟨x,hx⟩:∃x,x=jn[m]:=⟨_,rfl⟩;obtain ⟨M,hM⟩:∃M,M=N ++ jn.take m:=⟨_,rfl⟩;rw [<-hx] at hxc hxz etk hgs;rw [<-hM] at etk hgs hq4 hst4 hgq hlN;have HGS:=ZH hgs;have HNOT:=ZH hnot;have HLN:=ZH hlN;clear hx hM hgs hnot hpre hszs hnc hlN;have hR2:=zb2 x wr hxz;rw [zbW] at hR2;have hnbB:∀W,Below wr.heap.size wr W->W.cell? ⟨nb,noff + m,none⟩=some (.string x):=fun W hW=> (hW.cell (p:=⟨nb,noff + m,none⟩) (Nat.lt_of_lt_of_le hnb hszq)).trans hxc;have HNB2:=ZH hnbB;clear hnbB;cases hn2:qn x with
     | false=>
      rw [hn2] at hR2;have hF:=ZH (HNOT.out (fun h=> by have:=(HGS.out.1 h).2.1;rw [hn2] at this;cases this));clear hn2;go_wp2_with (go_at_call 15;refine hR2.mono ?_;clear hR2;rintro e w5 ⟨rfl,hb5⟩);go_ret;exact ⟨qA hF.out.symm,hBq.trans (hb5.mono hszq)⟩
     | true=>
     rw [hn2] at hR2;have hH2:=fun w5 (hb5:Below wr.heap.size wr w5)=> zay wr.heap.size u4 M x w5 (hst4.below hb5);cases hh2:hasB M x with
     | true=>
      rw [hh2] at hH2;have hF:=ZH (HNOT.out (fun h=> by have:=(HGS.out.1 h).2.2;rw [hh2] at this;cases this));clear hn2 hh2
      go_wp2_with (first
       | (go_at_call 15;refine hR2.mono ?_;clear hR2;rintro e w5 ⟨rfl,hb5⟩;obtain ⟨d0,d1⟩:=yO (HCW.out w5 (hBq.trans (hb5.mono hszq)));have d2:=HNB2.out w5 hb5)
       | (go_at_call 36;refine (hH2 _ hb5).mono ?_;clear hH2;rintro e w6 ⟨rfl,rfl⟩))
      go_ret;exact ⟨qA hF.out.symm,hBq.trans (hb5.mono hszq)⟩
     | false=>
     rw [hh2] at hH2;have HG2:=ZH (HGS.out.2 ⟨hgq.out,hn2,hh2⟩);clear hn2 hh2;have q4:=ZH hq4.lt;have q3:=ZH hq3.lt
     go_wp2_with (first
      | (go_at_call 15;refine hR2.mono ?_;clear hR2;rintro e w5 ⟨rfl,hb5⟩;obtain ⟨d0,d1⟩:=yO (HCW.out w5 (hBq.trans (hb5.mono hszq)));have d2:=HNB2.out w5 hb5;have r3:=qX hq3 (zj hb5) (fun g _ e=> by cases e);have r4:=qX hq4 (zj hb5) (fun g _ e=> by cases e);have z5:=hb5.size)
      | (go_at_call 36;refine (hH2 _ hb5).mono ?_;clear hH2;rintro e w6 ⟨rfl,rfl⟩)
      | (show wpList _ _ _ (⟨some 96,_,_,_,_,_⟩::_) _ _;refine wpList_append_own_at _ rfl (.tmp 86) (.tmp 95) 22 rfl w.heap.size 9 i0 (.string ⟨#[]⟩) 1 16 Tryz.underlying22 hi hz0 hz1 hz2 rfl (by decide) _ _ _ rfl (r4.alloc _) ⟨w6.heap.size,0,none⟩ 1 1 [.string x] rfl rfl (yw _ _ _ _ rfl) (by simp [Value.oneCell']) (by unfold maxLen;omega) (by omega) (by simp;omega) ?_;intro v4' w7 r4' g7 _ p4))
     have r3':=qX (r3.alloc (.cells #[.string x] 9)) g7 (fun g hg e=> hqa g hg e);have B6:Below w.heap.size w w6:=hBq.trans (hb5.mono hszq);have qq:=r4.lt;have B7:Below w.heap.size w w7:=(B6.alloc B6.size _).grown g7 (by simp;omega) (fun r e=> (qq r e).1)
     have hqa':Away v3' v4':=by
      intro g hg e;have:=(q3.out g hg).2;rcases (show v4'.ownBlock=u4.ownBlock∨v4'.ownBlock=some (w6.heap.size + 1) from p4.imp id (fun h=> by simpa using h)) with p4 | p4
      ·exact hqa g hg (by rw [<-p4];exact e)
      ·rw [p4] at e;simp at e;omega
     go_roundw
     case rel=> exact ⟨m + 1,by omega,by go_num,B7,r3',by rw [etk.out];simp only [zn,List.map_append];exact r4',hqa',HG2⟩
     case measure=> simp [intOf];omega
    ·obtain rfl:m=jn.length:=by omega
     rw [List.take_length] at hq4 hgq;have HF:=ZH (HSN.out.2 ⟨hgd.out,⟨HNB.out,HHB.out⟩,hn3,hgq.out⟩);go_wp2;go_roundw
     case rel=> exact ⟨k + 1,by omega,by go_num,hBq,by rw [e3.out];simp only [zn,List.map_append];exact hq3,by rw [e4.out,List.length_append];exact hq4,hqa,HF,ZH (by rw [e4.out,List.length_append];have:=hlen.out;omega)⟩
     case measure=> simp [intOf];omega
  ·have hkl:k=js.length:=by omega
   have hgf:=hgd.out;rw [hkl,List.take_length] at hgf;have HF:=ZH (HYES.out hgf);clear hgf;obtain rfl:=hkl;go_wp2;go_ret;exact ⟨qA HF.out.symm,hB⟩
end
section
open Go.RowKit
theorem xp {α:Type} (f:α->Part):∀l:List α,l.length<=sz (l.map f):=by
 intro l;induction l with
 | nil=> simp
 | cons x l ih=>
  have e1:=qB [f x] (l.map f);have e2:=zcf (f x);have e3:=yV (f x);simp only [List.cons_append,List.nil_append] at e1;simp only [List.length_cons,List.map_cons];omega
theorem RMid.out' {p:Part} {n d:Nat} {is:Bool} {n' d':Int} {b':Bool} (h:RMid p.parts n d is) (hp:p.shaped=true) (hn:n'=n) (hd:d'=(d:Int) + 1) (hb:b'=is):ROut p (.returned (.tuple #[.int .i64 n', .int .i64 d', .bool b'])):=by
 subst hn;subst hd;subst hb;exact h.out hp
theorem zid {a:Int} (h:(!(a==0))=false):a=0:=by simpa using h
theorem zgj {form:Int} {text:ByteArray} {jb:Bool} {lj ld lk:Nat} (hS:((form==1 && text.size==0 && jb && ld==0 && lk==1) ||
   (form==2 && qn text && lj==0 && decide (ld<=5) && lk==1))=false)
  (h1:form=1∨form=2) (h2:rOne text (!(form==1))=true) (h3:lk=1) (h4:ld<=5) (h5:form=2∨jb=true) (h6:form=1/\ld=0∨form=2/\lj=0):False:=by
 rw [Bool.eq_false_iff] at hS;apply hS;rcases h1 with rfl | rfl
 ·have e:text.size=0:=by simpa [rOne] using h2
  have e2:ld=0:=by omega
  have e3:jb=true:=by simpa using h5
  simp [e,e2,e3,h3]
 ·have e:qn text=true:=by simpa [rOne] using h2
  have e2:lj=0:=by omega
  simp [e,e2,h3,h4]
theorem zk9 (s:Nat) (ih:RAt s) (form:Int) (text:ByteArray) (joins:List Msg) (defs:List zg) (kids:List Term) (hs:(Part.def_ (.mk form text joins defs kids)).size<=s + 1) (h60:(Part.def_ (.mk form text joins defs kids)).size<=60) (B:Nat) (u w:World) (cs:List Value) (hu:zh B u w) (hBl:B<=w.heap.size)
  (hv:zo B u cs (.mk form text joins defs kids)):
  Calls Tryz.prog 113 #[.agg cs.toArray] w fun e w'=> ROut (.def_ (.mk form text joins defs kids)) e/\Below w.heap.size w w':=by
 unfold zo at hv;obtain ⟨hz,_,_,_,rfl,⟨aj,pj,rfl,lj,hj⟩,⟨a0,p0,rfl,l0,h0⟩,⟨a1,p1,rfl,l1,h1⟩⟩:=hv;have hss:=yV (Part.def_ (.mk form text joins defs kids));simp only [Part.parts,qB] at hss;have hdl:=xp Part.def_ defs;have hkl:=xp Part.proc kids;obtain ⟨W1,hW1'⟩:∃W1,W1=w.alloc (.cells #[.int .i64 form, .string text, .slice aj joins.length pj, .slice a0 defs.length p0, .slice a1 kids.length p1] 130):=⟨_,rfl⟩;have z1:W1.heap.size=w.heap.size + 1:=by rw [hW1'];simp
 have hW1:Below w.heap.size w W1:=by rw [hW1'];exact ZQ w _
 have hbox0:W1.cell? ⟨w.heap.size,3,none⟩=some (.slice a0 defs.length p0):=by
  rw [hW1',ZA _ _ _ _ rfl];rfl
 have hbox1:W1.cell? ⟨w.heap.size,4,none⟩=some (.slice a1 kids.length p1):=by
  rw [hW1',ZA _ _ _ _ rfl];rfl
 have HW:=ZH hW1';clear hW1';have HJ:Hid (∀W,Below w.heap.size w W->Calls Tryz.prog 156 #[.slice aj joins.length pj] W fun e w'=> e= .returned (.bool (qH joins))/\Below W.heap.size W w'):=ZH (fun W hW=> zji aj pj joins B u W (hu.trans ((Below.keptC hW).mono hBl)) (by have:=hW.size;omega) hj lj);have hdl60:defs.length<=60:=by omega
 have hkl60:kids.length<=60:=by omega
 cases hsh:yB (.mk form text joins defs kids) with
 | false=>
  have HNO:=ZH (ROut.no (p:= .def_ (.mk form text joins defs kids)) hsh);obtain ⟨lj',hlj⟩:∃x,x=joins.length:=⟨_,rfl⟩;obtain ⟨ld,hld⟩:∃x,x=defs.length:=⟨_,rfl⟩;obtain ⟨lk,hlk⟩:∃x,x=kids.length:=⟨_,rfl⟩
  have hS:Hid (((form==1 && text.size==0 && qH joins && ld==0 && lk==1) ||
   (form==2 && qn text && lj'==0 && decide (ld<=5) && lk==1))=false):=ZH (by rw [<-hsh,hlj,hld,hlk];rfl)
  have HW2:=HW.out;have HJ2:=HJ.out;generalize Part.def_ (.mk form text joins defs kids)=p at HNO ⊢;rw [<-hlj] at lj HW2 HJ2 ⊢;rw [<-hld] at hdl60 l0 HW2 ⊢;rw [<-hlk] at hkl60 l1 HW2 ⊢;generalize qH joins=jb at hS HJ2;clear hlj hld hlk h0 h1 hj hsh hss h60 hs HW HJ hbox0 hbox1 hdl hkl;have HW:=ZH HW2;have HJ:=ZH HJ2;clear HW2 HJ2;rcases (show form=1∨form=2∨(form≠1/\form≠2) by omega) with rfl | rfl | ⟨hf1,hf2⟩
  rotate_left 2
  ·have q1:(form==1)=false:=by simpa using hf1
   have q2:(form==2)=false:=by simpa using hf2
   clear hf1 hf2;go_enter Tryz.func113,Tryz.ntmps113;go_wp2;go_ret3;exact ⟨HNO.out,ZQ w _⟩
  all_goals (
   go_enter Tryz.func113,Tryz.ntmps113
   go_wp2_with (first
    | (go_at_call 112;refine (xH _ _ _ hz).mono ?_;rintro e w1 ⟨rfl,hb1⟩;have hc0:=(hb1.cell (p:=⟨w.heap.size,0,none⟩) (by simp)).trans (ZA _ _ _ _ rfl);have hc1:=(hb1.cell (p:=⟨w.heap.size,1,none⟩) (by simp)).trans (ZA _ _ _ _ rfl);have hc2:=(hb1.cell (p:=⟨w.heap.size,2,none⟩) (by simp)).trans (ZA _ _ _ _ rfl);have hc3:=(hb1.cell (p:=⟨w.heap.size,3,none⟩) (by simp)).trans (ZA _ _ _ _ rfl);have hc4:=(hb1.cell (p:=⟨w.heap.size,4,none⟩) (by simp)).trans (ZA _ _ _ _ rfl);have hB1:Below (w.heap.size + 1) W1 w1:=(by rw [HW.out];exact hb1.mono (by simp)))
    | (go_at_call 156;refine (HJ.out w1 (hW1.trans (hB1.mono (Nat.le_succ _)))).mono ?_;rintro e w2 ⟨rfl,hb2⟩;have hd2:=(hb2.cell (p:=⟨w.heap.size,2,none⟩) (by have:=hb1.size;simp at this ⊢;omega)).trans hc2))
   all_goals first
    | (go_ret3;refine ⟨HNO.out,?_⟩;first | exact ZQ w _ | exact hW1.trans ((hB1.mono (Nat.le_succ _)).trans (hb2.mono (by have:=hB1.size;omega))) | exact hW1.trans (hB1.mono (Nat.le_succ _)))
    | exact (zgj hS.out (by omega) (by assumption) (by omega) (by omega) (by first | (left;omega) | (right;assumption)) (by first | omega | exact .inr ⟨rfl,by have hq:=zid (by assumption);omega⟩ | exact .inl ⟨rfl,by have hq:=zid (by assumption);omega⟩)).elim
    | trace_state)
 | true=>
  have HSH:=ZH (show (Part.def_ (.mk form text joins defs kids)).shaped=true from hsh);have h:=hsh;unfold yB at h;simp only [Bool.or_eq_true,Bool.and_eq_true,beq_iff_eq,decide_eq_true_eq] at h;clear hsh;have hs60:sz (defs.map Part.def_)<=60:=by omega
  have hs61:sz (kids.map Part.proc)<=60:=by omega
  have hsd:1 + (sz (defs.map Part.def_) + sz (kids.map Part.proc))<=s + 1:=by omega
  have hsd2:1 + (sz (defs.map Part.def_) + sz (kids.map Part.proc))<=60:=by omega
  clear hss hdl hkl h60 hs;rcases h with ⟨⟨⟨⟨rfl,g1⟩,g2⟩,g3⟩,g4⟩ | ⟨⟨⟨⟨rfl,g1⟩,g2⟩,g3⟩,g4⟩
  ·have HO:=ZH (show rOne text false=true by simp [rOne,g1])
   have ht:((kids.length:Int)==1)=true:=by rw [g4];rfl
   have ht2:((defs.length:Int)==0)=true:=by rw [g3];rfl
   have ht3:(defs.length:Int)<=5:=by omega
   have H3:=ZH g3;have H4:=ZH g4;have HJB:=ZH g2;clear g1 g2 g3 g4;go_enter Tryz.func113,Tryz.ntmps113
   go_wp2_with (first
    | (go_at_call 112;refine (xH _ _ _ hz).mono ?_;rw [HO.out];rintro e w1 ⟨rfl,hb1⟩;have hc0:=(hb1.cell (p:=⟨w.heap.size,0,none⟩) (by simp)).trans (ZA _ _ _ _ rfl);have hc1:=(hb1.cell (p:=⟨w.heap.size,1,none⟩) (by simp)).trans (ZA _ _ _ _ rfl);have hc2:=(hb1.cell (p:=⟨w.heap.size,2,none⟩) (by simp)).trans (ZA _ _ _ _ rfl);have hc3:=(hb1.cell (p:=⟨w.heap.size,3,none⟩) (by simp)).trans (ZA _ _ _ _ rfl);have hc4:=(hb1.cell (p:=⟨w.heap.size,4,none⟩) (by simp)).trans (ZA _ _ _ _ rfl);have hB1:Below (w.heap.size + 1) W1 w1:=(by rw [HW.out];exact hb1.mono (by simp)))
    | (go_at_call 156;refine (HJ.out w1 (hW1.trans (hB1.mono (Nat.le_succ _)))).mono ?_;rw [HJB.out];rintro e w2 ⟨rfl,hb2⟩;have hcc:=hb2.cell (p:=⟨w.heap.size,3,none⟩) (by have:=hB1.size;simp;omega);have hcd:=hb2.cell (p:=⟨w.heap.size,4,none⟩) (by have:=hB1.size;simp;omega);rw [hc3] at hcc;rw [hc4] at hcd;have hB2:Below (w.heap.size + 1) W1 w2:=hB1.trans (hb2.mono (by have:=hB1.size;omega))))
   go_loopw [7,8,6,9] (fun vn vd vb i wr=> ∃(k n d:Nat) (b:Bool),k<=defs.length/\i= .int .i64 k/\vn= .int .i64 n/\vd= .int .i64 d/\vb= .bool b/\Hid (RMid ((defs.take k).map .def_) n d b)/\Below (w.heap.size + 1) W1 wr) (fun _ _ _ i _=> defs.length - (intOf i).toNat)
   case atStart=> exact ⟨0,1,0,true,by omega,rfl,rfl,rfl,rfl,ZH RMid.nil,hB2⟩
   case round=>
    obtain ⟨k,n,d,b,hk',rfl,rfl,rfl,rfl,hm,hB⟩:=hrel;have hBw:=hW1.trans (hB.mono (Nat.le_succ _));have hBz:=hB.size;have hbox:=(hB.cell (p:=⟨w.heap.size,3,none⟩) (by simp)).trans hbox0
    have hnd:n<=60/\d<=60:=by
     obtain ⟨_,q1,q2,_⟩:=hm.out;have:=j9 Part.def_ defs k;try simp only [qB] at q1 q2
     omega
    obtain ⟨hn60,hd60⟩:=hnd;by_cases hlt:k < defs.length
    ·rcases h0 with h00 | ⟨bb,off,rfl,hb,hk⟩
     ·omega
     obtain ⟨cs,hcs,hexp⟩:=hk.get defs bb off k hlt;have hexp':=hexp;have hsm:=yU Part.def_ hlt;obtain ⟨e0,he0⟩:∃e,e=defs[k]:=⟨_,rfl⟩
     have htk:(defs.take (k + 1)).map Part.def_=((defs.take k).map Part.def_) ++ [Part.def_ e0]:=by
      rw [ZT hlt,List.map_append,he0];simp
     rw [<-he0] at hexp hexp' hsm;have hih:=ih (.def_ e0) (by omega) (by omega) B u wr cs (hu.trans ((Below.keptC hBw).mono hBl)) (by omega) hexp';have HT:=ZH htk;clear htk;clear he0 hexp'
     have HE:∀e w2,ROut (.def_ e0) e/\Below wr.heap.size wr w2->∃m l:Nat,∃ok:Bool,e= .returned (.tuple #[.int .i64 m, .int .i64 l, .bool ok])/\m<=60/\l<=60/\Hid (RMid ((defs.take (k + 1)).map .def_) (n + m) (max d l) (b && ok))/\Below wr.heap.size wr w2:=by
      rintro e w2 ⟨⟨m,l,rfl,h1,h2,h3⟩,hb2⟩;exact ⟨m,l,_,rfl,by omega,by omega,ZH (by rw [HT.out];exact hm.out.step h1 h2 rfl h3),hb2⟩
     have hih2:=hih.mono HE;clear hih HE;obtain ⟨f0,t0,j0,d0,k0⟩:=e0;unfold zo at hexp;obtain ⟨_,_,_,_,rfl,⟨x0,y0,rfl,_⟩,⟨x1,y1,rfl,_⟩,⟨x2,y2,rfl,_⟩⟩:=hexp;obtain ⟨c0,c1,c2,c3,c4⟩:=zK ((hcs.keep hu hb).below hBw (by omega));clear hcs hk;cases b with
     | true=>
      go_wp2_with (go_at_call 113;refine hih2.mono ?_;clear hih2;rintro e w2 ⟨m,l,ok,rfl,hm60,hl60,HR,hb2⟩)
      all_goals (
       go_roundw
       case rel=> exact ⟨k + 1,n + m,max d l,_,by omega,by go_num,by go_num,jw (by omega),rfl,ZH (by simpa using HR.out),hB.trans (hb2.mono (by have:=hB.size;simp at this ⊢;omega))⟩
       case measure=> simp [intOf];omega)
     | false=>
      go_wp2_with (go_at_call 113;refine hih2.mono ?_;clear hih2;rintro e w2 ⟨m,l,ok,rfl,hm60,hl60,HR,hb2⟩)
      all_goals (
       go_roundw
       case rel=> exact ⟨k + 1,n + m,max d l,false,by omega,by go_num,by go_num,jw (by omega),rfl,ZH (by simpa using HR.out),hB.trans (hb2.mono (by have:=hB.size;simp at this ⊢;omega))⟩
       case measure=> simp [intOf];omega)
    ·have hkl:k=defs.length:=by omega
     have hm2:=hm.out;rw [hkl,List.take_length] at hm2;have hmF:=ZH hm2;clear hm2 hm;obtain rfl:=hkl;have hBl':w.heap.size<=wr.heap.size:=hBw.size;rcases h1 with h00 | ⟨bb,off,rfl,hb,hk⟩
     ·exact absurd h00 (by have:=H4.out;omega)
     obtain ⟨cs,hcs,hexp⟩:=hk.get kids bb off 0 (by have:=H4.out;omega);have hexp':=hexp;have hsm:=yU Part.proc (l:=kids) (k:=0) (by have:=H4.out;omega);obtain ⟨e0,he0⟩:∃e,e=kids[0]'(by have:=H4.out;omega):=⟨_,rfl⟩
     have hkk:kids.map Part.proc= [Part.proc e0]:=by
      have h4:=H4.out;apply List.ext_getElem (by simp [h4]);intro i hi1 hi2;have:i=0:=by simp at hi2;omega
      subst this;simp [he0]
     rw [<-he0] at hexp hexp' hsm;have hbox1w:=(hB.cell (p:=⟨w.heap.size,4,none⟩) (by simp)).trans hbox1;have hih:=ih (.proc e0) (by omega) (by omega) B u wr cs (hu.trans ((Below.keptC hBw).mono hBl)) (by omega) hexp'
     have HE:∀e w2,ROut (.proc e0) e/\Below wr.heap.size wr w2->∃m l:Nat,∃ok:Bool,e= .returned (.tuple #[.int .i64 m, .int .i64 l, .bool ok])/\m<=60/\l<=60/\Hid (RMid (Part.def_ (.mk 1 text joins defs kids)).parts (n + m) (max d l) (b && ok))/\Below wr.heap.size wr w2:=by
      rintro e w2 ⟨⟨m,l,rfl,h1,h2,h3⟩,hb2⟩;exact ⟨m,l,_,rfl,by omega,by omega,ZH (by simp only [Part.parts];rw [hkk];exact hmF.out.step h1 h2 rfl h3),hb2⟩
     have hih2:=hih.mono HE;clear hih HE hexp' he0 hkk;obtain ⟨o0,t0,g0,d0,k0⟩:=e0;unfold ze at hexp;obtain ⟨_,_,_,_,rfl,⟨x0,y0,rfl,_⟩,⟨x1,y1,rfl,_⟩,⟨x2,y2,rfl,_⟩⟩:=hexp;obtain ⟨c0,c1,c2,c3,c4⟩:=zK ((hcs.keep hu hb).below hBw (by omega));simp only [Nat.zero_mul,Nat.add_zero] at c0 c1 c2 c3 c4;have hk1:1<=kids.length:=by have:=H4.out;omega
     clear hcs hk;cases b with
     | true=>
      go_wp2_with (go_at_call 59;refine hih2.mono ?_;clear hih2;rintro e w2 ⟨m,l,ok,rfl,hm60,hl60,HR,hb2⟩)
      all_goals (
       go_ret3;exact ⟨RMid.out' HR.out HSH.out (by simp) (by omega) (by simp),hBw.trans (hb2.mono hBl')⟩)
     | false=>
      go_wp2_with (go_at_call 59;refine hih2.mono ?_;clear hih2;rintro e w2 ⟨m,l,ok,rfl,hm60,hl60,HR,hb2⟩)
      all_goals (
       go_ret3;exact ⟨RMid.out' HR.out HSH.out (by simp) (by omega) (by simp),hBw.trans (hb2.mono hBl')⟩)
  ·have HO:=ZH (show rOne text true=true by simp [rOne,g1])
   have ht:((kids.length:Int)==1)=true:=by rw [g4];rfl
   have ht2:((joins.length:Int)==0)=true:=by rw [g2];rfl
   have ht3:(defs.length:Int)<=5:=by omega
   have H3:=ZH g2;have H4:=ZH g4;clear g1 g2 g3 g4;go_enter Tryz.func113,Tryz.ntmps113;go_wp2_with (go_at_call 112;refine (xH _ _ _ hz).mono ?_;rw [HO.out];rintro e w1 ⟨rfl,hb1⟩;have hc0:=(hb1.cell (p:=⟨w.heap.size,0,none⟩) (by simp)).trans (ZA _ _ _ _ rfl);have hc1:=(hb1.cell (p:=⟨w.heap.size,1,none⟩) (by simp)).trans (ZA _ _ _ _ rfl);have hc2:=(hb1.cell (p:=⟨w.heap.size,2,none⟩) (by simp)).trans (ZA _ _ _ _ rfl);have hc3:=(hb1.cell (p:=⟨w.heap.size,3,none⟩) (by simp)).trans (ZA _ _ _ _ rfl);have hc4:=(hb1.cell (p:=⟨w.heap.size,4,none⟩) (by simp)).trans (ZA _ _ _ _ rfl);have hB1:Below (w.heap.size + 1) W1 w1:=(by rw [HW.out];exact hb1.mono (by simp)))
   go_loopw [7,8,6,9] (fun vn vd vb i wr=> ∃(k n d:Nat) (b:Bool),k<=defs.length/\i= .int .i64 k/\vn= .int .i64 n/\vd= .int .i64 d/\vb= .bool b/\Hid (RMid ((defs.take k).map .def_) n d b)/\Below (w.heap.size + 1) W1 wr) (fun _ _ _ i _=> defs.length - (intOf i).toNat)
   case atStart=> exact ⟨0,1,0,true,by omega,rfl,rfl,rfl,rfl,ZH RMid.nil,hB1⟩
   case round=>
    obtain ⟨k,n,d,b,hk',rfl,rfl,rfl,rfl,hm,hB⟩:=hrel;have hBw:=hW1.trans (hB.mono (Nat.le_succ _));have hBz:=hB.size;have hbox:=(hB.cell (p:=⟨w.heap.size,3,none⟩) (by simp)).trans hbox0
    have hnd:n<=60/\d<=60:=by
     obtain ⟨_,q1,q2,_⟩:=hm.out;have:=j9 Part.def_ defs k;try simp only [qB] at q1 q2
     omega
    obtain ⟨hn60,hd60⟩:=hnd;by_cases hlt:k < defs.length
    ·rcases h0 with h00 | ⟨bb,off,rfl,hb,hk⟩
     ·omega
     obtain ⟨cs,hcs,hexp⟩:=hk.get defs bb off k hlt;have hexp':=hexp;have hsm:=yU Part.def_ hlt;obtain ⟨e0,he0⟩:∃e,e=defs[k]:=⟨_,rfl⟩
     have htk:(defs.take (k + 1)).map Part.def_=((defs.take k).map Part.def_) ++ [Part.def_ e0]:=by
      rw [ZT hlt,List.map_append,he0];simp
     rw [<-he0] at hexp hexp' hsm;have hih:=ih (.def_ e0) (by omega) (by omega) B u wr cs (hu.trans ((Below.keptC hBw).mono hBl)) (by omega) hexp';have HT:=ZH htk;clear htk;clear he0 hexp'
     have HE:∀e w2,ROut (.def_ e0) e/\Below wr.heap.size wr w2->∃m l:Nat,∃ok:Bool,e= .returned (.tuple #[.int .i64 m, .int .i64 l, .bool ok])/\m<=60/\l<=60/\Hid (RMid ((defs.take (k + 1)).map .def_) (n + m) (max d l) (b && ok))/\Below wr.heap.size wr w2:=by
      rintro e w2 ⟨⟨m,l,rfl,h1,h2,h3⟩,hb2⟩;exact ⟨m,l,_,rfl,by omega,by omega,ZH (by rw [HT.out];exact hm.out.step h1 h2 rfl h3),hb2⟩
     have hih2:=hih.mono HE;clear hih HE;obtain ⟨f0,t0,j0,d0,k0⟩:=e0;unfold zo at hexp;obtain ⟨_,_,_,_,rfl,⟨x0,y0,rfl,_⟩,⟨x1,y1,rfl,_⟩,⟨x2,y2,rfl,_⟩⟩:=hexp;obtain ⟨c0,c1,c2,c3,c4⟩:=zK ((hcs.keep hu hb).below hBw (by omega));clear hcs hk;cases b with
     | true=>
      go_wp2_with (go_at_call 113;refine hih2.mono ?_;clear hih2;rintro e w2 ⟨m,l,ok,rfl,hm60,hl60,HR,hb2⟩)
      all_goals (
       go_roundw
       case rel=> exact ⟨k + 1,n + m,max d l,_,by omega,by go_num,by go_num,jw (by omega),rfl,ZH (by simpa using HR.out),hB.trans (hb2.mono (by have:=hB.size;simp at this ⊢;omega))⟩
       case measure=> simp [intOf];omega)
     | false=>
      go_wp2_with (go_at_call 113;refine hih2.mono ?_;clear hih2;rintro e w2 ⟨m,l,ok,rfl,hm60,hl60,HR,hb2⟩)
      all_goals (
       go_roundw
       case rel=> exact ⟨k + 1,n + m,max d l,false,by omega,by go_num,by go_num,jw (by omega),rfl,ZH (by simpa using HR.out),hB.trans (hb2.mono (by have:=hB.size;simp at this ⊢;omega))⟩
       case measure=> simp [intOf];omega)
    ·have hkl:k=defs.length:=by omega
     have hm2:=hm.out;rw [hkl,List.take_length] at hm2;have hmF:=ZH hm2;clear hm2 hm;obtain rfl:=hkl;have hBl':w.heap.size<=wr.heap.size:=hBw.size;rcases h1 with h00 | ⟨bb,off,rfl,hb,hk⟩
     ·exact absurd h00 (by have:=H4.out;omega)
     obtain ⟨cs,hcs,hexp⟩:=hk.get kids bb off 0 (by have:=H4.out;omega);have hexp':=hexp;have hsm:=yU Part.proc (l:=kids) (k:=0) (by have:=H4.out;omega);obtain ⟨e0,he0⟩:∃e,e=kids[0]'(by have:=H4.out;omega):=⟨_,rfl⟩
     have hkk:kids.map Part.proc= [Part.proc e0]:=by
      have h4:=H4.out;apply List.ext_getElem (by simp [h4]);intro i hi1 hi2;have:i=0:=by simp at hi2;omega
      subst this;simp [he0]
     rw [<-he0] at hexp hexp' hsm;have hbox1w:=(hB.cell (p:=⟨w.heap.size,4,none⟩) (by simp)).trans hbox1;have hih:=ih (.proc e0) (by omega) (by omega) B u wr cs (hu.trans ((Below.keptC hBw).mono hBl)) (by omega) hexp'
     have HE:∀e w2,ROut (.proc e0) e/\Below wr.heap.size wr w2->∃m l:Nat,∃ok:Bool,e= .returned (.tuple #[.int .i64 m, .int .i64 l, .bool ok])/\m<=60/\l<=60/\Hid (RMid (Part.def_ (.mk 2 text joins defs kids)).parts (n + m) (max d l) (b && ok))/\Below wr.heap.size wr w2:=by
      rintro e w2 ⟨⟨m,l,rfl,h1,h2,h3⟩,hb2⟩;exact ⟨m,l,_,rfl,by omega,by omega,ZH (by simp only [Part.parts];rw [hkk];exact hmF.out.step h1 h2 rfl h3),hb2⟩
     have hih2:=hih.mono HE;clear hih HE hexp' he0 hkk;obtain ⟨o0,t0,g0,d0,k0⟩:=e0;unfold ze at hexp;obtain ⟨_,_,_,_,rfl,⟨x0,y0,rfl,_⟩,⟨x1,y1,rfl,_⟩,⟨x2,y2,rfl,_⟩⟩:=hexp;obtain ⟨c0,c1,c2,c3,c4⟩:=zK ((hcs.keep hu hb).below hBw (by omega));simp only [Nat.zero_mul,Nat.add_zero] at c0 c1 c2 c3 c4;have hk1:1<=kids.length:=by have:=H4.out;omega
     clear hcs hk;cases b with
     | true=>
      go_wp2_with (go_at_call 59;refine hih2.mono ?_;clear hih2;rintro e w2 ⟨m,l,ok,rfl,hm60,hl60,HR,hb2⟩)
      all_goals (
       go_ret3;exact ⟨RMid.out' HR.out HSH.out (by simp) (by omega) (by simp),hBw.trans (hb2.mono hBl')⟩)
     | false=>
      go_wp2_with (go_at_call 59;refine hih2.mono ?_;clear hih2;rintro e w2 ⟨m,l,ok,rfl,hm60,hl60,HR,hb2⟩)
      all_goals (
       go_ret3;exact ⟨RMid.out' HR.out HSH.out (by simp) (by omega) (by simp),hBw.trans (hb2.mono hBl')⟩)
end
end Go.Proofs.YtjmlaeofjjhfmaaGreat
