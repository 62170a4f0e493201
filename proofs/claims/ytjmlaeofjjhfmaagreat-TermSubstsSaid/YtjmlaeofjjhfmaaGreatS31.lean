/- Lemmas. -/
import Derived.Test.YtjmlaeofjjhfmaaGreatS30
import Derived.Test.YtjmlaeofjjhfmaaGreatS10
import Derived.Test.YtjmlaeofjjhfmaaGreatS23
import Derived.Test.YtjmlaeofjjhfmaaGreatS29
import Derived.Test.YtjmlaeofjjhfmaaGreatS21
import Derived.StillTailTactics
import Derived.Test.YtjmlaeofjjhfmaaGreatS20
import Derived.Deep.RegionLaw
import Derived.Deep.RegionHeld3
import Derived.Test.YtjmlaeofjjhfmaaGreatS22
import Derived.BigQuiet
import Derived.Deep.QuietTactic
import Derived.Test.YtjmlaeofjjhfmaaGreatS07
set_option linter.unusedVariables false
set_option linter.unusedSimpArgs false
set_option maxRecDepth 10000
set_option maxHeartbeats 16000000
namespace Go.Proofs.YtjmlaeofjjhfmaaGreat
section
open Go.RowKit Go.Shelf Go.Maps Go.Sort
def Srt (l:List ByteArray):Prop:=(l.map zb).Pairwise (· < ·)
theorem bl_dec (x s:ByteArray):Op.bytesLess x.toList s.toList=decide (zb x < zb s):=by
 rw [bytesLess_eq];simp only [ByteArray.toList_eq]
 rfl
theorem lt_of_not {a b:List UInt8} (h:¬a < b) (hn:b≠a):b < a:=by
 refine Classical.byContradiction fun h2=> hn ?_;exact List.le_antisymm h h2
theorem pw_insert {L:List (List UInt8)} {x:List UInt8} (k:Nat) (h:L.Pairwise (· < ·)) (h1:∀y∈L.take k,y < x) (h2:∀y∈L.drop k,x < y):(L.take k ++ x::L.drop k).Pairwise (· < ·):=by
 rw [<-List.take_append_drop k L,List.pairwise_append] at h;obtain ⟨a,b,c⟩:=h;rw [List.pairwise_append,List.pairwise_cons];refine ⟨a,⟨h2,b⟩,fun y hy z hz=> ?_⟩;rcases List.mem_cons.1 hz with rfl | hz
 ·exact h1 y hy
 ·exact c y hy z hz
theorem srt_insert {l:List ByteArray} {s:ByteArray} {k:Nat} (h:Srt l) (hk:k<=l.length) (h1:∀x∈l.take k,zb x < zb s) (h2:∀hk:k < l.length,¬zb l[k] < zb s) (hn:zb s ∉ l.map zb):Srt (l.take k ++ s::l.drop k):=by
 unfold Srt at h ⊢;rw [List.map_append,List.map_cons,List.map_take,List.map_drop];refine pw_insert k h ?_ ?_
 ·intro y hy
  rw [<-List.map_take] at hy;obtain ⟨x,hx,rfl⟩:=List.mem_map.1 hy;exact h1 x hx
 ·intro y hy
  by_cases hkl:k < l.length
  ·have e:=List.drop_eq_getElem_cons hkl
   have hsk:zb s < zb l[k]:=lt_of_not (h2 hkl) (fun e=> hn (by rw [e];exact List.mem_map.2 ⟨_,ZM hkl,rfl⟩));rw [<-List.map_drop,e,List.map_cons] at hy;rcases List.mem_cons.1 hy with rfl | hy
   ·exact hsk
   ·rw [<-List.take_append_drop k (l.map zb),<-List.map_drop,e,List.map_cons,List.pairwise_append,List.pairwise_cons] at h
    exact List.lt_trans hsk (h.2.1.1 y hy)
  ·rw [List.drop_of_length_le (by simp;omega)] at hy;cases hy
theorem mem_has {l:List ByteArray} {s:ByteArray}:hasB l s=true↔zb s∈l.map zb:=by
 rw [zdm];simp [zF]
structure yE (w:World) (v:Value) (l:List ByteArray):Prop where
 own:w.ownsRow 0 9 1 v l.length (zn l)
 sz:∀s∈l,s.size<=maxLen
theorem yE.nil (w:World):yE w (.slice none 0 0) []:=⟨ZR _ _ _ _,by simp⟩
theorem yE.later {w w':World} {v:Value} {l:List ByteArray} (h:yE w v l) (g:Below w.heap.size w w'):yE w' v l:=⟨zt h.own (zj g) (fun _ _ e=> by cases e),h.sz⟩
theorem yE.strs {w:World} {v:Value} {l:List ByteArray} (h:yE w v l):zx w.heap.size w v l:=xX h.own h.sz
def zkz (out:List ByteArray) (F:List UInt8->Prop) (n:Nat) (w:World) (e:Ending) (w':World):Prop:=
 ∃v out',e= .returned v/\yE w' v out'/\Srt out'/\(∀k,k∈out'.map zb↔k∈out.map zb∨F k)/\out'.length<=out.length + n/\Below w.heap.size w w'
theorem zfT (w:World) (l:List ByteArray) (hl:l.length<=1000):(w.alloc (.cells (zn l).toArray 9)).ownsRow w.heap.size 9 1 (.slice (some ⟨w.heap.size,0,none⟩) l.length l.length) l.length (zn l):=
 ⟨by simp [zn], .inr ⟨w.heap.size,l.length,(zn l).toArray,rfl,ZL _,ZN w _,ZL _,by unfold maxLen;omega,by simp [zn],by simp only [zn,Nat.mul_one];exact List.take_of_length_le (by simp)⟩⟩
theorem both_any (v1 v2:Value) (s1 s2:List ByteArray) (w:World) (h1:zx w.heap.size w v1 s1) (h2:zx w.heap.size w v2 s2) (l1:s1.length<=500000) (l2:s2.length<=500000):
  Calls Tryz.prog 79 #[v1,v2] w fun e w'=> ∃v,e= .returned v/\yE w' v (s1 ++ s2)/\Below w.heap.size w w':=by
 have zA:(w.alloc (.cells #[] 9)).heap.size=w.heap.size + 1:=by simp
 have bA:Below w.heap.size w (w.alloc (.cells #[] 9)):=ZQ w _;obtain ⟨r1,w2,hr1,ho1,hz1,hg1⟩:=yQ 22 (zfT w [] (by simp)) (h1.later bA) (by rw [show (zn []).toArray=#[] from rfl,zA];omega) (by simp) (by omega) (by simp);rw [List.nil_append] at ho1 hz1;rw [show (zn []).toArray=#[] from rfl] at hr1 hg1;have hbA2:Below w.heap.size w w2:=bA.grown hg1 (by rw [zA];omega) (fun r e=> by have:=ZJ e;simp only at this;omega);have hz2:=hg1.size;obtain ⟨r2,w3,hr2,ho2,hz3,hg2⟩:=yQ 22 ho1 (h2.later hbA2) (by omega) (by omega) (by omega) hz1;have hbF:Below w.heap.size w w3:=hbA2.grown hg2 (by omega) (fun r e=> by have:=(ho1.lt r e).1;omega);have FIN:=ZH (And.intro (yE.mk (xN ho2 (Nat.zero_le _)) hz3) hbF);clear hbF ho1 ho2 hz1 hz3 hg1 hg2 bA hbA2 zA hz2;obtain ⟨a1,c1,rfl,_⟩:=h1;obtain ⟨a2,c2,rfl,_⟩:=h2;go_enter Tryz.func79,Tryz.ntmps79
 go_wp2_with (first
  | (show wpList _ _ _ (⟨some 7,_,_,_,_,_⟩::_) _ _;refine qe rfl (.tmp 5) (.tmp 6) 22 22 rfl rfl rfl hr1 ?_)
  | (show wpList _ _ _ (⟨some 9,_,_,_,_,_⟩::_) _ _;refine qe rfl (.tmp 7) (.tmp 8) 22 22 rfl rfl rfl hr2 ?_))
 go_ret;exact ⟨_,rfl,FIN.out.1,FIN.out.2⟩
theorem zkD (B:Nat) (u:World) (js:List Msg) (a0:Option Addr) (c0:Nat) (w:World) (hu:zh B u w) (hBs:B<=w.heap.size)
  (hN:(ql js).length<=100000) (hjs:js.length=0∨∃b off,a0=some ⟨b,off,none⟩/\b < B/\zX B u b off js) (hjl:js.length<=100000):
  Calls Tryz.prog 170 #[.slice a0 js.length c0] w fun e w'=> ∃r,e= .returned r/\yE w' r (ql js)/\Below w.heap.size w w':=by
 have hW1:Below w.heap.size w w:=ZF _ _;go_enter Tryz.func170,Tryz.ntmps170;go_wp2
 go_loopw [3,4] (fun v i wr=> ∃(k:Nat),k<=js.length/\i= .int .i64 k/\Below w.heap.size w wr/\w.heap.size<=wr.heap.size/\wr.ownsRow w.heap.size 9 1 v (ql (js.take k)).length (zn (ql (js.take k)))/\(∀s∈ql (js.take k),s.size<=maxLen)) (fun _ i _=> js.length - (intOf i).toNat)
 case atStart=> exact ⟨0,by omega,rfl,hW1,by omega,ZR _ _ _ _,by simp [zfb]⟩
 case round=>
  obtain ⟨k,hk',rfl,hB,hws,hown,hsz⟩:=hrel;by_cases hlt:k < js.length
  ·rcases hjs with h0 | ⟨b,off,rfl,hb,hms⟩
   ·omega
   obtain ⟨mcs,hmcs,hmz,mv,rfl,hmn⟩:=hms.get js b off k hlt;have hl1:=xE js k;have hl2:=za0 js k hlt;have htk:=ZH (za8 js k hlt);obtain ⟨x,hx⟩:∃x,x=(js[k]).text:=⟨_,rfl⟩;obtain ⟨nm,hnm⟩:∃nm,nm=(js[k]).names:=⟨_,rfl⟩;rw [<-hnm] at hmn htk hl2;rw [<-hx] at hmcs;have hst:=((hmn.keep hu).mono hBs).below hB;obtain ⟨T,hT⟩:∃T,T=ql (js.take k):=⟨_,rfl⟩;rw [<-hT] at hown hsz hl1 htk;obtain ⟨v',w',hr,ho',hz',hg⟩:=yQ (w:=wr) 22 hown (hst.mono hws) hws (by omega) (by omega) hsz;obtain ⟨d0,d1⟩:=yO ((hmcs.keep hu hb).below hB (by omega));obtain ⟨na,nc,rfl,_⟩:=hmn;clear hx hnm hT hmcs hst;go_wp2_with (show wpList _ _ _ (⟨some 17,_,_,_,_,_⟩::_) _ _;refine qe rfl (.tmp 11) (.tmp 16) 22 22 rfl rfl rfl hr ?_);go_roundw
   case rel=>
    refine ⟨k + 1,by omega,by go_num,?_,?_,?_,?_⟩
    ·exact (hB.grown hg hws (fun r e=> (hown.lt r e).1))
    ·have:=hg.size;omega
    ·rw [htk.out];exact ho'
    ·rw [htk.out];exact hz'
   case measure=> simp [intOf];omega
  ·obtain rfl:k=js.length:=by omega
   rw [List.take_length] at hown hsz;go_wp2;go_ret;exact ⟨_,rfl,⟨xN hown (Nat.zero_le _),hsz⟩,hB⟩
theorem strs_drop {w:World} {g co k:Nat} {out:List ByteArray} (hg:g < w.heap.size) (hc:zbw w g 0 out) (hz:∀s∈out,s.size<=maxLen) (hk:k<=out.length) (hl:out.length<=1000):zx w.heap.size w (.slice (some ⟨g,k,none⟩) (out.length - k) (co - k)) (out.drop k):=by
 refine ⟨_,_,by rw [List.length_drop],by rw [List.length_drop];omega,fun s hs=> hz s (List.mem_of_mem_drop hs),(by simp), .inr ⟨g,k,rfl,hg,fun j hj=> ?_⟩⟩;rw [List.length_drop] at hj;have:=hc (k + j) (by omega);rw [Nat.zero_add] at this;rw [this];simp
theorem strs_take {w:World} {g co k:Nat} {out:List ByteArray} (hg:g < w.heap.size) (hc:zbw w g 0 out) (hz:∀s∈out,s.size<=maxLen) (hk:k<=out.length) (hl:out.length<=1000):zx w.heap.size w (.slice (some ⟨g,0,none⟩) k co) (out.take k):=by
 have e:(out.take k).length=k:=by rw [List.length_take];omega
 refine ⟨_,_,by rw [e],by rw [e];omega,fun s hs=> hz s (List.mem_of_mem_take hs),(by simp), .inr ⟨g,0,rfl,hg,fun j hj=> ?_⟩⟩;rw [e] at hj;have:=hc j (by omega);rw [this];simp
theorem put_tail (w:World) (s:ByteArray) (vd vt:Value) (ld lt:List ByteArray) (hd:zx w.heap.size w vd ld) (ht:zx w.heap.size w vt lt) (hz:s.size<=maxLen) (l1:ld.length<=1000) (l2:lt.length<=1000):
  ∃r1 w2 r2 w4 r3 w5,(Builtin.append_ #[22,22] 22 #[.slice (some ⟨w.heap.size,0,none⟩) 1 1,vd]).run Tryz.prog (w.alloc (.cells #[.string s] 9))= .ok r1 w2/\
   (Builtin.append_ #[22,22] 22 #[.slice (some ⟨w2.heap.size,0,none⟩) 0 0,vt]).run Tryz.prog (w2.alloc (.cells #[] 9))= .ok r2 w4/\
   (Builtin.append_ #[22,22] 22 #[r2,r1]).run Tryz.prog w4= .ok r3 w5/\yE w5 r3 (lt ++ s::ld)/\Below w.heap.size w w5:=by
 have b1:Below w.heap.size w (w.alloc (.cells #[.string s] 9)):=ZQ w _;have z1:(w.alloc (.cells #[.string s] 9)).heap.size=w.heap.size + 1:=by simp
 have f1:=zfT w [s] (by simp);rw [show (zn [s]).toArray=#[.string s] from rfl] at f1;obtain ⟨r1,w2,hr1,ho1,hz1,hg1⟩:=yQ 22 f1 (hd.later b1) (by rw [z1];omega) (by simp) (by omega) (by simpa using hz);have b2:Below w.heap.size w w2:=b1.grown hg1 (by rw [z1];omega) (fun r e=> by have:=ZJ e;simp only at this;omega);have z2:=hg1.size;have b3:Below w2.heap.size w2 (w2.alloc (.cells #[] 9)):=ZQ w2 _;have z3:(w2.alloc (.cells #[] 9)).heap.size=w2.heap.size + 1:=by simp
 have f2:=zfT w2 [] (by simp);rw [show (zn []).toArray=#[] from rfl] at f2;have b23:=b2.trans (b3.mono b2.size);obtain ⟨r2,w4,hr2,ho2,hz2,hg2⟩:=yQ 22 f2 (ht.later b23) (by rw [z3];omega) (by simp) (by omega) (by simp);rw [List.nil_append] at ho2 hz2;have b4':Below w2.heap.size w2 w4:=b3.grown hg2 (by rw [z3];omega) (fun r e=> by have:=ZJ e;simp only at this;omega);have s1:=(qM ho1 hz1).later b4';have z4:=hg2.size;obtain ⟨r3,w5,hr3,ho3,hz3,hg3⟩:=yQ 22 ho2 s1 (by omega) (by omega) (by simp;omega) hz2;have b5:Below w.heap.size w w5:=(b2.trans (b4'.mono b2.size)).grown hg3 (by have:=b2.size;have:=b4'.size;omega) (fun r e=> by have:=(ho2.lt r e).1;have:=b2.size;omega);exact ⟨r1,w2,r2,w4,r3,w5,hr1,hr2,hr3,⟨xN ho3 (Nat.zero_le _),hz3⟩,b5⟩
theorem put_mem {out bound:List ByteArray} {s:ByteArray} {k:Nat} (hnb:zb s ∉ bound.map zb) (x:List UInt8):x∈(out.take k ++ s::out.drop k).map zb↔x∈out.map zb∨(x=zb s/\x ∉ bound.map zb):=by
 have e:x∈out.map zb↔x∈(out.take k).map zb∨x∈(out.drop k).map zb:=by
  rw [<-List.mem_append,<-List.map_append,List.take_append_drop]
 rw [e,List.map_append,List.map_cons,List.mem_append,List.mem_cons];constructor
 ·rintro (h | h | h)
  ·exact .inl (.inl h)
  ·subst h;exact .inr ⟨rfl,hnb⟩
  ·exact .inl (.inr h)
 ·rintro ((h | h) | ⟨h,_⟩)
  ·exact .inl h
  ·exact .inr (.inr h)
  ·exact .inr (.inl h)
theorem put_ref (v vb:Value) (out bound:List ByteArray) (s:ByteArray) (w:World) (ho:yE w v out) (hb:zx w.heap.size w vb bound) (hz:s.size<=maxLen) (hs:Srt out) (hl:out.length<=1000):
  Calls Tryz.prog 143 #[v,vb, .string s] w (zkz out (fun k=> k=zb s/\k ∉ bound.map zb) 1 w):=by
 obtain ⟨F,hFe⟩:∃F:List UInt8->Prop,F=fun k=> k=zb s/\k ∉ bound.map zb:=⟨_,rfl⟩;rw [<-hFe];have hh1:=zay _ vb bound s w hb;have hh2:=zay _ v out s w ho.strs
 have DONE:(hasB bound s=true∨hasB out s=true)->zkz out F 1 w (.returned v) w:=fun h=> by
  rw [hFe];exact
  ⟨v,out,rfl,ho,hs,fun k=> ⟨.inl,fun h2=> by
   rcases h2 with h2 | ⟨rfl,h2⟩
   ·exact h2
   ·rcases h with h | h
    ·exact absurd (mem_has.1 h) h2
    ·exact mem_has.1 h⟩,by omega,ZF _ _⟩
 have HD:=ZH DONE;have HFE:=ZH hFe;clear DONE hFe;cases hb1:hasB bound s with
 | true=>
  have HF:=ZH (HD.out (.inl hb1));rw [hb1] at hh1;clear hb1 HD hh2;obtain ⟨ab,cb,rfl,_⟩:=hb;obtain ⟨ao,co,rfl,_⟩:=ho.strs;go_enter Tryz.func143,Tryz.ntmps143;go_wp2_with (go_at_call 36;refine hh1.mono ?_;clear hh1;rintro e w1 ⟨rfl,hw1⟩;obtain rfl:=hw1.symm);go_ret;exact HF.out
 | false=>
 cases hb2:hasB out s with
 | true=>
  have HF:=ZH (HD.out (.inr hb2));rw [hb1] at hh1;rw [hb2] at hh2;clear hb1 hb2 HD;obtain ⟨ab,cb,rfl,_⟩:=hb;obtain ⟨ao,co,rfl,_⟩:=ho.strs;go_enter Tryz.func143,Tryz.ntmps143
  go_wp2_with (first
   | (go_at_call 36;refine hh1.mono ?_;clear hh1;rintro e w1 ⟨rfl,hw1⟩;obtain rfl:=hw1.symm)
   | (go_at_call 36;refine hh2.mono ?_;clear hh2;rintro e w2 ⟨rfl,hw2⟩;obtain rfl:=hw2.symm))
  go_ret;exact HF.out
 | false=>
 rw [hb1] at hh1;rw [hb2] at hh2;have hnb:zb s ∉ bound.map zb:=fun h=> by rw [mem_has.2 h] at hb1;cases hb1
 have hno:zb s ∉ out.map zb:=fun h=> by rw [mem_has.2 h] at hb2;cases hb2
 have HNB:=ZH hnb;have HNO:=ZH hno;have HS:=ZH hs;clear hb1 hb2 HD hnb hno hs;have hst:=ho.strs;have HO:=ZH ho;obtain ⟨hol,hoc⟩:=ho.own;have hzo:=ho.sz;obtain ⟨ab,cb,rfl,_⟩:=hb;clear ho
 have hcase:∃ao co,v= .slice ao out.length co/\out.length<=co/\co<=maxLen/\(out.length=0/\ao=none/\co=0∨∃g,ao=some ⟨g,0,none⟩/\g < w.heap.size/\zbw w g 0 out):=by
  obtain ⟨a2,c2,e2,_,_,hn2,hcl⟩:=hst;rcases hoc with ⟨rfl,h0⟩ | ⟨g,cap,cur,rfl,_,hg,h1,h2,_⟩
  ·exact ⟨none,0,by rw [h0],by omega,by omega, .inl ⟨h0,rfl,rfl⟩⟩
  ·injection e2 with e3 e4 e5
   refine ⟨_,cap,rfl,h1,h2, .inr ⟨g,rfl,(ZG hg).1,?_⟩⟩;rcases hcl with h | ⟨b,off,h,_,hc⟩
   ·subst h;intro j hj;simp at hj
   ·rw [h] at e3;cases e3;exact hc
 obtain ⟨ao,co,rfl,hco,hcm,hcs⟩:=hcase;clear hoc hst hol;go_enter Tryz.func143,Tryz.ntmps143
 go_wp2_with (first
  | (go_at_call 36;refine hh1.mono ?_;clear hh1;rintro e w1 ⟨rfl,hw1⟩;obtain rfl:=hw1.symm)
  | (go_at_call 36;refine hh2.mono ?_;clear hh2;rintro e w2 ⟨rfl,hw2⟩;obtain rfl:=hw2.symm))
 go_loopw [7] (fun i wr=> ∃(k:Nat),k<=out.length/\i= .int .i64 k/\Hid (wr=w)/\Hid (∀x∈out.take k,zb x < zb s)) (fun i _=> out.length - (intOf i).toNat)
 case atStart=> exact ⟨0,by omega,rfl,ZH rfl,ZH (by simp)⟩
 case round=>
  obtain ⟨k,hk',rfl,hw,hlt⟩:=hrel;obtain rfl:=hw.out.symm;by_cases hgo:∃h:k < out.length,zb out[k] < zb s
  ·obtain ⟨hkl,hbl⟩:=hgo
   obtain ⟨_,rfl,rfl⟩ | ⟨g,rfl,hg,hc⟩:=hcs
   ·omega
   have hcell:=hc k hkl;rw [Nat.zero_add] at hcell;have hbl2:Op.bytesLess (out[k]).toList s.toList=true:=by rw [bl_dec];simpa using hbl
   have HT:=ZH (show ∀x∈out.take (k + 1),zb x < zb s by
    intro x hx;rw [ZT hkl,List.mem_append] at hx;rcases hx with hx | hx
    ·exact hlt.out x hx
    ·simp at hx;subst hx;exact hbl)
   obtain ⟨x,hx⟩:∃x,x=out[k]:=⟨_,rfl⟩;rw [<-hx] at hcell hbl2;clear hx hbl;go_wp2;go_roundw
   case rel=> exact ⟨k + 1,by omega,by go_num,(by first | exact ZH rfl | exact ZH trivial),HT⟩
   case measure=> simp [intOf];omega
  ·have HG:=ZH (show ∀hk:k < out.length,¬zb out[k] < zb s from fun h h2=> hgo ⟨h,h2⟩)
   clear hgo
   have FIN:∀w5 r3,yE w5 r3 (out.take k ++ s::out.drop k)->Below w.heap.size w w5->zkz out F 1 w (.returned r3) w5:=fun w5 r3 h1 h2=> by
    rw [HFE.out];exact ⟨r3,_,rfl,h1,srt_insert HS.out hk' hlt.out HG.out HNO.out,put_mem HNB.out,by simp;omega,h2⟩
   have HFIN:=ZH FIN;clear FIN;by_cases hkl:k < out.length
   ·obtain ⟨_,rfl,rfl⟩ | ⟨g,rfl,hg,hc⟩:=hcs
    ·omega
    have hcell:=hc k hkl;rw [Nat.zero_add] at hcell;have hbl2:Op.bytesLess (out[k]).toList s.toList=false:=by rw [bl_dec];simpa using HG.out hkl
    obtain ⟨r1,w2,r2,w4,r3,w5,hr1,hr2,hr3,ho5,hb5⟩:=put_tail w s _ _ _ _ (strs_drop (co:=co) hg hc hzo hk' hl) (strs_take (co:=co) hg hc hzo hk' hl) hz (by simp;omega) (by simp;omega);have HF:=ZH (HFIN.out _ _ ho5 hb5);obtain ⟨x,hx⟩:∃x,x=out[k]:=⟨_,rfl⟩;rw [<-hx] at hcell hbl2;clear hx ho5 hb5 HFIN HS HG HNO HNB
    go_wp2_with (first
     | (show wpList _ _ _ (⟨some 37,_,_,_,_,_⟩::_) _ _;refine qe rfl (.tmp 33) (.tmp 36) 22 22 rfl rfl rfl hr1 ?_)
     | (show wpList _ _ _ (⟨some 42,_,_,_,_,_⟩::_) _ _;refine qe rfl (.tmp 38) (.tmp 41) 22 22 rfl rfl rfl hr2 ?_)
     | (show wpList _ _ _ (⟨some 44,_,_,_,_,_⟩::_) _ _;refine qe rfl (.tmp 42) (.tmp 43) 22 22 rfl rfl rfl hr3 ?_))
    go_ret;exact HF.out
   ·obtain rfl:k=out.length:=by omega
    obtain ⟨h0,rfl,rfl⟩ | ⟨g,rfl,hg,hc⟩:=hcs
    ·obtain ⟨r1,w2,r2,w4,r3,w5,hr1,hr2,hr3,ho5,hb5⟩:=put_tail w s (.slice none 0 0) (.slice none 0 0) (out.drop out.length) (out.take out.length) (by rw [List.drop_length];exact zx.nil _ _) (by rw [List.take_length,List.eq_nil_of_length_eq_zero h0];exact zx.nil _ _) hz (by simp) (by simp;omega)
     have HF:=ZH (HFIN.out _ _ ho5 hb5);clear ho5 hb5 HFIN HS HG HNO HNB;rw [h0]
     go_wp2_with (first
      | (show wpList _ _ _ (⟨some 37,_,_,_,_,_⟩::_) _ _;refine qe rfl (.tmp 33) (.tmp 36) 22 22 rfl rfl rfl hr1 ?_)
      | (show wpList _ _ _ (⟨some 42,_,_,_,_,_⟩::_) _ _;refine qe rfl (.tmp 38) (.tmp 41) 22 22 rfl rfl rfl hr2 ?_)
      | (show wpList _ _ _ (⟨some 44,_,_,_,_,_⟩::_) _ _;refine qe rfl (.tmp 42) (.tmp 43) 22 22 rfl rfl rfl hr3 ?_))
     go_ret;exact HF.out
    ·have hdn:out.drop out.length= []:=List.drop_length
     have htn:=strs_take (co:=co) hg hc hzo hk' hl;by_cases hce:co=out.length
     ·obtain ⟨r1,w2,r2,w4,r3,w5,hr1,hr2,hr3,ho5,hb5⟩:=put_tail w s (.slice (some ⟨g,0,none⟩) 0 0) _ (out.drop out.length) _ (by rw [hdn];exact ⟨_,_,rfl,by simp,by simp,by simp, .inl rfl⟩) htn hz (by simp) (by simp;omega)
      have HF:=ZH (HFIN.out _ _ ho5 hb5);clear ho5 hb5 HFIN HS HG HNO HNB htn hdn;subst hce;go_wp2_with (first
      | (show wpList _ _ _ (⟨some 37,_,_,_,_,_⟩::_) _ _;refine qe rfl (.tmp 33) (.tmp 36) 22 22 rfl rfl rfl hr1 ?_)
      | (show wpList _ _ _ (⟨some 42,_,_,_,_,_⟩::_) _ _;refine qe rfl (.tmp 38) (.tmp 41) 22 22 rfl rfl rfl hr2 ?_)
      | (show wpList _ _ _ (⟨some 44,_,_,_,_,_⟩::_) _ _;refine qe rfl (.tmp 42) (.tmp 43) 22 22 rfl rfl rfl hr3 ?_))
      go_ret;exact HF.out
     ·by_cases hl0:out.length=0
      ·have h00:out= []:=List.eq_nil_of_length_eq_zero hl0
       subst h00;obtain ⟨r1,w2,r2,w4,r3,w5,hr1,hr2,hr3,ho5,hb5⟩:=put_tail w s (.slice (some ⟨g,0,none⟩) 0 co) (.slice (some ⟨g,0,none⟩) 0 co) [] [] ⟨_,_,rfl,by simp,by simp,by simp, .inl rfl⟩ ⟨_,_,rfl,by simp,by simp,by simp, .inl rfl⟩ hz (by simp) (by simp);have HF:=ZH (HFIN.out _ _ ho5 hb5);clear ho5 hb5 HFIN HS HG HNO HNB htn hdn hl0 hlt hl hk';go_wp2_with (first
      | (show wpList _ _ _ (⟨some 37,_,_,_,_,_⟩::_) _ _;refine qe rfl (.tmp 33) (.tmp 36) 22 22 rfl rfl rfl hr1 ?_)
      | (show wpList _ _ _ (⟨some 42,_,_,_,_,_⟩::_) _ _;refine qe rfl (.tmp 38) (.tmp 41) 22 22 rfl rfl rfl hr2 ?_)
      | (show wpList _ _ _ (⟨some 44,_,_,_,_,_⟩::_) _ _;refine qe rfl (.tmp 42) (.tmp 43) 22 22 rfl rfl rfl hr3 ?_))
       go_ret;exact HF.out
      ·obtain ⟨r1,w2,r2,w4,r3,w5,hr1,hr2,hr3,ho5,hb5⟩:=put_tail w s (.slice (some ⟨g,out.length,none⟩) 0 (co - out.length)) _ (out.drop out.length) _ (by rw [hdn];exact ⟨_,_,rfl,by simp,by simp,by simp, .inl rfl⟩) htn hz (by simp) (by simp;omega)
       have HF:=ZH (HFIN.out _ _ ho5 hb5);clear ho5 hb5 HFIN HS HG HNO HNB htn hdn;go_wp2_with (first
      | (show wpList _ _ _ (⟨some 37,_,_,_,_,_⟩::_) _ _;refine qe rfl (.tmp 33) (.tmp 36) 22 22 rfl rfl rfl hr1 ?_)
      | (show wpList _ _ _ (⟨some 42,_,_,_,_,_⟩::_) _ _;refine qe rfl (.tmp 38) (.tmp 41) 22 22 rfl rfl rfl hr2 ?_)
      | (show wpList _ _ _ (⟨some 44,_,_,_,_,_⟩::_) _ _;refine qe rfl (.tmp 42) (.tmp 43) 22 22 rfl rfl rfl hr3 ?_))
       go_ret;exact HF.out
def fFn:Part->Nat
 | .proc _=> 121
 | .exp _=> 91
 | .def_ _=> 163
def fset (s:Nat) (bound:List ByteArray) (p:Part):List UInt8->Prop:=fun k=> qE s p k=true/\k ∉ bound.map zb
def FAt (s:Nat):Prop:=∀(p:Part),p.size<=s->p.size<=60->jS p=true->yY p=true->∀(B:Nat) (u w:World) (cs:List Value) (v vb:Value) (out bound:List ByteArray),zh B u w->B<=w.heap.size->zkr B u cs p->
 yE w v out->zx w.heap.size w vb bound->Srt out->out.length + p.size<=900->bound.length + 300 * p.size<=30000->
 Calls Tryz.prog (fFn p) #[v,vb, .agg cs.toArray] w (zkz out (fset s bound p) p.size w)
def Gath (s:Nat) (out bound:List ByteArray) (n0:Nat) (F0:List UInt8->Prop) (qs:List Part) (v:Value) (wr:World):Prop:=
 ∃out',yE wr v out'/\Srt out'/\(∀x,x∈out'.map zb↔x∈out.map zb∨F0 x∨(qs.any (fun q=> qE s q x)=true/\x ∉ bound.map zb))/\out'.length<=out.length + n0 + sz qs
theorem Gath.nil {s:Nat} {out bound:List ByteArray} {v:Value} {w:World} (h:yE w v out) (hs:Srt out):Gath s out bound 0 (fun _=> False) [] v w:=⟨out,h,hs,by simp,by simp⟩
theorem Gath.put {s:Nat} {out bound:List ByteArray} {F:List UInt8->Prop} {w:World} {e:Ending} {w':World} (h:zkz out F 1 w e w'):∃v,e= .returned v/\Gath s out bound 1 F [] v w'/\Below w.heap.size w w':=by
 obtain ⟨v,out',rfl,h1,h2,h3,h4,h5⟩:=h;exact ⟨v,rfl,⟨out',h1,h2,by intro x;rw [h3];simp,by omega⟩,h5⟩
theorem Gath.later {s:Nat} {out bound:List ByteArray} {n0:Nat} {F0:List UInt8->Prop} {qs:List Part} {v:Value} {w w':World} (h:Gath s out bound n0 F0 qs v w) (g:Below w.heap.size w w'):Gath s out bound n0 F0 qs v w':=by
 obtain ⟨out',h1,h2⟩:=h;exact ⟨out',h1.later g,h2⟩
theorem Gath.step {s:Nat} {out bound:List ByteArray} {n0:Nat} {F0:List UInt8->Prop} {qs:List Part} {out':List ByteArray} {q:Part} {w:World} {e:Ending} {w':World}
  (h:∀x,x∈out'.map zb↔x∈out.map zb∨F0 x∨(qs.any (fun q=> qE s q x)=true/\x ∉ bound.map zb)) (hl:out'.length<=out.length + n0 + sz qs) (k:zkz out' (fset s bound q) q.size w e w'):
  ∃v,e= .returned v/\Gath s out bound n0 F0 (qs ++ [q]) v w'/\Below w.heap.size w w':=by
 obtain ⟨v,o2,rfl,h1,h2,h3,h4,h5⟩:=k;refine ⟨v,rfl,⟨o2,h1,h2,fun x=> ?_,?_⟩,h5⟩
 ·rw [h3,h,List.any_append,Bool.or_eq_true,fset]
  simp only [List.any_cons,List.any_nil,Bool.or_false];constructor
  ·rintro ((a | b | ⟨c,d⟩) | ⟨a,b⟩)
   ·exact .inl a
   ·exact .inr (.inl b)
   ·exact .inr (.inr ⟨.inl c,d⟩)
   ·exact .inr (.inr ⟨.inr a,b⟩)
  ·rintro (a | b | ⟨c | c,d⟩)
   ·exact .inl (.inl a)
   ·exact .inl (.inr (.inl b))
   ·exact .inl (.inr (.inr ⟨c,d⟩))
   ·exact .inr ⟨c,d⟩
 ·rw [qB,zcf];omega
theorem agAll_parts {p:Part} (h:yY p=true):∀q∈p.parts,yY q=true:=by
 rw [zeb,Bool.and_eq_true] at h;intro q hq;exact List.all_eq_true.1 h.2 q hq
theorem allSh_parts {p:Part} (h:jS p=true):∀q∈p.parts,jS q=true:=by
 rw [zcG,Bool.and_eq_true] at h;intro q hq;exact List.all_eq_true.1 h.2 q hq
theorem bytes_nil (t:ByteArray) (h:zb t= []):t.size=0:=by
 have:=congrArg List.length h;simp only [zb,List.length_nil,Array.length_toList] at this;exact this
theorem name_ne {t:ByteArray} (h:qn t=true):(zb t).isEmpty=false:=by
 cases hh:zb t with
 | nil=>
  have e:=xd (bytes_nil t hh);subst e;have:qn ByteArray.empty=false:=by kernel_rfl
  rw [this] at h;cases h
 | cons a l=> rfl
theorem bytes_empty {t:ByteArray} (h:t.size=0):(zb t).isEmpty=true:=by rw [xd h];rfl
theorem f_exp (s:Nat) (ih:FAt s) (op n:Int) (text:ByteArray) (kids:List Exp) (hs:(Part.exp (.mk op n text kids)).size<=s + 1) (h60:(Part.exp (.mk op n text kids)).size<=60) (hsh:jS (.exp (.mk op n text kids))=true)
  (B:Nat) (u w:World) (cs:List Value) (v vb:Value) (out bound:List ByteArray) (hu:zh B u w) (hBl:B<=w.heap.size) (hv:zy B u cs (.mk op n text kids)) (ho:yE w v out) (hb:zx w.heap.size w vb bound) (hs0:Srt out)
  (hl:out.length + (Part.exp (.mk op n text kids)).size<=900) (hbl:bound.length + 300 * (Part.exp (.mk op n text kids)).size<=30000):
  Calls Tryz.prog 91 #[v,vb, .agg cs.toArray] w (zkz out (fset (s + 1) bound (.exp (.mk op n text kids))) (Part.exp (.mk op n text kids)).size w):=by
 unfold zy at hv;obtain ⟨hz,_,rfl,⟨a0,p0,rfl,l0,h0⟩⟩:=hv;have hss:=yV (Part.exp (.mk op n text kids));simp only [Part.parts] at hss;have hkl:=xp Part.exp kids;have hshk:=allSh_parts hsh;rw [zcG,Bool.and_eq_true] at hsh;have hsp:=hsh.1;clear hsh;simp only [Part.shaped,j8,Bool.or_eq_true,Bool.and_eq_true,beq_iff_eq,decide_eq_true_eq] at hsp;obtain ⟨F,hF⟩:∃F,F=fset (s + 1) bound (.exp (.mk op n text kids)):=⟨_,rfl⟩;obtain ⟨N,hN⟩:∃N,N=(Part.exp (.mk op n text kids)).size:=⟨_,rfl⟩;rw [<-hF,<-hN];rw [<-hN] at hs h60 hl hbl hss;obtain ⟨W1,hW1⟩:∃W1,W1=w.alloc (.cells #[.int .i64 op, .int .i64 n, .string text, .slice a0 kids.length p0] 36):=⟨_,rfl⟩;have z1:W1.heap.size=w.heap.size + 1:=by rw [hW1];simp
 have b1:Below w.heap.size w W1:=by rw [hW1];exact ZQ w _
 have hbox:∀W,Below W1.heap.size W1 W->W.cell? ⟨w.heap.size,3,none⟩=some (.slice a0 kids.length p0):=fun W hW=> by
  rw [hW.cell (p:=⟨w.heap.size,3,none⟩) (by simp;omega),hW1,ZA _ _ _ _ rfl];rfl
 by_cases ho2:op=2
 ·have hk0:kids= []/\qn text=true:=by
   rcases hsp with (⟨⟨⟨⟨h,_⟩,_⟩,_⟩,_⟩ | ⟨⟨⟨_,_⟩,h1⟩,h2⟩) | ⟨⟨⟨⟨h,_⟩,_⟩,_⟩,_⟩
   ·omega
   ·exact ⟨List.eq_nil_of_length_eq_zero h2,h1⟩
   ·omega
  obtain ⟨rfl,hnm⟩:=hk0;have hne:=name_ne hnm
  have hFF:F=fun k=> k=zb text/\k ∉ bound.map zb:=by
   rw [hF];funext k;simp [fset,qE,Part.parts,zR,yA,hne]
  have hpr:=put_ref v vb out bound text W1 (ho.later b1) (hb.later b1) hz hs0 (by omega);rw [<-hFF] at hpr;have hN1:1<=N:=by omega
  subst ho2;have HW:=ZH (show W1=w.alloc (.cells #[.int .i64 2, .int .i64 n, .string text, .slice a0 0 p0] 36) from hW1);have HB:=ZH (show ∀W,Below W1.heap.size W1 W->W.cell? ⟨w.heap.size,3,none⟩=some (.slice a0 0 p0) from hbox);have hbx1:=HB.out W1 (ZF _ _);rw [HW.out] at hbx1;obtain ⟨ab,cb,rfl,_⟩:=hb;obtain ⟨ao,co,rfl,_⟩:=ho.strs;clear hFF hW1 hbox hsp hshk hF hN ih ho hnm hne h0;go_enter Tryz.func91,Tryz.ntmps91;go_wp2_with (go_at_call 143;rw [<-HW.out];refine hpr.mono ?_;clear hpr;rintro e w2 ⟨v2,o2,rfl,q1,q2,q3,q4,q5⟩;have hbx2:=HB.out w2 q5);refine wp_loop_rounds 1 ?_;rw [rounds_succ];go_wp2;go_ret;exact ⟨v2,o2,rfl,q1,q2,q3,by omega,b1.trans (q5.mono (by omega))⟩
 ·have hte:text.size=0:=by
   rcases hsp with (⟨⟨⟨⟨_,_⟩,_⟩,h⟩,_⟩ | ⟨⟨⟨h,_⟩,h1⟩,h2⟩) | ⟨⟨⟨⟨_,_⟩,_⟩,h⟩,_⟩
   ·exact h
   ·exact absurd h ho2
   ·exact h
  have hFF:∀k,F k↔((kids.map Part.exp).any (fun q=> qE s q k)=true/\k ∉ bound.map zb):=by
   intro k;rw [hF];simp [fset,qE,Part.parts,zR,yA,bytes_empty hte]
  have hcall:=fun k (hk:k < kids.length) (cs:List Value) (W:World) (vo:Value) (o2:List ByteArray) (h1:zh B u W) (h2:B<=W.heap.size) (h3:zy B u cs kids[k]) (h4:yE W vo o2) (h5:zx W.heap.size W vb bound) (h6:Srt o2) (h7:o2.length<=out.length + 0 + sz ((kids.take k).map Part.exp))=>
   ih (.exp kids[k]) (by have:=yU Part.exp hk;omega) (by have:=yU Part.exp hk;omega) (hshk _ (List.mem_map.2 ⟨_,ZM hk,rfl⟩)) (zjL _) B u W cs vo vb o2 bound h1 h2 h3 h4 h5 h6 (by have:=zaz Part.exp kids k hk;have:=j9 Part.exp kids (k + 1);omega) (by have:=yU Part.exp hk;omega)
  have hG0:Gath s out bound 0 (fun _=> False) [] v W1:=(Gath.nil ho hs0).later b1;have HC:=ZH hcall;have HFF:=ZH hFF;have HW:=ZH hW1;have HB:=ZH hbox;have HG0:=ZH hG0;have hbs:=hb;have HBS:=ZH hbs;obtain ⟨ab,cb,rfl,_⟩:=hb;obtain ⟨ao,co,rfl,_⟩:=ho.strs;clear hcall hFF hW1 hbox hG0 hbs hsp hshk hF hN ih ho;have hbx1:=HB.out W1 (ZF _ _);rw [HW.out] at hbx1;have ho2':(op==2)=false:=by simpa using ho2
  have hb0:Below W1.heap.size W1 W1:=ZF _ _;clear hbx1;have hbx1:=HB.out W1 (ZF _ _);rw [HW.out] at hbx1;go_enter Tryz.func91,Tryz.ntmps91;go_wp2;rw [<-HW.out]
  go_loopw [0,7] (fun vo i wr=> ∃(k:Nat),k<=kids.length/\i= .int .i64 k/\Hid (Gath s out bound 0 (fun _=> False) ((kids.take k).map .exp) vo wr)/\Below W1.heap.size W1 wr) (fun _ i _=> kids.length - (intOf i).toNat)
  case atStart=> exact ⟨0,by omega,rfl,HG0,hb0⟩
  case round=>
   obtain ⟨k,hk',rfl,hm,hB⟩:=hrel;have hBw:=b1.trans (hB.mono (by omega));have hBz:=hBw.size;have hbox:=HB.out _ hB;by_cases hlt:k < kids.length
   ·rcases h0 with h00 | ⟨bb,off,rfl,hbb,hk⟩
    ·omega
    obtain ⟨cs,hcs,hexp⟩:=hk.get kids bb off k hlt;obtain ⟨o2,g1,g2,g3,g4⟩:=hm.out;have hih:=HC.out k hlt cs wr _ o2 (hu.trans ((Below.keptC hBw).mono hBl)) (by omega) hexp g1 (HBS.out.later hBw) g2 g4;obtain ⟨e0,he0⟩:∃e,e=kids[k]:=⟨_,rfl⟩
    have htk:(kids.take (k + 1)).map Part.exp=((kids.take k).map Part.exp) ++ [Part.exp e0]:=by
     rw [ZT hlt,List.map_append,he0];simp
    rw [<-he0] at hexp hih;have hih2:=hih.mono (fun e w2 hq=> Gath.step g3 g4 hq);rw [<-htk] at hih2;have HK:∀e w2,(∃v,e=Ending.returned v/\Gath s out bound 0 (fun _=> False) ((kids.take (k + 1)).map Part.exp) v w2/\Below wr.heap.size wr w2)->∃v,e=Ending.returned v/\Hid (Gath s out bound 0 (fun _=> False) ((kids.take (k + 1)).map Part.exp) v w2)/\Below wr.heap.size wr w2:=fun e w2 ⟨v,h1,h2,h3⟩=> ⟨v,h1,ZH h2,h3⟩;have hih3:=hih2.mono HK;obtain ⟨oa,oc,rfl,_⟩:=g1.strs;clear hih hih2 HK he0 htk g1 g2 g3 g4;obtain ⟨oo,no,to,ko⟩:=e0;unfold zy at hexp;obtain ⟨_,_,rfl,x0,y0,rfl,_⟩:=hexp;obtain ⟨c0,c1,c2,c3⟩:=jd ((hcs.keep hu hbb).below hBw (by omega));clear hcs hk;go_wp2_with (go_at_call 91;refine hih3.mono ?_;clear hih3;rintro e w2 ⟨v2,rfl,HG2,hb2⟩);go_roundw
    case rel=> exact ⟨k + 1,by omega,by go_num,HG2,hB.trans (hb2.mono hB.size)⟩
    case measure=> simp [intOf];omega
   ·obtain rfl:k=kids.length:=by omega
    obtain ⟨o2,g1,g2,g3,g4⟩:=hm.out;rw [List.take_length] at g3 g4;have HFIN:=ZH (show zkz out F N w (.returned _) wr from ⟨_,o2,rfl,g1,g2,fun x=> by rw [g3,HFF.out];simp,by omega,hBw⟩);clear g1 g2 g3 g4;go_wp2;go_ret;exact HFIN.out
end
section
open Go.RowKit Go.Shelf Go.Maps
def zaM (U:List UInt8->Int×Int) (A sb X:Nat) (ch pl:List ByteArray) (bad:Bool) (W:World):Prop:=∃vch vm va vp,Seen A sb X ch pl vch vm va vp bad (yi U ch) (atL U ch) W

structure LkB (U:List UInt8->Int×Int) (n0 xb:Nat) (gs:List (List zg)) (pl:List ByteArray) (w w2:World) (i j l:Nat) (bad:Bool) (W:World):Prop where
 seen:zaM U (n0 + 1) n0 xb (qp [] (qP gs i j l)) pl bad W
 below:Below n0 w W
 row:W.heap[xb]?=w2.heap[xb]?
 lt:xb < W.heap.size
end
section
open Go.RowKit
theorem zhG {d:List zg} (h:jJ (d.map .def_)=true):(zl (zm d)).length<=3 * zZ d:=by
 refine zg8 d (fun q hq=> zkC ?_);rw [j6] at hq;obtain ⟨p,hp,hqp⟩:=List.mem_flatMap.1 hq;unfold jJ at h;rw [List.all_eq_true] at h;have h2:=h p hp;unfold jS at h2;rw [List.all_eq_true] at h2;exact h2 q hqp
theorem zmc (d:List zg):zZ d=sz (d.map .def_):=by rw [zZ,j6];rfl
end
end Go.Proofs.YtjmlaeofjjhfmaaGreat
