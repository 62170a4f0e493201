/- Lemmas. -/
import Derived.Test.YtjmlaeofjjhfmaaGreatS29
import Derived.Test.YtjmlaeofjjhfmaaGreatS08
import Derived.Test.YtjmlaeofjjhfmaaGreatS28
set_option linter.unusedVariables false
set_option linter.unusedSimpArgs false
set_option maxRecDepth 10000
set_option maxHeartbeats 16000000
namespace Go.Proofs.YtjmlaeofjjhfmaaGreat
section
open Go.RowKit
def shT (op:Int) (text:ByteArray) (la ld lk:Nat):Bool:=(((op==1 || op==7) && text.size==0 && la==0 && ld==0 && lk==0) ||
  (op==2 && qn text && decide (la<=3) && ld==0 && lk==0) ||
  (op==3 && text.size==0 && la==0 && ld==0 && lk==2) ||
  (op==4 && text.size==0 && la==0 && decide (1<=ld) && decide (ld<=5) && lk==1) ||
  (op==5 && text.size==0 && la==1 && ld==0 && lk==2) ||
  ((op==6 || op==8) && qn text && la==0 && ld==0 && lk==1))
theorem znf {text:ByteArray} (h:rOne text true=true):qn text=true:=by simpa [rOne] using h
theorem znb {text:ByteArray} (h:rOne text false=true):text.size=0:=by simpa [rOne] using h
theorem znE {op:Int} {text:ByteArray} {la ld lk:Nat} (hS:shT op text la ld lk=false) (ho:rOne text false=true)
  (h:(op=1∨op=7)/\la=0/\ld=0/\lk=0∨op=3/\la=0/\ld=0/\lk=2∨op=4/\la=0/\1<=ld/\ld<=5/\lk=1∨op=5/\la=1/\ld=0/\lk=2):False:=by
 have e:=znb ho;rw [Bool.eq_false_iff] at hS;apply hS;unfold shT;rcases h with ⟨rfl | rfl,rfl,rfl,rfl⟩ | ⟨rfl,rfl,rfl,rfl⟩ | ⟨rfl,rfl,h1,h2,rfl⟩ | ⟨rfl,rfl,rfl,rfl⟩ <;> simp_all
theorem znB {op:Int} {text:ByteArray} {la ld lk:Nat} (hS:shT op text la ld lk=false) (ho:rOne text true=true)
  (h:op=2/\la<=3/\ld=0/\lk=0∨(op=6∨op=8)/\la=0/\ld=0/\lk=1):False:=by
 have e:=znf ho;rw [Bool.eq_false_iff] at hS;apply hS;unfold shT;rcases h with ⟨rfl,h1,rfl,rfl⟩ | ⟨rfl | rfl,rfl,rfl,rfl⟩ <;> simp_all
theorem zjc {a:Int} (h1:5 < a) (h:(!decide (a<=5))=false∨(!(a==-1))=false):False:=by
 rcases h with h | h
 ·have:=zdj h;omega
 ·have:a=-1:=by simpa using h
  omega
theorem zh9 {a b:Int} (h:(!(a==b))=false):a=b:=by simpa using h
theorem zkU (op:Int) (text:ByteArray) (args:List Exp) (defs:List zg) (kids:List Term) (h60:(Part.proc (.mk op text args defs kids)).size<=60) (a0 a1 a2:Option Addr) (p0 p1 p2:Nat) (w:World) (hz:text.size<=maxLen)
  (hsh:yg (.mk op text args defs kids)=false):
  Calls Tryz.prog 59 #[.agg #[.int .i64 op, .string text, .slice a0 args.length p0, .slice a1 defs.length p1, .slice a2 kids.length p2]] w fun e w'=> ROut (.proc (.mk op text args defs kids)) e/\Below w.heap.size w w':=by
 have hss:=yV (Part.proc (.mk op text args defs kids));simp only [Part.parts,qB] at hss;have hal:=xp Part.exp args;have hdl:=xp Part.def_ defs;have hkl:=xp Part.proc kids;have hal60:args.length<=60:=by omega
 have hdl60:defs.length<=60:=by omega
 have hkl60:kids.length<=60:=by omega
 have HNO:=ZH (ROut.no (p:= .proc (.mk op text args defs kids)) hsh);obtain ⟨la,hla⟩:∃x,x=args.length:=⟨_,rfl⟩;obtain ⟨ld,hld⟩:∃x,x=defs.length:=⟨_,rfl⟩;obtain ⟨lk,hlk⟩:∃x,x=kids.length:=⟨_,rfl⟩;have hS:Hid (shT op text la ld lk=false):=ZH (by rw [<-hsh,hla,hld,hlk];rfl);generalize Part.proc (.mk op text args defs kids)=p at HNO ⊢;rw [<-hla] at hal60 ⊢;rw [<-hld] at hdl60 ⊢;rw [<-hlk] at hkl60 ⊢;clear hla hld hlk hsh hss h60 hal hdl hkl;obtain ⟨W1,hW1'⟩:∃W1,W1=w.alloc (.cells #[.int .i64 op, .string text, .slice a0 la p0, .slice a1 ld p1, .slice a2 lk p2] 33):=⟨_,rfl⟩;have z1:W1.heap.size=w.heap.size + 1:=by rw [hW1'];simp
 have hW1:Below w.heap.size w W1:=by rw [hW1'];exact ZQ w _
 have HW:=ZH hW1';clear hW1';rcases (show op=1∨op=2∨op=3∨op=4∨op=5∨op=6∨op=7∨op=8∨op < 1∨8 < op by omega) with rfl | rfl | rfl | rfl | rfl | rfl | rfl | rfl | hf | hf
 rotate_left 8
 ·have q2:(op==2)=false:=by simp;omega
  have q3:(op==3)=false:=by simp;omega
  have q4:(op==4)=false:=by simp;omega
  have q5:(op==5)=false:=by simp;omega
  have q6:(op==6)=false:=by simp;omega
  have q8:(op==8)=false:=by simp;omega
  go_enter Tryz.func59,Tryz.ntmps59;go_wp2;go_ret3;exact ⟨HNO.out,ZQ w _⟩
 ·have q2:(op==2)=false:=by simp;omega
  have q3:(op==3)=false:=by simp;omega
  have q4:(op==4)=false:=by simp;omega
  have q5:(op==5)=false:=by simp;omega
  have q6:(op==6)=false:=by simp;omega
  have q8:(op==8)=false:=by simp;omega
  have q1:1<=op:=by omega
  go_enter Tryz.func59,Tryz.ntmps59;go_wp2;go_ret3;exact ⟨HNO.out,ZQ w _⟩
 all_goals (
  go_enter Tryz.func59,Tryz.ntmps59;go_wp2_with (go_at_call 112;refine (xH _ _ _ hz).mono ?_;rintro e w1 ⟨rfl,hb1⟩;have hc0:=(hb1.cell (p:=⟨w.heap.size,0,none⟩) (by simp)).trans (ZA _ _ _ _ rfl);have hc1:=(hb1.cell (p:=⟨w.heap.size,1,none⟩) (by simp)).trans (ZA _ _ _ _ rfl);have hc2:=(hb1.cell (p:=⟨w.heap.size,2,none⟩) (by simp)).trans (ZA _ _ _ _ rfl);have hc3:=(hb1.cell (p:=⟨w.heap.size,3,none⟩) (by simp)).trans (ZA _ _ _ _ rfl);have hc4:=(hb1.cell (p:=⟨w.heap.size,4,none⟩) (by simp)).trans (ZA _ _ _ _ rfl);have hB1:Below (w.heap.size + 1) W1 w1:=(by rw [HW.out];exact hb1.mono (by simp)))
  all_goals first
   | (go_ret3;refine ⟨HNO.out,?_⟩;first | exact ZQ w _ | exact hW1.trans (hB1.mono (Nat.le_succ _)))
   | exact (znE hS.out (by assumption) (by first | omega | (have hq:=zh9 (by assumption);omega) | (have hq:=zdj (by assumption);omega))).elim
   | exact (znB hS.out (by assumption) (by first | omega | (have hq:=zh9 (by assumption);omega) | (have hq:=zdj (by assumption);omega))).elim
   | exact (zjc (by assumption) (by assumption)).elim
   | trace_state)
theorem zlQ {text:ByteArray} (h:qn text=true):rOne text true=true:=by simp [rOne,h]
theorem zmU {text:ByteArray} (h:text.size=0):rOne text false=true:=by simp [rOne,h]
theorem len0 {n:Nat} (h:n=0):((n:Int)==0)=true:=by rw [h];rfl
theorem len1 {n:Nat} (h:n=1):((n:Int)==1)=true:=by rw [h];rfl
theorem len2 {n:Nat} (h:n=2):((n:Int)==2)=true:=by rw [h];rfl
theorem len3 {n:Nat} (h:n<=3):(n:Int)<=3:=by omega
theorem lenP {n:Nat} (h:1<=n):(0:Int) < n:=by omega
theorem len5 {n:Nat} (h:n<=5):(n:Int)<=5:=by omega
theorem zi1 (s:Nat) (ih:RAt s) (op:Int) (text:ByteArray) (args:List Exp) (defs:List zg) (kids:List Term) (hs:(Part.proc (.mk op text args defs kids)).size<=s + 1) (h60:(Part.proc (.mk op text args defs kids)).size<=60) (B:Nat) (u w:World) (hu:zh B u w) (hBl:B<=w.heap.size)
  (a0 a1 a2:Option Addr) (p0 p1 p2:Nat) (hz:text.size<=maxLen) (h0:args.length=0∨∃b off,a0=some ⟨b,off,none⟩/\b < B/\zW B u b off args) (h1:defs.length=0∨∃b off,a1=some ⟨b,off,none⟩/\b < B/\zr B u b off defs) (h2:kids.length=0∨∃b off,a2=some ⟨b,off,none⟩/\b < B/\zu B u b off kids)
  (hsh:yg (.mk op text args defs kids)=true):
  Calls Tryz.prog 59 #[.agg #[.int .i64 op, .string text, .slice a0 args.length p0, .slice a1 defs.length p1, .slice a2 kids.length p2]] w fun e w'=> ROut (.proc (.mk op text args defs kids)) e/\Below w.heap.size w w':=by
 have hss:=yV (Part.proc (.mk op text args defs kids));simp only [Part.parts,qB] at hss;have hal:=xp Part.exp args;have hdl:=xp Part.def_ defs;have hkl:=xp Part.proc kids;have hal60:args.length<=60:=by omega
 have hdl60:defs.length<=60:=by omega
 have hkl60:kids.length<=60:=by omega
 have hsd:1 + (sz (args.map Part.exp) + sz (defs.map Part.def_) + sz (kids.map Part.proc))<=s + 1:=by omega
 have hsd2:1 + (sz (args.map Part.exp) + sz (defs.map Part.def_) + sz (kids.map Part.proc))<=60:=by omega
 obtain ⟨W1,hW1'⟩:∃W1,W1=w.alloc (.cells #[.int .i64 op, .string text, .slice a0 args.length p0, .slice a1 defs.length p1, .slice a2 kids.length p2] 33):=⟨_,rfl⟩;have z1:W1.heap.size=w.heap.size + 1:=by rw [hW1'];simp
 have hW1:Below w.heap.size w W1:=by rw [hW1'];exact ZQ w _
 have hbox0:W1.cell? ⟨w.heap.size,2,none⟩=some (.slice a0 args.length p0):=by
  rw [hW1',ZA _ _ _ _ rfl];rfl
 have hbox1:W1.cell? ⟨w.heap.size,3,none⟩=some (.slice a1 defs.length p1):=by
  rw [hW1',ZA _ _ _ _ rfl];rfl
 have hbox2:W1.cell? ⟨w.heap.size,4,none⟩=some (.slice a2 kids.length p2):=by
  rw [hW1',ZA _ _ _ _ rfl];rfl
 have HW:=ZH hW1';clear hW1';have HSH:=ZH (show (Part.proc (.mk op text args defs kids)).shaped=true from hsh);have h:=hsh;unfold yg at h;simp only [Bool.or_eq_true,Bool.and_eq_true,beq_iff_eq,decide_eq_true_eq] at h;clear hsh hss hal hdl hkl h60 hs;rcases h with ((((⟨⟨⟨⟨h0',g1⟩,g2⟩,g3⟩,g4⟩ | ⟨⟨⟨⟨rfl,g1⟩,g2⟩,g3⟩,g4⟩) | ⟨⟨⟨⟨rfl,g1⟩,g2⟩,g3⟩,g4⟩) | ⟨⟨⟨⟨⟨rfl,g1⟩,g2⟩,g3⟩,g5⟩,g4⟩) | ⟨⟨⟨⟨rfl,g1⟩,g2⟩,g3⟩,g4⟩) | ⟨⟨⟨⟨h0',g1⟩,g2⟩,g3⟩,g4⟩
 all_goals
  first
  | (have hq:qn text=true:=g1;have HO:=ZH (zlQ hq);clear hq)
  | (have hq:text.size=0:=g1;have HO:=ZH (zmU hq);clear hq)
 all_goals first | (have hk:((kids.length:Int)==0)=true:=len0 g4) | (have hk:((kids.length:Int)==1)=true:=len1 g4) | (have hk:((kids.length:Int)==2)=true:=len2 g4)
 all_goals first | (have ha:((args.length:Int)==0)=true:=len0 g2) | (have ha:((args.length:Int)==1)=true:=len1 g2) | (have ha:(args.length:Int)<=3:=len3 g2)
 all_goals first | (have hd:((defs.length:Int)==0)=true:=len0 g3) | (have hd0:(0:Int) < defs.length:=lenP g3;have hd5:(defs.length:Int)<=5:=len5 g5;have H5:=ZH g5;clear g5)
 all_goals have H2:=ZH g2;have H3:=ZH g3;have H4:=ZH g4;clear g1 g2 g3 g4
 all_goals
  first
  | (rcases h0' with rfl | rfl)
  | skip
 all_goals
  go_enter Tryz.func59,Tryz.ntmps59;go_wp2_with (go_at_call 112;refine (xH _ _ _ hz).mono ?_;rw [HO.out];rintro e w1 ⟨rfl,hb1⟩;have hc0:=(hb1.cell (p:=⟨w.heap.size,0,none⟩) (by simp)).trans (ZA _ _ _ _ rfl);have hc1:=(hb1.cell (p:=⟨w.heap.size,1,none⟩) (by simp)).trans (ZA _ _ _ _ rfl);have hc2:=(hb1.cell (p:=⟨w.heap.size,2,none⟩) (by simp)).trans (ZA _ _ _ _ rfl);have hc3:=(hb1.cell (p:=⟨w.heap.size,3,none⟩) (by simp)).trans (ZA _ _ _ _ rfl);have hc4:=(hb1.cell (p:=⟨w.heap.size,4,none⟩) (by simp)).trans (ZA _ _ _ _ rfl);have hB1:Below (w.heap.size + 1) W1 w1:=(by rw [HW.out];exact hb1.mono (by simp)))
  go_loopw [9,10,8,11] (fun vn vd vb i wr=> ∃(k n d:Nat) (b:Bool),k<=args.length/\i= .int .i64 k/\vn= .int .i64 n/\vd= .int .i64 d/\vb= .bool b/\Hid (RMid ((args.take k).map .exp) n d b)/\Below (w.heap.size + 1) W1 wr) (fun _ _ _ i _=> args.length - (intOf i).toNat)
  case atStart=> exact ⟨0,1,0,true,by omega,rfl,rfl,rfl,rfl,ZH RMid.nil,hB1⟩
  case round=>
   obtain ⟨k,n,d,b,hk',rfl,rfl,rfl,rfl,hm,hB⟩:=hrel;have hBw:=hW1.trans (hB.mono (Nat.le_succ _));have hBz:=hB.size;have hbox:=(hB.cell (p:=⟨w.heap.size,2,none⟩) (by simp)).trans hbox0
   have hnd:n<=60/\d<=60:=by
    obtain ⟨_,q1,q2,_⟩:=hm.out;have:=j9 Part.exp args k;try simp only [qB] at q1 q2
    omega
   obtain ⟨hn60,hd60⟩:=hnd;by_cases hlt:k < args.length
   ·rcases h0 with h00 | ⟨bb,off,rfl,hb,hk⟩
    ·omega
    obtain ⟨cs,hcs,hexp⟩:=hk.get args bb off k hlt;have hexp':=hexp;have hsm:=yU Part.exp hlt;obtain ⟨e0,he0⟩:∃e,e=args[k]:=⟨_,rfl⟩
    have htk:(args.take (k + 1)).map Part.exp=((args.take k).map Part.exp) ++ [Part.exp e0]:=by
     rw [ZT hlt,List.map_append,he0];simp
    rw [<-he0] at hexp hexp' hsm;have hih:=ih (.exp e0) (by omega) (by omega) B u wr cs (hu.trans ((Below.keptC hBw).mono hBl)) (by omega) hexp';have HT:=ZH htk;clear htk;clear he0 hexp'
    have HE:∀e w2,ROut (.exp e0) e/\Below wr.heap.size wr w2->∃m l:Nat,∃ok:Bool,e= .returned (.tuple #[.int .i64 m, .int .i64 l, .bool ok])/\m<=60/\l<=60/\Hid (RMid ((args.take (k + 1)).map .exp) (n + m) (max d l) (b && ok))/\Below wr.heap.size wr w2:=by
     rintro e w2 ⟨⟨m,l,rfl,h1,h2,h3⟩,hb2⟩;exact ⟨m,l,_,rfl,by omega,by omega,ZH (by rw [HT.out];exact hm.out.step h1 h2 rfl h3),hb2⟩
    have hih2:=hih.mono HE;clear hih HE;obtain ⟨o0,n0,t0,k0⟩:=e0;unfold zy at hexp;obtain ⟨_,_,rfl,x0,y0,rfl,_⟩:=hexp;obtain ⟨c0,c1,c2,c3⟩:=jd ((hcs.keep hu hb).below hBw (by omega));clear hcs hk;cases b with
    | true=>
     go_wp2_with (go_at_call 62;refine hih2.mono ?_;clear hih2;rintro e w2 ⟨m,l,ok,rfl,hm60,hl60,HR,hb2⟩)
     all_goals (
      go_roundw
      case rel=> exact ⟨k + 1,n + m,max d l,_,by omega,by go_num,by go_num,jw (by omega),rfl,ZH (by simpa using HR.out),hB.trans (hb2.mono (by have:=hB.size;simp at this ⊢;omega))⟩
      case measure=> simp [intOf];omega)
    | false=>
     go_wp2_with (go_at_call 62;refine hih2.mono ?_;clear hih2;rintro e w2 ⟨m,l,ok,rfl,hm60,hl60,HR,hb2⟩)
     all_goals (
      go_roundw
      case rel=> exact ⟨k + 1,n + m,max d l,false,by omega,by go_num,by go_num,jw (by omega),rfl,ZH (by simpa using HR.out),hB.trans (hb2.mono (by have:=hB.size;simp at this ⊢;omega))⟩
      case measure=> simp [intOf];omega)
   ·have hkl:k=args.length:=by omega
    have hm2:=hm.out;rw [hkl,List.take_length] at hm2;have hmF:=ZH hm2;clear hm2 hm;obtain rfl:=hkl;go_wp2
    go_loopw [9,10,8,15] (fun vn vd vb i wr=> ∃(k n d:Nat) (b:Bool),k<=defs.length/\i= .int .i64 k/\vn= .int .i64 n/\vd= .int .i64 d/\vb= .bool b/\Hid (RMid (args.map Part.exp ++ (defs.take k).map .def_) n d b)/\Below (w.heap.size + 1) W1 wr) (fun _ _ _ i _=> defs.length - (intOf i).toNat)
    case atStart=> exact ⟨0,n,d,b,by omega,rfl,rfl,rfl,rfl,ZH (by simpa using hmF.out),hB⟩
    case round=>
     obtain ⟨k,n,d,b,hk',rfl,rfl,rfl,rfl,hm,hB⟩:=hrel;have hBw:=hW1.trans (hB.mono (Nat.le_succ _));have hBz:=hB.size;have hbox:=(hB.cell (p:=⟨w.heap.size,3,none⟩) (by simp)).trans hbox1
     have hnd:n<=60/\d<=60:=by
      obtain ⟨_,q1,q2,_⟩:=hm.out;have:=j9 Part.def_ defs k;try simp only [qB] at q1 q2
      omega
     obtain ⟨hn60,hd60⟩:=hnd;by_cases hlt:k < defs.length
     ·rcases h1 with h00 | ⟨bb,off,rfl,hb,hk⟩
      ·omega
      obtain ⟨cs,hcs,hexp⟩:=hk.get defs bb off k hlt;have hexp':=hexp;have hsm:=yU Part.def_ hlt;obtain ⟨e0,he0⟩:∃e,e=defs[k]:=⟨_,rfl⟩
      have htk:args.map Part.exp ++ (defs.take (k + 1)).map Part.def_=(args.map Part.exp ++ (defs.take k).map Part.def_) ++ [Part.def_ e0]:=by
       rw [ZT hlt,List.map_append,he0];simp
      rw [<-he0] at hexp hexp' hsm;have hih:=ih (.def_ e0) (by omega) (by omega) B u wr cs (hu.trans ((Below.keptC hBw).mono hBl)) (by omega) hexp';have HT:=ZH htk;clear htk;clear he0 hexp'
      have HE:∀e w2,ROut (.def_ e0) e/\Below wr.heap.size wr w2->∃m l:Nat,∃ok:Bool,e= .returned (.tuple #[.int .i64 m, .int .i64 l, .bool ok])/\m<=60/\l<=60/\Hid (RMid (args.map Part.exp ++ (defs.take (k + 1)).map .def_) (n + m) (max d l) (b && ok))/\Below wr.heap.size wr w2:=by
       rintro e w2 ⟨⟨m,l,rfl,h1,h2,h3⟩,hb2⟩;exact ⟨m,l,_,rfl,by omega,by omega,ZH (by rw [HT.out];exact hm.out.step h1 h2 rfl h3),hb2⟩
      have hih2:=hih.mono HE;clear hih HE;obtain ⟨f0,t0,j0,d0,k0⟩:=e0;unfold zo at hexp;obtain ⟨_,_,_,_,rfl,⟨x0,y0,rfl,_⟩,⟨x1,y1,rfl,_⟩,⟨x2,y2,rfl,_⟩⟩:=hexp;obtain ⟨c0,c1,c2,c3,c4⟩:=zK ((hcs.keep hu hb).below hBw (by omega));clear hcs hk;cases b with
      | true=>
       go_wp2_with (go_at_call 113;refine hih2.mono ?_;clear hih2;rintro e w2 ⟨m,l,ok,rfl,hm60,hl60,HR,hb2⟩)
       all_goals (
        go_roundw
        case rel=> exact ⟨k + 1,n + m,max d l,_,by omega,by go_num,by go_num,jw (by omega),rfl,ZH (by simpa using HR.out),hB.trans (hb2.mono (by have:=hB.size;simp at this ⊢;omega))⟩
        case measure=> simp [intOf];omega)
      | false=>
       go_wp2_with (go_at_call 113;refine hih2.mono ?_;clear hih2;rintro e w2 ⟨m,l,ok,rfl,hm60,hl60,HR,hb2⟩)
       all_goals (
        go_roundw
        case rel=> exact ⟨k + 1,n + m,max d l,false,by omega,by go_num,by go_num,jw (by omega),rfl,ZH (by simpa using HR.out),hB.trans (hb2.mono (by have:=hB.size;simp at this ⊢;omega))⟩
        case measure=> simp [intOf];omega)
     ·have hkl:k=defs.length:=by omega
      have hm2:=hm.out;rw [hkl,List.take_length] at hm2;have hmF:=ZH hm2;clear hm2 hm;obtain rfl:=hkl;go_wp2
      go_loopw [9,10,8,19] (fun vn vd vb i wr=> ∃(k n d:Nat) (b:Bool),k<=kids.length/\i= .int .i64 k/\vn= .int .i64 n/\vd= .int .i64 d/\vb= .bool b/\Hid (RMid (args.map Part.exp ++ defs.map Part.def_ ++ (kids.take k).map .proc) n d b)/\Below (w.heap.size + 1) W1 wr) (fun _ _ _ i _=> kids.length - (intOf i).toNat)
      case atStart=> exact ⟨0,n,d,b,by omega,rfl,rfl,rfl,rfl,ZH (by simpa using hmF.out),hB⟩
      case round=>
       obtain ⟨k,n,d,b,hk',rfl,rfl,rfl,rfl,hm,hB⟩:=hrel;have hBw:=hW1.trans (hB.mono (Nat.le_succ _));have hBz:=hB.size;have hbox:=(hB.cell (p:=⟨w.heap.size,4,none⟩) (by simp)).trans hbox2
       have hnd:n<=60/\d<=60:=by
        obtain ⟨_,q1,q2,_⟩:=hm.out;have:=j9 Part.proc kids k;try simp only [qB] at q1 q2
        omega
       obtain ⟨hn60,hd60⟩:=hnd;by_cases hlt:k < kids.length
       ·rcases h2 with h00 | ⟨bb,off,rfl,hb,hk⟩
        ·omega
        obtain ⟨cs,hcs,hexp⟩:=hk.get kids bb off k hlt;have hexp':=hexp;have hsm:=yU Part.proc hlt;obtain ⟨e0,he0⟩:∃e,e=kids[k]:=⟨_,rfl⟩
        have htk:args.map Part.exp ++ defs.map Part.def_ ++ (kids.take (k + 1)).map Part.proc=(args.map Part.exp ++ defs.map Part.def_ ++ (kids.take k).map Part.proc) ++ [Part.proc e0]:=by
         rw [ZT hlt,List.map_append,he0];simp
        rw [<-he0] at hexp hexp' hsm;have hih:=ih (.proc e0) (by omega) (by omega) B u wr cs (hu.trans ((Below.keptC hBw).mono hBl)) (by omega) hexp';have HT:=ZH htk;clear htk;clear he0 hexp'
        have HE:∀e w2,ROut (.proc e0) e/\Below wr.heap.size wr w2->∃m l:Nat,∃ok:Bool,e= .returned (.tuple #[.int .i64 m, .int .i64 l, .bool ok])/\m<=60/\l<=60/\Hid (RMid (args.map Part.exp ++ defs.map Part.def_ ++ (kids.take (k + 1)).map .proc) (n + m) (max d l) (b && ok))/\Below wr.heap.size wr w2:=by
         rintro e w2 ⟨⟨m,l,rfl,h1,h2,h3⟩,hb2⟩;exact ⟨m,l,_,rfl,by omega,by omega,ZH (by rw [HT.out];exact hm.out.step h1 h2 rfl h3),hb2⟩
        have hih2:=hih.mono HE;clear hih HE;obtain ⟨o0,t0,g0,d0,k0⟩:=e0;unfold ze at hexp;obtain ⟨_,_,_,_,rfl,⟨x0,y0,rfl,_⟩,⟨x1,y1,rfl,_⟩,⟨x2,y2,rfl,_⟩⟩:=hexp;obtain ⟨c0,c1,c2,c3,c4⟩:=zK ((hcs.keep hu hb).below hBw (by omega));clear hcs hk;cases b with
        | true=>
         go_wp2_with (go_at_call 59;refine hih2.mono ?_;clear hih2;rintro e w2 ⟨m,l,ok,rfl,hm60,hl60,HR,hb2⟩)
         all_goals (
          go_roundw
          case rel=> exact ⟨k + 1,n + m,max d l,_,by omega,by go_num,by go_num,jw (by omega),rfl,ZH (by simpa using HR.out),hB.trans (hb2.mono (by have:=hB.size;simp at this ⊢;omega))⟩
          case measure=> simp [intOf];omega)
        | false=>
         go_wp2_with (go_at_call 59;refine hih2.mono ?_;clear hih2;rintro e w2 ⟨m,l,ok,rfl,hm60,hl60,HR,hb2⟩)
         all_goals (
          go_roundw
          case rel=> exact ⟨k + 1,n + m,max d l,false,by omega,by go_num,by go_num,jw (by omega),rfl,ZH (by simpa using HR.out),hB.trans (hb2.mono (by have:=hB.size;simp at this ⊢;omega))⟩
          case measure=> simp [intOf];omega)
       ·have hkl:k=kids.length:=by omega
        have hm2:=hm.out;rw [hkl,List.take_length] at hm2;have hmF:=ZH hm2;clear hm2 hm;obtain rfl:=hkl;go_wp2;go_ret3;exact ⟨RMid.out hmF.out HSH.out,hBw⟩
theorem znD:∀s,RAt s:=by
 intro s
 induction s with
 | zero=> intro p hp;exact absurd (by rw [Part.size,zv];simp) (Nat.not_lt.2 hp)
 | succ s ih=>
  intro p hp h60 B u w cs hu hBl hv;cases p with
  | proc t=>
   obtain ⟨o,t,a,d,k⟩:=t;have hv':ze B u cs (.mk o t a d k):=hv;unfold ze at hv';obtain ⟨hz,_,_,_,rfl,⟨a0,p0,rfl,l0,h0⟩,⟨a1,p1,rfl,l1,h1⟩,⟨a2,p2,rfl,l2,h2⟩⟩:=hv';cases hsh:yg (.mk o t a d k) with
   | false=> exact zkU o t a d k h60 a0 a1 a2 p0 p1 p2 w hz hsh
   | true=> exact zi1 s ih o t a d k hp h60 B u w hu hBl a0 a1 a2 p0 p1 p2 hz h0 h1 h2 hsh
  | exp t=> obtain ⟨o,n,t,k⟩:=t;exact znv s ih o n t k hp h60 B u w cs hu hBl hv
  | def_ t=> obtain ⟨f,t,j,d,k⟩:=t;exact zk9 s ih f t j d k hp h60 B u w cs hu hBl hv
def yY (p:Part):Bool:=(zw 0 p).all (fun q=> yb q.1)
def qR (ps:List Part):Bool:=ps.all yY
theorem zfM (p:Part) (a b:Nat):(zw a p).all (fun q=> yb q.1)=(zw b p).all (fun q=> yb q.1):=by
 have h:=qJ a b p;have e:∀l:List (Part×Nat),l.all (fun q=> yb q.1)=(l.map (·.1)).all yb:=fun l=> by rw [List.all_map];rfl
 rw [e,e,h]
theorem zeb (p:Part):yY p=(yb p && qR p.parts):=by
 rw [yY,zv,List.all_cons]
 congr 1
 unfold zM qR;rw [List.all_flatMap]
 congr 1
 funext q
 rw [zfM q (0 + 1) 0];rfl
theorem zjL (e:Exp):yY (.exp e)=true:=by
 have key:∀(s:Nat) (e:Exp),(Part.exp e).size<=s->yY (.exp e)=true:=by
  intro s
  induction s with
  | zero=> intro p hp;exact absurd (by rw [Part.size,zv];simp) (Nat.not_lt.2 hp)
  | succ s ih=>
   intro e he;rw [zeb];obtain ⟨o,n,t,k⟩:=e;simp only [yb,Bool.true_and,Part.parts,qR,List.all_map,List.all_eq_true];intro x hx;exact ih x (by have:=qi (p:= .exp (.mk o n t k)) (q:= .exp x) (List.mem_map.2 ⟨x,hx,rfl⟩);omega)
 exact key _ e (ZL _)
theorem zmy (l:List Nat) (n:Nat):maxL l<=n↔∀x∈l,x<=n:=by
 induction l with
 | nil=> simp [maxL]
 | cons y l ih=>
  have e:=xj [y] l;have e2:maxL [y]=y:=by simp [maxL]
  simp only [List.cons_append,List.nil_append] at e;rw [e,e2,Nat.max_le,ih];simp
theorem zg9 (p:Part) (n:Nat):p.depth<=n↔∀q∈zw 1 p,q.2<=n:=by
 rw [Part.depth,zmy];simp only [List.mem_map,forall_exists_index,and_imp];exact ⟨fun h q hq=> h q.2 q hq rfl,fun h x q hq e=> e▸h q hq⟩
def zL (p:Part):Bool:=decide (p.size<=60) && jS p && decide (p.depth<=12) && yY p
theorem qI {p:Part}:zT p↔zL p=true:=by
 rw [zbg,zL,Bool.and_eq_true,Bool.and_eq_true,Bool.and_eq_true,decide_eq_true_eq,decide_eq_true_eq,zg9,jS,zf9 p 0 1,yY,zfM p 0 1,List.all_eq_true,List.all_eq_true];constructor
 ·rintro ⟨⟨h1,h2⟩,h3⟩
  exact ⟨⟨⟨h1,fun q hq=> (h2 q hq).1⟩,fun q hq=> (h2 q hq).2⟩,h3⟩
 ·rintro ⟨⟨⟨h1,h2⟩,h4⟩,h3⟩
  exact ⟨⟨h1,fun q hq=> ⟨h2 q hq,h4 q hq⟩⟩,h3⟩
def jG (b:Bool):Int:=if b then 0 else 2
theorem formedB_exp (e:Exp):zL (.exp e)=(decide ((Part.exp e).size<=60) && jS (.exp e) && decide ((Part.exp e).depth<=12)):=by
 rw [zL,zjL,Bool.and_true]
theorem rcheckExp_any (t:Exp) (B:Nat) (u w:World) (cs:List Value) (hu:zh B u w) (hB:B<=w.heap.size) (hv:zy B u cs t):
  Calls Tryz.prog 20 #[.agg cs.toArray] w fun e w'=> e= .returned (.int .i64 (jG (zL (.exp t))))/\Below w.heap.size w w':=by
 obtain ⟨op,nn,text,kids⟩:=t;have hv0:=hv;unfold zy at hv;obtain ⟨hz,_,rfl,⟨a0,p0,rfl,_⟩⟩:=hv;obtain ⟨q,hq⟩:∃q,q=Exp.mk op nn text kids:=⟨_,rfl⟩;rw [<-hq] at hv0 ⊢;obtain ⟨W1,hW1⟩:∃W1,W1=w.alloc (.cells #[.int .i64 op, .int .i64 nn, .string text, .slice a0 kids.length p0] 36):=⟨_,rfl⟩;have z1:W1.heap.size=w.heap.size + 1:=by rw [hW1];simp
 have b1:Below w.heap.size w W1:=by rw [hW1];exact ZQ w _
 have cc:∀W,Below W1.heap.size W1 W->W.cell? ⟨w.heap.size,0,none⟩=some (.int .i64 op)/\W.cell? ⟨w.heap.size,1,none⟩=some (.int .i64 nn)/\W.cell? ⟨w.heap.size,2,none⟩=some (.string text)/\W.cell? ⟨w.heap.size,3,none⟩=some (.slice a0 kids.length p0):=fun W hW=> by
  have e:∀o,W.cell? ⟨w.heap.size,o,none⟩=W1.cell? ⟨w.heap.size,o,none⟩:=fun o=> hW.cell (p:=⟨w.heap.size,o,none⟩) (by simp;omega);rw [e,e,e,e,hW1];simp only [ZA _ _ _ _ rfl];exact ⟨rfl,rfl,rfl,rfl⟩
 have hsm:=fun W hW lb1 lb2=> zkH (Part.exp q).size (.exp q) (ZL _) W1.heap.size B u W _ 60 hW (by omega) (by decide) (by decide) lb1 lb2 hv0;have hr:=fun h60 W hW hBW=> znD (Part.exp q).size (.exp q) (ZL _) h60 B u W _ hW hBW hv0;simp only [zis,zbq,rFn] at hsm hr;have HW:=ZH hW1;have HR:=ZH hr;have HS:=ZH hsm;have HC:=ZH cc;clear hW1 hr hsm cc hv0 hq;obtain ⟨c0,c1,c2,c3⟩:=HC.out (W1.alloc (.cells #[.int .i64 60] 3)) (ZQ W1 _);have b2':Below W1.heap.size W1 (W1.alloc (.cells #[.int .i64 60] 3)):=ZQ W1 _;have b2:Below w.heap.size w (W1.alloc (.cells #[.int .i64 60] 3)):=b1.alloc (by omega) _;have hs1:=HS.out (W1.alloc (.cells #[.int .i64 60] 3)) (hu.trans ((Below.keptC b2).mono hB)) (ZA _ _ _ _ rfl) (by rw [frozen?_alloc_cells];simp [World.frozen?]);have FIN:∀W,Below W1.heap.size (W1.alloc (.cells #[.int .i64 60] 3)) W->Below W1.heap.size W1 W/\Below w.heap.size w W:=fun W hW=> ⟨b2'.trans hW,b2.trans (hW.mono (by omega))⟩;have FX:=ZH (formedB_exp q);clear HS b2 b2';rw [z1] at hs1;obtain ⟨D,hD⟩:∃D,D=dec 60 (Part.exp q).size:=⟨_,rfl⟩;rw [<-hD] at hs1;by_cases h60:(Part.exp q).size<=60
 ·have e1:¬(D < 0):=by rw [hD];unfold dec;split <;> omega
  have HB':∀W,Below w.heap.size w W->zh B u W/\B<=W.heap.size:=fun W hW=> ⟨hu.trans ((Below.keptC hW).mono hB),by have:=hW.size;omega⟩;have HR2:=ZH (fun W hW=> HR.out h60 W (HB' W hW).1 (HB' W hW).2);have H60:=ZH (show decide ((Part.exp q).size<=60)=true by simpa using h60);rw [HW.out] at hs1 c0 c1 c2 c3;clear HR HB' h60 hD;cases hsh:jS (.exp q) with
  | false=>
   have HF:=ZH (show zL (.exp q)=false by rw [FX.out,hsh];simp);have HSH:=ZH hsh;clear hsh;go_enter Tryz.func20,Tryz.ntmps20
   go_wp2_with (first
    | (go_at_call 61;refine hs1.mono ?_;clear hs1;rintro e w1 ⟨rfl,_,hb1,hlc,_⟩;rw [<-z1,<-HW.out] at hb1;obtain ⟨d0,d1,d2,d3⟩:=HC.out w1 (FIN w1 hb1).1)
    | (go_at_call 62;refine (HR2.out w1 (FIN w1 hb1).2).mono ?_;rintro e w2 ⟨⟨n,d,rfl,hn,hd,_⟩,hb2⟩;rw [HSH.out]))
   go_ret;rw [HF.out];exact ⟨rfl,(FIN w1 hb1).2.trans (hb2.mono (FIN w1 hb1).2.size)⟩
  | true=>
   have HSH:=ZH hsh;clear hsh;by_cases hd12:(Part.exp q).depth<=12
   ·have HF:=ZH (show zL (.exp q)=true by rw [FX.out,HSH.out,H60.out];simpa using hd12)
    go_enter Tryz.func20,Tryz.ntmps20
    go_wp2_with (first
     | (go_at_call 61;refine hs1.mono ?_;clear hs1;rintro e w1 ⟨rfl,_,hb1,hlc,_⟩;rw [<-z1,<-HW.out] at hb1;obtain ⟨d0,d1,d2,d3⟩:=HC.out w1 (FIN w1 hb1).1)
     | (go_at_call 62;refine (HR2.out w1 (FIN w1 hb1).2).mono ?_;rintro e w2 ⟨⟨n,d,rfl,_,_,hnd⟩,hb2⟩;obtain ⟨_,rfl⟩:=hnd HSH.out;clear hnd;rw [HSH.out]))
    go_ret;rw [HF.out];exact ⟨rfl,(FIN w1 hb1).2.trans (hb2.mono (FIN w1 hb1).2.size)⟩
   ·have HF:=ZH (show zL (.exp q)=false by rw [FX.out];simp [hd12])
    go_enter Tryz.func20,Tryz.ntmps20
    go_wp2_with (first
     | (go_at_call 61;refine hs1.mono ?_;clear hs1;rintro e w1 ⟨rfl,_,hb1,hlc,_⟩;rw [<-z1,<-HW.out] at hb1;obtain ⟨d0,d1,d2,d3⟩:=HC.out w1 (FIN w1 hb1).1)
     | (go_at_call 62;refine (HR2.out w1 (FIN w1 hb1).2).mono ?_;rintro e w2 ⟨⟨n,d,rfl,_,_,hnd⟩,hb2⟩;obtain ⟨_,rfl⟩:=hnd HSH.out;clear hnd;rw [HSH.out]))
    go_ret;rw [HF.out];exact ⟨rfl,(FIN w1 hb1).2.trans (hb2.mono (FIN w1 hb1).2.size)⟩
 ·have e1:D < 0:=by rw [hD];unfold dec;split <;> omega
  have HF:=ZH (show zL (.exp q)=false by rw [FX.out];simp [h60]);rw [HW.out] at hs1 c0 c1 c2 c3;clear HR hD h60;go_enter Tryz.func20,Tryz.ntmps20;go_wp2_with (go_at_call 61;refine hs1.mono ?_;clear hs1;rintro e w1 ⟨rfl,_,hb1,hlc,_⟩;rw [<-z1,<-HW.out] at hb1);go_ret;rw [HF.out];exact ⟨rfl,(FIN w1 hb1).2⟩

end
end Go.Proofs.YtjmlaeofjjhfmaaGreat
