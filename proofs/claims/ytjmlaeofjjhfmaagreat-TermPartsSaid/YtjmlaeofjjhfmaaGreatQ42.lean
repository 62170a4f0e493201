/- Lemmas. -/
import Derived.Test.YtjmlaeofjjhfmaaGreatQ41
set_option linter.unusedVariables false
set_option linter.unusedSimpArgs false
set_option maxRecDepth 10000
set_option maxHeartbeats 16000000
namespace Go.Proofs.YtjmlaeofjjhfmaaGreat
open Go.RowKit Go.Shelf Go.Maps
theorem Tryz.results106:Tryz.f106.results=#[.cell 2 33]:=by kernel_rfl
def zgA (s:Nat):Prop:=∀t:Term,(Part.proc t).size<=s->Fit0 (.proc t)->∀(B:Nat) (u w:World) (c2:List Value),zh B u w->B<=w.heap.size->ze B u c2 t->
 Calls Tryz.prog 106 #[.agg c2.toArray] w fun e w'=> ∃rs,e= .returned (.agg rs.toArray)/\ze w'.heap.size (blank w.heap.size w') rs (layT t)/\Below w.heap.size w w'
def zgz (s:Nat):Prop:=∀t:zg,(Part.def_ t).size<=s->Fit0 (.def_ t)->∀(B:Nat) (u w:World) (c2:List Value),zh B u w->B<=w.heap.size->zo B u c2 t->
 Calls Tryz.prog 152 #[.agg c2.toArray] w fun e w'=> ∃rs,e= .returned (.agg rs.toArray)/\zo w'.heap.size (blank w.heap.size w') rs (layC t)/\Below w.heap.size w w'
structure LF (w:World) (ob:Nat) (arg res:Obj) (B:Nat) (u W:World):Prop where
 arg:W.heap[w.heap.size]?=some arg
 res:W.heap[w.heap.size + 1]?=some res
 kept:zh B u W
 bc:B<=W.heap.size
 below:Below w.heap.size w W
 lo:w.heap.size + 2<=ob
 hi:ob < W.heap.size
 off:B<=w.heap.size
theorem LF.grown {w:World} {ob:Nat} {arg res:Obj} {B:Nat} {u W W':World} (h:LF w ob arg res B u W) (hg:W.grownBy W' (some ob)):LF w ob arg res B u W':=by
 have hlo:=h.lo;have hhi:=h.hi;have hof:=h.off;have hs:=hg.size;have hk:∀b,b < W.heap.size->b≠ob->W'.heap[b]?=W.heap[b]?:=fun b hb hne=> hg.block b hb (fun e=> hne (ZJ e));refine ⟨(hk _ (by omega) (by omega)).trans h.arg,(hk _ (by omega) (by omega)).trans h.res,fun b o v hb hv=> ?_,by have:=h.bc;omega,h.below.grown hg (by omega) (fun k e=> by have:=ZJ e;omega),hlo,by omega,hof⟩;have h1:=h.kept b o v hb hv;exact (ZB (w:=W) (hk b (zD h1) (by omega))).trans h1
theorem LF.later {w:World} {ob:Nat} {arg res:Obj} {B:Nat} {u W W':World} (h:LF w ob arg res B u W) (hb:Below W.heap.size W W'):LF w ob arg res B u W':=
 h.grown ⟨hb.os,hb.tape,hb.output,hb.size,fun b hl _=> hb.block b hl⟩
theorem zN.clausesDone' {ob:Nat} {box:Value->Obj} {W2:World} {l:List zg} {n:Nat} {a:Option Addr} {cap:Nat} {wr:World} (h:zN zo 130 5 ob box W2 (l.take n) n a cap wr) (hn:l.length=n) (hob:ob < W2.heap.size):SlAt wr.heap.size (.slice a n cap) n (fun b off=> zr wr.heap.size (blank (ob + 1) wr) b off l):=by
 subst hn;exact h.clausesDone hob
theorem zN.termsDone' {ob:Nat} {box:Value->Obj} {W2:World} {l:List Term} {n:Nat} {a:Option Addr} {cap:Nat} {wr:World} (h:zN ze 33 5 ob box W2 (l.take n) n a cap wr) (hn:l.length=n) (hob:ob < W2.heap.size):SlAt wr.heap.size (.slice a n cap) n (fun b off=> zu wr.heap.size (blank (ob + 1) wr) b off l):=by
 subst hn;exact h.termsDone hob
theorem zkV {op:Int} {t:ByteArray} {a:List Exp} {d:List zg} {k:List Term} (h:Fit0 (.proc (.mk op t a d k))) (h3:op≠3):layT (.mk op t a d k)= .mk op t a (zQ d) (qh k):=by
 rw [layT,zG];by_cases h1:op=1
 ·have hs:(Part.proc (.mk op t a d k)).shaped=true:=(h.2 _ (by rw [zv];exact List.mem_cons_self ..)).1
  simp only [Part.shaped,yg,Bool.or_eq_true,Bool.and_eq_true,beq_iff_eq,decide_eq_true_eq] at hs;have e1:t.size=0/\a.length=0/\d.length=0/\k.length=0:=by omega
  obtain ⟨e1,e2,e3,e4⟩:=e1;obtain rfl:=List.length_eq_zero_iff.1 e2;obtain rfl:=List.length_eq_zero_iff.1 e3;obtain rfl:=List.length_eq_zero_iff.1 e4;obtain rfl:=xd e1;subst h1;rw [if_pos rfl]
  rfl
 ·rw [if_neg h1,if_neg h3]
  rfl
theorem zkK (s:Nat) (hT:zgA s) (hC:zgz s):zgA (s + 1):=by
 intro t hsz hf B u w c2 hu hB ht;obtain ⟨op,text,args,defs,kids⟩:=t;obtain ⟨htz,va,vd,vk,rfl,hsa,hsd,hsk⟩:=ht;obtain ⟨a0,p0,rfl,hla,ha⟩:=hsa;obtain ⟨a1,p1,rfl,hld,hd0⟩:=hsd;obtain ⟨a2,p2,rfl,hlk,hk0⟩:=hsk;obtain ⟨hl1,hl2,hl3⟩:=zdw hf;have HSA:=ZH (zds hf)
 have HFD:Hid (∀d∈defs,Fit0 (.def_ d)/\(Part.def_ d).size<=s):=ZH fun d hd=> by
  have hp:Part.def_ d∈(Part.proc (.mk op text args defs kids)).parts:=yu hd;exact ⟨jr hf hp,by have:=qi hp;omega⟩
 have HFK:Hid (∀d∈kids,Fit0 (.proc d)/\(Part.proc d).size<=s):=ZH fun d hd=> by
  have hp:Part.proc d∈(Part.proc (.mk op text args defs kids)).parts:=qV hd;exact ⟨jr hf hp,by have:=qi hp;omega⟩
 have HFH:=ZH hf;obtain ⟨lt,hlt0⟩:∃x,x=layT (.mk op text args defs kids):=⟨_,rfl⟩;rw [<-hlt0];have HLT:=ZH hlt0;clear hlt0;have HYD:Hid ((zQ defs).length=defs.length):=ZH (by rw [jC,List.length_map]);have HYK:Hid ((qh kids).length=kids.length):=ZH (by rw [zac,List.length_map]);obtain ⟨W0,hW0⟩:∃W0,W0=((w.alloc (.cells #[.int .i64 op, .string text, .slice a0 args.length p0, .slice a1 defs.length p1, .slice a2 kids.length p2] 33)).alloc o33).alloc (.cells #[.int .i64 op, .string text, .slice none 0 0, .slice none 0 0, .slice none 0 0] 33):=⟨_,rfl⟩;obtain ⟨ob,hob⟩:∃ob,ob=w.heap.size + 1 + 1:=⟨_,rfl⟩;have z0:W0.heap.size=w.heap.size + 3:=by rw [hW0];simp
 have b0:Below w.heap.size w W0:=by rw [hW0];exact ((ZQ w _).alloc (by simp) _).alloc (by simp;omega) _
 have k0:W0.heap[w.heap.size]?=some (.cells #[.int .i64 op, .string text, .slice a0 args.length p0, .slice a1 defs.length p1, .slice a2 kids.length p2] 33):=by
  rw [hW0,ZO _ _ _ (by simp;omega),ZO _ _ _ (by simp)];exact ZN w _
 have k1:W0.heap[w.heap.size + 1]?=some o33:=by
  rw [hW0,ZO _ _ _ (by simp)];have:=ZN (w.alloc (.cells #[.int .i64 op, .string text, .slice a0 args.length p0, .slice a1 defs.length p1, .slice a2 kids.length p2] 33)) o33;rwa [World.size_alloc] at this
 have k2:W0.heap[ob]?=some (.cells #[.int .i64 op, .string text, .slice none 0 0, .slice none 0 0, .slice none 0 0] 33):=by
  rw [hW0,hob];have:=ZN ((w.alloc (.cells #[.int .i64 op, .string text, .slice a0 args.length p0, .slice a1 defs.length p1, .slice a2 kids.length p2] 33)).alloc o33) (.cells #[.int .i64 op, .string text, .slice none 0 0, .slice none 0 0, .slice none 0 0] 33);rwa [World.size_alloc,World.size_alloc] at this
 have HTF:Hid (LF w ob (.cells #[.int .i64 op, .string text, .slice a0 args.length p0, .slice a1 defs.length p1, .slice a2 kids.length p2] 33) o33 B u W0):=ZH ⟨k0,k1,hu.trans ((Below.keptC b0).mono hB),by omega,b0,by omega,by omega,hB⟩;have HST:Hid (zN zy 36 4 ob (fun v=> .cells #[.int .i64 op, .string text,v, .slice none 0 0, .slice none 0 0] 33) W0 [] 0 none 0 W0):=ZH (zN.start k2);have HW:=ZH hW0;have HOB:=ZH hob;clear hW0 hob z0 b0 k0 k1 k2 hf hla hld hlk hsz;go_enter Tryz.func106,Tryz.ntmps106;go_upto_region 2 with fail;rw [<-HW.out,<-HOB.out];go_wp2
 go_loopw [4] (fun i wr=> ∃(k:Nat) (a:Option Addr) (cap:Nat),k<=args.length/\i= .int .i64 k/\Hid (zN zy 36 4 ob (fun v=> .cells #[.int .i64 op, .string text,v, .slice none 0 0, .slice none 0 0] 33) W0 (args.take k) k a cap wr)) (fun i _=> args.length - (intOf i).toNat)
 case atStart=> exact ⟨0,none,0,by omega,rfl,HST⟩
 case round=>
  obtain ⟨k,a,cap,hk,rfl,hinv⟩:=hrel;have hTF:=LF.grown HTF.out hinv.out.2.2.1;have hbx:=hinv.out.2.1;have hobs:=hTF.hi;have hku:zh B u wr:=hTF.kept;have m3:wr.cell? ⟨w.heap.size,2,none⟩=some (.slice a0 args.length p0):=by simp [World.cell?,hTF.arg]
  by_cases hlt:k < args.length
  ·
   rcases ha with h0 | ⟨b0,o0,rfl,hB0,hc0⟩
   ·omega
   obtain ⟨d1,e1,f1⟩:=zW.get args b0 o0 hc0 k hlt;have hBr:B<=wr.heap.size:=hTF.bc;have htk:=ZT hlt;have hmem:=ZM hlt;have hsh:=HSA.out _ hmem;have hcall:=fun W (hW:Below wr.heap.size wr W) (es:List Value) (he:zy B u es args[k])=> zN.callE (ziq ob _ _ _ _) hinv.out (by omega) HTF.out.hi hW (zi8 args[k] hsh B u W es (hTF.later hW).kept (hTF.later hW).bc he);rw [<-htk] at hcall;obtain ⟨ek,hek⟩:∃x,x=args[k]:=⟨_,rfl⟩;rw [<-hek] at f1 hcall;clear htk hek hmem;obtain ⟨g0,g1,g2,g3,g4,g5,rfl⟩:=qG f1
   have hS:∀W,Below wr.heap.size wr W->(W.cell? ⟨ob,2,none⟩=some (.slice a k cap)/\W.cell? ⟨w.heap.size,2,none⟩=some (.slice (some ⟨b0,o0,none⟩) args.length p0))/\W.cell? ⟨b0,o0 + k * 4,none⟩=some (.int .i64 g0)/\W.cell? ⟨b0,o0 + k * 4 + 1,none⟩=some (.int .i64 g1)/\W.cell? ⟨b0,o0 + k * 4 + 2,none⟩=some (.string g2)/\W.cell? ⟨b0,o0 + k * 4 + 3,none⟩=some (.slice g3 g4 g5):=fun W hW=> by
    have hT:=hTF.later hW;exact ⟨⟨by have:=(hW.block ob hobs).trans hbx;simp [World.cell?,this],by simp [World.cell?,hT.arg]⟩,jd (e1.keep (hT.kept) hB0)⟩
   have hd:Below wr.heap.size wr wr.drew:=(ZF _ _).drew;have hc:=hcall wr.drew hd _ f1;obtain ⟨⟨s0,s1⟩,s5,s6,s7,s8⟩:=hS wr.drew hd;have HS:=ZH hS;clear hc0 f1 e1 hbx hobs hS hcall hTF hku hBr hinv hd;go_wp2
   go_region_law (first
    | (revert hr;intro hr;refine zU rfl (.tmp 20) (.tmp 27) 29 29 rfl rfl rfl hr ?_)
    | (go_simp;go_wp2_with (go_at_call 145;refine hc.mono ?_;rintro e' w3 ⟨e0,e1,e2,e3,e4,e5,gg,cp,w5,rfl,hb3,hr,hw1,hw2,hfin⟩;obtain ⟨⟨t0,t1⟩,t5,t6,t7,t8⟩:=HS.out w3 hb3.out;obtain ⟨⟨v0,v1⟩,v5,v6,v7,v8⟩:=HS.out (w3.alloc (.cells #[.int .i64 e0, .int .i64 e1, .string e2, .slice e3 e4 e5] 36)) (hb3.out.alloc hb3.out.size _))))
   all_goals
    clear hr hw1 hw2 hc;go_wp2;go_roundw
    case rel=> exact ⟨k + 1,some ⟨gg,0,none⟩,cp,by omega,by go_num,hfin⟩
    case measure=> simp [intOf];omega
  ·obtain rfl:k=args.length:=by omega
   obtain ⟨Wa,rfl⟩:∃W,W=wr:=⟨_,rfl⟩;obtain ⟨aA,rfl⟩:∃x,x=a:=⟨_,rfl⟩;obtain ⟨cA,rfl⟩:∃x,x=cap:=⟨_,rfl⟩;have HA:=ZH (zN.expsDone hinv.out HTF.out.hi);have HTF:=ZH hTF;have HST:Hid (zN zo 130 5 ob (fun v=> .cells #[.int .i64 op, .string text, .slice aA args.length cA,v, .slice none 0 0] 33) Wa [] 0 none 0 Wa):=ZH (zN.start hbx);clear hTF hku hbx hobs hinv;go_wp2
   go_loopw [5] (fun i wr=> ∃(k:Nat) (a:Option Addr) (cap:Nat),k<=defs.length/\i= .int .i64 k/\Hid (zN zo 130 5 ob (fun v=> .cells #[.int .i64 op, .string text, .slice aA args.length cA,v, .slice none 0 0] 33) Wa ((zQ defs).take k) k a cap wr)) (fun i _=> defs.length - (intOf i).toNat)
   case atStart=> exact ⟨0,none,0,by omega,rfl,HST⟩
   case round=>
    obtain ⟨k,a,cap,hk,rfl,hinv⟩:=hrel;have hTF:=LF.grown HTF.out hinv.out.2.2.1;have hbx:=hinv.out.2.1;have hobs:=hTF.hi;have hku:zh B u wr:=hTF.kept;have m3:wr.cell? ⟨w.heap.size,3,none⟩=some (.slice a1 defs.length p1):=by simp [World.cell?,hTF.arg]
    by_cases hlt:k < defs.length
    ·
     rcases hd0 with h0 | ⟨b0,o0,rfl,hB0,hc0⟩
     ·omega
     obtain ⟨d1,e1,f1⟩:=zr.get defs b0 o0 hc0 k hlt;have hBr:B<=wr.heap.size:=hTF.bc;have hltY:k < (zQ defs).length:=by rw [HYD.out];exact hlt
     have htk:=ZT hltY;have hmem:=ZM hlt;obtain ⟨hfm,hsm⟩:=HFD.out _ hmem;have hyk:(zQ defs)[k]=layC defs[k]:=by simp [jC]
     have hcall:=fun W (hW:Below wr.heap.size wr W) (es:List Value) (he:zo B u es defs[k])=> zN.callC (x:=(zQ defs)[k]) (zir ob _ _ _ _) hinv.out (by omega) HTF.out.hi hW (by rw [hyk];exact hC defs[k] hsm hfm B u W es (hTF.later hW).kept (hTF.later hW).bc he);rw [<-htk] at hcall;obtain ⟨ek,hek⟩:∃x,x=defs[k]:=⟨_,rfl⟩;rw [<-hek] at f1 hcall;clear htk hek hmem;obtain ⟨g0,g1,g2,g3,g4,g5,g6,g7,g8,g9,gA,rfl⟩:=qW f1
     have hS:∀W,Below wr.heap.size wr W->(W.cell? ⟨ob,3,none⟩=some (.slice a k cap)/\W.cell? ⟨w.heap.size,3,none⟩=some (.slice (some ⟨b0,o0,none⟩) defs.length p1))/\W.cell? ⟨b0,o0 + k * 5,none⟩=some (.int .i64 g0)/\W.cell? ⟨b0,o0 + k * 5 + 1,none⟩=some (.string g1)/\W.cell? ⟨b0,o0 + k * 5 + 2,none⟩=some (.slice g2 g3 g4)/\W.cell? ⟨b0,o0 + k * 5 + 3,none⟩=some (.slice g5 g6 g7)/\W.cell? ⟨b0,o0 + k * 5 + 4,none⟩=some (.slice g8 g9 gA):=fun W hW=> by
      have hT:=hTF.later hW;exact ⟨⟨by have:=(hW.block ob hobs).trans hbx;simp [World.cell?,this],by simp [World.cell?,hT.arg]⟩,zK (e1.keep (hT.kept) hB0)⟩
     have hd:Below wr.heap.size wr wr.drew:=(ZF _ _).drew;have hc:=hcall wr.drew hd _ f1;obtain ⟨⟨s0,s1⟩,s5,s6,s7,s8,s9⟩:=hS wr.drew hd;have HS:=ZH hS;clear hc0 f1 e1 hbx hobs hS hcall hTF hku hBr hinv hd;go_wp2
     go_region_law (first
      | (revert hr;intro hr;refine zU rfl (.tmp 38) (.tmp 45) 30 30 rfl rfl rfl hr ?_)
      | (go_simp;go_wp2_with (go_at_call 152;refine hc.mono ?_;rintro e' w3 ⟨e0,e1,e2,e3,e4,e5,e6,e7,e8,e9,eA,gg,cp,w5,rfl,hb3,hr,hw1,hw2,hfin⟩;obtain ⟨⟨t0,t1⟩,t5,t6,t7,t8,t9⟩:=HS.out w3 hb3.out;obtain ⟨⟨v0,v1⟩,v5,v6,v7,v8,v9⟩:=HS.out (w3.alloc (.cells #[.int .i64 e0, .string e1, .slice e2 e3 e4, .slice e5 e6 e7, .slice e8 e9 eA] 130)) (hb3.out.alloc hb3.out.size _))))
     all_goals
      clear hr hw1 hw2 hc;go_wp2;go_roundw
      case rel=> exact ⟨k + 1,some ⟨gg,0,none⟩,cp,by omega,by go_num,hfin⟩
      case measure=> simp [intOf];omega
    ·obtain rfl:k=defs.length:=by omega
     obtain ⟨Wd,rfl⟩:∃W,W=wr:=⟨_,rfl⟩;obtain ⟨aD,rfl⟩:∃x,x=a:=⟨_,rfl⟩;obtain ⟨cD,rfl⟩:∃x,x=cap:=⟨_,rfl⟩;have HD:=ZH (zN.clausesDone' hinv.out HYD.out HTF.out.hi);have HUD:Hid (zE (ob + 1) Wa Wd):=ZH (zE.of_grown hinv.out.2.2.1 (by omega));have HTF:=ZH hTF;have HST:Hid (zN ze 33 5 ob (fun v=> .cells #[.int .i64 op, .string text, .slice aA args.length cA, .slice aD defs.length cD,v] 33) Wd [] 0 none 0 Wd):=ZH (zN.start hbx);clear hTF hku hbx hobs hinv;go_wp2
     go_loopw [6] (fun i wr=> ∃(k:Nat) (a:Option Addr) (cap:Nat),k<=kids.length/\i= .int .i64 k/\Hid (zN ze 33 5 ob (fun v=> .cells #[.int .i64 op, .string text, .slice aA args.length cA, .slice aD defs.length cD,v] 33) Wd ((qh kids).take k) k a cap wr)) (fun i _=> kids.length - (intOf i).toNat)
     case atStart=> exact ⟨0,none,0,by omega,rfl,HST⟩
     case round=>
      obtain ⟨k,a,cap,hk,rfl,hinv⟩:=hrel;have hTF:=LF.grown HTF.out hinv.out.2.2.1;have hbx:=hinv.out.2.1;have hobs:=hTF.hi;have hku:zh B u wr:=hTF.kept;have m3:wr.cell? ⟨w.heap.size,4,none⟩=some (.slice a2 kids.length p2):=by simp [World.cell?,hTF.arg]
      by_cases hlt:k < kids.length
      ·
       rcases hk0 with h0 | ⟨b0,o0,rfl,hB0,hc0⟩
       ·omega
       obtain ⟨d1,e1,f1⟩:=zu.get kids b0 o0 hc0 k hlt;have hBr:B<=wr.heap.size:=hTF.bc;have hltY:k < (qh kids).length:=by rw [HYK.out];exact hlt
       have htk:=ZT hltY;have hmem:=ZM hlt;obtain ⟨hfm,hsm⟩:=HFK.out _ hmem;have hyk:(qh kids)[k]=layT kids[k]:=by simp [zac]
       have hcall:=fun W (hW:Below wr.heap.size wr W) (es:List Value) (he:ze B u es kids[k])=> zN.callT (x:=(qh kids)[k]) (zit ob _ _ _ _) hinv.out (by omega) HTF.out.hi hW (by rw [hyk];exact hT kids[k] hsm hfm B u W es (hTF.later hW).kept (hTF.later hW).bc he);rw [<-htk] at hcall;obtain ⟨ek,hek⟩:∃x,x=kids[k]:=⟨_,rfl⟩;rw [<-hek] at f1 hcall;clear htk hek hmem;obtain ⟨g0,g1,g2,g3,g4,g5,g6,g7,g8,g9,gA,rfl⟩:=zz f1
       have hS:∀W,Below wr.heap.size wr W->(W.cell? ⟨ob,4,none⟩=some (.slice a k cap)/\W.cell? ⟨w.heap.size,4,none⟩=some (.slice (some ⟨b0,o0,none⟩) kids.length p2))/\W.cell? ⟨b0,o0 + k * 5,none⟩=some (.int .i64 g0)/\W.cell? ⟨b0,o0 + k * 5 + 1,none⟩=some (.string g1)/\W.cell? ⟨b0,o0 + k * 5 + 2,none⟩=some (.slice g2 g3 g4)/\W.cell? ⟨b0,o0 + k * 5 + 3,none⟩=some (.slice g5 g6 g7)/\W.cell? ⟨b0,o0 + k * 5 + 4,none⟩=some (.slice g8 g9 gA):=fun W hW=> by
        have hT:=hTF.later hW;exact ⟨⟨by have:=(hW.block ob hobs).trans hbx;simp [World.cell?,this],by simp [World.cell?,hT.arg]⟩,zK (e1.keep (hT.kept) hB0)⟩
       have hd:Below wr.heap.size wr wr.drew:=(ZF _ _).drew;have hc:=hcall wr.drew hd _ f1;obtain ⟨⟨s0,s1⟩,s5,s6,s7,s8,s9⟩:=hS wr.drew hd;have HS:=ZH hS;clear hc0 f1 e1 hbx hobs hS hcall hTF hku hBr hinv hd;go_wp2
       go_region_law (first
        | (revert hr;intro hr;refine zU rfl (.tmp 56) (.tmp 63) 31 31 rfl rfl rfl hr ?_)
        | (go_simp;go_wp2_with (go_at_call 106;refine hc.mono ?_;rintro e' w3 ⟨e0,e1,e2,e3,e4,e5,e6,e7,e8,e9,eA,gg,cp,w5,rfl,hb3,hr,hw1,hw2,hfin⟩;obtain ⟨⟨t0,t1⟩,t5,t6,t7,t8,t9⟩:=HS.out w3 hb3.out;obtain ⟨⟨v0,v1⟩,v5,v6,v7,v8,v9⟩:=HS.out (w3.alloc (.cells #[.int .i64 e0, .string e1, .slice e2 e3 e4, .slice e5 e6 e7, .slice e8 e9 eA] 33)) (hb3.out.alloc hb3.out.size _))))
       all_goals
        clear hr hw1 hw2 hc;go_wp2;go_roundw
        case rel=> exact ⟨k + 1,some ⟨gg,0,none⟩,cp,by omega,by go_num,hfin⟩
        case measure=> simp [intOf];omega
      ·obtain rfl:k=kids.length:=by omega
       have hK:=zN.termsDone' hinv.out HYK.out HTF.out.hi;have hup:zE (ob + 1) Wd wr:=zE.of_grown hinv.out.2.2.1 (by omega);obtain ⟨vv0,vv1,vv2,vv3,vv4,-,-,-,-,-⟩:=qC hbx;have hre:wr.heap[w.heap.size + 1]?=some o33:=hTF.res;obtain ⟨zz0,zz1,zz2,zz3,zz4,zz5,zz6,zz7,zz8,zz9⟩:=qC hre;have mop:wr.cell? ⟨w.heap.size,0,none⟩=some (.int .i64 op):=by simp [World.cell?,hTF.arg]
       have hlo:=hTF.lo;have hbw:=hTF.below
       have hmade:ze wr.heap.size (blank (ob + 1) wr) [.int .i64 op, .string text, .slice aA args.length cA, .slice aD defs.length cD, .slice a kids.length cap] (Term.mk op text args (zQ defs) (qh kids)):=
        ⟨htz,_,_,_,rfl,zft HA.out (HUD.out.trans hup) (ZL _),by rw [HYD.out];exact zai HD.out hup (ZL _),by rw [HYK.out];exact hK⟩
       have hset:∀(W:World) (x0 x1 x2 x3 x4:Value),zE (ob + 1) W (((((W.setCell ⟨w.heap.size + 1,0,none⟩ (x0)).setCell ⟨w.heap.size + 1,1,none⟩ (x1)).setCell ⟨w.heap.size + 1,2,none⟩ (x2)).setCell ⟨w.heap.size + 1,3,none⟩ (x3)).setCell ⟨w.heap.size + 1,4,none⟩ (x4)):=fun W x0 x1 x2 x3 x4=> ((((zE.set W (by omega) 0 _).trans (zE.set _ (by omega) 1 _)).trans (zE.set _ (by omega) 2 _)).trans (zE.set _ (by omega) 3 _)).trans (zE.set _ (by omega) 4 _);by_cases h3:op=3
       ·have HLY:Hid (lt=qw (zG (Term.mk op text args (zQ defs) (qh kids)))):=ZH (by rw [HLT.out,layT])
        have hfh:=zlI HFH.out
        have hsl:(zG (Term.mk op text args (zQ defs) (qh kids))).length<=60:=by
         have h1:=zaa (Term.mk op text args (zQ defs) (qh kids));have h2:=hfh.1;have h5:(Part.proc (Term.mk op text args (zQ defs) (qh kids))).size=(qL 0 (Term.mk op text args (zQ defs) (qh kids))).length:=rfl;omega
        have h96:Calls Tryz.prog 96 #[.slice none 0 0, .agg #[.int .i64 op, .string text, .slice aA args.length cA, .slice aD defs.length cD, .slice a kids.length cap]] wr fun e w'=> ∃v',e= .returned v'/\Hid (yL wr.heap.size (zG (Term.mk op text args (zQ defs) (qh kids))) v' w'/\Below wr.heap.size wr w'):=by
         refine (zaC _ (Term.mk op text args (zQ defs) (qh kids)) (ZL _) hfh wr.heap.size wr.heap.size wr wr (.slice none 0 0) [] _ (zh.refl _ _) (ZL _) (ZL _) (yL.nil _ _) (by simp;omega) (ze.keep (q9 _ _ _) (ZL _) _ _ hmade)).mono ?_;rintro e w' ⟨v',rfl,h1,h2,-⟩;rw [List.nil_append] at h1;exact ⟨v',rfl,ZH ⟨h1,(ZF _ _).grown h2 (ZL _) (fun r e=> by cases e)⟩⟩
        have H97:Hid (∀W v',(yL wr.heap.size (zG (Term.mk op text args (zQ defs) (qh kids))) v' W/\Below wr.heap.size wr W)->Calls Tryz.prog 97 #[v'] W fun e w'=> ∃(c0:Int) (c1:ByteArray) (c2:Option Addr) (c3 c4:Nat) (c5:Option Addr) (c6 c7:Nat) (c8:Option Addr) (c9 c10:Nat),e= .returned (.agg #[.int .i64 c0, .string c1, .slice c2 c3 c4, .slice c5 c6 c7, .slice c8 c9 c10])/\(w'.cell? ⟨w.heap.size + 1,0,none⟩=some (.int .i64 0)/\w'.cell? ⟨w.heap.size + 1,1,none⟩=some (.string ⟨#[]⟩)/\w'.cell? ⟨w.heap.size + 1,2,none⟩=some (.slice none 0 0)/\w'.cell? ⟨w.heap.size + 1,3,none⟩=some (.slice none 0 0)/\w'.cell? ⟨w.heap.size + 1,4,none⟩=some (.slice none 0 0)/\w'.frozen? ⟨w.heap.size + 1,0,none⟩=false/\w'.frozen? ⟨w.heap.size + 1,1,none⟩=false/\w'.frozen? ⟨w.heap.size + 1,2,none⟩=false/\w'.frozen? ⟨w.heap.size + 1,3,none⟩=false/\w'.frozen? ⟨w.heap.size + 1,4,none⟩=false)/\
          Hid (ze w'.heap.size (blank w.heap.size (((((w'.setCell ⟨w.heap.size + 1,0,none⟩ (.int .i64 c0)).setCell ⟨w.heap.size + 1,1,none⟩ (.string c1)).setCell ⟨w.heap.size + 1,2,none⟩ (.slice c2 c3 c4)).setCell ⟨w.heap.size + 1,3,none⟩ (.slice c5 c6 c7)).setCell ⟨w.heap.size + 1,4,none⟩ (.slice c8 c9 c10))) [.int .i64 c0, .string c1, .slice c2 c3 c4, .slice c5 c6 c7, .slice c8 c9 c10] (qw (zG (Term.mk op text args (zQ defs) (qh kids))))/\Below w.heap.size w (((((w'.setCell ⟨w.heap.size + 1,0,none⟩ (.int .i64 c0)).setCell ⟨w.heap.size + 1,1,none⟩ (.string c1)).setCell ⟨w.heap.size + 1,2,none⟩ (.slice c2 c3 c4)).setCell ⟨w.heap.size + 1,3,none⟩ (.slice c5 c6 c7)).setCell ⟨w.heap.size + 1,4,none⟩ (.slice c8 c9 c10)))):=ZH fun W v' hW=> by
         obtain ⟨hrow,hb⟩:=hW;refine (zf6 _ (by omega) W.heap.size (blank wr.heap.size W) W v' (q9 _ _ _) (ZL _) hrow.terms).mono ?_;rintro e w' ⟨rs,rfl,hb2,hX⟩;have hat:=hX (blank wr.heap.size w') (qg (ZL _) fun b o x hA hlt' hv=> (hb2.cell (p:=⟨b,o,none⟩) hlt').trans hv) (fun b o x hle hv=> by rw [yT,if_neg (by have:=hb.size;omega)];exact hv);obtain ⟨c0,c1,c2,c3,c4,c5,c6,c7,c8,c9,c10,rfl⟩:=zz hat;have hb3:Below wr.heap.size wr w':=hb.trans (hb2.mono hb.size);refine ⟨c0,c1,c2,c3,c4,c5,c6,c7,c8,c9,c10,rfl,qC ((hb3.block (w.heap.size + 1) (ZG hre).1).trans hre),ZH ⟨?_,set5 (hbw.trans (hb3.mono hbw.size)) _ (by omega) _ _ _ _ _⟩⟩;exact ze.keep ((hset w' _ _ _ _ _).blank (A':=w.heap.size) (by omega) |> fun h=> (qg (A:=wr.heap.size) (A':=ob + 1) (by have:=hTF.hi;omega) fun b o v _ _ hv=> hv).trans h) (ZL _) _ _ hat
        subst h3;clear hK hup hre hlo hbw hmade hset hfh hsl hTF hku hbx hobs hinv HST
        go_wp2_with (first
         | (go_at_call 96;refine h96.mono ?_;clear h96;rintro e w3 ⟨v',rfl,H3⟩)
         | (go_at_call 97;refine (H97.out w3 v' H3.out).mono ?_;clear H97;rintro e w4 ⟨c0,c1,c2,c3,c4,c5,c6,c7,c8,c9,c10,rfl,⟨y0,y1,y2,y3,y4,y5,y6,y7,y8,y9⟩,HF⟩))
        simp [bodyPost,results,Tryz.results106,go_sem,y0,y1,y2,y3,y4];rw [HLY.out];simpa [World.setCell] using HF.out
       ·have HLY:Hid (lt=(Term.mk op text args (zQ defs) (qh kids))):=ZH (by rw [HLT.out];exact zkV HFH.out h3)
        have hres:ze wr.heap.size (blank w.heap.size (((((wr.setCell ⟨w.heap.size + 1,0,none⟩ (.int .i64 op)).setCell ⟨w.heap.size + 1,1,none⟩ (.string text)).setCell ⟨w.heap.size + 1,2,none⟩ (.slice aA args.length cA)).setCell ⟨w.heap.size + 1,3,none⟩ (.slice aD defs.length cD)).setCell ⟨w.heap.size + 1,4,none⟩ (.slice a kids.length cap))) [.int .i64 op, .string text, .slice aA args.length cA, .slice aD defs.length cD, .slice a kids.length cap] (Term.mk op text args (zQ defs) (qh kids))/\Below w.heap.size w (((((wr.setCell ⟨w.heap.size + 1,0,none⟩ (.int .i64 op)).setCell ⟨w.heap.size + 1,1,none⟩ (.string text)).setCell ⟨w.heap.size + 1,2,none⟩ (.slice aA args.length cA)).setCell ⟨w.heap.size + 1,3,none⟩ (.slice aD defs.length cD)).setCell ⟨w.heap.size + 1,4,none⟩ (.slice a kids.length cap)):=
         ⟨ze.keep ((hset wr _ _ _ _ _).blank (by omega)) (ZL _) _ _ hmade,set5 hbw _ (by omega) _ _ _ _ _⟩
        have HRES:=ZH hres;have d3:decide (op=3)=false:=by simpa using h3
        have d4:(op==3)=false:=by simpa using h3
        have d5:(op !=3)=true:=by simpa using h3
        clear hK hup hre hlo hbw hmade hset hres hTF hku hbx hobs hinv HST h3;go_wp2;simp [bodyPost,results,Tryz.results106,go_sem,zz0,zz1,zz2,zz3,zz4];rw [HLY.out];simpa [World.setCell] using HRES.out
end Go.Proofs.YtjmlaeofjjhfmaaGreat
