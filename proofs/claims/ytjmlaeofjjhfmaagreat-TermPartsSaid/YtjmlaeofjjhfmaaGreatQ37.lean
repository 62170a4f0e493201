/- Lemmas. -/
import Derived.Test.YtjmlaeofjjhfmaaGreatQ36
set_option linter.unusedVariables false
set_option linter.unusedSimpArgs false
set_option maxRecDepth 10000
set_option maxHeartbeats 16000000
namespace Go.Proofs.YtjmlaeofjjhfmaaGreat
open Go.RowKit Go.Shelf Go.Maps
abbrev o33:Obj:= .cells #[.int .i64 0, .string ⟨#[]⟩, .slice none 0 0, .slice none 0 0, .slice none 0 0] 33
theorem zN.expsDone {ob:Nat} {box:Value->Obj} {W2:World} {l:List Exp} {a:Option Addr} {cap:Nat} {wr:World} (h:zN zy 36 4 ob box W2 (l.take l.length) l.length a cap wr) (hob:ob < W2.heap.size):SlAt wr.heap.size (.slice a l.length cap) l.length (fun b off=> zW wr.heap.size (blank (ob + 1) wr) b off l):=by
 rw [List.take_length] at h;obtain ⟨_,_,_,vals,ho,hc⟩:=h;exact zft (zgP ho hc) (zE.refl _ _) hob
theorem zN.clausesDone {ob:Nat} {box:Value->Obj} {W2:World} {l:List zg} {a:Option Addr} {cap:Nat} {wr:World} (h:zN zo 130 5 ob box W2 (l.take l.length) l.length a cap wr) (hob:ob < W2.heap.size):SlAt wr.heap.size (.slice a l.length cap) l.length (fun b off=> zr wr.heap.size (blank (ob + 1) wr) b off l):=by
 rw [List.take_length] at h;obtain ⟨_,_,_,vals,ho,hc⟩:=h;exact zai (zgf ho hc) (zE.refl _ _) hob
theorem zN.termsDone {ob:Nat} {box:Value->Obj} {W2:World} {l:List Term} {a:Option Addr} {cap:Nat} {wr:World} (h:zN ze 33 5 ob box W2 (l.take l.length) l.length a cap wr) (hob:ob < W2.heap.size):SlAt wr.heap.size (.slice a l.length cap) l.length (fun b off=> zu wr.heap.size (blank (ob + 1) wr) b off l):=by
 rw [List.take_length] at h;obtain ⟨_,_,_,vals,ho,hc⟩:=h;exact zcy (zfk ho hc) (zE.refl _ _) hob
theorem qC {W:World} {n:Nat} {v0 v1 v2 v3 v4:Value} (h:W.heap[n]?=some (.cells #[v0,v1,v2,v3,v4] 33)):W.cell? ⟨n,0,none⟩=some v0/\W.cell? ⟨n,1,none⟩=some v1/\W.cell? ⟨n,2,none⟩=some v2/\W.cell? ⟨n,3,none⟩=some v3/\W.cell? ⟨n,4,none⟩=some v4/\
  W.frozen? ⟨n,0,none⟩=false/\W.frozen? ⟨n,1,none⟩=false/\W.frozen? ⟨n,2,none⟩=false/\W.frozen? ⟨n,3,none⟩=false/\W.frozen? ⟨n,4,none⟩=false:=
 ⟨by simp [World.cell?,h],by simp [World.cell?,h],by simp [World.cell?,h],by simp [World.cell?,h],by simp [World.cell?,h],by simp [World.frozen?,h],by simp [World.frozen?,h],by simp [World.frozen?,h],by simp [World.frozen?,h],by simp [World.frozen?,h]⟩
theorem zkE (s:Nat) (hT:zgv s) (hC:zdi s):zgv (s + 1):=by
 intro t hsz hf c hid hcl B u w wb c1 c2 hu hB hw hc ht;obtain ⟨op,text,args,defs,kids⟩:=t;obtain ⟨htz,va,vd,vk,rfl,hsa,hsd,hsk⟩:=ht;obtain ⟨a0,p0,rfl,hla,ha⟩:=hsa;obtain ⟨a1,p1,rfl,hld,hd0⟩:=hsd;obtain ⟨a2,p2,rfl,hlk,hk0⟩:=hsk;have hch:=hc;obtain ⟨⟨v1,v2,rfl,hs1,hs2⟩,-⟩:=hc;obtain ⟨q0,r0,rfl,-⟩:=hs1;obtain ⟨q1,r1,rfl,-⟩:=hs2;obtain ⟨x1,hx1⟩:∃x,x=(c.map (·.1)).length:=⟨_,rfl⟩;obtain ⟨x2,hx2⟩:∃x,x=c.length:=⟨_,rfl⟩;rw [<-hx1,<-hx2] at hch;rw [<-hx1,<-hx2];clear hx1 hx2;obtain ⟨hl1,hl2,hl3⟩:=zdw hf;have hsA:=zds hf
 have hfd:∀d∈defs,Fit0 (.def_ d)/\(Part.def_ d).size<=s:=fun d hd=> by
  have hp:Part.def_ d∈(Part.proc (.mk op text args defs kids)).parts:=by
   rw [Part.parts];simp only [List.mem_append,List.mem_map];exact .inl (.inr ⟨d,hd,rfl⟩)
  exact ⟨jr hf hp,by have:=qi hp;omega⟩
 have hfk:∀d∈kids,Fit0 (.proc d)/\(Part.proc d).size<=s:=fun d hd=> by
  have hp:Part.proc d∈(Part.proc (.mk op text args defs kids)).parts:=by
   rw [Part.parts];simp only [List.mem_append,List.mem_map];exact .inr ⟨d,hd,rfl⟩
  exact ⟨jr hf hp,by have:=qi hp;omega⟩
 have hfo:=fun hop=> zhO hf hop;have hwl:wb < w.heap.size:=(ZG hw).1;obtain ⟨W1,hW1⟩:∃W1,W1=((w.alloc (.cells #[.slice q0 x1 r0, .slice q1 x2 r1] 111)).alloc (.cells #[.int .i64 op, .string text, .slice a0 args.length p0, .slice a1 defs.length p1, .slice a2 kids.length p2] 33)).alloc o33:=⟨_,rfl⟩;have z1:W1.heap.size=w.heap.size + 3:=by rw [hW1];simp
 have b1:Below w.heap.size w W1:=by rw [hW1];exact ((ZQ w _).alloc (by simp) _).alloc (by simp;omega) _
 have k0:W1.heap[w.heap.size]?=some (.cells #[.slice q0 x1 r0, .slice q1 x2 r1] 111):=by
  rw [hW1,ZO _ _ _ (by simp;omega),ZO _ _ _ (by simp)];exact ZN w _
 have k1:W1.heap[w.heap.size + 1]?=some (.cells #[.int .i64 op, .string text, .slice a0 args.length p0, .slice a1 defs.length p1, .slice a2 kids.length p2] 33):=by
  rw [hW1,ZO _ _ _ (by simp)];have:=ZN (w.alloc (.cells #[.slice q0 x1 r0, .slice q1 x2 r1] 111)) (.cells #[.int .i64 op, .string text, .slice a0 args.length p0, .slice a1 defs.length p1, .slice a2 kids.length p2] 33);rwa [World.size_alloc] at this
 have k2:W1.heap[w.heap.size + 2]?=some o33:=by
  rw [hW1];have:=ZN ((w.alloc (.cells #[.slice q0 x1 r0, .slice q1 x2 r1] 111)).alloc (.cells #[.int .i64 op, .string text, .slice a0 args.length p0, .slice a1 defs.length p1, .slice a2 kids.length p2] 33)) o33;rwa [World.size_alloc,World.size_alloc] at this
 have hTF1:∀W ob,Below W1.heap.size W1 W->w.heap.size + 3<=ob->ob < W.heap.size->TF w wb ob (.cells #[.int .i64 op, .string text, .slice a0 args.length p0, .slice a1 defs.length p1, .slice a2 kids.length p2] 33) o33 B u q0 x1 r0 q1 x2 r1 W:=fun W ob hW h3 h4=> by
  have hbw:=b1.trans (hW.mono (by omega));exact ⟨(hW.block _ (by omega)).trans k0,(hW.block _ (by omega)).trans k1,(hW.block _ (by omega)).trans k2,(hbw.block wb hwl).trans hw,hu.trans ((Below.keptC hbw).mono hB),by have:=hbw.size;omega,hbw,hwl,h3,h4,fun _ _ _=> by omega⟩
 have hS1:∀W,Below W1.heap.size W1 W->W.cell? ⟨w.heap.size,0,none⟩=some (.slice q0 x1 r0)/\W.cell? ⟨w.heap.size,1,none⟩=some (.slice q1 x2 r1)/\W.cell? ⟨w.heap.size + 1,0,none⟩=some (.int .i64 op)/\W.cell? ⟨w.heap.size + 1,1,none⟩=some (.string text):=fun W hW=> by
  have e0:=(hW.block w.heap.size (by omega)).trans k0;have e1:=(hW.block (w.heap.size + 1) (by omega)).trans k1;exact ⟨by simp [World.cell?,e0],by simp [World.cell?,e0],by simp [World.cell?,e1],by simp [World.cell?,e1]⟩
 have hcall1:∀W,Below W1.heap.size W1 W->Calls Tryz.prog 131 #[.pointer (some ⟨wb,0,none⟩), .agg #[.slice q0 x1 r0, .slice q1 x2 r1], .string text] W fun e w'=> e= .returned (.string text)/\Hid (Below W1.heap.size W1 w')/\Hid (∀b o,W.heap[b]?=some o->w'.heap[b]?=some o):=fun W hW=> by
  have hbw:=b1.trans (hW.mono (by omega));refine (zd8 c hid B u W [.slice q0 x1 r0, .slice q1 x2 r1] text wb 0 ⟨#[]⟩ (.slice none 0 0) (.slice none 0 0) (hu.trans ((Below.keptC hbw).mono hB)) (by have:=hbw.size;omega) hch.1 ((hbw.block wb hwl).trans hw)).mono ?_;rintro e w' ⟨rfl,hb⟩;exact ⟨rfl,ZH (hW.trans (hb.mono hW.size)),ZH fun b o ho=> (hb.block b (ZG ho).1).trans ho⟩
 have HSA:=ZH hsA;have HFD:=ZH hfd;have HFK:=ZH hfk;have HFO:=ZH hfo;have HCL:=ZH hcl;have HSZ:=ZH hsz;clear hsA hfd hfk hfo hcl hsz;have HBW:Hid (Below W1.heap.size W1 W1.drew):=ZH (ZF _ _).drew;have HS1:=ZH hS1;have HTF1:=ZH hTF1;have HW:=ZH hW1;have HZ:=ZH z1;have k0':=k0;have k1':=k1;rw [hW1] at k0' k1';clear hS1 hTF1 hW1 z1 b1 k0 k1 k2 hw hf hla hld hlk;go_enter Tryz.func81,Tryz.ntmps81;go_upto_region 1 with fail;rw [<-HW.out]
 go_cut [7] from 12 (fun v7 wx=> ∃(ob:Nat),v7= .pointer (some ⟨ob,0,none⟩)/\Hid (w.heap.size + 3<=ob/\wx.heap[ob]?=some (.cells #[.int .i64 op, .string text, .slice none 0 0, .slice none 0 0, .slice none 0 0] 33)/\Below W1.heap.size W1 wx))
 case first=>
  clear k0' k1' ha hd0 hk0
  go_region_held3 (fun W=> W.cell? ⟨w.heap.size,0,none⟩=some (.slice q0 x1 r0)/\W.cell? ⟨w.heap.size,1,none⟩=some (.slice q1 x2 r1)/\W.cell? ⟨w.heap.size + 1,0,none⟩=some (.int .i64 op)/\W.cell? ⟨w.heap.size + 1,1,none⟩=some (.string text))
   (first | exact HS1.out _ HBW.out | exact HS1.out _ (HBW.out.alloc HBW.out.size _) | exact HS1.out _ (set5 HBW.out W1.heap.size (ZL _) _ _ _ _ _) | go_keep)
   (first
    | (go_at_call 131;refine (hcall1 _ HBW.out).mono ?_;rintro e w3 ⟨rfl,HBW,HKP⟩)
    | (go_at_call 131;refine (hcall1 _ (HBW.out.alloc HBW.out.size o33)).mono ?_;rintro e w3 ⟨rfl,HBW,HKP⟩;have hN:=HKP.out W1.heap.size o33 (ZN W1.drew o33);obtain ⟨cn0,cn1,cn2,cn3,cn4,cn5,cn6,cn7,cn8,cn9⟩:=qC hN))
  all_goals
   go_wp2_with fail;go_meet
   first
    | (have hN':=hN;exact ⟨_,rfl,ZH ⟨by have:=HZ.out;omega,zd9 hN _ _ _ _ _,set5 HBW.out _ (ZL _) _ _ _ _ _⟩⟩)
    | exact ⟨_,rfl,ZH ⟨by have:=HZ.out;have:=HBW.out.size;omega,ZN _ _,HBW.out.alloc HBW.out.size _⟩⟩
 case rest=>
  obtain ⟨ob,rfl,hO⟩:=hcut;obtain ⟨W0,rfl⟩:∃W,W=wc:=⟨_,rfl⟩;have HTF:Hid (TF w wb ob (.cells #[.int .i64 op, .string text, .slice a0 args.length p0, .slice a1 defs.length p1, .slice a2 kids.length p2] 33) o33 B u q0 x1 r0 q1 x2 r1 W0/\zh B u u/\B<=B):=ZH ⟨HTF1.out W0 ob hO.out.2.2 hO.out.1 (ZG hO.out.2.1).1,zh.refl _ _,ZL _⟩;have HST:Hid (zN zy 36 4 ob (fun v=> .cells #[.int .i64 op, .string text,v, .slice none 0 0, .slice none 0 0] 33) W0 [] 0 none 0 W0):=ZH (zN.start hO.out.2.1);clear HBW hcall1 HS1 k0' k1';go_wp2
  go_loopw [8] (fun i wr=> ∃(k:Nat) (a:Option Addr) (cap:Nat),k<=args.length/\i= .int .i64 k/\Hid (zN zy 36 4 ob (fun v=> .cells #[.int .i64 op, .string text,v, .slice none 0 0, .slice none 0 0] 33) W0 (args.take k) k a cap wr)) (fun i _=> args.length - (intOf i).toNat)
  case atStart=> exact ⟨0,none,0,by omega,rfl,HST⟩
  case round=>
   obtain ⟨k,a,cap,hk,rfl,hinv⟩:=hrel;have hTF:=TF.grown HTF.out.1 hinv.out.2.2.1;have hbx:=hinv.out.2.1;have hobs:=hTF.hi;have hku:zh B u wr:=HTF.out.2.1.trans (hTF.kept.mono HTF.out.2.2);have m3:wr.cell? ⟨w.heap.size + 1,2,none⟩=some (.slice a0 args.length p0):=by simp [World.cell?,hTF.arg]
   by_cases hlt:k < args.length
   ·
    rcases ha with h0 | ⟨b0,o0,rfl,hB0,hc0⟩
    ·omega
    obtain ⟨d1,e1,f1⟩:=zW.get args b0 o0 hc0 k hlt;have hBr:B<=wr.heap.size:=Nat.le_trans HTF.out.2.2 hTF.bc;have htk:=ZT hlt;have hmem:=ZM hlt;have hsh:=HSA.out _ hmem;have hcall:=fun W (hW:Below wr.heap.size wr W) (es:List Value) (he:zy B u es args[k])=> zN.callE (ziq ob _ _ _ _) hinv.out (by omega) HTF.out.1.hi hW (zmw c hid args[k] hsh B u W [.slice q0 x1 r0, .slice q1 x2 r1] es (hTF.later hW).kept (hTF.later hW).bc hch.1 he);rw [<-htk] at hcall;obtain ⟨ek,hek⟩:∃x,x=args[k]:=⟨_,rfl⟩;rw [<-hek] at f1 hcall;clear htk hek hmem;obtain ⟨g0,g1,g2,g3,g4,g5,rfl⟩:=qG f1
    have hS:∀W,Below wr.heap.size wr W->(W.cell? ⟨ob,2,none⟩=some (.slice a k cap)/\W.cell? ⟨w.heap.size,0,none⟩=some (.slice q0 x1 r0)/\W.cell? ⟨w.heap.size,1,none⟩=some (.slice q1 x2 r1)/\W.cell? ⟨w.heap.size + 1,2,none⟩=some (.slice (some ⟨b0,o0,none⟩) args.length p0))/\W.cell? ⟨b0,o0 + k * 4,none⟩=some (.int .i64 g0)/\W.cell? ⟨b0,o0 + k * 4 + 1,none⟩=some (.int .i64 g1)/\W.cell? ⟨b0,o0 + k * 4 + 2,none⟩=some (.string g2)/\W.cell? ⟨b0,o0 + k * 4 + 3,none⟩=some (.slice g3 g4 g5):=fun W hW=> by
     have hT:=hTF.later hW;obtain ⟨y0,y1,_,_⟩:=hT.chgCells;exact ⟨⟨by have:=(hW.block ob hobs).trans hbx;simp [World.cell?,this],y0,y1,by simp [World.cell?,hT.arg]⟩,jd (e1.keep (HTF.out.2.1.trans (hT.kept.mono HTF.out.2.2)) hB0)⟩
    have hd:Below wr.heap.size wr wr.drew:=(ZF _ _).drew;have hc:=hcall wr.drew hd _ f1;obtain ⟨⟨s0,s1,s2,s3⟩,s5,s6,s7,s8⟩:=hS wr.drew hd;have HS:=ZH hS;clear hc0 f1 e1 hbx hobs hS hcall hTF hku hBr hinv hd;go_wp2
    go_region_law (first
     | (revert hr;intro hr;refine zU rfl (.tmp 28) (.tmp 36) 29 29 rfl rfl rfl hr ?_)
     | (go_simp;go_wp2_with (go_at_call 92;refine hc.mono ?_;rintro e' w3 ⟨e0,e1,e2,e3,e4,e5,gg,cp,w5,rfl,hb3,hr,hw1,hw2,hfin⟩;obtain ⟨⟨t0,t1,t2,t3⟩,t5,t6,t7,t8⟩:=HS.out w3 hb3.out;obtain ⟨⟨v0,v1,v2,v3⟩,v5,v6,v7,v8⟩:=HS.out (w3.alloc (.cells #[.int .i64 e0, .int .i64 e1, .string e2, .slice e3 e4 e5] 36)) (hb3.out.alloc hb3.out.size _))))
    all_goals
     clear hr hw1 hw2 hc;go_wp2;go_roundw
     case rel=> exact ⟨k + 1,some ⟨gg,0,none⟩,cp,by omega,by go_num,hfin⟩
     case measure=> simp [intOf];omega
   ·obtain rfl:k=args.length:=by omega
    obtain ⟨Wa,rfl⟩:∃W,W=wr:=⟨_,rfl⟩;obtain ⟨aA,rfl⟩:∃x,x=a:=⟨_,rfl⟩;obtain ⟨cA,rfl⟩:∃x,x=cap:=⟨_,rfl⟩;have HA:=ZH (zN.expsDone hinv.out HTF.out.1.hi);obtain ⟨c',hc'⟩:∃x,x=if op=4 then zaD c (qb defs ++ zi defs) else c:=⟨_,rfl⟩
    have hid':IdC c':=by
     rw [hc']
     split
     ·exact hid.plus _
     ·exact hid
    have hcl':c'.length + 900 * s<=80000:=by
     have g0:=HCL.out;rw [hc']
     split
     ·rename_i hop
      obtain ⟨_,h180,h60⟩:=HFO.out hop;have g1:=yR [] (zl (zm defs));have g2:=yx defs;unfold zZ at h60;unfold zaD qb;simp only [List.length_append,List.length_map,List.length_nil] at g1 ⊢;omega
     ·omega
    have HCL2:=ZH hcl';have HC':=ZH hc';have HTA:=ZH (And.intro hTF (And.intro hku hbx));have mop:Wa.cell? ⟨w.heap.size + 1,0,none⟩=some (.int .i64 op):=by simp [World.cell?,hTF.arg]
    have md:Wa.cell? ⟨w.heap.size + 1,3,none⟩=some (.slice a1 defs.length p1):=by simp [World.cell?,hTF.arg]
    clear hcl' hc' hTF hku hbx hobs hinv HST
    go_upto_if 41 with fail
    go_cut [9] from 39 (fun s9 wx=> ∃(y0:Option Addr) (y1 y2:Nat) (y3:Option Addr) (y4 y5:Nat) (Bc:Nat) (uc:World),Hid (TF w wb ob (.cells #[.int .i64 op, .string text, .slice a0 args.length p0, .slice a1 defs.length p1, .slice a2 kids.length p2] 33) o33 Bc uc y0 y1 y2 y3 y4 y5 wx/\zh B u uc/\B<=Bc/\zE (ob + 1) Wa wx/\xI Bc uc [.slice y0 y1 y2, .slice y3 y4 y5] c'/\wx.heap[ob]?=some (.cells #[.int .i64 op, .string text, .slice aA args.length cA, .slice none 0 0, .slice none 0 0] 33)))
    case first=>
     by_cases hop:op=4
     ·obtain ⟨hok,h180,h60⟩:=HFO.out hop
      have hc'e:c'=zaD c (qb defs ++ zi defs):=by rw [HC'.out,if_pos hop]
      subst hop;obtain ⟨hTF,hku,hbx⟩:=HTA.out;have hb52:=zdb B u defs hok (by omega) a1 p1 (by omega) hd0 Wa hku hTF.bc
      have hbl240:(qb defs ++ zi defs).length<=840:=by
       have g1:=yR [] (zl (zm defs));have g2:=yx defs;unfold zZ at h60;unfold qb;simp only [List.length_append,List.length_nil] at g1 ⊢;omega
      obtain ⟨bl,hbl⟩:∃x,x=qb defs ++ zi defs:=⟨_,rfl⟩;rw [<-hbl] at hb52 hc'e hbl240;have hcc:∀W,Below Wa.heap.size Wa W->W.cell? ⟨w.heap.size,0,none⟩=some (.slice q0 x1 r0)/\W.cell? ⟨w.heap.size,1,none⟩=some (.slice q1 x2 r1)/\W.frozen? ⟨w.heap.size,0,none⟩=false/\W.frozen? ⟨w.heap.size,1,none⟩=false:=fun W hW=> (hTF.later hW).chgCells
      have h134:∀W,Below Wa.heap.size Wa W->Calls Tryz.prog 134 #[.pointer (some ⟨wb,0,none⟩), .agg #[.slice q0 x1 r0, .slice q1 x2 r1]] W fun e w'=> e= .returned (.bool false)/\Hid (Below Wa.heap.size Wa w'/\∀v,zx W.heap.size W v bl->zx w'.heap.size w' v bl):=fun W hW=> by
       refine (ziu W _ _ wb 0 _ _ _ _ (by decide) (hTF.later hW).walk).mono ?_;rintro e w' ⟨rfl,hb⟩;exact ⟨rfl,ZH ⟨hW.trans (hb.mono hW.size),fun v hv=> hv.later hb⟩⟩
      have h133:∀W v,Below Wa.heap.size Wa W->zx W.heap.size W v bl->Calls Tryz.prog 133 #[.pointer (some ⟨wb,0,none⟩),v, .bool false] W fun e w'=> ∃v',e= .returned v'/\Hid (zx w'.heap.size w' v bl/\zx w'.heap.size w' v' bl/\Below Wa.heap.size Wa w'):=fun W v hW hv=> by
       refine (zgb bl W v wb 0 _ _ _ _ false (by decide) (by decide) (hTF.later hW).walk hv (by omega)).mono ?_;rintro e w' ⟨v',rfl,ho,hb⟩;exact ⟨v',rfl,ZH ⟨hv.later hb,ho.strs,hW.trans (hb.mono hW.size)⟩⟩
      have hcl0:=HCL.out
      have h132:∀W v v',Below Wa.heap.size Wa W->zx W.heap.size W v bl->zx W.heap.size W v' bl->Calls Tryz.prog 132 #[.agg #[.slice q0 x1 r0, .slice q1 x2 r1],v,v'] W fun e w'=> ∃y0 y1 y2 y3 y4 y5,e= .returned (.agg #[.slice y0 y1 y2, .slice y3 y4 y5])/\(w'.cell? ⟨w.heap.size,0,none⟩=some (.slice q0 x1 r0)/\w'.cell? ⟨w.heap.size,1,none⟩=some (.slice q1 x2 r1)/\w'.frozen? ⟨w.heap.size,0,none⟩=false/\w'.frozen? ⟨w.heap.size,1,none⟩=false)/\w'.cell? ⟨w.heap.size + 1,0,none⟩=some (.int .i64 4)/\((w'.setCell ⟨w.heap.size,0,none⟩ (.slice y0 y1 y2)).setCell ⟨w.heap.size,1,none⟩ (.slice y3 y4 y5)).cell? ⟨w.heap.size + 1,0,none⟩=some (.int .i64 4)/\
        Hid (∃(Bc:Nat) (uc:World),TF w wb ob (.cells #[.int .i64 4, .string text, .slice a0 args.length p0, .slice a1 defs.length p1, .slice a2 kids.length p2] 33) o33 Bc uc y0 y1 y2 y3 y4 y5 ((w'.setCell ⟨w.heap.size,0,none⟩ (.slice y0 y1 y2)).setCell ⟨w.heap.size,1,none⟩ (.slice y3 y4 y5))/\zh B u uc/\B<=Bc/\zE (ob + 1) Wa ((w'.setCell ⟨w.heap.size,0,none⟩ (.slice y0 y1 y2)).setCell ⟨w.heap.size,1,none⟩ (.slice y3 y4 y5))/\xI Bc uc [.slice y0 y1 y2, .slice y3 y4 y5] c'/\((w'.setCell ⟨w.heap.size,0,none⟩ (.slice y0 y1 y2)).setCell ⟨w.heap.size,1,none⟩ (.slice y3 y4 y5)).heap[ob]?=some (.cells #[.int .i64 4, .string text, .slice aA args.length cA, .slice none 0 0, .slice none 0 0] 33)):=fun W v v' hW hv hv'=> by
       have hT:=hTF.later hW;have hkW:zh B u W:=hT.kept;have hBW:B<=W.heap.size:=hT.bc;refine (zhl c bl bl rfl B u W [.slice q0 x1 r0, .slice q1 x2 r1] v v' hkW hBW hch hv hv' (by omega) (by omega)).mono ?_;rintro e w' ⟨rs,rfl,hin,hb⟩;rw [zee,<-hc'e] at hin;have hin':=hin;obtain ⟨⟨v1,v2,rfl,hs1,hs2⟩,-⟩:=hin';obtain ⟨y0,y2,rfl,-⟩:=hs1;obtain ⟨y3,y5,rfl,-⟩:=hs2;obtain ⟨g1,g2⟩:=TF.plus (q0':=y0) (x1':=(c'.map (·.1)).length) (r0':=y2) (q1':=y3) (x2':=c'.length) (r1':=y5) hTF hW hb hB;refine ⟨y0,_,y2,y3,_,y5,rfl,(hT.later hb).chgCells,by simp [World.cell?,(hT.later hb).arg],by simp only [World.cell?,g1.arg];rfl,ZH ⟨w'.heap.size,mid u B W.heap.size w',g1,fun b o x hb' hx=> ?_,by have:=hb.size;omega,g2,hin,?_⟩⟩
       ·have:=zD (hkW b o x hb' hx)
        exact (yM _ _ _ _ _ _ _).2 ⟨by have:=hb.size;omega, .inl ⟨hb',hx⟩⟩
       ·have hlo:=hTF.lo
        have hhi:=hTF.hi;rw [ZC _ _ _ _ (by simp;omega),ZC _ _ _ _ (by simp;omega)];exact ((hW.trans (hb.mono hW.size)).block ob hhi).trans hbx
      have HCC:=ZH hcc;have HAC:Hid (∀W,Below Wa.heap.size Wa W->W.cell? ⟨w.heap.size + 1,0,none⟩=some (.int .i64 4)):=ZH fun W hW=> by simp [World.cell?,(hTF.later hW).arg]
      have H134:=ZH h134;have H133:=ZH h133;have H132:=ZH h132;clear h134 h133 h132 hTF hku hbx hbl hbl240 hc'e hok h180 h60 hcc hcl0 ha hd0 hk0 HFO HTA HA;go_wp2_with (go_at_call 52;refine hb52.mono ?_;clear hb52;rintro e w2 ⟨v,rfl,HV2,HB2⟩;have HV2:=ZH HV2;have HB2:=ZH HB2;obtain ⟨t0,t1,t2,t3⟩:=HCC.out _ HB2.out.drew);refine jg (fun W=> W.cell? ⟨w.heap.size,0,none⟩=some (.slice q0 x1 r0)/\W.cell? ⟨w.heap.size,1,none⟩=some (.slice q1 x2 r1)) 18 (by kernel_rfl) ?_;refine Sunk.take 0 (.agg #[.slice q0 x1 r0, .slice q1 x2 r1]) rfl (by kernel_rfl) (by kernel_rfl) (by kernel_rfl) (by kernel_rfl) (fun _ _ _ h=> h) ⟨t0,t1⟩ (by rfl) (by rintro W ⟨e0,e1⟩;go_simp) ?_
      (try simp only [ZS])
      refine Sunk.take 1 (v) rfl (by kernel_rfl) (by kernel_rfl) (by kernel_rfl) (by kernel_rfl) (fun _ _ _ h=> h) ⟨t0,t1⟩ (by rfl) (by rintro W _;go_simp) ?_
      (try simp only [ZS])
      refine Sunk.take 2 (.pointer (some ⟨wb,0,none⟩)) rfl (by kernel_rfl) (by kernel_rfl) (by kernel_rfl) (by kernel_rfl) (fun _ _ _ h=> h) ⟨t0,t1⟩ (by rfl) (by rintro W _;go_simp) ?_
      (try simp only [ZS])
      refine Sunk.take 3 (v) rfl (by kernel_rfl) (by kernel_rfl) (by kernel_rfl) (by kernel_rfl) (fun _ _ _ h=> h) ⟨t0,t1⟩ (by rfl) (by rintro W _;go_simp) ?_
      (try simp only [ZS])
      refine Sunk.take 4 (.pointer (some ⟨wb,0,none⟩)) rfl (by kernel_rfl) (by kernel_rfl) (by kernel_rfl) (by kernel_rfl) (fun _ _ _ h=> h) ⟨t0,t1⟩ (by rfl) (by rintro W _;go_simp) ?_
      (try simp only [ZS])
      refine Sunk.take 5 (.agg #[.slice q0 x1 r0, .slice q1 x2 r1]) rfl (by kernel_rfl) (by kernel_rfl) (by kernel_rfl) (by kernel_rfl) (fun _ _ _ h=> h) ⟨t0,t1⟩ (by rfl) (by rintro W ⟨e0,e1⟩;go_simp) ?_
      (try simp only [ZS])
      refine Sunk.one 6 (by kernel_rfl) rfl (by rfl) (fun K hK=> ?_);go_simp;go_at_call 134;refine (H134.out _ HB2.out.drew).mono ?_;rintro e w3 ⟨rfl,HB3⟩;obtain ⟨t4,t5,t6,t7⟩:=HCC.out _ HB3.out.1;refine hK.out _ _ (fun _=> ⟨t4,t5⟩) ?_;clear hK K
      (try simp only [ZS])
      refine Sunk.take 7 (.bool false) rfl (by kernel_rfl) (by kernel_rfl) (by kernel_rfl) (by kernel_rfl) (fun _ _ _ h=> h) ⟨t4,t5⟩ (by rfl) (by rintro W _;go_simp) ?_
      (try simp only [ZS])
      refine Sunk.skip 8 rfl (by kernel_rfl) (by kernel_rfl) (by kernel_rfl) (by kernel_rfl) (fun _ _ _ h=> h) ⟨t4,t5⟩ (by rfl) ?_
      (try simp only [ZS])
      refine Sunk.skip 9 rfl (by kernel_rfl) (by kernel_rfl) (by kernel_rfl) (by kernel_rfl) (fun _ _ _ h=> h) ⟨t4,t5⟩ (by rfl) ?_
      (try simp only [ZS])
      refine Sunk.skip 10 rfl (by kernel_rfl) (by kernel_rfl) (by kernel_rfl) (by kernel_rfl) (fun _ _ _ h=> h) ⟨t4,t5⟩ (by rfl) ?_
      (try simp only [ZS])
      refine Sunk.skip 11 rfl (by kernel_rfl) (by kernel_rfl) (by kernel_rfl) (by kernel_rfl) (fun _ _ _ h=> h) ⟨t4,t5⟩ (by rfl) ?_
      (try simp only [ZS])
      refine Sunk.skip 12 rfl (by kernel_rfl) (by kernel_rfl) (by kernel_rfl) (by kernel_rfl) (fun _ _ _ h=> h) ⟨t4,t5⟩ (by rfl) ?_
      (try simp only [ZS])
      refine Sunk.skip 13 rfl (by kernel_rfl) (by kernel_rfl) (by kernel_rfl) (by kernel_rfl) (fun _ _ _ h=> h) ⟨t4,t5⟩ (by rfl) ?_
      (try simp only [ZS])
      refine Sunk.skip 14 rfl (by kernel_rfl) (by kernel_rfl) (by kernel_rfl) (by kernel_rfl) (fun _ _ _ h=> h) ⟨t4,t5⟩ (by rfl) ?_
      (try simp only [ZS])
      refine Sunk.take 15 (.bool false) rfl (by kernel_rfl) (by kernel_rfl) (by kernel_rfl) (by kernel_rfl) (fun _ _ _ h=> h) ⟨t4,t5⟩ (by rfl) (by rintro W _;go_simp) ?_
      (try simp only [ZS])
      refine Sunk.one 16 (by kernel_rfl) rfl (by rfl) (fun K hK=> ?_);go_simp;go_at_call 133;refine (H133.out _ v HB3.out.1 (HB3.out.2 _ (HV2.out.later (ZF _ _).drew))).mono ?_;rintro e w4 ⟨v',rfl,H4⟩;obtain ⟨t8,t9,tA,tB⟩:=HCC.out _ H4.out.2.2;refine hK.out _ _ (fun _=> ⟨t8,t9⟩) ?_;clear hK K
      (try simp only [ZS])
      refine Sunk.one 17 (by kernel_rfl) rfl (by rfl) (fun K hK=> ?_);go_simp;go_at_call 132;refine (H132.out _ v v' H4.out.2.2 H4.out.1 H4.out.2.1).mono ?_;rintro e w5 ⟨y0,y1,y2,y3,y4,y5,rfl,⟨tC,tD,tE,tF⟩,tG,tH,hF⟩;refine hK.out _ _ (fun _=> ⟨tC,tD⟩) ?_;clear hK K
      (try simp only [ZS])
      refine Sunk.one 18 (by kernel_rfl) rfl (by rfl) (fun K hK=> ?_);go_simp;refine hK.out _ _ (fun h=> absurd rfl h) ?_;clear hK K
      (try simp only [ZS])
      refine Sunk.done (by kernel_rfl) ?_
      all_goals
       go_wp2_with fail;go_meet;obtain ⟨Bc,uc,hF⟩:=hF.out;exact ⟨y0,y1,y2,y3,y4,y5,Bc,uc,ZH hF⟩
     ·have d1:decide (op=4)=false:=by simpa using hop
      have d2:(op==4)=false:=by simpa using hop
      have hc'e:c'=c:=by rw [HC'.out,if_neg hop]
      have HM:Hid (c'=c):=ZH hc'e;clear hc'e hop;go_wp2;go_meet;exact ⟨q0,x1,r0,q1,x2,r1,B,u,ZH ⟨HTA.out.1,zh.refl _ _,ZL _,zE.refl _ _,by rw [HM.out];exact hch,HTA.out.2.2⟩⟩
    case rest=>
     obtain ⟨y0,y1,y2,y3,y4,y5,Bc,uc,hM⟩:=hcut;obtain ⟨Wb,rfl⟩:∃W,W=wc:=⟨_,rfl⟩;have HTF:Hid (TF w wb ob (.cells #[.int .i64 op, .string text, .slice a0 args.length p0, .slice a1 defs.length p1, .slice a2 kids.length p2] 33) o33 Bc uc y0 y1 y2 y3 y4 y5 Wb/\zh B u uc/\B<=Bc):=ZH ⟨hM.out.1,hM.out.2.1,hM.out.2.2.1⟩;have HUB:=ZH hM.out.2.2.2.1;have HCH:=ZH hM.out.2.2.2.2.1;have HST:Hid (zN zo 130 5 ob (fun v=> .cells #[.int .i64 op, .string text, .slice aA args.length cA,v, .slice none 0 0] 33) Wb [] 0 none 0 Wb):=ZH (zN.start hM.out.2.2.2.2.2);clear hM mop md m3;go_wp2
     go_loopw [10] (fun i wr=> ∃(k:Nat) (a:Option Addr) (cap:Nat),k<=defs.length/\i= .int .i64 k/\Hid (zN zo 130 5 ob (fun v=> .cells #[.int .i64 op, .string text, .slice aA args.length cA,v, .slice none 0 0] 33) Wb (defs.take k) k a cap wr)) (fun i _=> defs.length - (intOf i).toNat)
     case atStart=> exact ⟨0,none,0,by omega,rfl,HST⟩
     case round=>
      obtain ⟨k,a,cap,hk,rfl,hinv⟩:=hrel;have hTF:=TF.grown HTF.out.1 hinv.out.2.2.1;have hbx:=hinv.out.2.1;have hobs:=hTF.hi;have hku:zh B u wr:=HTF.out.2.1.trans (hTF.kept.mono HTF.out.2.2);have m3:wr.cell? ⟨w.heap.size + 1,3,none⟩=some (.slice a1 defs.length p1):=by simp [World.cell?,hTF.arg]
      by_cases hlt:k < defs.length
      ·
       rcases hd0 with h0 | ⟨b0,o0,rfl,hB0,hc0⟩
       ·omega
       obtain ⟨d1,e1,f1⟩:=zr.get defs b0 o0 hc0 k hlt;have hBr:B<=wr.heap.size:=Nat.le_trans HTF.out.2.2 hTF.bc;have htk:=ZT hlt;have hmem:=ZM hlt;obtain ⟨hfm,hsm⟩:=HFD.out _ hmem;have hcall:=fun W (hW:Below wr.heap.size wr W) (es:List Value) (he:zo B u es defs[k])=> zN.callC (zir ob _ _ _ _) hinv.out (by omega) HTF.out.1.hi hW (hC defs[k] hsm hfm c' hid' HCL2.out Bc uc W wb [.slice y0 y1 y2, .slice y3 y4 y5] es (hTF.later hW).kept (hTF.later hW).bc (hTF.later hW).walk HCH.out (zo.keep HTF.out.2.1 HTF.out.2.2 _ _ he));rw [<-htk] at hcall;obtain ⟨ek,hek⟩:∃x,x=defs[k]:=⟨_,rfl⟩;rw [<-hek] at f1 hcall;clear htk hek hmem;obtain ⟨g0,g1,g2,g3,g4,g5,g6,g7,g8,g9,gA,rfl⟩:=qW f1
       have hS:∀W,Below wr.heap.size wr W->(W.cell? ⟨ob,3,none⟩=some (.slice a k cap)/\W.cell? ⟨w.heap.size,0,none⟩=some (.slice y0 y1 y2)/\W.cell? ⟨w.heap.size,1,none⟩=some (.slice y3 y4 y5)/\W.cell? ⟨w.heap.size + 1,3,none⟩=some (.slice (some ⟨b0,o0,none⟩) defs.length p1))/\W.cell? ⟨b0,o0 + k * 5,none⟩=some (.int .i64 g0)/\W.cell? ⟨b0,o0 + k * 5 + 1,none⟩=some (.string g1)/\W.cell? ⟨b0,o0 + k * 5 + 2,none⟩=some (.slice g2 g3 g4)/\W.cell? ⟨b0,o0 + k * 5 + 3,none⟩=some (.slice g5 g6 g7)/\W.cell? ⟨b0,o0 + k * 5 + 4,none⟩=some (.slice g8 g9 gA):=fun W hW=> by
        have hT:=hTF.later hW;obtain ⟨y0,y1,_,_⟩:=hT.chgCells;exact ⟨⟨by have:=(hW.block ob hobs).trans hbx;simp [World.cell?,this],y0,y1,by simp [World.cell?,hT.arg]⟩,zK (e1.keep (HTF.out.2.1.trans (hT.kept.mono HTF.out.2.2)) hB0)⟩
       have hd:Below wr.heap.size wr wr.drew:=(ZF _ _).drew;have hc:=hcall wr.drew hd _ f1;obtain ⟨⟨s0,s1,s2,s3⟩,s5,s6,s7,s8,s9⟩:=hS wr.drew hd;have HS:=ZH hS;clear hc0 f1 e1 hbx hobs hS hcall hTF hku hBr hinv hd;go_wp2
       go_region_law (first
        | (revert hr;intro hr;refine zU rfl (.tmp 71) (.tmp 80) 30 30 rfl rfl rfl hr ?_)
        | (go_simp;go_wp2_with (go_at_call 135;refine hc.mono ?_;rintro e' w3 ⟨e0,e1,e2,e3,e4,e5,e6,e7,e8,e9,eA,gg,cp,w5,rfl,hb3,hr,hw1,hw2,hfin⟩;obtain ⟨⟨t0,t1,t2,t3⟩,t5,t6,t7,t8,t9⟩:=HS.out w3 hb3.out;obtain ⟨⟨v0,v1,v2,v3⟩,v5,v6,v7,v8,v9⟩:=HS.out (w3.alloc (.cells #[.int .i64 e0, .string e1, .slice e2 e3 e4, .slice e5 e6 e7, .slice e8 e9 eA] 130)) (hb3.out.alloc hb3.out.size _))))
       all_goals
        clear hr hw1 hw2 hc;go_wp2;go_roundw
        case rel=> exact ⟨k + 1,some ⟨gg,0,none⟩,cp,by omega,by go_num,hfin⟩
        case measure=> simp [intOf];omega
      ·obtain rfl:k=defs.length:=by omega
       obtain ⟨Wd,rfl⟩:∃W,W=wr:=⟨_,rfl⟩;obtain ⟨aD,rfl⟩:∃x,x=a:=⟨_,rfl⟩;obtain ⟨cD,rfl⟩:∃x,x=cap:=⟨_,rfl⟩;have HD:=ZH (zN.clausesDone hinv.out HTF.out.1.hi);have HUD:Hid (zE (ob + 1) Wa Wd):=ZH (HUB.out.trans (zE.of_grown hinv.out.2.2.1 (by omega)));have HTF:=ZH (And.intro hTF HTF.out.2);have HST:Hid (zN ze 33 5 ob (fun v=> .cells #[.int .i64 op, .string text, .slice aA args.length cA, .slice aD defs.length cD,v] 33) Wd [] 0 none 0 Wd):=ZH (zN.start hbx);clear hTF hku hbx hobs hinv HUB;go_wp2
       go_loopw [11] (fun i wr=> ∃(k:Nat) (a:Option Addr) (cap:Nat),k<=kids.length/\i= .int .i64 k/\Hid (zN ze 33 5 ob (fun v=> .cells #[.int .i64 op, .string text, .slice aA args.length cA, .slice aD defs.length cD,v] 33) Wd (kids.take k) k a cap wr)) (fun i _=> kids.length - (intOf i).toNat)
       case atStart=> exact ⟨0,none,0,by omega,rfl,HST⟩
       case round=>
        obtain ⟨k,a,cap,hk,rfl,hinv⟩:=hrel;have hTF:=TF.grown HTF.out.1 hinv.out.2.2.1;have hbx:=hinv.out.2.1;have hobs:=hTF.hi;have hku:zh B u wr:=HTF.out.2.1.trans (hTF.kept.mono HTF.out.2.2);have m3:wr.cell? ⟨w.heap.size + 1,4,none⟩=some (.slice a2 kids.length p2):=by simp [World.cell?,hTF.arg]
        by_cases hlt:k < kids.length
        ·
         rcases hk0 with h0 | ⟨b0,o0,rfl,hB0,hc0⟩
         ·omega
         obtain ⟨d1,e1,f1⟩:=zu.get kids b0 o0 hc0 k hlt;have hBr:B<=wr.heap.size:=Nat.le_trans HTF.out.2.2 hTF.bc;have htk:=ZT hlt;have hmem:=ZM hlt;obtain ⟨hfm,hsm⟩:=HFK.out _ hmem;have hcall:=fun W (hW:Below wr.heap.size wr W) (es:List Value) (he:ze B u es kids[k])=> zN.callT (zit ob _ _ _ _) hinv.out (by omega) HTF.out.1.hi hW (hT kids[k] hsm hfm c' hid' HCL2.out Bc uc W wb [.slice y0 y1 y2, .slice y3 y4 y5] es (hTF.later hW).kept (hTF.later hW).bc (hTF.later hW).walk HCH.out (ze.keep HTF.out.2.1 HTF.out.2.2 _ _ he));rw [<-htk] at hcall;obtain ⟨ek,hek⟩:∃x,x=kids[k]:=⟨_,rfl⟩;rw [<-hek] at f1 hcall;clear htk hek hmem;obtain ⟨g0,g1,g2,g3,g4,g5,g6,g7,g8,g9,gA,rfl⟩:=zz f1
         have hS:∀W,Below wr.heap.size wr W->(W.cell? ⟨ob,4,none⟩=some (.slice a k cap)/\W.cell? ⟨w.heap.size,0,none⟩=some (.slice y0 y1 y2)/\W.cell? ⟨w.heap.size,1,none⟩=some (.slice y3 y4 y5)/\W.cell? ⟨w.heap.size + 1,4,none⟩=some (.slice (some ⟨b0,o0,none⟩) kids.length p2))/\W.cell? ⟨b0,o0 + k * 5,none⟩=some (.int .i64 g0)/\W.cell? ⟨b0,o0 + k * 5 + 1,none⟩=some (.string g1)/\W.cell? ⟨b0,o0 + k * 5 + 2,none⟩=some (.slice g2 g3 g4)/\W.cell? ⟨b0,o0 + k * 5 + 3,none⟩=some (.slice g5 g6 g7)/\W.cell? ⟨b0,o0 + k * 5 + 4,none⟩=some (.slice g8 g9 gA):=fun W hW=> by
          have hT:=hTF.later hW;obtain ⟨y0,y1,_,_⟩:=hT.chgCells;exact ⟨⟨by have:=(hW.block ob hobs).trans hbx;simp [World.cell?,this],y0,y1,by simp [World.cell?,hT.arg]⟩,zK (e1.keep (HTF.out.2.1.trans (hT.kept.mono HTF.out.2.2)) hB0)⟩
         have hd:Below wr.heap.size wr wr.drew:=(ZF _ _).drew;have hc:=hcall wr.drew hd _ f1;obtain ⟨⟨s0,s1,s2,s3⟩,s5,s6,s7,s8,s9⟩:=hS wr.drew hd;have HS:=ZH hS;clear hc0 f1 e1 hbx hobs hS hcall hTF hku hBr hinv hd;go_wp2
         go_region_law (first
          | (revert hr;intro hr;refine zU rfl (.tmp 91) (.tmp 100) 31 31 rfl rfl rfl hr ?_)
          | (go_simp;go_wp2_with (go_at_call 81;refine hc.mono ?_;rintro e' w3 ⟨e0,e1,e2,e3,e4,e5,e6,e7,e8,e9,eA,gg,cp,w5,rfl,hb3,hr,hw1,hw2,hfin⟩;obtain ⟨⟨t0,t1,t2,t3⟩,t5,t6,t7,t8,t9⟩:=HS.out w3 hb3.out;obtain ⟨⟨v0,v1,v2,v3⟩,v5,v6,v7,v8,v9⟩:=HS.out (w3.alloc (.cells #[.int .i64 e0, .string e1, .slice e2 e3 e4, .slice e5 e6 e7, .slice e8 e9 eA] 33)) (hb3.out.alloc hb3.out.size _))))
         all_goals
          clear hr hw1 hw2 hc;go_wp2;go_roundw
          case rel=> exact ⟨k + 1,some ⟨gg,0,none⟩,cp,by omega,by go_num,hfin⟩
          case measure=> simp [intOf];omega
        ·obtain rfl:k=kids.length:=by omega
         have hre:wr.heap[w.heap.size + 1 + 1]?=some o33:=hTF.res;obtain ⟨zz0,zz1,zz2,zz3,zz4,zz5,zz6,zz7,zz8,zz9⟩:=qC hre;obtain ⟨vv0,vv1,vv2,vv3,vv4,-,-,-,-,-⟩:=qC hbx;have hlo:=hTF.lo;have hK:=zN.termsDone hinv.out HTF.out.1.hi;have hup:zE (ob + 1) Wd wr:=zE.of_grown hinv.out.2.2.1 (by omega)
         have hres:∀W,W=(((((wr.setCell ⟨w.heap.size + 1 + 1,0,none⟩ (.int .i64 op)).setCell ⟨w.heap.size + 1 + 1,1,none⟩ (.string text)).setCell ⟨w.heap.size + 1 + 1,2,none⟩ (.slice aA args.length cA)).setCell ⟨w.heap.size + 1 + 1,3,none⟩ (.slice aD defs.length cD)).setCell ⟨w.heap.size + 1 + 1,4,none⟩ (.slice a kids.length cap))->
           ze wr.heap.size (blank w.heap.size W) [.int .i64 op, .string text, .slice aA args.length cA, .slice aD defs.length cD, .slice a kids.length cap] (.mk op text args defs kids)/\Below w.heap.size w W:=by
          intro W hW
          have hset:zE (ob + 1) wr W:=by
           rw [hW];exact ((((zE.set wr (by omega) 0 _).trans (zE.set _ (by omega) 1 _)).trans (zE.set _ (by omega) 2 _)).trans (zE.set _ (by omega) 3 _)).trans (zE.set _ (by omega) 4 _)
          have hsz':W.heap.size=wr.heap.size:=by rw [hW];simp [World.setCell]
          have e1:=zft HA.out ((HUD.out.trans hup).trans hset) (A':=w.heap.size) (by omega);have e2:=zai HD.out (hup.trans hset) (A':=w.heap.size) (by omega);have e3:=zcy hK hset (A':=w.heap.size) (by omega);rw [hsz'] at e1 e2 e3;exact ⟨⟨htz,_,_,_,rfl,e1,e2,e3⟩,by rw [hW];exact set5 hTF.below _ (by omega) _ _ _ _ _⟩
         have HRES:=ZH hres;clear hre hlo hK hup hres hTF hku hbx hobs hinv HST;go_wp2;simp [bodyPost,results,Tryz.results81,go_sem,zz0,zz1,zz2,zz3,zz4];exact HRES.out _ rfl
end Go.Proofs.YtjmlaeofjjhfmaaGreat
