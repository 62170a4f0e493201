/- Lemmas. -/
import Derived.Test.YtjmlaeofjjhfmaaGreatQ42
set_option linter.unusedVariables false
set_option linter.unusedSimpArgs false
set_option maxRecDepth 10000
set_option maxHeartbeats 16000000
namespace Go.Proofs.YtjmlaeofjjhfmaaGreat
section
open Go.RowKit Go.Shelf Go.Maps
theorem Tryz.results152:Tryz.f152.results=#[.cell 2 130]:=by kernel_rfl
def zd6 (N ob:Nat) (W:World) (v:Value) (l:List Msg):Prop:=
 ∃U:World,(∀b o x,U.cell? ⟨b,o,none⟩=some x->N<=b/\b≠ob/\W.cell? ⟨b,o,none⟩=some x)/\SlAt W.heap.size v l.length (fun b off=> zX W.heap.size U b off l)
theorem zio {N A ob:Nat} {W w3:World} {v:Value} {l:List Msg} (hA:N<=A) (h:SlAt w3.heap.size v l.length (fun b off=> zX w3.heap.size (blank A w3) b off l)) (hsz:w3.heap.size<=W.heap.size) (hk:∀b,A<=b->b < w3.heap.size->b≠ob/\W.heap[b]?=w3.heap[b]?):zd6 N ob W v l:=by
 refine ⟨blank A w3,fun b o x hx=> ?_,h.imp hsz fun b off hb hm=> zX.keep (zh.refl _ _) hsz _ _ _ hb hm⟩;rw [yT] at hx;by_cases hb:b < A
 ·rw [if_pos hb] at hx;cases hx
 ·rw [if_neg hb] at hx
  obtain ⟨h1,h2⟩:=hk b (by omega) (zD hx);exact ⟨by omega,h1,(ZB (w:=w3) h2).trans hx⟩
theorem zlo {N ob:Nat} {W W':World} {v:Value} {l:List Msg} (h:zd6 N ob W v l) (hs:W.heap.size<=W'.heap.size) (hk:∀b,N<=b->b < W.heap.size->b≠ob->W'.heap[b]?=W.heap[b]?) {A:Nat} (hA:A<=N):SlAt W'.heap.size v l.length (fun b off=> zX W'.heap.size (blank A W') b off l):=by
 obtain ⟨U,h1,h2⟩:=h;refine h2.imp hs fun b off hb hm=> zX.keep (fun b o x _ hx=> ?_) hs _ _ _ hb hm;obtain ⟨g1,g2,g3⟩:=h1 b o x hx;rw [yT,if_neg (by omega)];exact (ZB (w:=W) (hk b g1 (zD g3) g2)).trans g3
set_option maxRecDepth 100000 in
theorem zka (s:Nat) (hT:zgA s) (hC:zgz s):zgz (s + 1):=by
 intro t hsz hf B u w c2 hu hB ht;obtain ⟨form,text,joins,defs,kids⟩:=t;obtain ⟨htz,va,vd,vk,rfl,hsa,hsd,hsk⟩:=ht;have hj0:=hsa;obtain ⟨a0,p0,rfl,hla,-⟩:=hsa;obtain ⟨a1,p1,rfl,hld,hd0⟩:=hsd;obtain ⟨a2,p2,rfl,hlk,hk0⟩:=hsk;obtain ⟨hl1,hl2,hl3,hl9⟩:=zcT hf
 have hnl:∀j∈joins,j.names.length<=100:=fun j hj=> by
  obtain ⟨i,hi,rfl⟩:=List.getElem_of_mem hj;have:=za0 joins i hi;omega
 have HFD:Hid (∀d∈defs,Fit0 (.def_ d)/\(Part.def_ d).size<=s):=ZH fun d hd=> by
  have hp:Part.def_ d∈(Part.def_ (.mk form text joins defs kids)).parts:=ji hd;exact ⟨jr hf hp,by have:=qi hp;omega⟩
 have HFK:Hid (∀d∈kids,Fit0 (.proc d)/\(Part.proc d).size<=s):=ZH fun d hd=> by
  have hp:Part.proc d∈(Part.def_ (.mk form text joins defs kids)).parts:=jl hd;exact ⟨jr hf hp,by have:=qi hp;omega⟩
 have HL3:=ZH hl3;have HYD:Hid ((zQ defs).length=defs.length):=ZH (by rw [jC,List.length_map]);obtain ⟨lt,hlt0⟩:∃x,x=layC (.mk form text joins defs kids):=⟨_,rfl⟩;rw [<-hlt0];have HLT:=ZH hlt0;obtain ⟨W1,hW1⟩:∃W1,W1=(w.alloc (.cells #[.int .i64 form, .string text, .slice a0 joins.length p0, .slice a1 defs.length p1, .slice a2 kids.length p2] 130)).alloc o130:=⟨_,rfl⟩;have z1:W1.heap.size=w.heap.size + 2:=by rw [hW1];simp
 have b1:Below w.heap.size w W1:=by rw [hW1];exact (ZQ w _).alloc (by simp) _
 have k0:W1.heap[w.heap.size]?=some (.cells #[.int .i64 form, .string text, .slice a0 joins.length p0, .slice a1 defs.length p1, .slice a2 kids.length p2] 130):=by
  rw [hW1,ZO _ _ _ (by simp)];exact ZN w _
 have k1:W1.heap[w.heap.size + 1]?=some o130:=by
  rw [hW1];have:=ZN (w.alloc (.cells #[.int .i64 form, .string text, .slice a0 joins.length p0, .slice a1 defs.length p1, .slice a2 kids.length p2] 130)) o130;rwa [World.size_alloc] at this
 have HTF1:Hid (∀W ob,Below W1.heap.size W1 W->w.heap.size + 2<=ob->ob < W.heap.size->LF w ob (.cells #[.int .i64 form, .string text, .slice a0 joins.length p0, .slice a1 defs.length p1, .slice a2 kids.length p2] 130) o130 B u W):=ZH fun W ob hW h3 h4=> by
  have hbw:=b1.trans (hW.mono (by omega));exact ⟨(hW.block _ (by omega)).trans k0,(hW.block _ (by omega)).trans k1,hu.trans ((Below.keptC hbw).mono hB),by have:=hbw.size;omega,hbw,h3,h4,hB⟩
 have HS1:Hid (∀W,Below W1.heap.size W1 W->W.cell? ⟨w.heap.size,0,none⟩=some (.int .i64 form)/\W.cell? ⟨w.heap.size,1,none⟩=some (.string text)/\W.cell? ⟨w.heap.size,2,none⟩=some (.slice a0 joins.length p0)):=ZH fun W hW=> by
  have e0:=(hW.block w.heap.size (by omega)).trans k0;exact ⟨by simp [World.cell?,e0],by simp [World.cell?,e0],by simp [World.cell?,e0]⟩
 have HC1:Hid (∀W,Below W1.heap.size W1 W->Calls Tryz.prog 177 #[.agg #[.slice none 0 0, .slice none 0 0], .slice a0 joins.length p0] W fun e w'=> ∃aJ cJ,e= .returned (.slice aJ joins.length cJ)/\Hid (Below W1.heap.size W1 w')/\Hid (∀b o,W.heap[b]?=some o->w'.heap[b]?=some o)/\
   Hid (W.heap.size<=w'.heap.size/\SlAt w'.heap.size (.slice aJ joins.length cJ) joins.length (fun b off=> zX w'.heap.size (blank W.heap.size w') b off joins))):=ZH fun W hW=> by
  have hbw:=b1.trans (hW.mono (by omega));refine (zkw joins (by omega) hnl B u W (.slice none 0 0) (.slice none 0 0) (.slice a0 joins.length p0) (hu.trans ((Below.keptC hbw).mono hB)) (by have:=hbw.size;omega) hj0).mono ?_;rintro e w' ⟨v',rfl,hs,hb⟩;have hs':=hs;obtain ⟨aJ,cJ,rfl,-⟩:=hs';exact ⟨aJ,cJ,rfl,ZH (hW.trans (hb.mono hW.size)),ZH fun b o ho=> (hb.block b (ZG ho).1).trans ho,ZH ⟨hb.size,hs⟩⟩
 have HBW:Hid (Below W1.heap.size W1 W1.drew):=ZH (ZF _ _).drew;have HW:=ZH hW1;have HZ:=ZH z1;clear hW1 z1 b1 k0 k1 hlt0 hf hsz hnl hl3 hl9 hj0 hla hld hlk;go_enter Tryz.func152,Tryz.ntmps152;go_upto_region 1 with fail;rw [<-HW.out]
 go_cut [3] from 5 (fun v3 wx=> ∃(ob:Nat) (aJ:Option Addr) (cJ:Nat),v3= .pointer (some ⟨ob,0,none⟩)/\Hid (w.heap.size + 2<=ob/\wx.heap[ob]?=some (.cells #[.int .i64 form, .string text, .slice aJ joins.length cJ, .slice none 0 0, .slice none 0 0] 130)/\Below W1.heap.size W1 wx/\zd6 W1.heap.size ob wx (.slice aJ joins.length cJ) joins))
 case first=>
  go_region_held3 (fun W=> W.cell? ⟨w.heap.size,0,none⟩=some (.int .i64 form)/\W.cell? ⟨w.heap.size,1,none⟩=some (.string text)/\W.cell? ⟨w.heap.size,2,none⟩=some (.slice a0 joins.length p0))
   (first | exact HS1.out _ HBW.out | exact HS1.out _ (HBW.out.alloc HBW.out.size _) | exact HS1.out _ (set5 HBW.out W1.heap.size (ZL _) _ _ _ _ _) | go_keep)
   (first
    | (go_at_call 177;refine (HC1.out _ HBW.out).mono ?_;rintro e w3 ⟨aJ,cJ,rfl,HBW,HKP,HSJ⟩)
    | (go_at_call 177;refine (HC1.out _ (HBW.out.alloc HBW.out.size o130)).mono ?_;rintro e w3 ⟨aJ,cJ,rfl,HBW,HKP,HSJ⟩;have hN:=HKP.out W1.heap.size o130 (ZN W1.drew o130);obtain ⟨cn0,cn1,cn2,cn3,cn4,cn5,cn6,cn7,cn8,cn9⟩:=jT hN))
  all_goals
   go_wp2_with fail;go_meet
   first
    | (have hN':=hN;exact ⟨_,aJ,cJ,rfl,ZH ⟨by have:=HZ.out;omega,zdM hN _ _ _ _ _,set5 HBW.out _ (ZL _) _ _ _ _ _,zio (A:=(W1.drew.alloc o130).heap.size) (by simp) HSJ.out.2 (by simp [World.setCell]) (fun b h1 h2=> by
      have h1':W1.heap.size + 1<=b:=by simpa using h1
      exact ⟨by omega,by rw [ZC _ _ _ _ (by simp;omega),ZC _ _ _ _ (by simp;omega),ZC _ _ _ _ (by simp;omega),ZC _ _ _ _ (by simp;omega),ZC _ _ _ _ (by simp;omega)]⟩)⟩⟩)
    | exact ⟨_,aJ,cJ,rfl,ZH ⟨by have:=HZ.out;have:=HBW.out.size;omega,ZN _ _,HBW.out.alloc HBW.out.size _,zio (A:=W1.drew.heap.size) (ZL _) HSJ.out.2 (by simp) (fun b h1 h2=> ⟨by omega,ZO _ _ _ h2⟩)⟩⟩
 case rest=>
  obtain ⟨ob,aJ,cJ,rfl,hO⟩:=hcut;obtain ⟨W0,rfl⟩:∃W,W=wc:=⟨_,rfl⟩;have HTF:Hid (LF w ob (.cells #[.int .i64 form, .string text, .slice a0 joins.length p0, .slice a1 defs.length p1, .slice a2 kids.length p2] 130) o130 B u W0):=ZH (HTF1.out W0 ob hO.out.2.2.1 hO.out.1 (ZG hO.out.2.1).1);have HST:Hid (zN zo 130 5 ob (fun v=> .cells #[.int .i64 form, .string text, .slice aJ joins.length cJ,v, .slice none 0 0] 130) W0 [] 0 none 0 W0):=ZH (zN.start hO.out.2.1);have HHO:=ZH hO.out.2.2.2;clear HBW HC1 HS1 HTF1 hO;go_wp2
  go_loopw [4] (fun i wr=> ∃(k:Nat) (a:Option Addr) (cap:Nat),k<=defs.length/\i= .int .i64 k/\Hid (zN zo 130 5 ob (fun v=> .cells #[.int .i64 form, .string text, .slice aJ joins.length cJ,v, .slice none 0 0] 130) W0 ((zQ defs).take k) k a cap wr)) (fun i _=> defs.length - (intOf i).toNat)
  case atStart=> exact ⟨0,none,0,by omega,rfl,HST⟩
  case round=>
   obtain ⟨k,a,cap,hk,rfl,hinv⟩:=hrel;have hTF:=LF.grown HTF.out hinv.out.2.2.1;have hbx:=hinv.out.2.1;have hobs:=hTF.hi;have hku:zh B u wr:=hTF.kept;have m3:wr.cell? ⟨w.heap.size,3,none⟩=some (.slice a1 defs.length p1):=by simp [World.cell?,hTF.arg]
   by_cases hlt:k < defs.length
   ·
    rcases hd0 with h0 | ⟨b0,o0,rfl,hB0,hc0⟩
    ·omega
    obtain ⟨d1,e1,f1⟩:=zr.get defs b0 o0 hc0 k hlt;have hBr:B<=wr.heap.size:=hTF.bc;have hltY:k < (zQ defs).length:=by rw [HYD.out];exact hlt
    have htk:=ZT hltY;have hmem:=ZM hlt;obtain ⟨hfm,hsm⟩:=HFD.out _ hmem;have hyk:(zQ defs)[k]=layC defs[k]:=by simp [jC]
    have hcall:=fun W (hW:Below wr.heap.size wr W) (es:List Value) (he:zo B u es defs[k])=> zN.callC (x:=(zQ defs)[k]) (zgR ob _ _ _ _) hinv.out (by omega) HTF.out.hi hW (by rw [hyk];exact hC defs[k] hsm hfm B u W es (hTF.later hW).kept (hTF.later hW).bc he);rw [<-htk] at hcall;obtain ⟨ek,hek⟩:∃x,x=defs[k]:=⟨_,rfl⟩;rw [<-hek] at f1 hcall;clear htk hek hmem;obtain ⟨g0,g1,g2,g3,g4,g5,g6,g7,g8,g9,gA,rfl⟩:=qW f1
    have hS:∀W,Below wr.heap.size wr W->(W.cell? ⟨ob,3,none⟩=some (.slice a k cap)/\W.cell? ⟨w.heap.size,3,none⟩=some (.slice (some ⟨b0,o0,none⟩) defs.length p1))/\W.cell? ⟨b0,o0 + k * 5,none⟩=some (.int .i64 g0)/\W.cell? ⟨b0,o0 + k * 5 + 1,none⟩=some (.string g1)/\W.cell? ⟨b0,o0 + k * 5 + 2,none⟩=some (.slice g2 g3 g4)/\W.cell? ⟨b0,o0 + k * 5 + 3,none⟩=some (.slice g5 g6 g7)/\W.cell? ⟨b0,o0 + k * 5 + 4,none⟩=some (.slice g8 g9 gA):=fun W hW=> by
     have hT:=hTF.later hW;exact ⟨⟨by have:=(hW.block ob hobs).trans hbx;simp [World.cell?,this],by simp [World.cell?,hT.arg]⟩,zK (e1.keep (hT.kept) hB0)⟩
    have hd:Below wr.heap.size wr wr.drew:=(ZF _ _).drew;have hc:=hcall wr.drew hd _ f1;obtain ⟨⟨s0,s1⟩,s5,s6,s7,s8,s9⟩:=hS wr.drew hd;have HS:=ZH hS;clear hc0 f1 e1 hbx hobs hS hcall hTF hku hBr hinv hd;go_wp2
    go_region_law (first
     | (revert hr;intro hr;refine zU rfl (.tmp 22) (.tmp 29) 30 30 rfl rfl rfl hr ?_)
     | (go_simp;go_wp2_with (go_at_call 152;refine hc.mono ?_;rintro e' w3 ⟨e0,e1,e2,e3,e4,e5,e6,e7,e8,e9,eA,gg,cp,w5,rfl,hb3,hr,hw1,hw2,hfin⟩;obtain ⟨⟨t0,t1⟩,t5,t6,t7,t8,t9⟩:=HS.out w3 hb3.out;obtain ⟨⟨v0,v1⟩,v5,v6,v7,v8,v9⟩:=HS.out (w3.alloc (.cells #[.int .i64 e0, .string e1, .slice e2 e3 e4, .slice e5 e6 e7, .slice e8 e9 eA] 130)) (hb3.out.alloc hb3.out.size _))))
    all_goals
     clear hr hw1 hw2 hc;go_wp2;go_roundw
     case rel=> exact ⟨k + 1,some ⟨gg,0,none⟩,cp,by omega,by go_num,hfin⟩
     case measure=> simp [intOf];omega
   ·obtain rfl:k=defs.length:=by omega
    obtain ⟨Wd,rfl⟩:∃W,W=wr:=⟨_,rfl⟩;obtain ⟨aD,rfl⟩:∃x,x=a:=⟨_,rfl⟩;obtain ⟨cD,rfl⟩:∃x,x=cap:=⟨_,rfl⟩;have HD:=ZH (zN.clausesDone' hinv.out HYD.out HTF.out.hi);have HG0:=ZH hinv.out.2.2.1;have hk1:0 < kids.length:=by have:=HL3.out;omega
    rcases hk0 with h0 | ⟨b0,o0,rfl,hB0,hc0⟩
    ·omega
    obtain ⟨d1,e1,f1⟩:=zu.get kids b0 o0 hc0 0 hk1;rw [Nat.zero_mul,Nat.add_zero] at e1;obtain ⟨hfm,hsm⟩:=HFK.out _ (ZM hk1)
    have hks:kids= [kids[0]]:=by
     apply List.ext_getElem
     ·rw [HL3.out];rfl
     ·intro i h1 h2
      obtain rfl:i=0:=by simp at h2;omega
      rfl
    obtain ⟨kd,hkd⟩:∃x,x=kids[0]:=⟨_,rfl⟩;rw [<-hkd] at f1 hfm hsm hks;obtain ⟨g0,g1,g2,g3,g4,g5,g6,g7,g8,g9,gA,rfl⟩:=zz f1
    have hobc:∀W,Below Wd.heap.size Wd W->W.cell? ⟨ob,4,none⟩=some (.slice none 0 0):=fun W hW=> by
     have:=(hW.block ob hobs).trans hbx;simp [World.cell?,this]
    have HSD:Hid (∀W,Below Wd.heap.size Wd W->W.cell? ⟨ob,4,none⟩=some (.slice none 0 0)/\W.cell? ⟨w.heap.size,4,none⟩=some (.slice (some ⟨b0,o0,none⟩) kids.length p2)/\W.cell? ⟨b0,o0,none⟩=some (.int .i64 g0)/\W.cell? ⟨b0,o0 + 1,none⟩=some (.string g1)/\W.cell? ⟨b0,o0 + 2,none⟩=some (.slice g2 g3 g4)/\W.cell? ⟨b0,o0 + 3,none⟩=some (.slice g5 g6 g7)/\W.cell? ⟨b0,o0 + 4,none⟩=some (.slice g8 g9 gA)):=ZH fun W hW=> by
     have hTW:=hTF.later hW;obtain ⟨z2,z3,z4,z5,z6⟩:=zK (e1.keep hTW.kept hB0);exact ⟨hobc W hW,by simp [World.cell?,hTW.arg],z2,z3,z4,z5,z6⟩
    have H106:Hid (∀W,Below Wd.heap.size Wd W->Calls Tryz.prog 106 #[.agg #[.int .i64 g0, .string g1, .slice g2 g3 g4, .slice g5 g6 g7, .slice g8 g9 gA]] W fun e w'=> ∃(c0:Int) (c1:ByteArray) (c2:Option Addr) (c3 c4:Nat) (c5:Option Addr) (c6 c7:Nat) (c8:Option Addr) (c9 c10 gg cp:Nat) (w5:World),e= .returned (.agg #[.int .i64 c0, .string c1, .slice c2 c3 c4, .slice c5 c6 c7, .slice c8 c9 c10])/\Hid (Below Wd.heap.size Wd w')/\
       (Builtin.append_ #[31,31] 31 #[.slice none 0 0, .slice (some ⟨w'.heap.size,0,none⟩) 1 1]).run Tryz.prog (w'.alloc (.cells #[.int .i64 c0, .string c1, .slice c2 c3 c4, .slice c5 c6 c7, .slice c8 c9 c10] 33))= .ok (.slice (some ⟨gg,0,none⟩) 1 cp) w5/\
       w5.cell? ⟨ob,4,none⟩=some (.slice none 0 0)/\w5.frozen? ⟨ob,4,none⟩=false/\Hid (zN ze 33 5 ob (fun v=> .cells #[.int .i64 form, .string text, .slice aJ joins.length cJ, .slice aD defs.length cD,v] 130) Wd [layT kd] 1 (some ⟨gg,0,none⟩) cp (w5.setCell ⟨ob,4,none⟩ (.slice (some ⟨gg,0,none⟩) 1 cp)))/\Hid (w5.cell? ⟨ob,4,none⟩=some (.slice none 0 0)/\w5.cell? ⟨w.heap.size,4,none⟩=some (.slice (some ⟨b0,o0,none⟩) kids.length p2)/\w5.cell? ⟨b0,o0,none⟩=some (.int .i64 g0)/\w5.cell? ⟨b0,o0 + 1,none⟩=some (.string g1)/\w5.cell? ⟨b0,o0 + 2,none⟩=some (.slice g2 g3 g4)/\w5.cell? ⟨b0,o0 + 3,none⟩=some (.slice g5 g6 g7)/\w5.cell? ⟨b0,o0 + 4,none⟩=some (.slice g8 g9 gA))):=ZH fun W hW=> by
     have hTW:=hTF.later hW;refine (zN.callT (zgU ob _ _ _ _) (zN.start hbx) (by omega) hobs hW (hT kd hsm hfm B u W [.int .i64 g0, .string g1, .slice g2 g3 g4, .slice g5 g6 g7, .slice g8 g9 gA] hTW.kept hTW.bc f1)).mono ?_;rintro e w' ⟨c0,c1,c2,c3,c4,c5,c6,c7,c8,c9,c10,gg,cp,w5,rfl,hb,r1,r2,r3,r4⟩;refine ⟨c0,c1,c2,c3,c4,c5,c6,c7,c8,c9,c10,gg,cp,w5,rfl,hb,r1,r2,r3,r4,ZH ?_⟩;have hT5:=LF.grown hTF r4.out.2.2.1;have hlo:=hTF.lo;have hof:=hTF.off;have far:∀b o,b≠ob->(w5.setCell ⟨ob,4,none⟩ (.slice (some ⟨gg,0,none⟩) (0 + 1) cp)).cell? ⟨b,o,none⟩=w5.cell? ⟨b,o,none⟩:=fun b o h=> World.cell?_setCell_far _ _ _ _ (fun e=> h e.symm);obtain ⟨z2,z3,z4,z5,z6⟩:=zK (e1.keep hT5.kept hB0);have za:=(far w.heap.size 4 (by omega)).symm.trans (show _=some (Value.slice (some ⟨b0,o0,none⟩) kids.length p2) by simp [World.cell?,hT5.arg]);exact ⟨r2,za,(far _ _ (by omega)).symm.trans z2,(far _ _ (by omega)).symm.trans z3,(far _ _ (by omega)).symm.trans z4,(far _ _ (by omega)).symm.trans z5,(far _ _ (by omega)).symm.trans z6⟩
    have HTD:=ZH hTF;have HBD:Hid (Below Wd.heap.size Wd Wd.drew):=ZH (ZF _ _).drew;have HKS:=ZH hks;clear hTF hku hbx hinv hobc e1 f1 hc0 hfm hsm hks hkd;go_wp2;refine jg (fun W=> W.cell? ⟨ob,4,none⟩=some (.slice none 0 0)/\W.cell? ⟨w.heap.size,4,none⟩=some (.slice (some ⟨b0,o0,none⟩) kids.length p2)/\W.cell? ⟨b0,o0,none⟩=some (.int .i64 g0)/\W.cell? ⟨b0,o0 + 1,none⟩=some (.string g1)/\W.cell? ⟨b0,o0 + 2,none⟩=some (.slice g2 g3 g4)/\W.cell? ⟨b0,o0 + 3,none⟩=some (.slice g5 g6 g7)/\W.cell? ⟨b0,o0 + 4,none⟩=some (.slice g8 g9 gA)) 10 (by kernel_rfl) ?_;refine Sunk.takeD 0 (some 32) (.pointer (some ⟨ob,4,none⟩)) rfl rfl (by kernel_rfl) (by kernel_rfl) (by kernel_rfl) (by kernel_rfl) (fun _ _ _ h=> h) (HSD.out _ HBD.out) (by rfl) (by rintro W ⟨e0,e1,e2,e3,e4,e5,e6⟩;go_simp) ?_
    (try simp only [ZS])
    refine Sunk.takeD 1 (some 33) (.slice none 0 0) rfl rfl (by kernel_rfl) (by kernel_rfl) (by kernel_rfl) (by kernel_rfl) (fun _ _ _ h=> h) (HSD.out _ HBD.out) (by rfl) (by rintro W ⟨e0,e1,e2,e3,e4,e5,e6⟩;go_simp) ?_
    (try simp only [ZS])
    refine Sunk.takeD 2 (some 34) (.pointer (some ⟨w.heap.size,4,none⟩)) rfl rfl (by kernel_rfl) (by kernel_rfl) (by kernel_rfl) (by kernel_rfl) (fun _ _ _ h=> h) (HSD.out _ HBD.out) (by rfl) (by rintro W ⟨e0,e1,e2,e3,e4,e5,e6⟩;go_simp) ?_
    (try simp only [ZS])
    refine Sunk.takeD 3 (some 35) (.slice (some ⟨b0,o0,none⟩) kids.length p2) rfl rfl (by kernel_rfl) (by kernel_rfl) (by kernel_rfl) (by kernel_rfl) (fun _ _ _ h=> h) (HSD.out _ HBD.out) (by rfl) (by rintro W ⟨e0,e1,e2,e3,e4,e5,e6⟩;go_simp) ?_
    (try simp only [ZS])
    refine Sunk.takeD 4 (some 36) (.pointer (some ⟨b0,o0,none⟩)) rfl rfl (by kernel_rfl) (by kernel_rfl) (by kernel_rfl) (by kernel_rfl) (fun _ _ _ h=> h) (HSD.out _ HBD.out) (by rfl) (by rintro W ⟨e0,e1,e2,e3,e4,e5,e6⟩;go_simp) ?_
    (try simp only [ZS])
    refine Sunk.takeD 5 (some 37) (.agg #[.int .i64 g0, .string g1, .slice g2 g3 g4, .slice g5 g6 g7, .slice g8 g9 gA]) rfl rfl (by kernel_rfl) (by kernel_rfl) (by kernel_rfl) (by kernel_rfl) (fun _ _ _ h=> h) (HSD.out _ HBD.out) (by rfl) (by rintro W ⟨e0,e1,e2,e3,e4,e5,e6⟩;go_simp) ?_
    (try simp only [ZS])
    refine Sunk.one 6 (by kernel_rfl) rfl (by rfl) (fun K hK=> ?_);go_simp;go_at_call 106;refine (H106.out _ HBD.out).mono ?_;rintro e w6 ⟨e0,e1,e2,e3,e4,e5,e6,e7,e8,e9,eA,gg,cp,w7,rfl,HB6,hr,hw1,hw2,HF7,HS7⟩;refine hK.out _ _ (fun _=> HSD.out w6 HB6.out) ?_;clear hK K
    (try simp only [ZS])
    refine Sunk.one 7 (by kernel_rfl) rfl (by rfl) (fun K hK=> ?_);go_simp;refine hK.out _ _ (fun _=> HSD.out _ (HB6.out.alloc HB6.out.size _)) ?_;clear hK K
    (try simp only [ZS])
    refine Sunk.one 8 (by kernel_rfl) rfl (by rfl) (fun K hK=> ?_);show Oper.wp _ ⟨some 40, .call { callee:= .builtin .append,args:=#[.tmp 33, .tmp 39],argTypes:=#[31,31] },31,_,_,none⟩ _ _ _ _;refine xu (.tmp 33) (.tmp 39) 31 31 rfl rfl rfl hr ?_;refine hK.out _ _ (fun _=> HS7.out) ?_;clear hK K
    (try simp only [ZS])
    refine Sunk.takeD 9 (some 41) (.pointer (some ⟨ob,4,none⟩)) rfl rfl (by kernel_rfl) (by kernel_rfl) (by kernel_rfl) (by kernel_rfl) (fun _ _ _ h=> h) HS7.out (by rfl) (by rintro W ⟨e0,e1,e2,e3,e4,e5,e6⟩;go_simp) ?_
    (try simp only [ZS])
    refine Sunk.one 10 (by kernel_rfl) rfl (by rfl) (fun K hK=> ?_);go_simp;refine hK.out _ _ (fun h=> absurd rfl h) ?_;clear hK K
    (try simp only [ZS])
    refine Sunk.done (by kernel_rfl) ?_;obtain ⟨wF,hwF⟩:∃W,W=w7.setCell ⟨ob,4,none⟩ (.slice (some ⟨gg,0,none⟩) 1 cp):=⟨_,rfl⟩;have hGF:=HF7.out;rw [<-hwF] at hGF;have HWF:=ZH hwF;have hTF:=LF.grown HTD.out hGF.2.2.1;have hbF:=hGF.2.1;have hre:wF.heap[w.heap.size + 1]?=some o130:=hTF.res;obtain ⟨zz0,zz1,zz2,zz3,zz4,zz5,zz6,zz7,zz8,zz9⟩:=jT hre;obtain ⟨vv0,vv1,vv2,vv3,vv4,-,-,-,-,-⟩:=jT hbF;have hlo:=hTF.lo;have hK:=zN.termsDone (l:= [layT kd]) hGF hobs;have hup:zE (ob + 1) Wd wF:=zE.of_grown hGF.2.2.1 (by omega)
    have hres:∀W,W=(((((wF.setCell ⟨w.heap.size + 1,0,none⟩ (.int .i64 form)).setCell ⟨w.heap.size + 1,1,none⟩ (.string text)).setCell ⟨w.heap.size + 1,2,none⟩ (.slice aJ joins.length cJ)).setCell ⟨w.heap.size + 1,3,none⟩ (.slice aD defs.length cD)).setCell ⟨w.heap.size + 1,4,none⟩ (.slice (some ⟨gg,0,none⟩) 1 cp))->
      zo wF.heap.size (blank w.heap.size W) [.int .i64 form, .string text, .slice aJ joins.length cJ, .slice aD defs.length cD, .slice (some ⟨gg,0,none⟩) 1 cp] lt/\Below w.heap.size w W:=by
     intro W hW
     have hset:zE (ob + 1) wF W:=by
      rw [hW];exact ((((zE.set wF (by omega) 0 _).trans (zE.set _ (by omega) 1 _)).trans (zE.set _ (by omega) 2 _)).trans (zE.set _ (by omega) 3 _)).trans (zE.set _ (by omega) 4 _)
     have hsz':W.heap.size=wF.heap.size:=by rw [hW];simp [World.setCell]
     have hz:=HZ.out
     have e1:=zlo HHO.out (W':=W) (by have:=HG0.out.size;have:=hGF.2.2.1.size;omega) (fun b hb1 hb2 hb3=> by
      rw [hW,ZC _ _ _ _ (by simp;omega),ZC _ _ _ _ (by simp;omega),ZC _ _ _ _ (by simp;omega),ZC _ _ _ _ (by simp;omega),ZC _ _ _ _ (by simp;omega)];exact (hGF.2.2.1.block b (by have:=HG0.out.size;omega) (fun e=> hb3 (ZJ e))).trans (HG0.out.block b hb2 (fun e=> hb3 (ZJ e)))) (A:=w.heap.size) (by omega)
     have e2:=zai HD.out (hup.trans hset) (A':=w.heap.size) (by omega);have e3:=zcy hK hset (A':=w.heap.size) (by omega);rw [hsz'] at e1 e2 e3;rw [HLT.out,layC];refine ⟨⟨htz,_,_,_,rfl,e1,by rw [HYD.out];exact e2,?_⟩,by rw [hW];exact set5 hTF.below _ (by omega) _ _ _ _ _⟩;rw [HKS.out];exact e3
    have HRES:=ZH hres;clear hre hlo hK hup hres hTF hbF hGF hwF hr hw1 hw2 HS7;rw [<-HWF.out];go_wp2;simp [bodyPost,results,Tryz.results152,go_sem,zz0,zz1,zz2,zz3,zz4];exact HRES.out _ rfl
theorem zie:∀s,zgA s/\zgz s
 | 0=> ⟨fun t h=> by have:=yD (.proc t);omega,fun t h=> by have:=yD (.def_ t);omega⟩
 | s + 1=> by
  obtain ⟨h1,h2⟩:=zie s;exact ⟨zkK s h1 h2,zka s h1 h2⟩
theorem ziJ (t:Term) (hf:Fit0 (.proc t)) (B:Nat) (u w:World) (cs:List Value) (hu:zh B u w) (hB:B<=w.heap.size) (ht:ze B u cs t):
  Calls Tryz.prog 106 #[.agg cs.toArray] w fun e w'=> ∃rs,e= .returned (.agg rs.toArray)/\ze w'.heap.size (blank w.heap.size w') rs (layT t)/\Below w.heap.size w w':=
 (zie (Part.proc t).size).1 t (ZL _) hf B u w cs hu hB ht
theorem Tryz.results48:Tryz.f48.results=#[.cell 2 33, .tmp 3]:=by kernel_rfl
def qT (t:Term):Int:=if zL (.proc t)=false then 2 else if zL (.proc (layT t))=true then 0 else 3
def zk4 (t:Term) (A:Nat) (e:Ending) (w':World):Prop:=
 (qT t=0/\∃rs,e= .returned (.tuple #[.agg rs.toArray, .int .i64 0])/\ze w'.heap.size (blank A w') rs (layT t))∨
  (qT t≠0/\e= .returned (.tuple #[.agg #[.int .i64 0, .string ⟨#[]⟩, .slice none 0 0, .slice none 0 0, .slice none 0 0], .int .i64 (qT t)]))
theorem zjM (hD:zbK) (t:Term) (B:Nat) (u w:World) (cs:List Value) (hu:zh B u w) (hB:B<=w.heap.size) (ht:ze B u cs t):
  Calls Tryz.prog 48 #[.agg cs.toArray] w fun e w'=> zk4 t w.heap.size e w'/\Below w.heap.size w w':=by
 obtain ⟨g0,g1,g2,g3,g4,g5,g6,g7,g8,g9,gA,rfl⟩:=zz ht;obtain ⟨W1,hW1⟩:∃W1,W1=(w.alloc (.cells #[.int .i64 g0, .string g1, .slice g2 g3 g4, .slice g5 g6 g7, .slice g8 g9 gA] 33)).alloc o33:=⟨_,rfl⟩;have z1:W1.heap.size=w.heap.size + 2:=by rw [hW1];simp
 have b1:Below w.heap.size w W1:=by rw [hW1];exact (ZQ w _).alloc (by simp) _
 have k0:W1.heap[w.heap.size]?=some (.cells #[.int .i64 g0, .string g1, .slice g2 g3 g4, .slice g5 g6 g7, .slice g8 g9 gA] 33):=by
  rw [hW1,ZO _ _ _ (by simp)];exact ZN w _
 have k1:W1.heap[w.heap.size + 1]?=some o33:=by
  rw [hW1];have:=ZN (w.alloc (.cells #[.int .i64 g0, .string g1, .slice g2 g3 g4, .slice g5 g6 g7, .slice g8 g9 gA] 33)) o33;rwa [World.size_alloc] at this
 have hku:zh B u W1:=hu.trans ((Below.keptC b1).mono hB)
 have h19:Calls Tryz.prog 19 #[.agg #[.int .i64 g0, .string g1, .slice g2 g3 g4, .slice g5 g6 g7, .slice g8 g9 gA]] W1 fun e w'=> e= .returned (.int .i64 (jG (zL (.proc t))))/\(w'.cell? ⟨w.heap.size,0,none⟩=some (.int .i64 g0)/\w'.cell? ⟨w.heap.size,1,none⟩=some (.string g1)/\w'.cell? ⟨w.heap.size,2,none⟩=some (.slice g2 g3 g4)/\w'.cell? ⟨w.heap.size,3,none⟩=some (.slice g5 g6 g7)/\w'.cell? ⟨w.heap.size,4,none⟩=some (.slice g8 g9 gA))/\(w'.cell? ⟨w.heap.size + 1,0,none⟩=some (.int .i64 0)/\w'.cell? ⟨w.heap.size + 1,1,none⟩=some (.string ⟨#[]⟩)/\w'.cell? ⟨w.heap.size + 1,2,none⟩=some (.slice none 0 0)/\w'.cell? ⟨w.heap.size + 1,3,none⟩=some (.slice none 0 0)/\w'.cell? ⟨w.heap.size + 1,4,none⟩=some (.slice none 0 0)/\w'.frozen? ⟨w.heap.size + 1,0,none⟩=false/\w'.frozen? ⟨w.heap.size + 1,1,none⟩=false/\w'.frozen? ⟨w.heap.size + 1,2,none⟩=false/\w'.frozen? ⟨w.heap.size + 1,3,none⟩=false/\w'.frozen? ⟨w.heap.size + 1,4,none⟩=false)/\Hid (Below W1.heap.size W1 w')/\Hid (Below w.heap.size w (((((w'.setCell ⟨w.heap.size + 1,0,none⟩ (.int .i64 0)).setCell ⟨w.heap.size + 1,1,none⟩ (.string ⟨#[]⟩)).setCell ⟨w.heap.size + 1,2,none⟩ (.slice none 0 0)).setCell ⟨w.heap.size + 1,3,none⟩ (.slice none 0 0)).setCell ⟨w.heap.size + 1,4,none⟩ (.slice none 0 0))):=by
  refine (xx hD t B u W1 _ hku (by omega) ht).mono ?_;rintro e w' ⟨rfl,hb⟩;obtain ⟨x0,x1,x2,x3,x4,-,-,-,-,-⟩:=qC ((hb.block w.heap.size (by omega)).trans k0);exact ⟨rfl,⟨x0,x1,x2,x3,x4⟩,qC ((hb.block (w.heap.size + 1) (by omega)).trans k1),ZH hb,ZH (set5 (b1.trans (hb.mono (by omega))) _ (by omega) _ _ _ _ _)⟩
 obtain ⟨m0,m1,m2,m3,m4,-,-,-,-,-⟩:=qC k0;have HW:=ZH hW1;cases hfb:zL (.proc t) with
 | false=>
  have HC:Hid (qT t=2):=ZH (by unfold qT;rw [if_pos hfb]);rw [hfb] at h19;clear hfb hku z1 b1 k0 k1 hW1 ht;go_enter Tryz.func48,Tryz.ntmps48;go_upto_region 1 with fail;rw [<-HW.out];go_wp2_with (go_at_call 19;refine h19.mono ?_;clear h19;rintro e w3 ⟨rfl,⟨x0,x1,x2,x3,x4⟩,⟨y0,y1,y2,y3,y4,y5,y6,y7,y8,y9⟩,HB3,HZ⟩;simp only [jG]);simp [bodyPost,results,Tryz.results48,go_sem,y0,y1,y2,y3,y4];exact ⟨.inr ⟨by rw [HC.out];decide,by rw [HC.out]⟩,HZ.out⟩
 | true=>
  have hfm:zT (.proc t):=qI.2 hfb;have hcode:qT t=if zL (.proc (layT t))=true then 0 else 3:=by unfold qT;rw [if_neg (by rw [hfb];decide)]
  rw [hfb] at h19
  have H106:Hid (∀W,Below W1.heap.size W1 W->Calls Tryz.prog 106 #[.agg #[.int .i64 g0, .string g1, .slice g2 g3 g4, .slice g5 g6 g7, .slice g8 g9 gA]] W fun e w'=> ∃(c0:Int) (c1:ByteArray) (c2:Option Addr) (c3 c4:Nat) (c5:Option Addr) (c6 c7:Nat) (c8:Option Addr) (c9 c10:Nat),e= .returned (.agg #[.int .i64 c0, .string c1, .slice c2 c3 c4, .slice c5 c6 c7, .slice c8 c9 c10])/\Hid (Below W1.heap.size W1 w'/\ze w'.heap.size (blank W1.heap.size w') [.int .i64 c0, .string c1, .slice c2 c3 c4, .slice c5 c6 c7, .slice c8 c9 c10] (layT t))):=ZH fun W hW=> by
   refine (ziJ t hfm.fit0 B u W _ (hku.trans ((Below.keptC hW).mono (by omega))) (by have:=hW.size;omega) ht).mono ?_;rintro e w' ⟨rs,rfl,hat,hb⟩;obtain ⟨c0,c1,c2,c3,c4,c5,c6,c7,c8,c9,c10,rfl⟩:=zz hat;exact ⟨c0,c1,c2,c3,c4,c5,c6,c7,c8,c9,c10,rfl,ZH ⟨hW.trans (hb.mono hW.size),ze.keep (qg hW.size fun b o v _ _ hv=> hv) (ZL _) _ _ hat⟩⟩
  have H19:Hid (∀(w4:World) (c0:Int) (c1:ByteArray) (c2:Option Addr) (c3 c4:Nat) (c5:Option Addr) (c6 c7:Nat) (c8:Option Addr) (c9 c10:Nat),Below W1.heap.size W1 w4/\ze w4.heap.size (blank W1.heap.size w4) [.int .i64 c0, .string c1, .slice c2 c3 c4, .slice c5 c6 c7, .slice c8 c9 c10] (layT t)->Calls Tryz.prog 19 #[.agg #[.int .i64 c0, .string c1, .slice c2 c3 c4, .slice c5 c6 c7, .slice c8 c9 c10]] (w4.alloc (.cells #[.int .i64 c0, .string c1, .slice c2 c3 c4, .slice c5 c6 c7, .slice c8 c9 c10] 33)) fun e w'=> e= .returned (.int .i64 (jG (zL (.proc (layT t)))))/\(w'.cell? ⟨w.heap.size + 1,0,none⟩=some (.int .i64 0)/\w'.cell? ⟨w.heap.size + 1,1,none⟩=some (.string ⟨#[]⟩)/\w'.cell? ⟨w.heap.size + 1,2,none⟩=some (.slice none 0 0)/\w'.cell? ⟨w.heap.size + 1,3,none⟩=some (.slice none 0 0)/\w'.cell? ⟨w.heap.size + 1,4,none⟩=some (.slice none 0 0)/\w'.frozen? ⟨w.heap.size + 1,0,none⟩=false/\w'.frozen? ⟨w.heap.size + 1,1,none⟩=false/\w'.frozen? ⟨w.heap.size + 1,2,none⟩=false/\w'.frozen? ⟨w.heap.size + 1,3,none⟩=false/\w'.frozen? ⟨w.heap.size + 1,4,none⟩=false)/\(w'.cell? ⟨w4.heap.size,0,none⟩=some (.int .i64 c0)/\w'.cell? ⟨w4.heap.size,1,none⟩=some (.string c1)/\w'.cell? ⟨w4.heap.size,2,none⟩=some (.slice c2 c3 c4)/\w'.cell? ⟨w4.heap.size,3,none⟩=some (.slice c5 c6 c7)/\w'.cell? ⟨w4.heap.size,4,none⟩=some (.slice c8 c9 c10))/\
    Hid (ze w'.heap.size (blank w.heap.size (((((w'.setCell ⟨w.heap.size + 1,0,none⟩ (.int .i64 c0)).setCell ⟨w.heap.size + 1,1,none⟩ (.string c1)).setCell ⟨w.heap.size + 1,2,none⟩ (.slice c2 c3 c4)).setCell ⟨w.heap.size + 1,3,none⟩ (.slice c5 c6 c7)).setCell ⟨w.heap.size + 1,4,none⟩ (.slice c8 c9 c10))) [.int .i64 c0, .string c1, .slice c2 c3 c4, .slice c5 c6 c7, .slice c8 c9 c10] (layT t)/\Below w.heap.size w (((((w'.setCell ⟨w.heap.size + 1,0,none⟩ (.int .i64 c0)).setCell ⟨w.heap.size + 1,1,none⟩ (.string c1)).setCell ⟨w.heap.size + 1,2,none⟩ (.slice c2 c3 c4)).setCell ⟨w.heap.size + 1,3,none⟩ (.slice c5 c6 c7)).setCell ⟨w.heap.size + 1,4,none⟩ (.slice c8 c9 c10)))/\Hid (Below w.heap.size w (((((w'.setCell ⟨w.heap.size + 1,0,none⟩ (.int .i64 0)).setCell ⟨w.heap.size + 1,1,none⟩ (.string ⟨#[]⟩)).setCell ⟨w.heap.size + 1,2,none⟩ (.slice none 0 0)).setCell ⟨w.heap.size + 1,3,none⟩ (.slice none 0 0)).setCell ⟨w.heap.size + 1,4,none⟩ (.slice none 0 0)))):=ZH fun w4 c0 c1 c2 c3 c4 c5 c6 c7 c8 c9 c10 h4=> by
   obtain ⟨hb4,hat⟩:=h4;have hs4:=hb4.size;have hb5:Below w4.heap.size w4 (w4.alloc (.cells #[.int .i64 c0, .string c1, .slice c2 c3 c4, .slice c5 c6 c7, .slice c8 c9 c10] 33)):=ZQ w4 _;refine (xx hD (layT t) w4.heap.size (blank W1.heap.size w4) (w4.alloc (.cells #[.int .i64 c0, .string c1, .slice c2 c3 c4, .slice c5 c6 c7, .slice c8 c9 c10] 33)) [.int .i64 c0, .string c1, .slice c2 c3 c4, .slice c5 c6 c7, .slice c8 c9 c10] ((q9 _ _ _).trans (Below.keptC hb5)) hb5.size hat).mono ?_;rintro e w' ⟨rfl,hb⟩;have hb6:Below w4.heap.size w4 w':=hb5.trans (hb.mono hb5.size);have hb7:Below W1.heap.size W1 w':=hb4.trans (hb6.mono hs4);have hk7:w'.heap[w4.heap.size]?=some (.cells #[.int .i64 c0, .string c1, .slice c2 c3 c4, .slice c5 c6 c7, .slice c8 c9 c10] 33):=(hb.block w4.heap.size (by simp)).trans (ZN w4 _);obtain ⟨t0,t1,t2,t3,t4,-,-,-,-,-⟩:=qC hk7;have hb8:Below w.heap.size w w':=b1.trans (hb7.mono (by omega));have hset:zE W1.heap.size w' (((((w'.setCell ⟨w.heap.size + 1,0,none⟩ (.int .i64 c0)).setCell ⟨w.heap.size + 1,1,none⟩ (.string c1)).setCell ⟨w.heap.size + 1,2,none⟩ (.slice c2 c3 c4)).setCell ⟨w.heap.size + 1,3,none⟩ (.slice c5 c6 c7)).setCell ⟨w.heap.size + 1,4,none⟩ (.slice c8 c9 c10)):=((((zE.set w' (by omega) 0 _).trans (zE.set _ (by omega) 1 _)).trans (zE.set _ (by omega) 2 _)).trans (zE.set _ (by omega) 3 _)).trans (zE.set _ (by omega) 4 _);refine ⟨rfl,qC ((hb7.block (w.heap.size + 1) (by omega)).trans k1),⟨t0,t1,t2,t3,t4⟩,ZH ⟨?_,set5 hb8 _ (by omega) _ _ _ _ _⟩,ZH (set5 hb8 _ (by omega) _ _ _ _ _)⟩;exact ze.keep (((zE.of_below hb6).trans hset).blank (by omega)) hb6.size _ _ hat
  cases hfl:zL (.proc (layT t)) with
  | true=>
   have HC2:Hid (qT t=0):=ZH (by rw [hcode,if_pos hfl]);rw [hfl] at H19;clear hfl hfb hfm hcode hku z1 b1 k0 k1 hW1 ht;go_enter Tryz.func48,Tryz.ntmps48;go_upto_region 1 with fail;rw [<-HW.out]
   go_wp2_with (first
    | (go_at_call 19;refine h19.mono ?_;clear h19;rintro e w3 ⟨rfl,⟨x0,x1,x2,x3,x4⟩,-,HB3,-⟩;simp only [jG,if_true])
    | (go_at_call 106;refine (H106.out _ HB3.out).mono ?_;clear H106;rintro e w4 ⟨c0,c1,c2,c3,c4,c5,c6,c7,c8,c9,c10,rfl,H4⟩)
    | (go_at_call 19;refine (H19.out w4 c0 c1 c2 c3 c4 c5 c6 c7 c8 c9 c10 H4.out).mono ?_;clear H19;rintro e w6 ⟨rfl,⟨y0,y1,y2,y3,y4,y5,y6,y7,y8,y9⟩,⟨t0,t1,t2,t3,t4⟩,HF,HG⟩;simp only [jG,if_true]))
   simp [bodyPost,results,Tryz.results48,go_sem,y0,y1,y2,y3,y4];exact ⟨.inl ⟨HC2.out,_,rfl,by simpa [World.setCell] using HF.out.1⟩,HF.out.2⟩
  | false=>
   have HC2:Hid (qT t=3):=ZH (by rw [hcode,if_neg (by rw [hfl];decide)]);rw [hfl] at H19;clear hfl hfb hfm hcode hku z1 b1 k0 k1 hW1 ht;go_enter Tryz.func48,Tryz.ntmps48;go_upto_region 1 with fail;rw [<-HW.out]
   go_wp2_with (first
    | (go_at_call 19;refine h19.mono ?_;clear h19;rintro e w3 ⟨rfl,⟨x0,x1,x2,x3,x4⟩,-,HB3,-⟩;simp only [jG,if_true])
    | (go_at_call 106;refine (H106.out _ HB3.out).mono ?_;clear H106;rintro e w4 ⟨c0,c1,c2,c3,c4,c5,c6,c7,c8,c9,c10,rfl,H4⟩)
    | (go_at_call 19;refine (H19.out w4 c0 c1 c2 c3 c4 c5 c6 c7 c8 c9 c10 H4.out).mono ?_;clear H19;rintro e w6 ⟨rfl,⟨y0,y1,y2,y3,y4,y5,y6,y7,y8,y9⟩,⟨t0,t1,t2,t3,t4⟩,HF,HG⟩;simp only [jG]))
   simp [bodyPost,results,Tryz.results48,go_sem,y0,y1,y2,y3,y4];exact ⟨.inr ⟨by rw [HC2.out];decide,by rw [HC2.out]⟩,HG.out⟩
end
end Go.Proofs.YtjmlaeofjjhfmaaGreat
