/- Lemmas. -/
import Derived.Test.YtjmlaeofjjhfmaaGreatS21
import Derived.BigQuiet
import Derived.Deep.QuietTactic
set_option linter.unusedVariables false
set_option linter.unusedSimpArgs false
set_option maxRecDepth 10000
set_option maxHeartbeats 16000000
namespace Go.Proofs.YtjmlaeofjjhfmaaGreat
open Go.RowKit Go.Shelf Go.Maps
theorem zj8 {W:World} {A:Nat} {v:Value} {n:Nat} {xs:List Value} (h:W.ownsRow A 3 1 v n xs) (x:Int) (hA:A<=W.heap.size) (hn:n<=100000):
  ∃g cp w3,(Builtin.append_ #[93,93] 93 #[v, .slice (some ⟨W.heap.size,0,none⟩) 1 1]).run Tryz.prog (W.alloc (.cells #[.int .i64 x] 3))= .ok (.slice (some ⟨g,0,none⟩) (n + 1) cp) w3/\w3.ownsRow A 3 1 (.slice (some ⟨g,0,none⟩) (n + 1) cp) (n + 1) (xs ++ [.int .i64 x])/\
   (W.alloc (.cells #[.int .i64 x] 3)).grownBy w3 v.ownBlock/\((Value.slice (some ⟨g,0,none⟩) (n + 1) cp).ownBlock=v.ownBlock∨(Value.slice (some ⟨g,0,none⟩) (n + 1) cp).ownBlock=some (W.alloc (.cells #[.int .i64 x] 3)).heap.size):=by
 obtain ⟨i0,hi,hz0,hz1,hz2⟩:=info_parts zme;have bA:Below W.heap.size W (W.alloc (.cells #[.int .i64 x] 3)):=ZQ W _;have hoA:=zt h (zj bA) (fun g _ e=> by cases e)
 obtain ⟨v',w3,hr,q1,q2,_,q4⟩:=run_append_own_at (P:=Tryz.prog) (W.alloc (.cells #[.int .i64 x] 3)) A 93 93 3 i0 (.int .i64 0) 1 8 Tryz.underlying93 hi hz0 hz1 hz2 rfl (by decide) _ _ _ hoA
  ⟨W.heap.size,0,none⟩ 1 1 [.int .i64 x] rfl (by
   intro j u hj;have e:(⟨W.heap.size,0,none⟩:Addr).add j=⟨W.heap.size,j,none⟩:=by unfold Addr.add;by_cases h:j=0 <;> simp [h]
   rw [e,ZA _ _ _ _ rfl];simpa using hj) (by simp [Value.oneCell']) (by unfold maxLen;omega) (by omega) (by simp;omega)
 obtain ⟨_,⟨_,h0⟩ | ⟨gg,cp,cur,hvf,_⟩⟩:=id q1
 ·omega
 subst hvf;exact ⟨gg,cp,w3,hr,q1,q2,q4⟩
theorem zaW {ch:List ByteArray} {t:ByteArray} (h:zF (ch.map zb) (zb t)=true):qU ch t=ch:=by unfold qU;rw [if_pos h]
theorem zei {ch:List ByteArray} {t:ByteArray} (h:zF (ch.map zb) (zb t)=false):qU ch t=ch ++ [t]:=by unfold qU;rw [if_neg (by rw [h];decide)]
theorem zg5 {ch:List ByteArray} {t:ByteArray} {k:Nat} (h:k < ch.length) (he:zb ch[k]=zb t):zF (ch.map zb) (zb t)=true:=by
 unfold zF;exact List.any_eq_true.2 ⟨zb ch[k],List.mem_map.2 ⟨_,ZM h,rfl⟩,by rw [he];simp⟩
theorem ze8 {ch:List ByteArray} {t:ByteArray} {k:Nat} (h:k < ch.length) (h0:zF ((ch.take k).map zb) (zb t)=false) (he:zb ch[k]≠zb t):zF ((ch.take (k + 1)).map zb) (zb t)=false:=by
 unfold zF at h0 ⊢;rw [ZT h,List.map_append,List.any_append,h0];simp [he]
theorem zas {x y:ByteArray} (h:(x.toList==y.toList)=true):zb x=zb y:=by
 rw [ByteArray.toList_eq,ByteArray.toList_eq,beq_iff_eq] at h;exact h
theorem zbG {x y:ByteArray} (h:(x.toList==y.toList)=false):zb x≠zb y:=by
 intro e;rw [ByteArray.toList_eq,ByteArray.toList_eq] at h;have:(zb x==zb y)=true:=by rw [e];simp
 rw [show x.data.toList=zb x from rfl,show y.data.toList=zb y from rfl,this] at h;cases h
theorem zlE (U:List UInt8->Int×Int) (A sb X:Nat) (ch pl:List ByteArray) (t:ByteArray) (htz:t.size<=maxLen) (na:Option Addr) (nk nc:Nat) (gr:Int) (hU:U (zb t)=(gr,(nk:Int))) (w:World) (hs:xQ U A sb X ch pl w) (hX:X < w.heap.size) (hsX:sb≠X) (hA:A<=w.heap.size) (hn:ch.length<=5000):
  Calls Tryz.prog 124 #[.pointer (some ⟨sb,0,none⟩), .agg #[.string t, .slice na nk nc], .int .i64 gr] w fun e w'=> e= .returned (.tuple #[])/\xQ U A sb X (qU ch t) pl w'/\Below sb w w'/\w'.heap[X]?=w.heap[X]?:=by
 obtain ⟨vch,vm,va,vp,hS⟩:=hs;obtain ⟨W0,hW0⟩:∃W0,W0=w.alloc (.cells #[.string t, .slice na nk nc] 144):=⟨_,rfl⟩;have hb0:Below w.heap.size w W0:=by rw [hW0];exact ZQ w _
 have hz:W0.heap.size=w.heap.size + 1:=by rw [hW0];simp
 have kb:W0.heap[w.heap.size]?=some (.cells #[.string t, .slice na nk nc] 144):=by rw [hW0];exact ZN w _
 have hltS:=hS.lt;obtain ⟨ca,cc,rfl,_,hcc⟩:=zJ (by omega) hS.rch;obtain ⟨ma,mc,hvm,_,hmc⟩:=zJ (by omega) hS.rm;obtain ⟨ta,tc,hva,_,htc⟩:=zJ (by omega) hS.ra;rw [show (yi U ch).length=ch.length from List.length_map ..] at hvm;rw [show (atL U ch).length=ch.length from List.length_map ..] at hva;subst hvm;subst hva
 have hrd:∀W,Below W0.heap.size W0 W->Seen A sb X ch pl (.slice ca ch.length cc) (.slice ma ch.length mc) (.slice ta ch.length tc) vp false (yi U ch) (atL U ch) W/\W.cell? ⟨w.heap.size,0,none⟩=some (.string t)/\W.cell? ⟨w.heap.size,1,none⟩=some (.slice na nk nc)/\Below w.heap.size w W:=fun W h=> by
  have q:=(h.block w.heap.size (by omega)).trans kb;have hbW:=hb0.trans (h.mono (by omega));exact ⟨hS.later hbW,by simp [World.cell?,q],by simp [World.cell?,q],hbW⟩
 have HW:=ZH hW0;have HZ:=ZH hz;have HU:=ZH hU;have KB:=ZH kb;clear hW0 hz hU kb;go_enter Tryz.func124,Tryz.ntmps124;go_wp2_with fail;rw [<-HW.out]
 go_loopw [6] (fun i wr=> ∃(k:Nat),k<=ch.length/\i= .int .i64 k/\zF ((ch.take k).map zb) (zb t)=false/\Below W0.heap.size W0 wr) (fun i _=> ch.length - (intOf i).toNat)
 case atStart=> exact ⟨0,by omega,rfl,rfl,ZF _ _⟩
 case round=>
  obtain ⟨k,hk,rfl,hin,hb⟩:=hrel;have HIN:=ZH hin;clear hin;obtain ⟨hSr,x0,x1,hbw⟩:=hrd wr hb;obtain ⟨e0,e1,e2,e3,e4,ef⟩:=hSr.cells;by_cases hlt:k < ch.length
  ·have hne:¬ch.length=0:=by omega
   obtain ⟨cg,rfl,hcg,_,hcell⟩:=hcc.resolve_left hne
   have ck:wr.cell? ⟨cg,k,none⟩=some (.string ch[k]):=by
    have:=hcell k (by simp [zn];exact hlt);rw [Nat.zero_add] at this;rw [(hbw.cell (p:=⟨cg,k,none⟩) hcg),this];simp [zn]
   have hatk:=ZH (fun (h:zb ch[k]=zb t)=> zg5 hlt h);have hmorek:=ZH (fun (h:zb ch[k]≠zb t)=> ze8 hlt HIN.out h);obtain ⟨x,hx⟩:∃x,x=ch[k]:=⟨_,rfl⟩;rw [<-hx] at ck hatk hmorek;have HX:=ZH hx;clear hx hcell;cases he:(x.toList==t.toList) with
   | false=>
    have hne2:=ZH (zbG he);go_wp2
    go_quiet (fail)
    go_wp2;go_roundw
    case rel=> exact ⟨k + 1,by omega,by go_num,hmorek.out hne2.out,below_drewN hb _⟩
    case measure=> simp [intOf];omega
   | true=>
    go_wp2
    go_quiet (fail)
    obtain ⟨W1,hW1⟩:∃W1,W1=wr.drewN nq:=⟨_,rfl⟩;have hb1:Below W0.heap.size W0 W1:=by rw [hW1];exact below_drewN hb _
    rw [<-hW1];clear hW1 e0 e1 e2 e3 e4 ef x0 x1 ck;obtain ⟨hS1,_,_,hbw1⟩:=hrd W1 hb1;have hbx:=zas he;have hne2:¬(yi U ch).length=0:=by rw [show (yi U ch).length=ch.length from List.length_map ..];exact hne
    have hne3:¬(atL U ch).length=0:=by rw [show (atL U ch).length=ch.length from List.length_map ..];exact hne
    obtain ⟨mg,rfl,hmg,_,hmcell⟩:=hmc.resolve_left hne2;obtain ⟨tg,rfl,htg,_,htcell⟩:=htc.resolve_left hne3
    have hmk:∀W,Below w.heap.size w W->W.cell? ⟨mg,k,none⟩=some (.int .i64 nk):=fun W h=> by
     have:=hmcell k (by simp [yi];exact hlt);rw [Nat.zero_add] at this;rw [(h.cell (p:=⟨mg,k,none⟩) hmg),this];simp only [yi,List.getElem_map];rw [<-HX.out,hbx,HU.out]
    have htk:∀W,Below w.heap.size w W->W.cell? ⟨tg,k,none⟩=some (.int .i64 gr):=fun W h=> by
     have:=htcell k (by simp [atL];exact hlt);rw [Nat.zero_add] at this;rw [(h.cell (p:=⟨tg,k,none⟩) htg),this];simp only [atL,List.getElem_map];rw [<-HX.out,hbx,HU.out]
    have hS2:=(hS1.setBad false).later (ZF (W1.setCell ⟨sb,4,none⟩ (.bool false)).heap.size _).drew;have hD1:Below w.heap.size w W1.drew:=hbw1.drew;obtain ⟨_,f1,f2,_,f4,_⟩:=(hS1.later (ZF _ W1).drew).cells;obtain ⟨_,_,f5,_⟩:=hrd W1.drew hb1.drew;have f6:=hmk _ hD1;have f7:=htk _ hD1;have ff:=(hS1.later (ZF _ W1).drew).cells.2.2.2.2.2;obtain ⟨_,g1,g2,_,g4,_⟩:=hS2.cells;have hsl:¬sb=w.heap.size:=by omega
    have hlowS:=hS.low;have hsm:¬sb=mg:=by have:=hS.rm.lt mg rfl;omega
    have hst:¬sb=tg:=by have:=hS.ra.lt tg rfl;omega
    have g5:(W1.setCell ⟨sb,4,none⟩ (.bool false)).drew.cell? ⟨w.heap.size,1,none⟩=some (.slice na nk nc):=(ZB (w:=W1.drew) (ZC W1 ⟨sb,4,none⟩ _ w.heap.size (by simp;omega))).trans f5;have g6:(W1.setCell ⟨sb,4,none⟩ (.bool false)).drew.cell? ⟨mg,k,none⟩=some (.int .i64 nk):=(ZB (w:=W1.drew) (ZC W1 ⟨sb,4,none⟩ _ mg (by simp;omega))).trans f6;have g7:(W1.setCell ⟨sb,4,none⟩ (.bool false)).drew.cell? ⟨tg,k,none⟩=some (.int .i64 gr):=(ZB (w:=W1.drew) (ZC W1 ⟨sb,4,none⟩ _ tg (by simp;omega))).trans f7;have HS1:=ZH hS1;have HB1:=ZH hbw1;have HNE:=ZH hne;have hX':Hid (W1.heap[X]?=w.heap[X]?):=ZH (hbw1.block X hX);have HS2:=ZH hS2;have HAT:=ZH (hatk.out hbx);clear hmk htk hmcell htcell hcc hmc htc hS1 hbw1 hb1 hS2 hD1 hne2 hne3 hatk hmorek;go_wp2
    go_region_held3 (fun w'=> w'.cell? ⟨sb,4,none⟩=some (.bool false)/\w'.cell? ⟨sb,1,none⟩=some (.slice (some ⟨mg,0,none⟩) ch.length mc)/\w'.cell? ⟨sb,2,none⟩=some (.slice (some ⟨tg,0,none⟩) ch.length tc)/\w'.cell? ⟨mg,k,none⟩=some (.int .i64 nk)/\w'.cell? ⟨tg,k,none⟩=some (.int .i64 gr)/\w'.cell? ⟨w.heap.size,1,none⟩=some (.slice na nk nc)) (go_keep) (fail)
    go_wp2;refine bodyPost_ret (results_none rfl _ _ _) rfl ?_;refine ⟨rfl,⟨_,_,_,_,by rw [zaW HAT.out];exact HS2.out⟩,?_,?_⟩
    ·exact ((HB1.out.mono (by omega)).setCell (show sb<=(⟨sb,4,none⟩:Addr).block from ZL _) _).drew
    ·exact (ZC W1 ⟨sb,4,none⟩ _ X (by simp;omega)).trans hX'.out
  ·obtain rfl:k=ch.length:=by omega
   have hin:=HIN.out;rw [List.take_length] at hin;have hzr:=hb.size;have hZ0:=HZ.out;have hlowS:=hS.low;have hml:(yi U ch).length=ch.length:=List.length_map ..;have htl:(atL U ch).length=ch.length:=List.length_map ..;obtain ⟨g1,cp1,w1,hr1,q1,q2,q4⟩:=zmg hSr.rch t (by omega) (by omega);have bA1:Below wr.heap.size wr ((wr.alloc (.cells #[.string t] 9)).drew):=(ZQ wr _).drew;have zA1:((wr.alloc (.cells #[.string t] 9)).drew).heap.size=wr.heap.size + 1:=by simp
   have hSA1:=hSr.later bA1
   have hSa:=hSA1.setChans (x:=t) htz (by rw [zA1];omega) (by
    have:zn (ch ++ [t])=zn ch ++ [.string t]:=by simp [zn]
    rw [this];exact q1) q2 q4
   obtain ⟨Wa,hWa⟩:∃Wa,Wa=w1.setCell ⟨sb,0,none⟩ (.slice (some ⟨g1,0,none⟩) (ch.length + 1) cp1):=⟨_,rfl⟩;rw [<-hWa] at hSa;have hrow1:=fun r e=> (hSA1.rch.lt r e).1;have hbox1:=(q2.block sb (by rw [zA1];have:=hSr.lt;omega) (fun e=> by have:=hrow1 sb e.symm;omega)).trans hSA1.box;have hb1:Below W0.heap.size W0 wr:=hb
   have hk1:∀c,c < wr.heap.size->c≠sb->(Value.slice ca ch.length cc).ownBlock≠some c->Wa.heap[c]?=wr.heap[c]?:=fun c hc h1 h2=> by
    rw [hWa,ZC _ _ _ _ (by simpa using h1)];exact (q2.block c (by rw [zA1];omega) (fun e=> h2 e.symm)).trans (bA1.block c hc)
   have zWa:wr.heap.size + 1<=Wa.heap.size:=by rw [hWa];have:=q2.size;rw [zA1] at this;simpa using this
   obtain ⟨g2,cp2,w2,hr2,p1,p2,p4⟩:=zmj hSa.rm (nk:Int) (by omega) (by omega);have bA2:Below Wa.heap.size Wa ((Wa.alloc (.cells #[.int .i64 nk] 3)).drew):=(ZQ Wa _).drew;have zA2:((Wa.alloc (.cells #[.int .i64 nk] 3)).drew).heap.size=Wa.heap.size + 1:=by simp
   have hSA2:=hSa.later bA2;have hSb:=hSA2.setMany (by rw [zA2];omega) p1 p2 p4;obtain ⟨Wb,hWb⟩:∃Wb,Wb=w2.setCell ⟨sb,1,none⟩ (.slice (some ⟨g2,0,none⟩) ((yi U ch).length + 1) cp2):=⟨_,rfl⟩;rw [<-hWb] at hSb;have hrow2:=fun r e=> (hSA2.rm.lt r e).1;have hbox2:=(p2.block sb (by rw [zA2];have:=hSr.lt;omega) (fun e=> by have:=hrow2 sb e.symm;omega)).trans hSA2.box
   have hk2:∀c,c < Wa.heap.size->c≠sb->(Value.slice ma ch.length mc).ownBlock≠some c->Wb.heap[c]?=Wa.heap[c]?:=fun c hc h1 h2=> by
    rw [hWb,ZC _ _ _ _ (by simpa using h1)];exact (p2.block c (by rw [zA2];omega) (fun e=> h2 e.symm)).trans (bA2.block c hc)
   have zWb:Wa.heap.size + 1<=Wb.heap.size:=by rw [hWb];have:=p2.size;rw [zA2] at this;simpa using this
   obtain ⟨g3,cp3,w3,hr3,s1,s2,s4⟩:=zj8 hSb.ra gr (by omega) (by omega);have bA3:Below Wb.heap.size Wb (Wb.alloc (.cells #[.int .i64 gr] 3)):=ZQ Wb _;have zA3:((Wb.alloc (.cells #[.int .i64 gr] 3))).heap.size=Wb.heap.size + 1:=by simp
   have hSA3:=hSb.later bA3;have hSc:=hSA3.setAts (by rw [zA3];omega) s1 s2 s4;obtain ⟨Wc,hWc⟩:∃Wc,Wc=w3.setCell ⟨sb,2,none⟩ (.slice (some ⟨g3,0,none⟩) ((atL U ch).length + 1) cp3):=⟨_,rfl⟩;rw [<-hWc] at hSc;have hrow3:=fun r e=> (hSA3.ra.lt r e).1;have hbox3:=(s2.block sb (by rw [zA3];have:=hSr.lt;omega) (fun e=> by have:=hrow3 sb e.symm;omega)).trans hSA3.box
   have hk3:∀c,c < Wb.heap.size->c≠sb->(Value.slice ta ch.length tc).ownBlock≠some c->Wc.heap[c]?=Wb.heap[c]?:=fun c hc h1 h2=> by
    rw [hWc,ZC _ _ _ _ (by simpa using h1)];exact (s2.block c (by rw [zA3];omega) (fun e=> h2 e.symm)).trans (bA3.block c hc)
   have hgc:∀c,(Value.slice ca ch.length cc).ownBlock=some c->c < w.heap.size:=fun c h=> (hS.rch.lt c h).2;have hgm:∀c,(Value.slice ma ch.length mc).ownBlock=some c->c < w.heap.size:=fun c h=> (hS.rm.lt c h).2;have hgt:∀c,(Value.slice ta ch.length tc).ownBlock=some c->c < w.heap.size:=fun c h=> (hS.ra.lt c h).2;have hkb:wr.heap[w.heap.size]?=some (.cells #[.string t, .slice na nk nc] 144):=(hb.block _ (by omega)).trans KB.out;have hkba:Wa.heap[w.heap.size]?=some (.cells #[.string t, .slice na nk nc] 144):=(hk1 _ (by omega) (by omega) (fun e=> by have:=hgc _ e;omega)).trans hkb;have hkbb:Wb.heap[w.heap.size]?=some (.cells #[.string t, .slice na nk nc] 144):=(hk2 _ (by omega) (by omega) (fun e=> by have:=hgm _ e;omega)).trans hkba;have hXr:wr.heap[X]?=w.heap[X]?:=hbw.block X hX;have hXc:Wc.heap[X]?=w.heap[X]?:=((hk3 X (by omega) (Ne.symm hsX) hS.x3).trans ((hk2 X (by omega) (Ne.symm hsX) hS.x2).trans (hk1 X (by omega) (Ne.symm hsX) hS.x1))).trans hXr
   have hbsb:Below sb w Wc:=by
    have n1:Below sb w ((wr.alloc (.cells #[.string t] 9)).drew):=(hbw.trans (bA1.mono (by omega))).mono (by omega);have n2:Below sb w Wa:=by rw [hWa];exact (n1.grown q2 (by rw [zA1];omega) (fun r e=> by have:=hrow1 r e;omega)).setCell (show sb<=(⟨sb,0,none⟩:Addr).block from ZL _) _
    have n3:Below sb w ((Wa.alloc (.cells #[.int .i64 nk] 3)).drew):=n2.trans (bA2.mono (by omega));have n4:Below sb w Wb:=by rw [hWb];exact (n3.grown p2 (by rw [zA2];omega) (fun r e=> by have:=hrow2 r e;omega)).setCell (show sb<=(⟨sb,1,none⟩:Addr).block from ZL _) _
    have n5:Below sb w ((Wb.alloc (.cells #[.int .i64 gr] 3))):=n4.trans (bA3.mono (by omega));rw [hWc];exact (n5.grown s2 (by rw [zA3];omega) (fun r e=> by have:=hrow3 r e;omega)).setCell (show sb<=(⟨sb,2,none⟩:Addr).block from ZL _) _
   have fin:xQ U A sb X (qU ch t) pl Wc:=by
    rw [zei hin];have e1:yi U (ch ++ [t])=yi U ch ++ [.int .i64 nk]:=by unfold yi;rw [List.map_append];simp [HU.out]
    have e2:atL U (ch ++ [t])=atL U ch ++ [.int .i64 gr]:=by unfold atL;rw [List.map_append];simp [HU.out]
    rw [<-e1,<-e2] at hSc;exact ⟨_,_,_,_,hSc⟩
   rw [hml] at hWb p1;rw [htl] at hWc s1;rw [hml] at hr2;rw [htl] at hr3;have FIN:=ZH (And.intro fin (And.intro hbsb hXc));have A1:=(hSr.later (ZF wr.heap.size wr).drew).cells.1;have A2:wr.drew.cell? ⟨w.heap.size,0,none⟩=some (.string t):=by show wr.cell? _=_;simp [World.cell?,hkb]
   have A3:=hSA1.cells.1;have A4:((wr.alloc (.cells #[.string t] 9)).drew).cell? ⟨w.heap.size,0,none⟩=some (.string t):=by have q:=(bA1.block w.heap.size (by omega)).trans hkb;simp only [World.cell?,q];rfl
   have A5:w1.cell? ⟨sb,0,none⟩=some (.slice ca ch.length cc):=by simp [World.cell?,hbox1]
   have A6:w1.frozen? ⟨sb,0,none⟩=false:=by simp [World.frozen?,hbox1]
   have B1:=ZH (hSa.later (ZF Wa.heap.size Wa).drew).cells.2.1;have B2:Hid (Wa.drew.cell? ⟨w.heap.size,1,none⟩=some (.slice na nk nc)):=ZH (by show Wa.cell? _=_;simp [World.cell?,hkba]);have B3:=ZH hSA2.cells.2.1;have B4:Hid (((Wa.alloc (.cells #[.int .i64 nk] 3)).drew).cell? ⟨w.heap.size,1,none⟩=some (.slice na nk nc)):=ZH (by have q:=(bA2.block w.heap.size (by omega)).trans hkba;simp only [World.cell?,q];rfl);have B5:Hid (w2.cell? ⟨sb,1,none⟩=some (.slice ma ch.length mc)):=ZH (by simp [World.cell?,hbox2]);have B6:Hid (w2.frozen? ⟨sb,1,none⟩=false):=ZH (by simp [World.frozen?,hbox2]);have C1:=ZH hSb.cells.2.2.1;have C3:=ZH hSA3.cells.2.2.1;have C5:Hid (w3.cell? ⟨sb,2,none⟩=some (.slice ta ch.length tc)):=ZH (by simp [World.cell?,hbox3]);have C6:Hid (w3.frozen? ⟨sb,2,none⟩=false):=ZH (by simp [World.frozen?,hbox3]);have R2:=ZH hr2;have R3:=ZH hr3;have QA:=ZH hWa;have QB:=ZH hWb;have QC:=ZH hWc;clear hr2 hr3 hWa hWb hWc fin hbsb hXc hXr hkb hkba hkbb hgc hgm hgt hk1 hk2 hk3 hbox1 hbox2 hbox3 hrow1 hrow2 hrow3 hSc hSA3 hSb hSA2 hSa hSA1 hSr hS bA1 bA2 bA3 zA1 zA2 zA3 zWa zWb q1 q2 q4 p1 p2 p4 s1 s2 s4 hml htl hcc hmc htc hrd hin hb1 hb hzr hZ0;go_wp2
   go_region_law (refine zU rfl (.tmp 61) (.tmp 64) 22 22 rfl rfl rfl hr1 ?_)
   all_goals
    rw [<-QA.out];clear hr1 A1 A2 A3 A4 A5 A6 e0 e1 e2 e3 e4 ef x0 x1;have hr2:=R2.out;have b1:=B1.out;have b2:=B2.out;have b3:=B3.out;have b4:=B4.out;have b5:=B5.out;have b6:=B6.out;go_wp2
    go_region_law (refine zU rfl (.tmp 72) (.tmp 76) 93 93 rfl rfl rfl hr2 ?_)
    all_goals
     rw [<-QB.out];clear hr2 b1 b2 b3 b4 b5 b6;have hr3:=R3.out;have c1:=C1.out;have c3:=C3.out;have c5:=C5.out;have c6:=C6.out;go_wp2_with (show wpList _ _ _ (⟨some 87,_,_,_,_,_⟩::_) _ _;refine qe rfl (.tmp 84) (.tmp 86) 93 93 rfl rfl rfl hr3 ?_)
     go_end0
     rw [<-QC.out];exact ⟨rfl,FIN.out.1,FIN.out.2.1,FIN.out.2.2⟩
end Go.Proofs.YtjmlaeofjjhfmaaGreat
