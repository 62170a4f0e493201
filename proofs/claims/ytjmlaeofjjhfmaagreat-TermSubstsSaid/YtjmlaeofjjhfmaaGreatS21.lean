/- Lemmas. -/
import Derived.Test.YtjmlaeofjjhfmaaGreatS20
import Derived.Deep.RegionLaw
import Derived.Deep.RegionHeld3
set_option linter.unusedVariables false
set_option linter.unusedSimpArgs false
set_option maxRecDepth 10000
set_option maxHeartbeats 16000000
namespace Go.Proofs.YtjmlaeofjjhfmaaGreat
open Go.RowKit Go.Shelf Go.Maps
def yi (U:List UInt8->Int×Int) (ch:List ByteArray):List Value:=ch.map fun c=> .int .i64 (U (zb c)).2
def atL (U:List UInt8->Int×Int) (ch:List ByteArray):List Value:=ch.map fun c=> .int .i64 (U (zb c)).1
def xQ (U:List UInt8->Int×Int) (A sb X:Nat) (ch pl:List ByteArray) (W:World):Prop:=∃vch vm va vp,Seen A sb X ch pl vch vm va vp false (yi U ch) (atL U ch) W
theorem zgG {ss:List ByteArray} {s:ByteArray} (h:hasB ss s=true):zb s∈ss.map zb:=by
 unfold hasB at h;obtain ⟨x,hx,he⟩:=List.any_eq_true.1 h;rw [ByteArray.toList_eq,ByteArray.toList_eq,beq_iff_eq] at he;exact List.mem_map.2 ⟨x,hx,he⟩
theorem zlV {ss l:List ByteArray} {s:ByteArray} (h:((ss ++ s::l).map zb).Nodup):hasB ss s=false:=by
 cases hh:hasB ss s with
 | false=> rfl
 | true=>
  have h1:=zgG hh;rw [List.map_append,List.map_cons,List.nodup_append] at h;exact absurd rfl (h.2.2 _ h1 _ (List.mem_cons_self ..))
theorem xG:∀a b:List zg,zi (a ++ b)=zi a ++ zi b
 | [],b=> rfl
 | x::a,b=> by simp [zi,xG a b]
theorem zbU (d:List zg) (k:Nat):(zi (d.take k)).length<=(zi d).length:=by
 have h:=xG (d.take k) (d.drop k);rw [List.take_append_drop] at h;rw [h,List.length_append];omega
theorem zaJ:zi []= []:=rfl
theorem xX {w:World} {A:Nat} {v:Value} {ss:List ByteArray} (h:w.ownsRow A 9 1 v ss.length (zn ss)) (hz:∀s∈ss,s.size<=maxLen):zx w.heap.size w v ss:=qM h hz
theorem zlN (B:Nat) (u:World) (U:List UInt8->Int×Int) (A sb X:Nat) (hBs:B<=sb) (ch:List ByteArray):∀(s:Nat) (d:List zg),zZ d<=s->s<=900->∀(a:Option Addr) (cap:Nat) (w:World) (pl:List ByteArray),zh B u w->xQ U A sb X ch pl w->X < w.heap.size->A<=w.heap.size->pl.length + (zi d).length<=5000->((pl ++ zi d).map zb).Nodup->
  (d.length=0∨∃b off,a=some ⟨b,off,none⟩/\b < B/\zr B u b off d)->
  Calls Tryz.prog 122 #[.pointer (some ⟨sb,0,none⟩), .slice a d.length cap] w fun e w'=> e= .returned (.tuple #[])/\xQ U A sb X ch (pl ++ zi d) w'/\Below sb w w':=by
 intro s
 induction s with
 | zero=>
  intro d hd _ a cap w pl hu hs hX hA hn hnd hsrc
  have hd0:d= []:=by
   have:=jq d;exact List.eq_nil_of_length_eq_zero (by omega)
  subst hd0;go_enter Tryz.func122,Tryz.ntmps122;go_wp2_with fail
  go_loopw [4] (fun i wr=> i= .int .i64 0/\wr=w) (fun _ _=> 0)
  case atStart=> exact ⟨rfl,rfl⟩
  case round=>
   obtain ⟨rfl,rfl⟩:=hrel;go_wp2
   go_end0
   exact ⟨rfl,by rw [zaJ,List.append_nil];exact hs,ZF _ _⟩
 | succ s ih=>
  intro d hd hs9 a cap w pl hu hsn hX hA hn hnd hsrc;obtain ⟨i0,hi,hz0,hz1,hz2⟩:=info_parts zaK;have hdl:=jq d;have hpl:=zbU d;have hu':=ZH hu;clear hu;go_enter Tryz.func122,Tryz.ntmps122;go_wp2_with fail
  go_loopw [4] (fun i wr=> ∃(k:Nat),k<=d.length/\i= .int .i64 k/\xQ U A sb X ch (pl ++ zi (d.take k)) wr/\Below sb w wr) (fun i _=> d.length - (intOf i).toNat)
  case atStart=> exact ⟨0,by omega,rfl,by simpa [zaJ] using hsn,ZF _ _⟩
  case round=>
   obtain ⟨k,hk,rfl,hse,hb⟩:=hrel;have hpk:=hpl k;have hpk1:=hpl (k + 1);have hwr:=hb.size;by_cases hlt:k < d.length
   ·rcases hsrc with h0 | ⟨b,off,rfl,hbB,hcs⟩
    ·omega
    obtain ⟨cc,hcell,hat⟩:=zr.get d b off hcs k hlt;have hpart:=zaq hlt;have htk:=zby d k hlt;obtain ⟨q,hq⟩:∃q,q=d[k]:=⟨_,rfl⟩;rw [<-hq] at hat hpart htk;obtain ⟨f,t,j,dd,kk⟩:=q;obtain ⟨htz,_,_,_,rfl,⟨a0,p0,rfl,_⟩,⟨a1,p1,rfl,hl1,hx1⟩,⟨a2,p2,rfl,_⟩⟩:=hat
    have hrd:∀W,Below sb w W->W.cell? ⟨b,off + k * 5,none⟩=some (.int .i64 f)/\W.cell? ⟨b,off + k * 5 + 1,none⟩=some (.string t)/\W.cell? ⟨b,off + k * 5 + 3,none⟩=some (.slice a1 dd.length p1):=fun W h=> by
     obtain ⟨c0,c1,_,c3,_⟩:=zK (hcell.keep (hu'.out.trans ((Below.keptC h).mono hBs)) hbB);exact ⟨c0,c1,c3⟩
    obtain ⟨c0,c1,c3⟩:=hrd wr hb;have HQ:=ZH hq;clear hcell hcs hq;by_cases hf:f=2
    ·subst hf
     have e1:yc (.mk 2 t j dd kk)=t::zi dd:=by rw [yc,if_pos rfl]
     rw [e1] at htk;have hlen:(zi (d.take (k + 1))).length=(zi (d.take k)).length + (1 + (zi dd).length):=by rw [htk];simp;omega
     have HTK:=ZH htk;clear htk;obtain ⟨vch,vm,va,vp,hS⟩:=hse;obtain ⟨PL,hPL⟩:∃PL,PL=pl ++ zi (d.take k):=⟨_,rfl⟩;have hPLn:PL.length=pl.length + (zi (d.take k)).length:=by rw [hPL,List.length_append]
     rw [<-hPL] at hS;have hPLe:=ZH hPL;obtain ⟨va0,vk0,rfl,_⟩:=zJ (by omega) hS.rp;have hSd:=hS.later (ZF wr.heap.size wr).drew;obtain ⟨e0,e1',e2,e3,e4,ef⟩:=hSd.cells;obtain ⟨d0,d1,d3⟩:=hrd wr.drew hb.drew;have hhas:=zay _ (.slice va0 PL.length vk0) PL t wr.drew (xX hSd.rp hSd.zp);have hlow:=hS.low;have hltS:=hS.lt
     have htail:∀(W1:World),Seen A sb X ch PL vch vm va (.slice va0 PL.length vk0) false (yi U ch) (atL U ch) W1->Below sb w W1->wr.heap.size<=W1.heap.size->∃g cp w3,(Builtin.append_ #[22,22] 22 #[.slice va0 PL.length vk0, .slice (some ⟨W1.heap.size,0,none⟩) 1 1]).run Tryz.prog ((W1.alloc (.cells #[.string t] 9)).drew)= .ok (.slice (some ⟨g,0,none⟩) (PL.length + 1) cp) w3/\
       (W1.drew.cell? ⟨sb,3,none⟩=some (.slice va0 PL.length vk0)/\W1.drew.cell? ⟨b,off + k * 5 + 1,none⟩=some (.string t))/\((W1.alloc (.cells #[.string t] 9)).drew.cell? ⟨sb,3,none⟩=some (.slice va0 PL.length vk0)/\(W1.alloc (.cells #[.string t] 9)).drew.cell? ⟨b,off + k * 5 + 1,none⟩=some (.string t))/\
       (w3.cell? ⟨sb,3,none⟩=some (.slice va0 PL.length vk0)/\w3.cell? ⟨b,off + k * 5 + 1,none⟩=some (.string t))/\w3.frozen? ⟨sb,3,none⟩=false/\
       (w3.setCell ⟨sb,3,none⟩ (.slice (some ⟨g,0,none⟩) (PL.length + 1) cp)).cell? ⟨b,off + k * 5 + 1,none⟩=some (.string t)/\(w3.setCell ⟨sb,3,none⟩ (.slice (some ⟨g,0,none⟩) (PL.length + 1) cp)).cell? ⟨b,off + k * 5 + 3,none⟩=some (.slice a1 dd.length p1)/\
       Calls Tryz.prog 122 #[.pointer (some ⟨sb,0,none⟩), .slice a1 dd.length p1] (w3.setCell ⟨sb,3,none⟩ (.slice (some ⟨g,0,none⟩) (PL.length + 1) cp)) fun e w'=> e= .returned (.tuple #[])/\xQ U A sb X ch (PL ++ [t] ++ zi dd) w'/\Below sb w w':=by
      intro W1 hS1 hb1 hsz1;have bA:Below W1.heap.size W1 ((W1.alloc (.cells #[.string t] 9)).drew):=(ZQ W1 _).drew;have hSA:=hS1.later bA;have hlt1:=hS1.lt;have eA:((W1.alloc (.cells #[.string t] 9)).drew).heap.size=W1.heap.size + 1:=by simp
      obtain ⟨v',w3,hr,q1,q2,_,q4⟩:=run_append_own_at (P:=Tryz.prog) ((W1.alloc (.cells #[.string t] 9)).drew) A 22 22 9 i0 (.string ⟨#[]⟩) 1 16 Tryz.underlying22 hi hz0 hz1 hz2 rfl (by decide) _ _ _ hSA.rp
       ⟨W1.heap.size,0,none⟩ 1 1 [.string t] rfl (by
        intro j u hj;have e:(⟨W1.heap.size,0,none⟩:Addr).add j=⟨W1.heap.size,j,none⟩:=by unfold Addr.add;by_cases h:j=0 <;> simp [h]
        have e2:((W1.alloc (.cells #[.string t] 9)).drew).cell? ⟨W1.heap.size,j,none⟩=(W1.alloc (.cells #[.string t] 9)).cell? ⟨W1.heap.size,j,none⟩:=rfl;rw [e,e2,ZA _ _ _ _ rfl];simpa using hj) (by simp [Value.oneCell']) (by unfold maxLen;omega) (by omega) (by rw [eA];omega)
      obtain ⟨_,⟨_,h0⟩ | ⟨gg,cp,cur,hvf,_⟩⟩:=id q1
      ·omega
      subst hvf
      have hSB:=hSA.setPlaces (x:=t) htz (by rw [eA];omega) (by
       have:zn (PL ++ [t])=zn PL ++ [.string t]:=by simp [zn]
       rw [this];exact q1) q2 q4
      have hbA:=hb1.trans (bA.mono (by omega));have hb3:Below sb w w3:=hbA.grown q2 (by rw [eA];omega) (fun r e=> by have:=(hSA.rp.lt r e).1;omega);have hbB:=hb3.setCell (show sb<=(⟨sb,3,none⟩:Addr).block from ZL _) (.slice (some ⟨gg,0,none⟩) (PL.length + 1) cp);have hrow:=fun r e=> (hSA.rp.lt r e).1;have hbox3:=(q2.block sb (by rw [eA];omega) (fun e=> by have:=hrow sb e.symm;omega)).trans hSA.box
      have hcs:=ih dd (by have h5:zZ (zg.defs (.mk 2 t j dd kk)) < zZ d:=hpart;simp only [zg.defs] at h5;omega) (by omega) a1 p1 (w3.setCell ⟨sb,3,none⟩ (.slice (some ⟨gg,0,none⟩) (PL.length + 1) cp)) (PL ++ [t]) (hu'.out.trans ((Below.keptC hbB).mono hBs)) ⟨_,_,_,_,hSB⟩ (by have:=hbB.size;omega) (by have:=hbB.size;omega) (by simp;omega)
       (by
        have e2:zi d=zi (d.take (k + 1)) ++ zi (d.drop (k + 1)):=by rw [<-xG,List.take_append_drop]
        have e3:pl ++ zi d=(PL ++ [t] ++ zi dd) ++ zi (d.drop (k + 1)):=by rw [e2,HTK.out,hPL];simp
        rw [e3,List.map_append] at hnd;exact (List.nodup_append.1 hnd).1) hx1
      refine ⟨gg,cp,w3,hr,⟨(hS1.later (ZF _ W1).drew).cells.2.2.2.1,(hrd _ hb1.drew).2.1⟩,⟨hSA.cells.2.2.2.1,(hrd _ hbA).2.1⟩,⟨by simp [World.cell?,hbox3],(hrd _ hb3).2.1⟩,by simp [World.frozen?,hbox3],(hrd _ hbB).2.1,(hrd _ hbB).2.2,?_⟩;refine hcs.mono ?_;rintro e w' ⟨rfl,h1,h2⟩;exact ⟨rfl,h1,hbB.trans h2⟩
     have hnd1:((PL ++ t::(zi dd ++ zi (d.drop (k + 1)))).map zb).Nodup:=by
      have e2:zi d=zi (d.take (k + 1)) ++ zi (d.drop (k + 1)):=by rw [<-xG,List.take_append_drop]
      have e3:PL ++ t::(zi dd ++ zi (d.drop (k + 1)))=pl ++ zi d:=by rw [e2,HTK.out,hPL];simp
      rw [e3];exact hnd
     have hhf:=zlV hnd1;rw [hhf] at hhas;have HT:=ZH htail;have HPN:=ZH hPLn;have HLN:=ZH hlen;have hS1:=(hS.setBad false).later (ZF (wr.setCell ⟨sb,4,none⟩ (.bool false)).heap.size _).drew;have hb1:=(hb.setCell (show sb<=(⟨sb,4,none⟩:Addr).block from ZL _) (.bool false)).drew;obtain ⟨_,_,_,l3,l4,lf⟩:=hS1.cells;obtain ⟨_,m1,m3⟩:=hrd _ hb1;have HS1:=ZH hS1;have HS:=ZH hS;have HSd:=ZH hSd;clear htail hnd1 hhf hS1 hS hSd hPL hrd ih hPLn hlen hnd hx1 e1 hpl;go_wp2
     go_region_held3 (fun w'=> w'.cell? ⟨sb,4,none⟩=some (.bool false)/\w'.cell? ⟨sb,3,none⟩=some (.slice va0 PL.length vk0)/\w'.cell? ⟨b,off + k * 5 + 1,none⟩=some (.string t)) (go_keep)
      (first
      | (go_at_call 36;refine hhas.mono ?_;rintro e' w2 ⟨rfl,rfl⟩))
     go_wp2;clear l3 l4 lf m1 m3 e0 e1' e2 e3 e4 ef d0 d1 d3 c0 c1 c3 hhas;obtain ⟨W1,hW1⟩:∃W1,W1=(wr.setCell ⟨sb,4,none⟩ (.bool false)).drew:=⟨_,rfl⟩;rw [<-hW1];rw [<-hW1] at hb1 HS1;have hszW:wr.heap.size<=W1.heap.size:=by rw [hW1];simp
     obtain ⟨g,cp,w3,hr,⟨f1,f2⟩,⟨f3,f4⟩,⟨f5,f6⟩,f7,f8,f9,hcall⟩:=HT.out W1 HS1.out hb1 hszW;clear hW1;have HC:=ZH hcall;have F8:=ZH f8;have F9:=ZH f9;clear hcall f8 f9
     go_region_law (refine zU rfl (.tmp 40) (.tmp 46) 22 22 rfl rfl rfl hr ?_)
     all_goals
      have f8:=F8.out;have f9:=F9.out;have hcall:=HC.out;go_wp2_with (go_at_call 122;refine hcall.mono ?_;clear hcall;rintro e' w5 ⟨rfl,hse5,hb5⟩);go_roundw
      case rel=> exact ⟨k + 1,by omega,by go_num,by rw [HTK.out];have e9:pl ++ (zi (d.take k) ++ t::zi dd)=PL ++ [t] ++ zi dd:=(by rw [hPLe.out];simp);rw [e9];exact hse5,hb5⟩
      case measure=> simp [intOf];omega
    ·have e1:yc (.mk f t j dd kk)= []:=by rw [yc,if_neg hf]
     rw [e1,List.append_nil] at htk;have HTK:=ZH htk;clear htk;go_wp2;go_roundw
     case rel=> exact ⟨k + 1,by omega,by go_num,by rw [HTK.out];exact hse,hb⟩
     case measure=> simp [intOf];omega
   ·obtain rfl:k=d.length:=by omega
    rw [List.take_length] at hse;go_wp2
    go_end0
    exact ⟨rfl,hse,hb⟩
end Go.Proofs.YtjmlaeofjjhfmaaGreat
