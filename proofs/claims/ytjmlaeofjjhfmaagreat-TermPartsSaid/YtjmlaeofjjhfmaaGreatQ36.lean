/- Lemmas. -/
import Derived.Test.YtjmlaeofjjhfmaaGreatQ35
import Derived.Test.YtjmlaeofjjhfmaaGreatQ32
set_option linter.unusedVariables false
set_option linter.unusedSimpArgs false
set_option maxRecDepth 10000
set_option maxHeartbeats 16000000
namespace Go.Proofs.YtjmlaeofjjhfmaaGreat
section
open Go.RowKit Go.Shelf Go.Maps
theorem zhl (c:Chg) (l l':List ByteArray) (hll:l.length=l'.length) (B:Nat) (u w:World) (cs:List Value) (v1 v2:Value) (hu:zh B u w) (hB:B<=w.heap.size) (hc:xI B u cs c) (h1:zx w.heap.size w v1 l) (h2:zx w.heap.size w v2 l') (hcl:c.length<=90000) (hl:l.length<=9000):
  Calls Tryz.prog 132 #[.agg cs.toArray,v1,v2] w fun e w'=> ∃rs,e= .returned (.agg rs.toArray)/\xI w'.heap.size (mid u B w.heap.size w') rs (zbi c l l')/\Below w.heap.size w w':=by
 obtain ⟨⟨va,vb,rfl,hsA,hsB⟩,hnn⟩:=hc;have hA0:=hsA;have hB0:=hsB;have h10:=h1;obtain ⟨q0,r0,rfl,_,hzA,_,_⟩:=hsA;obtain ⟨q1,r1,rfl,_,_⟩:=hsB;have hcap:q1=none->r1=0:=fun e=> by subst e;exact hnn _ _ _ rfl
 obtain ⟨b1,p1,rfl,_,hz1,_,_⟩:=h1;obtain ⟨b2,p2,rfl,hl2,hz2,_,hc2⟩:=h2
 have hns:∀s∈c.map (·.1) ++ l,s.size<=maxLen:=fun s hs=> by
  rcases List.mem_append.1 hs with h | h
  ·exact hzA s h
  ·exact hz1 s h
 obtain ⟨x1,hx1⟩:∃x,x=(c.map (·.1)).length:=⟨_,rfl⟩;obtain ⟨nn,hnn2⟩:∃x,x=(c.map (·.1) ++ l).length:=⟨_,rfl⟩;have hlm:x1=c.length:=by rw [hx1,List.length_map]
 rw [<-hx1] at hA0;rw [<-hx1];obtain ⟨W1,hW1⟩:∃W1,W1=(w.alloc (.cells #[.slice q0 x1 r0, .slice q1 c.length r1] 111)).alloc z111:=⟨_,rfl⟩;have z1:W1.heap.size=w.heap.size + 2:=by rw [hW1];simp
 have bb1:Below w.heap.size w W1:=by rw [hW1];exact (ZQ w _).alloc (by simp) _
 have k0:W1.heap[w.heap.size]?=some (.cells #[.slice q0 x1 r0, .slice q1 c.length r1] 111):=by
  rw [hW1,ZO _ _ _ (by simp)];exact ZN w _
 have k1:W1.heap[w.heap.size + 1]?=some z111:=by
  rw [hW1];have:=ZN (w.alloc (.cells #[.slice q0 x1 r0, .slice q1 c.length r1] 111)) z111;rwa [World.size_alloc] at this
 have hku:zh B u W1:=hu.trans ((Below.keptC bb1).mono hB)
 have hS:∀W,Below W1.heap.size W1 W->W.cell? ⟨w.heap.size,0,none⟩=some (.slice q0 x1 r0)/\W.cell? ⟨w.heap.size,1,none⟩=some (.slice q1 c.length r1):=fun W hW=> by
  have e:=(hW.block w.heap.size (by omega)).trans k0;exact ⟨by simp [World.cell?,e],by simp [World.cell?,e]⟩
 have hcall:∀W,Below W1.heap.size W1 W->Calls Tryz.prog 79 #[.slice q0 x1 r0, .slice b1 l.length p1] W fun e w'=> ∃aa cc,e= .returned (.slice aa nn cc)/\Hid (∀oN oS oA,PS c l B u W1 oN oS oA none W->PS c l B u W1 oN oS oA (some (.slice aa nn cc)) w'):=fun W hW=> by
  have hbw:=bb1.trans (hW.mono (by omega));refine (zmZ _ _ (c.map (·.1)) l W (((hA0.keep hu).mono hB).below hbw |>.mono hbw.size) (h10.later hbw) (by omega) (by omega)).mono ?_;rintro e w' ⟨v,rfl,ho,_,hb⟩;obtain ⟨aa,cc,rfl,_⟩:=zJ (by omega) ho;rw [<-hnn2];exact ⟨aa,cc,rfl,ZH fun oN oS oA h=> h.call hb (by rw [<-hnn2] at ho ⊢;exact ho)⟩
 have happ:∀W oN n oC,PS c l B u W1 oN (some n) none oC W->∃v' w',(Builtin.append_ #[29,29] 29 #[.slice (some ⟨n,0,none⟩) 0 0, .slice q1 c.length r1]).run Tryz.prog W= .ok v' w'/\((∃aa cc,v'= .slice aa c.length cc)/\Hid (PS c l B u W1 oN none (some v') oC w')):=fun W oN n oC h=>
  PS.app h (by omega) (by omega) hku hB0 hcap
 obtain ⟨m,hm⟩:∃m,m=l'.length:=⟨_,rfl⟩;rw [hll,<-hm] at hcall;rw [<-hm] at hl2;rw [hll,<-hm] at hl;rw [hll,<-hm];have HM:=ZH (And.intro hll hm);clear hll hm;have hdr:∀W:World,W.drew.heap.size=W.heap.size:=fun _=> rfl;have HSt:Hid (PS c l B u W1 none none none none W1.drew):=ZH (PS.start c l B u W1);have HS:=ZH hS;have HW:=ZH hW1;have HZ:=ZH z1;have HK:=ZH (And.intro hku (And.intro k1 bb1));have HNS:=ZH hns;have HL:=ZH (And.intro hx1 hnn2);clear hA0 hB0 h10 hnn hzA hz1 hns hlm hS hku k1 bb1 z1 hx1 hnn2;have k0':=k0;rw [hW1] at k0';clear hW1 k0;go_enter Tryz.func132,Tryz.ntmps132;go_upto_region 1 with fail;rw [<-HW.out]
 go_cut [7] from 9 (fun v7 wx=> ∃(n:Nat) (fa:Option Addr) (fc:Nat) (a:Option Addr) (cap:Nat),v7= .pointer (some ⟨n,0,none⟩)/\Hid (jH (c.map (·.2)) (c.map (·.1) ++ l) B u W1.heap.size n (.slice fa nn fc) a c.length cap wx/\Below W1.heap.size W1 wx))
 case first=>
  go_region_held3 (fun W=> W.cell? ⟨w.heap.size,0,none⟩=some (.slice q0 x1 r0)/\W.cell? ⟨w.heap.size,1,none⟩=some (.slice q1 c.length r1)) (first | exact HS.out _ (PS.doneA rfl HSt.out).2 | exact HS.out _ (PS.done HSt.out).2 | exact HS.out _ (PS.below (by first | exact HSt.out | exact PS.allocN (by first | rfl | simp | (simp;done)) HSt.out | exact PS.allocS (by first | rfl | simp | (simp;done)) HSt.out | exact PS.allocS (by first | rfl | simp | (simp;done)) (PS.allocN (by first | rfl | simp | (simp;done)) HSt.out) | exact PS.allocN (by first | rfl | simp | (simp;done)) (PS.allocS (by first | rfl | simp | (simp;done)) HSt.out))) | go_keep) (first
   | (refine zfx rfl (.tmp 13) (.tmp 15) 29 29 rfl rfl rfl (happ _ _ _ _ (by first | exact HSt.out | exact PS.allocN (by first | rfl | simp | (simp;done)) HSt.out | exact PS.allocS (by first | rfl | simp | (simp;done)) HSt.out | exact PS.allocS (by first | rfl | simp | (simp;done)) (PS.allocN (by first | rfl | simp | (simp;done)) HSt.out) | exact PS.allocN (by first | rfl | simp | (simp;done)) (PS.allocS (by first | rfl | simp | (simp;done)) HSt.out))) ?_;rintro v' w' ⟨⟨aa,cc,rfl⟩,HSt⟩;replace HSt:=HSt.out;(try simp only [hdr,World.size_alloc] at HSt);replace HSt:=ZH HSt;(try obtain ⟨cn0,cn1,cn2,cn3⟩:=PS.cellsN HSt.out))
   | (go_at_call 79;refine (hcall _ (PS.below (by first | exact HSt.out | exact PS.allocN (by first | rfl | simp | (simp;done)) HSt.out | exact PS.allocS (by first | rfl | simp | (simp;done)) HSt.out | exact PS.allocS (by first | rfl | simp | (simp;done)) (PS.allocN (by first | rfl | simp | (simp;done)) HSt.out) | exact PS.allocN (by first | rfl | simp | (simp;done)) (PS.allocS (by first | rfl | simp | (simp;done)) HSt.out)))).mono ?_;rintro e w3 ⟨fa,fc,rfl,ho⟩;have HSt:=ho.out _ _ _ (by first | exact HSt.out | exact PS.allocN (by first | rfl | simp | (simp;done)) HSt.out | exact PS.allocS (by first | rfl | simp | (simp;done)) HSt.out | exact PS.allocS (by first | rfl | simp | (simp;done)) (PS.allocN (by first | rfl | simp | (simp;done)) HSt.out) | exact PS.allocN (by first | rfl | simp | (simp;done)) (PS.allocS (by first | rfl | simp | (simp;done)) HSt.out));(try simp only [hdr,World.size_alloc] at HSt);replace HSt:=ZH HSt))
  all_goals
   go_wp2_with fail;go_meet
   first
    | exact ⟨_,_,_,_,_,rfl,ZH (PS.doneA rfl HSt.out)⟩
    | exact ⟨_,_,_,_,_,rfl,ZH (PS.done HSt.out)⟩
 case rest=>
  obtain ⟨n,fa,fc,a0,cap0,rfl,hP⟩:=hcut;clear HSt hcall happ k0';go_wp2
  go_loopw [8] (fun i wr=> ∃(k:Nat) (a:Option Addr) (cap:Nat),k<=m/\i= .int .i64 k/\Hid (jH (c.map (·.2) ++ (l'.take k).map yq) (c.map (·.1) ++ l) B u W1.heap.size n (.slice fa nn fc) a (c.length + k) cap wr/\Below W1.heap.size W1 wr)) (fun i _=> m - (intOf i).toNat)
  case atStart=> exact ⟨0,a0,cap0,by omega,rfl,ZH (by simpa using hP.out)⟩
  case round=>
   obtain ⟨k,a,cap,hk,rfl,hinv⟩:=hrel;have hW1r:=hinv.out.2;have hsr:=hW1r.size;have hwr:Below w.heap.size w wr:=HK.out.2.2.trans (hW1r.mono (by have:=HZ.out;omega));have hbxn:=hinv.out.1.2.2.1;by_cases hlt:k < m
   ·have hkl:k < l'.length:=by rw [<-HM.out.2];exact hlt
    rcases hc2 with h0 | ⟨b0,o0,rfl,hB0,hcc⟩
    ·rw [h0] at hkl;simp at hkl
    have x0:wr.cell? ⟨b0,o0 + k,none⟩=some (.string l'[k]):=(hwr.cell (p:=⟨b0,o0 + k,none⟩) hB0).trans (hcc k hkl);have hsz:(l'[k]).size<=maxLen:=hz2 _ (ZM hkl);have hstep:∀w3,Below wr.heap.size wr w3->_:=fun w3 h3=> jH.step hinv.out.1 hW1r (by omega) h3 hsz;rw [List.append_assoc,<-List.map_singleton (f:=yq),<-List.map_append,<-ZT hkl] at hstep;obtain ⟨s,hs⟩:∃s,s=l'[k]:=⟨_,rfl⟩;rw [<-hs] at x0 hsz hstep;have hnl:=(ZG hbxn).1
    have hS:∀W,Below wr.heap.size wr W->W.cell? ⟨n,1,none⟩=some (.slice a (c.length + k) cap)/\W.cell? ⟨b0,o0 + k,none⟩=some (.string s):=fun W hW=> by
     have e:=(hW.block n hnl).trans hbxn;exact ⟨by simp [World.cell?,e],(hW.cell (p:=⟨b0,o0 + k,none⟩) (by show b0 < _;have:=hwr.size;omega)).trans x0⟩
    have hcall:∀W,Below wr.heap.size wr W->Calls Tryz.prog 169 #[.string s] W fun e w'=> ∃gg cp w5,e= .returned (.agg #[.int .i64 2, .int .i64 0, .string s, .slice none 0 0])/\Hid (Below wr.heap.size wr w')/\
      (Builtin.append_ #[29,29] 29 #[.slice a (c.length + k) cap, .slice (some ⟨w'.heap.size,0,none⟩) 1 1]).run Tryz.prog (w'.alloc (.cells #[.int .i64 2, .int .i64 0, .string s, .slice none 0 0] 36))= .ok (.slice (some ⟨gg,0,none⟩) (c.length + k + 1) cp) w5/\
      w5.cell? ⟨n,1,none⟩=some (.slice a (c.length + k) cap)/\w5.frozen? ⟨n,1,none⟩=false/\
      Hid (jH (c.map (·.2) ++ (l'.take (k + 1)).map yq) (c.map (·.1) ++ l) B u W1.heap.size n (.slice fa nn fc) (some ⟨gg,0,none⟩) (c.length + k + 1) cp (w5.setCell ⟨n,1,none⟩ (.slice (some ⟨gg,0,none⟩) (c.length + k + 1) cp))/\Below W1.heap.size W1 (w5.setCell ⟨n,1,none⟩ (.slice (some ⟨gg,0,none⟩) (c.length + k + 1) cp))):=fun W hW=> by
     refine (zlu s W).mono ?_;rintro e w' ⟨rfl,hb⟩;have hb':=hW.trans (hb.mono hW.size);obtain ⟨gg,cp,w5,g1,g2,g3,g4⟩:=hstep w' hb';exact ⟨gg,cp,w5,rfl,ZH hb',g1,g2,g3,g4⟩
    have hd:Below wr.heap.size wr wr.drew:=(ZF _ _).drew;have hc:=hcall wr.drew hd;obtain ⟨s0,s1⟩:=hS wr.drew hd;have HSS:=ZH hS;clear hcc hstep hs hS hcall hkl hbxn hnl x0 hW1r hsr hwr hinv;go_wp2
    go_region_law (first
     | (revert hr;intro hr;refine zU rfl (.tmp 25) (.tmp 31) 29 29 rfl rfl rfl hr ?_)
     | (go_simp;go_wp2_with (go_at_call 169;refine hc.mono ?_;rintro e' w3 ⟨gg,cp,w5,rfl,hb3,hr,hw1,hw2,hfin⟩;obtain ⟨t0,t1⟩:=HSS.out w3 hb3.out;obtain ⟨t0',t1'⟩:=HSS.out (w3.alloc (.cells #[.int .i64 2, .int .i64 0, .string s, .slice none 0 0] 36)) (hb3.out.alloc hb3.out.size _))))
    all_goals
     clear hr hw1 hw2 hc;go_wp2;go_roundw
     case rel=> exact ⟨k + 1,some ⟨gg,0,none⟩,cp,by omega,by go_num,hfin⟩
     case measure=> simp [intOf];omega
   ·obtain rfl:k=m:=by omega
    have e1:wr.heap[w.heap.size + 1]?=some z111:=(hW1r.block (w.heap.size + 1) (by have:=HZ.out;omega)).trans HK.out.2.1
    obtain ⟨y0,y1,y2,y3⟩:wr.cell? ⟨n,0,none⟩=some (.slice fa nn fc)/\wr.cell? ⟨n,1,none⟩=some (.slice a (c.length + k) cap)/\wr.cell? ⟨w.heap.size + 1,0,none⟩=some (.slice none 0 0)/\wr.cell? ⟨w.heap.size + 1,1,none⟩=some (.slice none 0 0):=
     ⟨by simp [World.cell?,hbxn],by simp [World.cell?,hbxn],by simp [World.cell?,e1],by simp [World.cell?,e1]⟩
    obtain ⟨f0,f1⟩:wr.frozen? ⟨w.heap.size + 1,0,none⟩=false/\wr.frozen? ⟨w.heap.size + 1,1,none⟩=false:=⟨by simp [World.frozen?,e1],by simp [World.frozen?,e1]⟩
    have hfin:∀W,W=(wr.setCell ⟨w.heap.size + 1,0,none⟩ (.slice fa nn fc)).setCell ⟨w.heap.size + 1,1,none⟩ (.slice a (c.length + k) cap)->xI wr.heap.size (mid u B w.heap.size W) [.slice fa nn fc, .slice a (c.length + k) cap] (zbi c l l')/\Below w.heap.size w W:=by
     rintro W rfl
     have hgr:wr.grownBy ((wr.setCell ⟨w.heap.size + 1,0,none⟩ (.slice fa nn fc)).setCell ⟨w.heap.size + 1,1,none⟩ (.slice a (c.length + k) cap)) (some (w.heap.size + 1)):=⟨rfl,rfl,rfl,by simp [World.setCell],fun b hb hne=> by
      have hbn:b≠w.heap.size + 1:=fun e=> hne (by rw [e]);rw [ZC _ _ _ _ hbn,ZC _ _ _ _ hbn]⟩
     have hz:=HZ.out;have hbF:Below w.heap.size w ((wr.setCell ⟨w.heap.size + 1,0,none⟩ (.slice fa nn fc)).setCell ⟨w.heap.size + 1,1,none⟩ (.slice a (c.length + k) cap)):=(hwr.setCell (p:=⟨w.heap.size + 1,0,none⟩) (by show w.heap.size<=w.heap.size + 1;omega) _).setCell (p:=⟨w.heap.size + 1,1,none⟩) (by show w.heap.size<=w.heap.size + 1;omega) _;have hp:=jH.skip hinv.out.1 hgr (by omega);have:=hp.chg (z:=zbi c l l') (hu.trans ((Below.keptC hbF).mono hB)) (by omega) HNS.out (zkF (by rw [HM.out.1])) (by rw [zkO (by rw [HM.out.1]),show l'.take k=l' by rw [HM.out.2,List.take_length]]) (A:=w.heap.size) (by omega);exact ⟨by simpa [World.setCell] using this,hbF⟩
    have HF:=ZH hfin;clear hfin hinv hW1r hsr hwr hbxn e1 hc2 hz2;go_wp2;simp [bodyPost,results,Tryz.results132,go_sem,y0,y1,y2,y3];exact HF.out _ rfl
mutual
theorem upE (lev:Nat):∀e:Exp,jV (lev + 1) e=(jV lev e).map (fun y=> (y.1,y.2 + 1))
 | .mk o n t k=> by rw [jV,jV,List.map_cons,upEs (lev + 1) k]
theorem upEs (lev:Nat):∀l:List Exp,yG (lev + 1) l=(yG lev l).map (fun y=> (y.1,y.2 + 1))
 | []=> rfl
 | a::l=> by rw [yG,yG,List.map_append,upE lev a,upEs lev l]
end
mutual
theorem upC (lev:Nat):∀e:zg,qF (lev + 1) e=(qF lev e).map (fun y=> (y.1,y.2 + 1))
 | .mk f t j d k=> by rw [qF,qF,List.map_cons,List.map_append,upCs (lev + 1) d,upTs (lev + 1) k]
theorem upCs (lev:Nat):∀l:List zg,qu (lev + 1) l=(qu lev l).map (fun y=> (y.1,y.2 + 1))
 | []=> rfl
 | a::l=> by rw [qu,qu,List.map_append,upC lev a,upCs lev l]
theorem upT (lev:Nat):∀e:Term,qL (lev + 1) e=(qL lev e).map (fun y=> (y.1,y.2 + 1))
 | .mk o t a d k=> by rw [qL,qL,List.map_cons,List.map_append,List.map_append,upEs (lev + 1) a,upCs (lev + 1) d,upTs (lev + 1) k]
theorem upTs (lev:Nat):∀l:List Term,yj (lev + 1) l=(yj lev l).map (fun y=> (y.1,y.2 + 1))
 | []=> rfl
 | a::l=> by rw [yj,yj,List.map_append,upT lev a,upTs lev l]
end
theorem zlC (lev:Nat) (p:Part):zw (lev + 1) p=(zw lev p).map (fun y=> (y.1,y.2 + 1)):=by
 cases p with
 | proc t=> exact upT lev t
 | exp t=> exact upE lev t
 | def_ t=> exact upC lev t
structure qN (v:Env):Prop where
 base:v.base= .outside
 frames:∀f∈v.frames,∀x n,f x=some n->n=mkB x
theorem qN.becomes {v:Env} (h:qN v) (x:ByteArray):v.becomes x=yq x:=by
 unfold Env.becomes;rw [h.base]
 have:∀fs:List Frame,(∀f∈fs,∀x n,f x=some n->n=mkB x)->yC .outside x fs=yq x:=by
  intro fs
  induction fs with
  | nil=> intro _;rfl
  | cons f fs ih=>
   intro hf;rw [yC];cases hx:f (zb x) with
   | some n=> rw [hf f (by simp) _ _ hx,zcL]
   | none=> exact ih (fun g hg=> hf g (by simp [hg]))
 exact this _ h.frames
theorem qN.text {v:Env} (h:qN v) (x:ByteArray):yS v x=some x:=by
 unfold yS
 split
 ·rfl
 ·rw [h.becomes];rfl
theorem qN.texts {v:Env} (h:qN v):∀l,zbr v l=some l
 | []=> rfl
 | a::l=> by rw [zbr,h.text,h.texts l]
theorem qN.msgs {v i:Env} (h:qN v) (hi:qN i):∀l,zau v i l=some l
 | []=> rfl
 | a::l=> by rw [zau,msgM,h.text,hi.texts,qN.msgs h hi l]
theorem qN.inside {v:Env} (h:qN v) (U:Used) (p:Part):qN (inside v U p).1/\(inside v U p).2=U:=by
 unfold Go.Proofs.YtjmlaeofjjhfmaaGreat.inside
 split
 ·exact ⟨h,rfl⟩
 ·have e:v.base.renames v p= []:=by rw [h.base];rfl
  rw [e];simp only [List.foldl_nil];refine ⟨⟨h.base,fun f hf x n hn=> ?_⟩,trivial⟩;rcases List.mem_cons.1 hf with rfl | hf
  ·rw [zfU] at hn
   split at hn
   ·cases hn;rfl
   ·cases hn
  ·exact h.frames f hf x n hn
mutual
theorem qN.exp {v:Env} (h:qN v):∀e,xr e=true->zeS v e=e
 | .mk op n t k,hp=> by
  rw [xr,Bool.and_eq_true] at hp;rw [zeS];by_cases ho:op=2
  ·subst ho
   have hp1:=hp.1;simp at hp1;rw [if_pos rfl,h.becomes,yq,hp1.1,hp1.2]
  ·rw [if_neg ho,qN.exps h k hp.2]
theorem qN.exps {v:Env} (h:qN v):∀l,xK l=true->jM v l=l
 | [],_=> rfl
 | a::l,hp=> by
  rw [xK,Bool.and_eq_true] at hp;rw [jM,qN.exp h a hp.1,qN.exps h l hp.2]
end
mutual
theorem qN.clause:∀(c:zg) {v:Env} (_:qN v) (U:Used),jQ c->xJ v U c=some (c,U)
 | .mk f t j d k,v,h,U,hf=> by
  obtain ⟨hi,hu⟩:=h.inside U (.def_ (.mk f t j d k));rw [xJ];simp only [h.text,h.msgs hi,hu,qN.clauses d hi U (fun c hc=> hf.part (ji hc)),qN.terms k hi U (fun c hc=> hf.part (jl hc))]
theorem qN.clauses:∀(l:List zg) {v:Env} (_:qN v) (U:Used),(∀c∈l,jQ c)->jx v U l=some (l,U)
 | [],v,h,U,_=> rfl
 | a::l,v,h,U,hf=> by
  rw [jx,qN.clause a h U (hf a (by simp))];simp only;rw [qN.clauses l h U (fun x hx=> hf x (by simp [hx]))]
theorem qN.term:∀(c:Term) {v:Env} (_:qN v) (U:Used),ye c->yl v U c=some (c,U)
 | .mk o t a d k,v,h,U,hf=> by
  obtain ⟨hi,hu⟩:=h.inside U (.proc (.mk o t a d k));have hpl:=(zfj a (fun c hc=> hf.part (zda hc))).2;rw [yl];simp only [h.text,hi.exps a hpl,hu,qN.clauses d hi U (fun c hc=> hf.part (yu hc)),qN.terms k hi U (fun c hc=> hf.part (qV hc))]
theorem qN.terms:∀(l:List Term) {v:Env} (_:qN v) (U:Used),(∀c∈l,ye c)->ju v U l=some (l,U)
 | [],v,h,U,_=> rfl
 | a::l,v,h,U,hf=> by
  rw [ju,qN.term a h U (hf a (by simp))];simp only;rw [qN.terms l h U (fun x hx=> hf x (by simp [hx]))]
end
theorem zdg (t:Term) (U:Used) (h:ye t):yl ⟨.outside, [jp]⟩ U t=some (t,U):=
 qN.term t ⟨rfl,fun f hf x n hn=> by rw [List.mem_singleton.1 hf] at hn;cases hn⟩ U h
theorem zav {t:Term} (h:zT (.proc t)):ye t:=xg h
theorem Tryz.results81:Tryz.f81.results=#[.cell 6 33]:=by kernel_rfl
theorem Tryz.results135:Tryz.f135.results=#[.cell 6 130]:=by kernel_rfl
def Fit0 (p:Part):Prop:=p.size<=60/\∀q∈zw 1 p,q.1.shaped=true/\zeq q.1
theorem zT.fit0 {p:Part} (h:zT p):Fit0 p:=⟨h.1,fun q hq=> ⟨(h.2 q hq).1,(h.2 q hq).2.2⟩⟩
theorem jr {p q:Part} (h:Fit0 p) (hq:q∈p.parts):Fit0 q:=by
 have hz:=qi hq;refine ⟨by have:=h.1;omega,fun x hx=> ?_⟩
 have hx2:(x.1,x.2 + 1)∈zw 1 p:=by
  rw [zv];refine List.mem_cons_of_mem _ (jh hq ?_);rw [zlC];exact List.mem_map.2 ⟨x,hx,rfl⟩
 have:=h.2 _ hx2;exact this
theorem Fit0.nd {p:Part} (h:Fit0 p):NdP (fun q=> q.shaped=true) p:=fun q hq=> by
 rw [qJ 0 1] at hq;obtain ⟨y,hy,rfl⟩:=List.mem_map.1 hq;exact (h.2 y hy).1
abbrev zgw (w:World) (wb:Nat):Prop:=xM w wb 0 ⟨#[]⟩ (.slice none 0 0) (.slice none 0 0) false
def zgv (s:Nat):Prop:=∀t:Term,(Part.proc t).size<=s->Fit0 (.proc t)->∀c:Chg,IdC c->c.length + 900 * s<=80000->∀(B:Nat) (u w:World) (wb:Nat) (c1 c2:List Value),zh B u w->B<=w.heap.size->zgw w wb->xI B u c1 c->ze B u c2 t->
 Calls Tryz.prog 81 #[.pointer (some ⟨wb,0,none⟩), .agg c1.toArray, .agg c2.toArray] w fun e w'=> ∃rs,e= .returned (.agg rs.toArray)/\ze w'.heap.size (blank w.heap.size w') rs t/\Below w.heap.size w w'
def zdi (s:Nat):Prop:=∀t:zg,(Part.def_ t).size<=s->Fit0 (.def_ t)->∀c:Chg,IdC c->c.length + 900 * s<=80000->∀(B:Nat) (u w:World) (wb:Nat) (c1 c2:List Value),zh B u w->B<=w.heap.size->zgw w wb->xI B u c1 c->zo B u c2 t->
 Calls Tryz.prog 135 #[.pointer (some ⟨wb,0,none⟩), .agg c1.toArray, .agg c2.toArray] w fun e w'=> ∃rs,e= .returned (.agg rs.toArray)/\zo w'.heap.size (blank w.heap.size w') rs t/\Below w.heap.size w w'
structure TF (w:World) (wb ob:Nat) (arg res:Obj) (Bc:Nat) (uc:World) (q0:Option Addr) (x1 r0:Nat) (q1:Option Addr) (x2 r1:Nat) (W:World):Prop where
 chg:W.heap[w.heap.size]?=some (.cells #[.slice q0 x1 r0, .slice q1 x2 r1] 111)
 arg:W.heap[w.heap.size + 1]?=some arg
 res:W.heap[w.heap.size + 2]?=some res
 walk:zgw W wb
 kept:zh Bc uc W
 bc:Bc<=W.heap.size
 below:Below w.heap.size w W
 wlt:wb < w.heap.size
 lo:w.heap.size + 3<=ob
 hi:ob < W.heap.size
 off:∀o v,uc.cell? ⟨ob,o,none⟩=some v->Bc<=ob
theorem TF.grown {w:World} {wb ob:Nat} {arg res:Obj} {Bc:Nat} {uc:World} {q0:Option Addr} {x1 r0:Nat} {q1:Option Addr} {x2 r1:Nat} {W W':World} (h:TF w wb ob arg res Bc uc q0 x1 r0 q1 x2 r1 W) (hg:W.grownBy W' (some ob)):TF w wb ob arg res Bc uc q0 x1 r0 q1 x2 r1 W':=by
 have hlo:=h.lo;have hhi:=h.hi;have hs:=hg.size;have hk:∀b,b < W.heap.size->b≠ob->W'.heap[b]?=W.heap[b]?:=fun b hb hne=> hg.block b hb (fun e=> hne (ZJ e));refine ⟨(hk _ (by omega) (by omega)).trans h.chg,(hk _ (by omega) (by omega)).trans h.arg,(hk _ (by omega) (by omega)).trans h.res,(hk wb (by have:=h.wlt;omega) (by have:=h.wlt;omega)).trans h.walk,fun b o v hb hv=> ?_,by have:=h.bc;omega,h.below.grown hg (by omega) (fun k e=> by have:=ZJ e;omega),h.wlt,hlo,by omega,h.off⟩;have h1:=h.kept b o v hb hv;refine (ZB (w:=W) (hk b (zD h1) (fun e=> ?_))).trans h1;subst e;have:=h.off o v hv;omega
theorem TF.later {w:World} {wb ob:Nat} {arg res:Obj} {Bc:Nat} {uc:World} {q0:Option Addr} {x1 r0:Nat} {q1:Option Addr} {x2 r1:Nat} {W W':World} (h:TF w wb ob arg res Bc uc q0 x1 r0 q1 x2 r1 W) (hb:Below W.heap.size W W'):TF w wb ob arg res Bc uc q0 x1 r0 q1 x2 r1 W':=
 h.grown ⟨hb.os,hb.tape,hb.output,hb.size,fun b hl _=> hb.block b hl⟩
theorem TF.chgCells {w:World} {wb ob:Nat} {arg res:Obj} {Bc:Nat} {uc:World} {q0:Option Addr} {x1 r0:Nat} {q1:Option Addr} {x2 r1:Nat} {W:World} (h:TF w wb ob arg res Bc uc q0 x1 r0 q1 x2 r1 W):
  W.cell? ⟨w.heap.size,0,none⟩=some (.slice q0 x1 r0)/\W.cell? ⟨w.heap.size,1,none⟩=some (.slice q1 x2 r1)/\W.frozen? ⟨w.heap.size,0,none⟩=false/\W.frozen? ⟨w.heap.size,1,none⟩=false:=
 ⟨by simp [World.cell?,h.chg],by simp [World.cell?,h.chg],by simp [World.frozen?,h.chg],by simp [World.frozen?,h.chg]⟩
theorem TF.plus {w:World} {wb ob:Nat} {arg res:Obj} {Bc:Nat} {uc:World} {q0:Option Addr} {x1 r0:Nat} {q1:Option Addr} {x2 r1:Nat} {W wA w5:World} (h:TF w wb ob arg res Bc uc q0 x1 r0 q1 x2 r1 W) (hA:Below W.heap.size W wA) (h5:Below wA.heap.size wA w5)
  {q0':Option Addr} {x1' r0':Nat} {q1':Option Addr} {x2' r1':Nat} (hBc:Bc<=w.heap.size):
  TF w wb ob arg res w5.heap.size (mid uc Bc wA.heap.size w5) q0' x1' r0' q1' x2' r1' ((w5.setCell ⟨w.heap.size,0,none⟩ (.slice q0' x1' r0')).setCell ⟨w.heap.size,1,none⟩ (.slice q1' x2' r1'))/\
   zE (ob + 1) W ((w5.setCell ⟨w.heap.size,0,none⟩ (.slice q0' x1' r0')).setCell ⟨w.heap.size,1,none⟩ (.slice q1' x2' r1')):=by
 have hA5:Below W.heap.size W w5:=hA.trans (h5.mono hA.size);have h':=h.later hA5;have hsA:=hA.size;have hs5:=h5.size;have hhi:=h.hi;have hlo:=h.lo;have hwl:=h.wlt
 have hk:∀b,b≠w.heap.size->((w5.setCell ⟨w.heap.size,0,none⟩ (.slice q0' x1' r0')).setCell ⟨w.heap.size,1,none⟩ (.slice q1' x2' r1')).heap[b]?=w5.heap[b]?:=fun b hb=> by
  rw [ZC _ _ _ _ (by simpa using hb),ZC _ _ _ _ (by simpa using hb)]
 have hsz:((w5.setCell ⟨w.heap.size,0,none⟩ (.slice q0' x1' r0')).setCell ⟨w.heap.size,1,none⟩ (.slice q1' x2' r1')).heap.size=w5.heap.size:=by simp [World.setCell]
 refine ⟨⟨?_,(hk _ (by omega)).trans h'.arg,(hk _ (by omega)).trans h'.res,(hk _ (by omega)).trans h'.walk,fun b o v hb hv=> ?_,by rw [hsz];exact ZL _,(h'.below.setCell (p:=⟨w.heap.size,0,none⟩) (ZL _) _).setCell (p:=⟨w.heap.size,1,none⟩) (ZL _) _,hwl,hlo,by rw [hsz];exact h'.hi,fun o v hv=> ?_⟩,by rw [hsz];omega,fun b hb hl=> (hk b (by omega)).trans (hA5.block b hl)⟩
 ·have:=qD (qD h'.chg 0 (.slice q0' x1' r0')) 1 (.slice q1' x2' r1')
  simpa using this
 ·obtain ⟨_,h2⟩:=(yM _ _ _ _ _ _ _).1 hv
  rcases h2 with ⟨g1,g2⟩ | ⟨g1,g2,g3⟩
  ·exact (ZB (w:=w5) (hk b (by omega))).trans (h'.kept b o v g1 g2)
  ·exact (ZB (w:=w5) (hk b (by omega))).trans g3
 ·obtain ⟨_,h2⟩:=(yM _ _ _ _ _ _ _).1 hv
  rcases h2 with ⟨g1,g2⟩ | ⟨g1,g2,g3⟩ <;> omega
theorem zdw {op:Int} {text:ByteArray} {args:List Exp} {defs:List zg} {kids:List Term} (h:Fit0 (.proc (.mk op text args defs kids))):args.length<=3/\defs.length<=5/\kids.length<=2:=by
 have hs:(Part.proc (.mk op text args defs kids)).shaped=true:=(h.2 _ (by rw [zv];exact List.mem_cons_self ..)).1;simp only [Part.shaped,yg,Bool.or_eq_true,Bool.and_eq_true,beq_iff_eq,decide_eq_true_eq] at hs;omega
theorem zcT {form:Int} {text:ByteArray} {joins:List Msg} {defs:List zg} {kids:List Term} (h:Fit0 (.def_ (.mk form text joins defs kids))):joins.length<=3/\defs.length<=5/\kids.length=1/\(ql joins).length<=9:=by
 have hs:(Part.def_ (.mk form text joins defs kids)).shaped=true:=(h.2 _ (by rw [zv];exact List.mem_cons_self ..)).1;simp only [Part.shaped,yB,qH,Bool.or_eq_true,Bool.and_eq_true,beq_iff_eq,decide_eq_true_eq,List.all_eq_true] at hs
 have hn:∀js:List Msg,(∀x∈js,x.names.length<=3)->(ql js).length<=3 * js.length:=by
  intro js
  induction js with
  | nil=> intro _;simp [ql]
  | cons a js ih=>
   intro hx;have h1:=hx a (List.mem_cons_self ..);have h2:=ih (fun x hm=> hx x (List.mem_cons_of_mem _ hm));simp only [ql,List.flatMap_cons,List.length_append,List.length_cons] at h2 ⊢;omega
 rcases hs with h1 | h1
 ·have:=hn joins (fun x hx=> h1.1.1.2.1.1.2 x hx)
  omega
 ·obtain rfl:=List.length_eq_zero_iff.1 h1.1.1.2
  refine ⟨by simp,by omega,by omega,by simp [ql]⟩
theorem zds {op:Int} {text:ByteArray} {args:List Exp} {defs:List zg} {kids:List Term} (h:Fit0 (.proc (.mk op text args defs kids))) (e:Exp) (he:e∈args):NdP (fun q=> q.shaped=true) (.exp e):=by
 have hp:Part.exp e∈(Part.proc (.mk op text args defs kids)).parts:=by
  rw [Part.parts];simp only [List.mem_append,List.mem_map];exact .inl (.inl ⟨e,he,rfl⟩)
 have hf:=jr h hp;intro q hq;rw [qJ 0 1] at hq;obtain ⟨y,hy,rfl⟩:=List.mem_map.1 hq;exact (hf.2 y hy).1
theorem zhO {op:Int} {text:ByteArray} {args:List Exp} {defs:List zg} {kids:List Term} (h:Fit0 (.proc (.mk op text args defs kids))) (hop:op=4):zaQ defs/\(zl (zm defs)).length<=780/\zZ defs<=60:=by
 have hm:(Part.proc (.mk op text args defs kids),1)∈zw 1 (Part.proc (.mk op text args defs kids)):=by rw [zv];exact List.mem_cons_self ..
 have h1:=(h.2 _ hm).2 hop
 have hsz:zZ defs<=(Part.proc (.mk op text args defs kids)).size:=by
  simp only [Part.size,zw,qL,List.length_cons,List.length_append,zZ];rw [jz 0 (0 + 1) defs];omega
 have h2:=zdo defs 0 (fun c hc=> (jr h (by rw [Part.parts];simp only [List.mem_append,List.mem_map];exact .inl (.inr ⟨c,hc,rfl⟩))).nd);have h3:=h.1;unfold zZ at hsz ⊢;exact ⟨h1,by omega,by omega⟩
section
variable {P:Program} {ops:Array Oper} {Q:Exit->Act->World->Prop} {md:Region.Mode} {S:World->Prop} {k:Nat}
def Sunk (P:Program) (md:Region.Mode) (ops:Array Oper) (Q:Exit->Act->World->Prop) (S:World->Prop) (k:Nat):Nat->Array Bool->Act->World->Prop
 | 0,listed,a,w=> Region.ready md ops listed= []/\Q .normal a w
 | f + 1,listed,a,w=> (Region.ready md ops listed= []->Q .normal a w)/\
   ∀i∈Region.ready md ops listed,wpOp P ops Q i (fun a' w'=> (i≠k->S w')/\Sunk P md ops Q S k f (listed.setIfInBounds i true) a' w') a w
theorem Sunk.any:∀(f:Nat) (listed:Array Bool) (a:Act) (w:World),Sunk P md ops Q S k f listed a w->wpAny P md ops Q f listed a w
 | 0,_,_,_,h=> h
 | f + 1,_,_,_,h=> ⟨h.1,fun i hi=> wpOp_mono (fun a' w' g=> Sunk.any f _ a' w' g.2) (h.2 i hi)⟩
def zaw (md:Region.Mode) (ops:Array Oper) (k i:Nat):Bool:=i !=k && (match ops[k]? with
 | some ok=> ok.after.toList.any (fun e=> Region.binds md e && e.on==i)
 | none=> false)
theorem Sunk.first {i:Nat} {oi:Oper} {v:Value} (hi:ops[i]?=some oi) (hsel:∀(j:Nat) (o:Oper) cs b,ops[j]?=some o->o.op≠ .select cs b) (hwt:zaw md ops k i=true)
  (hQ:∀c a w,Q (.panic c) (a.put oi.dst v) w->Q (.panic c) a w) (f:Nat):
  ∀(listed:Array Bool) (a:Act) (w:World),
   (∀j oj,ops[j]?=some oj->j≠i->listed.getD j true=false->(∀e∈oj.after,Region.binds md e=true->e.on≠i)->oi.apart ops oj=true)->
   i∈Region.ready md ops listed->YieldsIf P ops S oi v a->S w->
   Sunk P md ops Q S k f (listed.setIfInBounds i true) (a.put oi.dst v) w->Sunk P md ops Q S k (f + 1) listed a w:=by
 have hwt':i≠k/\∀ok,ops[k]?=some ok->∃e∈ok.after,Region.binds md e=true/\e.on=i:=by
  unfold zaw at hwt;rw [Bool.and_eq_true,bne_iff_ne] at hwt;refine ⟨hwt.1,fun ok hok=> ?_⟩;have h2:=hwt.2;rw [hok] at h2;simp only [List.any_eq_true,Bool.and_eq_true,beq_iff_eq] at h2;obtain ⟨e,he,hb,ho⟩:=h2;exact ⟨e,Array.mem_toList_iff.1 he,hb,ho⟩
 induction f with
 | zero=>
  intro listed a w _ hr hy hS H;refine ⟨fun h=> (by rw [h] at hr;cases hr),fun j hj=> ?_⟩;by_cases hji:j=i
  ·subst hji;exact hy.wpOp hi hS ⟨fun _=> hS,H⟩
  ·have:=ready_mono hj hji
   rw [H.1] at this;cases this
 | succ f ih=>
  intro listed a w hfree hr hy hS H;refine ⟨fun h=> (by rw [h] at hr;cases hr),fun j hj=> ?_⟩;by_cases hji:j=i
  ·subst hji;exact hy.wpOp hi hS ⟨fun _=> hS,H⟩
  ·have g1:=H.2 j (ready_mono hj hji)
   obtain ⟨hun,oj,hoj,hall⟩:=mem_ready.1 hj
   have hnot:∀e∈oj.after,Region.binds md e=true->e.on≠i:=fun e he hb heq=> by
    have h1:=hall e he hb;have h0:=(mem_ready.1 hr).1;rw [heq] at h1;rcases Nat.lt_or_ge i listed.size with h' | h'
    ·simp [h'] at h0 h1;rw [h0] at h1;cases h1
    ·simp [Array.getElem?_eq_none h'] at h1
   have hjk:j≠k:=fun e=> by
    subst e;obtain ⟨x,hx,hb,ho⟩:=hwt'.2 oj hoj;exact hnot x hx hb ho
   have g2:=wpOp_putIf hoj (hfree j oj hoj hji hun hnot) (fun cs b=> hsel i oi cs b hi) (fun cs b=> hsel j oj cs b hoj) hQ hy g1;refine wpOp_mono (fun a' w' g3=> ⟨g3.2.1,ih (listed.setIfInBounds j true) a' w' (fun m om hm hmi hum hno=> hfree m om hm hmi ?_ hno) (ready_mono hr (Ne.symm hji)) g3.1 (g3.2.1 hjk) ?_⟩) g2
   ·by_cases hjm:j=m
    ·subst hjm;exact hun
    ·rw [getD_set_ne true hjm] at hum;exact hum
   ·rw [Array.setIfInBounds_comm _ _ hji]
    exact g3.2.2
theorem Sunk.take (i:Nat) {oi:Oper} (v:Value) {f:Nat} {listed:Array Bool} {a:Act} {w:World} (hi:ops[i]?=some oi) (hs:Region.noSelect ops=true) (hf:Region.free md ops listed i=true)
  (hr:(Region.ready md ops listed).contains i=true) (hwt:zaw md ops k i=true) (hQ:∀c a w,Q (.panic c) (a.put oi.dst v) w->Q (.panic c) a w) (hS:S w)
  (hw:Region.wanted oi (yielded ops a.tmps)=true) (hy:∀w,S w->(execOp a.eval oi).run P w= .ok (.value v) w)
  (h:Sunk P md ops Q S k f (listed.setIfInBounds i true) (a.put oi.dst v) w):Sunk P md ops Q S k (f + 1) listed a w:=
 Sunk.first hi (Region.noSelect_spec hs) hwt hQ f listed a w (Region.free_spec hi hf) (by simpa using hr) (.inl ⟨hw,hy⟩) hS h
theorem Sunk.skip (i:Nat) {oi:Oper} {f:Nat} {listed:Array Bool} {a:Act} {w:World} (hi:ops[i]?=some oi) (hs:Region.noSelect ops=true) (hf:Region.free md ops listed i=true)
  (hr:(Region.ready md ops listed).contains i=true) (hwt:zaw md ops k i=true) (hQ:∀c a w,Q (.panic c) (a.put oi.dst undef) w->Q (.panic c) a w) (hS:S w)
  (hw:Region.wanted oi (yielded ops a.tmps)=false) (h:Sunk P md ops Q S k f (listed.setIfInBounds i true) (a.put oi.dst undef) w):Sunk P md ops Q S k (f + 1) listed a w:=
 Sunk.first hi (Region.noSelect_spec hs) hwt hQ f listed a w (Region.free_spec hi hf) (by simpa using hr) (.inr ⟨hw,rfl⟩) hS h
theorem Sunk.one (i:Nat) {o:Oper} {f:Nat} {listed:Array Bool} {a:Act} {w:World} (hr:Region.ready md ops listed= [i]) (ho:ops[i]?=some o) (hw:Region.wanted o (yielded ops a.tmps)=true)
  (h:∀K':Act->World->Prop,Shut (∀a w,(i≠k->S w)->Sunk P md ops Q S k f (listed.setIfInBounds i true) a w->K' a w)->Oper.wp P o a w K' Q):Sunk P md ops Q S k (f + 1) listed a w:=by
 refine ⟨fun h0=> (by rw [hr] at h0;cases h0),fun j hj=> ?_⟩;rw [hr] at hj;obtain rfl:=List.mem_singleton.1 hj;exact wpOp_step ho (fun K' hK=> by rw [if_pos hw];exact h K' (fun a w g1 g2=> hK a w ⟨g1,g2⟩))
theorem Sunk.done {f:Nat} {listed:Array Bool} {a:Act} {w:World} (hr:Region.ready md ops listed= []) (h:Q .normal a w):Sunk P md ops Q S k f listed a w:=by
 cases f with
 | zero=> exact ⟨hr,h⟩
 | succ f=> exact ⟨fun _=> h,by rw [hr];simp⟩
theorem jg {id:Nat} {a:Act} {w:World} (S:World->Prop) (k:Nat) (hm:P.follows .mixedOrders=true) (h:Sunk P .any ops Q S k ops.size (Array.replicate ops.size false) a w.drew):(Code.region id ops true).wp P Q a w:=
 wp_region_any hm (Sunk.any _ _ _ _ h)
end
end
end Go.Proofs.YtjmlaeofjjhfmaaGreat
