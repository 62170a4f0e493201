/- Lemmas. -/
import Derived.Test.YtjmlaeofjjhfmaaGreatS19
import Derived.Deep.RegionHeld3
import Derived.Test.YtjmlaeofjjhfmaaGreatS08
import Derived.Test.YtjmlaeofjjhfmaaGreatS12
set_option linter.unusedVariables false
set_option linter.unusedSimpArgs false
set_option maxRecDepth 10000
set_option maxHeartbeats 16000000
namespace Go.Proofs.YtjmlaeofjjhfmaaGreat
section
open Go.RowKit Go.Shelf Go.Maps Go.WideMaps
mutual
theorem zaa:∀t:Term,(zG t).length<=(qL 0 t).length
 | .mk op t a d k=> by
  have:=zev k;rw [zaH 0 1] at this;rw [zG,qL]
  split
  ·simp
  ·split
   ·simp;omega
   ·simp
theorem zev:∀l:List Term,(qO l).length<=(yj 0 l).length
 | []=> by simp [qO]
 | a::l=> by have:=zaa a;have:=zev l;simp [qO,yj];omega
end
theorem zfK (B:Nat) (u:World):∀(s:Nat) (t:Term),(Part.proc t).size<=s->s<=60->Fine (.proc t)->∀(cs:List Value) (w:World),ze B u cs t->zh B u w->B<=w.heap.size->
  Calls Tryz.prog 100 #[.agg cs.toArray] w fun e w'=> ∃r vals,e= .returned r/\w'.ownsRow w.heap.size 33 5 r (zG t).length vals/\zq ze 5 B u vals (zG t)/\Below w.heap.size w w':=by
 intro s
 induction s with
 | zero=> intro t ht;have:=yD (.proc t);omega
 | succ s ih=>
  intro t hts hs6 hfn cs w hat hu hB;obtain ⟨op,tx,args,defs,kids⟩:=t;have hat0:=hat;unfold ze at hat;obtain ⟨htz,_,_,_,rfl,⟨a0,p0,rfl,_⟩,⟨a1,p1,rfl,_⟩,⟨a2,p2,rfl,hl2,hx2⟩⟩:=hat;obtain ⟨W0,hW0⟩:∃W0,W0=w.alloc (.cells #[.int .i64 op, .string tx, .slice a0 args.length p0, .slice a1 defs.length p1, .slice a2 kids.length p2] 33):=⟨_,rfl⟩;have hb0:Below w.heap.size w W0:=by rw [hW0];exact ZQ w _
  have hz:W0.heap.size=w.heap.size + 1:=by rw [hW0];simp
  have k0:W0.heap[w.heap.size]?=some (.cells #[.int .i64 op, .string tx, .slice a0 args.length p0, .slice a1 defs.length p1, .slice a2 kids.length p2] 33):=by rw [hW0];exact ZN w _
  by_cases h1:op=1
  ·have e1:zG (.mk op tx args defs kids)= []:=by rw [zG,if_pos h1]
   rw [e1];subst h1;go_enter Tryz.func100,Tryz.ntmps100;go_wp2;go_ret;exact ⟨_,rfl, [],ZR _ _ _ _,zq.nil _ _ _ _,by rw [<-hW0];exact hb0⟩
  ·by_cases h3:op=3
   ·subst h3
    have hk2:kids.length=2:=by
     have h1:=hfn.self;simp only [Part.shaped,yg,Bool.or_eq_true,Bool.and_eq_true,beq_iff_eq,decide_eq_true_eq,List.length_eq_zero_iff] at h1;rcases h1 with ((((h1 | h1) | h1) | h1) | h1) | h1
     ·rcases h1.1.1.1.1 with h | h <;> omega
     ·have:=h1.1.1.1.1;omega
     ·exact h1.2
     ·have:=h1.1.1.1.1.1;omega
     ·have:=h1.1.1.1.1;omega
     ·rcases h1.1.1.1.1 with h | h <;> omega
    obtain ⟨t1,t2,rfl⟩:∃t1 t2,kids= [t1,t2]:=by
     match kids,hk2 with
     | [x,y],_=> exact ⟨x,y,rfl⟩
    simp only [List.length_cons,List.length_nil,Nat.zero_add,Nat.reduceAdd] at hW0 k0 ⊢;rcases hx2 with h | ⟨b,off,rfl,hbB,⟨c1,hc1,ht1⟩,⟨c2,hc2,ht2⟩,_⟩
    ·simp at h
    have hm1:Part.proc t1∈(Part.proc (.mk 3 tx args defs [t1,t2])).parts:=by simp [Part.parts]
    have hm2:Part.proc t2∈(Part.proc (.mk 3 tx args defs [t1,t2])).parts:=by simp [Part.parts]
    have hz1:=qi hm1;have hz2:=qi hm2;have hl1:(zG t1).length<=60:=by have:=zaa t1;have h5:(Part.proc t1).size=(qL 0 t1).length:=rfl;omega
    have hl2':(zG t2).length<=60:=by have:=zaa t2;have h5:(Part.proc t2).size=(qL 0 t2).length:=rfl;omega
    have e1:zG (.mk 3 tx args defs [t1,t2])=zG t1 ++ zG t2:=by rw [zG,if_neg h1,if_pos rfl,qO,qO,qO,List.append_nil]
    rw [e1];obtain ⟨G,hG⟩:∃G:World->Prop,G=fun W=> Below W0.heap.size W0 W:=⟨_,rfl⟩;have hi1:=fun W h1 h2=> ih t1 (by omega) (by omega) (hfn.part hm1) c1 W ht1 h1 h2;have hi2:=fun W h1 h2=> ih t2 (by omega) (by omega) (hfn.part hm2) c2 W ht2 h1 h2;obtain ⟨x0,x1,x2,x3,x4,x5,x6,x7,x8,x9,x10,rfl⟩:=zz ht1;obtain ⟨y0,y1,y2,y3,y4,y5,y6,y7,y8,y9,y10,rfl⟩:=zz ht2;obtain ⟨L1,hL1⟩:∃L,L=zG t1:=⟨_,rfl⟩;obtain ⟨L2,hL2⟩:∃L,L=zG t2:=⟨_,rfl⟩;rw [<-hL1] at hi1 hl1;rw [<-hL2] at hi2 hl2';rw [<-hL1,<-hL2]
    have hrd:∀W,G W->W.cell? ⟨w.heap.size,4,none⟩=some (.slice (some ⟨b,off,none⟩) 2 p2)/\(W.cell? ⟨b,off,none⟩=some (.int .i64 x0)/\W.cell? ⟨b,off + 1,none⟩=some (.string x1)/\W.cell? ⟨b,off + 2,none⟩=some (.slice x2 x3 x4)/\W.cell? ⟨b,off + 3,none⟩=some (.slice x5 x6 x7)/\W.cell? ⟨b,off + 4,none⟩=some (.slice x8 x9 x10))/\
      (W.cell? ⟨b,off + 5,none⟩=some (.int .i64 y0)/\W.cell? ⟨b,off + 5 + 1,none⟩=some (.string y1)/\W.cell? ⟨b,off + 5 + 2,none⟩=some (.slice y2 y3 y4)/\W.cell? ⟨b,off + 5 + 3,none⟩=some (.slice y5 y6 y7)/\W.cell? ⟨b,off + 5 + 4,none⟩=some (.slice y8 y9 y10))/\zh B u W/\B<=W.heap.size/\Below w.heap.size w W:=fun W h=> by
     rw [hG] at h;have q:=(h.block w.heap.size (by omega)).trans k0;have hbW:=hb0.trans (h.mono (by omega));have hku:zh B u W:=hu.trans ((Below.keptC hbW).mono hB);exact ⟨by simp [World.cell?,q],zK (hc1.keep hku hbB),zK (hc2.keep hku hbB),hku,by have:=hbW.size;omega,hbW⟩
    have hs1:∀W,G W->Calls Tryz.prog 100 #[.agg #[.int .i64 x0, .string x1, .slice x2 x3 x4, .slice x5 x6 x7, .slice x8 x9 x10]] W fun e w'=> ∃a c vals,e= .returned (.slice a L1.length c)/\w'.ownsRow W0.heap.size 33 5 (.slice a L1.length c) L1.length vals/\zq ze 5 B u vals L1/\G w':=fun W h=> by
     obtain ⟨_,_,_,h1,h2,h3⟩:=hrd W h;rw [hG] at h ⊢;refine (hi1 W h1 h2).mono ?_;rintro e w' ⟨r,vals,rfl,a1,a2,a3⟩;obtain ⟨q1,q2,rfl,_⟩:=zJ (by omega) a1;exact ⟨_,_,_,rfl,zbB a1 h.size,a2,h.trans (a3.mono h.size)⟩
    have hs2:∀W a c vals,G W->W.ownsRow W0.heap.size 33 5 (.slice a L1.length c) L1.length vals->zq ze 5 B u vals L1->Calls Tryz.prog 100 #[.agg #[.int .i64 y0, .string y1, .slice y2 y3 y4, .slice y5 y6 y7, .slice y8 y9 y10]] W fun e w'=> ∃a2 c2 a3 c3 w3 vals3,e= .returned (.slice a2 L2.length c2)/\G w'/\G w3/\
      (Builtin.append_ #[31,31] 31 #[.slice a L1.length c, .slice a2 L2.length c2]).run Tryz.prog w'= .ok (.slice a3 (L1.length + L2.length) c3) w3/\w3.ownsRow w.heap.size 33 5 (.slice a3 (L1.length + L2.length) c3) (L1 ++ L2).length vals3/\zq ze 5 B u vals3 (L1 ++ L2)/\Below w.heap.size w w3:=fun W a c vals h hov hcv=> by
     obtain ⟨_,_,_,h1,h2,h3⟩:=hrd W h;rw [hG] at h ⊢;refine (hi2 W h1 h2).mono ?_;rintro e w' ⟨r,vals2,rfl,a1,a2,a3⟩;obtain ⟨q1,q2,rfl,_⟩:=zJ (by omega) a1;have hov':=zt hov (zj a3) (fun g _ e=> by cases e);obtain ⟨z1,z2,w3,z3,z4,z5⟩:=zhf 31 hov' a1 (ziT a2) (by have:=h.size;have:=a3.size;omega) (by omega) (by omega);have hg3:Below W0.heap.size W0 w3:=(h.trans (a3.mono h.size)).grown z5 (by have:=h.size;have:=a3.size;omega) (fun r e=> (hov'.lt r e).1);exact ⟨_,_,z1,z2,w3,_,rfl,h.trans (a3.mono h.size),hg3,z3,by rw [List.length_append];exact zbB z4 hb0.size,hcv.append a2,hb0.trans (hg3.mono hb0.size)⟩
    have g0:G W0.drew:=by rw [hG];exact (ZF _ _).drew
    obtain ⟨r0,⟨r1,r2,r3,r4,r5⟩,⟨r6,r7,r8,r9,r10⟩,_⟩:=hrd _ g0;have HW:=ZH hW0;have hfirst:True:=trivial;have b1:(0:Int) < 2:=by decide
    clear hi1 hi2 hG hW0 hL1 hL2 hc1 hc2 ht1 ht2 ih k0;go_enter Tryz.func100,Tryz.ntmps100;go_wp2;rw [<-HW.out]
    go_region_held3 (fun w'=> w'.cell? ⟨w.heap.size,4,none⟩=some (.slice (some ⟨b,off,none⟩) 2 p2)/\w'.cell? ⟨b,off,none⟩=some (.int .i64 x0)/\w'.cell? ⟨b,off + 1,none⟩=some (.string x1)/\w'.cell? ⟨b,off + 2,none⟩=some (.slice x2 x3 x4)/\w'.cell? ⟨b,off + 3,none⟩=some (.slice x5 x6 x7)/\w'.cell? ⟨b,off + 4,none⟩=some (.slice x8 x9 x10)/\
      w'.cell? ⟨b,off + 5,none⟩=some (.int .i64 y0)/\w'.cell? ⟨b,off + 5 + 1,none⟩=some (.string y1)/\w'.cell? ⟨b,off + 5 + 2,none⟩=some (.slice y2 y3 y4)/\w'.cell? ⟨b,off + 5 + 3,none⟩=some (.slice y5 y6 y7)/\w'.cell? ⟨b,off + 5 + 4,none⟩=some (.slice y8 y9 y10)) (go_keep)
     (first
     | (go_at_call 100;revert hfirst;intro hfirst;refine (hs1 _ (by assumption)).mono ?_;clear hfirst;rintro e' w2 ⟨qa,qc,qv,rfl,ho2,hch2,g2⟩;obtain ⟨z0,⟨z1,z2,z3,z4,z5⟩,⟨z6,z7,z8,z9,z10⟩,_⟩:=hrd _ g2)
     | (go_at_call 100;refine (hs2 _ _ _ _ (by assumption) (by assumption) (by assumption)).mono ?_;rintro e' w4 ⟨a2,c2,a3,c3,w5,v5,rfl,g4,g5,hr5,ho5,hch5,hb5⟩;obtain ⟨m0,⟨m1,m2,m3,m4,m5⟩,⟨m6,m7,m8,m9,m10⟩,_⟩:=hrd _ g4;obtain ⟨l0,⟨l1,l2,l3,l4,l5⟩,⟨l6,l7,l8,l9,l10⟩,_⟩:=hrd _ g5)
     | (refine zU rfl (.tmp 13) (.tmp 18) 31 31 rfl rfl rfl hr5 ?_))
    all_goals
     go_wp2;go_ret;exact ⟨_,v5,rfl,ho5,hch5,hb5⟩
   ·have e1:zG (.mk op tx args defs kids)= [.mk op tx args defs kids]:=by rw [zG,if_neg h1,if_neg h3]
    rw [e1];have HW:=ZH hW0;have HZ:=ZH hz;obtain ⟨n0,hn0⟩:∃n,n=args.length:=⟨_,rfl⟩;obtain ⟨n1,hn1⟩:∃n,n=defs.length:=⟨_,rfl⟩;obtain ⟨n2,hn2⟩:∃n,n=kids.length:=⟨_,rfl⟩;have HA:=ZH hat0;rw [<-hn0,<-hn1,<-hn2] at HA HW k0;rw [<-hn0,<-hn1,<-hn2];have hd:((op:Int)==1)=false:=by simpa using h1
    have hd3:((op:Int)==3)=false:=by simpa using h3
    have HN:=ZH (And.intro hn0 (And.intro hn1 hn2));clear hat0 hx2 hl2 hn0 hn1 hn2 hW0 hz;go_enter Tryz.func100,Tryz.ntmps100;go_wp2;go_ret;refine ⟨_,rfl, [.int .i64 op, .string tx, .slice a0 n0 p0, .slice a1 n1 p1, .slice a2 n2 p2],?_,⟨rfl,fun i hi=> ?_⟩,?_⟩
    ·refine ⟨rfl, .inr ⟨w.heap.size + 1,1,#[.int .i64 op, .string tx, .slice a0 n0 p0, .slice a1 n1 p1, .slice a2 n2 p2],rfl,by omega,?_,by simp,by unfold maxLen;omega,rfl,rfl⟩⟩
     rw [<-HW.out];have:=ZN W0 (.cells #[.int .i64 op, .string tx, .slice a0 n0 p0, .slice a1 n1 p1, .slice a2 n2 p2] 33)
     rwa [HZ.out] at this
    ·cases i with
     | zero=> exact HA.out
     | succ i=> simp at hi
    ·rw [<-HW.out]
     exact hb0.alloc (by have:=HZ.out;omega) _
theorem zjq (B:Nat) (u:World) (t:Term) (hf:zT (.proc t)) (cs:List Value) (hat:ze B u cs t) (w:World) (hu:zh B u w) (hB:B<=w.heap.size) (n0:Nat) (c0:zI w n0 0 cs)
  (y:Term×Used) (hR:yl ⟨.outside, [jp]⟩ (fun _=> false) t=some y) (hyf:Fine (.proc y.1)) (hys:(Part.proc y.1).size<=60) (hbc:bcT t<=4000):
  Calls Tryz.prog 99 #[.pointer (some ⟨n0,0,none⟩)] w fun e' w'=> ∃v,e'= .returned v/\SlAt w'.heap.size v (zG y.1).length (fun b off=> zu w'.heap.size (blank w.heap.size w') b off (zG y.1))/\Below w.heap.size w w':=by
 obtain ⟨o0,tx,s0,m0,k0,s1,m1,k1,s2,m2,k2,rfl⟩:=zz hat;have hpt:zY B u (.iface 83 (.agg #[.int .i64 o0, .string tx, .slice s0 m0 k0, .slice s1 m1 k1, .slice s2 m2 k2])) (.proc t):=⟨_,rfl,hat⟩;obtain ⟨G,hG⟩:∃G:World->Prop,G=fun W=> Below w.heap.size w W:=⟨_,rfl⟩
 have hrd:∀W,G W->(W.cell? ⟨n0,0,none⟩=some (.int .i64 o0)/\W.cell? ⟨n0,1,none⟩=some (.string tx)/\W.cell? ⟨n0,2,none⟩=some (.slice s0 m0 k0)/\W.cell? ⟨n0,3,none⟩=some (.slice s1 m1 k1)/\W.cell? ⟨n0,4,none⟩=some (.slice s2 m2 k2))/\zh B u W/\B<=W.heap.size:=by
  intro W h;rw [hG] at h;exact ⟨zK (c0.below h (zD (c0 0 (by simp)))),hu.trans ((Below.keptC h).mono hB),by have:=h.size;omega⟩
 have hcop:∀W,G W->Calls Tryz.prog 101 #[] W fun e w'=> e= .returned (.agg #[.iface 116 (.agg #[.map none]), .map none])/\G w':=fun W h=> by
  rw [hG] at h ⊢;exact (zbh W).mono fun _ w' ⟨h1,h2⟩=> ⟨h1,h.trans (h2.mono h.size)⟩
 have hcp:∀W,G W->Calls Tryz.prog 87 #[.agg #[.iface 116 (.agg #[.map none]), .map none], .agg #[.int .i64 o0, .string tx, .slice s0 m0 k0, .slice s1 m1 k1, .slice s2 m2 k2]] W fun e' w'=>
   ∃cs',e'= .returned (.agg cs'.toArray)/\ze w'.heap.size (blank w.heap.size w') cs' y.1/\G w':=fun W h=> by
  obtain ⟨_,hu1,hB1⟩:=hrd W h;have hpst:=zat (B:=B) (u:=u) (m:=none) (b:= .outside) (fun r e=> by cases e) (fun _=> rfl) t hf (.iface 116 (.agg #[.map none])) W rfl hu1 hB1 (fun _=> false) 0 _ hat (zea _ (by omega) W);rw [hR] at hpst;refine hpst.mono ?_;rintro e' w' ⟨cs',rfl,h1,_,h3⟩;rw [hG] at h ⊢;exact ⟨_,rfl,ze.keep (qg h.size fun b o v _ _ hv=> hv) (ZL _) _ _ h1,h.trans ((yy h3).mono h.size)⟩
 have hsp:∀W cs',G W->ze W.heap.size (blank w.heap.size W) cs' y.1->Calls Tryz.prog 100 #[.agg cs'.toArray] W fun e' w'=> ∃a c,e'= .returned (.slice a (zG y.1).length c)/\SlAt w'.heap.size (.slice a (zG y.1).length c) (zG y.1).length (fun b off=> zu w'.heap.size (blank w.heap.size w') b off (zG y.1))/\G w':=fun W cs' h ht=> by
  rw [hG] at h ⊢;refine (zfK W.heap.size (blank w.heap.size W) 60 y.1 hys (ZL _) hyf cs' W ht (q9 _ _ _) (ZL _)).mono ?_;rintro e' w' ⟨r,vals,rfl,h1,h2,h3⟩;obtain ⟨a,c,rfl,hk,hcell⟩:=zJ (by omega) h1;refine ⟨a,c,rfl,⟨a,c,rfl,hk,?_⟩,h.trans (h3.mono h.size)⟩;rcases hcell with hcell | ⟨g,rfl,hg,hA,hcc⟩
  ·exact .inl hcell
  ·refine .inr ⟨g,0,rfl,hg,zu.mk _ g 0 fun i hi=> ⟨_,zdA (zag i 5 hcc ?_) (by have:=h.size;omega),?_⟩⟩
   ·rw [h2.1,<-Nat.succ_mul];exact Nat.mul_le_mul_right 5 hi
   ·exact ze.keep (qg (ZL _) fun b o v _ hb hv=> (h3.cell (p:=⟨b,o,none⟩) hb).trans hv) h3.size _ _ (h2.2 i hi)
 have hm1:=xz B u _ _ w hu hB hf hpt;obtain ⟨⟨a0,a1,a2,a3,a4⟩,_⟩:=hrd w (by rw [hG];exact ZF _ _);have HG:=ZH hG;clear c0 hG hat;go_enter Tryz.func99,Tryz.ntmps99;go_wp2_with fail;refine hm1.mono ?_;clear hm1;rintro e' w1 ⟨rfl,hb1⟩;clear a0 a1 a2 a3 a4;have g1:G w1.drew:=by rw [HG.out];exact hb1.drew
 obtain ⟨⟨b0',b1',b2',b3',b4'⟩,_⟩:=hrd w1.drew g1;go_wp2_with fail
 go_region_held3 (fun w'=> w'.cell? ⟨n0,0,none⟩=some (.int .i64 o0)/\w'.cell? ⟨n0,1,none⟩=some (.string tx)/\w'.cell? ⟨n0,2,none⟩=some (.slice s0 m0 k0)/\w'.cell? ⟨n0,3,none⟩=some (.slice s1 m1 k1)/\w'.cell? ⟨n0,4,none⟩=some (.slice s2 m2 k2)) (go_keep)
  (first
  | (go_at_call 101;refine (hcop _ (by assumption)).mono ?_;rintro e' w2 ⟨rfl,g2⟩;obtain ⟨⟨s0',s1',s2',s3',s4'⟩,_⟩:=hrd w2 g2)
  | (go_at_call 87;refine (hcp _ (by assumption)).mono ?_;rintro e' w3 ⟨cs',rfl,ht3,g3⟩;obtain ⟨⟨t0',t1',t2',t3',t4'⟩,_⟩:=hrd w3 g3)
  | (go_at_call 100;refine (hsp _ _ (by assumption) (by assumption)).mono ?_;rintro e' w4 ⟨ra,rc,rfl,hs4,g4⟩;obtain ⟨⟨x0',x1',x2',x3',x4'⟩,_⟩:=hrd w4 g4))
 all_goals
  have hbF:Below w.heap.size w w4:=by rw [HG.out] at g4;exact g4
  go_wp2;go_ret;exact ⟨_,rfl,hs4,hbF⟩
theorem zdv (B:Nat) (u:World) (t:Term) (hf:zT (.proc t)) (cs:List Value) (hat:ze B u cs t) (w:World) (hu:zh B u w) (hB:B<=w.heap.size)
  (y:Term×Used) (hR:yl ⟨.outside, [jp]⟩ (fun _=> false) t=some y) (hyf:Fine (.proc y.1)) (hys:(Part.proc y.1).size<=60) (hbc:bcT t<=4000):
  Calls Tryz.prog 45 #[.agg cs.toArray] w fun e' w'=> ∃v,e'= .returned (.tuple #[v, .int .i64 0])/\SlAt w'.heap.size v (zG y.1).length (fun b off=> zu w'.heap.size w' b off (zG y.1))/\Below w.heap.size w w':=by
 obtain ⟨o0,tx,s0,m0,k0,s1,m1,k1,s2,m2,k2,rfl⟩:=zz hat;obtain ⟨W0,hW0⟩:∃W0,W0=w.alloc (.cells #[.int .i64 o0, .string tx, .slice s0 m0 k0, .slice s1 m1 k1, .slice s2 m2 k2] 33):=⟨_,rfl⟩;have hb0:Below w.heap.size w W0:=by rw [hW0];exact ZQ w _
 have hz:W0.heap.size=w.heap.size + 1:=by rw [hW0];simp
 have h0:W0.heap[w.heap.size]?=some (.cells #[.int .i64 o0, .string tx, .slice s0 m0 k0, .slice s1 m1 k1, .slice s2 m2 k2] 33):=by rw [hW0];exact ZN w _
 have hbC:Below W0.heap.size W0 (W0.alloc (.cells #[.int .i64 0] 37)):=ZQ W0 _;have hbwC:=hb0.trans (hbC.mono (by omega))
 have hw:=zjq B u t hf _ hat (W0.alloc (.cells #[.int .i64 0] 37)) (hu.trans ((Below.keptC hbwC).mono hB)) (by have:=hbwC.size;omega) w.heap.size
  (fun j hj=> by
   have q:=(hbC.block w.heap.size (by omega)).trans h0
   match j,hj with
   | 0,_=> simp [World.cell?,q]
   | 1,_=> simp [World.cell?,q]
   | 2,_=> simp [World.cell?,q]
   | 3,_=> simp [World.cell?,q]
   | 4,_=> simp [World.cell?,q]) y hR hyf hys hbc
 have hmf:∀(fn:Fn) (first cap:Array Value) (w:World),(Instr.makeFunc fn first cap).run Tryz.prog w= .ok (.func fn first cap) w:=fun _ _ _ _=> rfl
 have ha:=ziQ 99 #[.pointer (some ⟨w.heap.size,0,none⟩)] W0 (fun v w'=> SlAt w'.heap.size v (zG y.1).length (fun b off=> zu w'.heap.size (blank (W0.heap.size + 1) w') b off (zG y.1))) (enters_of Tryz.func99 (by kernel_rfl) rfl) (by
  refine hw.mono ?_;rintro e' w' ⟨v,rfl,h1,h2⟩;rw [World.size_alloc] at h1 h2;exact ⟨v,rfl,h1,h2⟩)
 have HW:=ZH hW0;have HZ:=ZH hz;clear hw hW0 hz;go_enter Tryz.func45,Tryz.ntmps45;go_wp2_with (go_at_call 98;rw [<-HW.out];refine ha.mono ?_;clear ha;rintro e' w2 ⟨v,w1,rfl,hR1,hb1,rfl⟩);go_ret2;have hz:=HZ.out;have hL:qj (w.heap.size + 2) w1 (w1.setCell ⟨W0.heap.size,0,none⟩ (.int .i64 0)):=(qj.refl _ _).set _ _ (by simp;omega);refine ⟨_,rfl,?_,?_⟩
 ·obtain ⟨a,c,rfl,hk,h⟩:=hR1
  refine ⟨a,c,rfl,hk,?_⟩;rcases h with h | ⟨b,off,h1,h2,h3⟩
  ·exact .inl h
  ·have h4:=zu.keep (hL.kept (A0:=W0.heap.size + 1) (A':=0) (B:=w1.heap.size) (by omega) (by omega) (ZL _)) (ZL _) _ b off h2 h3
   exact .inr ⟨b,off,h1,by rw [World.size_setCell];exact h2,zu.keep (q9 0 _ _) (by rw [World.size_setCell];exact ZL _) _ b off h2 h4⟩
 ·exact (hbwC.trans (hb1.mono (by omega))).setCell (show w.heap.size<=W0.heap.size by omega) _
end
section
open Go.RowKit Go.Shelf Go.Maps
theorem zcc:∀a b:List zg,zO (a ++ b)=zO a ++ zO b
 | [],b=> rfl
 | x::a,b=> by simp [zO,zcc a b]
theorem ze5 (d:List zg) (k:Nat):(zO (d.take k)).length<=(zO d).length:=by
 have h:=zcc (d.take k) (d.drop k);rw [List.take_append_drop] at h;rw [h,List.length_append];omega
theorem zdQ:zO []= []:=rfl
theorem zjW (B:Nat) (u:World):∀(s:Nat) (d:List zg),zZ d<=s->s<=900->∀(a:Option Addr) (cap:Nat) (w:World) (A:Nat) (v:Value) (vals:List Value) (gs:List (List zg)),zh B u w->B<=A->A<=w.heap.size->
  w.ownsRow A 30 1 v vals.length vals->yN B u vals gs->vals.length + (zO d).length<=5000->(d.length=0∨∃b off,a=some ⟨b,off,none⟩/\b < B/\zr B u b off d)->
  Calls Tryz.prog 164 #[v, .slice a d.length cap] w fun e w'=> ∃r vals',e= .returned r/\w'.ownsRow A 30 1 r vals'.length vals'/\yN B u vals' (gs ++ zO d)/\Below A w w':=by
 intro s
 induction s with
 | zero=>
  intro d hd _ a cap w A v vals gs hu hBA hAw ho hg hn hs
  have hd0:d= []:=by
   have:=jq d;exact List.eq_nil_of_length_eq_zero (by omega)
  subst hd0;obtain ⟨r1,r2,hr,_⟩:=zJ (by omega) ho;subst hr;go_enter Tryz.func164,Tryz.ntmps164;go_wp2_with fail
  go_loopw [0,5] (fun v' i wr=> v'= .slice r1 vals.length r2/\i= .int .i64 0/\wr=w) (fun _ _ _=> 0)
  case atStart=> exact ⟨rfl,rfl,rfl⟩
  case round=>
   obtain ⟨rfl,rfl,rfl⟩:=hrel;go_wp2;go_ret;exact ⟨_,vals,rfl,ho,by rw [zdQ,List.append_nil];exact hg,ZF _ _⟩
 | succ s ih=>
  intro d hd hs9 a cap w A v vals gs hu hBA hAw ho hg hn hsrc;obtain ⟨i0,hi,hz0,hz1,hz2⟩:=info_parts zjN;obtain ⟨r1,r2,hr,_⟩:=zJ (by omega) ho;subst hr;have hdl:=jq d;have hIl:=ze5 d;have hu':=ZH hu;clear hu;go_enter Tryz.func164,Tryz.ntmps164;go_wp2_with fail
  go_loopw [0,5] (fun v' i wr=> ∃(k:Nat) (vs:List Value),k<=d.length/\i= .int .i64 k/\wr.ownsRow A 30 1 v' vs.length vs/\yN B u vs (gs ++ zO (d.take k))/\Below A w wr) (fun _ i _=> d.length - (intOf i).toNat)
  case atStart=> exact ⟨0,vals,by omega,rfl,ho,by simpa [zdQ] using hg,ZF _ _⟩
  case round=>
   obtain ⟨k,vs,hk,rfl,hown,hgr,hb⟩:=hrel;have hvl:=hgr.1;have hIk:=hIl k;have hIk1:=hIl (k + 1);have hgl:=hg.1;rw [List.length_append] at hvl;have hwr:=hb.size;by_cases hlt:k < d.length
   ·rcases hsrc with h0 | ⟨b,off,rfl,hbB,hcs⟩
    ·omega
    obtain ⟨cc,hcell,hat⟩:=zr.get d b off hcs k hlt;have hpart:=zaq hlt;have htk:=zc4 d k hlt;obtain ⟨q,hq⟩:∃q,q=d[k]:=⟨_,rfl⟩;rw [<-hq] at hat hpart htk;obtain ⟨f,t,j,dd,kk⟩:=q;obtain ⟨htz,_,_,_,rfl,⟨a0,p0,rfl,_⟩,⟨a1,p1,rfl,hl1,hx1⟩,⟨a2,p2,rfl,_⟩⟩:=hat;obtain ⟨c0,c1,c2,c3,c4⟩:=zK (hcell.keep (hu'.out.trans ((Below.keptC hb).mono hBA)) hbB);have HQ:=ZH hq;have HCL:=ZH hcell;clear hcell hcs hq;by_cases hf:f=2
    ·subst hf
     have e1:yk (.mk 2 t j dd kk)=dd::zO dd:=by rw [yk,if_pos rfl]
     rw [e1] at htk;have hlen:(zO (d.take (k + 1))).length=(zO (d.take k)).length + (1 + (zO dd).length):=by rw [htk];simp;omega
     have HTK:=ZH htk;clear htk;have hAl:Below wr.heap.size wr (wr.alloc (.cells #[.slice a1 dd.length p1] 30)):=ZQ wr _;have hoA:=zt hown (zj hAl) (fun g _ e=> by cases e)
     obtain ⟨v',w',hr,h1,h2,_,_⟩:=run_append_own_at (P:=Tryz.prog) (wr.alloc (.cells #[.slice a1 dd.length p1] 30)) A 163 163 30 i0 (.slice none 0 0) 1 24 Tryz.underlying163 hi hz0 hz1 hz2 rfl (by decide) _ _ _ hoA
      ⟨wr.heap.size,0,none⟩ 1 1 [.slice a1 dd.length p1] rfl (by
       intro j u hj;have e:(⟨wr.heap.size,0,none⟩:Addr).add j=⟨wr.heap.size,j,none⟩:=by unfold Addr.add;by_cases h:j=0 <;> simp [h]
       rw [e,ZA _ _ _ _ rfl];simpa using hj) (by simp [Value.oneCell']) (by unfold maxLen;omega) (by omega) (by simp;omega)
     have hbw:Below A w w':=(hb.trans (hAl.mono (by omega))).grown h2 (by simp;omega) (fun r e=> (hown.lt r e).1);obtain ⟨_,⟨_,h0⟩ | ⟨gg,cp,cur,hvf,_⟩⟩:=id h1
     ·omega
     subst hvf
     have hg2:yN B u (vs ++ [.slice a1 dd.length p1]) ((gs ++ zO (d.take k)) ++ [dd]):=hgr.append ⟨by simp,fun i h h'=> by
      have:i=0:=by simp at h;omega
      subst this;exact ⟨a1,p1,rfl,hl1,hx1⟩⟩
     have hih:=ih dd (by have h5:zZ (zg.defs (.mk 2 t j dd kk)) < zZ d:=hpart;simp only [zg.defs] at h5;omega) (by omega) a1 p1 w' A (.slice (some ⟨gg,0,none⟩) (vs.length + 1) cp) (vs ++ [.slice a1 dd.length p1]) _ (hu'.out.trans ((Below.keptC hbw).mono hBA)) hBA (by have:=hbw.size;omega)
      (by rw [List.length_append];exact h1) hg2 (by rw [List.length_append];simp;omega) hx1
     have hzw:=hbw.size;obtain ⟨z0,z1,z2,z3,z4⟩:=zK (HCL.out.keep (hu'.out.trans ((Below.keptC hbw).mono hBA)) hbB);clear h1 h2 hoA hg2 hgr hown hvl
     go_wp2_with (first
      | (show wpList _ _ _ (⟨some 25,_,_,_,_,_⟩::_) _ _;refine qe rfl (.tmp 18) (.tmp 24) 163 163 rfl rfl rfl hr ?_)
      | (go_at_call 164;refine hih.mono ?_;clear hih;rintro e w3 ⟨r,vals',rfl,ho3,hg3,hb3⟩;have H1:=ZH ho3;have H2:=ZH hg3;have H3:=ZH (hbw.trans hb3);clear ho3 hg3 hb3))
     go_roundw
     case rel=> exact ⟨k + 1,vals',by omega,by go_num,H1.out,by rw [HTK.out];have:=H2.out;simpa using this,H3.out⟩
     case measure=> simp [intOf];omega
    ·have e1:yk (.mk f t j dd kk)= []:=by rw [yk,if_neg hf]
     rw [e1,List.append_nil] at htk;have HTK:=ZH htk;clear htk;go_wp2;go_roundw
     case rel=> exact ⟨k + 1,vs,by omega,by go_num,hown,by rw [HTK.out];exact hgr,hb⟩
     case measure=> simp [intOf];omega
   ·obtain rfl:k=d.length:=by omega
    rw [List.take_length] at hgr;obtain ⟨x1,x2,hx,_⟩:=zJ (by omega) hown;subst hx;go_wp2;go_ret;exact ⟨_,vs,rfl,hown,hgr,hb⟩
theorem zf8 (B:Nat) (u:World) (d:List zg) (hd:zZ d<=900) (a:Option Addr) (cap:Nat) (hdl:d.length<=9223372036854775807) (hsrc:d.length=0∨∃b off,a=some ⟨b,off,none⟩/\b < B/\zr B u b off d) (w:World) (hu:zh B u w) (hB:B<=w.heap.size):
  Calls Tryz.prog 123 #[.slice a d.length cap] w fun e w'=> ∃r vals',e= .returned r/\w'.ownsRow w.heap.size 30 1 r vals'.length vals'/\yN B u vals' (zm d)/\Below w.heap.size w w':=by
 have hAl:Below w.heap.size w (w.alloc (.cells #[.slice a d.length cap] 30)):=ZQ w _
 have h:=zjW B u 900 d hd (ZL _) a cap (w.alloc (.cells #[.slice a d.length cap] 30)) w.heap.size (.slice (some ⟨w.heap.size,0,none⟩) 1 1) [.slice a d.length cap] [d] (hu.trans ((Below.keptC hAl).mono hB)) hB (by simp)
  ⟨rfl, .inr ⟨w.heap.size,1,#[.slice a d.length cap],rfl,ZL _,ZN w _,by simp,by unfold maxLen;omega,rfl,rfl⟩⟩ ⟨rfl,fun i hi hi'=> by
   cases i with
   | zero=> exact ⟨a,cap,rfl,hdl,hsrc⟩
   | succ i=> simp at hi⟩ (by have:=jP d;unfold zZ at hd;simp;omega) hsrc
 go_enter Tryz.func123,Tryz.ntmps123;go_wp2_with (go_at_call 164;refine h.mono ?_;clear h;rintro e w1 ⟨r,vals',rfl,h1,h2,h3⟩;obtain ⟨x1,x2,hx,_⟩:=zJ (by omega) h1;subst hx);go_ret;exact ⟨_,vals',rfl,h1,h2,hAl.trans h3⟩
theorem zme:(Tryz.prog.info? 3).map (fun i=> (i.zero,i.size,i.bytes))=some (some (.int .i64 0),1,8):=by kernel_rfl
def Ints (l:List Value):Prop:=∀v∈l,∃i,v= .int .i64 i
def Sep (v v':Value):Prop:=∀g,v.ownBlock=some g->v'.ownBlock≠some g
theorem Sep.symm {v v':Value} (h:Sep v v'):Sep v' v:=fun g h1 h2=> h g h2 h1
structure Seen (A sb X:Nat) (ch pl:List ByteArray) (vch vm va vp:Value) (bad:Bool) (ms ats:List Value) (W:World):Prop where
 box:W.heap[sb]?=some (.cells #[vch,vm,va,vp, .bool bad] 95)
 low:sb < A
 rch:W.ownsRow A 9 1 vch ch.length (zn ch)
 rm:W.ownsRow A 3 1 vm ms.length ms
 ra:W.ownsRow A 3 1 va ats.length ats
 rp:W.ownsRow A 9 1 vp pl.length (zn pl)
 zch:∀s∈ch,s.size<=maxLen
 zp:∀s∈pl,s.size<=maxLen
 im:Ints ms
 ia:Ints ats
 s1:Sep vch vm
 s2:Sep vch va
 s3:Sep vch vp
 s4:Sep vm va
 s5:Sep vm vp
 s6:Sep va vp
 x1:vch.ownBlock≠some X
 x2:vm.ownBlock≠some X
 x3:va.ownBlock≠some X
 x4:vp.ownBlock≠some X
section
variable {A sb X:Nat} {ch pl:List ByteArray} {vch vm va vp:Value} {bad:Bool} {ms ats:List Value} {W W':World}
theorem Seen.lt (h:Seen A sb X ch pl vch vm va vp bad ms ats W):sb < W.heap.size:=(ZG h.box).1
theorem Seen.cells (h:Seen A sb X ch pl vch vm va vp bad ms ats W):W.cell? ⟨sb,0,none⟩=some vch/\W.cell? ⟨sb,1,none⟩=some vm/\W.cell? ⟨sb,2,none⟩=some va/\W.cell? ⟨sb,3,none⟩=some vp/\W.cell? ⟨sb,4,none⟩=some (.bool bad)/\∀o,W.frozen? ⟨sb,o,none⟩=false:=by
 have q:=h.box;exact ⟨by simp [World.cell?,q],by simp [World.cell?,q],by simp [World.cell?,q],by simp [World.cell?,q],by simp [World.cell?,q],fun o=> by simp [World.frozen?,q]⟩
theorem Seen.later (h:Seen A sb X ch pl vch vm va vp bad ms ats W) (g:Below W.heap.size W W'):Seen A sb X ch pl vch vm va vp bad ms ats W':=
 { h with box:=(g.block sb h.lt).trans h.box,rch:=zt h.rch (zj g) (fun _ _ e=> by cases e),rm:=zt h.rm (zj g) (fun _ _ e=> by cases e),ra:=zt h.ra (zj g) (fun _ _ e=> by cases e),rp:=zt h.rp (zj g) (fun _ _ e=> by cases e) }
theorem yo {w:World} {base e size n:Nat} {v x:Value} {xs:List Value} {c o:Nat} (h:w.ownsRow base e size v n xs) (hc:c < base):(w.setCell ⟨c,o,none⟩ x).ownsRow base e size v n xs:=
 zt h (zH w ⟨c,o,none⟩ x) (fun g hg e=> by have:=(h.lt g hg).1;have h8:=ZJ e;simp only at h8;omega)
theorem zcd (h:W.heap[sb]?=some (.cells #[vch,vm,va,vp, .bool bad] 95)) (o:Nat) (x:Value):(W.setCell ⟨sb,o,none⟩ x).heap[sb]?=some (.cells (#[vch,vm,va,vp, .bool bad].setIfInBounds o x) 95):=by
 show (World.setCell W ⟨sb,o,none⟩ x).heap[sb]?=_;simp [World.setCell,Array.getElem?_modify,h]
theorem Seen.setBad (h:Seen A sb X ch pl vch vm va vp bad ms ats W) (b:Bool):Seen A sb X ch pl vch vm va vp b ms ats (W.setCell ⟨sb,4,none⟩ (.bool b)):=
 { h with box:=zcd h.box 4 (.bool b),rch:=yo h.rch h.low,rm:=yo h.rm h.low,ra:=yo h.ra h.low,rp:=yo h.rp h.low }
theorem jI {v v' y:Value} (h:Sep v y) (hr:v'.ownBlock=v.ownBlock∨v'.ownBlock=some W.heap.size) (hy:∀g,y.ownBlock=some g->g < W.heap.size):Sep v' y:=by
 intro g hg he;rcases hr with hr | hr
 ·rw [hr] at hg;exact h g hg he
 ·rw [hr] at hg
  have:=ZJ hg;have:=hy g he;omega
theorem zgu {v v':Value} (h:v.ownBlock≠some X) (hr:v'.ownBlock=v.ownBlock∨v'.ownBlock=some W.heap.size) (hX:X < W.heap.size):v'.ownBlock≠some X:=by
 rcases hr with hr | hr
 ·rw [hr];exact h
 ·rw [hr];intro e;have:=ZJ e;omega
theorem Seen.setPlaces (h:Seen A sb X ch pl vch vm va vp bad ms ats W) {x:ByteArray} {vp':Value} (hx:x.size<=maxLen) (hX:X < W.heap.size) (ho:W'.ownsRow A 9 1 vp' (pl.length + 1) (zn (pl ++ [x]))) (g:W.grownBy W' vp.ownBlock) (hr:vp'.ownBlock=vp.ownBlock∨vp'.ownBlock=some W.heap.size):
  Seen A sb X ch (pl ++ [x]) vch vm va vp' bad ms ats (W'.setCell ⟨sb,3,none⟩ vp') where
 box:=zcd ((g.block sb h.lt (fun e=> by have:=(h.rp.lt sb e.symm).1;have:=h.low;omega)).trans h.box) 3 vp'
 low:=h.low
 rch:=yo (zt h.rch g (fun b hb e=> h.s3 b hb e)) h.low
 rm:=yo (zt h.rm g (fun b hb e=> h.s5 b hb e)) h.low
 ra:=yo (zt h.ra g (fun b hb e=> h.s6 b hb e)) h.low
 rp:=yo (by rw [List.length_append];exact ho) h.low
 zch:=h.zch
 zp:=fun s hs=> by
  rcases List.mem_append.1 hs with hs | hs
  ·exact h.zp s hs
  ·rw [List.mem_singleton.1 hs];exact hx
 im:=h.im
 ia:=h.ia
 s1:=h.s1
 s2:=h.s2
 s3:=(jI h.s3.symm hr (fun g hg=> (h.rch.lt g hg).2)).symm
 s4:=h.s4
 s5:=(jI h.s5.symm hr (fun g hg=> (h.rm.lt g hg).2)).symm
 s6:=(jI h.s6.symm hr (fun g hg=> (h.ra.lt g hg).2)).symm
 x1:=h.x1
 x2:=h.x2
 x3:=h.x3
 x4:=zgu h.x4 hr hX
theorem Seen.setChans (h:Seen A sb X ch pl vch vm va vp bad ms ats W) {x:ByteArray} {v':Value} (hx:x.size<=maxLen) (hX:X < W.heap.size) (ho:W'.ownsRow A 9 1 v' (ch.length + 1) (zn (ch ++ [x]))) (g:W.grownBy W' vch.ownBlock) (hr:v'.ownBlock=vch.ownBlock∨v'.ownBlock=some W.heap.size):
  Seen A sb X (ch ++ [x]) pl v' vm va vp bad ms ats (W'.setCell ⟨sb,0,none⟩ v') where
 box:=zcd ((g.block sb h.lt (fun e=> by have:=(h.rch.lt sb e.symm).1;have:=h.low;omega)).trans h.box) 0 v'
 low:=h.low
 rch:=yo (by rw [List.length_append];exact ho) h.low
 rm:=yo (zt h.rm g (fun b hb e=> h.s1.symm b hb e)) h.low
 ra:=yo (zt h.ra g (fun b hb e=> h.s2.symm b hb e)) h.low
 rp:=yo (zt h.rp g (fun b hb e=> h.s3.symm b hb e)) h.low
 zch:=fun s hs=> by
  rcases List.mem_append.1 hs with hs | hs
  ·exact h.zch s hs
  ·rw [List.mem_singleton.1 hs];exact hx
 zp:=h.zp
 im:=h.im
 ia:=h.ia
 s1:=jI h.s1 hr (fun g hg=> (h.rm.lt g hg).2)
 s2:=jI h.s2 hr (fun g hg=> (h.ra.lt g hg).2)
 s3:=jI h.s3 hr (fun g hg=> (h.rp.lt g hg).2)
 s4:=h.s4
 s5:=h.s5
 s6:=h.s6
 x1:=zgu h.x1 hr hX
 x2:=h.x2
 x3:=h.x3
 x4:=h.x4
theorem Seen.setMany (h:Seen A sb X ch pl vch vm va vp bad ms ats W) {x:Int} {v':Value} (hX:X < W.heap.size) (ho:W'.ownsRow A 3 1 v' (ms.length + 1) (ms ++ [.int .i64 x])) (g:W.grownBy W' vm.ownBlock) (hr:v'.ownBlock=vm.ownBlock∨v'.ownBlock=some W.heap.size):
  Seen A sb X ch pl vch v' va vp bad (ms ++ [.int .i64 x]) ats (W'.setCell ⟨sb,1,none⟩ v') where
 box:=zcd ((g.block sb h.lt (fun e=> by have:=(h.rm.lt sb e.symm).1;have:=h.low;omega)).trans h.box) 1 v'
 low:=h.low
 rch:=yo (zt h.rch g (fun b hb e=> h.s1 b hb e)) h.low
 rm:=yo (by rw [List.length_append];exact ho) h.low
 ra:=yo (zt h.ra g (fun b hb e=> h.s4.symm b hb e)) h.low
 rp:=yo (zt h.rp g (fun b hb e=> h.s5.symm b hb e)) h.low
 zch:=h.zch
 zp:=h.zp
 im:=fun v hv=> by
  rcases List.mem_append.1 hv with hv | hv
  ·exact h.im v hv
  ·exact ⟨x,List.mem_singleton.1 hv⟩
 ia:=h.ia
 s1:=(jI h.s1.symm hr (fun g hg=> (h.rch.lt g hg).2)).symm
 s2:=h.s2
 s3:=h.s3
 s4:=jI h.s4 hr (fun g hg=> (h.ra.lt g hg).2)
 s5:=jI h.s5 hr (fun g hg=> (h.rp.lt g hg).2)
 s6:=h.s6
 x1:=h.x1
 x2:=zgu h.x2 hr hX
 x3:=h.x3
 x4:=h.x4
theorem Seen.setAts (h:Seen A sb X ch pl vch vm va vp bad ms ats W) {x:Int} {v':Value} (hX:X < W.heap.size) (ho:W'.ownsRow A 3 1 v' (ats.length + 1) (ats ++ [.int .i64 x])) (g:W.grownBy W' va.ownBlock) (hr:v'.ownBlock=va.ownBlock∨v'.ownBlock=some W.heap.size):
  Seen A sb X ch pl vch vm v' vp bad ms (ats ++ [.int .i64 x]) (W'.setCell ⟨sb,2,none⟩ v') where
 box:=zcd ((g.block sb h.lt (fun e=> by have:=(h.ra.lt sb e.symm).1;have:=h.low;omega)).trans h.box) 2 v'
 low:=h.low
 rch:=yo (zt h.rch g (fun b hb e=> h.s2 b hb e)) h.low
 rm:=yo (zt h.rm g (fun b hb e=> h.s4 b hb e)) h.low
 ra:=yo (by rw [List.length_append];exact ho) h.low
 rp:=yo (zt h.rp g (fun b hb e=> h.s6.symm b hb e)) h.low
 zch:=h.zch
 zp:=h.zp
 im:=h.im
 ia:=fun v hv=> by
  rcases List.mem_append.1 hv with hv | hv
  ·exact h.ia v hv
  ·exact ⟨x,List.mem_singleton.1 hv⟩
 s1:=h.s1
 s2:=(jI h.s2.symm hr (fun g hg=> (h.rch.lt g hg).2)).symm
 s3:=h.s3
 s4:=(jI h.s4.symm hr (fun g hg=> (h.rm.lt g hg).2)).symm
 s5:=h.s5
 s6:=jI h.s6 hr (fun g hg=> (h.rp.lt g hg).2)
 x1:=h.x1
 x2:=h.x2
 x3:=zgu h.x3 hr hX
 x4:=h.x4
end
theorem zmg {W:World} {A:Nat} {v:Value} {n:Nat} {xs:List Value} (h:W.ownsRow A 9 1 v n xs) (x:ByteArray) (hA:A<=W.heap.size) (hn:n<=100000):
  ∃g cp w3,(Builtin.append_ #[22,22] 22 #[v, .slice (some ⟨W.heap.size,0,none⟩) 1 1]).run Tryz.prog ((W.alloc (.cells #[.string x] 9)).drew)= .ok (.slice (some ⟨g,0,none⟩) (n + 1) cp) w3/\w3.ownsRow A 9 1 (.slice (some ⟨g,0,none⟩) (n + 1) cp) (n + 1) (xs ++ [.string x])/\
   ((W.alloc (.cells #[.string x] 9)).drew).grownBy w3 v.ownBlock/\((Value.slice (some ⟨g,0,none⟩) (n + 1) cp).ownBlock=v.ownBlock∨(Value.slice (some ⟨g,0,none⟩) (n + 1) cp).ownBlock=some ((W.alloc (.cells #[.string x] 9)).drew).heap.size):=by
 obtain ⟨i0,hi,hz0,hz1,hz2⟩:=info_parts zaK;have bA:Below W.heap.size W ((W.alloc (.cells #[.string x] 9)).drew):=(ZQ W _).drew;have hoA:=zt h (zj bA) (fun g _ e=> by cases e)
 obtain ⟨v',w3,hr,q1,q2,_,q4⟩:=run_append_own_at (P:=Tryz.prog) ((W.alloc (.cells #[.string x] 9)).drew) A 22 22 9 i0 (.string ⟨#[]⟩) 1 16 Tryz.underlying22 hi hz0 hz1 hz2 rfl (by decide) _ _ _ hoA
  ⟨W.heap.size,0,none⟩ 1 1 [.string x] rfl (by
   intro j u hj;have e:(⟨W.heap.size,0,none⟩:Addr).add j=⟨W.heap.size,j,none⟩:=by unfold Addr.add;by_cases h:j=0 <;> simp [h]
   have e2:((W.alloc (.cells #[.string x] 9)).drew).cell? ⟨W.heap.size,j,none⟩=(W.alloc (.cells #[.string x] 9)).cell? ⟨W.heap.size,j,none⟩:=rfl;rw [e,e2,ZA _ _ _ _ rfl];simpa using hj) (by simp [Value.oneCell']) (by unfold maxLen;omega) (by omega) (by simp;omega)
 obtain ⟨_,⟨_,h0⟩ | ⟨gg,cp,cur,hvf,_⟩⟩:=id q1
 ·omega
 subst hvf;exact ⟨gg,cp,w3,hr,q1,q2,q4⟩
theorem zmj {W:World} {A:Nat} {v:Value} {n:Nat} {xs:List Value} (h:W.ownsRow A 3 1 v n xs) (x:Int) (hA:A<=W.heap.size) (hn:n<=100000):
  ∃g cp w3,(Builtin.append_ #[93,93] 93 #[v, .slice (some ⟨W.heap.size,0,none⟩) 1 1]).run Tryz.prog ((W.alloc (.cells #[.int .i64 x] 3)).drew)= .ok (.slice (some ⟨g,0,none⟩) (n + 1) cp) w3/\w3.ownsRow A 3 1 (.slice (some ⟨g,0,none⟩) (n + 1) cp) (n + 1) (xs ++ [.int .i64 x])/\
   ((W.alloc (.cells #[.int .i64 x] 3)).drew).grownBy w3 v.ownBlock/\((Value.slice (some ⟨g,0,none⟩) (n + 1) cp).ownBlock=v.ownBlock∨(Value.slice (some ⟨g,0,none⟩) (n + 1) cp).ownBlock=some ((W.alloc (.cells #[.int .i64 x] 3)).drew).heap.size):=by
 obtain ⟨i0,hi,hz0,hz1,hz2⟩:=info_parts zme;have bA:Below W.heap.size W ((W.alloc (.cells #[.int .i64 x] 3)).drew):=(ZQ W _).drew;have hoA:=zt h (zj bA) (fun g _ e=> by cases e)
 obtain ⟨v',w3,hr,q1,q2,_,q4⟩:=run_append_own_at (P:=Tryz.prog) ((W.alloc (.cells #[.int .i64 x] 3)).drew) A 93 93 3 i0 (.int .i64 0) 1 8 Tryz.underlying93 hi hz0 hz1 hz2 rfl (by decide) _ _ _ hoA
  ⟨W.heap.size,0,none⟩ 1 1 [.int .i64 x] rfl (by
   intro j u hj;have e:(⟨W.heap.size,0,none⟩:Addr).add j=⟨W.heap.size,j,none⟩:=by unfold Addr.add;by_cases h:j=0 <;> simp [h]
   have e2:((W.alloc (.cells #[.int .i64 x] 3)).drew).cell? ⟨W.heap.size,j,none⟩=(W.alloc (.cells #[.int .i64 x] 3)).cell? ⟨W.heap.size,j,none⟩:=rfl;rw [e,e2,ZA _ _ _ _ rfl];simpa using hj) (by simp [Value.oneCell']) (by unfold maxLen;omega) (by omega) (by simp;omega)
 obtain ⟨_,⟨_,h0⟩ | ⟨gg,cp,cur,hvf,_⟩⟩:=id q1
 ·omega
 subst hvf;exact ⟨gg,cp,w3,hr,q1,q2,q4⟩
end
end Go.Proofs.YtjmlaeofjjhfmaaGreat
