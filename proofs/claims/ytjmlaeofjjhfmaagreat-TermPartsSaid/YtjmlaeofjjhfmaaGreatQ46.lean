/- Lemmas. -/
import Derived.Test.YtjmlaeofjjhfmaaGreatQ08
import Derived.Test.YtjmlaeofjjhfmaaGreatQ45
import Derived.Test.YtjmlaeofjjhfmaaGreatQ36
import Derived.Test.YtjmlaeofjjhfmaaGreatQ20
import Derived.Test.YtjmlaeofjjhfmaaGreatQ19
import Derived.Test.YtjmlaeofjjhfmaaGreatQ43
set_option linter.unusedVariables false
set_option linter.unusedSimpArgs false
set_option maxRecDepth 10000
set_option maxHeartbeats 16000000
namespace Go.Proofs.YtjmlaeofjjhfmaaGreat
section
open Go.RowKit Go.Shelf Go.Maps Go.WideMaps
theorem Tryz.results107:Tryz.f107.results=#[.cell 1 33]:=by kernel_rfl
abbrev z33:Obj:= .cells #[.int .i64 0, .string ⟨#[]⟩, .slice none 0 0, .slice none 0 0, .slice none 0 0] 33
def Av (N:Nat) (k:Option Nat) (W:World) (cs:List Value) (x:Term):Prop:=
 ∃U:World,(∀b o v,U.cell? ⟨b,o,none⟩=some v->N<=b/\k≠some b/\W.cell? ⟨b,o,none⟩=some v)/\ze W.heap.size U cs x
theorem Av.alloc {N:Nat} {W:World} {cs:List Value} {x:Term} {k:Option Nat} (h:Av N k W cs x) (o:Obj):Av N (some W.heap.size) (W.alloc o) cs x:=by
 obtain ⟨U,h1,h2⟩:=h;refine ⟨U,fun b o' v hv=> ?_,ze.keep (zh.refl _ U) (by simp) _ _ h2⟩;obtain ⟨a1,_,a3⟩:=h1 b o' v hv;have hlt:=zD a3;exact ⟨a1,fun e=> by have:=ZJ e;omega,(ZP _ _ _ hlt).trans a3⟩
theorem Av.at_ {N:Nat} {W W':World} {cs:List Value} {x:Term} {k:Option Nat} (h:Av N k W cs x) (hs:W.heap.size<=W'.heap.size) (hk:∀b,k≠some b->b < W.heap.size->W'.heap[b]?=W.heap[b]?):ze W'.heap.size (blank N W') cs x:=by
 obtain ⟨U,h1,h2⟩:=h;refine ze.keep (fun b o v _ hv=> ?_) hs _ _ h2;obtain ⟨a1,a2,a3⟩:=h1 b o v hv;rw [yT,if_neg (by omega)];exact (ZB (w:=W) (hk b a2 (zD a3))).trans a3
theorem Av.lay {N:Nat} {W:World} {cs:List Value} {t:Term} {k:Option Nat} (h:Av N k W cs t) (hN:N<=W.heap.size) (hk:∀j,k=some j->j < W.heap.size) (hf:zT (.proc t)):
  Calls Tryz.prog 108 #[.agg cs.toArray] W fun e w'=> ∃cs',e= .returned (.agg cs'.toArray)/\Av N k w' cs' (layT t)/\Below W.heap.size W w':=by
 obtain ⟨U,h1,h2⟩:=h;refine ((zmo 60).1 t hf.1 hf.1 (zav hf) W.heap.size U W cs (fun b o v _ hv=> (h1 b o v hv).2.2) (ZL _) h2).mono ?_;rintro e w' ⟨cs',rfl,h3,h4⟩;refine ⟨cs',rfl,⟨_,fun b o v hv=> ?_,h3⟩,h4⟩;obtain ⟨g1,g2⟩:=(yM _ _ _ _ _ _ _).1 hv;rcases g2 with ⟨g2,g3⟩ | ⟨g2,_,g3⟩
 ·obtain ⟨a1,a2,a3⟩:=h1 b o v g3
  exact ⟨a1,a2,(h4.cell (p:=⟨b,o,none⟩) g2).trans a3⟩
 ·exact ⟨by omega,fun e=> by have:=hk b e;omega,g3⟩
def Sk (W0:World) (k:Option Nat) (W:World):Prop:=Below W0.heap.size W0 W/\∀j,k=some j->W0.heap.size<=j/\qr W j
theorem Sk.mono {W0 W W':World} {k:Option Nat} (h:Sk W0 k W) (hb:Below W.heap.size W W'):Sk W0 k W':=by
 obtain ⟨h1,h2⟩:=h;exact ⟨h1.trans (hb.mono h1.size),fun j hj=> ⟨(h2 j hj).1,(hb.block j (qS (h2 j hj).2)).trans (h2 j hj).2⟩⟩
theorem Sk.alloc {W0 W:World} {k:Option Nat} (h:Sk W0 k W):Sk W0 (some W.heap.size) (W.alloc z33):=
 ⟨h.1.alloc h.1.size _,fun j hj=> by
  obtain rfl:=ZJ hj;exact ⟨h.1.size,ZN W _⟩⟩
def Fin (W0:World) (t:Term) (xs:List Value) (k:Nat) (W:World):Prop:=Below W0.heap.size W0 W/\W0.heap.size<=k/\W.heap[k]?=some (.cells xs.toArray 33)/\ze W.heap.size (blank W0.heap.size W) xs t
theorem zia {W0 W:World} {t:Term} {xs:List Value} {k:Option Nat} (h:Sk W0 k W) (ha:Av W0.heap.size k W xs t):Fin W0 t xs W.heap.size (W.alloc (.cells xs.toArray 33)):=
 ⟨h.1.alloc h.1.size _,h.1.size,ZN W _,ha.at_ (by simp) (fun b _ hb=> ZO _ _ _ hb)⟩
theorem zbn {W0 W:World} {t:Term} {j:Nat} {v0 v1 v2 v3 v4:Value} (h:Sk W0 (some j) W) (ha:Av W0.heap.size (some j) W [v0,v1,v2,v3,v4] t):
  Fin W0 t [v0,v1,v2,v3,v4] j (((((W.setCell ⟨j,0,none⟩ v0).setCell ⟨j,1,none⟩ v1).setCell ⟨j,2,none⟩ v2).setCell ⟨j,3,none⟩ v3).setCell ⟨j,4,none⟩ v4):=by
 obtain ⟨h1,h2⟩:=h;obtain ⟨h3,h4⟩:=h2 j rfl;refine ⟨set5 h1 j h3 _ _ _ _ _,h3,zd9 h4 _ _ _ _ _,ha.at_ (by simp [World.setCell]) (fun b hb _=> ?_)⟩;have e2:b≠j:=fun e=> hb (by rw [e]);rw [ZC _ _ _ _ (by simpa using e2),ZC _ _ _ _ (by simpa using e2),ZC _ _ _ _ (by simpa using e2),ZC _ _ _ _ (by simpa using e2),ZC _ _ _ _ (by simpa using e2)]
theorem zhp {t:Term} {w W0 W5 w6 WB:World} {k:Nat} {xs:List Value} (hz:W0.heap.size=w.heap.size + 1) (hF:Below W0.heap.size W0 W5/\W0.heap.size<=k/\W5.heap[k]?=some (.cells xs.toArray 33)/\ze W5.heap.size (blank W0.heap.size W5) xs t) (hb6:Below W5.heap.size W5 w6)
  (hL:∀b,w.heap.size + 1<=b->b < w6.heap.size->WB.heap[b]?=w6.heap[b]?):ze w6.heap.size (blank w.heap.size WB) xs t:=by
 obtain ⟨f1,f2,f3,f4⟩:=hF;refine ze.keep (qg (by omega) fun b o v hbN hlt hv=> ?_) hb6.size _ _ f4;have h1:=(hb6.cell (p:=⟨b,o,none⟩) hlt).trans hv;exact (ZB (w:=w6) (hL b (by omega) (zD h1))).trans h1
theorem zbP {w W0 W5 w6:World} (hz:W0.heap.size=w.heap.size + 1) (hb0:Below w.heap.size w W0) (hF:Below W0.heap.size W0 W5) (hb6:Below W5.heap.size W5 w6):Below w.heap.size w w6:=
 (hb0.trans (hF.mono (by omega))).trans (hb6.mono (by have:=hF.size;omega))
theorem zdT (B:Nat) (u:World) (t:Term) (cs:List Value) (w:World) (hu:zh B u w) (hB:B<=w.heap.size) (hv:ze B u cs t):
  Calls Tryz.prog 88 #[.agg cs.toArray] w fun e w'=> ((zL (.proc t)=true/\e= .returned (.tuple #[]))∨(zL (.proc t)=false/\e= .panicked (yn 3)))/\Below w.heap.size w w':=by
 cases h:zL (.proc t) with
 | true=> exact (zeA B u t cs w hu hB (qI.2 h) hv).mono fun _ _ ⟨h1,h2⟩=> ⟨.inl ⟨rfl,h1⟩,h2⟩
 | false=> exact (ziB B u t cs w hu hB (fun hf=> by rw [qI.1 hf] at h;cases h) hv).mono fun _ _ ⟨h1,h2⟩=> ⟨.inr ⟨rfl,h1⟩,h2⟩
theorem zgK (B:Nat) (u:World) (t:Term) (hf:zT (.proc t)) (cs:List Value) (hat:ze B u cs t) (w:World) (hu:zh B u w) (hB:B<=w.heap.size) (n0:Nat) (c0:zI w n0 0 cs):
  Calls Tryz.prog 107 #[.pointer (some ⟨n0,0,none⟩)] w fun e' w'=> ((zL (.proc (layT t))=true/\∃cs',e'= .returned (.agg cs'.toArray)/\ze w'.heap.size (blank w.heap.size w') cs' (layT t))∨(zL (.proc (layT t))=false/\e'= .panicked (yn 3)))/\Below w.heap.size w w':=by
 obtain ⟨o0,tx,s0,m0,k0,s1,m1,k1,s2,m2,k2,rfl⟩:=zz hat;have hbc:=zed t 0 (xg hf);have hsz:(qL 0 t).length<=60:=hf.1;obtain ⟨W0,hW0⟩:∃W0,W0=w.alloc (.cells #[.int .i64 0, .string ⟨#[]⟩, .slice none 0 0, .slice none 0 0, .slice none 0 0] 33):=⟨_,rfl⟩;have hb0:Below w.heap.size w W0:=by rw [hW0];exact ZQ w _
 have hz:W0.heap.size=w.heap.size + 1:=by rw [hW0];simp
 have z0:qr W0 w.heap.size:=by unfold qr;rw [hW0];exact ZN w _
 have hpt:zY B u (.iface 83 (.agg #[.int .i64 o0, .string tx, .slice s0 m0 k0, .slice s1 m1 k1, .slice s2 m2 k2])) (.proc t):=⟨_,rfl,hat⟩;have hN0:∀W k,Sk W0 k W->W0.heap.size<=W.heap.size:=fun W k h=> h.1.size
 have hrd:∀W k,Sk W0 k W->(W.cell? ⟨n0,0,none⟩=some (.int .i64 o0)/\W.cell? ⟨n0,1,none⟩=some (.string tx)/\W.cell? ⟨n0,2,none⟩=some (.slice s0 m0 k0)/\W.cell? ⟨n0,3,none⟩=some (.slice s1 m1 k1)/\W.cell? ⟨n0,4,none⟩=some (.slice s2 m2 k2))/\zh B u W/\B<=W.heap.size/\qr W w.heap.size/\Below w.heap.size w W:=by
  intro W k h;have hbW:=hb0.trans (h.1.mono (by omega));exact ⟨zK (c0.below hbW (zD (c0 0 (by simp)))),hu.trans ((Below.keptC hbW).mono hB),by have:=hbW.size;omega,(h.1.block _ (by omega)).trans z0,hbW⟩
 have hcop:∀W k,Sk W0 k W->Calls Tryz.prog 101 #[] W fun e w'=> e= .returned (.agg #[.iface 116 (.agg #[.map none]), .map none])/\Sk W0 k w':=fun W k h=>
  (zbh W).mono fun _ w' ⟨h1,h2⟩=> ⟨h1,h.mono h2⟩
 have hcp:∀W k,Sk W0 k W->Calls Tryz.prog 87 #[.agg #[.iface 116 (.agg #[.map none]), .map none], .agg #[.int .i64 o0, .string tx, .slice s0 m0 k0, .slice s1 m1 k1, .slice s2 m2 k2]] W fun e' w'=>
   ∃cs',e'= .returned (.agg cs'.toArray)/\Hid (Av W0.heap.size k w' cs' t)/\Sk W0 k w':=fun W k h=> by
  obtain ⟨_,hu1,hB1,_⟩:=hrd W k h;have hpst:=zat (B:=B) (u:=u) (m:=none) (b:= .outside) (fun r e=> by cases e) (fun _=> rfl) t hf (.iface 116 (.agg #[.map none])) W rfl hu1 hB1 (fun _=> false) 0 _ hat (zea _ (by omega) W);rw [zdg t _ (zav hf)] at hpst;refine hpst.mono ?_;rintro e' w' ⟨cs',rfl,h1,_,h3⟩;refine ⟨_,rfl,ZH ⟨_,fun b o v hv=> ?_,h1⟩,h.mono (yy h3)⟩;rw [yT] at hv;by_cases hlt:b < W.heap.size
  ·rw [if_pos hlt] at hv;cases hv
  ·rw [if_neg hlt] at hv
   exact ⟨by have:=h.1.size;omega,fun e=> by have:=qS (h.2 b e).2;omega,hv⟩
 have hly:∀W k cs',Sk W0 k W->Hid (Av W0.heap.size k W cs' t)->Calls Tryz.prog 108 #[.agg cs'.toArray] W fun e' w'=> ∃(x1:Int) (x2:ByteArray) (x3:Option Addr) (x4 x5:Nat) (x6:Option Addr) (x7 x8:Nat) (x9:Option Addr) (xA xB:Nat),e'= .returned (.agg #[.int .i64 x1, .string x2, .slice x3 x4 x5, .slice x6 x7 x8, .slice x9 xA xB])/\Hid (Av W0.heap.size k w' [.int .i64 x1, .string x2, .slice x3 x4 x5, .slice x6 x7 x8, .slice x9 xA xB] (layT t))/\Sk W0 k w':=fun W k cs' h ht=> by
  refine (Av.lay ht.out h.1.size (fun j hj=> qS (h.2 j hj).2) hf).mono ?_;rintro e' w' ⟨cs'',rfl,h1,h2⟩;obtain ⟨U,h3,h4⟩:=id h1;obtain ⟨x1,x2,x3,x4,x5,x6,x7,x8,x9,xA,xB,rfl⟩:=zz h4;exact ⟨x1,x2,x3,x4,x5,x6,x7,x8,x9,xA,xB,rfl,ZH h1,h.mono h2⟩
 have hlyS:∀W k cs',Sk W0 k W->Hid (Av W0.heap.size k W cs' t)->Calls Tryz.prog 108 #[.agg cs'.toArray] W fun e' w'=> ∃(x1:Int) (x2:ByteArray) (x3:Option Addr) (x4 x5:Nat) (x6:Option Addr) (x7 x8:Nat) (x9:Option Addr) (xA xB:Nat),e'= .returned (.agg #[.int .i64 x1, .string x2, .slice x3 x4 x5, .slice x6 x7 x8, .slice x9 xA xB])/\Hid (Av W0.heap.size k w' [.int .i64 x1, .string x2, .slice x3 x4 x5, .slice x6 x7 x8, .slice x9 xA xB] (layT t))/\Sk W0 k w'/\
   (∀j,k=some j->w'.cell? ⟨j,0,none⟩=some (.int .i64 0))/\(∀j,k=some j->w'.cell? ⟨j,1,none⟩=some (.string ⟨#[]⟩))/\(∀j,k=some j->w'.cell? ⟨j,2,none⟩=some (.slice none 0 0))/\(∀j,k=some j->w'.cell? ⟨j,3,none⟩=some (.slice none 0 0))/\(∀j,k=some j->w'.cell? ⟨j,4,none⟩=some (.slice none 0 0))/\(∀j,k=some j->∀o,w'.frozen? ⟨j,o,none⟩=false):=fun W k cs' h ht=> by
  refine (hly W _ cs' h ht).mono ?_;rintro e' w' ⟨x1,x2,x3,x4,x5,x6,x7,x8,x9,xA,xB,rfl,h1,h2⟩;have hz:=fun j e=> (h2.2 j e).2.cells;exact ⟨x1,x2,x3,x4,x5,x6,x7,x8,x9,xA,xB,rfl,h1,h2,fun j e=> (hz j e).1,fun j e=> (hz j e).2.1,fun j e=> (hz j e).2.2.1,fun j e=> (hz j e).2.2.2.1,fun j e=> (hz j e).2.2.2.2.1,fun j e=> (hz j e).2.2.2.2.2⟩
 have g0:Sk W0 none W0:=⟨ZF _ _,fun _ h=> by cases h⟩;have HW:=ZH hW0;have HZ:=ZH hz;obtain ⟨⟨a0,a1,a2,a3,a4⟩,hu0,hB0,_⟩:=hrd W0 _ g0;have hm1:=xz B u _ _ W0 hu0 hB0 hf hpt;rw [hW0] at a0 a1 a2 a3 a4;obtain ⟨S,hS⟩:∃S,S=Sk W0:=⟨_,rfl⟩;have hSa:∀W k n,S k W->n=W.heap.size->S (some n) (W.alloc z33):=fun W k n h e=> by rw [hS] at h ⊢;rw [e];exact h.alloc
 have hSz:∀W j,S (some j) W->qr W j:=fun W j h=> by rw [hS] at h;exact (h.2 j rfl).2
 rw [<-hS] at hrd hcop hcp hly hlyS hN0
 have hne:∀W k,S k W->(¬n0=W.heap.size)/\¬W.heap.size=n0:=fun W k h=> by
  have:=zD (hrd W k h).1.1;exact ⟨fun e=> by omega,fun e=> by omega⟩
 have HS:=ZH hS;clear c0 hS hat hW0 hz g0;go_enter Tryz.func107,Tryz.ntmps107;go_wp2_with fail;rw [<-HW.out];refine hm1.mono ?_;clear hm1;rintro e' w1 ⟨rfl,hb1⟩;clear a0 a1 a2 a3 a4;have g1:S none w1.drew:=by rw [HS.out];exact ⟨hb1.drew,fun _ h=> by cases h⟩
 obtain ⟨⟨b0',b1',b2',b3',b4'⟩,_⟩:=hrd w1.drew _ g1;obtain ⟨ne1,ne1'⟩:(¬n0=w1.heap.size)/\¬w1.heap.size=n0:=hne w1.drew _ g1
 have g1a:S (some w1.heap.size) (w1.alloc z33).drew:=by
  rw [HS.out]
  exact ⟨(hb1.alloc hb1.size _).drew,fun j hj=> by
   obtain rfl:=ZJ hj;exact ⟨hb1.size,ZN w1 _⟩⟩
 obtain ⟨⟨d0',d1',d2',d3',d4'⟩,_⟩:=hrd _ _ g1a;obtain ⟨y0,y1,y2,y3,y4,yf⟩:=qr.cells (hSz _ _ g1a);go_wp2_with fail
 go_region_held3 (fun W=> W.cell? ⟨n0,0,none⟩=some (.int .i64 o0)/\W.cell? ⟨n0,1,none⟩=some (.string tx)/\W.cell? ⟨n0,2,none⟩=some (.slice s0 m0 k0)/\W.cell? ⟨n0,3,none⟩=some (.slice s1 m1 k1)/\W.cell? ⟨n0,4,none⟩=some (.slice s2 m2 k2)) (go_keep)
   (first
  | (go_at_call 101;refine (hcop _ _ (by assumption)).mono ?_;rintro e' w2 ⟨rfl,g2⟩;obtain ⟨⟨s0',s1',s2',s3',s4'⟩,_⟩:=hrd w2 _ g2;obtain ⟨ne2,ne2'⟩:=hne w2 _ g2;have g2a:=hSa _ _ w2.heap.size g2 rfl;obtain ⟨⟨t0',t1',t2',t3',t4'⟩,_⟩:=hrd _ _ g2a)
  | (go_at_call 87;refine (hcp _ _ (by assumption)).mono ?_;rintro e' w3 ⟨cs',rfl,ht3,g3⟩;obtain ⟨⟨s0',s1',s2',s3',s4'⟩,_⟩:=hrd w3 _ g3;have ht3a:=ZH (ht3.out.alloc z33);obtain ⟨ne3,ne3'⟩:=hne w3 _ g3;have g3a:=hSa _ _ w3.heap.size g3 rfl)
  | (go_at_call 108;refine (hlyS _ _ _ (by assumption) (by assumption)).mono ?_;rintro e' w4 ⟨x1,x2,x3,x4,x5,x6,x7,x8,x9,xA,xB,rfl,ht4,g4,v0,v1,v2,v3,v4,vf⟩;obtain ⟨⟨s0',s1',s2',s3',s4'⟩,_⟩:=hrd w4 _ g4;simp only [reduceCtorEq,false_imp_iff,implies_true,Option.some.injEq,forall_eq'] at v0 v1 v2 v3 v4 vf))
 all_goals
  first
  | (obtain ⟨W5,hW5,F5⟩:∃W5,(w4.alloc (.cells #[.int .i64 x1, .string x2, .slice x3 x4 x5, .slice x6 x7 x8, .slice x9 xA xB] 33))=W5/\Fin W0 (layT t) [.int .i64 x1, .string x2, .slice x3 x4 x5, .slice x6 x7 x8, .slice x9 xA xB] w4.heap.size W5:=⟨_,rfl,zia (by rw [HS.out] at g4;exact g4) ht4.out⟩;rw [hW5];clear hW5;obtain ⟨k,hk⟩:∃k,k=w4.heap.size:=⟨_,rfl⟩;rw [<-hk] at F5 ⊢;clear hk)
  | (obtain ⟨W5,hW5,F5⟩:∃W5,(((((w4.setCell ⟨w1.heap.size,0,none⟩ (.int .i64 x1)).setCell ⟨w1.heap.size,1,none⟩ (.string x2)).setCell ⟨w1.heap.size,2,none⟩ (.slice x3 x4 x5)).setCell ⟨w1.heap.size,3,none⟩ (.slice x6 x7 x8)).setCell ⟨w1.heap.size,4,none⟩ (.slice x9 xA xB))=W5/\Fin W0 (layT t) [.int .i64 x1, .string x2, .slice x3 x4 x5, .slice x6 x7 x8, .slice x9 xA xB] w1.heap.size W5:=⟨_,rfl,zbn (by rw [HS.out] at g4;exact g4) ht4.out⟩;rw [hW5];clear hW5;obtain ⟨k,hk⟩:∃k,k=w1.heap.size:=⟨_,rfl⟩;rw [<-hk] at F5 ⊢;clear hk)
  | (obtain ⟨W5,hW5,F5⟩:∃W5,(((((w4.setCell ⟨w2.heap.size,0,none⟩ (.int .i64 x1)).setCell ⟨w2.heap.size,1,none⟩ (.string x2)).setCell ⟨w2.heap.size,2,none⟩ (.slice x3 x4 x5)).setCell ⟨w2.heap.size,3,none⟩ (.slice x6 x7 x8)).setCell ⟨w2.heap.size,4,none⟩ (.slice x9 xA xB))=W5/\Fin W0 (layT t) [.int .i64 x1, .string x2, .slice x3 x4 x5, .slice x6 x7 x8, .slice x9 xA xB] w2.heap.size W5:=⟨_,rfl,zbn (by rw [HS.out] at g4;exact g4) ht4.out⟩;rw [hW5];clear hW5;obtain ⟨k,hk⟩:∃k,k=w2.heap.size:=⟨_,rfl⟩;rw [<-hk] at F5 ⊢;clear hk)
  | (obtain ⟨W5,hW5,F5⟩:∃W5,(((((w4.setCell ⟨w3.heap.size,0,none⟩ (.int .i64 x1)).setCell ⟨w3.heap.size,1,none⟩ (.string x2)).setCell ⟨w3.heap.size,2,none⟩ (.slice x3 x4 x5)).setCell ⟨w3.heap.size,3,none⟩ (.slice x6 x7 x8)).setCell ⟨w3.heap.size,4,none⟩ (.slice x9 xA xB))=W5/\Fin W0 (layT t) [.int .i64 x1, .string x2, .slice x3 x4 x5, .slice x6 x7 x8, .slice x9 xA xB] w3.heap.size W5:=⟨_,rfl,zbn (by rw [HS.out] at g4;exact g4) ht4.out⟩;rw [hW5];clear hW5;obtain ⟨k,hk⟩:∃k,k=w3.heap.size:=⟨_,rfl⟩;rw [<-hk] at F5 ⊢;clear hk)
 all_goals
  obtain ⟨f1,f2,f3,f4⟩:=F5;obtain ⟨y0,y1,y2,y3,y4,yf⟩:=yd f3;have hfit:=zdT W5.heap.size W5 (layT t) [.int .i64 x1, .string x2, .slice x3 x4 x5, .slice x6 x7 x8, .slice x9 xA xB] W5 (zh.refl _ _) (ZL _) (ze.keep (q9 _ _ _) (ZL _) _ _ f4);have HF:=ZH (And.intro f1 (And.intro f2 (And.intro f3 f4)));clear f1 f2 f3 f4;go_wp2_with fail;refine hfit.mono ?_;clear hfit;rintro e' w6 ⟨⟨hfj,rfl⟩ | ⟨hfj,rfl⟩,hb6⟩
  ·obtain ⟨f1,f2,f3,f4⟩:=HF.out
   clear y0 y1 y2 y3 y4 yf;obtain ⟨y0,y1,y2,y3,y4,yf⟩:=yd ((hb6.block k (qS f3)).trans f3);obtain ⟨r0,r1,r2,r3,r4,rf⟩:=qr.cells ((hb6.block w.heap.size (by have:=f1.size;have:=HZ.out;omega)).trans ((f1.block w.heap.size (by have:=HZ.out;omega)).trans z0));have HB6:=ZH hb6;have HFJ:=ZH hfj;clear f1 f2 f3 f4 hb6 hfj;go_wp2;simp [bodyPost,results,Tryz.results107,go_sem,r0,r1,r2,r3,r4];exact ⟨⟨HFJ.out,zhp HZ.out HF.out HB6.out (xo (qj.refl (w.heap.size + 1) w6) w.heap.size (Nat.lt_succ_self _) (.int .i64 x1) (.string x2) (.slice x3 x4 x5) (.slice x6 x7 x8) (.slice x9 xA xB)).2⟩,set5 (zbP HZ.out hb0 HF.out.1 HB6.out) w.heap.size (ZL _) _ _ _ _ _⟩
  ·exact ⟨rfl, .inr ⟨hfj,rfl⟩,zbP HZ.out hb0 HF.out.1 hb6⟩
theorem zl4 (B:Nat) (u:World) (t:Term) (hf:zT (.proc t)) (cs:List Value) (hat:ze B u cs t) (w:World) (hu:zh B u w) (hB:B<=w.heap.size) (n0:Nat) (c0:zI w n0 0 cs) (hfl:zT (.proc (layT t))):
  Calls Tryz.prog 107 #[.pointer (some ⟨n0,0,none⟩)] w fun e' w'=> ∃cs',e'= .returned (.agg cs'.toArray)/\ze w'.heap.size (blank w.heap.size w') cs' (layT t)/\Below w.heap.size w w':=
 (zgK B u t hf cs hat w hu hB n0 c0).mono fun e' w' ⟨h,hb⟩=> by
  rcases h with ⟨-,cs',h1,h2⟩ | ⟨h,-⟩
  ·exact ⟨cs',h1,h2,hb⟩
  ·rw [qI.1 hfl] at h;cases h
theorem zgr (B:Nat) (u:World) (t:Term) (hf:zT (.proc t)) (cs:List Value) (hat:ze B u cs t) (w:World) (hu:zh B u w) (hB:B<=w.heap.size) (n0:Nat) (c0:zI w n0 0 cs) (hfl:¬zT (.proc (layT t))):
  Calls Tryz.prog 107 #[.pointer (some ⟨n0,0,none⟩)] w fun e' w'=> e'= .panicked (yn 3)/\Below w.heap.size w w':=
 (zgK B u t hf cs hat w hu hB n0 c0).mono fun e' w' ⟨h,hb⟩=> ⟨h.elim (fun h=> absurd (qI.2 h.1) hfl) (fun h=> h.2),hb⟩
theorem zhW (B:Nat) (u:World) (t:Term) (hf:¬zT (.proc t)) (cs:List Value) (hat:ze B u cs t) (w:World) (hu:zh B u w) (hB:B<=w.heap.size) (n0:Nat) (c0:zI w n0 0 cs):
  Calls Tryz.prog 107 #[.pointer (some ⟨n0,0,none⟩)] w fun e' w'=> e'= .panicked (yn 2)/\Below w.heap.size w w':=by
 obtain ⟨o0,tx,s0,m0,k0,s1,m1,k1,s2,m2,k2,rfl⟩:=zz hat;obtain ⟨W0,hW0⟩:∃W0,W0=w.alloc (.cells #[.int .i64 0, .string ⟨#[]⟩, .slice none 0 0, .slice none 0 0, .slice none 0 0] 33):=⟨_,rfl⟩;have hb0:Below w.heap.size w W0:=by rw [hW0];exact ZQ w _
 have hz:W0.heap.size=w.heap.size + 1:=by rw [hW0];simp
 have hpt:zY B u (.iface 83 (.agg #[.int .i64 o0, .string tx, .slice s0 m0 k0, .slice s1 m1 k1, .slice s2 m2 k2])) (.proc t):=⟨_,rfl,hat⟩;have hm1:=zfm B u _ _ W0 (hu.trans ((Below.keptC hb0).mono hB)) (by omega) hf hpt;obtain ⟨a0,a1,a2,a3,a4⟩:=zK (c0.below hb0 (zD (c0 0 (by simp))));rw [hW0] at a0 a1 a2 a3 a4;have HW:=ZH hW0;clear c0 hat hW0;go_enter Tryz.func107,Tryz.ntmps107;go_wp2_with fail;rw [<-HW.out];refine hm1.mono ?_;clear hm1;rintro e' w1 ⟨rfl,hb1⟩;exact ⟨rfl,rfl,hb0.trans (hb1.mono (by omega))⟩
theorem Tryz.results49:Tryz.f49.results=#[.cell 2 33, .tmp 3]:=by kernel_rfl
theorem zld (o0:Int) (tx:ByteArray) (s0:Option Addr) (m0 k0:Nat) (s1:Option Addr) (m1 k1:Nat) (s2:Option Addr) (m2 k2:Nat) (w:World) (T:Term)
  (hw:∀WC:World,Below w.heap.size w WC->zI WC w.heap.size 0 [.int .i64 o0, .string tx, .slice s0 m0 k0, .slice s1 m1 k1, .slice s2 m2 k2]->Calls Tryz.prog 107 #[.pointer (some ⟨w.heap.size,0,none⟩)] WC fun e' w'=> ∃cs',e'= .returned (.agg cs'.toArray)/\ze w'.heap.size (blank WC.heap.size w') cs' T/\Below WC.heap.size WC w'):
  Calls Tryz.prog 49 #[.agg #[.int .i64 o0, .string tx, .slice s0 m0 k0, .slice s1 m1 k1, .slice s2 m2 k2]] w fun e' w'=> ∃cs',e'= .returned (.tuple #[.agg cs'.toArray, .int .i64 0])/\ze w'.heap.size w' cs' T/\Below w.heap.size w w':=by
 obtain ⟨W0,hW0⟩:∃W0,W0=((w.alloc (.cells #[.int .i64 o0, .string tx, .slice s0 m0 k0, .slice s1 m1 k1, .slice s2 m2 k2] 33)).alloc (.cells #[.int .i64 0, .string ⟨#[]⟩, .slice none 0 0, .slice none 0 0, .slice none 0 0] 33)):=⟨_,rfl⟩;have hb0:Below w.heap.size w W0:=by rw [hW0];exact (ZQ w _).alloc (by simp) _
 have hz:W0.heap.size=w.heap.size + 2:=by rw [hW0];simp
 have h0:W0.heap[w.heap.size]?=some (.cells #[.int .i64 o0, .string tx, .slice s0 m0 k0, .slice s1 m1 k1, .slice s2 m2 k2] 33):=by
  rw [hW0,ZO _ _ _ (by simp)];exact ZN w _
 have h3:qr W0 (w.heap.size + 1):=by
  unfold qr;rw [hW0];have:=ZN (w.alloc (.cells #[.int .i64 o0, .string tx, .slice s0 m0 k0, .slice s1 m1 k1, .slice s2 m2 k2] 33)) (.cells #[.int .i64 0, .string ⟨#[]⟩, .slice none 0 0, .slice none 0 0, .slice none 0 0] 33);rwa [World.size_alloc] at this
 obtain ⟨WC,hWC⟩:∃WC,WC=(W0.alloc (.cells #[.int .i64 0, .string ⟨#[]⟩, .slice none 0 0, .slice none 0 0, .slice none 0 0] 33)).alloc (.cells #[.int .i64 0] 37):=⟨_,rfl⟩;have hbC:Below W0.heap.size W0 WC:=by rw [hWC];exact (ZQ W0 _).alloc (by simp) _
 have hzC:WC.heap.size=W0.heap.size + 2:=by rw [hWC];simp
 have hbwC:=hb0.trans (hbC.mono (by omega))
 have hw:=hw WC hbwC
  (fun j hj=> by
   have q:=(hbC.block w.heap.size (by omega)).trans h0
   match j,hj with
   | 0,_=> simp [World.cell?,q]
   | 1,_=> simp [World.cell?,q]
   | 2,_=> simp [World.cell?,q]
   | 3,_=> simp [World.cell?,q]
   | 4,_=> simp [World.cell?,q])
 have hmf:∀(fn:Fn) (first cap:Array Value) (w:World),(Instr.makeFunc fn first cap).run Tryz.prog w= .ok (.func fn first cap) w:=fun _ _ _ _=> rfl
 have ha:=zbc 107 #[.pointer (some ⟨w.heap.size,0,none⟩)] W0 (fun X w'=> ze w'.heap.size (blank WC.heap.size w') [.int .i64 X.op, .string X.t, .slice X.a0 X.n0 X.c0, .slice X.a1 X.n1 X.c1, .slice X.a2 X.n2 X.c2] T) (enters_of Tryz.func107 (by kernel_rfl) rfl) (by
  rw [<-hWC,<-hzC];refine hw.mono ?_;rintro e' w' ⟨cs',rfl,h1,h2⟩;obtain ⟨a1,a2,a3,a4,a5,a6,a7,a8,a9,a10,a11,rfl⟩:=zz h1;exact ⟨⟨a1,a2,a3,a4,a5,a6,a7,a8,a9,a10,a11⟩,rfl,h1,h2⟩)
 have HW:=ZH hW0;have HZ:=ZH hz;have HZC:=ZH hzC;have HC:=ZH hWC;clear hw hW0 hWC hz hzC h0;go_enter Tryz.func49,Tryz.ntmps49;go_wp2_with (go_at_call 82;rw [<-HW.out];refine ha.mono ?_;clear ha;rintro e' w2 ⟨⟨a1,a2,a3,a4,a5,a6,a7,a8,a9,a10,a11⟩,w1,rfl,hR1,hsz,hblk,hb1⟩;obtain ⟨x0,x1,x2,x3,x4,xf⟩:=qr.cells ((hb1.block (w.heap.size + 1) (by have:=HZ.out;omega)).trans h3);have HS:=ZH hsz;clear hsz);simp [bodyPost,results,Tryz.results49,go_sem,x0,x1,x2,x3,x4];have hz:=HZ.out;have hzC:=HZC.out;refine ⟨?_,set5 (hb0.trans (hb1.mono (by omega))) (w.heap.size + 1) (by omega) _ _ _ _ _⟩;have hL:qj (w.heap.size + 4) w1 w2:=⟨by rw [HS.out];exact ZL _,fun b hb _=> hblk b (by omega)⟩;have hL5:=xo hL (w.heap.size + 1) (by omega) (.int .i64 a1) (.string a2) (.slice a3 a4 a5) (.slice a6 a7 a8) (.slice a9 a10 a11);rw [<-HS.out];exact ze.keep (q9 0 _ _) (ZL _) _ _ (ze.keep (hL5.kept (A0:=WC.heap.size) (A':=0) (B:=w1.heap.size) (by omega) (by omega) (ZL _)) (ZL _) _ _ hR1)
theorem zgJ (o0:Int) (tx:ByteArray) (s0:Option Addr) (m0 k0:Nat) (s1:Option Addr) (m1 k1:Nat) (s2:Option Addr) (m2 k2:Nat) (w:World) (c:Int)
  (hw:∀WC:World,Below w.heap.size w WC->zI WC w.heap.size 0 [.int .i64 o0, .string tx, .slice s0 m0 k0, .slice s1 m1 k1, .slice s2 m2 k2]->Calls Tryz.prog 107 #[.pointer (some ⟨w.heap.size,0,none⟩)] WC fun e' w'=> e'= .panicked (yn c)/\Below WC.heap.size WC w'):
  Calls Tryz.prog 49 #[.agg #[.int .i64 o0, .string tx, .slice s0 m0 k0, .slice s1 m1 k1, .slice s2 m2 k2]] w fun e' w'=> e'= .returned (.tuple #[.agg #[.int .i64 0, .string ⟨#[]⟩, .slice none 0 0, .slice none 0 0, .slice none 0 0], .int .i64 c])/\Below w.heap.size w w':=by
 obtain ⟨W0,hW0⟩:∃W0,W0=((w.alloc (.cells #[.int .i64 o0, .string tx, .slice s0 m0 k0, .slice s1 m1 k1, .slice s2 m2 k2] 33)).alloc (.cells #[.int .i64 0, .string ⟨#[]⟩, .slice none 0 0, .slice none 0 0, .slice none 0 0] 33)):=⟨_,rfl⟩;have hb0:Below w.heap.size w W0:=by rw [hW0];exact (ZQ w _).alloc (by simp) _
 have hz:W0.heap.size=w.heap.size + 2:=by rw [hW0];simp
 have h0:W0.heap[w.heap.size]?=some (.cells #[.int .i64 o0, .string tx, .slice s0 m0 k0, .slice s1 m1 k1, .slice s2 m2 k2] 33):=by
  rw [hW0,ZO _ _ _ (by simp)];exact ZN w _
 have h3:qr W0 (w.heap.size + 1):=by
  unfold qr;rw [hW0];have:=ZN (w.alloc (.cells #[.int .i64 o0, .string tx, .slice s0 m0 k0, .slice s1 m1 k1, .slice s2 m2 k2] 33)) (.cells #[.int .i64 0, .string ⟨#[]⟩, .slice none 0 0, .slice none 0 0, .slice none 0 0] 33);rwa [World.size_alloc] at this
 obtain ⟨WC,hWC⟩:∃WC,WC=(W0.alloc (.cells #[.int .i64 0, .string ⟨#[]⟩, .slice none 0 0, .slice none 0 0, .slice none 0 0] 33)).alloc (.cells #[.int .i64 0] 37):=⟨_,rfl⟩;have hbC:Below W0.heap.size W0 WC:=by rw [hWC];exact (ZQ W0 _).alloc (by simp) _
 have hzC:WC.heap.size=W0.heap.size + 2:=by rw [hWC];simp
 have hbwC:=hb0.trans (hbC.mono (by omega))
 have hw:=hw WC hbwC
  (fun j hj=> by
   have q:=(hbC.block w.heap.size (by omega)).trans h0
   match j,hj with
   | 0,_=> simp [World.cell?,q]
   | 1,_=> simp [World.cell?,q]
   | 2,_=> simp [World.cell?,q]
   | 3,_=> simp [World.cell?,q]
   | 4,_=> simp [World.cell?,q])
 have hmf:∀(fn:Fn) (first cap:Array Value) (w:World),(Instr.makeFunc fn first cap).run Tryz.prog w= .ok (.func fn first cap) w:=fun _ _ _ _=> rfl;have HW:=ZH hW0;have HZ:=ZH hz;have HZC:=ZH hzC
 have ha:=za5 107 #[.pointer (some ⟨w.heap.size,0,none⟩)] c W0 (enters_of Tryz.func107 (by kernel_rfl) rfl) (by
  rw [<-hWC,<-hzC];refine hw.mono ?_;rintro e' w' ⟨h1,h2⟩;exact ⟨h1,h2⟩)
 clear hw hWC hW0 hz hzC h0;go_enter Tryz.func49,Tryz.ntmps49;go_wp2_with (go_at_call 82;rw [<-HW.out];refine ha.mono ?_;clear ha;rintro e' w1 ⟨rfl,hb1⟩;obtain ⟨x0,x1,x2,x3,x4,xf⟩:=qr.cells ((hb1.block (w.heap.size + 1) (by have:=HZ.out;omega)).trans h3));simp [bodyPost,results,Tryz.results49,go_sem,x0,x1,x2,x3,x4];exact set5 (hb0.trans (hb1.mono (by have:=HZ.out;omega))) (w.heap.size + 1) (by omega) _ _ _ _ _
def jY (t:Term):Int:=if zL (.proc t) then (if zL (.proc (layT t)) then 0 else 3) else 2
def znF (t:Term) (cs:List Value) (w:World):Prop:=(jY t=0/\zL (.proc t)=true/\zL (.proc (layT t))=true/\ze w.heap.size w cs (layT t))∨(jY t≠0/\cs=zgy)
theorem zh3 (t:Term) (B:Nat) (u w:World) (cs:List Value) (hu:zh B u w) (hB:B<=w.heap.size) (hat:ze B u cs t):
  Calls Tryz.prog 49 #[.agg cs.toArray] w fun e' w'=> ∃cs',e'= .returned (.tuple #[.agg cs'.toArray, .int .i64 (jY t)])/\Hid (znF t cs' w')/\Below w.heap.size w w':=by
 obtain ⟨o0,tx,s0,m0,k0,s1,m1,k1,s2,m2,k2,rfl⟩:=zz hat;cases h1:zL (.proc t) with
 | false=>
  have hc:jY t=2:=by unfold jY;rw [h1];rfl
  refine (zgJ o0 tx s0 m0 k0 s1 m1 k1 s2 m2 k2 w 2 (fun WC hb a1=> zhW B u t (fun h=> by rw [qI.1 h] at h1;cases h1) _ hat WC (hu.trans ((Below.keptC hb).mono hB)) (by have:=hb.size;omega) _ a1)).mono ?_;rintro e' w' ⟨h1,h2⟩;rw [hc];exact ⟨zgy,h1,ZH (.inr ⟨by rw [hc];decide,rfl⟩),h2⟩
 | true=>
  cases h2:zL (.proc (layT t)) with
  | false=>
   have hc:jY t=3:=by unfold jY;rw [h1,h2];rfl
   refine (zgJ o0 tx s0 m0 k0 s1 m1 k1 s2 m2 k2 w 3 (fun WC hb a1=> zgr B u t (qI.2 h1) _ hat WC (hu.trans ((Below.keptC hb).mono hB)) (by have:=hb.size;omega) _ a1 (fun h=> by rw [qI.1 h] at h2;cases h2))).mono ?_;rintro e' w' ⟨h1,h2⟩;rw [hc];exact ⟨zgy,h1,ZH (.inr ⟨by rw [hc];decide,rfl⟩),h2⟩
  | true=>
   have hc:jY t=0:=by unfold jY;rw [h1,h2];rfl
   refine (zld o0 tx s0 m0 k0 s1 m1 k1 s2 m2 k2 w (layT t) (fun WC hb a1=> zl4 B u t (qI.2 h1) _ hat WC (hu.trans ((Below.keptC hb).mono hB)) (by have:=hb.size;omega) _ a1 (qI.2 h2))).mono ?_;rintro e' w' ⟨cs',h3,h4,h5⟩;rw [hc];exact ⟨cs',h3,ZH (.inl ⟨hc,h1,h2,h4⟩),h5⟩
theorem zkd (t:Term) (hf:zT (.proc t)) (B:Nat) (u w:World) (cs:List Value) (hu:zh B u w) (hB:B<=w.heap.size) (hat:ze B u cs t):
  Calls Tryz.prog 45 #[.agg cs.toArray] w fun e' w'=> ∃v,e'= .returned (.tuple #[v, .int .i64 0])/\SlAt w'.heap.size v (zG t).length (fun b off=> zu w'.heap.size w' b off (zG t))/\Below w.heap.size w w':=
 zdv B u t hf cs hat w hu hB (t,fun _=> false) (zdg t _ (zav hf)) (xg hf) hf.1 (by have:=zed t 0 (xg hf);have h:(qL 0 t).length<=60:=hf.1;omega)
theorem zf2:∀l:List Term,zV (fun (_:Unit) (t:Term)=> some (t,())) () l=some (l,())
 | []=> rfl
 | a::l=> by simp only [zV];rw [zf2 l]
theorem zmL (t:Term) (hf:zT (.proc t)) (B:Nat) (u W:World) (cs:List Value) (hu:zh B u W) (hB:B<=W.heap.size) (hat:ze B u cs t):
  Calls Tryz.prog 87 #[.agg #[.iface 116 (.agg #[.map none]), .map none], .agg cs.toArray] W fun e' w'=> ∃cs',e'= .returned (.agg cs'.toArray)/\ze w'.heap.size (blank W.heap.size w') cs' t/\W.grownBy w' none:=by
 have hbc:=zed t 0 (xg hf);have hsz:(qL 0 t).length<=60:=hf.1;have hpst:=zat (B:=B) (u:=u) (m:=none) (b:= .outside) (fun r e=> by cases e) (fun _=> rfl) t hf (.iface 116 (.agg #[.map none])) W rfl hu hB (fun _=> false) 0 _ hat (zea _ (by omega) W);rw [zdg t _ (zav hf)] at hpst;refine hpst.mono ?_;rintro e' w' ⟨cs',rfl,h1,_,h3⟩;exact ⟨cs',rfl,h1,h3⟩
theorem ziz (l:List Term) (hl:l.length<=1000) (hf:∀t∈l,zT (.proc t)) (B:Nat) (u W:World) (a:Option Addr) (cap:Nat) (hu:zh B u W) (hB:B<=W.heap.size)
  (hsrc:l.length=0∨∃b off,a=some ⟨b,off,none⟩/\b < B/\zu B u b off l):
  Calls Tryz.prog 105 #[.slice a l.length cap, .func (.func 87) #[.agg #[.iface 116 (.agg #[.map none]), .map none]] #[]] W fun e w'=> ∃a' c',e= .returned (.slice a' l.length c')/\SlAt w'.heap.size (.slice a' l.length c') l.length (fun b off=> zu w'.heap.size (blank W.heap.size w') b off l)/\Below W.heap.size W w':=by
 refine (zhd (S:=Unit) B u none W _ (fun _ _ _=> True) (fun _ t=> some (t,())) l a cap hl hsrc hu hB (fun _ _ _ _ _ _ _ _=> trivial) (fun _ _ _ _ b hb=> by cases hb) (fun b hb=> by cases hb)
  (fun k h s W' cs _ hg hat=> ?_) () trivial).mono ?_
 ·have hb:=yy hg
  refine (zmL l[k] (hf _ (ZM h)) B u W' cs (hu.trans ((Below.keptC hb).mono hB)) (by have:=hg.size;omega) hat).mono ?_;rintro e w' ⟨cs',rfl,h1,h2⟩;unfold OutE;exact ⟨cs',rfl,h1,trivial,h2⟩
 ·rintro e w' h
  rw [zf2] at h;obtain ⟨v,rfl,-,⟨a',c',rfl,h1⟩,-,hg⟩:=h;exact ⟨a',c',rfl,⟨a',c',rfl,h1⟩,yy hg⟩
def Rv (N:Nat) (k:Option Nat) (W:World) (v:Value) (l:List Term):Prop:=
 ∃U:World,(∀b o x,U.cell? ⟨b,o,none⟩=some x->N<=b/\k≠some b/\W.cell? ⟨b,o,none⟩=some x)/\SlAt W.heap.size v l.length (fun b off=> zu W.heap.size U b off l)
theorem Rv.alloc {N:Nat} {W:World} {v:Value} {l:List Term} {k:Option Nat} (h:Rv N k W v l) (o:Obj):Rv N (some W.heap.size) (W.alloc o) v l:=by
 obtain ⟨U,h1,h2⟩:=h;refine ⟨U,fun b o' x hx=> ?_,h2.imp (by simp) fun b off hb hp=> zu.keep (zh.refl _ U) (by simp) _ b off hb hp⟩;obtain ⟨a1,_,a3⟩:=h1 b o' x hx;have hlt:=zD a3;exact ⟨a1,fun e=> by have:=ZJ e;omega,(ZP _ _ _ hlt).trans a3⟩
theorem Rv.join {N:Nat} {W:World} {v:Value} {l:List Term} {k:Option Nat} (h:Rv N k W v l) (hN:N<=W.heap.size) (hk:∀j,k=some j->j < W.heap.size) (hl:l.length<=1000):
  Calls Tryz.prog 104 #[v] W fun e w'=> ∃cs',e= .returned (.agg cs'.toArray)/\Av N k w' cs' (qw l)/\Below W.heap.size W w':=by
 obtain ⟨U,h1,h2⟩:=h;refine (zeW l hl W.heap.size U W v (fun b o x _ hx=> (h1 b o x hx).2.2) (ZL _) h2).mono ?_;rintro e w' ⟨cs',rfl,hb,hX⟩;refine ⟨cs',rfl,⟨mid U W.heap.size W.heap.size w',fun b o x hx=> ?_,hX _ (fun b o x hlt hx=> ?_) (fun b o x hle hx=> ?_)⟩,hb⟩
 ·obtain ⟨g1,g2⟩:=(yM _ _ _ _ _ _ _).1 hx
  rcases g2 with ⟨g2,g3⟩ | ⟨g2,_,g3⟩
  ·obtain ⟨a1,a2,a3⟩:=h1 b o x g3
   exact ⟨a1,a2,(hb.cell (p:=⟨b,o,none⟩) g2).trans a3⟩
  ·exact ⟨by omega,fun e=> by have:=hk b e;omega,g3⟩
 ·exact (yM _ _ _ _ _ _ _).2 ⟨by have:=hb.size;omega, .inl ⟨hlt,hx⟩⟩
 ·exact (yM _ _ _ _ _ _ _).2 ⟨zD hx, .inr ⟨hle,hle,hx⟩⟩
theorem zgt (B:Nat) (u:World) (t:Term) (hf:¬zT (.proc t)) (cs:List Value) (hat:ze B u cs t) (w:World) (hu:zh B u w) (hB:B<=w.heap.size) (n0:Nat) (c0:zI w n0 0 cs):
  Calls Tryz.prog 99 #[.pointer (some ⟨n0,0,none⟩)] w fun e' w'=> e'= .panicked (yn 2)/\Below w.heap.size w w':=by
 obtain ⟨o0,tx,s0,m0,k0,s1,m1,k1,s2,m2,k2,rfl⟩:=zz hat;have hpt:zY B u (.iface 83 (.agg #[.int .i64 o0, .string tx, .slice s0 m0 k0, .slice s1 m1 k1, .slice s2 m2 k2])) (.proc t):=⟨_,rfl,hat⟩;have hm1:=zfm B u _ _ w hu hB hf hpt;obtain ⟨a0,a1,a2,a3,a4⟩:=zK c0;clear c0 hat;go_enter Tryz.func99,Tryz.ntmps99;go_wp2_with fail;refine hm1.mono ?_;clear hm1;rintro e' w1 ⟨rfl,hb1⟩;exact ⟨rfl,rfl,hb1⟩
theorem zhQ (B:Nat) (u:World) (t:Term) (hf:¬zT (.proc t)) (cs:List Value) (hat:ze B u cs t) (w:World) (hu:zh B u w) (hB:B<=w.heap.size):
  Calls Tryz.prog 45 #[.agg cs.toArray] w fun e' w'=> e'= .returned (.tuple #[.slice none 0 0, .int .i64 2])/\Below w.heap.size w w':=by
 obtain ⟨o0,tx,s0,m0,k0,s1,m1,k1,s2,m2,k2,rfl⟩:=zz hat;obtain ⟨W0,hW0⟩:∃W0,W0=w.alloc (.cells #[.int .i64 o0, .string tx, .slice s0 m0 k0, .slice s1 m1 k1, .slice s2 m2 k2] 33):=⟨_,rfl⟩;have hb0:Below w.heap.size w W0:=by rw [hW0];exact ZQ w _
 have hz:W0.heap.size=w.heap.size + 1:=by rw [hW0];simp
 have h0:W0.heap[w.heap.size]?=some (.cells #[.int .i64 o0, .string tx, .slice s0 m0 k0, .slice s1 m1 k1, .slice s2 m2 k2] 33):=by rw [hW0];exact ZN w _
 have hbC:Below W0.heap.size W0 (W0.alloc (.cells #[.int .i64 0] 37)):=ZQ W0 _;have hbwC:=hb0.trans (hbC.mono (by omega))
 have hw:=zgt B u t hf _ hat (W0.alloc (.cells #[.int .i64 0] 37)) (hu.trans ((Below.keptC hbwC).mono hB)) (by have:=hbwC.size;omega) w.heap.size
  (fun j hj=> by
   have q:=(hbC.block w.heap.size (by omega)).trans h0
   match j,hj with
   | 0,_=> simp [World.cell?,q]
   | 1,_=> simp [World.cell?,q]
   | 2,_=> simp [World.cell?,q]
   | 3,_=> simp [World.cell?,q]
   | 4,_=> simp [World.cell?,q])
 have hmf:∀(fn:Fn) (first cap:Array Value) (w:World),(Instr.makeFunc fn first cap).run Tryz.prog w= .ok (.func fn first cap) w:=fun _ _ _ _=> rfl
 have ha:=zgs 99 #[.pointer (some ⟨w.heap.size,0,none⟩)] 2 W0 (enters_of Tryz.func99 (by kernel_rfl) rfl) (by
  refine hw.mono ?_;rintro e' w' ⟨h1,h2⟩;rw [World.size_alloc] at h2;exact ⟨h1,h2⟩)
 have HW:=ZH hW0;have HZ:=ZH hz;clear hw hW0 hz;go_enter Tryz.func45,Tryz.ntmps45;go_wp2_with (go_at_call 98;rw [<-HW.out];refine ha.mono ?_;clear ha;rintro e' w2 ⟨rfl,hb1⟩);go_ret2;exact ⟨rfl,hb0.trans (hb1.mono (by have:=HZ.out;omega))⟩
def SlT (W:World) (v:Value) (L:List Term):Prop:=SlAt W.heap.size v L.length (fun b off=> zu W.heap.size W b off L)
theorem SlT.later {W W':World} {v:Value} {L:List Term} (h:SlT W v L) (hb:Below W.heap.size W W'):SlT W' v L:=SlAt.imp h hb.size fun b off hlt hp=> zu.keep (Below.keptC hb) hb.size _ b off hlt hp
def zbe (code:Int) (L:List Term) (w:World) (e:Ending) (w':World):Prop:=
 ∃(a:Option Addr) (n c:Nat),e= .returned (.tuple #[.slice a n c, .int .i64 code])/\Hid (SlT w' (.slice a n c) L)/\Below w.heap.size w w'
theorem zbe.mk' {code:Int} {L:List Term} {w w':World} {v:Value} (h:SlT w' v L) (hb:Below w.heap.size w w'):zbe code L w (.returned (.tuple #[v, .int .i64 code])) w':=by
 obtain ⟨a,c,rfl,h2⟩:=id h;exact ⟨a,_,c,rfl,ZH h,hb⟩
theorem SlT.nil (W:World):SlT W (.slice none 0 0) []:=⟨none,0,rfl,by simp, .inl rfl⟩
def xe (t:Term):List Term:=if zL (.proc t)=true then zG t else []
theorem zjd (t:Term) (B:Nat) (u w:World) (cs:List Value) (hu:zh B u w) (hB:B<=w.heap.size) (hat:ze B u cs t):
  Calls Tryz.prog 45 #[.agg cs.toArray] w (zbe (jG (zL (.proc t))) (xe t) w):=by
 cases h1:zL (.proc t) with
 | true=>
  have hp:xe t=zG t:=by unfold xe;rw [if_pos h1]
  rw [hp];refine (zkd t (qI.2 h1) B u w cs hu hB hat).mono ?_;rintro e' w' ⟨v,rfl,h2,h3⟩;exact zbe.mk' h2 h3
 | false=>
  have hp:xe t= []:=by unfold xe;rw [if_neg (by rw [h1];decide)]
  rw [hp];refine (zhQ B u t (fun h=> by rw [qI.1 h] at h1;cases h1) cs hat w hu hB).mono ?_;rintro e' w' ⟨rfl,h3⟩;exact zbe.mk' (SlT.nil _) h3
theorem zjb (hD:zbK) (t:Term) (B:Nat) (u w:World) (cs:List Value) (hu:zh B u w) (hB:B<=w.heap.size) (hat:ze B u cs t):
  Calls Tryz.prog 43 #[.agg cs.toArray] w (zbe (jG (zL (.proc t))) (xe t) w):=by
 cases h1:zL (.proc t) with
 | true=>
  have hp:xe t=zG t:=by unfold xe;rw [if_pos h1]
  rw [hp];refine (zho t (qI.2 h1) (fun B u w cs hu hB hv=> by have:=xx hD t B u w cs hu hB hv;rw [h1] at this;exact this) B u w cs hu hB hat).mono ?_;rintro e' w' ⟨v,rfl,h2,h3⟩;exact zbe.mk' (SlAt.imp h2 (ZL _) fun b off hb hp=> zu.keep (q9 _ _ _) (ZL _) _ b off hb hp) h3
 | false=>
  have hp:xe t= []:=by unfold xe;rw [if_neg (by rw [h1];decide)]
  rw [hp];refine (zhB t (fun B u w cs hu hB hv=> by have:=xx hD t B u w cs hu hB hv;rw [h1] at this;exact this) B u w cs hu hB hat).mono ?_;rintro e' w' ⟨rfl,h3⟩;exact zbe.mk' (SlT.nil _) h3
end
end Go.Proofs.YtjmlaeofjjhfmaaGreat
