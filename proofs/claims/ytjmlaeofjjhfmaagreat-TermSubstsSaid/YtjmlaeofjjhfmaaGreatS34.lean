/- Lemmas. -/
import Derived.Test.YtjmlaeofjjhfmaaGreatS19
import Derived.Test.YtjmlaeofjjhfmaaGreatS33
import Derived.Test.YtjmlaeofjjhfmaaGreatS30
import Derived.Test.YtjmlaeofjjhfmaaGreatS26
set_option linter.unusedVariables false
set_option linter.unusedSimpArgs false
set_option maxRecDepth 10000
set_option maxHeartbeats 16000000
namespace Go.Proofs.YtjmlaeofjjhfmaaGreat
section
open Go.RowKit Go.Shelf Go.Maps Go.WideMaps
theorem mustName_no (s:ByteArray) (w:World) (hs:s.size<=maxLen) (hn:qn s=false):
  Calls Tryz.prog 84 #[.string s] w fun e w'=> e= .panicked (yn 2)/\Below w.heap.size w w':=by
 have hR:=j4 s w hs;rw [hn] at hR;go_enter Tryz.func84,Tryz.ntmps84
 go_wp2_with (first
  | (go_at_call 16;refine hR.mono ?_;clear hR;rintro e w1 ⟨rfl,hb1⟩)
  | (go_at_call 103;refine (j7 _ _).mono ?_;rintro e w2 ⟨rfl,rfl⟩))
 exact ⟨rfl,rfl,hb1⟩
theorem ziB (B:Nat) (u:World) (t:Term) (cs:List Value) (w:World) (hu:zh B u w) (hB:B<=w.heap.size) (hf:¬zT (.proc t)) (hv:ze B u cs t):
  Calls Tryz.prog 88 #[.agg cs.toArray] w fun e w'=> e= .panicked (yn 3)/\Below w.heap.size w w':=by
 obtain ⟨op,tx,args,defs,kids⟩:=t;have hv':=hv;unfold ze at hv;obtain ⟨hz,_,_,_,rfl,⟨a0,p0,rfl,_⟩,⟨a1,p1,rfl,_⟩,⟨a2,p2,rfl,_⟩⟩:=hv;have b1:Below w.heap.size w (w.alloc (.cells #[.int .i64 op, .string tx, .slice a0 args.length p0, .slice a1 defs.length p1, .slice a2 kids.length p2] 33)):=ZQ w _;have hm:=zln B u (.mk op tx args defs kids) _ _ (hu.trans ((Below.keptC b1).mono hB)) (by simp;omega) hf hv';go_enter Tryz.func88,Tryz.ntmps88
 go_wp2_with (first
  | (go_at_call 25;refine hm.mono ?_;clear hm;rintro e w1 ⟨rfl,hb1⟩)
  | (go_at_call 103;refine (j7 _ _).mono ?_;rintro e w2 ⟨rfl,rfl⟩))
 exact ⟨rfl,rfl,b1.trans (hb1.mono (by simp))⟩
theorem put_up (o0:Int) (tx:ByteArray) (s0:Option Addr) (m0 k0:Nat) (s1:Option Addr) (m1 k1:Nat) (s2:Option Addr) (m2 k2:Nat) (x:ByteArray) (e0 e1:Int) (e2:ByteArray) (e3:Option Addr) (e4 e5:Nat) (w:World) (c:Int)
  (hw:∀WC:World,Below w.heap.size w WC->zI WC w.heap.size 0 [.int .i64 o0, .string tx, .slice s0 m0 k0, .slice s1 m1 k1, .slice s2 m2 k2]->WC.cell? ⟨w.heap.size + 1,0,none⟩=some (.string x)->zI WC (w.heap.size + 2) 0 [.int .i64 e0, .int .i64 e1, .string e2, .slice e3 e4 e5]->
   Calls Tryz.prog 83 #[.pointer (some ⟨w.heap.size,0,none⟩), .pointer (some ⟨w.heap.size + 1,0,none⟩), .pointer (some ⟨w.heap.size + 2,0,none⟩)] WC fun e' w'=> e'= .panicked (yn c)/\Below WC.heap.size WC w'):
  Calls Tryz.prog 33 #[.agg #[.int .i64 o0, .string tx, .slice s0 m0 k0, .slice s1 m1 k1, .slice s2 m2 k2], .string x, .agg #[.int .i64 e0, .int .i64 e1, .string e2, .slice e3 e4 e5]] w fun e' w'=> e'= .returned (.tuple #[.agg #[.int .i64 0, .string ⟨#[]⟩, .slice none 0 0, .slice none 0 0, .slice none 0 0], .int .i64 c])/\Below w.heap.size w w':=by
 obtain ⟨W0,hW0⟩:∃W0,W0=((((w.alloc (.cells #[.int .i64 o0, .string tx, .slice s0 m0 k0, .slice s1 m1 k1, .slice s2 m2 k2] 33)).alloc (.cells #[.string x] 9)).alloc (.cells #[.int .i64 e0, .int .i64 e1, .string e2, .slice e3 e4 e5] 36)).alloc (.cells #[.int .i64 0, .string ⟨#[]⟩, .slice none 0 0, .slice none 0 0, .slice none 0 0] 33)):=⟨_,rfl⟩;have hb0:Below w.heap.size w W0:=by rw [hW0];exact (((ZQ w _).alloc (by simp) _).alloc (by simp;omega) _).alloc (by simp;omega) _
 have hz:W0.heap.size=w.heap.size + 4:=by rw [hW0];simp
 have h0:W0.heap[w.heap.size]?=some (.cells #[.int .i64 o0, .string tx, .slice s0 m0 k0, .slice s1 m1 k1, .slice s2 m2 k2] 33):=by
  rw [hW0,ZO _ _ _ (by simp <;> omega),ZO _ _ _ (by simp <;> omega),ZO _ _ _ (by simp)];exact ZN w _
 have h1:W0.heap[w.heap.size + 1]?=some (.cells #[.string x] 9):=by
  rw [hW0,ZO _ _ _ (by simp <;> omega),ZO _ _ _ (by simp)];have:=ZN (w.alloc (.cells #[.int .i64 o0, .string tx, .slice s0 m0 k0, .slice s1 m1 k1, .slice s2 m2 k2] 33)) (.cells #[.string x] 9);rwa [World.size_alloc] at this
 have h2:W0.heap[w.heap.size + 2]?=some (.cells #[.int .i64 e0, .int .i64 e1, .string e2, .slice e3 e4 e5] 36):=by
  rw [hW0,ZO _ _ _ (by simp)];have:=ZN ((w.alloc (.cells #[.int .i64 o0, .string tx, .slice s0 m0 k0, .slice s1 m1 k1, .slice s2 m2 k2] 33)).alloc (.cells #[.string x] 9)) (.cells #[.int .i64 e0, .int .i64 e1, .string e2, .slice e3 e4 e5] 36);rwa [World.size_alloc,World.size_alloc] at this
 have h3:qr W0 (w.heap.size + 3):=by
  unfold qr;rw [hW0];have:=ZN (((w.alloc (.cells #[.int .i64 o0, .string tx, .slice s0 m0 k0, .slice s1 m1 k1, .slice s2 m2 k2] 33)).alloc (.cells #[.string x] 9)).alloc (.cells #[.int .i64 e0, .int .i64 e1, .string e2, .slice e3 e4 e5] 36)) (.cells #[.int .i64 0, .string ⟨#[]⟩, .slice none 0 0, .slice none 0 0, .slice none 0 0] 33);rwa [World.size_alloc,World.size_alloc,World.size_alloc] at this
 obtain ⟨WC,hWC⟩:∃WC,WC=(W0.alloc (.cells #[.int .i64 0, .string ⟨#[]⟩, .slice none 0 0, .slice none 0 0, .slice none 0 0] 33)).alloc (.cells #[.int .i64 0] 37):=⟨_,rfl⟩;have hbC:Below W0.heap.size W0 WC:=by rw [hWC];exact (ZQ W0 _).alloc (by simp) _
 have hzC:WC.heap.size=W0.heap.size + 2:=by rw [hWC];simp
 have hbwC:=hb0.trans (hbC.mono (by omega))
 have hw:=hw WC hbwC
  (fun j hj=> by
   have q:=(hbC.block w.heap.size (by omega)).trans h0
   match j,hj with
   | 0,_=> simp [World.cell?,q]
   | 1,_=> simp [World.cell?,q]
   | 2,_=> simp [World.cell?,q]
   | 3,_=> simp [World.cell?,q]
   | 4,_=> simp [World.cell?,q])
  (by have q:=(hbC.block (w.heap.size + 1) (by omega)).trans h1;simp [World.cell?,q])
  (fun j hj=> by
   have q:=(hbC.block (w.heap.size + 2) (by omega)).trans h2
   match j,hj with
   | 0,_=> simp [World.cell?,q]
   | 1,_=> simp [World.cell?,q]
   | 2,_=> simp [World.cell?,q]
   | 3,_=> simp [World.cell?,q])
 have hmf:∀(fn:Fn) (first cap:Array Value) (w:World),(Instr.makeFunc fn first cap).run Tryz.prog w= .ok (.func fn first cap) w:=fun _ _ _ _=> rfl;have e83:∀args w,(callFunc 83 args).run Tryz.prog w= .ok (.enter 83 args) w:=enters_of Tryz.func83 (by kernel_rfl) rfl;have HW:=ZH hW0;have HZ:=ZH hz;have HZC:=ZH hzC;clear h0 h1 h2
 have ha:=za5 83 #[.pointer (some ⟨w.heap.size,0,none⟩), .pointer (some ⟨w.heap.size + 1,0,none⟩), .pointer (some ⟨w.heap.size + 2,0,none⟩)] c W0 e83 (by
  rw [<-hWC,<-hzC];refine hw.mono ?_;rintro e' w' ⟨h1,h2⟩;exact ⟨h1,h2⟩)
 clear hw hWC hW0 hz hzC;go_enter Tryz.func33,Tryz.ntmps33;go_wp2_with (go_at_call 82;rw [<-HW.out];refine ha.mono ?_;clear ha;rintro e' w1 ⟨rfl,hb1⟩;obtain ⟨x0,x1,x2,x3,x4,xf⟩:=qr.cells ((hb1.block (w.heap.size + 3) (by have:=HZ.out;omega)).trans h3));simp [bodyPost,results,Tryz.results33,go_sem,x0,x1,x2,x3,x4];exact set5 (hb0.trans (hb1.mono (by have:=HZ.out;omega))) (w.heap.size + 3) (by omega) _ _ _ _ _
theorem put_work_no (B:Nat) (u:World) (t:Term) (x:ByteArray) (e:Exp) (hbad:¬(zT (.proc t)/\qn x=true/\zT (.exp e))) (hxz:x.size<=maxLen) (cs es:List Value) (hat:ze B u cs t) (hae:zy B u es e)
  (w:World) (hu:zh B u w) (hB:B<=w.heap.size) (n0 n1 n2:Nat) (c0:zI w n0 0 cs) (c1:w.cell? ⟨n1,0,none⟩=some (.string x)) (c2:zI w n2 0 es):
  Calls Tryz.prog 83 #[.pointer (some ⟨n0,0,none⟩), .pointer (some ⟨n1,0,none⟩), .pointer (some ⟨n2,0,none⟩)] w fun e' w'=> e'= .panicked (yn 2)/\Below w.heap.size w w':=by
 obtain ⟨o0,tx,s0,m0,k0,s1,m1,k1,s2,m2,k2,rfl⟩:=zz hat;obtain ⟨e0,e1,e2,e3,e4,e5,rfl⟩:=qG hae;obtain ⟨W0,hW0⟩:∃W0,W0=w.alloc (.cells #[.int .i64 0, .string ⟨#[]⟩, .slice none 0 0, .slice none 0 0, .slice none 0 0] 33):=⟨_,rfl⟩;have hb0:Below w.heap.size w W0:=by rw [hW0];exact ZQ w _
 have hz:W0.heap.size=w.heap.size + 1:=by rw [hW0];simp
 have hrd:∀W,Below W0.heap.size W0 W->(W.cell? ⟨n0,0,none⟩=some (.int .i64 o0)/\W.cell? ⟨n0,1,none⟩=some (.string tx)/\W.cell? ⟨n0,2,none⟩=some (.slice s0 m0 k0)/\W.cell? ⟨n0,3,none⟩=some (.slice s1 m1 k1)/\W.cell? ⟨n0,4,none⟩=some (.slice s2 m2 k2))/\
   W.cell? ⟨n1,0,none⟩=some (.string x)/\(W.cell? ⟨n2,0,none⟩=some (.int .i64 e0)/\W.cell? ⟨n2,1,none⟩=some (.int .i64 e1)/\W.cell? ⟨n2,2,none⟩=some (.string e2)/\W.cell? ⟨n2,3,none⟩=some (.slice e3 e4 e5))/\zh B u W/\B<=W.heap.size/\Below w.heap.size w W:=by
  intro W h;have hbW:=hb0.trans (h.mono (by omega));refine ⟨zK (c0.below hbW (zD (c0 0 (by simp)))),(hbW.cell (p:=⟨n1,0,none⟩) (zD c1)).trans c1,jd (c2.below hbW (zD (c2 0 (by simp)))),hu.trans ((Below.keptC hbW).mono hB),by have:=hbW.size;omega,hbW⟩
 have hpt:zY B u (.iface 83 (.agg #[.int .i64 o0, .string tx, .slice s0 m0 k0, .slice s1 m1 k1, .slice s2 m2 k2])) (.proc t):=⟨_,rfl,hat⟩;have hpe:zY B u (.iface 88 (.agg #[.int .i64 e0, .int .i64 e1, .string e2, .slice e3 e4 e5])) (.exp e):=⟨_,rfl,hae⟩;have HW:=ZH hW0;have HZ:=ZH hz;obtain ⟨q0,q1,q2,q3,q4,q5⟩:=hrd W0 (ZF _ _);obtain ⟨a0,a1,a2,a3,a4⟩:=q0;rw [hW0] at a0 a1 a2 a3 a4;have HC0:=ZH c0;have HC2:=ZH c2;have HA:=ZH hat;have HE:=ZH hae;by_cases hf:zT (.proc t)
 ·have hm1:=xz B u _ _ W0 q3 q4 hf hpt
  clear hW0 hz c0 c2 hat hae;go_enter Tryz.func83,Tryz.ntmps83;go_wp2_with fail;rw [<-HW.out];refine hm1.mono ?_;clear hm1;rintro e' w1 ⟨rfl,hb1⟩;obtain ⟨⟨b0',b1',b2',b3',b4'⟩,g1,⟨g2,g3,g4,g5⟩,hu1,hB1,hbw1⟩:=hrd w1 hb1;by_cases hx:qn x=true
  ·have hfe:¬zT (.exp e):=fun h=> hbad ⟨hf,hx,h⟩
   go_wp2_with fail;refine (zhK x w1 hxz hx).mono ?_;rintro e' w2 ⟨rfl,hb2⟩;have hb2:=hb1.trans (hb2.mono hb1.size);clear a0 a1 a2 a3 a4 q1 q2 b0' b1' b2' b3' b4' g1 g2 g3 g4 g5;obtain ⟨⟨b0',b1',b2',b3',b4'⟩,g1,⟨g2,g3,g4,g5⟩,hu2,hB2,hbw2⟩:=hrd w2 hb2;go_wp2_with fail;refine (zfm B u _ _ w2 hu2 hB2 hfe hpe).mono ?_;rintro e' w3 ⟨rfl,hb3⟩;have hb3:=hb2.trans (hb3.mono hb2.size);exact ⟨rfl,rfl,(hrd w3 hb3).2.2.2.2.2⟩
  ·have hx':qn x=false:=by simpa using hx
   go_wp2_with fail;refine (mustName_no x w1 hxz hx').mono ?_;rintro e' w2 ⟨rfl,hb2⟩;have hb2:=hb1.trans (hb2.mono hb1.size);exact ⟨rfl,rfl,(hrd w2 hb2).2.2.2.2.2⟩
 ·have hm1:=zfm B u _ _ W0 q3 q4 hf hpt
  clear hW0 hz c0 c2 hat hae;go_enter Tryz.func83,Tryz.ntmps83;go_wp2_with fail;rw [<-HW.out];refine hm1.mono ?_;clear hm1;rintro e' w1 ⟨rfl,hb1⟩;exact ⟨rfl,rfl,(hrd w1 hb1).2.2.2.2.2⟩
theorem put_work_long (B:Nat) (u:World) (t:Term) (x:ByteArray) (e:Exp) (hf:zT (.proc t)) (hfe:zT (.exp e)) (hx:qn x=true) (hxz:x.size<=maxLen) (hpl:xr e=true) (cs es:List Value) (hat:ze B u cs t) (hae:zy B u es e)
  (w:World) (hu:zh B u w) (hB:B<=w.heap.size) (n0 n1 n2:Nat) (c0:zI w n0 0 cs) (c1:w.cell? ⟨n1,0,none⟩=some (.string x)) (c2:zI w n2 0 es)
  (y:Term×Used) (hR:some y=yl ⟨.putting x e, [jp]⟩ (xy t x e) t) (hfy:¬zT (.proc y.1)) (kc:Nat) (hcov:Cov (xy t x e) kc) (hkc:kc + bcT t<=4900):
  Calls Tryz.prog 83 #[.pointer (some ⟨n0,0,none⟩), .pointer (some ⟨n1,0,none⟩), .pointer (some ⟨n2,0,none⟩)] w fun e' w'=> e'= .panicked (yn 3)/\Below w.heap.size w w':=by
 obtain ⟨o0,o1,tx,s0,m0,k0,s1,m1,k1,s2,m2,k2,rfl⟩:∃(o0:Int) (o1:Unit) (tx:ByteArray) (s0:Option Addr) (m0 k0:Nat) (s1:Option Addr) (m1 k1:Nat) (s2:Option Addr) (m2 k2:Nat),cs= [.int .i64 o0, .string tx, .slice s0 m0 k0, .slice s1 m1 k1, .slice s2 m2 k2]:=by
  obtain ⟨a1,a2,a3,a4,a5,a6,a7,a8,a9,a10,a11,h⟩:=zz hat;exact ⟨a1,(),a2,a3,a4,a5,a6,a7,a8,a9,a10,a11,h⟩
 obtain ⟨e0,e1,e2,e3,e4,e5,rfl⟩:=qG hae;obtain ⟨W0,hW0⟩:∃W0,W0=w.alloc (.cells #[.int .i64 0, .string ⟨#[]⟩, .slice none 0 0, .slice none 0 0, .slice none 0 0] 33):=⟨_,rfl⟩;have hb0:Below w.heap.size w W0:=by rw [hW0];exact ZQ w _
 have hz:W0.heap.size=w.heap.size + 1:=by rw [hW0];simp
 have z0:qr W0 w.heap.size:=by unfold qr;rw [hW0];exact ZN w _
 have hrd:∀W,Below W0.heap.size W0 W->(W.cell? ⟨n0,0,none⟩=some (.int .i64 o0)/\W.cell? ⟨n0,1,none⟩=some (.string tx)/\W.cell? ⟨n0,2,none⟩=some (.slice s0 m0 k0)/\W.cell? ⟨n0,3,none⟩=some (.slice s1 m1 k1)/\W.cell? ⟨n0,4,none⟩=some (.slice s2 m2 k2))/\
   W.cell? ⟨n1,0,none⟩=some (.string x)/\(W.cell? ⟨n2,0,none⟩=some (.int .i64 e0)/\W.cell? ⟨n2,1,none⟩=some (.int .i64 e1)/\W.cell? ⟨n2,2,none⟩=some (.string e2)/\W.cell? ⟨n2,3,none⟩=some (.slice e3 e4 e5))/\zh B u W/\B<=W.heap.size/\qr W w.heap.size/\Below w.heap.size w W:=by
  intro W h;have hbW:=hb0.trans (h.mono (by omega));refine ⟨zK (c0.below hbW (zD (c0 0 (by simp)))),(hbW.cell (p:=⟨n1,0,none⟩) (zD c1)).trans c1,jd (c2.below hbW (zD (c2 0 (by simp)))),hu.trans ((Below.keptC hbW).mono hB),by have:=hbW.size;omega,(h.block _ (by omega)).trans z0,hbW⟩
 have hpt:zY B u (.iface 83 (.agg #[.int .i64 o0, .string tx, .slice s0 m0 k0, .slice s1 m1 k1, .slice s2 m2 k2])) (.proc t):=⟨_,rfl,hat⟩;have hpe:zY B u (.iface 88 (.agg #[.int .i64 e0, .int .i64 e1, .string e2, .slice e3 e4 e5])) (.exp e):=⟨_,rfl,hae⟩;have HW:=ZH hW0;have HZ:=ZH hz;obtain ⟨q0,q1,q2,q3,q4,q5,q6⟩:=hrd W0 (ZF _ _);obtain ⟨a0,a1,a2,a3,a4⟩:=q0;have hm1:=xz B u _ _ W0 q3 q4 hf hpt;rw [hW0] at a0 a1 a2 a3 a4;have HR:=ZH hR;have HC0:=ZH c0;have HC2:=ZH c2;have HA:=ZH hat;have HE:=ZH hae;clear hW0 hz hR c0 c2 hat hae;go_enter Tryz.func83,Tryz.ntmps83;go_wp2_with fail;rw [<-HW.out];refine hm1.mono ?_;clear hm1;rintro e' w1 ⟨rfl,hb1⟩;obtain ⟨⟨b0',b1',b2',b3',b4'⟩,g1,⟨g2,g3,g4,g5⟩,hu1,hB1,zz1,hbw1⟩:=hrd w1 hb1;go_wp2_with fail;refine (zhK x w1 hxz hx).mono ?_;rintro e' w2 ⟨rfl,hb2⟩;have hb2:=hb1.trans (hb2.mono hb1.size);clear a0 a1 a2 a3 a4 q1 q2 b0' b1' b2' b3' b4' g1 g2 g3 g4 g5;obtain ⟨⟨b0',b1',b2',b3',b4'⟩,g1,⟨g2,g3,g4,g5⟩,hu2,hB2,zz2,hbw2⟩:=hrd w2 hb2;go_wp2_with fail;refine (xz B u _ _ w2 hu2 hB2 hfe hpe).mono ?_;rintro e' w3 ⟨rfl,hb3⟩;have hb3:=hb2.trans (hb3.mono hb2.size);clear b0' b1' b2' b3' b4' g1 g2 g3 g4 g5;obtain ⟨⟨b0',b1',b2',b3',b4'⟩,g1,⟨g2,g3,g4,g5⟩,hu3,hB3,zz3,hbw3⟩:=hrd w3 hb3;go_wp2_with fail;refine ((callsIn_wide (n:=6)).1 (zeD 6 B (by omega) u _ _ w3 hu3 hB3 hf.allSmall hf.allBind (by have:=hf.1;omega) hpt)).mono ?_;rintro e' w4 ⟨bu,rfl,hbu,hs4,hb34⟩;have hb4:=hb3.trans (hb34.mono hb3.size);clear b0' b1' b2' b3' b4' g1 g2 g3 g4 g5;obtain ⟨⟨b0',b1',b2',b3',b4'⟩,g1,⟨g2,g3,g4,g5⟩,hu4,hB4,zz4,hbw4⟩:=hrd w4 hb4;have hbuz:W0.heap.size<=bu:=by have:=hb3.size;omega
 go_wp2_with fail;refine ((callsIn_wide (n:=6)).1 (zeD 6 B (by omega) u _ _ w4 hu4 hB4 hfe.allSmall hfe.allBind (by have:=hfe.1;omega) hpe)).mono ?_;rintro e' w5 ⟨b2,rfl,hb2z,hs5,hb45⟩;have hs4':=hs4.later hb45;have hcp:=hs4'.copy hs5 (by have:=hs4.lt;omega) (by unfold maxLen;omega);have hb5:=hb4.trans (hb45.mono hb4.size);clear b0' b1' b2' b3' b4' g1 g2 g3 g4 g5;go_wp2_with fail;refine hcp.mono ?_;clear hcp;rintro e' w6 ⟨rfl,hs6,hg6⟩;have hb6:Below W0.heap.size W0 w6:=hb5.grown hg6 hb5.size (fun r e=> by have:=ZJ e;omega);obtain ⟨⟨b0',b1',b2',b3',b4'⟩,g1,⟨g2,g3,g4,g5⟩,hu6,hB6,zz6,hbw6⟩:=hrd w6 hb6;obtain ⟨w7,r7,s7,g7⟩:=hs6.put (by unfold maxLen;omega) hxz;have hb7:Below W0.heap.size W0 w7:=hb6.grown g7 hb6.size (fun r e=> by have:=ZJ e;omega);obtain ⟨⟨d0',d1',d2',d3',d4'⟩,f1,⟨f2,f3,f4,f5⟩,hu7,hB7,zz7,hbw7⟩:=hrd w7 hb7;have hBu:∀r,some bu=some r->B<=r:=fun r e=> by have:=ZJ e;have:=HZ.out;omega
 have hcpy:=zat (B:=B) (u:=u) (m:=some bu) (b:= .putting x e) hBu (by simp) t hf (.iface 118 (.agg #[.map (some bu), .string x, .int .i64 e0, .int .i64 e1, .string e2, .slice e3 e4 e5])) w7
  ⟨hxz,⟨hfe.1,hfe.allSmall,hfe.allBind,hpl⟩,_,_,_,_,_,_,rfl,HE.out⟩ hu7 hB7 (xy t x e) 0 _ HA.out ⟨⟨200000000 + 200000000 + 1,by omega,fun b' hb'=> by obtain rfl:=ZJ hb';exact s7⟩,kc,by omega,hcov⟩
 rw [<-HR.out] at hcpy;go_wp2_with fail;refine hcpy.mono ?_;clear hcpy;intro e' w8 hh;obtain ⟨cs',rfl,ht8,_,hg8⟩:=hh;obtain ⟨a1,a2,a3,a4,a5,a6,a7,a8,a9,a10,a11,rfl⟩:=zz ht8;have hb8:Below W0.heap.size W0 w8:=hb7.grown hg8 hb7.size (fun r e=> by have:=ZJ e;omega);have hal:Below w8.heap.size w8 (w8.alloc (.cells #[.int .i64 a1, .string a2, .slice a3 a4 a5, .slice a6 a7 a8, .slice a9 a10 a11] 33)):=ZQ w8 _;have hfit:=ziB w8.heap.size w8 y.1 [.int .i64 a1, .string a2, .slice a3 a4 a5, .slice a6 a7 a8, .slice a9 a10 a11] (w8.alloc (.cells #[.int .i64 a1, .string a2, .slice a3 a4 a5, .slice a6 a7 a8, .slice a9 a10 a11] 33)) (Below.keptC hal) (by simp) hfy (ze.keep (q9 _ _ _) (ZL _) _ _ ht8);have hb9:Below W0.heap.size W0 (w8.alloc (.cells #[.int .i64 a1, .string a2, .slice a3 a4 a5, .slice a6 a7 a8, .slice a9 a10 a11] 33)):=hb8.trans (hal.mono hb8.size);clear b0' b1' b2' b3' b4' g1 g2 g3 g4 g5 d0' d1' d2' d3' d4' f1 f2 f3 f4 f5;go_wp2_with fail;refine hfit.mono ?_;clear hfit;rintro e' w9 ⟨rfl,hb89⟩;have hbA:=hb9.trans (hb89.mono (by rw [World.size_alloc];have:=hb8.size;omega));obtain ⟨_,_,_,_,_,zz9,hbw9⟩:=hrd w9 hbA;exact ⟨rfl,rfl,hbw9⟩
def putR (t:Term) (x:ByteArray) (e:Exp):Option (Term×Used):=yl ⟨.putting x e, [jp]⟩ (xy t x e) t
def putOut:Option (Term×Used)->Int
 | none=> 7
 | some y=> if zL (.proc y.1) then 0 else 3
def putCode (t:Term) (x:ByteArray) (e:Exp):Int:=if zL (.proc t) && qn x && zL (.exp e) then putOut (putR t x e) else 2
def PutAt (t:Term) (x:ByteArray) (e:Exp) (cs:List Value) (w:World):Prop:=
 (putCode t x e=0/\zL (.proc t)=true/\zL (.exp e)=true/\∃y,putR t x e=some y/\zL (.proc y.1)=true/\ze w.heap.size w cs y.1)∨(putCode t x e≠0/\cs=zgy)
theorem pput_any (t:Term) (x:ByteArray) (e:Exp) (hxz:x.size<=maxLen) (B:Nat) (u w:World) (cs es:List Value) (hu:zh B u w) (hB:B<=w.heap.size) (hat:ze B u cs t) (hae:zy B u es e):
  Calls Tryz.prog 33 #[.agg cs.toArray, .string x, .agg es.toArray] w fun e' w'=> ∃cs',e'= .returned (.tuple #[.agg cs'.toArray, .int .i64 (putCode t x e)])/\Hid (PutAt t x e cs' w')/\cs'.length=5/\Below w.heap.size w w':=by
 by_cases hgood:zT (.proc t)/\qn x=true/\zT (.exp e)
 ·obtain ⟨hf,hx,hfe⟩:=hgood
  have hcode:putCode t x e=putOut (putR t x e):=by unfold putCode;rw [qI.1 hf,hx,qI.1 hfe];rfl
  have hpl:=(zni e (xg hfe)).2;have hcov:=cov_used t x e hf.1 (xg hf) hfe.1;have hbc:=zed t 0 (xg hf);have hz:(qL 0 t).length<=60:=hf.1;cases hR:putR t x e with
  | none=>
   rw [hR] at hcode;obtain ⟨o0,tx,s0,m0,k0,s1,m1,k1,s2,m2,k2,rfl⟩:=zz hat;obtain ⟨e0,e1,e2,e3,e4,e5,rfl⟩:=qG hae;refine (put_up o0 tx s0 m0 k0 s1 m1 k1 s2 m2 k2 x e0 e1 e2 e3 e4 e5 w 7 (fun WC hb a1 a2 a3=> (zlJ B u t x e hf hfe hx hxz hpl _ _ hat hae WC (hu.trans ((Below.keptC hb).mono hB)) (by have:=hb.size;omega) _ _ _ a1 a2 a3 none hR.symm (fun y hy=> by cases hy) 1000 hcov (by omega)).mono (fun _ _ h=> h))).mono ?_;rintro e' w' ⟨h1,h2⟩;rw [hcode];exact ⟨zgy,h1,ZH (.inr ⟨by rw [hcode];decide,rfl⟩),rfl,h2⟩
  | some y=>
   rw [hR] at hcode;cases hy:zL (.proc y.1) with
   | true=>
    have hcode':putCode t x e=0:=by rw [hcode];unfold putOut;simp only;rw [hy];rfl
    refine (zih B u t x e hf hfe hx hxz hpl cs es hat hae w hu hB (some y) hR.symm (fun z hz=> by cases hz;exact qI.2 hy) 1000 hcov (by omega)).mono ?_;rintro e' w' ⟨cs',h1,h2,h3,h4⟩;rw [hcode'];exact ⟨cs',h1,ZH (.inl ⟨hcode',qI.1 hf,qI.1 hfe,y,hR,hy,h3 y rfl⟩),h2,h4⟩
   | false=>
    have hcode':putCode t x e=3:=by rw [hcode];unfold putOut;simp only;rw [hy];rfl
    obtain ⟨o0,tx,s0,m0,k0,s1,m1,k1,s2,m2,k2,rfl⟩:=zz hat;obtain ⟨e0,e1,e2,e3,e4,e5,rfl⟩:=qG hae;refine (put_up o0 tx s0 m0 k0 s1 m1 k1 s2 m2 k2 x e0 e1 e2 e3 e4 e5 w 3 (fun WC hb a1 a2 a3=> put_work_long B u t x e hf hfe hx hxz hpl _ _ hat hae WC (hu.trans ((Below.keptC hb).mono hB)) (by have:=hb.size;omega) _ _ _ a1 a2 a3 y hR.symm (fun h=> by rw [qI.1 h] at hy;cases hy) 1000 hcov (by omega))).mono ?_;rintro e' w' ⟨h1,h2⟩;rw [hcode'];exact ⟨zgy,h1,ZH (.inr ⟨by rw [hcode'];decide,rfl⟩),rfl,h2⟩
 ·have hcode:putCode t x e=2:=by
   unfold putCode;rw [if_neg];intro h;rw [Bool.and_eq_true,Bool.and_eq_true] at h;exact hgood ⟨qI.2 h.1.1,h.1.2,qI.2 h.2⟩
  obtain ⟨o0,tx,s0,m0,k0,s1,m1,k1,s2,m2,k2,rfl⟩:=zz hat;obtain ⟨e0,e1,e2,e3,e4,e5,rfl⟩:=qG hae;refine (put_up o0 tx s0 m0 k0 s1 m1 k1 s2 m2 k2 x e0 e1 e2 e3 e4 e5 w 2 (fun WC hb a1 a2 a3=> put_work_no B u t x e hgood hxz _ _ hat hae WC (hu.trans ((Below.keptC hb).mono hB)) (by have:=hb.size;omega) _ _ _ a1 a2 a3)).mono ?_;rintro e' w' ⟨h1,h2⟩;rw [hcode];exact ⟨zgy,h1,ZH (.inr ⟨by rw [hcode];decide,rfl⟩),rfl,h2⟩
end
section
open Go.RowKit Go.Shelf Go.Maps
def qw:List Term->Term
 | []=> .mk 1 ByteArray.empty [] [] []
 | [t]=> t
 | t::u::l=> .mk 3 ByteArray.empty [] [] [t,qw (u::l)]
mutual
def layT:Term->Term
 | .mk op t a d k=> qw (zG (.mk op t a (zQ d) (qh k)))
def layC:zg->zg
 | .mk f t j d k=> .mk f t j (zQ d) (qh k)
def qh:List Term->List Term
 | []=> []
 | a::l=> layT a::qh l
def zQ:List zg->List zg
 | []=> []
 | a::l=> layC a::zQ l
end
theorem zac:∀l,qh l=l.map layT
 | []=> rfl
 | a::l=> by rw [qh,zac l];rfl
theorem jC:∀l,zQ l=l.map layC
 | []=> rfl
 | a::l=> by rw [zQ,jC l];rfl
def zmf:Term->Int | .mk op _ _ _ _=> op
def zcn (t:Term):Prop:=zmf t≠1/\zmf t≠3
theorem zbZ {t:Term} (h:zcn t):zG t= [t]:=by
 obtain ⟨op,tx,a,d,k⟩:=t;rw [zG,if_neg (show ¬op=1 from h.1),if_neg (show ¬op=3 from h.2)]
mutual
theorem zc8:∀(t:Term),∀a∈zG t,zcn a
 | .mk op t a d k,x,hx=> by
  rw [zG] at hx;by_cases h1:op=1
  ·rw [if_pos h1] at hx;simp at hx
  ·rw [if_neg h1] at hx
   by_cases h3:op=3
   ·rw [if_pos h3] at hx;exact zej k x hx
   ·rw [if_neg h3] at hx
    rw [List.mem_singleton.1 hx];exact ⟨h1,h3⟩
theorem zej:∀(l:List Term),∀a∈qO l,zcn a
 | [],x,hx=> by simp [qO] at hx
 | t::l,x,hx=> by
  rw [qO] at hx;rcases List.mem_append.1 hx with hx | hx
  ·exact zc8 t x hx
  ·exact zej l x hx
end
theorem zeC:∀l:List Term,(∀a∈l,zcn a)->zG (qw l)=l
 | [],_=> rfl
 | [t],h=> zbZ (h t (by simp))
 | t::u::l,h=> by
  rw [qw,zG,if_neg (by decide),if_pos rfl,qO,qO,qO,List.append_nil,zbZ (h t (by simp)),zeC (u::l) (fun a ha=> h a (by simp at ha ⊢;exact .inr ha))]
  rfl
abbrev ye (t:Term):Prop:=NdP (fun q=> q.shaped=true) (.proc t)
abbrev jQ (c:zg):Prop:=NdP (fun q=> q.shaped=true) (.def_ c)
theorem zi7 {op:Int} {t:ByteArray} {a:List Exp} {d:List zg} {k:List Term} (h:ye (.mk op t a d k)):
  (op=1/\t=ByteArray.empty/\a= []/\d= []/\k= [])∨(op=3/\t=ByteArray.empty/\a= []/\d= []/\∃k1 k2,k= [k1,k2]/\ye k1/\ye k2)∨(op≠1/\op≠3):=by
 have h1:=h.self;by_cases ho:op=1
 ·subst ho
  simp [Part.shaped,yg] at h1;exact .inl ⟨rfl,by first | exact h1.1.1.1 | exact xd h1.1.1.1,h1.1.1.2,h1.1.2,h1.2⟩
 ·by_cases h3:op=3
  ·subst h3
   simp [Part.shaped,yg] at h1;obtain ⟨⟨⟨a1,a2⟩,a3⟩,a4⟩:=h1
   match k,a4 with
   | [x,y],_=> exact .inr (.inl ⟨rfl,by first | exact a1 | exact xd a1,a2,a3,x,y,rfl,h.part (qV (by simp)),h.part (qV (by simp))⟩)
  ·exact .inr (.inr ⟨ho,h3⟩)
theorem zfG {op:Int} {t:ByteArray} {a:List Exp} {d:List zg} {k:List Term} (h1:op≠1) (h3:op≠3):layT (.mk op t a d k)= .mk op t a (zQ d) (qh k):=by
 rw [layT,zG,if_neg h1,if_neg h3,qw]
theorem zmt (k1 k2:Term):layT (.mk 3 ByteArray.empty [] [] [k1,k2])=qw (zG (layT k1) ++ zG (layT k2)):=by
 rw [layT,zG,if_neg (by decide),if_pos rfl,qh,qh,qh,qO,qO,qO,List.append_nil]
theorem zne {A B:List Term} (hA:∀a∈A,zcn a) (hB:∀a∈B,zcn a):∀a∈A ++ B,zcn a:=fun a ha=> (List.mem_append.1 ha).elim (hA a) (hB a)
def szT (t:Term):Nat:=(qL 0 t).length
theorem zmv (lev:Nat) (t:Term):(qL lev t).length=szT t:=yP lev 0 (.proc t)
def szC (t:zg):Nat:=(qF 0 t).length
theorem zmu (lev:Nat) (t:zg):(qF lev t).length=szC t:=yP lev 0 (.def_ t)
def szTs:List Term->Nat
 | []=> 0
 | a::l=> szT a + szTs l
def szCs:List zg->Nat
 | []=> 0
 | a::l=> szC a + szCs l
theorem zd2 (lev:Nat):∀l,(yj lev l).length=szTs l
 | []=> rfl
 | a::l=> by rw [yj,List.length_append,zmv,zd2 lev l,szTs]
theorem zbu (lev:Nat):∀l,(qu lev l).length=szCs l
 | []=> rfl
 | a::l=> by rw [qu,List.length_append,zmu,zbu lev l,szCs]
theorem zb3:∀a b,szTs (a ++ b)=szTs a + szTs b
 | [],b=> by simp [szTs]
 | x::a,b=> by rw [List.cons_append,szTs,szTs,zb3 a b];omega
theorem zbv (o:Int) (t:ByteArray) (a:List Exp) (d:List zg) (k:List Term):szT (.mk o t a d k)=1 + (yG 1 a).length + szCs d + szTs k:=by
 rw [szT,qL,List.length_cons,List.length_append,List.length_append,zbu,zd2];simp only [Nat.zero_add];omega
theorem zko (f:Int) (t:ByteArray) (j:List Msg) (d:List zg) (k:List Term):szC (.mk f t j d k)=1 + szCs d + szTs k:=by
 rw [szC,qF,List.length_cons,List.length_append,zbu,zd2];omega
theorem zgF:∀l:List Term,szT (qw l) + 1<=szTs l + l.length∨(l= []/\szT (qw l)=1)
 | []=> .inr ⟨rfl,rfl⟩
 | [t]=> .inl (by rw [qw,szTs,szTs];simp)
 | t::u::l=> .inl (by
  rw [qw,zbv];rcases zgF (u::l) with h | h
  ·simp only [szTs,szCs,yG,List.length_cons,List.length_nil] at h ⊢;omega
  ·cases h.1)
mutual
theorem zcW:∀t:Term,ye t->szT (layT t)<=szT t/\szTs (zG (layT t)) + (zG (layT t)).length<=szT t + 1
 | .mk op t a d ks,h=> by
  rcases zi7 h with ⟨rfl,rfl,rfl,rfl,rfl⟩ | ⟨rfl,rfl,rfl,rfl,k1,k2,rfl,h1,h2⟩ | ⟨h1,h3⟩
  ·have e:layT (.mk 1 ByteArray.empty [] [] [])= .mk 1 ByteArray.empty [] [] []:=rfl
   rw [e];exact ⟨ZL _,by simp [zG,szTs]⟩
  ·have i1:=(zcW k1 h1).2
   have i2:=(zcW k2 h2).2
   have e:szT (.mk 3 ByteArray.empty [] [] [k1,k2])=1 + szT k1 + szT k2:=by
    rw [zbv,szTs,szTs,szTs,szCs,yG];simp;omega
   have hj:=zgF (zG (layT k1) ++ zG (layT k2));rw [zmt,zeC _ (zne (zc8 _) (zc8 _)),e];rw [zb3,List.length_append] at hj;rw [zb3,List.length_append];refine ⟨?_,by omega⟩;rcases hj with hj | ⟨_,hj⟩
   ·omega
   ·rw [hj];omega
  ·have e:szT (layT (.mk op t a d ks))<=szT (.mk op t a d ks):=by
    have c1:=xF d (fun c hc=> h.part (yu hc));have c2:=zam ks (fun c hc=> h.part (qV hc));rw [zfG h1 h3,zbv,zbv];omega
   refine ⟨e,?_⟩;have e4:zG (layT (.mk op t a d ks))= [layT (.mk op t a d ks)]:=by rw [zfG h1 h3];exact zbZ ⟨h1,h3⟩
   rw [e4,szTs,szTs];simp only [List.length_cons,List.length_nil];omega
theorem zam:∀l:List Term,(∀c∈l,ye c)->szTs (qh l)<=szTs l
 | [],_=> by rw [qh];exact ZL _
 | a::l,h=> by
  have h1:=(zcW a (h a (by simp))).1;have h2:=zam l (fun x hx=> h x (by simp [hx]));rw [qh,szTs,szTs];omega
theorem zjI:∀t:zg,jQ t->szC (layC t)<=szC t
 | .mk f t j d ks,h=> by
  have c1:=xF d (fun c hc=> h.part (ji hc));have c2:=zam ks (fun c hc=> h.part (jl hc));rw [layC,zko,zko];omega
theorem xF:∀l:List zg,(∀c∈l,jQ c)->szCs (zQ l)<=szCs l
 | [],_=> by rw [zQ];exact ZL _
 | a::l,h=> by
  have h1:=zjI a (h a (by simp));have h2:=xF l (fun x hx=> h x (by simp [hx]));rw [zQ,szCs,szCs];omega
end
theorem NdP.of_parts {P:Part->Prop} {p:Part} (h:P p) (hq:∀q∈p.parts,NdP P q):NdP P p:=by
 intro x hx;rw [zv,List.map_cons] at hx;rcases List.mem_cons.1 hx with rfl | hx
 ·exact h
 ·obtain ⟨y,hy,rfl⟩:=List.mem_map.1 hx
  obtain ⟨q,hq1,hq2⟩:=List.mem_flatMap.1 hy;refine hq q hq1 y.1 ?_;rw [qJ 0 (0 + 1)];exact List.mem_map.2 ⟨y,hq2,rfl⟩
theorem zlx:ye (.mk 1 ByteArray.empty [] [] []):=NdP.of_parts rfl (fun q hq=> by simp [Part.parts] at hq)
theorem zlY {k1 k2:Term} (h1:ye k1) (h2:ye k2):ye (.mk 3 ByteArray.empty [] [] [k1,k2]):=
 NdP.of_parts rfl (fun q hq=> by
  simp [Part.parts] at hq;rcases hq with rfl | rfl
  ·exact h1
  ·exact h2)
theorem zfX:∀l:List Term,(∀a∈l,ye a)->ye (qw l)
 | [],_=> zlx
 | [t],h=> h t (by simp)
 | t::u::l,h=> zlY (h t (by simp)) (zfX (u::l) (fun a ha=> h a (by simp at ha ⊢;exact .inr ha)))
mutual
theorem zeX:∀t:Term,ye t->∀a∈zG t,ye a
 | .mk op t a d k,h,x,hx=> by
  rw [zG] at hx;by_cases h1:op=1
  ·rw [if_pos h1] at hx;simp at hx
  ·rw [if_neg h1] at hx
   by_cases h3:op=3
   ·rw [if_pos h3] at hx;exact zdr k (fun c hc=> h.part (qV hc)) x hx
   ·rw [if_neg h3] at hx
    rw [List.mem_singleton.1 hx];exact h
theorem zdr:∀l:List Term,(∀c∈l,ye c)->∀a∈qO l,ye a
 | [],_,x,hx=> by simp [qO] at hx
 | t::l,h,x,hx=> by
  rw [qO] at hx;rcases List.mem_append.1 hx with hx | hx
  ·exact zeX t (h t (by simp)) x hx
  ·exact zdr l (fun c hc=> h c (by simp [hc])) x hx
end
theorem ze0 {op:Int} {t:ByteArray} {a:List Exp} {d:List zg} {k:List Term} (h:(Part.proc (.mk op t a d k)).shaped=true):(Part.proc (.mk op t a (zQ d) (qh k))).shaped=true:=by
 rw [jC,zac];simpa [Part.shaped,yg] using h
theorem zdF {f:Int} {t:ByteArray} {j:List Msg} {d:List zg} {k:List Term} (h:(Part.def_ (.mk f t j d k)).shaped=true):(Part.def_ (.mk f t j (zQ d) (qh k))).shaped=true:=by
 rw [jC,zac];simpa [Part.shaped,yB] using h
mutual
theorem zkN:∀t:Term,ye t->ye (layT t)
 | .mk op t a d k,h=> by
  rw [layT];exact zfX _ (zeX _ (zf4 op t a d k h (zbd d (fun c hc=> h.part (yu hc))) (zbf k (fun c hc=> h.part (qV hc)))))
theorem zbf:∀l:List Term,(∀c∈l,ye c)->∀c∈qh l,ye c
 | [],_,x,hx=> by simp [qh] at hx
 | t::l,h,x,hx=> by
  rw [qh] at hx;rcases List.mem_cons.1 hx with rfl | hx
  ·exact zkN t (h t (by simp))
  ·exact zbf l (fun c hc=> h c (by simp [hc])) x hx
theorem zkf:∀t:zg,jQ t->jQ (layC t)
 | .mk f t j d k,h=> by
  rw [layC];exact ziX f t j d k h (zbd d (fun c hc=> h.part (ji hc))) (zbf k (fun c hc=> h.part (jl hc)))
theorem zbd:∀l:List zg,(∀c∈l,jQ c)->∀c∈zQ l,jQ c
 | [],_,x,hx=> by simp [zQ] at hx
 | t::l,h,x,hx=> by
  rw [zQ] at hx;rcases List.mem_cons.1 hx with rfl | hx
  ·exact zkf t (h t (by simp))
  ·exact zbd l (fun c hc=> h c (by simp [hc])) x hx
theorem zf4:∀(op:Int) (t:ByteArray) (a:List Exp) (d:List zg) (k:List Term),ye (.mk op t a d k)->(∀c∈zQ d,jQ c)->(∀c∈qh k,ye c)->ye (.mk op t a (zQ d) (qh k))
 | op,t,a,d,k,h,h1,h2=> NdP.of_parts (ze0 h.self) (fun q hq=> by
  rw [Part.parts] at hq;rcases List.mem_append.1 hq with hq | hq
  ·rcases List.mem_append.1 hq with hq | hq
   ·obtain ⟨e,he,rfl⟩:=List.mem_map.1 hq
    exact h.part (zda he)
   ·obtain ⟨e,he,rfl⟩:=List.mem_map.1 hq
    exact h1 e he
  ·obtain ⟨e,he,rfl⟩:=List.mem_map.1 hq
   exact h2 e he)
theorem ziX:∀(f:Int) (t:ByteArray) (j:List Msg) (d:List zg) (k:List Term),jQ (.mk f t j d k)->(∀c∈zQ d,jQ c)->(∀c∈qh k,ye c)->jQ (.mk f t j (zQ d) (qh k))
 | f,t,j,d,k,h,h1,h2=> NdP.of_parts (zdF h.self) (fun q hq=> by
  rw [Part.parts] at hq;rcases List.mem_append.1 hq with hq | hq
  ·obtain ⟨e,he,rfl⟩:=List.mem_map.1 hq
   exact h1 e he
  ·obtain ⟨e,he,rfl⟩:=List.mem_map.1 hq
   exact h2 e he)
end
structure qN (v:Env):Prop where
 base:v.base= .outside
 frames:∀f∈v.frames,∀x n,f x=some n->n=mkB x
theorem qN.becomes {v:Env} (h:qN v) (x:ByteArray):v.becomes x=yq x:=by
 unfold Env.becomes;rw [h.base]
 have:∀fs:List Frame,(∀f∈fs,∀x n,f x=some n->n=mkB x)->yC .outside x fs=yq x:=by
  intro fs
  induction fs with
  | nil=> intro _;rfl
  | cons f fs ih=>
   intro hf;rw [yC];cases hx:f (zb x) with
   | some n=> rw [hf f (by simp) _ _ hx,zcL]
   | none=> exact ih (fun g hg=> hf g (by simp [hg]))
 exact this _ h.frames
theorem qN.text {v:Env} (h:qN v) (x:ByteArray):yS v x=some x:=by
 unfold yS
 split
 ·rfl
 ·rw [h.becomes];rfl
theorem qN.texts {v:Env} (h:qN v):∀l,zbr v l=some l
 | []=> rfl
 | a::l=> by rw [zbr,h.text,h.texts l]
theorem qN.msgs {v i:Env} (h:qN v) (hi:qN i):∀l,zau v i l=some l
 | []=> rfl
 | a::l=> by rw [zau,msgM,h.text,hi.texts,qN.msgs h hi l]
theorem qN.inside {v:Env} (h:qN v) (U:Used) (p:Part):qN (inside v U p).1/\(inside v U p).2=U:=by
 unfold Go.Proofs.YtjmlaeofjjhfmaaGreat.inside
 split
 ·exact ⟨h,rfl⟩
 ·have e:v.base.renames v p= []:=by rw [h.base];rfl
  rw [e];simp only [List.foldl_nil];refine ⟨⟨h.base,fun f hf x n hn=> ?_⟩,trivial⟩;rcases List.mem_cons.1 hf with rfl | hf
  ·rw [zfU] at hn
   split at hn
   ·cases hn;rfl
   ·cases hn
  ·exact h.frames f hf x n hn
mutual
theorem qN.exp {v:Env} (h:qN v):∀e,xr e=true->zeS v e=e
 | .mk op n t k,hp=> by
  rw [xr,Bool.and_eq_true] at hp;rw [zeS];by_cases ho:op=2
  ·subst ho
   have hp1:=hp.1;simp at hp1;rw [if_pos rfl,h.becomes,yq,hp1.1,hp1.2]
  ·rw [if_neg ho,qN.exps h k hp.2]
theorem qN.exps {v:Env} (h:qN v):∀l,xK l=true->jM v l=l
 | [],_=> rfl
 | a::l,hp=> by
  rw [xK,Bool.and_eq_true] at hp;rw [jM,qN.exp h a hp.1,qN.exps h l hp.2]
end
mutual
theorem qN.clause:∀(c:zg) {v:Env} (_:qN v) (U:Used),jQ c->xJ v U c=some (c,U)
 | .mk f t j d k,v,h,U,hf=> by
  obtain ⟨hi,hu⟩:=h.inside U (.def_ (.mk f t j d k));rw [xJ];simp only [h.text,h.msgs hi,hu,qN.clauses d hi U (fun c hc=> hf.part (ji hc)),qN.terms k hi U (fun c hc=> hf.part (jl hc))]
theorem qN.clauses:∀(l:List zg) {v:Env} (_:qN v) (U:Used),(∀c∈l,jQ c)->jx v U l=some (l,U)
 | [],v,h,U,_=> rfl
 | a::l,v,h,U,hf=> by
  rw [jx,qN.clause a h U (hf a (by simp))];simp only;rw [qN.clauses l h U (fun x hx=> hf x (by simp [hx]))]
theorem qN.term:∀(c:Term) {v:Env} (_:qN v) (U:Used),ye c->yl v U c=some (c,U)
 | .mk o t a d k,v,h,U,hf=> by
  obtain ⟨hi,hu⟩:=h.inside U (.proc (.mk o t a d k));have hpl:=(zfj a (fun c hc=> hf.part (zda hc))).2;rw [yl];simp only [h.text,hi.exps a hpl,hu,qN.clauses d hi U (fun c hc=> hf.part (yu hc)),qN.terms k hi U (fun c hc=> hf.part (qV hc))]
theorem qN.terms:∀(l:List Term) {v:Env} (_:qN v) (U:Used),(∀c∈l,ye c)->ju v U l=some (l,U)
 | [],v,h,U,_=> rfl
 | a::l,v,h,U,hf=> by
  rw [ju,qN.term a h U (hf a (by simp))];simp only;rw [qN.terms l h U (fun x hx=> hf x (by simp [hx]))]
end
theorem zav {t:Term} (h:zT (.proc t)):ye t:=xg h
end
end Go.Proofs.YtjmlaeofjjhfmaaGreat
