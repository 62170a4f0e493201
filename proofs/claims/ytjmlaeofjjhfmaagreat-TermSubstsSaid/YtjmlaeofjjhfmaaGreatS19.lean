/- Lemmas. -/
import Derived.Test.YtjmlaeofjjhfmaaGreatS08
import Derived.Test.YtjmlaeofjjhfmaaGreatS18
import Derived.Deep.RegionHeld3
set_option linter.unusedVariables false
set_option linter.unusedSimpArgs false
set_option maxRecDepth 10000
set_option maxHeartbeats 16000000
namespace Go.Proofs.YtjmlaeofjjhfmaaGreat
section
open Go.RowKit Go.Shelf Go.Maps Go.WideMaps
theorem za5 (K:FuncId) (caps:Array Value) (c:Int) (w:World) (hK:∀args w,(callFunc K args).run Tryz.prog w= .ok (.enter K args) w)
  (hw:Calls Tryz.prog K caps ((w.alloc (.cells #[.int .i64 0, .string ⟨#[]⟩, .slice none 0 0, .slice none 0 0, .slice none 0 0] 33)).alloc (.cells #[.int .i64 0] 37)) fun e w'=> e= .panicked (yn c)/\Below (w.heap.size + 2) ((w.alloc (.cells #[.int .i64 0, .string ⟨#[]⟩, .slice none 0 0, .slice none 0 0, .slice none 0 0] 33)).alloc (.cells #[.int .i64 0] 37)) w'):
  Calls Tryz.prog 82 #[.func (.func K) #[] caps] w fun e w'=> e= .returned (.tuple #[.agg #[.int .i64 0, .string ⟨#[]⟩, .slice none 0 0, .slice none 0 0, .slice none 0 0], .int .i64 c])/\Below w.heap.size w w':=by
 have hmf:∀(fn:Fn) (first cap:Array Value) (w:World),(Instr.makeFunc fn first cap).run Tryz.prog w= .ok (.func fn first cap) w:=fun _ _ _ _=> rfl
 go_enter_defers Tryz.func82,Tryz.ntmps82
 go_wp2_with fail;refine hw.mono ?_;rintro e w1 ⟨rfl,hb⟩;have hbk:=hb.block w.heap.size (by omega);have hbk2:=hb.block (w.heap.size + 1) (by omega)
 have e1:((w.alloc (.cells #[.int .i64 0, .string ⟨#[]⟩, .slice none 0 0, .slice none 0 0, .slice none 0 0] 33)).alloc (.cells #[.int .i64 0] 37)).heap[w.heap.size]?=some (.cells #[.int .i64 0, .string ⟨#[]⟩, .slice none 0 0, .slice none 0 0, .slice none 0 0] 33):=by
  rw [ZO _ _ _ (by simp)];exact ZN w _
 have e2:((w.alloc (.cells #[.int .i64 0, .string ⟨#[]⟩, .slice none 0 0, .slice none 0 0, .slice none 0 0] 33)).alloc (.cells #[.int .i64 0] 37)).heap[w.heap.size + 1]?=some (.cells #[.int .i64 0] 37):=by
  have:=ZN (w.alloc (.cells #[.int .i64 0, .string ⟨#[]⟩, .slice none 0 0, .slice none 0 0, .slice none 0 0] 33)) (.cells #[.int .i64 0] 37);rwa [World.size_alloc] at this
 rw [e1] at hbk;rw [e2] at hbk2;have k0:w1.cell? ⟨w.heap.size,0,none⟩=some (.int .i64 0):=by simp [World.cell?,hbk]
 have k1:w1.cell? ⟨w.heap.size,1,none⟩=some (.string ⟨#[]⟩):=by simp [World.cell?,hbk]
 have k2:w1.cell? ⟨w.heap.size,2,none⟩=some (.slice none 0 0):=by simp [World.cell?,hbk]
 have k3:w1.cell? ⟨w.heap.size,3,none⟩=some (.slice none 0 0):=by simp [World.cell?,hbk]
 have k4:w1.cell? ⟨w.heap.size,4,none⟩=some (.slice none 0 0):=by simp [World.cell?,hbk]
 have k5:w1.cell? ⟨w.heap.size + 1,0,none⟩=some (.int .i64 0):=by simp [World.cell?,hbk2]
 have kf5:w1.frozen? ⟨w.heap.size + 1,0,none⟩=false:=by simp [World.frozen?,hbk2]
 have hBw:Below w.heap.size w w1:=((ZQ w _).alloc (by simp) _).trans (hb.mono (by omega));clear hbk hbk2 e1 e2;have HB:=ZH hb;clear hb;go_wp2;refine leaves_cons (f:=136) (args:=#[.pointer (some ⟨w.heap.size + 1,0,none⟩)]) (by simp) (by simp [go_sem]) ?_;refine (zkA _ _ c [] _ k5 rfl kf5).mono ?_;rintro e u' w'' ⟨rfl,rfl,rfl⟩;simp [Leaves,settle,results,Tryz.results82,go_sem,k0,k1,k2,k3,k4,k5];exact hBw.setCell (by simp) _
def xy (t:Term) (x:ByteArray) (e:Exp):Used:=fun k=> (xW (.proc t) k || xW (.exp e) k) || k==zb x
theorem Tryz.results83:Tryz.f83.results=#[.cell 3 33]:=by kernel_rfl
theorem Tryz.results33:Tryz.f33.results=#[.cell 6 33, .tmp 7]:=by kernel_rfl
def qr (w:World) (b:Nat):Prop:=w.heap[b]?=some (.cells #[.int .i64 0, .string ⟨#[]⟩, .slice none 0 0, .slice none 0 0, .slice none 0 0] 33)
theorem qr.cells {w:World} {b:Nat} (h:qr w b):w.cell? ⟨b,0,none⟩=some (.int .i64 0)/\w.cell? ⟨b,1,none⟩=some (.string ⟨#[]⟩)/\w.cell? ⟨b,2,none⟩=some (.slice none 0 0)/\w.cell? ⟨b,3,none⟩=some (.slice none 0 0)/\w.cell? ⟨b,4,none⟩=some (.slice none 0 0)/\∀o,w.frozen? ⟨b,o,none⟩=false:=by
 unfold qr at h;exact ⟨by simp [World.cell?,h],by simp [World.cell?,h],by simp [World.cell?,h],by simp [World.cell?,h],by simp [World.cell?,h],fun o=> by simp [World.frozen?,h]⟩
theorem set5 {n:Nat} {w w1:World} (hb:Below n w w1) (b:Nat) (h:n<=b) (v0 v1 v2 v3 v4:Value):Below n w (((((w1.setCell ⟨b,0,none⟩ v0).setCell ⟨b,1,none⟩ v1).setCell ⟨b,2,none⟩ v2).setCell ⟨b,3,none⟩ v3).setCell ⟨b,4,none⟩ v4):=
 ((((hb.setCell (show n<=(⟨b,0,none⟩:Addr).block from h) _).setCell (show n<=(⟨b,1,none⟩:Addr).block from h) _).setCell (show n<=(⟨b,2,none⟩:Addr).block from h) _).setCell (show n<=(⟨b,3,none⟩:Addr).block from h) _).setCell (show n<=(⟨b,4,none⟩:Addr).block from h) _
theorem xo {A:Nat} {w w1:World} (hb:qj A w w1) (b:Nat) (h:b < A) (v0 v1 v2 v3 v4:Value):qj A w (((((w1.setCell ⟨b,0,none⟩ v0).setCell ⟨b,1,none⟩ v1).setCell ⟨b,2,none⟩ v2).setCell ⟨b,3,none⟩ v3).setCell ⟨b,4,none⟩ v4):=
 ((((hb.set ⟨b,0,none⟩ v0 h).set ⟨b,1,none⟩ v1 h).set ⟨b,2,none⟩ v2 h).set ⟨b,3,none⟩ v3 h).set ⟨b,4,none⟩ v4 h
theorem zlJ (B:Nat) (u:World) (t:Term) (x:ByteArray) (e:Exp) (hf:zT (.proc t)) (hfe:zT (.exp e)) (hx:qn x=true) (hxz:x.size<=maxLen) (hpl:xr e=true) (cs es:List Value) (hat:ze B u cs t) (hae:zy B u es e)
  (w:World) (hu:zh B u w) (hB:B<=w.heap.size) (n0 n1 n2:Nat) (c0:zI w n0 0 cs) (c1:w.cell? ⟨n1,0,none⟩=some (.string x)) (c2:zI w n2 0 es)
  (R:Option (Term×Used)) (hR:R=yl ⟨.putting x e, [jp]⟩ (xy t x e) t) (hok:∀y,R=some y->zT (.proc y.1)) (kc:Nat) (hcov:Cov (xy t x e) kc) (hkc:kc + bcT t<=4900):
  Calls Tryz.prog 83 #[.pointer (some ⟨n0,0,none⟩), .pointer (some ⟨n1,0,none⟩), .pointer (some ⟨n2,0,none⟩)] w fun e' w'=> OutE R e' (Below w.heap.size w w') fun y=> ∃cs',e'= .returned (.agg cs'.toArray)/\ze w'.heap.size (blank w.heap.size w') cs' y.1/\Below w.heap.size w w':=by
 obtain ⟨o0,o1,tx,s0,m0,k0,s1,m1,k1,s2,m2,k2,rfl⟩:∃(o0:Int) (o1:Unit) (tx:ByteArray) (s0:Option Addr) (m0 k0:Nat) (s1:Option Addr) (m1 k1:Nat) (s2:Option Addr) (m2 k2:Nat),cs= [.int .i64 o0, .string tx, .slice s0 m0 k0, .slice s1 m1 k1, .slice s2 m2 k2]:=by
  obtain ⟨a1,a2,a3,a4,a5,a6,a7,a8,a9,a10,a11,h⟩:=zz hat;exact ⟨a1,(),a2,a3,a4,a5,a6,a7,a8,a9,a10,a11,h⟩
 obtain ⟨e0,e1,e2,e3,e4,e5,rfl⟩:=qG hae;obtain ⟨W0,hW0⟩:∃W0,W0=w.alloc (.cells #[.int .i64 0, .string ⟨#[]⟩, .slice none 0 0, .slice none 0 0, .slice none 0 0] 33):=⟨_,rfl⟩;have hb0:Below w.heap.size w W0:=by rw [hW0];exact ZQ w _
 have hz:W0.heap.size=w.heap.size + 1:=by rw [hW0];simp
 have z0:qr W0 w.heap.size:=by unfold qr;rw [hW0];exact ZN w _
 have hrd:∀W,Below W0.heap.size W0 W->(W.cell? ⟨n0,0,none⟩=some (.int .i64 o0)/\W.cell? ⟨n0,1,none⟩=some (.string tx)/\W.cell? ⟨n0,2,none⟩=some (.slice s0 m0 k0)/\W.cell? ⟨n0,3,none⟩=some (.slice s1 m1 k1)/\W.cell? ⟨n0,4,none⟩=some (.slice s2 m2 k2))/\
   W.cell? ⟨n1,0,none⟩=some (.string x)/\(W.cell? ⟨n2,0,none⟩=some (.int .i64 e0)/\W.cell? ⟨n2,1,none⟩=some (.int .i64 e1)/\W.cell? ⟨n2,2,none⟩=some (.string e2)/\W.cell? ⟨n2,3,none⟩=some (.slice e3 e4 e5))/\zh B u W/\B<=W.heap.size/\qr W w.heap.size/\Below w.heap.size w W:=by
  intro W h;have hbW:=hb0.trans (h.mono (by omega));refine ⟨zK (c0.below hbW (zD (c0 0 (by simp)))),(hbW.cell (p:=⟨n1,0,none⟩) (zD c1)).trans c1,jd (c2.below hbW (zD (c2 0 (by simp)))),hu.trans ((Below.keptC hbW).mono hB),by have:=hbW.size;omega,(h.block _ (by omega)).trans z0,hbW⟩
 have hpt:zY B u (.iface 83 (.agg #[.int .i64 o0, .string tx, .slice s0 m0 k0, .slice s1 m1 k1, .slice s2 m2 k2])) (.proc t):=⟨_,rfl,hat⟩;have hpe:zY B u (.iface 88 (.agg #[.int .i64 e0, .int .i64 e1, .string e2, .slice e3 e4 e5])) (.exp e):=⟨_,rfl,hae⟩;have HW:=ZH hW0;have HZ:=ZH hz;obtain ⟨q0,q1,q2,q3,q4,q5,q6⟩:=hrd W0 (ZF _ _);obtain ⟨a0,a1,a2,a3,a4⟩:=q0;have hm1:=xz B u _ _ W0 q3 q4 hf hpt;rw [hW0] at a0 a1 a2 a3 a4;have HR:=ZH hR;have HC0:=ZH c0;have HC2:=ZH c2;have HA:=ZH hat;have HE:=ZH hae;clear hW0 hz hR c0 c2 hat hae;go_enter Tryz.func83,Tryz.ntmps83;go_wp2_with fail;rw [<-HW.out];refine hm1.mono ?_;clear hm1;rintro e' w1 ⟨rfl,hb1⟩;obtain ⟨⟨b0',b1',b2',b3',b4'⟩,g1,⟨g2,g3,g4,g5⟩,hu1,hB1,zz1,hbw1⟩:=hrd w1 hb1;go_wp2_with fail;refine (zhK x w1 hxz hx).mono ?_;rintro e' w2 ⟨rfl,hb2⟩;have hb2:=hb1.trans (hb2.mono hb1.size);clear a0 a1 a2 a3 a4 q1 q2 b0' b1' b2' b3' b4' g1 g2 g3 g4 g5;obtain ⟨⟨b0',b1',b2',b3',b4'⟩,g1,⟨g2,g3,g4,g5⟩,hu2,hB2,zz2,hbw2⟩:=hrd w2 hb2;go_wp2_with fail;refine (xz B u _ _ w2 hu2 hB2 hfe hpe).mono ?_;rintro e' w3 ⟨rfl,hb3⟩;have hb3:=hb2.trans (hb3.mono hb2.size);clear b0' b1' b2' b3' b4' g1 g2 g3 g4 g5;obtain ⟨⟨b0',b1',b2',b3',b4'⟩,g1,⟨g2,g3,g4,g5⟩,hu3,hB3,zz3,hbw3⟩:=hrd w3 hb3;go_wp2_with fail;refine ((callsIn_wide (n:=6)).1 (zeD 6 B (by omega) u _ _ w3 hu3 hB3 hf.allSmall hf.allBind (by have:=hf.1;omega) hpt)).mono ?_;rintro e' w4 ⟨bu,rfl,hbu,hs4,hb34⟩;have hb4:=hb3.trans (hb34.mono hb3.size);clear b0' b1' b2' b3' b4' g1 g2 g3 g4 g5;obtain ⟨⟨b0',b1',b2',b3',b4'⟩,g1,⟨g2,g3,g4,g5⟩,hu4,hB4,zz4,hbw4⟩:=hrd w4 hb4;have hbuz:W0.heap.size<=bu:=by have:=hb3.size;omega
 go_wp2_with fail;refine ((callsIn_wide (n:=6)).1 (zeD 6 B (by omega) u _ _ w4 hu4 hB4 hfe.allSmall hfe.allBind (by have:=hfe.1;omega) hpe)).mono ?_;rintro e' w5 ⟨b2,rfl,hb2z,hs5,hb45⟩;have hs4':=hs4.later hb45;have hcp:=hs4'.copy hs5 (by have:=hs4.lt;omega) (by unfold maxLen;omega);have hb5:=hb4.trans (hb45.mono hb4.size);clear b0' b1' b2' b3' b4' g1 g2 g3 g4 g5;go_wp2_with fail;refine hcp.mono ?_;clear hcp;rintro e' w6 ⟨rfl,hs6,hg6⟩;have hb6:Below W0.heap.size W0 w6:=hb5.grown hg6 hb5.size (fun r e=> by have:=ZJ e;omega);obtain ⟨⟨b0',b1',b2',b3',b4'⟩,g1,⟨g2,g3,g4,g5⟩,hu6,hB6,zz6,hbw6⟩:=hrd w6 hb6;obtain ⟨w7,r7,s7,g7⟩:=hs6.put (by unfold maxLen;omega) hxz;have hb7:Below W0.heap.size W0 w7:=hb6.grown g7 hb6.size (fun r e=> by have:=ZJ e;omega);obtain ⟨⟨d0',d1',d2',d3',d4'⟩,f1,⟨f2,f3,f4,f5⟩,hu7,hB7,zz7,hbw7⟩:=hrd w7 hb7;have hBu:∀r,some bu=some r->B<=r:=fun r e=> by have:=ZJ e;have:=HZ.out;omega
 have hcpy:=zat (B:=B) (u:=u) (m:=some bu) (b:= .putting x e) hBu (by simp) t hf (.iface 118 (.agg #[.map (some bu), .string x, .int .i64 e0, .int .i64 e1, .string e2, .slice e3 e4 e5])) w7
  ⟨hxz,⟨hfe.1,hfe.allSmall,hfe.allBind,hpl⟩,_,_,_,_,_,_,rfl,HE.out⟩ hu7 hB7 (xy t x e) 0 _ HA.out ⟨⟨200000000 + 200000000 + 1,by omega,fun b' hb'=> by obtain rfl:=ZJ hb';exact s7⟩,kc,by omega,hcov⟩
 rw [<-HR.out] at hcpy;go_wp2_with fail;refine hcpy.mono ?_;clear hcpy;intro e' w8 hh;cases R with
 | none=>
  obtain ⟨rfl,hg8⟩:=hh;go_wp2;simp only [bodyPost];exact ⟨by trivial,rfl,hbw7.grown hg8 hbw7.size (fun r e=> by have:=ZJ e;have:=HZ.out;omega)⟩
 | some y=>
  obtain ⟨cs',rfl,ht8,_,hg8⟩:=hh;have hfy:=hok y rfl;obtain ⟨a1,a2,a3,a4,a5,a6,a7,a8,a9,a10,a11,rfl⟩:=zz ht8;have hb8:Below W0.heap.size W0 w8:=hb7.grown hg8 hb7.size (fun r e=> by have:=ZJ e;omega);have hal:Below w8.heap.size w8 (w8.alloc (.cells #[.int .i64 a1, .string a2, .slice a3 a4 a5, .slice a6 a7 a8, .slice a9 a10 a11] 33)):=ZQ w8 _;have hfit:=zeA w8.heap.size w8 y.1 [.int .i64 a1, .string a2, .slice a3 a4 a5, .slice a6 a7 a8, .slice a9 a10 a11] (w8.alloc (.cells #[.int .i64 a1, .string a2, .slice a3 a4 a5, .slice a6 a7 a8, .slice a9 a10 a11] 33)) (Below.keptC hal) (by simp) hfy (ze.keep (q9 _ _ _) (ZL _) _ _ ht8);have hb9:Below W0.heap.size W0 (w8.alloc (.cells #[.int .i64 a1, .string a2, .slice a3 a4 a5, .slice a6 a7 a8, .slice a9 a10 a11] 33)):=hb8.trans (hal.mono hb8.size)
  have hbox:∀W,Below (w8.heap.size + 1) (w8.alloc (.cells #[.int .i64 a1, .string a2, .slice a3 a4 a5, .slice a6 a7 a8, .slice a9 a10 a11] 33)) W->zI W w8.heap.size 0 [.int .i64 a1, .string a2, .slice a3 a4 a5, .slice a6 a7 a8, .slice a9 a10 a11]:=fun W h j hj=> by
   refine (h.cell (p:=⟨w8.heap.size,0 + j,none⟩) (by simp)).trans ?_;rw [ZA _ _ _ _ rfl]
   match j,hj with
   | 0,_=> rfl
   | 1,_=> rfl
   | 2,_=> rfl
   | 3,_=> rfl
   | 4,_=> rfl
  clear b0' b1' b2' b3' b4' g1 g2 g3 g4 g5 d0' d1' d2' d3' d4' f1 f2 f3 f4 f5;go_wp2_with fail;refine hfit.mono ?_;clear hfit;rintro e' w9 ⟨rfl,hb89⟩;rw [World.size_alloc] at hb89;obtain ⟨d0',d1',d2',d3',d4'⟩:=zK (hbox w9 hb89);have hbA:=hb9.trans (hb89.mono (by have:=hb8.size;omega));obtain ⟨_,_,_,_,_,zz9,hbw9⟩:=hrd w9 hbA;obtain ⟨x0,x1,x2,x3,x4,xf⟩:=zz9.cells;have hlat:qj (w.heap.size + 1) w8 w9:=⟨by have:=hb89.size;simp at this;omega,fun b hb hlt=> (hb89.block b (by omega)).trans (ZO _ _ _ hlt)⟩;go_wp2;simp [bodyPost,results,Tryz.results83,go_sem,x0,x1,x2,x3,x4];refine ⟨?_,set5 hbw9 w.heap.size (ZL _) _ _ _ _ _⟩;have hL:=xo hlat w.heap.size (by omega) (.int .i64 a1) (.string a2) (.slice a3 a4 a5) (.slice a6 a7 a8) (.slice a9 a10 a11);exact ze.keep (hL.kept (A0:=w7.heap.size) (A':=w.heap.size) (B:=w8.heap.size) (by have:=hb7.size;have:=HZ.out;omega) (by have:=hb7.size;have:=HZ.out;omega) (ZL _)) hlat.1 _ _ ht8
def zgy:List Value:= [.int .i64 0, .string ⟨#[]⟩, .slice none 0 0, .slice none 0 0, .slice none 0 0]
theorem zih (B:Nat) (u:World) (t:Term) (x:ByteArray) (e:Exp) (hf:zT (.proc t)) (hfe:zT (.exp e)) (hx:qn x=true) (hxz:x.size<=maxLen) (hpl:xr e=true) (cs es:List Value) (hat:ze B u cs t) (hae:zy B u es e)
  (w:World) (hu:zh B u w) (hB:B<=w.heap.size)
  (R:Option (Term×Used)) (hR:R=yl ⟨.putting x e, [jp]⟩ (xy t x e) t) (hok:∀y,R=some y->zT (.proc y.1)) (kc:Nat) (hcov:Cov (xy t x e) kc) (hkc:kc + bcT t<=4900):
  Calls Tryz.prog 33 #[.agg cs.toArray, .string x, .agg es.toArray] w fun e' w'=> ∃cs',e'= .returned (.tuple #[.agg cs'.toArray, .int .i64 (if R.isSome then 0 else 7)])/\cs'.length=5/\(∀y,R=some y->ze w'.heap.size w' cs' y.1)/\Below w.heap.size w w':=by
 obtain ⟨o0,tx,s0,m0,k0,s1,m1,k1,s2,m2,k2,rfl⟩:=zz hat;obtain ⟨e0,e1,e2,e3,e4,e5,rfl⟩:=qG hae;obtain ⟨W0,hW0⟩:∃W0,W0=((((w.alloc (.cells #[.int .i64 o0, .string tx, .slice s0 m0 k0, .slice s1 m1 k1, .slice s2 m2 k2] 33)).alloc (.cells #[.string x] 9)).alloc (.cells #[.int .i64 e0, .int .i64 e1, .string e2, .slice e3 e4 e5] 36)).alloc (.cells #[.int .i64 0, .string ⟨#[]⟩, .slice none 0 0, .slice none 0 0, .slice none 0 0] 33)):=⟨_,rfl⟩;have hb0:Below w.heap.size w W0:=by rw [hW0];exact (((ZQ w _).alloc (by simp) _).alloc (by simp;omega) _).alloc (by simp;omega) _
 have hz:W0.heap.size=w.heap.size + 4:=by rw [hW0];simp
 have h0:W0.heap[w.heap.size]?=some (.cells #[.int .i64 o0, .string tx, .slice s0 m0 k0, .slice s1 m1 k1, .slice s2 m2 k2] 33):=by
  rw [hW0,ZO _ _ _ (by simp <;> omega),ZO _ _ _ (by simp <;> omega),ZO _ _ _ (by simp)];exact ZN w _
 have h1:W0.heap[w.heap.size + 1]?=some (.cells #[.string x] 9):=by
  rw [hW0,ZO _ _ _ (by simp <;> omega),ZO _ _ _ (by simp)];have:=ZN (w.alloc (.cells #[.int .i64 o0, .string tx, .slice s0 m0 k0, .slice s1 m1 k1, .slice s2 m2 k2] 33)) (.cells #[.string x] 9);rwa [World.size_alloc] at this
 have h2:W0.heap[w.heap.size + 2]?=some (.cells #[.int .i64 e0, .int .i64 e1, .string e2, .slice e3 e4 e5] 36):=by
  rw [hW0,ZO _ _ _ (by simp)];have:=ZN ((w.alloc (.cells #[.int .i64 o0, .string tx, .slice s0 m0 k0, .slice s1 m1 k1, .slice s2 m2 k2] 33)).alloc (.cells #[.string x] 9)) (.cells #[.int .i64 e0, .int .i64 e1, .string e2, .slice e3 e4 e5] 36);rwa [World.size_alloc,World.size_alloc] at this
 have h3:qr W0 (w.heap.size + 3):=by
  unfold qr;rw [hW0];have:=ZN (((w.alloc (.cells #[.int .i64 o0, .string tx, .slice s0 m0 k0, .slice s1 m1 k1, .slice s2 m2 k2] 33)).alloc (.cells #[.string x] 9)).alloc (.cells #[.int .i64 e0, .int .i64 e1, .string e2, .slice e3 e4 e5] 36)) (.cells #[.int .i64 0, .string ⟨#[]⟩, .slice none 0 0, .slice none 0 0, .slice none 0 0] 33);rwa [World.size_alloc,World.size_alloc,World.size_alloc] at this
 obtain ⟨WC,hWC⟩:∃WC,WC=(W0.alloc (.cells #[.int .i64 0, .string ⟨#[]⟩, .slice none 0 0, .slice none 0 0, .slice none 0 0] 33)).alloc (.cells #[.int .i64 0] 37):=⟨_,rfl⟩;have hbC:Below W0.heap.size W0 WC:=by rw [hWC];exact (ZQ W0 _).alloc (by simp) _
 have hzC:WC.heap.size=W0.heap.size + 2:=by rw [hWC];simp
 have hbwC:=hb0.trans (hbC.mono (by omega))
 have hw:=zlJ B u t x e hf hfe hx hxz hpl _ _ hat hae WC (hu.trans ((Below.keptC hbwC).mono hB)) (by omega) w.heap.size (w.heap.size + 1) (w.heap.size + 2)
  (fun j hj=> by
   have q:=(hbC.block w.heap.size (by omega)).trans h0
   match j,hj with
   | 0,_=> simp [World.cell?,q]
   | 1,_=> simp [World.cell?,q]
   | 2,_=> simp [World.cell?,q]
   | 3,_=> simp [World.cell?,q]
   | 4,_=> simp [World.cell?,q])
  (by have q:=(hbC.block (w.heap.size + 1) (by omega)).trans h1;simp [World.cell?,q])
  (fun j hj=> by
   have q:=(hbC.block (w.heap.size + 2) (by omega)).trans h2
   match j,hj with
   | 0,_=> simp [World.cell?,q]
   | 1,_=> simp [World.cell?,q]
   | 2,_=> simp [World.cell?,q]
   | 3,_=> simp [World.cell?,q]) R hR hok kc hcov hkc
 have hmf:∀(fn:Fn) (first cap:Array Value) (w:World),(Instr.makeFunc fn first cap).run Tryz.prog w= .ok (.func fn first cap) w:=fun _ _ _ _=> rfl;have e83:∀args w,(callFunc 83 args).run Tryz.prog w= .ok (.enter 83 args) w:=enters_of Tryz.func83 (by kernel_rfl) rfl;have HW:=ZH hW0;have HZ:=ZH hz;have HZC:=ZH hzC;clear hR hok hcov hkc h0 h1 h2 hat hae hf hfe;cases R with
 | none=>
  have ha:=za5 83 #[.pointer (some ⟨w.heap.size,0,none⟩), .pointer (some ⟨w.heap.size + 1,0,none⟩), .pointer (some ⟨w.heap.size + 2,0,none⟩)] 7 W0 e83 (by
   rw [<-hWC,<-hzC];refine hw.mono ?_;rintro e' w' ⟨h1,h2⟩;exact ⟨h1,h2⟩)
  clear hw hWC hW0 hz hzC;go_enter Tryz.func33,Tryz.ntmps33;go_wp2_with (go_at_call 82;rw [<-HW.out];refine ha.mono ?_;clear ha;rintro e' w1 ⟨rfl,hb1⟩;obtain ⟨x0,x1,x2,x3,x4,xf⟩:=qr.cells ((hb1.block (w.heap.size + 3) (by have:=HZ.out;omega)).trans h3));simp [bodyPost,results,Tryz.results33,go_sem,x0,x1,x2,x3,x4];exact set5 (hb0.trans (hb1.mono (by have:=HZ.out;omega))) (w.heap.size + 3) (by omega) _ _ _ _ _
 | some y=>
  have ha:=zbc 83 #[.pointer (some ⟨w.heap.size,0,none⟩), .pointer (some ⟨w.heap.size + 1,0,none⟩), .pointer (some ⟨w.heap.size + 2,0,none⟩)] W0 (fun X w'=> ze w'.heap.size (blank WC.heap.size w') [.int .i64 X.op, .string X.t, .slice X.a0 X.n0 X.c0, .slice X.a1 X.n1 X.c1, .slice X.a2 X.n2 X.c2] y.1) e83 (by
   rw [<-hWC,<-hzC];refine hw.mono ?_;rintro e' w' ⟨cs',rfl,h1,h2⟩;obtain ⟨a1,a2,a3,a4,a5,a6,a7,a8,a9,a10,a11,rfl⟩:=zz h1;exact ⟨⟨a1,a2,a3,a4,a5,a6,a7,a8,a9,a10,a11⟩,rfl,h1,h2⟩)
  clear hw hW0;have HC:=ZH hWC;clear hWC hz hzC;go_enter Tryz.func33,Tryz.ntmps33;go_wp2_with (go_at_call 82;rw [<-HW.out];refine ha.mono ?_;clear ha;rintro e' w2 ⟨⟨a1,a2,a3,a4,a5,a6,a7,a8,a9,a10,a11⟩,w1,rfl,hR1,hsz,hblk,hb1⟩;obtain ⟨x0,x1,x2,x3,x4,xf⟩:=qr.cells ((hb1.block (w.heap.size + 3) (by have:=HZ.out;omega)).trans h3);have HS:=ZH hsz;clear hsz);simp [bodyPost,results,Tryz.results33,go_sem,x0,x1,x2,x3,x4];have hz:=HZ.out;have hzC:=HZC.out;refine ⟨?_,set5 (hb0.trans (hb1.mono (by omega))) (w.heap.size + 3) (by omega) _ _ _ _ _⟩;have hL:qj (w.heap.size + 6) w1 w2:=⟨by rw [HS.out];exact ZL _,fun b hb _=> hblk b (by omega)⟩;have hL5:=xo hL (w.heap.size + 3) (by omega) (.int .i64 a1) (.string a2) (.slice a3 a4 a5) (.slice a6 a7 a8) (.slice a9 a10 a11);rw [<-HS.out];exact ze.keep (q9 0 _ _) (ZL _) _ _ (ze.keep (hL5.kept (A0:=WC.heap.size) (A':=0) (B:=w1.heap.size) (by omega) (by omega) (ZL _)) (ZL _) _ _ hR1)
theorem Tryz.results95:Tryz.f95.results=#[.cell 1 33]:=by kernel_rfl
theorem Tryz.results42:Tryz.f42.results=#[.cell 2 33, .tmp 3]:=by kernel_rfl
theorem ziS (B:Nat) (u:World) (t:Term) (hf:zT (.proc t)) (cs:List Value) (hat:ze B u cs t) (w:World) (hu:zh B u w) (hB:B<=w.heap.size) (n0:Nat) (c0:zI w n0 0 cs)
  (y:Term×Used) (hR:yl ⟨.anew, [jp]⟩ (qE 60 (.proc t)) t=some y) (kc:Nat) (hcov:Cov (qE 60 (.proc t)) kc) (hkc:kc + bcT t<=4900):
  Calls Tryz.prog 95 #[.pointer (some ⟨n0,0,none⟩)] w fun e' w'=> ∃cs',e'= .returned (.agg cs'.toArray)/\ze w'.heap.size (blank w.heap.size w') cs' y.1/\Below w.heap.size w w':=by
 obtain ⟨o0,tx,s0,m0,k0,s1,m1,k1,s2,m2,k2,rfl⟩:=zz hat;obtain ⟨W0,hW0⟩:∃W0,W0=w.alloc (.cells #[.int .i64 0, .string ⟨#[]⟩, .slice none 0 0, .slice none 0 0, .slice none 0 0] 33):=⟨_,rfl⟩;have hb0:Below w.heap.size w W0:=by rw [hW0];exact ZQ w _
 have hz:W0.heap.size=w.heap.size + 1:=by rw [hW0];simp
 have z0:qr W0 w.heap.size:=by unfold qr;rw [hW0];exact ZN w _
 obtain ⟨G,hG⟩:∃G:World->Prop,G=fun W=> Below W0.heap.size W0 W:=⟨_,rfl⟩
 have hrd:∀W,G W->(W.cell? ⟨n0,0,none⟩=some (.int .i64 o0)/\W.cell? ⟨n0,1,none⟩=some (.string tx)/\W.cell? ⟨n0,2,none⟩=some (.slice s0 m0 k0)/\W.cell? ⟨n0,3,none⟩=some (.slice s1 m1 k1)/\W.cell? ⟨n0,4,none⟩=some (.slice s2 m2 k2))/\
   zh B u W/\B<=W.heap.size/\qr W w.heap.size/\Below w.heap.size w W:=by
  intro W h;rw [hG] at h;have hbW:=hb0.trans (h.mono (by omega));exact ⟨zK (c0.below hbW (zD (c0 0 (by simp)))),hu.trans ((Below.keptC hbW).mono hB),by have:=hbW.size;omega,(h.block _ (by omega)).trans z0,hbW⟩
 have hpt:zY B u (.iface 83 (.agg #[.int .i64 o0, .string tx, .slice s0 m0 k0, .slice s1 m1 k1, .slice s2 m2 k2])) (.proc t):=⟨_,rfl,hat⟩
 have hfr:∀W,G W->Calls Tryz.prog 75 #[.iface 83 (.agg #[.int .i64 o0, .string tx, .slice s0 m0 k0, .slice s1 m1 k1, .slice s2 m2 k2])] W fun e' w'=> ∃b2,e'= .returned (.map (some b2))/\W0.heap.size<=b2/\SetF w' b2 60 (qE 60 (.proc t))/\G w':=fun W h=> by
  obtain ⟨_,hu1,hB1,_,_⟩:=hrd W h;rw [hG] at h ⊢;refine (zcs B u 60 (.proc t) hf.1 (by omega) hf.allSmall hf.allBind _ W hpt hu1 hB1).mono ?_;rintro e' w' ⟨b2,rfl,h1,h2,h3⟩;exact ⟨b2,rfl,by have:=h.size;omega,h2.mono hf.1,h.trans (h3.mono h.size)⟩
 have hcp:∀W b2,G W->W0.heap.size<=b2->SetF W b2 60 (qE 60 (.proc t))->Calls Tryz.prog 87 #[.agg #[.iface 134 (.agg #[.map (some b2)]), .map none], .agg #[.int .i64 o0, .string tx, .slice s0 m0 k0, .slice s1 m1 k1, .slice s2 m2 k2]] W fun e' w'=>
   ∃(a1:Int) (a2:ByteArray) (a3:Option Addr) (a4 a5:Nat) (a6:Option Addr) (a7 a8:Nat) (a9:Option Addr) (a10 a11:Nat),e'= .returned (.agg #[.int .i64 a1, .string a2, .slice a3 a4 a5, .slice a6 a7 a8, .slice a9 a10 a11])/\
    ze w'.heap.size (blank W0.heap.size w') [.int .i64 a1, .string a2, .slice a3 a4 a5, .slice a6 a7 a8, .slice a9 a10 a11] y.1/\qr w' w.heap.size/\G w':=fun W b2 h hb2 hS=> by
  obtain ⟨_,hu1,hB1,_,_⟩:=hrd W h;have hpst:=zat (B:=B) (u:=u) (m:=some b2) (b:= .anew) (fun r e=> by have:=ZJ e;omega) (by simp) t hf (.iface 134 (.agg #[.map (some b2)])) W rfl hu1 hB1 (qE 60 (.proc t)) 0 _ hat ⟨⟨60,by omega,fun b' hb'=> by obtain rfl:=ZJ hb';exact hS⟩,kc,by omega,hcov⟩;rw [hR] at hpst;refine hpst.mono ?_;rintro e' w' ⟨cs',rfl,h1,_,h3⟩;obtain ⟨a1,a2,a3,a4,a5,a6,a7,a8,a9,a10,a11,rfl⟩:=zz h1;rw [hG] at h;have hb':Below W0.heap.size W0 w':=h.grown h3 h.size (fun r e=> by have:=ZJ e;omega);refine ⟨_,_,_,_,_,_,_,_,_,_,_,rfl,ze.keep (qg h.size fun b o v _ _ hv=> hv) (ZL _) _ _ h1,(hb'.block _ (by omega)).trans z0,by rw [hG];exact hb'⟩
 have hm1:=xz B u _ _ W0 (hu.trans ((Below.keptC hb0).mono hB)) (by omega) hf hpt;obtain ⟨q0,q3,q4,q5,q6⟩:=hrd W0 (by rw [hG];exact ZF _ _);obtain ⟨a0,a1,a2,a3,a4⟩:=q0;rw [hW0] at a0 a1 a2 a3 a4;have HW:=ZH hW0;have HZ:=ZH hz;have HG:=ZH hG;have n1:¬w.heap.size=n0:=by have:=zD (c0 0 (by simp));omega
 clear hW0 hz c0 hG hat;go_enter Tryz.func95,Tryz.ntmps95;go_wp2_with fail;rw [<-HW.out];refine hm1.mono ?_;clear hm1;rintro e' w1 ⟨rfl,hb1⟩;clear a0 a1 a2 a3 a4 q3 q4 q5 q6;have g1:G w1.drew:=by rw [HG.out];exact hb1.drew
 obtain ⟨⟨b0',b1',b2',b3',b4'⟩,_⟩:=hrd w1.drew g1;go_wp2_with fail
 go_region_held3 (fun w'=> w'.cell? ⟨n0,0,none⟩=some (.int .i64 o0)/\w'.cell? ⟨n0,1,none⟩=some (.string tx)/\w'.cell? ⟨n0,2,none⟩=some (.slice s0 m0 k0)/\w'.cell? ⟨n0,3,none⟩=some (.slice s1 m1 k1)/\w'.cell? ⟨n0,4,none⟩=some (.slice s2 m2 k2)) (go_keep)
  (first
  | (go_at_call 75;refine (hfr _ (by assumption)).mono ?_;rintro e' w2 ⟨b2,rfl,hb2,hs2,g2⟩;obtain ⟨⟨s0',s1',s2',s3',s4'⟩,_⟩:=hrd w2 g2)
  | (go_at_call 87;refine (hcp _ _ (by assumption) (by assumption) (by assumption)).mono ?_;rintro e' w3 ⟨x1,x2,x3,x4,x5,x6,x7,x8,x9,x10,x11,rfl,ht3,hz3,g3⟩;obtain ⟨⟨t0',t1',t2',t3',t4'⟩,_⟩:=hrd w3 g3;obtain ⟨y0,y1,y2,y3,y4,yf⟩:=hz3.cells))
 all_goals
  have hbF:Below W0.heap.size W0 w3:=by rw [HG.out] at g3;exact g3
  have hZ:=HZ.out;go_wp2;simp [bodyPost,results,Tryz.results95,go_sem,y0,y1,y2,y3,y4];have hL5:=xo (qj.refl W0.heap.size w3) w.heap.size (by omega) (.int .i64 x1) (.string x2) (.slice x3 x4 x5) (.slice x6 x7 x8) (.slice x9 x10 x11);exact ⟨ze.keep (hL5.kept (A0:=W0.heap.size) (A':=w.heap.size) (B:=w3.heap.size) (ZL _) (by omega) (ZL _)) (ZL _) _ _ ht3,set5 (hb0.trans (hbF.mono (by omega))) w.heap.size (ZL _) _ _ _ _ _⟩
theorem zkS (B:Nat) (u:World) (t:Term) (hf:zT (.proc t)) (cs:List Value) (hat:ze B u cs t) (w:World) (hu:zh B u w) (hB:B<=w.heap.size)
  (y:Term×Used) (hR:yl ⟨.anew, [jp]⟩ (qE 60 (.proc t)) t=some y) (kc:Nat) (hcov:Cov (qE 60 (.proc t)) kc) (hkc:kc + bcT t<=4900):
  Calls Tryz.prog 42 #[.agg cs.toArray] w fun e' w'=> ∃cs',e'= .returned (.tuple #[.agg cs'.toArray, .int .i64 0])/\ze w'.heap.size w' cs' y.1/\Below w.heap.size w w':=by
 obtain ⟨o0,tx,s0,m0,k0,s1,m1,k1,s2,m2,k2,rfl⟩:=zz hat;obtain ⟨W0,hW0⟩:∃W0,W0=((w.alloc (.cells #[.int .i64 o0, .string tx, .slice s0 m0 k0, .slice s1 m1 k1, .slice s2 m2 k2] 33)).alloc (.cells #[.int .i64 0, .string ⟨#[]⟩, .slice none 0 0, .slice none 0 0, .slice none 0 0] 33)):=⟨_,rfl⟩;have hb0:Below w.heap.size w W0:=by rw [hW0];exact (ZQ w _).alloc (by simp) _
 have hz:W0.heap.size=w.heap.size + 2:=by rw [hW0];simp
 have h0:W0.heap[w.heap.size]?=some (.cells #[.int .i64 o0, .string tx, .slice s0 m0 k0, .slice s1 m1 k1, .slice s2 m2 k2] 33):=by
  rw [hW0,ZO _ _ _ (by simp)];exact ZN w _
 have h3:qr W0 (w.heap.size + 1):=by
  unfold qr;rw [hW0];have:=ZN (w.alloc (.cells #[.int .i64 o0, .string tx, .slice s0 m0 k0, .slice s1 m1 k1, .slice s2 m2 k2] 33)) (.cells #[.int .i64 0, .string ⟨#[]⟩, .slice none 0 0, .slice none 0 0, .slice none 0 0] 33);rwa [World.size_alloc] at this
 obtain ⟨WC,hWC⟩:∃WC,WC=(W0.alloc (.cells #[.int .i64 0, .string ⟨#[]⟩, .slice none 0 0, .slice none 0 0, .slice none 0 0] 33)).alloc (.cells #[.int .i64 0] 37):=⟨_,rfl⟩;have hbC:Below W0.heap.size W0 WC:=by rw [hWC];exact (ZQ W0 _).alloc (by simp) _
 have hzC:WC.heap.size=W0.heap.size + 2:=by rw [hWC];simp
 have hbwC:=hb0.trans (hbC.mono (by omega))
 have hw:=ziS B u t hf _ hat WC (hu.trans ((Below.keptC hbwC).mono hB)) (by omega) w.heap.size
  (fun j hj=> by
   have q:=(hbC.block w.heap.size (by omega)).trans h0
   match j,hj with
   | 0,_=> simp [World.cell?,q]
   | 1,_=> simp [World.cell?,q]
   | 2,_=> simp [World.cell?,q]
   | 3,_=> simp [World.cell?,q]
   | 4,_=> simp [World.cell?,q]) y hR kc hcov hkc
 have hmf:∀(fn:Fn) (first cap:Array Value) (w:World),(Instr.makeFunc fn first cap).run Tryz.prog w= .ok (.func fn first cap) w:=fun _ _ _ _=> rfl
 have ha:=zbc 95 #[.pointer (some ⟨w.heap.size,0,none⟩)] W0 (fun X w'=> ze w'.heap.size (blank WC.heap.size w') [.int .i64 X.op, .string X.t, .slice X.a0 X.n0 X.c0, .slice X.a1 X.n1 X.c1, .slice X.a2 X.n2 X.c2] y.1) (enters_of Tryz.func95 (by kernel_rfl) rfl) (by
  rw [<-hWC,<-hzC];refine hw.mono ?_;rintro e' w' ⟨cs',rfl,h1,h2⟩;obtain ⟨a1,a2,a3,a4,a5,a6,a7,a8,a9,a10,a11,rfl⟩:=zz h1;exact ⟨⟨a1,a2,a3,a4,a5,a6,a7,a8,a9,a10,a11⟩,rfl,h1,h2⟩)
 have HW:=ZH hW0;have HZ:=ZH hz;have HZC:=ZH hzC;have HC:=ZH hWC;clear hw hW0 hWC hz hzC hR hcov hkc h0 hat hf;go_enter Tryz.func42,Tryz.ntmps42;go_wp2_with (go_at_call 82;rw [<-HW.out];refine ha.mono ?_;clear ha;rintro e' w2 ⟨⟨a1,a2,a3,a4,a5,a6,a7,a8,a9,a10,a11⟩,w1,rfl,hR1,hsz,hblk,hb1⟩;obtain ⟨x0,x1,x2,x3,x4,xf⟩:=qr.cells ((hb1.block (w.heap.size + 1) (by have:=HZ.out;omega)).trans h3);have HS:=ZH hsz;clear hsz);simp [bodyPost,results,Tryz.results42,go_sem,x0,x1,x2,x3,x4];have hz:=HZ.out;have hzC:=HZC.out;refine ⟨?_,set5 (hb0.trans (hb1.mono (by omega))) (w.heap.size + 1) (by omega) _ _ _ _ _⟩;have hL:qj (w.heap.size + 4) w1 w2:=⟨by rw [HS.out];exact ZL _,fun b hb _=> hblk b (by omega)⟩;have hL5:=xo hL (w.heap.size + 1) (by omega) (.int .i64 a1) (.string a2) (.slice a3 a4 a5) (.slice a6 a7 a8) (.slice a9 a10 a11);rw [<-HS.out];exact ze.keep (q9 0 _ _) (ZL _) _ _ (ze.keep (hL5.kept (A0:=WC.heap.size) (A':=0) (B:=w1.heap.size) (by omega) (by omega) (ZL _)) (ZL _) _ _ hR1)
mutual
def zG:Term->List Term
 | .mk op t a d k=> if op=1 then [] else if op=3 then qO k else [.mk op t a d k]
def qO:List Term->List Term
 | []=> []
 | a::l=> zG a ++ qO l
end
theorem zq.append {X:Type} {At:Nat->World->List Value->X->Prop} {n B:Nat} {w:World} {v1 v2:List Value} {l1 l2:List X} (h1:zq At n B w v1 l1) (h2:zq At n B w v2 l2):zq At n B w (v1 ++ v2) (l1 ++ l2):=by
 refine ⟨by simp [h1.1,h2.1,Nat.add_mul],fun i hi=> ?_⟩;by_cases hlt:i < l1.length
 ·have e1:i * n + n<=v1.length:=by rw [h1.1,<-Nat.succ_mul];exact Nat.mul_le_mul_right n hlt
  rw [List.getElem_append_left hlt,List.drop_append_of_le_length (by omega),List.take_append_of_le_length (by simp;omega)];exact h1.2 i hlt
 ·have hj:i - l1.length < l2.length:=by simp at hi;omega
  rw [List.getElem_append_right (by omega)];have e:i * n=v1.length + (i - l1.length) * n:=by rw [h1.1,<-Nat.add_mul];congr 1;omega
  rw [e,List.drop_append,List.drop_of_length_le (Nat.le_add_right _ _),List.nil_append,Nat.add_sub_cancel_left];exact h2.2 _ hj
theorem zhf {w:World} {A A2:Nat} {v1 v2:Value} {x1 x2:List Value} {k1 k2:Nat} (ty:TypeId) (ho:w.ownsRow A 33 5 v1 k1 x1) (h2:w.ownsRow A2 33 5 v2 k2 x2) (hone:∀v∈x2,v.oneCell'=true) (hA:A<=w.heap.size) (h1:k1<=100000) (h3:k2<=100000):
  ∃a c w',(Builtin.append_ #[31,31] ty #[v1,v2]).run Tryz.prog w= .ok (.slice a (k1 + k2) c) w'/\w'.ownsRow A 33 5 (.slice a (k1 + k2) c) (k1 + k2) (x1 ++ x2)/\w.grownBy w' v1.ownBlock:=by
 obtain ⟨i0,hi,hz0,hz1,hz2⟩:=info_parts zcZ
 have hex:∀{v:Value} {k:Nat} {x:List Value} {w:World},w.ownsRow A 33 5 v k x->∃a c,v= .slice a k c:=fun h=> by
  obtain ⟨_,⟨rfl,h0⟩ | ⟨g,cp,cur,hvf,_⟩⟩:=h
  ·exact ⟨none,0,by rw [h0]⟩
  ·exact ⟨_,_,hvf⟩
 obtain ⟨hl2,⟨rfl,h0⟩ | ⟨g,cp,cur,rfl,_,hg,hk,hm,hsz,htk⟩⟩:=id h2
 ·subst h0
  have hx:x2= []:=List.eq_nil_of_length_eq_zero (by rw [hl2]);subst hx;have hr:=run_append_owned_none (P:=Tryz.prog) (w:=w) A 31 ty 33 i0 5 Tryz.underlying31 hi v1 k1 x1 ho;obtain ⟨a,c,rfl⟩:=hex ho;exact ⟨a,c,w,hr,by simpa using ho,World.grownBy.refl _ _⟩
 ·have hcells:=(zJ (by omega) h2)
  obtain ⟨a',c',he,_,hcell⟩:=hcells
  obtain ⟨v',w',hr,h4,h5,_,_⟩:=run_append_own_at (P:=Tryz.prog) w A 31 ty 33 i0 (.agg #[.int .i64 0, .string ⟨#[]⟩, .slice none 0 0, .slice none 0 0, .slice none 0 0]) 5 96 Tryz.underlying31 hi hz0 hz1 hz2 rfl (by decide) v1 k1 x1 ho ⟨g,0,none⟩ k2 cp x2 hl2 (by
   intro j x hx;have hj:=(List.getElem?_eq_some_iff.1 hx).1;have e:(⟨g,0,none⟩:Addr).add j=⟨g,j,none⟩:=by unfold Addr.add;by_cases h:j=0 <;> simp [h]
   rw [e]
   injection he with e1 e2 e3
   rcases hcell with h | ⟨g',hg',_,_,hc⟩
   ·rw [h] at hl2;simp at hl2;subst hl2;simp at hj
   ·rw [hg'] at e1
    have e4:g=g':=by injection e1 with e1;injection e1
    subst e4;have:=hc j hj;rw [Nat.zero_add] at this;rw [this];simpa [hj] using hx) hone (by unfold maxLen;omega) (by omega) hA
  obtain ⟨a,c,rfl⟩:=hex h4;exact ⟨a,c,w',hr,h4,h5⟩
theorem zlD {B:Nat} {w:World} {cs:List Value} {t:Term} (h:ze B w cs t):∀v∈cs,v.oneCell'=true:=by
 obtain ⟨a1,a2,a3,a4,a5,a6,a7,a8,a9,a10,a11,rfl⟩:=zz h;simp [Value.oneCell']
theorem ziT {B:Nat} {w:World} {vs:List Value} {l:List Term} (h:zq ze 5 B w vs l):∀v∈vs,v.oneCell'=true:=by
 intro v hv;obtain ⟨i,hi,rfl⟩:=List.mem_iff_getElem.1 hv;have hl:=h.1;have hq:i / 5 < l.length:=by omega
 have h2:=h.2 (i / 5) hq;refine zlD h2 _ ?_;refine List.mem_iff_getElem.2 ⟨i % 5,by simp;omega,?_⟩;simp only [List.getElem_take,List.getElem_drop]
 congr 1
 omega
end
end Go.Proofs.YtjmlaeofjjhfmaaGreat
