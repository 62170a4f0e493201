/- Lemmas. -/
import Derived.Test.YtjmlaeofjjhfmaaGreatS38
import Derived.Test.YtjmlaeofjjhfmaaGreatS20
import Derived.Test.YtjmlaeofjjhfmaaGreatS08
import Derived.Test.YtjmlaeofjjhfmaaGreatS34
import Derived.Test.YtjmlaeofjjhfmaaGreatS19
import Derived.Test.YtjmlaeofjjhfmaaGreatS36
import Derived.Test.YtjmlaeofjjhfmaaGreatS37
set_option linter.unusedVariables false
set_option linter.unusedSimpArgs false
set_option maxRecDepth 10000
set_option maxHeartbeats 16000000
namespace Go.Proofs.YtjmlaeofjjhfmaaGreat
section
open Go.RowKit Go.Shelf Go.Maps
theorem zdV {f:Int} {t:ByteArray} {j:List Msg} {d:List zg} {k:List Term} (h:jQ (.mk f t j d k)):d.length<=5/\k.length<=5:=by
 have h1:=h.self;simp only [Part.shaped,yB,Bool.or_eq_true,Bool.and_eq_true,beq_iff_eq,decide_eq_true_eq] at h1;rcases h1 with h1 | h1 <;> omega
theorem zdq {o:Int} {t:ByteArray} {a:List Exp} {d:List zg} {k:List Term} (h:ye (.mk o t a d k)):d.length<=5/\k.length<=5:=by
 have h1:=h.self;simp only [Part.shaped,yg,Bool.or_eq_true,Bool.and_eq_true,beq_iff_eq,decide_eq_true_eq] at h1;rcases h1 with ((((h1 | h1) | h1) | h1) | h1) | h1 <;> omega
theorem zdK {w w':World} (h:Below w.heap.size w w'):w.grownBy w' none:=⟨h.os,h.tape,h.output,h.size,fun k hk _=> h.block k hk⟩
theorem zcq {A B:Type} (f:A->B):∀l:List A,zV (fun (s:Unit) a=> some (f a,s)) () l=some (l.map f,())
 | []=> rfl
 | a::l=> by
  rw [zV];simp only;rw [zcq f l]
  rfl
def zfd (s:Nat):Prop:=∀(t:Term),(Part.proc t).size<=s->(Part.proc t).size<=60->ye t->∀(B:Nat) (u w:World) (cs:List Value),zh B u w->B<=w.heap.size->ze B u cs t->
 Calls Tryz.prog 108 #[.agg cs.toArray] w fun e w'=> ∃cs',e= .returned (.agg cs'.toArray)/\ze w'.heap.size (mid u B w.heap.size w') cs' (layT t)/\Below w.heap.size w w'
def zew (s:Nat):Prop:=∀(t:zg),(Part.def_ t).size<=s->(Part.def_ t).size<=60->jQ t->∀(B:Nat) (u w:World) (cs:List Value),zh B u w->B<=w.heap.size->zo B u cs t->
 Calls Tryz.prog 153 #[.agg cs.toArray] w fun e w'=> ∃cs',e= .returned (.agg cs'.toArray)/\zo w'.heap.size (mid u B w.heap.size w') cs' (layC t)/\Below w.heap.size w w'
theorem zfO (s:Nat) (ih:zfd s) (l:List Term) (hl:l.length<=1000) (hs:∀k,(h:k < l.length)->(Part.proc l[k]).size<=s/\(Part.proc l[k]).size<=60/\ye l[k]) (B:Nat) (u w:World) (a:Option Addr) (cap:Nat)
  (hsrc:l.length=0∨∃b off,a=some ⟨b,off,none⟩/\b < B/\zu B u b off l) (hu:zh B u w) (hB:B<=w.heap.size):
  Calls Tryz.prog 105 #[.slice a l.length cap, .func (.func 108) #[] #[]] w fun e w'=> ∃a' c',e= .returned (.slice a' l.length c')/\SlAt w'.heap.size (.slice a' l.length c') (qh l).length (fun b off=> zu w'.heap.size (mid u B w.heap.size w') b off (qh l))/\Below w.heap.size w w':=by
 have h:=zm5 B u w (fun _ _ _=> True) (fun (s:Unit) a=> some (layT a,s)) l a cap hl hsrc hu hB (fun _ _ _ _ _ _ _ _=> trivial) (fun _ _ _ _=> fun b hb=> by cases hb) (fun k hk s W cs _ hg hat=> by
  have hb:=yy hg;obtain ⟨h1,h2,h3⟩:=hs k hk;refine (ih l[k] h1 h2 h3 B u W cs (hu.trans ((Below.keptC hb).mono hB)) (by have:=hb.size;omega) hat).mono ?_;rintro e w' ⟨cs',rfl,h4,h5⟩;exact ⟨cs',rfl,h4,trivial,zdK h5⟩) () trivial
 rw [zcq] at h;refine h.mono ?_;rintro e w' ⟨v,rfl,h1,h2,_,h3⟩;rw [<-zac] at h1 h2;obtain ⟨a',c',rfl,h4,h5⟩:=h2;exact ⟨a',c',by rw [h1],⟨a',c',by rw [h1],h4,h5⟩,yy h3⟩
theorem zdt (s:Nat) (ih:zew s) (l:List zg) (hl:l.length<=1000) (hs:∀k,(h:k < l.length)->(Part.def_ l[k]).size<=s/\(Part.def_ l[k]).size<=60/\jQ l[k]) (B:Nat) (u w:World) (a:Option Addr) (cap:Nat)
  (hsrc:l.length=0∨∃b off,a=some ⟨b,off,none⟩/\b < B/\zr B u b off l) (hu:zh B u w) (hB:B<=w.heap.size):
  Calls Tryz.prog 141 #[.slice a l.length cap, .func (.func 153) #[] #[]] w fun e w'=> ∃a' c',e= .returned (.slice a' l.length c')/\SlAt w'.heap.size (.slice a' l.length c') (zQ l).length (fun b off=> zr w'.heap.size (mid u B w.heap.size w') b off (zQ l))/\Below w.heap.size w w':=by
 have h:=zmM B u w (fun _ _ _=> True) (fun (s:Unit) a=> some (layC a,s)) l a cap hl hsrc hu hB (fun _ _ _ _ _ _ _ _=> trivial) (fun _ _ _ _=> fun b hb=> by cases hb) (fun k hk s W cs _ hg hat=> by
  have hb:=yy hg;obtain ⟨h1,h2,h3⟩:=hs k hk;refine (ih l[k] h1 h2 h3 B u W cs (hu.trans ((Below.keptC hb).mono hB)) (by have:=hb.size;omega) hat).mono ?_;rintro e w' ⟨cs',rfl,h4,h5⟩;exact ⟨cs',rfl,h4,trivial,zdK h5⟩) () trivial
 rw [zcq] at h;refine h.mono ?_;rintro e w' ⟨v,rfl,h1,h2,_,h3⟩;rw [<-jC] at h1 h2;obtain ⟨a',c',rfl,h4,h5⟩:=h2;exact ⟨a',c',by rw [h1],⟨a',c',by rw [h1],h4,h5⟩,yy h3⟩
theorem qS {w:World} {b:Nat} {o:Obj} (h:w.heap[b]?=some o):b < w.heap.size:=(ZG h).1
theorem zik {B A:Nat} {u w:World} (h:B<=w.heap.size):zh B u (mid u B A w):=by
 intro b o v hb hv;exact (yM u B A w b o v).2 ⟨by omega, .inl ⟨hb,hv⟩⟩
theorem zbM {u:World} {B A A' n:Nat} {w w':World} (hA:A'<=A) (hn:n<=w.heap.size) (hz:w.heap.size<=w'.heap.size) (hs:∀b,A<=b->b < w.heap.size->w'.heap[b]?=w.heap[b]?):zh n (mid u B A w) (mid u B A' w'):=
 zbD hA hz fun b o v hb hlt hv=> (ZB (w:=w) (hs b hb (by omega))).trans hv
theorem yd {w:World} {b:Nat} {a0 a1 a2 a3 a4:Value} {ty:TypeId} (h:w.heap[b]?=some (.cells #[a0,a1,a2,a3,a4] ty)):w.cell? ⟨b,0,none⟩=some a0/\w.cell? ⟨b,1,none⟩=some a1/\w.cell? ⟨b,2,none⟩=some a2/\w.cell? ⟨b,3,none⟩=some a3/\w.cell? ⟨b,4,none⟩=some a4/\∀o,w.frozen? ⟨b,o,none⟩=false:=
 ⟨by simp [World.cell?,h],by simp [World.cell?,h],by simp [World.cell?,h],by simp [World.cell?,h],by simp [World.cell?,h],fun o=> by simp [World.frozen?,h]⟩
theorem zjf {B B' n:Nat} {w w':World} {v:Value} {l:List Exp} (h:SlAt B v n (fun b off=> zW B w b off l)) (hk:zh B w w') (hB:B<=B'):SlAt B' v n (fun b off=> zW B' w' b off l):=by
 obtain ⟨a,c,h1,h2,h3⟩:=h;refine ⟨a,c,h1,h2,?_⟩;rcases h3 with h3 | ⟨b,off,h4,h5,h6⟩
 ·exact .inl h3
 ·exact .inr ⟨b,off,h4,by omega,zW.keep hk hB l b off h5 h6⟩
theorem zjh {B B' n:Nat} {w w':World} {v:Value} {l:List Msg} (h:SlAt B v n (fun b off=> zX B w b off l)) (hk:zh B w w') (hB:B<=B'):SlAt B' v n (fun b off=> zX B' w' b off l):=by
 obtain ⟨a,c,h1,h2,h3⟩:=h;refine ⟨a,c,h1,h2,?_⟩;rcases h3 with h3 | ⟨b,off,h4,h5,h6⟩
 ·exact .inl h3
 ·exact .inr ⟨b,off,h4,by omega,zX.keep hk hB l b off h5 h6⟩
theorem zcO {B B' n:Nat} {w w':World} {v:Value} {l:List zg} (h:SlAt B v n (fun b off=> zr B w b off l)) (hk:zh B w w') (hB:B<=B'):SlAt B' v n (fun b off=> zr B' w' b off l):=by
 obtain ⟨a,c,h1,h2,h3⟩:=h;refine ⟨a,c,h1,h2,?_⟩;rcases h3 with h3 | ⟨b,off,h4,h5,h6⟩
 ·exact .inl h3
 ·exact .inr ⟨b,off,h4,by omega,zr.keep hk hB l b off h5 h6⟩
theorem zdz {B B' n:Nat} {w w':World} {v:Value} {l:List Term} (h:SlAt B v n (fun b off=> zu B w b off l)) (hk:zh B w w') (hB:B<=B'):SlAt B' v n (fun b off=> zu B' w' b off l):=by
 obtain ⟨a,c,h1,h2,h3⟩:=h;refine ⟨a,c,h1,h2,?_⟩;rcases h3 with h3 | ⟨b,off,h4,h5,h6⟩
 ·exact .inl h3
 ·exact .inr ⟨b,off,h4,by omega,zu.keep hk hB l b off h5 h6⟩
theorem zhi {B N A':Nat} {u w w2 w2s w3 WB:World} (hA':A'<=N + 2) (hB:B<=N) (hN:N=w.heap.size) (h2:Below N w w2) (hz2:N + 2<=w2.heap.size) (hs2:w2s.heap.size=w2.heap.size) (hs:∀b,b≠N->w2s.heap[b]?=w2.heap[b]?) (g3:Below w2s.heap.size w2s w3)
  (hz:WB.heap.size=w3.heap.size) (hL:∀b,b≠N->b≠N + 1->WB.heap[b]?=w3.heap[b]?):
  zh w2.heap.size (mid u B (N + 2) w2) (mid u B A' WB)/\zh w3.heap.size (mid u B w2s.heap.size w3) (mid u B A' WB)/\w2.heap.size<=WB.heap.size/\w3.heap.size<=WB.heap.size:=by
 have:=g3.size;refine ⟨zbM (by omega) (ZL _) (by omega) (fun b hb hlt=> ?_),zbM (by omega) (ZL _) (by omega) (fun b hb hlt=> ?_),by omega,by omega⟩
 ·rw [hL b (by omega) (by omega),g3.block b (by omega),hs b (by omega)]
 ·exact hL b (by omega) (by omega)
theorem zli {f:Int} {text:ByteArray} {joins:List Msg} {defs:List zg} {kids:List Term} {B:Nat} {u w W1 w2 w3 WB:World} {a0:Option Addr} {p0 nj nd nk:Nat} {a1' a2':Option Addr} {c1' c2':Nat} {x:Value} (hu:zh B u w) (hB:B<=w.heap.size) (h2:Below w.heap.size w w2) (z1:W1.heap.size=w.heap.size + 2) (g2:Below W1.heap.size W1 w2)
  (g3:Below (w2.setCell ⟨w.heap.size,3,none⟩ x).heap.size (w2.setCell ⟨w.heap.size,3,none⟩ x) w3) (hz:text.size<=maxLen) (hJ:nj=joins.length) (hl:joins.length<=9223372036854775807)
  (h0:joins.length=0∨∃b off,a0=some ⟨b,off,none⟩/\b < B/\zX B u b off joins)
  (hd:SlAt w2.heap.size (.slice a1' nd c1') (zQ defs).length (fun b off=> zr w2.heap.size (mid u B W1.heap.size w2) b off (zQ defs)))
  (hk:SlAt w3.heap.size (.slice a2' nk c2') (qh kids).length (fun b off=> zu w3.heap.size (mid u B (w2.setCell ⟨w.heap.size,3,none⟩ x).heap.size w3) b off (qh kids)))
  (zB:WB.heap.size=w3.heap.size) (hL:∀b,b≠w.heap.size->b≠w.heap.size + 1->WB.heap[b]?=w3.heap[b]?) (hbB:Below w.heap.size w WB):
  zo w3.heap.size (mid u B w.heap.size WB) [.int .i64 f, .string text, .slice a0 nj p0, .slice a1' nd c1', .slice a2' nk c2'] (layC (.mk f text joins defs kids)):=by
 obtain ⟨w2s,hw2s⟩:∃X,X=w2.setCell ⟨w.heap.size,3,none⟩ x:=⟨_,rfl⟩;have hs1:w2s.heap.size=w2.heap.size:=by rw [hw2s];simp [World.setCell]
 have hs2:∀b,b≠w.heap.size->w2s.heap[b]?=w2.heap[b]?:=fun b hb=> by rw [hw2s];exact ZC _ _ _ _ (by simpa using hb)
 rw [<-hw2s] at g3 hk;clear hw2s;rw [z1] at hd;obtain ⟨k1,k2,s1,s2⟩:=zhi (A':=w.heap.size) (by omega) hB rfl h2 (by have:=g2.size;omega) hs1 hs2 g3 zB hL;rw [layC];unfold zo;rw [<-zB];have hj:=zjh (v:= .slice a0 joins.length p0) ⟨a0,p0,rfl,hl,h0⟩ (zik (A:=w.heap.size) (w:=WB) (by have:=hbB.size;omega)) (show B<=WB.heap.size by have:=hbB.size;omega);rw [<-hJ] at hj;exact ⟨hz,_,_,_,rfl,by rw [hJ] at hj ⊢;exact hj,zcO hd k1 s1,zdz hk k2 s2⟩
theorem Tryz.results153:Tryz.f153.results=#[.cell 2 130]:=by kernel_rfl
theorem Tryz.results108:Tryz.f108.results=#[.cell 2 33]:=by kernel_rfl
theorem zlH (s:Nat) (ihT:zfd s) (ihC:zew s) (f:Int) (text:ByteArray) (joins:List Msg) (defs:List zg) (kids:List Term) (hs:(Part.def_ (.mk f text joins defs kids)).size<=s + 1) (h60:(Part.def_ (.mk f text joins defs kids)).size<=60) (hf:jQ (.mk f text joins defs kids))
  (B:Nat) (u w:World) (cs:List Value) (hu:zh B u w) (hB:B<=w.heap.size) (hv:zo B u cs (.mk f text joins defs kids)):
  Calls Tryz.prog 153 #[.agg cs.toArray] w fun e w'=> ∃cs',e= .returned (.agg cs'.toArray)/\zo w'.heap.size (mid u B w.heap.size w') cs' (layC (.mk f text joins defs kids))/\Below w.heap.size w w':=by
 have hsm:=(zdV hf);unfold zo at hv;obtain ⟨hz,_,_,_,rfl,⟨a0,p0,rfl,l0,h0⟩,⟨a1,p1,rfl,l1,h1⟩,⟨a2,p2,rfl,l2,h2⟩⟩:=hv;obtain ⟨W1,hW1⟩:∃W1,W1=(w.alloc (.cells #[.int .i64 f, .string text, .slice a0 joins.length p0, .slice a1 defs.length p1, .slice a2 kids.length p2] 130)).alloc (.cells #[.int .i64 0, .string ⟨#[]⟩, .slice none 0 0, .slice none 0 0, .slice none 0 0] 130):=⟨_,rfl⟩;have z1:W1.heap.size=w.heap.size + 2:=by rw [hW1];simp
 have b1:Below w.heap.size w W1:=by rw [hW1];exact (ZQ w _).alloc (by simp) _
 have k0:W1.heap[w.heap.size]?=some (.cells #[.int .i64 f, .string text, .slice a0 joins.length p0, .slice a1 defs.length p1, .slice a2 kids.length p2] 130):=by
  rw [hW1,ZO _ _ _ (by simp)];exact ZN w _
 have k1:W1.heap[w.heap.size + 1]?=some (.cells #[.int .i64 0, .string ⟨#[]⟩, .slice none 0 0, .slice none 0 0, .slice none 0 0] 130):=by
  rw [hW1];have:=ZN (w.alloc (.cells #[.int .i64 f, .string text, .slice a0 joins.length p0, .slice a1 defs.length p1, .slice a2 kids.length p2] 130)) (.cells #[.int .i64 0, .string ⟨#[]⟩, .slice none 0 0, .slice none 0 0, .slice none 0 0] 130)
  rwa [World.size_alloc] at this
 have K1:=zdt s ihC defs (by omega) (fun k h=> ⟨by have:=qi (p:= .def_ (.mk f text joins defs kids)) (q:= .def_ defs[k]) (ji (ZM h));omega,by have:=qi (p:= .def_ (.mk f text joins defs kids)) (q:= .def_ defs[k]) (ji (ZM h));omega,hf.part (ji (ZM h))⟩)
  B u W1 a1 p1 h1 (hu.trans ((Below.keptC b1).mono hB)) (by omega)
 have K2:=fun W hW hBW=> zfO s ihT kids (by omega) (fun k h=> ⟨by have:=qi (p:= .def_ (.mk f text joins defs kids)) (q:= .proc kids[k]) (jl (ZM h));omega,by have:=qi (p:= .def_ (.mk f text joins defs kids)) (q:= .proc kids[k]) (jl (ZM h));omega,hf.part (jl (ZM h))⟩)
  B u W a2 p2 h2 hW hBW
 obtain ⟨x0,x1,x2,x3,x4,xf⟩:=yd k0;obtain ⟨nd,hnd⟩:∃n,n=defs.length:=⟨_,rfl⟩;obtain ⟨nk,hnk⟩:∃n,n=kids.length:=⟨_,rfl⟩;obtain ⟨nj,hnj⟩:∃n,n=joins.length:=⟨_,rfl⟩;have HD:=ZH hnd;have HK:=ZH hnk;have HJ:=ZH hnj;rw [<-hnd] at K1 k0 x3 hW1;rw [<-hnk] at K2 k0 x4 hW1;rw [<-hnj] at k0 x2 hW1;rw [<-hnd,<-hnk,<-hnj];have HW:=ZH hW1;rw [hW1] at x0 x1 x2 x3 x4 xf;have H0:=ZH h0;have HK2:=ZH K2;have HB1:=ZH b1;have HK0:=ZH k0;have HK1:=ZH k1;have HZ1:=ZH z1;clear hW1 hnd hnk hnj h0 h1 h2 K2 b1 k0 k1 z1 hs h60 hf ihT ihC hsm;go_enter Tryz.func153,Tryz.ntmps153;go_wp2_with fail;rw [<-HW.out];refine K1.mono ?_;clear K1;rintro e w2 ⟨a1',c1',rfl,hd',g2⟩;have hb2:Below w.heap.size w w2:=HB1.out.trans (g2.mono (by have:=HZ1.out;omega));have q0:=(g2.block w.heap.size (by have:=HZ1.out;omega)).trans HK0.out;have q1:=(g2.block (w.heap.size + 1) (by have:=HZ1.out;omega)).trans HK1.out;clear x0 x1 x2 x3 x4 xf;obtain ⟨x0,x1,x2,x3,x4,xf⟩:=yd q0;have hb2s:=hb2.setCell (show w.heap.size<=(⟨w.heap.size,3,none⟩:Addr).block from ZL _) (.slice a1' nd c1');have q2:=qD q0 3 (.slice a1' nd c1');have q3:=(ZC w2 ⟨w.heap.size,3,none⟩ (.slice a1' nd c1') (w.heap.size + 1) (by simp)).trans q1;have hK2:=HK2.out (w2.setCell ⟨w.heap.size,3,none⟩ (.slice a1' nd c1')) (hu.trans ((Below.keptC hb2s).mono hB)) (by have:=hb2s.size;omega);have HQ:=ZH (And.intro q2 q3);have HD':=ZH hd';have HG2:=ZH g2;have HB2:=ZH (And.intro hb2 hb2s);clear q1 q2 q3 hd' g2 hb2 hb2s q0;go_wp2_with fail;refine hK2.mono ?_;clear hK2;rintro e w3 ⟨a2',c2',rfl,hk',g3⟩;clear x0 x1 x2 x3 x4 xf;obtain ⟨y0,y1,y2,y3,y4,yf⟩:=yd ((g3.block w.heap.size (qS HQ.out.1)).trans HQ.out.1);have q5:=qD ((g3.block w.heap.size (qS HQ.out.1)).trans HQ.out.1) 4 (.slice a2' nk c2');have q6:=(ZC w3 ⟨w.heap.size,4,none⟩ (.slice a2' nk c2') (w.heap.size + 1) (by simp)).trans ((g3.block (w.heap.size + 1) (qS HQ.out.2)).trans HQ.out.2);have hb3:Below w.heap.size w w3:=HB2.out.2.trans (g3.mono HB2.out.2.size);have hb3s:=hb3.setCell (show w.heap.size<=(⟨w.heap.size,4,none⟩:Addr).block from ZL _) (.slice a2' nk c2');obtain ⟨z0,z1,z2,z3,z4,zf⟩:=yd q6;obtain ⟨t0,t1,t2,t3,t4,tf⟩:=yd (a4:= .slice a2' nk c2') q5;have HK':=ZH hk';have HG3:=ZH g3;have HB3:=ZH (And.intro hb3 hb3s);have HQ5:=ZH q5;clear hk' g3 hb3 hb3s q5 q6;go_wp2;simp [bodyPost,results,Tryz.results153,go_sem,z0,z1,z2,z3,z4];clear z0 z1 z2 z3 z4 zf t0 t1 t2 t3 t4 tf y0 y1 y2 y3 y4 yf
 have hL:∀b,b≠w.heap.size->b≠w.heap.size + 1->((((((w3.setCell ⟨w.heap.size,4,none⟩ (.slice a2' nk c2')).setCell ⟨w.heap.size + 1,0,none⟩ (.int .i64 f)).setCell ⟨w.heap.size + 1,1,none⟩ (.string text)).setCell ⟨w.heap.size + 1,2,none⟩ (.slice a0 nj p0)).setCell ⟨w.heap.size + 1,3,none⟩ (.slice a1' nd c1')).setCell ⟨w.heap.size + 1,4,none⟩ (.slice a2' nk c2')).heap[b]?=w3.heap[b]?:=fun b e1 e2=> by
  rw [ZC _ _ _ _ (by simpa using e2),ZC _ _ _ _ (by simpa using e2),ZC _ _ _ _ (by simpa using e2),ZC _ _ _ _ (by simpa using e2),ZC _ _ _ _ (by simpa using e2),ZC _ _ _ _ (by simpa using e1)]
 have hbB:=set5 HB3.out.2 (w.heap.size + 1) (Nat.le_succ _) (.int .i64 f) (.string text) (.slice a0 nj p0) (.slice a1' nd c1') (.slice a2' nk c2');obtain ⟨WB,hWB⟩:∃WB,WB=(((((w3.setCell ⟨w.heap.size,4,none⟩ (.slice a2' nk c2')).setCell ⟨w.heap.size + 1,0,none⟩ (.int .i64 f)).setCell ⟨w.heap.size + 1,1,none⟩ (.string text)).setCell ⟨w.heap.size + 1,2,none⟩ (.slice a0 nj p0)).setCell ⟨w.heap.size + 1,3,none⟩ (.slice a1' nd c1')).setCell ⟨w.heap.size + 1,4,none⟩ (.slice a2' nk c2'):=⟨_,rfl⟩;have zB:WB.heap.size=w3.heap.size:=by rw [hWB];simp [World.setCell]
 rw [<-hWB] at hL hbB ⊢;clear hWB;refine ⟨?_,hbB⟩;exact zli hu hB HB2.out.1 HZ1.out HG2.out HG3.out (hz:=hz) (hJ:=HJ.out) (hl:=l0) H0.out HD'.out HK'.out zB hL hbB
theorem zhC {B A:Nat} {u w w':World} (hBA:B<=A) {r:Value} {vals:List Value} {L:List Term} (ho:w'.ownsRow w.heap.size 33 5 r L.length vals) (hc:zq ze 5 w.heap.size (mid u B A w) vals L) (hb:Below w.heap.size w w') (hA:A<=w.heap.size):
  ∃a c,r= .slice a L.length c/\SlAt w'.heap.size (.slice a L.length c) L.length (fun b off=> zu w'.heap.size (mid u B A w') b off L):=by
 obtain ⟨a,cap,rfl,hk,h⟩:=zJ (by omega) ho;refine ⟨a,cap,rfl,a,cap,rfl,hk,?_⟩;rcases h with h | ⟨g,rfl,hg,hAg,hcell⟩
 ·exact .inl h
 ·refine .inr ⟨g,0,rfl,hg,zu.mk L g 0 fun i hi=> ⟨_,zbH (zag i 5 hcell ?_) (by omega) (by omega),ze.keep (zbM (ZL _) (ZL _) hb.size (fun b _ hlt=> hb.block b hlt)) hb.size _ _ (hc.2 i hi)⟩⟩
  rw [hc.1,<-Nat.succ_mul];exact Nat.mul_le_mul_right 5 hi
theorem zlc {op:Int} {text:ByteArray} {args:List Exp} {defs:List zg} {kids:List Term} {B:Nat} {u w W1 w2 w3 WB:World} {a0:Option Addr} {p0 nj nd nk:Nat} {a1' a2':Option Addr} {c1' c2':Nat} {x:Value} (hu:zh B u w) (hB:B<=w.heap.size) (h2:Below w.heap.size w w2) (z1:W1.heap.size=w.heap.size + 2) (g2:Below W1.heap.size W1 w2)
  (g3:Below (w2.setCell ⟨w.heap.size,3,none⟩ x).heap.size (w2.setCell ⟨w.heap.size,3,none⟩ x) w3) (hz:text.size<=maxLen) (hJ:nj=args.length) (hl:args.length<=9223372036854775807)
  (h0:args.length=0∨∃b off,a0=some ⟨b,off,none⟩/\b < B/\zW B u b off args)
  (hd:SlAt w2.heap.size (.slice a1' nd c1') (zQ defs).length (fun b off=> zr w2.heap.size (mid u B W1.heap.size w2) b off (zQ defs)))
  (hk:SlAt w3.heap.size (.slice a2' nk c2') (qh kids).length (fun b off=> zu w3.heap.size (mid u B (w2.setCell ⟨w.heap.size,3,none⟩ x).heap.size w3) b off (qh kids)))
  (zB:WB.heap.size=w3.heap.size) (hL:∀b,b≠w.heap.size->b≠w.heap.size + 1->WB.heap[b]?=w3.heap[b]?) (hbB:Below w.heap.size w WB):
  ze WB.heap.size (mid u B (w.heap.size + 2) WB) [.int .i64 op, .string text, .slice a0 nj p0, .slice a1' nd c1', .slice a2' nk c2'] (.mk op text args (zQ defs) (qh kids)):=by
 obtain ⟨w2s,hw2s⟩:∃X,X=w2.setCell ⟨w.heap.size,3,none⟩ x:=⟨_,rfl⟩;have hs1:w2s.heap.size=w2.heap.size:=by rw [hw2s];simp [World.setCell]
 have hs2:∀b,b≠w.heap.size->w2s.heap[b]?=w2.heap[b]?:=fun b hb=> by rw [hw2s];exact ZC _ _ _ _ (by simpa using hb)
 rw [<-hw2s] at g3 hk;clear hw2s;rw [z1] at hd;obtain ⟨k1,k2,s1,s2⟩:=zhi (A':=w.heap.size + 2) (ZL _) hB rfl h2 (by have:=g2.size;omega) hs1 hs2 g3 zB hL;unfold ze;have hj:=zjf (v:= .slice a0 args.length p0) ⟨a0,p0,rfl,hl,h0⟩ (zik (A:=w.heap.size + 2) (w:=WB) (by have:=hbB.size;omega)) (show B<=WB.heap.size by have:=hbB.size;omega);rw [<-hJ] at hj;exact ⟨hz,_,_,_,rfl,by rw [hJ] at hj ⊢;exact hj,zcO hd k1 s1,zdz hk k2 s2⟩
theorem zlO (s:Nat) (ihT:zfd s) (ihC:zew s) (op:Int) (text:ByteArray) (args:List Exp) (defs:List zg) (kids:List Term) (hs:(Part.proc (.mk op text args defs kids)).size<=s + 1) (h60:(Part.proc (.mk op text args defs kids)).size<=60) (hf:ye (.mk op text args defs kids))
  (B:Nat) (u w:World) (cs:List Value) (hu:zh B u w) (hB:B<=w.heap.size) (hv:ze B u cs (.mk op text args defs kids)):
  Calls Tryz.prog 108 #[.agg cs.toArray] w fun e w'=> ∃cs',e= .returned (.agg cs'.toArray)/\ze w'.heap.size (mid u B w.heap.size w') cs' (layT (.mk op text args defs kids))/\Below w.heap.size w w':=by
 have hsm:=(zdq hf)
 have HSZ:=ZH (show (Part.proc (.mk op text args (zQ defs) (qh kids))).size<=60 by
  have c1:=xF defs (fun c hc=> hf.part (yu hc));have c2:=zam kids (fun c hc=> hf.part (qV hc));have e1:(Part.proc (.mk op text args (zQ defs) (qh kids))).size=szT (.mk op text args (zQ defs) (qh kids)):=rfl;have e2:(Part.proc (.mk op text args defs kids)).size=szT (.mk op text args defs kids):=rfl;rw [e1,zbv];rw [e2,zbv] at h60;omega)
 have HFN:=ZH (show Fine (.proc (.mk op text args (zQ defs) (qh kids))) from zf4 op text args defs kids hf (zbd defs (fun c hc=> hf.part (yu hc))) (zbf kids (fun c hc=> hf.part (qV hc))));unfold ze at hv;obtain ⟨hz,_,_,_,rfl,⟨a0,p0,rfl,l0,h0⟩,⟨a1,p1,rfl,l1,h1⟩,⟨a2,p2,rfl,l2,h2⟩⟩:=hv;obtain ⟨W1,hW1⟩:∃W1,W1=(w.alloc (.cells #[.int .i64 op, .string text, .slice a0 args.length p0, .slice a1 defs.length p1, .slice a2 kids.length p2] 33)).alloc (.cells #[.int .i64 0, .string ⟨#[]⟩, .slice none 0 0, .slice none 0 0, .slice none 0 0] 33):=⟨_,rfl⟩;have z1:W1.heap.size=w.heap.size + 2:=by rw [hW1];simp
 have b1:Below w.heap.size w W1:=by rw [hW1];exact (ZQ w _).alloc (by simp) _
 have k0:W1.heap[w.heap.size]?=some (.cells #[.int .i64 op, .string text, .slice a0 args.length p0, .slice a1 defs.length p1, .slice a2 kids.length p2] 33):=by
  rw [hW1,ZO _ _ _ (by simp)];exact ZN w _
 have k1:W1.heap[w.heap.size + 1]?=some (.cells #[.int .i64 0, .string ⟨#[]⟩, .slice none 0 0, .slice none 0 0, .slice none 0 0] 33):=by
  rw [hW1];have:=ZN (w.alloc (.cells #[.int .i64 op, .string text, .slice a0 args.length p0, .slice a1 defs.length p1, .slice a2 kids.length p2] 33)) (.cells #[.int .i64 0, .string ⟨#[]⟩, .slice none 0 0, .slice none 0 0, .slice none 0 0] 33)
  rwa [World.size_alloc] at this
 have K1:=zdt s ihC defs (by omega) (fun k h=> ⟨by have:=qi (p:= .proc (.mk op text args defs kids)) (q:= .def_ defs[k]) (yu (ZM h));omega,by have:=qi (p:= .proc (.mk op text args defs kids)) (q:= .def_ defs[k]) (yu (ZM h));omega,hf.part (yu (ZM h))⟩)
  B u W1 a1 p1 h1 (hu.trans ((Below.keptC b1).mono hB)) (by omega)
 have K2:=fun W hW hBW=> zfO s ihT kids (by omega) (fun k h=> ⟨by have:=qi (p:= .proc (.mk op text args defs kids)) (q:= .proc kids[k]) (qV (ZM h));omega,by have:=qi (p:= .proc (.mk op text args defs kids)) (q:= .proc kids[k]) (qV (ZM h));omega,hf.part (qV (ZM h))⟩)
  B u W a2 p2 h2 hW hBW
 obtain ⟨x0,x1,x2,x3,x4,xf⟩:=yd k0;obtain ⟨nd,hnd⟩:∃n,n=defs.length:=⟨_,rfl⟩;obtain ⟨nk,hnk⟩:∃n,n=kids.length:=⟨_,rfl⟩;obtain ⟨nj,hnj⟩:∃n,n=args.length:=⟨_,rfl⟩;have HD:=ZH hnd;have HK:=ZH hnk;have HJ:=ZH hnj;rw [<-hnd] at K1 k0 x3 hW1;rw [<-hnk] at K2 k0 x4 hW1;rw [<-hnj] at k0 x2 hW1;rw [<-hnd,<-hnk,<-hnj];have HW:=ZH hW1;rw [hW1] at x0 x1 x2 x3 x4 xf;have H0:=ZH h0;have HK2:=ZH K2;have HB1:=ZH b1;have HK0:=ZH k0;have HK1:=ZH k1;have HZ1:=ZH z1;clear hW1 hnd hnk hnj h0 h1 h2 K2 b1 k0 k1 z1 hs h60 hf ihT ihC hsm;go_enter Tryz.func108,Tryz.ntmps108;go_wp2_with fail;rw [<-HW.out];refine K1.mono ?_;clear K1;rintro e w2 ⟨a1',c1',rfl,hd',g2⟩;have hb2:Below w.heap.size w w2:=HB1.out.trans (g2.mono (by have:=HZ1.out;omega));have q0:=(g2.block w.heap.size (by have:=HZ1.out;omega)).trans HK0.out;have q1:=(g2.block (w.heap.size + 1) (by have:=HZ1.out;omega)).trans HK1.out;clear x0 x1 x2 x3 x4 xf;obtain ⟨x0,x1,x2,x3,x4,xf⟩:=yd q0;have hb2s:=hb2.setCell (show w.heap.size<=(⟨w.heap.size,3,none⟩:Addr).block from ZL _) (.slice a1' nd c1');have q2:=qD q0 3 (.slice a1' nd c1');have q3:=(ZC w2 ⟨w.heap.size,3,none⟩ (.slice a1' nd c1') (w.heap.size + 1) (by simp)).trans q1;have hK2:=HK2.out (w2.setCell ⟨w.heap.size,3,none⟩ (.slice a1' nd c1')) (hu.trans ((Below.keptC hb2s).mono hB)) (by have:=hb2s.size;omega);have HQ:=ZH (And.intro q2 q3);have HD':=ZH hd';have HG2:=ZH g2;have HB2:=ZH (And.intro hb2 hb2s);clear q1 q2 q3 hd' g2 hb2 hb2s q0;go_wp2_with fail;refine hK2.mono ?_;clear hK2;rintro e w3 ⟨a2',c2',rfl,hk',g3⟩;clear x0 x1 x2 x3 x4 xf;obtain ⟨y0,y1,y2,y3,y4,yf⟩:=yd ((g3.block w.heap.size (qS HQ.out.1)).trans HQ.out.1);have q5:=qD ((g3.block w.heap.size (qS HQ.out.1)).trans HQ.out.1) 4 (.slice a2' nk c2');have q6:=(ZC w3 ⟨w.heap.size,4,none⟩ (.slice a2' nk c2') (w.heap.size + 1) (by simp)).trans ((g3.block (w.heap.size + 1) (qS HQ.out.2)).trans HQ.out.2);have hb3:Below w.heap.size w w3:=HB2.out.2.trans (g3.mono HB2.out.2.size);have hb3s:=hb3.setCell (show w.heap.size<=(⟨w.heap.size,4,none⟩:Addr).block from ZL _) (.slice a2' nk c2');obtain ⟨z0,z1,z2,z3,z4,zf⟩:=yd q6;obtain ⟨t0,t1,t2,t3,t4,tf⟩:=yd (a4:= .slice a2' nk c2') q5;have hb3s':=hb3s;obtain ⟨w3s,hw3s⟩:∃X,X=w3.setCell ⟨w.heap.size,4,none⟩ (.slice a2' nk c2'):=⟨_,rfl⟩;have hz3s:w3s.heap.size=w3.heap.size:=by rw [hw3s];simp [World.setCell]
 have hL3:∀b,b≠w.heap.size->b≠w.heap.size + 1->w3s.heap[b]?=w3.heap[b]?:=fun b e1 e2=> by rw [hw3s];exact ZC _ _ _ _ (by simpa using e1)
 have hmid:=zlc (args:=args) (op:=op) (p0:=p0) hu hB HB2.out.1 HZ1.out HG2.out g3 hz HJ.out l0 H0.out HD'.out hk' hz3s hL3 (by rw [hw3s];exact hb3s);have hsp:=zfK w3s.heap.size (mid u B (w.heap.size + 2) w3s) 60 _ HSZ.out (ZL _) HFN.out _ w3s hmid (zdn (hu.trans ((Below.keptC (show Below w.heap.size w w3s by rw [hw3s];exact hb3s)).mono hB)) _ _) (ZL _);rw [<-hw3s] at hb3s q6 z0 z1 z2 z3 z4 zf t0 t1 t2 t3 t4 tf;have HW3:=ZH hw3s;rw [hw3s] at z0 z1 z2 z3 z4 zf t0 t1 t2 t3 t4 tf;have HB3:=ZH hb3s;have HQ6:=ZH q6;clear hk' g3 hb3 hb3s hb3s' q5 q6 hw3s hmid hz3s hL3;go_wp2_with fail;rw [<-HW3.out];refine hsp.mono ?_;clear hsp;rintro e w4 ⟨r,vals,rfl,ho4,hc4,g4⟩;obtain ⟨ra,rc,rfl,hsl⟩:=zhC (by omega) ho4 hc4 g4 (by have:=HB3.out.size;have:=HQ6.out;have:=qS HQ6.out;omega);have q7:=(g4.block (w.heap.size + 1) (qS HQ6.out)).trans HQ6.out;have hjn:=zeW _ (by have:=zaa (.mk op text args (zQ defs) (qh kids));have e:(Part.proc (.mk op text args (zQ defs) (qh kids))).size=(qL 0 (.mk op text args (zQ defs) (qh kids))).length:=rfl;have:=HSZ.out;omega) w4.heap.size (mid u B (w.heap.size + 2) w4) w4 _ (zdn (hu.trans ((Below.keptC (HB3.out.trans (g4.mono HB3.out.size))).mono hB)) _ _) (ZL _) hsl;have HB4:=ZH (HB3.out.trans (g4.mono HB3.out.size));have HQ7:=ZH q7;clear z0 z1 z2 z3 z4 zf t0 t1 t2 t3 t4 tf y0 y1 y2 y3 y4 yf ho4 hc4 g4 hsl q7;obtain ⟨LL,hLL⟩:∃L,L=zG (.mk op text args (zQ defs) (qh kids)):=⟨_,rfl⟩;rw [<-hLL] at hjn ⊢;have HLL:=ZH hLL;clear hLL;go_wp2_with fail;refine hjn.mono ?_;clear hjn;rintro e w5 ⟨cs5,rfl,g5,hX⟩;have q8:=(g5.block (w.heap.size + 1) (qS HQ7.out)).trans HQ7.out;obtain ⟨z0,z1,z2,z3,z4,zf⟩:=yd q8;have hT0:=hX w5 ((zdn (hu.trans ((Below.keptC HB4.out).mono hB)) _ _).trans ((Below.keptC g5).mono (ZL _))) (fun _ _ _ _ h=> h);obtain ⟨c0,c1,c2,c3,c4,c5,c6,c7,c8,c9,cA,rfl⟩:=zz hT0;have HX:=ZH hX;have HG5:=ZH g5;clear hX hT0 q8 g5;go_wp2;simp [bodyPost,results,Tryz.results108,go_sem,z0,z1,z2,z3,z4];clear z0 z1 z2 z3 z4 zf;have hbB:=set5 (HB4.out.trans (HG5.out.mono HB4.out.size)) (w.heap.size + 1) (Nat.le_succ _) (.int .i64 c0) (.string c1) (.slice c2 c3 c4) (.slice c5 c6 c7) (.slice c8 c9 cA);have hL:=(xo (qj.refl (w.heap.size + 2) w5) (w.heap.size + 1) (Nat.lt_succ_self _) (.int .i64 c0) (.string c1) (.slice c2 c3 c4) (.slice c5 c6 c7) (.slice c8 c9 cA)).2;obtain ⟨WB,hWB⟩:∃WB,WB=((((w5.setCell ⟨w.heap.size + 1,0,none⟩ (.int .i64 c0)).setCell ⟨w.heap.size + 1,1,none⟩ (.string c1)).setCell ⟨w.heap.size + 1,2,none⟩ (.slice c2 c3 c4)).setCell ⟨w.heap.size + 1,3,none⟩ (.slice c5 c6 c7)).setCell ⟨w.heap.size + 1,4,none⟩ (.slice c8 c9 cA):=⟨_,rfl⟩;have HZB:w5.heap.size<=WB.heap.size:=by rw [hWB];simp [World.setCell]
 rw [<-hWB] at hL hbB ⊢;clear hWB;refine ⟨?_,hbB⟩;rw [layT,<-HLL.out];have hz5:w5.heap.size<=WB.heap.size:=HZB
 exact HX.out (mid u B w.heap.size WB) (zbM (by omega) (ZL _) (by have:=HG5.out.size;omega) (fun b hb hlt=> (hL b hb (by have:=HG5.out.size;omega)).trans (HG5.out.block b hlt))) (fun b o x hb hx=> by
  have h4:=HB4.out.size;have h7:=qS HQ7.out;have h8:=zD hx;exact (yM u B w.heap.size WB b o x).2 ⟨by omega, .inr ⟨by omega,by omega,(ZB (w:=w5) (hL b (by omega) h8)).trans hx⟩⟩)
theorem zmo:∀s,zfd s/\zew s:=by
 intro s
 induction s with
 | zero=>
  refine ⟨fun t ht=> ?_,fun t ht=> ?_⟩
  ·have:=yD (.proc t);omega
  ·have:=yD (.def_ t);omega
 | succ s ih=>
  refine ⟨fun t ht h60 hf B u w cs hu hB hv=> ?_,fun t ht h60 hf B u w cs hu hB hv=> ?_⟩
  ·obtain ⟨op,text,args,defs,kids⟩:=t
   exact zlO s ih.1 ih.2 op text args defs kids ht h60 hf B u w cs hu hB hv
  ·obtain ⟨f,text,joins,defs,kids⟩:=t
   exact zlH s ih.1 ih.2 f text joins defs kids ht h60 hf B u w cs hu hB hv
end
section
open Go.RowKit Go.Shelf Go.Maps Go.WideMaps
abbrev z33:Obj:= .cells #[.int .i64 0, .string ⟨#[]⟩, .slice none 0 0, .slice none 0 0, .slice none 0 0] 33
def Av (N:Nat) (k:Option Nat) (W:World) (cs:List Value) (x:Term):Prop:=
 ∃U:World,(∀b o v,U.cell? ⟨b,o,none⟩=some v->N<=b/\k≠some b/\W.cell? ⟨b,o,none⟩=some v)/\ze W.heap.size U cs x
theorem Av.alloc {N:Nat} {W:World} {cs:List Value} {x:Term} {k:Option Nat} (h:Av N k W cs x) (o:Obj):Av N (some W.heap.size) (W.alloc o) cs x:=by
 obtain ⟨U,h1,h2⟩:=h;refine ⟨U,fun b o' v hv=> ?_,ze.keep (zh.refl _ U) (by simp) _ _ h2⟩;obtain ⟨a1,_,a3⟩:=h1 b o' v hv;have hlt:=zD a3;exact ⟨a1,fun e=> by have:=ZJ e;omega,(ZP _ _ _ hlt).trans a3⟩
theorem Av.at_ {N:Nat} {W W':World} {cs:List Value} {x:Term} {k:Option Nat} (h:Av N k W cs x) (hs:W.heap.size<=W'.heap.size) (hk:∀b,k≠some b->b < W.heap.size->W'.heap[b]?=W.heap[b]?):ze W'.heap.size (blank N W') cs x:=by
 obtain ⟨U,h1,h2⟩:=h;refine ze.keep (fun b o v _ hv=> ?_) hs _ _ h2;obtain ⟨a1,a2,a3⟩:=h1 b o v hv;rw [yT,if_neg (by omega)];exact (ZB (w:=W) (hk b a2 (zD a3))).trans a3
theorem Av.lay {N:Nat} {W:World} {cs:List Value} {t:Term} {k:Option Nat} (h:Av N k W cs t) (hN:N<=W.heap.size) (hk:∀j,k=some j->j < W.heap.size) (hf:zT (.proc t)):
  Calls Tryz.prog 108 #[.agg cs.toArray] W fun e w'=> ∃cs',e= .returned (.agg cs'.toArray)/\Av N k w' cs' (layT t)/\Below W.heap.size W w':=by
 obtain ⟨U,h1,h2⟩:=h;refine ((zmo 60).1 t hf.1 hf.1 (zav hf) W.heap.size U W cs (fun b o v _ hv=> (h1 b o v hv).2.2) (ZL _) h2).mono ?_;rintro e w' ⟨cs',rfl,h3,h4⟩;refine ⟨cs',rfl,⟨_,fun b o v hv=> ?_,h3⟩,h4⟩;obtain ⟨g1,g2⟩:=(yM _ _ _ _ _ _ _).1 hv;rcases g2 with ⟨g2,g3⟩ | ⟨g2,_,g3⟩
 ·obtain ⟨a1,a2,a3⟩:=h1 b o v g3
  exact ⟨a1,a2,(h4.cell (p:=⟨b,o,none⟩) g2).trans a3⟩
 ·exact ⟨by omega,fun e=> by have:=hk b e;omega,g3⟩
def Sk (W0:World) (k:Option Nat) (W:World):Prop:=Below W0.heap.size W0 W/\∀j,k=some j->W0.heap.size<=j/\qr W j
theorem Sk.mono {W0 W W':World} {k:Option Nat} (h:Sk W0 k W) (hb:Below W.heap.size W W'):Sk W0 k W':=by
 obtain ⟨h1,h2⟩:=h;exact ⟨h1.trans (hb.mono h1.size),fun j hj=> ⟨(h2 j hj).1,(hb.block j (qS (h2 j hj).2)).trans (h2 j hj).2⟩⟩
theorem Sk.alloc {W0 W:World} {k:Option Nat} (h:Sk W0 k W):Sk W0 (some W.heap.size) (W.alloc z33):=
 ⟨h.1.alloc h.1.size _,fun j hj=> by
  obtain rfl:=ZJ hj;exact ⟨h.1.size,ZN W _⟩⟩

def anewOf (t:Term):Term:=match yl anew0 (qE 60 (.proc t)) t with
 | some y=> y.1
 | none=> t
theorem anewOf_facts {t:Term} (h:zT (.proc t)):(∃U,yl anew0 (qE 60 (.proc t)) t=some (anewOf t,U))/\zT (.proc (anewOf t))/\anewOf (anewOf t)=anewOf t/\
  (∀k,fT (anewOf t) k=fT t k)/\(Part.proc (anewOf t)).size=(Part.proc t).size/\(Part.proc (anewOf t)).depth=(Part.proc t).depth:=by
 obtain ⟨c,U,h1,h2,h3⟩:=canon_facts h;have e1:anewOf t=c:=by unfold anewOf;rw [h1]
 have e2:anewOf c=c:=by unfold anewOf;rw [h2]
 rw [e1,e2];exact ⟨⟨U,h1⟩,h3.1,rfl,h3.2⟩
theorem pcanon_ok (t:Term) (hf:zT (.proc t)) (B:Nat) (u w:World) (cs:List Value) (hu:zh B u w) (hB:B<=w.heap.size) (hat:ze B u cs t):
  Calls Tryz.prog 42 #[.agg cs.toArray] w fun e' w'=> ∃cs',e'= .returned (.tuple #[.agg cs'.toArray, .int .i64 0])/\ze w'.heap.size w' cs' (anewOf t)/\Below w.heap.size w w':=by
 obtain ⟨⟨U,h1⟩,_⟩:=anewOf_facts hf;exact zkS B u t hf cs hat w hu hB (anewOf t,U) h1 60 (cov0 hf) (bc0 hf)
theorem alike_yes (t t2:Term) (hf:zT (.proc t)) (hf2:zT (.proc t2)) (he:anewOf t2=anewOf t) (B:Nat) (u w:World) (c1 c2:List Value) (hu:zh B u w) (hB:B<=w.heap.size) (h1:ze B u c1 t) (h2:ze B u c2 t2):
  Calls Tryz.prog 39 #[.agg c1.toArray, .agg c2.toArray] w fun e w'=> e= .returned (.tuple #[.bool true, .int .i64 0])/\Below w.heap.size w w':=by
 obtain ⟨o0,tx,s0,m0,k0,s1,m1,k1,s2,m2,k2,rfl⟩:=zz h1;obtain ⟨p0,ux,r0,l0,q0,r1,l1,q1,r2,l2,q2,rfl⟩:=zz h2;obtain ⟨W1,hW1⟩:∃W1,W1=(w.alloc (.cells #[.int .i64 o0, .string tx, .slice s0 m0 k0, .slice s1 m1 k1, .slice s2 m2 k2] 33)).alloc (.cells #[.int .i64 p0, .string ux, .slice r0 l0 q0, .slice r1 l1 q1, .slice r2 l2 q2] 33):=⟨_,rfl⟩;have b1:Below w.heap.size w W1:=by rw [hW1];exact (ZQ w _).alloc (by simp) _
 have z1:W1.heap.size=w.heap.size + 2:=by rw [hW1];simp
 have hrd:∀W,Below W1.heap.size W1 W->(W.cell? ⟨w.heap.size + 1,0,none⟩=some (.int .i64 p0)/\W.cell? ⟨w.heap.size + 1,1,none⟩=some (.string ux)/\W.cell? ⟨w.heap.size + 1,2,none⟩=some (.slice r0 l0 q0)/\W.cell? ⟨w.heap.size + 1,3,none⟩=some (.slice r1 l1 q1)/\W.cell? ⟨w.heap.size + 1,4,none⟩=some (.slice r2 l2 q2))/\zh B u W/\B<=W.heap.size/\Below w.heap.size w W:=fun W hW=> by
  have hb:=b1.trans (hW.mono (by omega));have q1:∀o,W.cell? ⟨w.heap.size + 1,o,none⟩=W1.cell? ⟨w.heap.size + 1,o,none⟩:=fun o=> hW.cell (p:=⟨w.heap.size + 1,o,none⟩) (by simp;omega);refine ⟨?_,hu.trans ((Below.keptC hb).mono hB),by have:=hb.size;omega,hb⟩;rw [q1,q1,q1,q1,q1,hW1];simp only [ZA _ _ _ _ (show w.heap.size + 1=(w.alloc (.cells #[.int .i64 o0, .string tx, .slice s0 m0 k0, .slice s1 m1 k1, .slice s2 m2 k2] 33)).heap.size by simp)];exact ⟨rfl,rfl,rfl,rfl,rfl⟩
 have r1':=hrd W1 (ZF _ _);have K1:=pcanon_ok t hf B u W1 _ r1'.2.1 r1'.2.2.1 h1;have K2:=fun W h1' h2'=> pcanon_ok t2 hf2 B u W _ h1' h2' h2;rw [he] at K2;obtain ⟨c,hc⟩:∃c,c=anewOf t:=⟨_,rfl⟩;rw [<-hc] at K1 K2;have HW:=ZH hW1;have HRD:=ZH hrd;have HK2:=ZH K2;have HZ1:=ZH z1;clear hW1 hrd K2 z1 b1 r1' h1 h2 hc he hf hf2;go_enter Tryz.func39,Tryz.ntmps39;go_wp2_with fail;rw [<-HW.out];refine K1.mono ?_;clear K1;rintro e' w1 ⟨cs1,rfl,hx,k1'⟩;obtain ⟨x0,x1,x2,x3,x4,x5,x6,x7,x8,x9,xA,rfl⟩:=zz hx;obtain ⟨W2,hW2⟩:∃W2,W2=w1.alloc (.cells #[.int .i64 x0, .string x1, .slice x2 x3 x4, .slice x5 x6 x7, .slice x8 x9 xA] 33):=⟨_,rfl⟩;have z2:W2.heap.size=w1.heap.size + 1:=by rw [hW2];simp
 have b2:Below w1.heap.size w1 W2:=by rw [hW2];exact ZQ w1 _
 have hxb:∀W,Below W2.heap.size W2 W->(W.cell? ⟨w1.heap.size,0,none⟩=some (.int .i64 x0)/\W.cell? ⟨w1.heap.size,1,none⟩=some (.string x1)/\W.cell? ⟨w1.heap.size,2,none⟩=some (.slice x2 x3 x4)/\W.cell? ⟨w1.heap.size,3,none⟩=some (.slice x5 x6 x7)/\W.cell? ⟨w1.heap.size,4,none⟩=some (.slice x8 x9 xA))/\zh w1.heap.size w1 W/\w1.heap.size<=W.heap.size/\Below W1.heap.size W1 W:=fun W hW=> by
  have q:∀o,W.cell? ⟨w1.heap.size,o,none⟩=W2.cell? ⟨w1.heap.size,o,none⟩:=fun o=> hW.cell (p:=⟨w1.heap.size,o,none⟩) (by simp;omega);have hb:=b2.trans (hW.mono (by omega));refine ⟨?_,Below.keptC hb,hb.size,k1'.trans (hb.mono k1'.size)⟩;rw [q,q,q,q,q,hW2];simp only [ZA _ _ _ _ rfl];exact ⟨rfl,rfl,rfl,rfl,rfl⟩
 have g2:=hxb W2 (ZF _ _);obtain ⟨⟨v0,v1,v2,v3,v4⟩,ku,kz,_⟩:=HRD.out W2 g2.2.2.2;have K2:=HK2.out W2 ku kz;have HW2:=ZH hW2;have HXB:=ZH hxb;have HX:=ZH hx;have HZ2:=ZH z2;rw [HW2.out] at v0 v1 v2 v3 v4;clear hW2 hxb hx z2 g2 ku kz b2 k1' HK2;go_wp2_with fail;rw [<-HW2.out];refine K2.mono ?_;clear K2 v0 v1 v2 v3 v4;rintro e' w2 ⟨cs2,rfl,hy,k2'⟩;obtain ⟨y0,y1,y2,y3,y4,y5,y6,y7,y8,y9,yA,rfl⟩:=zz hy;obtain ⟨W3,hW3⟩:∃W3,W3=w2.alloc (.cells #[.int .i64 y0, .string y1, .slice y2 y3 y4, .slice y5 y6 y7, .slice y8 y9 yA] 33):=⟨_,rfl⟩;have z3:W3.heap.size=w2.heap.size + 1:=by rw [hW3];simp
 have b3:Below w2.heap.size w2 W3:=by rw [hW3];exact ZQ w2 _
 have hcy:W3.cell? ⟨w2.heap.size,0,none⟩=some (.int .i64 y0)/\W3.cell? ⟨w2.heap.size,1,none⟩=some (.string y1)/\W3.cell? ⟨w2.heap.size,2,none⟩=some (.slice y2 y3 y4)/\W3.cell? ⟨w2.heap.size,3,none⟩=some (.slice y5 y6 y7)/\W3.cell? ⟨w2.heap.size,4,none⟩=some (.slice y8 y9 yA):=by
  rw [hW3];simp only [ZA _ _ _ _ rfl];exact ⟨rfl,rfl,rfl,rfl,rfl⟩
 have k23:=k2'.trans (b3.mono k2'.size);obtain ⟨⟨u0,u1,u2,u3,u4⟩,kx,kxz,kb⟩:=HXB.out W3 k23;obtain ⟨v0,v1,v2,v3,v4⟩:=hcy;have hcall:=eq_any c W3.heap.size W3 W3 _ _ (zh.refl _ _) (ZL _) (ze.keep kx kxz _ _ HX.out) (ze.keep (Below.keptC b3) b3.size _ _ hy);have HKB:=ZH (HRD.out W3 kb).2.2.2;have HW3:=ZH hW3;rw [HW3.out] at u0 u1 u2 u3 u4 v0 v1 v2 v3 v4;clear hW3 z3 b3 k23 kx kxz kb hy k2';go_wp2_with fail;rw [<-HW3.out];refine hcall.mono ?_;clear hcall u0 u1 u2 u3 u4 v0 v1 v2 v3 v4;rintro e' w3 ⟨rfl,k3⟩;go_wp2;go_ret2;exact ⟨rfl,HKB.out.trans (k3.mono HKB.out.size)⟩
end
end Go.Proofs.YtjmlaeofjjhfmaaGreat
