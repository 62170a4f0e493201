/- Lemmas. -/
import Derived.Test.YtjmlaeofjjhfmaaGreatQ46
import Derived.Test.YtjmlaeofjjhfmaaGreatQ32
import Derived.Test.YtjmlaeofjjhfmaaGreatQ25
set_option linter.unusedVariables false
set_option linter.unusedSimpArgs false
set_option maxRecDepth 10000
set_option maxHeartbeats 16000000
namespace Go.Proofs.YtjmlaeofjjhfmaaGreat
section
open Go.RowKit Go.Shelf Go.Maps Go.WideMaps
theorem Tryz.results102:Tryz.f102.results=#[.cell 1 33]:=by kernel_rfl
def BesW (l:List Term) (A:Nat) (e:Ending) (w':World):Prop:=
 (qm l=0/\∃cs',e= .returned (.agg cs'.toArray)/\ze w'.heap.size (blank A w') cs' (qw l))∨(qm l≠0/\e= .panicked (yn (qm l)))
theorem zla (l:List Term) (hlen:l.length<=1000) (B:Nat) (u:World) (a:Option Addr) (cap:Nat) (hx:l.length=0∨∃b off,a=some ⟨b,off,none⟩/\b < B/\zu B u b off l)
  (w:World) (hu:zh B u w) (hB:B<=w.heap.size) (n0:Nat) (c0:w.cell? ⟨n0,0,none⟩=some (.slice a l.length cap)):
  Calls Tryz.prog 102 #[.pointer (some ⟨n0,0,none⟩)] w fun e' w'=> BesW l w.heap.size e' w'/\Below w.heap.size w w':=by
 obtain ⟨W0,hW0⟩:∃W0,W0=w.alloc (.cells #[.int .i64 0, .string ⟨#[]⟩, .slice none 0 0, .slice none 0 0, .slice none 0 0] 33):=⟨_,rfl⟩;have hb0:Below w.heap.size w W0:=by rw [hW0];exact ZQ w _
 have hz:W0.heap.size=w.heap.size + 1:=by rw [hW0];simp
 have z0:qr W0 w.heap.size:=by unfold qr;rw [hW0];exact ZN w _
 have hrd:∀W k,Sk W0 k W->W.cell? ⟨n0,0,none⟩=some (.slice a l.length cap)/\zh B u W/\B<=W.heap.size/\qr W w.heap.size/\Below w.heap.size w W:=by
  intro W k h;have hbW:=hb0.trans (h.1.mono (by omega));exact ⟨(hbW.cell (p:=⟨n0,0,none⟩) (zD c0)).trans c0,hu.trans ((Below.keptC hbW).mono hB),by have:=hbW.size;omega,(h.1.block _ (by omega)).trans z0,hbW⟩
 have hcop:∀W k,Sk W0 k W->Calls Tryz.prog 101 #[] W fun e w'=> e= .returned (.agg #[.iface 116 (.agg #[.map none]), .map none])/\Sk W0 k w':=fun W k h=>
  (zbh W).mono fun _ w' ⟨h1,h2⟩=> ⟨h1,h.mono h2⟩
 have hcp:(∀t∈l,zT (.proc t))->∀W k,Sk W0 k W->Calls Tryz.prog 105 #[.slice a l.length cap, .func (.func 87) #[.agg #[.iface 116 (.agg #[.map none]), .map none]] #[]] W fun e' w'=>
   ∃a' c',e'= .returned (.slice a' l.length c')/\Hid (Rv W0.heap.size k w' (.slice a' l.length c') l)/\Sk W0 k w':=fun hf W k h=> by
  obtain ⟨_,hu1,hB1,_⟩:=hrd W k h;refine (ziz l hlen hf B u W a cap hu1 hB1 hx).mono ?_;rintro e' w' ⟨a',c',rfl,h1,h3⟩;refine ⟨a',c',rfl,ZH ⟨_,fun b o v hv=> ?_,h1⟩,h.mono h3⟩;rw [yT] at hv;by_cases hlt:b < W.heap.size
  ·rw [if_pos hlt] at hv;cases hv
  ·rw [if_neg hlt] at hv
   exact ⟨by have:=h.1.size;omega,fun e=> by have:=qS (h.2 b e).2;omega,hv⟩
 have hly:∀W k v,Sk W0 k W->Hid (Rv W0.heap.size k W v l)->Calls Tryz.prog 104 #[v] W fun e' w'=> ∃(x1:Int) (x2:ByteArray) (x3:Option Addr) (x4 x5:Nat) (x6:Option Addr) (x7 x8:Nat) (x9:Option Addr) (xA xB:Nat),e'= .returned (.agg #[.int .i64 x1, .string x2, .slice x3 x4 x5, .slice x6 x7 x8, .slice x9 xA xB])/\Hid (Av W0.heap.size k w' [.int .i64 x1, .string x2, .slice x3 x4 x5, .slice x6 x7 x8, .slice x9 xA xB] (qw l))/\Sk W0 k w'/\
   (∀j,k=some j->w'.cell? ⟨j,0,none⟩=some (.int .i64 0))/\(∀j,k=some j->w'.cell? ⟨j,1,none⟩=some (.string ⟨#[]⟩))/\(∀j,k=some j->w'.cell? ⟨j,2,none⟩=some (.slice none 0 0))/\(∀j,k=some j->w'.cell? ⟨j,3,none⟩=some (.slice none 0 0))/\(∀j,k=some j->w'.cell? ⟨j,4,none⟩=some (.slice none 0 0))/\(∀j,k=some j->∀o,w'.frozen? ⟨j,o,none⟩=false):=fun W k v h ht=> by
  refine (Rv.join ht.out h.1.size (fun j hj=> qS (h.2 j hj).2) hlen).mono ?_;rintro e' w' ⟨cs'',rfl,h1,h2⟩;obtain ⟨U,h3,h4⟩:=id h1;obtain ⟨x1,x2,x3,x4,x5,x6,x7,x8,x9,xA,xB,rfl⟩:=zz h4;have h5:=h.mono h2;have hz:=fun j e=> (h5.2 j e).2.cells;exact ⟨x1,x2,x3,x4,x5,x6,x7,x8,x9,xA,xB,rfl,ZH h1,h5,fun j e=> (hz j e).1,fun j e=> (hz j e).2.1,fun j e=> (hz j e).2.2.1,fun j e=> (hz j e).2.2.2.1,fun j e=> (hz j e).2.2.2.2.1,fun j e=> (hz j e).2.2.2.2.2⟩
 have g0:Sk W0 none W0:=⟨ZF _ _,fun _ h=> by cases h⟩;have HW:=ZH hW0;have HZ:=ZH hz;obtain ⟨a0,-⟩:=hrd W0 _ g0;rw [hW0] at a0;obtain ⟨S,hS⟩:∃S,S=Sk W0:=⟨_,rfl⟩;have hSa:∀W k n,S k W->n=W.heap.size->S (some n) (W.alloc z33):=fun W k n h e=> by rw [hS] at h ⊢;rw [e];exact h.alloc
 have hSz:∀W j,S (some j) W->qr W j:=fun W j h=> by rw [hS] at h;exact (h.2 j rfl).2
 rw [<-hS] at hrd hcop hcp hly
 have hne:∀W k,S k W->(¬n0=W.heap.size)/\¬W.heap.size=n0:=fun W k h=> by
  have:=zD (hrd W k h).1;exact ⟨fun e=> by omega,fun e=> by omega⟩
 have HS:=ZH hS;have HRD:=ZH hrd;have HZ0:=ZH z0;have HB0:=ZH hb0;clear c0 hS hW0 hz g0 z0 hb0 hrd hu hB;go_enter Tryz.func102,Tryz.ntmps102;go_wp2;rw [<-HW.out];clear a0
 go_loopw [7] (fun i wr=> ∃(k:Nat),k<=l.length/\i= .int .i64 k/\Hid (Below W0.heap.size W0 wr/\∀j,(h:j < k)->(h2:j < l.length)->zL (.proc l[j])=true)) (fun i _=> l.length - (intOf i).toNat)
 case atStart=> exact ⟨0,by omega,rfl,ZH ⟨ZF _ _,fun j h=> by omega⟩⟩
 case round=>
  obtain ⟨k,hk,rfl,hinv⟩:=hrel;have hbr:=hinv.out.1;have gr:S none wr:=by rw [HS.out];exact ⟨hbr,fun _ h=> by cases h⟩
  obtain ⟨q0,hku,hkB,-,hbw⟩:=HRD.out wr _ gr;by_cases hlt:k < l.length
  ·
   rcases hx with h0 | ⟨b0,o0,rfl,hB0,hc0⟩
   ·omega
   obtain ⟨d1,e1,f1⟩:=zu.get l b0 o0 hc0 k hlt
   have hstep:zL (.proc l[k])=true->∀w3,Below wr.heap.size wr w3->Hid (Below W0.heap.size W0 w3/\∀j,(h:j < k + 1)->(h2:j < l.length)->zL (.proc l[j])=true):=fun hf w3 h3=> ZH ⟨hbr.trans (h3.mono hbr.size),fun j h h2=> by
    by_cases hj:j=k
    ·subst hj;exact hf
    ·exact hinv.out.2 j (by omega) h2⟩
   have hno:=fun hf=> zjK hlt hf;obtain ⟨tk,htk⟩:∃x,x=l[k]:=⟨_,rfl⟩;rw [<-htk] at f1 hstep hno;obtain ⟨g0,g1,g2,g3,g4,g5,g6,g7,g8,g9,gA,rfl⟩:=zz f1;obtain ⟨s0,s1,s2,s3,s4⟩:=zK (e1.keep hku hB0);have hbA:Below wr.heap.size wr (wr.alloc (.cells #[.int .i64 g0, .string g1, .slice g2 g3 g4, .slice g5 g6 g7, .slice g8 g9 gA] 33)):=ZQ wr _;have hpt:zY B u (.iface 83 (.agg #[.int .i64 g0, .string g1, .slice g2 g3 g4, .slice g5 g6 g7, .slice g8 g9 gA])) (.proc tk):=⟨_,rfl,f1⟩;have hck:=zd1 B u _ _ (wr.alloc (.cells #[.int .i64 g0, .string g1, .slice g2 g3 g4, .slice g5 g6 g7, .slice g8 g9 gA] 33)) (hku.trans ((Below.keptC hbA).mono hkB)) (by have:=hbA.size;omega) hpt;have hck:Calls Tryz.prog 65 #[.iface 83 (.agg #[.int .i64 g0, .string g1, .slice g2 g3 g4, .slice g5 g6 g7, .slice g8 g9 gA])] (wr.alloc (.cells #[.int .i64 g0, .string g1, .slice g2 g3 g4, .slice g5 g6 g7, .slice g8 g9 gA] 33)) fun e w'=> zfp (.proc tk) e/\Below wr.heap.size wr w':=hck.mono fun e w' ⟨h1,h2⟩=> ⟨h1,hbA.trans (h2.mono hbA.size)⟩;have HST:=ZH hstep;have HNO:=ZH hno;have HBW:=ZH hbw;clear hstep hno e1 f1 hc0 htk hku hkB hbr hbw hinv hpt hbA gr hcop hcp hly hSa hSz hne;go_wp2_with fail;refine hck.mono ?_;clear hck;rintro e w3 ⟨⟨hf,rfl⟩ | ⟨hf,rfl⟩,hb3⟩
   ·have HF:=HST.out (qI.1 hf) w3 hb3
    clear hb3 hf;go_wp2;go_roundw
    case rel=> exact ⟨k + 1,by omega,by go_num,HF⟩
    case measure=> simp [intOf];omega
   ·have hc:qm l=2:=HNO.out (by cases h:zL (.proc tk) with
     | false=> rfl
     | true=> exact absurd (qI.2 h) hf)
    exact ⟨rfl, .inr ⟨by rw [hc];decide,by rw [hc]⟩,HBW.out.trans (hb3.mono HBW.out.size)⟩
  ·obtain rfl:k=l.length:=by omega
   have hall:l.all (fun t=> zL (.proc t))=true:=by
    rw [List.all_eq_true];intro t ht;obtain ⟨j,hj,rfl⟩:=List.getElem_of_mem ht;exact hinv.out.2 j hj hj
   have hcode:qm l=if 60 < l.length then 3 else if zL (.proc (qw l))=true then 0 else 3:=by
    unfold qm;rw [if_neg (by rw [hall];decide)]
   have hfs:∀t∈l,zT (.proc t):=fun t ht=> qI.2 (List.all_eq_true.1 hall t ht);by_cases h60:60 < l.length
   ·
    have HC:Hid (qm l=3):=ZH (by rw [hcode,if_pos h60]);have h60':(60:Int) < (l.length:Int):=by omega
    have HBW:=ZH hbw;clear hcode hall hinv hku hkB hbw hbr hx hcop hcp hly hSa hSz hne hfs gr;go_wp2_with (go_at_call 103;refine (j7 3 wr).mono ?_;rintro e w3 ⟨rfl,rfl⟩);exact ⟨rfl, .inr ⟨by rw [HC.out];decide,by rw [HC.out]⟩,HBW.out⟩
   ·
    have h60':¬(60:Int) < (l.length:Int):=by omega
    have HC:=ZH (hcode.trans (if_neg h60));have hcp:=hcp hfs;obtain ⟨w1,rfl⟩:∃wo:World,wo=wr:=⟨_,rfl⟩;have g1:S none w1.drew:=by rw [HS.out];exact ⟨hbr.drew,fun _ h=> by cases h⟩
    obtain ⟨b0',-⟩:=HRD.out w1.drew _ g1;obtain ⟨ne1,ne1'⟩:(¬n0=w1.heap.size)/\¬w1.heap.size=n0:=hne w1.drew _ g1
    have g1a:S (some w1.heap.size) (w1.alloc z33).drew:=by
     rw [HS.out]
     exact ⟨(hbr.alloc hbr.size _).drew,fun j hj=> by
      obtain rfl:=ZJ hj;exact ⟨hbr.size,ZN w1 _⟩⟩
    obtain ⟨d0',-⟩:=HRD.out _ _ g1a;obtain ⟨y0,y1,y2,y3,y4,yf⟩:=qr.cells (hSz _ _ g1a);clear hcode hall hinv hku hkB hbw hbr hx hfs gr;go_wp2_with fail
    go_region_held3 (fun W=> W.cell? ⟨n0,0,none⟩=some (.slice a l.length cap)) (go_keep)
      (first
     | (go_at_call 101;refine (hcop _ _ (by assumption)).mono ?_;rintro e' w2 ⟨rfl,g2⟩;obtain ⟨s0',-⟩:=HRD.out w2 _ g2;obtain ⟨ne2,ne2'⟩:=hne w2 _ g2;have g2a:=hSa _ _ w2.heap.size g2 rfl;obtain ⟨t0',-⟩:=HRD.out _ _ g2a)
     | (go_at_call 105;refine (hcp _ _ (by assumption)).mono ?_;rintro e' w3 ⟨a',c',rfl,ht3,g3⟩;obtain ⟨s0',-⟩:=HRD.out w3 _ g3;have ht3a:=ZH (ht3.out.alloc z33);obtain ⟨ne3,ne3'⟩:=hne w3 _ g3;have g3a:=hSa _ _ w3.heap.size g3 rfl)
     | (go_at_call 104;refine (hly _ _ _ (by assumption) (by assumption)).mono ?_;rintro e' w4 ⟨x1,x2,x3,x4,x5,x6,x7,x8,x9,xA,xB,rfl,ht4,g4,v0,v1,v2,v3,v4,vf⟩;obtain ⟨s0',-⟩:=HRD.out w4 _ g4;simp only [reduceCtorEq,false_imp_iff,implies_true,Option.some.injEq,forall_eq'] at v0 v1 v2 v3 v4 vf))
    all_goals
     first
     | (obtain ⟨W5,hW5,F5⟩:∃W5,(w4.alloc (.cells #[.int .i64 x1, .string x2, .slice x3 x4 x5, .slice x6 x7 x8, .slice x9 xA xB] 33))=W5/\Fin W0 (qw l) [.int .i64 x1, .string x2, .slice x3 x4 x5, .slice x6 x7 x8, .slice x9 xA xB] w4.heap.size W5:=⟨_,rfl,zia (by rw [HS.out] at g4;exact g4) ht4.out⟩;rw [hW5];clear hW5;obtain ⟨k,hk⟩:∃k,k=w4.heap.size:=⟨_,rfl⟩;rw [<-hk] at F5 ⊢;clear hk)
     | (obtain ⟨W5,hW5,F5⟩:∃W5,(((((w4.setCell ⟨w1.heap.size,0,none⟩ (.int .i64 x1)).setCell ⟨w1.heap.size,1,none⟩ (.string x2)).setCell ⟨w1.heap.size,2,none⟩ (.slice x3 x4 x5)).setCell ⟨w1.heap.size,3,none⟩ (.slice x6 x7 x8)).setCell ⟨w1.heap.size,4,none⟩ (.slice x9 xA xB))=W5/\Fin W0 (qw l) [.int .i64 x1, .string x2, .slice x3 x4 x5, .slice x6 x7 x8, .slice x9 xA xB] w1.heap.size W5:=⟨_,rfl,zbn (by rw [HS.out] at g4;exact g4) ht4.out⟩;rw [hW5];clear hW5;obtain ⟨k,hk⟩:∃k,k=w1.heap.size:=⟨_,rfl⟩;rw [<-hk] at F5 ⊢;clear hk)
     | (obtain ⟨W5,hW5,F5⟩:∃W5,(((((w4.setCell ⟨w2.heap.size,0,none⟩ (.int .i64 x1)).setCell ⟨w2.heap.size,1,none⟩ (.string x2)).setCell ⟨w2.heap.size,2,none⟩ (.slice x3 x4 x5)).setCell ⟨w2.heap.size,3,none⟩ (.slice x6 x7 x8)).setCell ⟨w2.heap.size,4,none⟩ (.slice x9 xA xB))=W5/\Fin W0 (qw l) [.int .i64 x1, .string x2, .slice x3 x4 x5, .slice x6 x7 x8, .slice x9 xA xB] w2.heap.size W5:=⟨_,rfl,zbn (by rw [HS.out] at g4;exact g4) ht4.out⟩;rw [hW5];clear hW5;obtain ⟨k,hk⟩:∃k,k=w2.heap.size:=⟨_,rfl⟩;rw [<-hk] at F5 ⊢;clear hk)
     | (obtain ⟨W5,hW5,F5⟩:∃W5,(((((w4.setCell ⟨w3.heap.size,0,none⟩ (.int .i64 x1)).setCell ⟨w3.heap.size,1,none⟩ (.string x2)).setCell ⟨w3.heap.size,2,none⟩ (.slice x3 x4 x5)).setCell ⟨w3.heap.size,3,none⟩ (.slice x6 x7 x8)).setCell ⟨w3.heap.size,4,none⟩ (.slice x9 xA xB))=W5/\Fin W0 (qw l) [.int .i64 x1, .string x2, .slice x3 x4 x5, .slice x6 x7 x8, .slice x9 xA xB] w3.heap.size W5:=⟨_,rfl,zbn (by rw [HS.out] at g4;exact g4) ht4.out⟩;rw [hW5];clear hW5;obtain ⟨k,hk⟩:∃k,k=w3.heap.size:=⟨_,rfl⟩;rw [<-hk] at F5 ⊢;clear hk)
    all_goals
     obtain ⟨f1,f2,f3,f4⟩:=F5;obtain ⟨y0,y1,y2,y3,y4,yf⟩:=yd f3;have hfit:=zdT W5.heap.size W5 (qw l) [.int .i64 x1, .string x2, .slice x3 x4 x5, .slice x6 x7 x8, .slice x9 xA xB] W5 (zh.refl _ _) (ZL _) (ze.keep (q9 _ _ _) (ZL _) _ _ f4);have HF:=ZH (And.intro f1 (And.intro f2 (And.intro f3 f4)));clear f1 f2 f3 f4;go_wp2_with fail;refine hfit.mono ?_;clear hfit;rintro e' w6 ⟨⟨hfj,rfl⟩ | ⟨hfj,rfl⟩,hb6⟩
     ·have HC0:Hid (qm l=0):=ZH (by rw [HC.out,if_pos hfj])
      obtain ⟨f1,f2,f3,f4⟩:=HF.out;clear y0 y1 y2 y3 y4 yf;obtain ⟨y0,y1,y2,y3,y4,yf⟩:=yd ((hb6.block k (qS f3)).trans f3);obtain ⟨r0,r1,r2,r3,r4,rf⟩:=qr.cells ((hb6.block w.heap.size (by have:=f1.size;have:=HZ.out;omega)).trans ((f1.block w.heap.size (by have:=HZ.out;omega)).trans HZ0.out));have HB6:=ZH hb6;clear f1 f2 f3 f4 hb6 hfj;go_wp2;simp [bodyPost,results,Tryz.results102,go_sem,r0,r1,r2,r3,r4];exact ⟨.inl ⟨HC0.out,_,rfl,by simpa [World.setCell] using zhp HZ.out HF.out HB6.out (xo (qj.refl (w.heap.size + 1) w6) w.heap.size (Nat.lt_succ_self _) (.int .i64 x1) (.string x2) (.slice x3 x4 x5) (.slice x6 x7 x8) (.slice x9 xA xB)).2⟩,set5 (zbP HZ.out HB0.out HF.out.1 HB6.out) w.heap.size (ZL _) _ _ _ _ _⟩
     ·have hc:qm l=3:=by rw [HC.out,if_neg (by rw [hfj];decide)]
      exact ⟨rfl, .inr ⟨by rw [hc];decide,by rw [hc]⟩,zbP HZ.out HB0.out HF.out.1 hb6⟩
def zbJ:Term:= .mk 0 ⟨#[]⟩ [] [] []
theorem zdk (B:Nat) (w:World):ze B w [.int .i64 0, .string ⟨#[]⟩, .slice none 0 0, .slice none 0 0, .slice none 0 0] zbJ:=by
 unfold zbJ ze;exact ⟨by decide, .slice none 0 0, .slice none 0 0, .slice none 0 0,rfl,⟨none,0,rfl,by simp, .inl rfl⟩,⟨none,0,rfl,by simp, .inl rfl⟩,⟨none,0,rfl,by simp, .inl rfl⟩⟩
def yH (code:Int) (t:Term) (w:World) (e:Ending) (w':World):Prop:=
 ∃(p0:Int) (ux:ByteArray) (r0:Option Addr) (l0 q0:Nat) (r1:Option Addr) (l1 q1:Nat) (r2:Option Addr) (l2 q2:Nat),e= .returned (.tuple #[.agg #[.int .i64 p0, .string ux, .slice r0 l0 q0, .slice r1 l1 q1, .slice r2 l2 q2], .int .i64 code])/\Hid (ze w'.heap.size w' [.int .i64 p0, .string ux, .slice r0 l0 q0, .slice r1 l1 q1, .slice r2 l2 q2] t)/\Below w.heap.size w w'
theorem yH.mk' {code:Int} {t:Term} {w w':World} {cs:List Value} (hat:ze w'.heap.size w' cs t) (hb:Below w.heap.size w w'):yH code t w (.returned (.tuple #[.agg cs.toArray, .int .i64 code])) w':=by
 obtain ⟨p0,ux,r0,l0,q0,r1,l1,q1,r2,l2,q2,rfl⟩:=zz hat;exact ⟨p0,ux,r0,l0,q0,r1,l1,q1,r2,l2,q2,rfl,ZH hat,hb⟩
def besL (l:List Term):Term:=if qm l=0 then qw l else zbJ
def xL (t:Term):Term:=if qT t=0 then layT t else zbJ
theorem zh2 (hD:zbK) (l:List Term) (hlen:l.length<=1000) (B:Nat) (u w:World) (v:Value) (hu:zh B u w) (hB:B<=w.heap.size) (hv:SlAt B v l.length (fun b off=> zu B u b off l)):
  Calls Tryz.prog 44 #[v] w (yH (qm l) (besL l) w):=by
 refine (zk2 hD l hlen B u w v hu hB hv).mono ?_;rintro e w' ⟨⟨hc,rs,rfl,hat⟩ | ⟨hc,rfl⟩,hb⟩
 ·have hp:besL l=qw l:=by unfold besL;rw [if_pos hc]
  rw [hp,hc];exact yH.mk' (ze.keep (q9 _ _ _) (ZL _) _ _ hat) hb
 ·have hp:besL l=zbJ:=by unfold besL;rw [if_neg hc]
  rw [hp];exact yH.mk' (cs:= [.int .i64 0, .string ⟨#[]⟩, .slice none 0 0, .slice none 0 0, .slice none 0 0]) (zdk _ _) hb
theorem zhX (hD:zbK) (t:Term) (B:Nat) (u w:World) (cs:List Value) (hu:zh B u w) (hB:B<=w.heap.size) (hat:ze B u cs t):
  Calls Tryz.prog 48 #[.agg cs.toArray] w (yH (qT t) (xL t) w):=by
 refine (zjM hD t B u w cs hu hB hat).mono ?_;rintro e w' ⟨⟨hc,rs,rfl,hat⟩ | ⟨hc,rfl⟩,hb⟩
 ·have hp:xL t=layT t:=by unfold xL;rw [if_pos hc]
  rw [hp,hc];exact yH.mk' (ze.keep (q9 _ _ _) (ZL _) _ _ hat) hb
 ·have hp:xL t=zbJ:=by unfold xL;rw [if_neg hc]
  rw [hp];exact yH.mk' (cs:= [.int .i64 0, .string ⟨#[]⟩, .slice none 0 0, .slice none 0 0, .slice none 0 0]) (zdk _ _) hb
theorem zcx (t:Term):jY t=qT t:=by
 unfold jY qT;cases zL (.proc t) <;> simp
theorem zjD (t:Term) (B:Nat) (u w:World) (cs:List Value) (hu:zh B u w) (hB:B<=w.heap.size) (hat:ze B u cs t):
  Calls Tryz.prog 49 #[.agg cs.toArray] w (yH (qT t) (xL t) w):=by
 refine (zh3 t B u w cs hu hB hat).mono ?_;rintro e w' ⟨cs',rfl,h1,hb⟩;rw [zcx];rcases h1.out with ⟨hc,-,-,hat'⟩ | ⟨hc,rfl⟩
 ·rw [zcx] at hc
  have hp:xL t=layT t:=by unfold xL;rw [if_pos hc]
  rw [hp];exact yH.mk' hat' hb
 ·rw [zcx] at hc
  have hp:xL t=zbJ:=by unfold xL;rw [if_neg hc]
  rw [hp];exact yH.mk' (cs:=zgy) (zdk _ _) hb
theorem Tryz.results46:Tryz.f46.results=#[.cell 2 33, .tmp 3]:=by kernel_rfl
theorem zl3 (a0:Option Addr) (n0 p0:Nat) (w:World) (T:Term)
  (hw:∀WC:World,Below w.heap.size w WC->WC.cell? ⟨w.heap.size,0,none⟩=some (.slice a0 n0 p0)->Calls Tryz.prog 102 #[.pointer (some ⟨w.heap.size,0,none⟩)] WC fun e' w'=> ∃cs',e'= .returned (.agg cs'.toArray)/\ze w'.heap.size (blank WC.heap.size w') cs' T/\Below WC.heap.size WC w'):
  Calls Tryz.prog 46 #[.slice a0 n0 p0] w fun e' w'=> ∃cs',e'= .returned (.tuple #[.agg cs'.toArray, .int .i64 0])/\ze w'.heap.size w' cs' T/\Below w.heap.size w w':=by
 obtain ⟨W0,hW0⟩:∃W0,W0=((w.alloc (.cells #[.slice a0 n0 p0] 31)).alloc (.cells #[.int .i64 0, .string ⟨#[]⟩, .slice none 0 0, .slice none 0 0, .slice none 0 0] 33)):=⟨_,rfl⟩;have hb0:Below w.heap.size w W0:=by rw [hW0];exact (ZQ w _).alloc (by simp) _
 have hz:W0.heap.size=w.heap.size + 2:=by rw [hW0];simp
 have h0:W0.heap[w.heap.size]?=some (.cells #[.slice a0 n0 p0] 31):=by
  rw [hW0,ZO _ _ _ (by simp)];exact ZN w _
 have h3:qr W0 (w.heap.size + 1):=by
  unfold qr;rw [hW0];have:=ZN (w.alloc (.cells #[.slice a0 n0 p0] 31)) (.cells #[.int .i64 0, .string ⟨#[]⟩, .slice none 0 0, .slice none 0 0, .slice none 0 0] 33);rwa [World.size_alloc] at this
 obtain ⟨WC,hWC⟩:∃WC,WC=(W0.alloc (.cells #[.int .i64 0, .string ⟨#[]⟩, .slice none 0 0, .slice none 0 0, .slice none 0 0] 33)).alloc (.cells #[.int .i64 0] 37):=⟨_,rfl⟩;have hbC:Below W0.heap.size W0 WC:=by rw [hWC];exact (ZQ W0 _).alloc (by simp) _
 have hzC:WC.heap.size=W0.heap.size + 2:=by rw [hWC];simp
 have hbwC:=hb0.trans (hbC.mono (by omega))
 have hw:=hw WC hbwC
  (by
   have q:=(hbC.block w.heap.size (by omega)).trans h0;simp [World.cell?,q])
 have hmf:∀(fn:Fn) (first cap:Array Value) (w:World),(Instr.makeFunc fn first cap).run Tryz.prog w= .ok (.func fn first cap) w:=fun _ _ _ _=> rfl
 have ha:=zbc 102 #[.pointer (some ⟨w.heap.size,0,none⟩)] W0 (fun X w'=> ze w'.heap.size (blank WC.heap.size w') [.int .i64 X.op, .string X.t, .slice X.a0 X.n0 X.c0, .slice X.a1 X.n1 X.c1, .slice X.a2 X.n2 X.c2] T) (enters_of Tryz.func102 (by kernel_rfl) rfl) (by
  rw [<-hWC,<-hzC];refine hw.mono ?_;rintro e' w' ⟨cs',rfl,h1,h2⟩;obtain ⟨a1,a2,a3,a4,a5,a6,a7,a8,a9,a10,a11,rfl⟩:=zz h1;exact ⟨⟨a1,a2,a3,a4,a5,a6,a7,a8,a9,a10,a11⟩,rfl,h1,h2⟩)
 have HW:=ZH hW0;have HZ:=ZH hz;have HZC:=ZH hzC;have HC:=ZH hWC;clear hw hW0 hWC hz hzC h0;go_enter Tryz.func46,Tryz.ntmps46;go_wp2_with (go_at_call 82;rw [<-HW.out];refine ha.mono ?_;clear ha;rintro e' w2 ⟨⟨a1,a2,a3,a4,a5,a6,a7,a8,a9,a10,a11⟩,w1,rfl,hR1,hsz,hblk,hb1⟩;obtain ⟨x0,x1,x2,x3,x4,xf⟩:=qr.cells ((hb1.block (w.heap.size + 1) (by have:=HZ.out;omega)).trans h3);have HS:=ZH hsz;clear hsz);simp [bodyPost,results,Tryz.results46,go_sem,x0,x1,x2,x3,x4];have hz:=HZ.out;have hzC:=HZC.out;refine ⟨?_,set5 (hb0.trans (hb1.mono (by omega))) (w.heap.size + 1) (by omega) _ _ _ _ _⟩;have hL:qj (w.heap.size + 4) w1 w2:=⟨by rw [HS.out];exact ZL _,fun b hb _=> hblk b (by omega)⟩;have hL5:=xo hL (w.heap.size + 1) (by omega) (.int .i64 a1) (.string a2) (.slice a3 a4 a5) (.slice a6 a7 a8) (.slice a9 a10 a11);rw [<-HS.out];exact ze.keep (q9 0 _ _) (ZL _) _ _ (ze.keep (hL5.kept (A0:=WC.heap.size) (A':=0) (B:=w1.heap.size) (by omega) (by omega) (ZL _)) (ZL _) _ _ hR1)
theorem zmd (a0:Option Addr) (n0 p0:Nat) (w:World) (c:Int)
  (hw:∀WC:World,Below w.heap.size w WC->WC.cell? ⟨w.heap.size,0,none⟩=some (.slice a0 n0 p0)->Calls Tryz.prog 102 #[.pointer (some ⟨w.heap.size,0,none⟩)] WC fun e' w'=> e'= .panicked (yn c)/\Below WC.heap.size WC w'):
  Calls Tryz.prog 46 #[.slice a0 n0 p0] w fun e' w'=> e'= .returned (.tuple #[.agg #[.int .i64 0, .string ⟨#[]⟩, .slice none 0 0, .slice none 0 0, .slice none 0 0], .int .i64 c])/\Below w.heap.size w w':=by
 obtain ⟨W0,hW0⟩:∃W0,W0=((w.alloc (.cells #[.slice a0 n0 p0] 31)).alloc (.cells #[.int .i64 0, .string ⟨#[]⟩, .slice none 0 0, .slice none 0 0, .slice none 0 0] 33)):=⟨_,rfl⟩;have hb0:Below w.heap.size w W0:=by rw [hW0];exact (ZQ w _).alloc (by simp) _
 have hz:W0.heap.size=w.heap.size + 2:=by rw [hW0];simp
 have h0:W0.heap[w.heap.size]?=some (.cells #[.slice a0 n0 p0] 31):=by
  rw [hW0,ZO _ _ _ (by simp)];exact ZN w _
 have h3:qr W0 (w.heap.size + 1):=by
  unfold qr;rw [hW0];have:=ZN (w.alloc (.cells #[.slice a0 n0 p0] 31)) (.cells #[.int .i64 0, .string ⟨#[]⟩, .slice none 0 0, .slice none 0 0, .slice none 0 0] 33);rwa [World.size_alloc] at this
 obtain ⟨WC,hWC⟩:∃WC,WC=(W0.alloc (.cells #[.int .i64 0, .string ⟨#[]⟩, .slice none 0 0, .slice none 0 0, .slice none 0 0] 33)).alloc (.cells #[.int .i64 0] 37):=⟨_,rfl⟩;have hbC:Below W0.heap.size W0 WC:=by rw [hWC];exact (ZQ W0 _).alloc (by simp) _
 have hzC:WC.heap.size=W0.heap.size + 2:=by rw [hWC];simp
 have hbwC:=hb0.trans (hbC.mono (by omega))
 have hw:=hw WC hbwC
  (by
   have q:=(hbC.block w.heap.size (by omega)).trans h0;simp [World.cell?,q])
 have hmf:∀(fn:Fn) (first cap:Array Value) (w:World),(Instr.makeFunc fn first cap).run Tryz.prog w= .ok (.func fn first cap) w:=fun _ _ _ _=> rfl;have HW:=ZH hW0;have HZ:=ZH hz;have HZC:=ZH hzC
 have ha:=za5 102 #[.pointer (some ⟨w.heap.size,0,none⟩)] c W0 (enters_of Tryz.func102 (by kernel_rfl) rfl) (by
  rw [<-hWC,<-hzC];refine hw.mono ?_;rintro e' w' ⟨h1,h2⟩;exact ⟨h1,h2⟩)
 clear hw hWC hW0 hz hzC h0;go_enter Tryz.func46,Tryz.ntmps46;go_wp2_with (go_at_call 82;rw [<-HW.out];refine ha.mono ?_;clear ha;rintro e' w1 ⟨rfl,hb1⟩;obtain ⟨x0,x1,x2,x3,x4,xf⟩:=qr.cells ((hb1.block (w.heap.size + 1) (by have:=HZ.out;omega)).trans h3));simp [bodyPost,results,Tryz.results46,go_sem,x0,x1,x2,x3,x4];exact set5 (hb0.trans (hb1.mono (by have:=HZ.out;omega))) (w.heap.size + 1) (by omega) _ _ _ _ _
theorem zhL (l:List Term) (hlen:l.length<=1000) (B:Nat) (u w:World) (v:Value) (hu:zh B u w) (hB:B<=w.heap.size) (hv:SlAt B v l.length (fun b off=> zu B u b off l)):
  Calls Tryz.prog 46 #[v] w (yH (qm l) (besL l) w):=by
 obtain ⟨a,cap,rfl,-,hx⟩:=hv;have hW:=fun (WC:World) (hb:Below w.heap.size w WC) (hc:WC.cell? ⟨w.heap.size,0,none⟩=some (.slice a l.length cap))=> zla l hlen B u a cap hx WC (hu.trans ((Below.keptC hb).mono hB)) (by have:=hb.size;omega) w.heap.size hc;by_cases hc:qm l=0
 ·have hp:besL l=qw l:=by unfold besL;rw [if_pos hc]
  rw [hp,hc];refine (zl3 a l.length cap w (qw l) fun WC hb h1=> (hW WC hb h1).mono ?_).mono ?_
  ·rintro e w' ⟨⟨-,cs',rfl,hat⟩ | ⟨hn,-⟩,hb'⟩
   ·exact ⟨cs',rfl,hat,hb'⟩
   ·exact absurd hc hn
  ·rintro e w' ⟨cs',rfl,hat,hb⟩
   exact yH.mk' hat hb
 ·have hp:besL l=zbJ:=by unfold besL;rw [if_neg hc]
  rw [hp];refine (zmd a l.length cap w (qm l) fun WC hb h1=> (hW WC hb h1).mono ?_).mono ?_
  ·rintro e w' ⟨⟨h0,-⟩ | ⟨-,h1⟩,hb'⟩
   ·exact absurd h0 hc
   ·exact ⟨h1,hb'⟩
  ·rintro e w' ⟨rfl,hb⟩
   exact yH.mk' (cs:= [.int .i64 0, .string ⟨#[]⟩, .slice none 0 0, .slice none 0 0, .slice none 0 0]) (zdk _ _) hb
end
section
open Go.RowKit Go.Shelf Go.Maps
def C5 (W:World) (n:Nat) (p0:Int) (p1:ByteArray) (p2:Option Addr) (p3 p4:Nat) (p5:Option Addr) (p6 p7:Nat) (p8:Option Addr) (p9 pA:Nat):Prop:=
 W.cell? ⟨n,0,none⟩=some (.int .i64 p0)/\W.cell? ⟨n,1,none⟩=some (.string p1)/\W.cell? ⟨n,2,none⟩=some (.slice p2 p3 p4)/\W.cell? ⟨n,3,none⟩=some (.slice p5 p6 p7)/\W.cell? ⟨n,4,none⟩=some (.slice p8 p9 pA)
theorem C5.later {W W':World} {n:Nat} {p0:Int} {p1:ByteArray} {p2:Option Addr} {p3 p4:Nat} {p5:Option Addr} {p6 p7:Nat} {p8:Option Addr} {p9 pA:Nat} (h:C5 W n p0 p1 p2 p3 p4 p5 p6 p7 p8 p9 pA) (hb:Below W.heap.size W W'):C5 W' n p0 p1 p2 p3 p4 p5 p6 p7 p8 p9 pA:=by
 obtain ⟨h0,h1,h2,h3,h4⟩:=h;have q:∀o,W'.cell? ⟨n,o,none⟩=W.cell? ⟨n,o,none⟩:=fun o=> hb.cell (p:=⟨n,o,none⟩) (zD h0);exact ⟨(q 0).trans h0,(q 1).trans h1,(q 2).trans h2,(q 3).trans h3,(q 4).trans h4⟩
theorem C5.new (w:World) (p0:Int) (p1:ByteArray) (p2:Option Addr) (p3 p4:Nat) (p5:Option Addr) (p6 p7:Nat) (p8:Option Addr) (p9 pA:Nat):C5 (w.alloc (.cells #[.int .i64 p0, .string p1, .slice p2 p3 p4, .slice p5 p6 p7, .slice p8 p9 pA] 33)) w.heap.size p0 p1 p2 p3 p4 p5 p6 p7 p8 p9 pA:=by
 unfold C5;simp only [ZA _ _ _ _ rfl];exact ⟨rfl,rfl,rfl,rfl,rfl⟩
theorem ze.later {W W':World} {cs:List Value} {T:Term} (h:ze W.heap.size W cs T) (hb:Below W.heap.size W W'):ze W'.heap.size W' cs T:=ze.keep (Below.keptC hb) hb.size _ _ h
def KT (w W:World):Prop:=zh w.heap.size w W/\w.heap.size<=W.heap.size/\Below w.heap.size w W
theorem KT.refl (w:World):KT w w:=⟨zh.refl _ _,ZL _,ZF _ _⟩
theorem KT.later {w W W':World} (h:KT w W) (hb:Below W.heap.size W W'):KT w W':=⟨h.1.trans ((Below.keptC hb).mono h.2.1),by have:=hb.size;have:=h.2.1;omega,h.2.2.trans (hb.mono h.2.1)⟩
theorem zaX (w:World) (o:Obj):Below w.heap.size w (w.alloc o):=ZQ w _
theorem zjP (L:List Term) (w:World) (v1 v2:Value) (h1:SlT w v1 L) (h2:SlT w v2 L):Calls Tryz.prog 47 #[v1,v2] w fun e w'=> e= .returned (.bool true)/\Below w.heap.size w w':=
 zcu L (fun k h B u w c1 c2 hu hB a1 a2=> zg1 _ B u w c1 c2 hu hB a1 a2) w.heap.size w w v1 v2 (zh.refl _ _) (ZL _) h1 h2
theorem zfJ (T:Term) (w:World) (c1 c2:List Value) (h1:ze w.heap.size w c1 T) (h2:ze w.heap.size w c2 T):Calls Tryz.prog 34 #[.agg c1.toArray, .agg c2.toArray] w fun e w'=> e= .returned (.bool true)/\Below w.heap.size w w':=
 zg1 T w.heap.size w w c1 c2 (zh.refl _ _) (ZL _) h1 h2
theorem zkh (hD:zbK) (cs:List Value) (t:Term) (v:Value) (l:List Term) (w:World) (ht:ze w.heap.size w cs t) (hl:SlT w v l):
  Calls Tryz.prog 11 #[.agg cs.toArray,v] w fun e w'=> e= .returned (.bool true)/\Below w.heap.size w w':=by
 have J14:∀W,Calls Tryz.prog 14 #[] W fun e w'=> e= .returned (.bool true)/\Below W.heap.size W w':=zkx;obtain ⟨o0,o1,o2,o3,o4,o5,o6,o7,o8,o9,oA,rfl⟩:=zz ht;obtain ⟨sa,scap,rfl,-⟩:=id hl;obtain ⟨W1,hW1⟩:∃W1,W1=w.alloc (.cells #[.int .i64 o0, .string o1, .slice o2 o3 o4, .slice o5 o6 o7, .slice o8 o9 oA] 33):=⟨_,rfl⟩;have b1:Below w.heap.size w W1:=by rw [hW1];exact zaX _ _
 have kt:=(KT.refl w).later b1;have ct:C5 W1 w.heap.size o0 o1 o2 o3 o4 o5 o6 o7 o8 o9 oA:=by rw [hW1];exact C5.new ..
 have K43:=zjb hD t w.heap.size w W1 _ kt.1 kt.2.1 ht;have K44:l.length<=70->∀W,KT w W->Calls Tryz.prog 44 #[.slice sa l.length scap] W (yH (qm l) (besL l) W):=fun h W hW=> zh2 hD l (by omega) w.heap.size w W _ hW.1 hW.2.1 hl;have K45:∀W,KT w W->Calls Tryz.prog 45 #[.agg #[.int .i64 o0, .string o1, .slice o2 o3 o4, .slice o5 o6 o7, .slice o8 o9 oA]] W (zbe (jG (zL (.proc t))) (xe t) W):=fun W hW=> zjd t w.heap.size w W _ hW.1 hW.2.1 ht;have K46:l.length<=70->∀W,KT w W->Calls Tryz.prog 46 #[.slice sa l.length scap] W (yH (qm l) (besL l) W):=fun h W hW=> zhL l (by omega) w.heap.size w W _ hW.1 hW.2.1 hl;have K48:∀W,KT w W->Calls Tryz.prog 48 #[.agg #[.int .i64 o0, .string o1, .slice o2 o3 o4, .slice o5 o6 o7, .slice o8 o9 oA]] W (yH (qT t) (xL t) W):=fun W hW=> zhX hD t w.heap.size w W _ hW.1 hW.2.1 ht;have K49:∀W,KT w W->Calls Tryz.prog 49 #[.agg #[.int .i64 o0, .string o1, .slice o2 o3 o4, .slice o5 o6 o7, .slice o8 o9 oA]] W (yH (qT t) (xL t) W):=fun W hW=> zjD t w.heap.size w W _ hW.1 hW.2.1 ht;obtain ⟨pc,hpc⟩:∃c,c=jG (zL (.proc t)):=⟨_,rfl⟩;obtain ⟨bc,hbc⟩:∃c,c=qm l:=⟨_,rfl⟩;obtain ⟨lc,hlc⟩:∃c,c=qT t:=⟨_,rfl⟩;obtain ⟨LP,hLP⟩:∃c,c=xe t:=⟨_,rfl⟩;obtain ⟨TB,hTB⟩:∃c,c=besL l:=⟨_,rfl⟩;obtain ⟨TL,hTL⟩:∃c,c=xL t:=⟨_,rfl⟩;rw [<-hpc,<-hLP] at K43 K45;rw [<-hbc,<-hTB] at K44 K46;rw [<-hlc,<-hTL] at K48 K49;clear hpc hbc hlc hLP hTB hTL ht hl hD;obtain ⟨nn,hnn⟩:∃n,n=l.length:=⟨_,rfl⟩;rw [<-hnn] at K44 K46 ⊢;clear hnn;have HW1:=ZH hW1;by_cases h70:70 < nn
 ·have h70':(70:Int) < (nn:Int):=by omega
  have HKT:=ZH kt;clear hW1 K43 K44 K45 K46 K48 K49 ct kt;go_enter Tryz.func11,Tryz.ntmps11;go_wp2_with (go_at_call 14;rw [<-HW1.out];refine (J14 _).mono ?_;rintro e' w1 ⟨rfl,k1⟩);go_ret;exact ⟨rfl,(HKT.out.later k1).2.2⟩
 ·have h70':¬(70:Int) < (nn:Int):=by omega
  have K44:=K44 (by omega);have K46:=K46 (by omega);have HK44:=ZH K44;have HK45:=ZH K45;have HK46:=ZH K46;have HK48:=ZH K48;have HK49:=ZH K49;have HJ14:=ZH J14;obtain ⟨x0,x1,x2,x3,x4⟩:=id ct;rw [HW1.out] at x0 x1 x2 x3 x4;have HCT:=ZH ct;have HKT:=ZH kt;clear hW1 K44 K45 K46 K48 K49 J14 ct kt b1 h70;go_enter Tryz.func11,Tryz.ntmps11;go_wp2_with fail;rw [<-HW1.out];refine K43.mono ?_;clear K43 x0 x1 x2 x3 x4;rintro e' w1 ⟨ra,rn,rc,rfl,hr,k1⟩;have HCT1:=ZH (HCT.out.later k1);have HKT1:=ZH (HKT.out.later k1);clear k1;go_wp2_with fail;refine (HK44.out _ HKT1.out).mono ?_;rintro e' w2 ⟨d0,d1,d2,d3,d4,d5,d6,d7,d8,d9,dA,rfl,hd,k2⟩;have HCT2:=ZH (HCT1.out.later k2);have HKT2:=ZH (HKT1.out.later k2);have hr2:=ZH (hr.out.later k2);clear k2 HCT1 HKT1 hr HCT HKT;obtain ⟨W2,hW2⟩:∃X,X=w2.alloc (.cells #[.int .i64 d0, .string d1, .slice d2 d3 d4, .slice d5 d6 d7, .slice d8 d9 dA] 33):=⟨_,rfl⟩;have bW2:Below w2.heap.size w2 W2:=by rw [hW2];exact zaX _ _
  have Cd:Hid (C5 W2 w2.heap.size d0 d1 d2 d3 d4 d5 d6 d7 d8 d9 dA):=ZH (by rw [hW2];exact C5.new ..);have Td:=ZH (hd.out.later bW2);have HCT:=ZH (HCT2.out.later bW2);have HKT:=ZH (HKT2.out.later bW2);have hr:=ZH (hr2.out.later bW2);obtain ⟨x0,x1,x2,x3,x4⟩:=id HCT.out;have HW2:=ZH hW2;rw [HW2.out] at x0 x1 x2 x3 x4;clear hW2 bW2 HCT2 HKT2 hr2 hd;go_wp2_with fail;rw [<-HW2.out];refine (HK45.out _ HKT.out).mono ?_;clear x0 x1 x2 x3 x4;rintro e' w3 ⟨pa,pn,pcap,rfl,hp,k3⟩;have HCT3:=ZH (HCT.out.later k3);have HKT3:=ZH (HKT.out.later k3);have hr3:=ZH (hr.out.later k3);have Cd3:=ZH (Cd.out.later k3);have Td3:=ZH (Td.out.later k3);clear k3 HCT HKT hr Cd Td;go_wp2_with fail;refine (HK46.out _ HKT3.out).mono ?_;rintro e' w4 ⟨c0,c1,c2,c3,c4,c5,c6,c7,c8,c9,cA,rfl,hc,k4⟩;have HCT4:=ZH (HCT3.out.later k4);have HKT4:=ZH (HKT3.out.later k4);have hr4:=ZH (hr3.out.later k4);have Cd4:=ZH (Cd3.out.later k4);have Td4:=ZH (Td3.out.later k4);have hp4:=ZH (hp.out.later k4);clear k4 HCT3 HKT3 hr3 Cd3 Td3 hp;obtain ⟨W4,hW4⟩:∃X,X=w4.alloc (.cells #[.int .i64 c0, .string c1, .slice c2 c3 c4, .slice c5 c6 c7, .slice c8 c9 cA] 33):=⟨_,rfl⟩;have bW4:Below w4.heap.size w4 W4:=by rw [hW4];exact zaX _ _
  have Cc:Hid (C5 W4 w4.heap.size c0 c1 c2 c3 c4 c5 c6 c7 c8 c9 cA):=ZH (by rw [hW4];exact C5.new ..);have Tc:=ZH (hc.out.later bW4);have HCT:=ZH (HCT4.out.later bW4);have HKT:=ZH (HKT4.out.later bW4);have hr:=ZH (hr4.out.later bW4);have Cd:=ZH (Cd4.out.later bW4);have Td:=ZH (Td4.out.later bW4);have hp:=ZH (hp4.out.later bW4);have HW4:=ZH hW4;clear hW4 bW4 HCT4 HKT4 hr4 Cd4 Td4 hp4 hc;have J47:=zjP LP W4 _ _ hp.out hr.out;go_wp2_with fail;rw [<-HW4.out];refine J47.mono ?_;clear J47;rintro e' w5 ⟨rfl,k5⟩;have HCT5:=ZH (HCT.out.later k5);have HKT5:=ZH (HKT.out.later k5);obtain ⟨c0',c1',c2',c3',c4'⟩:=Cc.out.later k5;obtain ⟨d0',d1',d2',d3',d4'⟩:=Cd.out.later k5;have J34:=zfJ TB w5 _ _ (Tc.out.later k5) (Td.out.later k5);clear HCT HKT hr hp Cd Td Cc Tc k5;go_wp2_with fail;refine J34.mono ?_;clear J34 c0' c1' c2' c3' c4' d0' d1' d2' d3' d4';rintro e' w6 ⟨rfl,k6⟩;have HCT6:=ZH (HCT5.out.later k6);have HKT6:=ZH (HKT5.out.later k6);obtain ⟨x0,x1,x2,x3,x4⟩:=id HCT6.out;clear k6 HCT5 HKT5;go_wp2_with fail;refine (HK48.out _ HKT6.out).mono ?_;clear x0 x1 x2 x3 x4;rintro e' w7 ⟨v0,v1,v2,v3,v4,v5,v6,v7,v8,v9,vA,rfl,hv,k7⟩;have HCT7:=ZH (HCT6.out.later k7);have HKT7:=ZH (HKT6.out.later k7);clear k7 HCT6 HKT6;obtain ⟨W7,hW7⟩:∃X,X=w7.alloc (.cells #[.int .i64 v0, .string v1, .slice v2 v3 v4, .slice v5 v6 v7, .slice v8 v9 vA] 33):=⟨_,rfl⟩;have bW7:Below w7.heap.size w7 W7:=by rw [hW7];exact zaX _ _
  have Cv:Hid (C5 W7 w7.heap.size v0 v1 v2 v3 v4 v5 v6 v7 v8 v9 vA):=ZH (by rw [hW7];exact C5.new ..);have Tv:=ZH (hv.out.later bW7);have HCT:=ZH (HCT7.out.later bW7);have HKT:=ZH (HKT7.out.later bW7);obtain ⟨x0,x1,x2,x3,x4⟩:=id HCT.out;have HW7:=ZH hW7;rw [HW7.out] at x0 x1 x2 x3 x4;clear hW7 bW7 HCT7 HKT7 hv;go_wp2_with fail;rw [<-HW7.out];refine (HK49.out _ HKT.out).mono ?_;clear x0 x1 x2 x3 x4;rintro e' w8 ⟨u0,u1,u2,u3,u4,u5,u6,u7,u8,u9,uA,rfl,hu,k8⟩;have HKT8:=ZH (HKT.out.later k8);have Cv8:=ZH (Cv.out.later k8);have Tv8:=ZH (Tv.out.later k8);clear k8 HCT HKT Cv Tv;obtain ⟨W8,hW8⟩:∃X,X=w8.alloc (.cells #[.int .i64 u0, .string u1, .slice u2 u3 u4, .slice u5 u6 u7, .slice u8 u9 uA] 33):=⟨_,rfl⟩;have bW8:Below w8.heap.size w8 W8:=by rw [hW8];exact zaX _ _
  have Cu:Hid (C5 W8 w8.heap.size u0 u1 u2 u3 u4 u5 u6 u7 u8 u9 uA):=ZH (by rw [hW8];exact C5.new ..);have Tu:=ZH (hu.out.later bW8);have HKT:=ZH (HKT8.out.later bW8);have Cv:=ZH (Cv8.out.later bW8);have Tv:=ZH (Tv8.out.later bW8);obtain ⟨u0',u1',u2',u3',u4'⟩:=id Cu.out;obtain ⟨v0',v1',v2',v3',v4'⟩:=id Cv.out;have HW8:=ZH hW8;rw [HW8.out] at u0' u1' u2' u3' u4' v0' v1' v2' v3' v4';have J34:=zfJ TL W8 _ _ Tu.out Tv.out;clear hW8 bW8 HKT8 Cv8 Tv8 hu Tu Tv Cu Cv;go_wp2_with fail;rw [<-HW8.out];refine J34.mono ?_;clear J34 u0' u1' u2' u3' u4' v0' v1' v2' v3' v4';rintro e' w9 ⟨rfl,k9⟩;have HKT9:=ZH (HKT.out.later k9);clear k9 HKT;go_wp2_with (go_at_call 14;refine (HJ14.out _).mono ?_;rintro e' wA ⟨rfl,kA⟩);go_ret;exact ⟨rfl,(HKT9.out.later kA).2.2⟩
end
end Go.Proofs.YtjmlaeofjjhfmaaGreat
