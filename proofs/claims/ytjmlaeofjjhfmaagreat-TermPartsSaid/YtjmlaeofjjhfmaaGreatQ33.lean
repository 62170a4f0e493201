/- Lemmas. -/
import Derived.Test.YtjmlaeofjjhfmaaGreatQ32
import Derived.Test.YtjmlaeofjjhfmaaGreatQ19
import Derived.StillTailTactics
import Derived.Test.YtjmlaeofjjhfmaaGreatQ09
set_option linter.unusedVariables false
set_option linter.unusedSimpArgs false
set_option maxRecDepth 10000
set_option maxHeartbeats 16000000
namespace Go.Proofs.YtjmlaeofjjhfmaaGreat
section
open Go.RowKit Go.Shelf Go.Maps
theorem qD {w:World} {b:Nat} {cs:Array Value} {ty:TypeId} (h:w.heap[b]?=some (.cells cs ty)) (o:Nat) (v:Value):(w.setCell ⟨b,o,none⟩ v).heap[b]?=some (.cells (cs.set! o v) ty):=by
 have hlt:b < w.heap.size:=(ZG h).1;unfold World.setCell;simp only [Array.getElem?_modify,h];simp
theorem zd9 {w:World} {b:Nat} {a0 a1 a2 a3 a4:Value} (h:w.heap[b]?=some (.cells #[a0,a1,a2,a3,a4] 33)) (v0 v1 v2 v3 v4:Value):(((((w.setCell ⟨b,0,none⟩ v0).setCell ⟨b,1,none⟩ v1).setCell ⟨b,2,none⟩ v2).setCell ⟨b,3,none⟩ v3).setCell ⟨b,4,none⟩ v4).heap[b]?=some (.cells #[v0,v1,v2,v3,v4] 33):=by
 have:=qD (qD (qD (qD (qD h 0 v0) 1 v1) 2 v2) 3 v3) 4 v4;simpa using this
theorem Tryz.results104:Tryz.f104.results=#[.cell 2 33]:=by kernel_rfl
theorem zhn {B n:Nat} {U wr WB:World} (l:List Term) (cs:List Value)
  (HT:∀X:World,zh B U X->(∀b o x,n + 2<=b->wr.cell? ⟨b,o,none⟩=some x->X.cell? ⟨b,o,none⟩=some x)->ze wr.heap.size X cs (qw l))
  (hL:∀b,n + 1<=b->b < wr.heap.size->WB.heap[b]?=wr.heap[b]?)
  (X:World) (hX:zh B U X)
  (hX2:∀(b o:Nat) (x:Value),n<=b->WB.cell? ⟨b,o,none⟩=some x->X.cell? ⟨b,o,none⟩=some x):
  ze wr.heap.size X cs (qw l):=by
 refine HT X hX (fun b o x hb hx=> hX2 b o x (by omega) ?_);exact (ZB (w:=wr) (hL b (by omega) (zD hx))).trans hx
theorem zf1 {B N n j:Nat} {U wr WB:World} {cs ds:List Value} (l:List Term) (hl:n + 1=l.length) (hj:j < n) (hB:B<=N) (hzr:N + 2<=wr.heap.size) (hBz:WB.heap.size=wr.heap.size + 1)
  (hAn:zI WB wr.heap.size 0 (ds ++ cs)) (hd:ds.length=5) (hc:cs.length=5) (hat:ze B U ds (l[j]'(by omega)))
  (HT:∀X:World,zh B U X->(∀b o x,N + 2<=b->wr.cell? ⟨b,o,none⟩=some x->X.cell? ⟨b,o,none⟩=some x)->ze wr.heap.size X cs (qw (l.drop (j + 1))))
  (hL:∀b,N + 2<=b->b < wr.heap.size->WB.heap[b]?=wr.heap[b]?)
  (X:World) (hX:zh B U X)
  (hX2:∀(b o:Nat) (x:Value),N + 2<=b->WB.cell? ⟨b,o,none⟩=some x->X.cell? ⟨b,o,none⟩=some x):
  ze WB.heap.size X [.int .i64 3, .string ⟨#[]⟩, .slice none 0 0, .slice none 0 0, .slice (some ⟨wr.heap.size,0,none⟩) 2 2] (qw (l.drop j)):=by
 have hT:=HT X hX (fun b o x hb hx=> hX2 b o x hb ((ZB (w:=wr) (hL b hb (zD hx))).trans hx));have hds:l.drop j=l[j]'(by omega)::l.drop (j + 1):=List.drop_eq_getElem_cons (by omega);obtain ⟨u0,us,hus⟩:∃u0 us,l.drop (j + 1)=u0::us:=⟨_,_,List.drop_eq_getElem_cons (by omega)⟩;rw [hds,hus,qw,<-hus];unfold ze;refine ⟨by decide,_,_,_,rfl,⟨none,0,rfl,by simp, .inl rfl⟩,⟨none,0,rfl,by simp, .inl rfl⟩,⟨some ⟨wr.heap.size,0,none⟩,2,rfl,by simp, .inr ⟨wr.heap.size,0,rfl,by omega,?_⟩⟩⟩;unfold zu zu zu;have hcell:∀i,(h:i < (ds ++ cs).length)->X.cell? ⟨wr.heap.size,0 + i,none⟩=some (ds ++ cs)[i]:=fun i h=> hX2 _ _ _ (by omega) (hAn i h);refine ⟨⟨ds,fun i h=> ?_,ze.keep hX (by omega) _ _ hat⟩,⟨cs,fun i h=> ?_,?_⟩,trivial⟩
 ·have:=hcell i (by rw [List.length_append];omega)
  rw [List.getElem_append_left h] at this;exact this
 ·have:=hcell (5 + i) (by rw [List.length_append];omega)
  rw [List.getElem_append_right (by omega)] at this;simp only [hd,Nat.add_sub_cancel_left,Nat.zero_add] at this ⊢;exact this
 ·exact ze.keep (zh.refl _ X) (by omega) _ _ hT
theorem zet {w0 wr:World} {N:Nat} {v0 v1 v2 v3 v4 a0 a1 a2 a3 a4:Value} (hN:N + 1 < wr.heap.size) (hb:Below N w0 wr) (hq:wr.heap[N + 1]?=some (.cells #[a0,a1,a2,a3,a4] 33)) (C:Array Value):
  Below N w0 ((((((wr.setCell ⟨N + 1,0,none⟩ v0).setCell ⟨N + 1,1,none⟩ v1).setCell ⟨N + 1,2,none⟩ v2).setCell ⟨N + 1,3,none⟩ v3).setCell ⟨N + 1,4,none⟩ v4).alloc (.cells C 33)).drew/\
  ((((((wr.setCell ⟨N + 1,0,none⟩ v0).setCell ⟨N + 1,1,none⟩ v1).setCell ⟨N + 1,2,none⟩ v2).setCell ⟨N + 1,3,none⟩ v3).setCell ⟨N + 1,4,none⟩ v4).alloc (.cells C 33)).drew.heap.size=wr.heap.size + 1/\
  (∀b,b≠N + 1->b < wr.heap.size->((((((wr.setCell ⟨N + 1,0,none⟩ v0).setCell ⟨N + 1,1,none⟩ v1).setCell ⟨N + 1,2,none⟩ v2).setCell ⟨N + 1,3,none⟩ v3).setCell ⟨N + 1,4,none⟩ v4).alloc (.cells C 33)).drew.heap[b]?=wr.heap[b]?)/\
  ((((((wr.setCell ⟨N + 1,0,none⟩ v0).setCell ⟨N + 1,1,none⟩ v1).setCell ⟨N + 1,2,none⟩ v2).setCell ⟨N + 1,3,none⟩ v3).setCell ⟨N + 1,4,none⟩ v4).alloc (.cells C 33)).drew.heap[N + 1]?=some (.cells #[v0,v1,v2,v3,v4] 33)/\
  ((((((wr.setCell ⟨N + 1,0,none⟩ v0).setCell ⟨N + 1,1,none⟩ v1).setCell ⟨N + 1,2,none⟩ v2).setCell ⟨N + 1,3,none⟩ v3).setCell ⟨N + 1,4,none⟩ v4).alloc (.cells C 33)).drew.heap[wr.heap.size]?=some (.cells C 33):=by
 obtain ⟨WS,hWS⟩:∃WS,WS=((((wr.setCell ⟨N + 1,0,none⟩ v0).setCell ⟨N + 1,1,none⟩ v1).setCell ⟨N + 1,2,none⟩ v2).setCell ⟨N + 1,3,none⟩ v3).setCell ⟨N + 1,4,none⟩ v4:=⟨_,rfl⟩;have hs:WS.heap.size=wr.heap.size:=by rw [hWS];simp [World.setCell]
 have h1:Below N w0 WS:=by rw [hWS];exact set5 hb (N + 1) (by omega) _ _ _ _ _
 have h2:WS.heap[N + 1]?=some (.cells #[v0,v1,v2,v3,v4] 33):=by rw [hWS];exact zd9 hq _ _ _ _ _
 have h3:∀b,b≠N + 1->WS.heap[b]?=wr.heap[b]?:=fun b hb=> by
  rw [hWS,ZC _ _ _ _ (by simpa using hb),ZC _ _ _ _ (by simpa using hb),ZC _ _ _ _ (by simpa using hb),ZC _ _ _ _ (by simpa using hb),ZC _ _ _ _ (by simpa using hb)]
 rw [<-hWS];clear hWS;refine ⟨(h1.alloc (by omega) _).drew,by simp [hs],fun b hb hlt=> ?_,?_,?_⟩
 ·exact (ZO _ _ _ (by omega)).trans (h3 b hb)
 ·exact (ZO _ _ _ (by omega)).trans h2
 ·have:=ZN WS (.cells C 33)
  rw [hs] at this;exact this
theorem zeW (l:List Term) (hlen:l.length<=1000) (B:Nat) (U w:World) (v:Value) (hU:zh B U w) (hB:B<=w.heap.size) (hv:SlAt B v l.length (fun b off=> zu B U b off l)):
  Calls Tryz.prog 104 #[v] w fun e w'=> ∃cs',e= .returned (.agg cs'.toArray)/\Below w.heap.size w w'/\
   ∀X:World,zh B U X->(∀b o x,w.heap.size<=b->w'.cell? ⟨b,o,none⟩=some x->X.cell? ⟨b,o,none⟩=some x)->ze w'.heap.size X cs' (qw l):=by
 obtain ⟨a,cap,rfl,hl,hx⟩:=hv;by_cases h0:l.length=0
 ·have hnil:l= []:=List.length_eq_zero_iff.1 h0
  subst hnil;go_enter Tryz.func104,Tryz.ntmps104;go_wp2;simp [bodyPost,results,Tryz.results104,go_sem];refine ⟨ZQ w _,fun X _ _=> ?_⟩;rw [qw];unfold ze;exact ⟨by decide, .slice none 0 0, .slice none 0 0, .slice none 0 0,rfl,⟨none,0,rfl,by simp, .inl rfl⟩,⟨none,0,rfl,by simp, .inl rfl⟩,⟨none,0,rfl,by simp, .inl rfl⟩⟩
 ·rcases hx with hx | ⟨b,off,rfl,hb,hts⟩
  ·exact absurd hx h0
  obtain ⟨n,hn⟩:∃n,l.length=n + 1:=⟨l.length - 1,by omega⟩;have hln:n < l.length:=by omega
  obtain ⟨d,c,f⟩:=hts.get l b off n hln;obtain ⟨e0,e1,e2,e3,e4,e5,e6,e7,e8,e9,eA,rfl⟩:=zz f;obtain ⟨W1,hW1⟩:∃W1,W1=w.alloc (.cells #[.int .i64 0, .string ⟨#[]⟩, .slice none 0 0, .slice none 0 0, .slice none 0 0] 33):=⟨_,rfl⟩;have b1:Below w.heap.size w W1:=by rw [hW1];exact ZQ w _
  obtain ⟨r0,r1,r2,r3,r4⟩:=zK (c.keep (hU.trans ((Below.keptC b1).mono hB)) hb);rw [hW1] at r0 r1 r2 r3 r4;have i1:l.length - 1=n:=by omega
  obtain ⟨W2,hW2⟩:∃W2,W2=W1.alloc (.cells #[.int .i64 e0, .string e1, .slice e2 e3 e4, .slice e5 e6 e7, .slice e8 e9 eA] 33):=⟨_,rfl⟩;have z1:W1.heap.size=w.heap.size + 1:=by rw [hW1];simp
  have z2:W2.heap.size=w.heap.size + 2:=by rw [hW2];simp;omega
  have b2:Below w.heap.size w W2:=by rw [hW2];exact b1.alloc (by omega) _
  have k0:W2.heap[w.heap.size]?=some (.cells #[.int .i64 0, .string ⟨#[]⟩, .slice none 0 0, .slice none 0 0, .slice none 0 0] 33):=by
   rw [hW2,ZO _ _ _ (by omega),hW1];exact ZN w _
  have k1:W2.heap[w.heap.size + 1]?=some (.cells #[.int .i64 e0, .string e1, .slice e2 e3 e4, .slice e5 e6 e7, .slice e8 e9 eA] 33):=by
   have:=ZN W1 (.cells #[.int .i64 e0, .string e1, .slice e2 e3 e4, .slice e5 e6 e7, .slice e8 e9 eA] 33);rw [hW2,<-z1];exact this
  have HW2:=ZH hW2;have HW1:=ZH hW1;have HN:=ZH hn
  have hstart:∀X:World,zh B U X->(∀b o x,w.heap.size + 2<=b->W2.cell? ⟨b,o,none⟩=some x->X.cell? ⟨b,o,none⟩=some x)->ze W2.heap.size X [.int .i64 e0, .string e1, .slice e2 e3 e4, .slice e5 e6 e7, .slice e8 e9 eA] (qw (l.drop n)):=fun X hX _=> by
   have e:l.drop n= [l[n]]:=by rw [List.drop_eq_getElem_cons hln,List.drop_of_length_le (by omega)]
   rw [e,qw];exact ze.keep hX (by omega) _ _ f
  have HS:=ZH hstart;have i0:((n:Int) + 1==0)=false:=by simp;omega
  rw [hn];clear hW1 hW2 hn hstart;go_enter Tryz.func104,Tryz.ntmps104;go_wp2;rw [<-HW1.out,<-HW2.out]
  go_loopw [4] (fun i wr=> ∃(k:Nat) (c0:Int) (c1:ByteArray) (c2:Option Addr) (c3 c4:Nat) (c5:Option Addr) (c6 c7:Nat) (c8:Option Addr) (c9 cA:Nat),k<=n/\i= .int .i64 ((k:Int) - 1)/\Below w.heap.size w wr/\w.heap.size + 2<=wr.heap.size/\
   wr.heap[w.heap.size]?=some (.cells #[.int .i64 0, .string ⟨#[]⟩, .slice none 0 0, .slice none 0 0, .slice none 0 0] 33)/\
   wr.heap[w.heap.size + 1]?=some (.cells #[.int .i64 c0, .string c1, .slice c2 c3 c4, .slice c5 c6 c7, .slice c8 c9 cA] 33)/\
   Hid (∀X:World,zh B U X->(∀b o x,w.heap.size + 2<=b->wr.cell? ⟨b,o,none⟩=some x->X.cell? ⟨b,o,none⟩=some x)->ze wr.heap.size X [.int .i64 c0, .string c1, .slice c2 c3 c4, .slice c5 c6 c7, .slice c8 c9 cA] (qw (l.drop k)))) (fun i _=> (intOf i + 1).toNat)
  case atStart=> exact ⟨n,_,_,_,_,_,_,_,_,_,_,_,ZL _,by congr 1;omega,b2,by omega,k0,k1,HS⟩
  case round=>
   obtain ⟨k,c0,c1,c2,c3,c4,c5,c6,c7,c8,c9,cA,hk,rfl,hbr,hzr,q0,q1,HT⟩:=hrel;have m0:wr.cell? ⟨w.heap.size + 1,0,none⟩=some (.int .i64 c0):=by simp [World.cell?,q1]
   have m1:wr.cell? ⟨w.heap.size + 1,1,none⟩=some (.string c1):=by simp [World.cell?,q1]
   have m2:wr.cell? ⟨w.heap.size + 1,2,none⟩=some (.slice c2 c3 c4):=by simp [World.cell?,q1]
   have m3:wr.cell? ⟨w.heap.size + 1,3,none⟩=some (.slice c5 c6 c7):=by simp [World.cell?,q1]
   have m4:wr.cell? ⟨w.heap.size + 1,4,none⟩=some (.slice c8 c9 cA):=by simp [World.cell?,q1]
   have hf1:∀o,wr.frozen? ⟨w.heap.size + 1,o,none⟩=false:=fun o=> by simp [World.frozen?,q1]
   rcases Nat.eq_zero_or_pos k with rfl | hpos
   ·obtain ⟨x0,x1,x2,x3,x4,xf⟩:=qr.cells q0
    go_wp2;simp [bodyPost,results,Tryz.results104,go_sem,x0,x1,x2,x3,x4];refine ⟨set5 hbr w.heap.size (ZL _) _ _ _ _ _,fun X hX hX2=> ?_⟩;exact zhn (n:=w.heap.size) l _ (by have h:=HT.out;rw [List.drop_zero] at h;exact h) (xo (qj.refl (w.heap.size + 1) wr) w.heap.size (Nat.lt_succ_self _) (.int .i64 c0) (.string c1) (.slice c2 c3 c4) (.slice c5 c6 c7) (.slice c8 c9 cA)).2 X hX hX2
   ·obtain ⟨j,rfl⟩:∃j,k=j + 1:=⟨k - 1,by omega⟩
    obtain ⟨d',c',f'⟩:=hts.get l b off j (by omega);obtain ⟨g0,g1,g2,g3,g4,g5,g6,g7,g8,g9,gA,rfl⟩:=zz f';have HF:=ZH f';obtain ⟨s0,s1,s2,s3,s4⟩:=zK (c'.keep (hU.trans ((Below.keptC hbr).mono hB)) hb);have i3:((j + 1:Nat):Int) - 1=(j:Int):=by omega
    have i4:(j:Int) < (n:Int) + 1:=by omega
    rw [i3];go_wp2
    go_still_tail 5,(by kernel_rfl)
    have hlt1:w.heap.size + 1 < wr.heap.size:=by omega
    have y0:((wr.alloc (.cells #[.int .i64 g0, .string g1, .slice g2 g3 g4, .slice g5 g6 g7, .slice g8 g9 gA, .int .i64 c0, .string c1, .slice c2 c3 c4, .slice c5 c6 c7, .slice c8 c9 cA] 33)).drew).cell? ⟨w.heap.size + 1,0,none⟩=some (.int .i64 c0):=(ZP _ _ _ hlt1).trans m0;have y1:((wr.alloc (.cells #[.int .i64 g0, .string g1, .slice g2 g3 g4, .slice g5 g6 g7, .slice g8 g9 gA, .int .i64 c0, .string c1, .slice c2 c3 c4, .slice c5 c6 c7, .slice c8 c9 cA] 33)).drew).cell? ⟨w.heap.size + 1,1,none⟩=some (.string c1):=(ZP _ _ _ hlt1).trans m1;have y2:((wr.alloc (.cells #[.int .i64 g0, .string g1, .slice g2 g3 g4, .slice g5 g6 g7, .slice g8 g9 gA, .int .i64 c0, .string c1, .slice c2 c3 c4, .slice c5 c6 c7, .slice c8 c9 cA] 33)).drew).cell? ⟨w.heap.size + 1,2,none⟩=some (.slice c2 c3 c4):=(ZP _ _ _ hlt1).trans m2;have y3:((wr.alloc (.cells #[.int .i64 g0, .string g1, .slice g2 g3 g4, .slice g5 g6 g7, .slice g8 g9 gA, .int .i64 c0, .string c1, .slice c2 c3 c4, .slice c5 c6 c7, .slice c8 c9 cA] 33)).drew).cell? ⟨w.heap.size + 1,3,none⟩=some (.slice c5 c6 c7):=(ZP _ _ _ hlt1).trans m3;have y4:((wr.alloc (.cells #[.int .i64 g0, .string g1, .slice g2 g3 g4, .slice g5 g6 g7, .slice g8 g9 gA, .int .i64 c0, .string c1, .slice c2 c3 c4, .slice c5 c6 c7, .slice c8 c9 cA] 33)).drew).cell? ⟨w.heap.size + 1,4,none⟩=some (.slice c8 c9 cA):=(ZP _ _ _ hlt1).trans m4;have yf:∀o,((wr.alloc (.cells #[.int .i64 g0, .string g1, .slice g2 g3 g4, .slice g5 g6 g7, .slice g8 g9 gA, .int .i64 c0, .string c1, .slice c2 c3 c4, .slice c5 c6 c7, .slice c8 c9 cA] 33)).drew).frozen? ⟨w.heap.size + 1,o,none⟩=false:=fun o=> (World.frozen?_alloc_past _ _ _ hlt1).trans (hf1 o);change wpList _ _ _ _ _ wr.drew;go_wp2;have HLN:=ZH (show n + 1=l.length/\j < n from ⟨HN.out.symm,by omega⟩);go_roundw
    case rel=>
     obtain ⟨w1,w2,w3,w4,w5⟩:=zet (v0:= .int .i64 3) (v1:= .string ⟨#[]⟩) (v2:= .slice none 0 0) (v3:= .slice none 0 0) (v4:= .slice (some ⟨wr.heap.size,0,none⟩) 2 2) hlt1 hbr q1 #[.int .i64 g0, .string g1, .slice g2 g3 g4, .slice g5 g6 g7, .slice g8 g9 gA, .int .i64 c0, .string c1, .slice c2 c3 c4, .slice c5 c6 c7, .slice c8 c9 cA];obtain ⟨WB,hWB⟩:∃WB,WB=((((((wr.setCell ⟨w.heap.size + 1,0,none⟩ (.int .i64 3)).setCell ⟨w.heap.size + 1,1,none⟩ (.string ⟨#[]⟩)).setCell ⟨w.heap.size + 1,2,none⟩ (.slice none 0 0)).setCell ⟨w.heap.size + 1,3,none⟩ (.slice none 0 0)).setCell ⟨w.heap.size + 1,4,none⟩ (.slice (some ⟨wr.heap.size,0,none⟩) 2 2)).alloc (.cells #[.int .i64 g0, .string g1, .slice g2 g3 g4, .slice g5 g6 g7, .slice g8 g9 gA, .int .i64 c0, .string c1, .slice c2 c3 c4, .slice c5 c6 c7, .slice c8 c9 cA] 33)).drew:=⟨_,rfl⟩;rw [<-hWB] at w1 w2 w3 w4 w5 ⊢;clear hWB
     have HCA:zI WB wr.heap.size 0 ([.int .i64 g0, .string g1, .slice g2 g3 g4, .slice g5 g6 g7, .slice g8 g9 gA] ++ [.int .i64 c0, .string c1, .slice c2 c3 c4, .slice c5 c6 c7, .slice c8 c9 cA]):=by
      intro i hi;have:WB.cell? ⟨wr.heap.size,0 + i,none⟩=#[Value.int .i64 g0, .string g1, .slice g2 g3 g4, .slice g5 g6 g7, .slice g8 g9 gA, .int .i64 c0, .string c1, .slice c2 c3 c4, .slice c5 c6 c7, .slice c8 c9 cA][i]?:=by simp [World.cell?,w5]
      rw [this]
      match i,hi with
      | 0,_=> rfl
      | 1,_=> rfl
      | 2,_=> rfl
      | 3,_=> rfl
      | 4,_=> rfl
      | 5,_=> rfl
      | 6,_=> rfl
      | 7,_=> rfl
      | 8,_=> rfl
      | 9,_=> rfl
     refine ⟨j,3,⟨#[]⟩,none,0,0,none,0,0,some ⟨wr.heap.size,0,none⟩,2,2,Nat.le_of_lt HLN.out.2,rfl,w1,by rw [w2];exact Nat.le_succ_of_le hzr,(w3 _ (Nat.ne_of_lt (Nat.lt_succ_self _)) (Nat.lt_of_succ_lt hlt1)).trans q0,w4,ZH (fun X hX hX2=> ?_)⟩;exact zf1 (N:=w.heap.size) l HLN.out.1 HLN.out.2 hB hzr w2 HCA rfl rfl HF.out HT.out (fun b hb hlt=> w3 b (Nat.ne_of_gt hb) hlt) X hX hX2
    case measure=> simp [intOf]
def expL (c:Chg):Exp->Exp
 | .mk op n t kids=> match (if op=2 then yh c t else none) with
  | some x=> x
  | none=> .mk op n t (kids.map (fun k=> expL c k))
theorem Tryz.results92:Tryz.f92.results=#[.cell 4 36]:=by kernel_rfl
theorem Tryz.results145:Tryz.f145.results=#[.cell 2 36]:=by kernel_rfl
def zcm (ob:Nat) (op n:Int) (text:ByteArray) (W2:World) (c:Chg) (kids:List Exp) (k:Nat) (a:Option Addr) (cap:Nat) (wr:World):Prop:=
 wr.heap[ob]?=some (.cells #[.int .i64 op, .int .i64 n, .string text, .slice a k cap] 36)/\Below ob W2 wr/\
  ∃vals,wr.ownsRow (ob + 1) 36 4 (.slice a k cap) k vals/\zq (fun _ w1 cs x=> qz zy (ob + 1) (Value.slice a k cap).ownBlock w1 cs x) 4 0 wr vals ((kids.take k).map (fun x=> expL c x))
theorem zcm.step {ob:Nat} {op n:Int} {text:ByteArray} {W2:World} {c:Chg} {kids:List Exp} {k:Nat} {a:Option Addr} {cap:Nat} {wr w3:World} (h:zcm ob op n text W2 c kids k a cap wr) (hk:k < kids.length) (h60:kids.length<=60)
  (hW2:W2.heap.size=ob + 1) (hb3:Below wr.heap.size wr w3) (rs:List Value) (hat':zy w3.heap.size (blank wr.heap.size w3) rs (expL c kids[k])):
  ∃e0 e1 e2 e3 e4 e5 gg cp w',rs= [.int .i64 e0, .int .i64 e1, .string e2, .slice e3 e4 e5]/\
   (Builtin.append_ #[29,29] 29 #[.slice a k cap, .slice (some ⟨w3.heap.size,0,none⟩) 1 1]).run Tryz.prog (w3.alloc (.cells #[.int .i64 e0, .int .i64 e1, .string e2, .slice e3 e4 e5] 36))= .ok (.slice (some ⟨gg,0,none⟩) (k + 1) cp) w'/\
   w'.cell? ⟨ob,3,none⟩=some (.slice a k cap)/\w'.frozen? ⟨ob,3,none⟩=false/\Hid (zcm ob op n text W2 c kids (k + 1) (some ⟨gg,0,none⟩) cp (w'.setCell ⟨ob,3,none⟩ (.slice (some ⟨gg,0,none⟩) (k + 1) cp))):=by
 obtain ⟨hbox,hbw,vals,hown,hch⟩:=h;obtain ⟨i0,hi,hz0,hz1,hz2⟩:=info_parts zeV;obtain ⟨e0,e1,e2,e3,e4,e5,rfl⟩:=qG hat';obtain ⟨W4,hW4⟩:∃W4,W4=w3.alloc (.cells #[.int .i64 e0, .int .i64 e1, .string e2, .slice e3 e4 e5] 36):=⟨_,rfl⟩;have hs3:=hb3.size;have hsr:=hbw.size;have hb4:Below wr.heap.size wr W4:=by rw [hW4];exact hb3.alloc hs3 _
 have hg4:=zj hb4;have hoA:=zt hown hg4 (fun b hb e=> by cases e)
 obtain ⟨v',w',hr,h1,h2,h3,h4⟩:=run_append_own_at (P:=Tryz.prog) W4 (ob + 1) 29 29 36 i0 (.agg #[.int .i64 0, .int .i64 0, .string ⟨#[]⟩, .slice none 0 0]) 4 56 Tryz.underlying29 hi hz0 hz1 hz2 rfl (by decide) _ k vals hoA
  ⟨w3.heap.size,0,none⟩ 1 1 [.int .i64 e0, .int .i64 e1, .string e2, .slice e3 e4 e5] rfl (by
   intro j u hj;have e:(⟨w3.heap.size,0,none⟩:Addr).add j=⟨w3.heap.size,j,none⟩:=by unfold Addr.add;by_cases h:j=0 <;> simp [h]
   rw [e,hW4,ZA _ _ _ _ rfl];simpa using hj) (by simp [Value.oneCell']) (by unfold maxLen;omega) (by omega) (by have:=hb4.size;omega)
 have hs4:W4.heap.size=w3.heap.size + 1:=by rw [hW4];simp
 have hlo:=hown.lt;have hs2:=h2.size;have hrow:∀r,(Value.slice a k cap).ownBlock=some r->ob + 1<=r:=fun r hr=> (hlo r hr).1
 have hbox':w'.heap[ob]?=some (.cells #[.int .i64 op, .int .i64 n, .string text, .slice a k cap] 36):=
  (h2.block ob (by omega) (fun e=> by have:=hrow ob e.symm;omega)).trans ((hb4.block ob (by omega)).trans hbox)
 have hch':zq (fun _ w1 cs x=> qz zy (ob + 1) v'.ownBlock w1 cs x) 4 0 w' (vals ++ [.int .i64 e0, .int .i64 e1, .string e2, .slice e3 e4 e5]) ((kids.take (k + 1)).map (fun x=> expL c x)):=by
  have hch1:zq (fun _ w1 cs x=> qz zy (ob + 1) v'.ownBlock w1 cs x) 4 0 w' vals ((kids.take k).map (fun x=> expL c x)):=⟨hch.1,fun i hi=> qz.keep xc (hch.2 i hi) (fun b hb1 hb2 hb3=>
   (h2.block b (by omega) (fun e=> hb3 e.symm)).trans (hg4.block b hb2 (fun e=> by cases e))) (by omega) (by
    rcases h4 with h4 | h4
    ·exact .inl h4
    ·exact .inr ⟨_,h4,by omega⟩)⟩
  rw [ZT hk,List.map_append];refine zq.snoc hch1 ?_ rfl;refine ⟨wr.heap.size,w3.heap.size,by omega,by omega,fun g hg=> ?_,?_⟩
  ·rcases h4 with h4 | h4
   ·rw [h4] at hg;have:=(hlo g hg).2;omega
   ·rw [h4] at hg;have:=ZJ hg;omega
  ·refine xc _ _ _ _ _ _ (qg (ZL _) fun b o v ha hb hv=> ?_) (ZL _) hat'
   have e1:W4.cell? ⟨b,o,none⟩=some v:=by rw [hW4,ZP _ _ _ hb];exact hv
   refine (ZB (w:=W4) (h2.block b (by omega) (fun e=> ?_))).trans e1;have:=(hlo b e.symm).2;omega
 have hbw':Below ob W2 w':=(hbw.trans (hb4.mono (by omega))).grown h2 (by omega) (fun r e=> by have:=hrow r e;omega);obtain ⟨_,⟨_,h0⟩ | ⟨gg,cp,cur,hvf,hgA,_⟩⟩:=id h1
 ·omega
 subst hvf;rw [hW4] at hr;refine ⟨_,_,_,_,_,_,gg,cp,w',rfl,hr,by simp [World.cell?,hbox'],by simp [World.frozen?,hbox'],ZH ⟨?_,hbw'.setCell (by show ob<=ob;omega) _,vals ++ [.int .i64 e0, .int .i64 e1, .string e2, .slice e3 e4 e5],?_,?_⟩⟩
 ·have:=qD hbox' 3 (.slice (some ⟨gg,0,none⟩) (k + 1) cp)
  simpa using this
 ·refine zt (row:=some ob) h1 ⟨rfl,rfl,rfl,by simp [World.setCell],fun b hb hne=> ZC _ _ _ _ (fun e=> hne (by rw [e]))⟩ (fun b hb e=> ?_)
  have:gg=b:=by simpa [Value.ownBlock] using hb
  have:=ZJ e;omega
 ·exact ⟨hch'.1,fun i hi=> qz.keep xc (hch'.2 i hi) (fun b hb1 hb2 hb3=> ZC _ _ _ _ (by show b≠ob;omega)) (by simp [World.setCell]) (.inl rfl)⟩
theorem zjV (c:Chg) (op n:Int) (text:ByteArray) (kids:List Exp) (hop:op≠2) (hs:(Part.exp (.mk op n text kids)).shaped=true)
  (B:Nat) (u w:World) (c1 c2:List Value) (hu:zh B u w) (hBl:B<=w.heap.size) (h1:zao B u c1 c) (h2:zy B u c2 (.mk op n text kids))
  (ih:∀k,(h:k < kids.length)->∀(B:Nat) (u w:World) (c1 c2:List Value),zh B u w->B<=w.heap.size->zao B u c1 c->zy B u c2 kids[k]->
   Calls Tryz.prog 92 #[.agg c1.toArray, .agg c2.toArray] w fun e' w'=> ∃rs,e'= .returned (.agg rs.toArray)/\zy w'.heap.size (blank w.heap.size w') rs (expL c kids[k])/\Below w.heap.size w w'):
  Calls Tryz.prog 92 #[.agg c1.toArray, .agg c2.toArray] w fun e' w'=> ∃rs,e'= .returned (.agg rs.toArray)/\zy w'.heap.size (blank w.heap.size w') rs (expL c (.mk op n text kids))/\Below w.heap.size w w':=by
 have h60:kids.length<=60:=by
  simp only [Part.shaped,j8,Bool.or_eq_true,Bool.and_eq_true,beq_iff_eq,decide_eq_true_eq] at hs;omega
 unfold zy at h2;obtain ⟨htz,_,rfl,⟨a0,p0,rfl,l0,h0⟩⟩:=h2;have hch:=h1;obtain ⟨v1,v2,rfl,g1,g2⟩:=h1;obtain ⟨q0,r0,rfl,_⟩:=g1;obtain ⟨q1,r1,rfl,_⟩:=g2;obtain ⟨x1,hx1⟩:∃x,x=(c.map (·.1)).length:=⟨_,rfl⟩;obtain ⟨x2,hx2⟩:∃x,x=c.length:=⟨_,rfl⟩;rw [<-hx1,<-hx2] at hch;rw [<-hx1,<-hx2];clear hx1 hx2;obtain ⟨nn,hnn⟩:∃n,n=kids.length:=⟨_,rfl⟩;have HN:=ZH hnn;have hexp:expL c (.mk op n text kids)= .mk op n text (kids.map (fun k=> expL c k)):=by rw [expL,if_neg hop]
 rw [hexp];rw [<-hnn] at l0 h0 h60 ⊢;clear hexp hnn hs;obtain ⟨W1,hW1⟩:∃W1,W1=((w.alloc (.cells #[.slice q0 x1 r0, .slice q1 x2 r1] 111)).alloc (.cells #[.int .i64 op, .int .i64 n, .string text, .slice a0 nn p0] 36)).alloc (.cells #[.int .i64 0, .int .i64 0, .string ⟨#[]⟩, .slice none 0 0] 36):=⟨_,rfl⟩;have z1:W1.heap.size=w.heap.size + 3:=by rw [hW1];simp
 have b1:Below w.heap.size w W1:=by rw [hW1];exact ((ZQ w _).alloc (by simp) _).alloc (by simp;omega) _
 have k0:W1.heap[w.heap.size]?=some (.cells #[.slice q0 x1 r0, .slice q1 x2 r1] 111):=by
  rw [hW1,ZO _ _ _ (by simp;omega),ZO _ _ _ (by simp)];exact ZN w _
 have k1:W1.heap[w.heap.size + 1]?=some (.cells #[.int .i64 op, .int .i64 n, .string text, .slice a0 nn p0] 36):=by
  rw [hW1,ZO _ _ _ (by simp)];have:=ZN (w.alloc (.cells #[.slice q0 x1 r0, .slice q1 x2 r1] 111)) (.cells #[.int .i64 op, .int .i64 n, .string text, .slice a0 nn p0] 36);rwa [World.size_alloc] at this
 have k2:W1.heap[w.heap.size + 2]?=some (.cells #[.int .i64 0, .int .i64 0, .string ⟨#[]⟩, .slice none 0 0] 36):=by
  rw [hW1];have:=ZN ((w.alloc (.cells #[.slice q0 x1 r0, .slice q1 x2 r1] 111)).alloc (.cells #[.int .i64 op, .int .i64 n, .string text, .slice a0 nn p0] 36)) (.cells #[.int .i64 0, .int .i64 0, .string ⟨#[]⟩, .slice none 0 0] 36);rwa [World.size_alloc,World.size_alloc] at this
 obtain ⟨W2,hW2⟩:∃W2,W2=W1.alloc (.cells #[.int .i64 op, .int .i64 n, .string text, .slice none 0 0] 36):=⟨_,rfl⟩;obtain ⟨ob,hob⟩:∃ob,ob=w.heap.size + 3:=⟨_,rfl⟩;have z2:W2.heap.size=ob + 1:=by rw [hW2];simp;omega
 have b2:Below ob W1 W2:=by rw [hW2];exact (ZF _ W1).alloc (by omega) _
 have kb:W2.heap[ob]?=some (.cells #[.int .i64 op, .int .i64 n, .string text, .slice none 0 0] 36):=by
  rw [hW2,hob];have:=ZN W1 (.cells #[.int .i64 op, .int .i64 n, .string text, .slice none 0 0] 36);rwa [z1] at this
 have hst:zcm ob op n text W2 c kids 0 none 0 W2:=⟨kb,ZF _ _, [],ZR _ _ _ _,zq.nil _ _ _ _⟩
 have hrd:∀W,Below ob W2 W->W.cell? ⟨w.heap.size,0,none⟩=some (.slice q0 x1 r0)/\W.cell? ⟨w.heap.size,1,none⟩=some (.slice q1 x2 r1)/\W.cell? ⟨w.heap.size + 1,3,none⟩=some (.slice a0 nn p0)/\W.heap[w.heap.size + 2]?=some (.cells #[.int .i64 0, .int .i64 0, .string ⟨#[]⟩, .slice none 0 0] 36)/\zh B u W/\B<=W.heap.size/\Below w.heap.size w W:=fun W hW=> by
  have hb:=b2.trans (hW.mono (ZL _));have hq:∀b,b < ob->W.heap[b]?=W1.heap[b]?:=fun b hlt=> hb.block b hlt;have hbw:=b1.trans (hb.mono (by omega));exact ⟨by simp [World.cell?,hq w.heap.size (by omega),k0],by simp [World.cell?,hq w.heap.size (by omega),k0],by simp [World.cell?,hq (w.heap.size + 1) (by omega),k1],(hq (w.heap.size + 2) (by omega)).trans k2,hu.trans ((Below.keptC hbw).mono hBl),by have:=hbw.size;omega,hbw⟩
 have HWW:Hid (((((w.alloc (.cells #[.slice q0 x1 r0, .slice q1 x2 r1] 111)).alloc (.cells #[.int .i64 op, .int .i64 n, .string text, .slice a0 nn p0] 36)).alloc (.cells #[.int .i64 0, .int .i64 0, .string ⟨#[]⟩, .slice none 0 0] 36)).alloc (.cells #[.int .i64 op, .int .i64 n, .string text, .slice none 0 0] 36))=W2):=ZH (by rw [hW2,hW1]);have HRD:=ZH hrd;have HST:=ZH hst;have HOB:=ZH hob;have HZ2:=ZH z2;clear hW1 hW2 z1 z2 b1 b2 k0 k1 k2 kb hst hrd hob;have hop1:(op==2)=false:=by simpa using hop
 have hop2:decide (op=2)=false:=by simpa using hop
 go_enter Tryz.func92,Tryz.ntmps92;go_wp2;rw [HWW.out,show w.heap.size + 1 + 1 + 1=ob from HOB.out.symm]
 go_loopw [8] (fun i wr=> ∃(k:Nat) (a:Option Addr) (cap:Nat),k<=nn/\i= .int .i64 k/\Hid (zcm ob op n text W2 c kids k a cap wr)) (fun i _=> nn - (intOf i).toNat)
 case atStart=> exact ⟨0,none,0,by omega,rfl,HST⟩
 case round=>
  obtain ⟨k,a,cap,hk,rfl,hinv⟩:=hrel;obtain ⟨m0,m1,m2,m3,hku,hBr,hbw⟩:=HRD.out wr hinv.out.2.1;by_cases hlt:k < nn
  ·have hkl:k < kids.length:=by rw [<-HN.out];exact hlt
   rcases h0 with h0 | ⟨b0,o0,rfl,hB0,hc0⟩
   ·omega
   obtain ⟨d1,e1,f1⟩:=hc0.get kids b0 o0 k hkl;have ihk:=ih k hkl;have hstep:=fun w3 rs h3 hat'=> zcm.step hinv.out hkl (by rw [<-HN.out];exact h60) HZ2.out (w3:=w3) h3 rs hat';obtain ⟨ek,hek⟩:∃x,x=kids[k]:=⟨_,rfl⟩;rw [<-hek] at f1 ihk hstep;obtain ⟨g0,g1,g2,g3,g4,g5,rfl⟩:=qG f1;have hbx:=hinv.out.1;have hbr:=hinv.out.2.1;have hobs:ob < wr.heap.size:=by have:=hbr.size;have:=HZ2.out;omega
   have hS:∀W,Below wr.heap.size wr W->(W.cell? ⟨w.heap.size,0,none⟩=some (.slice q0 x1 r0)/\W.cell? ⟨w.heap.size,1,none⟩=some (.slice q1 x2 r1)/\W.cell? ⟨w.heap.size + 1,3,none⟩=some (.slice (some ⟨b0,o0,none⟩) nn p0)/\W.cell? ⟨ob,3,none⟩=some (.slice a k cap))/\
     W.cell? ⟨b0,o0 + k * 4,none⟩=some (.int .i64 g0)/\W.cell? ⟨b0,o0 + k * 4 + 1,none⟩=some (.int .i64 g1)/\W.cell? ⟨b0,o0 + k * 4 + 2,none⟩=some (.string g2)/\W.cell? ⟨b0,o0 + k * 4 + 3,none⟩=some (.slice g3 g4 g5):=fun W hW=> by
    have hb:=hbr.trans (hW.mono (by omega));obtain ⟨y0,y1,y2,_,hk',_,_⟩:=HRD.out W hb;exact ⟨⟨y0,y1,y2,by have:=(hW.block ob hobs).trans hbx;simp [World.cell?,this]⟩,jd (e1.keep hk' hB0)⟩
   have hcall:∀W,Below wr.heap.size wr W->Calls Tryz.prog 92 #[.agg #[.slice q0 x1 r0, .slice q1 x2 r1], .agg #[.int .i64 g0, .int .i64 g1, .string g2, .slice g3 g4 g5]] W fun e' w'=> ∃e0 e1 e2 e3 e4 e5 gg cp w5,e'= .returned (.agg #[.int .i64 e0, .int .i64 e1, .string e2, .slice e3 e4 e5])/\Hid (Below wr.heap.size wr w')/\
     (Builtin.append_ #[29,29] 29 #[.slice a k cap, .slice (some ⟨w'.heap.size,0,none⟩) 1 1]).run Tryz.prog (w'.alloc (.cells #[.int .i64 e0, .int .i64 e1, .string e2, .slice e3 e4 e5] 36))= .ok (.slice (some ⟨gg,0,none⟩) (k + 1) cp) w5/\
     w5.cell? ⟨ob,3,none⟩=some (.slice a k cap)/\w5.frozen? ⟨ob,3,none⟩=false/\Hid (zcm ob op n text W2 c kids (k + 1) (some ⟨gg,0,none⟩) cp (w5.setCell ⟨ob,3,none⟩ (.slice (some ⟨gg,0,none⟩) (k + 1) cp))):=fun W hW=> by
    have hb:=hbr.trans (hW.mono (by omega));obtain ⟨_,_,_,_,hk',hB',_⟩:=HRD.out W hb;refine (ihk B u W _ _ hk' hB' hch f1).mono ?_;rintro e' w' ⟨rs,rfl,hat',hb3⟩;have hb5:=hW.trans (hb3.mono hW.size);obtain ⟨e0,e1,e2,e3,e4,e5,gg,cp,w5,rfl,r1,r2,r3,r4⟩:=hstep w' rs hb5 (xc _ _ _ _ _ _ (qg hW.size fun b o v _ _ hv=> hv) (ZL _) hat');exact ⟨e0,e1,e2,e3,e4,e5,gg,cp,w5,rfl,ZH hb5,r1,r2,r3,r4⟩
   have hd:Below wr.heap.size wr wr.drew:=(ZF _ _).drew;have hc:=hcall wr.drew hd;obtain ⟨⟨s0,s1,s2,s3⟩,s4,s5,s6,s7⟩:=hS wr.drew hd;have HS:=ZH hS;clear hc0 f1 e1 hstep ihk hek hbx hbr hobs hS hcall hkl;go_wp2
   go_region_law (first
    | (revert hr;intro hr;refine zU rfl (.tmp 37) (.tmp 45) 29 29 rfl rfl rfl hr ?_)
    | (go_simp;go_wp2_with (go_at_call 92;refine hc.mono ?_;rintro e' w3 ⟨e0,e1,e2,e3,e4,e5,gg,cp,w5,rfl,hb3,hr,hw1,hw2,hfin⟩;obtain ⟨⟨t0,t1,t2,t3⟩,t4,t5,t6,t7⟩:=HS.out w3 hb3.out;obtain ⟨⟨t0',t1',t2',t3'⟩,t4',t5',t6',t7'⟩:=HS.out (w3.alloc (.cells #[.int .i64 e0, .int .i64 e1, .string e2, .slice e3 e4 e5] 36)) (hb3.out.alloc hb3.out.size _))))
   all_goals
    clear hr hw1 hw2 hc;go_wp2;go_roundw
    case rel=> exact ⟨k + 1,some ⟨gg,0,none⟩,cp,by omega,by go_num,hfin⟩
    case measure=> simp [intOf];omega
  ·obtain rfl:k=nn:=by omega
   have hbx:=hinv.out.1;have hbr:=hinv.out.2.1;obtain ⟨_,_,vals,hown,hch'⟩:=hinv.out;have hsz:wr.heap.size ≥ ob + 1:=by have:=hbr.size;have:=HZ2.out;omega
   have hres:∀W,W=((((wr.setCell ⟨w.heap.size + 1 + 1,0,none⟩ (.int .i64 op)).setCell ⟨w.heap.size + 1 + 1,1,none⟩ (.int .i64 n)).setCell ⟨w.heap.size + 1 + 1,2,none⟩ (.string text)).setCell ⟨w.heap.size + 1 + 1,3,none⟩ (.slice a k cap))->
     zy wr.heap.size (blank w.heap.size W) [.int .i64 op, .int .i64 n, .string text, .slice a k cap] (.mk op n text (kids.map (fun x=> expL c x)))/\Below w.heap.size w W:=by
    rintro W rfl;have hsz':=HOB.out;refine ⟨?_,set4 hbw (w.heap.size + 1 + 1) (by omega) _ _ _ _⟩;have hkn:(kids.map (fun x=> expL c x)).length=k:=by rw [List.length_map];exact HN.out.symm
    rw [show kids.take k=kids by rw [HN.out,List.take_length]] at hch';have hsl:=zgP (by rw [hkn];exact hown) hch';obtain ⟨a',cap',e',l',hsl'⟩:=hsl;rw [hkn] at e';refine ⟨htz, .slice a k cap,rfl,a',cap',by rw [hkn];exact e',l',?_⟩;rcases hsl' with h | ⟨b',o',h1,h2,h3⟩
    ·exact .inl h
    ·refine .inr ⟨b',o',h1,h2,zW.keep (qg (by omega) fun b o v ha hb hv=> ?_) (ZL _) _ _ _ h2 h3⟩
     refine (ZB (w:=wr) ?_).trans hv;rw [ZC _ _ _ _ (by simp;omega),ZC _ _ _ _ (by simp;omega),ZC _ _ _ _ (by simp;omega),ZC _ _ _ _ (by simp;omega)]
   have HRES:=ZH hres;obtain ⟨c0,c1,c2,c3,cf⟩:=ya.cells m3;obtain ⟨y0,y1,y2,y3⟩:wr.cell? ⟨ob,0,none⟩=some (.int .i64 op)/\wr.cell? ⟨ob,1,none⟩=some (.int .i64 n)/\wr.cell? ⟨ob,2,none⟩=some (.string text)/\wr.cell? ⟨ob,3,none⟩=some (.slice a k cap):=⟨by simp [World.cell?,hbx],by simp [World.cell?,hbx],by simp [World.cell?,hbx],by simp [World.cell?,hbx]⟩;clear hres hown hch' hbx hbr hbw hinv;go_wp2;simp [bodyPost,results,Tryz.results92,go_sem,c0,c1,c2,c3];exact HRES.out _ rfl
end
end Go.Proofs.YtjmlaeofjjhfmaaGreat
