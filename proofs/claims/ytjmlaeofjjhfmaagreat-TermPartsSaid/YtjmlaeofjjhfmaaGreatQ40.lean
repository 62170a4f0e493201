/- Lemmas. -/
import Derived.Test.YtjmlaeofjjhfmaaGreatQ39
import Derived.Test.YtjmlaeofjjhfmaaGreatQ38
import Derived.Test.YtjmlaeofjjhfmaaGreatQ33
import Derived.Test.YtjmlaeofjjhfmaaGreatQ29
import Derived.Test.YtjmlaeofjjhfmaaGreatQ20
set_option linter.unusedVariables false
set_option linter.unusedSimpArgs false
set_option maxRecDepth 10000
set_option maxHeartbeats 16000000
namespace Go.Proofs.YtjmlaeofjjhfmaaGreat
section
open Go.RowKit Go.Shelf Go.Maps
theorem Tryz.results78:Tryz.f78.results=#[.cell 2 33]:=by kernel_rfl
theorem zg6:∀s,zgv s/\zdi s
 | 0=> ⟨fun t h=> by have:=yD (.proc t);omega,fun t h=> by have:=yD (.def_ t);omega⟩
 | s + 1=> by
  obtain ⟨h1,h2⟩:=zg6 s;exact ⟨zkE s h1 h2,zkq s h1 h2⟩
def znm (t:Term):Prop:=∀(B:Nat) (u w:World) (cs:List Value),zh B u w->B<=w.heap.size->ze B u cs t->
 Calls Tryz.prog 78 #[.agg cs.toArray] w fun e w'=> ∃rs,e= .returned (.agg rs.toArray)/\ze w'.heap.size (blank w.heap.size w') rs t/\Below w.heap.size w w'
theorem zil (t:Term) (hf:Fit0 (.proc t)):znm t:=by
 intro B u w cs hu hB ht;obtain ⟨c0,c1,c2,c3,c4,c5,c6,c7,c8,c9,c10,rfl⟩:=zz ht;obtain ⟨W1,hW1⟩:∃W1,W1=((w.alloc (.cells #[.int .i64 c0, .string c1, .slice c2 c3 c4, .slice c5 c6 c7, .slice c8 c9 c10] 33)).alloc o33).alloc (.cells #[.int .i64 0, .string ⟨#[]⟩, .slice none 0 0, .slice none 0 0, .bool false] 106):=⟨_,rfl⟩;have z1:W1.heap.size=w.heap.size + 3:=by rw [hW1];simp
 have b1:Below w.heap.size w W1:=by rw [hW1];exact ((ZQ w _).alloc (by simp) _).alloc (by simp;omega) _
 have k1:W1.heap[w.heap.size + 1]?=some o33:=by
  rw [hW1,ZO _ _ _ (by simp)];have:=ZN (w.alloc (.cells #[.int .i64 c0, .string c1, .slice c2 c3 c4, .slice c5 c6 c7, .slice c8 c9 c10] 33)) o33;rwa [World.size_alloc] at this
 have kw:zgw W1 (w.heap.size + 1 + 1):=by
  show W1.heap[_]?=_;rw [hW1];have:=ZN ((w.alloc (.cells #[.int .i64 c0, .string c1, .slice c2 c3 c4, .slice c5 c6 c7, .slice c8 c9 c10] 33)).alloc o33) (.cells #[.int .i64 0, .string ⟨#[]⟩, .slice none 0 0, .slice none 0 0, .bool false] 106);rwa [World.size_alloc,World.size_alloc] at this
 have hc:=(zg6 (Part.proc t).size).1 t (ZL _) hf [] IdC.nil (by have:=hf.1;simp;omega) B u W1 (w.heap.size + 1 + 1) [.slice none 0 0, .slice none 0 0] _ (hu.trans ((Below.keptC b1).mono hB)) (by omega) kw (xI.nil _ _) ht;have HW:=ZH hW1;have HB:=ZH (And.intro b1 z1);clear hW1 b1 z1 ht kw;go_enter Tryz.func78,Tryz.ntmps78;go_wp2_with fail;rw [<-HW.out];refine hc.mono ?_;clear hc;rintro e' w3 ⟨rs,rfl,hat,hb3⟩;obtain ⟨g0,g1,g2,g3,g4,g5,g6,g7,g8,g9,gA,rfl⟩:=zz hat;have hz:=HB.out.2;obtain ⟨zz0,zz1,zz2,zz3,zz4,zz5,zz6,zz7,zz8,zz9⟩:=qC ((hb3.block (w.heap.size + 1) (by omega)).trans k1)
 have hup:∀W,W=(((((w3.setCell ⟨w.heap.size + 1,0,none⟩ (.int .i64 g0)).setCell ⟨w.heap.size + 1,1,none⟩ (.string g1)).setCell ⟨w.heap.size + 1,2,none⟩ (.slice g2 g3 g4)).setCell ⟨w.heap.size + 1,3,none⟩ (.slice g5 g6 g7)).setCell ⟨w.heap.size + 1,4,none⟩ (.slice g8 g9 gA))->
   ze w3.heap.size (blank w.heap.size W) [.int .i64 g0, .string g1, .slice g2 g3 g4, .slice g5 g6 g7, .slice g8 g9 gA] t/\Below w.heap.size w W:=by
  intro W hW
  have hset:zE W1.heap.size w3 W:=by
   rw [hW];exact ((((zE.set w3 (by omega) 0 _).trans (zE.set _ (by omega) 1 _)).trans (zE.set _ (by omega) 2 _)).trans (zE.set _ (by omega) 3 _)).trans (zE.set _ (by omega) 4 _)
  refine ⟨ze.keep (hset.blank (by omega)) (ZL _) _ _ hat,?_⟩;rw [hW];exact set5 (HB.out.1.trans (hb3.mono (by omega))) _ (by omega) _ _ _ _ _
 have HUP:=ZH hup;clear hup hat hb3 hz k1;go_wp2;simp [bodyPost,results,Tryz.results78,go_sem,zz0,zz1,zz2,zz3,zz4];exact HUP.out _ rfl
def yL (A:Nat) (l:List Term) (v:Value) (w:World):Prop:=∃vals,w.ownsRow A 33 5 v l.length vals/\zq (fun _ w1 cs x=> qz ze A v.ownBlock w1 cs x) 5 0 w vals l
theorem yL.nil (A:Nat) (w:World):yL A [] (.slice none 0 0) w:=⟨[],ZR _ _ _ _,zq.nil _ _ _ _⟩
theorem yL.later {A:Nat} {l:List Term} {v:Value} {w w':World} (h:yL A l v w) (hb:Below w.heap.size w w'):yL A l v w':=by
 obtain ⟨vals,h1,h2⟩:=h;exact ⟨vals,zt h1 (zj hb) (fun b _ e=> by cases e),h2.1,fun i hi=> qz.keep jo (h2.2 i hi) (fun b _ hb2 _=> hb.block b hb2) hb.size (.inl rfl)⟩
theorem yL.step {A:Nat} {l:List Term} {v:Value} {wr w3:World} (h:yL A l v wr) (hA:A<=wr.heap.size) (hl:l.length<=1000) (hb3:Below wr.heap.size wr w3) (rs:List Value) (hrl:rs.length=5) (h1c:∀u∈rs,u.oneCell'=true) (x:Term)
  (hat':ze w3.heap.size (blank wr.heap.size w3) rs x):
  ∃v' w',(Builtin.append_ #[31,31] 31 #[v, .slice (some ⟨w3.heap.size,0,none⟩) 1 1]).run Tryz.prog (w3.alloc (.cells rs.toArray 33))= .ok v' w'/\yL A (l ++ [x]) v' w'/\wr.grownBy w' v.ownBlock/\(v'.ownBlock=v.ownBlock∨∃g,v'.ownBlock=some g/\wr.heap.size<=g):=by
 obtain ⟨vals,hown,hch⟩:=h;obtain ⟨i0,hi,hz0,hz1,hz2⟩:=info_parts zcZ;obtain ⟨W4,hW4⟩:∃W4,W4=w3.alloc (.cells rs.toArray 33):=⟨_,rfl⟩;have hs3:=hb3.size;have hb4:Below wr.heap.size wr W4:=by rw [hW4];exact hb3.alloc hs3 _
 have hg4:=zj hb4;have hoA:=zt hown hg4 (fun b hb e=> by cases e)
 obtain ⟨v',w',hr,h1,h2,h3,h4⟩:=run_append_own_at (P:=Tryz.prog) W4 A 31 31 33 i0 (.agg #[.int .i64 0, .string ⟨#[]⟩, .slice none 0 0, .slice none 0 0, .slice none 0 0]) 5 96 Tryz.underlying31 hi hz0 hz1 hz2 rfl (by decide) _ _ vals hoA
  ⟨w3.heap.size,0,none⟩ 1 1 rs (by rw [hrl]) (by
   intro j u hj;have e:(⟨w3.heap.size,0,none⟩:Addr).add j=⟨w3.heap.size,j,none⟩:=by unfold Addr.add;by_cases h:j=0 <;> simp [h]
   rw [e,hW4,ZA _ _ _ _ rfl];simpa using hj) h1c (by unfold maxLen;omega) (by omega) (by have:=hb4.size;omega)
 have hs4:W4.heap.size=w3.heap.size + 1:=by rw [hW4];simp
 have hlo:=hown.lt;have hs2:=h2.size;refine ⟨v',w',by rw [<-hW4];exact hr,⟨vals ++ rs,by rw [List.length_append];exact h1,?_⟩,zk (zk (qx _ _) hg4 (fun r e=> by cases e)) h2 (fun r e=> .inr e),?_⟩
 ·have hch1:zq (fun _ w1 cs x=> qz ze A v'.ownBlock w1 cs x) 5 0 w' vals l:=⟨hch.1,fun i hi=> qz.keep jo (hch.2 i hi) (fun b hb1 hb2 hb3=>
   (h2.block b (by omega) (fun e=> hb3 e.symm)).trans (hg4.block b hb2 (fun e=> by cases e))) (by omega) (by
    rcases h4 with h4 | h4
    ·exact .inl h4
    ·exact .inr ⟨_,h4,by omega⟩)⟩
  refine zq.snoc hch1 ?_ hrl;refine ⟨wr.heap.size,w3.heap.size,hA,by omega,fun g hg=> ?_,?_⟩
  ·rcases h4 with h4 | h4
   ·rw [h4] at hg;have:=(hlo g hg).2;omega
   ·rw [h4] at hg;have:=ZJ hg;omega
  ·refine jo _ _ _ _ _ _ (qg (ZL _) fun b o v ha hb hv=> ?_) (ZL _) hat'
   have e1:W4.cell? ⟨b,o,none⟩=some v:=by rw [hW4,ZP _ _ _ hb];exact hv
   refine (ZB (w:=W4) (h2.block b (by omega) (fun e=> ?_))).trans e1;have:=(hlo b e.symm).2;omega
 ·rcases h4 with h4 | h4
  ·exact .inl h4
  ·exact .inr ⟨_,h4,by omega⟩
def zbm (t:Term):Prop:=∀(A B:Nat) (u w:World) (v:Value) (l:List Term) (cs:List Value),zh B u w->B<=A->A<=w.heap.size->yL A l v w->l.length + (zG t).length<=1000->ze B u cs t->
 Calls Tryz.prog 96 #[v, .agg cs.toArray] w fun e w'=> ∃v',e= .returned v'/\yL A (l ++ zG t) v' w'/\w.grownBy w' v.ownBlock/\(v'.ownBlock=v.ownBlock∨∃g,v'.ownBlock=some g/\w.heap.size<=g)
theorem zhM (op:Int) (text:ByteArray) (args:List Exp) (defs:List zg) (k0 k1:Term) (hop:op=3) (i0:zbm k0) (i1:zbm k1):zbm (.mk op text args defs [k0,k1]):=by
 intro A B u w v l cs hu hBA hA hrow hlen ht;subst hop
 have hsp:zG (.mk 3 text args defs [k0,k1])=zG k0 ++ zG k1:=by
  rw [zG,if_neg (by decide),if_pos rfl,qO,qO,qO,List.append_nil]
 rw [hsp] at hlen ⊢;rw [List.length_append] at hlen;obtain ⟨htz,va,vd,vk,rfl,hsa,hsd,hsk⟩:=ht;obtain ⟨a0,p0,rfl,-⟩:=hsa;obtain ⟨a1,p1,rfl,-⟩:=hsd;obtain ⟨a2,p2,rfl,-,hk0⟩:=hsk;rw [show [k0,k1].length=2 from rfl] at hk0 ⊢;rcases hk0 with h0 | ⟨b0,o0,rfl,hB0,hc0⟩
 ·omega
 obtain ⟨⟨d0,q0,f0⟩,⟨d1,q1,f1⟩,-⟩:=hc0;obtain ⟨g0,g1,g2,g3,g4,g5,g6,g7,g8,g9,gA,rfl⟩:=zz f0;obtain ⟨h0,h1,h2,h3,h4,h5,h6,h7,h8,h9,hA',rfl⟩:=zz f1;obtain ⟨W1,hW1⟩:∃W1,W1=w.alloc (.cells #[.int .i64 3, .string text, .slice a0 args.length p0, .slice a1 defs.length p1, .slice (some ⟨b0,o0,none⟩) 2 p2] 33):=⟨_,rfl⟩;have z1:W1.heap.size=w.heap.size + 1:=by rw [hW1];simp
 have b1:Below w.heap.size w W1:=by rw [hW1];exact ZQ w _
 have kb:W1.heap[w.heap.size]?=some (.cells #[.int .i64 3, .string text, .slice a0 args.length p0, .slice a1 defs.length p1, .slice (some ⟨b0,o0,none⟩) 2 p2] 33):=by rw [hW1];exact ZN w _
 have hku:zh B u W1:=hu.trans ((Below.keptC b1).mono (by omega));have hrow1:=hrow.later b1;obtain ⟨vals,hown,-⟩:=hrow;have hlt:=hown.lt;have hkg:∀W,W1.grownBy W v.ownBlock->∀b,b < W1.heap.size->(b < A∨b=w.heap.size)->W.heap[b]?=W1.heap[b]?:=fun W hW b hb hc=> hW.block b hb (fun e=> by have:=hlt b e.symm;omega)
 have hkW:∀W,W1.grownBy W v.ownBlock->zh B u W:=fun W hW b o x hb hx=> by
  have h1:=hku b o x hb hx;exact (ZB (w:=W1) (hkg W hW b (zD h1) (by omega))).trans h1
 have HS:Hid (∀W,W1.grownBy W v.ownBlock->W.cell? ⟨w.heap.size,4,none⟩=some (.slice (some ⟨b0,o0,none⟩) 2 p2)/\W.cell? ⟨b0,o0,none⟩=some (.int .i64 g0)/\W.cell? ⟨b0,o0 + 1,none⟩=some (.string g1)/\W.cell? ⟨b0,o0 + 2,none⟩=some (.slice g2 g3 g4)/\W.cell? ⟨b0,o0 + 3,none⟩=some (.slice g5 g6 g7)/\W.cell? ⟨b0,o0 + 4,none⟩=some (.slice g8 g9 gA)/\W.cell? ⟨b0,o0 + 5,none⟩=some (.int .i64 h0)/\W.cell? ⟨b0,o0 + 5 + 1,none⟩=some (.string h1)/\W.cell? ⟨b0,o0 + 5 + 2,none⟩=some (.slice h2 h3 h4)/\W.cell? ⟨b0,o0 + 5 + 3,none⟩=some (.slice h5 h6 h7)/\W.cell? ⟨b0,o0 + 5 + 4,none⟩=some (.slice h8 h9 hA')):=ZH fun W hW=> by
  have e0:=(hkg W hW w.heap.size (by omega) (.inr rfl)).trans kb;obtain ⟨x0,x1,x2,x3,x4⟩:=zK (q0.keep (hkW W hW) hB0);obtain ⟨y0,y1,y2,y3,y4⟩:=zK (q1.keep (hkW W hW) hB0);exact ⟨by simp [World.cell?,e0],x0,x1,x2,x3,x4,y0,y1,y2,y3,y4⟩
 have H1:Hid (∀W,W1.grownBy W v.ownBlock->W=W1.drew->Calls Tryz.prog 96 #[v, .agg #[.int .i64 g0, .string g1, .slice g2 g3 g4, .slice g5 g6 g7, .slice g8 g9 gA]] W fun e w'=> ∃v5,e= .returned v5/\Hid (W1.grownBy w' v.ownBlock/\yL A (l ++ zG k0) v5 w'/\(v5.ownBlock=v.ownBlock∨∃g,v5.ownBlock=some g/\W1.heap.size<=g))):=ZH fun W hW hWe=> by
  subst hWe;refine (i0 A B u W1.drew v l [.int .i64 g0, .string g1, .slice g2 g3 g4, .slice g5 g6 g7, .slice g8 g9 gA] (hkW _ hW) hBA (by show A<=W1.heap.size;omega) (hrow1.later (ZF _ _).drew) (by omega) f0).mono ?_;rintro e w' ⟨v5,rfl,r1,r2,r3⟩;exact ⟨v5,rfl,ZH ⟨zk hW r2 (fun r e=> .inr e),r1,r3⟩⟩
 have H2:Hid (∀W v5,(W1.grownBy W v.ownBlock/\yL A (l ++ zG k0) v5 W/\(v5.ownBlock=v.ownBlock∨∃g,v5.ownBlock=some g/\W1.heap.size<=g))->Calls Tryz.prog 96 #[v5, .agg #[.int .i64 h0, .string h1, .slice h2 h3 h4, .slice h5 h6 h7, .slice h8 h9 hA']] W fun e w'=> ∃v6,e= .returned v6/\Hid (W1.grownBy w' v.ownBlock/\yL A (l ++ (zG k0 ++ zG k1)) v6 w'/\(v6.ownBlock=v.ownBlock∨∃g,v6.ownBlock=some g/\W1.heap.size<=g))):=ZH fun W v5 hW=> by
  obtain ⟨r1,r2,r3⟩:=hW;have hs:=r1.size;refine (i1 A B u W v5 (l ++ zG k0) [.int .i64 h0, .string h1, .slice h2 h3 h4, .slice h5 h6 h7, .slice h8 h9 hA'] (hkW _ r1) hBA (by omega) r2 (by rw [List.length_append];omega) f1).mono ?_;rintro e w' ⟨v6,rfl,t1,t2,t3⟩;rw [List.append_assoc] at t1;refine ⟨v6,rfl,ZH ⟨zk r1 t2 (fun r e=> ?_),t1,?_⟩⟩
  ·rcases r3 with r3 | ⟨g,r3,r4⟩
   ·exact .inr (r3.symm.trans e)
   ·rw [r3] at e;have:=ZJ e;exact .inl (by omega)
  ·rcases t3 with t3 | ⟨g,t3,t4⟩
   ·rw [t3];exact r3
   ·exact .inr ⟨g,t3,by omega⟩
 have HGD:Hid (W1.grownBy W1.drew v.ownBlock):=ZH ⟨rfl,rfl,rfl,ZL _,fun _ _ _=> rfl⟩;have HF:Hid (∀w',W1.grownBy w' v.ownBlock->w.grownBy w' v.ownBlock):=ZH fun w' h=> zk (zk (qx w _) (zj b1) (fun r e=> by cases e)) h (fun r e=> .inr e);have HW:=ZH (And.intro hW1 z1);clear hW1 z1 b1 kb hku hrow1 hown hlt hkg hkW q0 q1 f0 f1 hlen hsp i0 i1;go_enter Tryz.func96,Tryz.ntmps96;go_upto_region 5 with fail;rw [<-HW.out.1];refine jg (fun W=> W.cell? ⟨w.heap.size,4,none⟩=some (.slice (some ⟨b0,o0,none⟩) 2 p2)/\W.cell? ⟨b0,o0,none⟩=some (.int .i64 g0)/\W.cell? ⟨b0,o0 + 1,none⟩=some (.string g1)/\W.cell? ⟨b0,o0 + 2,none⟩=some (.slice g2 g3 g4)/\W.cell? ⟨b0,o0 + 3,none⟩=some (.slice g5 g6 g7)/\W.cell? ⟨b0,o0 + 4,none⟩=some (.slice g8 g9 gA)/\W.cell? ⟨b0,o0 + 5,none⟩=some (.int .i64 h0)/\W.cell? ⟨b0,o0 + 5 + 1,none⟩=some (.string h1)/\W.cell? ⟨b0,o0 + 5 + 2,none⟩=some (.slice h2 h3 h4)/\W.cell? ⟨b0,o0 + 5 + 3,none⟩=some (.slice h5 h6 h7)/\W.cell? ⟨b0,o0 + 5 + 4,none⟩=some (.slice h8 h9 hA')) 11 (by kernel_rfl) ?_;refine Sunk.takeD 0 (some 12) (v) rfl rfl (by kernel_rfl) (by kernel_rfl) (by kernel_rfl) (by kernel_rfl) (fun _ _ _ h=> h) (HS.out _ HGD.out) (by rfl) (by rintro W ⟨e0,e1,e2,e3,e4,e5,e6,e7,e8,e9,e10⟩;go_simp) ?_
 (try simp only [ZS])
 refine Sunk.takeD 1 (some 13) (.pointer (some ⟨w.heap.size,4,none⟩)) rfl rfl (by kernel_rfl) (by kernel_rfl) (by kernel_rfl) (by kernel_rfl) (fun _ _ _ h=> h) (HS.out _ HGD.out) (by rfl) (by rintro W ⟨e0,e1,e2,e3,e4,e5,e6,e7,e8,e9,e10⟩;go_simp) ?_
 (try simp only [ZS])
 refine Sunk.takeD 2 (some 14) (.slice (some ⟨b0,o0,none⟩) 2 p2) rfl rfl (by kernel_rfl) (by kernel_rfl) (by kernel_rfl) (by kernel_rfl) (fun _ _ _ h=> h) (HS.out _ HGD.out) (by rfl) (by rintro W ⟨e0,e1,e2,e3,e4,e5,e6,e7,e8,e9,e10⟩;go_simp) ?_
 (try simp only [ZS])
 refine Sunk.takeD 3 (some 15) (.pointer (some ⟨b0,o0,none⟩)) rfl rfl (by kernel_rfl) (by kernel_rfl) (by kernel_rfl) (by kernel_rfl) (fun _ _ _ h=> h) (HS.out _ HGD.out) (by rfl) (by rintro W ⟨e0,e1,e2,e3,e4,e5,e6,e7,e8,e9,e10⟩;go_simp) ?_
 (try simp only [ZS])
 refine Sunk.takeD 4 (some 16) (.agg #[.int .i64 g0, .string g1, .slice g2 g3 g4, .slice g5 g6 g7, .slice g8 g9 gA]) rfl rfl (by kernel_rfl) (by kernel_rfl) (by kernel_rfl) (by kernel_rfl) (fun _ _ _ h=> h) (HS.out _ HGD.out) (by rfl) (by rintro W ⟨e0,e1,e2,e3,e4,e5,e6,e7,e8,e9,e10⟩;go_simp) ?_
 (try simp only [ZS])
 refine Sunk.takeD 6 (some 18) (.pointer (some ⟨w.heap.size,4,none⟩)) rfl rfl (by kernel_rfl) (by kernel_rfl) (by kernel_rfl) (by kernel_rfl) (fun _ _ _ h=> h) (HS.out _ HGD.out) (by rfl) (by rintro W ⟨e0,e1,e2,e3,e4,e5,e6,e7,e8,e9,e10⟩;go_simp) ?_
 (try simp only [ZS])
 refine Sunk.takeD 7 (some 19) (.slice (some ⟨b0,o0,none⟩) 2 p2) rfl rfl (by kernel_rfl) (by kernel_rfl) (by kernel_rfl) (by kernel_rfl) (fun _ _ _ h=> h) (HS.out _ HGD.out) (by rfl) (by rintro W ⟨e0,e1,e2,e3,e4,e5,e6,e7,e8,e9,e10⟩;go_simp) ?_
 (try simp only [ZS])
 refine Sunk.takeD 8 (some 20) (.pointer (some ⟨b0,o0 + 5,none⟩)) rfl rfl (by kernel_rfl) (by kernel_rfl) (by kernel_rfl) (by kernel_rfl) (fun _ _ _ h=> h) (HS.out _ HGD.out) (by rfl) (by rintro W ⟨e0,e1,e2,e3,e4,e5,e6,e7,e8,e9,e10⟩;go_simp) ?_
 (try simp only [ZS])
 refine Sunk.takeD 9 (some 21) (.agg #[.int .i64 h0, .string h1, .slice h2 h3 h4, .slice h5 h6 h7, .slice h8 h9 hA']) rfl rfl (by kernel_rfl) (by kernel_rfl) (by kernel_rfl) (by kernel_rfl) (fun _ _ _ h=> h) (HS.out _ HGD.out) (by rfl) (by rintro W ⟨e0,e1,e2,e3,e4,e5,e6,e7,e8,e9,e10⟩;go_simp) ?_
 (try simp only [ZS])
 refine Sunk.one 5 (by kernel_rfl) rfl (by rfl) (fun K hK=> ?_);go_simp;go_at_call 96;refine (H1.out _ HGD.out rfl).mono ?_;rintro e w5 ⟨v5,rfl,H5⟩;refine hK.out _ _ (fun _=> HS.out w5 H5.out.1) ?_;clear hK K
 (try simp only [ZS])
 refine Sunk.one 10 (by kernel_rfl) rfl (by rfl) (fun K hK=> ?_);go_simp;go_at_call 96;refine (H2.out w5 v5 H5.out).mono ?_;rintro e w6 ⟨v6,rfl,H6⟩;refine hK.out _ _ (fun _=> HS.out w6 H6.out.1) ?_;clear hK K
 (try simp only [ZS])
 refine Sunk.one 11 (by kernel_rfl) rfl (by rfl) (fun K hK=> ?_);go_simp;refine hK.out _ _ (fun h=> absurd rfl h) ?_;clear hK K
 (try simp only [ZS])
 refine Sunk.done (by kernel_rfl) ?_;go_wp2;go_ret
 exact ⟨v6,rfl,H6.out.2.1,HF.out _ H6.out.1,by
  have:=HW.out.2;rcases H6.out.2.2 with h | ⟨g,h,h'⟩
  ·exact .inl h
  ·exact .inr ⟨g,h,by omega⟩⟩
theorem zhz (op:Int) (text:ByteArray) (args:List Exp) (defs:List zg) (kids:List Term) (hop1:op≠1) (hop3:op≠3) (hf:Fit0 (.proc (.mk op text args defs kids))):zbm (.mk op text args defs kids):=by
 intro A B u w v l cs hu hBA hA hrow hlen ht;have hsp:zG (.mk op text args defs kids)= [.mk op text args defs kids]:=by rw [zG,if_neg hop1,if_neg hop3]
 rw [hsp] at hlen ⊢;obtain ⟨t,htt⟩:∃t,t=Term.mk op text args defs kids:=⟨_,rfl⟩;have ht0:=ht;obtain ⟨htz,va,vd,vk,rfl,hsa,hsd,hsk⟩:=ht;obtain ⟨a0,p0,rfl,-⟩:=hsa;obtain ⟨a1,p1,rfl,-⟩:=hsd;obtain ⟨a2,p2,rfl,-⟩:=hsk;rw [<-htt] at hf ht0 ⊢;obtain ⟨W1,hW1⟩:∃W1,W1=w.alloc (.cells #[.int .i64 op, .string text, .slice a0 args.length p0, .slice a1 defs.length p1, .slice a2 kids.length p2] 33):=⟨_,rfl⟩;have z1:W1.heap.size=w.heap.size + 1:=by rw [hW1];simp
 have b1:Below w.heap.size w W1:=by rw [hW1];exact ZQ w _
 have hku:zh B u W1:=hu.trans ((Below.keptC b1).mono (by omega));have hrow1:=hrow.later b1;have kb:W1.heap[w.heap.size]?=some (.cells #[.int .i64 op, .string text, .slice a0 args.length p0, .slice a1 defs.length p1, .slice a2 kids.length p2] 33):=by rw [hW1];exact ZN w _
 obtain ⟨m0,m1,m2,m3,m4,-,-,-,-,-⟩:=qC kb;have hc:=zil t hf B u W1 _ hku (by omega) ht0
 have hcall:Calls Tryz.prog 78 #[.agg #[.int .i64 op, .string text, .slice a0 args.length p0, .slice a1 defs.length p1, .slice a2 kids.length p2]] W1 fun e w'=> ∃(c0:Int) (c1:ByteArray) (c2:Option Addr) (c3 c4:Nat) (c5:Option Addr) (c6 c7:Nat) (c8:Option Addr) (c9 c10:Nat) (v':Value) (w5:World),e= .returned (.agg #[.int .i64 c0, .string c1, .slice c2 c3 c4, .slice c5 c6 c7, .slice c8 c9 c10])/\
   (Builtin.append_ #[31,31] 31 #[v, .slice (some ⟨w'.heap.size,0,none⟩) 1 1]).run Tryz.prog (w'.alloc (.cells #[.int .i64 c0, .string c1, .slice c2 c3 c4, .slice c5 c6 c7, .slice c8 c9 c10] 33))= .ok v' w5/\Hid (yL A (l ++ [t]) v' w5/\w.grownBy w5 v.ownBlock/\(v'.ownBlock=v.ownBlock∨∃g,v'.ownBlock=some g/\w.heap.size<=g)):=by
  refine hc.mono ?_;rintro e w' ⟨rs,rfl,hat,hb⟩;obtain ⟨c0,c1,c2,c3,c4,c5,c6,c7,c8,c9,c10,rfl⟩:=zz hat;obtain ⟨v',w5,r1,r2,r3,r4⟩:=yL.step hrow1 (by omega) (by simp at hlen;omega) hb _ rfl (by simp [Value.oneCell']) t hat;refine ⟨c0,c1,c2,c3,c4,c5,c6,c7,c8,c9,c10,v',w5,rfl,r1,ZH ⟨r2,zk (zk (qx w _) (zj b1) (fun r e=> by cases e)) r3 (fun r e=> .inr e),?_⟩⟩;rcases r4 with h | ⟨g,h,h'⟩
  ·exact .inl h
  ·exact .inr ⟨g,h,by omega⟩
 have HW:=ZH hW1;have d1:decide (op=1)=false:=by simpa using hop1
 have d2:(op==1)=false:=by simpa using hop1
 have d3:decide (op=3)=false:=by simpa using hop3
 have d4:(op==3)=false:=by simpa using hop3
 clear hc hrow hrow1 hku b1 z1 hW1 ht0 hsp hlen htt hop1 hop3 kb;go_enter Tryz.func96,Tryz.ntmps96;go_upto_region 6 with fail;rw [<-HW.out]
 go_wp2_with (first
  | (go_at_call 78;refine hcall.mono ?_;clear hcall;rintro e w' ⟨c0,c1,c2,c3,c4,c5,c6,c7,c8,c9,c10,v',w5,rfl,hr,HF⟩)
  | (show wpList _ _ _ (⟨some 27,_,_,_,_,_⟩::_) _ _;refine qe rfl (.tmp 23) (.tmp 26) 31 31 rfl rfl rfl hr ?_))
 go_ret;exact ⟨v',rfl,HF.out⟩
theorem zgY (text:ByteArray) (args:List Exp) (defs:List zg) (kids:List Term):zbm (.mk 1 text args defs kids):=by
 intro A B u w v l cs hu hBA hA hrow hlen ht;have hsp:zG (.mk 1 text args defs kids)= []:=by rw [zG,if_pos rfl]
 rw [hsp,List.append_nil];obtain ⟨htz,va,vd,vk,rfl,hsa,hsd,hsk⟩:=ht;obtain ⟨a0,p0,rfl,-⟩:=hsa;obtain ⟨a1,p1,rfl,-⟩:=hsd;obtain ⟨a2,p2,rfl,-⟩:=hsk;have b1:Below w.heap.size w (w.alloc (.cells #[.int .i64 1, .string text, .slice a0 args.length p0, .slice a1 defs.length p1, .slice a2 kids.length p2] 33)):=ZQ w _;have HF:=ZH (And.intro (hrow.later b1) (And.intro (zk (qx w v.ownBlock) (zj b1) (fun r e=> by cases e)) (Or.inl (b:=∃g,v.ownBlock=some g/\w.heap.size<=g) (rfl:v.ownBlock=v.ownBlock))));clear b1 hrow hsp hlen;go_enter Tryz.func96,Tryz.ntmps96;go_wp2;go_ret;exact ⟨v,rfl,HF.out.1,HF.out.2.1, .inl rfl⟩
theorem zaC:∀(s:Nat) (t:Term),(Part.proc t).size<=s->Fit0 (.proc t)->zbm t
 | 0,t,h,_=> by have:=yD (.proc t);omega
 | s + 1, .mk op text args defs kids,h,hf=> by
  by_cases h1:op=1
  ·subst h1;exact zgY _ _ _ _
  ·by_cases h3:op=3
   ·have hs:(Part.proc (.mk op text args defs kids)).shaped=true:=(hf.2 _ (by rw [zv];exact List.mem_cons_self ..)).1
    have hk:kids.length=2:=by
     simp only [Part.shaped,yg,Bool.or_eq_true,Bool.and_eq_true,beq_iff_eq,decide_eq_true_eq] at hs;omega
    obtain ⟨k0,k1,rfl⟩:∃a b,kids= [a,b]:=by
     match kids,hk with
     | [a,b],_=> exact ⟨a,b,rfl⟩
    have hp:∀k∈ [k0,k1],Part.proc k∈(Part.proc (.mk op text args defs [k0,k1])).parts:=fun k hk=> by
     rw [Part.parts];simp only [List.mem_append,List.mem_map];exact .inr ⟨k,hk,rfl⟩
    exact zhM op text args defs k0 k1 h3 (zaC s k0 (by have:=qi (hp k0 (by simp));omega) (jr hf (hp k0 (by simp)))) (zaC s k1 (by have:=qi (hp k1 (by simp));omega) (jr hf (hp k1 (by simp))))
   ·exact zhz op text args defs kids h1 h3 hf
end
section
open Go.RowKit Go.Shelf Go.Maps Go.WideMaps
theorem Tryz.results97:Tryz.f97.results=#[.cell 2 33]:=by kernel_rfl
theorem zf6 (l:List Term) (hlen:l.length<=1000) (B:Nat) (U w:World) (v:Value) (hU:zh B U w) (hB:B<=w.heap.size) (hv:SlAt B v l.length (fun b off=> zu B U b off l)):
  Calls Tryz.prog 97 #[v] w fun e w'=> ∃cs',e= .returned (.agg cs'.toArray)/\Below w.heap.size w w'/\
   ∀X:World,zh B U X->(∀b o x,w.heap.size<=b->w'.cell? ⟨b,o,none⟩=some x->X.cell? ⟨b,o,none⟩=some x)->ze w'.heap.size X cs' (qw l):=by
 obtain ⟨a,cap,rfl,hl,hx⟩:=hv;by_cases h0:l.length=0
 ·have hnil:l= []:=List.length_eq_zero_iff.1 h0
  subst hnil;go_enter Tryz.func97,Tryz.ntmps97;go_wp2;simp [bodyPost,results,Tryz.results97,go_sem];refine ⟨ZQ w _,fun X _ _=> ?_⟩;rw [qw];unfold ze;exact ⟨by decide, .slice none 0 0, .slice none 0 0, .slice none 0 0,rfl,⟨none,0,rfl,by simp, .inl rfl⟩,⟨none,0,rfl,by simp, .inl rfl⟩,⟨none,0,rfl,by simp, .inl rfl⟩⟩
 ·rcases hx with hx | ⟨b,off,rfl,hb,hts⟩
  ·exact absurd hx h0
  obtain ⟨n,hn⟩:∃n,l.length=n + 1:=⟨l.length - 1,by omega⟩;have hln:n < l.length:=by omega
  obtain ⟨d,c,f⟩:=hts.get l b off n hln;obtain ⟨e0,e1,e2,e3,e4,e5,e6,e7,e8,e9,eA,rfl⟩:=zz f;obtain ⟨W1,hW1⟩:∃W1,W1=w.alloc (.cells #[.int .i64 0, .string ⟨#[]⟩, .slice none 0 0, .slice none 0 0, .slice none 0 0] 33):=⟨_,rfl⟩;have b1:Below w.heap.size w W1:=by rw [hW1];exact ZQ w _
  obtain ⟨r0,r1,r2,r3,r4⟩:=zK (c.keep (hU.trans ((Below.keptC b1).mono hB)) hb);rw [hW1] at r0 r1 r2 r3 r4;have i1:l.length - 1=n:=by omega
  obtain ⟨W2,hW2⟩:∃W2,W2=W1.alloc (.cells #[.int .i64 e0, .string e1, .slice e2 e3 e4, .slice e5 e6 e7, .slice e8 e9 eA] 33):=⟨_,rfl⟩;have z1:W1.heap.size=w.heap.size + 1:=by rw [hW1];simp
  have z2:W2.heap.size=w.heap.size + 2:=by rw [hW2];simp;omega
  have b2:Below w.heap.size w W2:=by rw [hW2];exact b1.alloc (by omega) _
  have k0:W2.heap[w.heap.size]?=some (.cells #[.int .i64 0, .string ⟨#[]⟩, .slice none 0 0, .slice none 0 0, .slice none 0 0] 33):=by
   rw [hW2,ZO _ _ _ (by omega),hW1];exact ZN w _
  have k1:W2.heap[w.heap.size + 1]?=some (.cells #[.int .i64 e0, .string e1, .slice e2 e3 e4, .slice e5 e6 e7, .slice e8 e9 eA] 33):=by
   have:=ZN W1 (.cells #[.int .i64 e0, .string e1, .slice e2 e3 e4, .slice e5 e6 e7, .slice e8 e9 eA] 33);rw [hW2,<-z1];exact this
  have HW2:=ZH hW2;have HW1:=ZH hW1;have HN:=ZH hn
  have hstart:∀X:World,zh B U X->(∀b o x,w.heap.size + 2<=b->W2.cell? ⟨b,o,none⟩=some x->X.cell? ⟨b,o,none⟩=some x)->ze W2.heap.size X [.int .i64 e0, .string e1, .slice e2 e3 e4, .slice e5 e6 e7, .slice e8 e9 eA] (qw (l.drop n)):=fun X hX _=> by
   have e:l.drop n= [l[n]]:=by rw [List.drop_eq_getElem_cons hln,List.drop_of_length_le (by omega)]
   rw [e,qw];exact ze.keep hX (by omega) _ _ f
  have HS:=ZH hstart;have i0:((n:Int) + 1==0)=false:=by simp;omega
  rw [hn];clear hW1 hW2 hn hstart;go_enter Tryz.func97,Tryz.ntmps97;go_wp2;rw [<-HW1.out,<-HW2.out]
  go_loopw [4] (fun i wr=> ∃(k:Nat) (c0:Int) (c1:ByteArray) (c2:Option Addr) (c3 c4:Nat) (c5:Option Addr) (c6 c7:Nat) (c8:Option Addr) (c9 cA:Nat),k<=n/\i= .int .i64 ((k:Int) - 1)/\Below w.heap.size w wr/\w.heap.size + 2<=wr.heap.size/\
   wr.heap[w.heap.size]?=some (.cells #[.int .i64 0, .string ⟨#[]⟩, .slice none 0 0, .slice none 0 0, .slice none 0 0] 33)/\
   wr.heap[w.heap.size + 1]?=some (.cells #[.int .i64 c0, .string c1, .slice c2 c3 c4, .slice c5 c6 c7, .slice c8 c9 cA] 33)/\
   Hid (∀X:World,zh B U X->(∀b o x,w.heap.size + 2<=b->wr.cell? ⟨b,o,none⟩=some x->X.cell? ⟨b,o,none⟩=some x)->ze wr.heap.size X [.int .i64 c0, .string c1, .slice c2 c3 c4, .slice c5 c6 c7, .slice c8 c9 cA] (qw (l.drop k)))) (fun i _=> (intOf i + 1).toNat)
  case atStart=> exact ⟨n,_,_,_,_,_,_,_,_,_,_,_,ZL _,by congr 1;omega,b2,by omega,k0,k1,HS⟩
  case round=>
   obtain ⟨k,c0,c1,c2,c3,c4,c5,c6,c7,c8,c9,cA,hk,rfl,hbr,hzr,q0,q1,HT⟩:=hrel;have m0:wr.cell? ⟨w.heap.size + 1,0,none⟩=some (.int .i64 c0):=by simp [World.cell?,q1]
   have m1:wr.cell? ⟨w.heap.size + 1,1,none⟩=some (.string c1):=by simp [World.cell?,q1]
   have m2:wr.cell? ⟨w.heap.size + 1,2,none⟩=some (.slice c2 c3 c4):=by simp [World.cell?,q1]
   have m3:wr.cell? ⟨w.heap.size + 1,3,none⟩=some (.slice c5 c6 c7):=by simp [World.cell?,q1]
   have m4:wr.cell? ⟨w.heap.size + 1,4,none⟩=some (.slice c8 c9 cA):=by simp [World.cell?,q1]
   have hf1:∀o,wr.frozen? ⟨w.heap.size + 1,o,none⟩=false:=fun o=> by simp [World.frozen?,q1]
   rcases Nat.eq_zero_or_pos k with rfl | hpos
   ·obtain ⟨x0,x1,x2,x3,x4,xf⟩:=qr.cells q0
    go_wp2;simp [bodyPost,results,Tryz.results97,go_sem,x0,x1,x2,x3,x4];refine ⟨set5 hbr w.heap.size (ZL _) _ _ _ _ _,fun X hX hX2=> ?_⟩;exact zhn (n:=w.heap.size) l _ (by have h:=HT.out;rw [List.drop_zero] at h;exact h) (xo (qj.refl (w.heap.size + 1) wr) w.heap.size (Nat.lt_succ_self _) (.int .i64 c0) (.string c1) (.slice c2 c3 c4) (.slice c5 c6 c7) (.slice c8 c9 cA)).2 X hX hX2
   ·obtain ⟨j,rfl⟩:∃j,k=j + 1:=⟨k - 1,by omega⟩
    obtain ⟨d',c',f'⟩:=hts.get l b off j (by omega);obtain ⟨g0,g1,g2,g3,g4,g5,g6,g7,g8,g9,gA,rfl⟩:=zz f';have HF:=ZH f';obtain ⟨s0,s1,s2,s3,s4⟩:=zK (c'.keep (hU.trans ((Below.keptC hbr).mono hB)) hb);have i3:((j + 1:Nat):Int) - 1=(j:Int):=by omega
    have i4:(j:Int) < (n:Int) + 1:=by omega
    rw [i3];go_wp2
    go_still_tail 5,(by kernel_rfl)
    have hlt1:w.heap.size + 1 < wr.heap.size:=by omega
    have y0:((wr.alloc (.cells #[.int .i64 g0, .string g1, .slice g2 g3 g4, .slice g5 g6 g7, .slice g8 g9 gA, .int .i64 c0, .string c1, .slice c2 c3 c4, .slice c5 c6 c7, .slice c8 c9 cA] 33)).drew).cell? ⟨w.heap.size + 1,0,none⟩=some (.int .i64 c0):=(ZP _ _ _ hlt1).trans m0;have y1:((wr.alloc (.cells #[.int .i64 g0, .string g1, .slice g2 g3 g4, .slice g5 g6 g7, .slice g8 g9 gA, .int .i64 c0, .string c1, .slice c2 c3 c4, .slice c5 c6 c7, .slice c8 c9 cA] 33)).drew).cell? ⟨w.heap.size + 1,1,none⟩=some (.string c1):=(ZP _ _ _ hlt1).trans m1;have y2:((wr.alloc (.cells #[.int .i64 g0, .string g1, .slice g2 g3 g4, .slice g5 g6 g7, .slice g8 g9 gA, .int .i64 c0, .string c1, .slice c2 c3 c4, .slice c5 c6 c7, .slice c8 c9 cA] 33)).drew).cell? ⟨w.heap.size + 1,2,none⟩=some (.slice c2 c3 c4):=(ZP _ _ _ hlt1).trans m2;have y3:((wr.alloc (.cells #[.int .i64 g0, .string g1, .slice g2 g3 g4, .slice g5 g6 g7, .slice g8 g9 gA, .int .i64 c0, .string c1, .slice c2 c3 c4, .slice c5 c6 c7, .slice c8 c9 cA] 33)).drew).cell? ⟨w.heap.size + 1,3,none⟩=some (.slice c5 c6 c7):=(ZP _ _ _ hlt1).trans m3;have y4:((wr.alloc (.cells #[.int .i64 g0, .string g1, .slice g2 g3 g4, .slice g5 g6 g7, .slice g8 g9 gA, .int .i64 c0, .string c1, .slice c2 c3 c4, .slice c5 c6 c7, .slice c8 c9 cA] 33)).drew).cell? ⟨w.heap.size + 1,4,none⟩=some (.slice c8 c9 cA):=(ZP _ _ _ hlt1).trans m4;have yf:∀o,((wr.alloc (.cells #[.int .i64 g0, .string g1, .slice g2 g3 g4, .slice g5 g6 g7, .slice g8 g9 gA, .int .i64 c0, .string c1, .slice c2 c3 c4, .slice c5 c6 c7, .slice c8 c9 cA] 33)).drew).frozen? ⟨w.heap.size + 1,o,none⟩=false:=fun o=> (World.frozen?_alloc_past _ _ _ hlt1).trans (hf1 o);change wpList _ _ _ _ _ wr.drew;go_wp2;have HLN:=ZH (show n + 1=l.length/\j < n from ⟨HN.out.symm,by omega⟩);go_roundw
    case rel=>
     obtain ⟨w1,w2,w3,w4,w5⟩:=zet (v0:= .int .i64 3) (v1:= .string ⟨#[]⟩) (v2:= .slice none 0 0) (v3:= .slice none 0 0) (v4:= .slice (some ⟨wr.heap.size,0,none⟩) 2 2) hlt1 hbr q1 #[.int .i64 g0, .string g1, .slice g2 g3 g4, .slice g5 g6 g7, .slice g8 g9 gA, .int .i64 c0, .string c1, .slice c2 c3 c4, .slice c5 c6 c7, .slice c8 c9 cA];obtain ⟨WB,hWB⟩:∃WB,WB=((((((wr.setCell ⟨w.heap.size + 1,0,none⟩ (.int .i64 3)).setCell ⟨w.heap.size + 1,1,none⟩ (.string ⟨#[]⟩)).setCell ⟨w.heap.size + 1,2,none⟩ (.slice none 0 0)).setCell ⟨w.heap.size + 1,3,none⟩ (.slice none 0 0)).setCell ⟨w.heap.size + 1,4,none⟩ (.slice (some ⟨wr.heap.size,0,none⟩) 2 2)).alloc (.cells #[.int .i64 g0, .string g1, .slice g2 g3 g4, .slice g5 g6 g7, .slice g8 g9 gA, .int .i64 c0, .string c1, .slice c2 c3 c4, .slice c5 c6 c7, .slice c8 c9 cA] 33)).drew:=⟨_,rfl⟩;rw [<-hWB] at w1 w2 w3 w4 w5 ⊢;clear hWB
     have HCA:zI WB wr.heap.size 0 ([.int .i64 g0, .string g1, .slice g2 g3 g4, .slice g5 g6 g7, .slice g8 g9 gA] ++ [.int .i64 c0, .string c1, .slice c2 c3 c4, .slice c5 c6 c7, .slice c8 c9 cA]):=by
      intro i hi;have:WB.cell? ⟨wr.heap.size,0 + i,none⟩=#[Value.int .i64 g0, .string g1, .slice g2 g3 g4, .slice g5 g6 g7, .slice g8 g9 gA, .int .i64 c0, .string c1, .slice c2 c3 c4, .slice c5 c6 c7, .slice c8 c9 cA][i]?:=by simp [World.cell?,w5]
      rw [this]
      match i,hi with
      | 0,_=> rfl
      | 1,_=> rfl
      | 2,_=> rfl
      | 3,_=> rfl
      | 4,_=> rfl
      | 5,_=> rfl
      | 6,_=> rfl
      | 7,_=> rfl
      | 8,_=> rfl
      | 9,_=> rfl
     refine ⟨j,3,⟨#[]⟩,none,0,0,none,0,0,some ⟨wr.heap.size,0,none⟩,2,2,Nat.le_of_lt HLN.out.2,rfl,w1,by rw [w2];exact Nat.le_succ_of_le hzr,(w3 _ (Nat.ne_of_lt (Nat.lt_succ_self _)) (Nat.lt_of_succ_lt hlt1)).trans q0,w4,ZH (fun X hX hX2=> ?_)⟩;exact zf1 (N:=w.heap.size) l HLN.out.1 HLN.out.2 hB hzr w2 HCA rfl rfl HF.out HT.out (fun b hb hlt=> w3 b (Nat.ne_of_gt hb) hlt) X hX hX2
    case measure=> simp [intOf]
end
section
open Go.RowKit Go.Shelf Go.Maps
def zfh (A:Nat) (w:World) (v:Value) (l:List Term):Prop:=SlAt w.heap.size v l.length (fun b off=> zu w.heap.size (blank A w) b off l)
theorem yL.terms {A:Nat} {l:List Term} {v:Value} {w:World} (h:yL A l v w):zfh A w v l:=by
 obtain ⟨vals,h1,h2⟩:=h;exact zfk h1 h2
theorem zho (t:Term) (hf:zT (.proc t)) (hc19:∀(B:Nat) (u w:World) (cs:List Value),zh B u w->B<=w.heap.size->ze B u cs t->Calls Tryz.prog 19 #[.agg cs.toArray] w fun e w'=> e= .returned (.int .i64 0)/\Below w.heap.size w w')
  (B:Nat) (u w:World) (cs:List Value) (hu:zh B u w) (hB:B<=w.heap.size) (ht:ze B u cs t):
  Calls Tryz.prog 43 #[.agg cs.toArray] w fun e w'=> ∃v,e= .returned (.tuple #[v, .int .i64 0])/\zfh w.heap.size w' v (zG t)/\Below w.heap.size w w':=by
 obtain ⟨c0,c1,c2,c3,c4,c5,c6,c7,c8,c9,c10,rfl⟩:=zz ht;obtain ⟨W1,hW1⟩:∃W1,W1=w.alloc (.cells #[.int .i64 c0, .string c1, .slice c2 c3 c4, .slice c5 c6 c7, .slice c8 c9 c10] 33):=⟨_,rfl⟩;have z1:W1.heap.size=w.heap.size + 1:=by rw [hW1];simp
 have b1:Below w.heap.size w W1:=by rw [hW1];exact ZQ w _
 have kb:W1.heap[w.heap.size]?=some (.cells #[.int .i64 c0, .string c1, .slice c2 c3 c4, .slice c5 c6 c7, .slice c8 c9 c10] 33):=by rw [hW1];exact ZN w _
 obtain ⟨m0,m1,m2,m3,m4,-,-,-,-,-⟩:=qC kb;have h19:=hc19 B u W1 _ (hu.trans ((Below.keptC b1).mono hB)) (by omega) ht
 have hsl:(zG t).length<=60:=by
  have h1:=zaa t;have h2:=hf.1;have h3:(Part.proc t).size=(qL 0 t).length:=rfl;omega
 have h96:∀W,Below W1.heap.size W1 W->Calls Tryz.prog 96 #[.slice none 0 0, .agg #[.int .i64 c0, .string c1, .slice c2 c3 c4, .slice c5 c6 c7, .slice c8 c9 c10]] W fun e w'=> ∃v,e= .returned v/\Hid (zfh w.heap.size w' v (zG t)/\Below w.heap.size w w'):=fun W hW=> by
  have hbw:=b1.trans (hW.mono (by omega));refine (zaC _ t (ZL _) hf.fit0 w.heap.size B u W (.slice none 0 0) [] _ (hu.trans ((Below.keptC hbw).mono hB)) hB hbw.size (yL.nil _ _) (by simp;omega) ht).mono ?_;rintro e w' ⟨v,rfl,h1,h2,_⟩;rw [List.nil_append] at h1;exact ⟨v,rfl,ZH ⟨h1.terms,hbw.grown h2 hbw.size (fun r e=> by cases e)⟩⟩
 have H96:=ZH h96
 have hm:∀W,Below W1.heap.size W1 W->W.cell? ⟨w.heap.size,0,none⟩=some (.int .i64 c0)/\W.cell? ⟨w.heap.size,1,none⟩=some (.string c1)/\W.cell? ⟨w.heap.size,2,none⟩=some (.slice c2 c3 c4)/\W.cell? ⟨w.heap.size,3,none⟩=some (.slice c5 c6 c7)/\W.cell? ⟨w.heap.size,4,none⟩=some (.slice c8 c9 c10):=fun W hW=> by
  obtain ⟨x0,x1,x2,x3,x4,-,-,-,-,-⟩:=qC ((hW.block w.heap.size (by omega)).trans kb);exact ⟨x0,x1,x2,x3,x4⟩
 have HM:=ZH hm;have HW:=ZH hW1;clear h96 hm hW1 b1 z1 kb ht;go_enter Tryz.func43,Tryz.ntmps43;go_upto_region 1 with fail;rw [<-HW.out]
 go_wp2_with (first
  | (go_at_call 19;refine h19.mono ?_;clear h19;rintro e w3 ⟨rfl,hb3⟩;obtain ⟨x0,x1,x2,x3,x4⟩:=HM.out w3 hb3;have HB3:=ZH hb3;clear hb3)
  | (go_at_call 96;refine (H96.out _ HB3.out).mono ?_;rintro e w4 ⟨v,rfl,HF⟩))
 go_ret2;exact ⟨v,rfl,HF.out.1,HF.out.2⟩
theorem zhB (t:Term) (hc19:∀(B:Nat) (u w:World) (cs:List Value),zh B u w->B<=w.heap.size->ze B u cs t->Calls Tryz.prog 19 #[.agg cs.toArray] w fun e w'=> e= .returned (.int .i64 2)/\Below w.heap.size w w')
  (B:Nat) (u w:World) (cs:List Value) (hu:zh B u w) (hB:B<=w.heap.size) (ht:ze B u cs t):
  Calls Tryz.prog 43 #[.agg cs.toArray] w fun e w'=> e= .returned (.tuple #[.slice none 0 0, .int .i64 2])/\Below w.heap.size w w':=by
 obtain ⟨c0,c1,c2,c3,c4,c5,c6,c7,c8,c9,c10,rfl⟩:=zz ht;obtain ⟨W1,hW1⟩:∃W1,W1=w.alloc (.cells #[.int .i64 c0, .string c1, .slice c2 c3 c4, .slice c5 c6 c7, .slice c8 c9 c10] 33):=⟨_,rfl⟩;have z1:W1.heap.size=w.heap.size + 1:=by rw [hW1];simp
 have b1:Below w.heap.size w W1:=by rw [hW1];exact ZQ w _
 have kb:W1.heap[w.heap.size]?=some (.cells #[.int .i64 c0, .string c1, .slice c2 c3 c4, .slice c5 c6 c7, .slice c8 c9 c10] 33):=by rw [hW1];exact ZN w _
 obtain ⟨m0,m1,m2,m3,m4,-,-,-,-,-⟩:=qC kb;have h19:=hc19 B u W1 _ (hu.trans ((Below.keptC b1).mono hB)) (by omega) ht;have HB:=ZH (And.intro b1 z1);have HW:=ZH hW1;clear hW1 b1 z1 kb ht;go_enter Tryz.func43,Tryz.ntmps43;go_upto_region 1 with fail;rw [<-HW.out];go_wp2_with (go_at_call 19;refine h19.mono ?_;clear h19;rintro e w3 ⟨rfl,hb3⟩;have HB3:=ZH hb3;clear hb3);go_ret2;exact ⟨rfl,HB.out.1.trans (HB3.out.mono (by have:=HB.out.2;omega))⟩
end
end Go.Proofs.YtjmlaeofjjhfmaaGreat
