/- Lemmas. -/
import Derived.Test.YtjmlaeofjjhfmaaGreatS12
import Derived.Test.YtjmlaeofjjhfmaaGreatS15
set_option linter.unusedVariables false
set_option linter.unusedSimpArgs false
set_option maxRecDepth 10000
set_option maxHeartbeats 16000000
namespace Go.Proofs.YtjmlaeofjjhfmaaGreat
section
open Go.RowKit Go.Shelf Go.Maps
theorem zcZ:(Tryz.prog.info? 33).map (fun i=> (i.zero,i.size,i.bytes))=some (some (.agg #[.int .i64 0, .string ⟨#[]⟩, .slice none 0 0, .slice none 0 0, .slice none 0 0]),5,96):=by kernel_rfl
theorem zhd {S:Type} (B:Nat) (u:World) (m:Option Nat) (w:World) (sv:Value) (Inv:Nat->S->World->Prop) (F:S->Term->Option (Term×S)) (l:List Term) (a:Option Addr) (cap:Nat) (hl:l.length<=1000)
  (hsrc:l.length=0∨∃b off,a=some ⟨b,off,none⟩/\b < B/\zu B u b off l) (hu:zh B u w) (hB:B<=w.heap.size)
  (hInv:∀k s W W' row,Inv k s W->W.grownBy W' row->(∀r,row=some r->w.heap.size<=r)->Inv k s W') (hNC:∀k s W,Inv k s W->xD m W) (hm:∀b,m=some b->b < w.heap.size)
  (hcall:∀k (h:k < l.length) s W cs,Inv k s W->w.grownBy W m->ze B u cs l[k]->Calls Tryz.prog 87 #[sv, .agg cs.toArray] W fun e w'=> OutE (F s l[k]) e (W.grownBy w' m) fun (x,s')=> ∃cs',e= .returned (.agg cs'.toArray)/\ze w'.heap.size (blank W.heap.size w') cs' x/\Inv (k + 1) s' w'/\W.grownBy w' m)
  (st:S) (hI:Inv 0 st w):
  Calls Tryz.prog 105 #[.slice a l.length cap, .func (.func 87) #[sv] #[]] w fun e w'=> OutE (zV F st l) e (w.grownBy w' m) fun (l',s')=> ∃v,e= .returned v/\l'.length=l.length/\SlAt w'.heap.size v l'.length (fun b off=> zu w'.heap.size (blank w.heap.size w') b off l')/\Inv l.length s' w'/\w.grownBy w' m:=by
 obtain ⟨i0,hi,hz0,hz1,hz2⟩:=info_parts zcZ;have eK:∀args w,(callFunc 87 args).run Tryz.prog w= .ok (.enter 87 args) w:=enters_of Tryz.func87 (by kernel_rfl) rfl;have hnc:=hNC _ _ _ hI;have hu':=ZH hu;clear hu;go_enter Tryz.func105,Tryz.ntmps105;go_wp2_with fail
 go_loopw [5,10] (fun v i wr=> ∃(k:Nat) (xs:List Term) (s:S) (vals:List Value),k<=l.length/\i= .int .i64 k/\zV F st (l.take k)=some (xs,s)/\xs.length=k/\wr.ownsRow w.heap.size 33 5 v k vals/\
  zq (fun _ w1 cs x=> qz ze w.heap.size v.ownBlock w1 cs x) 5 0 wr vals xs/\Inv k s wr/\w.grownBy wr m) (fun _ i _=> l.length - (intOf i).toNat)
 case atStart=> exact ⟨0, [],st, [],by omega,rfl,by simp [zV],rfl,ZR _ _ _ _,zq.nil _ _ _ _,hI,qx _ _⟩
 case round=>
  obtain ⟨k,xs,s,vals,hk,rfl,hst,hxl,hown,hch,hIs,hg⟩:=hrel;have HXL:=ZH hxl;clear hxl;by_cases hlt:k < l.length
  ·rcases hsrc with h0 | ⟨b,off,rfl,hb,hxs⟩
   ·omega
   obtain ⟨cs,hcell,hat⟩:=zu.get l b off hxs k hlt;have hku:zh B u wr:=hu'.out.trans (xi hg hnc hB);have hBr:B<=wr.heap.size:=Nat.le_trans hB hg.size;have hwr:=hg.size;have hcell':=hcell.keep hku hb;have hmore:=ZH (jD hlt hst);have hnone:=ZH (jO hlt hst);have hc:=hcall k hlt s (wr.alloc (.cells cs.toArray 33)) cs (hInv k s _ _ none hIs (ZW _ _ none) (by simp)) (zk hg (ZW _ _ none) (by simp)) hat;obtain ⟨c0,c1,c2,c3,c4,c5,c6,c7,c8,c9,c10,rfl⟩:=zz hat;obtain ⟨d0,d1,d2,d3,d4⟩:=zK hcell';clear hat hcell hcell' hxs hcall hst;obtain ⟨R,hR⟩:∃R,R=F s l[k]:=⟨_,rfl⟩;rw [<-hR] at hc hmore hnone;have HR:=ZH hR;clear hR;cases R with
   | none=>
    go_wp2_with (go_at_call 87;refine hc.mono ?_;clear hc;rintro e w3 ⟨rfl,hgp⟩);simp only [bodyPost];rw [hnone.out (by simp)];exact ⟨by trivial,rfl,zk (zk hg (ZW wr (.cells #[.int .i64 c0, .string c1, .slice c2 c3 c4, .slice c5 c6 c7, .slice c8 c9 c10] 33) none) (by simp)) hgp (fun r h=> .inr h)⟩
   | some r=>
    obtain ⟨x,s'⟩:=r
    have hj:∀(w3:World) (cs':List Value),ze w3.heap.size (blank (wr.alloc (.cells #[.int .i64 c0, .string c1, .slice c2 c3 c4, .slice c5 c6 c7, .slice c8 c9 c10] 33)).heap.size w3) cs' x->Inv (k + 1) s' w3->(wr.alloc (.cells #[.int .i64 c0, .string c1, .slice c2 c3 c4, .slice c5 c6 c7, .slice c8 c9 c10] 33)).grownBy w3 m->
      ∃e0 e1 e2 e3 e4 e5 e6 e7 e8 e9 e10 gg cp w',cs'= [.int .i64 e0, .string e1, .slice e2 e3 e4, .slice e5 e6 e7, .slice e8 e9 e10]/\(Builtin.append_ #[31,31] 31 #[u5, .slice (some ⟨w3.heap.size,0,none⟩) 1 1]).run Tryz.prog (w3.alloc (.cells #[.int .i64 e0, .string e1, .slice e2 e3 e4, .slice e5 e6 e7, .slice e8 e9 e10] 33))= .ok (.slice (some ⟨gg,0,none⟩) (k + 1) cp) w'/\
       w'.ownsRow w.heap.size 33 5 (.slice (some ⟨gg,0,none⟩) (k + 1) cp) (k + 1) (vals ++ [.int .i64 e0, .string e1, .slice e2 e3 e4, .slice e5 e6 e7, .slice e8 e9 e10])/\zq (fun _ w1 cs x=> qz ze w.heap.size (Value.slice (some ⟨gg,0,none⟩) (k + 1) cp).ownBlock w1 cs x) 5 0 w' (vals ++ [.int .i64 e0, .string e1, .slice e2 e3 e4, .slice e5 e6 e7, .slice e8 e9 e10]) (xs ++ [x])/\Inv (k + 1) s' w'/\w.grownBy w' m:=by
     intro w3 cs' hat' hI' hg';obtain ⟨e0,e1,e2,e3,e4,e5,e6,e7,e8,e9,e10,rfl⟩:=zz hat';obtain ⟨W4,hW4⟩:∃W4,W4=w3.alloc (.cells #[.int .i64 e0, .string e1, .slice e2 e3 e4, .slice e5 e6 e7, .slice e8 e9 e10] 33):=⟨_,rfl⟩;have hg3:wr.grownBy w3 m:=zk (zk (qx _ _) (ZW wr (.cells #[.int .i64 c0, .string c1, .slice c2 c3 c4, .slice c5 c6 c7, .slice c8 c9 c10] 33) none) (by simp)) hg' (fun r h=> .inr h);have hg4:wr.grownBy W4 m:=by rw [hW4];exact zk hg3 (ZW _ _ none) (by simp)
     have hoA:=zt hown hg4 (fun b hb e=> by have:=hm b e;have:=(hown.lt b hb).1;omega)
     obtain ⟨v',w',hr,h1,h2,h3,h4⟩:=run_append_own_at (P:=Tryz.prog) W4 w.heap.size 31 31 33 i0 (.agg #[.int .i64 0, .string ⟨#[]⟩, .slice none 0 0, .slice none 0 0, .slice none 0 0]) 5 96 Tryz.underlying31 hi hz0 hz1 hz2 rfl (by decide) _ k vals hoA
      ⟨w3.heap.size,0,none⟩ 1 1 [.int .i64 e0, .string e1, .slice e2 e3 e4, .slice e5 e6 e7, .slice e8 e9 e10] rfl (by
       intro j u hj;have e:(⟨w3.heap.size,0,none⟩:Addr).add j=⟨w3.heap.size,j,none⟩:=by unfold Addr.add;by_cases h:j=0 <;> simp [h]
       rw [e,hW4,ZA _ _ _ _ rfl];simpa using hj) (by simp [Value.oneCell']) (by unfold maxLen;omega) (by omega) (by have:=hg4.size;omega)
     have hs3:=hg3.size;have hs4:W4.heap.size=w3.heap.size + 1:=by rw [hW4];simp
     have hlo:=hown.lt
     have hch':zq (fun _ w1 cs x=> qz ze w.heap.size v'.ownBlock w1 cs x) 5 0 w' (vals ++ [.int .i64 e0, .string e1, .slice e2 e3 e4, .slice e5 e6 e7, .slice e8 e9 e10]) (xs ++ [x]):=by
      have hch1:zq (fun _ w1 cs x=> qz ze w.heap.size v'.ownBlock w1 cs x) 5 0 w' vals xs:=⟨hch.1,fun i hi=> qz.keep jo (hch.2 i hi) (fun b hb1 hb2 hb3=>
       (h2.block b (by omega) (fun e=> hb3 e.symm)).trans (hg4.block b hb2 (fun e=> by have:=hm b e.symm;omega))) (by have:=h2.size;omega) (by
        rcases h4 with h4 | h4
        ·exact .inl h4
        ·exact .inr ⟨_,h4,by omega⟩)⟩
      refine zq.snoc hch1 ?_ rfl
      ·refine ⟨wr.heap.size + 1,w3.heap.size,by omega,by have:=h2.size;omega,fun g hg=> ?_,?_⟩
       ·rcases h4 with h4 | h4
        ·rw [h4] at hg;have:=(hlo g hg).2;omega
        ·rw [h4] at hg;have:=ZJ hg;omega
       ·rw [World.size_alloc] at hat'
        refine jo _ _ _ _ _ _ (qg (ZL _) fun b o v ha hb hv=> ?_) (ZL _) hat';have e1:W4.cell? ⟨b,o,none⟩=some v:=by rw [hW4,ZP _ _ _ hb];exact hv
        refine (ZB (w:=W4) (h2.block b (by omega) (fun e=> ?_))).trans e1;have:=(hlo b e.symm).2;omega
     have hI4:Inv (k + 1) s' w':=hInv (k + 1) s' _ _ _ (hInv (k + 1) s' _ W4 none hI' (by rw [hW4];exact ZW _ _ none) (by simp)) h2 (fun r hr=> (hlo r hr).1);have hgw:w.grownBy w' m:=zk (zk hg hg4 (fun r h=> .inr h)) h2 (fun r hr=> .inl (hlo r hr).1);obtain ⟨_,⟨_,h0⟩ | ⟨gg,cp,cur,hvf,_⟩⟩:=id h1
     ·omega
     subst hvf;rw [hW4] at hr;exact ⟨_,_,_,_,_,_,_,_,_,_,_,gg,cp,w',rfl,hr,h1,hch',hI4,hgw⟩
    clear hch hIs hown hku
    go_wp2_with (first
     | (go_at_call 87;refine hc.mono ?_;clear hc;rintro e w3 ⟨cs',rfl,hat',hI',hg'⟩;obtain ⟨e0,e1,e2,e3,e4,e5,e6,e7,e8,e9,e10,gg,cp,w',rfl,hr,h1,h2,h3,h4⟩:=hj w3 cs' hat' hI' hg';have H1:=ZH h1;have H2:=ZH h2;have H3:=ZH h3;have H4:=ZH h4;clear hj hat' hI' hg' h1 h2 h3 h4)
     | (show wpList _ _ _ (⟨some 19,_,_,_,_,_⟩::_) _ _;refine qe rfl (.tmp 14) (.tmp 18) 31 31 rfl rfl rfl hr ?_))
    go_roundw
    case rel=> exact ⟨k + 1,xs ++ [x],s',_,by omega,by go_num,hmore.out,by simp [HXL.out],H1.out,H2.out,H3.out,H4.out⟩
    case measure=> simp [intOf];omega
  ·obtain rfl:k=l.length:=by omega
   rw [List.take_length] at hst;have HXL':=HXL.out;have hsl:=zfk (by rw [HXL'];exact hown) hch;have HSL:=ZH hsl;obtain ⟨aa,cc,hvv,_⟩:=zJ (by omega) hown;subst hvv;clear hsl hch hown;go_wp2;go_ret;rw [hst];exact ⟨_,rfl,HXL',HSL.out,hIs,hg⟩
theorem zfq:(Tryz.prog.info? 144).map (fun i=> (i.zero,i.size,i.bytes))=some (some (.agg #[.string ⟨#[]⟩, .slice none 0 0]),2,40):=by kernel_rfl
theorem zl7 {S:Type} (B:Nat) (u:World) (m:Option Nat) (w:World) (p1 p2:Addr) (Inv:S->World->Prop) (F:S->Msg->Option (Msg×S)) (l:List Msg) (a:Option Addr) (cap:Nat) (hl:l.length<=1000)
  (hsrc:l.length=0∨∃b off,a=some ⟨b,off,none⟩/\b < B/\zX B u b off l) (hu:zh B u w) (hB:B<=w.heap.size)
  (hInv:∀s W W' row,Inv s W->W.grownBy W' row->(∀r,row=some r->w.heap.size<=r)->Inv s W') (hNC:∀s W,Inv s W->xD m W) (hm:∀b,m=some b->b < w.heap.size)
  (hcall:∀k (h:k < l.length) s W cs,Inv s W->w.grownBy W m->yK B u cs l[k]->Calls Tryz.prog 173 #[.agg cs.toArray, .pointer (some p1), .pointer (some p2)] W fun e w'=> OutE (F s l[k]) e (W.grownBy w' m) fun (x,s')=> ∃cs',e= .returned (.agg cs'.toArray)/\yK w'.heap.size (blank W.heap.size w') cs' x/\Inv s' w'/\W.grownBy w' m)
  (st:S) (hI:Inv st w):
  Calls Tryz.prog 172 #[.slice a l.length cap, .func (.func 173) #[] #[.pointer (some p1), .pointer (some p2)]] w fun e w'=> OutE (zV F st l) e (w.grownBy w' m) fun (l',s')=> ∃v,e= .returned v/\l'.length=l.length/\SlAt w'.heap.size v l'.length (fun b off=> zX w'.heap.size (blank w.heap.size w') b off l')/\Inv s' w'/\w.grownBy w' m:=by
 obtain ⟨i0,hi,hz0,hz1,hz2⟩:=info_parts zfq;have eK:∀args w,(callFunc 173 args).run Tryz.prog w= .ok (.enter 173 args) w:=enters_of Tryz.func173 (by kernel_rfl) rfl;have hnc:=hNC _ _ hI;have hu':=ZH hu;clear hu;go_enter Tryz.func172,Tryz.ntmps172;go_wp2_with fail
 go_loopw [5,10] (fun v i wr=> ∃(k:Nat) (xs:List Msg) (s:S) (vals:List Value),k<=l.length/\i= .int .i64 k/\zV F st (l.take k)=some (xs,s)/\xs.length=k/\wr.ownsRow w.heap.size 144 2 v k vals/\
  zq (fun _ w1 cs x=> qz yK w.heap.size v.ownBlock w1 cs x) 2 0 wr vals xs/\Inv s wr/\w.grownBy wr m) (fun _ i _=> l.length - (intOf i).toNat)
 case atStart=> exact ⟨0, [],st, [],by omega,rfl,by simp [zV],rfl,ZR _ _ _ _,zq.nil _ _ _ _,hI,qx _ _⟩
 case round=>
  obtain ⟨k,xs,s,vals,hk,rfl,hst,hxl,hown,hch,hIs,hg⟩:=hrel;have HXL:=ZH hxl;clear hxl;by_cases hlt:k < l.length
  ·rcases hsrc with h0 | ⟨b,off,rfl,hb,hxs⟩
   ·omega
   obtain ⟨cs,hcell,hat⟩:=zX.get l b off hxs k hlt;have hku:zh B u wr:=hu'.out.trans (xi hg hnc hB);have hBr:B<=wr.heap.size:=Nat.le_trans hB hg.size;have hwr:=hg.size;have hcell':=hcell.keep hku hb;have hmore:=ZH (jD hlt hst);have hnone:=ZH (jO hlt hst);have hc:=hcall k hlt s (wr.alloc (.cells cs.toArray 144)) cs (hInv s _ _ none hIs (ZW _ _ none) (by simp)) (zk hg (ZW _ _ none) (by simp)) hat;obtain ⟨c0,c1,c2,c3,rfl⟩:=zfF hat;obtain ⟨d0,d1⟩:=yO hcell';clear hat hcell hcell' hxs hcall hst;obtain ⟨R,hR⟩:∃R,R=F s l[k]:=⟨_,rfl⟩;rw [<-hR] at hc hmore hnone;have HR:=ZH hR;clear hR;cases R with
   | none=>
    go_wp2_with (go_at_call 173;refine hc.mono ?_;clear hc;rintro e w3 ⟨rfl,hgp⟩);simp only [bodyPost];rw [hnone.out (by simp)];exact ⟨by trivial,rfl,zk (zk hg (ZW wr (.cells #[.string c0, .slice c1 c2 c3] 144) none) (by simp)) hgp (fun r h=> .inr h)⟩
   | some r=>
    obtain ⟨x,s'⟩:=r
    have hj:∀(w3:World) (cs':List Value),yK w3.heap.size (blank (wr.alloc (.cells #[.string c0, .slice c1 c2 c3] 144)).heap.size w3) cs' x->Inv s' w3->(wr.alloc (.cells #[.string c0, .slice c1 c2 c3] 144)).grownBy w3 m->
      ∃e0 e1 e2 e3 gg cp w',cs'= [.string e0, .slice e1 e2 e3]/\(Builtin.append_ #[128,128] 128 #[u5, .slice (some ⟨w3.heap.size,0,none⟩) 1 1]).run Tryz.prog (w3.alloc (.cells #[.string e0, .slice e1 e2 e3] 144))= .ok (.slice (some ⟨gg,0,none⟩) (k + 1) cp) w'/\
       w'.ownsRow w.heap.size 144 2 (.slice (some ⟨gg,0,none⟩) (k + 1) cp) (k + 1) (vals ++ [.string e0, .slice e1 e2 e3])/\zq (fun _ w1 cs x=> qz yK w.heap.size (Value.slice (some ⟨gg,0,none⟩) (k + 1) cp).ownBlock w1 cs x) 2 0 w' (vals ++ [.string e0, .slice e1 e2 e3]) (xs ++ [x])/\Inv s' w'/\w.grownBy w' m:=by
     intro w3 cs' hat' hI' hg';obtain ⟨e0,e1,e2,e3,rfl⟩:=zfF hat';obtain ⟨W4,hW4⟩:∃W4,W4=w3.alloc (.cells #[.string e0, .slice e1 e2 e3] 144):=⟨_,rfl⟩;have hg3:wr.grownBy w3 m:=zk (zk (qx _ _) (ZW wr (.cells #[.string c0, .slice c1 c2 c3] 144) none) (by simp)) hg' (fun r h=> .inr h);have hg4:wr.grownBy W4 m:=by rw [hW4];exact zk hg3 (ZW _ _ none) (by simp)
     have hoA:=zt hown hg4 (fun b hb e=> by have:=hm b e;have:=(hown.lt b hb).1;omega)
     obtain ⟨v',w',hr,h1,h2,h3,h4⟩:=run_append_own_at (P:=Tryz.prog) W4 w.heap.size 128 128 144 i0 (.agg #[.string ⟨#[]⟩, .slice none 0 0]) 2 40 Tryz.underlying128 hi hz0 hz1 hz2 rfl (by decide) _ k vals hoA
      ⟨w3.heap.size,0,none⟩ 1 1 [.string e0, .slice e1 e2 e3] rfl (by
       intro j u hj;have e:(⟨w3.heap.size,0,none⟩:Addr).add j=⟨w3.heap.size,j,none⟩:=by unfold Addr.add;by_cases h:j=0 <;> simp [h]
       rw [e,hW4,ZA _ _ _ _ rfl];simpa using hj) (by simp [Value.oneCell']) (by unfold maxLen;omega) (by omega) (by have:=hg4.size;omega)
     have hs3:=hg3.size;have hs4:W4.heap.size=w3.heap.size + 1:=by rw [hW4];simp
     have hlo:=hown.lt
     have hch':zq (fun _ w1 cs x=> qz yK w.heap.size v'.ownBlock w1 cs x) 2 0 w' (vals ++ [.string e0, .slice e1 e2 e3]) (xs ++ [x]):=by
      have hch1:zq (fun _ w1 cs x=> qz yK w.heap.size v'.ownBlock w1 cs x) 2 0 w' vals xs:=⟨hch.1,fun i hi=> qz.keep xY (hch.2 i hi) (fun b hb1 hb2 hb3=>
       (h2.block b (by omega) (fun e=> hb3 e.symm)).trans (hg4.block b hb2 (fun e=> by have:=hm b e.symm;omega))) (by have:=h2.size;omega) (by
        rcases h4 with h4 | h4
        ·exact .inl h4
        ·exact .inr ⟨_,h4,by omega⟩)⟩
      refine zq.snoc hch1 ?_ rfl
      ·refine ⟨wr.heap.size + 1,w3.heap.size,by omega,by have:=h2.size;omega,fun g hg=> ?_,?_⟩
       ·rcases h4 with h4 | h4
        ·rw [h4] at hg;have:=(hlo g hg).2;omega
        ·rw [h4] at hg;have:=ZJ hg;omega
       ·rw [World.size_alloc] at hat'
        refine xY _ _ _ _ _ _ (qg (ZL _) fun b o v ha hb hv=> ?_) (ZL _) hat';have e1:W4.cell? ⟨b,o,none⟩=some v:=by rw [hW4,ZP _ _ _ hb];exact hv
        refine (ZB (w:=W4) (h2.block b (by omega) (fun e=> ?_))).trans e1;have:=(hlo b e.symm).2;omega
     have hI4:Inv s' w':=hInv s' _ _ _ (hInv s' _ W4 none hI' (by rw [hW4];exact ZW _ _ none) (by simp)) h2 (fun r hr=> (hlo r hr).1);have hgw:w.grownBy w' m:=zk (zk hg hg4 (fun r h=> .inr h)) h2 (fun r hr=> .inl (hlo r hr).1);obtain ⟨_,⟨_,h0⟩ | ⟨gg,cp,cur,hvf,_⟩⟩:=id h1
     ·omega
     subst hvf;rw [hW4] at hr;exact ⟨_,_,_,_,gg,cp,w',rfl,hr,h1,hch',hI4,hgw⟩
    clear hch hIs hown hku
    go_wp2_with (first
     | (go_at_call 173;refine hc.mono ?_;clear hc;rintro e w3 ⟨cs',rfl,hat',hI',hg'⟩;obtain ⟨e0,e1,e2,e3,gg,cp,w',rfl,hr,h1,h2,h3,h4⟩:=hj w3 cs' hat' hI' hg';have H1:=ZH h1;have H2:=ZH h2;have H3:=ZH h3;have H4:=ZH h4;clear hj hat' hI' hg' h1 h2 h3 h4)
     | (show wpList _ _ _ (⟨some 19,_,_,_,_,_⟩::_) _ _;refine qe rfl (.tmp 14) (.tmp 18) 128 128 rfl rfl rfl hr ?_))
    go_roundw
    case rel=> exact ⟨k + 1,xs ++ [x],s',_,by omega,by go_num,hmore.out,by simp [HXL.out],H1.out,H2.out,H3.out,H4.out⟩
    case measure=> simp [intOf];omega
  ·obtain rfl:k=l.length:=by omega
   rw [List.take_length] at hst;have HXL':=HXL.out;have hsl:=zgM (by rw [HXL'];exact hown) hch;have HSL:=ZH hsl;obtain ⟨aa,cc,hvv,_⟩:=zJ (by omega) hown;subst hvv;clear hsl hch hown;go_wp2;go_ret;rw [hst];exact ⟨_,rfl,HXL',HSL.out,hIs,hg⟩
end
section
open Go.RowKit Go.Shelf Go.Maps Go.WideMaps
def qj (A:Nat) (W W':World):Prop:=W.heap.size<=W'.heap.size/\∀b,A<=b->b < W.heap.size->W'.heap[b]?=W.heap[b]?
theorem qj.refl (A:Nat) (W:World):qj A W W:=⟨ZL _,fun _ _ _=> rfl⟩
theorem qj.trans {A:Nat} {a b c:World} (h:qj A a b) (k:qj A b c):qj A a c:=⟨Nat.le_trans h.1 k.1,fun x hx hb=> (k.2 x hx (Nat.lt_of_lt_of_le hb h.1)).trans (h.2 x hx hb)⟩
theorem qj.grown {A:Nat} {W W':World} {m:Option Nat} (g:W.grownBy W' m) (hm:∀r,m=some r->r < A):qj A W W':=⟨g.size,fun b hb hlt=> g.block b hlt (fun e=> by have:=hm b e.symm;omega)⟩
theorem qj.set {A:Nat} {W W':World} (h:qj A W W') (a:Addr) (x:Value) (ha:a.block < A):qj A W (W'.setCell a x):=⟨by simpa using h.1,fun b hb hlt=> (ZC _ _ _ _ (by omega)).trans (h.2 b hb hlt)⟩
theorem qj.kept {A A0 A' B:Nat} {W W':World} (h:qj A W W') (h1:A<=A0) (h2:A'<=A0) (hB:B<=W.heap.size):zh B (blank A0 W) (blank A' W'):=
 qg h2 fun b o v ha hb hv=> (ZB (w:=W) (h.2 b (by omega) (by omega))).trans hv
theorem xV (W:World) (n o:Nat) (x:Value) {cs:Array Value} {ty:TypeId} (h:W.heap[n]?=some (.cells cs ty)):(W.setCell ⟨n,o,none⟩ x).heap[n]?=some (.cells (cs.setIfInBounds o x) ty):=by
 show (World.setCell W ⟨n,o,none⟩ x).heap[n]?=_;simp [World.setCell,Array.getElem?_modify,h]
structure yI (n:Nat) (ty:TypeId) (zc:Array Value) (aty:TypeId) (acs:Array Value) (fx:Option Nat) (v0 v1 v2 v3 v4:Value) (W:World):Prop where
 box1:W.heap[n]?=some (.cells #[.iface aty (.agg acs), .map fx] 123)
 box2:W.heap[n + 1]?=some (.cells #[v0,v1,v2,v3,v4] ty)
 box3:W.heap[n + 2]?=some (.cells zc ty)
theorem yI.kept {n:Nat} {ty:TypeId} {zc:Array Value} {aty:TypeId} {acs:Array Value} {fx:Option Nat} {v0 v1 v2 v3 v4:Value} {W W':World} {m:Option Nat} (h:yI n ty zc aty acs fx v0 v1 v2 v3 v4 W) (g:W.grownBy W' m) (hm:∀r,m=some r->r < n):yI n ty zc aty acs fx v0 v1 v2 v3 v4 W':=
 ⟨(g.block _ (ZG h.box1).1 (fun e=> by have:=hm _ e.symm;omega)).trans h.box1,(g.block _ (ZG h.box2).1 (fun e=> by have:=hm _ e.symm;omega)).trans h.box2,(g.block _ (ZG h.box3).1 (fun e=> by have:=hm _ e.symm;omega)).trans h.box3⟩
theorem yI.cells {n:Nat} {ty:TypeId} {zc:Array Value} {aty:TypeId} {acs:Array Value} {fx:Option Nat} {v0 v1 v2 v3 v4:Value} {W:World} (h:yI n ty zc aty acs fx v0 v1 v2 v3 v4 W):
  W.cell? ⟨n,0,none⟩=some (.iface aty (.agg acs))/\W.cell? ⟨n,1,none⟩=some (.map fx)/\W.cell? ⟨n + 1,0,none⟩=some v0/\W.cell? ⟨n + 1,1,none⟩=some v1/\W.cell? ⟨n + 1,2,none⟩=some v2/\W.cell? ⟨n + 1,3,none⟩=some v3/\W.cell? ⟨n + 1,4,none⟩=some v4/\∀o,W.frozen? ⟨n + 1,o,none⟩=false:=by
 obtain ⟨q1,q2,q3⟩:=h;exact ⟨by simp [World.cell?,q1],by simp [World.cell?,q1],by simp [World.cell?,q2],by simp [World.cell?,q2],by simp [World.cell?,q2],by simp [World.cell?,q2],by simp [World.cell?,q2],fun o=> by simp [World.frozen?,q2]⟩
def zc5:Array Value:=#[.int .i64 0, .string ⟨#[]⟩, .slice none 0 0, .slice none 0 0, .slice none 0 0]
theorem yI.zeros {n:Nat} {ty:TypeId} {aty:TypeId} {acs:Array Value} {fx:Option Nat} {v0 v1 v2 v3 v4:Value} {W:World} (h:yI n ty zc5 aty acs fx v0 v1 v2 v3 v4 W):
  W.cell? ⟨n + 2,0,none⟩=some (.int .i64 0)/\W.cell? ⟨n + 2,1,none⟩=some (.string ⟨#[]⟩)/\W.cell? ⟨n + 2,2,none⟩=some (.slice none 0 0)/\W.cell? ⟨n + 2,3,none⟩=some (.slice none 0 0)/\W.cell? ⟨n + 2,4,none⟩=some (.slice none 0 0)/\∀o,W.frozen? ⟨n + 2,o,none⟩=false:=by
 obtain ⟨q1,q2,q3⟩:=h;unfold zc5 at q3;exact ⟨by simp [World.cell?,q3],by simp [World.cell?,q3],by simp [World.cell?,q3],by simp [World.cell?,q3],by simp [World.cell?,q3],fun o=> by simp [World.frozen?,q3]⟩
section
variable {n:Nat} {ty:TypeId} {zc:Array Value} {aty:TypeId} {acs:Array Value} {fx:Option Nat} {v0 v1 v2 v3 v4:Value} {W:World}
theorem yI.set1 (h:yI n ty zc aty acs fx v0 v1 v2 v3 v4 W) (x:Value):yI n ty zc aty acs fx v0 x v2 v3 v4 (W.setCell ⟨n + 1,1,none⟩ x):=
 ⟨(ZC _ _ _ _ (by simp)).trans h.box1,xV W (n + 1) 1 x h.box2,(ZC _ _ _ _ (by simp)).trans h.box3⟩
theorem yI.set2 (h:yI n ty zc aty acs fx v0 v1 v2 v3 v4 W) (x:Value):yI n ty zc aty acs fx v0 v1 x v3 v4 (W.setCell ⟨n + 1,2,none⟩ x):=
 ⟨(ZC _ _ _ _ (by simp)).trans h.box1,xV W (n + 1) 2 x h.box2,(ZC _ _ _ _ (by simp)).trans h.box3⟩
theorem yI.set3 (h:yI n ty zc aty acs fx v0 v1 v2 v3 v4 W) (x:Value):yI n ty zc aty acs fx v0 v1 v2 x v4 (W.setCell ⟨n + 1,3,none⟩ x):=
 ⟨(ZC _ _ _ _ (by simp)).trans h.box1,xV W (n + 1) 3 x h.box2,(ZC _ _ _ _ (by simp)).trans h.box3⟩
theorem yI.set4 (h:yI n ty zc aty acs fx v0 v1 v2 v3 v4 W) (x:Value):yI n ty zc aty acs fx v0 v1 v2 v3 x (W.setCell ⟨n + 1,4,none⟩ x):=
 ⟨(ZC _ _ _ _ (by simp)).trans h.box1,xV W (n + 1) 4 x h.box2,(ZC _ _ _ _ (by simp)).trans h.box3⟩
end
def yZ (k:Nat) (aty:TypeId) (acs:Array Value) (fx:Option Nat) (W:World):Prop:=W.heap[k]?=some (.cells #[.iface aty (.agg acs), .map fx] 123)
theorem yZ.cells {k:Nat} {aty:TypeId} {acs:Array Value} {fx:Option Nat} {W:World} (h:yZ k aty acs fx W):W.cell? ⟨k,0,none⟩=some (.iface aty (.agg acs))/\W.cell? ⟨k,1,none⟩=some (.map fx):=by
 unfold yZ at h;exact ⟨by simp [World.cell?,h],by simp [World.cell?,h]⟩
theorem yZ.kept {k:Nat} {aty:TypeId} {acs:Array Value} {fx:Option Nat} {W W':World} {m:Option Nat} (h:yZ k aty acs fx W) (g:W.grownBy W' m) (hm:∀r,m=some r->r < k):yZ k aty acs fx W':=
 (g.block _ (ZG h).1 (fun e=> by have:=hm _ e.symm;omega)).trans h
theorem yZ.set {k:Nat} {aty:TypeId} {acs:Array Value} {fx:Option Nat} {W:World} (h:yZ k aty acs fx W) (c o:Nat) (x:Value) (hc:c≠k):yZ k aty acs fx (W.setCell ⟨c,o,none⟩ x):=
 (ZC _ _ _ _ hc.symm).trans h
section
variable (B:Nat) (u:World) (m:Option Nat) (b:Base)
def zap (s:Nat):Prop:=∀(t:Term),(Part.proc t).size<=s->(Part.proc t).allSmall->(Part.proc t).allBind->Fine (.proc t)->∀(f:Frame) (fs:List Frame) (av fv:Value) (U:Used) (r:Nat) (cs:List Value) (w:World),
 fs.length + s<=330->ze B u cs t->Good B u w.heap.size m b (f::fs) (.iface 123 (.agg #[av,fv])) w->Bud m (bcT t + r) U w->
 Calls Tryz.prog 87 #[.agg #[av,fv], .agg cs.toArray] w fun e w'=> OutE (yl ⟨b,f::fs⟩ U t) e (w.grownBy w' m) fun y=> ∃cs',e= .returned (.agg cs'.toArray)/\ze w'.heap.size (blank w.heap.size w') cs' y.1/\Bud m r y.2 w'/\w.grownBy w' m
def xq (s:Nat):Prop:=∀(t:zg),(Part.def_ t).size<=s->(Part.def_ t).allSmall->(Part.def_ t).allBind->Fine (.def_ t)->∀(f:Frame) (fs:List Frame) (av fv:Value) (U:Used) (r:Nat) (cs:List Value) (w:World),
 fs.length + s<=330->(∀x∈tsC t,xk (f::fs) x)->zo B u cs t->Good B u w.heap.size m b (f::fs) (.iface 123 (.agg #[av,fv])) w->Bud m (bcC t + r) U w->
 Calls Tryz.prog 142 #[.agg #[av,fv], .agg cs.toArray] w fun e w'=> OutE (xJ ⟨b,f::fs⟩ U t) e (w.grownBy w' m) fun y=> ∃cs',e= .returned (.agg cs'.toArray)/\zo w'.heap.size (blank w.heap.size w') cs' y.1/\Bud m r y.2 w'/\w.grownBy w' m
end
theorem zku {B N:Nat} {u:World} {m:Option Nat} {b:Base} (hBN:B<=N) (hm:∀r,m=some r->B<=r) (f:Frame) (fs:List Frame) (av fv:Value) (l:List Exp) (hl:∀e∈l,(Part.exp e).size<=60/\(Part.exp e).allSmall) (hll:l.length<=1000)
  (a:Option Addr) (cap:Nat) (hs:l.length=0∨∃b off,a=some ⟨b,off,none⟩/\b < B/\zW B u b off l) (W:World) (hg:Good B u N m b (f::fs) (.iface 123 (.agg #[av,fv])) W) (hN:N<=W.heap.size):
  Calls Tryz.prog 139 #[.slice a l.length cap, .func (.func 140) #[.agg #[av,fv]] #[]] W fun e w'=> ∃a' cap',e= .returned (.slice a' l.length cap')/\SlAt w'.heap.size (.slice a' l.length cap') (jM ⟨b,f::fs⟩ l).length (fun b' off=> zW w'.heap.size (blank W.heap.size w') b' off (jM ⟨b,f::fs⟩ l))/\Below W.heap.size W w':=by
 have h171:=zaT hBN hm f fs W av fv hg.at_;have hst:=Good.stays (b:=b) (fs:=f::fs) (v:= .iface 123 (.agg #[av,fv])) (u:=u) hBN hm
 have hc:=zgT (S:=Unit) B u none W (.agg #[av,fv]) (fun _ W=> Good B u N m b (f::fs) (.iface 123 (.agg #[av,fv])) W) (fun s x=> some (j5 (fun x=> yC b x (f::fs)) x,s)) l a cap hll hs hg.kept hg.room
  (fun _ W1 W' row h hgr hr=> hst W1 W' row h hgr (fun r e=> .inl (by have:=hr r e;omega))) (fun _ _ _ b hb=> by cases hb) (fun b hb=> by cases hb)
  (fun k hk s W1 cs hgW hgr hak=> by
   obtain ⟨h1,h2⟩:=hl l[k] (ZM hk);refine (zin B u N m av fv _ _ h171 hst 60 l[k] h1 h2 cs W1 hak hgW.kept hgW.room (by have:=hgr.size;omega) hgW).mono ?_;rintro e' w' ⟨cs',rfl,h1,h2⟩;exact ⟨cs',rfl,h1,hst.below hgW h2,zj h2⟩) () hg
 rw [zbA] at hc;have he:jM ⟨b,f::fs⟩ l=l.map (j5 (fun x=> yC b x (f::fs))):=by rw [zcE,zcV];rfl
 rw [he];refine hc.mono ?_;rintro e w' ⟨v,rfl,hll',hsl,_,hgr⟩;obtain ⟨a',cap',rfl,h⟩:=hsl
 skip
 rw [hll'];refine ⟨a',cap',rfl,⟨a',cap',rfl,?_⟩,yy hgr⟩;simp only at h;rw [hll'] at h;exact h
theorem zef {B N s:Nat} {u:World} {m:Option Nat} {b:Base} (hBN:B<=N) (hm:∀r,m=some r->B<=r) (hcp:zap B u m b s) (f:Frame) (fs:List Frame) (hfs:fs.length + s<=330) (av fv:Value) (l:List Term)
  (hl:∀e∈l,(Part.proc e).size<=s/\(Part.proc e).allSmall/\(Part.proc e).allBind/\Fine (.proc e)) (hll:l.length<=1000)
  (a:Option Addr) (cap:Nat) (hs:l.length=0∨∃b off,a=some ⟨b,off,none⟩/\b < B/\zu B u b off l) (U:Used) (r:Nat) (W:World) (hg:Good B u N m b (f::fs) (.iface 123 (.agg #[av,fv])) W) (hN:N<=W.heap.size) (hb:Bud m (bcTs l + r) U W):
  Calls Tryz.prog 105 #[.slice a l.length cap, .func (.func 87) #[.agg #[av,fv]] #[]] W fun e w'=> OutE (ju ⟨b,f::fs⟩ U l) e (W.grownBy w' m) fun y=> ∃a' cap',e= .returned (.slice a' l.length cap')/\SlAt w'.heap.size (.slice a' l.length cap') y.1.length (fun b' off=> zu w'.heap.size (blank W.heap.size w') b' off y.1)/\
   Bud m r y.2 w'/\W.grownBy w' m/\Good B u N m b (f::fs) (.iface 123 (.agg #[av,fv])) w':=by
 have hst:=Good.stays (b:=b) (fs:=f::fs) (v:= .iface 123 (.agg #[av,fv])) (u:=u) hBN hm
 have hc:=zhd (S:=Used) B u m W (.agg #[av,fv]) (fun k U W=> Good B u N m b (f::fs) (.iface 123 (.agg #[av,fv])) W/\Bud m (bcTs (l.drop k) + r) U W) (yl ⟨b,f::fs⟩) l a cap hll hs hg.kept hg.room
  (fun k s W1 W' row h hgr hr=> ⟨hst W1 W' row h.1 hgr (fun r e=> .inl (by have:=hr r e;omega)),h.2.kept hgr (fun r e hmr=> by have:=hr r e;have:=hb.lt r hmr;omega)⟩) (fun _ _ _ h=> h.2.noCells) hb.lt
  (fun k hk U1 W1 cs hI hgr hak=> by
   obtain ⟨h1,h2,h3,h4⟩:=hl l[k] (ZM hk);have hb1:=hI.2;rw [zke l k hk,Nat.add_assoc] at hb1;refine (hcp l[k] h1 h2 h3 h4 f fs av fv U1 _ cs W1 hfs hak hI.1.fit hb1).mono ?_;intro e' w' hh;cases hR:yl ⟨b,f::fs⟩ U1 l[k] with
   | none=> rw [hR] at hh;exact hh
   | some y=>
    rw [hR] at hh;obtain ⟨cs',e1,e2,e3,e4⟩:=hh;exact ⟨cs',e1,e2,⟨hst W1 w' m hI.1 e4 (fun r e=> .inr e),e3⟩,e4⟩) U ⟨hg,hb⟩
 rw [zfQ];refine hc.mono ?_;intro e w' hh;cases hR:zV (yl ⟨b,f::fs⟩) U l with
 | none=> rw [hR] at hh;exact hh
 | some y=>
  rw [hR] at hh;obtain ⟨v,e1,hll',hsl,hI,hgr⟩:=hh;obtain ⟨a',cap',rfl,h⟩:=hsl;simp only at hll' h;rw [List.drop_length] at hI;refine ⟨a',cap',by rw [e1,hll'],⟨a',cap',by rw [hll'],h⟩,?_,hgr,hI.1⟩;have:=hI.2;rw [bcTs,Nat.zero_add] at this;exact this
theorem zc9 {B N s:Nat} {u:World} {m:Option Nat} {b:Base} (hBN:B<=N) (hm:∀r,m=some r->B<=r) (hcp:xq B u m b s) (f:Frame) (fs:List Frame) (hfs:fs.length + s<=330) (av fv:Value) (l:List zg)
  (hl:∀e∈l,(Part.def_ e).size<=s/\(Part.def_ e).allSmall/\(Part.def_ e).allBind/\Fine (.def_ e)/\∀x∈tsC e,xk (f::fs) x) (hll:l.length<=1000)
  (a:Option Addr) (cap:Nat) (hs:l.length=0∨∃b off,a=some ⟨b,off,none⟩/\b < B/\zr B u b off l) (U:Used) (r:Nat) (W:World) (hg:Good B u N m b (f::fs) (.iface 123 (.agg #[av,fv])) W) (hN:N<=W.heap.size) (hb:Bud m (bcCs l + r) U W):
  Calls Tryz.prog 141 #[.slice a l.length cap, .func (.func 142) #[.agg #[av,fv]] #[]] W fun e w'=> OutE (jx ⟨b,f::fs⟩ U l) e (W.grownBy w' m) fun y=> ∃a' cap',e= .returned (.slice a' l.length cap')/\SlAt w'.heap.size (.slice a' l.length cap') y.1.length (fun b' off=> zr w'.heap.size (blank W.heap.size w') b' off y.1)/\
   Bud m r y.2 w'/\W.grownBy w' m/\Good B u N m b (f::fs) (.iface 123 (.agg #[av,fv])) w':=by
 have hst:=Good.stays (b:=b) (fs:=f::fs) (v:= .iface 123 (.agg #[av,fv])) (u:=u) hBN hm
 have hc:=zlZ (S:=Used) B u m W (.agg #[av,fv]) (fun k U W=> Good B u N m b (f::fs) (.iface 123 (.agg #[av,fv])) W/\Bud m (bcCs (l.drop k) + r) U W) (xJ ⟨b,f::fs⟩) l a cap hll hs hg.kept hg.room
  (fun k s W1 W' row h hgr hr=> ⟨hst W1 W' row h.1 hgr (fun r e=> .inl (by have:=hr r e;omega)),h.2.kept hgr (fun r e hmr=> by have:=hr r e;have:=hb.lt r hmr;omega)⟩) (fun _ _ _ h=> h.2.noCells) hb.lt
  (fun k hk U1 W1 cs hI hgr hak=> by
   obtain ⟨h1,h2,h3,h4,h5⟩:=hl l[k] (ZM hk);have hb1:=hI.2;rw [zk3 l k hk,Nat.add_assoc] at hb1;refine (hcp l[k] h1 h2 h3 h4 f fs av fv U1 _ cs W1 hfs h5 hak hI.1.fit hb1).mono ?_;intro e' w' hh;cases hR:xJ ⟨b,f::fs⟩ U1 l[k] with
   | none=> rw [hR] at hh;exact hh
   | some y=>
    rw [hR] at hh;obtain ⟨cs',e1,e2,e3,e4⟩:=hh;exact ⟨cs',e1,e2,⟨hst W1 w' m hI.1 e4 (fun r e=> .inr e),e3⟩,e4⟩) U ⟨hg,hb⟩
 rw [zfC];refine hc.mono ?_;intro e w' hh;cases hR:zV (xJ ⟨b,f::fs⟩) U l with
 | none=> rw [hR] at hh;exact hh
 | some y=>
  rw [hR] at hh;obtain ⟨v,e1,hll',hsl,hI,hgr⟩:=hh;obtain ⟨a',cap',rfl,h⟩:=hsl;simp only at hll' h;rw [List.drop_length] at hI;refine ⟨a',cap',by rw [e1,hll'],⟨a',cap',by rw [hll'],h⟩,?_,hgr,hI.1⟩;have:=hI.2;rw [bcCs,Nat.zero_add] at this;exact this
end
end Go.Proofs.YtjmlaeofjjhfmaaGreat
