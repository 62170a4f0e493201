/- Lemmas. -/
import Derived.Test.YtjmlaeofjjhfmaaGreatQ32
import Derived.Test.YtjmlaeofjjhfmaaGreatQ15
import Derived.Test.YtjmlaeofjjhfmaaGreatQ16
set_option linter.unusedVariables false
set_option linter.unusedSimpArgs false
set_option maxRecDepth 10000
set_option maxHeartbeats 16000000
namespace Go.Proofs.YtjmlaeofjjhfmaaGreat
section
open Go.RowKit Go.Shelf Go.Maps
theorem zmM {S:Type} (B:Nat) (u:World) (w:World) (Inv:Nat->S->World->Prop) (F:S->zg->Option (zg×S)) (l:List zg) (a:Option Addr) (cap:Nat) (hl:l.length<=1000)
  (hsrc:l.length=0∨∃b off,a=some ⟨b,off,none⟩/\b < B/\zr B u b off l) (hu:zh B u w) (hB:B<=w.heap.size)
  (hInv:∀k s W W' row,Inv k s W->W.grownBy W' row->(∀r,row=some r->w.heap.size<=r)->Inv k s W') (hNC:∀k s W,Inv k s W->xD none W)
  (hcall:∀k (h:k < l.length) s W cs,Inv k s W->w.grownBy W none->zo B u cs l[k]->Calls Tryz.prog 153 #[.agg cs.toArray] W fun e w'=> OutE (F s l[k]) e (W.grownBy w' none) fun (x,s')=> ∃cs',e= .returned (.agg cs'.toArray)/\zo w'.heap.size (mid u B W.heap.size w') cs' x/\Inv (k + 1) s' w'/\W.grownBy w' none)
  (st:S) (hI:Inv 0 st w):
  Calls Tryz.prog 141 #[.slice a l.length cap, .func (.func 153) #[] #[]] w fun e w'=> OutE (zV F st l) e (w.grownBy w' none) fun (l',s')=> ∃v,e= .returned v/\l'.length=l.length/\SlAt w'.heap.size v l'.length (fun b off=> zr w'.heap.size (mid u B w.heap.size w') b off l')/\Inv l.length s' w'/\w.grownBy w' none:=by
 obtain ⟨i0,hi,hz0,hz1,hz2⟩:=info_parts zfr;have eK:∀args w,(callFunc 153 args).run Tryz.prog w= .ok (.enter 153 args) w:=enters_of Tryz.func153 (by kernel_rfl) rfl;have hnc:=hNC _ _ _ hI;have hu':=ZH hu;clear hu;go_enter Tryz.func141,Tryz.ntmps141;go_wp2_with fail
 go_loopw [5,10] (fun v i wr=> ∃(k:Nat) (xs:List zg) (s:S) (vals:List Value),k<=l.length/\i= .int .i64 k/\zV F st (l.take k)=some (xs,s)/\xs.length=k/\wr.ownsRow w.heap.size 130 5 v k vals/\
  zq (fun _ w1 cs x=> je zo u B w.heap.size v.ownBlock w1 cs x) 5 0 wr vals xs/\Inv k s wr/\w.grownBy wr none) (fun _ i _=> l.length - (intOf i).toNat)
 case atStart=> exact ⟨0, [],st, [],by omega,rfl,by simp [zV],rfl,ZR _ _ _ _,zq.nil _ _ _ _,hI,qx _ _⟩
 case round=>
  obtain ⟨k,xs,s,vals,hk,rfl,hst,hxl,hown,hch,hIs,hg⟩:=hrel;have HXL:=ZH hxl;clear hxl;by_cases hlt:k < l.length
  ·rcases hsrc with h0 | ⟨b,off,rfl,hb,hxs⟩
   ·omega
   obtain ⟨cs,hcell,hat⟩:=zr.get l b off hxs k hlt;have hku:zh B u wr:=hu'.out.trans (xi hg hnc hB);have hBr:B<=wr.heap.size:=Nat.le_trans hB hg.size;have hwr:=hg.size;have hcell':=hcell.keep hku hb;have hmore:=ZH (jD hlt hst);have hnone:=ZH (jO hlt hst);have hc:=hcall k hlt s (wr.alloc (.cells cs.toArray 130)) cs (hInv k s _ _ none hIs (ZW _ _ none) (by simp)) (zk hg (ZW _ _ none) (by simp)) hat;obtain ⟨c0,c1,c2,c3,c4,c5,c6,c7,c8,c9,c10,rfl⟩:=qW hat;obtain ⟨d0,d1,d2,d3,d4⟩:=zK hcell';clear hat hcell hcell' hxs hcall hst;obtain ⟨R,hR⟩:∃R,R=F s l[k]:=⟨_,rfl⟩;rw [<-hR] at hc hmore hnone;have HR:=ZH hR;clear hR;cases R with
   | none=>
    go_wp2_with (go_at_call 153;refine hc.mono ?_;clear hc;rintro e w3 ⟨rfl,hgp⟩);simp only [bodyPost];rw [hnone.out (by simp)];exact ⟨by trivial,rfl,zk (zk hg (ZW wr (.cells #[.int .i64 c0, .string c1, .slice c2 c3 c4, .slice c5 c6 c7, .slice c8 c9 c10] 130) none) (by simp)) hgp (fun r h=> .inr h)⟩
   | some r=>
    obtain ⟨x,s'⟩:=r
    have hj:∀(w3:World) (cs':List Value),zo w3.heap.size (mid u B (wr.alloc (.cells #[.int .i64 c0, .string c1, .slice c2 c3 c4, .slice c5 c6 c7, .slice c8 c9 c10] 130)).heap.size w3) cs' x->Inv (k + 1) s' w3->(wr.alloc (.cells #[.int .i64 c0, .string c1, .slice c2 c3 c4, .slice c5 c6 c7, .slice c8 c9 c10] 130)).grownBy w3 none->
      ∃e0 e1 e2 e3 e4 e5 e6 e7 e8 e9 e10 gg cp w',cs'= [.int .i64 e0, .string e1, .slice e2 e3 e4, .slice e5 e6 e7, .slice e8 e9 e10]/\(Builtin.append_ #[30,30] 30 #[u5, .slice (some ⟨w3.heap.size,0,none⟩) 1 1]).run Tryz.prog (w3.alloc (.cells #[.int .i64 e0, .string e1, .slice e2 e3 e4, .slice e5 e6 e7, .slice e8 e9 e10] 130))= .ok (.slice (some ⟨gg,0,none⟩) (k + 1) cp) w'/\
       w'.ownsRow w.heap.size 130 5 (.slice (some ⟨gg,0,none⟩) (k + 1) cp) (k + 1) (vals ++ [.int .i64 e0, .string e1, .slice e2 e3 e4, .slice e5 e6 e7, .slice e8 e9 e10])/\zq (fun _ w1 cs x=> je zo u B w.heap.size (Value.slice (some ⟨gg,0,none⟩) (k + 1) cp).ownBlock w1 cs x) 5 0 w' (vals ++ [.int .i64 e0, .string e1, .slice e2 e3 e4, .slice e5 e6 e7, .slice e8 e9 e10]) (xs ++ [x])/\Inv (k + 1) s' w'/\w.grownBy w' none:=by
     intro w3 cs' hat' hI' hg';obtain ⟨e0,e1,e2,e3,e4,e5,e6,e7,e8,e9,e10,rfl⟩:=qW hat';obtain ⟨W4,hW4⟩:∃W4,W4=w3.alloc (.cells #[.int .i64 e0, .string e1, .slice e2 e3 e4, .slice e5 e6 e7, .slice e8 e9 e10] 130):=⟨_,rfl⟩;have hg3:wr.grownBy w3 none:=zk (zk (qx _ _) (ZW wr (.cells #[.int .i64 c0, .string c1, .slice c2 c3 c4, .slice c5 c6 c7, .slice c8 c9 c10] 130) none) (by simp)) hg' (fun r h=> .inr h);have hg4:wr.grownBy W4 none:=by rw [hW4];exact zk hg3 (ZW _ _ none) (by simp)
     have hoA:=zt hown hg4 (fun b hb e=> by cases e)
     obtain ⟨v',w',hr,h1,h2,h3,h4⟩:=run_append_own_at (P:=Tryz.prog) W4 w.heap.size 30 30 130 i0 (.agg #[.int .i64 0, .string ⟨#[]⟩, .slice none 0 0, .slice none 0 0, .slice none 0 0]) 5 96 Tryz.underlying30 hi hz0 hz1 hz2 rfl (by decide) _ k vals hoA
      ⟨w3.heap.size,0,none⟩ 1 1 [.int .i64 e0, .string e1, .slice e2 e3 e4, .slice e5 e6 e7, .slice e8 e9 e10] rfl (by
       intro j u hj;have e:(⟨w3.heap.size,0,none⟩:Addr).add j=⟨w3.heap.size,j,none⟩:=by unfold Addr.add;by_cases h:j=0 <;> simp [h]
       rw [e,hW4,ZA _ _ _ _ rfl];simpa using hj) (by simp [Value.oneCell']) (by unfold maxLen;omega) (by omega) (by have:=hg4.size;omega)
     have hs3:=hg3.size;have hs4:W4.heap.size=w3.heap.size + 1:=by rw [hW4];simp
     have hlo:=hown.lt
     have hch':zq (fun _ w1 cs x=> je zo u B w.heap.size v'.ownBlock w1 cs x) 5 0 w' (vals ++ [.int .i64 e0, .string e1, .slice e2 e3 e4, .slice e5 e6 e7, .slice e8 e9 e10]) (xs ++ [x]):=by
      have hch1:zq (fun _ w1 cs x=> je zo u B w.heap.size v'.ownBlock w1 cs x) 5 0 w' vals xs:=⟨hch.1,fun i hi=> je.keep jB (hch.2 i hi) (fun b hb1 hb2 hb3=>
       (h2.block b (by omega) (fun e=> hb3 e.symm)).trans (hg4.block b hb2 (fun e=> by cases e))) (by have:=h2.size;omega) (by
        rcases h4 with h4 | h4
        ·exact .inl h4
        ·exact .inr ⟨_,h4,by omega⟩)⟩
      refine zq.snoc hch1 ?_ rfl
      ·refine ⟨wr.heap.size + 1,w3.heap.size,by omega,by have:=h2.size;omega,fun g hg=> ?_,?_⟩
       ·rcases h4 with h4 | h4
        ·rw [h4] at hg;have:=hlo g hg;omega
        ·rw [h4] at hg;have:=ZJ hg;omega
       ·rw [World.size_alloc] at hat'
        refine jB _ _ _ _ _ _ (zbD (ZL _) (by have:=h2.size;omega) fun b o v ha hb hv=> ?_) (ZL _) hat';have e1:W4.cell? ⟨b,o,none⟩=some v:=by rw [hW4,ZP _ _ _ hb];exact hv
        refine (ZB (w:=W4) (h2.block b (by omega) (fun e=> ?_))).trans e1;have:=hlo b e.symm;omega
     have hI4:Inv (k + 1) s' w':=hInv (k + 1) s' _ _ _ (hInv (k + 1) s' _ W4 none hI' (by rw [hW4];exact ZW _ _ none) (by simp)) h2 (fun r hr=> (hlo r hr).1);have hgw:w.grownBy w' none:=zk (zk hg hg4 (fun r h=> .inr h)) h2 (fun r hr=> .inl (hlo r hr).1);obtain ⟨_,⟨_,h0⟩ | ⟨gg,cp,cur,hvf,_⟩⟩:=id h1
     ·omega
     subst hvf;rw [hW4] at hr;exact ⟨_,_,_,_,_,_,_,_,_,_,_,gg,cp,w',rfl,hr,h1,hch',hI4,hgw⟩
    clear hch hIs hown hku
    go_wp2_with (first
     | (go_at_call 153;refine hc.mono ?_;clear hc;rintro e w3 ⟨cs',rfl,hat',hI',hg'⟩;obtain ⟨e0,e1,e2,e3,e4,e5,e6,e7,e8,e9,e10,gg,cp,w',rfl,hr,h1,h2,h3,h4⟩:=hj w3 cs' hat' hI' hg';have H1:=ZH h1;have H2:=ZH h2;have H3:=ZH h3;have H4:=ZH h4;clear hj hat' hI' hg' h1 h2 h3 h4)
     | (show wpList _ _ _ (⟨some 19,_,_,_,_,_⟩::_) _ _;refine qe rfl (.tmp 14) (.tmp 18) 30 30 rfl rfl rfl hr ?_))
    go_roundw
    case rel=> exact ⟨k + 1,xs ++ [x],s',_,by omega,by go_num,hmore.out,by simp [HXL.out],H1.out,H2.out,H3.out,H4.out⟩
    case measure=> simp [intOf];omega
  ·obtain rfl:k=l.length:=by omega
   rw [List.take_length] at hst;have HXL':=HXL.out;have hsl:=zi6 hB (by rw [HXL'];exact hown) hch;have HSL:=ZH hsl;obtain ⟨aa,cc,hvv,_⟩:=zJ (by omega) hown;subst hvv;clear hsl hch hown;go_wp2;go_ret;rw [hst];exact ⟨_,rfl,HXL',HSL.out,hIs,hg⟩
theorem zm5 {S:Type} (B:Nat) (u:World) (w:World) (Inv:Nat->S->World->Prop) (F:S->Term->Option (Term×S)) (l:List Term) (a:Option Addr) (cap:Nat) (hl:l.length<=1000)
  (hsrc:l.length=0∨∃b off,a=some ⟨b,off,none⟩/\b < B/\zu B u b off l) (hu:zh B u w) (hB:B<=w.heap.size)
  (hInv:∀k s W W' row,Inv k s W->W.grownBy W' row->(∀r,row=some r->w.heap.size<=r)->Inv k s W') (hNC:∀k s W,Inv k s W->xD none W)
  (hcall:∀k (h:k < l.length) s W cs,Inv k s W->w.grownBy W none->ze B u cs l[k]->Calls Tryz.prog 108 #[.agg cs.toArray] W fun e w'=> OutE (F s l[k]) e (W.grownBy w' none) fun (x,s')=> ∃cs',e= .returned (.agg cs'.toArray)/\ze w'.heap.size (mid u B W.heap.size w') cs' x/\Inv (k + 1) s' w'/\W.grownBy w' none)
  (st:S) (hI:Inv 0 st w):
  Calls Tryz.prog 105 #[.slice a l.length cap, .func (.func 108) #[] #[]] w fun e w'=> OutE (zV F st l) e (w.grownBy w' none) fun (l',s')=> ∃v,e= .returned v/\l'.length=l.length/\SlAt w'.heap.size v l'.length (fun b off=> zu w'.heap.size (mid u B w.heap.size w') b off l')/\Inv l.length s' w'/\w.grownBy w' none:=by
 obtain ⟨i0,hi,hz0,hz1,hz2⟩:=info_parts zcZ;have eK:∀args w,(callFunc 108 args).run Tryz.prog w= .ok (.enter 108 args) w:=enters_of Tryz.func108 (by kernel_rfl) rfl;have hnc:=hNC _ _ _ hI;have hu':=ZH hu;clear hu;go_enter Tryz.func105,Tryz.ntmps105;go_wp2_with fail
 go_loopw [5,10] (fun v i wr=> ∃(k:Nat) (xs:List Term) (s:S) (vals:List Value),k<=l.length/\i= .int .i64 k/\zV F st (l.take k)=some (xs,s)/\xs.length=k/\wr.ownsRow w.heap.size 33 5 v k vals/\
  zq (fun _ w1 cs x=> je ze u B w.heap.size v.ownBlock w1 cs x) 5 0 wr vals xs/\Inv k s wr/\w.grownBy wr none) (fun _ i _=> l.length - (intOf i).toNat)
 case atStart=> exact ⟨0, [],st, [],by omega,rfl,by simp [zV],rfl,ZR _ _ _ _,zq.nil _ _ _ _,hI,qx _ _⟩
 case round=>
  obtain ⟨k,xs,s,vals,hk,rfl,hst,hxl,hown,hch,hIs,hg⟩:=hrel;have HXL:=ZH hxl;clear hxl;by_cases hlt:k < l.length
  ·rcases hsrc with h0 | ⟨b,off,rfl,hb,hxs⟩
   ·omega
   obtain ⟨cs,hcell,hat⟩:=zu.get l b off hxs k hlt;have hku:zh B u wr:=hu'.out.trans (xi hg hnc hB);have hBr:B<=wr.heap.size:=Nat.le_trans hB hg.size;have hwr:=hg.size;have hcell':=hcell.keep hku hb;have hmore:=ZH (jD hlt hst);have hnone:=ZH (jO hlt hst);have hc:=hcall k hlt s (wr.alloc (.cells cs.toArray 33)) cs (hInv k s _ _ none hIs (ZW _ _ none) (by simp)) (zk hg (ZW _ _ none) (by simp)) hat;obtain ⟨c0,c1,c2,c3,c4,c5,c6,c7,c8,c9,c10,rfl⟩:=zz hat;obtain ⟨d0,d1,d2,d3,d4⟩:=zK hcell';clear hat hcell hcell' hxs hcall hst;obtain ⟨R,hR⟩:∃R,R=F s l[k]:=⟨_,rfl⟩;rw [<-hR] at hc hmore hnone;have HR:=ZH hR;clear hR;cases R with
   | none=>
    go_wp2_with (go_at_call 108;refine hc.mono ?_;clear hc;rintro e w3 ⟨rfl,hgp⟩);simp only [bodyPost];rw [hnone.out (by simp)];exact ⟨by trivial,rfl,zk (zk hg (ZW wr (.cells #[.int .i64 c0, .string c1, .slice c2 c3 c4, .slice c5 c6 c7, .slice c8 c9 c10] 33) none) (by simp)) hgp (fun r h=> .inr h)⟩
   | some r=>
    obtain ⟨x,s'⟩:=r
    have hj:∀(w3:World) (cs':List Value),ze w3.heap.size (mid u B (wr.alloc (.cells #[.int .i64 c0, .string c1, .slice c2 c3 c4, .slice c5 c6 c7, .slice c8 c9 c10] 33)).heap.size w3) cs' x->Inv (k + 1) s' w3->(wr.alloc (.cells #[.int .i64 c0, .string c1, .slice c2 c3 c4, .slice c5 c6 c7, .slice c8 c9 c10] 33)).grownBy w3 none->
      ∃e0 e1 e2 e3 e4 e5 e6 e7 e8 e9 e10 gg cp w',cs'= [.int .i64 e0, .string e1, .slice e2 e3 e4, .slice e5 e6 e7, .slice e8 e9 e10]/\(Builtin.append_ #[31,31] 31 #[u5, .slice (some ⟨w3.heap.size,0,none⟩) 1 1]).run Tryz.prog (w3.alloc (.cells #[.int .i64 e0, .string e1, .slice e2 e3 e4, .slice e5 e6 e7, .slice e8 e9 e10] 33))= .ok (.slice (some ⟨gg,0,none⟩) (k + 1) cp) w'/\
       w'.ownsRow w.heap.size 33 5 (.slice (some ⟨gg,0,none⟩) (k + 1) cp) (k + 1) (vals ++ [.int .i64 e0, .string e1, .slice e2 e3 e4, .slice e5 e6 e7, .slice e8 e9 e10])/\zq (fun _ w1 cs x=> je ze u B w.heap.size (Value.slice (some ⟨gg,0,none⟩) (k + 1) cp).ownBlock w1 cs x) 5 0 w' (vals ++ [.int .i64 e0, .string e1, .slice e2 e3 e4, .slice e5 e6 e7, .slice e8 e9 e10]) (xs ++ [x])/\Inv (k + 1) s' w'/\w.grownBy w' none:=by
     intro w3 cs' hat' hI' hg';obtain ⟨e0,e1,e2,e3,e4,e5,e6,e7,e8,e9,e10,rfl⟩:=zz hat';obtain ⟨W4,hW4⟩:∃W4,W4=w3.alloc (.cells #[.int .i64 e0, .string e1, .slice e2 e3 e4, .slice e5 e6 e7, .slice e8 e9 e10] 33):=⟨_,rfl⟩;have hg3:wr.grownBy w3 none:=zk (zk (qx _ _) (ZW wr (.cells #[.int .i64 c0, .string c1, .slice c2 c3 c4, .slice c5 c6 c7, .slice c8 c9 c10] 33) none) (by simp)) hg' (fun r h=> .inr h);have hg4:wr.grownBy W4 none:=by rw [hW4];exact zk hg3 (ZW _ _ none) (by simp)
     have hoA:=zt hown hg4 (fun b hb e=> by cases e)
     obtain ⟨v',w',hr,h1,h2,h3,h4⟩:=run_append_own_at (P:=Tryz.prog) W4 w.heap.size 31 31 33 i0 (.agg #[.int .i64 0, .string ⟨#[]⟩, .slice none 0 0, .slice none 0 0, .slice none 0 0]) 5 96 Tryz.underlying31 hi hz0 hz1 hz2 rfl (by decide) _ k vals hoA
      ⟨w3.heap.size,0,none⟩ 1 1 [.int .i64 e0, .string e1, .slice e2 e3 e4, .slice e5 e6 e7, .slice e8 e9 e10] rfl (by
       intro j u hj;have e:(⟨w3.heap.size,0,none⟩:Addr).add j=⟨w3.heap.size,j,none⟩:=by unfold Addr.add;by_cases h:j=0 <;> simp [h]
       rw [e,hW4,ZA _ _ _ _ rfl];simpa using hj) (by simp [Value.oneCell']) (by unfold maxLen;omega) (by omega) (by have:=hg4.size;omega)
     have hs3:=hg3.size;have hs4:W4.heap.size=w3.heap.size + 1:=by rw [hW4];simp
     have hlo:=hown.lt
     have hch':zq (fun _ w1 cs x=> je ze u B w.heap.size v'.ownBlock w1 cs x) 5 0 w' (vals ++ [.int .i64 e0, .string e1, .slice e2 e3 e4, .slice e5 e6 e7, .slice e8 e9 e10]) (xs ++ [x]):=by
      have hch1:zq (fun _ w1 cs x=> je ze u B w.heap.size v'.ownBlock w1 cs x) 5 0 w' vals xs:=⟨hch.1,fun i hi=> je.keep jo (hch.2 i hi) (fun b hb1 hb2 hb3=>
       (h2.block b (by omega) (fun e=> hb3 e.symm)).trans (hg4.block b hb2 (fun e=> by cases e))) (by have:=h2.size;omega) (by
        rcases h4 with h4 | h4
        ·exact .inl h4
        ·exact .inr ⟨_,h4,by omega⟩)⟩
      refine zq.snoc hch1 ?_ rfl
      ·refine ⟨wr.heap.size + 1,w3.heap.size,by omega,by have:=h2.size;omega,fun g hg=> ?_,?_⟩
       ·rcases h4 with h4 | h4
        ·rw [h4] at hg;have:=hlo g hg;omega
        ·rw [h4] at hg;have:=ZJ hg;omega
       ·rw [World.size_alloc] at hat'
        refine jo _ _ _ _ _ _ (zbD (ZL _) (by have:=h2.size;omega) fun b o v ha hb hv=> ?_) (ZL _) hat';have e1:W4.cell? ⟨b,o,none⟩=some v:=by rw [hW4,ZP _ _ _ hb];exact hv
        refine (ZB (w:=W4) (h2.block b (by omega) (fun e=> ?_))).trans e1;have:=hlo b e.symm;omega
     have hI4:Inv (k + 1) s' w':=hInv (k + 1) s' _ _ _ (hInv (k + 1) s' _ W4 none hI' (by rw [hW4];exact ZW _ _ none) (by simp)) h2 (fun r hr=> (hlo r hr).1);have hgw:w.grownBy w' none:=zk (zk hg hg4 (fun r h=> .inr h)) h2 (fun r hr=> .inl (hlo r hr).1);obtain ⟨_,⟨_,h0⟩ | ⟨gg,cp,cur,hvf,_⟩⟩:=id h1
     ·omega
     subst hvf;rw [hW4] at hr;exact ⟨_,_,_,_,_,_,_,_,_,_,_,gg,cp,w',rfl,hr,h1,hch',hI4,hgw⟩
    clear hch hIs hown hku
    go_wp2_with (first
     | (go_at_call 108;refine hc.mono ?_;clear hc;rintro e w3 ⟨cs',rfl,hat',hI',hg'⟩;obtain ⟨e0,e1,e2,e3,e4,e5,e6,e7,e8,e9,e10,gg,cp,w',rfl,hr,h1,h2,h3,h4⟩:=hj w3 cs' hat' hI' hg';have H1:=ZH h1;have H2:=ZH h2;have H3:=ZH h3;have H4:=ZH h4;clear hj hat' hI' hg' h1 h2 h3 h4)
     | (show wpList _ _ _ (⟨some 19,_,_,_,_,_⟩::_) _ _;refine qe rfl (.tmp 14) (.tmp 18) 31 31 rfl rfl rfl hr ?_))
    go_roundw
    case rel=> exact ⟨k + 1,xs ++ [x],s',_,by omega,by go_num,hmore.out,by simp [HXL.out],H1.out,H2.out,H3.out,H4.out⟩
    case measure=> simp [intOf];omega
  ·obtain rfl:k=l.length:=by omega
   rw [List.take_length] at hst;have HXL':=HXL.out;have hsl:=zle hB (by rw [HXL'];exact hown) hch;have HSL:=ZH hsl;obtain ⟨aa,cc,hvv,_⟩:=zJ (by omega) hown;subst hvv;clear hsl hch hown;go_wp2;go_ret;rw [hst];exact ⟨_,rfl,HXL',HSL.out,hIs,hg⟩
end
end Go.Proofs.YtjmlaeofjjhfmaaGreat
