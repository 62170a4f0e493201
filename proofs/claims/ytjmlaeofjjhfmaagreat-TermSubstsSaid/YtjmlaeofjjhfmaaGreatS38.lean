/- Lemmas. -/
import Derived.Test.YtjmlaeofjjhfmaaGreatS37
import Derived.Test.YtjmlaeofjjhfmaaGreatS15
import Derived.Test.YtjmlaeofjjhfmaaGreatS16
import Derived.Test.YtjmlaeofjjhfmaaGreatS34
import Derived.Test.YtjmlaeofjjhfmaaGreatS19
import Derived.StillTailTactics
set_option linter.unusedVariables false
set_option linter.unusedSimpArgs false
set_option maxRecDepth 10000
set_option maxHeartbeats 16000000
namespace Go.Proofs.YtjmlaeofjjhfmaaGreat
section
open Go.RowKit Go.Shelf Go.Maps
theorem zmM {S:Type} (B:Nat) (u:World) (w:World) (Inv:Nat->S->World->Prop) (F:S->zg->Option (zg×S)) (l:List zg) (a:Option Addr) (cap:Nat) (hl:l.length<=1000)
  (hsrc:l.length=0∨∃b off,a=some ⟨b,off,none⟩/\b < B/\zr B u b off l) (hu:zh B u w) (hB:B<=w.heap.size)
  (hInv:∀k s W W' row,Inv k s W->W.grownBy W' row->(∀r,row=some r->w.heap.size<=r)->Inv k s W') (hNC:∀k s W,Inv k s W->xD none W)
  (hcall:∀k (h:k < l.length) s W cs,Inv k s W->w.grownBy W none->zo B u cs l[k]->Calls Tryz.prog 153 #[.agg cs.toArray] W fun e w'=> OutE (F s l[k]) e (W.grownBy w' none) fun (x,s')=> ∃cs',e= .returned (.agg cs'.toArray)/\zo w'.heap.size (mid u B W.heap.size w') cs' x/\Inv (k + 1) s' w'/\W.grownBy w' none)
  (st:S) (hI:Inv 0 st w):
  Calls Tryz.prog 141 #[.slice a l.length cap, .func (.func 153) #[] #[]] w fun e w'=> OutE (zV F st l) e (w.grownBy w' none) fun (l',s')=> ∃v,e= .returned v/\l'.length=l.length/\SlAt w'.heap.size v l'.length (fun b off=> zr w'.heap.size (mid u B w.heap.size w') b off l')/\Inv l.length s' w'/\w.grownBy w' none:=by
 obtain ⟨i0,hi,hz0,hz1,hz2⟩:=info_parts zfr;have eK:∀args w,(callFunc 153 args).run Tryz.prog w= .ok (.enter 153 args) w:=enters_of Tryz.func153 (by kernel_rfl) rfl;have hnc:=hNC _ _ _ hI;have hu':=ZH hu;clear hu;go_enter Tryz.func141,Tryz.ntmps141;go_wp2_with fail
 go_loopw [5,10] (fun v i wr=> ∃(k:Nat) (xs:List zg) (s:S) (vals:List Value),k<=l.length/\i= .int .i64 k/\zV F st (l.take k)=some (xs,s)/\xs.length=k/\wr.ownsRow w.heap.size 130 5 v k vals/\
  zq (fun _ w1 cs x=> je zo u B w.heap.size v.ownBlock w1 cs x) 5 0 wr vals xs/\Inv k s wr/\w.grownBy wr none) (fun _ i _=> l.length - (intOf i).toNat)
 case atStart=> exact ⟨0, [],st, [],by omega,rfl,by simp [zV],rfl,ZR _ _ _ _,zq.nil _ _ _ _,hI,qx _ _⟩
 case round=>
  obtain ⟨k,xs,s,vals,hk,rfl,hst,hxl,hown,hch,hIs,hg⟩:=hrel;have HXL:=ZH hxl;clear hxl;by_cases hlt:k < l.length
  ·rcases hsrc with h0 | ⟨b,off,rfl,hb,hxs⟩
   ·omega
   obtain ⟨cs,hcell,hat⟩:=zr.get l b off hxs k hlt;have hku:zh B u wr:=hu'.out.trans (xi hg hnc hB);have hBr:B<=wr.heap.size:=Nat.le_trans hB hg.size;have hwr:=hg.size;have hcell':=hcell.keep hku hb;have hmore:=ZH (jD hlt hst);have hnone:=ZH (jO hlt hst);have hc:=hcall k hlt s (wr.alloc (.cells cs.toArray 130)) cs (hInv k s _ _ none hIs (ZW _ _ none) (by simp)) (zk hg (ZW _ _ none) (by simp)) hat;obtain ⟨c0,c1,c2,c3,c4,c5,c6,c7,c8,c9,c10,rfl⟩:=qW hat;obtain ⟨d0,d1,d2,d3,d4⟩:=zK hcell';clear hat hcell hcell' hxs hcall hst;obtain ⟨R,hR⟩:∃R,R=F s l[k]:=⟨_,rfl⟩;rw [<-hR] at hc hmore hnone;have HR:=ZH hR;clear hR;cases R with
   | none=>
    go_wp2_with (go_at_call 153;refine hc.mono ?_;clear hc;rintro e w3 ⟨rfl,hgp⟩);simp only [bodyPost];rw [hnone.out (by simp)];exact ⟨by trivial,rfl,zk (zk hg (ZW wr (.cells #[.int .i64 c0, .string c1, .slice c2 c3 c4, .slice c5 c6 c7, .slice c8 c9 c10] 130) none) (by simp)) hgp (fun r h=> .inr h)⟩
   | some r=>
    obtain ⟨x,s'⟩:=r
    have hj:∀(w3:World) (cs':List Value),zo w3.heap.size (mid u B (wr.alloc (.cells #[.int .i64 c0, .string c1, .slice c2 c3 c4, .slice c5 c6 c7, .slice c8 c9 c10] 130)).heap.size w3) cs' x->Inv (k + 1) s' w3->(wr.alloc (.cells #[.int .i64 c0, .string c1, .slice c2 c3 c4, .slice c5 c6 c7, .slice c8 c9 c10] 130)).grownBy w3 none->
      ∃e0 e1 e2 e3 e4 e5 e6 e7 e8 e9 e10 gg cp w',cs'= [.int .i64 e0, .string e1, .slice e2 e3 e4, .slice e5 e6 e7, .slice e8 e9 e10]/\(Builtin.append_ #[30,30] 30 #[u5, .slice (some ⟨w3.heap.size,0,none⟩) 1 1]).run Tryz.prog (w3.alloc (.cells #[.int .i64 e0, .string e1, .slice e2 e3 e4, .slice e5 e6 e7, .slice e8 e9 e10] 130))= .ok (.slice (some ⟨gg,0,none⟩) (k + 1) cp) w'/\
       w'.ownsRow w.heap.size 130 5 (.slice (some ⟨gg,0,none⟩) (k + 1) cp) (k + 1) (vals ++ [.int .i64 e0, .string e1, .slice e2 e3 e4, .slice e5 e6 e7, .slice e8 e9 e10])/\zq (fun _ w1 cs x=> je zo u B w.heap.size (Value.slice (some ⟨gg,0,none⟩) (k + 1) cp).ownBlock w1 cs x) 5 0 w' (vals ++ [.int .i64 e0, .string e1, .slice e2 e3 e4, .slice e5 e6 e7, .slice e8 e9 e10]) (xs ++ [x])/\Inv (k + 1) s' w'/\w.grownBy w' none:=by
     intro w3 cs' hat' hI' hg';obtain ⟨e0,e1,e2,e3,e4,e5,e6,e7,e8,e9,e10,rfl⟩:=qW hat';obtain ⟨W4,hW4⟩:∃W4,W4=w3.alloc (.cells #[.int .i64 e0, .string e1, .slice e2 e3 e4, .slice e5 e6 e7, .slice e8 e9 e10] 130):=⟨_,rfl⟩;have hg3:wr.grownBy w3 none:=zk (zk (qx _ _) (ZW wr (.cells #[.int .i64 c0, .string c1, .slice c2 c3 c4, .slice c5 c6 c7, .slice c8 c9 c10] 130) none) (by simp)) hg' (fun r h=> .inr h);have hg4:wr.grownBy W4 none:=by rw [hW4];exact zk hg3 (ZW _ _ none) (by simp)
     have hoA:=zt hown hg4 (fun b hb e=> by cases e)
     obtain ⟨v',w',hr,h1,h2,h3,h4⟩:=run_append_own_at (P:=Tryz.prog) W4 w.heap.size 30 30 130 i0 (.agg #[.int .i64 0, .string ⟨#[]⟩, .slice none 0 0, .slice none 0 0, .slice none 0 0]) 5 96 Tryz.underlying30 hi hz0 hz1 hz2 rfl (by decide) _ k vals hoA
      ⟨w3.heap.size,0,none⟩ 1 1 [.int .i64 e0, .string e1, .slice e2 e3 e4, .slice e5 e6 e7, .slice e8 e9 e10] rfl (by
       intro j u hj;have e:(⟨w3.heap.size,0,none⟩:Addr).add j=⟨w3.heap.size,j,none⟩:=by unfold Addr.add;by_cases h:j=0 <;> simp [h]
       rw [e,hW4,ZA _ _ _ _ rfl];simpa using hj) (by simp [Value.oneCell']) (by unfold maxLen;omega) (by omega) (by have:=hg4.size;omega)
     have hs3:=hg3.size;have hs4:W4.heap.size=w3.heap.size + 1:=by rw [hW4];simp
     have hlo:=hown.lt
     have hch':zq (fun _ w1 cs x=> je zo u B w.heap.size v'.ownBlock w1 cs x) 5 0 w' (vals ++ [.int .i64 e0, .string e1, .slice e2 e3 e4, .slice e5 e6 e7, .slice e8 e9 e10]) (xs ++ [x]):=by
      have hch1:zq (fun _ w1 cs x=> je zo u B w.heap.size v'.ownBlock w1 cs x) 5 0 w' vals xs:=⟨hch.1,fun i hi=> je.keep jB (hch.2 i hi) (fun b hb1 hb2 hb3=>
       (h2.block b (by omega) (fun e=> hb3 e.symm)).trans (hg4.block b hb2 (fun e=> by cases e))) (by have:=h2.size;omega) (by
        rcases h4 with h4 | h4
        ·exact .inl h4
        ·exact .inr ⟨_,h4,by omega⟩)⟩
      refine zq.snoc hch1 ?_ rfl
      ·refine ⟨wr.heap.size + 1,w3.heap.size,by omega,by have:=h2.size;omega,fun g hg=> ?_,?_⟩
       ·rcases h4 with h4 | h4
        ·rw [h4] at hg;have:=hlo g hg;omega
        ·rw [h4] at hg;have:=ZJ hg;omega
       ·rw [World.size_alloc] at hat'
        refine jB _ _ _ _ _ _ (zbD (ZL _) (by have:=h2.size;omega) fun b o v ha hb hv=> ?_) (ZL _) hat';have e1:W4.cell? ⟨b,o,none⟩=some v:=by rw [hW4,ZP _ _ _ hb];exact hv
        refine (ZB (w:=W4) (h2.block b (by omega) (fun e=> ?_))).trans e1;have:=hlo b e.symm;omega
     have hI4:Inv (k + 1) s' w':=hInv (k + 1) s' _ _ _ (hInv (k + 1) s' _ W4 none hI' (by rw [hW4];exact ZW _ _ none) (by simp)) h2 (fun r hr=> (hlo r hr).1);have hgw:w.grownBy w' none:=zk (zk hg hg4 (fun r h=> .inr h)) h2 (fun r hr=> .inl (hlo r hr).1);obtain ⟨_,⟨_,h0⟩ | ⟨gg,cp,cur,hvf,_⟩⟩:=id h1
     ·omega
     subst hvf;rw [hW4] at hr;exact ⟨_,_,_,_,_,_,_,_,_,_,_,gg,cp,w',rfl,hr,h1,hch',hI4,hgw⟩
    clear hch hIs hown hku
    go_wp2_with (first
     | (go_at_call 153;refine hc.mono ?_;clear hc;rintro e w3 ⟨cs',rfl,hat',hI',hg'⟩;obtain ⟨e0,e1,e2,e3,e4,e5,e6,e7,e8,e9,e10,gg,cp,w',rfl,hr,h1,h2,h3,h4⟩:=hj w3 cs' hat' hI' hg';have H1:=ZH h1;have H2:=ZH h2;have H3:=ZH h3;have H4:=ZH h4;clear hj hat' hI' hg' h1 h2 h3 h4)
     | (show wpList _ _ _ (⟨some 19,_,_,_,_,_⟩::_) _ _;refine qe rfl (.tmp 14) (.tmp 18) 30 30 rfl rfl rfl hr ?_))
    go_roundw
    case rel=> exact ⟨k + 1,xs ++ [x],s',_,by omega,by go_num,hmore.out,by simp [HXL.out],H1.out,H2.out,H3.out,H4.out⟩
    case measure=> simp [intOf];omega
  ·obtain rfl:k=l.length:=by omega
   rw [List.take_length] at hst;have HXL':=HXL.out;have hsl:=zi6 hB (by rw [HXL'];exact hown) hch;have HSL:=ZH hsl;obtain ⟨aa,cc,hvv,_⟩:=zJ (by omega) hown;subst hvv;clear hsl hch hown;go_wp2;go_ret;rw [hst];exact ⟨_,rfl,HXL',HSL.out,hIs,hg⟩
theorem zm5 {S:Type} (B:Nat) (u:World) (w:World) (Inv:Nat->S->World->Prop) (F:S->Term->Option (Term×S)) (l:List Term) (a:Option Addr) (cap:Nat) (hl:l.length<=1000)
  (hsrc:l.length=0∨∃b off,a=some ⟨b,off,none⟩/\b < B/\zu B u b off l) (hu:zh B u w) (hB:B<=w.heap.size)
  (hInv:∀k s W W' row,Inv k s W->W.grownBy W' row->(∀r,row=some r->w.heap.size<=r)->Inv k s W') (hNC:∀k s W,Inv k s W->xD none W)
  (hcall:∀k (h:k < l.length) s W cs,Inv k s W->w.grownBy W none->ze B u cs l[k]->Calls Tryz.prog 108 #[.agg cs.toArray] W fun e w'=> OutE (F s l[k]) e (W.grownBy w' none) fun (x,s')=> ∃cs',e= .returned (.agg cs'.toArray)/\ze w'.heap.size (mid u B W.heap.size w') cs' x/\Inv (k + 1) s' w'/\W.grownBy w' none)
  (st:S) (hI:Inv 0 st w):
  Calls Tryz.prog 105 #[.slice a l.length cap, .func (.func 108) #[] #[]] w fun e w'=> OutE (zV F st l) e (w.grownBy w' none) fun (l',s')=> ∃v,e= .returned v/\l'.length=l.length/\SlAt w'.heap.size v l'.length (fun b off=> zu w'.heap.size (mid u B w.heap.size w') b off l')/\Inv l.length s' w'/\w.grownBy w' none:=by
 obtain ⟨i0,hi,hz0,hz1,hz2⟩:=info_parts zcZ;have eK:∀args w,(callFunc 108 args).run Tryz.prog w= .ok (.enter 108 args) w:=enters_of Tryz.func108 (by kernel_rfl) rfl;have hnc:=hNC _ _ _ hI;have hu':=ZH hu;clear hu;go_enter Tryz.func105,Tryz.ntmps105;go_wp2_with fail
 go_loopw [5,10] (fun v i wr=> ∃(k:Nat) (xs:List Term) (s:S) (vals:List Value),k<=l.length/\i= .int .i64 k/\zV F st (l.take k)=some (xs,s)/\xs.length=k/\wr.ownsRow w.heap.size 33 5 v k vals/\
  zq (fun _ w1 cs x=> je ze u B w.heap.size v.ownBlock w1 cs x) 5 0 wr vals xs/\Inv k s wr/\w.grownBy wr none) (fun _ i _=> l.length - (intOf i).toNat)
 case atStart=> exact ⟨0, [],st, [],by omega,rfl,by simp [zV],rfl,ZR _ _ _ _,zq.nil _ _ _ _,hI,qx _ _⟩
 case round=>
  obtain ⟨k,xs,s,vals,hk,rfl,hst,hxl,hown,hch,hIs,hg⟩:=hrel;have HXL:=ZH hxl;clear hxl;by_cases hlt:k < l.length
  ·rcases hsrc with h0 | ⟨b,off,rfl,hb,hxs⟩
   ·omega
   obtain ⟨cs,hcell,hat⟩:=zu.get l b off hxs k hlt;have hku:zh B u wr:=hu'.out.trans (xi hg hnc hB);have hBr:B<=wr.heap.size:=Nat.le_trans hB hg.size;have hwr:=hg.size;have hcell':=hcell.keep hku hb;have hmore:=ZH (jD hlt hst);have hnone:=ZH (jO hlt hst);have hc:=hcall k hlt s (wr.alloc (.cells cs.toArray 33)) cs (hInv k s _ _ none hIs (ZW _ _ none) (by simp)) (zk hg (ZW _ _ none) (by simp)) hat;obtain ⟨c0,c1,c2,c3,c4,c5,c6,c7,c8,c9,c10,rfl⟩:=zz hat;obtain ⟨d0,d1,d2,d3,d4⟩:=zK hcell';clear hat hcell hcell' hxs hcall hst;obtain ⟨R,hR⟩:∃R,R=F s l[k]:=⟨_,rfl⟩;rw [<-hR] at hc hmore hnone;have HR:=ZH hR;clear hR;cases R with
   | none=>
    go_wp2_with (go_at_call 108;refine hc.mono ?_;clear hc;rintro e w3 ⟨rfl,hgp⟩);simp only [bodyPost];rw [hnone.out (by simp)];exact ⟨by trivial,rfl,zk (zk hg (ZW wr (.cells #[.int .i64 c0, .string c1, .slice c2 c3 c4, .slice c5 c6 c7, .slice c8 c9 c10] 33) none) (by simp)) hgp (fun r h=> .inr h)⟩
   | some r=>
    obtain ⟨x,s'⟩:=r
    have hj:∀(w3:World) (cs':List Value),ze w3.heap.size (mid u B (wr.alloc (.cells #[.int .i64 c0, .string c1, .slice c2 c3 c4, .slice c5 c6 c7, .slice c8 c9 c10] 33)).heap.size w3) cs' x->Inv (k + 1) s' w3->(wr.alloc (.cells #[.int .i64 c0, .string c1, .slice c2 c3 c4, .slice c5 c6 c7, .slice c8 c9 c10] 33)).grownBy w3 none->
      ∃e0 e1 e2 e3 e4 e5 e6 e7 e8 e9 e10 gg cp w',cs'= [.int .i64 e0, .string e1, .slice e2 e3 e4, .slice e5 e6 e7, .slice e8 e9 e10]/\(Builtin.append_ #[31,31] 31 #[u5, .slice (some ⟨w3.heap.size,0,none⟩) 1 1]).run Tryz.prog (w3.alloc (.cells #[.int .i64 e0, .string e1, .slice e2 e3 e4, .slice e5 e6 e7, .slice e8 e9 e10] 33))= .ok (.slice (some ⟨gg,0,none⟩) (k + 1) cp) w'/\
       w'.ownsRow w.heap.size 33 5 (.slice (some ⟨gg,0,none⟩) (k + 1) cp) (k + 1) (vals ++ [.int .i64 e0, .string e1, .slice e2 e3 e4, .slice e5 e6 e7, .slice e8 e9 e10])/\zq (fun _ w1 cs x=> je ze u B w.heap.size (Value.slice (some ⟨gg,0,none⟩) (k + 1) cp).ownBlock w1 cs x) 5 0 w' (vals ++ [.int .i64 e0, .string e1, .slice e2 e3 e4, .slice e5 e6 e7, .slice e8 e9 e10]) (xs ++ [x])/\Inv (k + 1) s' w'/\w.grownBy w' none:=by
     intro w3 cs' hat' hI' hg';obtain ⟨e0,e1,e2,e3,e4,e5,e6,e7,e8,e9,e10,rfl⟩:=zz hat';obtain ⟨W4,hW4⟩:∃W4,W4=w3.alloc (.cells #[.int .i64 e0, .string e1, .slice e2 e3 e4, .slice e5 e6 e7, .slice e8 e9 e10] 33):=⟨_,rfl⟩;have hg3:wr.grownBy w3 none:=zk (zk (qx _ _) (ZW wr (.cells #[.int .i64 c0, .string c1, .slice c2 c3 c4, .slice c5 c6 c7, .slice c8 c9 c10] 33) none) (by simp)) hg' (fun r h=> .inr h);have hg4:wr.grownBy W4 none:=by rw [hW4];exact zk hg3 (ZW _ _ none) (by simp)
     have hoA:=zt hown hg4 (fun b hb e=> by cases e)
     obtain ⟨v',w',hr,h1,h2,h3,h4⟩:=run_append_own_at (P:=Tryz.prog) W4 w.heap.size 31 31 33 i0 (.agg #[.int .i64 0, .string ⟨#[]⟩, .slice none 0 0, .slice none 0 0, .slice none 0 0]) 5 96 Tryz.underlying31 hi hz0 hz1 hz2 rfl (by decide) _ k vals hoA
      ⟨w3.heap.size,0,none⟩ 1 1 [.int .i64 e0, .string e1, .slice e2 e3 e4, .slice e5 e6 e7, .slice e8 e9 e10] rfl (by
       intro j u hj;have e:(⟨w3.heap.size,0,none⟩:Addr).add j=⟨w3.heap.size,j,none⟩:=by unfold Addr.add;by_cases h:j=0 <;> simp [h]
       rw [e,hW4,ZA _ _ _ _ rfl];simpa using hj) (by simp [Value.oneCell']) (by unfold maxLen;omega) (by omega) (by have:=hg4.size;omega)
     have hs3:=hg3.size;have hs4:W4.heap.size=w3.heap.size + 1:=by rw [hW4];simp
     have hlo:=hown.lt
     have hch':zq (fun _ w1 cs x=> je ze u B w.heap.size v'.ownBlock w1 cs x) 5 0 w' (vals ++ [.int .i64 e0, .string e1, .slice e2 e3 e4, .slice e5 e6 e7, .slice e8 e9 e10]) (xs ++ [x]):=by
      have hch1:zq (fun _ w1 cs x=> je ze u B w.heap.size v'.ownBlock w1 cs x) 5 0 w' vals xs:=⟨hch.1,fun i hi=> je.keep jo (hch.2 i hi) (fun b hb1 hb2 hb3=>
       (h2.block b (by omega) (fun e=> hb3 e.symm)).trans (hg4.block b hb2 (fun e=> by cases e))) (by have:=h2.size;omega) (by
        rcases h4 with h4 | h4
        ·exact .inl h4
        ·exact .inr ⟨_,h4,by omega⟩)⟩
      refine zq.snoc hch1 ?_ rfl
      ·refine ⟨wr.heap.size + 1,w3.heap.size,by omega,by have:=h2.size;omega,fun g hg=> ?_,?_⟩
       ·rcases h4 with h4 | h4
        ·rw [h4] at hg;have:=hlo g hg;omega
        ·rw [h4] at hg;have:=ZJ hg;omega
       ·rw [World.size_alloc] at hat'
        refine jo _ _ _ _ _ _ (zbD (ZL _) (by have:=h2.size;omega) fun b o v ha hb hv=> ?_) (ZL _) hat';have e1:W4.cell? ⟨b,o,none⟩=some v:=by rw [hW4,ZP _ _ _ hb];exact hv
        refine (ZB (w:=W4) (h2.block b (by omega) (fun e=> ?_))).trans e1;have:=hlo b e.symm;omega
     have hI4:Inv (k + 1) s' w':=hInv (k + 1) s' _ _ _ (hInv (k + 1) s' _ W4 none hI' (by rw [hW4];exact ZW _ _ none) (by simp)) h2 (fun r hr=> (hlo r hr).1);have hgw:w.grownBy w' none:=zk (zk hg hg4 (fun r h=> .inr h)) h2 (fun r hr=> .inl (hlo r hr).1);obtain ⟨_,⟨_,h0⟩ | ⟨gg,cp,cur,hvf,_⟩⟩:=id h1
     ·omega
     subst hvf;rw [hW4] at hr;exact ⟨_,_,_,_,_,_,_,_,_,_,_,gg,cp,w',rfl,hr,h1,hch',hI4,hgw⟩
    clear hch hIs hown hku
    go_wp2_with (first
     | (go_at_call 108;refine hc.mono ?_;clear hc;rintro e w3 ⟨cs',rfl,hat',hI',hg'⟩;obtain ⟨e0,e1,e2,e3,e4,e5,e6,e7,e8,e9,e10,gg,cp,w',rfl,hr,h1,h2,h3,h4⟩:=hj w3 cs' hat' hI' hg';have H1:=ZH h1;have H2:=ZH h2;have H3:=ZH h3;have H4:=ZH h4;clear hj hat' hI' hg' h1 h2 h3 h4)
     | (show wpList _ _ _ (⟨some 19,_,_,_,_,_⟩::_) _ _;refine qe rfl (.tmp 14) (.tmp 18) 31 31 rfl rfl rfl hr ?_))
    go_roundw
    case rel=> exact ⟨k + 1,xs ++ [x],s',_,by omega,by go_num,hmore.out,by simp [HXL.out],H1.out,H2.out,H3.out,H4.out⟩
    case measure=> simp [intOf];omega
  ·obtain rfl:k=l.length:=by omega
   rw [List.take_length] at hst;have HXL':=HXL.out;have hsl:=zle hB (by rw [HXL'];exact hown) hch;have HSL:=ZH hsl;obtain ⟨aa,cc,hvv,_⟩:=zJ (by omega) hown;subst hvv;clear hsl hch hown;go_wp2;go_ret;rw [hst];exact ⟨_,rfl,HXL',HSL.out,hIs,hg⟩
theorem qD {w:World} {b:Nat} {cs:Array Value} {ty:TypeId} (h:w.heap[b]?=some (.cells cs ty)) (o:Nat) (v:Value):(w.setCell ⟨b,o,none⟩ v).heap[b]?=some (.cells (cs.set! o v) ty):=by
 have hlt:b < w.heap.size:=(ZG h).1;unfold World.setCell;simp only [Array.getElem?_modify,h];simp
theorem zd9 {w:World} {b:Nat} {a0 a1 a2 a3 a4:Value} (h:w.heap[b]?=some (.cells #[a0,a1,a2,a3,a4] 33)) (v0 v1 v2 v3 v4:Value):(((((w.setCell ⟨b,0,none⟩ v0).setCell ⟨b,1,none⟩ v1).setCell ⟨b,2,none⟩ v2).setCell ⟨b,3,none⟩ v3).setCell ⟨b,4,none⟩ v4).heap[b]?=some (.cells #[v0,v1,v2,v3,v4] 33):=by
 have:=qD (qD (qD (qD (qD h 0 v0) 1 v1) 2 v2) 3 v3) 4 v4;simpa using this
theorem Tryz.results104:Tryz.f104.results=#[.cell 2 33]:=by kernel_rfl
theorem zhn {B n:Nat} {U wr WB:World} (l:List Term) (cs:List Value)
  (HT:∀X:World,zh B U X->(∀b o x,n + 2<=b->wr.cell? ⟨b,o,none⟩=some x->X.cell? ⟨b,o,none⟩=some x)->ze wr.heap.size X cs (qw l))
  (hL:∀b,n + 1<=b->b < wr.heap.size->WB.heap[b]?=wr.heap[b]?)
  (X:World) (hX:zh B U X)
  (hX2:∀(b o:Nat) (x:Value),n<=b->WB.cell? ⟨b,o,none⟩=some x->X.cell? ⟨b,o,none⟩=some x):
  ze wr.heap.size X cs (qw l):=by
 refine HT X hX (fun b o x hb hx=> hX2 b o x (by omega) ?_);exact (ZB (w:=wr) (hL b (by omega) (zD hx))).trans hx
theorem zf1 {B N n j:Nat} {U wr WB:World} {cs ds:List Value} (l:List Term) (hl:n + 1=l.length) (hj:j < n) (hB:B<=N) (hzr:N + 2<=wr.heap.size) (hBz:WB.heap.size=wr.heap.size + 1)
  (hAn:zI WB wr.heap.size 0 (ds ++ cs)) (hd:ds.length=5) (hc:cs.length=5) (hat:ze B U ds (l[j]'(by omega)))
  (HT:∀X:World,zh B U X->(∀b o x,N + 2<=b->wr.cell? ⟨b,o,none⟩=some x->X.cell? ⟨b,o,none⟩=some x)->ze wr.heap.size X cs (qw (l.drop (j + 1))))
  (hL:∀b,N + 2<=b->b < wr.heap.size->WB.heap[b]?=wr.heap[b]?)
  (X:World) (hX:zh B U X)
  (hX2:∀(b o:Nat) (x:Value),N + 2<=b->WB.cell? ⟨b,o,none⟩=some x->X.cell? ⟨b,o,none⟩=some x):
  ze WB.heap.size X [.int .i64 3, .string ⟨#[]⟩, .slice none 0 0, .slice none 0 0, .slice (some ⟨wr.heap.size,0,none⟩) 2 2] (qw (l.drop j)):=by
 have hT:=HT X hX (fun b o x hb hx=> hX2 b o x hb ((ZB (w:=wr) (hL b hb (zD hx))).trans hx));have hds:l.drop j=l[j]'(by omega)::l.drop (j + 1):=List.drop_eq_getElem_cons (by omega);obtain ⟨u0,us,hus⟩:∃u0 us,l.drop (j + 1)=u0::us:=⟨_,_,List.drop_eq_getElem_cons (by omega)⟩;rw [hds,hus,qw,<-hus];unfold ze;refine ⟨by decide,_,_,_,rfl,⟨none,0,rfl,by simp, .inl rfl⟩,⟨none,0,rfl,by simp, .inl rfl⟩,⟨some ⟨wr.heap.size,0,none⟩,2,rfl,by simp, .inr ⟨wr.heap.size,0,rfl,by omega,?_⟩⟩⟩;unfold zu zu zu;have hcell:∀i,(h:i < (ds ++ cs).length)->X.cell? ⟨wr.heap.size,0 + i,none⟩=some (ds ++ cs)[i]:=fun i h=> hX2 _ _ _ (by omega) (hAn i h);refine ⟨⟨ds,fun i h=> ?_,ze.keep hX (by omega) _ _ hat⟩,⟨cs,fun i h=> ?_,?_⟩,trivial⟩
 ·have:=hcell i (by rw [List.length_append];omega)
  rw [List.getElem_append_left h] at this;exact this
 ·have:=hcell (5 + i) (by rw [List.length_append];omega)
  rw [List.getElem_append_right (by omega)] at this;simp only [hd,Nat.add_sub_cancel_left,Nat.zero_add] at this ⊢;exact this
 ·exact ze.keep (zh.refl _ X) (by omega) _ _ hT
theorem zet {w0 wr:World} {N:Nat} {v0 v1 v2 v3 v4 a0 a1 a2 a3 a4:Value} (hN:N + 1 < wr.heap.size) (hb:Below N w0 wr) (hq:wr.heap[N + 1]?=some (.cells #[a0,a1,a2,a3,a4] 33)) (C:Array Value):
  Below N w0 ((((((wr.setCell ⟨N + 1,0,none⟩ v0).setCell ⟨N + 1,1,none⟩ v1).setCell ⟨N + 1,2,none⟩ v2).setCell ⟨N + 1,3,none⟩ v3).setCell ⟨N + 1,4,none⟩ v4).alloc (.cells C 33)).drew/\
  ((((((wr.setCell ⟨N + 1,0,none⟩ v0).setCell ⟨N + 1,1,none⟩ v1).setCell ⟨N + 1,2,none⟩ v2).setCell ⟨N + 1,3,none⟩ v3).setCell ⟨N + 1,4,none⟩ v4).alloc (.cells C 33)).drew.heap.size=wr.heap.size + 1/\
  (∀b,b≠N + 1->b < wr.heap.size->((((((wr.setCell ⟨N + 1,0,none⟩ v0).setCell ⟨N + 1,1,none⟩ v1).setCell ⟨N + 1,2,none⟩ v2).setCell ⟨N + 1,3,none⟩ v3).setCell ⟨N + 1,4,none⟩ v4).alloc (.cells C 33)).drew.heap[b]?=wr.heap[b]?)/\
  ((((((wr.setCell ⟨N + 1,0,none⟩ v0).setCell ⟨N + 1,1,none⟩ v1).setCell ⟨N + 1,2,none⟩ v2).setCell ⟨N + 1,3,none⟩ v3).setCell ⟨N + 1,4,none⟩ v4).alloc (.cells C 33)).drew.heap[N + 1]?=some (.cells #[v0,v1,v2,v3,v4] 33)/\
  ((((((wr.setCell ⟨N + 1,0,none⟩ v0).setCell ⟨N + 1,1,none⟩ v1).setCell ⟨N + 1,2,none⟩ v2).setCell ⟨N + 1,3,none⟩ v3).setCell ⟨N + 1,4,none⟩ v4).alloc (.cells C 33)).drew.heap[wr.heap.size]?=some (.cells C 33):=by
 obtain ⟨WS,hWS⟩:∃WS,WS=((((wr.setCell ⟨N + 1,0,none⟩ v0).setCell ⟨N + 1,1,none⟩ v1).setCell ⟨N + 1,2,none⟩ v2).setCell ⟨N + 1,3,none⟩ v3).setCell ⟨N + 1,4,none⟩ v4:=⟨_,rfl⟩;have hs:WS.heap.size=wr.heap.size:=by rw [hWS];simp [World.setCell]
 have h1:Below N w0 WS:=by rw [hWS];exact set5 hb (N + 1) (by omega) _ _ _ _ _
 have h2:WS.heap[N + 1]?=some (.cells #[v0,v1,v2,v3,v4] 33):=by rw [hWS];exact zd9 hq _ _ _ _ _
 have h3:∀b,b≠N + 1->WS.heap[b]?=wr.heap[b]?:=fun b hb=> by
  rw [hWS,ZC _ _ _ _ (by simpa using hb),ZC _ _ _ _ (by simpa using hb),ZC _ _ _ _ (by simpa using hb),ZC _ _ _ _ (by simpa using hb),ZC _ _ _ _ (by simpa using hb)]
 rw [<-hWS];clear hWS;refine ⟨(h1.alloc (by omega) _).drew,by simp [hs],fun b hb hlt=> ?_,?_,?_⟩
 ·exact (ZO _ _ _ (by omega)).trans (h3 b hb)
 ·exact (ZO _ _ _ (by omega)).trans h2
 ·have:=ZN WS (.cells C 33)
  rw [hs] at this;exact this
theorem zeW (l:List Term) (hlen:l.length<=1000) (B:Nat) (U w:World) (v:Value) (hU:zh B U w) (hB:B<=w.heap.size) (hv:SlAt B v l.length (fun b off=> zu B U b off l)):
  Calls Tryz.prog 104 #[v] w fun e w'=> ∃cs',e= .returned (.agg cs'.toArray)/\Below w.heap.size w w'/\
   ∀X:World,zh B U X->(∀b o x,w.heap.size<=b->w'.cell? ⟨b,o,none⟩=some x->X.cell? ⟨b,o,none⟩=some x)->ze w'.heap.size X cs' (qw l):=by
 obtain ⟨a,cap,rfl,hl,hx⟩:=hv;by_cases h0:l.length=0
 ·have hnil:l= []:=List.length_eq_zero_iff.1 h0
  subst hnil;go_enter Tryz.func104,Tryz.ntmps104;go_wp2;simp [bodyPost,results,Tryz.results104,go_sem];refine ⟨ZQ w _,fun X _ _=> ?_⟩;rw [qw];unfold ze;exact ⟨by decide, .slice none 0 0, .slice none 0 0, .slice none 0 0,rfl,⟨none,0,rfl,by simp, .inl rfl⟩,⟨none,0,rfl,by simp, .inl rfl⟩,⟨none,0,rfl,by simp, .inl rfl⟩⟩
 ·rcases hx with hx | ⟨b,off,rfl,hb,hts⟩
  ·exact absurd hx h0
  obtain ⟨n,hn⟩:∃n,l.length=n + 1:=⟨l.length - 1,by omega⟩;have hln:n < l.length:=by omega
  obtain ⟨d,c,f⟩:=hts.get l b off n hln;obtain ⟨e0,e1,e2,e3,e4,e5,e6,e7,e8,e9,eA,rfl⟩:=zz f;obtain ⟨W1,hW1⟩:∃W1,W1=w.alloc (.cells #[.int .i64 0, .string ⟨#[]⟩, .slice none 0 0, .slice none 0 0, .slice none 0 0] 33):=⟨_,rfl⟩;have b1:Below w.heap.size w W1:=by rw [hW1];exact ZQ w _
  obtain ⟨r0,r1,r2,r3,r4⟩:=zK (c.keep (hU.trans ((Below.keptC b1).mono hB)) hb);rw [hW1] at r0 r1 r2 r3 r4;have i1:l.length - 1=n:=by omega
  obtain ⟨W2,hW2⟩:∃W2,W2=W1.alloc (.cells #[.int .i64 e0, .string e1, .slice e2 e3 e4, .slice e5 e6 e7, .slice e8 e9 eA] 33):=⟨_,rfl⟩;have z1:W1.heap.size=w.heap.size + 1:=by rw [hW1];simp
  have z2:W2.heap.size=w.heap.size + 2:=by rw [hW2];simp;omega
  have b2:Below w.heap.size w W2:=by rw [hW2];exact b1.alloc (by omega) _
  have k0:W2.heap[w.heap.size]?=some (.cells #[.int .i64 0, .string ⟨#[]⟩, .slice none 0 0, .slice none 0 0, .slice none 0 0] 33):=by
   rw [hW2,ZO _ _ _ (by omega),hW1];exact ZN w _
  have k1:W2.heap[w.heap.size + 1]?=some (.cells #[.int .i64 e0, .string e1, .slice e2 e3 e4, .slice e5 e6 e7, .slice e8 e9 eA] 33):=by
   have:=ZN W1 (.cells #[.int .i64 e0, .string e1, .slice e2 e3 e4, .slice e5 e6 e7, .slice e8 e9 eA] 33);rw [hW2,<-z1];exact this
  have HW2:=ZH hW2;have HW1:=ZH hW1;have HN:=ZH hn
  have hstart:∀X:World,zh B U X->(∀b o x,w.heap.size + 2<=b->W2.cell? ⟨b,o,none⟩=some x->X.cell? ⟨b,o,none⟩=some x)->ze W2.heap.size X [.int .i64 e0, .string e1, .slice e2 e3 e4, .slice e5 e6 e7, .slice e8 e9 eA] (qw (l.drop n)):=fun X hX _=> by
   have e:l.drop n= [l[n]]:=by rw [List.drop_eq_getElem_cons hln,List.drop_of_length_le (by omega)]
   rw [e,qw];exact ze.keep hX (by omega) _ _ f
  have HS:=ZH hstart;have i0:((n:Int) + 1==0)=false:=by simp;omega
  rw [hn];clear hW1 hW2 hn hstart;go_enter Tryz.func104,Tryz.ntmps104;go_wp2;rw [<-HW1.out,<-HW2.out]
  go_loopw [4] (fun i wr=> ∃(k:Nat) (c0:Int) (c1:ByteArray) (c2:Option Addr) (c3 c4:Nat) (c5:Option Addr) (c6 c7:Nat) (c8:Option Addr) (c9 cA:Nat),k<=n/\i= .int .i64 ((k:Int) - 1)/\Below w.heap.size w wr/\w.heap.size + 2<=wr.heap.size/\
   wr.heap[w.heap.size]?=some (.cells #[.int .i64 0, .string ⟨#[]⟩, .slice none 0 0, .slice none 0 0, .slice none 0 0] 33)/\
   wr.heap[w.heap.size + 1]?=some (.cells #[.int .i64 c0, .string c1, .slice c2 c3 c4, .slice c5 c6 c7, .slice c8 c9 cA] 33)/\
   Hid (∀X:World,zh B U X->(∀b o x,w.heap.size + 2<=b->wr.cell? ⟨b,o,none⟩=some x->X.cell? ⟨b,o,none⟩=some x)->ze wr.heap.size X [.int .i64 c0, .string c1, .slice c2 c3 c4, .slice c5 c6 c7, .slice c8 c9 cA] (qw (l.drop k)))) (fun i _=> (intOf i + 1).toNat)
  case atStart=> exact ⟨n,_,_,_,_,_,_,_,_,_,_,_,ZL _,by congr 1;omega,b2,by omega,k0,k1,HS⟩
  case round=>
   obtain ⟨k,c0,c1,c2,c3,c4,c5,c6,c7,c8,c9,cA,hk,rfl,hbr,hzr,q0,q1,HT⟩:=hrel;have m0:wr.cell? ⟨w.heap.size + 1,0,none⟩=some (.int .i64 c0):=by simp [World.cell?,q1]
   have m1:wr.cell? ⟨w.heap.size + 1,1,none⟩=some (.string c1):=by simp [World.cell?,q1]
   have m2:wr.cell? ⟨w.heap.size + 1,2,none⟩=some (.slice c2 c3 c4):=by simp [World.cell?,q1]
   have m3:wr.cell? ⟨w.heap.size + 1,3,none⟩=some (.slice c5 c6 c7):=by simp [World.cell?,q1]
   have m4:wr.cell? ⟨w.heap.size + 1,4,none⟩=some (.slice c8 c9 cA):=by simp [World.cell?,q1]
   have hf1:∀o,wr.frozen? ⟨w.heap.size + 1,o,none⟩=false:=fun o=> by simp [World.frozen?,q1]
   rcases Nat.eq_zero_or_pos k with rfl | hpos
   ·obtain ⟨x0,x1,x2,x3,x4,xf⟩:=qr.cells q0
    go_wp2;simp [bodyPost,results,Tryz.results104,go_sem,x0,x1,x2,x3,x4];refine ⟨set5 hbr w.heap.size (ZL _) _ _ _ _ _,fun X hX hX2=> ?_⟩;exact zhn (n:=w.heap.size) l _ (by have h:=HT.out;rw [List.drop_zero] at h;exact h) (xo (qj.refl (w.heap.size + 1) wr) w.heap.size (Nat.lt_succ_self _) (.int .i64 c0) (.string c1) (.slice c2 c3 c4) (.slice c5 c6 c7) (.slice c8 c9 cA)).2 X hX hX2
   ·obtain ⟨j,rfl⟩:∃j,k=j + 1:=⟨k - 1,by omega⟩
    obtain ⟨d',c',f'⟩:=hts.get l b off j (by omega);obtain ⟨g0,g1,g2,g3,g4,g5,g6,g7,g8,g9,gA,rfl⟩:=zz f';have HF:=ZH f';obtain ⟨s0,s1,s2,s3,s4⟩:=zK (c'.keep (hU.trans ((Below.keptC hbr).mono hB)) hb);have i3:((j + 1:Nat):Int) - 1=(j:Int):=by omega
    have i4:(j:Int) < (n:Int) + 1:=by omega
    rw [i3];go_wp2
    go_still_tail 5,(by kernel_rfl)
    have hlt1:w.heap.size + 1 < wr.heap.size:=by omega
    have y0:((wr.alloc (.cells #[.int .i64 g0, .string g1, .slice g2 g3 g4, .slice g5 g6 g7, .slice g8 g9 gA, .int .i64 c0, .string c1, .slice c2 c3 c4, .slice c5 c6 c7, .slice c8 c9 cA] 33)).drew).cell? ⟨w.heap.size + 1,0,none⟩=some (.int .i64 c0):=(ZP _ _ _ hlt1).trans m0;have y1:((wr.alloc (.cells #[.int .i64 g0, .string g1, .slice g2 g3 g4, .slice g5 g6 g7, .slice g8 g9 gA, .int .i64 c0, .string c1, .slice c2 c3 c4, .slice c5 c6 c7, .slice c8 c9 cA] 33)).drew).cell? ⟨w.heap.size + 1,1,none⟩=some (.string c1):=(ZP _ _ _ hlt1).trans m1;have y2:((wr.alloc (.cells #[.int .i64 g0, .string g1, .slice g2 g3 g4, .slice g5 g6 g7, .slice g8 g9 gA, .int .i64 c0, .string c1, .slice c2 c3 c4, .slice c5 c6 c7, .slice c8 c9 cA] 33)).drew).cell? ⟨w.heap.size + 1,2,none⟩=some (.slice c2 c3 c4):=(ZP _ _ _ hlt1).trans m2;have y3:((wr.alloc (.cells #[.int .i64 g0, .string g1, .slice g2 g3 g4, .slice g5 g6 g7, .slice g8 g9 gA, .int .i64 c0, .string c1, .slice c2 c3 c4, .slice c5 c6 c7, .slice c8 c9 cA] 33)).drew).cell? ⟨w.heap.size + 1,3,none⟩=some (.slice c5 c6 c7):=(ZP _ _ _ hlt1).trans m3;have y4:((wr.alloc (.cells #[.int .i64 g0, .string g1, .slice g2 g3 g4, .slice g5 g6 g7, .slice g8 g9 gA, .int .i64 c0, .string c1, .slice c2 c3 c4, .slice c5 c6 c7, .slice c8 c9 cA] 33)).drew).cell? ⟨w.heap.size + 1,4,none⟩=some (.slice c8 c9 cA):=(ZP _ _ _ hlt1).trans m4;have yf:∀o,((wr.alloc (.cells #[.int .i64 g0, .string g1, .slice g2 g3 g4, .slice g5 g6 g7, .slice g8 g9 gA, .int .i64 c0, .string c1, .slice c2 c3 c4, .slice c5 c6 c7, .slice c8 c9 cA] 33)).drew).frozen? ⟨w.heap.size + 1,o,none⟩=false:=fun o=> (World.frozen?_alloc_past _ _ _ hlt1).trans (hf1 o);change wpList _ _ _ _ _ wr.drew;go_wp2;have HLN:=ZH (show n + 1=l.length/\j < n from ⟨HN.out.symm,by omega⟩);go_roundw
    case rel=>
     obtain ⟨w1,w2,w3,w4,w5⟩:=zet (v0:= .int .i64 3) (v1:= .string ⟨#[]⟩) (v2:= .slice none 0 0) (v3:= .slice none 0 0) (v4:= .slice (some ⟨wr.heap.size,0,none⟩) 2 2) hlt1 hbr q1 #[.int .i64 g0, .string g1, .slice g2 g3 g4, .slice g5 g6 g7, .slice g8 g9 gA, .int .i64 c0, .string c1, .slice c2 c3 c4, .slice c5 c6 c7, .slice c8 c9 cA];obtain ⟨WB,hWB⟩:∃WB,WB=((((((wr.setCell ⟨w.heap.size + 1,0,none⟩ (.int .i64 3)).setCell ⟨w.heap.size + 1,1,none⟩ (.string ⟨#[]⟩)).setCell ⟨w.heap.size + 1,2,none⟩ (.slice none 0 0)).setCell ⟨w.heap.size + 1,3,none⟩ (.slice none 0 0)).setCell ⟨w.heap.size + 1,4,none⟩ (.slice (some ⟨wr.heap.size,0,none⟩) 2 2)).alloc (.cells #[.int .i64 g0, .string g1, .slice g2 g3 g4, .slice g5 g6 g7, .slice g8 g9 gA, .int .i64 c0, .string c1, .slice c2 c3 c4, .slice c5 c6 c7, .slice c8 c9 cA] 33)).drew:=⟨_,rfl⟩;rw [<-hWB] at w1 w2 w3 w4 w5 ⊢;clear hWB
     have HCA:zI WB wr.heap.size 0 ([.int .i64 g0, .string g1, .slice g2 g3 g4, .slice g5 g6 g7, .slice g8 g9 gA] ++ [.int .i64 c0, .string c1, .slice c2 c3 c4, .slice c5 c6 c7, .slice c8 c9 cA]):=by
      intro i hi;have:WB.cell? ⟨wr.heap.size,0 + i,none⟩=#[Value.int .i64 g0, .string g1, .slice g2 g3 g4, .slice g5 g6 g7, .slice g8 g9 gA, .int .i64 c0, .string c1, .slice c2 c3 c4, .slice c5 c6 c7, .slice c8 c9 cA][i]?:=by simp [World.cell?,w5]
      rw [this]
      match i,hi with
      | 0,_=> rfl
      | 1,_=> rfl
      | 2,_=> rfl
      | 3,_=> rfl
      | 4,_=> rfl
      | 5,_=> rfl
      | 6,_=> rfl
      | 7,_=> rfl
      | 8,_=> rfl
      | 9,_=> rfl
     refine ⟨j,3,⟨#[]⟩,none,0,0,none,0,0,some ⟨wr.heap.size,0,none⟩,2,2,Nat.le_of_lt HLN.out.2,rfl,w1,by rw [w2];exact Nat.le_succ_of_le hzr,(w3 _ (Nat.ne_of_lt (Nat.lt_succ_self _)) (Nat.lt_of_succ_lt hlt1)).trans q0,w4,ZH (fun X hX hX2=> ?_)⟩;exact zf1 (N:=w.heap.size) l HLN.out.1 HLN.out.2 hB hzr w2 HCA rfl rfl HF.out HT.out (fun b hb hlt=> w3 b (Nat.ne_of_gt hb) hlt) X hX hX2
    case measure=> simp [intOf]
end
end Go.Proofs.YtjmlaeofjjhfmaaGreat
