/- Lemmas. -/
import Derived.Test.YtjmlaeofjjhfmaaGreatS34
import Derived.Test.YtjmlaeofjjhfmaaGreatS33
import Derived.Test.YtjmlaeofjjhfmaaGreatS24
import Derived.Test.YtjmlaeofjjhfmaaGreatS29
import Derived.Test.YtjmlaeofjjhfmaaGreatS13
import Derived.Test.YtjmlaeofjjhfmaaGreatS31
import Derived.Test.YtjmlaeofjjhfmaaGreatS38
import Derived.Test.YtjmlaeofjjhfmaaGreatS09
import Derived.Test.YtjmlaeofjjhfmaaGreatS26
set_option linter.unusedVariables false
set_option linter.unusedSimpArgs false
set_option maxRecDepth 10000
set_option maxHeartbeats 16000000
namespace Go.Proofs.YtjmlaeofjjhfmaaGreat
section
open Go.RowKit Go.Shelf Go.Maps Go.Sort
def dd:List (List UInt8)->List (List UInt8)
 | []=> []
 | a::l=> if a∈dd l then dd l else a::dd l
def HasAll (F:List UInt8->Bool) (L:List ByteArray):Prop:=∀k,k∈L.map zb↔F k=true
theorem freeExp_any (t:Exp) (hf:zT (.exp t)) (B:Nat) (u w:World) (cs:List Value) (hu:zh B u w) (hB:B<=w.heap.size) (hv:zy B u cs t):
  Calls Tryz.prog 37 #[.agg cs.toArray] w fun e w'=> ∃v L,e= .returned v/\zx w'.heap.size w' v L/\Hid (HasAll (fE t) L)/\Below w.heap.size w w':=by
 have hsh:jS (.exp t)=true:=by
  rw [jS,List.all_eq_true];intro q hq;exact xg hf q.1 (List.mem_map.2 ⟨q,hq,rfl⟩)
 have h60:(Part.exp t).size<=60:=hf.1;obtain ⟨q,hq⟩:∃q,q=t:=⟨_,rfl⟩;rw [<-hq] at h60 hsh ⊢;obtain ⟨op,n,text,kids⟩:=t;have hv0:=hv;unfold zy at hv;obtain ⟨hz,_,rfl,⟨a0,p0,rfl,_⟩⟩:=hv;obtain ⟨W1,hW1⟩:∃W1,W1=w.alloc (.cells #[.int .i64 op, .int .i64 n, .string text, .slice a0 kids.length p0] 36):=⟨_,rfl⟩;have z1:W1.heap.size=w.heap.size + 1:=by rw [hW1];simp
 have b1:Below w.heap.size w W1:=by rw [hW1];exact ZQ w _
 have cc:∀W,Below W1.heap.size W1 W->W.cell? ⟨w.heap.size,0,none⟩=some (.int .i64 op)/\W.cell? ⟨w.heap.size,1,none⟩=some (.int .i64 n)/\W.cell? ⟨w.heap.size,2,none⟩=some (.string text)/\W.cell? ⟨w.heap.size,3,none⟩=some (.slice a0 kids.length p0):=fun W hW=> by
  have e:∀o,W.cell? ⟨w.heap.size,o,none⟩=W1.cell? ⟨w.heap.size,o,none⟩:=fun o=> hW.cell (p:=⟨w.heap.size,o,none⟩) (by simp;omega);rw [e,e,e,e,hW1];simp only [ZA _ _ _ _ rfl];exact ⟨rfl,rfl,rfl,rfl⟩
 have hcall:=f_all 60 (.exp q) h60 h60 hsh (zjL q) B u W1 _ (.slice none 0 0) (.slice none 0 0) [] [] (hu.trans ((Below.keptC b1).mono hB)) (by omega) (by rw [hq];exact hv0) (yE.nil _) (zx.nil _ _) List.Pairwise.nil (by simp;omega) (by simp;omega);simp only [fFn] at hcall
 have HK:∀e w',zkz [] (fset 60 [] (.exp q)) (Part.exp q).size W1 e w'->∃v L,e= .returned v/\zx w'.heap.size w' v L/\Hid (HasAll (fE q) L)/\Below w.heap.size w w':=by
  rintro e w' ⟨v,L,rfl,h1,h2,h3,_,h5⟩;refine ⟨v,L,rfl,h1.strs,ZH (fun k=> ?_),b1.trans (h5.mono (by omega))⟩;rw [h3];simp only [fset,List.map_nil,List.not_mem_nil,false_or,not_false_eq_true,and_true];rw [freeN_fP 60 _ h60];rfl
 have hcall2:=hcall.mono HK;obtain ⟨x0,x1,x2,x3⟩:=cc W1 (ZF _ _);have HW:=ZH hW1;rw [HW.out] at x0 x1 x2 x3;clear hcall HK cc hW1 hv0 hq h60 hsh;go_enter Tryz.func37,Tryz.ntmps37;go_wp2_with (go_at_call 91;rw [<-HW.out];refine hcall2.mono ?_;clear hcall2;rintro e w2 ⟨v,L,rfl,g1,g2,g3⟩);go_ret;exact ⟨v,L,rfl,g1,g2,g3⟩
theorem zdk (B:Nat) (w:World):ze B w zgy (.mk 0 ByteArray.empty [] [] []):=by
 unfold ze zgy;refine ⟨by decide, .slice none 0 0, .slice none 0 0, .slice none 0 0,rfl,?_,?_,?_⟩
 ·exact ⟨none,0,rfl,by simp, .inl rfl⟩
 ·exact ⟨none,0,rfl,by simp, .inl rfl⟩
 ·exact ⟨none,0,rfl,by simp, .inl rfl⟩
theorem has_iff (ss:List ByteArray) (s:ByteArray):hasB ss s=true↔zb s∈ss.map zb:=by
 rw [zdm];unfold zF;rw [List.any_eq_true];constructor
 ·rintro ⟨x,hx,he⟩;rw [<-(by simpa using he:x=zb s)];exact hx
 ·intro h;exact ⟨_,h,by simp⟩
end
section
open Go.RowKit Go.Shelf
abbrev Chg:=List (ByteArray×Exp)
def yh:Chg->ByteArray->Option Exp
 | [],_=> none
 | (n,e)::l,s=> match yh l s with
  | some x=> some x
  | none=> if (n.toList==s.toList)=true then some e else none
theorem zeH (s:ByteArray) (n:ByteArray) (e:Exp):∀l:Chg,yh (l ++ [(n,e)]) s=if (n.toList==s.toList)=true then some e else yh l s
 | []=> by simp only [List.nil_append,yh]
 | (m,f)::l=> by
  rw [List.cons_append,yh,zeH s n e l];by_cases h:(n.toList==s.toList)=true
  ·rw [if_pos h,if_pos h]
  ·rw [if_neg h,if_neg h,yh]
theorem ziV (c:Chg) (s:ByteArray) (k:Nat) (h:k < c.length):yh (c.take (k + 1)) s=if ((c[k]).1.toList==s.toList)=true then some (c[k]).2 else yh (c.take k) s:=by
 rw [ZT h];exact zeH s _ _ _
def zao (B:Nat) (w:World) (cs:List Value) (c:Chg):Prop:=
 ∃v1 v2,cs= [v1,v2]/\zx B w v1 (c.map (·.1))/\SlAt B v2 c.length (fun b off=> zW B w b off (c.map (·.2)))
def zfu:List Value:= [.int .i64 0, .int .i64 0, .string ⟨#[]⟩, .slice none 0 0]
def zfv (B:Nat) (w:World) (es:List Value) (b:Bool):Option Exp->Prop
 | some x=> b=true/\zy B w es x
 | none=> b=false/\es=zfu
theorem Tryz.results144:Tryz.f144.results=#[.cell 4 36, .tmp 5]:=by kernel_rfl
theorem ziy (c:Chg) (nn:Nat) (hnn:nn=c.length) (B:Nat) (u w:World) (a0 a1:Option Addr) (p0 p1:Nat) (s:ByteArray) (hu:zh B u w) (hBl:B<=w.heap.size) (l1:nn<=9223372036854775807)
  (h0':nn=0∨∃b off,a0=some ⟨b,off,none⟩/\b < B/\zbw u b off (c.map (·.1))) (h1:nn=0∨∃b off,a1=some ⟨b,off,none⟩/\b < B/\zW B u b off (c.map (·.2))):
  Calls Tryz.prog 144 #[.agg #[.slice a0 nn p0, .slice a1 nn p1], .string s] w fun e w'=> ∃es b,e= .returned (.tuple #[.agg es.toArray, .bool b])/\Hid (zfv B u es b (yh c s))/\Below w.heap.size w w':=by
 have HN:=ZH hnn;clear hnn;obtain ⟨W1,hW1⟩:∃W1,W1=(w.alloc (.cells #[.slice a0 nn p0, .slice a1 nn p1] 111)).alloc (.cells #[.int .i64 0, .int .i64 0, .string ⟨#[]⟩, .slice none 0 0] 36):=⟨_,rfl⟩;have z1:W1.heap.size=w.heap.size + 2:=by rw [hW1];simp
 have b1:Below w.heap.size w W1:=by rw [hW1];exact (ZQ w _).alloc (by simp) _
 have k1:zh B u W1:=hu.trans ((Below.keptC b1).mono hBl);have m0:W1.cell? ⟨w.heap.size,0,none⟩=some (.slice a0 nn p0):=by rw [hW1,ZP _ _ _ (by simp),ZA _ _ _ _ rfl];rfl
 have m1:W1.cell? ⟨w.heap.size,1,none⟩=some (.slice a1 nn p1):=by rw [hW1,ZP _ _ _ (by simp),ZA _ _ _ _ rfl];rfl
 have hbx:W1.heap[w.heap.size + 1]?=some (.cells #[.int .i64 0, .int .i64 0, .string ⟨#[]⟩, .slice none 0 0] 36):=by
  rw [hW1];have:=ZN (w.alloc (.cells #[.slice a0 nn p0, .slice a1 nn p1] 111)) (.cells #[.int .i64 0, .int .i64 0, .string ⟨#[]⟩, .slice none 0 0] 36);rwa [World.size_alloc] at this
 obtain ⟨c0,c1,c2,c3,cf⟩:W1.cell? ⟨w.heap.size + 1,0,none⟩=some (.int .i64 0)/\W1.cell? ⟨w.heap.size + 1,1,none⟩=some (.int .i64 0)/\W1.cell? ⟨w.heap.size + 1,2,none⟩=some (.string ⟨#[]⟩)/\W1.cell? ⟨w.heap.size + 1,3,none⟩=some (.slice none 0 0)/\∀o,W1.frozen? ⟨w.heap.size + 1,o,none⟩=false:=
  ⟨by simp [World.cell?,hbx],by simp [World.cell?,hbx],by simp [World.cell?,hbx],by simp [World.cell?,hbx],fun o=> by simp [World.frozen?,hbx]⟩
 clear hbx;have n0:=m0;rw [hW1] at n0;have HW:=ZH hW1;have HB:=ZH b1;have HK:=ZH k1;clear hW1 b1 k1;go_enter Tryz.func144,Tryz.ntmps144;go_wp2;rw [<-HW.out];clear n0
 go_loop [6] (fun i=> ∃k:Nat,k<=nn/\i= .int .i64 ((k:Int) - 1)/\Hid (yh c s=yh (c.take k) s)) (fun i=> (intOf i + 1).toNat)
 case atStart=> exact ⟨nn,ZL _,rfl,ZH (by rw [HN.out,List.take_length])⟩
 case round=>
  obtain ⟨k',hk,hi,hf⟩:=hrel;rcases k' with _ | k
  ·rw [show (((0:Nat):Int) - 1)=-1 from rfl] at hi
   subst hi;clear h0' h1;go_wp2;simp [bodyPost,results,Tryz.results144,go_sem,c0,c1,c2,c3];have hf':yh c s=none:=hf.out;refine ⟨ZH (by rw [hf'];exact ⟨rfl,rfl⟩),?_⟩;exact set4 HB.out (w.heap.size + 1) (by omega) _ _ _ _
  ·rw [show (((k + 1:Nat):Int) - 1)=(k:Int) by omega] at hi
   subst hi;have hkn:k < nn:=by omega
   have hkl:k < c.length:=by rw [<-HN.out];exact hkn
   have hsp:=ziV c s k hkl;rcases h0' with h0 | ⟨bf,of,rfl,hBf,hcf⟩
   ·omega
   rcases h1 with h1 | ⟨be,oe,rfl,hBe,hce⟩
   ·omega
   have y:=hcf k (by rw [List.length_map];exact hkl);have y0:=HK.out bf (of + k) _ hBf y;rw [List.getElem_map] at y0;obtain ⟨d1,e1,f1⟩:=hce.get (c.map (·.2)) be oe k (by rw [List.length_map];exact hkl);rw [List.getElem_map] at f1;obtain ⟨n,hn⟩:∃n,n=(c[k]).1:=⟨_,rfl⟩;obtain ⟨e,he⟩:∃e,e=(c[k]).2:=⟨_,rfl⟩;rw [<-hn] at y0 hsp;rw [<-he] at f1 hsp;clear hcf hce y hn he;by_cases hh:(n.toList==s.toList)=true
   ·obtain ⟨g0,g1,g2,g3,g4,g5,rfl⟩:=qG f1
    obtain ⟨x0,x1,x2,x3⟩:=jd (e1.keep HK.out hBe);have hF:Hid (zfv B u [.int .i64 g0, .int .i64 g1, .string g2, .slice g3 g4 g5] true (yh c s)):=ZH (by rw [hf.out,hsp,if_pos hh];exact ⟨rfl,f1⟩);clear hsp f1 e1 hf;go_wp2;simp [bodyPost,results,Tryz.results144,go_sem,c0,c1,c2,c3];exact ⟨hF,set4 HB.out (w.heap.size + 1) (by omega) _ _ _ _⟩
   ·have hF:Hid (yh c s=yh (c.take k) s):=ZH (by rw [hf.out,hsp,if_neg hh])
    have hh':(n.toList==s.toList)=false:=by simpa using hh
    clear hsp f1 e1 hf hh;go_wp2
    go_round
    case rel=> exact ⟨k,by omega,rfl,hF⟩
    case measure=> simp [intOf]
theorem zg7 (c:Chg) (B:Nat) (u w:World) (cs:List Value) (s:ByteArray) (hu:zh B u w) (hBl:B<=w.heap.size) (hc:zao B u cs c):
  Calls Tryz.prog 144 #[.agg cs.toArray, .string s] w fun e w'=> ∃es b,e= .returned (.tuple #[.agg es.toArray, .bool b])/\Hid (zfv B u es b (yh c s))/\Below w.heap.size w w':=by
 obtain ⟨v1,v2,rfl,h1,h2⟩:=hc;obtain ⟨a0,p0,rfl,l0,z0,q0,h0⟩:=h1;obtain ⟨a1,p1,rfl,l1,h1⟩:=h2;have e0:(c.map (·.1)).length=c.length:=List.length_map ..
 have:=ziy c c.length rfl B u w a0 a1 p0 p1 s hu hBl l1 (by
  rcases h0 with h | h
  ·exact .inl (by rw [<-e0,h];rfl)
  ·exact .inr h) h1
 rw [e0];exact this
end
section
open Go.RowKit Go.Shelf Go.Maps
def expL (c:Chg):Exp->Exp
 | .mk op n t kids=> match (if op=2 then yh c t else none) with
  | some x=> x
  | none=> .mk op n t (kids.map (fun k=> expL c k))
theorem Tryz.results92:Tryz.f92.results=#[.cell 4 36]:=by kernel_rfl
theorem Tryz.results145:Tryz.f145.results=#[.cell 2 36]:=by kernel_rfl
def zcm (ob:Nat) (op n:Int) (text:ByteArray) (W2:World) (c:Chg) (kids:List Exp) (k:Nat) (a:Option Addr) (cap:Nat) (wr:World):Prop:=
 wr.heap[ob]?=some (.cells #[.int .i64 op, .int .i64 n, .string text, .slice a k cap] 36)/\Below ob W2 wr/\
  ∃vals,wr.ownsRow (ob + 1) 36 4 (.slice a k cap) k vals/\zq (fun _ w1 cs x=> qz zy (ob + 1) (Value.slice a k cap).ownBlock w1 cs x) 4 0 wr vals ((kids.take k).map (fun x=> expL c x))
theorem zcm.step {ob:Nat} {op n:Int} {text:ByteArray} {W2:World} {c:Chg} {kids:List Exp} {k:Nat} {a:Option Addr} {cap:Nat} {wr w3:World} (h:zcm ob op n text W2 c kids k a cap wr) (hk:k < kids.length) (h60:kids.length<=60)
  (hW2:W2.heap.size=ob + 1) (hb3:Below wr.heap.size wr w3) (rs:List Value) (hat':zy w3.heap.size (blank wr.heap.size w3) rs (expL c kids[k])):
  ∃e0 e1 e2 e3 e4 e5 gg cp w',rs= [.int .i64 e0, .int .i64 e1, .string e2, .slice e3 e4 e5]/\
   (Builtin.append_ #[29,29] 29 #[.slice a k cap, .slice (some ⟨w3.heap.size,0,none⟩) 1 1]).run Tryz.prog (w3.alloc (.cells #[.int .i64 e0, .int .i64 e1, .string e2, .slice e3 e4 e5] 36))= .ok (.slice (some ⟨gg,0,none⟩) (k + 1) cp) w'/\
   w'.cell? ⟨ob,3,none⟩=some (.slice a k cap)/\w'.frozen? ⟨ob,3,none⟩=false/\Hid (zcm ob op n text W2 c kids (k + 1) (some ⟨gg,0,none⟩) cp (w'.setCell ⟨ob,3,none⟩ (.slice (some ⟨gg,0,none⟩) (k + 1) cp))):=by
 obtain ⟨hbox,hbw,vals,hown,hch⟩:=h;obtain ⟨i0,hi,hz0,hz1,hz2⟩:=info_parts zeV;obtain ⟨e0,e1,e2,e3,e4,e5,rfl⟩:=qG hat';obtain ⟨W4,hW4⟩:∃W4,W4=w3.alloc (.cells #[.int .i64 e0, .int .i64 e1, .string e2, .slice e3 e4 e5] 36):=⟨_,rfl⟩;have hs3:=hb3.size;have hsr:=hbw.size;have hb4:Below wr.heap.size wr W4:=by rw [hW4];exact hb3.alloc hs3 _
 have hg4:=zj hb4;have hoA:=zt hown hg4 (fun b hb e=> by cases e)
 obtain ⟨v',w',hr,h1,h2,h3,h4⟩:=run_append_own_at (P:=Tryz.prog) W4 (ob + 1) 29 29 36 i0 (.agg #[.int .i64 0, .int .i64 0, .string ⟨#[]⟩, .slice none 0 0]) 4 56 Tryz.underlying29 hi hz0 hz1 hz2 rfl (by decide) _ k vals hoA
  ⟨w3.heap.size,0,none⟩ 1 1 [.int .i64 e0, .int .i64 e1, .string e2, .slice e3 e4 e5] rfl (by
   intro j u hj;have e:(⟨w3.heap.size,0,none⟩:Addr).add j=⟨w3.heap.size,j,none⟩:=by unfold Addr.add;by_cases h:j=0 <;> simp [h]
   rw [e,hW4,ZA _ _ _ _ rfl];simpa using hj) (by simp [Value.oneCell']) (by unfold maxLen;omega) (by omega) (by have:=hb4.size;omega)
 have hs4:W4.heap.size=w3.heap.size + 1:=by rw [hW4];simp
 have hlo:=hown.lt;have hs2:=h2.size;have hrow:∀r,(Value.slice a k cap).ownBlock=some r->ob + 1<=r:=fun r hr=> (hlo r hr).1
 have hbox':w'.heap[ob]?=some (.cells #[.int .i64 op, .int .i64 n, .string text, .slice a k cap] 36):=
  (h2.block ob (by omega) (fun e=> by have:=hrow ob e.symm;omega)).trans ((hb4.block ob (by omega)).trans hbox)
 have hch':zq (fun _ w1 cs x=> qz zy (ob + 1) v'.ownBlock w1 cs x) 4 0 w' (vals ++ [.int .i64 e0, .int .i64 e1, .string e2, .slice e3 e4 e5]) ((kids.take (k + 1)).map (fun x=> expL c x)):=by
  have hch1:zq (fun _ w1 cs x=> qz zy (ob + 1) v'.ownBlock w1 cs x) 4 0 w' vals ((kids.take k).map (fun x=> expL c x)):=⟨hch.1,fun i hi=> qz.keep xc (hch.2 i hi) (fun b hb1 hb2 hb3=>
   (h2.block b (by omega) (fun e=> hb3 e.symm)).trans (hg4.block b hb2 (fun e=> by cases e))) (by omega) (by
    rcases h4 with h4 | h4
    ·exact .inl h4
    ·exact .inr ⟨_,h4,by omega⟩)⟩
  rw [ZT hk,List.map_append];refine zq.snoc hch1 ?_ rfl;refine ⟨wr.heap.size,w3.heap.size,by omega,by omega,fun g hg=> ?_,?_⟩
  ·rcases h4 with h4 | h4
   ·rw [h4] at hg;have:=(hlo g hg).2;omega
   ·rw [h4] at hg;have:=ZJ hg;omega
  ·refine xc _ _ _ _ _ _ (qg (ZL _) fun b o v ha hb hv=> ?_) (ZL _) hat'
   have e1:W4.cell? ⟨b,o,none⟩=some v:=by rw [hW4,ZP _ _ _ hb];exact hv
   refine (ZB (w:=W4) (h2.block b (by omega) (fun e=> ?_))).trans e1;have:=(hlo b e.symm).2;omega
 have hbw':Below ob W2 w':=(hbw.trans (hb4.mono (by omega))).grown h2 (by omega) (fun r e=> by have:=hrow r e;omega);obtain ⟨_,⟨_,h0⟩ | ⟨gg,cp,cur,hvf,hgA,_⟩⟩:=id h1
 ·omega
 subst hvf;rw [hW4] at hr;refine ⟨_,_,_,_,_,_,gg,cp,w',rfl,hr,by simp [World.cell?,hbox'],by simp [World.frozen?,hbox'],ZH ⟨?_,hbw'.setCell (by show ob<=ob;omega) _,vals ++ [.int .i64 e0, .int .i64 e1, .string e2, .slice e3 e4 e5],?_,?_⟩⟩
 ·have:=qD hbox' 3 (.slice (some ⟨gg,0,none⟩) (k + 1) cp)
  simpa using this
 ·refine zt (row:=some ob) h1 ⟨rfl,rfl,rfl,by simp [World.setCell],fun b hb hne=> ZC _ _ _ _ (fun e=> hne (by rw [e]))⟩ (fun b hb e=> ?_)
  have:gg=b:=by simpa [Value.ownBlock] using hb
  have:=ZJ e;omega
 ·exact ⟨hch'.1,fun i hi=> qz.keep xc (hch'.2 i hi) (fun b hb1 hb2 hb3=> ZC _ _ _ _ (by show b≠ob;omega)) (by simp [World.setCell]) (.inl rfl)⟩
theorem zjV (c:Chg) (op n:Int) (text:ByteArray) (kids:List Exp) (hop:op≠2) (hs:(Part.exp (.mk op n text kids)).shaped=true)
  (B:Nat) (u w:World) (c1 c2:List Value) (hu:zh B u w) (hBl:B<=w.heap.size) (h1:zao B u c1 c) (h2:zy B u c2 (.mk op n text kids))
  (ih:∀k,(h:k < kids.length)->∀(B:Nat) (u w:World) (c1 c2:List Value),zh B u w->B<=w.heap.size->zao B u c1 c->zy B u c2 kids[k]->
   Calls Tryz.prog 92 #[.agg c1.toArray, .agg c2.toArray] w fun e' w'=> ∃rs,e'= .returned (.agg rs.toArray)/\zy w'.heap.size (blank w.heap.size w') rs (expL c kids[k])/\Below w.heap.size w w'):
  Calls Tryz.prog 92 #[.agg c1.toArray, .agg c2.toArray] w fun e' w'=> ∃rs,e'= .returned (.agg rs.toArray)/\zy w'.heap.size (blank w.heap.size w') rs (expL c (.mk op n text kids))/\Below w.heap.size w w':=by
 have h60:kids.length<=60:=by
  simp only [Part.shaped,j8,Bool.or_eq_true,Bool.and_eq_true,beq_iff_eq,decide_eq_true_eq] at hs;omega
 unfold zy at h2;obtain ⟨htz,_,rfl,⟨a0,p0,rfl,l0,h0⟩⟩:=h2;have hch:=h1;obtain ⟨v1,v2,rfl,g1,g2⟩:=h1;obtain ⟨q0,r0,rfl,_⟩:=g1;obtain ⟨q1,r1,rfl,_⟩:=g2;obtain ⟨x1,hx1⟩:∃x,x=(c.map (·.1)).length:=⟨_,rfl⟩;obtain ⟨x2,hx2⟩:∃x,x=c.length:=⟨_,rfl⟩;rw [<-hx1,<-hx2] at hch;rw [<-hx1,<-hx2];clear hx1 hx2;obtain ⟨nn,hnn⟩:∃n,n=kids.length:=⟨_,rfl⟩;have HN:=ZH hnn;have hexp:expL c (.mk op n text kids)= .mk op n text (kids.map (fun k=> expL c k)):=by rw [expL,if_neg hop]
 rw [hexp];rw [<-hnn] at l0 h0 h60 ⊢;clear hexp hnn hs;obtain ⟨W1,hW1⟩:∃W1,W1=((w.alloc (.cells #[.slice q0 x1 r0, .slice q1 x2 r1] 111)).alloc (.cells #[.int .i64 op, .int .i64 n, .string text, .slice a0 nn p0] 36)).alloc (.cells #[.int .i64 0, .int .i64 0, .string ⟨#[]⟩, .slice none 0 0] 36):=⟨_,rfl⟩;have z1:W1.heap.size=w.heap.size + 3:=by rw [hW1];simp
 have b1:Below w.heap.size w W1:=by rw [hW1];exact ((ZQ w _).alloc (by simp) _).alloc (by simp;omega) _
 have k0:W1.heap[w.heap.size]?=some (.cells #[.slice q0 x1 r0, .slice q1 x2 r1] 111):=by
  rw [hW1,ZO _ _ _ (by simp;omega),ZO _ _ _ (by simp)];exact ZN w _
 have k1:W1.heap[w.heap.size + 1]?=some (.cells #[.int .i64 op, .int .i64 n, .string text, .slice a0 nn p0] 36):=by
  rw [hW1,ZO _ _ _ (by simp)];have:=ZN (w.alloc (.cells #[.slice q0 x1 r0, .slice q1 x2 r1] 111)) (.cells #[.int .i64 op, .int .i64 n, .string text, .slice a0 nn p0] 36);rwa [World.size_alloc] at this
 have k2:W1.heap[w.heap.size + 2]?=some (.cells #[.int .i64 0, .int .i64 0, .string ⟨#[]⟩, .slice none 0 0] 36):=by
  rw [hW1];have:=ZN ((w.alloc (.cells #[.slice q0 x1 r0, .slice q1 x2 r1] 111)).alloc (.cells #[.int .i64 op, .int .i64 n, .string text, .slice a0 nn p0] 36)) (.cells #[.int .i64 0, .int .i64 0, .string ⟨#[]⟩, .slice none 0 0] 36);rwa [World.size_alloc,World.size_alloc] at this
 obtain ⟨W2,hW2⟩:∃W2,W2=W1.alloc (.cells #[.int .i64 op, .int .i64 n, .string text, .slice none 0 0] 36):=⟨_,rfl⟩;obtain ⟨ob,hob⟩:∃ob,ob=w.heap.size + 3:=⟨_,rfl⟩;have z2:W2.heap.size=ob + 1:=by rw [hW2];simp;omega
 have b2:Below ob W1 W2:=by rw [hW2];exact (ZF _ W1).alloc (by omega) _
 have kb:W2.heap[ob]?=some (.cells #[.int .i64 op, .int .i64 n, .string text, .slice none 0 0] 36):=by
  rw [hW2,hob];have:=ZN W1 (.cells #[.int .i64 op, .int .i64 n, .string text, .slice none 0 0] 36);rwa [z1] at this
 have hst:zcm ob op n text W2 c kids 0 none 0 W2:=⟨kb,ZF _ _, [],ZR _ _ _ _,zq.nil _ _ _ _⟩
 have hrd:∀W,Below ob W2 W->W.cell? ⟨w.heap.size,0,none⟩=some (.slice q0 x1 r0)/\W.cell? ⟨w.heap.size,1,none⟩=some (.slice q1 x2 r1)/\W.cell? ⟨w.heap.size + 1,3,none⟩=some (.slice a0 nn p0)/\W.heap[w.heap.size + 2]?=some (.cells #[.int .i64 0, .int .i64 0, .string ⟨#[]⟩, .slice none 0 0] 36)/\zh B u W/\B<=W.heap.size/\Below w.heap.size w W:=fun W hW=> by
  have hb:=b2.trans (hW.mono (ZL _));have hq:∀b,b < ob->W.heap[b]?=W1.heap[b]?:=fun b hlt=> hb.block b hlt;have hbw:=b1.trans (hb.mono (by omega));exact ⟨by simp [World.cell?,hq w.heap.size (by omega),k0],by simp [World.cell?,hq w.heap.size (by omega),k0],by simp [World.cell?,hq (w.heap.size + 1) (by omega),k1],(hq (w.heap.size + 2) (by omega)).trans k2,hu.trans ((Below.keptC hbw).mono hBl),by have:=hbw.size;omega,hbw⟩
 have HWW:Hid (((((w.alloc (.cells #[.slice q0 x1 r0, .slice q1 x2 r1] 111)).alloc (.cells #[.int .i64 op, .int .i64 n, .string text, .slice a0 nn p0] 36)).alloc (.cells #[.int .i64 0, .int .i64 0, .string ⟨#[]⟩, .slice none 0 0] 36)).alloc (.cells #[.int .i64 op, .int .i64 n, .string text, .slice none 0 0] 36))=W2):=ZH (by rw [hW2,hW1]);have HRD:=ZH hrd;have HST:=ZH hst;have HOB:=ZH hob;have HZ2:=ZH z2;clear hW1 hW2 z1 z2 b1 b2 k0 k1 k2 kb hst hrd hob;have hop1:(op==2)=false:=by simpa using hop
 have hop2:decide (op=2)=false:=by simpa using hop
 go_enter Tryz.func92,Tryz.ntmps92;go_wp2;rw [HWW.out,show w.heap.size + 1 + 1 + 1=ob from HOB.out.symm]
 go_loopw [8] (fun i wr=> ∃(k:Nat) (a:Option Addr) (cap:Nat),k<=nn/\i= .int .i64 k/\Hid (zcm ob op n text W2 c kids k a cap wr)) (fun i _=> nn - (intOf i).toNat)
 case atStart=> exact ⟨0,none,0,by omega,rfl,HST⟩
 case round=>
  obtain ⟨k,a,cap,hk,rfl,hinv⟩:=hrel;obtain ⟨m0,m1,m2,m3,hku,hBr,hbw⟩:=HRD.out wr hinv.out.2.1;by_cases hlt:k < nn
  ·have hkl:k < kids.length:=by rw [<-HN.out];exact hlt
   rcases h0 with h0 | ⟨b0,o0,rfl,hB0,hc0⟩
   ·omega
   obtain ⟨d1,e1,f1⟩:=hc0.get kids b0 o0 k hkl;have ihk:=ih k hkl;have hstep:=fun w3 rs h3 hat'=> zcm.step hinv.out hkl (by rw [<-HN.out];exact h60) HZ2.out (w3:=w3) h3 rs hat';obtain ⟨ek,hek⟩:∃x,x=kids[k]:=⟨_,rfl⟩;rw [<-hek] at f1 ihk hstep;obtain ⟨g0,g1,g2,g3,g4,g5,rfl⟩:=qG f1;have hbx:=hinv.out.1;have hbr:=hinv.out.2.1;have hobs:ob < wr.heap.size:=by have:=hbr.size;have:=HZ2.out;omega
   have hS:∀W,Below wr.heap.size wr W->(W.cell? ⟨w.heap.size,0,none⟩=some (.slice q0 x1 r0)/\W.cell? ⟨w.heap.size,1,none⟩=some (.slice q1 x2 r1)/\W.cell? ⟨w.heap.size + 1,3,none⟩=some (.slice (some ⟨b0,o0,none⟩) nn p0)/\W.cell? ⟨ob,3,none⟩=some (.slice a k cap))/\
     W.cell? ⟨b0,o0 + k * 4,none⟩=some (.int .i64 g0)/\W.cell? ⟨b0,o0 + k * 4 + 1,none⟩=some (.int .i64 g1)/\W.cell? ⟨b0,o0 + k * 4 + 2,none⟩=some (.string g2)/\W.cell? ⟨b0,o0 + k * 4 + 3,none⟩=some (.slice g3 g4 g5):=fun W hW=> by
    have hb:=hbr.trans (hW.mono (by omega));obtain ⟨y0,y1,y2,_,hk',_,_⟩:=HRD.out W hb;exact ⟨⟨y0,y1,y2,by have:=(hW.block ob hobs).trans hbx;simp [World.cell?,this]⟩,jd (e1.keep hk' hB0)⟩
   have hcall:∀W,Below wr.heap.size wr W->Calls Tryz.prog 92 #[.agg #[.slice q0 x1 r0, .slice q1 x2 r1], .agg #[.int .i64 g0, .int .i64 g1, .string g2, .slice g3 g4 g5]] W fun e' w'=> ∃e0 e1 e2 e3 e4 e5 gg cp w5,e'= .returned (.agg #[.int .i64 e0, .int .i64 e1, .string e2, .slice e3 e4 e5])/\Hid (Below wr.heap.size wr w')/\
     (Builtin.append_ #[29,29] 29 #[.slice a k cap, .slice (some ⟨w'.heap.size,0,none⟩) 1 1]).run Tryz.prog (w'.alloc (.cells #[.int .i64 e0, .int .i64 e1, .string e2, .slice e3 e4 e5] 36))= .ok (.slice (some ⟨gg,0,none⟩) (k + 1) cp) w5/\
     w5.cell? ⟨ob,3,none⟩=some (.slice a k cap)/\w5.frozen? ⟨ob,3,none⟩=false/\Hid (zcm ob op n text W2 c kids (k + 1) (some ⟨gg,0,none⟩) cp (w5.setCell ⟨ob,3,none⟩ (.slice (some ⟨gg,0,none⟩) (k + 1) cp))):=fun W hW=> by
    have hb:=hbr.trans (hW.mono (by omega));obtain ⟨_,_,_,_,hk',hB',_⟩:=HRD.out W hb;refine (ihk B u W _ _ hk' hB' hch f1).mono ?_;rintro e' w' ⟨rs,rfl,hat',hb3⟩;have hb5:=hW.trans (hb3.mono hW.size);obtain ⟨e0,e1,e2,e3,e4,e5,gg,cp,w5,rfl,r1,r2,r3,r4⟩:=hstep w' rs hb5 (xc _ _ _ _ _ _ (qg hW.size fun b o v _ _ hv=> hv) (ZL _) hat');exact ⟨e0,e1,e2,e3,e4,e5,gg,cp,w5,rfl,ZH hb5,r1,r2,r3,r4⟩
   have hd:Below wr.heap.size wr wr.drew:=(ZF _ _).drew;have hc:=hcall wr.drew hd;obtain ⟨⟨s0,s1,s2,s3⟩,s4,s5,s6,s7⟩:=hS wr.drew hd;have HS:=ZH hS;clear hc0 f1 e1 hstep ihk hek hbx hbr hobs hS hcall hkl;go_wp2
   go_region_law (first
    | (revert hr;intro hr;refine zU rfl (.tmp 37) (.tmp 45) 29 29 rfl rfl rfl hr ?_)
    | (go_simp;go_wp2_with (go_at_call 92;refine hc.mono ?_;rintro e' w3 ⟨e0,e1,e2,e3,e4,e5,gg,cp,w5,rfl,hb3,hr,hw1,hw2,hfin⟩;obtain ⟨⟨t0,t1,t2,t3⟩,t4,t5,t6,t7⟩:=HS.out w3 hb3.out;obtain ⟨⟨t0',t1',t2',t3'⟩,t4',t5',t6',t7'⟩:=HS.out (w3.alloc (.cells #[.int .i64 e0, .int .i64 e1, .string e2, .slice e3 e4 e5] 36)) (hb3.out.alloc hb3.out.size _))))
   all_goals
    clear hr hw1 hw2 hc;go_wp2;go_roundw
    case rel=> exact ⟨k + 1,some ⟨gg,0,none⟩,cp,by omega,by go_num,hfin⟩
    case measure=> simp [intOf];omega
  ·obtain rfl:k=nn:=by omega
   have hbx:=hinv.out.1;have hbr:=hinv.out.2.1;obtain ⟨_,_,vals,hown,hch'⟩:=hinv.out;have hsz:wr.heap.size ≥ ob + 1:=by have:=hbr.size;have:=HZ2.out;omega
   have hres:∀W,W=((((wr.setCell ⟨w.heap.size + 1 + 1,0,none⟩ (.int .i64 op)).setCell ⟨w.heap.size + 1 + 1,1,none⟩ (.int .i64 n)).setCell ⟨w.heap.size + 1 + 1,2,none⟩ (.string text)).setCell ⟨w.heap.size + 1 + 1,3,none⟩ (.slice a k cap))->
     zy wr.heap.size (blank w.heap.size W) [.int .i64 op, .int .i64 n, .string text, .slice a k cap] (.mk op n text (kids.map (fun x=> expL c x)))/\Below w.heap.size w W:=by
    rintro W rfl;have hsz':=HOB.out;refine ⟨?_,set4 hbw (w.heap.size + 1 + 1) (by omega) _ _ _ _⟩;have hkn:(kids.map (fun x=> expL c x)).length=k:=by rw [List.length_map];exact HN.out.symm
    rw [show kids.take k=kids by rw [HN.out,List.take_length]] at hch';have hsl:=zgP (by rw [hkn];exact hown) hch';obtain ⟨a',cap',e',l',hsl'⟩:=hsl;rw [hkn] at e';refine ⟨htz, .slice a k cap,rfl,a',cap',by rw [hkn];exact e',l',?_⟩;rcases hsl' with h | ⟨b',o',h1,h2,h3⟩
    ·exact .inl h
    ·refine .inr ⟨b',o',h1,h2,zW.keep (qg (by omega) fun b o v ha hb hv=> ?_) (ZL _) _ _ _ h2 h3⟩
     refine (ZB (w:=wr) ?_).trans hv;rw [ZC _ _ _ _ (by simp;omega),ZC _ _ _ _ (by simp;omega),ZC _ _ _ _ (by simp;omega),ZC _ _ _ _ (by simp;omega)]
   have HRES:=ZH hres;obtain ⟨c0,c1,c2,c3,cf⟩:=ya.cells m3;obtain ⟨y0,y1,y2,y3⟩:wr.cell? ⟨ob,0,none⟩=some (.int .i64 op)/\wr.cell? ⟨ob,1,none⟩=some (.int .i64 n)/\wr.cell? ⟨ob,2,none⟩=some (.string text)/\wr.cell? ⟨ob,3,none⟩=some (.slice a k cap):=⟨by simp [World.cell?,hbx],by simp [World.cell?,hbx],by simp [World.cell?,hbx],by simp [World.cell?,hbx]⟩;clear hres hown hch' hbx hbr hbw hinv;go_wp2;simp [bodyPost,results,Tryz.results92,go_sem,c0,c1,c2,c3];exact HRES.out _ rfl
def FoundOk (c:Chg):Prop:=∀s x,yh c s=some x->NdP (fun q=> q.shaped=true) (.exp x)
theorem zf0 (c:Chg) (n:Int) (text:ByteArray)
  (B:Nat) (u w:World) (c1 c2:List Value) (hu:zh B u w) (hBl:B<=w.heap.size) (h1:zao B u c1 c) (h2:zy B u c2 (.mk 2 n text []))
  (ihc:∀x,yh c text=some x->∀(B:Nat) (u w:World) (c2:List Value),zh B u w->B<=w.heap.size->zy B u c2 x->
   Calls Tryz.prog 145 #[.agg c2.toArray] w fun e' w'=> ∃rs,e'= .returned (.agg rs.toArray)/\zy w'.heap.size (blank w.heap.size w') rs x/\Below w.heap.size w w'):
  Calls Tryz.prog 92 #[.agg c1.toArray, .agg c2.toArray] w fun e' w'=> ∃rs,e'= .returned (.agg rs.toArray)/\zy w'.heap.size (blank w.heap.size w') rs (expL c (.mk 2 n text []))/\Below w.heap.size w w':=by
 unfold zy at h2;obtain ⟨htz,_,rfl,⟨a0,p0,rfl,l0,h0⟩⟩:=h2;have hch:=h1;obtain ⟨v1,v2,rfl,g1,g2⟩:=h1;obtain ⟨q0,r0,rfl,_⟩:=g1;obtain ⟨q1,r1,rfl,_⟩:=g2;obtain ⟨x1,hx1⟩:∃x,x=(c.map (·.1)).length:=⟨_,rfl⟩;obtain ⟨x2,hx2⟩:∃x,x=c.length:=⟨_,rfl⟩;rw [<-hx1,<-hx2] at hch;rw [<-hx1,<-hx2];clear hx1 hx2
 have hexp:expL c (.mk 2 n text [])=(yh c text).getD (.mk 2 n text []):=by
  rw [expL,if_pos rfl];cases yh c text with
  | none=> rfl
  | some x=> rfl
 rw [hexp,List.length_nil];obtain ⟨W1,hW1⟩:∃W1,W1=((w.alloc (.cells #[.slice q0 x1 r0, .slice q1 x2 r1] 111)).alloc (.cells #[.int .i64 2, .int .i64 n, .string text, .slice a0 0 p0] 36)).alloc (.cells #[.int .i64 0, .int .i64 0, .string ⟨#[]⟩, .slice none 0 0] 36):=⟨_,rfl⟩;have z1:W1.heap.size=w.heap.size + 3:=by rw [hW1];simp
 have b1:Below w.heap.size w W1:=by rw [hW1];exact ((ZQ w _).alloc (by simp) _).alloc (by simp;omega) _
 have k1:W1.heap[w.heap.size + 1]?=some (.cells #[.int .i64 2, .int .i64 n, .string text, .slice a0 0 p0] 36):=by
  rw [hW1,ZO _ _ _ (by simp)];have:=ZN (w.alloc (.cells #[.slice q0 x1 r0, .slice q1 x2 r1] 111)) (.cells #[.int .i64 2, .int .i64 n, .string text, .slice a0 0 p0] 36);rwa [World.size_alloc] at this
 have k2:ya W1 (w.heap.size + 2):=by
  unfold ya;rw [hW1];have:=ZN ((w.alloc (.cells #[.slice q0 x1 r0, .slice q1 x2 r1] 111)).alloc (.cells #[.int .i64 2, .int .i64 n, .string text, .slice a0 0 p0] 36)) (.cells #[.int .i64 0, .int .i64 0, .string ⟨#[]⟩, .slice none 0 0] 36);rwa [World.size_alloc,World.size_alloc] at this
 have hf:=zg7 c B u W1 _ text (hu.trans ((Below.keptC b1).mono hBl)) (by omega) hch;have HW:=ZH hW1;go_enter Tryz.func92,Tryz.ntmps92;go_wp2_with fail;rw [<-HW.out];refine hf.mono ?_;clear hf;rintro e' w1 ⟨es,b,rfl,hfo,hb1⟩;cases hfd:yh c text with
 | some x=>
  rw [hfd] at hfo;obtain ⟨rfl,hx⟩:=hfo.out;obtain ⟨e0,e1,e2,e3,e4,e5,rfl⟩:=qG hx;have bW:=b1.trans (hb1.mono (by omega));obtain ⟨W2,hW2⟩:∃W2,W2=w1.alloc (.cells #[.int .i64 e0, .int .i64 e1, .string e2, .slice e3 e4 e5] 36):=⟨_,rfl⟩;have b2:Below w1.heap.size w1 W2:=by rw [hW2];exact ZQ w1 _
  have bW2:=bW.trans (b2.mono bW.size);have hcp:=ihc x hfd B u W2 _ (hu.trans ((Below.keptC bW2).mono hBl)) (by have:=bW2.size;omega) hx
  have m0:W2.cell? ⟨w1.heap.size,0,none⟩=some (.int .i64 e0)/\W2.cell? ⟨w1.heap.size,1,none⟩=some (.int .i64 e1)/\W2.cell? ⟨w1.heap.size,2,none⟩=some (.string e2)/\W2.cell? ⟨w1.heap.size,3,none⟩=some (.slice e3 e4 e5):=by
   rw [hW2];simp only [ZA _ _ _ _ rfl];exact ⟨rfl,rfl,rfl,rfl⟩
  obtain ⟨m0,m1,m2,m3⟩:=m0
  have hz2:∀W,Below W2.heap.size W2 W->ya W (w.heap.size + 2)/\Below w.heap.size w W:=fun W hW=> by
   have hb:=hb1.trans ((b2.trans (hW.mono b2.size)).mono hb1.size);exact ⟨(hb.block (w.heap.size + 2) (by omega)).trans k2,b1.trans (hb.mono (by omega))⟩
  have HZ:=ZH hz2;have HZW:Hid (W1.heap.size<=W2.heap.size):=ZH (Nat.le_trans hb1.size b2.size);have HW2:=ZH (And.intro hW2 bW2.size);have HZ1:=ZH z1;rw [HW2.out.1] at m0 m1 m2 m3;have HFD:=ZH hfd;clear hx hfo hfd hexp hW2 b2 bW hz2 k1 k2 hb1 hch z1 b1 hW1;have HBW:=ZH bW2;clear bW2;go_wp2_with fail;rw [<-HW2.out.1];refine hcp.mono ?_;clear hcp m0 m1 m2 m3;rintro e' w3 ⟨rs,rfl,hat,hb3⟩;obtain ⟨g0,g1,g2,g3,g4,g5,rfl⟩:=qG hat;obtain ⟨c0,c1,c2,c3,cf⟩:=ya.cells (HZ.out w3 hb3).1;have HAT:=ZH hat;clear hat;go_wp2;simp [bodyPost,results,Tryz.results92,go_sem,c0,c1,c2,c3];rw [HFD.out];have hzz:=HZ1.out;have hb1z:=HBW.out.size;have hA:w.heap.size + 3<=W2.heap.size:=by have:=HZW.out;omega
  refine ⟨zcg (n:=w.heap.size + 2) HAT.out (by omega) _ (fun b hb=> by rw [ZC _ _ _ _ (by simp;omega),ZC _ _ _ _ (by simp;omega),ZC _ _ _ _ (by simp;omega),ZC _ _ _ _ (by simp;omega)]) _ (by omega),set4 (HZ.out w3 hb3).2 (w.heap.size + 1 + 1) (by omega) _ _ _ _⟩
 | none=>
  rw [hfd] at hfo;obtain ⟨rfl,rfl⟩:=hfo.out;unfold zfu;obtain ⟨W2,hW2⟩:∃W2,W2=w1.alloc (.cells #[.int .i64 0, .int .i64 0, .string ⟨#[]⟩, .slice none 0 0] 36):=⟨_,rfl⟩;obtain ⟨W3,hW3⟩:∃W3,W3=W2.alloc (.cells #[.int .i64 2, .int .i64 n, .string text, .slice none 0 0] 36):=⟨_,rfl⟩;have s2:W2.heap.size=w1.heap.size + 1:=by rw [hW2];simp
  have b2:Below w1.heap.size w1 W2:=by rw [hW2];exact ZQ w1 _
  have b3:Below w1.heap.size w1 W3:=by rw [hW3];exact b2.alloc (by omega) _
  have hsz:=hb1.size
  have hq:∀W,Below w1.heap.size w1 W->W.heap[w.heap.size + 1]?=some (.cells #[.int .i64 2, .int .i64 n, .string text, .slice a0 0 p0] 36)/\ya W (w.heap.size + 2)/\Below w.heap.size w W:=fun W hW=> by
   have hb:=hb1.trans (hW.mono hb1.size);exact ⟨(hb.block (w.heap.size + 1) (by omega)).trans k1,(hb.block (w.heap.size + 2) (by omega)).trans k2,b1.trans (hb.mono (by omega))⟩
  have e2:=(hq W2 b2).1;have e3:=(hq W3 b3).1
  obtain ⟨x0,x1',x2',x3⟩:W2.cell? ⟨w.heap.size + 1,0,none⟩=some (.int .i64 2)/\W2.cell? ⟨w.heap.size + 1,1,none⟩=some (.int .i64 n)/\W2.cell? ⟨w.heap.size + 1,2,none⟩=some (.string text)/\W3.cell? ⟨w.heap.size + 1,3,none⟩=some (.slice a0 0 p0):=
   ⟨by simp [World.cell?,e2],by simp [World.cell?,e2],by simp [World.cell?,e2],by simp [World.cell?,e3]⟩
  obtain ⟨c0,c1,c2,c3,cf⟩:=ya.cells (hq W3 b3).2.1
  have m0:W3.cell? ⟨w1.heap.size + 1,0,none⟩=some (.int .i64 2)/\W3.cell? ⟨w1.heap.size + 1,1,none⟩=some (.int .i64 n)/\W3.cell? ⟨w1.heap.size + 1,2,none⟩=some (.string text)/\W3.cell? ⟨w1.heap.size + 1,3,none⟩=some (.slice none 0 0):=by
   rw [hW3];simp only [ZA _ _ _ _ s2.symm];exact ⟨rfl,rfl,rfl,rfl⟩
  obtain ⟨m0,m1,m2,m3⟩:=m0;have HBW:=ZH (hq W3 b3).2.2;have HFD:=ZH hfd;have HW2:=ZH (And.intro hW2 hW3);have HZ1:=ZH z1;have y0:=x0;have y1:=x1';have y2:=x2';rw [HW2.out.1] at y0 y1 y2;clear hfo hfd hexp hW2 hW3 b2 b3 hq k1 k2 hb1 hch z1 b1 hW1 e2 e3 s2 hsz;go_wp2;rw [<-HW2.out.1,<-HW2.out.2];clear y0 y1 y2 x0 x1' x2'
  go_loopw [8] (fun i wr=> i= .int .i64 0/\wr=W3) (fun _ _=> 0)
  case atStart=> exact ⟨rfl,rfl⟩
  case round=>
   obtain ⟨rfl,rfl⟩:=hrel;go_wp2;simp [bodyPost,results,Tryz.results92,go_sem,c0,c1,c2,c3];rw [HFD.out];exact ⟨⟨htz,_,rfl,none,0,rfl,by simp, .inl rfl⟩,set4 HBW.out (w.heap.size + 1 + 1) (by omega) _ _ _ _⟩
theorem zd4:∀(s:Nat) (e:Exp),(Part.exp e).size<=s->expL [] e=e
 | 0,e,h=> by have:=yD (.exp e);omega
 | s + 1, .mk op n t kids,h=> by
  have hf:(if op=2 then yh [] t else none)=none:=by split <;> rfl
  rw [expL,hf];show Exp.mk op n t (kids.map (fun k=> expL [] k))=Exp.mk op n t kids
  have:kids.map (fun k=> expL [] k)=kids.map id:=List.map_congr_left (fun k hk=> zd4 s k (by
   have:=qi (p:= .exp (.mk op n t kids)) (q:= .exp k) (by rw [Part.parts];exact List.mem_map.2 ⟨_,hk,rfl⟩);omega))
  rw [this,List.map_id]
def zbN (x:Exp):Prop:=∀(B:Nat) (u w:World) (c2:List Value),zh B u w->B<=w.heap.size->zy B u c2 x->
 Calls Tryz.prog 145 #[.agg c2.toArray] w fun e' w'=> ∃rs,e'= .returned (.agg rs.toArray)/\zy w'.heap.size (blank w.heap.size w') rs x/\Below w.heap.size w w'
theorem zd3 (c:Chg) (hcp:∀t x,yh c t=some x->zbN x):∀(s:Nat) (e:Exp),(Part.exp e).size<=s->NdP (fun q=> q.shaped=true) (.exp e)->∀(B:Nat) (u w:World) (c1 c2:List Value),zh B u w->B<=w.heap.size->zao B u c1 c->zy B u c2 e->
  Calls Tryz.prog 92 #[.agg c1.toArray, .agg c2.toArray] w fun e' w'=> ∃rs,e'= .returned (.agg rs.toArray)/\zy w'.heap.size (blank w.heap.size w') rs (expL c e)/\Below w.heap.size w w'
 | 0,e,h=> by have:=yD (.exp e);omega
 | s + 1, .mk op n t kids,h=> by
  intro hsh B u w c1 c2 hu hB h1 h2;by_cases hop:op=2
  ·obtain ⟨_,rfl,_⟩:=(za3 hsh.self).1 hop
   subst hop;exact zf0 c n t B u w c1 c2 hu hB h1 h2 (fun x hx=> hcp t x hx)
  ·refine zjV c op n t kids hop hsh.self B u w c1 c2 hu hB h1 h2 (fun k hk=> ?_)
   have hm:Part.exp kids[k]∈(Part.exp (.mk op n t kids)).parts:=by rw [Part.parts];exact List.mem_map.2 ⟨_,ZM hk,rfl⟩
   exact zd3 c hcp s kids[k] (by have:=qi hm;omega) (hsh.part hm)
theorem zgc (x:Exp) (hall:∀(B:Nat) (u w:World) (c1 c2:List Value),zh B u w->B<=w.heap.size->zao B u c1 []->zy B u c2 x->
  Calls Tryz.prog 92 #[.agg c1.toArray, .agg c2.toArray] w fun e' w'=> ∃rs,e'= .returned (.agg rs.toArray)/\zy w'.heap.size (blank w.heap.size w') rs x/\Below w.heap.size w w'):zbN x:=by
 intro B u w cs hu hBl hat;obtain ⟨o,n,t,a,k,cp,rfl⟩:=qG hat;obtain ⟨W1,hW1⟩:∃W1,W1=(w.alloc (.cells #[.int .i64 o, .int .i64 n, .string t, .slice a k cp] 36)).alloc (.cells #[.int .i64 0, .int .i64 0, .string ⟨#[]⟩, .slice none 0 0] 36):=⟨_,rfl⟩;have z1:W1.heap.size=w.heap.size + 2:=by rw [hW1];simp
 have b1:Below w.heap.size w W1:=by rw [hW1];exact (ZQ w _).alloc (by simp) _
 have k2:ya W1 (w.heap.size + 1):=by
  unfold ya;rw [hW1];have:=ZN (w.alloc (.cells #[.int .i64 o, .int .i64 n, .string t, .slice a k cp] 36)) (.cells #[.int .i64 0, .int .i64 0, .string ⟨#[]⟩, .slice none 0 0] 36);rwa [World.size_alloc] at this
 have hc:=hall B u W1 [.slice none 0 0, .slice none 0 0] _ (hu.trans ((Below.keptC b1).mono hBl)) (by omega) ⟨_,_,rfl,⟨none,0,rfl,by simp,by simp,by simp, .inl rfl⟩,⟨none,0,rfl,by simp, .inl rfl⟩⟩ hat;have HW:=ZH hW1;have HB:=ZH (And.intro b1 z1);clear hall hat hW1 b1 z1;go_enter Tryz.func145,Tryz.ntmps145;go_wp2_with fail;rw [<-HW.out];refine hc.mono ?_;clear hc;rintro e' w3 ⟨rs,rfl,hat,hb3⟩;obtain ⟨g0,g1,g2,g3,g4,g5,rfl⟩:=qG hat;have hz:=HB.out.2;obtain ⟨c0,c1,c2,c3,cf⟩:=ya.cells (show ya w3 (w.heap.size + 1) from (hb3.block (w.heap.size + 1) (by omega)).trans k2);have HAT:=ZH hat;have HB3:=ZH hb3;clear hat hb3 hz;go_wp2;simp [bodyPost,results,Tryz.results145,go_sem,c0,c1,c2,c3];have hz:=HB.out.2;have hs:=HB3.out.size;refine ⟨zcg (n:=w.heap.size + 1) HAT.out (by omega) _ (fun b hb=> by rw [ZC _ _ _ _ (by simp;omega),ZC _ _ _ _ (by simp;omega),ZC _ _ _ _ (by simp;omega),ZC _ _ _ _ (by simp;omega)]) _ (by omega),set4 (HB.out.1.trans (HB3.out.mono (by omega))) (w.heap.size + 1) (by omega) _ _ _ _⟩
theorem zi8 (x:Exp) (hsh:NdP (fun q=> q.shaped=true) (.exp x)):zbN x:=by
 have hall:=zd3 [] (fun t x h=> by cases h) (Part.exp x).size x (ZL _) hsh;rw [zd4 _ x (ZL _)] at hall;exact zgc x hall
theorem refE_any (c:Chg) (hc:FoundOk c) (e:Exp) (hsh:NdP (fun q=> q.shaped=true) (.exp e)) (B:Nat) (u w:World) (c1 c2:List Value) (hu:zh B u w) (hB:B<=w.heap.size) (h1:zao B u c1 c) (h2:zy B u c2 e):
  Calls Tryz.prog 92 #[.agg c1.toArray, .agg c2.toArray] w fun e' w'=> ∃rs,e'= .returned (.agg rs.toArray)/\zy w'.heap.size (blank w.heap.size w') rs (expL c e)/\Below w.heap.size w w':=
 zd3 c (fun t x h=> zi8 x (hc t x h)) _ e (ZL _) hsh B u w c1 c2 hu hB h1 h2
def eOp:Exp->Int
 | .mk o _ _ _=> o
def znC:Exp->ByteArray
 | .mk _ _ t _=> t
def xT (c:Chg) (s:ByteArray):ByteArray×Bool:=match yh c s with
 | none=> (s,true)
 | some x=> (znC x,decide (eOp x=2))
def xM (W:World) (wb:Nat) (mode:Int) (x:ByteArray) (fv tv:Value) (bad:Bool):Prop:=W.heap[wb]?=some (.cells #[.int .i64 mode, .string x,fv,tv, .bool bad] 106)


end
end Go.Proofs.YtjmlaeofjjhfmaaGreat
