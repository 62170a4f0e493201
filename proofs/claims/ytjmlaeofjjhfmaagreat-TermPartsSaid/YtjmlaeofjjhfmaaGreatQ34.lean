/- Lemmas. -/
import Derived.Test.YtjmlaeofjjhfmaaGreatQ33
import Derived.Test.YtjmlaeofjjhfmaaGreatQ25
set_option linter.unusedVariables false
set_option linter.unusedSimpArgs false
set_option maxRecDepth 10000
set_option maxHeartbeats 16000000
namespace Go.Proofs.YtjmlaeofjjhfmaaGreat
section
open Go.RowKit Go.Shelf Go.Maps
theorem zf0 (c:Chg) (n:Int) (text:ByteArray)
  (B:Nat) (u w:World) (c1 c2:List Value) (hu:zh B u w) (hBl:B<=w.heap.size) (h1:zao B u c1 c) (h2:zy B u c2 (.mk 2 n text []))
  (ihc:∀x,yh c text=some x->∀(B:Nat) (u w:World) (c2:List Value),zh B u w->B<=w.heap.size->zy B u c2 x->
   Calls Tryz.prog 145 #[.agg c2.toArray] w fun e' w'=> ∃rs,e'= .returned (.agg rs.toArray)/\zy w'.heap.size (blank w.heap.size w') rs x/\Below w.heap.size w w'):
  Calls Tryz.prog 92 #[.agg c1.toArray, .agg c2.toArray] w fun e' w'=> ∃rs,e'= .returned (.agg rs.toArray)/\zy w'.heap.size (blank w.heap.size w') rs (expL c (.mk 2 n text []))/\Below w.heap.size w w':=by
 unfold zy at h2;obtain ⟨htz,_,rfl,⟨a0,p0,rfl,l0,h0⟩⟩:=h2;have hch:=h1;obtain ⟨v1,v2,rfl,g1,g2⟩:=h1;obtain ⟨q0,r0,rfl,_⟩:=g1;obtain ⟨q1,r1,rfl,_⟩:=g2;obtain ⟨x1,hx1⟩:∃x,x=(c.map (·.1)).length:=⟨_,rfl⟩;obtain ⟨x2,hx2⟩:∃x,x=c.length:=⟨_,rfl⟩;rw [<-hx1,<-hx2] at hch;rw [<-hx1,<-hx2];clear hx1 hx2
 have hexp:expL c (.mk 2 n text [])=(yh c text).getD (.mk 2 n text []):=by
  rw [expL,if_pos rfl];cases yh c text with
  | none=> rfl
  | some x=> rfl
 rw [hexp,List.length_nil];obtain ⟨W1,hW1⟩:∃W1,W1=((w.alloc (.cells #[.slice q0 x1 r0, .slice q1 x2 r1] 111)).alloc (.cells #[.int .i64 2, .int .i64 n, .string text, .slice a0 0 p0] 36)).alloc (.cells #[.int .i64 0, .int .i64 0, .string ⟨#[]⟩, .slice none 0 0] 36):=⟨_,rfl⟩;have z1:W1.heap.size=w.heap.size + 3:=by rw [hW1];simp
 have b1:Below w.heap.size w W1:=by rw [hW1];exact ((ZQ w _).alloc (by simp) _).alloc (by simp;omega) _
 have k1:W1.heap[w.heap.size + 1]?=some (.cells #[.int .i64 2, .int .i64 n, .string text, .slice a0 0 p0] 36):=by
  rw [hW1,ZO _ _ _ (by simp)];have:=ZN (w.alloc (.cells #[.slice q0 x1 r0, .slice q1 x2 r1] 111)) (.cells #[.int .i64 2, .int .i64 n, .string text, .slice a0 0 p0] 36);rwa [World.size_alloc] at this
 have k2:ya W1 (w.heap.size + 2):=by
  unfold ya;rw [hW1];have:=ZN ((w.alloc (.cells #[.slice q0 x1 r0, .slice q1 x2 r1] 111)).alloc (.cells #[.int .i64 2, .int .i64 n, .string text, .slice a0 0 p0] 36)) (.cells #[.int .i64 0, .int .i64 0, .string ⟨#[]⟩, .slice none 0 0] 36);rwa [World.size_alloc,World.size_alloc] at this
 have hf:=zg7 c B u W1 _ text (hu.trans ((Below.keptC b1).mono hBl)) (by omega) hch;have HW:=ZH hW1;go_enter Tryz.func92,Tryz.ntmps92;go_wp2_with fail;rw [<-HW.out];refine hf.mono ?_;clear hf;rintro e' w1 ⟨es,b,rfl,hfo,hb1⟩;cases hfd:yh c text with
 | some x=>
  rw [hfd] at hfo;obtain ⟨rfl,hx⟩:=hfo.out;obtain ⟨e0,e1,e2,e3,e4,e5,rfl⟩:=qG hx;have bW:=b1.trans (hb1.mono (by omega));obtain ⟨W2,hW2⟩:∃W2,W2=w1.alloc (.cells #[.int .i64 e0, .int .i64 e1, .string e2, .slice e3 e4 e5] 36):=⟨_,rfl⟩;have b2:Below w1.heap.size w1 W2:=by rw [hW2];exact ZQ w1 _
  have bW2:=bW.trans (b2.mono bW.size);have hcp:=ihc x hfd B u W2 _ (hu.trans ((Below.keptC bW2).mono hBl)) (by have:=bW2.size;omega) hx
  have m0:W2.cell? ⟨w1.heap.size,0,none⟩=some (.int .i64 e0)/\W2.cell? ⟨w1.heap.size,1,none⟩=some (.int .i64 e1)/\W2.cell? ⟨w1.heap.size,2,none⟩=some (.string e2)/\W2.cell? ⟨w1.heap.size,3,none⟩=some (.slice e3 e4 e5):=by
   rw [hW2];simp only [ZA _ _ _ _ rfl];exact ⟨rfl,rfl,rfl,rfl⟩
  obtain ⟨m0,m1,m2,m3⟩:=m0
  have hz2:∀W,Below W2.heap.size W2 W->ya W (w.heap.size + 2)/\Below w.heap.size w W:=fun W hW=> by
   have hb:=hb1.trans ((b2.trans (hW.mono b2.size)).mono hb1.size);exact ⟨(hb.block (w.heap.size + 2) (by omega)).trans k2,b1.trans (hb.mono (by omega))⟩
  have HZ:=ZH hz2;have HZW:Hid (W1.heap.size<=W2.heap.size):=ZH (Nat.le_trans hb1.size b2.size);have HW2:=ZH (And.intro hW2 bW2.size);have HZ1:=ZH z1;rw [HW2.out.1] at m0 m1 m2 m3;have HFD:=ZH hfd;clear hx hfo hfd hexp hW2 b2 bW hz2 k1 k2 hb1 hch z1 b1 hW1;have HBW:=ZH bW2;clear bW2;go_wp2_with fail;rw [<-HW2.out.1];refine hcp.mono ?_;clear hcp m0 m1 m2 m3;rintro e' w3 ⟨rs,rfl,hat,hb3⟩;obtain ⟨g0,g1,g2,g3,g4,g5,rfl⟩:=qG hat;obtain ⟨c0,c1,c2,c3,cf⟩:=ya.cells (HZ.out w3 hb3).1;have HAT:=ZH hat;clear hat;go_wp2;simp [bodyPost,results,Tryz.results92,go_sem,c0,c1,c2,c3];rw [HFD.out];have hzz:=HZ1.out;have hb1z:=HBW.out.size;have hA:w.heap.size + 3<=W2.heap.size:=by have:=HZW.out;omega
  refine ⟨zcg (n:=w.heap.size + 2) HAT.out (by omega) _ (fun b hb=> by rw [ZC _ _ _ _ (by simp;omega),ZC _ _ _ _ (by simp;omega),ZC _ _ _ _ (by simp;omega),ZC _ _ _ _ (by simp;omega)]) _ (by omega),set4 (HZ.out w3 hb3).2 (w.heap.size + 1 + 1) (by omega) _ _ _ _⟩
 | none=>
  rw [hfd] at hfo;obtain ⟨rfl,rfl⟩:=hfo.out;unfold zfu;obtain ⟨W2,hW2⟩:∃W2,W2=w1.alloc (.cells #[.int .i64 0, .int .i64 0, .string ⟨#[]⟩, .slice none 0 0] 36):=⟨_,rfl⟩;obtain ⟨W3,hW3⟩:∃W3,W3=W2.alloc (.cells #[.int .i64 2, .int .i64 n, .string text, .slice none 0 0] 36):=⟨_,rfl⟩;have s2:W2.heap.size=w1.heap.size + 1:=by rw [hW2];simp
  have b2:Below w1.heap.size w1 W2:=by rw [hW2];exact ZQ w1 _
  have b3:Below w1.heap.size w1 W3:=by rw [hW3];exact b2.alloc (by omega) _
  have hsz:=hb1.size
  have hq:∀W,Below w1.heap.size w1 W->W.heap[w.heap.size + 1]?=some (.cells #[.int .i64 2, .int .i64 n, .string text, .slice a0 0 p0] 36)/\ya W (w.heap.size + 2)/\Below w.heap.size w W:=fun W hW=> by
   have hb:=hb1.trans (hW.mono hb1.size);exact ⟨(hb.block (w.heap.size + 1) (by omega)).trans k1,(hb.block (w.heap.size + 2) (by omega)).trans k2,b1.trans (hb.mono (by omega))⟩
  have e2:=(hq W2 b2).1;have e3:=(hq W3 b3).1
  obtain ⟨x0,x1',x2',x3⟩:W2.cell? ⟨w.heap.size + 1,0,none⟩=some (.int .i64 2)/\W2.cell? ⟨w.heap.size + 1,1,none⟩=some (.int .i64 n)/\W2.cell? ⟨w.heap.size + 1,2,none⟩=some (.string text)/\W3.cell? ⟨w.heap.size + 1,3,none⟩=some (.slice a0 0 p0):=
   ⟨by simp [World.cell?,e2],by simp [World.cell?,e2],by simp [World.cell?,e2],by simp [World.cell?,e3]⟩
  obtain ⟨c0,c1,c2,c3,cf⟩:=ya.cells (hq W3 b3).2.1
  have m0:W3.cell? ⟨w1.heap.size + 1,0,none⟩=some (.int .i64 2)/\W3.cell? ⟨w1.heap.size + 1,1,none⟩=some (.int .i64 n)/\W3.cell? ⟨w1.heap.size + 1,2,none⟩=some (.string text)/\W3.cell? ⟨w1.heap.size + 1,3,none⟩=some (.slice none 0 0):=by
   rw [hW3];simp only [ZA _ _ _ _ s2.symm];exact ⟨rfl,rfl,rfl,rfl⟩
  obtain ⟨m0,m1,m2,m3⟩:=m0;have HBW:=ZH (hq W3 b3).2.2;have HFD:=ZH hfd;have HW2:=ZH (And.intro hW2 hW3);have HZ1:=ZH z1;have y0:=x0;have y1:=x1';have y2:=x2';rw [HW2.out.1] at y0 y1 y2;clear hfo hfd hexp hW2 hW3 b2 b3 hq k1 k2 hb1 hch z1 b1 hW1 e2 e3 s2 hsz;go_wp2;rw [<-HW2.out.1,<-HW2.out.2];clear y0 y1 y2 x0 x1' x2'
  go_loopw [8] (fun i wr=> i= .int .i64 0/\wr=W3) (fun _ _=> 0)
  case atStart=> exact ⟨rfl,rfl⟩
  case round=>
   obtain ⟨rfl,rfl⟩:=hrel;go_wp2;simp [bodyPost,results,Tryz.results92,go_sem,c0,c1,c2,c3];rw [HFD.out];exact ⟨⟨htz,_,rfl,none,0,rfl,by simp, .inl rfl⟩,set4 HBW.out (w.heap.size + 1 + 1) (by omega) _ _ _ _⟩
theorem zd4:∀(s:Nat) (e:Exp),(Part.exp e).size<=s->expL [] e=e
 | 0,e,h=> by have:=yD (.exp e);omega
 | s + 1, .mk op n t kids,h=> by
  have hf:(if op=2 then yh [] t else none)=none:=by split <;> rfl
  rw [expL,hf];show Exp.mk op n t (kids.map (fun k=> expL [] k))=Exp.mk op n t kids
  have:kids.map (fun k=> expL [] k)=kids.map id:=List.map_congr_left (fun k hk=> zd4 s k (by
   have:=qi (p:= .exp (.mk op n t kids)) (q:= .exp k) (by rw [Part.parts];exact List.mem_map.2 ⟨_,hk,rfl⟩);omega))
  rw [this,List.map_id]
def zbN (x:Exp):Prop:=∀(B:Nat) (u w:World) (c2:List Value),zh B u w->B<=w.heap.size->zy B u c2 x->
 Calls Tryz.prog 145 #[.agg c2.toArray] w fun e' w'=> ∃rs,e'= .returned (.agg rs.toArray)/\zy w'.heap.size (blank w.heap.size w') rs x/\Below w.heap.size w w'
theorem zd3 (c:Chg) (hcp:∀t x,yh c t=some x->zbN x):∀(s:Nat) (e:Exp),(Part.exp e).size<=s->NdP (fun q=> q.shaped=true) (.exp e)->∀(B:Nat) (u w:World) (c1 c2:List Value),zh B u w->B<=w.heap.size->zao B u c1 c->zy B u c2 e->
  Calls Tryz.prog 92 #[.agg c1.toArray, .agg c2.toArray] w fun e' w'=> ∃rs,e'= .returned (.agg rs.toArray)/\zy w'.heap.size (blank w.heap.size w') rs (expL c e)/\Below w.heap.size w w'
 | 0,e,h=> by have:=yD (.exp e);omega
 | s + 1, .mk op n t kids,h=> by
  intro hsh B u w c1 c2 hu hB h1 h2;by_cases hop:op=2
  ·obtain ⟨_,rfl,_⟩:=(za3 hsh.self).1 hop
   subst hop;exact zf0 c n t B u w c1 c2 hu hB h1 h2 (fun x hx=> hcp t x hx)
  ·refine zjV c op n t kids hop hsh.self B u w c1 c2 hu hB h1 h2 (fun k hk=> ?_)
   have hm:Part.exp kids[k]∈(Part.exp (.mk op n t kids)).parts:=by rw [Part.parts];exact List.mem_map.2 ⟨_,ZM hk,rfl⟩
   exact zd3 c hcp s kids[k] (by have:=qi hm;omega) (hsh.part hm)
theorem zgc (x:Exp) (hall:∀(B:Nat) (u w:World) (c1 c2:List Value),zh B u w->B<=w.heap.size->zao B u c1 []->zy B u c2 x->
  Calls Tryz.prog 92 #[.agg c1.toArray, .agg c2.toArray] w fun e' w'=> ∃rs,e'= .returned (.agg rs.toArray)/\zy w'.heap.size (blank w.heap.size w') rs x/\Below w.heap.size w w'):zbN x:=by
 intro B u w cs hu hBl hat;obtain ⟨o,n,t,a,k,cp,rfl⟩:=qG hat;obtain ⟨W1,hW1⟩:∃W1,W1=(w.alloc (.cells #[.int .i64 o, .int .i64 n, .string t, .slice a k cp] 36)).alloc (.cells #[.int .i64 0, .int .i64 0, .string ⟨#[]⟩, .slice none 0 0] 36):=⟨_,rfl⟩;have z1:W1.heap.size=w.heap.size + 2:=by rw [hW1];simp
 have b1:Below w.heap.size w W1:=by rw [hW1];exact (ZQ w _).alloc (by simp) _
 have k2:ya W1 (w.heap.size + 1):=by
  unfold ya;rw [hW1];have:=ZN (w.alloc (.cells #[.int .i64 o, .int .i64 n, .string t, .slice a k cp] 36)) (.cells #[.int .i64 0, .int .i64 0, .string ⟨#[]⟩, .slice none 0 0] 36);rwa [World.size_alloc] at this
 have hc:=hall B u W1 [.slice none 0 0, .slice none 0 0] _ (hu.trans ((Below.keptC b1).mono hBl)) (by omega) ⟨_,_,rfl,⟨none,0,rfl,by simp,by simp,by simp, .inl rfl⟩,⟨none,0,rfl,by simp, .inl rfl⟩⟩ hat;have HW:=ZH hW1;have HB:=ZH (And.intro b1 z1);clear hall hat hW1 b1 z1;go_enter Tryz.func145,Tryz.ntmps145;go_wp2_with fail;rw [<-HW.out];refine hc.mono ?_;clear hc;rintro e' w3 ⟨rs,rfl,hat,hb3⟩;obtain ⟨g0,g1,g2,g3,g4,g5,rfl⟩:=qG hat;have hz:=HB.out.2;obtain ⟨c0,c1,c2,c3,cf⟩:=ya.cells (show ya w3 (w.heap.size + 1) from (hb3.block (w.heap.size + 1) (by omega)).trans k2);have HAT:=ZH hat;have HB3:=ZH hb3;clear hat hb3 hz;go_wp2;simp [bodyPost,results,Tryz.results145,go_sem,c0,c1,c2,c3];have hz:=HB.out.2;have hs:=HB3.out.size;refine ⟨zcg (n:=w.heap.size + 1) HAT.out (by omega) _ (fun b hb=> by rw [ZC _ _ _ _ (by simp;omega),ZC _ _ _ _ (by simp;omega),ZC _ _ _ _ (by simp;omega),ZC _ _ _ _ (by simp;omega)]) _ (by omega),set4 (HB.out.1.trans (HB3.out.mono (by omega))) (w.heap.size + 1) (by omega) _ _ _ _⟩
theorem zi8 (x:Exp) (hsh:NdP (fun q=> q.shaped=true) (.exp x)):zbN x:=by
 have hall:=zd3 [] (fun t x h=> by cases h) (Part.exp x).size x (ZL _) hsh;rw [zd4 _ x (ZL _)] at hall;exact zgc x hall
theorem zhx (s:ByteArray):zbN (yq s):=by
 refine zgc _ fun B u w c1 c2 hu hB h1 h2=> ?_;have:=zf0 [] 0 s B u w c1 c2 hu hB h1 h2 (fun x h=> by cases h);rw [zd4 _ _ (ZL _)] at this;exact this
def eOp:Exp->Int
 | .mk o _ _ _=> o
def znC:Exp->ByteArray
 | .mk _ _ t _=> t
def xT (c:Chg) (s:ByteArray):ByteArray×Bool:=match yh c s with
 | none=> (s,true)
 | some x=> (znC x,decide (eOp x=2))
theorem zlu (s:ByteArray) (w:World):Calls Tryz.prog 169 #[.string s] w fun e w'=> e= .returned (.agg (nmV s).toArray)/\Below w.heap.size w w':=by
 have hb:Below w.heap.size w (w.alloc (.cells #[.int .i64 2, .int .i64 0, .string s, .slice none 0 0] 36)):=ZQ w _;go_enter Tryz.func169,Tryz.ntmps169;go_wp2;simp [bodyPost,results,Tryz.results169,go_sem];exact hb
theorem zlP (c:Chg) (B:Nat) (u w:World) (cs:List Value) (s:ByteArray) (hu:zh B u w) (hBl:B<=w.heap.size) (hc:zao B u cs c):
  Calls Tryz.prog 168 #[.agg cs.toArray, .string s] w fun e w'=> e= .returned (.tuple #[.string (xT c s).1, .bool (xT c s).2])/\Below w.heap.size w w':=by
 have hch:=hc;obtain ⟨v1,v2,rfl,g1,g2⟩:=hc;obtain ⟨q0,r0,rfl,_⟩:=g1;obtain ⟨q1,r1,rfl,_⟩:=g2;obtain ⟨x1,hx1⟩:∃x,x=(c.map (·.1)).length:=⟨_,rfl⟩;obtain ⟨x2,hx2⟩:∃x,x=c.length:=⟨_,rfl⟩;rw [<-hx1,<-hx2] at hch;rw [<-hx1,<-hx2];clear hx1 hx2;obtain ⟨W1,hW1⟩:∃W1,W1=w.alloc (.cells #[.slice q0 x1 r0, .slice q1 x2 r1] 111):=⟨_,rfl⟩;have b1:Below w.heap.size w W1:=by rw [hW1];exact ZQ w _
 have hf:=zg7 c B u W1 _ s (hu.trans ((Below.keptC b1).mono hBl)) (by have:=b1.size;omega) hch;have HW:=ZH (And.intro hW1 b1);obtain ⟨⟨tt,bb⟩,htb⟩:∃tb,tb=xT c s:=⟨_,rfl⟩;rw [<-htb];clear hch hW1 b1;go_enter Tryz.func168,Tryz.ntmps168;go_wp2_with fail;rw [<-HW.out.1];refine hf.mono ?_;clear hf;rintro e' w1 ⟨es,b,rfl,hfo,hb1⟩;have hbw:=HW.out.2.trans (hb1.mono HW.out.2.size);cases hfd:yh c s with
 | none=>
  rw [hfd] at hfo;obtain ⟨rfl,rfl⟩:=hfo.out;have ht:xT c s=(s,true):=by unfold xT;rw [hfd]
  unfold zfu;rw [ht] at htb;obtain ⟨rfl,rfl⟩:=Prod.mk.inj htb;clear htb;have hbA:Below w.heap.size w (w1.alloc (.cells #[.int .i64 0, .int .i64 0, .string ⟨#[]⟩, .slice none 0 0] 36)):=hbw.alloc hbw.size _;clear hfo hfd ht hb1 hbw;go_wp2;go_ret2;exact ⟨rfl,hbA⟩
 | some x=>
  rw [hfd] at hfo;obtain ⟨rfl,hx⟩:=hfo.out;obtain ⟨o,n,t,k⟩:=x;obtain ⟨_,vv,rfl,a,cp,rfl,_⟩:=hx;have ht:xT c s=(t,decide (o=2)):=by unfold xT;rw [hfd];rfl
  rw [ht] at htb;obtain ⟨rfl,rfl⟩:=Prod.mk.inj htb;clear htb;obtain ⟨W2,hW2⟩:∃W2,W2=w1.alloc (.cells #[.int .i64 o, .int .i64 n, .string tt, .slice a k.length cp] 36):=⟨_,rfl⟩;have hbA:Below w.heap.size w W2:=by rw [hW2];exact hbw.alloc hbw.size _
  have m:W2.drew.cell? ⟨w1.heap.size,0,none⟩=some (.int .i64 o)/\W2.drew.cell? ⟨w1.heap.size,2,none⟩=some (.string tt):=by
   show W2.cell? _=_/\W2.cell? _=_;rw [hW2];simp only [ZA _ _ _ _ rfl];exact ⟨rfl,rfl⟩
  obtain ⟨m0,m1⟩:=m;have HW2:=ZH (And.intro hW2 hbA.drew);rw [hW2] at m0 m1;clear hfo hfd ht hb1 hbw hbA hW2;go_wp2
  go_region
  all_goals
   go_wp2;go_ret2;refine ⟨?_,by have:=HW2.out.2;rw [HW2.out.1] at this;exact this⟩;first | rfl | (by_cases h:o=2 <;> simp [h])
def zaS (c:Chg) (s:ByteArray):ByteArray×Bool:=if s.size=0 then (s,true) else xT c s
def xM (W:World) (wb:Nat) (mode:Int) (x:ByteArray) (fv tv:Value) (bad:Bool):Prop:=W.heap[wb]?=some (.cells #[.int .i64 mode, .string x,fv,tv, .bool bad] 106)
theorem zkL (c:Chg) (B:Nat) (u w:World) (cs:List Value) (s:ByteArray) (wb:Nat) (mode:Int) (x:ByteArray) (fv tv:Value) (bad:Bool) (hu:zh B u w) (hBl:B<=w.heap.size) (hc:zao B u cs c)
  (hw:xM w wb mode x fv tv bad):
  Calls Tryz.prog 131 #[.pointer (some ⟨wb,0,none⟩), .agg cs.toArray, .string s] w fun e w'=> e= .returned (.string (zaS c s).1)/\xM w' wb mode x fv tv (bad || !(zaS c s).2)/\w.grownBy w' (some wb):=by
 have hch:=hc;obtain ⟨v1,v2,rfl,g1,g2⟩:=hc;obtain ⟨q0,r0,rfl,_⟩:=g1;obtain ⟨q1,r1,rfl,_⟩:=g2;obtain ⟨x1,hx1⟩:∃x,x=(c.map (·.1)).length:=⟨_,rfl⟩;obtain ⟨x2,hx2⟩:∃x,x=c.length:=⟨_,rfl⟩;rw [<-hx1,<-hx2] at hch;rw [<-hx1,<-hx2];clear hx1 hx2;have hwz:wb < w.heap.size:=(ZG hw).1;obtain ⟨W1,hW1⟩:∃W1,W1=w.alloc (.cells #[.slice q0 x1 r0, .slice q1 x2 r1] 111):=⟨_,rfl⟩;have b1:Below w.heap.size w W1:=by rw [hW1];exact ZQ w _
 by_cases h0:s.size=0
 ·have e:zaS c s=(s,true):=by unfold zaS;rw [if_pos h0]
  rw [e];obtain rfl:=xd h0;have hw1:xM W1 wb mode x fv tv bad:=(b1.block wb hwz).trans hw;have hg1:=zk (qx w (some wb)) (zj b1) (fun r h=> by cases h);have HH:=ZH (And.intro hw1 hg1);have HW:=ZH hW1;clear hw1 hg1 b1 hW1 e hw h0 hch;go_enter Tryz.func131,Tryz.ntmps131;go_wp2;go_ret;rw [<-HW.out];exact ⟨rfl,by simpa using HH.out.1,HH.out.2⟩
 ·have e:zaS c s=xT c s:=by unfold zaS;rw [if_neg h0]
  rw [e];have hf:=zlP c B u W1 _ s (hu.trans ((Below.keptC b1).mono hBl)) (by have:=b1.size;omega) hch;obtain ⟨⟨tt,bb⟩,htb⟩:∃tb,tb=xT c s:=⟨_,rfl⟩;rw [<-htb] at hf ⊢
  have hs1:(s.toList== [])=false:=by
   cases he:(s.toList==([]:List UInt8)) with
   | false=> rfl
   | true=>
    exfalso;rw [ByteArray.toList_eq,beq_iff_eq] at he;have:s=⟨#[]⟩:=ByteArray.ext (by simpa using he);exact h0 (by rw [this];rfl)
  have HW:=ZH (And.intro hW1 b1);clear hch hW1 b1 htb e;go_enter Tryz.func131,Tryz.ntmps131;go_wp2_with fail;rw [<-HW.out.1];refine hf.mono ?_;clear hf;rintro e' w1 ⟨rfl,hb1⟩;have hbw:=HW.out.2.trans (hb1.mono HW.out.2.size);have hbx:=(hbw.block wb hwz).trans hw;have m4:w1.cell? ⟨wb,4,none⟩=some (.bool bad):=by simp [World.cell?,hbx]
  have mf:w1.frozen? ⟨wb,4,none⟩=false:=by simp [World.frozen?,hbx]
  have hfin:∀v:Bool,xM (w1.setCell ⟨wb,4,none⟩ (.bool v)) wb mode x fv tv v/\w.grownBy (w1.setCell ⟨wb,4,none⟩ (.bool v)) (some wb):=fun v=> by
   refine ⟨?_,?_⟩
   ·have:=qD hbx 4 (.bool v)
    unfold xM;simpa using this
   ·exact zk (zk (qx w (some wb)) (zj hbw) (fun r h=> by cases h)) (row:=some wb) ⟨rfl,rfl,rfl,by simp [World.setCell],fun b hb hne=> ZC _ _ _ _ (fun e=> hne (by rw [e]))⟩ (fun r h=> .inr h)
  have HF:=ZH hfin;clear hfin hbx hbw hw;cases bad <;> cases bb
  all_goals
   go_wp2;go_ret;exact ⟨rfl,(HF.out _).1,(HF.out _).2⟩
theorem ziu (w:World) (v1 v2:Value) (wb:Nat) (mode:Int) (x:ByteArray) (fv tv:Value) (bad:Bool) (hm:mode≠1) (hw:xM w wb mode x fv tv bad):
  Calls Tryz.prog 134 #[.pointer (some ⟨wb,0,none⟩), .agg #[v1,v2]] w fun e w'=> e= .returned (.bool false)/\Below w.heap.size w w':=by
 have hwz:wb < w.heap.size:=(ZG hw).1;obtain ⟨W1,hW1⟩:∃W1,W1=w.alloc (.cells #[v1,v2] 111):=⟨_,rfl⟩;have b1:Below w.heap.size w W1.drew:=by rw [hW1];exact (ZQ w _).drew
 have m0:W1.drew.cell? ⟨wb,0,none⟩=some (.int .i64 mode):=by have:=(b1.block wb hwz).trans hw;simp [World.cell?,this]
 have hm1:decide (mode=1)=false:=by simpa using hm
 have hm2:(mode==1)=false:=by simpa using hm
 rw [hW1] at m0 b1;have HB:=ZH b1;clear b1 hW1 hw;go_enter Tryz.func134,Tryz.ntmps134;go_wp2
 go_region
 all_goals
  go_wp2;go_ret;exact ⟨rfl,HB.out⟩
theorem zgb (l:List ByteArray) (w:World) (v1:Value) (wb:Nat) (mode:Int) (x:ByteArray) (fv tv:Value) (bad is:Bool) (hm1:mode≠1) (hm2:mode≠2) (hw:xM w wb mode x fv tv bad)
  (hl:zx w.heap.size w v1 l) (hll:l.length<=100000):
  Calls Tryz.prog 133 #[.pointer (some ⟨wb,0,none⟩),v1, .bool is] w fun e w'=> ∃v,e= .returned v/\yE w' v l/\Below w.heap.size w w':=by
 have hwz:wb < w.heap.size:=(ZG hw).1;obtain ⟨a0,p0,rfl,l0,z0,q0,h0⟩:=hl;obtain ⟨nn,hnn⟩:∃n,n=l.length:=⟨_,rfl⟩;have HN:=ZH hnn;have h0':nn=0∨∃b off,a0=some ⟨b,off,none⟩/\b < w.heap.size/\zbw w b off l:=by rcases h0 with h | h;exact .inl (by rw [hnn,h];rfl);exact .inr h
 clear h0;rw [<-hnn] at l0 hll ⊢;clear hnn;have hd1:decide (mode=1)=false:=by simpa using hm1
 have hd2:decide (mode=2)=false:=by simpa using hm2
 have hd3:(mode==1)=false:=by simpa using hm1
 have hd4:(mode==2)=false:=by simpa using hm2
 go_enter Tryz.func133,Tryz.ntmps133;go_wp2
 go_loopw [7,8] (fun v i wr=> ∃(k:Nat),k<=nn/\i= .int .i64 k/\Hid (Below w.heap.size w wr/\wr.ownsRow w.heap.size 9 1 v (l.take k).length (zn (l.take k)))) (fun _ i _=> nn - (intOf i).toNat)
 case atStart=> exact ⟨0,by omega,rfl,ZH ⟨ZF _ _,ZR _ _ _ _⟩⟩
 case round=>
  obtain ⟨k,hk,rfl,hinv⟩:=hrel;by_cases hlt:k < nn
  ·have hkl:k < l.length:=by rw [<-HN.out];exact hlt
   rcases h0' with h0 | ⟨b0,o0,rfl,hB0,hc0⟩
   ·omega
   obtain ⟨hb,hown⟩:=hinv.out;have x0:wr.cell? ⟨b0,o0 + k,none⟩=some (.string l[k]):=(hb.cell (p:=⟨b0,o0 + k,none⟩) hB0).trans (hc0 k hkl);have m0:wr.cell? ⟨wb,0,none⟩=some (.int .i64 mode):=by have:=(hb.block wb hwz).trans hw;simp [World.cell?,this]
   have hsz:(l[k]).size<=maxLen:=z0 _ (ZM hkl);have htk:=ZT hkl;have hlen:(l.take k).length=k:=by rw [List.length_take];omega
   obtain ⟨s,hs⟩:∃s,s=l[k]:=⟨_,rfl⟩;rw [<-hs] at x0 hsz htk;obtain ⟨W2,hW2⟩:∃W2,W2=wr.alloc (.cells #[.string s] 9):=⟨_,rfl⟩;have b2:Below wr.heap.size wr W2:=by rw [hW2];exact ZQ wr _
   have s2:W2.heap.size=wr.heap.size + 1:=by rw [hW2];simp
   have hown2:=zt hown (zj b2) (fun _ _ e=> by cases e)
   have hv2:zx W2.heap.size W2 (.slice (some ⟨wr.heap.size,0,none⟩) 1 1) [s]:=⟨_,_,rfl,by simp,by simpa using hsz,by simp, .inr ⟨wr.heap.size,0,rfl,by omega,fun j hj=> by
    have:j=0:=by simp at hj;omega
    subst this;rw [hW2,ZA _ _ _ _ rfl];rfl⟩⟩
   obtain ⟨v',w',hr,ho',hz',hg⟩:=yQ (w:=W2) 22 hown2 hv2 (by have:=hb.size;omega) (by omega) (by simp) (fun t ht=> z0 t (List.mem_of_mem_take ht))
   have hfin:Below w.heap.size w w'/\w'.ownsRow w.heap.size 9 1 v' (l.take (k + 1)).length (zn (l.take (k + 1))):=by
    rw [htk];exact ⟨(hb.trans (b2.mono hb.size)).grown hg (by have:=hb.size;omega) (fun r e=> (hown2.lt r e).1),ho'⟩
   have HF:=ZH hfin;rw [hW2] at hr;clear hc0 hown hown2 hv2 ho' hz' hg hfin hb b2 s2 hW2 hinv htk hs hkl hlen hsz z0 hw;go_wp2_with (show wpList _ _ _ (⟨some 61,_,_,_,_,_⟩::_) _ _;refine qe rfl (.tmp 58) (.tmp 60) 22 22 rfl rfl rfl hr ?_);go_roundw
   case rel=> exact ⟨k + 1,by omega,by go_num,HF⟩
   case measure=> simp [intOf];omega
  ·obtain rfl:k=nn:=by omega
   have hfin:∀v,wr.ownsRow w.heap.size 9 1 v (l.take k).length (zn (l.take k))->yE wr v l:=fun v h=> by
    rw [show l.take k=l by rw [HN.out,List.take_length]] at h;exact ⟨xN h (Nat.zero_le _),z0⟩
   have HF:=ZH (And.intro hinv.out.1 (hfin _ hinv.out.2));clear hfin hinv;go_wp2;go_ret;exact ⟨_,rfl,HF.out.2,HF.out.1⟩
theorem zq.cons {X:Type} {At:Nat->World->List Value->X->Prop} {n B:Nat} {w:World} {vs cs:List Value} {l:List X} {x:X} (hc:At B w cs x) (hn:cs.length=n) (h:zq At n B w vs l):zq At n B w (cs ++ vs) (x::l):=by
 refine ⟨by simp [h.1,hn,Nat.add_mul,Nat.add_comm],fun i hi=> ?_⟩;cases i with
 | zero=>
  rw [Nat.zero_mul,List.drop_zero,<-hn,List.take_left];exact hc
 | succ i=>
  have e:(cs ++ vs).drop ((i + 1) * n)=vs.drop (i * n):=by
   rw [show (i + 1) * n=cs.length + i * n by rw [hn,Nat.add_mul];omega,<-List.drop_drop,List.drop_left]
  rw [e];exact h.2 i (by simpa using hi)
theorem zfD {B:Nat} {w:World}:∀(es:List Exp) (b off:Nat),zW B w b off es->∃vals:List Value,zq (fun _ w1 cs x=> zy B w1 cs x) 4 0 w vals es/\(∀u∈vals,u.oneCell'=true)/\zI w b off vals
 | [],b,off,_=> ⟨[],zq.nil _ _ _ _,(by simp),fun j hj=> by simp at hj⟩
 | e::es,b,off,h=> by
  obtain ⟨⟨cs,hcell,hat⟩,hr⟩:=h;obtain ⟨vals,h1,h2,h3⟩:=zfD es b (off + 4) hr;obtain ⟨o,n,t,a,k,c,rfl⟩:=qG hat;refine ⟨_ ++ vals,zq.cons (At:=fun _ w1 cs x=> zy B w1 cs x) hat rfl h1,fun u hu=> ?_,fun j hj=> ?_⟩
  ·rcases List.mem_append.1 hu with hu | hu
   ·revert hu;simp only [List.mem_cons,List.not_mem_nil,or_false]
    rintro (rfl | rfl | rfl | rfl) <;> rfl
   ·exact h2 u hu
  ·by_cases hj4:j < 4
   ·have:=hcell j (by simpa using hj4)
    rw [this,List.getElem_append_left (by simpa using hj4)]
   ·have hl:j - 4 < vals.length:=by simp at hj;omega
    have:=h3 (j - 4) hl;rw [show off + j=off + 4 + (j - 4) by omega,this,List.getElem_append_right (by simp;omega)]
    rfl


def IdC (c:Chg):Prop:=∀y∈c,y.2=yq y.1
theorem IdC.nil:IdC []:=fun _ h=> by cases h
theorem IdC.find:∀{c:Chg} (_:IdC c) {s:ByteArray} {x:Exp},yh c s=some x->x=yq s
 | [],_,s,x,hf=> by cases hf
 | (n,e)::l,h,s,x,hf=> by
  rw [yh] at hf;cases hl:yh l s with
  | some z=>
   rw [hl] at hf;cases hf;exact IdC.find (fun y hy=> h y (List.mem_cons_of_mem _ hy)) hl
  | none=>
   rw [hl] at hf;dsimp only at hf
   split at hf
   ·rename_i hb
    cases hf;have:=h (n,e) (List.mem_cons_self ..);rw [show (n,e).2=e from rfl,show (n,e).1=n from rfl] at this;rw [this,zjS (zas hb)]
   ·cases hf
theorem IdC.text {c:Chg} (h:IdC c) (s:ByteArray):xT c s=(s,true):=by
 unfold xT;cases hf:yh c s with
 | none=> rfl
 | some x=> rw [h.find hf];rfl
theorem IdC.wtext {c:Chg} (h:IdC c) (s:ByteArray):zaS c s=(s,true):=by
 unfold zaS
 split
 ·rfl
 ·exact h.text s
theorem IdC.exp {c:Chg} (hc:IdC c):∀(s:Nat) (e:Exp),(Part.exp e).size<=s->NdP (fun q=> q.shaped=true) (.exp e)->expL c e=e
 | 0,e,h,_=> by have:=yD (.exp e);omega
 | s + 1, .mk op n t kids,h,hs=> by
  rw [expL];by_cases hop:op=2
  ·obtain ⟨rfl,rfl,_⟩:=(za3 hs.self).1 hop
   subst hop;rw [if_pos rfl];cases hf:yh c t with
   | none=> rfl
   | some x=> rw [hc.find hf];rfl
  ·rw [if_neg hop]
   show Exp.mk op n t (kids.map (fun k=> expL c k))=Exp.mk op n t kids
   have:kids.map (fun k=> expL c k)=kids.map id:=List.map_congr_left (fun k hk=> by
    have hm:Part.exp k∈(Part.exp (.mk op n t kids)).parts:=by rw [Part.parts];exact List.mem_map.2 ⟨_,hk,rfl⟩
    exact IdC.exp hc s k (by have:=qi hm;omega) (hs.part hm))
   rw [this,List.map_id]
def zaD (c:Chg) (l:List ByteArray):Chg:=c ++ l.map (fun s=> (s,yq s))
theorem IdC.plus {c:Chg} (h:IdC c) (l:List ByteArray):IdC (zaD c l):=by
 intro y hy;rcases List.mem_append.1 hy with hy | hy
 ·exact h y hy
 ·obtain ⟨s,_,rfl⟩:=List.mem_map.1 hy;rfl
theorem zmw (c:Chg) (hc:IdC c) (e:Exp) (hsh:NdP (fun q=> q.shaped=true) (.exp e)) (B:Nat) (u w:World) (c1 c2:List Value) (hu:zh B u w) (hB:B<=w.heap.size) (h1:zao B u c1 c) (h2:zy B u c2 e):
  Calls Tryz.prog 92 #[.agg c1.toArray, .agg c2.toArray] w fun e' w'=> ∃rs,e'= .returned (.agg rs.toArray)/\zy w'.heap.size (blank w.heap.size w') rs e/\Below w.heap.size w w':=by
 have:=zd3 c (fun t x h=> by rw [hc.find h];exact zhx t) _ e (ZL _) hsh B u w c1 c2 hu hB h1 h2;rw [hc.exp _ e (ZL _) hsh] at this;exact this
theorem zd8 (c:Chg) (hid:IdC c) (B:Nat) (u w:World) (cs:List Value) (s:ByteArray) (wb:Nat) (mode:Int) (x:ByteArray) (fv tv:Value) (hu:zh B u w) (hBl:B<=w.heap.size) (hc:zao B u cs c)
  (hw:xM w wb mode x fv tv false):
  Calls Tryz.prog 131 #[.pointer (some ⟨wb,0,none⟩), .agg cs.toArray, .string s] w fun e w'=> e= .returned (.string s)/\Below w.heap.size w w':=by
 have:=zkL c B u w cs s wb mode x fv tv false hu hBl hc hw;rw [hid.wtext s] at this;refine this.mono ?_;rintro e w' ⟨rfl,h1,h2⟩;refine ⟨rfl,h2.os,h2.tape,h2.output,h2.size,fun b hb=> ?_⟩;by_cases e:b=wb
 ·subst e
  rw [show xM w' b mode x fv tv (false || !(s,true).2)=(w'.heap[b]?=some (.cells #[.int .i64 mode, .string x,fv,tv, .bool false] 106)) from rfl] at h1;exact h1.trans hw.symm
 ·exact h2.block b hb (fun h=> e (ZJ h))
structure zcj (t e:TypeId) (n y:Nat) (z:Value):Prop where
 under:Tryz.prog.underlying t=some (.slice e)
 info:(Tryz.prog.info? e).map (fun i=> (i.zero,i.size,i.bytes))=some (some z,n,y)
 zero:z.cells.size=n
 pos:0 < n
 small:y<=96
theorem zhc:zcj 29 36 4 56 (.agg #[.int .i64 0, .int .i64 0, .string ⟨#[]⟩, .slice none 0 0]):=⟨Tryz.underlying29,zeV,rfl,by decide,by decide⟩
theorem zmE:zcj 30 130 5 96 (.agg #[.int .i64 0, .string ⟨#[]⟩, .slice none 0 0, .slice none 0 0, .slice none 0 0]):=⟨Tryz.underlying30,zfr,rfl,by decide,by decide⟩
theorem zng:zcj 31 33 5 96 (.agg #[.int .i64 0, .string ⟨#[]⟩, .slice none 0 0, .slice none 0 0, .slice none 0 0]):=⟨Tryz.underlying31,zcZ,rfl,by decide,by decide⟩
theorem zmp:zcj 128 144 2 40 (.agg #[.string ⟨#[]⟩, .slice none 0 0]):=⟨Tryz.underlying128,zfq,rfl,by decide,by decide⟩
structure zaI (ob fi:Nat) (box:Value->Obj):Prop where
 put:∀(W:World) (v v':Value),W.heap[ob]?=some (box v)->(W.setCell ⟨ob,fi,none⟩ v').heap[ob]?=some (box v')
 get:∀(W:World) (v:Value),W.heap[ob]?=some (box v)->W.cell? ⟨ob,fi,none⟩=some v/\W.frozen? ⟨ob,fi,none⟩=false
def zN {X:Type} (At:Nat->World->List Value->X->Prop) (e:TypeId) (n ob:Nat) (box:Value->Obj) (W2:World) (ys:List X) (k:Nat) (a:Option Addr) (cap:Nat) (wr:World):Prop:=
 ys.length=k/\wr.heap[ob]?=some (box (.slice a k cap))/\W2.grownBy wr (some ob)/\
  ∃vals,wr.ownsRow W2.heap.size e n (.slice a k cap) k vals/\zq (fun _ w1 cs x=> qz At W2.heap.size (Value.slice a k cap).ownBlock w1 cs x) n 0 wr vals ys
theorem zN.start {X:Type} {At:Nat->World->List Value->X->Prop} {e:TypeId} {n ob:Nat} {box:Value->Obj} {W2:World} (h:W2.heap[ob]?=some (box (.slice none 0 0))):zN At e n ob box W2 [] 0 none 0 W2:=
 ⟨rfl,h,qx _ _, [],ZR _ _ _ _,zq.nil _ _ _ _⟩
theorem zN.step {X:Type} {At:Nat->World->List Value->X->Prop} (hAt:zad At) {t e:TypeId} {n y ob fi:Nat} {z:Value} (hE:zcj t e n y z) {box:Value->Obj} (hB:zaI ob fi box) {W2:World} {ys:List X} {k:Nat} {a:Option Addr} {cap:Nat} {wr w3:World}
  (h:zN At e n ob box W2 ys k a cap wr) (hk:k<=1000) (hob:ob < W2.heap.size) (hb3:Below wr.heap.size wr w3) (rs:List Value) (hrl:rs.length=n) (h1c:∀u∈rs,u.oneCell'=true) (x:X) (hat':At w3.heap.size (blank wr.heap.size w3) rs x):
  ∃gg cp w',(Builtin.append_ #[t,t] t #[.slice a k cap, .slice (some ⟨w3.heap.size,0,none⟩) 1 1]).run Tryz.prog (w3.alloc (.cells rs.toArray e))= .ok (.slice (some ⟨gg,0,none⟩) (k + 1) cp) w'/\
   w'.cell? ⟨ob,fi,none⟩=some (.slice a k cap)/\w'.frozen? ⟨ob,fi,none⟩=false/\Hid (zN At e n ob box W2 (ys ++ [x]) (k + 1) (some ⟨gg,0,none⟩) cp (w'.setCell ⟨ob,fi,none⟩ (.slice (some ⟨gg,0,none⟩) (k + 1) cp))):=by
 obtain ⟨hyl,hbox,hbw,vals,hown,hch⟩:=h;obtain ⟨i0,hi,hz0,hz1,hz2⟩:=info_parts hE.info;obtain ⟨W4,hW4⟩:∃W4,W4=w3.alloc (.cells rs.toArray e):=⟨_,rfl⟩;have hs3:=hb3.size;have hsr:=hbw.size;have hb4:Below wr.heap.size wr W4:=by rw [hW4];exact hb3.alloc hs3 _
 have hg4:=zj hb4;have hoA:=zt hown hg4 (fun b hb e=> by cases e);have hn:=hE.pos
 have hby:(k + 1) * y<=140737488355328:=by
  have:=Nat.mul_le_mul (show k + 1<=1001 by omega) hE.small;omega
 obtain ⟨v',w',hr,h1,h2,h3,h4⟩:=run_append_own_at (P:=Tryz.prog) W4 W2.heap.size t t e i0 z n y hE.under hi hz0 hz1 hz2 hE.zero hn _ k vals hoA
  ⟨w3.heap.size,0,none⟩ 1 1 rs (by rw [hrl,Nat.one_mul]) (by
   intro j u hj;have e:(⟨w3.heap.size,0,none⟩:Addr).add j=⟨w3.heap.size,j,none⟩:=by unfold Addr.add;by_cases h:j=0 <;> simp [h]
   rw [e,hW4,ZA _ _ _ _ rfl];simpa using hj) h1c (by unfold maxLen;omega) hby (by have:=hb4.size;omega)
 have hs4:W4.heap.size=w3.heap.size + 1:=by rw [hW4];simp
 have hlo:=hown.lt;have hs2:=h2.size;have hrow:∀r,(Value.slice a k cap).ownBlock=some r->W2.heap.size<=r:=fun r hr=> (hlo r hr).1
 have hbox':w'.heap[ob]?=some (box (.slice a k cap)):=
  (h2.block ob (by omega) (fun e=> by have:=hrow ob e.symm;omega)).trans ((hb4.block ob (by omega)).trans hbox)
 have hch':zq (fun _ w1 cs x=> qz At W2.heap.size v'.ownBlock w1 cs x) n 0 w' (vals ++ rs) (ys ++ [x]):=by
  have hch1:zq (fun _ w1 cs x=> qz At W2.heap.size v'.ownBlock w1 cs x) n 0 w' vals ys:=⟨hch.1,fun i hi=> qz.keep hAt (hch.2 i hi) (fun b hb1 hb2 hb3=>
   (h2.block b (by omega) (fun e=> hb3 e.symm)).trans (hg4.block b hb2 (fun e=> by cases e))) (by omega) (by
    rcases h4 with h4 | h4
    ·exact .inl h4
    ·exact .inr ⟨_,h4,by omega⟩)⟩
  refine zq.snoc hch1 ?_ hrl;refine ⟨wr.heap.size,w3.heap.size,by omega,by omega,fun g hg=> ?_,?_⟩
  ·rcases h4 with h4 | h4
   ·rw [h4] at hg;have:=(hlo g hg).2;omega
   ·rw [h4] at hg;have:=ZJ hg;omega
  ·refine hAt _ _ _ _ _ _ (qg (ZL _) fun b o v ha hb hv=> ?_) (ZL _) hat'
   have e1:W4.cell? ⟨b,o,none⟩=some v:=by rw [hW4,ZP _ _ _ hb];exact hv
   refine (ZB (w:=W4) (h2.block b (by omega) (fun e=> ?_))).trans e1;have:=(hlo b e.symm).2;omega
 have hbw':W2.grownBy w' (some ob):=zk (zk hbw hg4 (fun r e=> by cases e)) h2 (fun r e=> .inl (hrow r e));obtain ⟨_,⟨_,h0⟩ | ⟨gg,cp,cur,hvf,hgA,_⟩⟩:=id h1
 ·omega
 subst hvf;rw [hW4] at hr;obtain ⟨g1,g2⟩:=hB.get _ _ hbox';refine ⟨gg,cp,w',hr,g1,g2,ZH ⟨by rw [List.length_append,hyl];rfl,hB.put _ _ _ hbox',zk hbw' (row:=some ob) ⟨rfl,rfl,rfl,by simp [World.setCell],fun b hb hne=> ZC _ _ _ _ (fun e=> hne (by rw [e]))⟩ (fun r h=> .inr h),vals ++ rs,?_,?_⟩⟩
 ·refine zt (row:=some ob) h1 ⟨rfl,rfl,rfl,by simp [World.setCell],fun b hb hne=> ZC _ _ _ _ (fun e=> hne (by rw [e]))⟩ (fun b hb e=> ?_)
  have:gg=b:=by simpa [Value.ownBlock] using hb
  have:=ZJ e;omega
 ·exact ⟨hch'.1,fun i hi=> qz.keep hAt (hch'.2 i hi) (fun b hb1 hb2 hb3=> ZC _ _ _ _ (by show b≠ob;omega)) (by simp [World.setCell]) (.inl rfl)⟩
end
end Go.Proofs.YtjmlaeofjjhfmaaGreat
