/- Lemmas. -/
import Derived.Test.YtjmlaeofjjhfmaaGreatS42
import Derived.Test.YtjmlaeofjjhfmaaGreatS41
import Derived.Test.YtjmlaeofjjhfmaaGreatS37
import Derived.Test.YtjmlaeofjjhfmaaGreatS34
set_option linter.unusedVariables false
set_option linter.unusedSimpArgs false
set_option maxRecDepth 10000
set_option maxHeartbeats 16000000
namespace Go.Proofs.YtjmlaeofjjhfmaaGreat
section
open Go.RowKit Go.Shelf Go.Maps Go.WideMaps
theorem put_blank (B:Nat) (u:World) (t:Term) (x:ByteArray) (e:Exp) (hf:zT (.proc t)) (hfe:zT (.exp e)) (hx:qn x=true) (hxz:x.size<=maxLen) (hpl:xr e=true) (cs es:List Value) (hat:ze B u cs t) (hae:zy B u es e)
  (w:World) (hu:zh B u w) (hB:B<=w.heap.size)
  (R:Option (Term×Used)) (hR:R=yl ⟨.putting x e, [jp]⟩ (xy t x e) t) (hok:∀y,R=some y->zT (.proc y.1)) (kc:Nat) (hcov:Cov (xy t x e) kc) (hkc:kc + bcT t<=4900):
  Calls Tryz.prog 33 #[.agg cs.toArray, .string x, .agg es.toArray] w fun e' w'=> ∃cs',e'= .returned (.tuple #[.agg cs'.toArray, .int .i64 (if R.isSome then 0 else 7)])/\cs'.length=5/\(∀y,R=some y->ze w'.heap.size (blank w.heap.size w') cs' y.1)/\Below w.heap.size w w':=by
 obtain ⟨o0,tx,s0,m0,k0,s1,m1,k1,s2,m2,k2,rfl⟩:=zz hat;obtain ⟨e0,e1,e2,e3,e4,e5,rfl⟩:=qG hae;obtain ⟨W0,hW0⟩:∃W0,W0=((((w.alloc (.cells #[.int .i64 o0, .string tx, .slice s0 m0 k0, .slice s1 m1 k1, .slice s2 m2 k2] 33)).alloc (.cells #[.string x] 9)).alloc (.cells #[.int .i64 e0, .int .i64 e1, .string e2, .slice e3 e4 e5] 36)).alloc (.cells #[.int .i64 0, .string ⟨#[]⟩, .slice none 0 0, .slice none 0 0, .slice none 0 0] 33)):=⟨_,rfl⟩;have hb0:Below w.heap.size w W0:=by rw [hW0];exact (((ZQ w _).alloc (by simp) _).alloc (by simp;omega) _).alloc (by simp;omega) _
 have hz:W0.heap.size=w.heap.size + 4:=by rw [hW0];simp
 have h0:W0.heap[w.heap.size]?=some (.cells #[.int .i64 o0, .string tx, .slice s0 m0 k0, .slice s1 m1 k1, .slice s2 m2 k2] 33):=by
  rw [hW0,ZO _ _ _ (by simp <;> omega),ZO _ _ _ (by simp <;> omega),ZO _ _ _ (by simp)];exact ZN w _
 have h1:W0.heap[w.heap.size + 1]?=some (.cells #[.string x] 9):=by
  rw [hW0,ZO _ _ _ (by simp <;> omega),ZO _ _ _ (by simp)];have:=ZN (w.alloc (.cells #[.int .i64 o0, .string tx, .slice s0 m0 k0, .slice s1 m1 k1, .slice s2 m2 k2] 33)) (.cells #[.string x] 9);rwa [World.size_alloc] at this
 have h2:W0.heap[w.heap.size + 2]?=some (.cells #[.int .i64 e0, .int .i64 e1, .string e2, .slice e3 e4 e5] 36):=by
  rw [hW0,ZO _ _ _ (by simp)];have:=ZN ((w.alloc (.cells #[.int .i64 o0, .string tx, .slice s0 m0 k0, .slice s1 m1 k1, .slice s2 m2 k2] 33)).alloc (.cells #[.string x] 9)) (.cells #[.int .i64 e0, .int .i64 e1, .string e2, .slice e3 e4 e5] 36);rwa [World.size_alloc,World.size_alloc] at this
 have h3:qr W0 (w.heap.size + 3):=by
  unfold qr;rw [hW0];have:=ZN (((w.alloc (.cells #[.int .i64 o0, .string tx, .slice s0 m0 k0, .slice s1 m1 k1, .slice s2 m2 k2] 33)).alloc (.cells #[.string x] 9)).alloc (.cells #[.int .i64 e0, .int .i64 e1, .string e2, .slice e3 e4 e5] 36)) (.cells #[.int .i64 0, .string ⟨#[]⟩, .slice none 0 0, .slice none 0 0, .slice none 0 0] 33);rwa [World.size_alloc,World.size_alloc,World.size_alloc] at this
 obtain ⟨WC,hWC⟩:∃WC,WC=(W0.alloc (.cells #[.int .i64 0, .string ⟨#[]⟩, .slice none 0 0, .slice none 0 0, .slice none 0 0] 33)).alloc (.cells #[.int .i64 0] 37):=⟨_,rfl⟩;have hbC:Below W0.heap.size W0 WC:=by rw [hWC];exact (ZQ W0 _).alloc (by simp) _
 have hzC:WC.heap.size=W0.heap.size + 2:=by rw [hWC];simp
 have hbwC:=hb0.trans (hbC.mono (by omega))
 have hw:=zlJ B u t x e hf hfe hx hxz hpl _ _ hat hae WC (hu.trans ((Below.keptC hbwC).mono hB)) (by omega) w.heap.size (w.heap.size + 1) (w.heap.size + 2)
  (fun j hj=> by
   have q:=(hbC.block w.heap.size (by omega)).trans h0
   match j,hj with
   | 0,_=> simp [World.cell?,q]
   | 1,_=> simp [World.cell?,q]
   | 2,_=> simp [World.cell?,q]
   | 3,_=> simp [World.cell?,q]
   | 4,_=> simp [World.cell?,q])
  (by have q:=(hbC.block (w.heap.size + 1) (by omega)).trans h1;simp [World.cell?,q])
  (fun j hj=> by
   have q:=(hbC.block (w.heap.size + 2) (by omega)).trans h2
   match j,hj with
   | 0,_=> simp [World.cell?,q]
   | 1,_=> simp [World.cell?,q]
   | 2,_=> simp [World.cell?,q]
   | 3,_=> simp [World.cell?,q]) R hR hok kc hcov hkc
 have hmf:∀(fn:Fn) (first cap:Array Value) (w:World),(Instr.makeFunc fn first cap).run Tryz.prog w= .ok (.func fn first cap) w:=fun _ _ _ _=> rfl;have e83:∀args w,(callFunc 83 args).run Tryz.prog w= .ok (.enter 83 args) w:=enters_of Tryz.func83 (by kernel_rfl) rfl;have HW:=ZH hW0;have HZ:=ZH hz;have HZC:=ZH hzC;clear hR hok hcov hkc h0 h1 h2 hat hae hf hfe;cases R with
 | none=>
  have ha:=za5 83 #[.pointer (some ⟨w.heap.size,0,none⟩), .pointer (some ⟨w.heap.size + 1,0,none⟩), .pointer (some ⟨w.heap.size + 2,0,none⟩)] 7 W0 e83 (by
   rw [<-hWC,<-hzC];refine hw.mono ?_;rintro e' w' ⟨h1,h2⟩;exact ⟨h1,h2⟩)
  clear hw hWC hW0 hz hzC;go_enter Tryz.func33,Tryz.ntmps33;go_wp2_with (go_at_call 82;rw [<-HW.out];refine ha.mono ?_;clear ha;rintro e' w1 ⟨rfl,hb1⟩;obtain ⟨x0,x1,x2,x3,x4,xf⟩:=qr.cells ((hb1.block (w.heap.size + 3) (by have:=HZ.out;omega)).trans h3));simp [bodyPost,results,Tryz.results33,go_sem,x0,x1,x2,x3,x4];exact set5 (hb0.trans (hb1.mono (by have:=HZ.out;omega))) (w.heap.size + 3) (by omega) _ _ _ _ _
 | some y=>
  have ha:=zbc 83 #[.pointer (some ⟨w.heap.size,0,none⟩), .pointer (some ⟨w.heap.size + 1,0,none⟩), .pointer (some ⟨w.heap.size + 2,0,none⟩)] W0 (fun X w'=> ze w'.heap.size (blank WC.heap.size w') [.int .i64 X.op, .string X.t, .slice X.a0 X.n0 X.c0, .slice X.a1 X.n1 X.c1, .slice X.a2 X.n2 X.c2] y.1) e83 (by
   rw [<-hWC,<-hzC];refine hw.mono ?_;rintro e' w' ⟨cs',rfl,h1,h2⟩;obtain ⟨a1,a2,a3,a4,a5,a6,a7,a8,a9,a10,a11,rfl⟩:=zz h1;exact ⟨⟨a1,a2,a3,a4,a5,a6,a7,a8,a9,a10,a11⟩,rfl,h1,h2⟩)
  clear hw hW0;have HC:=ZH hWC;clear hWC hz hzC;go_enter Tryz.func33,Tryz.ntmps33;go_wp2_with (go_at_call 82;rw [<-HW.out];refine ha.mono ?_;clear ha;rintro e' w2 ⟨⟨a1,a2,a3,a4,a5,a6,a7,a8,a9,a10,a11⟩,w1,rfl,hR1,hsz,hblk,hb1⟩;obtain ⟨x0,x1,x2,x3,x4,xf⟩:=qr.cells ((hb1.block (w.heap.size + 3) (by have:=HZ.out;omega)).trans h3);have HS:=ZH hsz;clear hsz);simp [bodyPost,results,Tryz.results33,go_sem,x0,x1,x2,x3,x4];have hz:=HZ.out;have hzC:=HZC.out;refine ⟨?_,set5 (hb0.trans (hb1.mono (by omega))) (w.heap.size + 3) (by omega) _ _ _ _ _⟩;have hL:qj (w.heap.size + 6) w1 w2:=⟨by rw [HS.out];exact ZL _,fun b hb _=> hblk b (by omega)⟩;have hL5:=xo hL (w.heap.size + 3) (by omega) (.int .i64 a1) (.string a2) (.slice a3 a4 a5) (.slice a6 a7 a8) (.slice a9 a10 a11);rw [<-HS.out];simpa [World.setCell] using ze.keep (hL5.kept (A0:=WC.heap.size) (A':=w.heap.size) (B:=w1.heap.size) (by omega) (by omega) (ZL _)) (ZL _) _ _ hR1
theorem nilT_any {B B':Nat} {w w':World} {cs:List Value} (h:ze B w cs nilT):ze B' w' cs nilT:=by
 unfold nilT ze at h ⊢;obtain ⟨h1,va,vd,vk,h2,⟨a0,c0,rfl,l0,-⟩,⟨a1,c1,rfl,l1,-⟩,⟨a2,c2,rfl,l2,-⟩⟩:=h;exact ⟨h1,_,_,_,h2,⟨a0,c0,rfl,l0, .inl rfl⟩,⟨a1,c1,rfl,l1, .inl rfl⟩,⟨a2,c2,rfl,l2, .inl rfl⟩⟩
theorem put_outB (t:Term) (x:ByteArray) (e:Exp) (hxz:x.size<=maxLen) (B:Nat) (u w:World) (cs es:List Value) (hu:zh B u w) (hB:B<=w.heap.size) (hat:ze B u cs t) (hae:zy B u es e):
  Calls Tryz.prog 33 #[.agg cs.toArray, .string x, .agg es.toArray] w fun e' w'=> ∃(p0:Int) (ux:ByteArray) (r0:Option Addr) (l0 q0:Nat) (r1:Option Addr) (l1 q1:Nat) (r2:Option Addr) (l2 q2:Nat),e'= .returned (.tuple #[.agg #[.int .i64 p0, .string ux, .slice r0 l0 q0, .slice r1 l1 q1, .slice r2 l2 q2], .int .i64 (putCode t x e)])/\Hid (ze w'.heap.size (blank w.heap.size w') [.int .i64 p0, .string ux, .slice r0 l0 q0, .slice r1 l1 q1, .slice r2 l2 q2] (putL t x e))/\Below w.heap.size w w':=by
 by_cases hc:putCode t x e=0
 ·obtain ⟨hf,hx,hfe,hfy,U,hy⟩:=put_good hc
  have hcov:=cov_used t x e hf.1 (xg hf) hfe.1;have hbc:=zed t 0 (xg hf);have hz:(qL 0 t).length<=60:=hf.1;refine (put_blank B u t x e hf hfe hx hxz (zni e (xg hfe)).2 cs es hat hae w hu hB (some (putL t x e,U)) hy.symm (fun z hz=> by cases hz;exact hfy) 1000 hcov (by omega)).mono ?_;rintro e' w' ⟨cs',rfl,-,h3,h4⟩;have h3:=h3 _ rfl;obtain ⟨p0,ux,r0,l0,q0,r1,l1,q1,r2,l2,q2,rfl⟩:=zz h3;rw [hc];exact ⟨p0,ux,r0,l0,q0,r1,l1,q1,r2,l2,q2,rfl,ZH h3,h4⟩
 ·refine (put_out t x e hxz B u w cs es hu hB hat hae).mono ?_
  rintro e' w' ⟨p0,ux,r0,l0,q0,r1,l1,q1,r2,l2,q2,rfl,h,hb⟩;have hp:putL t x e=nilT:=by unfold putL;rw [if_neg hc]
  rw [hp] at h ⊢;exact ⟨p0,ux,r0,l0,q0,r1,l1,q1,r2,l2,q2,rfl,ZH (nilT_any h.out),hb⟩
end
section
open Go.RowKit Go.Shelf Go.Maps

def IdC (c:Chg):Prop:=∀y∈c,y.2=yq y.1
theorem IdC.nil:IdC []:=fun _ h=> by cases h
theorem IdC.find:∀{c:Chg} (_:IdC c) {s:ByteArray} {x:Exp},yh c s=some x->x=yq s
 | [],_,s,x,hf=> by cases hf
 | (n,e)::l,h,s,x,hf=> by
  rw [yh] at hf;cases hl:yh l s with
  | some z=>
   rw [hl] at hf;cases hf;exact IdC.find (fun y hy=> h y (List.mem_cons_of_mem _ hy)) hl
  | none=>
   rw [hl] at hf;dsimp only at hf
   split at hf
   ·rename_i hb
    cases hf;have:=h (n,e) (List.mem_cons_self ..);rw [show (n,e).2=e from rfl,show (n,e).1=n from rfl] at this;rw [this,zjS (zas hb)]
   ·cases hf
theorem IdC.text {c:Chg} (h:IdC c) (s:ByteArray):xT c s=(s,true):=by
 unfold xT;cases hf:yh c s with
 | none=> rfl
 | some x=> rw [h.find hf];rfl
theorem IdC.exp {c:Chg} (hc:IdC c):∀(s:Nat) (e:Exp),(Part.exp e).size<=s->NdP (fun q=> q.shaped=true) (.exp e)->expL c e=e
 | 0,e,h,_=> by have:=yD (.exp e);omega
 | s + 1, .mk op n t kids,h,hs=> by
  rw [expL];by_cases hop:op=2
  ·obtain ⟨rfl,rfl,_⟩:=(za3 hs.self).1 hop
   subst hop;rw [if_pos rfl];cases hf:yh c t with
   | none=> rfl
   | some x=> rw [hc.find hf];rfl
  ·rw [if_neg hop]
   show Exp.mk op n t (kids.map (fun k=> expL c k))=Exp.mk op n t kids
   have:kids.map (fun k=> expL c k)=kids.map id:=List.map_congr_left (fun k hk=> by
    have hm:Part.exp k∈(Part.exp (.mk op n t kids)).parts:=by rw [Part.parts];exact List.mem_map.2 ⟨_,hk,rfl⟩
    exact IdC.exp hc s k (by have:=qi hm;omega) (hs.part hm))
   rw [this,List.map_id]
def zaD (c:Chg) (l:List ByteArray):Chg:=c ++ l.map (fun s=> (s,yq s))
theorem IdC.plus {c:Chg} (h:IdC c) (l:List ByteArray):IdC (zaD c l):=by
 intro y hy;rcases List.mem_append.1 hy with hy | hy
 ·exact h y hy
 ·obtain ⟨s,_,rfl⟩:=List.mem_map.1 hy;rfl
structure zcj (t e:TypeId) (n y:Nat) (z:Value):Prop where
 under:Tryz.prog.underlying t=some (.slice e)
 info:(Tryz.prog.info? e).map (fun i=> (i.zero,i.size,i.bytes))=some (some z,n,y)
 zero:z.cells.size=n
 pos:0 < n
 small:y<=96
theorem zhc:zcj 29 36 4 56 (.agg #[.int .i64 0, .int .i64 0, .string ⟨#[]⟩, .slice none 0 0]):=⟨Tryz.underlying29,zeV,rfl,by decide,by decide⟩
structure zaI (ob fi:Nat) (box:Value->Obj):Prop where
 put:∀(W:World) (v v':Value),W.heap[ob]?=some (box v)->(W.setCell ⟨ob,fi,none⟩ v').heap[ob]?=some (box v')
 get:∀(W:World) (v:Value),W.heap[ob]?=some (box v)->W.cell? ⟨ob,fi,none⟩=some v/\W.frozen? ⟨ob,fi,none⟩=false
def zN {X:Type} (At:Nat->World->List Value->X->Prop) (e:TypeId) (n ob:Nat) (box:Value->Obj) (W2:World) (ys:List X) (k:Nat) (a:Option Addr) (cap:Nat) (wr:World):Prop:=
 ys.length=k/\wr.heap[ob]?=some (box (.slice a k cap))/\W2.grownBy wr (some ob)/\
  ∃vals,wr.ownsRow W2.heap.size e n (.slice a k cap) k vals/\zq (fun _ w1 cs x=> qz At W2.heap.size (Value.slice a k cap).ownBlock w1 cs x) n 0 wr vals ys
theorem zN.start {X:Type} {At:Nat->World->List Value->X->Prop} {e:TypeId} {n ob:Nat} {box:Value->Obj} {W2:World} (h:W2.heap[ob]?=some (box (.slice none 0 0))):zN At e n ob box W2 [] 0 none 0 W2:=
 ⟨rfl,h,qx _ _, [],ZR _ _ _ _,zq.nil _ _ _ _⟩
theorem zN.step {X:Type} {At:Nat->World->List Value->X->Prop} (hAt:zad At) {t e:TypeId} {n y ob fi:Nat} {z:Value} (hE:zcj t e n y z) {box:Value->Obj} (hB:zaI ob fi box) {W2:World} {ys:List X} {k:Nat} {a:Option Addr} {cap:Nat} {wr w3:World}
  (h:zN At e n ob box W2 ys k a cap wr) (hk:k<=1000) (hob:ob < W2.heap.size) (hb3:Below wr.heap.size wr w3) (rs:List Value) (hrl:rs.length=n) (h1c:∀u∈rs,u.oneCell'=true) (x:X) (hat':At w3.heap.size (blank wr.heap.size w3) rs x):
  ∃gg cp w',(Builtin.append_ #[t,t] t #[.slice a k cap, .slice (some ⟨w3.heap.size,0,none⟩) 1 1]).run Tryz.prog (w3.alloc (.cells rs.toArray e))= .ok (.slice (some ⟨gg,0,none⟩) (k + 1) cp) w'/\
   w'.cell? ⟨ob,fi,none⟩=some (.slice a k cap)/\w'.frozen? ⟨ob,fi,none⟩=false/\Hid (zN At e n ob box W2 (ys ++ [x]) (k + 1) (some ⟨gg,0,none⟩) cp (w'.setCell ⟨ob,fi,none⟩ (.slice (some ⟨gg,0,none⟩) (k + 1) cp))):=by
 obtain ⟨hyl,hbox,hbw,vals,hown,hch⟩:=h;obtain ⟨i0,hi,hz0,hz1,hz2⟩:=info_parts hE.info;obtain ⟨W4,hW4⟩:∃W4,W4=w3.alloc (.cells rs.toArray e):=⟨_,rfl⟩;have hs3:=hb3.size;have hsr:=hbw.size;have hb4:Below wr.heap.size wr W4:=by rw [hW4];exact hb3.alloc hs3 _
 have hg4:=zj hb4;have hoA:=zt hown hg4 (fun b hb e=> by cases e);have hn:=hE.pos
 have hby:(k + 1) * y<=140737488355328:=by
  have:=Nat.mul_le_mul (show k + 1<=1001 by omega) hE.small;omega
 obtain ⟨v',w',hr,h1,h2,h3,h4⟩:=run_append_own_at (P:=Tryz.prog) W4 W2.heap.size t t e i0 z n y hE.under hi hz0 hz1 hz2 hE.zero hn _ k vals hoA
  ⟨w3.heap.size,0,none⟩ 1 1 rs (by rw [hrl,Nat.one_mul]) (by
   intro j u hj;have e:(⟨w3.heap.size,0,none⟩:Addr).add j=⟨w3.heap.size,j,none⟩:=by unfold Addr.add;by_cases h:j=0 <;> simp [h]
   rw [e,hW4,ZA _ _ _ _ rfl];simpa using hj) h1c (by unfold maxLen;omega) hby (by have:=hb4.size;omega)
 have hs4:W4.heap.size=w3.heap.size + 1:=by rw [hW4];simp
 have hlo:=hown.lt;have hs2:=h2.size;have hrow:∀r,(Value.slice a k cap).ownBlock=some r->W2.heap.size<=r:=fun r hr=> (hlo r hr).1
 have hbox':w'.heap[ob]?=some (box (.slice a k cap)):=
  (h2.block ob (by omega) (fun e=> by have:=hrow ob e.symm;omega)).trans ((hb4.block ob (by omega)).trans hbox)
 have hch':zq (fun _ w1 cs x=> qz At W2.heap.size v'.ownBlock w1 cs x) n 0 w' (vals ++ rs) (ys ++ [x]):=by
  have hch1:zq (fun _ w1 cs x=> qz At W2.heap.size v'.ownBlock w1 cs x) n 0 w' vals ys:=⟨hch.1,fun i hi=> qz.keep hAt (hch.2 i hi) (fun b hb1 hb2 hb3=>
   (h2.block b (by omega) (fun e=> hb3 e.symm)).trans (hg4.block b hb2 (fun e=> by cases e))) (by omega) (by
    rcases h4 with h4 | h4
    ·exact .inl h4
    ·exact .inr ⟨_,h4,by omega⟩)⟩
  refine zq.snoc hch1 ?_ hrl;refine ⟨wr.heap.size,w3.heap.size,by omega,by omega,fun g hg=> ?_,?_⟩
  ·rcases h4 with h4 | h4
   ·rw [h4] at hg;have:=(hlo g hg).2;omega
   ·rw [h4] at hg;have:=ZJ hg;omega
  ·refine hAt _ _ _ _ _ _ (qg (ZL _) fun b o v ha hb hv=> ?_) (ZL _) hat'
   have e1:W4.cell? ⟨b,o,none⟩=some v:=by rw [hW4,ZP _ _ _ hb];exact hv
   refine (ZB (w:=W4) (h2.block b (by omega) (fun e=> ?_))).trans e1;have:=(hlo b e.symm).2;omega
 have hbw':W2.grownBy w' (some ob):=zk (zk hbw hg4 (fun r e=> by cases e)) h2 (fun r e=> .inl (hrow r e));obtain ⟨_,⟨_,h0⟩ | ⟨gg,cp,cur,hvf,hgA,_⟩⟩:=id h1
 ·omega
 subst hvf;rw [hW4] at hr;obtain ⟨g1,g2⟩:=hB.get _ _ hbox';refine ⟨gg,cp,w',hr,g1,g2,ZH ⟨by rw [List.length_append,hyl];rfl,hB.put _ _ _ hbox',zk hbw' (row:=some ob) ⟨rfl,rfl,rfl,by simp [World.setCell],fun b hb hne=> ZC _ _ _ _ (fun e=> hne (by rw [e]))⟩ (fun r h=> .inr h),vals ++ rs,?_,?_⟩⟩
 ·refine zt (row:=some ob) h1 ⟨rfl,rfl,rfl,by simp [World.setCell],fun b hb hne=> ZC _ _ _ _ (fun e=> hne (by rw [e]))⟩ (fun b hb e=> ?_)
  have:gg=b:=by simpa [Value.ownBlock] using hb
  have:=ZJ e;omega
 ·exact ⟨hch'.1,fun i hi=> qz.keep hAt (hch'.2 i hi) (fun b hb1 hb2 hb3=> ZC _ _ _ _ (by show b≠ob;omega)) (by simp [World.setCell]) (.inl rfl)⟩
theorem zen {X:Type} {R:List Value->X->Prop} {t e:TypeId} {n y:Nat} {z:Value} (hE:zcj t e n y z) {w:World} {A:Nat} {v1:Value} {vals:List Value} {l1 l2:List X} (ho:w.ownsRow A e n v1 l1.length vals)
  (hc:zq (fun _ _ cs x=> R cs x) n 0 w vals l1) {a:Option Addr} {cap:Nat} (hcap:a=none->cap=0/\l2= []) (news:List Value) (k1:zq (fun _ _ cs x=> R cs x) n 0 w news l2) (k2:∀u∈news,u.oneCell'=true)
  (k3:∀ad,a=some ad->∀j u,news[j]?=some u->w.cell? (ad.add j)=some u) (hA:A<=w.heap.size) (n1:l1.length<=100000) (n2:l2.length<=100000):
  ∃v' w',(Builtin.append_ #[t,t] t #[v1, .slice a l2.length cap]).run Tryz.prog w= .ok v' w'/\w'.ownsRow A e n v' (l1 ++ l2).length (vals ++ news)/\zq (fun _ _ cs x=> R cs x) n 0 w' (vals ++ news) (l1 ++ l2)/\w.grownBy w' v1.ownBlock:=by
 obtain ⟨i0,hi,hz0,hz1,hz2⟩:=info_parts hE.info
 have happ:∀w',zq (fun _ _ cs x=> R cs x) n 0 w' (vals ++ news) (l1 ++ l2):=by
  intro w';refine ⟨by rw [List.length_append,List.length_append,hc.1,k1.1,Nat.add_mul],fun i hi=> ?_⟩;by_cases hlt:i < l1.length
  ·have e1:i * n + n<=vals.length:=by rw [hc.1,<-Nat.succ_mul];exact Nat.mul_le_mul_right n hlt
   rw [List.getElem_append_left hlt,List.drop_append_of_le_length (by omega),List.take_append_of_le_length (by simp;omega)];exact hc.2 i hlt
  ·have hl:i - l1.length < l2.length:=by simp at hi;omega
   have e2:i * n=vals.length + (i - l1.length) * n:=by rw [hc.1,<-Nat.add_mul,Nat.add_sub_cancel' (Nat.le_of_not_lt hlt)]
   rw [List.getElem_append_right (by omega),e2,<-List.drop_drop,List.drop_left];exact k1.2 _ hl
 cases a with
 | none=>
  obtain ⟨rfl,rfl⟩:=hcap rfl;have hn0:news= []:=by have:=k1.1;simp at this;exact this
  subst hn0;have hr:=run_append_owned_none (P:=Tryz.prog) (w:=w) A t t e i0 n hE.under hi v1 l1.length vals ho;exact ⟨v1,w,hr,by simpa using ho,happ w,World.grownBy.refl _ _⟩
 | some ad=>
  have hby:(l1.length + l2.length) * y<=140737488355328:=by
   have:=Nat.mul_le_mul (show l1.length + l2.length<=200000 by omega) hE.small;omega
  obtain ⟨v',w',hr,h4,h5,_,_⟩:=run_append_own_at (P:=Tryz.prog) w A t t e i0 z n y hE.under hi hz0 hz1 hz2 hE.zero hE.pos v1 l1.length vals ho ad l2.length cap news k1.1 (k3 ad rfl) k2 (by unfold maxLen;omega) hby hA;exact ⟨v',w',hr,by rw [List.length_append];exact h4,happ w',h5⟩
abbrev z111:Obj:= .cells #[.slice none 0 0, .slice none 0 0] 111
structure PS (c:Chg) (l:List ByteArray) (B:Nat) (u W1:World) (oN oS:Option Nat) (oA oC:Option Value) (W:World):Prop where
 below:Below W1.heap.size W1 W
 box:∀n,oN=some n->W1.heap.size<=n/\W.heap[n]?=some z111
 row:∀n,oS=some n->W1.heap.size<=n/\W.heap[n]?=some (.cells #[] 36)
 exps:∀v,oA=some v->∃vals,W.ownsRow W1.heap.size 36 4 v c.length vals/\zq (fun _ _ cs x=> zy B u cs x) 4 0 W vals (c.map (·.2))
 names:∀v,oC=some v->W.ownsRow W1.heap.size 9 1 v (c.map (·.1) ++ l).length (zn (c.map (·.1) ++ l))
theorem PS.later {c:Chg} {l:List ByteArray} {B:Nat} {u W1:World} {oN oS:Option Nat} {oA oC:Option Value} {W W':World} (h:PS c l B u W1 oN oS oA oC W) (hb:Below W.heap.size W W'):PS c l B u W1 oN oS oA oC W':=by
 have hs:=h.below.size;have hg:=zj hb;refine ⟨h.below.trans (hb.mono hs),fun n hn=> ?_,fun n hn=> ?_,fun v hv=> ?_,fun v hv=> ?_⟩
 ·obtain ⟨h1,h2⟩:=h.box n hn
  exact ⟨h1,(hb.block n (ZG h2).1).trans h2⟩
 ·obtain ⟨h1,h2⟩:=h.row n hn
  exact ⟨h1,(hb.block n (ZG h2).1).trans h2⟩
 ·obtain ⟨vals,h1,h2⟩:=h.exps v hv
  exact ⟨vals,zt h1 hg (fun b _ e=> by cases e),h2⟩
 ·exact zt (h.names v hv) hg (fun b _ e=> by cases e)
theorem PS.start (c:Chg) (l:List ByteArray) (B:Nat) (u W1:World):PS c l B u W1 none none none none W1.drew:=
 ⟨(ZF _ _).drew,(fun n h=> by cases h),(fun n h=> by cases h),(fun n h=> by cases h),(fun n h=> by cases h)⟩
theorem PS.call {c:Chg} {l:List ByteArray} {B:Nat} {u W1:World} {oN oS:Option Nat} {oA:Option Value} {W W':World} {v:Value} (h:PS c l B u W1 oN oS oA none W) (hb:Below W.heap.size W W') (ho:W'.ownsRow W.heap.size 9 1 v (c.map (·.1) ++ l).length (zn (c.map (·.1) ++ l))):
  PS c l B u W1 oN oS oA (some v) W':=by
 have h':=h.later hb;refine ⟨h'.below,h'.box,h'.row,h'.exps,fun x hx=> ?_⟩;obtain rfl:=ZJ hx;exact xN ho h.below.size
theorem zae {w:World} {A n m k:Nat} {ty ty':TypeId} {v:Value} {xs:List Value} {cs:Array Value} (h:w.ownsRow A ty n v m xs) (hk:w.heap[k]?=some (.cells cs ty')) (hne:ty'≠ty):v.ownBlock≠some k:=by
 intro e;obtain ⟨_,⟨h0,_⟩ | ⟨g,cp,cur,h1,h2,h3,_⟩⟩:=h
 ·rw [h0] at e;cases e
 ·rw [h1] at e
  obtain rfl:g=k:=by simpa [Value.ownBlock] using e
  rw [hk] at h3;cases h3;exact hne rfl
theorem zmQ {w:World} {A A' n n' m m':Nat} {ty ty':TypeId} {v v':Value} {xs xs':List Value} (h:w.ownsRow A ty n v m xs) (h':w.ownsRow A' ty' n' v' m' xs') (hne:ty'≠ty) (b:Nat) (hb:v.ownBlock=some b):v'.ownBlock≠some b:=by
 intro hb';obtain ⟨_,⟨h0,_⟩ | ⟨g,cp,cur,h1,h2,h3,_⟩⟩:=h'
 ·rw [h0] at hb';cases hb'
 ·rw [h1] at hb'
  obtain rfl:g=b:=by simpa [Value.ownBlock] using hb'
  exact zae h h3 hne hb
def jH (es:List Exp) (ns:List ByteArray) (B:Nat) (u:World) (N n:Nat) (vf:Value) (a:Option Addr) (k cap:Nat) (W:World):Prop:=
 es.length=k/\N<=n/\W.heap[n]?=some (.cells #[vf, .slice a k cap] 111)/\W.ownsRow N 9 1 vf ns.length (zn ns)/\∃vals,W.ownsRow N 36 4 (.slice a k cap) k vals/\zq (fun _ _ cs x=> zy B u cs x) 4 0 W vals es
theorem PS.done {c:Chg} {l:List ByteArray} {B:Nat} {u W1:World} {n:Nat} {vf:Value} {aa:Option Addr} {cc:Nat} {W:World} (h:PS c l B u W1 (some n) none (some (.slice aa c.length cc)) (some vf) W):
  jH (c.map (·.2)) (c.map (·.1) ++ l) B u W1.heap.size n vf aa c.length cc ((W.setCell ⟨n,0,none⟩ vf).setCell ⟨n,1,none⟩ (.slice aa c.length cc))/\Below W1.heap.size W1 ((W.setCell ⟨n,0,none⟩ vf).setCell ⟨n,1,none⟩ (.slice aa c.length cc)):=by
 obtain ⟨g1,g2⟩:=h.box n rfl;obtain ⟨vals,e1,e2⟩:=h.exps _ rfl;have ho:=h.names _ rfl
 have hgr:W.grownBy ((W.setCell ⟨n,0,none⟩ vf).setCell ⟨n,1,none⟩ (.slice aa c.length cc)) (some n):=⟨rfl,rfl,rfl,by simp [World.setCell],fun b hb hne=> by
  have hbn:b≠n:=fun e=> hne (by rw [e]);rw [ZC _ _ _ _ hbn,ZC _ _ _ _ hbn]⟩
 refine ⟨⟨List.length_map ..,g1,?_,zt ho hgr (fun b hb e=> zae ho g2 (by decide) (by rw [hb,<-ZJ e])),vals,zt e1 hgr (fun b hb e=> zae e1 g2 (by decide) (by rw [hb,<-ZJ e])),e2⟩,?_⟩
 ·have:=qD (qD g2 0 vf) 1 (.slice aa c.length cc)
  simpa using this
 ·exact (h.below.setCell (p:=⟨n,0,none⟩) g1 _).setCell (p:=⟨n,1,none⟩) g1 _
theorem jH.step {es:List Exp} {ns:List ByteArray} {B:Nat} {u W1:World} {n:Nat} {vf:Value} {a:Option Addr} {k cap:Nat} {W w3:World} (h:jH es ns B u W1.heap.size n vf a k cap W) (hW:Below W1.heap.size W1 W) (hk:k<=100000) (hb:Below W.heap.size W w3)
  {s:ByteArray} (hs:s.size<=maxLen):
  ∃gg cp w',(Builtin.append_ #[29,29] 29 #[.slice a k cap, .slice (some ⟨w3.heap.size,0,none⟩) 1 1]).run Tryz.prog (w3.alloc (.cells #[.int .i64 2, .int .i64 0, .string s, .slice none 0 0] 36))= .ok (.slice (some ⟨gg,0,none⟩) (k + 1) cp) w'/\
   w'.cell? ⟨n,1,none⟩=some (.slice a k cap)/\w'.frozen? ⟨n,1,none⟩=false/\
   Hid (jH (es ++ [yq s]) ns B u W1.heap.size n vf (some ⟨gg,0,none⟩) (k + 1) cp (w'.setCell ⟨n,1,none⟩ (.slice (some ⟨gg,0,none⟩) (k + 1) cp))/\Below W1.heap.size W1 (w'.setCell ⟨n,1,none⟩ (.slice (some ⟨gg,0,none⟩) (k + 1) cp))):=by
 obtain ⟨he,hn,hbox,ho,vals,hr,hch⟩:=h;subst he;have hs0:=hW.size;have hs1:=hb.size;obtain ⟨W4,hW4⟩:∃W4,W4=w3.alloc (.cells #[.int .i64 2, .int .i64 0, .string s, .slice none 0 0] 36):=⟨_,rfl⟩;have hb4:Below W.heap.size W W4:=by rw [hW4];exact hb.alloc hs1 _
 have hg4:=zj hb4;have hs4:=hb4.size;have hrA:=zt hr hg4 (fun b hb e=> by cases e);have hoA:=zt ho hg4 (fun b hb e=> by cases e);have hboxA:W4.heap[n]?=some (.cells #[vf, .slice a es.length cap] 111):=(hb4.block n (ZG hbox).1).trans hbox
 obtain ⟨v',w',hrun,h3,h4,h5⟩:=zen zhc (R:=zy B u) (l2:= [yq s]) hrA hch (a:=some ⟨w3.heap.size,0,none⟩) (cap:=1) (fun e=> by cases e) [.int .i64 2, .int .i64 0, .string s, .slice none 0 0]
  ⟨rfl,fun i hi=> by
   obtain rfl:i=0:=by simp at hi;omega
   exact ⟨hs,_,rfl,none,0,rfl,by simp, .inl rfl⟩⟩ (by simp [Value.oneCell']) (fun ad had j x hj=> by
   cases had;have e:(⟨w3.heap.size,0,none⟩:Addr).add j=⟨w3.heap.size,j,none⟩:=by unfold Addr.add;by_cases h:j=0 <;> simp [h]
   rw [e,hW4,ZA _ _ _ _ rfl];simpa using hj) (by omega) hk (by simp)
 obtain ⟨_,⟨_,h0⟩ | ⟨gg,cp,cur,hvf,hgA,hgc,_⟩⟩:=id h3
 ·simp at h0
 subst hvf;rw [hW4,List.length_append] at hrun
 replace hrun:(Builtin.append_ #[29,29] 29 #[.slice a es.length cap, .slice (some ⟨w3.heap.size,0,none⟩) 1 1]).run Tryz.prog (w3.alloc (.cells #[.int .i64 2, .int .i64 0, .string s, .slice none 0 0] 36))= .ok (.slice (some ⟨gg,0,none⟩) (es.length + 1) cp) w':=hrun
 rw [List.length_append] at h3
 replace h3:w'.ownsRow W1.heap.size 36 4 (.slice (some ⟨gg,0,none⟩) (es.length + 1) cp) (es.length + 1) (vals ++ [.int .i64 2, .int .i64 0, .string s, .slice none 0 0]):=by
  exact h3
 have hne:some n≠(Value.slice a es.length cap).ownBlock:=fun e=> zae hrA hboxA (by decide) e.symm;have hbox':w'.heap[n]?=some (.cells #[vf, .slice a es.length cap] 111):=(h5.block n (ZG hboxA).1 hne).trans hboxA;have ho':=zt hoA h5 (fun b hb e=> zmQ hoA hrA (by decide) b hb e);have hbw:Below W1.heap.size W1 w':=(hW.trans (hb4.mono hs0)).grown h5 (by omega) (fun r e=> by have:=(hr.lt r e).1;omega);have hset:w'.grownBy (w'.setCell ⟨n,1,none⟩ (.slice (some ⟨gg,0,none⟩) (es.length + 1) cp)) (some n):=⟨rfl,rfl,rfl,by simp [World.setCell],fun b hb hne=> ZC _ _ _ _ (fun e=> hne (by rw [e]))⟩;refine ⟨gg,cp,w',hrun,by simp [World.cell?,hbox'],by simp [World.frozen?,hbox'],ZH ⟨⟨by rw [List.length_append];rfl,hn,?_,zt ho' hset (fun b hb e=> zae ho' hbox' (by decide) (by rw [hb,<-ZJ e])),vals ++ [.int .i64 2, .int .i64 0, .string s, .slice none 0 0],zt h3 hset (fun b hb e=> zae h3 hbox' (by decide) (by rw [hb,<-ZJ e])),h4.1,h4.2⟩,hbw.setCell (p:=⟨n,1,none⟩) hn _⟩⟩;have:=qD hbox' 1 (.slice (some ⟨gg,0,none⟩) (es.length + 1) cp);simpa using this
def zE (A:Nat) (W W':World):Prop:=W.heap.size<=W'.heap.size/\∀b,A<=b->b < W.heap.size->W'.heap[b]?=W.heap[b]?
theorem zE.refl (A:Nat) (W:World):zE A W W:=⟨ZL _,fun _ _ _=> rfl⟩
theorem zE.trans {A:Nat} {a b c:World} (h:zE A a b) (g:zE A b c):zE A a c:=
 ⟨Nat.le_trans h.1 g.1,fun k hk hl=> (g.2 k hk (Nat.lt_of_lt_of_le hl h.1)).trans (h.2 k hk hl)⟩
theorem zE.of_below {A:Nat} {W W':World} (h:Below W.heap.size W W'):zE A W W':=⟨h.size,fun b _ hl=> h.block b hl⟩
theorem zE.set {A b:Nat} (W:World) (hb:b < A) (o:Nat) (v:Value):zE A W (W.setCell ⟨b,o,none⟩ v):=⟨by simp [World.setCell],fun k hk _=> ZC _ _ _ _ (by simp;omega)⟩
theorem zE.blank {A A':Nat} {W W':World} (h:zE A W W') (hA:A'<=A):zh W.heap.size (blank A W) (blank A' W'):=
 qg hA fun b o v hb hl hv=> (ZB (w:=W) (h.2 b hb hl)).trans hv
def xI (B:Nat) (w:World) (cs:List Value) (c:Chg):Prop:=zao B w cs c/\∀v1 k cap,cs= [v1, .slice none k cap]->cap=0
theorem xI.nil (B:Nat) (w:World):xI B w [.slice none 0 0, .slice none 0 0] []:=
 ⟨⟨_,_,rfl,zx.nil _ _,none,0,rfl,by simp, .inl rfl⟩,fun v1 k cap h=> by cases h;rfl⟩
theorem zhm {w:World} {A m n:Nat} {ty:TypeId} {k cap:Nat} {xs:List Value} (h:w.ownsRow A ty m (.slice none k cap) n xs):cap=0:=by
 obtain ⟨_,⟨h0,_⟩ | ⟨g,cp,cur,h1,_⟩⟩:=h
 ·cases h0;rfl
 ·cases h1
theorem jH.chg {es:List Exp} {ns:List ByteArray} {B:Nat} {u:World} {N n:Nat} {vf:Value} {a:Option Addr} {k cap:Nat} {W:World} {z:Chg} (h:jH es ns B u N n vf a k cap W) (hu:zh B u W) (hBN:B<=N) (hsz:∀s∈ns,s.size<=maxLen) (hz1:z.map (·.1)=ns) (hz2:z.map (·.2)=es) {A:Nat} (hA:A<=N):
  xI W.heap.size (mid u B A W) [vf, .slice a k cap] z:=by
 obtain ⟨he,hn,hbox,ho,vals,hr,hch⟩:=h;have hzl:z.length=k:=by rw [<-he,<-hz2,List.length_map]
 subst hz1;subst hz2
 have hnone:∀v1 k' cap', [vf, .slice a k cap]= [v1, .slice none k' cap']->cap'=0:=fun v1 k' cap' e=> by
  cases e;exact zhm hr
 refine ⟨⟨vf, .slice a k cap,rfl,?_,?_⟩,hnone⟩
 ·obtain ⟨a1,c1,rfl,hl1,hs1⟩:=zJ (by omega) ho
  refine ⟨a1,c1,rfl,hl1,hsz,fun e=> by subst e;exact zhm ho,?_⟩;rcases hs1 with h0 | ⟨g,rfl,hg,hgA,hc⟩
  ·exact .inl (List.length_eq_zero_iff.1 h0)
  ·refine .inr ⟨g,0,rfl,hg,fun j hj=> ?_⟩
   have hlj:j < (zn (z.map (·.1))).length:=by simpa [zn] using hj
   have:=zbH (u:=u) (N:=B) (A:=A) hc (by omega) (by omega) j hlj;simpa [zn] using this
 ·obtain ⟨a2,c2,e2,hl2,hs2⟩:=zJ (by omega) hr
  cases e2;refine ⟨a,cap,by rw [hzl],by rw [hzl];exact hl2,?_⟩;rcases hs2 with h0 | ⟨g,rfl,hg,hgA,hc⟩
  ·exact .inl (by rw [hzl];exact h0)
  ·refine .inr ⟨g,0,rfl,hg,zW.mk _ g 0 fun i hi=> ?_⟩
   refine ⟨_,zbH (u:=u) (N:=B) (A:=A) (zag i 4 hc ?_) (by omega) (by omega),zy.keep (fun b o v hb hv=> (yM _ _ _ _ _ _ _).2 ⟨zD (hu b o v hb hv), .inl ⟨hb,hv⟩⟩) (by have:=(ZG hbox).1;omega) _ _ (hch.2 i hi)⟩;rw [hch.1,<-Nat.succ_mul];exact Nat.mul_le_mul_right 4 hi
theorem jH.skip {es:List Exp} {ns:List ByteArray} {B:Nat} {u:World} {N n:Nat} {vf:Value} {a:Option Addr} {k cap:Nat} {W W':World} (h:jH es ns B u N n vf a k cap W) {r:Nat} (hg:W.grownBy W' (some r)) (hr:r < N):jH es ns B u N n vf a k cap W':=by
 obtain ⟨he,hn,hbox,ho,vals,hw,hch⟩:=h;have hne:∀b,N<=b->some b≠some r:=fun b hb e=> by have:=ZJ e;omega
 exact ⟨he,hn,(hg.block n ((ZG hbox).1) (hne n hn)).trans hbox,zt ho hg (fun b hb e=> hne b (ho.lt b hb).1 e.symm),vals,zt hw hg (fun b hb e=> hne b (hw.lt b hb).1 e.symm),hch⟩

def Fit0 (p:Part):Prop:=p.size<=60/\∀q∈zw 1 p,q.1.shaped=true/\zeq q.1
theorem zT.fit0 {p:Part} (h:zT p):Fit0 p:=⟨h.1,fun q hq=> ⟨(h.2 q hq).1,(h.2 q hq).2.2⟩⟩
theorem Fit0.nd {p:Part} (h:Fit0 p):NdP (fun q=> q.shaped=true) p:=fun q hq=> by
 rw [qJ 0 1] at hq;obtain ⟨y,hy,rfl⟩:=List.mem_map.1 hq;exact (h.2 y hy).1
abbrev zgw (w:World) (wb:Nat):Prop:=xM w wb 0 ⟨#[]⟩ (.slice none 0 0) (.slice none 0 0) false
structure TF (w:World) (wb ob:Nat) (arg res:Obj) (Bc:Nat) (uc:World) (q0:Option Addr) (x1 r0:Nat) (q1:Option Addr) (x2 r1:Nat) (W:World):Prop where
 chg:W.heap[w.heap.size]?=some (.cells #[.slice q0 x1 r0, .slice q1 x2 r1] 111)
 arg:W.heap[w.heap.size + 1]?=some arg
 res:W.heap[w.heap.size + 2]?=some res
 walk:zgw W wb
 kept:zh Bc uc W
 bc:Bc<=W.heap.size
 below:Below w.heap.size w W
 wlt:wb < w.heap.size
 lo:w.heap.size + 3<=ob
 hi:ob < W.heap.size
 off:∀o v,uc.cell? ⟨ob,o,none⟩=some v->Bc<=ob
theorem TF.grown {w:World} {wb ob:Nat} {arg res:Obj} {Bc:Nat} {uc:World} {q0:Option Addr} {x1 r0:Nat} {q1:Option Addr} {x2 r1:Nat} {W W':World} (h:TF w wb ob arg res Bc uc q0 x1 r0 q1 x2 r1 W) (hg:W.grownBy W' (some ob)):TF w wb ob arg res Bc uc q0 x1 r0 q1 x2 r1 W':=by
 have hlo:=h.lo;have hhi:=h.hi;have hs:=hg.size;have hk:∀b,b < W.heap.size->b≠ob->W'.heap[b]?=W.heap[b]?:=fun b hb hne=> hg.block b hb (fun e=> hne (ZJ e));refine ⟨(hk _ (by omega) (by omega)).trans h.chg,(hk _ (by omega) (by omega)).trans h.arg,(hk _ (by omega) (by omega)).trans h.res,(hk wb (by have:=h.wlt;omega) (by have:=h.wlt;omega)).trans h.walk,fun b o v hb hv=> ?_,by have:=h.bc;omega,h.below.grown hg (by omega) (fun k e=> by have:=ZJ e;omega),h.wlt,hlo,by omega,h.off⟩;have h1:=h.kept b o v hb hv;refine (ZB (w:=W) (hk b (zD h1) (fun e=> ?_))).trans h1;subst e;have:=h.off o v hv;omega
theorem TF.later {w:World} {wb ob:Nat} {arg res:Obj} {Bc:Nat} {uc:World} {q0:Option Addr} {x1 r0:Nat} {q1:Option Addr} {x2 r1:Nat} {W W':World} (h:TF w wb ob arg res Bc uc q0 x1 r0 q1 x2 r1 W) (hb:Below W.heap.size W W'):TF w wb ob arg res Bc uc q0 x1 r0 q1 x2 r1 W':=
 h.grown ⟨hb.os,hb.tape,hb.output,hb.size,fun b hl _=> hb.block b hl⟩
theorem TF.plus {w:World} {wb ob:Nat} {arg res:Obj} {Bc:Nat} {uc:World} {q0:Option Addr} {x1 r0:Nat} {q1:Option Addr} {x2 r1:Nat} {W wA w5:World} (h:TF w wb ob arg res Bc uc q0 x1 r0 q1 x2 r1 W) (hA:Below W.heap.size W wA) (h5:Below wA.heap.size wA w5)
  {q0':Option Addr} {x1' r0':Nat} {q1':Option Addr} {x2' r1':Nat} (hBc:Bc<=w.heap.size):
  TF w wb ob arg res w5.heap.size (mid uc Bc wA.heap.size w5) q0' x1' r0' q1' x2' r1' ((w5.setCell ⟨w.heap.size,0,none⟩ (.slice q0' x1' r0')).setCell ⟨w.heap.size,1,none⟩ (.slice q1' x2' r1'))/\
   zE (ob + 1) W ((w5.setCell ⟨w.heap.size,0,none⟩ (.slice q0' x1' r0')).setCell ⟨w.heap.size,1,none⟩ (.slice q1' x2' r1')):=by
 have hA5:Below W.heap.size W w5:=hA.trans (h5.mono hA.size);have h':=h.later hA5;have hsA:=hA.size;have hs5:=h5.size;have hhi:=h.hi;have hlo:=h.lo;have hwl:=h.wlt
 have hk:∀b,b≠w.heap.size->((w5.setCell ⟨w.heap.size,0,none⟩ (.slice q0' x1' r0')).setCell ⟨w.heap.size,1,none⟩ (.slice q1' x2' r1')).heap[b]?=w5.heap[b]?:=fun b hb=> by
  rw [ZC _ _ _ _ (by simpa using hb),ZC _ _ _ _ (by simpa using hb)]
 have hsz:((w5.setCell ⟨w.heap.size,0,none⟩ (.slice q0' x1' r0')).setCell ⟨w.heap.size,1,none⟩ (.slice q1' x2' r1')).heap.size=w5.heap.size:=by simp [World.setCell]
 refine ⟨⟨?_,(hk _ (by omega)).trans h'.arg,(hk _ (by omega)).trans h'.res,(hk _ (by omega)).trans h'.walk,fun b o v hb hv=> ?_,by rw [hsz];exact ZL _,(h'.below.setCell (p:=⟨w.heap.size,0,none⟩) (ZL _) _).setCell (p:=⟨w.heap.size,1,none⟩) (ZL _) _,hwl,hlo,by rw [hsz];exact h'.hi,fun o v hv=> ?_⟩,by rw [hsz];omega,fun b hb hl=> (hk b (by omega)).trans (hA5.block b hl)⟩
 ·have:=qD (qD h'.chg 0 (.slice q0' x1' r0')) 1 (.slice q1' x2' r1')
  simpa using this
 ·obtain ⟨_,h2⟩:=(yM _ _ _ _ _ _ _).1 hv
  rcases h2 with ⟨g1,g2⟩ | ⟨g1,g2,g3⟩
  ·exact (ZB (w:=w5) (hk b (by omega))).trans (h'.kept b o v g1 g2)
  ·exact (ZB (w:=w5) (hk b (by omega))).trans g3
 ·obtain ⟨_,h2⟩:=(yM _ _ _ _ _ _ _).1 hv
  rcases h2 with ⟨g1,g2⟩ | ⟨g1,g2,g3⟩ <;> omega
end
end Go.Proofs.YtjmlaeofjjhfmaaGreat
