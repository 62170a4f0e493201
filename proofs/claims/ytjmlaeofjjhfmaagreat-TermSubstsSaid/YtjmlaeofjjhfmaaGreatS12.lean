/- Lemmas. -/
import Derived.Test.YtjmlaeofjjhfmaaGreatS11
import Derived.Deep.RegionLaw
set_option linter.unusedVariables false
set_option linter.unusedSimpArgs false
set_option maxRecDepth 10000
set_option maxHeartbeats 16000000
namespace Go.Proofs.YtjmlaeofjjhfmaaGreat
section
open Go.RowKit Go.Shelf Go.Maps
theorem zeV:(Tryz.prog.info? 36).map (fun i=> (i.zero,i.size,i.bytes))=some (some (.agg #[.int .i64 0, .int .i64 0, .string ⟨#[]⟩, .slice none 0 0]),4,56):=by kernel_rfl
def nmC (s:ByteArray):List Value:= [.int .i64 2, .int .i64 0, .string s, .slice none 0 0]
def nmCs (ss:List ByteArray):List Value:=ss.flatMap nmC
theorem zj0 (ss:List ByteArray) (k:Nat) (h:k < ss.length):nmCs (ss.take (k + 1))=nmCs (ss.take k) ++ nmC ss[k]:=by
 unfold nmCs;rw [ZT h,List.flatMap_append];simp
theorem Tryz.results109:Tryz.f109.results=#[.cell 4 33]:=by kernel_rfl
theorem zt {w w':World} {base e size n:Nat} {v:Value} {xs:List Value} {row:Option Nat} (h:w.ownsRow base e size v n xs) (g:w.grownBy w' row) (hne:∀b,v.ownBlock=some b->row≠some b):w'.ownsRow base e size v n xs:=by
 obtain ⟨h1,h2 | ⟨b,cap,cur,rfl,hb,hg,r⟩⟩:=h
 ·exact ⟨h1, .inl h2⟩
 ·exact ⟨h1, .inr ⟨b,cap,cur,rfl,hb,(g.block b (ZG hg).1 (fun e=> hne b rfl e.symm)).trans hg,r⟩⟩
theorem zbB {w:World} {a b e size n:Nat} {v:Value} {xs:List Value} (h:w.ownsRow a e size v n xs) (hb:b<=a):w.ownsRow b e size v n xs:=by
 obtain ⟨h1,h2 | ⟨g,cap,cur,h3,h4,r⟩⟩:=h
 ·exact ⟨h1, .inl h2⟩
 ·exact ⟨h1, .inr ⟨g,cap,cur,h3,by omega,r⟩⟩
theorem zH (W:World) (a:Addr) (v:Value):W.grownBy (W.setCell a v) (some a.block):=
 ⟨rfl,rfl,rfl,(KeepsWalks.setCell W _ v).size,fun k _ hk=> ZC _ _ _ k (fun e=> hk (by rw [e]))⟩
theorem zhk (s:ByteArray) (v:Value) (ss:List ByteArray) (w:World) (hs:s.size<=maxLen) (h:zx w.heap.size w v ss) (hl:ss.length<=1000):
  Calls Tryz.prog 109 #[.string s,v] w fun e w'=> ∃r,e= .returned (.agg #[.int .i64 2, .string s,r, .slice none 0 0, .slice none 0 0])/\w'.ownsRow w.heap.size 36 4 r ss.length (nmCs ss)/\Below w.heap.size w w':=by
 obtain ⟨i0,hi,hz0,hz1,hz2⟩:=info_parts zeV;obtain ⟨a,cap,rfl,_,hz,_,hp⟩:=h;obtain ⟨W0,hW0⟩:∃W0,W0=((w.alloc (.cells #[.int .i64 0, .string ⟨#[]⟩, .slice none 0 0, .slice none 0 0, .slice none 0 0] 33)).alloc (.cells #[.int .i64 2, .string s, .slice none 0 0, .slice none 0 0, .slice none 0 0] 33)):=⟨_,rfl⟩;have hb0:Below w.heap.size w W0:=by rw [hW0];exact (ZQ w _).alloc (by simp) _
 have hz0':W0.heap.size=w.heap.size + 2:=by rw [hW0];simp
 have k4:W0.heap[w.heap.size]?=some (.cells #[.int .i64 0, .string ⟨#[]⟩, .slice none 0 0, .slice none 0 0, .slice none 0 0] 33):=by
  rw [hW0,ZO _ _ _ (by simp)];exact ZN w _
 have k5:W0.heap[w.heap.size + 1]?=some (.cells #[.int .i64 2, .string s, .slice none 0 0, .slice none 0 0, .slice none 0 0] 33):=by
  rw [hW0];have:=ZN (w.alloc (.cells #[.int .i64 0, .string ⟨#[]⟩, .slice none 0 0, .slice none 0 0, .slice none 0 0] 33)) (.cells #[.int .i64 2, .string s, .slice none 0 0, .slice none 0 0, .slice none 0 0] 33);rwa [World.size_alloc] at this
 have HW:=ZH hW0;go_enter Tryz.func109,Tryz.ntmps109;go_wp2_with fail;rw [<-HW.out];clear hW0
 go_loopw [6] (fun i wr=> ∃(k:Nat) (r:Value),k<=ss.length/\i= .int .i64 k/\wr.heap[w.heap.size]?=some (.cells #[.int .i64 0, .string ⟨#[]⟩, .slice none 0 0, .slice none 0 0, .slice none 0 0] 33)/\
  wr.heap[w.heap.size + 1]?=some (.cells #[.int .i64 2, .string s,r, .slice none 0 0, .slice none 0 0] 33)/\wr.ownsRow (w.heap.size + 2) 36 4 r k (nmCs (ss.take k))/\Below w.heap.size w wr) (fun i _=> ss.length - (intOf i).toNat)
 case atStart=> exact ⟨0,_,by omega,rfl,k4,k5,ZR _ _ _ _,hb0⟩
 case round=>
  obtain ⟨k,r,hk,rfl,q4,q5,hown,hb⟩:=hrel;have hz5:=(ZG q5).1;by_cases hlt:k < ss.length
  ·rcases hp with h0 | ⟨b,off,rfl,hbb,hc⟩
   ·subst h0;simp at hlt
   have htk:=ZH (zj0 ss k hlt);have ck:=(hb.cell (p:=⟨b,off + k,none⟩) hbb).trans (hc k hlt);obtain ⟨x,hx⟩:∃x,x=ss[k]:=⟨_,rfl⟩;rw [<-hx] at ck htk;obtain ⟨T,hT⟩:∃T,T=nmCs (ss.take k):=⟨_,rfl⟩;rw [<-hT] at hown htk;obtain ⟨Q,hQ⟩:∃Q:World->Prop,Q=fun W=> Below wr.heap.size wr W:=⟨_,rfl⟩
   have cbox:∀W,Below wr.heap.size wr W->W.cell? ⟨w.heap.size + 1,2,none⟩=some r:=fun W hW=> by
    have:=(hW.block (w.heap.size + 1) hz5).trans q5;simp [World.cell?,this]
   have hnm:∀W,Q W->Calls Tryz.prog 51 #[.string x] W fun e w'=> e= .returned (.agg #[.int .i64 2, .int .i64 0, .string x, .slice none 0 0])/\Q w'/\w'.cell? ⟨w.heap.size + 1,2,none⟩=some r/\
     (w'.alloc (.cells #[.int .i64 2, .int .i64 0, .string x, .slice none 0 0] 36)).cell? ⟨w.heap.size + 1,2,none⟩=some r:=fun W hW=> by
    rw [hQ] at hW;refine (zez x W).mono fun e w' ⟨h1,h2⟩=> ?_;have h3:Below wr.heap.size wr w':=hW.trans (h2.mono hW.size);exact ⟨h1,by rw [hQ];exact h3,cbox _ h3,cbox _ (h3.alloc h3.size _)⟩
   have hj:∀W,Q W->∃g cp w' v',v'= .slice (some ⟨g,0,none⟩) (k + 1) cp/\(Builtin.append_ #[29,29] 29 #[r, .slice (some ⟨W.heap.size,0,none⟩) 1 1]).run Tryz.prog (W.alloc (.cells #[.int .i64 2, .int .i64 0, .string x, .slice none 0 0] 36))= .ok v' w'/\
     w'.cell? ⟨w.heap.size + 1,2,none⟩=some r/\w'.frozen? ⟨w.heap.size + 1,2,none⟩=false/\
     (w'.setCell ⟨w.heap.size + 1,2,none⟩ v').heap[w.heap.size]?=some (.cells #[.int .i64 0, .string ⟨#[]⟩, .slice none 0 0, .slice none 0 0, .slice none 0 0] 33)/\
     (w'.setCell ⟨w.heap.size + 1,2,none⟩ v').heap[w.heap.size + 1]?=some (.cells #[.int .i64 2, .string s,v', .slice none 0 0, .slice none 0 0] 33)/\
     (w'.setCell ⟨w.heap.size + 1,2,none⟩ v').ownsRow (w.heap.size + 2) 36 4 v' (k + 1) (T ++ nmC x)/\Below w.heap.size w (w'.setCell ⟨w.heap.size + 1,2,none⟩ v'):=by
    intro W hW;rw [hQ] at hW;have hA:Below wr.heap.size wr (W.alloc (.cells #[.int .i64 2, .int .i64 0, .string x, .slice none 0 0] 36)):=hW.alloc hW.size _;have hoA:=zt hown (zj hA) (fun g _ e=> by cases e);have hsz:=hW.size
    obtain ⟨v',w',hr,h1,h2,_,_⟩:=run_append_own_at (P:=Tryz.prog) (W.alloc (.cells #[.int .i64 2, .int .i64 0, .string x, .slice none 0 0] 36)) (w.heap.size + 2) 29 29 36 i0 (.agg #[.int .i64 0, .int .i64 0, .string ⟨#[]⟩, .slice none 0 0]) 4 56 Tryz.underlying29 hi hz0 hz1 hz2 rfl (by decide) r k T hoA
     ⟨W.heap.size,0,none⟩ 1 1 (nmC x) rfl (by
      intro j u hj;have e:(⟨W.heap.size,0,none⟩:Addr).add j=⟨W.heap.size,j,none⟩:=by unfold Addr.add;by_cases h:j=0 <;> simp [h]
      rw [e,ZA _ _ _ _ rfl];simpa [nmC] using hj) (by simp [nmC,Value.oneCell']) (by unfold maxLen;omega) (by omega) (by simp;omega)
    have hne:∀g,r.ownBlock=some g->w.heap.size + 2<=g:=fun g hg=> (hoA.lt g hg).1
    have p4:w'.heap[w.heap.size]?=some (.cells #[.int .i64 0, .string ⟨#[]⟩, .slice none 0 0, .slice none 0 0, .slice none 0 0] 33):=
     (h2.block _ (by simp;omega) (fun e=> by have:=hne _ e.symm;omega)).trans ((hA.block _ (by omega)).trans q4)
    have p5:w'.heap[w.heap.size + 1]?=some (.cells #[.int .i64 2, .string s,r, .slice none 0 0, .slice none 0 0] 33):=
     (h2.block _ (by simp;omega) (fun e=> by have:=hne _ e.symm;omega)).trans ((hA.block _ hz5).trans q5)
    have hbw:Below w.heap.size w w':=(hb.trans (hA.mono hb.size)).grown h2 (by simp;omega) (fun g e=> by have:=hne g e;omega);obtain ⟨_,⟨_,h0⟩ | ⟨g,cp,cur,hvf,_⟩⟩:=id h1
    ·omega
    refine ⟨g,cp,w',v',hvf,hr,by simp [World.cell?,p5],by simp [World.frozen?,p5],?_,?_,?_,hbw.setCell (by simp) _⟩
    ·rw [ZC _ _ _ _ (by simp)];exact p4
    ·show (World.setCell w' ⟨w.heap.size + 1,2,none⟩ v').heap[w.heap.size + 1]?=_
     simp [World.setCell,Array.getElem?_modify,p5]
    ·refine zt h1 (zH w' ⟨w.heap.size + 1,2,none⟩ v') (fun g hg e=> ?_)
     have h9:=(h1.lt g hg).1;have h8:=ZJ e;simp only at h8;omega
   have HQ:=ZH hQ;clear hQ hT hx hc hz;have hq0:Q wr.drew:=by rw [HQ.out];exact (ZF _ _).drew
   have cb0:wr.drew.cell? ⟨w.heap.size + 1,2,none⟩=some r:=cbox _ (ZF _ _).drew;clear cbox;go_wp2
   go_region_law (first
    | (revert hQ3;intro hQ3;obtain ⟨g,cp,w',_,rfl,hr,f1,f2,f3,f4,f5,f6⟩:=hj w3 hQ3;refine zU rfl (.tmp 16) (.tmp 22) 29 29 rfl rfl rfl hr ?_)
    | (go_simp;go_wp2_with (go_at_call 51;refine (hnm _ (by assumption)).mono ?_;rintro e w3 ⟨rfl,hQ3,hc3,hc4⟩)))
   all_goals
    have FA:=ZH f3;have FB:=ZH f4;have FC:=ZH f5;have FD:=ZH f6;clear f1 f2 f3 f4 f5 f6 hr;go_wp2;go_roundw
    case rel=> exact ⟨k + 1,_,by omega,by go_num,FA.out,FB.out,by rw [htk.out];exact FC.out,FD.out⟩
    case measure=> simp [intOf];omega
  ·obtain rfl:k=ss.length:=by omega
   rw [List.take_length] at hown
   have hr:∃a' cp,r= .slice a' ss.length cp:=by
    obtain ⟨_,⟨rfl,h0⟩ | ⟨g,cp,cur,hvf,_⟩⟩:=hown
    ·exact ⟨none,0,by rw [h0]⟩
    ·exact ⟨_,_,hvf⟩
   obtain ⟨a',cp,rfl⟩:=hr;have c50:wr.cell? ⟨w.heap.size + 1,0,none⟩=some (.int .i64 2):=by simp [World.cell?,q5]
   have c51:wr.cell? ⟨w.heap.size + 1,1,none⟩=some (.string s):=by simp [World.cell?,q5]
   have c52:wr.cell? ⟨w.heap.size + 1,2,none⟩=some (.slice a' ss.length cp):=by simp [World.cell?,q5]
   have c53:wr.cell? ⟨w.heap.size + 1,3,none⟩=some (.slice none 0 0):=by simp [World.cell?,q5]
   have c54:wr.cell? ⟨w.heap.size + 1,4,none⟩=some (.slice none 0 0):=by simp [World.cell?,q5]
   have c40:wr.cell? ⟨w.heap.size,0,none⟩=some (.int .i64 0):=by simp [World.cell?,q4]
   have c41:wr.cell? ⟨w.heap.size,1,none⟩=some (.string ⟨#[]⟩):=by simp [World.cell?,q4]
   have c42:wr.cell? ⟨w.heap.size,2,none⟩=some (.slice none 0 0):=by simp [World.cell?,q4]
   have c43:wr.cell? ⟨w.heap.size,3,none⟩=some (.slice none 0 0):=by simp [World.cell?,q4]
   have c44:wr.cell? ⟨w.heap.size,4,none⟩=some (.slice none 0 0):=by simp [World.cell?,q4]
   have cf:∀o,wr.frozen? ⟨w.heap.size,o,none⟩=false:=fun o=> by simp [World.frozen?,q4]
   have hset:∀(W:World) (o:Nat) (x:Value),W.ownsRow (w.heap.size + 2) 36 4 (.slice a' ss.length cp) ss.length (nmCs ss)->(W.setCell ⟨w.heap.size,o,none⟩ x).ownsRow (w.heap.size + 2) 36 4 (.slice a' ss.length cp) ss.length (nmCs ss):=fun W o x h=>
    zt h (zH W ⟨w.heap.size,o,none⟩ x) (fun g hg e=> by
     have h9:=(h.lt g hg).1;have h8:=ZJ e;simp only at h8;omega)
   go_wp2;simp [bodyPost,results,Tryz.results109,go_sem,c40,c41,c42,c43,c44];exact ⟨zbB (hset _ _ _ (hset _ _ _ (hset _ _ _ (hset _ _ _ (hset _ _ _ hown))))) (by omega),((((hb.setCell (by simp) _).setCell (by simp) _).setCell (by simp) _).setCell (by simp) _).setCell (by simp) _⟩
def OutE {Y:Type} (r:Option Y) (e:Ending) (K:Prop) (P:Y->Prop):Prop:=match r with
 | none=> e= .panicked (yn 7)/\K
 | some y=> P y
theorem za1 {S A B:Type} (F:S->A->Option (B×S)):∀(a b:List A) (s:S),zV F s (a ++ b)=match zV F s a with
  | none=> none
  | some (x,s')=> match zV F s' b with
   | none=> none
   | some (y,s'')=> some (x ++ y,s'')
 | [],b,s=> by
  simp only [List.nil_append,zV];cases zV F s b with
  | none=> rfl
  | some y=> rfl
 | c::a,b,s=> by
  simp only [List.cons_append,zV];cases F s c with
  | none=> rfl
  | some y=>
   obtain ⟨d,s'⟩:=y;simp only;rw [za1 F a b s'];cases zV F s' a with
   | none=> rfl
   | some z=>
    obtain ⟨x,s1⟩:=z;simp only;cases zV F s1 b with
    | none=> rfl
    | some y=> rfl
theorem jD {S A B:Type} {F:S->A->Option (B×S)} {l:List A} {s s':S} {x:List B} {k:Nat} (h:k < l.length) (hk:zV F s (l.take k)=some (x,s')):
  zV F s (l.take (k + 1))=match F s' l[k] with | none=> none | some (y,s'')=> some (x ++ [y],s''):=by
 rw [ZT h,za1,hk];simp only [zV];cases F s' l[k] with
 | none=> rfl
 | some z=> rfl
theorem jO {S A B:Type} {F:S->A->Option (B×S)} {l:List A} {s s':S} {x:List B} {k:Nat} (h:k < l.length) (hk:zV F s (l.take k)=some (x,s')) (hn:F s' l[k]=none):zV F s l=none:=by
 have h1:=jD h hk;rw [hn] at h1;have h2:=za1 F (l.take (k + 1)) (l.drop (k + 1)) s;rw [List.take_append_drop,h1] at h2;exact h2
theorem zk {w a b:World} {m row:Option Nat} (h:w.grownBy a m) (g:a.grownBy b row) (hr:∀r,row=some r->w.heap.size<=r∨m=some r):w.grownBy b m:=by
 obtain ⟨h1,h2,h3,h4,h5⟩:=h;obtain ⟨g1,g2,g3,g4,g5⟩:=g;refine ⟨g1.trans h1,g2.trans h2,g3.trans h3,Nat.le_trans h4 g4,fun k hk hne=> ?_⟩;refine (g5 k (by omega) (fun e=> ?_)).trans (h5 k hk hne);rcases hr k e.symm with h | h
 ·omega
 ·exact hne h.symm
theorem qx (w:World) (m:Option Nat):w.grownBy w m:=⟨rfl,rfl,rfl,ZL _,fun _ _ _=> rfl⟩
theorem yy {w a:World} (h:w.grownBy a none):Below w.heap.size w a:=by
 obtain ⟨h1,h2,h3,h4,h5⟩:=h;exact ⟨h1,h2,h3,h4,fun k hk=> h5 k hk (by simp)⟩
def xD (m:Option Nat) (w:World):Prop:=∀b,m=some b->b < w.heap.size/\∀o,w.cell? ⟨b,o,none⟩=none
theorem xi {w a:World} {m:Option Nat} {B:Nat} (h:w.grownBy a m) (hn:xD m w) (hB:B<=w.heap.size):zh B w a:=by
 intro b o v hb hv;refine (ZB (w:=w) (h.block b (by omega) (fun e=> ?_))).trans hv;have:=(hn b e.symm).2 o;rw [hv] at this;cases this
def blank (A:Nat) (w:World):World:={ w with heap:=w.heap.mapIdx fun i o=> if i < A then .map #[] 0 else o }
theorem yT (A:Nat) (w:World) (b o:Nat):(blank A w).cell? ⟨b,o,none⟩=if b < A then none else w.cell? ⟨b,o,none⟩:=by
 unfold blank World.cell?;simp only [Array.getElem?_mapIdx];cases h:w.heap[b]? with
 | none=> simp
 | some x=>
  by_cases hb:b < A
  ·simp [hb]
  ·simp [hb]
theorem qg {A A' B:Nat} {w w':World} (hA:A'<=A) (h:∀b o v,A<=b->b < B->w.cell? ⟨b,o,none⟩=some v->w'.cell? ⟨b,o,none⟩=some v):zh B (blank A w) (blank A' w'):=by
 intro b o v hb hv;rw [yT] at hv ⊢;by_cases hbA:b < A
 ·simp [hbA] at hv
 ·simp only [hbA,if_false] at hv
  rw [if_neg (by omega)];exact h b o v (by omega) hb hv
theorem q9 (A B:Nat) (w:World):zh B (blank A w) w:=by
 intro b o v hb hv;rw [yT] at hv;by_cases hbA:b < A
 ·simp [hbA] at hv
 ·simpa [hbA] using hv
def qz {X:Type} (At:Nat->World->List Value->X->Prop) (lo:Nat) (row:Option Nat) (w:World) (cs:List Value) (x:X):Prop:=
 ∃A B,lo<=A/\B<=w.heap.size/\(∀g,row=some g->g < A∨B<=g)/\At B (blank A w) cs x
def zad {X:Type} (At:Nat->World->List Value->X->Prop):Prop:=∀B B' w w' cs x,zh B w w'->B<=B'->At B w cs x->At B' w' cs x
theorem qz.keep {X:Type} {At:Nat->World->List Value->X->Prop} (hAt:zad At) {lo:Nat} {row row':Option Nat} {w w':World} {cs:List Value} {x:X} (h:qz At lo row w cs x)
  (hk:∀b,lo<=b->b < w.heap.size->row≠some b->w'.heap[b]?=w.heap[b]?) (hs:w.heap.size<=w'.heap.size) (hr:row'=row∨∃g,row'=some g/\w.heap.size<=g):qz At lo row' w' cs x:=by
 obtain ⟨A,B,h1,h2,h3,h4⟩:=h;refine ⟨A,B,h1,by omega,fun g hg=> ?_,hAt _ _ _ _ _ _ (qg (ZL _) fun b o v ha hb hv=> ?_) (ZL _) h4⟩
 ·rcases hr with rfl | ⟨g',hg',hle⟩
  ·exact h3 g hg
  ·rw [hg] at hg';have:=ZJ hg';omega
 ·refine (ZB (w:=w) (hk b (by omega) (by omega) (fun e=> ?_))).trans hv
  rcases h3 b e with h | h <;> omega
theorem qz.out {X:Type} {At:Nat->World->List Value->X->Prop} (hAt:zad At) {lo:Nat} {row:Option Nat} {w:World} {cs:List Value} {x:X} (h:qz At lo row w cs x):At w.heap.size (blank lo w) cs x:=by
 obtain ⟨A,B,h1,h2,h3,h4⟩:=h;exact hAt _ _ _ _ _ _ (qg h1 fun b o v _ _ hv=> hv) h2 h4
theorem xc:zad zy:=fun _ _ _ _ cs x h hB k=> zy.keep h hB x cs k
theorem jB:zad zo:=fun _ _ _ _ cs x h hB k=> zo.keep h hB x cs k
theorem jo:zad ze:=fun _ _ _ _ cs x h hB k=> ze.keep h hB x cs k
theorem xY:zad yK:=fun _ _ _ _ cs x h hB k=> by
 obtain ⟨h1,v,h2,h3⟩:=k;exact ⟨h1,v,h2,(h3.keep h).mono hB⟩
theorem zag {w:World} {g:Nat} {cs:List Value} (i n:Nat) (h:zI w g 0 cs) (hi:i * n + n<=cs.length):zI w g (0 + i * n) ((cs.drop (i * n)).take n):=by
 intro j hj;have hj':j < n/\i * n + j < cs.length:=by simp at hj;omega
 have e:=h (i * n + j) hj'.2;rw [show 0 + i * n + j=0 + (i * n + j) by omega,e];simp
def zq {X:Type} (At:Nat->World->List Value->X->Prop) (n B:Nat) (w:World) (vs:List Value) (l:List X):Prop:=
 vs.length=l.length * n/\∀i,(h:i < l.length)->At B w ((vs.drop (i * n)).take n) l[i]
theorem zq.nil {X:Type} (At:Nat->World->List Value->X->Prop) (n B:Nat) (w:World):zq At n B w [] []:=⟨by simp,fun i h=> by simp at h⟩
theorem zq.imp {X:Type} {At:Nat->World->List Value->X->Prop} {n B B':Nat} {w w':World} {vs:List Value} {l:List X} (h:zq At n B w vs l) (hk:∀cs x,At B w cs x->At B' w' cs x):zq At n B' w' vs l:=
 ⟨h.1,fun i hi=> hk _ _ (h.2 i hi)⟩
theorem zq.snoc {X:Type} {At:Nat->World->List Value->X->Prop} {n B:Nat} {w:World} {vs cs:List Value} {l:List X} {x:X} (h:zq At n B w vs l) (hc:At B w cs x) (hn:cs.length=n):zq At n B w (vs ++ cs) (l ++ [x]):=by
 refine ⟨by simp [h.1,hn,Nat.add_mul],fun i hi=> ?_⟩;by_cases hlt:i < l.length
 ·have e1:i * n + n<=vs.length:=by rw [h.1,<-Nat.succ_mul];exact Nat.mul_le_mul_right n hlt
  have:=h.2 i hlt;rw [List.getElem_append_left hlt,List.drop_append_of_le_length (by omega),List.take_append_of_le_length (by simp;omega)];exact this
 ·have e:i=l.length:=by simp at hi;omega
  subst e;rw [<-h.1,List.drop_left,<-hn,List.take_length];simpa using hc
theorem zJ {w:World} {A ty n k:Nat} {v:Value} {vs:List Value} (hn:0 < n) (h:w.ownsRow A ty n v k vs):
  ∃a cap,v= .slice a k cap/\k<=9223372036854775807/\(k=0∨∃g,a=some ⟨g,0,none⟩/\g < w.heap.size/\A<=g/\zI w g 0 vs):=by
 obtain ⟨hl,⟨rfl,h2⟩ | ⟨g,cap,cur,rfl,hBg,hg,hk,hm,hsz,htk⟩⟩:=h
 ·exact ⟨none,0,by rw [h2],by omega, .inl h2⟩
 ·refine ⟨_,cap,rfl,by unfold maxLen at hm;omega, .inr ⟨g,rfl,(ZG hg).1,hBg,fun j hj=> ?_⟩⟩
  have e0:j < k * n:=by omega
  have e2:k * n<=cur.size:=by rw [hsz];exact Nat.mul_le_mul_right n hk
  have e1:vs[j]=cur[j]'(by omega):=by
   have:vs[j]?=(cur.toList.take (k * n))[j]?:=by rw [htk]
   rw [List.getElem?_take_of_lt e0] at this;simpa [hj,show j < cur.size by omega] using this
  simp [World.cell?,hg,e1,show j < cur.size by omega]
theorem zW.mk {B:Nat} {w:World}:∀(es:List Exp) (b off:Nat),(∀i,(h:i < es.length)->∃cs,zI w b (off + i * 4) cs/\zy B w cs es[i])->zW B w b off es
 | [],_,_,_=> trivial
 | e::es,b,off,h=> by
  refine ⟨h 0 (Nat.succ_pos _),zW.mk es b (off + 4) fun i hi=> ?_⟩;have:=h (i + 1) (by simpa using hi);rw [show off + (i + 1) * 4=off + 4 + i * 4 from by omega] at this;exact this
theorem zX.mk {B:Nat} {w:World}:∀(es:List Msg) (b off:Nat),(∀i,(h:i < es.length)->∃cs,zI w b (off + i * 2) cs/\yK B w cs es[i])->zX B w b off es
 | [],_,_,_=> trivial
 | e::es,b,off,h=> by
  refine ⟨h 0 (Nat.succ_pos _),zX.mk es b (off + 2) fun i hi=> ?_⟩;have:=h (i + 1) (by simpa using hi);rw [show off + (i + 1) * 2=off + 2 + i * 2 from by omega] at this;exact this
theorem zr.mk {B:Nat} {w:World}:∀(es:List zg) (b off:Nat),(∀i,(h:i < es.length)->∃cs,zI w b (off + i * 5) cs/\zo B w cs es[i])->zr B w b off es
 | [],_,_,_=> trivial
 | e::es,b,off,h=> by
  refine ⟨h 0 (Nat.succ_pos _),zr.mk es b (off + 5) fun i hi=> ?_⟩;have:=h (i + 1) (by simpa using hi);rw [show off + (i + 1) * 5=off + 5 + i * 5 from by omega] at this;exact this
theorem zu.mk {B:Nat} {w:World}:∀(es:List Term) (b off:Nat),(∀i,(h:i < es.length)->∃cs,zI w b (off + i * 5) cs/\ze B w cs es[i])->zu B w b off es
 | [],_,_,_=> trivial
 | e::es,b,off,h=> by
  refine ⟨h 0 (Nat.succ_pos _),zu.mk es b (off + 5) fun i hi=> ?_⟩;have:=h (i + 1) (by simpa using hi);rw [show off + (i + 1) * 5=off + 5 + i * 5 from by omega] at this;exact this
theorem zdA {A:Nat} {w:World} {b off:Nat} {cs:List Value} (h:zI w b off cs) (hb:A<=b):zI (blank A w) b off cs:=by
 intro j hj;rw [yT,if_neg (by omega)];exact h j hj
theorem zan {X:Type} {At:Nat->World->List Value->X->Prop} {n A ty:Nat} {w:World} {vs:List Value} {l:List X} {v:Value} {row:Option Nat} (hAt:zad At) (hn:0 < n) (h:w.ownsRow A ty n v l.length vs)
  (hc:zq (fun _ w cs x=> qz At A row w cs x) n 0 w vs l)
  {P:Nat->Nat->Prop} (hP:∀b off,(∀i,(h:i < l.length)->∃cs,zI (blank A w) b (off + i * n) cs/\At w.heap.size (blank A w) cs l[i])->P b off):SlAt w.heap.size v l.length P:=by
 obtain ⟨a,cap,rfl,hk,h⟩:=zJ hn h;refine ⟨a,cap,rfl,hk,?_⟩;rcases h with h | ⟨g,rfl,hg,hA,hcell⟩
 ·exact .inl h
 ·refine .inr ⟨g,0,rfl,hg,hP g 0 fun i hi=> ⟨_,zdA (zag i n hcell ?_) hA,(hc.2 i hi).out hAt⟩⟩
  rw [hc.1,<-Nat.succ_mul];exact Nat.mul_le_mul_right n hi
theorem zgP {A:Nat} {w:World} {vs:List Value} {l:List Exp} {v:Value} {row:Option Nat} (h:w.ownsRow A 36 4 v l.length vs) (hc:zq (fun _ w cs x=> qz zy A row w cs x) 4 0 w vs l):
  SlAt w.heap.size v l.length (fun b off=> zW w.heap.size (blank A w) b off l):=
 zan xc (by omega) h hc fun b off h=> zW.mk l b off h
theorem zgM {A:Nat} {w:World} {vs:List Value} {l:List Msg} {v:Value} {row:Option Nat} (h:w.ownsRow A 144 2 v l.length vs) (hc:zq (fun _ w cs x=> qz yK A row w cs x) 2 0 w vs l):
  SlAt w.heap.size v l.length (fun b off=> zX w.heap.size (blank A w) b off l):=
 zan xY (by omega) h hc fun b off h=> zX.mk l b off h
theorem zgf {A:Nat} {w:World} {vs:List Value} {l:List zg} {v:Value} {row:Option Nat} (h:w.ownsRow A 130 5 v l.length vs) (hc:zq (fun _ w cs x=> qz zo A row w cs x) 5 0 w vs l):
  SlAt w.heap.size v l.length (fun b off=> zr w.heap.size (blank A w) b off l):=
 zan jB (by omega) h hc fun b off h=> zr.mk l b off h
theorem zfk {A:Nat} {w:World} {vs:List Value} {l:List Term} {v:Value} {row:Option Nat} (h:w.ownsRow A 33 5 v l.length vs) (hc:zq (fun _ w cs x=> qz ze A row w cs x) 5 0 w vs l):
  SlAt w.heap.size v l.length (fun b off=> zu w.heap.size (blank A w) b off l):=
 zan jo (by omega) h hc fun b off h=> zu.mk l b off h
theorem qG {B:Nat} {w:World} {cs:List Value} {e:Exp} (h:zy B w cs e):∃(o n:Int) (t:ByteArray) (a:Option Addr) (k c:Nat),cs= [.int .i64 o, .int .i64 n, .string t, .slice a k c]:=by
 obtain ⟨o,n,t,k⟩:=e;obtain ⟨_,v,rfl,a,c,rfl,_⟩:=h;exact ⟨_,_,_,_,_,_,rfl⟩
theorem qW {B:Nat} {w:World} {cs:List Value} {e:zg} (h:zo B w cs e):∃(o:Int) (t:ByteArray) (a:Option Addr) (k c:Nat) (a':Option Addr) (k' c':Nat) (a'':Option Addr) (k'' c'':Nat),cs= [.int .i64 o, .string t, .slice a k c, .slice a' k' c', .slice a'' k'' c'']:=by
 obtain ⟨o,t,j,d,k⟩:=e;obtain ⟨_,v1,v2,v3,rfl,⟨a1,c1,rfl,_⟩,⟨a2,c2,rfl,_⟩,⟨a3,c3,rfl,_⟩⟩:=h;exact ⟨_,_,_,_,_,_,_,_,_,_,_,rfl⟩
theorem zz {B:Nat} {w:World} {cs:List Value} {e:Term} (h:ze B w cs e):∃(o:Int) (t:ByteArray) (a:Option Addr) (k c:Nat) (a':Option Addr) (k' c':Nat) (a'':Option Addr) (k'' c'':Nat),cs= [.int .i64 o, .string t, .slice a k c, .slice a' k' c', .slice a'' k'' c'']:=by
 obtain ⟨o,t,j,d,k⟩:=e;obtain ⟨_,v1,v2,v3,rfl,⟨a1,c1,rfl,_⟩,⟨a2,c2,rfl,_⟩,⟨a3,c3,rfl,_⟩⟩:=h;exact ⟨_,_,_,_,_,_,_,_,_,_,_,rfl⟩
theorem zfF {B:Nat} {w:World} {cs:List Value} {e:Msg} (h:yK B w cs e):∃(t:ByteArray) (a:Option Addr) (k c:Nat),cs= [.string t, .slice a k c]:=by
 obtain ⟨_,v,rfl,a,c,rfl,_⟩:=h;exact ⟨_,_,_,_,rfl⟩
theorem zgT {S:Type} (B:Nat) (u:World) (m:Option Nat) (w:World) (sv:Value) (Inv:S->World->Prop) (F:S->Exp->Option (Exp×S)) (l:List Exp) (a:Option Addr) (cap:Nat) (hl:l.length<=1000)
  (hsrc:l.length=0∨∃b off,a=some ⟨b,off,none⟩/\b < B/\zW B u b off l) (hu:zh B u w) (hB:B<=w.heap.size)
  (hInv:∀s W W' row,Inv s W->W.grownBy W' row->(∀r,row=some r->w.heap.size<=r)->Inv s W') (hNC:∀s W,Inv s W->xD m W) (hm:∀b,m=some b->b < w.heap.size)
  (hcall:∀k (h:k < l.length) s W cs,Inv s W->w.grownBy W m->zy B u cs l[k]->Calls Tryz.prog 140 #[sv, .agg cs.toArray] W fun e w'=> OutE (F s l[k]) e (W.grownBy w' m) fun (x,s')=> ∃cs',e= .returned (.agg cs'.toArray)/\zy w'.heap.size (blank W.heap.size w') cs' x/\Inv s' w'/\W.grownBy w' m)
  (st:S) (hI:Inv st w):
  Calls Tryz.prog 139 #[.slice a l.length cap, .func (.func 140) #[sv] #[]] w fun e w'=> OutE (zV F st l) e (w.grownBy w' m) fun (l',s')=> ∃v,e= .returned v/\l'.length=l.length/\SlAt w'.heap.size v l'.length (fun b off=> zW w'.heap.size (blank w.heap.size w') b off l')/\Inv s' w'/\w.grownBy w' m:=by
 obtain ⟨i0,hi,hz0,hz1,hz2⟩:=info_parts zeV;have eK:∀args w,(callFunc 140 args).run Tryz.prog w= .ok (.enter 140 args) w:=enters_of Tryz.func140 (by kernel_rfl) rfl;have hnc:=hNC _ _ hI;have hu':=ZH hu;clear hu;go_enter Tryz.func139,Tryz.ntmps139;go_wp2_with fail
 go_loopw [5,10] (fun v i wr=> ∃(k:Nat) (xs:List Exp) (s:S) (vals:List Value),k<=l.length/\i= .int .i64 k/\zV F st (l.take k)=some (xs,s)/\xs.length=k/\wr.ownsRow w.heap.size 36 4 v k vals/\
  zq (fun _ w1 cs x=> qz zy w.heap.size v.ownBlock w1 cs x) 4 0 wr vals xs/\Inv s wr/\w.grownBy wr m) (fun _ i _=> l.length - (intOf i).toNat)
 case atStart=> exact ⟨0, [],st, [],by omega,rfl,by simp [zV],rfl,ZR _ _ _ _,zq.nil _ _ _ _,hI,qx _ _⟩
 case round=>
  obtain ⟨k,xs,s,vals,hk,rfl,hst,hxl,hown,hch,hIs,hg⟩:=hrel;have HXL:=ZH hxl;clear hxl;by_cases hlt:k < l.length
  ·rcases hsrc with h0 | ⟨b,off,rfl,hb,hxs⟩
   ·omega
   obtain ⟨cs,hcell,hat⟩:=zW.get l b off hxs k hlt;have hku:zh B u wr:=hu'.out.trans (xi hg hnc hB);have hBr:B<=wr.heap.size:=Nat.le_trans hB hg.size;have hwr:=hg.size;have hcell':=hcell.keep hku hb;have hmore:=ZH (jD hlt hst);have hnone:=ZH (jO hlt hst);have hc:=hcall k hlt s (wr.alloc (.cells cs.toArray 36)) cs (hInv s _ _ none hIs (ZW _ _ none) (by simp)) (zk hg (ZW _ _ none) (by simp)) hat;obtain ⟨c0,c1,c2,c3,c4,c5,rfl⟩:=qG hat;obtain ⟨d0,d1,d2,d3⟩:=jd hcell';clear hat hcell hcell' hxs hcall hst;obtain ⟨R,hR⟩:∃R,R=F s l[k]:=⟨_,rfl⟩;rw [<-hR] at hc hmore hnone;have HR:=ZH hR;clear hR;cases R with
   | none=>
    go_wp2_with (go_at_call 140;refine hc.mono ?_;clear hc;rintro e w3 ⟨rfl,hgp⟩);simp only [bodyPost];rw [hnone.out (by simp)];exact ⟨by trivial,rfl,zk (zk hg (ZW wr (.cells #[.int .i64 c0, .int .i64 c1, .string c2, .slice c3 c4 c5] 36) none) (by simp)) hgp (fun r h=> .inr h)⟩
   | some r=>
    obtain ⟨x,s'⟩:=r
    have hj:∀(w3:World) (cs':List Value),zy w3.heap.size (blank (wr.alloc (.cells #[.int .i64 c0, .int .i64 c1, .string c2, .slice c3 c4 c5] 36)).heap.size w3) cs' x->Inv s' w3->(wr.alloc (.cells #[.int .i64 c0, .int .i64 c1, .string c2, .slice c3 c4 c5] 36)).grownBy w3 m->
      ∃e0 e1 e2 e3 e4 e5 gg cp w',cs'= [.int .i64 e0, .int .i64 e1, .string e2, .slice e3 e4 e5]/\(Builtin.append_ #[29,29] 29 #[u5, .slice (some ⟨w3.heap.size,0,none⟩) 1 1]).run Tryz.prog (w3.alloc (.cells #[.int .i64 e0, .int .i64 e1, .string e2, .slice e3 e4 e5] 36))= .ok (.slice (some ⟨gg,0,none⟩) (k + 1) cp) w'/\
       w'.ownsRow w.heap.size 36 4 (.slice (some ⟨gg,0,none⟩) (k + 1) cp) (k + 1) (vals ++ [.int .i64 e0, .int .i64 e1, .string e2, .slice e3 e4 e5])/\zq (fun _ w1 cs x=> qz zy w.heap.size (Value.slice (some ⟨gg,0,none⟩) (k + 1) cp).ownBlock w1 cs x) 4 0 w' (vals ++ [.int .i64 e0, .int .i64 e1, .string e2, .slice e3 e4 e5]) (xs ++ [x])/\Inv s' w'/\w.grownBy w' m:=by
     intro w3 cs' hat' hI' hg';obtain ⟨e0,e1,e2,e3,e4,e5,rfl⟩:=qG hat';obtain ⟨W4,hW4⟩:∃W4,W4=w3.alloc (.cells #[.int .i64 e0, .int .i64 e1, .string e2, .slice e3 e4 e5] 36):=⟨_,rfl⟩;have hg3:wr.grownBy w3 m:=zk (zk (qx _ _) (ZW wr (.cells #[.int .i64 c0, .int .i64 c1, .string c2, .slice c3 c4 c5] 36) none) (by simp)) hg' (fun r h=> .inr h);have hg4:wr.grownBy W4 m:=by rw [hW4];exact zk hg3 (ZW _ _ none) (by simp)
     have hoA:=zt hown hg4 (fun b hb e=> by have:=hm b e;have:=(hown.lt b hb).1;omega)
     obtain ⟨v',w',hr,h1,h2,h3,h4⟩:=run_append_own_at (P:=Tryz.prog) W4 w.heap.size 29 29 36 i0 (.agg #[.int .i64 0, .int .i64 0, .string ⟨#[]⟩, .slice none 0 0]) 4 56 Tryz.underlying29 hi hz0 hz1 hz2 rfl (by decide) _ k vals hoA
      ⟨w3.heap.size,0,none⟩ 1 1 [.int .i64 e0, .int .i64 e1, .string e2, .slice e3 e4 e5] rfl (by
       intro j u hj;have e:(⟨w3.heap.size,0,none⟩:Addr).add j=⟨w3.heap.size,j,none⟩:=by unfold Addr.add;by_cases h:j=0 <;> simp [h]
       rw [e,hW4,ZA _ _ _ _ rfl];simpa using hj) (by simp [Value.oneCell']) (by unfold maxLen;omega) (by omega) (by have:=hg4.size;omega)
     have hs3:=hg3.size;have hs4:W4.heap.size=w3.heap.size + 1:=by rw [hW4];simp
     have hlo:=hown.lt
     have hch':zq (fun _ w1 cs x=> qz zy w.heap.size v'.ownBlock w1 cs x) 4 0 w' (vals ++ [.int .i64 e0, .int .i64 e1, .string e2, .slice e3 e4 e5]) (xs ++ [x]):=by
      have hch1:zq (fun _ w1 cs x=> qz zy w.heap.size v'.ownBlock w1 cs x) 4 0 w' vals xs:=⟨hch.1,fun i hi=> qz.keep xc (hch.2 i hi) (fun b hb1 hb2 hb3=>
       (h2.block b (by omega) (fun e=> hb3 e.symm)).trans (hg4.block b hb2 (fun e=> by have:=hm b e.symm;omega))) (by have:=h2.size;omega) (by
        rcases h4 with h4 | h4
        ·exact .inl h4
        ·exact .inr ⟨_,h4,by omega⟩)⟩
      refine zq.snoc hch1 ?_ rfl
      ·refine ⟨wr.heap.size + 1,w3.heap.size,by omega,by have:=h2.size;omega,fun g hg=> ?_,?_⟩
       ·rcases h4 with h4 | h4
        ·rw [h4] at hg;have:=(hlo g hg).2;omega
        ·rw [h4] at hg;have:=ZJ hg;omega
       ·rw [World.size_alloc] at hat'
        refine xc _ _ _ _ _ _ (qg (ZL _) fun b o v ha hb hv=> ?_) (ZL _) hat';have e1:W4.cell? ⟨b,o,none⟩=some v:=by rw [hW4,ZP _ _ _ hb];exact hv
        refine (ZB (w:=W4) (h2.block b (by omega) (fun e=> ?_))).trans e1;have:=(hlo b e.symm).2;omega
     have hI4:Inv s' w':=hInv s' _ _ _ (hInv s' _ W4 none hI' (by rw [hW4];exact ZW _ _ none) (by simp)) h2 (fun r hr=> (hlo r hr).1);have hgw:w.grownBy w' m:=zk (zk hg hg4 (fun r h=> .inr h)) h2 (fun r hr=> .inl (hlo r hr).1);obtain ⟨_,⟨_,h0⟩ | ⟨gg,cp,cur,hvf,_⟩⟩:=id h1
     ·omega
     subst hvf;rw [hW4] at hr;exact ⟨_,_,_,_,_,_,gg,cp,w',rfl,hr,h1,hch',hI4,hgw⟩
    clear hch hIs hown hku
    go_wp2_with (first
     | (go_at_call 140;refine hc.mono ?_;clear hc;rintro e w3 ⟨cs',rfl,hat',hI',hg'⟩;obtain ⟨e0,e1,e2,e3,e4,e5,gg,cp,w',rfl,hr,h1,h2,h3,h4⟩:=hj w3 cs' hat' hI' hg';have H1:=ZH h1;have H2:=ZH h2;have H3:=ZH h3;have H4:=ZH h4;clear hj hat' hI' hg' h1 h2 h3 h4)
     | (show wpList _ _ _ (⟨some 19,_,_,_,_,_⟩::_) _ _;refine qe rfl (.tmp 14) (.tmp 18) 29 29 rfl rfl rfl hr ?_))
    go_roundw
    case rel=> exact ⟨k + 1,xs ++ [x],s',_,by omega,by go_num,hmore.out,by simp [HXL.out],H1.out,H2.out,H3.out,H4.out⟩
    case measure=> simp [intOf];omega
  ·obtain rfl:k=l.length:=by omega
   rw [List.take_length] at hst;have HXL':=HXL.out;have hsl:=zgP (by rw [HXL'];exact hown) hch;have HSL:=ZH hsl;obtain ⟨aa,cc,hvv,_⟩:=zJ (by omega) hown;subst hvv;clear hsl hch hown;go_wp2;go_ret;rw [hst];exact ⟨_,rfl,HXL',HSL.out,hIs,hg⟩
end
end Go.Proofs.YtjmlaeofjjhfmaaGreat
