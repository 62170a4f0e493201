/- Lemmas. -/
import Derived.RangeFuncFrom
import Derived.RangeFuncLeaves
import Derived.Test.YtjmlaeofjjhfmaaGreatSZZ
set_option linter.unusedVariables false
set_option linter.unusedSimpArgs false
set_option maxRecDepth 10000
set_option maxHeartbeats 16000000
namespace Go.Proofs.YtjmlaeofjjhfmaaGreat
open Go Go.RowKit
variable {F:Fence} {n:Nat} {P:Program}
def wpE (F:Fence) (n:Nat) (P:Program) (c:Code) (Q:Exit->Act->World->Prop) (a:Act) (w:World):Prop:=
 ∀(b:Frame) (k:List Item) (cs:List Frame),b.roundOf=F.round->F.fn b.fn->(∃fn,P.funcs[b.fn]?=some fn)->F.room (cs.length + 1 + n)->
  ∃e a' w',Q e a' w'/\ArrivesIn (Machine.fenced P F) P (lone (b.atR a (.code c::k)) cs w) b k cs e a' w'
section rules
variable {Q:Exit->Act->World->Prop} {a:Act} {w:World}
theorem zc1 {c:Code} (h:c.wpIn F n P Q a w):wpE F n P c Q a w:=fun b k cs hro hb _ hr=> h b k cs hro hb hr
theorem zmR {x y:Code} (h:wpE F n P x (Exit.then (wpE F n P y Q) Q) a w):wpE F n P (.seq x y) Q a w:=by
 intro b k cs hro hb hx hr;have h0:(lone (b.atR a (.code (.seq x y)::k)) cs w).fenced P F:=fenced_calm hb hr rfl;obtain ⟨e,a₁,w₁,hq,harr⟩:=h b (.code y::k) cs hro hb hx hr;cases e with
 | normal=>
  obtain ⟨e₂,a₂,w₂,hq₂,harr₂⟩:=hq b k cs hro hb hx hr;exact ⟨e₂,a₂,w₂,hq₂, .of_steps (.head h0 stepR_seq harr) harr₂⟩
 | exit id=> exact ⟨_,a₁,w₁,hq, .of_steps (.one h0 stepR_seq) (.pass (x:= .code y) rfl (fun _ _=> .inl (by simp)) harr)⟩
 | goto l=> exact ⟨_,a₁,w₁,hq, .of_steps (.one h0 stepR_seq) (.pass (x:= .code y) rfl (fun _ _=> .inl (by simp)) harr)⟩
 | ret=> exact ⟨_,a₁,w₁,hq, .of_steps (.one h0 stepR_seq) (.pass (x:= .code y) rfl (fun _ _=> .inl (by simp)) harr)⟩
 | panic ch=> exact ⟨_,a₁,w₁,hq, .of_steps (.one h0 stepR_seq) (.pass (x:= .code y) rfl (fun _ _=> .inl (by simp)) harr)⟩
 | outgrown=> exact ⟨_,a₁,w₁,hq, .of_steps (.one h0 stepR_seq) (.pass (x:= .code y) rfl (fun _ _=> .inl (by simp)) harr)⟩
theorem zfY {id:Nat} {c:Code} (h:wpE F n P c (Exit.inBlock id Q) a w):wpE F n P (.block id c) Q a w:=by
 intro b k cs hro hb hex hr;have h0:(lone (b.atR a (.code (.block id c)::k)) cs w).fenced P F:=fenced_calm hb hr rfl;obtain ⟨e,a₁,w₁,hq,harr⟩:=h b (.inBlock id::k) cs hro hb hex hr;cases e with
 | normal=> exact ⟨.normal,a₁,w₁,hq, .head h0 stepR_block (StepsIn.trans harr (.one (fenced_calm hb hr rfl) stepR_inBlock))⟩
 | exit id'=>
  by_cases hid:id'=id
  ·simp only [Exit.inBlock,hid,if_true] at hq
   exact ⟨.normal,a₁,w₁,hq, .head h0 stepR_block (harr.1 k (by simp [exitTo,hid]))⟩
  ·simp only [Exit.inBlock,hid,if_false] at hq
   have this:(id==id')=false:=by simp;exact fun h=> hid h.symm
   have hx:exitTo id' (.inBlock id::k)=exitTo id' k:=by simp [exitTo,this]
   exact ⟨.exit id',a₁,w₁,hq,fun k' hk=> .head h0 stepR_block (harr.1 k' (by rw [hx];exact hk)),
    fun hr' hk=> let ⟨k₁,h1,h2⟩:=harr.2 hr' (by rw [hx];exact hk);⟨k₁,h1, .head h0 stepR_block h2⟩⟩
 | goto l=>
  have hx:gotoIn l (.inBlock id::k)=gotoIn l k:=by simp [gotoIn]
  exact ⟨_,a₁,w₁,hq,fun k' hk=> .head h0 stepR_block (harr.1 k' (by rw [hx];exact hk)),
   fun hr' hk=> let ⟨k₁,h1,h2⟩:=harr.2 hr' (by rw [hx];exact hk);⟨k₁,h1, .head h0 stepR_block h2⟩⟩
 | ret=> exact ⟨_,a₁,w₁,hq, .of_steps (.one h0 stepR_block) harr⟩
 | panic ch=> exact ⟨_,a₁,w₁,hq, .of_steps (.one h0 stepR_block) harr⟩
 | outgrown=> exact ⟨_,a₁,w₁,hq, .of_steps (.one h0 stepR_block) harr⟩
end rules
def zjA (P:Program) (l:Nat) (R:Ending->World->Prop):Exit->Act->World->Prop
 | .panic chain,a,w=> a.defers= []/\R (.panicked chain) w
 | e,a,w=> roundPost P l R e a w
theorem zd5 {l:Nat} {f:FuncId} {tmps:Array Value} {assign body:Code} {w:World} {R:Ending->World->Prop} (hF:F.fn f) (hex:∃fn,P.funcs[f]?=some fn)
  (h:assign.wpIn (F.inRound l) n P (Exit.then (fun a₁ w₁=> ∃w₂,(Instr.beginRound l).run P w₁= .ok () w₂/\body.wpIn (F.inRound l) n P (zjA P l R) a₁ w₂) (fun _ _ _=> False))
   { tmps:=tmps,defers:= [] } w):
  RoundIn F n P l f tmps assign body w R:=by
 refine ⟨hF,fun c cs hr=> ?_⟩
 let b:Frame:={ (default:Frame) with fn:=f,kind:= .normal,roundOf:=some l }
 have hb0:Frame.round l f tmps assign body .normal=b.atR { tmps:=tmps,defers:= [] } [.code assign, .beginRound, .code body]:=by
  simp [Frame.round,Frame.atR,b]
 have hr':(F.inRound l).room ((c::cs).length + 1 + n):=hr;have hF':(F.inRound l).fn b.fn:=hF;obtain ⟨e,a₁,w₁,hq,harr⟩:=h b [.beginRound, .code body] (c::cs) rfl hF' hr';rw [<-hb0] at harr;cases e with
 | normal=>
  obtain ⟨w₂,hbr,hbody⟩:=hq
  have s1:StepsIn (Machine.fenced P (F.inRound l)) P (lone (b.atR a₁ [.beginRound, .code body]) (c::cs) w₁) (lone (b.atR a₁ [.code body]) (c::cs) w₂):=
   .one (fenced_calm (fr:=b.atR a₁ [.beginRound, .code body]) hF' hr' rfl) (stepR_beginRound rfl hbr)
  obtain ⟨e₂,a₂,w₃,hq₂,harr₂⟩:=hbody b [] (c::cs) rfl hF' hr';cases e₂ with
  | normal=>
   obtain ⟨v,w₄,hend,hR⟩:=hq₂;exact ⟨.returned v,w₄,hR,(StepsIn.trans harr s1).trans (StepsIn.trans harr₂ (.one (fenced_calm (fr:=b.atR a₂ []) hF' hr' rfl) (stepR_round_end rfl rfl hend)))⟩
  | ret=>
   obtain ⟨v,w₄,hend,hR⟩:=hq₂;obtain ⟨k₁,hs⟩:=harr₂.2 rfl;exact ⟨.returned v,w₄,hR,(StepsIn.trans harr s1).trans (StepsIn.trans hs (.one (fenced_calm (fr:=b.atR a₂ (.code .ret::k₁)) hF' hr' rfl) (stepR_round_ret rfl rfl hend)))⟩
  | exit id=>
   obtain ⟨v,w₄,hend,hR⟩:=hq₂;obtain ⟨k₁,hk,hs⟩:=harr₂.2 rfl rfl;exact ⟨.returned v,w₄,hR,(StepsIn.trans harr s1).trans (StepsIn.trans hs (.one (fenced_calm (fr:=b.atR a₂ (.code (.exit id)::k₁)) hF' hr' rfl) (stepR_round_exit rfl rfl hk hend)))⟩
  | goto t=>
   obtain ⟨v,w₄,hend,hR⟩:=hq₂;obtain ⟨k₁,hk,hs⟩:=harr₂.2 rfl rfl;exact ⟨.returned v,w₄,hR,(StepsIn.trans harr s1).trans (StepsIn.trans hs (.one (fenced_calm (fr:=b.atR a₂ (.code (.goto t)::k₁)) hF' hr' rfl) (stepR_round_goto rfl rfl hk hend)))⟩
  | panic chain=>
   obtain ⟨hd,hR⟩:=hq₂;obtain ⟨todo,hs⟩:=harr₂;have hl:({ b.atR a₂ todo with mode:= .panicking chain }:Frame).leaving P w₃ (.panicked chain):=⟨rfl,hd,hex⟩;have hfen:(lone ({ b.atR a₂ todo with mode:= .panicking chain }:Frame) (c::cs) w₃).fenced P (F.inRound l):=fenced_leaving (n:=n) hF' hr' hl;exact ⟨.panicked chain,w₃,hR,(StepsIn.trans harr s1).trans (StepsIn.trans hs (.one hfen (step_leave_panicked hl)))⟩
  | outgrown=> exact hq₂.elim
 | exit id=> exact hq.elim
 | goto t=> exact hq.elim
 | ret=> exact hq.elim
 | panic chain=> exact hq.elim
 | outgrown=> exact hq.elim
theorem zgm {g:Operand} {ps:Array Tmp} {assign body:Code} {Q:Exit->Act->World->Prop} {a:Act} {w:World}
  (h:∀fn,F.fn fn->(∃f,P.funcs[fn]?=some f)->∃(l:Nat) (mark:List Deferred) (w₁:World) (d:Deferred) (w₁':World) (f:FuncId) (args:Array Value) (w₂:World),
   (Instr.enterLoop fn a.tmps ps assign body F.round).run P w= .ok (l,mark) w₁/\
   (resolve a.eval (rangeCall g l) 0).run P w₁= .ok d w₁'/\
   (∀f',Target.leads P w₁' d.target d.args=some f'->F.fn f')/\
   (invoke d.target d.args).run P w₁'= .ok (.enter f args) w₂/\
   (F.depth.isSome=true->1<=n)/\
   CallsIn F (n - 1) P f args w₂ (rangePost F n P l Q { a with defers:=mark ++ a.defers })):
  wpE F n P (.rangeFunc g ps assign body) Q a w:=by
 intro b k cs hro hb hex hr;obtain ⟨l,mark,w₁,d,w₁',f,args,w₂,he,hres,hlead,hinv,hn,hF,hcall⟩:=h b.fn hb hex;rw [<-hro] at he
 have h0:(lone (b.atR a (.code (.rangeFunc g ps assign body)::k)) cs w).fenced P F:=by
  refine fenced_lone (.inl hb) (fun f' hf'=> hlead f' ?_) (Fence.room_le hr (by omega));have hev:=Frame.eval_atR b a (.code (.rangeFunc g ps assign body)::k);simp only [Frame.atR] at hev;simp only [Frame.about,Frame.atR,he,hev,hres] at hf';exact hf'
 have henter:=stepR_rangeFunc (P:=P) (b:=b) (a:=a) (k:=k) (cs:=cs) (w:=w) he hres hinv;have hroom:F.room ((b.atR { a with defers:=mark ++ a.defers } (.inRangeFunc l::k)::cs).length + 1 + (n - 1)):=Fence.room_enter hr hn;obtain ⟨e,w₃,fr,hR,hsteps,hfn,hleave⟩:=hcall (b.atR { a with defers:=mark ++ a.defers } (.inRangeFunc l::k)::cs) hroom;cases e with
 | outgrown=>
  obtain ⟨a₀,w₀,hq⟩:=hR;exact ⟨.outgrown,a₀,w₀,hq, .inr (Outgrown.of_steps (.one henter) hsteps)⟩
 | returned v=>
  have hl:(lone fr (b.atR { a with defers:=mark ++ a.defers } (.inRangeFunc l::k)::cs) w₃).fenced P F:=fenced_leaving (hfn▸hF) hroom hleave;obtain ⟨jump,w₄,hend,hj⟩:=hR
  have sback:StepsIn (Machine.fenced P F) P (lone (b.atR a (.code (.rangeFunc g ps assign body)::k)) cs w) (lone (b.atR { a with defers:=mark ++ a.defers } ((jump.map Item.code).toList ++ k)) cs w₄):=by
   refine .head h0 henter (StepsIn.trans hsteps (.head hl ?_ (.one (fenced_calm (fr:=b.atR { a with defers:=mark ++ a.defers } (.endRangeFunc l::k)) hb hr rfl) (stepR_endRangeFunc hend))));rw [<-finish_atR_inRangeFunc l v];exact step_leave_returned hleave
  cases jump with
  | none=> exact ⟨.normal,_,w₄,hj,sback⟩
  | some c=>
   obtain ⟨e',a'',w₅,hq,harr⟩:=hj b k cs hro hb hr;exact ⟨e',a'',w₅,hq, .of_steps sback harr⟩
 | panicked chain=>
  have hl:(lone fr (b.atR { a with defers:=mark ++ a.defers } (.inRangeFunc l::k)::cs) w₃).fenced P F:=fenced_leaving (hfn▸hF) hroom hleave;refine ⟨.panic chain,_,w₃,hR, .inRangeFunc l::k, .head h0 henter (StepsIn.trans hsteps (.one hl ?_))⟩;rw [<-Frame.raise_atR];exact step_leave_panicked hleave
def zkI {α:Type} (F:Fence) (n:Nat) (P:Program) (g:Nat) (lb:Array Value) (encs:α->Array Value) (Kp:World->World->Prop) (S Sp:List α->Prop) (Go:List α->α->Prop) (w:World):Prop:=
 ∀(l:Nat) (J:List α->World->Prop) (Jp:List PanicEntry->List α->World->Prop) (W:World),Below w.heap.size w W->AbidesFrom W.heap.size J->(∀c,AbidesFrom W.heap.size (Jp c))->
  (∀pre x W1,J pre W1->Sp (pre ++ [x])->YieldAt F (n - 1) P l (encs x) W1 fun e W'=>
   (e= .returned (.bool true)/\Go pre x/\J (pre ++ [x]) W'/\Kp W1 W')∨(∃c,e= .panicked c/\Jp c (pre ++ [x]) W'))->
  J [] W->
  CallsIn F n P g (#[.func (.yield l) #[] #[]] ++ lb) W fun e W'=> (∃v,e= .returned v/\∃xs,S xs/\J xs W')∨(∃c,e= .panicked c/\∃pre,Sp pre/\Jp c pre W')
def zlG {α:Type} (Kp:World->World->Prop) (I:List α->World->Prop) (Ip:List PanicEntry->List α->World->Prop) (Go:Prop) (xs:List α) (W:World):Exit->Act->World->Prop
 | .normal,_,W'=> KeepsOthers W W'/\Kp W W'/\Go/\I xs W'
 | .panic c,a,W'=> a.defers= []/\KeepsOthers W W'/\Ip c xs W'
 | _,_,_=> False
theorem za7 {α:Type} {g:Operand} {ps:Array Tmp} {assign body:Code} {Q:Exit->Act->World->Prop} {a:Act} {w:World}
  (hro:F.round=none) (h1:1<=n) {gf:Nat} {lb:Array Value} (hg:a.eval g= .func (.func gf) #[] lb) (hFg:F.fn gf) (eg:∀args w,(callFunc gf args).run P w= .ok (.enter gf args) w)
  {encs:α->Array Value} {Kp:World->World->Prop} {S Sp:List α->Prop} {Go:List α->α->Prop} {w0:World} (hseq:zkI F (n - 1) P gf lb encs Kp S Sp Go w0)
  (hKt:∀{A B C:World},Kp A B->Kp B C->Kp A C) (hKb:∀(W:World) (l:Nat) (o o':Obj),w.heap.size<=l->W.heap[l]?=some o->o.isCells=false->o.isWalk=false->Kp W (W.putObj l o')) (hb0:Below w0.heap.size w0 w) (hps:∀x,(encs x).size=ps.size)
  (I:List α->World->Prop) (Ip:List PanicEntry->List α->World->Prop) (hI:OwnFrom w.heap.size I) (hIp:∀c,OwnFrom w.heap.size (Ip c)) (h0:I [] w) (a₁:α->Act)
  (hassign:∀(l:Nat) (x:α) (W:World) (K:Act->World->Prop),K (a₁ x) W->
   assign.wpIn (F.inRound l) (n - 1 - 1) P (Exit.then K (fun _ _ _=> False)) { tmps:=(ps.zip (encs x)).foldl (fun t (p,v)=> t.setIfInBounds p v) a.tmps,defers:= [] } W)
  (hbody:∀(l:Nat) (pre:List α) (x:α) (W:World),I pre W->Sp (pre ++ [x])->body.wpIn (F.inRound l) (n - 1 - 1) P (zlG Kp I Ip (Go pre x) (pre ++ [x]) W) (a₁ x) W)
  (hdone:∀(D:Nat) (xs:List α) (W:World),w.heap.size<=D->S xs->I xs W->W.heap[D]?=some (.deferred (some []))->Q .normal { a with defers:={ target:= .collected D,args:=#[] }::a.defers } W)
  (hup:∀(D:Nat) (c:List PanicEntry) (pre:List α) (W:World),w.heap.size<=D->Sp pre->Ip c pre W->W.heap[D]?=some (.deferred (some []))->Q (.panic c) { a with defers:={ target:= .collected D,args:=#[] }::a.defers } W):
  wpE F n P (.rangeFunc g ps assign body) Q a w:=by
 refine zgm ?_;intro fn hfn hex;rw [hro];obtain ⟨rec,hrec⟩:∃rec:LoopState->Option Code->Loop,rec=fun st pe=> { state:=st,pending:=pe,fn,tmps:=a.tmps,params:=ps,assign,body,defers:=w.heap.size }:=⟨_,rfl⟩;obtain ⟨W1,hW1⟩:∃W1,(w.alloc (.deferred (some []))).alloc (.loop (rec .ready none))=W1:=⟨_,rfl⟩
 have hL1:W1.heap[w.heap.size + 1]?=some (.loop (rec .ready none)):=by
  rw [<-hW1];have:=ZN (w.alloc (.deferred (some []))) (.loop (rec .ready none));rwa [World.size_alloc] at this
 have hK1:W1.heap[w.heap.size]?=some (.deferred (some [])):=by
  rw [<-hW1];exact (ZO _ _ _ (by simp)).trans (ZN w _)
 have hI1:I [] W1:=by rw [<-hW1];exact hI.alloc _ (hI.alloc _ h0)
 have hb1:Below w0.heap.size w0 W1:=by
  rw [<-hW1];exact hb0.trans (((ZQ w _).alloc (by simp) _).mono hb0.size)
 refine ⟨w.heap.size + 1, [{ target:= .collected w.heap.size,args:=#[] }],W1,{ target:= .fn (.func gf) lb,args:=#[.func (.yield (w.heap.size + 1)) #[] #[]] },W1,gf,
  #[.func (.yield (w.heap.size + 1)) #[] #[]] ++ lb,W1,?_,?_,?_,?_,fun _=> h1,?_⟩
 ·rw [<-hW1,hrec];exact run_enterLoop_outer _ _ _ _ _
 ·simp only [resolve,hg]
  simp [go_sem]
 ·intro f' hf';simp [Target.leads] at hf';subst hf';exact hFg
 ·simp [invoke,go_sem,eg]
 ·have hnw:∀{A B:World} {row:Option Nat},(∀r,row=some r->W1.heap.size<=r/\∃o:Obj,A.heap[r]?=some o/\o.isWalk=true)->(∀r,row=some r->w.heap.size<=r/\∃o:Obj,A.heap[r]?=some o/\o.isCells=false):=
   fun hr r e=> by obtain ⟨hB,o,ho,hw⟩:=hr r e;exact ⟨by rw [<-hW1] at hB;simp at hB;omega,o,ho,Obj.not_cells_of_walk hw⟩
  refine (hseq (w.heap.size + 1)
   (fun pre W=> I pre W/\W.heap[w.heap.size + 1]?=some (.loop (rec .ready none))/\W.heap[w.heap.size]?=some (.deferred (some [])))
   (fun c pre W=> Ip c pre W/\W.heap[w.heap.size]?=some (.deferred (some [])))
   W1 hb1
   (fun s A B row hs hg' hr=> ⟨hI s A B row hs.1 hg' (hnw (B:=B) hr),(grownBy_keeps hg' (fun r e=> (hr r e).2) hs.2.1 rfl).trans hs.2.1,(grownBy_keeps hg' (fun r e=> (hr r e).2) hs.2.2 rfl).trans hs.2.2⟩)
   (fun c s A B row hs hg' hr=> ⟨hIp c s A B row hs.1 hg' (hnw (B:=B) hr),(grownBy_keeps hg' (fun r e=> (hr r e).2) hs.2 rfl).trans hs.2⟩)
   ?_ ⟨hI1,hL1,hK1⟩).mono ?_
  ·rintro pre x W ⟨hi,hl,hk⟩ hsp
   have hlt:w.heap.size + 1 < W.heap.size:=(ZG hl).1;have hy:=run_yield (P:=P) (args:=encs x) hl (by rw [hrec];exact hps x);rw [hrec] at hy;refine ⟨fn,_,assign,body,hy,zd5 hfn hex (hassign _ x W _ ⟨_,run_beginRound hl (by rw [hrec]),?_⟩)⟩;have hl2:(W.putObj (w.heap.size + 1) (.loop { rec .ready none with state:= .busy })).heap[w.heap.size + 1]?=some (.loop { rec .ready none with state:= .busy }):=World.putObj_heap_same hlt;have hk2:(W.putObj (w.heap.size + 1) (.loop { rec .ready none with state:= .busy })).heap[w.heap.size]?=some (.deferred (some [])):=(World.putObj_heap_other (by omega)).trans hk;have hw2:Kp W (W.putObj (w.heap.size + 1) (.loop { rec .ready none with state:= .busy })):=hKb _ _ _ _ (by omega) hl rfl rfl;refine wpIn_mono (hbody _ pre x _ (hI.putObj _ hi (by omega) hl rfl) hsp) ?_;rintro e a3 W3 hp;cases e with
   | normal=>
    obtain ⟨hk3,hkp3,hgo,hi3⟩:=hp;have hl3:=hk3.same _ _ hl2 rfl;have hr:=run_endRound (P:=P) none hl3;rw [hrec] at hr;have hl3':=hl3;rw [hrec] at hl3';refine ⟨_,_,hr, .inl ⟨rfl,hgo,⟨hI.putObj _ hi3 (by omega) hl3' rfl,?_,(World.putObj_heap_other (by omega)).trans (hk3.same _ _ hk2 rfl)⟩,hKt (hKt hw2 hkp3) (hKb _ _ _ _ (by omega) hl3' rfl rfl)⟩⟩;rw [hrec];exact World.putObj_heap_same (ZG hl3).1
   | ret=> exact hp.elim
   | exit id=> exact hp.elim
   | goto t=> exact hp.elim
   | panic ch=>
    obtain ⟨hd,hk3,hi3⟩:=hp;exact ⟨hd, .inr ⟨ch,rfl,hi3,hk3.same _ _ hk2 rfl⟩⟩
   | outgrown=> exact hp.elim
  ·rintro e W2 (⟨v,rfl,xs,hS,hi,hl,hk⟩ | ⟨c,rfl,pre,hSp,hi,hk⟩)
   ·exact ⟨none,_,by have:=run_endLoop (P:=P) hl (by rw [hrec];simp);rw [hrec] at this;exact this,hdone _ xs _ (ZL _) hS (hI.putObj _ hi (by omega) hl rfl) ((World.putObj_heap_other (by omega)).trans hk)⟩
   ·exact hup _ c pre _ (ZL _) hSp hi hk
theorem zcB {f:FuncId} {fn:Func} {c:Code} {args:Array Value} {w:World} {R:Ending->World->Prop}
  (hf:P.funcs[f]?=some fn) (hb:fn.body=some c) (hF:F.fn f)
  (h:wpE F n P c (bodyPostM F n P fn R) { tmps:=args ++ Array.replicate (fn.ntmps - args.size) undef,defers:= [] } w) (hro:F.round=none:=by rfl):CallsIn F n P f args w R:=by
 refine ⟨hF,fun cs hr=> ?_⟩
 let b:Frame:={ (default:Frame) with fn:=f,kind:= .normal,roundOf:=none }
 have henter:Frame.enter P f args .normal=
   b.atR { tmps:=args ++ Array.replicate (fn.ntmps - args.size) undef,defers:= [] } [.code c]:=by
  simp [Frame.enter,Frame.atR,hf,hb,b]
 obtain ⟨e,a',w',hq,harr⟩:=h b [] cs hro.symm hF ⟨fn,hf⟩ hr;rw [<-henter] at harr;cases e with
 | normal=>
  obtain ⟨e',w'',fr',hR,hs,hfn,hl⟩:=leaves_stepsInM a'.defers .returning w' { b.atR a' [] with mode:= .returning } cs rfl rfl rfl hf rfl hF hr hq;exact ⟨e',w'',fr',hR,ComesIn.of_steps (StepsIn.trans harr (.one (fenced_calm (fr:=b.atR a' []) hF hr rfl) (stepR_end rfl))) hs,hfn,hl⟩
 | ret=>
  obtain ⟨todo,hs₀⟩:=harr.1 rfl;obtain ⟨e',w'',fr',hR,hs,hfn,hl⟩:=leaves_stepsInM a'.defers .returning w' { b.atR a' todo with mode:= .returning } cs rfl rfl rfl hf rfl hF hr hq;exact ⟨e',w'',fr',hR,ComesIn.of_steps hs₀ hs,hfn,hl⟩
 | panic chain=>
  obtain ⟨todo,hs₀⟩:=harr;obtain ⟨e',w'',fr',hR,hs,hfn,hl⟩:=leaves_stepsInM a'.defers (.panicking chain) w' { b.atR a' todo with mode:= .panicking chain } cs rfl rfl rfl hf rfl hF hr hq;exact ⟨e',w'',fr',hR,ComesIn.of_steps hs₀ hs,hfn,hl⟩
 | exit id=> exact hq.elim
 | goto l=> exact hq.elim
 | outgrown=> exact ⟨.outgrown,w',b,hq,harr.resolve_left (by simp [b]),rfl,trivial⟩
end Go.Proofs.YtjmlaeofjjhfmaaGreat
