/- Lemmas. -/
import Derived.Test.YtjmlaeofjjhfmaaGreatS00
import Derived.WalkKit
import Derived.ProofKit
import Derived.OpenShut
import Derived.ShutString
import Derived.ChangeOld
import Derived.Below
import Derived.Deep.Strs
set_option linter.unusedVariables false
set_option linter.unusedSimpArgs false
set_option maxRecDepth 10000
set_option maxHeartbeats 16000000
namespace Go.Proofs.YtjmlaeofjjhfmaaGreat
open Go.ChangeShapes Go.WideShapes Go.ChangeAt Go.RowKit Go.Deep
theorem zdx {W:World} {b o:Nat} {v:Value} (h:W.cell? ⟨b,o,none⟩=some v):b < W.heap.size:=by
 unfold World.cell? at h;cases hb:W.heap[b]? with
 | none=> simp [hb] at h
 | some x=> exact (ZG hb).1
section
variable {H:Type} {enc:TypeId×Value->H} {w:World} {base:Nat} {spare:Nat->Bool} {held:Bool}
theorem zmS {fuel:Nat} {cs:List Value} {x:DataW H×List MemPlace} (h:DataW.trod enc Tryz.prog w base spare held fuel 22 cs=some x):
  ∃v ss,cs= [v]/\zx w.heap.size w v ss:=by
 rcases open_strs Tryz.underlying22 Tryz.underlying9 (by kernel_rfl) h with ⟨hcs,_⟩ | ⟨x,l,c,m,S,hcs,_,hl,hm,hmm,_,hcell⟩
 ·exact ⟨_, [],hcs,none,0,rfl,by simp,by simp,(by simp), .inl rfl⟩
 ·have hm':l<=9223372036854775807:=by unfold maxLen at hm;omega
  have hlm:l<=m:=by rw [hmm];split <;> omega
  refine ⟨_,(List.range l).map S,hcs,some x,c,by simp,by simp;omega,?_,(by simp),?_⟩
  ·intro s hs
   obtain ⟨i,hi,rfl⟩:=List.mem_map.1 hs;exact (hcell i (by have:=List.mem_range.1 hi;omega)).2
  ·by_cases h0:l=0
   ·subst h0;exact .inl rfl
   ·obtain ⟨b,off,spot⟩:=x
    have hspot:spot=none:=by simpa [Addr.add] using World.cell?_spot (hcell 0 (by omega)).1
    subst hspot;have hc:∀i,i < l->w.cell? ⟨b,off + i,none⟩=some (.string (S i)):=fun i hi=> by rw [<-add_plain];exact (hcell i (by omega)).1
    exact .inr ⟨b,off,rfl,zdx (hc 0 (by omega)),fun j hj=> by
     rw [hc j (by simpa using hj)];simp⟩
theorem xw {t e:TypeId} {α:Type} {k:Nat} {fuel:Nat} {cs:List Value} {x:DataW H×List MemPlace} (ht:Tryz.prog.underlying t=some (.slice e)) (hk:Tryz.prog.cellsOf e=k) (hk1:1<=k)
  (At:List Value->α->Prop) (hP:∀n cs y,n < fuel->DataW.trod enc Tryz.prog w base spare held n e cs=some y->∃a,At cs a)
  (h:DataW.trod enc Tryz.prog w base spare held fuel t cs=some x):
  ∃v,cs= [v]/\∃l:List α,SlAt w.heap.size v l.length (fun b off=> ∀i,(hi:i < l.length)->∃cs,zI w b (off + i * k) cs/\At cs l[i]):=by
 rcases DataW.trod_slice ht h with ⟨hcs,_⟩ | ⟨a,len,cap,elems,rest,n,hf,hcs,_,hb,hl,hm,hlen,hel,_,_⟩
 ·exact ⟨_,hcs, [],none,0,rfl,by simp, .inl rfl⟩
 ·have hm':len<=9223372036854775807:=by unfold maxLen at hm;omega
  have each:∀i,i < len->∃p:List Value×α,w.cells? base (a.add (i * k)) k=some p.1/\At p.1 p.2:=fun i hi=> by
   have h1:=hel i hi;rw [hk] at h1;have h2:∃y,elems[i]?=some y:=⟨elems[i]'(by omega),List.getElem?_eq_getElem (by omega)⟩;obtain ⟨y,hy⟩:=h2;rw [hy,Option.bind_eq_some_iff] at h1;obtain ⟨cs',h3,h4⟩:=h1;obtain ⟨al,hal⟩:=hP n cs' y (by omega) h4;exact ⟨(cs',al),h3,hal⟩
  by_cases h0:len=0
  ·subst h0
   exact ⟨_,hcs, [],some a,cap,by simp,by simp, .inl rfl⟩
  ·haveI:Inhabited (List Value×α):=⟨(each 0 (by omega)).choose⟩
   obtain ⟨A,hA⟩:=choose_lt each;obtain ⟨b,off,spot⟩:=a;obtain ⟨_,hl0,hc0⟩:=World.cells?_some (hA 0 (by omega)).1
   have hfirst:∃u,w.cell? (⟨b,off,spot⟩:Addr)=some u:=by
    have h1:=hc0 0 (by omega);have h2:((A 0).1)[0]?=some ((A 0).1[0]'(by omega)):=List.getElem?_eq_getElem (by omega);rw [h2] at h1;simp [Addr.add] at h1;exact ⟨_,h1⟩
   obtain ⟨u,hu⟩:=hfirst;have hspot:spot=none:=by simpa using World.cell?_spot hu
   subst hspot;refine ⟨_,hcs,(List.range len).map fun i=> (A i).2,some ⟨b,off,none⟩,cap,by simp,by simp;omega, .inr ⟨b,off,rfl,zdx hu,fun i hi=> ?_⟩⟩;have hi':i < len:=by simpa using hi
   obtain ⟨_,hli,hci⟩:=World.cells?_some (hA i hi').1;refine ⟨(A i).1,fun j hj=> ?_,by simpa using (hA i hi').2⟩;have h1:=hci j (by omega);rw [add_plain,add_plain] at h1;rw [h1];simp [hj]
theorem zW.of_get {B:Nat}:∀(es:List Exp) (b off:Nat),(∀i,(h:i < es.length)->∃cs,zI w b (off + i * 4) cs/\zy B w cs es[i])->zW B w b off es
 | [],_,_,_=> trivial
 | e::es,b,off,h=> ⟨(by have h0:=h 0 (by simp);rw [Nat.zero_mul,Nat.add_zero] at h0;exact h0),zW.of_get es b (off + 4) (fun i hi=> by
   have:=h (i + 1) (by simpa using hi)
   rwa [show off + (i + 1) * 4=off + 4 + i * 4 from by omega] at this)⟩
theorem zX.of_get {B:Nat}:∀(es:List Msg) (b off:Nat),(∀i,(h:i < es.length)->∃cs,zI w b (off + i * 2) cs/\yK B w cs es[i])->zX B w b off es
 | [],_,_,_=> trivial
 | e::es,b,off,h=> ⟨(by have h0:=h 0 (by simp);rw [Nat.zero_mul,Nat.add_zero] at h0;exact h0),zX.of_get es b (off + 2) (fun i hi=> by
   have:=h (i + 1) (by simpa using hi)
   rwa [show off + (i + 1) * 2=off + 2 + i * 2 from by omega] at this)⟩
theorem zr.of_get {B:Nat}:∀(es:List zg) (b off:Nat),(∀i,(h:i < es.length)->∃cs,zI w b (off + i * 5) cs/\zo B w cs es[i])->zr B w b off es
 | [],_,_,_=> by unfold zr;trivial
 | e::es,b,off,h=> by
  unfold zr
  exact ⟨(by have h0:=h 0 (by simp);rw [Nat.zero_mul,Nat.add_zero] at h0;exact h0),zr.of_get es b (off + 5) (fun i hi=> by
   have:=h (i + 1) (by simpa using hi)
   rwa [show off + (i + 1) * 5=off + 5 + i * 5 from by omega] at this)⟩
theorem zu.of_get {B:Nat}:∀(es:List Term) (b off:Nat),(∀i,(h:i < es.length)->∃cs,zI w b (off + i * 5) cs/\ze B w cs es[i])->zu B w b off es
 | [],_,_,_=> by unfold zu;trivial
 | e::es,b,off,h=> by
  unfold zu
  exact ⟨(by have h0:=h 0 (by simp);rw [Nat.zero_mul,Nat.add_zero] at h0;exact h0),zu.of_get es b (off + 5) (fun i hi=> by
   have:=h (i + 1) (by simpa using hi)
   rwa [show off + (i + 1) * 5=off + 5 + i * 5 from by omega] at this)⟩
theorem znx:Tryz.prog.cellsOf 34=1:=by kernel_rfl
theorem cel3:Tryz.prog.cellsOf 3=1:=by kernel_rfl
theorem cel9:Tryz.prog.cellsOf 9=1:=by kernel_rfl
theorem zml:Tryz.prog.cellsOf 29=1:=by kernel_rfl
theorem znA:Tryz.prog.cellsOf 22=1:=by kernel_rfl
theorem znz:Tryz.prog.cellsOf 28=1:=by kernel_rfl
theorem zmm:Tryz.prog.cellsOf 30=1:=by kernel_rfl
theorem zmk:Tryz.prog.cellsOf 31=1:=by kernel_rfl
theorem znd:Tryz.prog.cellsOf 127=1:=by kernel_rfl
theorem znl:Tryz.prog.cellsOf 128=1:=by kernel_rfl
set_option maxRecDepth 100000 in
theorem znc:∀(fuel:Nat) (cs:List Value) (x:DataW H×List MemPlace),DataW.trod enc Tryz.prog w base spare held fuel 36 cs=some x->∃e,zy w.heap.size w cs e:=by
 intro fuel
 induction fuel using Nat.strongRecOn with
 | _ fuel ih=>
  intro cs x h;obtain ⟨xs,n,rfl,_,hl,hlen,hf⟩:=DataW.trod_struct Tryz.underlying36 h;rw [show Tryz.prog.cellsOf 36=4 from by kernel_rfl] at hl
  match xs,hlen with
  | [y0,y1,y2,y3],_=>
  match cs,hl with
  | [c0,c1,c2,c3],_=>
  have f0:DataW.trod enc Tryz.prog w base spare held n 34 [c0]=some y0:=by simpa [znx] using hf 0 _ rfl
  have f1:DataW.trod enc Tryz.prog w base spare held n 3 [c1]=some y1:=by simpa [cel3] using hf 1 _ rfl
  have f2:DataW.trod enc Tryz.prog w base spare held n 9 [c2]=some y2:=by simpa [cel9] using hf 2 _ rfl
  have f3:DataW.trod enc Tryz.prog w base spare held n 29 [c3]=some y3:=by simpa [zml] using hf 3 _ rfl
  obtain ⟨o,h0,_,_⟩:=DataW.trod_int Tryz.underlying34 f0;obtain ⟨m,h1,_,_⟩:=DataW.trod_int Tryz.underlying3 f1;obtain ⟨s,h2,_,hs⟩:=DataW.trod_string Tryz.underlying9 f2;obtain ⟨v,h3,l,hv⟩:=xw (k:=4) Tryz.underlying29 (by kernel_rfl) (by omega) (zy w.heap.size w) (fun j cs' y hj hy=> ih j (by omega) cs' y hy) f3;simp only [List.cons.injEq,and_true] at h0 h1 h2 h3;subst h0;subst h1;subst h2;subst h3;refine ⟨.mk o m s l,?_⟩;unfold zy;exact ⟨hs,_,rfl,hv.imp (ZL _) (fun b off _ hp=> zW.of_get l b off hp)⟩
set_option maxRecDepth 100000 in
theorem znu {fuel:Nat} {cs:List Value} {x:DataW H×List MemPlace} (h:DataW.trod enc Tryz.prog w base spare held fuel 144 cs=some x):∃e,yK w.heap.size w cs e:=by
 obtain ⟨xs,n,rfl,_,hl,hlen,hf⟩:=DataW.trod_struct Tryz.underlying144 h;rw [show Tryz.prog.cellsOf 144=2 from by kernel_rfl] at hl
 match xs,hlen with
 | [y0,y1],_=>
 match cs,hl with
 | [c0,c1],_=>
 have f0:DataW.trod enc Tryz.prog w base spare held n 9 [c0]=some y0:=by simpa [cel9] using hf 0 _ rfl
 have f1:DataW.trod enc Tryz.prog w base spare held n 22 [c1]=some y1:=by simpa [znA] using hf 1 _ rfl
 obtain ⟨s,h2,_,hs⟩:=DataW.trod_string Tryz.underlying9 f0;obtain ⟨v,ss,h3,hv⟩:=zmS f1;simp only [List.cons.injEq,and_true] at h2 h3;subst h2;subst h3;exact ⟨⟨s,ss⟩,hs,_,rfl,hv⟩
set_option maxRecDepth 100000 in
theorem zig:∀(fuel:Nat),(∀(cs:List Value) (x:DataW H×List MemPlace),DataW.trod enc Tryz.prog w base spare held fuel 33 cs=some x->∃e,ze w.heap.size w cs e)/\
  (∀(cs:List Value) (x:DataW H×List MemPlace),DataW.trod enc Tryz.prog w base spare held fuel 130 cs=some x->∃e,zo w.heap.size w cs e):=by
 intro fuel
 induction fuel using Nat.strongRecOn with
 | _ fuel ih=>
  constructor
  ·intro cs x h
   obtain ⟨xs,n,rfl,_,hl,hlen,hf⟩:=DataW.trod_struct Tryz.underlying33 h;rw [show Tryz.prog.cellsOf 33=5 from by kernel_rfl] at hl
   match xs,hlen with
   | [y0,y1,y2,y3,y4],_=>
   match cs,hl with
   | [c0,c1,c2,c3,c4],_=>
   have f0:DataW.trod enc Tryz.prog w base spare held n 28 [c0]=some y0:=by simpa [znz] using hf 0 _ rfl
   have f1:DataW.trod enc Tryz.prog w base spare held n 9 [c1]=some y1:=by simpa [cel9] using hf 1 _ rfl
   have f2:DataW.trod enc Tryz.prog w base spare held n 29 [c2]=some y2:=by simpa [zml] using hf 2 _ rfl
   have f3:DataW.trod enc Tryz.prog w base spare held n 30 [c3]=some y3:=by simpa [zmm] using hf 3 _ rfl
   have f4:DataW.trod enc Tryz.prog w base spare held n 31 [c4]=some y4:=by simpa [zmk] using hf 4 _ rfl
   obtain ⟨o,h0,_,_⟩:=DataW.trod_int Tryz.underlying28 f0;obtain ⟨s,h1,_,hs⟩:=DataW.trod_string Tryz.underlying9 f1;obtain ⟨va,h2,la,hva⟩:=xw (k:=4) Tryz.underlying29 (by kernel_rfl) (by omega) (zy w.heap.size w) (fun j cs' y hj hy=> znc j cs' y hy) f2;obtain ⟨vd,h3,ld,hvd⟩:=xw (k:=5) Tryz.underlying30 (by kernel_rfl) (by omega) (zo w.heap.size w) (fun j cs' y hj hy=> (ih j (by omega)).2 cs' y hy) f3;obtain ⟨vk,h4,lk,hvk⟩:=xw (k:=5) Tryz.underlying31 (by kernel_rfl) (by omega) (ze w.heap.size w) (fun j cs' y hj hy=> (ih j (by omega)).1 cs' y hy) f4;simp only [List.cons.injEq,and_true] at h0 h1 h2 h3 h4;subst h0;subst h1;subst h2;subst h3;subst h4;refine ⟨.mk o s la ld lk,?_⟩;unfold ze;exact ⟨hs,_,_,_,rfl,hva.imp (ZL _) (fun b off _ hp=> zW.of_get la b off hp),hvd.imp (ZL _) (fun b off _ hp=> zr.of_get ld b off hp),hvk.imp (ZL _) (fun b off _ hp=> zu.of_get lk b off hp)⟩
  ·intro cs x h
   obtain ⟨xs,n,rfl,_,hl,hlen,hf⟩:=DataW.trod_struct Tryz.underlying130 h;rw [show Tryz.prog.cellsOf 130=5 from by kernel_rfl] at hl
   match xs,hlen with
   | [y0,y1,y2,y3,y4],_=>
   match cs,hl with
   | [c0,c1,c2,c3,c4],_=>
   have f0:DataW.trod enc Tryz.prog w base spare held n 127 [c0]=some y0:=by simpa [znd] using hf 0 _ rfl
   have f1:DataW.trod enc Tryz.prog w base spare held n 9 [c1]=some y1:=by simpa [cel9] using hf 1 _ rfl
   have f2:DataW.trod enc Tryz.prog w base spare held n 128 [c2]=some y2:=by simpa [znl] using hf 2 _ rfl
   have f3:DataW.trod enc Tryz.prog w base spare held n 30 [c3]=some y3:=by simpa [zmm] using hf 3 _ rfl
   have f4:DataW.trod enc Tryz.prog w base spare held n 31 [c4]=some y4:=by simpa [zmk] using hf 4 _ rfl
   obtain ⟨o,h0,_,_⟩:=DataW.trod_int Tryz.underlying127 f0;obtain ⟨s,h1,_,hs⟩:=DataW.trod_string Tryz.underlying9 f1;obtain ⟨va,h2,la,hva⟩:=xw (k:=2) Tryz.underlying128 (by kernel_rfl) (by omega) (yK w.heap.size w) (fun j cs' y hj hy=> znu hy) f2;obtain ⟨vd,h3,ld,hvd⟩:=xw (k:=5) Tryz.underlying30 (by kernel_rfl) (by omega) (zo w.heap.size w) (fun j cs' y hj hy=> (ih j (by omega)).2 cs' y hy) f3;obtain ⟨vk,h4,lk,hvk⟩:=xw (k:=5) Tryz.underlying31 (by kernel_rfl) (by omega) (ze w.heap.size w) (fun j cs' y hj hy=> (ih j (by omega)).1 cs' y hy) f4;simp only [List.cons.injEq,and_true] at h0 h1 h2 h3 h4;subst h0;subst h1;subst h2;subst h3;subst h4;refine ⟨.mk o s la ld lk,?_⟩;unfold zo;exact ⟨hs,_,_,_,rfl,hva.imp (ZL _) (fun b off _ hp=> zX.of_get la b off hp),hvd.imp (ZL _) (fun b off _ hp=> zr.of_get ld b off hp),hvk.imp (ZL _) (fun b off _ hp=> zu.of_get lk b off hp)⟩
theorem ziI {t:TypeId} {fs:Array Field} {r:Reach} {b0:Nat} {v:Value} {P:Program} (hu:P.underlying t=some (.struct fs)) (h:Value.okWide P w r b0 t v):∃cs:List Value,v= .agg cs.toArray:=by
 simp only [Value.okWide,hu] at h;obtain ⟨cs,h1,_⟩:=h;exact ⟨cs.toList,by rw [h1]⟩
set_option maxRecDepth 100000 in
theorem zm2 {v:Value} {r:Reach} {b0:Nat} {d:DataW H} {ps:List MemPlace} (hv:Value.okWide Tryz.prog w r b0 33 v) (h:DataW.Trod enc Tryz.prog w base spare held 33 v d ps):∃cs t,v= .agg cs.toArray/\ze w.heap.size w cs t:=by
 obtain ⟨cs,rfl⟩:=ziI Tryz.underlying33 hv;obtain ⟨fuel,hf⟩:=h;simp only [Value.cells] at hf;obtain ⟨t,ht⟩:=(zig fuel).1 cs _ (by simpa using hf);exact ⟨cs,t,rfl,ht⟩
end
end Go.Proofs.YtjmlaeofjjhfmaaGreat
