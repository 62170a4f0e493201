/- Lemmas. -/
import Derived.Test.YtjmlaeofjjhfmaaGreatS08
import Derived.Deep.RegionWith
import Derived.Test.YtjmlaeofjjhfmaaGreatShelf
import Derived.Shelf.Lay
import Derived.Shelf.SlMaps.Copy
import Derived.Ground.SlmpProg
import Derived.Maps.Range
import Derived.Deep.RegionLaw
import Derived.Outline
import Derived.Shelf.SlIter.Nil
import Derived.Shelf.SortM.Plain
import Derived.Shelf.SortM.SortNone
import Derived.Ground.GgzProg
import Derived.Ground.SlgmProg
set_option linter.unusedVariables false
set_option linter.unusedSimpArgs false
set_option maxRecDepth 10000
set_option maxHeartbeats 16000000
namespace Go.Proofs.YtjmlaeofjjhfmaaGreat
section
open Go.RowKit Go.Shelf
theorem zx.later {w w':World} {v:Value} {ss:List ByteArray} (h:zx w.heap.size w v ss) (hb:Below w.heap.size w w'):zx w'.heap.size w' v ss:=(h.below hb).mono hb.size
theorem zjB (B:Nat) (u:World) (tx:ByteArray) (args:List Exp) (d:List zg) (kids:List Term) (cs:List Value) (w:World) (hu:zh B u w) (hB:B<=w.heap.size) (hf:zT (.proc (.mk 4 tx args d kids)))
  (hv:ze B u cs (.mk 4 tx args d kids)):
  Calls Tryz.prog 30 #[.agg cs.toArray] w fun e w'=> ∃r1 r2,e= .returned (.tuple #[r1,r2, .int .i64 0])/\zx w'.heap.size w' r1 (qb d)/\zx w'.heap.size w' r2 (zi d)/\Below w.heap.size w w':=by
 have hv':=hv;unfold ze at hv;obtain ⟨hz,_,_,_,rfl,⟨a0,p0,rfl,_⟩,⟨a1,p1,rfl,_,hd⟩,⟨a2,p2,rfl,_⟩⟩:=hv;obtain ⟨U,u1,u2,u3⟩:=(hf.2 (.proc (.mk 4 tx args d kids),1) (by rw [zv];exact List.mem_cons_self ..)).2.2 rfl;obtain ⟨W1,hW1⟩:∃W1,W1=w.alloc (.cells #[.int .i64 4, .string tx, .slice a0 args.length p0, .slice a1 d.length p1, .slice a2 kids.length p2] 33):=⟨_,rfl⟩;have b1:Below w.heap.size w W1:=by rw [hW1];exact ZQ w _
 have z1:W1.heap.size=w.heap.size + 1:=by rw [hW1];simp
 have k0:W1.cell? ⟨w.heap.size,0,none⟩=some (.int .i64 4):=by rw [hW1,ZA _ _ _ _ rfl];rfl
 have k3:W1.cell? ⟨w.heap.size,3,none⟩=some (.slice a1 d.length p1):=by rw [hW1,ZA _ _ _ _ rfl];rfl
 have hck:=zgL B u (.mk 4 tx args d kids) _ W1 (hu.trans ((Below.keptC b1).mono hB)) (by omega) hf hv';obtain ⟨Q,hQ⟩:∃Q:World->Prop,Q=fun W=> Below W1.heap.size W1 W:=⟨_,rfl⟩
 have hch:∀W,Q W->Calls Tryz.prog 76 #[.slice a1 d.length p1] W fun e w'=> ∃r,e= .returned r/\zx w'.heap.size w' r (qb d)/\Below W.heap.size W w'/\w'.cell? ⟨w.heap.size,3,none⟩=some (.slice a1 d.length p1)/\Q w':=fun W hW=> by
  rw [hQ] at hW;have hs:=hW.size
  exact (zc3 B u d u1 u2 a1 p1 W (hu.trans ((Below.keptC (b1.trans (hW.mono (by omega)))).mono hB)) (by omega) hd).mono fun e w' ⟨r,h1,h2,h3,h4⟩=> by
   have h5:Below W1.heap.size W1 w':=hW.trans (h4.mono hs);exact ⟨r,h1,qM h2 h3,h4,(h5.cell (p:=⟨w.heap.size,3,none⟩) (by simp;omega)).trans k3,by rw [hQ];exact h5⟩
 have hpl:∀W,Q W->Calls Tryz.prog 77 #[.slice a1 d.length p1] W fun e w'=> ∃r,e= .returned r/\zx w'.heap.size w' r (zi d)/\Below W.heap.size W w'/\w'.cell? ⟨w.heap.size,3,none⟩=some (.slice a1 d.length p1)/\Q w':=fun W hW=> by
  rw [hQ] at hW;have hs:=hW.size
  exact (zcJ B u (zZ d) d (ZL _) u1 a1 p1 W (hu.trans ((Below.keptC (b1.trans (hW.mono (by omega)))).mono hB)) (by omega) hd).mono fun e w' ⟨r,h1,h2,h3,h4⟩=> by
   have h5:Below W1.heap.size W1 w':=hW.trans (h4.mono hs);exact ⟨r,h1,qM h2 h3,h4,(h5.cell (p:=⟨w.heap.size,3,none⟩) (by simp;omega)).trans k3,by rw [hQ];exact h5⟩
 have hfin:∀W,Q W->Below w.heap.size w W:=fun W hW=> by rw [hQ] at hW;exact b1.trans (hW.mono (by omega))
 have hq0:∀W2,Below W1.heap.size W1 W2->Q W2.drew/\W2.drew.cell? ⟨w.heap.size,3,none⟩=some (.slice a1 d.length p1)/\W2.cell? ⟨w.heap.size,0,none⟩=some (.int .i64 4):=fun W2 h=> by
  rw [hQ];exact ⟨h.drew,(h.cell (p:=⟨w.heap.size,3,none⟩) (by simp;omega)).trans k3,(h.cell (p:=⟨w.heap.size,0,none⟩) (by simp;omega)).trans k0⟩
 have HW:=ZH hW1;clear hW1 hQ k0 k3 u1 u2 u3;go_enter Tryz.func30,Tryz.ntmps30;go_wp2_with (go_at_call 25;rw [<-HW.out];refine hck.mono ?_;rintro e w2 ⟨rfl,hb2⟩;obtain ⟨hQ2,hc3,hc0⟩:=hq0 w2 hb2;clear hq0)
 go_region_with (first
  | (go_at_call 76;refine (hch _ (by assumption)).mono ?_;rintro e w3 ⟨r1,rfl,hs1,hb3,hc31,hQ3⟩)
  | (go_at_call 77;refine (hpl _ (by assumption)).mono ?_;rintro e w4 ⟨r2,rfl,hs2,hb4,hc32,hQ4⟩))
 all_goals
  clear hch hpl hck hf hv' hd hc3 hc31 hc32;go_wp2;go_ret3
  first
   | exact ⟨_,_,rfl,hs1.later hb4,hs2,hfin _ hQ4⟩
   | exact ⟨_,_,rfl,hs1,hs2.later hb3,hfin _ hQ3⟩
end
section
open Go.Shelf
open Go.RowKit Go.Shelf Go.Maps Go.WideMaps
def SetF (w:World) (b n:Nat) (f:List UInt8->Bool):Prop:=
 ∃D,w.ownsMap (H:=Unit) Tryz.prog 9 (plainElem Tryz.prog 4) b n D/\∀k,has D (.string k)=f k/\∀z,D.atKey (.string k) z=if f k then .lit (.bool true) else z
theorem SetF.congr {w:World} {b n:Nat} {f g:List UInt8->Bool} (h:SetF w b n f) (e:∀k,f k=g k):SetF w b n g:=by
 rw [<-funext e];exact h
theorem SetF.made (w:World):SetF (w.alloc (.map #[] 0)) w.heap.size 0 (fun _=> false):=
 ⟨.map [],World.ownsMap_made _ _ _ _,fun k=> ⟨rfl,fun z=> rfl⟩⟩
theorem SetF.lt {w:World} {b n:Nat} {f:List UInt8->Bool} (h:SetF w b n f):b < w.heap.size:=by
 obtain ⟨D,h,_⟩:=h;exact h.lt
theorem SetF.mono {w:World} {b n m:Nat} {f:List UInt8->Bool} (h:SetF w b n f) (hn:n<=m):SetF w b m f:=by
 obtain ⟨D,h,r⟩:=h;exact ⟨D,h.mono hn,r⟩
theorem SetF.kept {w w':World} {b n:Nat} {f:List UInt8->Bool} {row:Option Nat} (h:SetF w b n f) (hg:w.grownBy w' row) (hne:some b≠row):SetF w' b n f:=by
 obtain ⟨D,h,r⟩:=h;exact ⟨D,h.kept hg hne,r⟩
theorem SetF.later {w w':World} {b n:Nat} {f:List UInt8->Bool} (h:SetF w b n f) (hb:Below w.heap.size w w'):SetF w' b n f:=h.kept (zj hb) (by simp)
theorem SetF.look {w:World} {b n:Nat} {f:List UInt8->Bool} (h:SetF w b n f) {k:ByteArray} (hk:k.size<=maxLen):
  (Instr.lookup 70 (.map (some b)) (.string k) false).run Tryz.prog w= .ok (.bool (f (zb k))) w:=by
 obtain ⟨D,hD,hf⟩:=h;obtain ⟨v,ps,hrun,hv⟩:=World.ownsMap.lookup hD (string_keyed Tryz.underlying9) Tryz.underlying70 (zmi w) (plainElem_bool Tryz.underlying4 false) (keyOf_string_mk Tryz.underlying9 hk);obtain ⟨a,rfl,ha⟩:=zaV Tryz.underlying4 hv;rw [hrun];rw [show Lit.string k.data.toList=Lit.string (zb k) from rfl,(hf _).2] at ha;cases h:f (zb k) <;> simp [h] at ha <;> simp [ha]
theorem SetF.put {w:World} {b n:Nat} {f:List UInt8->Bool} (h:SetF w b n f) (hn:n < maxLen) {k:ByteArray} (hk:k.size<=maxLen):
  ∃w',(Instr.mapUpdate 70 (.map (some b)) (.string k) (.bool true)).run Tryz.prog w= .ok () w'/\SetF w' b (n + 1) (fun x=> f x || x==zb k)/\w.grownBy w' (some b):=by
 obtain ⟨D,hD,hf⟩:=h;obtain ⟨w',h1,h2,h3⟩:=World.ownsMap.update hD (string_keyed Tryz.underlying9) Tryz.underlying70 hn (keyOf_string_mk Tryz.underlying9 hk) (plainElem_bool Tryz.underlying4 true);refine ⟨w',h1,⟨_,h2,fun x=> ?_⟩,h3⟩;have hm:IsMap D:=hD.isMap;by_cases hx:x=zb k
 ·subst hx
  have e1:=has_put_same (D:=D) hm (k:= .string (zb k)) (by simp [WideAt.IsKeyLit]) (.lit (.bool true));refine ⟨by simp;exact e1,fun z=> ?_⟩;have e2:=atKey_put_same (D:=D) hm (k:= .string (zb k)) (by simp [WideAt.IsKeyLit]) (.lit (.bool true)) z;simp;exact e2
 ·have hne:Lit.string x≠Lit.string k.data.toList:=by simp;exact hx
  have hb:(x==zb k)=false:=by simpa using hx
  simp only [hb,Bool.or_false];rw [has_put_other hne];exact ⟨(hf x).1,fun z=> by rw [atKey_put_other hne];exact (hf x).2 z⟩
theorem SetF.del {w:World} {b n:Nat} {f:List UInt8->Bool} (h:SetF w b n f) {k:ByteArray} (hk:k.size<=maxLen) (ty:TypeId):
  ∃w',(Builtin.delete_ #[70,9] ty #[.map (some b), .string k]).run Tryz.prog w= .ok (.tuple #[]) w'/\SetF w' b n (fun x=> f x && !(x==zb k))/\w.grownBy w' (some b):=by
 obtain ⟨D,hD,hf⟩:=h;obtain ⟨w',h1,h2,h3⟩:=World.ownsMap.drop hD (string_keyed Tryz.underlying9) Tryz.underlying70 (keyOf_string_mk Tryz.underlying9 hk) ty;refine ⟨w',h1,⟨_,h2,fun x=> ?_⟩,h3.grown⟩;by_cases hx:x=zb k
 ·subst hx
  simp;exact ⟨has_del_same,fun z=> atKey_del_same z⟩
 ·have hne:Lit.string x≠Lit.string k.data.toList:=by simp;exact hx
  have hb:(x==zb k)=false:=by simpa using hx
  simp only [hb,Bool.not_false,Bool.and_true];rw [has_del_other hne];exact ⟨(hf x).1,fun z=> by rw [atKey_del_other hne];exact (hf x).2 z⟩
theorem SetF.copy {w:World} {bd bs nd ns:Nat} {f g:List UInt8->Bool} (hd:SetF w bd nd f) (hs:SetF w bs ns g) (hne:bd≠bs) (hroom:nd + ns<=maxLen):
  Calls Tryz.prog 86 #[.map (some bd), .map (some bs)] w fun e w'=> e= .returned (.tuple #[])/\SetF w' bd (nd + ns) (fun k=> f k || g k)/\w.grownBy w' (some bd):=by
 obtain ⟨Dd,hD,hf⟩:=hd;obtain ⟨Ds,hS,hg⟩:=hs;have hsz:=hS.size_le;have hcon:=AnyX.maps_Copy Tryz.copy86 (string_keyed Tryz.underlying9) (plainElem Tryz.prog 4) bd bs nd ns Dd Ds w hD hS hne (by omega);change Calls Tryz.prog 86 _ _ _ at hcon;refine hcon.mono ?_;rintro e w' ⟨rfl,h1,h2,h3⟩;refine ⟨rfl,?_,h3⟩;obtain ⟨es,rfl,hpw,hkl⟩:=hS.entries (string_keyed Tryz.underlying9);refine ⟨_,h1.mono (by omega),fun k=> ?_⟩;have hm:IsMap Dd:=hD.isMap;have e1:=has_foldPut (.string k) es Dd hm hkl;have e2:=fun z=> atKey_foldPut (.string k) z es Dd hm hkl hpw;have eg:es.any (fun p=> p.1.sameKey (.string k))=g k:=(hg k).1;refine ⟨by show has (es.foldl _ Dd) _=_;rw [e1,(hf k).1,eg],fun z=> ?_⟩;show (es.foldl _ Dd).atKey _ z=_;rw [e2];have ea:=fun z=> (hg k).2 z;simp only [DataW.atKey] at ea;cases hfd:es.find? (fun p=> p.1.sameKey (.string k)) with
 | none=>
  rw [hfd] at ea
  have hgk:g k=false:=by
   cases hgk:g k with
   | false=> rfl
   | true=> have:=ea .nil;rw [hgk] at this;simp at this
  simp only [hgk,Bool.or_false];exact (hf k).2 z
 | some p=>
  rw [hfd] at ea
  have hgk:g k=true:=by
   rw [<-eg,List.any_eq_true];exact ⟨p,List.mem_of_find?_eq_some hfd,by simpa using List.find?_some hfd⟩
  have:=ea .nil;rw [hgk] at this;simp only [hgk,Bool.or_true,if_true];simpa using this
end
section
open Go.RowKit Go.Shelf
def zR:Part->List ByteArray
 | .proc (.mk op _ _ d _)=> if op=4 then qb d ++ zi d else []
 | .exp _=> []
 | .def_ (.mk _ _ j _ _)=> j.flatMap (·.names)
def yA:Part->ByteArray
 | .proc (.mk _ t _ _ _)=> t
 | .exp (.mk _ _ t _)=> t
 | .def_ _=> ByteArray.empty
theorem yQ {w:World} {A:Nat} {v1 v2:Value} {s1 s2:List ByteArray} (ty:TypeId) (ho:w.ownsRow A 9 1 v1 s1.length (zn s1)) (h2:zx w.heap.size w v2 s2) (hA:A<=w.heap.size) (h1:s1.length<=1000000) (h3:s2.length<=1000000) (hz:∀s∈s1,s.size<=maxLen):
  ∃v' w',(Builtin.append_ #[22,22] ty #[v1,v2]).run Tryz.prog w= .ok v' w'/\w'.ownsRow A 9 1 v' (s1 ++ s2).length (zn (s1 ++ s2))/\(∀s∈s1 ++ s2,s.size<=maxLen)/\w.grownBy w' v1.ownBlock:=by
 obtain ⟨i0,hi,hz0,hz1,hz2⟩:=info_parts zaK
 have hzz:∀s∈s1 ++ s2,s.size<=maxLen:=by
  intro s hs;rcases List.mem_append.1 hs with hs | hs
  ·exact hz s hs
  ·obtain ⟨_,_,_,_,hz',_⟩:=h2;exact hz' s hs
 obtain ⟨a,cap,rfl,hl,hz',hcap,h⟩:=h2;cases a with
 | none=>
  obtain rfl:=hcap rfl;have h0:s2= []:=by rcases h with h | ⟨_,_,h,_⟩;exact h;cases h
  subst h0;have hr:=run_append_owned_none (P:=Tryz.prog) (w:=w) A 22 ty 9 i0 1 Tryz.underlying22 hi v1 s1.length (zn s1) ho;exact ⟨v1,w,hr,by simpa using ho,hzz,World.grownBy.refl _ _⟩
 | some ad=>
  have hnews:∀j x,(zn s2)[j]?=some x->w.cell? (ad.add j)=some x:=by
   intro j x hx;have hj:j < s2.length:=by have:=(List.getElem?_eq_some_iff.1 hx).1;simpa [zn] using this
   rcases h with h | ⟨b,off,hb,_,hc⟩
   ·subst h;simp at hj
   ·cases hb
    have e:(⟨b,off,none⟩:Addr).add j=⟨b,off + j,none⟩:=by unfold Addr.add;by_cases h:j=0 <;> simp [h]
    rw [e];simp [zn,hj] at hx;subst hx;exact hc j hj
  obtain ⟨v',w',hr,h4,h5,_,_⟩:=run_append_own_at (P:=Tryz.prog) w A 22 ty 9 i0 (.string ⟨#[]⟩) 1 16 Tryz.underlying22 hi hz0 hz1 hz2 rfl (by decide) v1 s1.length (zn s1) ho ad s2.length cap (zn s2) (by simp [zn]) hnews (by simp [zn,Value.oneCell']) (by unfold maxLen;omega) (by omega) hA;exact ⟨v',w',hr,by rw [List.length_append];simpa [zn] using h4,hzz,h5⟩
theorem zls (cs:Array Value) (w:World) (o n:Int) (t:ByteArray) (a:Option Addr) (k c:Nat):
  Calls Tryz.prog 218 #[.agg #[.int .i64 o, .int .i64 n, .string t, .slice a k c]] w fun e w'=> e= .returned (.slice none 0 0)/\Below w.heap.size w w':=by
 go_enter Tryz.func218,Tryz.ntmps218;go_wp2;go_ret;exact ⟨rfl,by first | exact ZF _ _ | exact ZQ w _⟩
theorem zkG (w:World) (o n:Int) (t:ByteArray) (a:Option Addr) (k c:Nat):
  Calls Tryz.prog 220 #[.agg #[.int .i64 o, .int .i64 n, .string t, .slice a k c]] w fun e w'=> e= .returned (.string t)/\Below w.heap.size w w':=by
 go_enter Tryz.func220,Tryz.ntmps220;go_wp2;go_ret;exact ⟨rfl,by first | exact ZF _ _ | exact ZQ w _⟩
theorem zjm (w:World) (o:Int) (t:ByteArray) (a0 a1 a2:Option Addr) (k0 k1 k2 c0 c1 c2:Nat):
  Calls Tryz.prog 217 #[.agg #[.int .i64 o, .string t, .slice a0 k0 c0, .slice a1 k1 c1, .slice a2 k2 c2]] w fun e w'=> e= .returned (.string t)/\Below w.heap.size w w':=by
 go_enter Tryz.func217,Tryz.ntmps217;go_wp2;go_ret;exact ⟨rfl,by first | exact ZF _ _ | exact ZQ w _⟩
theorem zjY (w:World) (o:Int) (t:ByteArray) (a0 a1 a2:Option Addr) (k0 k1 k2 c0 c1 c2:Nat):
  Calls Tryz.prog 231 #[.agg #[.int .i64 o, .string t, .slice a0 k0 c0, .slice a1 k1 c1, .slice a2 k2 c2]] w fun e w'=> e= .returned (.string ⟨#[]⟩)/\Below w.heap.size w w':=by
 go_enter Tryz.func231,Tryz.ntmps231;go_wp2;go_ret;exact ⟨rfl,by first | exact ZF _ _ | exact ZQ w _⟩
def ql (js:List Msg):List ByteArray:=js.flatMap (·.names)
theorem zfb:ql []= []:=rfl
theorem qe {w:World} {ops:Array Oper} {rest:List Oper} {o:Oper} {a:Act} {Q:Exit->Act->World->Prop} (hgd:o.guard=none) (s x:Operand) (t t':TypeId)
  (ho:o.op= .call { callee:= .builtin .append,args:=#[s,x],argTypes:=#[t,t'] }) {v1 v2 v':Value} {w':World} (h1:a.eval s=v1) (h2:a.eval x=v2)
  (hr:(Builtin.append_ #[t,t'] o.type #[v1,v2]).run Tryz.prog w= .ok v' w') (h:wpList Tryz.prog ops Q rest (a.put o.dst v') w'):
  wpList Tryz.prog ops Q (o::rest) a w:=by
 refine wpList_plain hgd fun K hK=> ?_;unfold Oper.wp execOp;simp only [ho,resolve,invoke,builtin,Sem.run_bind,Sem.run_pure,Result.andThen_ok,List.map_toArray,List.map_cons,List.map_nil,h1,h2,hr];exact hK _ _ h
theorem za8 (js:List Msg) (k:Nat) (h:k < js.length):ql (js.take (k + 1))=ql (js.take k) ++ (js[k]).names:=by
 unfold ql;rw [ZT h,List.flatMap_append];simp
theorem xE (js:List Msg) (k:Nat):(ql (js.take k)).length<=(ql js).length:=by
 conv=> rhs;rw [<-List.take_append_drop k js]
 unfold ql;rw [List.flatMap_append,List.length_append];omega
theorem za0 (js:List Msg) (k:Nat) (h:k < js.length):(js[k]).names.length<=(ql js).length:=by
 have h1:=xE js (k + 1);rw [za8 js k h,List.length_append] at h1;omega
theorem zlM (B:Nat) (u:World) (f:Int) (t:ByteArray) (js:List Msg) (a0 a1 a2:Option Addr) (k1 k2 c0 c1 c2:Nat) (w:World) (hu:zh B u w) (hBs:B<=w.heap.size)
  (hN:(ql js).length<=100000) (hjs:js.length=0∨∃b off,a0=some ⟨b,off,none⟩/\b < B/\zX B u b off js) (hjl:js.length<=100000):
  Calls Tryz.prog 229 #[.agg #[.int .i64 f, .string t, .slice a0 js.length c0, .slice a1 k1 c1, .slice a2 k2 c2]] w fun e w'=> ∃r,e= .returned r/\
   w'.ownsRow w.heap.size 9 1 r (ql js).length (zn (ql js))/\(∀s∈ql js,s.size<=maxLen)/\Below w.heap.size w w':=by
 obtain ⟨W1,HW1⟩:∃W,W=w.alloc (.cells #[.int .i64 f, .string t, .slice a0 js.length c0, .slice a1 k1 c1, .slice a2 k2 c2] 191):=⟨_,rfl⟩;have hW1:Below w.heap.size w W1:=by rw [HW1];exact ZQ w _
 have hW1s:W1.heap.size=w.heap.size + 1:=by rw [HW1];simp
 have hbox:W1.cell? ⟨w.heap.size,2,none⟩=some (.slice a0 js.length c0):=by rw [HW1,ZA _ _ _ _ rfl];rfl
 have HWH:=ZH HW1;go_enter Tryz.func229,Tryz.ntmps229;go_wp2_with fail;rw [<-HWH.out];clear HW1;go_wp2
 go_loopw [3,9] (fun v i wr=> ∃(k:Nat),k<=js.length/\i= .int .i64 k/\Below w.heap.size w wr/\w.heap.size<=wr.heap.size/\wr.ownsRow w.heap.size 9 1 v (ql (js.take k)).length (zn (ql (js.take k)))/\(∀s∈ql (js.take k),s.size<=maxLen)) (fun _ i _=> js.length - (intOf i).toNat)
 case atStart=> exact ⟨0,by omega,rfl,hW1,by omega,ZR _ _ _ _,by simp [zfb]⟩
 case round=>
  obtain ⟨k,hk',rfl,hB,hws,hown,hsz⟩:=hrel;by_cases hlt:k < js.length
  ·rcases hjs with h0 | ⟨b,off,rfl,hb,hms⟩
   ·omega
   obtain ⟨mcs,hmcs,hmz,mv,rfl,hmn⟩:=hms.get js b off k hlt;have hl1:=xE js k;have hl2:=za0 js k hlt;have htk:=ZH (za8 js k hlt);obtain ⟨x,hx⟩:∃x,x=(js[k]).text:=⟨_,rfl⟩;obtain ⟨nm,hnm⟩:∃nm,nm=(js[k]).names:=⟨_,rfl⟩;rw [<-hnm] at hmn htk hl2;rw [<-hx] at hmcs;have hst:=((hmn.keep hu).mono hBs).below hB;obtain ⟨T,hT⟩:∃T,T=ql (js.take k):=⟨_,rfl⟩;rw [<-hT] at hown hsz hl1 htk;have hst2:zx (wr.alloc (.cells #[.string x,mv] 144)).heap.size (wr.alloc (.cells #[.string x,mv] 144)) mv nm:=(hst.below ((ZF _ wr).alloc hws _)).mono (by simp;omega);obtain ⟨v',w',hr,ho',hz',hg⟩:=yQ (w:=wr.alloc (.cells #[.string x,mv] 144)) 22 (hown.alloc _) hst2 (by simp;omega) (by omega) (by omega) hsz;obtain ⟨d0,d1⟩:=yO ((hmcs.keep hu hb).below hB (by omega));obtain ⟨na,nc,rfl,_⟩:=hmn;clear hx hnm hT hmcs hst hst2;go_wp2_with (show wpList _ _ _ (⟨some 16,_,_,_,_,_⟩::_) _ _;refine qe rfl (.tmp 13) (.tmp 15) 22 22 rfl rfl rfl hr ?_);go_roundw
   case rel=>
    refine ⟨k + 1,by omega,by go_num,?_,?_,?_,?_⟩
    ·exact ((hB.alloc hws _).grown hg (by simp;omega) (fun r e=> (hown.lt r e).1))
    ·have:=hg.size;simp at this;omega
    ·rw [htk.out];exact ho'
    ·rw [htk.out];exact hz'
   case measure=> simp [intOf];omega
  ·obtain rfl:k=js.length:=by omega
   rw [List.take_length] at hown hsz;go_wp2;go_ret;exact ⟨_,rfl,hown,hsz,hB⟩
theorem zU {ops:Array Oper} {o:Oper} {a:Act} {w:World} {K:Act->World->Prop} {Q:Exit->Act->World->Prop} {E:Prop} (hg:o.guard=none) (s x:Operand) (t t':TypeId)
  (ho:o.op= .call { callee:= .builtin .append,args:=#[s,x],argTypes:=#[t,t'] }) {v1 v2 v':Value} {w':World} (h1:a.eval s=v1) (h2:a.eval x=v2)
  (hr:(Builtin.append_ #[t,t'] o.type #[v1,v2]).run Tryz.prog w= .ok v' w') (hK:K (a.put o.dst v') w'):
  if Region.wanted o (yielded ops a.tmps)=true then Oper.wp Tryz.prog o a w K Q else E:=by
 have hw:Region.wanted o (yielded ops a.tmps)=true:=by simp [Region.wanted,hg]
 rw [if_pos hw];unfold Oper.wp execOp;simp only [ho,resolve,invoke,builtin,Sem.run_bind,Sem.run_pure,Result.andThen_ok,List.map_toArray,List.map_cons,List.map_nil,h1,h2,hr];exact hK
theorem zx.nil (B:Nat) (w:World):zx B w (.slice none 0 0) []:=⟨none,0,rfl,by simp,by simp,fun _=> rfl, .inl rfl⟩
theorem zki (B:Nat) (u:World) (op:Int) (t:ByteArray) (d:List zg) (a0 a1 a2:Option Addr) (k0 k2 c0 c1 c2:Nat) (w:World) (hu:zh B u w) (hBs:B<=w.heap.size)
  (u1:op=4->zZ d<=900/\(zl (zm d)).length<=100000) (hd:d.length=0∨∃b off,a1=some ⟨b,off,none⟩/\b < B/\zr B u b off d):
  Calls Tryz.prog 215 #[.agg #[.int .i64 op, .string t, .slice a0 k0 c0, .slice a1 d.length c1, .slice a2 k2 c2]] w fun e w'=> ∃r,e= .returned r/\
   zx w'.heap.size w' r (if op=4 then qb d ++ zi d else [])/\Below w.heap.size w w':=by
 obtain ⟨W1,HW1⟩:∃W,W=w.alloc (.cells #[.int .i64 op, .string t, .slice a0 k0 c0, .slice a1 d.length c1, .slice a2 k2 c2] 83):=⟨_,rfl⟩;have b1:Below w.heap.size w W1:=by rw [HW1];exact ZQ w _
 have z1:W1.heap.size=w.heap.size + 1:=by rw [HW1];simp
 have k0':W1.cell? ⟨w.heap.size,0,none⟩=some (.int .i64 op):=by rw [HW1,ZA _ _ _ _ rfl];rfl
 have k3:W1.cell? ⟨w.heap.size,3,none⟩=some (.slice a1 d.length c1):=by rw [HW1,ZA _ _ _ _ rfl];rfl
 have HW:=ZH HW1;by_cases hop:op=4
 ·obtain ⟨u2,u3⟩:=u1 hop
  subst hop;obtain ⟨Q,hQ⟩:∃Q:World->Prop,Q=fun W=> Below W1.heap.size W1 W:=⟨_,rfl⟩
  have hch:∀W,Q W->Calls Tryz.prog 76 #[.slice a1 d.length c1] W fun e w'=> ∃r,e= .returned r/\(w'.ownsRow w.heap.size 9 1 r (qb d).length (zn (qb d))/\(∀t∈qb d,t.size<=maxLen))/\Below W.heap.size W w'/\w'.cell? ⟨w.heap.size,3,none⟩=some (.slice a1 d.length c1)/\Q w':=fun W hW=> by
   rw [hQ] at hW;have hs:=hW.size
   exact (zc3 B u d u2 u3 a1 c1 W (hu.trans ((Below.keptC (b1.trans (hW.mono (by omega)))).mono hBs)) (by omega) hd).mono fun e w' ⟨r,h1,h2,h3,h4⟩=> by
    have h5:Below W1.heap.size W1 w':=hW.trans (h4.mono hs);exact ⟨r,h1,⟨xN h2 (by omega),h3⟩,h4,(h5.cell (p:=⟨w.heap.size,3,none⟩) (by simp;omega)).trans k3,by rw [hQ];exact h5⟩
  have hpl:∀W,Q W->Calls Tryz.prog 77 #[.slice a1 d.length c1] W fun e w'=> ∃r,e= .returned r/\zx w'.heap.size w' r (zi d)/\Below W.heap.size W w'/\w'.cell? ⟨w.heap.size,3,none⟩=some (.slice a1 d.length c1)/\Q w':=fun W hW=> by
   rw [hQ] at hW;have hs:=hW.size
   exact (zcJ B u (zZ d) d (ZL _) u2 a1 c1 W (hu.trans ((Below.keptC (b1.trans (hW.mono (by omega)))).mono hBs)) (by omega) hd).mono fun e w' ⟨r,h1,h2,h3,h4⟩=> by
    have h5:Below W1.heap.size W1 w':=hW.trans (h4.mono hs);exact ⟨r,h1,qM h2 h3,h4,(h5.cell (p:=⟨w.heap.size,3,none⟩) (by simp;omega)).trans k3,by rw [hQ];exact h5⟩
  have hcl:(qb d).length<=100000:=by have:=yR [] (zl (zm d));unfold qb;simp at this;omega
  have hpn:(zi d).length<=900:=by have:=yx d;unfold zZ at u2;omega
  have hj:∀W v1 v2,Q W->(W.ownsRow w.heap.size 9 1 v1 (qb d).length (zn (qb d))/\(∀t∈qb d,t.size<=maxLen))->zx W.heap.size W v2 (zi d)->
    ∃v' W',(Builtin.append_ #[22,22] 22 #[v1,v2]).run Tryz.prog W= .ok v' W'/\zx W'.heap.size W' v' (qb d ++ zi d)/\Below w.heap.size w W':=by
   intro W v1 v2 hW h1 h2;rw [hQ] at hW;have hs:=hW.size;obtain ⟨v',W',hr,h3,h4,h5⟩:=yQ 22 h1.1 h2 (by omega) (by omega) (by omega) h1.2;exact ⟨v',W',hr,qM h3 h4,(b1.trans (hW.mono (by omega))).grown h5 (by omega) (fun r e=> (h1.1.lt r e).1)⟩
  have hq0:Q W1.drew/\W1.drew.cell? ⟨w.heap.size,3,none⟩=some (.slice a1 d.length c1):=by
   rw [hQ];exact ⟨(ZF _ _).drew,k3⟩
  obtain ⟨hQ0,hc0⟩:=hq0;clear hQ u1 u2 u3 hd;go_enter Tryz.func215,Tryz.ntmps215;go_wp2_with fail;rw [<-HW.out];clear HW1;go_wp2
  go_region_law (first
   | (revert hs1;intro hs1;revert hs2;intro hs2;have hk1:=qX hs1.1 (zj hb4) (fun g _ e=> by cases e);obtain ⟨v',w',hr,hs,hb⟩:=hj w4 r1 r2 hQ4 ⟨hk1,hs1.2⟩ hs2;refine zU rfl (.tmp 8) (.tmp 11) 22 22 rfl rfl rfl hr ?_)
   | (revert hs1;intro hs1;revert hs2;intro hs2;obtain ⟨v',w',hr,hs,hb⟩:=hj w3 r1 r2 hQ3 hs1 (hs2.later hb3);refine zU rfl (.tmp 8) (.tmp 11) 22 22 rfl rfl rfl hr ?_)
   | (go_simp;go_wp2_with (first
    | (go_at_call 76;refine (hch _ (by assumption)).mono ?_;rintro e w3 ⟨r1,rfl,hs1,hb3,hc31,hQ3⟩)
    | (go_at_call 77;refine (hpl _ (by assumption)).mono ?_;rintro e w4 ⟨r2,rfl,hs2,hb4,hc32,hQ4⟩))))
  all_goals
   go_wp2;go_ret;exact ⟨_,rfl,by simpa using hs,hb⟩
 ·rw [if_neg hop]
  go_enter Tryz.func215,Tryz.ntmps215;go_wp2_with fail;rw [<-HW.out];clear HW1;go_wp2;go_ret;exact ⟨_,rfl,zx.nil _ _,b1⟩
end
section
open Go.RowKit Go.Shelf Go.Maps
def qE:Nat->Part->List UInt8->Bool
 | 0,_,_=> false
 | s + 1,p,k=> ((p.parts.any (fun q=> qE s q k)) && !((zR p).any (fun b=> k==zb b))) || (!(zb (yA p)).isEmpty && k==zb (yA p))
def zca:Part->Prop
 | .proc (.mk op _ _ d _)=> op=4->zZ d<=900/\(zl (zm d)).length<=100000
 | .def_ (.mk _ _ j _ _)=> (ql j).length<=100000
 | .exp _=> True
def Part.allBind (p:Part):Prop:=∀q∈(zw 0 p).map (·.1),zca q
theorem Part.allBind.part {p q:Part} (h:p.allBind) (hq:q∈p.parts):q.allBind:=by
 intro x hx;rw [qJ 0 1] at hx;refine h x ?_;rw [zv];obtain ⟨y,hy,rfl⟩:=List.mem_map.1 hx;exact List.mem_map.2 ⟨y,List.mem_cons_of_mem _ (jh hq hy),rfl⟩
theorem zc7 (B:Nat) (u:World) (p:Part) (v:Value) (h:zY B u v p):(yA p).size<=maxLen:=by
 cases p with
 | proc t=> obtain ⟨o,t,a,d,k⟩:=t;obtain ⟨cs,rfl,h1,_⟩:=h;exact h1
 | exp t=> obtain ⟨o,n,t,k⟩:=t;obtain ⟨cs,rfl,h1,_⟩:=h;exact h1
 | def_ t=> simp [yA]
theorem zb8 (B:Nat) (u:World) (p:Part) (v:Value) (hs:p.small) (hb:zca p) (h:zY B u v p):
  ∃(g1 g2 g3:Nat) (cs:List Value) (ty:TypeId),v= .iface ty (.agg cs.toArray)/\((g1=216/\g2=215/\g3=217/\ty=83)∨(g1=219/\g2=218/\g3=220/\ty=88)∨(g1=230/\g2=229/\g3=231/\ty=191))/\
   (∀w:World,zh B u w->B<=w.heap.size->Calls Tryz.prog g1 #[.agg cs.toArray] w fun e w'=> ∃r vs,e= .returned r/\w'.ownsRow (w.heap.size + 1) 154 1 r vs.length vs/\ym B u vs p.parts/\Below w.heap.size w w')/\
   (∀w:World,zh B u w->B<=w.heap.size->Calls Tryz.prog g2 #[.agg cs.toArray] w fun e w'=> ∃r,e= .returned r/\zx w'.heap.size w' r (zR p)/\Below w.heap.size w w')/\
   (∀w:World,Calls Tryz.prog g3 #[.agg cs.toArray] w fun e w'=> e= .returned (.string (yA p))/\Below w.heap.size w w'):=by
 cases p with
 | proc t=>
  obtain ⟨o,t,a,d,k⟩:=t;obtain ⟨cs,rfl,h1,va,vd,vk,rfl,⟨aa,ca,rfl,_,ha⟩,⟨ad,cd,rfl,_,hd⟩,⟨ak,ck,rfl,_,hk⟩⟩:=h
  exact ⟨216,215,217,_,83,rfl, .inl ⟨rfl,rfl,rfl,rfl⟩,fun w hu hBs=> zcX o t aa ca a ad cd d ak ck k B u w hu hBs hs.1 ha hs.2.1 hd hs.2.2 hk,
   fun w hu hBs=> zki B u o t d aa ad ak _ _ ca cd ck w hu hBs hb hd,fun w=> zjm w o t aa ad ak _ _ _ ca cd ck⟩
 | exp t=>
  obtain ⟨o,n,t,k⟩:=t;obtain ⟨cs,rfl,h1,vk,rfl,⟨ak,ck,rfl,_,hk⟩⟩:=h
  exact ⟨219,218,220,_,88,rfl, .inr (.inl ⟨rfl,rfl,rfl,rfl⟩),fun w hu hBs=> zdW o n t ak ck k B u w hu hBs hs hk,
   fun w hu hBs=> (zls #[] w o n t ak _ ck).mono fun e w' ⟨h1,h2⟩=> ⟨_,h1,zx.nil _ _,h2⟩,fun w=> zkG w o n t ak _ ck⟩
 | def_ t=>
  obtain ⟨f,t,j,d,k⟩:=t;obtain ⟨cs,rfl,h1,vj,vd,vk,rfl,⟨aj,cj,rfl,_,hj⟩,⟨ad,cd,rfl,_,hd⟩,⟨ak,ck,rfl,_,hk⟩⟩:=h
  exact ⟨230,229,231,_,191,rfl, .inr (.inr ⟨rfl,rfl,rfl,rfl⟩),fun w hu hBs=> zdZ f t aj cj j ad cd d ak ck k B u w hu hBs hs.2.1 hd hs.2.2 hk,
   fun w hu hBs=> (zlM B u f t j aj ad ak _ _ cj cd ck w hu hBs hb hj (by have:=hs.1;omega)).mono fun e w' ⟨r,h1,h2,h3,h4⟩=> ⟨r,h1,qM h2 h3,h4⟩,fun w=> zjY w f t aj ad ak _ _ _ cj cd ck⟩
theorem SetF.cell_ne {w:World} {b n:Nat} {f:List UInt8->Bool} (h:SetF w b n f) {c o:Nat} {v:Value} (hc:w.cell? ⟨c,o,none⟩=some v):c≠b:=by
 obtain ⟨D,⟨es,clock,hb,_⟩,_⟩:=h;intro e;subst e;simp [World.cell?,hb] at hc
def yr (w w':World):Prop:=w.heap.size<=w'.heap.size/\∀b o v,w.cell? ⟨b,o,none⟩=some v->w'.cell? ⟨b,o,none⟩=some v
theorem yr.refl (w:World):yr w w:=⟨ZL _,fun _ _ _ h=> h⟩
theorem yr.turned {w0 w w':World} {b n:Nat} {f:List UInt8->Bool} (h:yr w0 w) (hs:SetF w b n f) (g:w.grownBy w' (some b)):yr w0 w':=by
 refine ⟨Nat.le_trans h.1 g.size,fun c o v hc=> ?_⟩;have h1:=h.2 c o v hc;have h2:=hs.cell_ne h1;exact (ZB (w:=w) (g.block c (zD h1) (fun e=> h2 (ZJ e)))).trans h1
theorem ze9 (p:Part) (k:Nat) (h:k < p.parts.length):(zM 1 (p.parts.take (k + 1))).length=(zM 1 (p.parts.take k)).length + (p.parts[k]).size:=by
 rw [xP 1 p.parts k h,List.length_append,yP 1 0];rfl
theorem zdY {α:Type} (l:List α) (f:α->Bool) (k:Nat) (h:k < l.length):(l.take (k + 1)).any f=((l.take k).any f || f l[k]):=by
 rw [ZT h,List.any_append];simp
theorem zgB {T:ByteArray} (h:T.toList.isEmpty=true):(zb T).isEmpty=true:=by
 rw [ByteArray.toList_eq] at h;exact h
theorem zc6 {T:ByteArray} (h:T.toList.isEmpty=false):(zb T).isEmpty=false:=by
 rw [ByteArray.toList_eq] at h;exact h
theorem zcs (B:Nat) (u:World):∀(s:Nat) (p:Part),p.size<=s->s<=1000->p.allSmall->p.allBind->∀(v:Value) (w:World),zY B u v p->zh B u w->B<=w.heap.size->
  Calls Tryz.prog 75 #[v] w fun e w'=> ∃b,e= .returned (.map (some b))/\w.heap.size<=b/\SetF w' b p.size (qE s p)/\Below w.heap.size w w':=by
 intro s
 induction s with
 | zero=> intro p hp;exact absurd (by rw [Part.size,zv];simp) (Nat.not_lt.2 hp)
 | succ s ih=>
  intro p hps hs1 hsm hbd v w hv hu hBs;have hz0:=zc7 B u p v hv;obtain ⟨g1,g2,g3,cs,ty,rfl,hg,hparts,hbinds,hstands⟩:=zb8 B u p v (hsm p (by rw [zv];simp)) (hbd p (by rw [zv];simp)) hv
  have hm1:∀W,(method 347 ty (.agg cs.toArray) "cabotage/term.parts").run Tryz.prog W= .ok (g1, .agg cs.toArray) W:=by
   rcases hg with ⟨rfl,rfl,rfl,rfl⟩ | ⟨rfl,rfl,rfl,rfl⟩ | ⟨rfl,rfl,rfl,rfl⟩ <;> exact fun W=> by kernel_rfl
  have hm2:∀W,(method 347 ty (.agg cs.toArray) "cabotage/term.binds").run Tryz.prog W= .ok (g2, .agg cs.toArray) W:=by
   rcases hg with ⟨rfl,rfl,rfl,rfl⟩ | ⟨rfl,rfl,rfl,rfl⟩ | ⟨rfl,rfl,rfl,rfl⟩ <;> exact fun W=> by kernel_rfl
  have hm3:∀W,(method 347 ty (.agg cs.toArray) "cabotage/term.stands").run Tryz.prog W= .ok (g3, .agg cs.toArray) W:=by
   rcases hg with ⟨rfl,rfl,rfl,rfl⟩ | ⟨rfl,rfl,rfl,rfl⟩ | ⟨rfl,rfl,rfl,rfl⟩ <;> exact fun W=> by kernel_rfl
  have hc1:∀args w,(callFunc g1 args).run Tryz.prog w= .ok (.enter g1 args) w:=by
   rcases hg with ⟨rfl,rfl,rfl,rfl⟩ | ⟨rfl,rfl,rfl,rfl⟩ | ⟨rfl,rfl,rfl,rfl⟩
   ·exact enters_of Tryz.func216 (by kernel_rfl) rfl
   ·exact enters_of Tryz.func219 (by kernel_rfl) rfl
   ·exact enters_of Tryz.func230 (by kernel_rfl) rfl
  have hc2:∀args w,(callFunc g2 args).run Tryz.prog w= .ok (.enter g2 args) w:=by
   rcases hg with ⟨rfl,rfl,rfl,rfl⟩ | ⟨rfl,rfl,rfl,rfl⟩ | ⟨rfl,rfl,rfl,rfl⟩
   ·exact enters_of Tryz.func215 (by kernel_rfl) rfl
   ·exact enters_of Tryz.func218 (by kernel_rfl) rfl
   ·exact enters_of Tryz.func229 (by kernel_rfl) rfl
  have hc3:∀args w,(callFunc g3 args).run Tryz.prog w= .ok (.enter g3 args) w:=by
   rcases hg with ⟨rfl,rfl,rfl,rfl⟩ | ⟨rfl,rfl,rfl,rfl⟩ | ⟨rfl,rfl,rfl,rfl⟩
   ·exact enters_of Tryz.func217 (by kernel_rfl) rfl
   ·exact enters_of Tryz.func220 (by kernel_rfl) rfl
   ·exact enters_of Tryz.func231 (by kernel_rfl) rfl
  have hsp:=zaP (hsm p (by rw [zv];simp));have hmm:=@run_makeMap Tryz.prog;have s0:=SetF.made w;have b0:Below w.heap.size w (w.alloc (.map #[] 0)):=ZQ w _;have hp1:=hparts (w.alloc (.map #[] 0)) (hu.trans ((Below.keptC b0).mono hBs)) (by simp;omega);have hpsz:=ZH (zfw p 1);have HV:=ZH hv;clear hparts hv hg;go_enter Tryz.func75,Tryz.ntmps75;go_wp2_with (refine hp1.mono ?_;clear hp1;rintro e w1 ⟨r,vs,rfl,hrow,hpsv,hb1⟩;obtain ⟨ra,rcap,rfl,hra⟩:=zb1 hrow);have hB1:Below w.heap.size w w1:=b0.trans (hb1.mono (by simp));have hs1':SetF w1 w.heap.size 0 (fun _=> false):=s0.later hb1;have hlen:=ZH hpsv.1;have hsz1:=hb1.size;simp at hsz1;have hvl:vs.length<=300:=by have:=hlen.out;omega
  go_loopw [13] (fun i wr=> ∃(k:Nat),k<=vs.length/\i= .int .i64 k/\SetF wr w.heap.size (zM 1 (p.parts.take k)).length (fun x=> (p.parts.take k).any (fun q=> qE s q x))/\Below w.heap.size w wr/\Mid w.heap.size w1 wr) (fun i _=> vs.length - (intOf i).toNat)
  case atStart=> exact ⟨0,by omega,rfl,by simpa [zM] using hs1',hB1,Mid.refl _ _⟩
  case round=>
   obtain ⟨k,hk',rfl,hset,hB,hW⟩:=hrel;by_cases hlt:k < vs.length
   ·have hlt':k < p.parts.length:=by have:=hlen.out;omega
    rcases hra with rfl | ⟨rb,rfl,hbA,hbB,hcl⟩
    ·simp at hlt
    have hcell:=hW.2 rb (0 + k) _ (by simp at hbA;omega) hbB (hcl k hlt);simp only [Nat.zero_add] at hcell;have hq:=hpsv.2.2 k hlt hlt';have hqs:=qi (ZM hlt');have hws:=hB.size;have ihk:=ih (p.parts[k]) (by omega) (by omega) (hsm.part (ZM hlt')) (hbd.part (ZM hlt')) vs[k] wr hq (hu.trans ((Below.keptC hB).mono hBs)) (by omega);have hcnt:=ze9 p k hlt';have hmore:=zci 1 p.parts (k + 1);have hps1:=hpsz.out;have hany:=ZH (fun x=> zdY p.parts (fun q=> qE s q x) k hlt');obtain ⟨f1,hf1⟩:∃f,f=(fun x=> (p.parts.take k).any (fun q=> qE s q x)):=⟨_,rfl⟩;rw [<-hf1] at hset;obtain ⟨f2,hf2⟩:∃f,f=qE s p.parts[k]:=⟨_,rfl⟩;rw [<-hf2] at ihk;obtain ⟨vk,hvk⟩:∃x,x=vs[k]:=⟨_,rfl⟩;rw [<-hvk] at ihk hcell;have HF1:=ZH hf1;have HF2:=ZH hf2;have hroom:(zM 1 (p.parts.take k)).length + (p.parts[k]).size<=1000:=by omega
    have HC:=ZH hcnt;clear hf1 hf2 hvk hq hcl hcnt hmore hqs hps1;go_wp2_with (go_at_call 75;refine ihk.mono ?_;clear ihk;rintro e w3 ⟨b2,rfl,hb2,hs2,hbl⟩);have hcopy:=(hset.later hbl).copy hs2 (by have:=hset.lt;omega) (by unfold maxLen;omega);go_wp2_with (go_at_call 86;refine hcopy.mono ?_;clear hcopy;rintro e w4 ⟨rfl,h4,g4⟩);have hB4:Below w.heap.size w w4:=(hB.trans (hbl.mono hws)).grown g4 (by have:=hbl.size;omega) (fun r e=> by have:=ZJ e;omega);have hW4:Mid w.heap.size w1 w4:=(hW.grown (zj hbl) (fun r e=> by cases e)).grown g4 (fun r e=> .inl (by have:=ZJ e;omega));go_roundw
    case rel=> exact ⟨k + 1,by omega,by go_num,by rw [HC.out];exact h4.congr (fun x=> by rw [hany.out x,HF1.out,HF2.out]),hB4,hW4⟩
    case measure=> simp [intOf];omega
   ·obtain rfl:k=vs.length:=by omega
    have e1:p.parts.take vs.length=p.parts:=List.take_of_length_le (by have:=hlen.out;omega);rw [e1] at hset;obtain ⟨wm,rfl⟩:∃wm:World,wm=wr:=⟨_,rfl⟩;have hwm:=hB.size;have hp2:=hbinds wm (hu.trans ((Below.keptC hB).mono hBs)) (by omega);obtain ⟨F,hF⟩:∃f,f=(fun x=> p.parts.any (fun q=> qE s q x)):=⟨_,rfl⟩;rw [<-hF] at hset;obtain ⟨L,hL⟩:∃L,L=zR p:=⟨_,rfl⟩;rw [<-hL] at hp2;obtain ⟨N1,hN1⟩:∃n,n=(zM 1 p.parts).length:=⟨_,rfl⟩;rw [<-hN1] at hset;have hpsz':=ZH (show p.size=1 + N1 by rw [hN1];exact hpsz.out);have HF:=ZH hF;have HL:=ZH hL;clear hbinds hF hL hN1 hra hW hrow hpsv hb1 hs1' hlen hsz1;go_wp2_with (refine hp2.mono ?_;clear hp2;rintro e w3 ⟨r2,rfl,hs2,hb3⟩;obtain ⟨a2,cap2,rfl,hl2,hz2,_,hcells⟩:=hs2);have hset3:=hset.later hb3;have hB3:=hB.trans (hb3.mono hwm)
    go_loopw [25] (fun i wq=> ∃(k:Nat),k<=L.length/\i= .int .i64 k/\SetF wq w.heap.size N1 (fun x=> F x && !((L.take k).any (fun b=> x==zb b)))/\Below w.heap.size w wq/\yr w3 wq) (fun i _=> L.length - (intOf i).toNat)
    case atStart=> exact ⟨0,by omega,rfl,hset3.congr (fun x=> by simp),hB3,yr.refl _⟩
    case round=>
     obtain ⟨k,hk2,rfl,hsk,hBk,hKk⟩:=hrel;by_cases hlt:k < L.length
     ·rcases hcells with h0 | ⟨b,off,rfl,hb,hc⟩
      ·subst h0;simp at hlt
      have hcell:=hKk.2 _ _ _ (hc k hlt);have hzk:=hz2 _ (ZM hlt);have hany:=ZH (fun x=> zdY L (fun b=> x==zb b) k hlt);obtain ⟨y,hy⟩:∃y,y=L[k]:=⟨_,rfl⟩;rw [<-hy] at hcell hzk hany;obtain ⟨w5,r5,s5,g5⟩:=hsk.del hzk 0;have hB5:=hBk.grown g5 hBk.size (fun r e=> by have:=ZJ e;omega);have hK5:=hKk.turned hsk g5;clear hy hc;go_wp2;refine ⟨⟨k + 1,by omega,by go_num,s5.congr (fun x=> ?_),hB5,hK5⟩,by simp [intOf];omega⟩;rw [hany.out x];cases F x <;> simp
     ·obtain rfl:k=L.length:=by omega
      rw [List.take_length] at hsk;have hwk:=hBk.size;have hp3:=hstands wr;obtain ⟨T,hT⟩:∃T,T=yA p:=⟨_,rfl⟩;rw [<-hT] at hp3 hz0;have HT:=ZH hT;clear hstands hT hcells;obtain ⟨we,rfl⟩:∃we:World,we=wr:=⟨_,rfl⟩;cases hT0:T.toList.isEmpty with
      | true=>
       go_wp2_with (refine hp3.mono ?_;clear hp3;rintro e w6 ⟨rfl,hb6⟩);go_ret;refine ⟨_,rfl,ZL _,(hsk.later hb6).mono (by have:=hpsz'.out;omega) |>.congr (fun x=> ?_),hBk.trans (hb6.mono hwk)⟩;rw [qE,<-HT.out,<-HL.out,HF.out,zgB hT0];simp
      | false=>
       go_wp2_with (refine hp3.mono ?_;clear hp3;rintro e w6 ⟨rfl,hb6⟩;obtain ⟨w7,r7,s7,g7⟩:=(hsk.later hb6).put (by have:=hpsz'.out;unfold maxLen;omega) hz0);go_ret;refine ⟨_,rfl,ZL _,s7.mono (by have:=hpsz'.out;omega) |>.congr (fun x=> ?_),(hBk.trans (hb6.mono hwk)).grown g7 (by have:=hb6.size;omega) (fun r e=> by have:=ZJ e;omega)⟩;rw [qE,<-HT.out,<-HL.out,HF.out,zc6 hT0];simp
end
section
open Go.RowKit Go.Maps Go.Sort Go.Shelf
theorem Tryz.sorts73 (m:Nat):AnyZ.SortsIn Tryz.prog Tryz.sorted73_ren Fence.wide m:=
 ⟨fun blk off cap ss W hH hblk hsz=> callsIn_wide.2 (AnyM.slices_Sort_string Tryz.sort127 blk off cap ss W hH hblk hsz),
   fun p cap W=> callsIn_wide.2 (AnyM.slices_Sort_string_none Tryz.sort127 p cap W)⟩
theorem Tryz.maps_Keys_74 (mb:Option Nat) (W:World):CallsIn Fence.wide 5 Tryz.prog 74 #[.map mb] W fun e w'=> e= .returned (.func (.func 128) #[] #[.pointer (some ⟨W.heap.size,0,none⟩)])/\w'=W.alloc (.cells #[.map mb] 70):=
 AnyZ.keys_in Tryz.keys74 Fence.wide 5 trivial rfl mb W
theorem Tryz.slices_Sorted_keys_73_74 {H:Type} (b nn:Nat) (D0:DataW H) (R:Value->Option (DataW H×List MemPlace)) (w:World) (hown:w.ownsMap Tryz.prog 9 R b nn D0) (hmax:Maps.size D0<=maxLen) (hbytes:Maps.size D0 * 16<=140737488355328):
  CallsIn Fence.wide 5 Tryz.prog 73 #[.func (.func 128) #[] #[.pointer (some ⟨w.heap.size,0,none⟩)]] (w.alloc (.cells #[.map (some b)] 70)) fun e w'=> ∃(v:Value) (ss:List (List UInt8)),e= .returned v/\ss.Perm (strKeys D0)/\
   w'.ownsRow (w.alloc (.cells #[.map (some b)] 70)).heap.size 9 1 v ss.length ((ss.mergeSort (fun x y=> decide (x<=y))).map encStr)/\(v= .slice none 0 0↔ss= [])/\Below (w.alloc (.cells #[.map (some b)] 70)).heap.size (w.alloc (.cells #[.map (some b)] 70)) w':=by
 have hbl:=hown.lt
 have hseq:SeqGives Fence.wide 2 Tryz.prog 128 #[.pointer (some ⟨w.heap.size,0,none⟩)] encStr (fun ss=> ss.Perm (strKeys D0)) (Maps.size D0) (w.alloc (.cells #[.map (some b)] 70)):=
  AnyZ.keys_gives (ρ:=Tryz.keys74_ren) { Tryz.keys74 with } Fence.wide _ trivial rfl (by omega) w.heap.size b nn D0 _ (by simp) (by simp) (by
   obtain ⟨es,clock,hb,Ft,hs,hD⟩:=hown;exact ⟨es,clock,(ZO _ _ b hbl).trans hb,Ft,hs,hD⟩)
 exact AnyZ.sorted_in Tryz.sorted73 Fence.wide 5 trivial trivial trivial trivial rfl (by omega) (Tryz.sorts73 _) (enters_of Tryz.func127 (by kernel_rfl) rfl) 128 #[.pointer (some ⟨w.heap.size,0,none⟩)] trivial (enters_of Tryz.func128 (by kernel_rfl) rfl) _ _ hmax hbytes _ hseq
end
end Go.Proofs.YtjmlaeofjjhfmaaGreat
