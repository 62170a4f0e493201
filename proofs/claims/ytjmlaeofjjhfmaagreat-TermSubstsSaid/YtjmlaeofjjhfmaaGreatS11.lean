/- Lemmas. -/
import Derived.Test.YtjmlaeofjjhfmaaGreatS10
import Derived.Test.YtjmlaeofjjhfmaaGreatS02
import Derived.RangeFuncWrites
import Derived.Maps.StringElems
set_option linter.unusedVariables false
set_option linter.unusedSimpArgs false
set_option maxRecDepth 10000
set_option maxHeartbeats 16000000
namespace Go.Proofs.YtjmlaeofjjhfmaaGreat
section
open Go.RowKit Go.Shelf
attribute [local go_sem] Oper.semAt_some
def yp (l:List UInt8):Bool:= !zF jR l
def pref (j:Nat):List ByteArray:=(((List.range j).map strN).filter yp).map mkB
theorem zf3 (j:Nat):pref (j + 1)=pref j ++ (if yp (strN j) then [mkB (strN j)] else []):=by
 unfold pref;rw [List.range_succ,List.map_append,List.filter_append,List.map_append]
 congr 1
 simp only [List.map_cons,List.map_nil,List.filter_cons,List.filter_nil]
 split <;> rfl
theorem zly (j:Nat):(pref j).length<=j:=by
 unfold pref;rw [List.length_map];exact Nat.le_trans (List.length_filter_le _ _) (by simp)
theorem zgO (l:List UInt8):(mkB l).size=l.length:=by show l.toArray.size=_;simp
def valV:Value->Nat
 | .string s=> valL (zb s)
 | _=> 0
theorem qK.walks {w w':World} {b n:Nat} {acc:List (List UInt8)} (h:qK w b n acc) (k:KeepsWalks w w'):qK w' b n acc:=by
 obtain ⟨es,clock,hb,r⟩:=h;exact ⟨es,clock,k.same b _ hb rfl,r⟩
abbrev Nm:={ s:ByteArray // s.size<=100 }
set_option maxRecDepth 100000 in
theorem zkj (n l:Nat) (J Jx:List Nm->World->Prop) (hJ:∀pre A W,J pre A->A.grownBy W none->J pre W)
  (hY:∀m pre (x:Nm) W,J pre W->pre.length < 300000000000->YieldAt Fence.wide m Tryz.prog l #[.string x.1] W fun e W'=>
   (e= .returned (.bool true)/\J (pre ++ [x]) W'/\KeepsWalks W W')∨(e= .returned (.bool false)/\Jx (pre ++ [x]) W'))
  (W:World) (h0:J [] W):
  CallsIn Fence.wide n Tryz.prog 154 #[.func (.yield l) #[] #[]] W fun e W'=> (∃v,e= .returned v)/\
   ((∃xs:List Nm,(∃j,100000<=j/\xs.map (·.1)=pref j)/\J xs W')∨(∃pre:List Nm,(∃j,pre.map (·.1)=pref j)/\Jx pre W')):=by
 have hdd:∀k:Nat,(Fence.wide.depth.isSome=true->1<=k):=fun k h=> by cases h
 have hF:∀k,Fence.wide.fn k:=fun _=> trivial;have hkw:=zbC W;refine callsIn_of_wp Tryz.func154 rfl trivial ?_ rfl;simp only [Tryz.ntmps154,List.size_toArray,List.length_cons,List.length_nil,Nat.reduceAdd,Nat.reduceSub,Array.replicate_succ,Array.replicate_zero,List.push_toArray,List.append_toArray,List.nil_append,List.cons_append]
 gi_wp2_with (refine ⟨hdd _,?_⟩;refine (callsIn_wide.2 hkw).mono ?_;clear hkw;rintro e W1 ⟨rfl,hs1,hb1⟩)
 have h1:=hJ _ _ _ h0 (zj hb1);clear h0
 gi_loopw [3] (fun s wr=> ∃(j:Nat) (xs:List Nm),s= .string (mkB (strN j))/\Hid (xs.map (·.1)=pref j)/\J xs wr/\qK wr W.heap.size 10 jR) (fun s _=> 300000000001 - valV s)
 case atStart=> exact ⟨0, [],rfl,ZH (by simp [pref]),h1,hs1⟩
 case round=>
  obtain ⟨j,xs,rfl,hxs,hJr,hsr⟩:=hrel;have hxl:xs.length<=j:=by have:=congrArg List.length hxs.out;rw [List.length_map] at this;have:=zly j;omega
  have hval:valV (.string (mkB (strN j)))=j + 1:=by show valL (zb (mkB (strN j)))=_;rw [yv];exact (jN j).1
  have hval2:valV (.string (mkB (strN (j + 1))))=j + 2:=by show valL (zb (mkB (strN (j + 1))))=_;rw [yv];exact (jN (j + 1)).1
  have hsz:=zgO (strN j);have hps:=zf3 j;by_cases hlen:(strN j).length<=8
  ·have hj:=ziE hlen
   have hlook:=hsr.look (k:=mkB (strN j)) (by rw [hsz];unfold maxLen;omega);have hnw:yp (strN j)= !zF jR (strN j):=rfl;have hfo:=fun w=> zgn (mkB (strN j)) w (by rw [hsz];omega);rw [show (zb (mkB (strN j)))=strN j from yv _,show mkB (yz (strN j))=mkB (strN (j + 1)) from rfl] at hfo;rw [show (mkB (strN j)).data.toList=strN j from yv _] at hlook;obtain ⟨s,hs⟩:∃s,s=mkB (strN j):=⟨_,rfl⟩;obtain ⟨s',hs'⟩:∃s,s=mkB (strN (j + 1)):=⟨_,rfl⟩;rw [<-hs] at hlook hfo hsz hps hval ⊢;rw [<-hs'] at hfo hval2;have hs2:=hsz;have hle:((s.size:Int)<=8):=by omega
   have HV:=ZH hval;have HV2:=ZH hval2;have HPS:=ZH hps;have HS':=ZH hs';have HL:=ZH hlen;have HS:=ZH hs;clear hs;cases hin:zF jR (strN j) with
   | true=>
    rw [hin] at hlook;have hpj:Hid (pref (j + 1)=pref j):=ZH (by rw [hps,hnw,hin];simp);clear hval hval2 hps hs' hnw hin hsz hlen hY hs2
    gi_wp2_with (refine ⟨hdd _,?_⟩;refine (callsIn_wide.2 (hfo _)).mono ?_;clear hfo;rintro e W2 ⟨rfl,hb2⟩)
    go_roundw
    case rel=> exact ⟨j + 1,xs,by rw [HS'.out],ZH (by rw [hpj.out,hxs.out]),hJ _ _ _ hJr (zj hb2),hsr.kept (zj hb2) (by simp)⟩
    case measure=> rw [HV.out,HV2.out];omega
   | false=>
    rw [hin] at hlook;have hpj:Hid (pref (j + 1)=pref j ++ [s]):=ZH (by rw [hps,hnw,hin];simp);have hx100:s.size<=100:=by rw [hs2];omega
    obtain ⟨fn,tmps,assign,body,hy,hR⟩:=hY (n - 1) xs ⟨s,hx100⟩ wr hJr (by omega);obtain ⟨x0,hx0⟩:∃x:Nm,x=⟨s,hx100⟩:=⟨_,rfl⟩;have hx1:Hid (x0.1=s):=ZH (by rw [hx0]);rw [<-hx0] at hR;clear hx0;clear hval hval2 hps hs' hnw hin hsz hlen hY hs2
    gi_wp2_with (first
     | ((try refine ⟨hdd _,?_⟩);refine hR.mono ?_;clear hR;rintro e W2 (⟨rfl,hJ2,hk2⟩ | ⟨rfl,hx2⟩))
     | (refine ⟨hdd _,?_⟩;refine (callsIn_wide.2 (hfo _)).mono ?_;clear hfo;rintro e W3 ⟨rfl,hb3⟩))
    ·go_roundw
     case rel=> exact ⟨j + 1,xs ++ [x0],by rw [HS'.out],ZH (by rw [hpj.out,List.map_append,hxs.out,List.map_cons,List.map_nil,hx1.out]),hJ _ _ _ hJ2 (zj hb3),(hsr.walks hk2).kept (zj hb3) (by simp)⟩
     case measure=> rw [HV.out,HV2.out];omega
    ·(try simp only [Exit.inBlock,Exit.then])
     refine bodyPost_ret (results_none rfl _ _ _) rfl ?_;exact ⟨⟨_,rfl⟩, .inr ⟨_,⟨j + 1,by rw [hpj.out,List.map_append,hxs.out,List.map_cons,List.map_nil,hx1.out]⟩,hx2⟩⟩
  ·have hj:=zfR (Nat.lt_of_not_le hlen)
   have hle:¬(((mkB (strN j)).size:Int)<=8):=by rw [hsz];omega
   clear hsz hval hval2 hps
   gi_wp2
   go_end0
   exact ⟨⟨_,rfl⟩, .inl ⟨_,⟨j,hj,hxs.out⟩,hJr⟩⟩
theorem zhu (n:Nat) (w:World):
  SeqStopsK Fence.wide n Tryz.prog 154 #[] (fun s:Nm=> #[.string s.1]) KeepsWalks (fun xs=> ∃j,100000<=j/\xs.map (·.1)=pref j) (fun xs=> ∃j,xs.map (·.1)=pref j) 300000000000 w:=
 fun l J Jx W hW hJ _ hY h0=>
  zkj n l J Jx (fun pre A W' h hg=> hJ pre A W' none h hg (by simp)) (fun m pre x W1 a b=> zcz m (hY pre x W1 a b)) W h0
attribute [local go_sem] Oper.semAt_some
theorem Tryz.results56:Tryz.f56.results=#[.cell 2 9]:=by kernel_rfl
theorem zg2 {j i:Nat} (h:i < j) (hw:yp (strN i)=true):mkB (strN i)∈pref j:=by
 unfold pref;exact List.mem_map.2 ⟨strN i,List.mem_filter.2 ⟨List.mem_map.2 ⟨i,List.mem_range.2 h,rfl⟩,hw⟩,rfl⟩
theorem zfZ:∀(j:Nat) (P:List ByteArray) (x:ByteArray),pref j=P ++ [x]->∃i,x=mkB (strN i)/\yp (strN i)=true/\P=pref i
 | 0,P,x,h=> by simp [pref] at h
 | j + 1,P,x,h=> by
  rw [zf3] at h;cases hw:yp (strN j) with
  | true=>
   rw [hw,if_pos rfl] at h;obtain ⟨h1,h2⟩:=List.append_inj' h rfl;exact ⟨j,by simpa using h2.symm,hw,h1.symm⟩
  | false=>
   rw [hw,if_neg (by decide),List.append_nil] at h;exact zfZ j P x h
theorem zhY (n:Nat) (w:World):CallsIn Fence.wide n Tryz.prog 110 #[] w fun e w'=> e= .returned (.func (.func 154) #[] #[])/\w'=w:=by
 refine callsIn_of_wp Tryz.func110 rfl trivial ?_ rfl;simp only [Tryz.ntmps110,List.size_toArray,List.length_cons,List.length_nil,Nat.reduceAdd,Nat.reduceSub,Array.replicate_succ,Array.replicate_zero,List.push_toArray,List.append_toArray,List.nil_append,List.cons_append]
 gi_wp2
 go_ret;exact ⟨rfl,rfl⟩
set_option maxRecDepth 100000 in
theorem zfB (n:Nat) (hn:3<=n) (w:World) (b m:Nat) (f:List UInt8->Bool) (hS:SetF w b m f) (j0:Nat) (hj0:j0 < 5000) (hg0:yp (strN j0)=true/\f (strN j0)=false):
  CallsIn Fence.wide n Tryz.prog 56 #[.map (some b)] w fun e w'=> ∃j,e= .returned (.string (mkB (strN j)))/\(yp (strN j)=true/\f (strN j)=false)/\(∀i,i < j->¬(yp (strN i)=true/\f (strN i)=false))/\Below w.heap.size w w':=by
 have hdd:∀k:Nat,(Fence.wide.depth.isSome=true->1<=k):=fun k h=> by cases h
 have h1:1<=n:=by omega
 have hF:∀k,Fence.wide.fn k:=fun _=> trivial;refine callsIn_of_wp_marks Tryz.func56 rfl trivial ?_ rfl;simp only [Tryz.ntmps56,List.size_toArray,List.length_cons,List.length_nil,Nat.reduceAdd,Nat.reduceSub,Array.replicate_succ,Array.replicate_zero,List.push_toArray,List.append_toArray,List.nil_append,List.cons_append]
 gi_wp2_with (gi_at_call 110;refine (zhY (n - 1) _).mono ?_;rintro e w' ⟨rfl,rfl⟩)
 obtain ⟨W0,hW0⟩:∃W0,W0=((w.alloc (.cells #[.map (some b)] 70)).alloc (.cells #[.string ⟨#[]⟩] 9)):=⟨_,rfl⟩;have hsz:W0.heap.size=w.heap.size + 2:=by rw [hW0];simp
 have hb0:Below w.heap.size w W0:=by rw [hW0];exact (ZQ w _).alloc (by simp) _
 have hS0:SetF W0 b m f:=by rw [hW0];exact (hS.kept (ZW _ _ none) (by simp)).kept (ZW _ _ none) (by simp)
 have c0:W0.cell? ⟨w.heap.size,0,none⟩=some (.map (some b)):=by
  rw [hW0,ZP _ _ _ (by simp),ZA _ _ _ _ rfl];rfl
 have c1:W0.cell? ⟨w.heap.size + 1,0,none⟩=some (.string ⟨#[]⟩)/\W0.frozen? ⟨w.heap.size + 1,0,none⟩=false:=by
  rw [hW0];exact ⟨by rw [ZA _ _ _ _ (by simp)];rfl,by rw [World.frozen?_alloc_at _ _ _ _ (by simp)]⟩
 have hbw:=hS.lt;rw [<-hW0];have HW:=ZH hW0;clear hW0
 refine wpIn_rangeFunc_ownG rfl h1 (gf:=154) (lb:=#[]) rfl trivial (enters_of Tryz.func154 (by kernel_rfl) rfl)
  (zhu (n - 1) W0) KeepsWalks.trans (fun W l o o' _ h1 _ h3=> KeepsWalks.putObj o' h1 h3) (ZF _ _) (fun _=> rfl)
  (fun pre W=> ((∀x∈pre,f (zb x.1)=true)/\SetF W b m f/\W.cell? ⟨w.heap.size,0,none⟩=some (.map (some b))/\W.cell? ⟨w.heap.size + 1,0,none⟩=some (.string ⟨#[]⟩)/\W.frozen? ⟨w.heap.size + 1,0,none⟩=false)/\Below w.heap.size w W)
  (fun c pre W=> (c= .ret/\∃pre0 x,pre=pre0 ++ [x]/\(∀y∈pre0,f (zb y.1)=true)/\f (zb x.1)=false/\W.cell? ⟨w.heap.size + 1,0,none⟩=some (.string x.1))/\Below w.heap.size w W)
  (OwnFrom.and (fun s X Y row hs hg hr=> ⟨hs.1,hs.2.1.kept hg (fun e=> by have:=(hr _ e.symm).1;omega),cell_kept hs.2.2.1 hg (fun r e=> (hr r e).2),cell_kept hs.2.2.2.1 hg (fun r e=> (hr r e).2),(frozen_kept hs.2.2.2.1 hg (fun r e=> (hr r e).2)).trans hs.2.2.2.2⟩) (ownFrom_below (ZL _) (by omega)))
  (fun c=> OwnFrom.and (fun s X Y row hs hg hr=> by
   obtain ⟨h1,p0,x,h2,h3,h4,h5⟩:=hs;exact ⟨h1,p0,x,h2,h3,h4,cell_kept h5 hg (fun r e=> (hr r e).2)⟩) (ownFrom_below (ZL _) (by omega)))
  ⟨⟨by simp,hS0,c0,c1.1,c1.2⟩,hb0⟩
  (fun x'=> { tmps:=#[.map (some b), .pointer (some ⟨w.heap.size,0,none⟩), .pointer (some ⟨w.heap.size + 1,0,none⟩), .string x'.1, .func (.func 154) #[] #[], .string x'.1,undef,undef,undef,undef,undef],defers:= [] }) ?assign ?body ?done ?stop
 case assign=>
  intro l x W K hK
  gi_wp2
  exact hK
 case body=>
  rintro l pre ⟨x,hx⟩ W ⟨⟨hu,hSW,hc0,hc1,hf1⟩,hB'⟩ hN;have hlook:=hSW.look (k:=x) (by unfold maxLen;omega);cases hfx:f (zb x) with
  | true=>
   rw [hfx] at hlook
   gi_wp2
   refine ⟨KeepsFrom.refl _ _,KeepsWalks.refl _,⟨?_,hSW,hc0,hc1,hf1⟩,hB'⟩;intro y hy;rcases List.mem_append.1 hy with hy | hy
   ·exact hu y hy
   ·obtain rfl:=List.mem_singleton.1 hy;exact hfx
  | false=>
   rw [hfx] at hlook
   gi_wp2
   exact ⟨(KeepsOthers.setCell _ _ _).from _,⟨rfl,pre,_,rfl,hu,hfx,World.cell?_setCell_same' _ _ _ (by rw [hc1];rfl)⟩,hB'.setCell (by simp) _⟩
 case done=>
  rintro D ys W hD ⟨j,hj,hys⟩ ⟨⟨hu,_⟩,hB'⟩ hK;exfalso;have h2:=zg2 (i:=j0) (j:=j) (by omega) hg0.1;rw [<-hys] at h2;obtain ⟨y,hy,he⟩:=List.mem_map.1 h2;have h3:=hu y hy;rw [he,yv,hg0.2] at h3;cases h3
 case stop=>
  rintro D c pre W hD ⟨j,hj⟩ ⟨⟨rfl,pre0,x,rfl,hu,hfx,hcx⟩,hB'⟩ hK;rw [List.map_append] at hj;obtain ⟨i,hi1,hi2,hi3⟩:=zfZ j _ _ hj.symm;have hi1':x.1=mkB (strN i):=hi1;have hxi:zb x.1=strN i:=by rw [hi1',yv]
  have hDl:=(ZG hK).1
  have hmin:∀k,k < i->yp (strN k)=true->f (strN k)=true:=by
   intro k hk hw;have h2:=zg2 hk hw;rw [<-hi3] at h2;obtain ⟨y,hy,he⟩:=List.mem_map.1 h2;have h3:=hu y hy
   rwa [he,yv] at h3
  have HI:=ZH hi1';have HM:=ZH hmin;clear hj hi1 hi1' hmin
  gi_wp2
  refine ⟨by simp, .inl ⟨_,_,rfl,run_takeDeferred hK,?_⟩⟩;have d0:=cell_kept hcx (grownBy_putObj' W D (.deferred none)) (fun r e=> by cases e;exact ⟨_,hK,rfl⟩);refine ⟨.string x.1,by simp [results,Tryz.results56,go_sem,d0],i,by rw [HI.out],⟨hi2,by rw [<-hxi];exact hfx⟩,?_,hB'.trans (belowK_b (w:=w) (ZL _) _ D _ _ (by omega) hK rfl rfl)⟩;exact fun k hk hc=> by have:=HM.out k hk;simp_all
end
section
open Go.RowKit Go.Shelf Go.Maps
theorem zjy (k:List UInt8):∀(acc:List (List UInt8)) (D:DataW Unit) (_:IsMap D),
  has ((acc.map Lit.string).foldl (fun m x=> m.put x (.lit (.bool true))) D) (.string k)=(zF acc k || has D (.string k))/\
  ∀z,((acc.map Lit.string).foldl (fun m x=> m.put x (.lit (.bool true))) D).atKey (.string k) z=if zF acc k then .lit (.bool true) else D.atKey (.string k) z:=by
 intro acc
 induction acc with
 | nil=> intro D _;simp [zF]
 | cons a acc ih=>
  intro D hD;obtain ⟨h1,h2⟩:=ih (D.put (.string a) (.lit (.bool true))) (by obtain ⟨es,rfl⟩:=hD;exact ⟨_,rfl⟩);rw [List.map_cons,List.foldl_cons];have hi:zF (a::acc) k=((a==k) || zF acc k):=by simp [zF]
  rw [h1,hi];by_cases e:a=k
  ·subst e
   rw [has_put_same hD (by simp [WideAt.IsKeyLit])];refine ⟨by simp,fun z=> ?_⟩;rw [h2 z,atKey_put_same hD (by simp [WideAt.IsKeyLit])];simp
  ·rw [has_put_other (by simp;exact fun h=> e h.symm)]
   have e':(a==k)=false:=by simpa using e
   refine ⟨by rw [e'];simp,fun z=> ?_⟩;rw [h2 z,atKey_put_other (by simp;exact fun h=> e h.symm),e'];simp
theorem qK.toF {w:World} {b n:Nat} {acc:List (List UInt8)} (h:qK w b n acc):SetF w b n (zF acc):=by
 refine ⟨_,h,fun k=> ?_⟩;obtain ⟨h1,h2⟩:=zjy k acc (.map []) ⟨[],rfl⟩;unfold setOf;refine ⟨by rw [h1];simp [has],fun z=> ?_⟩;rw [h2 z];cases zF acc k <;> simp [DataW.atKey]
theorem zgD {i j:Nat} (h:strN i=strN j):i=j:=by
 have h1:=(jN i).1;have h2:=(jN j).1;rw [h] at h1;omega
theorem zgh (S:List (List UInt8)) (hS:S.length<=90):∃j0,j0 < 1000/\yp (strN j0)=true/\zF S (strN j0)=false:=by
 refine Classical.byContradiction fun hno=> ?_
 have hall:∀j,j < 101->strN j∈jR ++ S:=by
  intro j hj;refine Classical.byContradiction fun hn=> hno ⟨j,by omega,?_,?_⟩
  ·unfold yp
   cases hw:zF jR (strN j) with
   | false=> rfl
   | true=>
    refine absurd (List.mem_append_left _ ?_) hn;unfold zF at hw;obtain ⟨x,hx,he⟩:=List.any_eq_true.1 hw;rw [<-show x=strN j by simpa using he];exact hx
  ·cases hw:zF S (strN j) with
   | false=> rfl
   | true=>
    refine absurd (List.mem_append_right _ ?_) hn;unfold zF at hw;obtain ⟨x,hx,he⟩:=List.any_eq_true.1 hw;rw [<-show x=strN j by simpa using he];exact hx
 have hnd:((List.range 101).map strN).Nodup:=by
  refine List.pairwise_map.2 ((List.nodup_range (n:=101)).imp ?_);intro a b hab h;exact hab (zgD h)
 have hsub:((List.range 101).map strN) ⊆ jR ++ S:=by
  intro x hx;obtain ⟨j,hj,rfl⟩:=List.mem_map.1 hx;exact hall j (List.mem_range.1 hj)
 have hlen:=hnd.length_le_of_subset hsub;have hw:jR.length=10:=rfl;rw [List.length_map,List.length_range,List.length_append,hw] at hlen;omega
def zbl (S:List (List UInt8)) (j:Nat):Prop:=(yp (strN j)=true/\zF S (strN j)=false)/\∀i,i < j->¬(yp (strN i)=true/\zF S (strN i)=false)
theorem zbl.unique {S:List (List UInt8)} {i j:Nat} (h:zbl S i) (k:zbl S j):i=j:=by
 rcases Nat.lt_trichotomy i j with hlt | h2 | hlt
 ·exact absurd h.1 (k.2 i hlt)
 ·exact h2
 ·exact absurd k.1 (h.2 j hlt)
theorem zbl.lt {S:List (List UInt8)} (hS:S.length<=90) {j:Nat} (h:zbl S j):j < 1000:=by
 obtain ⟨j0,h0,h1⟩:=zgh S hS;refine Classical.byContradiction fun hn=> h.2 j0 (by omega) h1
theorem zkW (v:Value) (ss:List ByteArray) (w:World) (h:zx w.heap.size w v ss) (hl:ss.length<=90):
  Calls Tryz.prog 18 #[v] w fun e w'=> ∃j,e= .returned (.string (mkB (strN j)))/\zbl (ss.map zb) j/\Below w.heap.size w w':=by
 obtain ⟨j0,hj0,hg0⟩:=zgh (ss.map zb) (by simpa using hl);have ha:=zgg v ss w h;go_enter Tryz.func18,Tryz.ntmps18;go_wp2_with (go_at_call 57;refine ha.mono ?_;clear ha;rintro e w1 ⟨rfl,hs,hb1⟩);have hun:=(callsIn_wide (n:=6)).1 (zfB 6 (by omega) w1 w.heap.size _ _ hs.toF j0 (by omega) hg0);go_wp2_with (go_at_call 56;refine hun.mono ?_;clear hun;rintro e w2 ⟨j,rfl,h1,h2,hb2⟩);go_ret;exact ⟨j,rfl,⟨h1,h2⟩,hb1.trans (hb2.mono hb1.size)⟩
abbrev Frame:=List UInt8->Option ByteArray
inductive Base where
 | outside | anew | putting (x:ByteArray) (e:Exp)
structure Env where
 base:Base
 frames:List Frame
abbrev Used:=List UInt8->Bool
def jZ (U:Used) (j:Nat):Bool:=yp (strN j) && !U (strN j)
def yW (U:Used):Nat->Nat->Nat
 | 0,i=> i
 | n + 1,i=> if jZ U i then i else yW U n (i + 1)
def choose (U:Used):List UInt8:=strN (yW U 5000 0)
theorem zaA (U:Used):∀(n i j:Nat),i<=j->j < i + n->jZ U j=true->jZ U (yW U n i)=true/\(∀k,i<=k->k < yW U n i->jZ U k=false)/\yW U n i<=j:=by
 intro n
 induction n with
 | zero=> intro i j h1 h2;omega
 | succ n ih=>
  intro i j h1 h2 h3;unfold yW;cases hg:jZ U i with
  | true=> simp only [if_true];exact ⟨hg,fun k _ _=> by omega,h1⟩
  | false=>
   simp only [Bool.false_eq_true,if_false];have hij:i≠j:=fun e=> by rw [e,h3] at hg;cases hg
   obtain ⟨a,b,c⟩:=ih (i + 1) j (by omega) (by omega) h3;refine ⟨a,fun k h1 h2=> ?_,c⟩;by_cases hk:k=i
   ·rw [hk];exact hg
   ·exact b k (by omega) h2
def Cov (U:Used) (m:Nat):Prop:=∃L:List (List UInt8),(∀k,U k=true->k∈L)/\L.length<=m
theorem Cov.mono {U:Used} {m n:Nat} (h:Cov U m) (hn:m<=n):Cov U n:=by
 obtain ⟨L,h1,h2⟩:=h;exact ⟨L,h1,by omega⟩
def xl (U:Used) (c:List UInt8):Used:=fun x=> U x || x==c
theorem Cov.plus {U:Used} {m:Nat} (h:Cov U m) (c:List UInt8):Cov (xl U c) (m + 1):=by
 obtain ⟨L,h1,h2⟩:=h;refine ⟨c::L,fun k hk=> ?_,by simp;omega⟩;simp only [xl,Bool.or_eq_true,beq_iff_eq] at hk;rcases hk with hk | hk
 ·exact List.mem_cons_of_mem _ (h1 k hk)
 ·exact hk▸List.mem_cons_self
theorem Cov.free {U:Used} {m:Nat} (h:Cov U m) (hm:m<=4900):∃j,j < 5000/\jZ U j=true:=by
 obtain ⟨L,h1,h2⟩:=h;refine Classical.byContradiction fun hno=> ?_
 have hall:∀j,j < 5000->strN j∈jR ++ L:=by
  intro j hj;refine Classical.byContradiction fun hn=> hno ⟨j,hj,?_⟩;unfold jZ;rw [Bool.and_eq_true];refine ⟨?_,?_⟩
  ·unfold yp
   cases hw:zF jR (strN j) with
   | false=> rfl
   | true=>
    refine absurd (List.mem_append_left _ ?_) hn;unfold zF at hw;obtain ⟨x,hx,he⟩:=List.any_eq_true.1 hw;rw [<-show x=strN j by simpa using he];exact hx
  ·cases hw:U (strN j) with
   | false=> rfl
   | true=> exact absurd (List.mem_append_right _ (h1 _ hw)) hn
 have hnd:((List.range 5000).map strN).Nodup:=by
  refine List.pairwise_map.2 ((List.nodup_range (n:=5000)).imp ?_);intro a b hab h;exact hab (zgD h)
 have hsub:((List.range 5000).map strN) ⊆ jR ++ L:=by
  intro x hx;obtain ⟨j,hj,rfl⟩:=List.mem_map.1 hx;exact hall j (List.mem_range.1 hj)
 have hlen:=hnd.length_le_of_subset hsub;have hw:jR.length=10:=rfl;rw [List.length_map,List.length_range,List.length_append,hw] at hlen;omega
theorem zkn {U:Used} {j:Nat} (h1:jZ U j=true) (h2:∀i,i < j->¬jZ U i=true) (hj:j < 5000):strN j=choose U:=by
 obtain ⟨a,b,c⟩:=zaA U 5000 0 j (by omega) (by omega) h1;unfold choose;by_cases e:yW U 5000 0=j
 ·rw [e]
 ·exact absurd a (h2 _ (by omega))
def yq (s:ByteArray):Exp:= .mk 2 0 s []
def Env.binds (v:Env) (x:List UInt8):Bool:=v.frames.any (fun f=> (f x).isSome)
def Base.becomes:Base->ByteArray->Exp
 | .putting y e,x=> if x=y then e else yq x
 | _,x=> yq x
def yC (b:Base) (x:ByteArray):List Frame->Exp
 | []=> b.becomes x
 | f::fs=> match f (zb x) with
  | some n=> yq n
  | none=> yC b x fs
def Env.becomes (v:Env) (x:ByteArray):Exp:=yC v.base x v.frames
def Base.renames:Base->Env->Part->List ByteArray
 | .outside,_,_=> []
 | .anew,_,p=> zR p
 | .putting y e,v,p=> if v.binds (zb y) || !qE 60 p (zb y) then [] else (zR p).filter (fun n=> qE 60 (.exp e) (zb n))
def upd (f:Frame) (k v:ByteArray):Frame:=fun x=> if x==zb k then some v else f x
def zak (f:Frame) (n:ByteArray):Frame:=upd f n n
def xC (s:Frame×Used) (n:ByteArray):Frame×Used:=(upd s.1 n (mkB (choose s.2)),xl s.2 (choose s.2))
def inside (v:Env) (U:Used) (p:Part):Env×Used:=
 if zR p= [] then (v,U) else
  let s:=(v.base.renames v p).foldl xC ((zR p).foldl zak (fun _=> none),U)
  ({ base:=v.base,frames:=s.1::v.frames },s.2)
def yS (v:Env) (x:ByteArray):Option ByteArray:=
 if x.size=0 then some x else match v.becomes x with
  | .mk op _ t _=> if op=2 then some t else none
mutual
def zeS (v:Env):Exp->Exp
 | .mk op n t kids=> if op=2 then v.becomes t else .mk op n t (jM v kids)
def jM (v:Env):List Exp->List Exp
 | []=> []
 | e::es=> zeS v e::jM v es
end
def zV {S A B:Type} (F:S->A->Option (B×S)):S->List A->Option (List B×S)
 | s, []=> some ([],s)
 | s,a::l=> match F s a with
  | none=> none
  | some (b,s')=> match zV F s' l with
   | none=> none
   | some (bs,s'')=> some (b::bs,s'')
def zbr (v:Env):List ByteArray->Option (List ByteArray)
 | []=> some []
 | a::l=> match yS v a with
  | none=> none
  | some b=> match zbr v l with
   | none=> none
   | some bs=> some (b::bs)
def msgM (v inn:Env) (j:Msg):Option Msg:=
 match yS v j.text with
 | none=> none
 | some t=> match zbr inn j.names with
  | none=> none
  | some ns=> some ⟨t,ns⟩
def zau (v inn:Env):List Msg->Option (List Msg)
 | []=> some []
 | a::l=> match msgM v inn a with
  | none=> none
  | some b=> match zau v inn l with
   | none=> none
   | some bs=> some (b::bs)
mutual
def yl (v:Env) (U:Used):Term->Option (Term×Used)
 | .mk op t args defs kids=>
  let i:=inside v U (.proc (.mk op t args defs kids))
  match yS v t with
  | none=> none
  | some t'=> match jx i.1 i.2 defs with
   | none=> none
   | some (defs',U2)=> match ju i.1 U2 kids with
    | none=> none
    | some (kids',U3)=> some (.mk op t' (jM i.1 args) defs' kids',U3)
def xJ (v:Env) (U:Used):zg->Option (zg×Used)
 | .mk form t joins defs kids=>
  let i:=inside v U (.def_ (.mk form t joins defs kids))
  match yS v t with
  | none=> none
  | some t'=> match zau v i.1 joins with
   | none=> none
   | some js'=> match jx i.1 i.2 defs with
    | none=> none
    | some (defs',U2)=> match ju i.1 U2 kids with
     | none=> none
     | some (kids',U3)=> some (.mk form t' js' defs' kids',U3)
def ju (v:Env) (U:Used):List Term->Option (List Term×Used)
 | []=> some ([],U)
 | a::l=> match yl v U a with
  | none=> none
  | some (b,U')=> match ju v U' l with
   | none=> none
   | some (bs,U'')=> some (b::bs,U'')
def jx (v:Env) (U:Used):List zg->Option (List zg×Used)
 | []=> some ([],U)
 | a::l=> match xJ v U a with
  | none=> none
  | some (b,U')=> match jx v U' l with
   | none=> none
   | some (bs,U'')=> some (b::bs,U'')
end
theorem zfQ (v:Env):∀(l:List Term) (U:Used),ju v U l=zV (yl v) U l
 | [],_=> rfl
 | a::l,U=> by
  rw [ju,zV];cases yl v U a with
  | none=> rfl
  | some x=>
   obtain ⟨b,U'⟩:=x;simp only;rw [zfQ v l U'];cases zV (yl v) U' l with
   | none=> rfl
   | some y=> rfl
theorem zfC (v:Env):∀(l:List zg) (U:Used),jx v U l=zV (xJ v) U l
 | [],_=> rfl
 | a::l,U=> by
  rw [jx,zV];cases xJ v U a with
  | none=> rfl
  | some x=>
   obtain ⟨b,U'⟩:=x;simp only;rw [zfC v l U'];cases zV (xJ v) U' l with
   | none=> rfl
   | some y=> rfl
theorem zd0 (v i:Env):∀(l:List Msg),zau v i l=(zV (fun (_:Unit) a=> (msgM v i a).map (fun b=> (b,()))) () l).map (·.1)
 | []=> rfl
 | a::l=> by
  rw [zau,zV];cases h:msgM v i a with
  | none=> rfl
  | some x=>
   simp only [Option.map_some];rw [zd0 v i l];cases zV (fun (_:Unit) a=> (msgM v i a).map (fun b=> (b,()))) () l with
   | none=> rfl
   | some y=> rfl
theorem zf5 (v:Env):∀(l:List ByteArray),zbr v l=(zV (fun (_:Unit) a=> (yS v a).map (fun b=> (b,()))) () l).map (·.1)
 | []=> rfl
 | a::l=> by
  rw [zbr,zV];cases h:yS v a with
  | none=> rfl
  | some x=>
   simp only [Option.map_some];rw [zf5 v l];cases zV (fun (_:Unit) a=> (yS v a).map (fun b=> (b,()))) () l with
   | none=> rfl
   | some y=> rfl
end
section
open Go.RowKit Go.Shelf Go.Maps Go.WideMaps
theorem Tryz.underlyingMS:Tryz.prog.underlying 121=some (.map 9 9):=by kernel_rfl
theorem zjs (w:World):(zeroValue 9).run Tryz.prog w= .ok (.string ⟨#[]⟩) w:=by kernel_rfl
def OwnF (w:World) (b n:Nat) (f:Frame):Prop:=
 ∃D,w.ownsMap (H:=Unit) Tryz.prog 9 (plainElem Tryz.prog 9) b n D/\∀k,has D (.string k)=(f k).isSome/\∀z,D.atKey (.string k) z=match f k with | some v=> .lit (.string (zb v)) | none=> z
theorem OwnF.congr {w:World} {b n:Nat} {f g:Frame} (h:OwnF w b n f) (e:∀k,f k=g k):OwnF w b n g:=by
 rw [<-funext e];exact h
theorem OwnF.made (w:World):OwnF (w.alloc (.map #[] 0)) w.heap.size 0 (fun _=> none):=
 ⟨.map [],World.ownsMap_made _ _ _ _,fun k=> ⟨rfl,fun z=> rfl⟩⟩
theorem OwnF.lt {w:World} {b n:Nat} {f:Frame} (h:OwnF w b n f):b < w.heap.size:=by
 obtain ⟨D,h,_⟩:=h;exact h.lt
theorem OwnF.mono {w:World} {b n m:Nat} {f:Frame} (h:OwnF w b n f) (hn:n<=m):OwnF w b m f:=by
 obtain ⟨D,h,r⟩:=h;exact ⟨D,h.mono hn,r⟩
theorem OwnF.kept {w w':World} {b n:Nat} {f:Frame} {row:Option Nat} (h:OwnF w b n f) (hg:w.grownBy w' row) (hne:some b≠row):OwnF w' b n f:=by
 obtain ⟨D,h,r⟩:=h;exact ⟨D,h.kept hg hne,r⟩
theorem OwnF.later {w w':World} {b n:Nat} {f:Frame} (h:OwnF w b n f) (hb:Below w.heap.size w w'):OwnF w' b n f:=h.kept (zj hb) (by simp)
theorem OwnF.look {w:World} {b n:Nat} {f:Frame} (h:OwnF w b n f) {k:ByteArray} (hk:k.size<=maxLen):
  (Instr.lookup 121 (.map (some b)) (.string k) true).run Tryz.prog w= .ok (.tuple #[.string ((f (zb k)).getD ⟨#[]⟩), .bool (f (zb k)).isSome]) w/\((f (zb k)).getD ⟨#[]⟩).size<=maxLen:=by
 obtain ⟨D,hD,hf⟩:=h;obtain ⟨v,ps,hrun,hv⟩:=World.ownsMap.look_ok hD (string_keyed Tryz.underlying9) Tryz.underlyingMS (zjs w) (plainElem_string (s:=⟨#[]⟩) Tryz.underlying9 (by simp [ByteArray.size])) (keyOf_string_mk Tryz.underlying9 hk);obtain ⟨a,rfl,ha,hz⟩:=plainElem_string_inv Tryz.underlying9 hv;rw [hrun];have e1:=(hf (zb k)).1;have e2:=(hf (zb k)).2 (.lit (.string []));rw [show Lit.string k.data.toList=Lit.string (zb k) from rfl] at ha ⊢;have ha':D.atKey (.string (zb k)) (.lit (.string []))= .lit (.string a.data.toList):=congrArg Prod.fst ha;rw [e1];cases hfk:f (zb k) with
 | none=>
  rw [(hf _).2,hfk] at ha';have e: []=a.data.toList:=Lit.string.inj (DataW.lit.inj ha');have:a=⟨#[]⟩:=ByteArray.ext (Array.toList_inj.1 (show a.data.toList= [] from e.symm));subst this;exact ⟨by simp,by simp [ByteArray.size]⟩
 | some x=>
  rw [(hf _).2,hfk] at ha';have e:zb x=a.data.toList:=Lit.string.inj (DataW.lit.inj ha');have:a=x:=ByteArray.ext (Array.toList_inj.1 (show a.data.toList=x.data.toList from e.symm));subst this;exact ⟨by simp,by simpa using hz⟩
theorem OwnF.put {w:World} {b n:Nat} {f:Frame} (h:OwnF w b n f) (hn:n < maxLen) {k v:ByteArray} (hk:k.size<=maxLen) (hv:v.size<=maxLen):
  ∃w',(Instr.mapUpdate 121 (.map (some b)) (.string k) (.string v)).run Tryz.prog w= .ok () w'/\OwnF w' b (n + 1) (upd f k v)/\w.grownBy w' (some b):=by
 obtain ⟨D,hD,hf⟩:=h;obtain ⟨w',h1,h2,h3⟩:=World.ownsMap.update hD (string_keyed Tryz.underlying9) Tryz.underlyingMS hn (keyOf_string_mk Tryz.underlying9 hk) (plainElem_string Tryz.underlying9 hv);refine ⟨w',h1,⟨_,h2,fun x=> ?_⟩,h3⟩;have hm:IsMap D:=hD.isMap;by_cases hx:x=zb k
 ·subst hx
  have e1:=has_put_same (D:=D) hm (k:= .string (zb k)) (by simp [WideAt.IsKeyLit]) (.lit (.string (zb v)));refine ⟨by simp [upd];exact e1,fun z=> ?_⟩;have e2:=atKey_put_same (D:=D) hm (k:= .string (zb k)) (by simp [WideAt.IsKeyLit]) (.lit (.string (zb v))) z;simp [upd];exact e2
 ·have hne:Lit.string x≠Lit.string k.data.toList:=by simp;exact hx
  have hb:(x==zb k)=false:=by simpa using hx
  simp only [upd,hb,Bool.false_eq_true,if_false];rw [has_put_other hne];exact ⟨(hf x).1,fun z=> by rw [atKey_put_other hne];exact (hf x).2 z⟩
def xZ (w:World) (bu:Nat) (v:Value) (f:Frame):Prop:=
 (v= .map none/\∀k,f k=none)∨∃b,v= .map (some b)/\b≠bu/\OwnF w b 1000000 f
theorem xZ.kept {w w':World} {bu:Nat} {v:Value} {f:Frame} (h:xZ w bu v f) (hg:w.grownBy w' (some bu)):xZ w' bu v f:=by
 rcases h with h | ⟨b,h1,h2,h3⟩
 ·exact .inl h
 ·exact .inr ⟨b,h1,h2,h3.kept hg (fun e=> h2 (ZJ e))⟩
theorem xZ.later {w w':World} {bu:Nat} {v:Value} {f:Frame} (h:xZ w bu v f) (hb:Below w.heap.size w w'):xZ w' bu v f:=by
 rcases h with h | ⟨b,h1,h2,h3⟩
 ·exact .inl h
 ·exact .inr ⟨b,h1,h2,h3.later hb⟩
theorem xZ.look {w:World} {bu:Nat} {v:Value} {f:Frame} (h:xZ w bu v f) {k:ByteArray} (hk:k.size<=maxLen):
  (Instr.lookup 121 v (.string k) true).run Tryz.prog w= .ok (.tuple #[.string ((f (zb k)).getD ⟨#[]⟩), .bool (f (zb k)).isSome]) w/\((f (zb k)).getD ⟨#[]⟩).size<=maxLen:=by
 rcases h with ⟨rfl,h⟩ | ⟨b,rfl,_,h⟩
 ·rw [h]
  refine ⟨?_,by simp [ByteArray.size]⟩;have:=look_nil (P:=Tryz.prog) (w:=w) (t:=121) true (string_keyed Tryz.underlying9) Tryz.underlyingMS (zjs w) (keyOf_string_mk Tryz.underlying9 hk);rw [this];rfl
 ·exact h.look hk
end
section
open Go.RowKit Go.Shelf Go.Maps



end
end Go.Proofs.YtjmlaeofjjhfmaaGreat
