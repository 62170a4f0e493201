/- Lemmas. -/
import Derived.Test.YtjmlaeofjjhfmaaGreatS31
set_option linter.unusedVariables false
set_option linter.unusedSimpArgs false
set_option maxRecDepth 10000
set_option maxHeartbeats 16000000
namespace Go.Proofs.YtjmlaeofjjhfmaaGreat
section
open Go.RowKit Go.Shelf Go.Maps Go.Sort
theorem gath_call (s:Nat) (ih:FAt s) (q:Part) (hq:q.size<=s) (h60:q.size<=60) (hsh:jS q=true) (hag:yY q=true) (B:Nat) (u wr:World) (cs:List Value) (vo vb:Value) (out bound:List ByteArray) (n0:Nat) (F0:List UInt8->Prop) (qs:List Part)
  (hu:zh B u wr) (hB:B<=wr.heap.size) (hc:zkr B u cs q) (hm:Gath s out bound n0 F0 qs vo wr) (hb:zx wr.heap.size wr vb bound) (hl:out.length + n0 + sz qs + q.size<=900) (hbl:bound.length + 300 * q.size<=30000):
  Calls Tryz.prog (fFn q) #[vo,vb, .agg cs.toArray] wr fun e w'=> ∃v,e= .returned v/\Hid (Gath s out bound n0 F0 (qs ++ [q]) v w')/\Below wr.heap.size wr w':=by
 obtain ⟨o2,g1,g2,g3,g4⟩:=hm;refine (ih q hq h60 hsh hag B u wr cs vo vb o2 bound hu hB hc g1 hb g2 (by omega) hbl).mono ?_;intro e w' hq2;obtain ⟨v,h1,h2,h3⟩:=Gath.step g3 g4 hq2;exact ⟨v,h1,ZH h2,h3⟩
theorem Gath.slice {s:Nat} {out bound:List ByteArray} {n0:Nat} {F0:List UInt8->Prop} {qs:List Part} {v:Value} {w:World} (h:Gath s out bound n0 F0 qs v w):∃a l c,v= .slice a l c:=by
 obtain ⟨o2,g1,_⟩:=h;obtain ⟨a,c,rfl,_⟩:=g1.strs;exact ⟨_,_,_,rfl⟩
theorem take_map {α:Type} (f:α->Part) (l:List α) (k:Nat) (h:k < l.length) (e0:α) (he:e0=l[k]) (qs:List Part):qs ++ (l.take (k + 1)).map f=(qs ++ (l.take k).map f) ++ [f e0]:=by
 rw [ZT h,List.map_append,he];simp
theorem f_term4 (s:Nat) (ih:FAt s) (text:ByteArray) (args:List Exp) (defs:List zg) (kids:List Term) (hs:(Part.proc (.mk 4 text args defs kids)).size<=s + 1) (h60:(Part.proc (.mk 4 text args defs kids)).size<=60) (hsh:jS (.proc (.mk 4 text args defs kids))=true) (hag:yY (.proc (.mk 4 text args defs kids))=true)
  (B:Nat) (u w:World) (cs:List Value) (v vb:Value) (out bound:List ByteArray) (hu:zh B u w) (hBl:B<=w.heap.size) (hv:ze B u cs (.mk 4 text args defs kids)) (ho:yE w v out) (hb:zx w.heap.size w vb bound) (hs0:Srt out)
  (hl:out.length + (Part.proc (.mk 4 text args defs kids)).size<=900) (hbl:bound.length + 300 * (Part.proc (.mk 4 text args defs kids)).size<=30000):
  Calls Tryz.prog 121 #[v,vb, .agg cs.toArray] w (zkz out (fset (s + 1) bound (.proc (.mk 4 text args defs kids))) (Part.proc (.mk 4 text args defs kids)).size w):=by
 unfold ze at hv;obtain ⟨hz,_,_,_,rfl,⟨a0,p0,rfl,l0,h0⟩,⟨a1,p1,rfl,l1,h1⟩,⟨a2,p2,rfl,l2,h2⟩⟩:=hv;have hss:=yV (Part.proc (.mk 4 text args defs kids));simp only [Part.parts,qB] at hss;have hshk:=allSh_parts hsh;have hagk:=agAll_parts hag;have hag0:=hag;rw [zeb,Bool.and_eq_true] at hag0;have hagB:qZ defs=true:=by simpa [yb] using hag0.1
 have hsd:jJ (defs.map .def_)=true:=by
  have h:=hsh;rw [zcG] at h;simp only [Part.parts,za4,Bool.and_eq_true] at h;exact h.2.1.2
 rw [zcG,Bool.and_eq_true] at hsh;have hsp:=hsh.1;simp only [Part.shaped,yg,Bool.or_eq_true,Bool.and_eq_true,beq_iff_eq,decide_eq_true_eq] at hsp;have hsp':text.size=0/\args.length=0:=by omega
 obtain ⟨ht0,hg0⟩:=hsp';obtain rfl:=xd ht0;obtain rfl:=List.eq_nil_of_length_eq_zero hg0;clear hsp hsh hag0 hag ht0 hg0;have hcs:=zmc defs;have htx:=zhG hsd
 have hck:(qb defs ++ zi defs).length<=240:=by
  have h1:=yR [] (zl (zm defs));have h2:=yx defs;rw [List.length_append];unfold qb;simp at h1;unfold zZ at *;omega
 obtain ⟨U,hU⟩:=zeQ.1 hagB;have hbd:=zdb B u defs ⟨U,by omega,by omega,hU⟩ (by omega) a1 p1 l1 h1;obtain ⟨bn,hbn⟩:∃bn,bn=qb defs ++ zi defs:=⟨_,rfl⟩;rw [<-hbn] at hbd hck;obtain ⟨F,hF⟩:∃F,F=fset (s + 1) bound (.proc (.mk 4 ByteArray.empty [] defs kids)):=⟨_,rfl⟩;obtain ⟨N,hN⟩:∃N,N=(Part.proc (.mk 4 ByteArray.empty [] defs kids)).size:=⟨_,rfl⟩
 have hFF:∀k,F k↔((defs.map Part.def_ ++ kids.map Part.proc).any (fun q=> qE s q k)=true/\k ∉ (bound ++ bn).map zb):=by
  intro k;rw [hF,hbn];have e:(zb ByteArray.empty).isEmpty=true:=rfl;simp only [fset,qE,Part.parts,zR,yA,e,if_true,List.map_nil,List.nil_append,Bool.not_true,Bool.false_and,Bool.or_false,Bool.and_eq_true,Bool.not_eq_true',List.map_append,List.mem_append,not_or]
  have e2:((qb defs ++ zi defs).any fun b=> k==zb b)=false↔(k ∉ (qb defs).map zb/\k ∉ (zi defs).map zb):=by
   rw [<-not_or,<-List.mem_append,<-List.map_append,<-Bool.not_eq_true,List.any_eq_true];simp only [List.mem_map,beq_iff_eq];constructor
   ·rintro h ⟨x,hx,rfl⟩;exact h ⟨x,hx,rfl⟩
   ·rintro h ⟨x,hx,e⟩;exact h ⟨x,hx,e.symm⟩
  rw [e2];constructor
  ·rintro ⟨⟨a,b,c⟩,d⟩;exact ⟨a,d,b,c⟩
  ·rintro ⟨a,d,b,c⟩;exact ⟨⟨a,b,c⟩,d⟩
 rw [<-hF,<-hN];rw [<-hN] at hs h60 hl hbl hss;obtain ⟨W1,hW1⟩:∃W1,W1=w.alloc (.cells #[.int .i64 4, .string ByteArray.empty, .slice a0 0 p0, .slice a1 defs.length p1, .slice a2 kids.length p2] 33):=⟨_,rfl⟩;have z1:W1.heap.size=w.heap.size + 1:=by rw [hW1];simp
 have b1:Below w.heap.size w W1:=by rw [hW1];exact ZQ w _
 have cc:∀W,Below W1.heap.size W1 W->W.cell? ⟨w.heap.size,0,none⟩=some (.int .i64 4)/\W.cell? ⟨w.heap.size,2,none⟩=some (.slice a0 0 p0)/\W.cell? ⟨w.heap.size,3,none⟩=some (.slice a1 defs.length p1)/\W.cell? ⟨w.heap.size,4,none⟩=some (.slice a2 kids.length p2):=fun W hW=> by
  have e:∀o,W.cell? ⟨w.heap.size,o,none⟩=W1.cell? ⟨w.heap.size,o,none⟩:=fun o=> hW.cell (p:=⟨w.heap.size,o,none⟩) (by simp;omega);rw [e,e,e,e,hW1];simp only [ZA _ _ _ _ rfl];exact ⟨rfl,rfl,rfl,rfl⟩
 have hsz3:sz (defs.map Part.def_) + sz (kids.map Part.proc) + 1<=N:=by simp at hss;omega
 have hm1:∀(k:Nat) (h:k < defs.length),(Part.def_ defs[k]).size + 1<=N/\jS (.def_ defs[k])=true/\yY (.def_ defs[k])=true:=fun k h=>
  ⟨by have:=yU Part.def_ h;omega,hshk _ (by simp only [Part.parts];exact List.mem_append.2 (.inl (List.mem_append.2 (.inr (List.mem_map.2 ⟨_,ZM h,rfl⟩))))),hagk _ (by simp only [Part.parts];exact List.mem_append.2 (.inl (List.mem_append.2 (.inr (List.mem_map.2 ⟨_,ZM h,rfl⟩)))))⟩
 have hm2:∀(k:Nat) (h:k < kids.length),(Part.proc kids[k]).size + 1<=N/\jS (.proc kids[k])=true/\yY (.proc kids[k])=true:=fun k h=>
  ⟨by have:=yU Part.proc h;omega,hshk _ (by simp only [Part.parts];exact List.mem_append.2 (.inr (List.mem_map.2 ⟨_,ZM h,rfl⟩))),hagk _ (by simp only [Part.parts];exact List.mem_append.2 (.inr (List.mem_map.2 ⟨_,ZM h,rfl⟩)))⟩
 have hst1:∀(k:Nat) (h:k < defs.length),sz ((defs.take k).map Part.def_) + (Part.def_ defs[k]).size<=sz (defs.map Part.def_):=fun k h=> by have:=zaz Part.def_ defs k h;have:=j9 Part.def_ defs (k + 1);omega
 have hst2:∀(k:Nat) (h:k < kids.length),sz ((kids.take k).map Part.proc) + (Part.proc kids[k]).size<=sz (kids.map Part.proc):=fun k h=> by have:=zaz Part.proc kids k h;have:=j9 Part.proc kids (k + 1);omega
 have hbd1:=hbd W1 (hu.trans ((Below.keptC b1).mono hBl)) (by omega);have hbs:=hb.later b1;have hG0:=(Gath.nil (s:=s) (bound:=bound ++ bn) ho hs0).later b1;have HW:=ZH hW1;have HC:=ZH cc;have HFF:=ZH hFF;have HM1:=ZH hm1;have HM2:=ZH hm2;have HT1:=ZH hst1;have HT2:=ZH hst2;have HBS:=ZH hbs;have HG0:=ZH hG0;have HS3:=ZH hsz3;have IH:=ZH ih;obtain ⟨ab,cb,rfl,_⟩:=hb;obtain ⟨ao,co,rfl,_⟩:=ho.strs;obtain ⟨x0,x2,x3,x4⟩:=HC.out W1 (ZF _ _);rw [HW.out] at x0 x2 x3 x4;have hbl0:bound.length<=30000:=by omega
 clear hF hFF hm1 hm2 hst1 hst2 hbd hbs hG0 hW1 cc hN hshk hagk hsd hcs htx hU hbn hsz3 hss hs0 ho ih hagB h0;go_enter Tryz.func121,Tryz.ntmps121;go_wp2;refine wp_loop_rounds 1 ?_;rw [rounds_succ]
 go_wp2_with (first
  | (go_at_call 52;rw [<-HW.out];refine hbd1.mono ?_;clear hbd1;rintro e w2 ⟨vn,rfl,hvn,hb2⟩)
  | (go_at_call 79;refine (both_any _ vn bound bn w2 (HBS.out.later hb2) hvn (by omega) (by omega)).mono ?_;rintro e w3 ⟨vb3,rfl,hvb3,hb3⟩;have hb13:=hb2.trans (hb3.mono hb2.size);obtain ⟨y0,y2,y3,y4⟩:=HC.out w3 hb13))
 have HB13:=ZH hb13;have hz13:=hb13.size;have hbw3:=b1.trans (hb13.mono (by omega));obtain ⟨BND,hBND⟩:∃BND,BND=bound ++ bn:=⟨_,rfl⟩;have hbnl:BND.length<=bound.length + 240:=by rw [hBND,List.length_append];omega
 have HFF':=HFF.out;have HG0':=HG0.out;rw [<-hBND] at HFF' HG0' hvb3;have HGD:=ZH (show Gath s out BND 0 (fun _=> False) (([]:List Part) ++ (defs.take 0).map .def_) _ w3 from by simpa using HG0'.later hb13);have HBD:Below w3.heap.size w3 w3:=ZF _ _;have HV:=ZH (show ∀W,Below w3.heap.size w3 W->zx W.heap.size W vb3 BND from fun W h=> (hvb3.later h).strs);obtain ⟨oa3,oc3,hvb3',_⟩:=hvb3.strs;subst hvb3';have HFF:=ZH HFF';clear HFF' HG0' hvb3 hb2 hb3 hvn HBS HG0 hBND
 go_loopw [0,8] (fun vo i wr=> ∃(k:Nat),k<=defs.length/\i= .int .i64 k/\Hid (Gath s out BND 0 (fun _=> False) (([]:List Part) ++ (defs.take k).map .def_) vo wr)/\Below w3.heap.size w3 wr) (fun _ i _=> defs.length - (intOf i).toNat)
 case atStart=> exact ⟨0,by omega,rfl,HGD,HBD⟩
 case round=>
  obtain ⟨k,hk',rfl,hm,hB⟩:=hrel;have hBw:=hbw3.trans (hB.mono (by omega));have hBz:=hBw.size;obtain ⟨z0,z2,z3,z4⟩:=HC.out _ (HB13.out.trans (hB.mono (by omega)));obtain ⟨oa,ol,oc,rfl⟩:=hm.out.slice;by_cases hlt:k < defs.length
  ·rcases h1 with h00 | ⟨bb,off,rfl,hbb,hk⟩
   ·omega
   obtain ⟨cs,hcs,hexp⟩:=hk.get defs bb off k hlt;obtain ⟨m1,m2,m3⟩:=HM1.out k hlt;have m4:=HT1.out k hlt;have m5:=HS3.out;have hcall:=gath_call s IH.out (.def_ defs[k]) (by omega) (by omega) m2 m3 B u wr cs _ _ out BND 0 (fun _=> False) _ (hu.trans ((Below.keptC hBw).mono hBl)) (by omega) hexp hm.out (HV.out _ hB) (by rw [List.nil_append];omega) (by omega);obtain ⟨e0,he0⟩:∃e,e=defs[k]:=⟨_,rfl⟩;rw [<-take_map Part.def_ defs k hlt defs[k] rfl] at hcall;rw [<-he0] at hexp hcall;clear m1 m2 m3 m4 m5 he0;obtain ⟨oo,to,jo,do',ko⟩:=e0;unfold zo at hexp;obtain ⟨_,_,_,_,rfl,⟨s0,t0,rfl,_⟩,⟨s1,t1,rfl,_⟩,⟨s2,t2,rfl,_⟩⟩:=hexp;obtain ⟨c0,c1,c2,c3,c4⟩:=zK ((hcs.keep hu hbb).below hBw (by omega));clear hcs hk hm;go_wp2_with (go_at_call 163;refine hcall.mono ?_;clear hcall;rintro e w5 ⟨v5,rfl,HG5,hb5⟩);go_roundw
   case rel=> exact ⟨k + 1,by omega,by go_num,HG5,hB.trans (hb5.mono hB.size)⟩
   case measure=> simp [intOf];omega
  ·obtain rfl:k=defs.length:=by omega
   have hm2:=hm.out;rw [List.take_length,List.nil_append] at hm2;have HGA:=ZH (show Gath s out BND 0 (fun _=> False) (defs.map .def_ ++ (kids.take 0).map .proc) _ wr from by simpa using hm2);obtain ⟨wa,hwa⟩:∃wa:World,wa=wr:=⟨_,rfl⟩;subst hwa;have HBA:=hB;clear hm hm2 hB hBw hBz;go_wp2
   go_loopw [0,9] (fun vo i wr=> ∃(k:Nat),k<=kids.length/\i= .int .i64 k/\Hid (Gath s out BND 0 (fun _=> False) (defs.map .def_ ++ (kids.take k).map .proc) vo wr)/\Below w3.heap.size w3 wr) (fun _ i _=> kids.length - (intOf i).toNat)
   case atStart=> exact ⟨0,by omega,rfl,HGA,HBA⟩
   case round=>
    obtain ⟨k,hk',rfl,hm,hB⟩:=hrel;have hBw:=hbw3.trans (hB.mono (by omega));have hBz:=hBw.size;obtain ⟨z0,z2,z3,z4⟩:=HC.out _ (HB13.out.trans (hB.mono (by omega)));obtain ⟨oa,ol,oc,rfl⟩:=hm.out.slice;by_cases hlt:k < kids.length
    ·rcases h2 with h00 | ⟨bb,off,rfl,hbb,hk⟩
     ·omega
     obtain ⟨cs,hcs,hexp⟩:=hk.get kids bb off k hlt;obtain ⟨m1,m2,m3⟩:=HM2.out k hlt;have m4:=HT2.out k hlt;have m5:=HS3.out;have hcall:=gath_call s IH.out (.proc kids[k]) (by omega) (by omega) m2 m3 B u wr cs _ _ out BND 0 (fun _=> False) _ (hu.trans ((Below.keptC hBw).mono hBl)) (by omega) hexp hm.out (HV.out _ hB) (by rw [qB];omega) (by omega);obtain ⟨e0,he0⟩:∃e,e=kids[k]:=⟨_,rfl⟩;rw [<-take_map Part.proc kids k hlt kids[k] rfl] at hcall;rw [<-he0] at hexp hcall;clear m1 m2 m3 m4 m5 he0;obtain ⟨oo,to,ao',do',ko⟩:=e0;unfold ze at hexp;obtain ⟨_,_,_,_,rfl,⟨s0,t0,rfl,_⟩,⟨s1,t1,rfl,_⟩,⟨s2,t2,rfl,_⟩⟩:=hexp;obtain ⟨c0,c1,c2,c3,c4⟩:=zK ((hcs.keep hu hbb).below hBw (by omega));clear hcs hk hm;go_wp2_with (go_at_call 121;refine hcall.mono ?_;clear hcall;rintro e w5 ⟨v5,rfl,HG5,hb5⟩);go_roundw
     case rel=> exact ⟨k + 1,by omega,by go_num,HG5,hB.trans (hb5.mono hB.size)⟩
     case measure=> simp [intOf];omega
    ·obtain rfl:k=kids.length:=by omega
     have hm2:=hm.out;rw [List.take_length] at hm2;obtain ⟨o2,g1,g2,g3,g4⟩:=hm2;have HFIN:=ZH (show zkz out F N w (.returned _) wr from ⟨_,o2,rfl,g1,g2,fun x=> by rw [g3,HFF.out];simp,by have:=HS3.out;rw [qB] at g4;omega,hBw⟩);clear g1 g2 g3 g4 hm;go_wp2;go_ret;exact HFIN.out
theorem f_termN (s:Nat) (ih:FAt s) (op:Int) (ho4:op≠4) (text:ByteArray) (args:List Exp) (defs:List zg) (kids:List Term) (hs:(Part.proc (.mk op text args defs kids)).size<=s + 1) (h60:(Part.proc (.mk op text args defs kids)).size<=60) (hsh:jS (.proc (.mk op text args defs kids))=true) (hag:yY (.proc (.mk op text args defs kids))=true)
  (B:Nat) (u w:World) (cs:List Value) (v vb:Value) (out bound:List ByteArray) (hu:zh B u w) (hBl:B<=w.heap.size) (hv:ze B u cs (.mk op text args defs kids)) (ho:yE w v out) (hb:zx w.heap.size w vb bound) (hs0:Srt out)
  (hl:out.length + (Part.proc (.mk op text args defs kids)).size<=900) (hbl:bound.length + 300 * (Part.proc (.mk op text args defs kids)).size<=30000):
  Calls Tryz.prog 121 #[v,vb, .agg cs.toArray] w (zkz out (fset (s + 1) bound (.proc (.mk op text args defs kids))) (Part.proc (.mk op text args defs kids)).size w):=by
 unfold ze at hv;obtain ⟨hz,_,_,_,rfl,⟨a0,p0,rfl,l0,h0⟩,⟨a1,p1,rfl,l1,h1⟩,⟨a2,p2,rfl,l2,h2⟩⟩:=hv;have hss:=yV (Part.proc (.mk op text args defs kids));simp only [Part.parts,qB] at hss;have hshk:=allSh_parts hsh;have hagk:=agAll_parts hag;rw [zcG,Bool.and_eq_true] at hsh;have hsp:=hsh.1;simp only [Part.shaped,yg,Bool.or_eq_true,Bool.and_eq_true,beq_iff_eq,decide_eq_true_eq] at hsp;have hd0:defs.length=0:=by omega
 obtain rfl:=List.eq_nil_of_length_eq_zero hd0;clear hsp hsh hag hd0 h1;obtain ⟨F,hF⟩:∃F,F=fset (s + 1) bound (.proc (.mk op text args [] kids)):=⟨_,rfl⟩;obtain ⟨N,hN⟩:∃N,N=(Part.proc (.mk op text args [] kids)).size:=⟨_,rfl⟩;obtain ⟨F0,hF0⟩:∃F0:List UInt8->Prop,F0=fun k=> (zb text).isEmpty=false/\k=zb text/\k ∉ bound.map zb:=⟨_,rfl⟩
 have hFF:∀k,F k↔F0 k∨((args.map Part.exp ++ kids.map Part.proc).any (fun q=> qE s q k)=true/\k ∉ bound.map zb):=by
  intro k;rw [hF,hF0];simp only [fset,qE,Part.parts,zR,yA,if_neg ho4,List.map_nil,List.append_nil,List.any_nil,Bool.not_false,Bool.and_true,Bool.or_eq_true,Bool.and_eq_true,Bool.not_eq_true',beq_iff_eq];constructor
  ·rintro ⟨a | ⟨a,b⟩,d⟩
   ·exact .inr ⟨a,d⟩
   ·exact .inl ⟨a,b,d⟩
  ·rintro (⟨a,b,d⟩ | ⟨a,d⟩)
   ·exact ⟨.inr ⟨a,b⟩,d⟩
   ·exact ⟨.inl a,d⟩
 rw [<-hF,<-hN];rw [<-hN] at hs h60 hl hbl hss;obtain ⟨W1,hW1⟩:∃W1,W1=w.alloc (.cells #[.int .i64 op, .string text, .slice a0 args.length p0, .slice a1 0 p1, .slice a2 kids.length p2] 33):=⟨_,rfl⟩;have z1:W1.heap.size=w.heap.size + 1:=by rw [hW1];simp
 have b1:Below w.heap.size w W1:=by rw [hW1];exact ZQ w _
 have cc:∀W,Below W1.heap.size W1 W->W.cell? ⟨w.heap.size,0,none⟩=some (.int .i64 op)/\W.cell? ⟨w.heap.size,2,none⟩=some (.slice a0 args.length p0)/\W.cell? ⟨w.heap.size,3,none⟩=some (.slice a1 0 p1)/\W.cell? ⟨w.heap.size,4,none⟩=some (.slice a2 kids.length p2):=fun W hW=> by
  have e:∀o,W.cell? ⟨w.heap.size,o,none⟩=W1.cell? ⟨w.heap.size,o,none⟩:=fun o=> hW.cell (p:=⟨w.heap.size,o,none⟩) (by simp;omega);rw [e,e,e,e,hW1];simp only [ZA _ _ _ _ rfl];exact ⟨rfl,rfl,rfl,rfl⟩
 have hsz3:sz (args.map Part.exp) + sz (kids.map Part.proc) + 1<=N:=by simp at hss;omega
 have hm1:∀(k:Nat) (h:k < args.length),(Part.exp args[k]).size + 1<=N/\jS (.exp args[k])=true/\yY (.exp args[k])=true:=fun k h=>
  ⟨by have:=yU Part.exp h;omega,hshk _ (by simp only [Part.parts];exact List.mem_append.2 (.inl (List.mem_append.2 (.inl (List.mem_map.2 ⟨_,ZM h,rfl⟩))))),zjL _⟩
 have hm2:∀(k:Nat) (h:k < kids.length),(Part.proc kids[k]).size + 1<=N/\jS (.proc kids[k])=true/\yY (.proc kids[k])=true:=fun k h=>
  ⟨by have:=yU Part.proc h;omega,hshk _ (by simp only [Part.parts];exact List.mem_append.2 (.inr (List.mem_map.2 ⟨_,ZM h,rfl⟩))),hagk _ (by simp only [Part.parts];exact List.mem_append.2 (.inr (List.mem_map.2 ⟨_,ZM h,rfl⟩)))⟩
 have hst1:∀(k:Nat) (h:k < args.length),sz ((args.take k).map Part.exp) + (Part.exp args[k]).size<=sz (args.map Part.exp):=fun k h=> by have:=zaz Part.exp args k h;have:=j9 Part.exp args (k + 1);omega
 have hst2:∀(k:Nat) (h:k < kids.length),sz ((kids.take k).map Part.proc) + (Part.proc kids[k]).size<=sz (kids.map Part.proc):=fun k h=> by have:=zaz Part.proc kids k h;have:=j9 Part.proc kids (k + 1);omega
 have HW:=ZH hW1;have HC:=ZH cc;have HFF:=ZH hFF;have HM1:=ZH hm1;have HM2:=ZH hm2;have HT1:=ZH hst1;have HT2:=ZH hst2;have HBS:=ZH hb;have HS3:=ZH hsz3;have IH:=ZH ih;have HO:=ZH ho;have HS0:=ZH hs0;have HF0:=ZH hF0;obtain ⟨ab,cb,rfl,_⟩:=hb;obtain ⟨ao,co,rfl,_⟩:=ho.strs;obtain ⟨x0,x2,x3,x4⟩:=HC.out W1 (ZF _ _);rw [HW.out] at x0 x2 x3 x4;have ho4':(op==4)=false:=by simpa using ho4
 clear hF hFF hm1 hm2 hst1 hst2 hW1 cc hN hshk hagk hsz3 hss hs0 ho ih hF0 ho4;by_cases ht0:text.size=0
 ·obtain rfl:=xd ht0
  clear ht0;obtain ⟨n0,hn0⟩:∃n:Nat,n=0:=⟨_,rfl⟩;have hn1:n0<=1:=by omega
  have hz11:W1.heap.size<=W1.heap.size:=ZL _
  have HGD:=ZH (show Gath s out bound n0 F0 (([]:List Part) ++ (args.take 0).map .exp) _ W1 from by
   obtain ⟨o2,g1,g2,g3,g4⟩:=(Gath.nil (s:=s) (bound:=bound) HO.out HS0.out).later b1;refine ⟨o2,g1,g2,fun x=> ?_,by rw [hn0];simpa using g4⟩;rw [g3,HF0.out];have e:(zb ByteArray.empty).isEmpty=true:=rfl;simp [e])
  have HBD:Below W1.heap.size W1 W1:=ZF _ _;have BWx:=ZH HBD;clear hn0;go_enter Tryz.func121,Tryz.ntmps121;go_wp2;rw [<-HW.out]
  go_loopw [0,7] (fun vo i wr=> ∃(k:Nat),k<=args.length/\i= .int .i64 k/\Hid (Gath s out bound n0 F0 (([]:List Part) ++ (args.take k).map .exp) vo wr)/\Below W1.heap.size W1 wr) (fun _ i _=> args.length - (intOf i).toNat)
  case atStart=> exact ⟨0,by omega,rfl,HGD,HBD⟩
  case round=>
   obtain ⟨k,hk',rfl,hm,hB⟩:=hrel;have hBw:=b1.trans (hB.mono (by omega));have hBz:=hBw.size;obtain ⟨z0,z2,z3,z4⟩:=HC.out _ (BWx.out.trans (hB.mono (by omega)));obtain ⟨oa,ol,oc,rfl⟩:=hm.out.slice;by_cases hlt:k < args.length
   ·rcases h0 with h00 | ⟨bb,off,rfl,hbb,hk⟩
    ·omega
    obtain ⟨cs,hcs,hexp⟩:=hk.get args bb off k hlt;obtain ⟨m1,m2,m3⟩:=HM1.out k hlt;have m4:=HT1.out k hlt;have m5:=HS3.out;have hcall:=gath_call s IH.out (.exp args[k]) (by omega) (by omega) m2 m3 B u wr cs _ _ out bound n0 F0 _ (hu.trans ((Below.keptC hBw).mono hBl)) (by omega) hexp hm.out (HBS.out.later hBw) (by rw [List.nil_append];omega) (by omega);obtain ⟨e0,he0⟩:∃e,e=args[k]:=⟨_,rfl⟩;rw [<-take_map Part.exp args k hlt args[k] rfl] at hcall;rw [<-he0] at hexp hcall;clear m1 m2 m3 m4 m5 he0;obtain ⟨oo,no,to,ko⟩:=e0;unfold zy at hexp;obtain ⟨_,_,rfl,s0,t0,rfl,_⟩:=hexp;obtain ⟨c0,c1,c2,c3⟩:=jd ((hcs.keep hu hbb).below hBw (by omega));clear hcs hk hm;go_wp2_with (go_at_call 91;refine hcall.mono ?_;clear hcall;rintro e w5 ⟨v5,rfl,HG5,hb5⟩);go_roundw
    case rel=> exact ⟨k + 1,by omega,by go_num,HG5,hB.trans (hb5.mono hB.size)⟩
    case measure=> simp [intOf];omega
   ·obtain rfl:k=args.length:=by omega
    have hm2:=hm.out;rw [List.take_length,List.nil_append] at hm2;have HGA:=ZH (show Gath s out bound n0 F0 (args.map .exp ++ (kids.take 0).map .proc) _ wr from by simpa using hm2);obtain ⟨wa,hwa⟩:∃wa:World,wa=wr:=⟨_,rfl⟩;subst hwa;have HBA:=hB;clear hm hm2 hB hBw hBz;go_wp2;refine wp_loop_rounds 1 ?_;rw [rounds_succ];go_wp2
    go_loopw [0,9] (fun vo i wr=> ∃(k:Nat),k<=kids.length/\i= .int .i64 k/\Hid (Gath s out bound n0 F0 (args.map .exp ++ (kids.take k).map .proc) vo wr)/\Below W1.heap.size W1 wr) (fun _ i _=> kids.length - (intOf i).toNat)
    case atStart=> exact ⟨0,by omega,rfl,HGA,HBA⟩
    case round=>
     obtain ⟨k,hk',rfl,hm,hB⟩:=hrel;have hBw:=b1.trans (hB.mono (by omega));have hBz:=hBw.size;obtain ⟨z0,z2,z3,z4⟩:=HC.out _ (BWx.out.trans (hB.mono (by omega)));obtain ⟨oa,ol,oc,rfl⟩:=hm.out.slice;by_cases hlt:k < kids.length
     ·rcases h2 with h00 | ⟨bb,off,rfl,hbb,hk⟩
      ·omega
      obtain ⟨cs,hcs,hexp⟩:=hk.get kids bb off k hlt;obtain ⟨m1,m2,m3⟩:=HM2.out k hlt;have m4:=HT2.out k hlt;have m5:=HS3.out;have hcall:=gath_call s IH.out (.proc kids[k]) (by omega) (by omega) m2 m3 B u wr cs _ _ out bound n0 F0 _ (hu.trans ((Below.keptC hBw).mono hBl)) (by omega) hexp hm.out (HBS.out.later hBw) (by rw [qB];omega) (by omega);obtain ⟨e0,he0⟩:∃e,e=kids[k]:=⟨_,rfl⟩;rw [<-take_map Part.proc kids k hlt kids[k] rfl] at hcall;rw [<-he0] at hexp hcall;clear m1 m2 m3 m4 m5 he0;obtain ⟨oo,to,ao',do',ko⟩:=e0;unfold ze at hexp;obtain ⟨_,_,_,_,rfl,⟨s0,t0,rfl,_⟩,⟨s1,t1,rfl,_⟩,⟨s2,t2,rfl,_⟩⟩:=hexp;obtain ⟨c0,c1,c2,c3,c4⟩:=zK ((hcs.keep hu hbb).below hBw (by omega));clear hcs hk hm;go_wp2_with (go_at_call 121;refine hcall.mono ?_;clear hcall;rintro e w5 ⟨v5,rfl,HG5,hb5⟩);go_roundw
      case rel=> exact ⟨k + 1,by omega,by go_num,HG5,hB.trans (hb5.mono hB.size)⟩
      case measure=> simp [intOf];omega
     ·obtain rfl:k=kids.length:=by omega
      have hm2:=hm.out;rw [List.take_length] at hm2;obtain ⟨o2,g1,g2,g3,g4⟩:=hm2;have HFIN:=ZH (show zkz out F N w (.returned _) wr from ⟨_,o2,rfl,g1,g2,fun x=> by rw [g3,HFF.out],by have:=HS3.out;rw [qB] at g4;omega,hBw⟩);clear g1 g2 g3 g4 hm;go_wp2;go_ret;exact HFIN.out
 ·have hne:(zb text).isEmpty=false:=by
   cases hh:zb text with
   | nil=> exact absurd (bytes_nil text hh) ht0
   | cons a l=> rfl
  have hpr:=put_ref _ _ out bound text W1 (HO.out.later b1) (HBS.out.later b1) hz HS0.out (by omega);have hF2:(fun k=> k=zb text/\k ∉ bound.map zb)=F0:=by rw [HF0.out];funext k;simp [hne]
  rw [hF2] at hpr
  have htn:(text.toList== [])=false:=by
   cases hh:text.toList with
   | nil=> exact absurd ((zba text).1 hh) ht0
   | cons a l=> rfl
  have htn2:¬text.toList= []:=fun h=> ht0 ((zba text).1 h);obtain ⟨n0,hn0⟩:∃n:Nat,n=1:=⟨_,rfl⟩;have hn1:n0<=1:=by omega
  have hpr2:=hpr.mono (fun e w' h=> Gath.put (s:=s) (bound:=bound) h);have HK:∀e w2,(∃v,e=Ending.returned v/\Gath s out bound 1 F0 [] v w2/\Below W1.heap.size W1 w2)->∃v,e=Ending.returned v/\Hid (Gath s out bound n0 F0 (([]:List Part) ++ (args.take 0).map .exp) v w2)/\Below W1.heap.size W1 w2:=fun e w2 ⟨v,h1,h2,h3⟩=> ⟨v,h1,ZH (by rw [hn0];simpa using h2),h3⟩;have hpr3:=hpr2.mono HK;clear hpr hpr2 HK hF2 hn0 ht0 hne;go_enter Tryz.func121,Tryz.ntmps121;go_wp2_with (go_at_call 143;rw [<-HW.out];refine hpr3.mono ?_;clear hpr3;rintro e w3 ⟨v3,rfl,HGD,hb13⟩;obtain ⟨oa3,ol3,oc3,rfl⟩:=HGD.out.slice;obtain ⟨y0,y2,y3,y4⟩:=HC.out w3 hb13);have hz13:=hb13.size;have hbw3:=b1.trans (hb13.mono (by omega));have HBD:Below w3.heap.size w3 w3:=ZF _ _;have BWx:=ZH hb13
  go_loopw [0,7] (fun vo i wr=> ∃(k:Nat),k<=args.length/\i= .int .i64 k/\Hid (Gath s out bound n0 F0 (([]:List Part) ++ (args.take k).map .exp) vo wr)/\Below w3.heap.size w3 wr) (fun _ i _=> args.length - (intOf i).toNat)
  case atStart=> exact ⟨0,by omega,rfl,HGD,HBD⟩
  case round=>
   obtain ⟨k,hk',rfl,hm,hB⟩:=hrel;have hBw:=hbw3.trans (hB.mono (by omega));have hBz:=hBw.size;obtain ⟨z0,z2,z3,z4⟩:=HC.out _ (BWx.out.trans (hB.mono (by omega)));obtain ⟨oa,ol,oc,rfl⟩:=hm.out.slice;by_cases hlt:k < args.length
   ·rcases h0 with h00 | ⟨bb,off,rfl,hbb,hk⟩
    ·omega
    obtain ⟨cs,hcs,hexp⟩:=hk.get args bb off k hlt;obtain ⟨m1,m2,m3⟩:=HM1.out k hlt;have m4:=HT1.out k hlt;have m5:=HS3.out;have hcall:=gath_call s IH.out (.exp args[k]) (by omega) (by omega) m2 m3 B u wr cs _ _ out bound n0 F0 _ (hu.trans ((Below.keptC hBw).mono hBl)) (by omega) hexp hm.out (HBS.out.later hBw) (by rw [List.nil_append];omega) (by omega);obtain ⟨e0,he0⟩:∃e,e=args[k]:=⟨_,rfl⟩;rw [<-take_map Part.exp args k hlt args[k] rfl] at hcall;rw [<-he0] at hexp hcall;clear m1 m2 m3 m4 m5 he0;obtain ⟨oo,no,to,ko⟩:=e0;unfold zy at hexp;obtain ⟨_,_,rfl,s0,t0,rfl,_⟩:=hexp;obtain ⟨c0,c1,c2,c3⟩:=jd ((hcs.keep hu hbb).below hBw (by omega));clear hcs hk hm;go_wp2_with (go_at_call 91;refine hcall.mono ?_;clear hcall;rintro e w5 ⟨v5,rfl,HG5,hb5⟩);go_roundw
    case rel=> exact ⟨k + 1,by omega,by go_num,HG5,hB.trans (hb5.mono hB.size)⟩
    case measure=> simp [intOf];omega
   ·obtain rfl:k=args.length:=by omega
    have hm2:=hm.out;rw [List.take_length,List.nil_append] at hm2;have HGA:=ZH (show Gath s out bound n0 F0 (args.map .exp ++ (kids.take 0).map .proc) _ wr from by simpa using hm2);obtain ⟨wa,hwa⟩:∃wa:World,wa=wr:=⟨_,rfl⟩;subst hwa;have HBA:=hB;clear hm hm2 hB hBw hBz;go_wp2;refine wp_loop_rounds 1 ?_;rw [rounds_succ];go_wp2
    go_loopw [0,9] (fun vo i wr=> ∃(k:Nat),k<=kids.length/\i= .int .i64 k/\Hid (Gath s out bound n0 F0 (args.map .exp ++ (kids.take k).map .proc) vo wr)/\Below w3.heap.size w3 wr) (fun _ i _=> kids.length - (intOf i).toNat)
    case atStart=> exact ⟨0,by omega,rfl,HGA,HBA⟩
    case round=>
     obtain ⟨k,hk',rfl,hm,hB⟩:=hrel;have hBw:=hbw3.trans (hB.mono (by omega));have hBz:=hBw.size;obtain ⟨z0,z2,z3,z4⟩:=HC.out _ (BWx.out.trans (hB.mono (by omega)));obtain ⟨oa,ol,oc,rfl⟩:=hm.out.slice;by_cases hlt:k < kids.length
     ·rcases h2 with h00 | ⟨bb,off,rfl,hbb,hk⟩
      ·omega
      obtain ⟨cs,hcs,hexp⟩:=hk.get kids bb off k hlt;obtain ⟨m1,m2,m3⟩:=HM2.out k hlt;have m4:=HT2.out k hlt;have m5:=HS3.out;have hcall:=gath_call s IH.out (.proc kids[k]) (by omega) (by omega) m2 m3 B u wr cs _ _ out bound n0 F0 _ (hu.trans ((Below.keptC hBw).mono hBl)) (by omega) hexp hm.out (HBS.out.later hBw) (by rw [qB];omega) (by omega);obtain ⟨e0,he0⟩:∃e,e=kids[k]:=⟨_,rfl⟩;rw [<-take_map Part.proc kids k hlt kids[k] rfl] at hcall;rw [<-he0] at hexp hcall;clear m1 m2 m3 m4 m5 he0;obtain ⟨oo,to,ao',do',ko⟩:=e0;unfold ze at hexp;obtain ⟨_,_,_,_,rfl,⟨s0,t0,rfl,_⟩,⟨s1,t1,rfl,_⟩,⟨s2,t2,rfl,_⟩⟩:=hexp;obtain ⟨c0,c1,c2,c3,c4⟩:=zK ((hcs.keep hu hbb).below hBw (by omega));clear hcs hk hm;go_wp2_with (go_at_call 121;refine hcall.mono ?_;clear hcall;rintro e w5 ⟨v5,rfl,HG5,hb5⟩);go_roundw
      case rel=> exact ⟨k + 1,by omega,by go_num,HG5,hB.trans (hb5.mono hB.size)⟩
      case measure=> simp [intOf];omega
     ·obtain rfl:k=kids.length:=by omega
      have hm2:=hm.out;rw [List.take_length] at hm2;obtain ⟨o2,g1,g2,g3,g4⟩:=hm2;have HFIN:=ZH (show zkz out F N w (.returned _) wr from ⟨_,o2,rfl,g1,g2,fun x=> by rw [g3,HFF.out],by have:=HS3.out;rw [qB] at g4;omega,hBw⟩);clear g1 g2 g3 g4 hm;go_wp2;go_ret;exact HFIN.out
end
end Go.Proofs.YtjmlaeofjjhfmaaGreat
