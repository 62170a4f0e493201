/- Lemmas. -/
import Derived.Test.YtjmlaeofjjhfmaaGreatS32
import Derived.Test.YtjmlaeofjjhfmaaGreatS08
import Derived.Test.YtjmlaeofjjhfmaaGreatS30
import Derived.Test.YtjmlaeofjjhfmaaGreatS09
import Derived.Test.YtjmlaeofjjhfmaaGreatS25
import Derived.Test.YtjmlaeofjjhfmaaGreatS28
set_option linter.unusedVariables false
set_option linter.unusedSimpArgs false
set_option maxRecDepth 10000
set_option maxHeartbeats 16000000
namespace Go.Proofs.YtjmlaeofjjhfmaaGreat
section
open Go.RowKit Go.Shelf Go.Maps Go.Sort
theorem f_clause (s:Nat) (ih:FAt s) (form:Int) (text:ByteArray) (joins:List Msg) (defs:List zg) (kids:List Term) (hs:(Part.def_ (.mk form text joins defs kids)).size<=s + 1) (h60:(Part.def_ (.mk form text joins defs kids)).size<=60) (hsh:jS (Part.def_ (.mk form text joins defs kids))=true) (hag:yY (Part.def_ (.mk form text joins defs kids))=true)
  (B:Nat) (u w:World) (cs:List Value) (v vb:Value) (out bound:List ByteArray) (hu:zh B u w) (hBl:B<=w.heap.size) (hv:zo B u cs (.mk form text joins defs kids)) (ho:yE w v out) (hb:zx w.heap.size w vb bound) (hs0:Srt out)
  (hl:out.length + (Part.def_ (.mk form text joins defs kids)).size<=900) (hbl:bound.length + 300 * (Part.def_ (.mk form text joins defs kids)).size<=30000):
  Calls Tryz.prog 163 #[v,vb, .agg cs.toArray] w (zkz out (fset (s + 1) bound (Part.def_ (.mk form text joins defs kids))) (Part.def_ (.mk form text joins defs kids)).size w):=by
 unfold zo at hv;obtain ⟨hz,_,_,_,rfl,⟨a0,p0,rfl,l0,h0⟩,⟨a1,p1,rfl,l1,h1⟩,⟨a2,p2,rfl,l2,h2⟩⟩:=hv;have hss:=yV (Part.def_ (.mk form text joins defs kids));simp only [Part.parts,qB] at hss;have hshk:=allSh_parts hsh;have hagk:=agAll_parts hag;rw [zcG,Bool.and_eq_true] at hsh;have hsp:=hsh.1;simp only [Part.shaped,yB,Bool.or_eq_true,Bool.and_eq_true,beq_iff_eq,decide_eq_true_eq] at hsp;have hk1:kids.length=1:=by rcases hsp with ⟨_,h⟩ | ⟨_,h⟩ <;> exact h
 have hnn:(ql joins).length<=9/\joins.length<=3:=by
  rcases hsp with ⟨⟨⟨_,h⟩,_⟩,_⟩ | ⟨⟨⟨_,h⟩,_⟩,_⟩
  ·unfold qH at h
   simp only [Bool.and_eq_true,decide_eq_true_eq,List.all_eq_true] at h;obtain ⟨⟨⟨⟨q1,q2⟩,q3⟩,q4⟩,q5⟩:=h
   have:∀l:List Msg,(∀x∈l,x.names.length<=3)->(ql l).length<=3 * l.length:=by
    intro l
    induction l with
    | nil=> intro _;simp [ql]
    | cons a l ih=>
     intro hl;have e:ql (a::l)=a.names ++ ql l:=by simp [ql]
     have h1:=hl a (by simp);have h2:=ih (fun x hx=> hl x (by simp [hx]));rw [e,List.length_append,List.length_cons];omega
   have:=this joins q3;omega
  ·rw [List.eq_nil_of_length_eq_zero h];simp [ql]
 have hdj:defs= []∨joins= []:=by
  rcases hsp with ⟨⟨_,h⟩,_⟩ | ⟨⟨⟨_,h⟩,_⟩,_⟩
  ·exact .inl (List.eq_nil_of_length_eq_zero h)
  ·exact .inr (List.eq_nil_of_length_eq_zero h)
 obtain ⟨q,rfl⟩:∃q,kids= [q]:=List.length_eq_one_iff.1 hk1;clear hsp hsh hag hk1;obtain ⟨F,hF⟩:∃F,F=fset (s + 1) bound (.def_ (.mk form text joins defs [q])):=⟨_,rfl⟩;obtain ⟨N,hN⟩:∃N,N=(Part.def_ (.mk form text joins defs [q])).size:=⟨_,rfl⟩
 have hFF:∀k,F k↔((defs.map Part.def_).any (fun q=> qE s q k)=true/\k ∉ bound.map zb)∨fset s (bound ++ ql joins) (.proc q) k:=by
  intro k;rw [hF];have e:(zb ByteArray.empty).isEmpty=true:=rfl
  have e2:((joins.flatMap (·.names)).any fun b=> k==zb b)=false↔k ∉ (ql joins).map zb:=by
   rw [<-Bool.not_eq_true,List.any_eq_true];simp only [List.mem_map,beq_iff_eq];constructor
   ·rintro h ⟨x,hx,rfl⟩;exact h ⟨x,hx,rfl⟩
   ·rintro h ⟨x,hx,e⟩;exact h ⟨x,hx,e.symm⟩
  simp only [fset,qE,Part.parts,zR,yA,e,Bool.not_true,Bool.false_and,Bool.or_false,Bool.and_eq_true,Bool.not_eq_true',List.map_append,List.mem_append,not_or,List.any_append,Bool.or_eq_true,List.map_cons,List.map_nil,List.any_cons,List.any_nil,e2];rcases hdj with rfl | rfl
  ·simp only [List.map_nil,List.any_nil,Bool.false_eq_true,false_or,false_and]
   constructor
   ·rintro ⟨⟨a,b⟩,c⟩;exact ⟨a,c,b⟩
   ·rintro ⟨a,c,b⟩;exact ⟨⟨a,b⟩,c⟩
  ·simp only [ql,List.flatMap_nil,List.map_nil,List.not_mem_nil,not_false_eq_true,and_true]
   constructor
   ·rintro ⟨a | a,c⟩
    ·exact .inl ⟨a,c⟩
    ·exact .inr ⟨a,c⟩
   ·rintro (⟨a,c⟩ | ⟨a,c⟩)
    ·exact ⟨.inl a,c⟩
    ·exact ⟨.inr a,c⟩
 rw [<-hF,<-hN];rw [<-hN] at hs h60 hl hbl hss;obtain ⟨W1,hW1⟩:∃W1,W1=w.alloc (.cells #[.int .i64 form, .string text, .slice a0 joins.length p0, .slice a1 defs.length p1, .slice a2 1 p2] 130):=⟨_,rfl⟩;have z1:W1.heap.size=w.heap.size + 1:=by rw [hW1];simp
 have b1:Below w.heap.size w W1:=by rw [hW1];exact ZQ w _
 have cc:∀W,Below W1.heap.size W1 W->W.cell? ⟨w.heap.size,2,none⟩=some (.slice a0 joins.length p0)/\W.cell? ⟨w.heap.size,3,none⟩=some (.slice a1 defs.length p1)/\W.cell? ⟨w.heap.size,4,none⟩=some (.slice a2 1 p2):=fun W hW=> by
  have e:∀o,W.cell? ⟨w.heap.size,o,none⟩=W1.cell? ⟨w.heap.size,o,none⟩:=fun o=> hW.cell (p:=⟨w.heap.size,o,none⟩) (by simp;omega);rw [e,e,e,hW1];simp only [ZA _ _ _ _ rfl];exact ⟨rfl,rfl,rfl⟩
 have hsq:=zcf (.proc q);have hsz3:sz (defs.map Part.def_) + (Part.proc q).size + 1<=N:=by simp [zcf] at hss;omega
 have hm1:∀(k:Nat) (h:k < defs.length),(Part.def_ defs[k]).size + 1<=N/\jS (.def_ defs[k])=true/\yY (.def_ defs[k])=true:=fun k h=>
  ⟨by have:=yU Part.def_ h;omega,hshk _ (by simp only [Part.parts];exact List.mem_append.2 (.inl (List.mem_map.2 ⟨_,ZM h,rfl⟩))),hagk _ (by simp only [Part.parts];exact List.mem_append.2 (.inl (List.mem_map.2 ⟨_,ZM h,rfl⟩)))⟩
 have hq1:jS (.proc q)=true:=hshk _ (by simp [Part.parts]);have hq2:yY (.proc q)=true:=hagk _ (by simp [Part.parts]);have hst1:∀(k:Nat) (h:k < defs.length),sz ((defs.take k).map Part.def_) + (Part.def_ defs[k]).size<=sz (defs.map Part.def_):=fun k h=> by have:=zaz Part.def_ defs k h;have:=j9 Part.def_ defs (k + 1);omega
 rcases h2 with h00 | ⟨kb,koff,rfl,hkb,hkk⟩
 ·simp at h00
 obtain ⟨kcs,hkcs,hkt⟩:=hkk.get [q] kb koff 0 (by simp);simp only [Nat.zero_mul,Nat.add_zero,List.getElem_cons_zero] at hkcs hkt;have hkc:∀W,Below w.heap.size w W->zI W kb koff kcs:=fun W hW=> (hkcs.keep hu hkb).below hW (by omega);have hna:=fun W (h1:zh B u W) (h2:B<=W.heap.size)=> zkD B u joins a0 p0 W h1 h2 (by omega) h0 (by omega);have hba:=fun W (h:Below w.heap.size w W) r (hr:yE W r (ql joins))=> both_any vb r bound (ql joins) W (hb.later h) hr.strs (by omega) (by omega)
 have hta:=fun W (h:Below w.heap.size w W) vo o2 vb2 (h1:yE W vo o2) (h2:zx W.heap.size W vb2 (bound ++ ql joins)) (h3:Srt o2) (h4:o2.length<=out.length + 0 + sz (defs.map Part.def_))=>
  ih (.proc q) (by omega) (by omega) hq1 hq2 B u W kcs vo vb2 o2 (bound ++ ql joins) (hu.trans ((Below.keptC h).mono hBl)) (by have:=h.size;omega) hkt h1 h2 h3 (by omega) (by rw [List.length_append];omega)
 have hG0:=(Gath.nil (s:=s) (bound:=bound) ho hs0).later b1;have HGD:=ZH (show Gath s out bound 0 (fun _=> False) (([]:List Part) ++ (defs.take 0).map .def_) v W1 from by simpa using hG0);have HW:=ZH hW1;have HC:=ZH cc;have HFF:=ZH hFF;have HM1:=ZH hm1;have HT1:=ZH hst1;have HBS:=ZH hb;have HS3:=ZH hsz3;have IH:=ZH ih;have HNA:=ZH hna;have HBA2:=ZH hba;have HTA:=ZH hta;have HKC:=ZH hkc;obtain ⟨ab,cb,rfl,_⟩:=hb;obtain ⟨ao,co,rfl,_⟩:=ho.strs;obtain ⟨x2,x3,x4⟩:=HC.out W1 (ZF _ _);rw [HW.out] at x2 x3 x4;have HBD:Below W1.heap.size W1 W1:=ZF _ _;have hkt':=hkt;obtain ⟨qo,qt,qa,qd,qk⟩:=q;unfold ze at hkt';obtain ⟨_,_,_,_,rfl,⟨z0',v0',rfl,_⟩,⟨z1',v1',rfl,_⟩,⟨z2',v2',rfl,_⟩⟩:=hkt';clear hF hFF hm1 hst1 hW1 cc hN hshk hagk hsz3 hss hs0 ho ih hG0 hna hba hta hkc hkcs hkk hkt hq1 hq2 hsq hdj;go_enter Tryz.func163,Tryz.ntmps163;go_wp2;rw [<-HW.out]
 go_loopw [0,7] (fun vo i wr=> ∃(k:Nat),k<=defs.length/\i= .int .i64 k/\Hid (Gath s out bound 0 (fun _=> False) (([]:List Part) ++ (defs.take k).map .def_) vo wr)/\Below W1.heap.size W1 wr) (fun _ i _=> defs.length - (intOf i).toNat)
 case atStart=> exact ⟨0,by omega,rfl,HGD,HBD⟩
 case round=>
  obtain ⟨k,hk',rfl,hm,hB⟩:=hrel;have hBw:=b1.trans (hB.mono (by omega));have hBz:=hBw.size;obtain ⟨z2,z3,z4⟩:=HC.out _ hB;obtain ⟨oa,ol,oc,rfl⟩:=hm.out.slice;by_cases hlt:k < defs.length
  ·rcases h1 with h00 | ⟨bb,off,rfl,hbb,hk⟩
   ·omega
   obtain ⟨cs,hcs,hexp⟩:=hk.get defs bb off k hlt;obtain ⟨m1,m2,m3⟩:=HM1.out k hlt;have m4:=HT1.out k hlt;have m5:=HS3.out;have hcall:=gath_call s IH.out (.def_ defs[k]) (by omega) (by omega) m2 m3 B u wr cs _ _ out bound 0 (fun _=> False) _ (hu.trans ((Below.keptC hBw).mono hBl)) (by omega) hexp hm.out (HBS.out.later hBw) (by rw [List.nil_append];omega) (by omega);obtain ⟨e0,he0⟩:∃e,e=defs[k]:=⟨_,rfl⟩;rw [<-take_map Part.def_ defs k hlt defs[k] rfl] at hcall;rw [<-he0] at hexp hcall;clear m1 m2 m3 m4 m5 he0;obtain ⟨oo,to,jo,do',ko⟩:=e0;unfold zo at hexp;obtain ⟨_,_,_,_,rfl,⟨s0,t0,rfl,_⟩,⟨s1,t1,rfl,_⟩,⟨s2,t2,rfl,_⟩⟩:=hexp;obtain ⟨c0,c1,c2,c3,c4⟩:=zK ((hcs.keep hu hbb).below hBw (by omega));clear hcs hk hm;go_wp2_with (go_at_call 163;refine hcall.mono ?_;clear hcall;rintro e w5 ⟨v5,rfl,HG5,hb5⟩);go_roundw
   case rel=> exact ⟨k + 1,by omega,by go_num,HG5,hB.trans (hb5.mono hB.size)⟩
   case measure=> simp [intOf];omega
  ·obtain rfl:k=defs.length:=by omega
   have hm2:=hm.out;rw [List.take_length,List.nil_append] at hm2;obtain ⟨o2,g1,g2,g3,g4⟩:=hm2;obtain ⟨G,hG⟩:∃G:World->Prop,G=fun W=> Below wr.heap.size wr W:=⟨_,rfl⟩
   have hGB:∀W,G W->Below w.heap.size w W/\zh B u W/\B<=W.heap.size/\Below W1.heap.size W1 W/\yE W (Value.slice oa ol oc) o2:=fun W h=> by
    rw [hG] at h;have hb:=hBw.trans (h.mono (by omega));exact ⟨hb,hu.trans ((Below.keptC hb).mono hBl),by have:=hb.size;omega,hB.trans (h.mono hB.size),g1.later h⟩
   have hGm:∀W W',G W->Below W.heap.size W W'->G W':=fun W W' h k=> by rw [hG] at h ⊢;exact h.trans (k.mono h.size)
   have J170:∀W,G W->Calls Tryz.prog 170 #[.slice a0 joins.length p0] W fun e w'=> ∃r,e= .returned r/\yE w' r (ql joins)/\G w':=fun W h=>
    (HNA.out W (hGB W h).2.1 (hGB W h).2.2.1).mono fun e w' ⟨r,e1,e2,e3⟩=> ⟨r,e1,e2,hGm W w' h e3⟩
   have J79:∀W r,G W->yE W r (ql joins)->Calls Tryz.prog 79 #[.slice ab bound.length cb,r] W fun e w'=> ∃r2,e= .returned r2/\Hid (zx w'.heap.size w' r2 (bound ++ ql joins))/\G w':=fun W r h hr=>
    (HBA2.out W (hGB W h).1 r hr).mono fun e w' ⟨r2,e1,e2,e3⟩=> ⟨r2,e1,ZH e2.strs,hGm W w' h e3⟩
   have J121:∀W r2,G W->Hid (zx W.heap.size W r2 (bound ++ ql joins))->Calls Tryz.prog 121 #[.slice oa ol oc,r2, .agg #[.int .i64 qo, .string qt, .slice z0' qa.length v0', .slice z1' qd.length v1', .slice z2' qk.length v2']] W fun e w'=> ∃r3,e= .returned r3/\Hid (zkz out F N w (.returned r3) w')/\G w':=fun W r2 h hr=> by
    refine (HTA.out W (hGB W h).1 _ o2 r2 (hGB W h).2.2.2.2 hr.out g2 g4).mono ?_;rintro e w' ⟨r3,o3,rfl,e1,e2,e3,e4,e5⟩;refine ⟨r3,rfl,ZH ⟨r3,o3,rfl,e1,e2,fun x=> ?_,by have:=HS3.out;omega,(hGB W h).1.trans (e5.mono (hGB W h).1.size)⟩,hGm W w' h e5⟩;rw [e3,g3,HFF.out];simp only [false_or,or_assoc]
   have hrd:∀W,G W->(W.cell? ⟨w.heap.size,2,none⟩=some (.slice a0 joins.length p0)/\W.cell? ⟨w.heap.size,4,none⟩=some (.slice (some ⟨kb,koff,none⟩) 1 p2))/\
     (W.cell? ⟨kb,koff,none⟩=some (.int .i64 qo)/\W.cell? ⟨kb,koff + 1,none⟩=some (.string qt)/\W.cell? ⟨kb,koff + 2,none⟩=some (.slice z0' qa.length v0')/\W.cell? ⟨kb,koff + 3,none⟩=some (.slice z1' qd.length v1')/\W.cell? ⟨kb,koff + 4,none⟩=some (.slice z2' qk.length v2')):=fun W h=> by
    obtain ⟨q1,q2,q3⟩:=HC.out W (hGB W h).2.2.2.1;exact ⟨⟨q1,q3⟩,zK (HKC.out W (hGB W h).1)⟩
   have g0:G wr.drew:=by rw [hG];exact (ZF _ _).drew
   obtain ⟨⟨r2',r4'⟩,r5',r6',r7',r8',r9'⟩:=hrd _ g0;clear hG hGB hGm hm hB hBw hBz g1 g2 g3 g4;go_wp2
   go_region_held3 (fun W=> W.cell? ⟨w.heap.size,2,none⟩=some (.slice a0 joins.length p0)/\W.cell? ⟨w.heap.size,4,none⟩=some (.slice (some ⟨kb,koff,none⟩) 1 p2)/\
     W.cell? ⟨kb,koff,none⟩=some (.int .i64 qo)/\W.cell? ⟨kb,koff + 1,none⟩=some (.string qt)/\W.cell? ⟨kb,koff + 2,none⟩=some (.slice z0' qa.length v0')/\W.cell? ⟨kb,koff + 3,none⟩=some (.slice z1' qd.length v1')/\W.cell? ⟨kb,koff + 4,none⟩=some (.slice z2' qk.length v2')) (go_keep)
    (first
    | (go_at_call 170;refine (J170 _ (by assumption)).mono ?_;rintro e w2 ⟨rn,rfl,o2',g2'⟩;obtain ⟨⟨r20,r40⟩,r50,r60,r70,r80,r90⟩:=hrd w2 g2')
    | (go_at_call 79;refine (J79 _ _ (by assumption) (by assumption)).mono ?_;rintro e w3 ⟨rb,rfl,o3',g3'⟩;obtain ⟨⟨r21,r41⟩,r51,r61,r71,r81,r91⟩:=hrd w3 g3')
    | (go_at_call 121;refine (J121 _ _ (by assumption) (by assumption)).mono ?_;rintro e w4 ⟨rt,rfl,HFIN,g4'⟩;obtain ⟨⟨r22,r42⟩,r52,r62,r72,r82,r92⟩:=hrd w4 g4'))
   all_goals
    go_wp2;go_ret;exact HFIN.out
theorem f_all:∀s,FAt s:=by
 intro s
 induction s with
 | zero=> intro p hp;exact absurd (by rw [Part.size,zv];simp) (Nat.not_lt.2 hp)
 | succ s ih=>
  intro p hp h60 hsh hag B u w cs v vb out bound hu hB hv ho hb hs0 hl hbl;cases p with
  | proc t=>
   obtain ⟨o,t,a,d,k⟩:=t;by_cases ho4:o=4
   ·subst ho4;exact f_term4 s ih t a d k hp h60 hsh hag B u w cs v vb out bound hu hB hv ho hb hs0 hl hbl
   ·exact f_termN s ih o ho4 t a d k hp h60 hsh hag B u w cs v vb out bound hu hB hv ho hb hs0 hl hbl
  | exp t=> obtain ⟨o,n,t,k⟩:=t;exact f_exp s ih o n t k hp h60 hsh B u w cs v vb out bound hu hB hv ho hb hs0 hl hbl
  | def_ t=> obtain ⟨f,t,j,d,k⟩:=t;exact f_clause s ih f t j d k hp h60 hsh hag B u w cs v vb out bound hu hB hv ho hb hs0 hl hbl
end
section
open Go.RowKit Go.Shelf
theorem zfm (B:Nat) (u:World) (p:Part) (v:Value) (w:World) (hu:zh B u w) (hB:B<=w.heap.size) (hf:¬zT p) (hv:zY B u v p):
  Calls Tryz.prog 65 #[v] w fun e w'=> e= .panicked (yn 2)/\Below w.heap.size w w':=
 (zd1 B u p v w hu hB hv).mono fun _ _ ⟨h,hb⟩=> ⟨h.elim (fun h=> absurd h.1 hf) (fun h=> h.2),hb⟩
theorem zjR (B:Nat) (u:World) (p:Part) (v:Value) (w:World) (hu:zh B u w) (hB:B<=w.heap.size) (hf:¬zT p) (hv:zY B u v p):
  Calls Tryz.prog 68 #[v] w fun e w'=> e= .returned (.int .i64 2)/\Below w.heap.size w w':=by
 obtain ⟨ty,x,rfl⟩:=xa hv;have hmf:∀(fn:Fn) (first cap:Array Value) (w:World),(Instr.makeFunc fn first cap).run Tryz.prog w= .ok (.func fn first cap) w:=fun _ _ _ _=> rfl;obtain ⟨W1,hW1⟩:∃W1,W1=w.alloc (.cells #[.iface ty x] 154):=⟨_,rfl⟩;have b1:Below w.heap.size w W1:=by rw [hW1];exact ZQ w _
 have z1:W1.heap.size=w.heap.size + 1:=by rw [hW1];simp
 have cc:(W1.alloc (.cells #[.int .i64 0] 37)).cell? ⟨w.heap.size,0,none⟩=some (.iface ty x):=by
  rw [ZP _ _ _ (by omega),hW1,ZA _ _ _ _ rfl];rfl
 have b2:Below W1.heap.size W1 (W1.alloc (.cells #[.int .i64 0] 37)):=ZQ W1 _;have hm:=zfm B u p _ (W1.alloc (.cells #[.int .i64 0] 37)) (hu.trans ((Below.keptC (b1.trans (b2.mono (by omega)))).mono hB)) (by simp;omega) hf hv;have HW:=ZH hW1;clear hW1
 have hw:Calls Tryz.prog 120 #[.pointer (some ⟨w.heap.size,0,none⟩)] (W1.alloc (.cells #[.int .i64 0] 37)) fun e w'=> e= .panicked (yn 2)/\Below (W1.heap.size + 1) (W1.alloc (.cells #[.int .i64 0] 37)) w':=by
  go_enter Tryz.func120,Tryz.ntmps120;go_wp2_with (go_at_call 65;refine hm.mono ?_;clear hm;rintro e w1 ⟨rfl,hb1⟩);exact ⟨rfl,rfl,hb1.mono (by simp)⟩
 have ha:=zfn 120 #[.pointer (some ⟨w.heap.size,0,none⟩)] 2 W1 (enters_of Tryz.func120 (by kernel_rfl) rfl) hw;go_enter Tryz.func68,Tryz.ntmps68;clear hw;go_wp2_with (go_at_call 119;rw [<-HW.out];refine ha.mono ?_;clear ha;rintro e w' ⟨rfl,hb⟩);go_ret;exact ⟨rfl,b1.trans (hb.mono (by omega))⟩
theorem zln (B:Nat) (u:World) (t:Term) (cs:List Value) (w:World) (hu:zh B u w) (hB:B<=w.heap.size) (hf:¬zT (.proc t)) (hv:ze B u cs t):
  Calls Tryz.prog 25 #[.agg cs.toArray] w fun e w'=> e= .returned (.int .i64 2)/\Below w.heap.size w w':=by
 obtain ⟨op,tx,args,defs,kids⟩:=t;have hv':=hv;unfold ze at hv;obtain ⟨hz,_,_,_,rfl,⟨a0,p0,rfl,_⟩,⟨a1,p1,rfl,_⟩,⟨a2,p2,rfl,_⟩⟩:=hv;have b1:Below w.heap.size w (w.alloc (.cells #[.int .i64 op, .string tx, .slice a0 args.length p0, .slice a1 defs.length p1, .slice a2 kids.length p2] 33)):=ZQ w _;have hm:=zjR B u (.proc (.mk op tx args defs kids)) (.iface 83 (.agg #[.int .i64 op, .string tx, .slice a0 args.length p0, .slice a1 defs.length p1, .slice a2 kids.length p2])) _ (hu.trans ((Below.keptC b1).mono hB)) (by simp;omega) hf ⟨_,rfl,hv'⟩;go_enter Tryz.func25,Tryz.ntmps25;go_wp2_with (go_at_call 68;refine hm.mono ?_;clear hm;rintro e w1 ⟨rfl,hb1⟩);go_ret;exact ⟨rfl,b1.trans (hb1.mono (by simp))⟩
end
section
open Go.RowKit Go.Shelf Go.Maps Go.Sort

def opT:Term->Int
 | .mk o _ _ _ _=> o
def defT:Term->List zg
 | .mk _ _ _ d _=> d
def zjp (t:Term):Int:=if zL (.proc t) then (if opT t=4 then 0 else 5) else 2
def dCh (t:Term):List ByteArray:=if zL (.proc t)/\opT t=4 then qb (defT t) else []
def dPl (t:Term):List ByteArray:=if zL (.proc t)/\opT t=4 then zi (defT t) else []
def DOut (t:Term) (w:World) (e:Ending) (w':World):Prop:=∃v1 v2,e= .returned (.tuple #[v1,v2, .int .i64 (zjp t)])/\zx w'.heap.size w' v1 (dCh t)/\zx w'.heap.size w' v2 (dPl t)/\Below w.heap.size w w'
theorem DOut.no {t:Term} (h:zL (.proc t)=false) {w w':World} (hb:Below w.heap.size w w'):DOut t w (.returned (.tuple #[.slice none 0 0, .slice none 0 0, .int .i64 2])) w':=
 ⟨_,_,by rw [zjp,h];rfl,by rw [dCh,h];exact zx.nil _ _,by rw [dPl,h];exact zx.nil _ _,hb⟩
theorem DOut.op {t:Term} (h:zL (.proc t)=true) (ho:opT t≠4) {w w':World} (hb:Below w.heap.size w w'):DOut t w (.returned (.tuple #[.slice none 0 0, .slice none 0 0, .int .i64 5])) w':=
 ⟨_,_,by rw [zjp,h,if_pos rfl,if_neg ho],by rw [dCh,if_neg (fun k=> ho k.2)];exact zx.nil _ _,by rw [dPl,if_neg (fun k=> ho k.2)];exact zx.nil _ _,hb⟩
end
section
open Go.RowKit Go.Shelf Go.Maps
theorem zfl (L:List ByteArray):j3 L L=true:=by
 unfold j3;simp only [beq_self_eq_true,Bool.true_and,List.all_eq_true];intro p hp
 have:p.1=p.2:=by
  induction L with
  | nil=> simp at hp
  | cons a l ih=>
   simp only [List.zip_cons_cons,List.mem_cons] at hp;rcases hp with rfl | hp
   ·rfl
   ·exact ih hp
 rw [this];simp [eqL]
end
section
open Go.RowKit
theorem zkv (s:Nat) (ihT:zfe s) (ihC:zfy s) (form:Int) (text:ByteArray) (joins:List Msg) (defs:List zg) (kids:List Term) (hs:(Part.def_ (.mk form text joins defs kids)).size<=s + 1) (B:Nat) (u w:World) (c1 c2:List Value) (hu:zh B u w) (hBl:B<=w.heap.size)
  (hv1:zo B u c1 (.mk form text joins defs kids)) (hv2:zo B u c2 (.mk form text joins defs kids)):
  Calls Tryz.prog 90 #[.agg c1.toArray, .agg c2.toArray] w fun e w'=> e= .returned (.bool true)/\Below w.heap.size w w':=by
 unfold zo at hv1 hv2;obtain ⟨hz,_,_,_,rfl,⟨a0,p0,rfl,l0,h0⟩,⟨a1,p1,rfl,l1,h1⟩,⟨a2,p2,rfl,l2,h2⟩⟩:=hv1;obtain ⟨_,_,_,_,rfl,⟨b0',q0,rfl,_,g0⟩,⟨b1',q1,rfl,_,g1⟩,⟨b2',q2,rfl,_,g2⟩⟩:=hv2;obtain ⟨W1,hW1⟩:∃W1,W1=(w.alloc (.cells #[.int .i64 form, .string text, .slice a0 joins.length p0, .slice a1 defs.length p1, .slice a2 kids.length p2] 130)).alloc (.cells #[.int .i64 form, .string text, .slice b0' joins.length q0, .slice b1' defs.length q1, .slice b2' kids.length q2] 130):=⟨_,rfl⟩;have z1:W1.heap.size=w.heap.size + 2:=by rw [hW1];simp
 have b1:Below w.heap.size w W1:=by rw [hW1];exact (ZQ w _).alloc (by simp) _
 have hrd:∀W,Below (w.heap.size + 2) W1 W->zh B u W/\B<=W.heap.size/\Below w.heap.size w W:=by
  intro W h;have hb:=b1.trans (h.mono (by omega));exact ⟨hu.trans ((Below.keptC hb).mono hBl),by have:=hb.size;omega,hb⟩
 have hrd2:∀W,Below (w.heap.size + 2) W1 W->W.cell? ⟨w.heap.size,2,none⟩=some (.slice a0 joins.length p0)/\W.cell? ⟨w.heap.size + 1,2,none⟩=some (.slice b0' joins.length q0)/\zh B u W:=by
  intro W h;refine ⟨(h.cell (p:=⟨w.heap.size,2,none⟩) (by simp)).trans ?_,(h.cell (p:=⟨w.heap.size + 1,2,none⟩) (by simp)).trans ?_,(hrd W h).1⟩
  ·rw [hW1,ZP _ _ _ (by simp),ZA _ _ _ _ rfl];rfl
  ·rw [hW1,ZA _ _ _ _ (by simp)];rfl
 have hrd3:∀W,Below (w.heap.size + 2) W1 W->W.cell? ⟨w.heap.size,3,none⟩=some (.slice a1 defs.length p1)/\W.cell? ⟨w.heap.size + 1,3,none⟩=some (.slice b1' defs.length q1)/\zh B u W:=by
  intro W h;refine ⟨(h.cell (p:=⟨w.heap.size,3,none⟩) (by simp)).trans ?_,(h.cell (p:=⟨w.heap.size + 1,3,none⟩) (by simp)).trans ?_,(hrd W h).1⟩
  ·rw [hW1,ZP _ _ _ (by simp),ZA _ _ _ _ rfl];rfl
  ·rw [hW1,ZA _ _ _ _ (by simp)];rfl
 have hrd4:∀W,Below (w.heap.size + 2) W1 W->W.cell? ⟨w.heap.size,4,none⟩=some (.slice a2 kids.length p2)/\W.cell? ⟨w.heap.size + 1,4,none⟩=some (.slice b2' kids.length q2)/\zh B u W:=by
  intro W h;refine ⟨(h.cell (p:=⟨w.heap.size,4,none⟩) (by simp)).trans ?_,(h.cell (p:=⟨w.heap.size + 1,4,none⟩) (by simp)).trans ?_,(hrd W h).1⟩
  ·rw [hW1,ZP _ _ _ (by simp),ZA _ _ _ _ rfl];rfl
  ·rw [hW1,ZA _ _ _ _ (by simp)];rfl
 have hkd:∀k,(h:k < defs.length)->(Part.def_ defs[k]).size<=s:=fun k h=> by
  have:=qi (p:= .def_ (.mk form text joins defs kids)) (q:= .def_ defs[k]) (ji (ZM h));omega
 have hkk:∀k,(h:k < kids.length)->∀(B:Nat) (u w:World) (c1 c2:List Value),zh B u w->B<=w.heap.size->ze B u c1 kids[k]->ze B u c2 kids[k]->
   Calls Tryz.prog 34 #[.agg c1.toArray, .agg c2.toArray] w fun e w'=> e= .returned (.bool true)/\Below w.heap.size w w':=fun k h=> ihT kids[k] (by
  have:=qi (p:= .def_ (.mk form text joins defs kids)) (q:= .proc kids[k]) (jl (ZM h));omega)
 have HW:=ZH hW1;clear hW1 hs;go_enter Tryz.func90,Tryz.ntmps90;go_wp2;rw [<-HW.out]
 go_loopw [5] (fun i wr=> ∃(k:Nat),k<=joins.length/\i= .int .i64 k/\Below (w.heap.size + 2) W1 wr) (fun i _=> joins.length - (intOf i).toNat)
 case atStart=> exact ⟨0,by omega,rfl,ZF _ _⟩
 case round=>
  obtain ⟨k,hk,rfl,hb⟩:=hrel;obtain ⟨m0,m1,hu1⟩:=hrd2 wr hb;obtain ⟨hu1,hB1,hbw⟩:=hrd wr hb;by_cases hlt:k < joins.length
  ·rcases h0 with h0 | ⟨b0,o0,rfl,hB0,hc0⟩
   ·rw [h0] at hlt;simp at hlt
   rcases g0 with h1 | ⟨b2,o2,rfl,hB2,hc2⟩
   ·rw [h1] at hlt;simp at hlt
   obtain ⟨d1,e1,f1⟩:=hc0.get joins b0 o0 k hlt;obtain ⟨d2,e2,f2⟩:=hc2.get joins b2 o2 k hlt;obtain ⟨tj,htj⟩:∃x,x=joins[k].text:=⟨_,rfl⟩;obtain ⟨nj,hnj⟩:∃x,x=joins[k].names:=⟨_,rfl⟩;obtain ⟨tz,v1,rfl,st1⟩:=f1;obtain ⟨_,v2,rfl,st2⟩:=f2;rw [<-htj] at e1 e2 tz;rw [<-hnj] at st1 st2;have st1':=st1;have st2':=st2;obtain ⟨ja0,jp0,rfl,jl0,_⟩:=st1;obtain ⟨ja1,jp1,rfl,jl1,_⟩:=st2
   have hS:∀W,Below (w.heap.size + 2) W1 W->W.cell? ⟨w.heap.size,2,none⟩=some (.slice (some ⟨b0,o0,none⟩) joins.length p0)/\W.cell? ⟨w.heap.size + 1,2,none⟩=some (.slice (some ⟨b2,o2,none⟩) joins.length q0)/\
     (W.cell? ⟨b0,o0 + k * 2,none⟩=some (.string tj)/\W.cell? ⟨b0,o0 + k * 2 + 1,none⟩=some (.slice ja0 nj.length jp0))/\W.cell? ⟨b2,o2 + k * 2,none⟩=some (.string tj)/\W.cell? ⟨b2,o2 + k * 2 + 1,none⟩=some (.slice ja1 nj.length jp1):=fun W h=> by
    obtain ⟨y0,y1,hu2⟩:=hrd2 W h;exact ⟨y0,y1,yO (e1.keep hu2 hB0),yO (e2.keep hu2 hB2)⟩
   have hcall:∀W,Below (w.heap.size + 2) W1 W->Calls Tryz.prog 31 #[.slice ja0 nj.length jp0, .slice ja1 nj.length jp1] W fun e w'=> e= .returned (.bool true)/\Below W.heap.size W w':=fun W h=> by
    obtain ⟨q1,q2,_⟩:=hrd W h;have:=zeF B _ _ nj nj W q2 (st1'.keep q1) (st2'.keep q1)
    rwa [zfl] at this
   obtain ⟨_,_,⟨z2,z3⟩,z4,z5⟩:=hS wr hb;have hbd:=hb.drew;obtain ⟨y0,y1,⟨y2,y3⟩,y4,y5⟩:=hS _ hbd;clear hc0 hc2 htj hnj st1' st2';have hc31:=hcall _ hbd;go_wp2
   go_region_held3 (fun W=> W.cell? ⟨w.heap.size,2,none⟩=some (.slice (some ⟨b0,o0,none⟩) joins.length p0)/\W.cell? ⟨w.heap.size + 1,2,none⟩=some (.slice (some ⟨b2,o2,none⟩) joins.length q0)/\
     W.cell? ⟨b0,o0 + k * 2,none⟩=some (.string tj)/\W.cell? ⟨b0,o0 + k * 2 + 1,none⟩=some (.slice ja0 nj.length jp0)/\W.cell? ⟨b2,o2 + k * 2,none⟩=some (.string tj)/\W.cell? ⟨b2,o2 + k * 2 + 1,none⟩=some (.slice ja1 nj.length jp1)) (go_keep)
    (first | (go_at_call 31;refine hc31.mono ?_;rintro e w2 ⟨rfl,hb2⟩;have hbd2:=hbd.trans (hb2.mono (by simp;have:=hb.size;omega));obtain ⟨yy0,yy1,⟨yy2,yy3⟩,yy4,yy5⟩:=hS w2 hbd2))
   all_goals go_wp2
   go_roundw
   case rel=> exact ⟨k + 1,by omega,by go_num,hbd2⟩
   case measure=> simp [intOf];omega
  ·obtain rfl:k=joins.length:=by omega
   go_wp2;have hbb:=hb;clear hb hu1 m0 m1
   go_loopw [6] (fun i wr=> ∃(k:Nat),k<=defs.length/\i= .int .i64 k/\Below (w.heap.size + 2) W1 wr) (fun i _=> defs.length - (intOf i).toNat)
   case atStart=> exact ⟨0,by omega,rfl,hbb⟩
   case round=>
    obtain ⟨k,hk,rfl,hb⟩:=hrel;obtain ⟨m0,m1,hu1⟩:=hrd3 wr hb;obtain ⟨hu1,hB1,hbw⟩:=hrd wr hb;by_cases hlt:k < defs.length
    ·rcases h1 with h0 | ⟨b0,o0,rfl,hB0,hc0⟩
     ·rw [h0] at hlt;simp at hlt
     rcases g1 with h1 | ⟨b2,o2,rfl,hB2,hc2⟩
     ·rw [h1] at hlt;simp at hlt
     obtain ⟨d1,e1,f1⟩:=hc0.get defs b0 o0 k hlt;obtain ⟨d2,e2,f2⟩:=hc2.get defs b2 o2 k hlt;obtain ⟨g0,g1,g2,g3,g4,g5,g6,g7,g8,g9,gA,rfl⟩:=qW f1;obtain ⟨i0,i1,i2,i3,i4,i5,i6,i7,i8,i9,iA,rfl⟩:=qW f2;have hbd:=hb.drew;obtain ⟨hu2,hB2',_⟩:=hrd wr.drew hbd
     have hS:∀W,Below (w.heap.size + 2) W1 W->W.cell? ⟨w.heap.size,3,none⟩=some (.slice (some ⟨b0,o0,none⟩) defs.length p1)/\W.cell? ⟨w.heap.size + 1,3,none⟩=some (.slice (some ⟨b2,o2,none⟩) defs.length q1)/\(W.cell? ⟨b0,o0 + k * 5,none⟩=some (.int .i64 g0)/\W.cell? ⟨b0,o0 + k * 5 + 1,none⟩=some (.string g1)/\W.cell? ⟨b0,o0 + k * 5 + 2,none⟩=some (.slice g2 g3 g4)/\W.cell? ⟨b0,o0 + k * 5 + 3,none⟩=some (.slice g5 g6 g7)/\W.cell? ⟨b0,o0 + k * 5 + 4,none⟩=some (.slice g8 g9 gA))/\W.cell? ⟨b2,o2 + k * 5,none⟩=some (.int .i64 i0)/\W.cell? ⟨b2,o2 + k * 5 + 1,none⟩=some (.string i1)/\W.cell? ⟨b2,o2 + k * 5 + 2,none⟩=some (.slice i2 i3 i4)/\W.cell? ⟨b2,o2 + k * 5 + 3,none⟩=some (.slice i5 i6 i7)/\W.cell? ⟨b2,o2 + k * 5 + 4,none⟩=some (.slice i8 i9 iA):=fun W h=> by
      obtain ⟨y0,y1,hu2⟩:=hrd3 W h;exact ⟨y0,y1,zK (e1.keep hu2 hB0),zK (e2.keep hu2 hB2)⟩
     have hcall:=ihC defs[k] (hkd k hlt) B u wr.drew _ _ hu2 hB2' f1 f2;obtain ⟨z0,z1,⟨y0,y1,y2,y3,y4⟩,x0,x1,x2,x3,x4⟩:=hS _ hbd;clear f1 f2 hc0 hc2;go_wp2
     go_region_held3 (fun W=> W.cell? ⟨w.heap.size,3,none⟩=some (.slice (some ⟨b0,o0,none⟩) defs.length p1)/\W.cell? ⟨w.heap.size + 1,3,none⟩=some (.slice (some ⟨b2,o2,none⟩) defs.length q1)/\W.cell? ⟨b0,o0 + k * 5,none⟩=some (.int .i64 g0)/\W.cell? ⟨b0,o0 + k * 5 + 1,none⟩=some (.string g1)/\W.cell? ⟨b0,o0 + k * 5 + 2,none⟩=some (.slice g2 g3 g4)/\W.cell? ⟨b0,o0 + k * 5 + 3,none⟩=some (.slice g5 g6 g7)/\W.cell? ⟨b0,o0 + k * 5 + 4,none⟩=some (.slice g8 g9 gA)/\W.cell? ⟨b2,o2 + k * 5,none⟩=some (.int .i64 i0)/\W.cell? ⟨b2,o2 + k * 5 + 1,none⟩=some (.string i1)/\W.cell? ⟨b2,o2 + k * 5 + 2,none⟩=some (.slice i2 i3 i4)/\W.cell? ⟨b2,o2 + k * 5 + 3,none⟩=some (.slice i5 i6 i7)/\W.cell? ⟨b2,o2 + k * 5 + 4,none⟩=some (.slice i8 i9 iA)) (go_keep)
      (first | (go_at_call 90;refine hcall.mono ?_;rintro e w2 ⟨rfl,hb2⟩;have hbd2:=hbd.trans (hb2.mono (by simp;have:=hb.size;omega));obtain ⟨zz0,zz1,⟨yy0,yy1,yy2,yy3,yy4⟩,xx0,xx1,xx2,xx3,xx4⟩:=hS w2 hbd2))
     all_goals go_wp2
     go_roundw
     case rel=> exact ⟨k + 1,by omega,by go_num,hbd2⟩
     case measure=> simp [intOf];omega
    ·obtain rfl:k=defs.length:=by omega
     obtain ⟨t0,t1,_⟩:=hrd4 wr hb;have hcall:=zcu kids hkk B u wr _ _ hu1 hB1 ⟨a2,p2,rfl,l2,h2⟩ ⟨b2',q2,rfl,l2,g2⟩;go_wp2_with (go_at_call 47;refine hcall.mono ?_;rintro e w2 ⟨rfl,hb2⟩);go_ret;exact ⟨rfl,hbw.trans (hb2.mono hbw.size)⟩
theorem zl6:∀s,zfe s/\zfy s:=by
 intro s
 induction s with
 | zero=>
  refine ⟨fun t ht=> ?_,fun t ht=> ?_⟩
  ·have:=yD (.proc t);omega
  ·have:=yD (.def_ t);omega
 | succ s ih=>
  refine ⟨fun t ht B u w c1 c2 hu hB h1 h2=> ?_,fun t ht B u w c1 c2 hu hB h1 h2=> ?_⟩
  ·obtain ⟨op,text,args,defs,kids⟩:=t
   exact zj1 s ih.1 ih.2 op text args defs kids ht B u w c1 c2 hu hB h1 h2
  ·obtain ⟨form,text,joins,defs,kids⟩:=t
   exact zkv s ih.1 ih.2 form text joins defs kids ht B u w c1 c2 hu hB h1 h2
theorem zg1 (t:Term) (B:Nat) (u w:World) (c1 c2:List Value) (hu:zh B u w) (hB:B<=w.heap.size) (h1:ze B u c1 t) (h2:ze B u c2 t):
  Calls Tryz.prog 34 #[.agg c1.toArray, .agg c2.toArray] w fun e w'=> e= .returned (.bool true)/\Below w.heap.size w w':=
 (zl6 (Part.proc t).size).1 t (ZL _) B u w c1 c2 hu hB h1 h2
end
end Go.Proofs.YtjmlaeofjjhfmaaGreat
