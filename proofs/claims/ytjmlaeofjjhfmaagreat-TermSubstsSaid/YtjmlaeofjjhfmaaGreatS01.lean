/- Lemmas. -/
import Derived.Test.YtjmlaeofjjhfmaaGreatS00
import Derived.RangeFuncNested
import Derived.RangeFuncBound
import Derived.RangeFuncCalls
import Derived.RangeFuncLeaves
import Derived.Shelf.Abstract
import Derived.Shelf.RegionOpen
import Derived.OwnWalkIn
import Derived.TacticsInMore
import Derived.LoopNIn
import Derived.LoopIn
import Derived.Outline
set_option linter.unusedVariables false
set_option linter.unusedSimpArgs false
set_option maxRecDepth 10000
set_option maxHeartbeats 16000000
namespace Go.Proofs.YtjmlaeofjjhfmaaGreat
section
open Go.RowKit
theorem zfs:(Tryz.prog.info? 154).map (fun i=> (i.zero,i.size,i.bytes))=some (some .nilIface,1,16):=by kernel_rfl
theorem jd {w:World} {b off:Nat} {a0 a1 a2 a3:Value} (h:zI w b off [a0,a1,a2,a3]):
  w.cell? ⟨b,off,none⟩=some a0/\w.cell? ⟨b,off + 1,none⟩=some a1/\w.cell? ⟨b,off + 2,none⟩=some a2/\w.cell? ⟨b,off + 3,none⟩=some a3:=
 ⟨h 0 (by simp),h 1 (by simp),h 2 (by simp),h 3 (by simp)⟩
theorem zK {w:World} {b off:Nat} {a0 a1 a2 a3 a4:Value} (h:zI w b off [a0,a1,a2,a3,a4]):
  w.cell? ⟨b,off,none⟩=some a0/\w.cell? ⟨b,off + 1,none⟩=some a1/\w.cell? ⟨b,off + 2,none⟩=some a2/\w.cell? ⟨b,off + 3,none⟩=some a3/\w.cell? ⟨b,off + 4,none⟩=some a4:=
 ⟨h 0 (by simp),h 1 (by simp),h 2 (by simp),h 3 (by simp),h 4 (by simp)⟩
theorem yO {w:World} {b off:Nat} {a0 a1:Value} (h:zI w b off [a0,a1]):
  w.cell? ⟨b,off,none⟩=some a0/\w.cell? ⟨b,off + 1,none⟩=some a1:=
 ⟨h 0 (by simp),h 1 (by simp)⟩
theorem yw (w:World) (x:Value) (t:TypeId) (n:Nat) (hn:n=w.heap.size):∀j u, [x][j]?=some u->(w.alloc (.cells #[x] t)).cell? ((⟨n,0,none⟩:Addr).add j)=some u:=by
 subst hn;exact cell_one_new w x t
def ym (B:Nat) (w:World) (vs:List Value) (ps:List Part):Prop:=
 vs.length=ps.length/\(∀v∈vs,v.oneCell'=true)/\∀i,(h:i < vs.length)->(h':i < ps.length)->zY B w vs[i] ps[i]
theorem ym.nil {B:Nat} {w:World}:ym B w [] []:=⟨rfl,by simp,by simp⟩
theorem ym.snoc {B:Nat} {w:World} {vs:List Value} {ps:List Part} {v:Value} {p:Part} (h:ym B w vs ps) (hv:zY B w v p):ym B w (vs ++ [v]) (ps ++ [p]):=by
 obtain ⟨h1,h2,h3⟩:=h;refine ⟨by simp [h1],?_,?_⟩
 ·intro u hu
  rcases List.mem_append.1 hu with hu | hu
  ·exact h2 u hu
  ·obtain rfl:=List.mem_singleton.1 hu
   cases p <;> (obtain ⟨cs,rfl,_⟩:=hv;rfl)
 ·intro i hi hi'
  by_cases hl:i < vs.length
  ·rw [List.getElem_append_left hl,List.getElem_append_left (by omega)];exact h3 i hl (by omega)
  ·have e1:i=vs.length:=by simp at hi;omega
   subst e1;simp only [List.getElem_concat_length,h1];exact hv
theorem zfi {wr:World} {B:Nat} {v:Value} {n:Nat} {vs:List Value} (h:wr.ownsRow B 154 1 v n vs) (hn:vs.length=n):wr.ownsRow B 154 1 v vs.length vs:=by rw [hn];exact h
theorem zdW (op n:Int) (text:ByteArray) (a_kids:Option Addr) (cap_kids:Nat) (kids:List Exp) (B:Nat) (u w:World) (hu:zh B u w) (hBs:B<=w.heap.size) (hl_kids:kids.length<=100) (h_kids:kids.length=0∨∃b off,a_kids=some ⟨b,off,none⟩/\b < B/\zW B u b off kids):
  Calls Tryz.prog 219 #[.agg #[.int .i64 op, .int .i64 n, .string text, .slice a_kids kids.length cap_kids]] w fun e w'=> ∃v vs,e= .returned v/\
   w'.ownsRow (w.heap.size + 1) 154 1 v vs.length vs/\ym B u vs (kids.map .exp)/\Below w.heap.size w w':=by
 obtain ⟨i0,hi,hz0,hz1,hz2⟩:=info_parts zfs;obtain ⟨W1,HW1⟩:∃W,W=w.alloc (.cells #[.int .i64 op, .int .i64 n, .string text, .slice a_kids kids.length cap_kids] 88):=⟨_,rfl⟩;have hW1:Below w.heap.size w W1:=by rw [HW1];exact ZQ w _
 have hW1s:W1.heap.size=w.heap.size + 1:=by rw [HW1];simp
 have hbox_kids:W1.cell? ⟨w.heap.size,3,none⟩=some (.slice a_kids kids.length cap_kids):=by rw [HW1,ZA _ _ _ _ rfl];rfl
 have HWH:=ZH HW1;go_enter Tryz.func219,Tryz.ntmps219;go_wp2_with fail;rw [<-HWH.out];clear HW1;go_wp2
 go_loopw [3,9] (fun v i wr=> ∃(k:Nat) (vs:List Value),k<=kids.length/\vs.length=k/\i= .int .i64 k/\Below (w.heap.size + 1) W1 wr/\wr.ownsRow (w.heap.size + 1) 154 1 v (k) vs/\ym B u vs ((kids.take k).map .exp)) (fun _ i _=> kids.length - (intOf i).toNat)
 case atStart=> exact ⟨0, [],by omega,rfl,rfl,ZF _ _,ZR _ _ _ _,ym.nil⟩
 case round=>
  obtain ⟨k,vs,hk',hvs,rfl,hB,hown,hps⟩:=hrel;have HV:=ZH hvs;clear hvs;by_cases hlt:k < kids.length
  ·rcases h_kids with h0 | ⟨b,off,rfl,hb,hk⟩
   ·omega
   obtain ⟨cs,hcs,hexp⟩:=hk.get kids b off k hlt;have hexp':=hexp;obtain ⟨e0,he0⟩:∃e,e=kids[k]:=⟨_,rfl⟩;rw [<-he0] at hexp hexp';have HE:=ZH he0;clear he0;obtain ⟨o0,n0,t0,k0⟩:=e0;unfold zy at hexp;obtain ⟨_,_,rfl,a0,p0,rfl,_⟩:=hexp;have hexp:=hexp';have hBw:=hW1.trans (hB.mono (Nat.le_succ _));obtain ⟨c0,c1,c2,c3⟩:=jd ((hcs.keep hu hb).below hBw (by omega));have hsz:=hB.size;have HL:=ZH HV.out;have hpp:zY B u (.iface 88 (.agg #[.int .i64 o0, .int .i64 n0, .string t0, .slice a0 k0.length p0])) (.exp kids[k]):=⟨_,rfl,by rw [<-HE.out];exact hexp'⟩
   go_wp2_with (first
    | (at_builtin;refine wpList_append_own _ rfl _ _ 167 rfl (w.heap.size + 1) 154 i0 .nilIface 1 16 Tryz.underlying167 hi hz0 hz1 hz2 rfl (by decide) _ _ _ rfl ((hown.alloc _).alloc _) ⟨wr.heap.size + 1,0,none⟩ 1 1 [.iface 88 (.agg #[.int .i64 o0, .int .i64 n0, .string t0, .slice a0 k0.length p0])] rfl rfl (yw _ _ _ _ (by simp)) (by simp [Value.oneCell']) (by unfold maxLen;omega) (by omega) (by simp;omega) ?_;intro v' w1 hown' hgrow _)
    | go_in)
   go_roundw
   case rel=>
    have hB1:Below (w.heap.size + 1) W1 w1:=((hB.alloc (by omega) _).alloc (by simp;omega) _).grown hgrow (by simp;omega) (fun k e=> (hown.lt k e).1);exact ⟨k + 1,vs ++ [_],by omega,by have:=HL.out;simp;omega,by go_num,hB1,hown',by rw [ZT hlt,List.map_append];exact hps.snoc hpp⟩
   case measure=> simp [intOf];omega
  ·obtain rfl:k=kids.length:=by omega
   rw [List.take_length] at hps;have hsz0:=hB.size;have HO:=ZH hown;clear hown;go_wp2;go_ret;exact ⟨_,vs,rfl,zfi HO.out HV.out,hps,hW1.trans (hB.mono (Nat.le_succ _))⟩
theorem zcX (op:Int) (text:ByteArray) (a_args:Option Addr) (cap_args:Nat) (args:List Exp) (a_defs:Option Addr) (cap_defs:Nat) (defs:List zg) (a_kids:Option Addr) (cap_kids:Nat) (kids:List Term) (B:Nat) (u w:World) (hu:zh B u w) (hBs:B<=w.heap.size) (hl_args:args.length<=100) (h_args:args.length=0∨∃b off,a_args=some ⟨b,off,none⟩/\b < B/\zW B u b off args) (hl_defs:defs.length<=100) (h_defs:defs.length=0∨∃b off,a_defs=some ⟨b,off,none⟩/\b < B/\zr B u b off defs) (hl_kids:kids.length<=100) (h_kids:kids.length=0∨∃b off,a_kids=some ⟨b,off,none⟩/\b < B/\zu B u b off kids):
  Calls Tryz.prog 216 #[.agg #[.int .i64 op, .string text, .slice a_args args.length cap_args, .slice a_defs defs.length cap_defs, .slice a_kids kids.length cap_kids]] w fun e w'=> ∃v vs,e= .returned v/\
   w'.ownsRow (w.heap.size + 1) 154 1 v vs.length vs/\ym B u vs (args.map .exp ++ defs.map .def_ ++ kids.map .proc)/\Below w.heap.size w w':=by
 obtain ⟨i0,hi,hz0,hz1,hz2⟩:=info_parts zfs;obtain ⟨W1,HW1⟩:∃W,W=w.alloc (.cells #[.int .i64 op, .string text, .slice a_args args.length cap_args, .slice a_defs defs.length cap_defs, .slice a_kids kids.length cap_kids] 83):=⟨_,rfl⟩;have hW1:Below w.heap.size w W1:=by rw [HW1];exact ZQ w _
 have hW1s:W1.heap.size=w.heap.size + 1:=by rw [HW1];simp
 have hbox_args:W1.cell? ⟨w.heap.size,2,none⟩=some (.slice a_args args.length cap_args):=by rw [HW1,ZA _ _ _ _ rfl];rfl
 have hbox_defs:W1.cell? ⟨w.heap.size,3,none⟩=some (.slice a_defs defs.length cap_defs):=by rw [HW1,ZA _ _ _ _ rfl];rfl
 have hbox_kids:W1.cell? ⟨w.heap.size,4,none⟩=some (.slice a_kids kids.length cap_kids):=by rw [HW1,ZA _ _ _ _ rfl];rfl
 have HWH:=ZH HW1;go_enter Tryz.func216,Tryz.ntmps216;go_wp2_with fail;rw [<-HWH.out];clear HW1;go_wp2
 go_loopw [3,13] (fun v i wr=> ∃(k:Nat) (vs:List Value),k<=args.length/\vs.length=k/\i= .int .i64 k/\Below (w.heap.size + 1) W1 wr/\wr.ownsRow (w.heap.size + 1) 154 1 v (k) vs/\ym B u vs ((args.take k).map .exp)) (fun _ i _=> args.length - (intOf i).toNat)
 case atStart=> exact ⟨0, [],by omega,rfl,rfl,ZF _ _,ZR _ _ _ _,ym.nil⟩
 case round=>
  obtain ⟨k,vs,hk',hvs,rfl,hB,hown,hps⟩:=hrel;have HV:=ZH hvs;clear hvs;by_cases hlt:k < args.length
  ·rcases h_args with h0 | ⟨b,off,rfl,hb,hk⟩
   ·omega
   obtain ⟨cs,hcs,hexp⟩:=hk.get args b off k hlt;have hexp':=hexp;obtain ⟨e0,he0⟩:∃e,e=args[k]:=⟨_,rfl⟩;rw [<-he0] at hexp hexp';have HE:=ZH he0;clear he0;obtain ⟨o0,n0,t0,k0⟩:=e0;unfold zy at hexp;obtain ⟨_,_,rfl,a0,p0,rfl,_⟩:=hexp;have hexp:=hexp';have hBw:=hW1.trans (hB.mono (Nat.le_succ _));obtain ⟨c0,c1,c2,c3⟩:=jd ((hcs.keep hu hb).below hBw (by omega));have hsz:=hB.size;have HL:=ZH HV.out;have hpp:zY B u (.iface 88 (.agg #[.int .i64 o0, .int .i64 n0, .string t0, .slice a0 k0.length p0])) (.exp args[k]):=⟨_,rfl,by rw [<-HE.out];exact hexp'⟩
   go_wp2_with (first
    | (at_builtin;refine wpList_append_own _ rfl _ _ 167 rfl (w.heap.size + 1) 154 i0 .nilIface 1 16 Tryz.underlying167 hi hz0 hz1 hz2 rfl (by decide) _ _ _ rfl ((hown.alloc _).alloc _) ⟨wr.heap.size + 1,0,none⟩ 1 1 [.iface 88 (.agg #[.int .i64 o0, .int .i64 n0, .string t0, .slice a0 k0.length p0])] rfl rfl (yw _ _ _ _ (by simp)) (by simp [Value.oneCell']) (by unfold maxLen;omega) (by omega) (by simp;omega) ?_;intro v' w1 hown' hgrow _)
    | go_in)
   go_roundw
   case rel=>
    have hB1:Below (w.heap.size + 1) W1 w1:=((hB.alloc (by omega) _).alloc (by simp;omega) _).grown hgrow (by simp;omega) (fun k e=> (hown.lt k e).1);exact ⟨k + 1,vs ++ [_],by omega,by have:=HL.out;simp;omega,by go_num,hB1,hown',by rw [ZT hlt,List.map_append];exact hps.snoc hpp⟩
   case measure=> simp [intOf];omega
  ·obtain rfl:k=args.length:=by omega
   rw [List.take_length] at hps;have hsz0:=hB.size;have hbx:=(hB.cell (p:=⟨w.heap.size,3,none⟩) (by simp)).trans hbox_defs;have HO:=ZH HV.out;go_wp2
   go_loopw [3,26] (fun v i wr=> ∃(k:Nat) (vs:List Value),k<=defs.length/\vs.length=args.length + k/\i= .int .i64 k/\Below (w.heap.size + 1) W1 wr/\wr.ownsRow (w.heap.size + 1) 154 1 v (args.length + k) vs/\ym B u vs ((args.map .exp) ++ (defs.take k).map .def_)) (fun _ i _=> defs.length - (intOf i).toNat)
   case atStart=> exact ⟨0,vs,by omega,by simpa using HO.out,rfl,hB,by simpa using hown,by simpa using hps⟩
   case round=>
    obtain ⟨k,vs,hk',hvs,rfl,hB,hown,hps⟩:=hrel;have HV:=ZH hvs;clear hvs;by_cases hlt:k < defs.length
    ·rcases h_defs with h0 | ⟨b,off,rfl,hb,hk⟩
     ·omega
     obtain ⟨cs,hcs,hexp⟩:=hk.get defs b off k hlt;have hexp':=hexp;obtain ⟨e0,he0⟩:∃e,e=defs[k]:=⟨_,rfl⟩;rw [<-he0] at hexp hexp';have HE:=ZH he0;clear he0;obtain ⟨o0,t0,j0,d0,k0⟩:=e0;unfold zo at hexp;obtain ⟨_,_,_,_,rfl,⟨a0,p0,rfl,_⟩,⟨a1,p1,rfl,_⟩,⟨a2,p2,rfl,_⟩⟩:=hexp;have hexp:=hexp';have hBw:=hW1.trans (hB.mono (Nat.le_succ _));obtain ⟨c0,c1,c2,c3,c4⟩:=zK ((hcs.keep hu hb).below hBw (by omega));have hsz:=hB.size;have HL:=ZH HV.out;have hpp:zY B u (.iface 191 (.agg #[.int .i64 o0, .string t0, .slice a0 j0.length p0, .slice a1 d0.length p1, .slice a2 k0.length p2])) (.def_ defs[k]):=⟨_,rfl,by rw [<-HE.out];exact hexp'⟩
     go_wp2_with (first
      | (at_builtin;refine wpList_append_own _ rfl _ _ 167 rfl (w.heap.size + 1) 154 i0 .nilIface 1 16 Tryz.underlying167 hi hz0 hz1 hz2 rfl (by decide) _ _ _ rfl ((hown.alloc _).alloc _) ⟨wr.heap.size + 1,0,none⟩ 1 1 [.iface 191 (.agg #[.int .i64 o0, .string t0, .slice a0 j0.length p0, .slice a1 d0.length p1, .slice a2 k0.length p2])] rfl rfl (yw _ _ _ _ (by simp)) (by simp [Value.oneCell']) (by unfold maxLen;omega) (by omega) (by simp;omega) ?_;intro v' w1 hown' hgrow _)
      | go_in)
     go_roundw
     case rel=>
      have hB1:Below (w.heap.size + 1) W1 w1:=((hB.alloc (by omega) _).alloc (by simp;omega) _).grown hgrow (by simp;omega) (fun k e=> (hown.lt k e).1);exact ⟨k + 1,vs ++ [_],by omega,by have:=HL.out;simp;omega,by go_num,hB1,hown',by rw [ZT hlt,List.map_append,<-List.append_assoc];exact hps.snoc hpp⟩
     case measure=> simp [intOf];omega
    ·obtain rfl:k=defs.length:=by omega
     rw [List.take_length] at hps;have hsz1:=hB.size;have hbx:=(hB.cell (p:=⟨w.heap.size,4,none⟩) (by simp)).trans hbox_kids;have HO:=ZH HV.out;go_wp2
     go_loopw [3,39] (fun v i wr=> ∃(k:Nat) (vs:List Value),k<=kids.length/\vs.length=args.length + defs.length + k/\i= .int .i64 k/\Below (w.heap.size + 1) W1 wr/\wr.ownsRow (w.heap.size + 1) 154 1 v (args.length + defs.length + k) vs/\ym B u vs ((args.map .exp) ++ (defs.map .def_) ++ (kids.take k).map .proc)) (fun _ i _=> kids.length - (intOf i).toNat)
     case atStart=> exact ⟨0,vs,by omega,by simpa using HO.out,rfl,hB,by simpa using hown,by simpa using hps⟩
     case round=>
      obtain ⟨k,vs,hk',hvs,rfl,hB,hown,hps⟩:=hrel;have HV:=ZH hvs;clear hvs;by_cases hlt:k < kids.length
      ·rcases h_kids with h0 | ⟨b,off,rfl,hb,hk⟩
       ·omega
       obtain ⟨cs,hcs,hexp⟩:=hk.get kids b off k hlt;have hexp':=hexp;obtain ⟨e0,he0⟩:∃e,e=kids[k]:=⟨_,rfl⟩;rw [<-he0] at hexp hexp';have HE:=ZH he0;clear he0;obtain ⟨o0,t0,j0,d0,k0⟩:=e0;unfold ze at hexp;obtain ⟨_,_,_,_,rfl,⟨a0,p0,rfl,_⟩,⟨a1,p1,rfl,_⟩,⟨a2,p2,rfl,_⟩⟩:=hexp;have hexp:=hexp';have hBw:=hW1.trans (hB.mono (Nat.le_succ _));obtain ⟨c0,c1,c2,c3,c4⟩:=zK ((hcs.keep hu hb).below hBw (by omega));have hsz:=hB.size;have HL:=ZH HV.out;have hpp:zY B u (.iface 83 (.agg #[.int .i64 o0, .string t0, .slice a0 j0.length p0, .slice a1 d0.length p1, .slice a2 k0.length p2])) (.proc kids[k]):=⟨_,rfl,by rw [<-HE.out];exact hexp'⟩
       go_wp2_with (first
        | (at_builtin;refine wpList_append_own _ rfl _ _ 167 rfl (w.heap.size + 1) 154 i0 .nilIface 1 16 Tryz.underlying167 hi hz0 hz1 hz2 rfl (by decide) _ _ _ rfl ((hown.alloc _).alloc _) ⟨wr.heap.size + 1,0,none⟩ 1 1 [.iface 83 (.agg #[.int .i64 o0, .string t0, .slice a0 j0.length p0, .slice a1 d0.length p1, .slice a2 k0.length p2])] rfl rfl (yw _ _ _ _ (by simp)) (by simp [Value.oneCell']) (by unfold maxLen;omega) (by omega) (by simp;omega) ?_;intro v' w1 hown' hgrow _)
        | go_in)
       go_roundw
       case rel=>
        have hB1:Below (w.heap.size + 1) W1 w1:=((hB.alloc (by omega) _).alloc (by simp;omega) _).grown hgrow (by simp;omega) (fun k e=> (hown.lt k e).1);exact ⟨k + 1,vs ++ [_],by omega,by have:=HL.out;simp;omega,by go_num,hB1,hown',by rw [ZT hlt,List.map_append,<-List.append_assoc];exact hps.snoc hpp⟩
       case measure=> simp [intOf];omega
      ·obtain rfl:k=kids.length:=by omega
       rw [List.take_length] at hps;have hsz2:=hB.size;have HO:=ZH hown;clear hown;go_wp2;go_ret;exact ⟨_,vs,rfl,zfi HO.out HV.out,by simpa using hps,hW1.trans (hB.mono (Nat.le_succ _))⟩
theorem zdZ (form:Int) (text:ByteArray) (a_joins:Option Addr) (cap_joins:Nat) (joins:List Msg) (a_defs:Option Addr) (cap_defs:Nat) (defs:List zg) (a_kids:Option Addr) (cap_kids:Nat) (kids:List Term) (B:Nat) (u w:World) (hu:zh B u w) (hBs:B<=w.heap.size) (hl_defs:defs.length<=100) (h_defs:defs.length=0∨∃b off,a_defs=some ⟨b,off,none⟩/\b < B/\zr B u b off defs) (hl_kids:kids.length<=100) (h_kids:kids.length=0∨∃b off,a_kids=some ⟨b,off,none⟩/\b < B/\zu B u b off kids):
  Calls Tryz.prog 230 #[.agg #[.int .i64 form, .string text, .slice a_joins joins.length cap_joins, .slice a_defs defs.length cap_defs, .slice a_kids kids.length cap_kids]] w fun e w'=> ∃v vs,e= .returned v/\
   w'.ownsRow (w.heap.size + 1) 154 1 v vs.length vs/\ym B u vs (defs.map .def_ ++ kids.map .proc)/\Below w.heap.size w w':=by
 obtain ⟨i0,hi,hz0,hz1,hz2⟩:=info_parts zfs;obtain ⟨W1,HW1⟩:∃W,W=w.alloc (.cells #[.int .i64 form, .string text, .slice a_joins joins.length cap_joins, .slice a_defs defs.length cap_defs, .slice a_kids kids.length cap_kids] 191):=⟨_,rfl⟩;have hW1:Below w.heap.size w W1:=by rw [HW1];exact ZQ w _
 have hW1s:W1.heap.size=w.heap.size + 1:=by rw [HW1];simp
 have hbox_defs:W1.cell? ⟨w.heap.size,3,none⟩=some (.slice a_defs defs.length cap_defs):=by rw [HW1,ZA _ _ _ _ rfl];rfl
 have hbox_kids:W1.cell? ⟨w.heap.size,4,none⟩=some (.slice a_kids kids.length cap_kids):=by rw [HW1,ZA _ _ _ _ rfl];rfl
 have HWH:=ZH HW1;go_enter Tryz.func230,Tryz.ntmps230;go_wp2_with fail;rw [<-HWH.out];clear HW1;go_wp2
 go_loopw [3,11] (fun v i wr=> ∃(k:Nat) (vs:List Value),k<=defs.length/\vs.length=k/\i= .int .i64 k/\Below (w.heap.size + 1) W1 wr/\wr.ownsRow (w.heap.size + 1) 154 1 v (k) vs/\ym B u vs ((defs.take k).map .def_)) (fun _ i _=> defs.length - (intOf i).toNat)
 case atStart=> exact ⟨0, [],by omega,rfl,rfl,ZF _ _,ZR _ _ _ _,ym.nil⟩
 case round=>
  obtain ⟨k,vs,hk',hvs,rfl,hB,hown,hps⟩:=hrel;have HV:=ZH hvs;clear hvs;by_cases hlt:k < defs.length
  ·rcases h_defs with h0 | ⟨b,off,rfl,hb,hk⟩
   ·omega
   obtain ⟨cs,hcs,hexp⟩:=hk.get defs b off k hlt;have hexp':=hexp;obtain ⟨e0,he0⟩:∃e,e=defs[k]:=⟨_,rfl⟩;rw [<-he0] at hexp hexp';have HE:=ZH he0;clear he0;obtain ⟨o0,t0,j0,d0,k0⟩:=e0;unfold zo at hexp;obtain ⟨_,_,_,_,rfl,⟨a0,p0,rfl,_⟩,⟨a1,p1,rfl,_⟩,⟨a2,p2,rfl,_⟩⟩:=hexp;have hexp:=hexp';have hBw:=hW1.trans (hB.mono (Nat.le_succ _));obtain ⟨c0,c1,c2,c3,c4⟩:=zK ((hcs.keep hu hb).below hBw (by omega));have hsz:=hB.size;have HL:=ZH HV.out;have hpp:zY B u (.iface 191 (.agg #[.int .i64 o0, .string t0, .slice a0 j0.length p0, .slice a1 d0.length p1, .slice a2 k0.length p2])) (.def_ defs[k]):=⟨_,rfl,by rw [<-HE.out];exact hexp'⟩
   go_wp2_with (first
    | (at_builtin;refine wpList_append_own _ rfl _ _ 167 rfl (w.heap.size + 1) 154 i0 .nilIface 1 16 Tryz.underlying167 hi hz0 hz1 hz2 rfl (by decide) _ _ _ rfl ((hown.alloc _).alloc _) ⟨wr.heap.size + 1,0,none⟩ 1 1 [.iface 191 (.agg #[.int .i64 o0, .string t0, .slice a0 j0.length p0, .slice a1 d0.length p1, .slice a2 k0.length p2])] rfl rfl (yw _ _ _ _ (by simp)) (by simp [Value.oneCell']) (by unfold maxLen;omega) (by omega) (by simp;omega) ?_;intro v' w1 hown' hgrow _)
    | go_in)
   go_roundw
   case rel=>
    have hB1:Below (w.heap.size + 1) W1 w1:=((hB.alloc (by omega) _).alloc (by simp;omega) _).grown hgrow (by simp;omega) (fun k e=> (hown.lt k e).1);exact ⟨k + 1,vs ++ [_],by omega,by have:=HL.out;simp;omega,by go_num,hB1,hown',by rw [ZT hlt,List.map_append];exact hps.snoc hpp⟩
   case measure=> simp [intOf];omega
  ·obtain rfl:k=defs.length:=by omega
   rw [List.take_length] at hps;have hsz0:=hB.size;have hbx:=(hB.cell (p:=⟨w.heap.size,4,none⟩) (by simp)).trans hbox_kids;have HO:=ZH HV.out;go_wp2
   go_loopw [3,24] (fun v i wr=> ∃(k:Nat) (vs:List Value),k<=kids.length/\vs.length=defs.length + k/\i= .int .i64 k/\Below (w.heap.size + 1) W1 wr/\wr.ownsRow (w.heap.size + 1) 154 1 v (defs.length + k) vs/\ym B u vs ((defs.map .def_) ++ (kids.take k).map .proc)) (fun _ i _=> kids.length - (intOf i).toNat)
   case atStart=> exact ⟨0,vs,by omega,by simpa using HO.out,rfl,hB,by simpa using hown,by simpa using hps⟩
   case round=>
    obtain ⟨k,vs,hk',hvs,rfl,hB,hown,hps⟩:=hrel;have HV:=ZH hvs;clear hvs;by_cases hlt:k < kids.length
    ·rcases h_kids with h0 | ⟨b,off,rfl,hb,hk⟩
     ·omega
     obtain ⟨cs,hcs,hexp⟩:=hk.get kids b off k hlt;have hexp':=hexp;obtain ⟨e0,he0⟩:∃e,e=kids[k]:=⟨_,rfl⟩;rw [<-he0] at hexp hexp';have HE:=ZH he0;clear he0;obtain ⟨o0,t0,j0,d0,k0⟩:=e0;unfold ze at hexp;obtain ⟨_,_,_,_,rfl,⟨a0,p0,rfl,_⟩,⟨a1,p1,rfl,_⟩,⟨a2,p2,rfl,_⟩⟩:=hexp;have hexp:=hexp';have hBw:=hW1.trans (hB.mono (Nat.le_succ _));obtain ⟨c0,c1,c2,c3,c4⟩:=zK ((hcs.keep hu hb).below hBw (by omega));have hsz:=hB.size;have HL:=ZH HV.out;have hpp:zY B u (.iface 83 (.agg #[.int .i64 o0, .string t0, .slice a0 j0.length p0, .slice a1 d0.length p1, .slice a2 k0.length p2])) (.proc kids[k]):=⟨_,rfl,by rw [<-HE.out];exact hexp'⟩
     go_wp2_with (first
      | (at_builtin;refine wpList_append_own _ rfl _ _ 167 rfl (w.heap.size + 1) 154 i0 .nilIface 1 16 Tryz.underlying167 hi hz0 hz1 hz2 rfl (by decide) _ _ _ rfl ((hown.alloc _).alloc _) ⟨wr.heap.size + 1,0,none⟩ 1 1 [.iface 83 (.agg #[.int .i64 o0, .string t0, .slice a0 j0.length p0, .slice a1 d0.length p1, .slice a2 k0.length p2])] rfl rfl (yw _ _ _ _ (by simp)) (by simp [Value.oneCell']) (by unfold maxLen;omega) (by omega) (by simp;omega) ?_;intro v' w1 hown' hgrow _)
      | go_in)
     go_roundw
     case rel=>
      have hB1:Below (w.heap.size + 1) W1 w1:=((hB.alloc (by omega) _).alloc (by simp;omega) _).grown hgrow (by simp;omega) (fun k e=> (hown.lt k e).1);exact ⟨k + 1,vs ++ [_],by omega,by have:=HL.out;simp;omega,by go_num,hB1,hown',by rw [ZT hlt,List.map_append,<-List.append_assoc];exact hps.snoc hpp⟩
     case measure=> simp [intOf];omega
    ·obtain rfl:k=kids.length:=by omega
     rw [List.take_length] at hps;have hsz1:=hB.size;have HO:=ZH hown;clear hown;go_wp2;go_ret;exact ⟨_,vs,rfl,zfi HO.out HV.out,by simpa using hps,hW1.trans (hB.mono (Nat.le_succ _))⟩
def Part.parts:Part->List Part
 | .proc (.mk _ _ args defs kids)=> args.map .exp ++ defs.map .def_ ++ kids.map .proc
 | .exp (.mk _ _ _ kids)=> kids.map .exp
 | .def_ (.mk _ _ _ defs kids)=> defs.map .def_ ++ kids.map .proc
mutual
def jV (lev:Nat):Exp->List (Part×Nat)
 | .mk op n t kids=> (.exp (.mk op n t kids),lev)::yG (lev + 1) kids
def yG (lev:Nat):List Exp->List (Part×Nat)
 | []=> []
 | e::es=> jV lev e ++ yG lev es
end
mutual
def qF (lev:Nat):zg->List (Part×Nat)
 | .mk f t j d k=> (.def_ (.mk f t j d k),lev)::(qu (lev + 1) d ++ yj (lev + 1) k)
def qu (lev:Nat):List zg->List (Part×Nat)
 | []=> []
 | e::es=> qF lev e ++ qu lev es
def qL (lev:Nat):Term->List (Part×Nat)
 | .mk o t a d k=> (.proc (.mk o t a d k),lev)::(yG (lev + 1) a ++ qu (lev + 1) d ++ yj (lev + 1) k)
def yj (lev:Nat):List Term->List (Part×Nat)
 | []=> []
 | e::es=> qL lev e ++ yj lev es
end
def zw (lev:Nat):Part->List (Part×Nat)
 | .proc t=> qL lev t
 | .exp e=> jV lev e
 | .def_ c=> qF lev c
def zM (lev:Nat) (ps:List Part):List (Part×Nat):=ps.flatMap (zw lev)
theorem zcw (lev:Nat):∀es:List Exp,yG lev es=zM lev (es.map .exp)
 | []=> rfl
 | e::es=> by simp [yG,zM,zcw lev es,zw]
theorem j6 (lev:Nat):∀es:List zg,qu lev es=zM lev (es.map .def_)
 | []=> rfl
 | e::es=> by simp [qu,zM,j6 lev es,zw]
theorem zcK (lev:Nat):∀es:List Term,yj lev es=zM lev (es.map .proc)
 | []=> rfl
 | e::es=> by simp [yj,zM,zcK lev es,zw]
theorem yX (lev:Nat) (a b:List Part):zM lev (a ++ b)=zM lev a ++ zM lev b:=by simp [zM]
theorem zv (lev:Nat) (p:Part):zw lev p=(p,lev)::zM (lev + 1) p.parts:=by
 cases p with
 | proc t=> obtain ⟨o,t,a,d,k⟩:=t;simp [zw,qL,Part.parts,yX,zcw,j6,zcK]
 | exp t=> obtain ⟨o,n,t,k⟩:=t;simp [zw,jV,Part.parts,zcw]
 | def_ t=> obtain ⟨f,t,j,d,k⟩:=t;simp [zw,qF,Part.parts,yX,j6,zcK]
mutual
theorem zeE (a b:Nat):∀e:Exp,(jV a e).length=(jV b e).length
 | .mk _ _ _ k=> by simp [jV,zb6 (a + 1) (b + 1) k]
theorem zb6 (a b:Nat):∀e:List Exp,(yG a e).length=(yG b e).length
 | []=> rfl
 | e::es=> by simp [yG,zeE a b e,zb6 a b es]
end
mutual
theorem zcA (a b:Nat):∀e:zg,(qF a e).length=(qF b e).length
 | .mk _ _ _ d k=> by simp [qF,jz (a + 1) (b + 1) d,zaH (a + 1) (b + 1) k]
theorem jz (a b:Nat):∀e:List zg,(qu a e).length=(qu b e).length
 | []=> rfl
 | e::es=> by simp [qu,zcA a b e,jz a b es]
theorem zeB (a b:Nat):∀e:Term,(qL a e).length=(qL b e).length
 | .mk _ _ g d k=> by simp [qL,zb6 (a + 1) (b + 1) g,jz (a + 1) (b + 1) d,zaH (a + 1) (b + 1) k]
theorem zaH (a b:Nat):∀e:List Term,(yj a e).length=(yj b e).length
 | []=> rfl
 | e::es=> by simp [yj,zeB a b e,zaH a b es]
end
theorem yP (a b:Nat) (p:Part):(zw a p).length=(zw b p).length:=by
 cases p with
 | proc t=> exact zeB a b t
 | exp t=> exact zeE a b t
 | def_ t=> exact zcA a b t
mutual
theorem zes (a b:Nat):∀e:Exp,(jV a e).map (·.1)=(jV b e).map (·.1)
 | .mk _ _ _ k=> by simp [jV,zbV (a + 1) (b + 1) k]
theorem zbV (a b:Nat):∀e:List Exp,(yG a e).map (·.1)=(yG b e).map (·.1)
 | []=> rfl
 | e::es=> by simp [yG,zes a b e,zbV a b es]
end
mutual
theorem zeU (a b:Nat):∀e:zg,(qF a e).map (·.1)=(qF b e).map (·.1)
 | .mk _ _ _ d k=> by simp [qF,zb5 (a + 1) (b + 1) d,zbX (a + 1) (b + 1) k]
theorem zb5 (a b:Nat):∀e:List zg,(qu a e).map (·.1)=(qu b e).map (·.1)
 | []=> rfl
 | e::es=> by simp [qu,zeU a b e,zb5 a b es]
theorem ze7 (a b:Nat):∀e:Term,(qL a e).map (·.1)=(qL b e).map (·.1)
 | .mk _ _ g d k=> by simp [qL,zbV (a + 1) (b + 1) g,zb5 (a + 1) (b + 1) d,zbX (a + 1) (b + 1) k]
theorem zbX (a b:Nat):∀e:List Term,(yj a e).map (·.1)=(yj b e).map (·.1)
 | []=> rfl
 | e::es=> by simp [yj,ze7 a b e,zbX a b es]
end
theorem qJ (a b:Nat) (p:Part):(zw a p).map (·.1)=(zw b p).map (·.1):=by
 cases p with
 | proc t=> exact ze7 a b t
 | exp t=> exact zes a b t
 | def_ t=> exact zeU a b t
theorem jh {lev:Nat} {p:Part} {ps:List Part} (h:p∈ps) {q:Part×Nat} (hq:q∈zw lev p):q∈zM lev ps:=List.mem_flatMap.2 ⟨p,h,hq⟩
def Part.size (p:Part):Nat:=(zw 0 p).length
theorem qi {p q:Part} (h:q∈p.parts):q.size < p.size:=by
 have e:p.size=(zw 0 p).length:=rfl;rw [e,zv]
 have:(zw 1 q).length<=(zM 1 p.parts).length:=by
  obtain ⟨a,b,e2⟩:=List.append_of_mem h;rw [e2,yX];simp [zM];omega
 rw [Part.size,yP 0 1];simp;omega
theorem xP (lev:Nat) (ps:List Part) (k:Nat) (h:k < ps.length):zM lev (ps.take (k + 1))=zM lev (ps.take k) ++ zw lev ps[k]:=by
 rw [ZT h,yX];simp [zM]
theorem zjg (a b:Nat) (ps:List Part):(zM a ps).length=(zM b ps).length:=by
 induction ps with
 | nil=> rfl
 | cons p ps ih=>
  have e:∀c,zM c (p::ps)=zw c p ++ zM c ps:=fun c=> by simp [zM]
  rw [e,e,List.length_append,List.length_append,ih,yP a b p]
theorem zci (lev:Nat) (ps:List Part) (k:Nat):(zM lev (ps.take k)).length<=(zM lev ps).length:=by
 have e:zM lev ps=zM lev (ps.take k) ++ zM lev (ps.drop k):=by rw [<-yX,List.take_append_drop]
 rw [e,List.length_append];omega
theorem zfw (p:Part) (lev:Nat):p.size=1 + (zM lev p.parts).length:=by
 rw [Part.size,zv,List.length_cons,zjg 1 lev];omega
theorem zjZ (p:Part) (lev k:Nat) (h:k < p.parts.length):1 + (zM lev (p.parts.take k)).length + (p.parts[k]).size<=p.size:=by
 rw [zfw p lev];have h1:=zci lev p.parts (k + 1);rw [xP lev p.parts k h,List.length_append,yP lev 0] at h1;unfold Part.size;omega
def Part.small:Part->Prop
 | .proc (.mk _ _ args defs kids)=> args.length<=100/\defs.length<=100/\kids.length<=100
 | .exp (.mk _ _ _ kids)=> kids.length<=100
 | .def_ (.mk _ _ joins defs kids)=> joins.length<=100/\defs.length<=100/\kids.length<=100
theorem zaP {p:Part} (h:p.small):p.parts.length<=300:=by
 cases p with
 | proc t=> obtain ⟨o,t,a,d,k⟩:=t;simp [Part.parts];have:=h.1;have:=h.2.1;have:=h.2.2;omega
 | exp t=> obtain ⟨o,n,t,k⟩:=t;simp [Part.parts];have:k.length<=100:=h;omega
 | def_ t=> obtain ⟨f,t,j,d,k⟩:=t;simp [Part.parts];have:=h.2.1;have:=h.2.2;omega
def Part.allSmall (p:Part):Prop:=∀q∈(zw 0 p).map (·.1),q.small
theorem Part.allSmall.part {p q:Part} (h:p.allSmall) (hq:q∈p.parts):q.allSmall:=by
 intro x hx;rw [qJ 0 1] at hx;refine h x ?_;rw [zv];obtain ⟨y,hy,rfl⟩:=List.mem_map.1 hx;exact List.mem_map.2 ⟨y,List.mem_cons_of_mem _ (jh hq hy),rfl⟩
def zmn (A B:Nat) (w:World) (v:Value) (vs:List Value):Prop:=
 ∃a cap,v= .slice a vs.length cap/\(vs= []∨∃b,a=some ⟨b,0,none⟩/\A<=b/\b < B/\zI w b 0 vs)
theorem zb1 {w:World} {B:Nat} {v:Value} {vs:List Value} (h:w.ownsRow B 154 1 v vs.length vs):zmn B w.heap.size w v vs:=by
 obtain ⟨_,⟨rfl,h2⟩ | ⟨g,cap,cur,rfl,hBg,hg,hn,_,hsz,htk⟩⟩:=h
 ·exact ⟨none,0,by rw [h2], .inl (List.eq_nil_of_length_eq_zero h2)⟩
 ·refine ⟨_,cap,rfl, .inr ⟨g,rfl,hBg,(ZG hg).1,fun j hj=> ?_⟩⟩
  simp only [Nat.mul_one] at htk hsz
  have e1:vs[j]=cur[j]'(by omega):=by
   have:vs[j]?=(cur.toList.take vs.length)[j]?:=by rw [htk]
   rw [List.getElem?_take_of_lt hj] at this;simpa [hj,show j < cur.size by omega] using this
  simp [World.cell?,hg,e1,show j < cur.size by omega]
theorem zjE (B:Nat) (u:World) (p:Part) (v:Value) (hs:p.small) (h:zY B u v p):
  ∃(g:Nat) (cs:List Value) (ty:TypeId),v= .iface ty (.agg cs.toArray)/\((g=216/\ty=83)∨(g=219/\ty=88)∨(g=230/\ty=191))/\
   ∀w:World,zh B u w->B<=w.heap.size->Calls Tryz.prog g #[.agg cs.toArray] w fun e w'=> ∃r vs,e= .returned r/\w'.ownsRow (w.heap.size + 1) 154 1 r vs.length vs/\ym B u vs p.parts/\Below w.heap.size w w':=by
 cases p with
 | proc t=>
  obtain ⟨o,t,a,d,k⟩:=t;obtain ⟨cs,rfl,h1,va,vd,vk,rfl,⟨aa,ca,rfl,_,ha⟩,⟨ad,cd,rfl,_,hd⟩,⟨ak,ck,rfl,_,hk⟩⟩:=h;exact ⟨216,_,83,rfl, .inl ⟨rfl,rfl⟩,fun w hu hBs=> zcX o t aa ca a ad cd d ak ck k B u w hu hBs hs.1 ha hs.2.1 hd hs.2.2 hk⟩
 | exp t=>
  obtain ⟨o,n,t,k⟩:=t;obtain ⟨cs,rfl,h1,vk,rfl,⟨ak,ck,rfl,_,hk⟩⟩:=h;exact ⟨219,_,88,rfl, .inr (.inl ⟨rfl,rfl⟩),fun w hu hBs=> zdW o n t ak ck k B u w hu hBs hs hk⟩
 | def_ t=>
  obtain ⟨f,t,j,d,k⟩:=t;obtain ⟨cs,rfl,h1,vj,vd,vk,rfl,⟨aj,cj,rfl,_,hj⟩,⟨ad,cd,rfl,_,hd⟩,⟨ak,ck,rfl,_,hk⟩⟩:=h;exact ⟨230,_,191,rfl, .inr (.inr ⟨rfl,rfl⟩),fun w hu hBs=> zdZ f t aj cj j ad cd d ak ck k B u w hu hBs hs.2.1 hd hs.2.2 hk⟩
end
section
open Go.RowKit Go.Shelf
attribute [local go_sem] Oper.semAt_some
def KpC (n0 n1:Nat) (W W':World):Prop:=W.heap.size<=W'.heap.size/\∀b o v,(b < n0∨n1<=b)->W.cell? ⟨b,o,none⟩=some v->W'.cell? ⟨b,o,none⟩=some v
theorem KpC.refl (n0 n1:Nat) (W:World):KpC n0 n1 W W:=⟨ZL _,fun _ _ _ _ h=> h⟩
theorem KpC.trans {n0 n1:Nat} {a b c:World} (h:KpC n0 n1 a b) (k:KpC n0 n1 b c):KpC n0 n1 a c:=⟨Nat.le_trans h.1 k.1,fun x o v hx hv=> k.2 x o v hx (h.2 x o v hx hv)⟩
theorem KpC.keptC {n0 n1 B:Nat} {a b:World} (h:KpC n0 n1 a b) (hB:B<=n0):zh B a b:=fun x o v hx hv=> h.2 x o v (.inl (by omega)) hv
theorem zD {W:World} {b o:Nat} {v:Value} (h:W.cell? ⟨b,o,none⟩=some v):b < W.heap.size:=by
 unfold World.cell? at h;cases hb:W.heap[b]? with
 | none=> simp [hb] at h
 | some x=> exact (ZG hb).1
theorem KpC.of_below {n0 n1:Nat} {a b:World} (h:Below a.heap.size a b):KpC n0 n1 a b:=⟨h.size,fun x o v _ hv=> (h.cell (p:=⟨x,o,none⟩) (zD hv)).trans hv⟩
theorem zj {a b:World} (h:Below a.heap.size a b):a.grownBy b none:=⟨h.os,h.tape,h.output,h.size,fun k hk _=> h.block k hk⟩
abbrev Nd (B:Nat) (u:World) (G:Part×Nat->Prop):={ x:Value×Part×Nat // zY B u x.1 x.2.1/\G x.2 }
def encN {B:Nat} {u:World} {G:Part×Nat->Prop} (x:Nd B u G):Array Value:=#[x.1.1, .int .i64 x.1.2.2]
set_option maxRecDepth 100000 in
theorem zgE (l n0 n1 N bt bw B:Nat) (u:World) (G:Part×Nat->Prop) (J Jx:List (Nd B u G)->World->Prop)
  (hB0:B<=n0) (h01:n0<=n1) (hbt:n1<=bt) (hbw:n1<=bw)
  (hJ:∀pre A W,J pre A->A.grownBy W none->J pre W)
  (hY:∀m pre (x:Nd B u G) W,J pre W->pre.length < N->YieldAt Fence.wide m Tryz.prog l (encN x) W fun e W'=>
   (e= .returned (.bool true)/\J (pre ++ [x]) W'/\KpC n0 n1 W W')∨(e= .returned (.bool false)/\Jx (pre ++ [x]) W')):
  ∀(s:Nat) (p:Part),p.size<=s->p.allSmall->∀(n lev:Nat) (v:Value) (pre:List (Nd B u G)) (W:World),(∀q∈zw lev p,G q)->lev + s<=1000->
   zY B u v p->zh B u W->n1<=W.heap.size->W.cell? ⟨bt,0,none⟩=some (.func (.yield l) #[] #[])->
   W.cell? ⟨bw,0,none⟩=some (.func (.func 158) #[] #[.pointer (some ⟨bt,0,none⟩), .pointer (some ⟨bw,0,none⟩)])->J pre W->pre.length + p.size<=N->
   CallsIn Fence.wide n Tryz.prog 158 #[v, .int .i64 lev, .pointer (some ⟨bt,0,none⟩), .pointer (some ⟨bw,0,none⟩)] W fun e W'=>
    (e= .returned (.bool true)/\∃xs:List (Nd B u G),xs.map (fun x=> x.1.2)=zw lev p/\J (pre ++ xs) W'/\KpC n0 n1 W W')∨(e= .returned (.bool false)/\∃q,Jx q W'):=by
 intro s
 induction s with
 | zero=> intro p hp;exact absurd (by rw [Part.size,zv];simp) (Nat.not_lt.2 hp)
 | succ s ih=>
  intro p hps hsm n lev v pre W hG hlev hv hu hn1 ct cw hJp hN;have hps1:p.small:=hsm p (by rw [zv];simp);have hGp:G (p,lev):=hG _ (by rw [zv];simp);have hsz1:1<=p.size:=by rw [Part.size,zv];simp
  obtain ⟨fn,tmps,assign,body,hy,hR⟩:=hY (n - 1) pre ⟨(v,p,lev),hv,hGp⟩ W hJp (by omega);dsimp only [encN] at hy;obtain ⟨g,cs,ty,rfl,hgt,hparts⟩:=zjE B u p v hps1 hv;have hdd:∀k:Nat,(Fence.wide.depth.isSome=true->1<=k):=fun k h=> by cases h
  refine callsIn_of_wp Tryz.func158 rfl trivial ?_ rfl;simp only [Tryz.ntmps158,List.size_toArray,List.length_cons,List.length_nil,Nat.reduceAdd,Nat.reduceSub,Array.replicate_succ,Array.replicate_zero,List.push_toArray,List.append_toArray,List.nil_append,List.cons_append]
  have hmm:∀W,(method 347 ty (.agg cs.toArray) "cabotage/term.parts").run Tryz.prog W= .ok (g, .agg cs.toArray) W:=by
   rcases hgt with ⟨rfl,rfl⟩ | ⟨rfl,rfl⟩ | ⟨rfl,rfl⟩ <;> exact fun W=> by kernel_rfl
  have hcf:∀args w,(callFunc g args).run Tryz.prog w= .ok (.enter g args) w:=by
   rcases hgt with ⟨rfl,rfl⟩ | ⟨rfl,rfl⟩ | ⟨rfl,rfl⟩
   ·exact enters_of Tryz.func216 (by kernel_rfl) rfl
   ·exact enters_of Tryz.func219 (by kernel_rfl) rfl
   ·exact enters_of Tryz.func230 (by kernel_rfl) rfl
  gi_wp2_with (first
   | ((try refine ⟨hdd _,?_⟩);refine hR.mono ?_;clear hR;rintro e W1 (⟨rfl,hJ1,hk1⟩ | ⟨rfl,hx1⟩))
   | (refine ⟨trivial,hdd _,?_⟩;refine (callsIn_wide.2 (hparts W1 (hu.trans (hk1.keptC hB0)) (by have:=hk1.1;omega))).mono ?_;clear hparts;rintro e W2 ⟨r,vs,rfl,hrow,hpsv,hb2⟩;obtain ⟨ra,rcap,rfl,hra⟩:=zb1 hrow;have hlen:=ZH hpsv.1))
  ·obtain ⟨x0,hx0⟩:∃x:Nd B u G,x=⟨(_,p,lev),hv,hGp⟩:=⟨_,rfl⟩
   have hJ1':J (pre ++ [x0]) W1:=by rw [hx0];exact hJ1
   have hx0':x0.1.2=(p,lev):=by rw [hx0]
   clear hJ1 hx0;have hJ2:=hJ _ _ _ hJ1' (zj hb2);have hk2:KpC n0 n1 W W2:=hk1.trans (KpC.of_below hb2);have hsz1:=hk2.1;have HX:=ZH hx0';have hvl:vs.length<=300:=by have:=zaP hps1;have:=hlen.out;omega
   clear hx0' hJ1' hsz1
   gi_loopw [17] (fun i wr=> ∃(k:Nat) (xs:List (Nd B u G)),k<=vs.length/\i= .int .i64 k/\Hid (xs.map (fun x=> x.1.2)=zM (lev + 1) (p.parts.take k))/\J (pre ++ [x0] ++ xs) wr/\KpC n0 n1 W2 wr) (fun i _=> vs.length - (intOf i).toNat)
   case atStart=> exact ⟨0, [],by omega,rfl,ZH (by simp [zM]),by simpa using hJ2,KpC.refl _ _ _⟩
   case round=>
    obtain ⟨k,xs,hk',rfl,hxs,hJr,hkr⟩:=hrel;have hkW:KpC n0 n1 W wr:=hk2.trans hkr;have ctr:=hkW.2 _ _ _ (.inr hbt) ct;have cwr:=hkW.2 _ _ _ (.inr hbw) cw;by_cases hlt:k < vs.length
    ·have hlt':k < p.parts.length:=by have:=hlen.out;omega
     rcases hra with rfl | ⟨b,rfl,hbA,hbB,hcl⟩
     ·simp at hlt
     have hcell:=hkr.2 _ _ _ (.inr (by have:=hk1.1;omega)) (hcl k hlt);have hq:=hpsv.2.2 k hlt hlt';have hqs:=qi (ZM hlt');have hroom:=zjZ p (lev + 1) k hlt';have hxl:xs.length=(zM (lev + 1) (p.parts.take k)).length:=by rw [<-hxs.out,List.length_map]
     have hnx:pre.length + 1 + xs.length + (p.parts[k]).size<=N:=by omega
     have ihk:=ih (p.parts[k]) (by omega) (hsm.part (ZM hlt')) (n - 1) (lev + 1) vs[k] (pre ++ [x0] ++ xs) wr
      (fun q hq=> hG q (by rw [zv];exact List.mem_cons_of_mem _ (jh (ZM hlt') hq))) (by omega) hq (hu.trans (hkW.keptC hB0)) (by have:=hkW.1;omega) ctr cwr hJr (by simp;omega)
     simp only [Nat.zero_add] at hcell;rw [show (((lev + 1:Nat)):Int)=(lev:Int) + 1 from by omega] at ihk;have htk:=ZH (xP (lev + 1) p.parts k hlt');clear hroom hxl hnx hqs
     gi_wp2_with (first
      | (refine ⟨trivial,hdd _,?_⟩;refine ihk.mono ?_;clear ihk;rintro e W3 (⟨rfl,ys,hys,hJ3,hk3⟩ | ⟨rfl,q,hx3⟩);have HYS:=ZH hys;clear hys))
     ·go_roundw
      case rel=> exact ⟨k + 1,xs ++ ys,by omega,by go_num,ZH (by rw [htk.out,List.map_append,hxs.out,HYS.out]),by simpa [List.append_assoc] using hJ3,hkr.trans hk3⟩
      case measure=> simp [intOf];omega
     ·go_ret
      exact .inr ⟨rfl,_,hx3⟩
    ·have hk2':k=p.parts.length:=by have:=hlen.out;omega
     have hxs':xs.map (fun x=> x.1.2)=zM (lev + 1) p.parts:=by rw [hxs.out,hk2',List.take_length]
     have HXS:=ZH hxs';clear hxs' hk2'
     gi_wp2
     go_ret;exact .inl ⟨rfl,x0::xs,by rw [List.map_cons,HX.out,HXS.out,zv],by simpa [List.append_assoc] using hJr,hk2.trans hkr⟩
  ·go_ret
   exact .inr ⟨rfl,_,hx1⟩
end
end Go.Proofs.YtjmlaeofjjhfmaaGreat
