/- Lemmas. -/
import Derived.Test.YtjmlaeofjjhfmaaGreatRows
import Derived.WalkKit
import Derived.WalkSpells
import Derived.WalkLawsBesides
import Derived.Deep.QuietTactic
import Derived.BigQuiet
import Derived.Lib.Hide
import Derived.Maps.OwnSet
import Derived.Maps.StringElems
import Derived.Outline
import Derived.Test.YtjmlaeofjjhfmaaGreatSZZ
set_option linter.unusedVariables false
set_option linter.unusedSimpArgs false
set_option maxRecDepth 10000
set_option maxHeartbeats 16000000
namespace Go.Proofs.YtjmlaeofjjhfmaaGreat
section
open Go.RowKit
def hasB (ss:List ByteArray) (s:ByteArray):Bool:=ss.any (fun x=> x.toList==s.toList)
theorem zkR (ss:List ByteArray) (k:Nat) (s:ByteArray) (h:k < ss.length):hasB (ss.take (k + 1)) s=(hasB (ss.take k) s || ((ss[k]).toList==s.toList)):=by
 unfold hasB;rw [ZT h,List.any_append];simp
theorem zm0 (ss:List ByteArray) (k:Nat) (s:ByteArray) (h:k < ss.length) (e:((ss[k]).toList==s.toList)=true):hasB ss s=true:=by
 unfold hasB;rw [List.any_eq_true];exact ⟨ss[k],ZM h,e⟩
def zbw (w:World) (b off:Nat) (ss:List ByteArray):Prop:=∀j,(h:j < ss.length)->w.cell? ⟨b,off + j,none⟩=some (.string ss[j])
def zx (B:Nat) (w:World) (v:Value) (ss:List ByteArray):Prop:=
 ∃a cap,v= .slice a ss.length cap/\ss.length<=9223372036854775807/\(∀s∈ss,s.size<=maxLen)/\(a=none->cap=0)/\(ss= []∨∃b off,a=some ⟨b,off,none⟩/\b < B/\zbw w b off ss)
theorem zx.below {B:Nat} {w w':World} {v:Value} {ss:List ByteArray} (h:zx B w v ss) (hb:Below B w w'):zx B w' v ss:=by
 obtain ⟨a,cap,rfl,hl,hz,hcap,h⟩:=h;refine ⟨a,cap,rfl,hl,hz,hcap,?_⟩;rcases h with h | ⟨b,off,rfl,hB,hc⟩
 ·exact .inl h
 ·exact .inr ⟨b,off,rfl,hB,fun j hj=> (hb.cell (p:=⟨b,off + j,none⟩) hB).trans (hc j hj)⟩
theorem zx.mono {B B':Nat} {w:World} {v:Value} {ss:List ByteArray} (h:zx B w v ss) (hb:B<=B'):zx B' w v ss:=by
 obtain ⟨a,cap,rfl,hl,hz,hcap,h⟩:=h;refine ⟨a,cap,rfl,hl,hz,hcap,?_⟩;rcases h with h | ⟨b,off,rfl,hB,hc⟩
 ·exact .inl h
 ·exact .inr ⟨b,off,rfl,by omega,hc⟩
theorem zjU (b off cap:Nat) (ss:List ByteArray) (s:ByteArray) (w:World) (hbig:ss.length<=9223372036854775807) (hc:zbw w b off ss):
  Calls Tryz.prog 36 #[.slice (some ⟨b,off,none⟩) ss.length cap, .string s] w fun e w'=> e= .returned (.bool (hasB ss s))/\w'=w:=by
 go_enter Tryz.func36,Tryz.ntmps36;go_wp2
 go_loop [5] (fun i=> ∃k:Nat,k<=ss.length/\i= .int .i64 k/\hasB (ss.take k) s=false) (fun i=> ss.length - (intOf i).toNat)
 case atStart=> exact ⟨0,by omega,rfl,rfl⟩
 case round=>
  obtain ⟨k,hk,rfl,hf⟩:=hrel;have HF:=ZH hf;clear hf;by_cases hlt:k < ss.length
  ·have hcell:=hc k hlt
   by_cases he:((ss[k]).toList==s.toList)=true
   ·have hF:=ZH (zm0 ss k s hlt he)
    go_wp2;go_ret;exact ⟨by rw [hF.out];rfl,rfl⟩
   ·have he':((ss[k]).toList==s.toList)=false:=by simpa using he
    have hF:=ZH (zkR ss k s hlt);go_wp2
    go_round
    case rel=> exact ⟨k + 1,by omega,by go_num,by rw [hF.out,HF.out,he'];rfl⟩
    case measure=> simp [intOf];omega
  ·obtain rfl:k=ss.length:=by omega
   go_wp2;go_ret;exact ⟨by have:=HF.out;rw [List.take_length] at this;rw [this];rfl,rfl⟩
theorem zlk (a:Option Addr) (cap:Nat) (s:ByteArray) (w:World):
  Calls Tryz.prog 36 #[.slice a 0 cap, .string s] w fun e w'=> e= .returned (.bool false)/\w'=w:=by
 go_enter Tryz.func36,Tryz.ntmps36;go_wp2;refine wp_loop_rounds 1 ?_;rw [rounds_succ];go_wp2;go_ret;exact ⟨rfl,rfl⟩
theorem zay (B:Nat) (v:Value) (ss:List ByteArray) (s:ByteArray) (w:World) (h:zx B w v ss):
  Calls Tryz.prog 36 #[v, .string s] w fun e w'=> e= .returned (.bool (hasB ss s))/\w'=w:=by
 obtain ⟨a,cap,rfl,hl,hz,hcap,h⟩:=h;rcases h with rfl | ⟨b,off,rfl,hB,hc⟩
 ·exact zlk a cap s w
 ·exact zjU b off cap ss s w hl hc
def eqL (a b:ByteArray):Bool:=a.toList==b.toList
def j3 (a b:List ByteArray):Bool:=a.length==b.length && (a.zip b).all (fun p=> eqL p.1 p.2)
def zaf (l:List UInt8):Bool:=l.all (fun c=> 97<=c.toNat && c.toNat<=122)
def yJ (s:ByteArray):Bool:=zaf s.data.toList && decide (1<=s.size) && decide (s.size<=8)
theorem zdU (s:ByteArray) (k:Nat) (h:k < s.size):zaf (s.data.toList.take (k + 1))=(zaf (s.data.toList.take k) && (decide (97<=s[k].toNat) && decide (s[k].toNat<=122))):=by
 unfold zaf;rw [ZT (by simpa using h),List.all_append];simp;rfl
theorem za9 (s:ByteArray) (k:Nat) (h:k < s.size) (e:¬(97<=s[k].toNat/\s[k].toNat<=122)):yJ s=false:=by
 unfold yJ zaf
 have:(s.data.toList.all (fun c=> decide (97<=c.toNat) && decide (c.toNat<=122)))=false:=by
  rw [List.all_eq_false];refine ⟨s[k],?_,?_⟩
  ·have:s[k]=s.data.toList[k]'(by simpa using h):=rfl
   rw [this];exact ZM _
  ·simp;omega
 rw [this];rfl
theorem zf7 (s:ByteArray) (w:World) (hs:s.size<=9223372036854775807):
  Calls Tryz.prog 53 #[.string s] w fun e w'=> e= .returned (.bool (yJ s))/\w'=w:=by
 go_enter Tryz.func53,Tryz.ntmps53;go_wp2
 go_loop [6] (fun i=> ∃k:Nat,k<=s.size/\i= .int .i64 k/\zaf (s.data.toList.take k)=true) (fun i=> s.size - (intOf i).toNat)
 case atStart=> exact ⟨0,by omega,rfl,rfl⟩
 case round=>
  obtain ⟨k,hk,rfl,hf⟩:=hrel;have HF:=ZH hf;clear hf;by_cases hlt:k < s.size
  ·by_cases h1:s[k].toNat < 97
   ·have hF:=ZH (za9 s k hlt (by omega))
    have h1':((s[k].toNat:Int) < 97):=by omega
    go_wp2;go_ret;exact ⟨by rw [hF.out];rfl,rfl⟩
   ·by_cases h2:122 < s[k].toNat
    ·have hF:=ZH (za9 s k hlt (by omega))
     have h1':¬((s[k].toNat:Int) < 97):=by omega
     have h2':(122 < (s[k].toNat:Int)):=by omega
     go_wp2;go_ret;exact ⟨by rw [hF.out];rfl,rfl⟩
    ·have hF:=ZH (zdU s k hlt)
     have h1':¬((s[k].toNat:Int) < 97):=by omega
     have h2':¬(122 < (s[k].toNat:Int)):=by omega
     go_wp2
     go_round
     case rel=> exact ⟨k + 1,by omega,by go_num,by rw [hF.out,HF.out];simp;omega⟩
     case measure=> simp [intOf];omega
  ·obtain rfl:k=s.size:=by omega
   have hl:=HF.out;rw [List.take_of_length_le (by simp)] at hl;have HL:=ZH hl;clear hl;by_cases h1:1<=s.size
   ·by_cases h2:s.size<=8
    ·have hF:Hid (yJ s=true):=ZH (by unfold yJ;rw [HL.out];simp;omega)
     go_wp2;go_ret;exact ⟨by rw [hF.out];show Ending.returned (.bool (decide ((s.size:Int)<=8)))=_;rw [decide_eq_true (by omega)],rfl⟩
    ·have hF:Hid (yJ s=false):=ZH (by unfold yJ;rw [HL.out];simp;omega)
     go_wp2;go_ret;exact ⟨by rw [hF.out];show Ending.returned (.bool (decide ((s.size:Int)<=8)))=_;rw [decide_eq_false (by omega)],rfl⟩
   ·have hF:Hid (yJ s=false):=ZH (by unfold yJ;rw [HL.out];simp;omega)
    go_wp2;go_ret;exact ⟨by rw [hF.out];rfl,rfl⟩
end
section
open Go.RowKit Go.Maps Go.WideMaps
theorem zny:(Tryz.prog.info? 4).map (fun i=> (i.zero,i.size,i.bytes))=some (some (.bool false),1,1):=by kernel_rfl
def qK (w:World) (b n:Nat) (acc:List (List UInt8)):Prop:=
 w.ownsMap (H:=Unit) Tryz.prog 9 (plainElem Tryz.prog 4) b n (setOf (.lit (.bool true)) (acc.map Lit.string))
theorem zk0 (acc:List (List UInt8)):∀x∈acc.map Lit.string,WideAt.IsKeyLit x:=by
 intro x hx;obtain ⟨y,_,rfl⟩:=List.mem_map.1 hx;simp [WideAt.IsKeyLit]
def zF (acc:List (List UInt8)) (k:List UInt8):Bool:=acc.any (fun x=> x==k)
theorem ziW (k:List UInt8):∀(acc:List (List UInt8)) (D:DataW Unit) (_:IsMap D),
  ((acc.map Lit.string).foldl (fun m x=> m.put x (.lit (.bool true))) D).atKey (.string k) (.lit (.bool false))=if zF acc k then .lit (.bool true) else D.atKey (.string k) (.lit (.bool false)):=by
 intro acc
 induction acc with
 | nil=> intro D _;simp [zF]
 | cons a acc ih=>
  intro D hD;rw [List.map_cons,List.foldl_cons,ih _ (by obtain ⟨es,rfl⟩:=hD;exact ⟨_,rfl⟩)];by_cases h1:zF acc k=true
  ·have:zF (a::acc) k=true:=by simp only [zF,List.any_cons] at h1 ⊢;rw [h1];simp
   rw [if_pos h1,if_pos this]
  ·by_cases h2:a=k
   ·subst h2
    have:zF (a::acc) a=true:=by simp [zF]
    rw [if_neg h1,if_pos this,atKey_put_same hD (by simp [WideAt.IsKeyLit])]
   ·have:¬zF (a::acc) k=true:=by
     simp only [zF,List.any_cons] at h1 ⊢;simp [h2] at h1 ⊢;exact h1
    rw [if_neg h1,if_neg this,atKey_put_other (by simp;exact fun e=> h2 e.symm)]
theorem zhJ (acc:List (List UInt8)) (k:List UInt8):(setOf (H:=Unit) (.lit (.bool true)) (acc.map Lit.string)).atKey (.string k) (.lit (.bool false))= .lit (.bool (zF acc k)):=by
 unfold setOf;rw [ziW k acc _ ⟨[],rfl⟩];cases zF acc k <;> simp [DataW.atKey]
theorem zaV {H:Type} {P:Program} {e:TypeId} (he:P.underlying e=some .bool) {v:Value} {z:DataW H×List MemPlace} (h:plainElem P e v=some z):∃a,v= .bool a/\z=(.lit (.bool a), []):=by
 unfold plainElem at h;rw [he] at h;cases v <;> simp at h;exact ⟨_,rfl,h.symm⟩
theorem zmi (w:World):(zeroValue 4).run Tryz.prog w= .ok (.bool false) w:=by
 obtain ⟨i0,hi,hz0,hz1,hz2⟩:=info_parts zny;simp [zeroValue,typeInfo,hi,hz0]
theorem qK.look {w:World} {b n:Nat} {acc:List (List UInt8)} (h:qK w b n acc) {k:ByteArray} (hk:k.size<=maxLen):
  (Instr.lookup 70 (.map (some b)) (.string k) false).run Tryz.prog w= .ok (.bool (zF acc k.data.toList)) w:=by
 obtain ⟨v,ps,hrun,hv⟩:=World.ownsMap.lookup h (string_keyed Tryz.underlying9) Tryz.underlying70 (zmi w) (plainElem_bool Tryz.underlying4 false) (keyOf_string_mk Tryz.underlying9 hk);obtain ⟨a,rfl,ha⟩:=zaV Tryz.underlying4 hv;rw [zhJ] at ha;simp only [Prod.mk.injEq,DataW.lit.injEq,Lit.bool.injEq] at ha;rw [hrun,<-ha.1]
theorem qK.put {w:World} {b n:Nat} {acc:List (List UInt8)} (h:qK w b n acc) (hn:n < maxLen) {k:ByteArray} (hk:k.size<=maxLen):
  ∃w',(Instr.mapUpdate 70 (.map (some b)) (.string k) (.bool true)).run Tryz.prog w= .ok () w'/\qK w' b (n + 1) (acc ++ [k.data.toList])/\w.grownBy w' (some b):=by
 obtain ⟨w',h1,h2,h3⟩:=World.ownsMap.update h (string_keyed Tryz.underlying9) Tryz.underlying70 hn (keyOf_string_mk Tryz.underlying9 hk) (plainElem_bool Tryz.underlying4 true);refine ⟨w',h1,?_,h3⟩;unfold qK;rw [List.map_append];exact (setOf_snoc _ _ _)▸h2
theorem qK.made (w:World):qK (w.alloc (.map #[] 0)) w.heap.size 0 []:=World.ownsMap_made _ _ _ _
theorem qK.lt {w:World} {b n:Nat} {acc:List (List UInt8)} (h:qK w b n acc):b < w.heap.size:=World.ownsMap.lt h
theorem qK.kept {w w':World} {b n:Nat} {acc:List (List UInt8)} {row:Option Nat} (h:qK w b n acc) (hg:w.grownBy w' row) (hne:some b≠row):qK w' b n acc:=World.ownsMap.kept h hg hne
theorem qK.below {w w':World} {B b n:Nat} {acc:List (List UInt8)} (h:qK w b n acc) (hB:Below B w w') (hb:b < B):qK w' b n acc:=by
 obtain ⟨es,clock,h1,h2⟩:=h;exact ⟨es,clock,(hB.block b hb).trans h1,h2⟩
def jR:List (List UInt8):= [[97,110,100], [100,101,102], [101,108,115,101], [103,111], [105,102], [105,110], [112,108,97,99,101], [115,116,111,112], [116,104,101,110], [119,97,116,99,104]]
end
section
open Go.RowKit
theorem zbC (w:World):
  Calls Tryz.prog 54 #[] w fun e w'=> e= .returned (.map (some w.heap.size))/\qK w' w.heap.size 10 jR/\Below w.heap.size w w':=by
 have hmm:=@run_makeMap Tryz.prog;have s0:=qK.made w;have b0:Below w.heap.size w (w.alloc (.map #[] 0)):=ZQ w _;obtain ⟨w1,r1,s1,g1⟩:=s0.put (by unfold maxLen;omega) (k:=⟨#[97,110,100]⟩) (by decide);have b1:=b0.grown g1 b0.size (fun k e=> by cases e;exact ZL _);obtain ⟨w2,r2,s2,g2⟩:=s1.put (by unfold maxLen;omega) (k:=⟨#[100,101,102]⟩) (by decide);have b2:=b1.grown g2 b1.size (fun k e=> by cases e;exact ZL _);obtain ⟨w3,r3,s3,g3⟩:=s2.put (by unfold maxLen;omega) (k:=⟨#[101,108,115,101]⟩) (by decide);have b3:=b2.grown g3 b2.size (fun k e=> by cases e;exact ZL _);obtain ⟨w4,r4,s4,g4⟩:=s3.put (by unfold maxLen;omega) (k:=⟨#[103,111]⟩) (by decide);have b4:=b3.grown g4 b3.size (fun k e=> by cases e;exact ZL _);obtain ⟨w5,r5,s5,g5⟩:=s4.put (by unfold maxLen;omega) (k:=⟨#[105,102]⟩) (by decide);have b5:=b4.grown g5 b4.size (fun k e=> by cases e;exact ZL _);obtain ⟨w6,r6,s6,g6⟩:=s5.put (by unfold maxLen;omega) (k:=⟨#[105,110]⟩) (by decide);have b6:=b5.grown g6 b5.size (fun k e=> by cases e;exact ZL _);obtain ⟨w7,r7,s7,g7⟩:=s6.put (by unfold maxLen;omega) (k:=⟨#[112,108,97,99,101]⟩) (by decide);have b7:=b6.grown g7 b6.size (fun k e=> by cases e;exact ZL _);obtain ⟨w8,r8,s8,g8⟩:=s7.put (by unfold maxLen;omega) (k:=⟨#[115,116,111,112]⟩) (by decide);have b8:=b7.grown g8 b7.size (fun k e=> by cases e;exact ZL _);obtain ⟨w9,r9,s9,g9⟩:=s8.put (by unfold maxLen;omega) (k:=⟨#[116,104,101,110]⟩) (by decide);have b9:=b8.grown g9 b8.size (fun k e=> by cases e;exact ZL _);obtain ⟨w10,r10,s10,g10⟩:=s9.put (by unfold maxLen;omega) (k:=⟨#[119,97,116,99,104]⟩) (by decide);have b10:=b9.grown g10 b9.size (fun k e=> by cases e;exact ZL _);go_enter Tryz.func54,Tryz.ntmps54;go_wp2;go_ret;exact ⟨rfl,s10,b10⟩
def qn (s:ByteArray):Bool:=yJ s && !zF jR s.data.toList
theorem j4 (s:ByteArray) (w:World) (hs:s.size<=maxLen):
  Calls Tryz.prog 16 #[.string s] w fun e w'=> e= .returned (.bool (qn s))/\Below w.heap.size w w':=by
 have hs':=hs;unfold maxLen at hs';by_cases h1:yJ s=true
 ·go_enter Tryz.func16,Tryz.ntmps16
  go_wp2_with (first
   | (go_at_call 53;refine (zf7 _ _ hs').mono ?_;rintro e w' ⟨rfl,rfl⟩)
   | (go_at_call 54;refine (zbC _).mono ?_;rintro e w1 ⟨rfl,hk,hb⟩;have hl:=hk.look hs))
  go_ret;exact ⟨by unfold qn;rw [h1];rfl,hb⟩
 ·have h1':yJ s=false:=by simpa using h1
  clear h1;go_enter Tryz.func16,Tryz.ntmps16
  go_wp2_with (first
   | (go_at_call 53;refine (zf7 _ _ hs').mono ?_;rintro e w' ⟨rfl,rfl⟩)
   | (go_at_call 54;refine (zbC _).mono ?_;rintro e w1 ⟨rfl,hk,hb⟩;have hl:=hk.look hs))
  go_ret;exact ⟨by unfold qn;rw [h1'];rfl,ZF _ _⟩
def zb (s:ByteArray):List UInt8:=s.data.toList
theorem zcR (ss:List ByteArray) (k:Nat) (h:k < ss.length):(ss.take (k + 1)).map zb=(ss.take k).map zb ++ [zb ss[k]]:=by
 rw [ZT h,List.map_append];rfl
theorem zh0 (b off cap:Nat) (ss:List ByteArray) (w:World) (hbig:ss.length<=9223372036854775807) (hz:∀s∈ss,s.size<=maxLen) (hb:b < w.heap.size) (hc:zbw w b off ss):
  Calls Tryz.prog 57 #[.slice (some ⟨b,off,none⟩) ss.length cap] w fun e w'=> e= .returned (.map (some w.heap.size))/\qK w' w.heap.size ss.length (ss.map zb)/\Below w.heap.size w w':=by
 have hmm:=@run_makeMap Tryz.prog;have s0:=qK.made w;have b0:Below w.heap.size w (w.alloc (.map #[] 0)):=ZQ w _;go_enter Tryz.func57,Tryz.ntmps57;go_wp2
 go_loopw [9] (fun i wr=> ∃k:Nat,k<=ss.length/\i= .int .i64 k/\qK wr w.heap.size k ((ss.take k).map zb)/\Below w.heap.size w wr) (fun i _=> ss.length - (intOf i).toNat)
 case atStart=> exact ⟨0,by omega,rfl,s0,b0⟩
 case round=>
  obtain ⟨k,hk,rfl,hs,hbl⟩:=hrel;by_cases hlt:k < ss.length
  ·have hcell:=(hbl.cell (p:=⟨b,off + k,none⟩) hb).trans (hc k hlt)
   obtain ⟨w1,r1,s1,g1⟩:=hs.put (by unfold maxLen;omega) (hz ss[k] (ZM hlt));have b1:=hbl.grown g1 hbl.size (fun k e=> by cases e;exact ZL _);go_wp2;go_roundw
   case rel=> exact ⟨k + 1,by omega,by go_num,by rw [zcR ss k hlt];exact s1,b1⟩
   case measure=> simp [intOf];omega
  ·obtain rfl:k=ss.length:=by omega
   rw [List.take_length] at hs;go_wp2;go_ret;exact ⟨rfl,hs,hbl⟩
theorem zjk (a:Option Addr) (cap:Nat) (w:World):
  Calls Tryz.prog 57 #[.slice a 0 cap] w fun e w'=> e= .returned (.map (some w.heap.size))/\qK w' w.heap.size 0 []/\Below w.heap.size w w':=by
 have hmm:=@run_makeMap Tryz.prog;have s0:=qK.made w;have b0:Below w.heap.size w (w.alloc (.map #[] 0)):=ZQ w _;go_enter Tryz.func57,Tryz.ntmps57;go_wp2;refine wp_loop_rounds 1 ?_;rw [rounds_succ];go_wp2;go_ret;exact ⟨rfl,s0,b0⟩
theorem zgg (v:Value) (ss:List ByteArray) (w:World) (h:zx w.heap.size w v ss):
  Calls Tryz.prog 57 #[v] w fun e w'=> e= .returned (.map (some w.heap.size))/\qK w' w.heap.size ss.length (ss.map zb)/\Below w.heap.size w w':=by
 obtain ⟨a,cap,rfl,hl,hz,hcap,h⟩:=h;rcases h with rfl | ⟨b,off,rfl,hB,hc⟩
 ·exact zjk a cap w
 ·exact zh0 b off cap ss w hl hz hB hc
inductive Exp where | mk (op n:Int) (text:ByteArray) (kids:List Exp)
structure Msg where
 text:ByteArray
 names:List ByteArray
mutual
inductive zg where | mk (form:Int) (text:ByteArray) (joins:List Msg) (defs:List zg) (kids:List Term)
inductive Term where | mk (op:Int) (text:ByteArray) (args:List Exp) (defs:List zg) (kids:List Term)
end
def zI (w:World) (b off:Nat) (cs:List Value):Prop:=∀j,(h:j < cs.length)->w.cell? ⟨b,off + j,none⟩=some cs[j]
def SlAt (B:Nat) (v:Value) (n:Nat) (P:Nat->Nat->Prop):Prop:=
 ∃a cap,v= .slice a n cap/\n<=9223372036854775807/\(n=0∨∃b off,a=some ⟨b,off,none⟩/\b < B/\P b off)
mutual
def zy (B:Nat) (w:World):List Value->Exp->Prop
 | cs, .mk op n text kids=> text.size<=maxLen/\∃v,cs= [.int .i64 op, .int .i64 n, .string text,v]/\SlAt B v kids.length (fun b off=> zW B w b off kids)
def zW (B:Nat) (w:World):Nat->Nat->List Exp->Prop
 | _,_, []=> True
 | b,off,e::es=> (∃cs,zI w b off cs/\zy B w cs e)/\zW B w b (off + 4) es
end
def yK (B:Nat) (w:World) (cs:List Value) (m:Msg):Prop:=
 m.text.size<=maxLen/\∃v,cs= [.string m.text,v]/\zx B w v m.names
def zX (B:Nat) (w:World):Nat->Nat->List Msg->Prop
 | _,_, []=> True
 | b,off,e::es=> (∃cs,zI w b off cs/\yK B w cs e)/\zX B w b (off + 2) es
mutual
def zo (B:Nat) (w:World):List Value->zg->Prop
 | cs, .mk form text joins defs kids=> text.size<=maxLen/\∃vj vd vk,cs= [.int .i64 form, .string text,vj,vd,vk]/\
   SlAt B vj joins.length (fun b off=> zX B w b off joins)/\SlAt B vd defs.length (fun b off=> zr B w b off defs)/\SlAt B vk kids.length (fun b off=> zu B w b off kids)
def zr (B:Nat) (w:World):Nat->Nat->List zg->Prop
 | _,_, []=> True
 | b,off,e::es=> (∃cs,zI w b off cs/\zo B w cs e)/\zr B w b (off + 5) es
def ze (B:Nat) (w:World):List Value->Term->Prop
 | cs, .mk op text args defs kids=> text.size<=maxLen/\∃va vd vk,cs= [.int .i64 op, .string text,va,vd,vk]/\
   SlAt B va args.length (fun b off=> zW B w b off args)/\SlAt B vd defs.length (fun b off=> zr B w b off defs)/\SlAt B vk kids.length (fun b off=> zu B w b off kids)
def zu (B:Nat) (w:World):Nat->Nat->List Term->Prop
 | _,_, []=> True
 | b,off,e::es=> (∃cs,zI w b off cs/\ze B w cs e)/\zu B w b (off + 5) es
end
theorem zI.below {B:Nat} {w w':World} {b off:Nat} {cs:List Value} (h:zI w b off cs) (hb:Below B w w') (hB:b < B):zI w' b off cs:=
 fun j hj=> (hb.cell (p:=⟨b,off + j,none⟩) hB).trans (h j hj)
theorem SlAt.imp {B B':Nat} {v:Value} {n:Nat} {P Q:Nat->Nat->Prop} (h:SlAt B v n P) (hB:B<=B') (hPQ:∀b off,b < B->P b off->Q b off):SlAt B' v n Q:=by
 obtain ⟨a,cap,rfl,hl,h⟩:=h;refine ⟨a,cap,rfl,hl,?_⟩;rcases h with h | ⟨b,off,rfl,hb,hp⟩
 ·exact .inl h
 ·exact .inr ⟨b,off,rfl,by omega,hPQ b off hb hp⟩
mutual
theorem zy.below {B B':Nat} {w w':World} (hb:Below B w w') (hB:B<=B'):∀(e:Exp) (cs:List Value),zy B w cs e->zy B' w' cs e
 | .mk _ _ _ kids,_,⟨h1,v,h2,h3⟩=> ⟨h1,v,h2,h3.imp hB (fun b off hbB hp=> zW.below hb hB kids b off hbB hp)⟩
theorem zW.below {B B':Nat} {w w':World} (hb:Below B w w') (hB:B<=B'):∀(es:List Exp) (b off:Nat),b < B->zW B w b off es->zW B' w' b off es
 | [],_,_,_,_=> trivial
 | e::es,b,off,hbB,⟨⟨cs,h1,h2⟩,h3⟩=> ⟨⟨cs,h1.below hb hbB,zy.below hb hB e cs h2⟩,zW.below hb hB es b (off + 4) hbB h3⟩
end
theorem zX.below {B B':Nat} {w w':World} (hb:Below B w w') (hB:B<=B'):∀(es:List Msg) (b off:Nat),b < B->zX B w b off es->zX B' w' b off es
 | [],_,_,_,_=> trivial
 | _::es,b,off,hbB,⟨⟨cs,h1,h2,v,h4,h5⟩,h3⟩=> ⟨⟨cs,h1.below hb hbB,h2,v,h4,(h5.below hb).mono hB⟩,zX.below hb hB es b (off + 2) hbB h3⟩
mutual
theorem zo.below {B B':Nat} {w w':World} (hb:Below B w w') (hB:B<=B'):∀(e:zg) (cs:List Value),zo B w cs e->zo B' w' cs e
 | .mk _ _ joins defs kids,_,⟨h1,vj,vd,vk,h2,h3,h4,h5⟩=> ⟨h1,vj,vd,vk,h2,h3.imp hB (fun b off hbB hp=> zX.below hb hB joins b off hbB hp),
   h4.imp hB (fun b off hbB hp=> zr.below hb hB defs b off hbB hp),h5.imp hB (fun b off hbB hp=> zu.below hb hB kids b off hbB hp)⟩
theorem zr.below {B B':Nat} {w w':World} (hb:Below B w w') (hB:B<=B'):∀(es:List zg) (b off:Nat),b < B->zr B w b off es->zr B' w' b off es
 | [],_,_,_,_=> trivial
 | e::es,b,off,hbB,⟨⟨cs,h1,h2⟩,h3⟩=> ⟨⟨cs,h1.below hb hbB,zo.below hb hB e cs h2⟩,zr.below hb hB es b (off + 5) hbB h3⟩
theorem ze.below {B B':Nat} {w w':World} (hb:Below B w w') (hB:B<=B'):∀(e:Term) (cs:List Value),ze B w cs e->ze B' w' cs e
 | .mk _ _ args defs kids,_,⟨h1,va,vd,vk,h2,h3,h4,h5⟩=> ⟨h1,va,vd,vk,h2,h3.imp hB (fun b off hbB hp=> zW.below hb hB args b off hbB hp),
   h4.imp hB (fun b off hbB hp=> zr.below hb hB defs b off hbB hp),h5.imp hB (fun b off hbB hp=> zu.below hb hB kids b off hbB hp)⟩
theorem zu.below {B B':Nat} {w w':World} (hb:Below B w w') (hB:B<=B'):∀(es:List Term) (b off:Nat),b < B->zu B w b off es->zu B' w' b off es
 | [],_,_,_,_=> trivial
 | e::es,b,off,hbB,⟨⟨cs,h1,h2⟩,h3⟩=> ⟨⟨cs,h1.below hb hbB,ze.below hb hB e cs h2⟩,zu.below hb hB es b (off + 5) hbB h3⟩
end
theorem zW.get {B:Nat} {w:World}:∀(es:List Exp) (b off:Nat),zW B w b off es->∀i,(h:i < es.length)->∃cs,zI w b (off + i * 4) cs/\zy B w cs es[i]
 | e::es,b,off,⟨⟨cs,h1,h2⟩,h3⟩,i,hi=> by
  cases i with
  | zero=> exact ⟨cs,by simpa using h1,h2⟩
  | succ i=>
   obtain ⟨cs',a1,a2⟩:=zW.get es b (off + 4) h3 i (by simpa using hi);exact ⟨cs',by rw [show off + (i + 1) * 4=off + 4 + i * 4 from by omega];exact a1,a2⟩
theorem zX.get {B:Nat} {w:World}:∀(es:List Msg) (b off:Nat),zX B w b off es->∀i,(h:i < es.length)->∃cs,zI w b (off + i * 2) cs/\yK B w cs es[i]
 | e::es,b,off,⟨⟨cs,h1,h2⟩,h3⟩,i,hi=> by
  cases i with
  | zero=> exact ⟨cs,by simpa using h1,h2⟩
  | succ i=>
   obtain ⟨cs',a1,a2⟩:=zX.get es b (off + 2) h3 i (by simpa using hi);exact ⟨cs',by rw [show off + (i + 1) * 2=off + 2 + i * 2 from by omega];exact a1,a2⟩
theorem zr.get {B:Nat} {w:World}:∀(es:List zg) (b off:Nat),zr B w b off es->∀i,(h:i < es.length)->∃cs,zI w b (off + i * 5) cs/\zo B w cs es[i]
 | e::es,b,off,⟨⟨cs,h1,h2⟩,h3⟩,i,hi=> by
  cases i with
  | zero=> exact ⟨cs,by simpa using h1,h2⟩
  | succ i=>
   obtain ⟨cs',a1,a2⟩:=zr.get es b (off + 5) h3 i (by simpa using hi);exact ⟨cs',by rw [show off + (i + 1) * 5=off + 5 + i * 5 from by omega];exact a1,a2⟩
theorem zu.get {B:Nat} {w:World}:∀(es:List Term) (b off:Nat),zu B w b off es->∀i,(h:i < es.length)->∃cs,zI w b (off + i * 5) cs/\ze B w cs es[i]
 | e::es,b,off,⟨⟨cs,h1,h2⟩,h3⟩,i,hi=> by
  cases i with
  | zero=> exact ⟨cs,by simpa using h1,h2⟩
  | succ i=>
   obtain ⟨cs',a1,a2⟩:=zu.get es b (off + 5) h3 i (by simpa using hi);exact ⟨cs',by rw [show off + (i + 1) * 5=off + 5 + i * 5 from by omega];exact a1,a2⟩
inductive Part where
 | proc (t:Term)
 | exp (e:Exp)
 | def_ (c:zg)
def zY (B:Nat) (w:World) (v:Value):Part->Prop
 | .proc t=> ∃cs:List Value,v= .iface 83 (.agg cs.toArray)/\ze B w cs t
 | .exp e=> ∃cs:List Value,v= .iface 88 (.agg cs.toArray)/\zy B w cs e
 | .def_ c=> ∃cs:List Value,v= .iface 191 (.agg cs.toArray)/\zo B w cs c
theorem zY.below {B B':Nat} {w w':World} {v:Value} {p:Part} (h:zY B w v p) (hb:Below B w w') (hB:B<=B'):zY B' w' v p:=by
 cases p with
 | proc t=> obtain ⟨cs,h1,h2⟩:=h;exact ⟨cs,h1,ze.below hb hB t cs h2⟩
 | exp t=> obtain ⟨cs,h1,h2⟩:=h;exact ⟨cs,h1,zy.below hb hB t cs h2⟩
 | def_ t=> obtain ⟨cs,h1,h2⟩:=h;exact ⟨cs,h1,zo.below hb hB t cs h2⟩
def zh (B:Nat) (w w':World):Prop:=∀b o v,b < B->w.cell? ⟨b,o,none⟩=some v->w'.cell? ⟨b,o,none⟩=some v
theorem Below.keptC {B:Nat} {w w':World} (h:Below B w w'):zh B w w':=fun b o _ hb hv=> (h.cell (p:=⟨b,o,none⟩) hb).trans hv
theorem zh.trans {B:Nat} {a b c:World} (h:zh B a b) (k:zh B b c):zh B a c:=fun x o v hx hv=> k x o v hx (h x o v hx hv)
theorem zh.refl (B:Nat) (w:World):zh B w w:=fun _ _ _ _ h=> h
theorem zh.mono {B B':Nat} {a b:World} (h:zh B a b) (hB:B'<=B):zh B' a b:=fun x o v hx hv=> h x o v (by omega) hv
theorem zI.keep {B:Nat} {w w':World} {b off:Nat} {cs:List Value} (h:zI w b off cs) (hb:zh B w w') (hB:b < B):zI w' b off cs:=
 fun j hj=> hb _ _ _ hB (h j hj)
theorem zx.keep {B:Nat} {w w':World} {v:Value} {ss:List ByteArray} (h:zx B w v ss) (hb:zh B w w'):zx B w' v ss:=by
 obtain ⟨a,cap,rfl,hl,hz,hcap,h⟩:=h;refine ⟨a,cap,rfl,hl,hz,hcap,?_⟩;rcases h with h | ⟨b,off,rfl,hB,hc⟩
 ·exact .inl h
 ·exact .inr ⟨b,off,rfl,hB,fun j hj=> hb _ _ _ hB (hc j hj)⟩
mutual
theorem zy.keep {B B':Nat} {w w':World} (hb:zh B w w') (hB:B<=B'):∀(e:Exp) (cs:List Value),zy B w cs e->zy B' w' cs e
 | .mk _ _ _ kids,_,⟨h1,v,h2,h3⟩=> ⟨h1,v,h2,h3.imp hB (fun b off hbB hp=> zW.keep hb hB kids b off hbB hp)⟩
theorem zW.keep {B B':Nat} {w w':World} (hb:zh B w w') (hB:B<=B'):∀(es:List Exp) (b off:Nat),b < B->zW B w b off es->zW B' w' b off es
 | [],_,_,_,_=> trivial
 | e::es,b,off,hbB,⟨⟨cs,h1,h2⟩,h3⟩=> ⟨⟨cs,h1.keep hb hbB,zy.keep hb hB e cs h2⟩,zW.keep hb hB es b (off + 4) hbB h3⟩
end
theorem zX.keep {B B':Nat} {w w':World} (hb:zh B w w') (hB:B<=B'):∀(es:List Msg) (b off:Nat),b < B->zX B w b off es->zX B' w' b off es
 | [],_,_,_,_=> trivial
 | _::es,b,off,hbB,⟨⟨cs,h1,h2,v,h4,h5⟩,h3⟩=> ⟨⟨cs,h1.keep hb hbB,h2,v,h4,(h5.keep hb).mono hB⟩,zX.keep hb hB es b (off + 2) hbB h3⟩
mutual
theorem zo.keep {B B':Nat} {w w':World} (hb:zh B w w') (hB:B<=B'):∀(e:zg) (cs:List Value),zo B w cs e->zo B' w' cs e
 | .mk _ _ joins defs kids,_,⟨h1,vj,vd,vk,h2,h3,h4,h5⟩=> ⟨h1,vj,vd,vk,h2,h3.imp hB (fun b off hbB hp=> zX.keep hb hB joins b off hbB hp),
   h4.imp hB (fun b off hbB hp=> zr.keep hb hB defs b off hbB hp),h5.imp hB (fun b off hbB hp=> zu.keep hb hB kids b off hbB hp)⟩
theorem zr.keep {B B':Nat} {w w':World} (hb:zh B w w') (hB:B<=B'):∀(es:List zg) (b off:Nat),b < B->zr B w b off es->zr B' w' b off es
 | [],_,_,_,_=> trivial
 | e::es,b,off,hbB,⟨⟨cs,h1,h2⟩,h3⟩=> ⟨⟨cs,h1.keep hb hbB,zo.keep hb hB e cs h2⟩,zr.keep hb hB es b (off + 5) hbB h3⟩
theorem ze.keep {B B':Nat} {w w':World} (hb:zh B w w') (hB:B<=B'):∀(e:Term) (cs:List Value),ze B w cs e->ze B' w' cs e
 | .mk _ _ args defs kids,_,⟨h1,va,vd,vk,h2,h3,h4,h5⟩=> ⟨h1,va,vd,vk,h2,h3.imp hB (fun b off hbB hp=> zW.keep hb hB args b off hbB hp),
   h4.imp hB (fun b off hbB hp=> zr.keep hb hB defs b off hbB hp),h5.imp hB (fun b off hbB hp=> zu.keep hb hB kids b off hbB hp)⟩
theorem zu.keep {B B':Nat} {w w':World} (hb:zh B w w') (hB:B<=B'):∀(es:List Term) (b off:Nat),b < B->zu B w b off es->zu B' w' b off es
 | [],_,_,_,_=> trivial
 | e::es,b,off,hbB,⟨⟨cs,h1,h2⟩,h3⟩=> ⟨⟨cs,h1.keep hb hbB,ze.keep hb hB e cs h2⟩,zu.keep hb hB es b (off + 5) hbB h3⟩
end
theorem zY.keep {B B':Nat} {w w':World} {v:Value} {p:Part} (h:zY B w v p) (hb:zh B w w') (hB:B<=B'):zY B' w' v p:=by
 cases p with
 | proc t=> obtain ⟨cs,h1,h2⟩:=h;exact ⟨cs,h1,ze.keep hb hB t cs h2⟩
 | exp t=> obtain ⟨cs,h1,h2⟩:=h;exact ⟨cs,h1,zy.keep hb hB t cs h2⟩
 | def_ t=> obtain ⟨cs,h1,h2⟩:=h;exact ⟨cs,h1,zo.keep hb hB t cs h2⟩
end
end Go.Proofs.YtjmlaeofjjhfmaaGreat
