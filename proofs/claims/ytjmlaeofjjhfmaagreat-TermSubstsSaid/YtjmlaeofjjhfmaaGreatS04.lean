/- Lemmas. -/
import Derived.Test.YtjmlaeofjjhfmaaGreatS03
import Derived.Recover
import Derived.Defers
set_option linter.unusedVariables false
set_option linter.unusedSimpArgs false
set_option maxRecDepth 10000
set_option maxHeartbeats 16000000
namespace Go.Proofs.YtjmlaeofjjhfmaaGreat
section
open Go.RowKit Go.Shelf
attribute [local go_sem] Oper.semAt_some
def zaQ (d:List zg):Prop:=∃U,zZ d<=900/\(zl (zm d)).length<=100000/\zfo d U
def zeq:Part->Prop
 | .proc (.mk op _ _ defs _)=> op=4->zaQ defs
 | _=> True
def zT (p:Part):Prop:=p.size<=60/\(∀q∈zw 1 p,q.1.shaped=true/\q.2<=12/\zeq q.1)
theorem zhj {p:Part} (h:p.shaped=true) (hj:∀f t j d k,p= .def_ (.mk f t j d k)->j.length<=100):p.small:=by
 cases p with
 | proc t=>
  obtain ⟨o,t,a,d,k⟩:=t;simp only [Part.shaped,yg,Bool.or_eq_true,Bool.and_eq_true,beq_iff_eq,decide_eq_true_eq] at h;simp only [Part.small];omega
 | exp t=>
  obtain ⟨o,n,t,k⟩:=t;simp only [Part.shaped,j8,Bool.or_eq_true,Bool.and_eq_true,beq_iff_eq,decide_eq_true_eq] at h;simp only [Part.small];omega
 | def_ t=>
  obtain ⟨f,t,j,d,k⟩:=t;have:=hj f t j d k rfl;simp only [Part.shaped,yB,Bool.or_eq_true,Bool.and_eq_true,beq_iff_eq,decide_eq_true_eq] at h;simp only [Part.small];omega
theorem za2 {p:Part} (h:p.shaped=true):p.small:=by
 refine zhj h (fun f t j d k e=> ?_);subst e;simp only [Part.shaped,yB,qH,Bool.or_eq_true,Bool.and_eq_true,beq_iff_eq,decide_eq_true_eq] at h;omega
theorem zT.allSmall {p:Part} (h:zT p):p.allSmall:=by
 intro q hq;rw [qJ 0 1] at hq;obtain ⟨y,hy,rfl⟩:=List.mem_map.1 hq;exact za2 (h.2 y hy).1
theorem KeepsOthers.of_below {W W':World} (h:Below W.heap.size W W'):KeepsOthers W W':=KeepsOthers.of_grownBy (zj h) (fun r o e _=> by cases e)
theorem zdy (B:Nat) (u:World) (p:Part) (v:Value) (w:World) (hu:zh B u w) (hB:B<=w.heap.size) (hf:zT p) (hv:zY B u v p):
  Calls Tryz.prog 66 #[v] w fun e w'=> e= .returned (.tuple #[.int .i64 p.size, .int .i64 p.depth])/\Below w.heap.size w w':=
 (callsIn_wide (n:=6)).1 (zi3 6 B (by omega) u p v w hu hB hf.allSmall (by have:=hf.1;omega) hv)
end
section
open Go.RowKit
theorem zex (w:World):(binOp .eql 20 .nilIface .nilIface).run Tryz.prog w= .ok (.bool true) w:=by kernel_rfl
theorem zgW (v:Value) (w:World):(binOp .eql 20 (.iface 152 v) .nilIface).run Tryz.prog w= .ok (.bool false) w:=by kernel_rfl
theorem zi9 (v:Value) (w:World):(Instr.typeAssert (.iface 152 v) 20 152 true).run Tryz.prog w= .ok (.tuple #[v, .bool true]) w:=by kernel_rfl
def yn (c:Int):List PanicEntry:= [{ v:= .iface 152 (.int .i64 c),recovered:=false }]
theorem j7 (c:Int) (w:World):Calls Tryz.prog 103 #[.int .i64 c] w fun e w'=> e= .panicked (yn c)/\w'=w:=by
 go_enter Tryz.func103,Tryz.ntmps103;go_wp2;simp [bodyPost,yn]
theorem zk6 (p:Addr) (w:World):
  CallsD Tryz.prog 115 #[.pointer (some p)] .returning w fun e u' w'=> e= .returned (.tuple #[])/\u'= .returning/\w'=w:=by
 refine callsD_of_wpS Tryz.func115 rfl fun c₀ cs hu=> ?_;apply wpS_seq;apply wpS_region;simp [wpOpsS,go_sem,recoverD,hu,Tryz.ntmps115,Exit.thenS];have e20:=zex;refine wpS_of_wp ?_;simp only [Array.replicate,Array.setIfInBounds];go_wp2;cases c₀
 simp_all [bodyPostS,results,Tryz.results115]
theorem zeP (K:FuncId) (caps:Array Value) (w:World) (R:Value->World->Prop) (hK:∀args w,(callFunc K args).run Tryz.prog w= .ok (.enter K args) w)
  (hw:Calls Tryz.prog K caps (w.alloc (.cells #[.int .i64 0] 37)) fun e w'=> ∃v,e= .returned v/\R v w'/\Below (w.heap.size + 1) (w.alloc (.cells #[.int .i64 0] 37)) w'):
  Calls Tryz.prog 63 #[.func (.func K) #[] caps] w fun e w'=> ∃v w1,e= .returned (.tuple #[v, .int .i64 0])/\R v w1/\Below (w.heap.size + 1) (w.alloc (.cells #[.int .i64 0] 37)) w1/\w'=w1.setCell ⟨w.heap.size,0,none⟩ (.int .i64 0):=by
 have hmf:∀(fn:Fn) (first cap:Array Value) (w:World),(Instr.makeFunc fn first cap).run Tryz.prog w= .ok (.func fn first cap) w:=fun _ _ _ _=> rfl
 go_enter_defers Tryz.func63,Tryz.ntmps63
 go_wp2_with fail;refine hw.mono ?_;rintro e w1 ⟨v,rfl,hR,hb⟩;have hcell:w1.cell? ⟨w.heap.size,0,none⟩=some (.int .i64 0):=(hb.cell (p:=⟨w.heap.size,0,none⟩) (by simp)).trans (by rw [ZA _ _ _ _ rfl];rfl);have hfr:w1.frozen? ⟨w.heap.size,0,none⟩=false:=(hb.frozen (p:=⟨w.heap.size,0,none⟩) (by simp)).trans (World.frozen?_alloc_at _ _ _ _ rfl);go_wp2;refine leaves_cons (f:=115) (args:=#[.pointer (some ⟨w.heap.size,0,none⟩)]) (by simp) (by simp [go_sem]) ?_;refine (zk6 _ _).mono ?_;rintro e u' w'' ⟨rfl,rfl,rfl⟩;simp [Leaves,settle,results,Tryz.results63,go_sem,hcell];exact ⟨w1,hR,hb,rfl⟩
theorem zlK (p:Addr) (w:World):
  CallsD Tryz.prog 125 #[.pointer (some p)] .returning w fun e u' w'=> e= .returned (.tuple #[])/\u'= .returning/\w'=w:=by
 refine callsD_of_wpS Tryz.func125 rfl fun c₀ cs hu=> ?_;apply wpS_seq;apply wpS_region;simp [wpOpsS,go_sem,recoverD,hu,Tryz.ntmps125,Exit.thenS];have e20:=zex;refine wpS_of_wp ?_;simp only [Array.replicate,Array.setIfInBounds];go_wp2;cases c₀
 simp_all [bodyPostS,results,Tryz.results125]
theorem ziR (K:FuncId) (caps:Array Value) (w:World) (R:Value->World->Prop) (hK:∀args w,(callFunc K args).run Tryz.prog w= .ok (.enter K args) w)
  (hw:Calls Tryz.prog K caps (w.alloc (.cells #[.int .i64 0] 37)) fun e w'=> ∃v,e= .returned v/\R v w'/\Below (w.heap.size + 1) (w.alloc (.cells #[.int .i64 0] 37)) w'):
  Calls Tryz.prog 71 #[.func (.func K) #[] caps] w fun e w'=> ∃v w1,e= .returned (.tuple #[v, .int .i64 0])/\R v w1/\Below (w.heap.size + 1) (w.alloc (.cells #[.int .i64 0] 37)) w1/\w'=w1.setCell ⟨w.heap.size,0,none⟩ (.int .i64 0):=by
 have hmf:∀(fn:Fn) (first cap:Array Value) (w:World),(Instr.makeFunc fn first cap).run Tryz.prog w= .ok (.func fn first cap) w:=fun _ _ _ _=> rfl
 go_enter_defers Tryz.func71,Tryz.ntmps71
 go_wp2_with fail;refine hw.mono ?_;rintro e w1 ⟨v,rfl,hR,hb⟩;have hcell:w1.cell? ⟨w.heap.size,0,none⟩=some (.int .i64 0):=(hb.cell (p:=⟨w.heap.size,0,none⟩) (by simp)).trans (by rw [ZA _ _ _ _ rfl];rfl);have hfr:w1.frozen? ⟨w.heap.size,0,none⟩=false:=(hb.frozen (p:=⟨w.heap.size,0,none⟩) (by simp)).trans (World.frozen?_alloc_at _ _ _ _ rfl);go_wp2;refine leaves_cons (f:=125) (args:=#[.pointer (some ⟨w.heap.size,0,none⟩)]) (by simp) (by simp [go_sem]) ?_;refine (zlK _ _).mono ?_;rintro e u' w'' ⟨rfl,rfl,rfl⟩;simp [Leaves,settle,results,Tryz.results71,go_sem,hcell];exact ⟨w1,hR,hb,rfl⟩
theorem zlb (p:Addr) (w:World):
  CallsD Tryz.prog 151 #[.pointer (some p)] .returning w fun e u' w'=> e= .returned (.tuple #[])/\u'= .returning/\w'=w:=by
 refine callsD_of_wpS Tryz.func151 rfl fun c₀ cs hu=> ?_;apply wpS_seq;apply wpS_region;simp [wpOpsS,go_sem,recoverD,hu,Tryz.ntmps151,Exit.thenS];have e20:=zex;refine wpS_of_wp ?_;simp only [Array.replicate,Array.setIfInBounds];go_wp2;cases c₀
 simp_all [bodyPostS,results,Tryz.results151]
theorem ziQ (K:FuncId) (caps:Array Value) (w:World) (R:Value->World->Prop) (hK:∀args w,(callFunc K args).run Tryz.prog w= .ok (.enter K args) w)
  (hw:Calls Tryz.prog K caps (w.alloc (.cells #[.int .i64 0] 37)) fun e w'=> ∃v,e= .returned v/\R v w'/\Below (w.heap.size + 1) (w.alloc (.cells #[.int .i64 0] 37)) w'):
  Calls Tryz.prog 98 #[.func (.func K) #[] caps] w fun e w'=> ∃v w1,e= .returned (.tuple #[v, .int .i64 0])/\R v w1/\Below (w.heap.size + 1) (w.alloc (.cells #[.int .i64 0] 37)) w1/\w'=w1.setCell ⟨w.heap.size,0,none⟩ (.int .i64 0):=by
 have hmf:∀(fn:Fn) (first cap:Array Value) (w:World),(Instr.makeFunc fn first cap).run Tryz.prog w= .ok (.func fn first cap) w:=fun _ _ _ _=> rfl
 go_enter_defers Tryz.func98,Tryz.ntmps98
 go_wp2_with fail;refine hw.mono ?_;rintro e w1 ⟨v,rfl,hR,hb⟩;have hcell:w1.cell? ⟨w.heap.size,0,none⟩=some (.int .i64 0):=(hb.cell (p:=⟨w.heap.size,0,none⟩) (by simp)).trans (by rw [ZA _ _ _ _ rfl];rfl);have hfr:w1.frozen? ⟨w.heap.size,0,none⟩=false:=(hb.frozen (p:=⟨w.heap.size,0,none⟩) (by simp)).trans (World.frozen?_alloc_at _ _ _ _ rfl);go_wp2;refine leaves_cons (f:=151) (args:=#[.pointer (some ⟨w.heap.size,0,none⟩)]) (by simp) (by simp [go_sem]) ?_;refine (zlb _ _).mono ?_;rintro e u' w'' ⟨rfl,rfl,rfl⟩;simp [Leaves,settle,results,Tryz.results98,go_sem,hcell];exact ⟨w1,hR,hb,rfl⟩
theorem zlv (p:Addr) (w:World):
  CallsD Tryz.prog 162 #[.pointer (some p)] .returning w fun e u' w'=> e= .returned (.tuple #[])/\u'= .returning/\w'=w:=by
 refine callsD_of_wpS Tryz.func162 rfl fun c₀ cs hu=> ?_;apply wpS_seq;apply wpS_region;simp [wpOpsS,go_sem,recoverD,hu,Tryz.ntmps162,Exit.thenS];have e20:=zex;refine wpS_of_wp ?_;simp only [Array.replicate,Array.setIfInBounds];go_wp2;cases c₀
 simp_all [bodyPostS,results,Tryz.results162]
theorem zjG (p:Addr) (x:Value) (c:Int) (older:List PanicEntry) (w:World) (hc:w.cell? p=some x) (hx:x.cells=#[x]) (hz:w.frozen? p=false):
  CallsD Tryz.prog 162 #[.pointer (some p)] (.panicking ({ v:= .iface 152 (.int .i64 c),recovered:=false }::older)) w fun e u' w'=>
   e= .returned (.tuple #[])/\u'= .panicking ({ v:= .iface 152 (.int .i64 c),recovered:=true }::older)/\w'=w.setCell p (.int .i64 c):=by
 refine callsD_of_wpS Tryz.func162 rfl fun c₀ cs hu=> ?_;apply wpS_seq;apply wpS_region;simp [wpOpsS,go_sem,recoverD,hu,Tryz.ntmps162,Exit.thenS];have e20:=zgW;have q:=zi9;refine wpS_of_wp ?_;simp only [Array.replicate,Array.setIfInBounds];go_wp2;simp [bodyPostS,results,Tryz.results162,hu]
theorem zhy (K:FuncId) (caps:Array Value) (w:World) (R:Value->World->Prop) (hK:∀args w,(callFunc K args).run Tryz.prog w= .ok (.enter K args) w)
  (hw:Calls Tryz.prog K caps (w.alloc (.cells #[.int .i64 0] 37)) fun e w'=> ∃v,e= .returned v/\R v w'/\Below (w.heap.size + 1) (w.alloc (.cells #[.int .i64 0] 37)) w'):
  Calls Tryz.prog 119 #[.func (.func K) #[] caps] w fun e w'=> ∃v w1,e= .returned (.tuple #[v, .int .i64 0])/\R v w1/\Below (w.heap.size + 1) (w.alloc (.cells #[.int .i64 0] 37)) w1/\w'=w1.setCell ⟨w.heap.size,0,none⟩ (.int .i64 0):=by
 have hmf:∀(fn:Fn) (first cap:Array Value) (w:World),(Instr.makeFunc fn first cap).run Tryz.prog w= .ok (.func fn first cap) w:=fun _ _ _ _=> rfl
 go_enter_defers Tryz.func119,Tryz.ntmps119
 go_wp2_with fail;refine hw.mono ?_;rintro e w1 ⟨v,rfl,hR,hb⟩;have hcell:w1.cell? ⟨w.heap.size,0,none⟩=some (.int .i64 0):=(hb.cell (p:=⟨w.heap.size,0,none⟩) (by simp)).trans (by rw [ZA _ _ _ _ rfl];rfl);have hfr:w1.frozen? ⟨w.heap.size,0,none⟩=false:=(hb.frozen (p:=⟨w.heap.size,0,none⟩) (by simp)).trans (World.frozen?_alloc_at _ _ _ _ rfl);go_wp2;refine leaves_cons (f:=162) (args:=#[.pointer (some ⟨w.heap.size,0,none⟩)]) (by simp) (by simp [go_sem]) ?_;refine (zlv _ _).mono ?_;rintro e u' w'' ⟨rfl,rfl,rfl⟩;simp [Leaves,settle,results,Tryz.results119,go_sem,hcell];exact ⟨w1,hR,hb,rfl⟩
theorem zfn (K:FuncId) (caps:Array Value) (c:Int) (w:World) (hK:∀args w,(callFunc K args).run Tryz.prog w= .ok (.enter K args) w)
  (hw:Calls Tryz.prog K caps (w.alloc (.cells #[.int .i64 0] 37)) fun e w'=> e= .panicked (yn c)/\Below (w.heap.size + 1) (w.alloc (.cells #[.int .i64 0] 37)) w'):
  Calls Tryz.prog 119 #[.func (.func K) #[] caps] w fun e w'=> e= .returned (.tuple #[.bool false, .int .i64 c])/\Below w.heap.size w w':=by
 have hmf:∀(fn:Fn) (first cap:Array Value) (w:World),(Instr.makeFunc fn first cap).run Tryz.prog w= .ok (.func fn first cap) w:=fun _ _ _ _=> rfl
 go_enter_defers Tryz.func119,Tryz.ntmps119
 go_wp2_with fail;refine hw.mono ?_;rintro e w1 ⟨rfl,hb⟩;have hcell:w1.cell? ⟨w.heap.size,0,none⟩=some (.int .i64 0):=(hb.cell (p:=⟨w.heap.size,0,none⟩) (by simp)).trans (by rw [ZA _ _ _ _ rfl];rfl);have hfr:w1.frozen? ⟨w.heap.size,0,none⟩=false:=(hb.frozen (p:=⟨w.heap.size,0,none⟩) (by simp)).trans (World.frozen?_alloc_at _ _ _ _ rfl);have hBw:Below w.heap.size w w1:=(ZQ w _).trans (hb.mono (Nat.le_succ _));go_wp2;refine leaves_cons (f:=162) (args:=#[.pointer (some ⟨w.heap.size,0,none⟩)]) (by simp) (by simp [go_sem]) ?_;refine (zjG _ _ c [] _ hcell rfl hfr).mono ?_;rintro e u' w'' ⟨rfl,rfl,rfl⟩;simp [Leaves,settle,results,Tryz.results119,go_sem,hcell];exact hBw.setCell (ZL _) _
end
end Go.Proofs.YtjmlaeofjjhfmaaGreat
