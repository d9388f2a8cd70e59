/-
  Which rule applies: a record of the index.
-/
import Derived.Test.YtdbpdhlecgoclaaGreatDoorP00
import Derived.Test.YtdbpdhlecgoclaaGreatDoorP20
import Derived.Test.YtdbpdhlecgoclaaGreatDoorP21
namespace Go.Proofs.YtdbpdhlecgoclaaGreatDoor
set_option maxRecDepth 100000
set_option maxHeartbeats 6400000
open Go Go.RowKit
theorem zpq (p:Rec) (f0 f1:CopL) (i:Int) (w:World) (hw:p.wh=0∨p.wh=1) (ho:isR p i=true) :
 Calls Tryz.prog 123 #[.agg p,.agg (f0,f1),.int .i64 i] w fun e w'=>∃(F:Nat) (caps:Array Value),e=.returned (.agg #[.func (.func F) #[] caps,p.wh,.int .u8 2,.int .i64 0,.int .u8 3,p.bx,p.yb,.int .u8 0,.int .i64 0,.int .i64 0,.int .u8 0,.string ⟨#[]⟩,.string ⟨#[]⟩,.string ⟨#[]⟩])∧Ext w w'∧Enters Tryz.prog F∧∀c,Asks w' F caps c (zgH p i c):=by
 have hst:p.st=1:=(zgI.1 ho).1
 have hnm:namedL p=p.wh:=if_pos hst
 have hw0:0≤p.wh:=by omega
 clear hst
 have hmf:∀(fn:Fn) (first cap:Array Value) (w:World),(Instr.makeFunc fn first cap).run Tryz.prog w=.ok (.func fn first cap) w:=fun _ _ _ _=>rfl
 have HA:=qj (ApS.make w p f0 f1 i)
 have HF:=qj (zcL (p.st:Int) p.ix i)
 have HV:=qj (zbn p f0 f1 i)
 have HB:=qj (zcf (p.st:Int))
 have HN:=qj (zdw p hw)
 rw [hnm] at HN
 clear hw hnm
 have hqo:isR p i=true:=ho
 unfold isR at hqo
 rw [hqo] at HF
 clear hqo ho
 go_enter Tryz.func123,Tryz.ntmps123
 go_upto_region 2 with (fail)
 generalize (((((w.alloc (.cells p 90)).alloc (.cells (f0,f1) 93)).alloc (.cells #[.int .i64 i] 3)).alloc (.cells Zk.g 179)).alloc (.cells #[.func (.func 157) #[] #[aD (w.heap.size+1+1) 0]] 177))=W at *
 generalize w.heap.size+1+1+1+1=g4 at *
 generalize w.heap.size+1+1+1=g3 at *
 generalize w.heap.size+1+1=g2 at *
 generalize w.heap.size+1=g1 at *
 generalize hg:w.heap.size=g at *
 have HG:=qj hg
 clear hg
 have HC:=qj (zbf 160 #[] f0 f1 (badB f0.st) (badB f1.st) g1 2 W zgq HA.out.two (fun V _=>zaR f0 V) (fun V _=>zaR f1 V))
 go_wp2_with fail
 refine HC.out.mono ?_
 rintro e w1 ⟨rfl,hx⟩
 have HA:=qj (HA.out.mono hx)
 clear hx HC
 obtain ⟨c0,c1,c2,c3,c4⟩:=cr5 (HA.out.rec_)
 obtain ⟨d0,d1,d2,d3,d4,d5,d6,d7,d8,d9,d10,d11,d12,d13,d14,d15,d16,d17,d18,d19,d20,d21⟩:=cr22 (HA.out.two)
 have k2:=cell_of_row w1 g2 0 _ _ _ HA.out.ix
 have k4:=cell_of_row w1 g4 0 _ _ _ HA.out.fn
 go_wp2_with fail
 refine (HF.out _).mono ?_
 rintro e w2 ⟨rfl,rfl⟩
 go_upto_region 5 with (fail)
 clear d0 d1 d2 d3 d4 d5 d6 d7 d8 d9 d10 d11 d12 d13 d14 d15 d16 d17 d18 d19 d20 d21 c0 c1 c2 c3 c4 k2 k4
 refine wp_region_held_drew (S:=fun w'=>(CW.mk w' g p:Prop)) (by kernel_rfl) ((HA.out.mono (Ext.refl w2).drew).rec_.cells) (fun hHeld=>?_)
 refine tj (i:=0) (oi:=⟨some 21,.move (.tmp 9),177, "slot.go:138",#[],none⟩) rfl (by kernel_rfl) ?_
 try simp only [Act.put,sT,s0,s1]
 refine tj (i:=1) (oi:=⟨some 22,.load 90 (.tmp 3),90, "slot.go:138",#[],none⟩) rfl (by kernel_rfl) ?_
 try simp only [Act.put,sT,s0,s1]
 refine tj (i:=4) (oi:=⟨some 25,.fieldAddr 90 (.tmp 3) 2,0, "slot.go:138",#[],none⟩) rfl (by kernel_rfl) ?_
 try simp only [Act.put,sT,s0,s1]
 refine tj (i:=5) (oi:=⟨some 26,.load 38 (.tmp 25),38, "slot.go:138",#[⟨4,.data⟩],none⟩) rfl (by kernel_rfl) ?_
 try simp only [Act.put,sT,s0,s1]
 refine tj (i:=6) (oi:=⟨some 27,.build 115 #[(1,.const (.int .u8 3)),(2,.tmp 26)],115, "slot.go:138",#[⟨5,.data⟩],none⟩) rfl (by kernel_rfl) ?_
 try simp only [Act.put,sT,s0,s1]
 refine wpAnyH_ready (rs:=[2]) (by kernel_rfl) (by simp) ?_
 refine AllReadyH.cons (o:=⟨some 23,.call { callee:=.value (.func 66),args:=#[.tmp 22],argTypes:=#[90] },3, "slot.go:138",#[⟨1,.data⟩],none⟩) rfl (fun K hK=>?_) AllReadyH.nil
 go_simp
 refine (HN.out _).mono ?_
 rintro e w3 ⟨rfl,hx⟩
 have HA:=qj (HA.out.mono ((Ext.refl w2).drew.trans hx))
 clear hx hHeld
 go_wp2_with fail
 refine hK.out _ _ (HA.out.rec_.cells) (fun hHeld=>?_)
 clear hK K
 try simp only [Act.put,sT,s0,s1]
 refine tj (i:=3) (oi:=⟨some 24,.call { callee:=.builtin Go.Builtin.max,args:=#[.const (.int .i64 0),.tmp 23],argTypes:=#[3,3] },3, "slot.go:138",#[⟨2,.data⟩],none⟩) rfl (by kernel_rfl) ?_
 try simp only [Act.put,sT,s0,s1]
 refine tj (i:=7) (oi:=⟨some 28,.build 179 #[(0,.tmp 21),(1,.tmp 24),(2,.const (.int .u8 2)),(3,.tmp 27)],179, "slot.go:138",#[⟨0,.data⟩,⟨3,.data⟩,⟨6,.data⟩],none⟩) rfl (by kernel_rfl) ?_
 try simp only [Act.put,sT,s0,s1]
 have hmx:(if 0<p.wh then p.wh else 0)=p.wh:=by split <;> omega
 have hmx2:max 0 p.wh=p.wh:=by omega
 first | simp only [hmx] | simp only [hmx2]
 clear hmx hmx2
 obtain ⟨z0,z1,z2,z3,z4,z5,z6,z7,z8,z9,z10,z11,z12,z13⟩:=cr14 (HA.out.rule)
 obtain ⟨y0,y1,y2,y3,y4,y5,y6,y7,y8,y9,y10,y11,y12,y13⟩:=fr14 (HA.out.rule)
 have HRW:Hid ((((SW.mk w3 g3 [.func (.func 162) #[] #[aD g4 0,aD g 0],p.wh,.int .u8 2,.int .i64 0,.int .u8 3,p.bx,p.yb,.int .u8 0,.int .i64 0,.int .i64 0,.int .u8 0,.string ⟨#[]⟩,.string ⟨#[]⟩,.string ⟨#[]⟩]:World))).heap[g3]?=some (.cells #[.func (.func 162) #[] #[aD g4 0,aD g 0],p.wh,.int .u8 2,.int .i64 0,.int .u8 3,p.bx,p.yb,.int .u8 0,.int .i64 0,.int .i64 0,.int .u8 0,.string ⟨#[]⟩,.string ⟨#[]⟩,.string ⟨#[]⟩] 179 (0,0))):=qj (zjd HA.out.rule _ _ _ _ _ _ _ _ _ _ _ _ _ _)
 have HEW:Hid (Ext w (((SW.mk w3 g3 [.func (.func 162) #[] #[aD g4 0,aD g 0],p.wh,.int .u8 2,.int .i64 0,.int .u8 3,p.bx,p.yb,.int .u8 0,.int .i64 0,.int .i64 0,.int .u8 0,.string ⟨#[]⟩,.string ⟨#[]⟩,.string ⟨#[]⟩]:World)))):=qj (ziA HA.out.ext HA.out.ne.2.2.2 _ _ _ _ _ _ _ _ _ _ _ _ _ _)
 have HIX:Hid ((((SW.mk w3 g3 [.func (.func 162) #[] #[aD g4 0,aD g 0],p.wh,.int .u8 2,.int .i64 0,.int .u8 3,p.bx,p.yb,.int .u8 0,.int .i64 0,.int .i64 0,.int .u8 0,.string ⟨#[]⟩,.string ⟨#[]⟩,.string ⟨#[]⟩]:World))).heap[g2]?=some (.cells #[.int .i64 i] 3 (0,0))):=qj (zbU HA.out.ix HA.out.ne.2.1 _ _ _ _ _ _ _ _ _ _ _ _ _ _)
 have HFN:Hid ((((SW.mk w3 g3 [.func (.func 162) #[] #[aD g4 0,aD g 0],p.wh,.int .u8 2,.int .i64 0,.int .u8 3,p.bx,p.yb,.int .u8 0,.int .i64 0,.int .i64 0,.int .u8 0,.string ⟨#[]⟩,.string ⟨#[]⟩,.string ⟨#[]⟩]:World))).heap[g4]?=some (.cells #[.func (.func 157) #[] #[aD g2 0]] 177 (0,0))):=qj (zbU HA.out.fn HA.out.ne.2.2.1 _ _ _ _ _ _ _ _ _ _ _ _ _ _)
 have HRC:Hid (zbj (((SW.mk w3 g3 [.func (.func 162) #[] #[aD g4 0,aD g 0],p.wh,.int .u8 2,.int .i64 0,.int .u8 3,p.bx,p.yb,.int .u8 0,.int .i64 0,.int .i64 0,.int .u8 0,.string ⟨#[]⟩,.string ⟨#[]⟩,.string ⟨#[]⟩]:World))) g p):=qj (zbU HA.out.rec_ HA.out.ne.1 _ _ _ _ _ _ _ _ _ _ _ _ _ _)
 refine wpAnyH_ready (rs:=[8]) (by kernel_rfl) (by simp) ?_
 refine AllReadyH.cons (o:=⟨none,.store 179 (.tmp 6) (.tmp 28),0, "slot.go:138",#[⟨7,.data⟩,⟨2,.chain⟩,⟨0,.phase⟩,⟨1,.phase⟩,⟨2,.phase⟩,⟨3,.phase⟩,⟨4,.phase⟩,⟨5,.phase⟩,⟨6,.phase⟩,⟨7,.phase⟩],none⟩) rfl (fun K hK=>?_) AllReadyH.nil
 clear hHeld
 go_simp
 refine hK.out _ _ (HRC.out.cells) (fun hHeld=>?_)
 clear hK K
 try simp only [Act.put,sT,s0,s1]
 refine wpAnyH_done (by kernel_rfl) ?_ _
 clear hHeld
 generalize ((SW.mk w3 g3 [.func (.func 162) #[] #[aD g4 0,aD g 0],p.wh,.int .u8 2,.int .i64 0,.int .u8 3,p.bx,p.yb,.int .u8 0,.int .i64 0,.int .i64 0,.int .u8 0,.string ⟨#[]⟩,.string ⟨#[]⟩,.string ⟨#[]⟩]:World))=V at *
 clear z0 z1 z2 z3 z4 z5 z6 z7 z8 z9 z10 z11 z12 z13 y0 y1 y2 y3 y4 y5 y6 y7 y8 y9 y10 y11 y12 y13
 obtain ⟨z0,z1,z2,z3,z4,z5,z6,z7,z8,z9,z10,z11,z12,z13⟩:=cr14 (HRW.out)
 go_wp2_with fail
 refine bodyPost_ret (v:=.agg #[.func (.func 162) #[] #[aD g4 0,aD g 0],p.wh,.int .u8 2,.int .i64 0,.int .u8 3,p.bx,p.yb,.int .u8 0,.int .i64 0,.int .i64 0,.int .u8 0,.string ⟨#[]⟩,.string ⟨#[]⟩,.string ⟨#[]⟩]) (by simp [results,Tryz.results123,go_sem,z0,z1,z2,z3,z4,z5,z6,z7,z8,z9,z10,z11,z12,z13]) rfl ⟨162,#[aD g4 0,aD g 0],rfl,HEW.out,zoq,?_⟩
 exact fun c V2 hv=>zkc c p g2 g4 g i V2 (cell_of_row _ _ 0 _ _ _ (zaa hv HIX.out)) (cell_of_row _ _ 0 _ _ _ (zaa hv HFN.out)) (HRC.out.ext hv).cells.2.2.1 (HRC.out.ext hv).cells.2.2.2.1
theorem zol (p:Rec) (f0 f1:CopL) (i:Int) (w:World) (ho:isR p i=false) (hc:covB p f0 f1 i=true) :
 Calls Tryz.prog 123 #[.agg p,.agg (f0,f1),.int .i64 i] w fun e w'=>∃(F:Nat) (caps:Array Value),e=.returned (.agg #[.func (.func F) #[] caps,.int .i64 0,.int .u8 2,.int .i64 0,.int .u8 4,.int .i64 0,.int .i64 0,.int .u8 0,.int .i64 0,.int .i64 0,.int .u8 0,.string ⟨#[]⟩,.string ⟨#[]⟩,.string ⟨#[]⟩])∧Ext w w'∧Enters Tryz.prog F∧∀c,Asks w' F caps c (false):=by
 have hmf:∀(fn:Fn) (first cap:Array Value) (w:World),(Instr.makeFunc fn first cap).run Tryz.prog w=.ok (.func fn first cap) w:=fun _ _ _ _=>rfl
 have HA:=qj (ApS.make w p f0 f1 i)
 have HF:=qj (zcL (p.st:Int) p.ix i)
 have HV:=qj (zbn p f0 f1 i)
 have HB:=qj (zcf (p.st:Int))
 have hqo:isR p i=false:=ho
 unfold isR at hqo
 rw [hqo] at HF
 clear hqo ho
 rw [show covB p f0 f1 i=true from hc] at HV
 clear hc
 go_enter Tryz.func123,Tryz.ntmps123
 go_upto_region 2 with (fail)
 generalize (((((w.alloc (.cells p 90)).alloc (.cells (f0,f1) 93)).alloc (.cells #[.int .i64 i] 3)).alloc (.cells Zk.g 179)).alloc (.cells #[.func (.func 157) #[] #[aD (w.heap.size+1+1) 0]] 177))=W at *
 generalize w.heap.size+1+1+1+1=g4 at *
 generalize w.heap.size+1+1+1=g3 at *
 generalize w.heap.size+1+1=g2 at *
 generalize w.heap.size+1=g1 at *
 generalize hg:w.heap.size=g at *
 have HG:=qj hg
 clear hg
 have HC:=qj (zbf 160 #[] f0 f1 (badB f0.st) (badB f1.st) g1 2 W zgq HA.out.two (fun V _=>zaR f0 V) (fun V _=>zaR f1 V))
 go_wp2_with fail
 refine HC.out.mono ?_
 rintro e w1 ⟨rfl,hx⟩
 have HA:=qj (HA.out.mono hx)
 clear hx HC
 obtain ⟨c0,c1,c2,c3,c4⟩:=cr5 (HA.out.rec_)
 obtain ⟨d0,d1,d2,d3,d4,d5,d6,d7,d8,d9,d10,d11,d12,d13,d14,d15,d16,d17,d18,d19,d20,d21⟩:=cr22 (HA.out.two)
 have k2:=cell_of_row w1 g2 0 _ _ _ HA.out.ix
 have k4:=cell_of_row w1 g4 0 _ _ _ HA.out.fn
 go_wp2_with fail
 refine (HF.out _).mono ?_
 rintro e w2 ⟨rfl,rfl⟩
 clear k4 d0 d1 d2 d3 d4 d5 d6 d7 d8 d9 d10 d11 d12 d13 d14 d15 d16 d17 d18 d19 d20 d21
 obtain ⟨N,hN,hsz⟩:=zaz
 have hld:=zar hN HA.out.two
 have HNN:=qj hN
 clear hN
 go_wp2_with fail
 refine (HV.out _).mono ?_
 rintro e w3 ⟨rfl,hx⟩
 have HA:=qj (HA.out.mono hx)
 clear hx HV c0 c1 c2 c3 c4 k2 hsz hld HNN
 have c0:=cell_of_row w3 g 0 _ _ _ HA.out.rec_
 have k4:=cell_of_row w3 g4 0 _ _ _ HA.out.fn
 obtain ⟨z0,z1,z2,z3,z4,z5,z6,z7,z8,z9,z10,z11,z12,z13⟩:=cr14 (HA.out.rule)
 obtain ⟨y0,y1,y2,y3,y4,y5,y6,y7,y8,y9,y10,y11,y12,y13⟩:=fr14 (HA.out.rule)
 have HRW:Hid ((((SW.mk w3 g3 [.func (.func 165) #[] #[],.int .i64 0,.int .u8 2,.int .i64 0,.int .u8 4,.int .i64 0,.int .i64 0,.int .u8 0,.int .i64 0,.int .i64 0,.int .u8 0,.string ⟨#[]⟩,.string ⟨#[]⟩,.string ⟨#[]⟩]:World))).heap[g3]?=some (.cells #[.func (.func 165) #[] #[],.int .i64 0,.int .u8 2,.int .i64 0,.int .u8 4,.int .i64 0,.int .i64 0,.int .u8 0,.int .i64 0,.int .i64 0,.int .u8 0,.string ⟨#[]⟩,.string ⟨#[]⟩,.string ⟨#[]⟩] 179 (0,0))):=qj (zjd HA.out.rule _ _ _ _ _ _ _ _ _ _ _ _ _ _)
 have HEW:Hid (Ext w (((SW.mk w3 g3 [.func (.func 165) #[] #[],.int .i64 0,.int .u8 2,.int .i64 0,.int .u8 4,.int .i64 0,.int .i64 0,.int .u8 0,.int .i64 0,.int .i64 0,.int .u8 0,.string ⟨#[]⟩,.string ⟨#[]⟩,.string ⟨#[]⟩]:World)))):=qj (ziA HA.out.ext HA.out.ne.2.2.2 _ _ _ _ _ _ _ _ _ _ _ _ _ _)
 have HIX:Hid ((((SW.mk w3 g3 [.func (.func 165) #[] #[],.int .i64 0,.int .u8 2,.int .i64 0,.int .u8 4,.int .i64 0,.int .i64 0,.int .u8 0,.int .i64 0,.int .i64 0,.int .u8 0,.string ⟨#[]⟩,.string ⟨#[]⟩,.string ⟨#[]⟩]:World))).heap[g2]?=some (.cells #[.int .i64 i] 3 (0,0))):=qj (zbU HA.out.ix HA.out.ne.2.1 _ _ _ _ _ _ _ _ _ _ _ _ _ _)
 have HFN:Hid ((((SW.mk w3 g3 [.func (.func 165) #[] #[],.int .i64 0,.int .u8 2,.int .i64 0,.int .u8 4,.int .i64 0,.int .i64 0,.int .u8 0,.int .i64 0,.int .i64 0,.int .u8 0,.string ⟨#[]⟩,.string ⟨#[]⟩,.string ⟨#[]⟩]:World))).heap[g4]?=some (.cells #[.func (.func 157) #[] #[aD g2 0]] 177 (0,0))):=qj (zbU HA.out.fn HA.out.ne.2.2.1 _ _ _ _ _ _ _ _ _ _ _ _ _ _)
 have HRC:Hid (zbj (((SW.mk w3 g3 [.func (.func 165) #[] #[],.int .i64 0,.int .u8 2,.int .i64 0,.int .u8 4,.int .i64 0,.int .i64 0,.int .u8 0,.int .i64 0,.int .i64 0,.int .u8 0,.string ⟨#[]⟩,.string ⟨#[]⟩,.string ⟨#[]⟩]:World))) g p):=qj (zbU HA.out.rec_ HA.out.ne.1 _ _ _ _ _ _ _ _ _ _ _ _ _ _)
 go_wp2_with fail
 generalize ((SW.mk w3 g3 [.func (.func 165) #[] #[],.int .i64 0,.int .u8 2,.int .i64 0,.int .u8 4,.int .i64 0,.int .i64 0,.int .u8 0,.int .i64 0,.int .i64 0,.int .u8 0,.string ⟨#[]⟩,.string ⟨#[]⟩,.string ⟨#[]⟩]:World))=V at *
 clear z0 z1 z2 z3 z4 z5 z6 z7 z8 z9 z10 z11 z12 z13 y0 y1 y2 y3 y4 y5 y6 y7 y8 y9 y10 y11 y12 y13
 obtain ⟨z0,z1,z2,z3,z4,z5,z6,z7,z8,z9,z10,z11,z12,z13⟩:=cr14 (HRW.out)
 refine bodyPost_ret (v:=.agg #[.func (.func 165) #[] #[],.int .i64 0,.int .u8 2,.int .i64 0,.int .u8 4,.int .i64 0,.int .i64 0,.int .u8 0,.int .i64 0,.int .i64 0,.int .u8 0,.string ⟨#[]⟩,.string ⟨#[]⟩,.string ⟨#[]⟩]) (by simp [results,Tryz.results123,go_sem,z0,z1,z2,z3,z4,z5,z6,z7,z8,z9,z10,z11,z12,z13]) rfl ⟨_,_,rfl,HEW.out,znn,?_⟩
 exact fun c V2 _=>ziJ c V2
theorem zoX (p:Rec) (f0 f1:CopL) (i:Int) (w:World) (ho:isR p i=false) (hc:covB p f0 f1 i=false) (hp:badB p.st=true) (hb:hasB f0 f1=true) :
 Calls Tryz.prog 123 #[.agg p,.agg (f0,f1),.int .i64 i] w fun e w'=>∃(F:Nat) (caps:Array Value),e=.returned (.agg #[.func (.func F) #[] caps,.int .i64 0,.int .u8 2,.int .i64 0,.int .u8 4,.int .i64 0,.int .i64 0,.int .u8 0,.int .i64 0,.int .i64 0,.int .u8 0,.string ⟨#[]⟩,.string ⟨#[]⟩,.string ⟨#[]⟩])∧Ext w w'∧Enters Tryz.prog F∧∀c,Asks w' F caps c (false):=by
 have hmf:∀(fn:Fn) (first cap:Array Value) (w:World),(Instr.makeFunc fn first cap).run Tryz.prog w=.ok (.func fn first cap) w:=fun _ _ _ _=>rfl
 have HA:=qj (ApS.make w p f0 f1 i)
 have HF:=qj (zcL (p.st:Int) p.ix i)
 have HV:=qj (zbn p f0 f1 i)
 have HB:=qj (zcf (p.st:Int))
 have hqo:isR p i=false:=ho
 unfold isR at hqo
 rw [hqo] at HF
 clear hqo ho
 rw [show covB p f0 f1 i=false from hc] at HV
 clear hc
 rw [show ((p.st:Int) != 0 && (p.st:Int) != 1)=true from hp] at HB
 clear hp
 go_enter Tryz.func123,Tryz.ntmps123
 go_upto_region 2 with (fail)
 generalize (((((w.alloc (.cells p 90)).alloc (.cells (f0,f1) 93)).alloc (.cells #[.int .i64 i] 3)).alloc (.cells Zk.g 179)).alloc (.cells #[.func (.func 157) #[] #[aD (w.heap.size+1+1) 0]] 177))=W at *
 generalize w.heap.size+1+1+1+1=g4 at *
 generalize w.heap.size+1+1+1=g3 at *
 generalize w.heap.size+1+1=g2 at *
 generalize w.heap.size+1=g1 at *
 generalize hg:w.heap.size=g at *
 have HG:=qj hg
 clear hg
 have HC:=qj (zbf 160 #[] f0 f1 (badB f0.st) (badB f1.st) g1 2 W zgq HA.out.two (fun V _=>zaR f0 V) (fun V _=>zaR f1 V))
 rw [show (badB f0.st || badB f1.st)=true from hb] at HC
 clear hb
 go_wp2_with fail
 refine HC.out.mono ?_
 rintro e w1 ⟨rfl,hx⟩
 have HA:=qj (HA.out.mono hx)
 clear hx HC
 obtain ⟨c0,c1,c2,c3,c4⟩:=cr5 (HA.out.rec_)
 obtain ⟨d0,d1,d2,d3,d4,d5,d6,d7,d8,d9,d10,d11,d12,d13,d14,d15,d16,d17,d18,d19,d20,d21⟩:=cr22 (HA.out.two)
 have k2:=cell_of_row w1 g2 0 _ _ _ HA.out.ix
 have k4:=cell_of_row w1 g4 0 _ _ _ HA.out.fn
 go_wp2_with fail
 refine (HF.out _).mono ?_
 rintro e w2 ⟨rfl,rfl⟩
 clear k4 d0 d1 d2 d3 d4 d5 d6 d7 d8 d9 d10 d11 d12 d13 d14 d15 d16 d17 d18 d19 d20 d21
 obtain ⟨N,hN,hsz⟩:=zaz
 have hld:=zar hN HA.out.two
 have HNN:=qj hN
 clear hN
 go_wp2_with fail
 refine (HV.out _).mono ?_
 rintro e w3 ⟨rfl,hx⟩
 have HA:=qj (HA.out.mono hx)
 clear hx HV c0 c1 c2 c3 c4 k2 hsz hld HNN
 have c0:=cell_of_row w3 g 0 _ _ _ HA.out.rec_
 have k4:=cell_of_row w3 g4 0 _ _ _ HA.out.fn
 go_wp2_with fail
 refine (HB.out _).mono ?_
 rintro e w4 ⟨rfl,rfl⟩
 obtain ⟨z0,z1,z2,z3,z4,z5,z6,z7,z8,z9,z10,z11,z12,z13⟩:=cr14 (HA.out.rule)
 obtain ⟨y0,y1,y2,y3,y4,y5,y6,y7,y8,y9,y10,y11,y12,y13⟩:=fr14 (HA.out.rule)
 have HRW:Hid ((((SW.mk w4 g3 [.func (.func 165) #[] #[],.int .i64 0,.int .u8 2,.int .i64 0,.int .u8 4,.int .i64 0,.int .i64 0,.int .u8 0,.int .i64 0,.int .i64 0,.int .u8 0,.string ⟨#[]⟩,.string ⟨#[]⟩,.string ⟨#[]⟩]:World))).heap[g3]?=some (.cells #[.func (.func 165) #[] #[],.int .i64 0,.int .u8 2,.int .i64 0,.int .u8 4,.int .i64 0,.int .i64 0,.int .u8 0,.int .i64 0,.int .i64 0,.int .u8 0,.string ⟨#[]⟩,.string ⟨#[]⟩,.string ⟨#[]⟩] 179 (0,0))):=qj (zjd HA.out.rule _ _ _ _ _ _ _ _ _ _ _ _ _ _)
 have HEW:Hid (Ext w (((SW.mk w4 g3 [.func (.func 165) #[] #[],.int .i64 0,.int .u8 2,.int .i64 0,.int .u8 4,.int .i64 0,.int .i64 0,.int .u8 0,.int .i64 0,.int .i64 0,.int .u8 0,.string ⟨#[]⟩,.string ⟨#[]⟩,.string ⟨#[]⟩]:World)))):=qj (ziA HA.out.ext HA.out.ne.2.2.2 _ _ _ _ _ _ _ _ _ _ _ _ _ _)
 have HIX:Hid ((((SW.mk w4 g3 [.func (.func 165) #[] #[],.int .i64 0,.int .u8 2,.int .i64 0,.int .u8 4,.int .i64 0,.int .i64 0,.int .u8 0,.int .i64 0,.int .i64 0,.int .u8 0,.string ⟨#[]⟩,.string ⟨#[]⟩,.string ⟨#[]⟩]:World))).heap[g2]?=some (.cells #[.int .i64 i] 3 (0,0))):=qj (zbU HA.out.ix HA.out.ne.2.1 _ _ _ _ _ _ _ _ _ _ _ _ _ _)
 have HFN:Hid ((((SW.mk w4 g3 [.func (.func 165) #[] #[],.int .i64 0,.int .u8 2,.int .i64 0,.int .u8 4,.int .i64 0,.int .i64 0,.int .u8 0,.int .i64 0,.int .i64 0,.int .u8 0,.string ⟨#[]⟩,.string ⟨#[]⟩,.string ⟨#[]⟩]:World))).heap[g4]?=some (.cells #[.func (.func 157) #[] #[aD g2 0]] 177 (0,0))):=qj (zbU HA.out.fn HA.out.ne.2.2.1 _ _ _ _ _ _ _ _ _ _ _ _ _ _)
 have HRC:Hid (zbj (((SW.mk w4 g3 [.func (.func 165) #[] #[],.int .i64 0,.int .u8 2,.int .i64 0,.int .u8 4,.int .i64 0,.int .i64 0,.int .u8 0,.int .i64 0,.int .i64 0,.int .u8 0,.string ⟨#[]⟩,.string ⟨#[]⟩,.string ⟨#[]⟩]:World))) g p):=qj (zbU HA.out.rec_ HA.out.ne.1 _ _ _ _ _ _ _ _ _ _ _ _ _ _)
 go_wp2_with fail
 generalize ((SW.mk w4 g3 [.func (.func 165) #[] #[],.int .i64 0,.int .u8 2,.int .i64 0,.int .u8 4,.int .i64 0,.int .i64 0,.int .u8 0,.int .i64 0,.int .i64 0,.int .u8 0,.string ⟨#[]⟩,.string ⟨#[]⟩,.string ⟨#[]⟩]:World))=V at *
 clear z0 z1 z2 z3 z4 z5 z6 z7 z8 z9 z10 z11 z12 z13 y0 y1 y2 y3 y4 y5 y6 y7 y8 y9 y10 y11 y12 y13
 obtain ⟨z0,z1,z2,z3,z4,z5,z6,z7,z8,z9,z10,z11,z12,z13⟩:=cr14 (HRW.out)
 refine bodyPost_ret (v:=.agg #[.func (.func 165) #[] #[],.int .i64 0,.int .u8 2,.int .i64 0,.int .u8 4,.int .i64 0,.int .i64 0,.int .u8 0,.int .i64 0,.int .i64 0,.int .u8 0,.string ⟨#[]⟩,.string ⟨#[]⟩,.string ⟨#[]⟩]) (by simp [results,Tryz.results123,go_sem,z0,z1,z2,z3,z4,z5,z6,z7,z8,z9,z10,z11,z12,z13]) rfl ⟨_,_,rfl,HEW.out,znn,?_⟩
 exact fun c V2 _=>ziJ c V2
theorem zmb (p:Rec) (f0 f1:CopL) (i:Int) (w:World) (ho:isR p i=false) (hc:covB p f0 f1 i=false) (hp:badB p.st=false) (hb:hasB f0 f1=true) :
 Calls Tryz.prog 123 #[.agg p,.agg (f0,f1),.int .i64 i] w fun e w'=>∃(F:Nat) (caps:Array Value),e=.returned (.agg #[.func (.func F) #[] caps,.int .i64 0,.int .u8 1,.int .i64 0,.int .u8 1,.int .i64 0,.int .i64 0,.int .u8 0,.int .i64 0,.int .i64 0,.int .u8 0,.string ⟨#[]⟩,.string ⟨#[]⟩,.string ⟨#[]⟩])∧Ext w w'∧Enters Tryz.prog F∧∀c,Asks w' F caps c (isB c i):=by
 have hmf:∀(fn:Fn) (first cap:Array Value) (w:World),(Instr.makeFunc fn first cap).run Tryz.prog w=.ok (.func fn first cap) w:=fun _ _ _ _=>rfl
 have HA:=qj (ApS.make w p f0 f1 i)
 have HF:=qj (zcL (p.st:Int) p.ix i)
 have HV:=qj (zbn p f0 f1 i)
 have HB:=qj (zcf (p.st:Int))
 have hqo:isR p i=false:=ho
 unfold isR at hqo
 rw [hqo] at HF
 clear hqo ho
 rw [show covB p f0 f1 i=false from hc] at HV
 clear hc
 rw [show ((p.st:Int) != 0 && (p.st:Int) != 1)=false from hp] at HB
 clear hp
 go_enter Tryz.func123,Tryz.ntmps123
 go_upto_region 2 with (fail)
 generalize (((((w.alloc (.cells p 90)).alloc (.cells (f0,f1) 93)).alloc (.cells #[.int .i64 i] 3)).alloc (.cells Zk.g 179)).alloc (.cells #[.func (.func 157) #[] #[aD (w.heap.size+1+1) 0]] 177))=W at *
 generalize w.heap.size+1+1+1+1=g4 at *
 generalize w.heap.size+1+1+1=g3 at *
 generalize w.heap.size+1+1=g2 at *
 generalize w.heap.size+1=g1 at *
 generalize hg:w.heap.size=g at *
 have HG:=qj hg
 clear hg
 have HC:=qj (zbf 160 #[] f0 f1 (badB f0.st) (badB f1.st) g1 2 W zgq HA.out.two (fun V _=>zaR f0 V) (fun V _=>zaR f1 V))
 rw [show (badB f0.st || badB f1.st)=true from hb] at HC
 clear hb
 go_wp2_with fail
 refine HC.out.mono ?_
 rintro e w1 ⟨rfl,hx⟩
 have HA:=qj (HA.out.mono hx)
 clear hx HC
 obtain ⟨c0,c1,c2,c3,c4⟩:=cr5 (HA.out.rec_)
 obtain ⟨d0,d1,d2,d3,d4,d5,d6,d7,d8,d9,d10,d11,d12,d13,d14,d15,d16,d17,d18,d19,d20,d21⟩:=cr22 (HA.out.two)
 have k2:=cell_of_row w1 g2 0 _ _ _ HA.out.ix
 have k4:=cell_of_row w1 g4 0 _ _ _ HA.out.fn
 go_wp2_with fail
 refine (HF.out _).mono ?_
 rintro e w2 ⟨rfl,rfl⟩
 clear k4 d0 d1 d2 d3 d4 d5 d6 d7 d8 d9 d10 d11 d12 d13 d14 d15 d16 d17 d18 d19 d20 d21
 obtain ⟨N,hN,hsz⟩:=zaz
 have hld:=zar hN HA.out.two
 have HNN:=qj hN
 clear hN
 go_wp2_with fail
 refine (HV.out _).mono ?_
 rintro e w3 ⟨rfl,hx⟩
 have HA:=qj (HA.out.mono hx)
 clear hx HV c0 c1 c2 c3 c4 k2 hsz hld HNN
 have c0:=cell_of_row w3 g 0 _ _ _ HA.out.rec_
 have k4:=cell_of_row w3 g4 0 _ _ _ HA.out.fn
 go_wp2_with fail
 refine (HB.out _).mono ?_
 rintro e w4 ⟨rfl,rfl⟩
 obtain ⟨z0,z1,z2,z3,z4,z5,z6,z7,z8,z9,z10,z11,z12,z13⟩:=cr14 (HA.out.rule)
 obtain ⟨y0,y1,y2,y3,y4,y5,y6,y7,y8,y9,y10,y11,y12,y13⟩:=fr14 (HA.out.rule)
 have HRW:Hid ((((SW.mk w4 g3 [.func (.func 157) #[] #[aD g2 0],.int .i64 0,.int .u8 1,.int .i64 0,.int .u8 1,.int .i64 0,.int .i64 0,.int .u8 0,.int .i64 0,.int .i64 0,.int .u8 0,.string ⟨#[]⟩,.string ⟨#[]⟩,.string ⟨#[]⟩]:World))).heap[g3]?=some (.cells #[.func (.func 157) #[] #[aD g2 0],.int .i64 0,.int .u8 1,.int .i64 0,.int .u8 1,.int .i64 0,.int .i64 0,.int .u8 0,.int .i64 0,.int .i64 0,.int .u8 0,.string ⟨#[]⟩,.string ⟨#[]⟩,.string ⟨#[]⟩] 179 (0,0))):=qj (zjd HA.out.rule _ _ _ _ _ _ _ _ _ _ _ _ _ _)
 have HEW:Hid (Ext w (((SW.mk w4 g3 [.func (.func 157) #[] #[aD g2 0],.int .i64 0,.int .u8 1,.int .i64 0,.int .u8 1,.int .i64 0,.int .i64 0,.int .u8 0,.int .i64 0,.int .i64 0,.int .u8 0,.string ⟨#[]⟩,.string ⟨#[]⟩,.string ⟨#[]⟩]:World)))):=qj (ziA HA.out.ext HA.out.ne.2.2.2 _ _ _ _ _ _ _ _ _ _ _ _ _ _)
 have HIX:Hid ((((SW.mk w4 g3 [.func (.func 157) #[] #[aD g2 0],.int .i64 0,.int .u8 1,.int .i64 0,.int .u8 1,.int .i64 0,.int .i64 0,.int .u8 0,.int .i64 0,.int .i64 0,.int .u8 0,.string ⟨#[]⟩,.string ⟨#[]⟩,.string ⟨#[]⟩]:World))).heap[g2]?=some (.cells #[.int .i64 i] 3 (0,0))):=qj (zbU HA.out.ix HA.out.ne.2.1 _ _ _ _ _ _ _ _ _ _ _ _ _ _)
 have HFN:Hid ((((SW.mk w4 g3 [.func (.func 157) #[] #[aD g2 0],.int .i64 0,.int .u8 1,.int .i64 0,.int .u8 1,.int .i64 0,.int .i64 0,.int .u8 0,.int .i64 0,.int .i64 0,.int .u8 0,.string ⟨#[]⟩,.string ⟨#[]⟩,.string ⟨#[]⟩]:World))).heap[g4]?=some (.cells #[.func (.func 157) #[] #[aD g2 0]] 177 (0,0))):=qj (zbU HA.out.fn HA.out.ne.2.2.1 _ _ _ _ _ _ _ _ _ _ _ _ _ _)
 have HRC:Hid (zbj (((SW.mk w4 g3 [.func (.func 157) #[] #[aD g2 0],.int .i64 0,.int .u8 1,.int .i64 0,.int .u8 1,.int .i64 0,.int .i64 0,.int .u8 0,.int .i64 0,.int .i64 0,.int .u8 0,.string ⟨#[]⟩,.string ⟨#[]⟩,.string ⟨#[]⟩]:World))) g p):=qj (zbU HA.out.rec_ HA.out.ne.1 _ _ _ _ _ _ _ _ _ _ _ _ _ _)
 go_wp2_with fail
 generalize ((SW.mk w4 g3 [.func (.func 157) #[] #[aD g2 0],.int .i64 0,.int .u8 1,.int .i64 0,.int .u8 1,.int .i64 0,.int .i64 0,.int .u8 0,.int .i64 0,.int .i64 0,.int .u8 0,.string ⟨#[]⟩,.string ⟨#[]⟩,.string ⟨#[]⟩]:World))=V at *
 clear z0 z1 z2 z3 z4 z5 z6 z7 z8 z9 z10 z11 z12 z13 y0 y1 y2 y3 y4 y5 y6 y7 y8 y9 y10 y11 y12 y13
 obtain ⟨z0,z1,z2,z3,z4,z5,z6,z7,z8,z9,z10,z11,z12,z13⟩:=cr14 (HRW.out)
 refine bodyPost_ret (v:=.agg #[.func (.func 157) #[] #[aD g2 0],.int .i64 0,.int .u8 1,.int .i64 0,.int .u8 1,.int .i64 0,.int .i64 0,.int .u8 0,.int .i64 0,.int .i64 0,.int .u8 0,.string ⟨#[]⟩,.string ⟨#[]⟩,.string ⟨#[]⟩]) (by simp [results,Tryz.results123,go_sem,z0,z1,z2,z3,z4,z5,z6,z7,z8,z9,z10,z11,z12,z13]) rfl ⟨_,_,rfl,HEW.out,zhr,?_⟩
 exact fun c V2 hv=>zcg c g2 i V2 (cell_of_row _ _ 0 _ _ _ (zaa hv HIX.out))
theorem zmC (p:Rec) (f0 f1:CopL) (i:Int) (w:World) (ho:isR p i=false) (hc:covB p f0 f1 i=false) (hp:badB p.st=true) (hb:hasB f0 f1=false) :
 Calls Tryz.prog 123 #[.agg p,.agg (f0,f1),.int .i64 i] w fun e w'=>∃(F:Nat) (caps:Array Value),e=.returned (.agg #[.func (.func F) #[] caps,.int .i64 0,.int .u8 0,.int .i64 0,.int .u8 1,.int .i64 0,.int .i64 0,.int .u8 0,.int .i64 0,.int .i64 0,.int .u8 0,.string ⟨#[]⟩,.string ⟨#[]⟩,.string ⟨#[]⟩])∧Ext w w'∧Enters Tryz.prog F∧∀c,Asks w' F caps c (isB c i):=by
 have hmf:∀(fn:Fn) (first cap:Array Value) (w:World),(Instr.makeFunc fn first cap).run Tryz.prog w=.ok (.func fn first cap) w:=fun _ _ _ _=>rfl
 have HA:=qj (ApS.make w p f0 f1 i)
 have HF:=qj (zcL (p.st:Int) p.ix i)
 have HV:=qj (zbn p f0 f1 i)
 have HB:=qj (zcf (p.st:Int))
 have hqo:isR p i=false:=ho
 unfold isR at hqo
 rw [hqo] at HF
 clear hqo ho
 rw [show covB p f0 f1 i=false from hc] at HV
 clear hc
 rw [show ((p.st:Int) != 0 && (p.st:Int) != 1)=true from hp] at HB
 clear hp
 go_enter Tryz.func123,Tryz.ntmps123
 go_upto_region 2 with (fail)
 generalize (((((w.alloc (.cells p 90)).alloc (.cells (f0,f1) 93)).alloc (.cells #[.int .i64 i] 3)).alloc (.cells Zk.g 179)).alloc (.cells #[.func (.func 157) #[] #[aD (w.heap.size+1+1) 0]] 177))=W at *
 generalize w.heap.size+1+1+1+1=g4 at *
 generalize w.heap.size+1+1+1=g3 at *
 generalize w.heap.size+1+1=g2 at *
 generalize w.heap.size+1=g1 at *
 generalize hg:w.heap.size=g at *
 have HG:=qj hg
 clear hg
 have HC:=qj (zbf 160 #[] f0 f1 (badB f0.st) (badB f1.st) g1 2 W zgq HA.out.two (fun V _=>zaR f0 V) (fun V _=>zaR f1 V))
 rw [show (badB f0.st || badB f1.st)=false from hb] at HC
 clear hb
 go_wp2_with fail
 refine HC.out.mono ?_
 rintro e w1 ⟨rfl,hx⟩
 have HA:=qj (HA.out.mono hx)
 clear hx HC
 obtain ⟨c0,c1,c2,c3,c4⟩:=cr5 (HA.out.rec_)
 obtain ⟨d0,d1,d2,d3,d4,d5,d6,d7,d8,d9,d10,d11,d12,d13,d14,d15,d16,d17,d18,d19,d20,d21⟩:=cr22 (HA.out.two)
 have k2:=cell_of_row w1 g2 0 _ _ _ HA.out.ix
 have k4:=cell_of_row w1 g4 0 _ _ _ HA.out.fn
 go_wp2_with fail
 refine (HF.out _).mono ?_
 rintro e w2 ⟨rfl,rfl⟩
 clear k4 d0 d1 d2 d3 d4 d5 d6 d7 d8 d9 d10 d11 d12 d13 d14 d15 d16 d17 d18 d19 d20 d21
 obtain ⟨N,hN,hsz⟩:=zaz
 have hld:=zar hN HA.out.two
 have HNN:=qj hN
 clear hN
 go_wp2_with fail
 refine (HV.out _).mono ?_
 rintro e w3 ⟨rfl,hx⟩
 have HA:=qj (HA.out.mono hx)
 clear hx HV c0 c1 c2 c3 c4 k2 hsz hld HNN
 have c0:=cell_of_row w3 g 0 _ _ _ HA.out.rec_
 have k4:=cell_of_row w3 g4 0 _ _ _ HA.out.fn
 go_wp2_with fail
 refine (HB.out _).mono ?_
 rintro e w4 ⟨rfl,rfl⟩
 obtain ⟨z0,z1,z2,z3,z4,z5,z6,z7,z8,z9,z10,z11,z12,z13⟩:=cr14 (HA.out.rule)
 obtain ⟨y0,y1,y2,y3,y4,y5,y6,y7,y8,y9,y10,y11,y12,y13⟩:=fr14 (HA.out.rule)
 have HRW:Hid ((((SW.mk w4 g3 [.func (.func 157) #[] #[aD g2 0],.int .i64 0,.int .u8 0,.int .i64 0,.int .u8 1,.int .i64 0,.int .i64 0,.int .u8 0,.int .i64 0,.int .i64 0,.int .u8 0,.string ⟨#[]⟩,.string ⟨#[]⟩,.string ⟨#[]⟩]:World))).heap[g3]?=some (.cells #[.func (.func 157) #[] #[aD g2 0],.int .i64 0,.int .u8 0,.int .i64 0,.int .u8 1,.int .i64 0,.int .i64 0,.int .u8 0,.int .i64 0,.int .i64 0,.int .u8 0,.string ⟨#[]⟩,.string ⟨#[]⟩,.string ⟨#[]⟩] 179 (0,0))):=qj (zjd HA.out.rule _ _ _ _ _ _ _ _ _ _ _ _ _ _)
 have HEW:Hid (Ext w (((SW.mk w4 g3 [.func (.func 157) #[] #[aD g2 0],.int .i64 0,.int .u8 0,.int .i64 0,.int .u8 1,.int .i64 0,.int .i64 0,.int .u8 0,.int .i64 0,.int .i64 0,.int .u8 0,.string ⟨#[]⟩,.string ⟨#[]⟩,.string ⟨#[]⟩]:World)))):=qj (ziA HA.out.ext HA.out.ne.2.2.2 _ _ _ _ _ _ _ _ _ _ _ _ _ _)
 have HIX:Hid ((((SW.mk w4 g3 [.func (.func 157) #[] #[aD g2 0],.int .i64 0,.int .u8 0,.int .i64 0,.int .u8 1,.int .i64 0,.int .i64 0,.int .u8 0,.int .i64 0,.int .i64 0,.int .u8 0,.string ⟨#[]⟩,.string ⟨#[]⟩,.string ⟨#[]⟩]:World))).heap[g2]?=some (.cells #[.int .i64 i] 3 (0,0))):=qj (zbU HA.out.ix HA.out.ne.2.1 _ _ _ _ _ _ _ _ _ _ _ _ _ _)
 have HFN:Hid ((((SW.mk w4 g3 [.func (.func 157) #[] #[aD g2 0],.int .i64 0,.int .u8 0,.int .i64 0,.int .u8 1,.int .i64 0,.int .i64 0,.int .u8 0,.int .i64 0,.int .i64 0,.int .u8 0,.string ⟨#[]⟩,.string ⟨#[]⟩,.string ⟨#[]⟩]:World))).heap[g4]?=some (.cells #[.func (.func 157) #[] #[aD g2 0]] 177 (0,0))):=qj (zbU HA.out.fn HA.out.ne.2.2.1 _ _ _ _ _ _ _ _ _ _ _ _ _ _)
 have HRC:Hid (zbj (((SW.mk w4 g3 [.func (.func 157) #[] #[aD g2 0],.int .i64 0,.int .u8 0,.int .i64 0,.int .u8 1,.int .i64 0,.int .i64 0,.int .u8 0,.int .i64 0,.int .i64 0,.int .u8 0,.string ⟨#[]⟩,.string ⟨#[]⟩,.string ⟨#[]⟩]:World))) g p):=qj (zbU HA.out.rec_ HA.out.ne.1 _ _ _ _ _ _ _ _ _ _ _ _ _ _)
 go_wp2_with fail
 generalize ((SW.mk w4 g3 [.func (.func 157) #[] #[aD g2 0],.int .i64 0,.int .u8 0,.int .i64 0,.int .u8 1,.int .i64 0,.int .i64 0,.int .u8 0,.int .i64 0,.int .i64 0,.int .u8 0,.string ⟨#[]⟩,.string ⟨#[]⟩,.string ⟨#[]⟩]:World))=V at *
 clear z0 z1 z2 z3 z4 z5 z6 z7 z8 z9 z10 z11 z12 z13 y0 y1 y2 y3 y4 y5 y6 y7 y8 y9 y10 y11 y12 y13
 obtain ⟨z0,z1,z2,z3,z4,z5,z6,z7,z8,z9,z10,z11,z12,z13⟩:=cr14 (HRW.out)
 refine bodyPost_ret (v:=.agg #[.func (.func 157) #[] #[aD g2 0],.int .i64 0,.int .u8 0,.int .i64 0,.int .u8 1,.int .i64 0,.int .i64 0,.int .u8 0,.int .i64 0,.int .i64 0,.int .u8 0,.string ⟨#[]⟩,.string ⟨#[]⟩,.string ⟨#[]⟩]) (by simp [results,Tryz.results123,go_sem,z0,z1,z2,z3,z4,z5,z6,z7,z8,z9,z10,z11,z12,z13]) rfl ⟨_,_,rfl,HEW.out,zhr,?_⟩
 exact fun c V2 hv=>zcg c g2 i V2 (cell_of_row _ _ 0 _ _ _ (zaa hv HIX.out))
theorem zmN (p:Rec) (f0 f1:CopL) (i:Int) (w:World) (ho:isR p i=false) (hc:covB p f0 f1 i=false) (hp:badB p.st=false) (hb:hasB f0 f1=false) :
 Calls Tryz.prog 123 #[.agg p,.agg (f0,f1),.int .i64 i] w fun e w'=>∃(F:Nat) (caps:Array Value),e=.returned (.agg #[.func (.func F) #[] caps,.int .i64 0,.int .u8 0,.int .i64 0,.int .u8 1,.int .i64 0,.int .i64 0,.int .u8 0,.int .i64 0,.int .i64 0,.int .u8 0,.string ⟨#[]⟩,.string ⟨#[]⟩,.string ⟨#[]⟩])∧Ext w w'∧Enters Tryz.prog F∧∀c,Asks w' F caps c (isB c i):=by
 have hmf:∀(fn:Fn) (first cap:Array Value) (w:World),(Instr.makeFunc fn first cap).run Tryz.prog w=.ok (.func fn first cap) w:=fun _ _ _ _=>rfl
 have HA:=qj (ApS.make w p f0 f1 i)
 have HF:=qj (zcL (p.st:Int) p.ix i)
 have HV:=qj (zbn p f0 f1 i)
 have HB:=qj (zcf (p.st:Int))
 have hqo:isR p i=false:=ho
 unfold isR at hqo
 rw [hqo] at HF
 clear hqo ho
 rw [show covB p f0 f1 i=false from hc] at HV
 clear hc
 rw [show ((p.st:Int) != 0 && (p.st:Int) != 1)=false from hp] at HB
 clear hp
 go_enter Tryz.func123,Tryz.ntmps123
 go_upto_region 2 with (fail)
 generalize (((((w.alloc (.cells p 90)).alloc (.cells (f0,f1) 93)).alloc (.cells #[.int .i64 i] 3)).alloc (.cells Zk.g 179)).alloc (.cells #[.func (.func 157) #[] #[aD (w.heap.size+1+1) 0]] 177))=W at *
 generalize w.heap.size+1+1+1+1=g4 at *
 generalize w.heap.size+1+1+1=g3 at *
 generalize w.heap.size+1+1=g2 at *
 generalize w.heap.size+1=g1 at *
 generalize hg:w.heap.size=g at *
 have HG:=qj hg
 clear hg
 have HC:=qj (zbf 160 #[] f0 f1 (badB f0.st) (badB f1.st) g1 2 W zgq HA.out.two (fun V _=>zaR f0 V) (fun V _=>zaR f1 V))
 rw [show (badB f0.st || badB f1.st)=false from hb] at HC
 clear hb
 go_wp2_with fail
 refine HC.out.mono ?_
 rintro e w1 ⟨rfl,hx⟩
 have HA:=qj (HA.out.mono hx)
 clear hx HC
 obtain ⟨c0,c1,c2,c3,c4⟩:=cr5 (HA.out.rec_)
 obtain ⟨d0,d1,d2,d3,d4,d5,d6,d7,d8,d9,d10,d11,d12,d13,d14,d15,d16,d17,d18,d19,d20,d21⟩:=cr22 (HA.out.two)
 have k2:=cell_of_row w1 g2 0 _ _ _ HA.out.ix
 have k4:=cell_of_row w1 g4 0 _ _ _ HA.out.fn
 go_wp2_with fail
 refine (HF.out _).mono ?_
 rintro e w2 ⟨rfl,rfl⟩
 clear k4 d0 d1 d2 d3 d4 d5 d6 d7 d8 d9 d10 d11 d12 d13 d14 d15 d16 d17 d18 d19 d20 d21
 obtain ⟨N,hN,hsz⟩:=zaz
 have hld:=zar hN HA.out.two
 have HNN:=qj hN
 clear hN
 go_wp2_with fail
 refine (HV.out _).mono ?_
 rintro e w3 ⟨rfl,hx⟩
 have HA:=qj (HA.out.mono hx)
 clear hx HV c0 c1 c2 c3 c4 k2 hsz hld HNN
 have c0:=cell_of_row w3 g 0 _ _ _ HA.out.rec_
 have k4:=cell_of_row w3 g4 0 _ _ _ HA.out.fn
 go_wp2_with fail
 refine (HB.out _).mono ?_
 rintro e w4 ⟨rfl,rfl⟩
 obtain ⟨z0,z1,z2,z3,z4,z5,z6,z7,z8,z9,z10,z11,z12,z13⟩:=cr14 (HA.out.rule)
 obtain ⟨y0,y1,y2,y3,y4,y5,y6,y7,y8,y9,y10,y11,y12,y13⟩:=fr14 (HA.out.rule)
 have HRW:Hid ((((SW.mk w4 g3 [.func (.func 157) #[] #[aD g2 0],.int .i64 0,.int .u8 0,.int .i64 0,.int .u8 1,.int .i64 0,.int .i64 0,.int .u8 0,.int .i64 0,.int .i64 0,.int .u8 0,.string ⟨#[]⟩,.string ⟨#[]⟩,.string ⟨#[]⟩]:World))).heap[g3]?=some (.cells #[.func (.func 157) #[] #[aD g2 0],.int .i64 0,.int .u8 0,.int .i64 0,.int .u8 1,.int .i64 0,.int .i64 0,.int .u8 0,.int .i64 0,.int .i64 0,.int .u8 0,.string ⟨#[]⟩,.string ⟨#[]⟩,.string ⟨#[]⟩] 179 (0,0))):=qj (zjd HA.out.rule _ _ _ _ _ _ _ _ _ _ _ _ _ _)
 have HEW:Hid (Ext w (((SW.mk w4 g3 [.func (.func 157) #[] #[aD g2 0],.int .i64 0,.int .u8 0,.int .i64 0,.int .u8 1,.int .i64 0,.int .i64 0,.int .u8 0,.int .i64 0,.int .i64 0,.int .u8 0,.string ⟨#[]⟩,.string ⟨#[]⟩,.string ⟨#[]⟩]:World)))):=qj (ziA HA.out.ext HA.out.ne.2.2.2 _ _ _ _ _ _ _ _ _ _ _ _ _ _)
 have HIX:Hid ((((SW.mk w4 g3 [.func (.func 157) #[] #[aD g2 0],.int .i64 0,.int .u8 0,.int .i64 0,.int .u8 1,.int .i64 0,.int .i64 0,.int .u8 0,.int .i64 0,.int .i64 0,.int .u8 0,.string ⟨#[]⟩,.string ⟨#[]⟩,.string ⟨#[]⟩]:World))).heap[g2]?=some (.cells #[.int .i64 i] 3 (0,0))):=qj (zbU HA.out.ix HA.out.ne.2.1 _ _ _ _ _ _ _ _ _ _ _ _ _ _)
 have HFN:Hid ((((SW.mk w4 g3 [.func (.func 157) #[] #[aD g2 0],.int .i64 0,.int .u8 0,.int .i64 0,.int .u8 1,.int .i64 0,.int .i64 0,.int .u8 0,.int .i64 0,.int .i64 0,.int .u8 0,.string ⟨#[]⟩,.string ⟨#[]⟩,.string ⟨#[]⟩]:World))).heap[g4]?=some (.cells #[.func (.func 157) #[] #[aD g2 0]] 177 (0,0))):=qj (zbU HA.out.fn HA.out.ne.2.2.1 _ _ _ _ _ _ _ _ _ _ _ _ _ _)
 have HRC:Hid (zbj (((SW.mk w4 g3 [.func (.func 157) #[] #[aD g2 0],.int .i64 0,.int .u8 0,.int .i64 0,.int .u8 1,.int .i64 0,.int .i64 0,.int .u8 0,.int .i64 0,.int .i64 0,.int .u8 0,.string ⟨#[]⟩,.string ⟨#[]⟩,.string ⟨#[]⟩]:World))) g p):=qj (zbU HA.out.rec_ HA.out.ne.1 _ _ _ _ _ _ _ _ _ _ _ _ _ _)
 go_wp2_with fail
 generalize ((SW.mk w4 g3 [.func (.func 157) #[] #[aD g2 0],.int .i64 0,.int .u8 0,.int .i64 0,.int .u8 1,.int .i64 0,.int .i64 0,.int .u8 0,.int .i64 0,.int .i64 0,.int .u8 0,.string ⟨#[]⟩,.string ⟨#[]⟩,.string ⟨#[]⟩]:World))=V at *
 clear z0 z1 z2 z3 z4 z5 z6 z7 z8 z9 z10 z11 z12 z13 y0 y1 y2 y3 y4 y5 y6 y7 y8 y9 y10 y11 y12 y13
 obtain ⟨z0,z1,z2,z3,z4,z5,z6,z7,z8,z9,z10,z11,z12,z13⟩:=cr14 (HRW.out)
 refine bodyPost_ret (v:=.agg #[.func (.func 157) #[] #[aD g2 0],.int .i64 0,.int .u8 0,.int .i64 0,.int .u8 1,.int .i64 0,.int .i64 0,.int .u8 0,.int .i64 0,.int .i64 0,.int .u8 0,.string ⟨#[]⟩,.string ⟨#[]⟩,.string ⟨#[]⟩]) (by simp [results,Tryz.results123,go_sem,z0,z1,z2,z3,z4,z5,z6,z7,z8,z9,z10,z11,z12,z13]) rfl ⟨_,_,rfl,HEW.out,zhr,?_⟩
 exact fun c V2 hv=>zcg c g2 i V2 (cell_of_row _ _ 0 _ _ _ (zaa hv HIX.out))
def stateL (p:Rec) (f0 f1:CopL) (i:Int):Nat:=if 0≤whereL p f0 f1 i then 2 else if p.of i then 3 else if beyL p f0 f1 i∨(p.st=2∧badL f0 f1) then 4 else 1
theorem zej {a b h a' b' h':Prop} [Decidable a] [Decidable b] [Decidable h] [Decidable a'] [Decidable b'] [Decidable h'] (ha:a↔a') (hb:b↔b') (hh:h↔h'):zco a b h=zco a' b' h':=by
 unfold zco
 by_cases x:a' <;> by_cases y:b' <;> by_cases z:h' <;> simp [ha,hb,hh,x,y,z]
theorem zfM (p:Rec) (f0 f1:CopL) (i fi cl st bx yb:Int) (q:CopL→Bool) (hfi:fi=0∨fi=1) (hq:useL fi (q f0) (q f1) f0 f1=whereL p f0 f1 i) (w:World)
 (hno:whereL p f0 f1 i=-1→cl=(classL p f0 f1 i:Nat)∧st=(stateL p f0 f1 i:Nat)∧bx=repX p f0 f1 i∧yb=repY p f0 f1 i) (hap:∀V,Calls Tryz.prog 123 #[.agg p,.agg (f0,f1),.int .i64 i] V fun e w'=>∃(F:Nat) (caps:Array Value),e=.returned (.agg #[.func (.func F) #[] caps,fi,.int .u8 cl,.int .i64 0,.int .u8 st,bx,yb,.int .u8 0,.int .i64 0,.int .i64 0,.int .u8 0,.string ⟨#[]⟩,.string ⟨#[]⟩,.string ⟨#[]⟩])∧Ext V w'∧Enters Tryz.prog F∧∀c,Asks w' F caps c (q c)) :
 (cL 65 #[.agg p,.agg (f0,f1),.int .i64 i] w (.tuple #[.int .u8 (classL p f0 f1 i:Nat),.agg #[.int .i64 i,.int .u8 (stateL p f0 f1 i:Nat),.int .i64 (repX p f0 f1 i),.int .i64 (repY p f0 f1 i),.int .u8 ((repE p f0 f1 i).k:Int),.int .i64 (repE p f0 f1 i).cl,.int .i64 (repE p f0 f1 i).sq,.int .u8 ((repE p f0 f1 i).ok:Int),.string (repE p f0 f1 i).key,.string (repE p f0 f1 i).old,.string (repE p f0 f1 i).val],.int .i64 (whereL p f0 f1 i)]):Prop):=by
 rcases zdm (p:=p) (f0:=f0) (f1:=f1) (i:=i) with h | ⟨h,_⟩ | ⟨h,_⟩
 ·obtain ⟨rfl,rfl,rfl,rfl⟩:=hno h
  have e1:repE p f0 f1 i={}:=by unfold repE;rw [h];rfl
  refine (znS p f0 f1 i fi _ _ _ _ q hfi (hq.trans h) w hap).mono fun e w' ⟨he,hx⟩=>⟨he.trans ?_,hx⟩
  rw [e1,h]
  rfl
 ·have e1:repE p f0 f1 i=f0.e:=by unfold repE;rw [h];rfl
  have e2:repX p f0 f1 i=f0.bx:=by unfold repX;rw [h];rfl
  have e3:repY p f0 f1 i=f0.yb:=by unfold repY;rw [h];rfl
  have e4:classL p f0 f1 i=3:=zfr.2 (by omega)
  have e5:stateL p f0 f1 i=2:=if_pos (by omega)
  refine (zux p f0 f1 i fi _ _ _ _ q hfi (hq.trans h) w hap).mono fun e w' ⟨he,hx⟩=>⟨he.trans ?_,hx⟩
  rw [e1,e2,e3,e4,e5,h]
  rfl
 ·have e1:repE p f0 f1 i=f1.e:=by unfold repE;rw [h];rfl
  have e2:repX p f0 f1 i=f1.bx:=by unfold repX;rw [h];rfl
  have e3:repY p f0 f1 i=f1.yb:=by unfold repY;rw [h];rfl
  have e4:classL p f0 f1 i=3:=zfr.2 (by omega)
  have e5:stateL p f0 f1 i=2:=if_pos (by omega)
  refine (zui p f0 f1 i fi _ _ _ _ q hfi (hq.trans h) w hap).mono fun e w' ⟨he,hx⟩=>⟨he.trans ?_,hx⟩
  rw [e1,e2,e3,e4,e5,h]
  rfl
theorem zcB {b:Bool} {P:Prop} (h:b=true↔P) (hb:b=false):¬P:=fun hp=>by rw [h.2 hp] at hb;cases hb
theorem zeq (p:Rec) (f0 f1:CopL) (i:Int) (w:World) (hp:p.st≤2) (h0:f0.st≤2) (h1:f1.st≤2) (hw:p.wh=0∨p.wh=1) :
 (cL 65 #[.agg p,.agg (f0,f1),.int .i64 i] w (.tuple #[.int .u8 (classL p f0 f1 i:Nat),.agg #[.int .i64 i,.int .u8 (stateL p f0 f1 i:Nat),.int .i64 (repX p f0 f1 i),.int .i64 (repY p f0 f1 i),.int .u8 ((repE p f0 f1 i).k:Int),.int .i64 (repE p f0 f1 i).cl,.int .i64 (repE p f0 f1 i).sq,.int .u8 ((repE p f0 f1 i).ok:Int),.string (repE p f0 f1 i).key,.string (repE p f0 f1 i).old,.string (repE p f0 f1 i).val],.int .i64 (whereL p f0 f1 i)]):Prop):=by
 cases ho:isR p i with
 | true =>
  have hof:=zgI.1 ho
  refine zfM p f0 f1 i p.wh 2 3 p.bx p.yb (zgH p i) hw ?_ w (fun h=>?_) (fun V=>zpq p f0 f1 i V hw ho)
  ·unfold useL whereL
   rw [if_pos hof]
   by_cases h1w:p.wh=1
   ·rw [if_pos h1w,if_pos h1w]
    exact zej zcU zcU Iff.rfl
   ·rw [if_neg h1w,if_neg h1w]
    exact zej zcU zcU Iff.rfl
  ·unfold classL stateL repX repY
   rw [h]
   simp [hof]
 | false =>
  have hof:¬p.of i:=zcB zgI ho
  have blind:beyL p f0 f1 i∨(p.st=2∧badL f0 f1)→(∀V,Calls Tryz.prog 123 #[.agg p,.agg (f0,f1),.int .i64 i] V fun e w'=>∃(F:Nat) (caps:Array Value),e=.returned (.agg #[.func (.func F) #[] caps,.int .i64 0,.int .u8 2,.int .i64 0,.int .u8 4,.int .i64 0,.int .i64 0,.int .u8 0,.int .i64 0,.int .i64 0,.int .u8 0,.string ⟨#[]⟩,.string ⟨#[]⟩,.string ⟨#[]⟩])∧Ext V w'∧Enters Tryz.prog F∧∀c,Asks w' F caps c (false)) →
   (cL 65 #[.agg p,.agg (f0,f1),.int .i64 i] w (.tuple #[.int .u8 (classL p f0 f1 i:Nat),.agg #[.int .i64 i,.int .u8 (stateL p f0 f1 i:Nat),.int .i64 (repX p f0 f1 i),.int .i64 (repY p f0 f1 i),.int .u8 ((repE p f0 f1 i).k:Int),.int .i64 (repE p f0 f1 i).cl,.int .i64 (repE p f0 f1 i).sq,.int .u8 ((repE p f0 f1 i).ok:Int),.string (repE p f0 f1 i).key,.string (repE p f0 f1 i).old,.string (repE p f0 f1 i).val],.int .i64 (whereL p f0 f1 i)]):Prop):=fun hb hap=>by
   have hwh:whereL p f0 f1 i=-1:=by unfold whereL;rw [if_neg hof,if_pos hb]
   refine zfM p f0 f1 i 0 2 4 0 0 (fun _=>false) (.inl rfl) (by rw [hwh];rfl) w (fun h=>?_) hap
   unfold classL stateL repX repY
   rw [h]
   simp [hof,hb]
  have plain:∀cl:Int,¬(beyL p f0 f1 i∨(p.st=2∧badL f0 f1))→(cl=if badL f0 f1 then 1 else 0)→(∀V,Calls Tryz.prog 123 #[.agg p,.agg (f0,f1),.int .i64 i] V fun e w'=>∃(F:Nat) (caps:Array Value),e=.returned (.agg #[.func (.func F) #[] caps,.int .i64 0,.int .u8 cl,.int .i64 0,.int .u8 1,.int .i64 0,.int .i64 0,.int .u8 0,.int .i64 0,.int .i64 0,.int .u8 0,.string ⟨#[]⟩,.string ⟨#[]⟩,.string ⟨#[]⟩])∧Ext V w'∧Enters Tryz.prog F∧∀c,Asks w' F caps c (isB c i)) →
   (cL 65 #[.agg p,.agg (f0,f1),.int .i64 i] w (.tuple #[.int .u8 (classL p f0 f1 i:Nat),.agg #[.int .i64 i,.int .u8 (stateL p f0 f1 i:Nat),.int .i64 (repX p f0 f1 i),.int .i64 (repY p f0 f1 i),.int .u8 ((repE p f0 f1 i).k:Int),.int .i64 (repE p f0 f1 i).cl,.int .i64 (repE p f0 f1 i).sq,.int .u8 ((repE p f0 f1 i).ok:Int),.string (repE p f0 f1 i).key,.string (repE p f0 f1 i).old,.string (repE p f0 f1 i).val],.int .i64 (whereL p f0 f1 i)]):Prop):=fun cl hb hcl hap=>by
   refine zfM p f0 f1 i 0 cl 1 0 0 (fun c=>isB c i) (.inl rfl) ?_ w (fun h=>?_) hap
   ·unfold useL whereL
    rw [if_neg hof,if_neg hb,if_neg (by omega)]
    exact zej zen zen Iff.rfl
   ·rw [hcl]
    unfold classL stateL repX repY
    rw [h]
    have n0:¬(0:Int)≤-1:=by omega
    simp only [n0,hof,hb,if_false]
    by_cases hx:badL f0 f1 <;> simp [hx]
  cases hc:covB p f0 f1 i with
  | true=>exact blind (.inl (zdM.1 hc)) fun V=>zol p f0 f1 i V ho hc
  | false =>
   have hnc:=zcB zdM hc
   cases hb:hasB f0 f1 with
   | true =>
    have hbl:=(zkY h0 h1).1 hb
    cases hpb:badB p.st with
    | true=>exact blind (.inr ⟨(zfn hp).1 hpb,hbl⟩) fun V=>zoX p f0 f1 i V ho hc hpb hb
    | false =>
     have hnp:=zcB (zfn hp) hpb
     exact plain 1 (fun h=>h.elim hnc fun h=>hnp h.1) (by rw [if_pos hbl]) fun V=>zmb p f0 f1 i V ho hc hpb hb
   | false =>
    have hnb:=zcB (zkY h0 h1) hb
    cases hpb:badB p.st with
    | true=>exact plain 0 (fun h=>h.elim hnc fun h=>hnb h.2) (by rw [if_neg hnb]) fun V=>zmC p f0 f1 i V ho hc hpb hb
    | false=>exact plain 0 (fun h=>h.elim hnc fun h=>hnb h.2) (by rw [if_neg hnb]) fun V=>zmN p f0 f1 i V ho hc hpb hb
end Go.Proofs.YtdbpdhlecgoclaaGreatDoor
