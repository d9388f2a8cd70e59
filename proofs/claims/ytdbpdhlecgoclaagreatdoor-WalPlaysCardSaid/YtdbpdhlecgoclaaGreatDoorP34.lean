/-
  The contracts of the manifest's print and parse,and of load.
-/
import Derived.Test.YtdbpdhlecgoclaaGreatDoorP00
import Derived.Test.YtdbpdhlecgoclaaGreatDoorP06
import Derived.Test.YtdbpdhlecgoclaaGreatDoorP07
import Derived.Test.YtdbpdhlecgoclaaGreatDoorP18
import Derived.Test.YtdbpdhlecgoclaaGreatDoorP19
import Derived.Test.YtdbpdhlecgoclaaGreatDoorP20
import Derived.Test.YtdbpdhlecgoclaaGreatDoorP25
import Derived.Test.YtdbpdhlecgoclaaGreatDoorP26
import Derived.Test.YtdbpdhlecgoclaaGreatDoorP27
import Derived.Test.YtdbpdhlecgoclaaGreatDoorP28
import Derived.Test.YtdbpdhlecgoclaaGreatDoorP29
import Derived.Test.YtdbpdhlecgoclaaGreatDoorP32
import Derived.Test.YtdbpdhlecgoclaaGreatDoorP33
import Derived.Deep.RegionHeld3
import Derived.Deep.DeepCutAuto
import Derived.Deep.QuietTactic
import Derived.BigQuiet
import Derived.Deep.MidRow
import Derived.RangeFuncNested
import Derived.RangeFuncBound
import Derived.RangeFuncCalls
import Derived.RangeFuncLeaves
import Derived.Shelf.Abstract
import Derived.Shelf.RegionOpen
import Derived.WalkKit
import Derived.OwnWalkIn
import Derived.TacticsInMore
import Derived.LoopNIn
import Derived.LoopIn
namespace Go.Proofs.YtdbpdhlecgoclaaGreatDoor
set_option maxRecDepth 100000
set_option maxHeartbeats 6400000
open Go Go.RowKit
section
variable {w W W':World} {g g1:Nat} {x y z a b d:Int}
end




section
open Go Go.RowKit Go.Shelf
attribute [local go_sem] Oper.semAt_some
abbrev SlIn:={ k:Nat // k<24 }
def zrV (cls:Nat→Nat) (rpt:Nat→Rpt) (x:SlIn):Array Value:=#[.int .u8 (cls x.1:Int),.agg #[.int .i64 (rpt x.1).ix,.int .u8 ((rpt x.1).st:Int),.int .i64 (rpt x.1).x,.int .i64 (rpt x.1).y,.int .u8 ((rpt x.1).e.k:Int),.int .i64 (rpt x.1).e.cl,.int .i64 (rpt x.1).e.sq,.int .u8 ((rpt x.1).e.ok:Int),.string (rpt x.1).e.key,.string (rpt x.1).e.old,.string (rpt x.1).e.val]]
def zgM (G:Nat→Prop) (W0:World) (g s:Nat) (cls:Nat→Nat) (rpt:Nat→Rpt):Prop :=
 ∀k:Nat,k<24→∀W,Mod G W0 W→Calls Tryz.prog 110 #[.pointer (some ⟨g,0,none⟩),.int .i64 ((s:Int)+1+(k:Int))] W fun e W'=>e=.returned (.tuple #[.int .u8 (cls k:Int),.agg #[.int .i64 (rpt k).ix,.int .u8 ((rpt k).st:Int),.int .i64 (rpt k).x,.int .i64 (rpt k).y,.int .u8 ((rpt k).e.k:Int),.int .i64 (rpt k).e.cl,.int .i64 (rpt k).e.sq,.int .u8 ((rpt k).e.ok:Int),.string (rpt k).e.key,.string (rpt k).e.old,.string (rpt k).e.val]])∧Ext W W'
theorem zoe (g:Nat) (w:World) :
 Calls Tryz.prog 52 #[aD g 0] w fun e w'=>e=.returned (.func (.func 109) #[] #[aD w.heap.size 0])∧w'=w.alloc (.cells #[aD g 0] 31):=by
 go_enter Tryz.func52,Tryz.ntmps52
 go_wp2
 go_ret
 exact ⟨rfl,rfl⟩
theorem zdY {V W:World} {a b:Addr} {v0 v1:Value} (k:Hid (Ext V W)) (h:Hid (V.cell? a=some v0∧V.cell? b=some v1)):W.cell? a=some v0∧W.cell? b=some v1 :=
 ⟨(Below.cell k.out (p:=a) (World.block_lt_of_cell? V _ h.out.1)).trans h.out.1,(Below.cell k.out (p:=b) (World.block_lt_of_cell? V _ h.out.2)).trans h.out.2⟩
theorem zow {V W:World} {a b:Addr} {v0 v1:Value} (o:Nat) (vs:List Value) (k:Hid (Ext V W)) (h:Hid (V.cell? a=some v0∧V.cell? b=some v1)):(W.setCells V.heap.size o vs).cell? a=some v0∧(W.setCells V.heap.size o vs).cell? b=some v1:=by
 have one:∀{c:Addr} {v:Value},V.cell? c=some v→(W.setCells V.heap.size o vs).cell? c=some v:=fun {c _} hc=>by
  have hlt:=World.block_lt_of_cell? V _ hc
  rw [World.cell?_setCells_out V.heap.size vs o W c (fun e=>by omega)]
  exact (Below.cell k.out (p:=c) hlt).trans hc
 exact ⟨one h.out.1,one h.out.2⟩
theorem zmW (n:Nat) (hn:1≤n) (l bl:Nat) (G:Nat→Prop) (g s:Nat) (hs9:s≤1900000000000) (cls:Nat→Nat) (rpt:Nat→Rpt) (J Jx:List SlIn→World→Prop) (W0 V:World) (hV:Mod G W0 V)
 (hAb:∀s W W',J s W→Ext W W'→J s W') (hI:zgM G W0 g s cls rpt) (hGf:¬G bl∧¬G g)
 (hcl:V.cell? (aD bl 0)=some (.pointer (some ⟨g,0,none⟩))) (hcs:V.cell? (aD g 4)=some (.int .i64 (s:Int)))
 (hY:∀pre x W,J pre W→pre.length<24→YieldAt Fence.wide (n-1) Tryz.prog l (zrV cls rpt x) W fun e W' =>
  (e=.returned (.bool true)∧J (pre++[x]) W'∧Mod G W W')∨(e=.returned (.bool false)∧Jx (pre++[x]) W')) (h0:J [] V) :
 CallsIn Fence.wide n Tryz.prog 109 #[.func (.yield l) #[] #[],aD bl 0] V fun e W'=>(∃v,e=.returned v) ∧
  ((∃ys:List SlIn,ys.map (fun x=>x.1)=List.range 24∧J ys W')∨(∃pre:List SlIn,True∧Jx pre W')):=by
 have HI:=qj hI
 have HG:=qj hGf
 have HC:=qj (And.intro hcl hcs)
 have HAB:=qj hAb
 have HV:=qj hV
 have HY:=qj hY
 clear hI hGf hcl hcs hAb hV hY
 refine callsIn_of_wp Tryz.func109 rfl trivial ?_ rfl
 simp only [Tryz.ntmps109,List.size_toArray,List.length_cons,List.length_nil,Nat.reduceAdd,Nat.reduceSub,Array.replicate_succ,Array.replicate_zero,List.push_toArray,List.append_toArray,List.nil_append,List.cons_append]
 gi_wp2
 gi_loopw [6] (fun i wr=>∃(j:Nat) (pre:List SlIn),j≤24∧i=.int .i64 (j:Int)∧Hid (pre.map (fun x=>x.1)=List.range j)∧Hid (J pre wr)∧Hid (Mod G V wr)) (fun i _=>24-(intOf i).toNat)
 case atStart=>exact ⟨0,[],Nat.zero_le _,rfl,qj rfl,qj h0,qj (Mod.refl _ _)⟩
 case round =>
  obtain ⟨j,pre,hj,rfl,HP,HJ,HM⟩:=hrel
  have HC2:Hid (wr.cell? (aD bl 0)=some (.pointer (some ⟨g,0,none⟩))∧wr.cell? (aD g 4)=some (.int .i64 (s:Int))):=qj ⟨zaT HM.out HG.out.1 HC.out.1,zaT HM.out HG.out.2 HC.out.2⟩
  have hC2:=HC2.out
  by_cases hlt:j<24
  ·have HW:Hid (∀V',Hid (Ext wr.drew V')→Calls Tryz.prog 110 #[aD g 0,.int .i64 (IntKind.i64.wrap (IntKind.i64.wrap ((s:Int)+1)+(j:Int)))] V' fun e W'=>e=.returned (.tuple #[.int .u8 (cls j:Int),.agg (rpt j)])∧Ext V' W'):=qj fun V' hV'=>by
    rw [wrap_i64 (x:=(s:Int)+1) (by omega) (by omega),wrap_i64 (by omega) (by omega)]
    exact HI.out j hlt V' ((HV.out.trans HM.out fun _ hi=>.inl hi).ext ((Below.drew (Ext.refl wr)).trans hV'.out))
   have HR0:=qj (Ext.refl wr.drew)
   gi_wp2
   refine wpIn_wide.2 ?_
   have hi11:(Tryz.prog.info? 115).map (·.size)=some 11:=by kernel_rfl
   have HI11:=qj hi11
   clear hi11
   refine wp_region_held_drew (S:=fun w'=>w'.cell? (aD bl 0)=some (.pointer (some ⟨g,0,none⟩))∧w'.cell? (aD g 4)=some (.int .i64 (s:Int))) (by kernel_rfl) (HC2.out) (fun hHeld=>?_)
   refine tj (i:=0) (oi:=⟨some 10,.load 31 (.tmp 1),31, "wal.go:153",#[],none⟩) rfl (by kernel_rfl) ?_
   try simp only [Act.put,sT,s0,s1]
   refine tj (i:=1) (oi:=⟨some 11,.load 31 (.tmp 1),31, "wal.go:153",#[],none⟩) rfl (by kernel_rfl) ?_
   try simp only [Act.put,sT,s0,s1]
   refine tj (i:=2) (oi:=⟨some 12,.nilCheck (.tmp 11),0, "wal.go:153",#[⟨1,.data⟩],none⟩) rfl (by kernel_rfl) ?_
   try simp only [Act.put,sT,s0,s1]
   refine tj (i:=3) (oi:=⟨some 13,.fieldAddr 83 (.tmp 12) 4,0, "wal.go:153",#[⟨2,.data⟩],none⟩) rfl (by kernel_rfl) ?_
   try simp only [Act.put,sT,s0,s1]
   refine tj (i:=4) (oi:=⟨some 14,.load 3 (.tmp 13),3, "wal.go:153",#[⟨3,.data⟩],none⟩) rfl (by kernel_rfl) ?_
   try simp only [Act.put,sT,s0,s1]
   refine tj (i:=5) (oi:=⟨some 15,.binOp .add 3 (.tmp 14) (.const (.int .i64 1)) 3,3, "wal.go:153",#[⟨4,.data⟩],none⟩) rfl (by kernel_rfl) ?_
   try simp only [Act.put,sT,s0,s1]
   refine tj (i:=6) (oi:=⟨some 16,.move (.tmp 3),3, "wal.go:153",#[],none⟩) rfl (by kernel_rfl) ?_
   try simp only [Act.put,sT,s0,s1]
   refine tj (i:=7) (oi:=⟨some 17,.binOp .add 3 (.tmp 15) (.tmp 16) 3,3, "wal.go:153",#[⟨5,.data⟩,⟨6,.data⟩],none⟩) rfl (by kernel_rfl) ?_
   try simp only [Act.put,sT,s0,s1]
   generalize hwd:wr.drew=wd at *
   have HCD:Hid (wd.cell? (aD bl 0)=some (.pointer (some ⟨g,0,none⟩))∧wd.cell? (aD g 4)=some (.int .i64 (s:Int))):=qj (by rw [←hwd];exact HC2.out)
   have HJ2:Hid (J pre wd):=qj (by rw [←hwd];exact HAB.out _ _ _ HJ.out (Below.drew (Ext.refl wr)))
   have HM2:Hid (Mod G V wd):=qj (by rw [←hwd];exact HM.out.drew)
   clear hC2 HC2 hwd
   refine wpAnyH_ready (rs:=[8,12]) (by kernel_rfl) (by simp) ?_
   refine AllReadyH.cons (o:=⟨some 18,.call { callee:=.value (.func 110),args:=#[.tmp 10,.tmp 17],argTypes:=#[31,3] },164, "wal.go:153",#[⟨0,.data⟩,⟨7,.data⟩],none⟩) rfl (fun K hK=>?_) (AllReadyH.cons (o:=⟨some 5,.alloc 115,0, "wal.go:153",#[],none⟩) rfl (fun K hK=>?_) AllReadyH.nil)
   ·go_simp
    refine (HW.out _ HR0).mono ?_
    rintro e w3 ⟨rfl,hx⟩
    have HXk:Hid (Ext wd w3):=qj (HR0.out.trans hx)
    clear hx
    go_wp2_with fail
    refine hK.out _ _ (zdY HXk HCD) (fun hHeld=>?_)
    clear hK K
    try simp only [Act.put,sT,s0,s1]
    refine tj (i:=9) (oi:=⟨some 9,.move (.tmp 18),164, "wal.go:153",#[⟨8,.data⟩],none⟩) rfl (by kernel_rfl) ?_
    try simp only [Act.put,sT,s0,s1]
    refine tj (i:=10) (oi:=⟨some 19,.extract (.tmp 9) 0,5, "wal.go:153",#[⟨9,.data⟩],none⟩) rfl (by kernel_rfl) ?_
    try simp only [Act.put,sT,s0,s1]
    refine tj (i:=11) (oi:=⟨some 20,.extract (.tmp 9) 1,115, "wal.go:153",#[⟨9,.data⟩,⟨13,.gcOnly .lateStores⟩],none⟩) rfl (by kernel_rfl) ?_
    try simp only [Act.put,sT,s0,s1]
    refine wpAnyH_ready (rs:=[12]) (by kernel_rfl) (by simp) ?_
    refine AllReadyH.cons (o:=⟨some 5,.alloc 115,0, "wal.go:153",#[],none⟩) rfl (fun K hK=>?_) AllReadyH.nil
    clear hHeld
    go_simp
    refine hK.out _ _ (zdY (zcb _ HXk) HCD) (fun hHeld=>?_)
    clear hK K
    try simp only [Act.put,sT,s0,s1]
    refine tj (i:=13) (oi:=⟨some 4,.assign (.tmp 19),5, "wal.go:153",#[⟨10,.data⟩,⟨8,.chain⟩,⟨0,.phase⟩,⟨1,.phase⟩,⟨2,.phase⟩,⟨3,.phase⟩,⟨4,.phase⟩,⟨5,.phase⟩,⟨6,.phase⟩,⟨7,.phase⟩,⟨8,.phase⟩,⟨9,.phase⟩,⟨10,.phase⟩,⟨11,.textOnly .lateStores⟩,⟨12,.phase⟩],none⟩) rfl (by kernel_rfl) ?_
    try simp only [Act.put,sT,s0,s1]
    refine wpAnyH_ready (rs:=[14]) (by kernel_rfl) (by simp) ?_
    refine AllReadyH.cons (o:=⟨none,.store 115 (.tmp 5) (.tmp 20),0, "wal.go:153",#[⟨12,.data⟩,⟨11,.data⟩,⟨13,.chain⟩,⟨0,.phase⟩,⟨1,.phase⟩,⟨2,.phase⟩,⟨3,.phase⟩,⟨4,.phase⟩,⟨5,.phase⟩,⟨6,.phase⟩,⟨7,.phase⟩,⟨8,.phase⟩,⟨9,.phase⟩,⟨10,.phase⟩,⟨11,.phase⟩,⟨12,.phase⟩,⟨13,.phase⟩],none⟩) rfl (fun K hK=>?_) AllReadyH.nil
    clear hHeld
    rw [if_pos (by rfl)]
    refine wp_store_mid 115 (.tmp 5) (.tmp 20) rfl w3.heap.size 0 (rpt j) rfl rfl (zbZ (heap_alloc_new w3 _) 0 11 (by simp)) HI11.out (by simp [Value.oneCell']) ?_
    rw [zeb w3 _ (rpt j) _ (by rfl)]
    refine hK.out _ _ (zdY (zcb _ HXk) HCD) (fun hHeld=>?_)
    clear hK K
    simp only [Act.put]
    refine wpAnyH_done (by kernel_rfl) ?_ _
    clear hHeld
    have hrow:=heap_alloc_new w3 (.cells (rpt j) 115)
    have hx:=HXk.out.alloc (.cells (rpt j) 115)
    generalize w3.alloc (.cells (rpt j) 115)=V5 at hrow hx ⊢
    generalize w3.heap.size=b5 at hrow ⊢
    have HROW:=qj hrow
    have HX5:=qj hx
    have HJ5:=qj (HAB.out _ _ _ HJ2.out hx)
    obtain ⟨fn,tmps,assign,body,hy,hR⟩:=HY.out pre ⟨j,hlt⟩ V5 HJ5.out (by have:=congrArg List.length HP.out;simp at this;omega)
    have HR5:=qj hR
    obtain ⟨c0,c1,c2,c3,c4,c5,c6,c7,c8,c9,c10⟩:=cr11 (HROW.out)
    clear hrow hx hR
    have hy2:(Instr.yield l #[.int .u8 (cls j:Int),.agg (rpt j)]).run Tryz.prog V5=.ok (.round l fn tmps assign body) V5:=hy
    clear hy
    gi_wp2
    refine HR5.out.mono ?_
    rintro e W4 (⟨rfl,hJ4,hM4⟩ | ⟨rfl,hJ4⟩)
    ·have HJ4:=qj hJ4
     have HM4:Hid (Mod G V W4):=qj ((HM2.out.ext HX5.out).trans hM4 fun _ hi=>.inl hi)
     clear hJ4 hM4 c0 c1 c2 c3 c4 c5 c6 c7 c8 c9 c10 hy2
     gi_wp2
     go_roundw
     case rel=>exact ⟨j+1,_,by omega,by go_num,qj (by rw [List.map_append,HP.out,List.range_succ];rfl),HJ4,HM4⟩
     case measure=>simp [intOf];omega
    ·have HJ4:=qj hJ4
     clear hJ4 c0 c1 c2 c3 c4 c5 c6 c7 c8 c9 c10 hy2
     gi_wp2
     refine bodyPost_ret (results_none rfl _ _ _) rfl ?_
     exact ⟨⟨_,rfl⟩,.inr ⟨_,trivial,HJ4.out⟩⟩
   ·go_simp
    refine hK.out _ _ (zdY (zcb _ HR0) HCD) (fun hHeld=>?_)
    clear hK K
    try simp only [Act.put,sT,s0,s1]
    refine wpAnyH_ready (rs:=[8]) (by kernel_rfl) (by simp) ?_
    refine AllReadyH.cons (o:=⟨some 18,.call { callee:=.value (.func 110),args:=#[.tmp 10,.tmp 17],argTypes:=#[31,3] },164, "wal.go:153",#[⟨0,.data⟩,⟨7,.data⟩],none⟩) rfl (fun K hK=>?_) AllReadyH.nil
    clear hHeld
    go_simp
    refine (HW.out _ (zcb _ HR0)).mono ?_
    rintro e w3 ⟨rfl,hx⟩
    have HXk:Hid (Ext wd w3):=qj ((zcb _ HR0).out.trans hx)
    have HN2:=qj (ziB hx)
    clear hx
    go_wp2_with fail
    refine hK.out _ _ (zdY HXk HCD) (fun hHeld=>?_)
    clear hK K
    try simp only [Act.put,sT,s0,s1]
    refine tj (i:=9) (oi:=⟨some 9,.move (.tmp 18),164, "wal.go:153",#[⟨8,.data⟩],none⟩) rfl (by kernel_rfl) ?_
    try simp only [Act.put,sT,s0,s1]
    refine tj (i:=10) (oi:=⟨some 19,.extract (.tmp 9) 0,5, "wal.go:153",#[⟨9,.data⟩],none⟩) rfl (by kernel_rfl) ?_
    try simp only [Act.put,sT,s0,s1]
    refine tj (i:=11) (oi:=⟨some 20,.extract (.tmp 9) 1,115, "wal.go:153",#[⟨9,.data⟩,⟨13,.gcOnly .lateStores⟩],none⟩) rfl (by kernel_rfl) ?_
    try simp only [Act.put,sT,s0,s1]
    refine tj (i:=13) (oi:=⟨some 4,.assign (.tmp 19),5, "wal.go:153",#[⟨10,.data⟩,⟨8,.chain⟩,⟨0,.phase⟩,⟨1,.phase⟩,⟨2,.phase⟩,⟨3,.phase⟩,⟨4,.phase⟩,⟨5,.phase⟩,⟨6,.phase⟩,⟨7,.phase⟩,⟨8,.phase⟩,⟨9,.phase⟩,⟨10,.phase⟩,⟨11,.textOnly .lateStores⟩,⟨12,.phase⟩],none⟩) rfl (by kernel_rfl) ?_
    try simp only [Act.put,sT,s0,s1]
    refine wpAnyH_ready (rs:=[14]) (by kernel_rfl) (by simp) ?_
    refine AllReadyH.cons (o:=⟨none,.store 115 (.tmp 5) (.tmp 20),0, "wal.go:153",#[⟨12,.data⟩,⟨11,.data⟩,⟨13,.chain⟩,⟨0,.phase⟩,⟨1,.phase⟩,⟨2,.phase⟩,⟨3,.phase⟩,⟨4,.phase⟩,⟨5,.phase⟩,⟨6,.phase⟩,⟨7,.phase⟩,⟨8,.phase⟩,⟨9,.phase⟩,⟨10,.phase⟩,⟨11,.phase⟩,⟨12,.phase⟩,⟨13,.phase⟩],none⟩) rfl (fun K hK=>?_) AllReadyH.nil
    clear hHeld
    rw [if_pos (by rfl)]
    refine wp_store_mid 115 (.tmp 5) (.tmp 20) rfl wd.heap.size 0 (rpt j) rfl rfl (zbZ HN2.out 0 11 (by simp)) HI11.out (by simp [Value.oneCell']) ?_
    skip
    refine hK.out _ _ (zow _ _ HXk HCD) (fun hHeld=>?_)
    clear hK K
    simp only [Act.put]
    refine wpAnyH_done (by kernel_rfl) ?_ _
    clear hHeld
    have hrow:=zbl HN2.out 0 (rpt j)
    rw [ztR] at hrow
    have hx:=zbm HXk.out (g:=wd.heap.size) (Nat.le_refl _) 0 (rpt j)
    generalize hV5:w3.setCells wd.heap.size 0 [.int .i64 (rpt j).ix,.int .u8 ((rpt j).st:Int),.int .i64 (rpt j).x,.int .i64 (rpt j).y,.int .u8 ((rpt j).e.k:Int),.int .i64 (rpt j).e.cl,.int .i64 (rpt j).e.sq,.int .u8 ((rpt j).e.ok:Int),.string (rpt j).e.key,.string (rpt j).e.old,.string (rpt j).e.val]=V5 at hrow hx ⊢
    clear hV5
    generalize hb5:wd.heap.size=b5 at hrow ⊢
    clear hb5 HN2
    have HROW:=qj hrow
    have HX5:=qj hx
    have HJ5:=qj (HAB.out _ _ _ HJ2.out hx)
    obtain ⟨fn,tmps,assign,body,hy,hR⟩:=HY.out pre ⟨j,hlt⟩ V5 HJ5.out (by have:=congrArg List.length HP.out;simp at this;omega)
    have HR5:=qj hR
    obtain ⟨c0,c1,c2,c3,c4,c5,c6,c7,c8,c9,c10⟩:=cr11 (HROW.out)
    clear hrow hx hR
    have hy2:(Instr.yield l #[.int .u8 (cls j:Int),.agg (rpt j)]).run Tryz.prog V5=.ok (.round l fn tmps assign body) V5:=hy
    clear hy
    gi_wp2
    refine HR5.out.mono ?_
    rintro e W4 (⟨rfl,hJ4,hM4⟩ | ⟨rfl,hJ4⟩)
    ·have HJ4:=qj hJ4
     have HM4:Hid (Mod G V W4):=qj ((HM2.out.ext HX5.out).trans hM4 fun _ hi=>.inl hi)
     clear hJ4 hM4 c0 c1 c2 c3 c4 c5 c6 c7 c8 c9 c10 hy2
     gi_wp2
     go_roundw
     case rel=>exact ⟨j+1,_,by omega,by go_num,qj (by rw [List.map_append,HP.out,List.range_succ];rfl),HJ4,HM4⟩
     case measure=>simp [intOf];omega
    ·have HJ4:=qj hJ4
     clear hJ4 c0 c1 c2 c3 c4 c5 c6 c7 c8 c9 c10 hy2
     gi_wp2
     refine bodyPost_ret (results_none rfl _ _ _) rfl ?_
     exact ⟨⟨_,rfl⟩,.inr ⟨_,trivial,HJ4.out⟩⟩
  ·obtain rfl:j=24:=by omega
   gi_wp2
   go_end0
   exact ⟨⟨_,rfl⟩,.inl ⟨pre,HP.out,HJ.out⟩⟩
theorem zjz (n:Nat) (hn:1≤n) (bl:Nat) (G:Nat→Prop) (g s:Nat) (hs9:s≤1900000000000) (cls:Nat→Nat) (rpt:Nat→Rpt) (W0:World) (hI:zgM G W0 g s cls rpt) (hGf:¬G bl∧¬G g)
 (hcl:W0.cell? (aD bl 0)=some (.pointer (some ⟨g,0,none⟩))) (hcs:W0.cell? (aD g 4)=some (.int .i64 (s:Int))) :
 SeqStopsK Fence.wide n Tryz.prog 109 #[aD bl 0] (zrV cls rpt) (Mod G) (fun ys=>ys.map (fun x=>x.1)=List.range 24) (fun _=>True) 24 W0:=fun l J Jx V hV hJ _ hY h0=>by
 have hx:Ext W0 V:=hV
 have hm:Mod G W0 V:=Mod.of_ext hx
 exact zmW n hn l bl G g s hs9 cls rpt J Jx W0 V hm (fun s W W' hs hx=>hJ s W W' none hs (zjQ hx) (fun r e=>by cases e)) hI hGf (zaT hm hGf.1 hcl) (zaT hm hGf.2 hcs) hY h0
end


section
variable {w0 w w':World} {d:Nat} {F F':Nat→Prop} {m m':DM}
theorem zhz {k:Nat} (h:¬F' k) (hk:k<w.heap.size):¬grow F' w w' k:=fun hg=>hg.elim h (fun hh=>absurd hh.1 (by omega))
end
structure PairW (w0 w:World) (d g e y:Nat) (r inc:Int) (F:Nat→Prop) (p:Nat→Nat) (m:DM) (s:Nat) (m2:DM) (s2:Nat):Prop where
 both:Both w0 w d e F p m m2
 log:LogAt w g d r inc s
 rlog:RLogAt w y e r inc s2
 gF:¬F g
 gp:p g=0
 yF:¬F y
 yp:p y=0
 ne:g≠y
 low:w0.heap.size≤g∧w0.heap.size≤y
section
variable {w0 w w':World} {d g e y:Nat} {r inc:Int} {F:Nat→Prop} {p:Nat→Nat} {m m' m2 m3:DM} {s s' s2 s3:Nat}
theorem PairW.ext (h:PairW w0 w d g e y r inc F p m s m2 s2) (k:Ext w w'):PairW w0 w' d g e y r inc F p m s m2 s2 :=
 ⟨h.both.ext k,h.log.ext k,h.rlog.ext k,h.gF,h.gp,h.yF,h.yp,h.ne,h.low⟩
theorem PairW.ld (h:PairW w0 w d g e y r inc F p m s m2 s2):LD w0 w d F g s r inc m:=⟨h.both.dk,h.log,h.gF,h.low.1⟩
theorem PairW.step (h:PairW w0 w d g e y r inc F p m s m2 s2) (k:Step d F w m' w'):∃F',PairW w0 w' d g e y r inc F' p m' s m2 s2∧KpS w w' F p g y F' p g y :=
 ⟨grow F w w',⟨h.both.of_step k,h.log.mod k.2 h.gF,h.rlog.mod k.2 h.yF,zhz h.gF h.log.lt,h.gp,zhz h.yF h.rlog.lt,h.yp,h.ne,h.low⟩,k.2.size,fun b hb hn=>⟨⟨zhz hn.1 hb,hn.2.1,hn.2.2.1,hn.2.2.2⟩,k.2.block b hb hn.1⟩⟩
theorem PairW.out (h:PairW w0 w d g e y r inc F p m s m2 s2) (k:ROut e p w m3 w'):∃p',PairW w0 w' d g e y r inc F p' m s m3 s2∧KpS w w' F p g y F p' g y:=by
 obtain ⟨p',hd,hm,sub⟩:=k
 have hsz:=h.both.dk.bel.size
 refine ⟨p',⟨⟨h.both.dk.mod hm (fun i hf hp=>h.both.apart i hp hf) h.both.low,hd,fun i hi=>(sub i hi).elim (h.both.low i) fun e=>by omega,fun i hi hf=>?_⟩,h.log.mod hm fun hp=>hp h.gp,h.rlog.mod hm fun hp=>hp h.yp,h.gF,zcC sub h.gp h.log.lt,h.yF,zcC sub h.yp h.rlog.lt,h.ne,h.low⟩,hm.size,fun b hb hn=>⟨⟨hn.1,zcC sub hn.2.1 hb,hn.2.2.1,hn.2.2.2⟩,hm.block b hb fun hp=>hp hn.2.1⟩⟩
 rcases sub i hi with h1 | h1
 ·exact h.both.apart i h1 hf
 ·have:=h.both.dk.disk.lt i hf
  omega
theorem PairW.cut (h:PairW w0 w d g e y r inc F p m s m2 s2) (hl:LogAt w' g d r inc s') (hm:Mod (fun k=>k=g) w w'):PairW w0 w' d g e y r inc F p m s' m2 s2∧KpS w w' F p g y F p g y :=
 ⟨⟨h.both.own hm (fun _ hf hg=>h.gF (hg ▸ hf)) (fun _ hp hg=>hp (hg ▸ h.gp)) (fun _ hg=>hg ▸ h.low.1),hl,h.rlog.mod hm fun hg=>h.ne hg.symm,h.gF,h.gp,h.yF,h.yp,h.ne,h.low⟩,hm.size,fun b hb hn=>⟨hn,hm.block b hb hn.2.2.1⟩⟩
theorem PairW.rcut (h:PairW w0 w d g e y r inc F p m s m2 s2) (hl:RLogAt w' y e r inc s') (hm:Mod (fun k=>k=y) w w'):PairW w0 w' d g e y r inc F p m s m2 s'∧KpS w w' F p g y F p g y :=
 ⟨⟨h.both.own hm (fun _ hf hg=>h.yF (hg ▸ hf)) (fun _ hp hg=>hp (hg ▸ h.yp)) (fun _ hg=>hg ▸ h.low.2),h.log.mod hm fun hg=>h.ne hg,hl,h.gF,h.gp,h.yF,h.yp,h.ne,h.low⟩,hm.size,fun b hb hn=>⟨hn,hm.block b hb hn.2.2.2⟩⟩
theorem PairW.made (h:Both w0 w d e F p m m2) {w1 w2:World} (hx1:Ext w w1) (hx2:Ext w1 w2) (hl:LogAt w1 g d r inc s) (hg:w.heap.size≤g) (hy:RLogAt w2 y e r inc s2) (hy1:w1.heap.size≤y):PairW w0 w2 d g e y r inc F p m s m2 s2:=by
 have hs:=h.dk.bel.size
 have h1:=hx1.size
 have hlt:=hl.lt
 refine ⟨(h.ext hx1).ext hx2,hl.ext hx2,hy,fun hf=>?_,zdk h.rd hg,fun hf=>?_,zdk h.rd (by omega),by omega,by omega,by omega⟩
 ·have:=h.dk.disk.lt g hf;omega
 ·have:=h.dk.disk.lt y hf;omega
theorem zjg (h:PairW w0 w d g e y r inc F p m s m2 s2) (hL:LaidF w0) (hLS:LaidS w0) (hr:0≤r∧r≤6) (hc:1≤inc∧inc≤1099511627776) (hs:s≤1099511627752) (i x z:Int) (t:Ent) (hok:t.ok<256) (hfew:m.waits.length+20≤1000000) :
 Calls Tryz.prog 9 #[aD g 0,i,.agg #[x,z],.agg t] w fun r' w'=>r'=.returned (.int .i64 (m.putA s r inc i x z t).1)∧Step d F w (m.putA s r inc i x z t).2 w' :=
 zsH h.log h.both.dk.disk h.gF (h.ld.laid hL) (h.ld.laidS hLS) (h.ld.lm hL) hr hc hs i x z t hok hfew
theorem zhu (h:PairW w0 w d g e y r inc F p m s m2 s2) (hr:0≤r∧r≤6) (hc:1≤inc∧inc≤1099511627776) (hs:s2≤1099511627752) (i x z:Int) (t:Ent) (hok:t.ok<256) (hfew:m2.waits.length+20≤1000000) :
 Calls Tryz.prog 10 #[aD y 0,i,.agg #[x,z],.agg t] w fun r' w'=>r'=.returned (.int .i64 (m2.putA s2 r inc i x z t).1)∧ROut e p w (m2.putA s2 r inc i x z t).2 w' :=
 zqM h.rlog h.both.rd h.yp hr hc hs i x z t hok hfew
end
theorem zoW (ix:Int) (st:Nat) (x y:Int) (k:Nat) (cl sq:Int) (ok:Nat) (key old val:ByteArray) (w:World) :
 (binOp .eql 115 (.agg #[.int .i64 ix,st,x,y,k,cl,sq,ok,key,old,val]) (.agg #[.int .i64 ix,st,x,y,k,cl,sq,ok,key,old,val])).run Tryz.prog w=.ok (.bool true) w:=by
 have hf:Tryz.prog.stoodInHeld 115=false:=by kernel_rfl
 have hu:=Tryz.underlying115
 have hu1:=Tryz.underlying38
 have hu2:=Tryz.underlying42
 have hu3:=Tryz.underlying40
 rw [run_eql_struct,run_equalIn_agg _ _ _ _ _ (by rw [Program.fieldsOf,hu]) hf,Program.fieldsOf,hu]
 simp [Op.eqFields,go_sem]
theorem zdy {w0 w:World} {d g e y:Nat} {r inc:Int} {F:Nat→Prop} {p:Nat→Nat} {m:DM} {s:Nat} (h:PairW w0 w d g e y r inc F p m s m s) (hL:LaidF w0) (hLS:LaidS w0) (hs:s≤1099511627752) (hfew:m.waits.length≤1000000) (i:Int) :
 (cL 20 #[aD g 0,aD y 0,.int .i64 i] w (.bool true):Prop):=by
 obtain ⟨C,hC⟩:∃C,m.lkC s r i=C:=⟨_,rfl⟩
 obtain ⟨R,hR⟩:∃R,m.lkR s r i=R:=⟨_,rfl⟩
 obtain ⟨E,hE⟩:∃E,m.lkE s i=E:=⟨_,rfl⟩
 have HG:=qj (zuG h.ld hL hLS hs i hfew R E hR hE)
 have HC:=qj (fun V (hx:Ext w V)=>zqE (h.ld.ext hx) hL hLS hs i hfew C E hC hE)
 have HR:=qj (fun V (hx:Ext w V)=>zkQ (h.rlog.ext hx) (h.both.rd.ext hx) hs i hfew C R E hC hR hE)
 have hq:=zoW R.ix R.st R.x R.y R.e.k R.e.cl R.e.sq R.e.ok R.e.key R.e.old R.e.val
 have hee:(E == E)=true:=by simp
 have hcc:((C:Int) == (C:Int))=true:=by simp
 clear h hL hLS hs hfew hC hR hE
 go_enter Tryz.func20,Tryz.ntmps20
 go_wp2_with fail
 refine HG.out.mono ?_
 rintro e w1 ⟨rfl,hx⟩
 have HZ:=qj (heap_alloc_new w1 (.cells R 115))
 have hx1:=(Ext.refl w1).alloc (.cells R 115)
 have HX:=qj (hx.trans hx1)
 clear hx hx1
 go_upto_region 2 with (fail)
 generalize (w1.alloc (.cells R 115))=V at *
 generalize w1.heap.size=q1 at *
 go_wp2_with fail
 refine (HC.out _ HX.out).mono ?_
 rintro e w2 ⟨rfl,hx⟩
 have HX:=qj (HX.out.trans hx)
 have HZ:=qj (zaa hx HZ.out)
 clear hx
 go_wp2_with fail
 refine (HR.out _ HX.out).mono ?_
 rintro e w3 ⟨rfl,hx⟩
 have hx1:=(Ext.refl w3).alloc (.cells R 115)
 have HX:=qj ((HX.out.trans hx).trans hx1)
 have HZ:=qj (zaa hx1 (zaa hx HZ.out))
 have HZ2:=qj (heap_alloc_new w3 (.cells R 115))
 clear hx hx1
 go_upto_region 4 with (fail)
 generalize (w3.alloc (.cells R 115))=V2 at *
 generalize w3.heap.size=q2 at *
 obtain ⟨a0,a1,a2,a3,a4,a5,a6,a7,a8,a9,a10⟩:=zam HZ.out
 obtain ⟨b0,b1,b2,b3,b4,b5,b6,b7,b8,b9,b10⟩:=zam HZ2.out
 go_wp2_with fail
 go_ret
 exact ⟨rfl,HX.out⟩
section
open Go Go.RowKit Go.Shelf
attribute [local go_sem] Oper.semAt_some
theorem zrs {w:World} (p:Option Addr) (E:Int) (h0:E≠0) (hr:(cQ 30 #[.pointer p] w (.int .i64 E):Prop)) :
 (cL 17 #[.pointer p] w (.tuple #[.slice none 0 0,.int .i64 E]):Prop):=by
 have HR:=qj hr
 have hne:(E != 0)=true:=by simpa using h0
 clear hr h0
 refine zda Tryz.func17 rfl ?_
 simp only [Tryz.ntmps17,List.size_toArray,List.length_cons,List.length_nil,Nat.reduceAdd,Nat.reduceSub,Array.replicate_succ,Array.replicate_zero,List.push_toArray,List.append_toArray,List.nil_append,List.cons_append]
 go_wp2_with fail
 refine HR.out.mono ?_
 rintro e w1 ⟨rfl,rfl⟩
 go_wp2_with fail
 refine ztX (v:=.tuple #[.slice none 0 0,.int .i64 E]) rfl ?_ ?_
 ·simp [results,Tryz.results17,go_sem]
 ·exact ⟨rfl,Ext.refl w⟩
end
section
open Go Go.RowKit Go.Shelf
attribute [local go_sem] Oper.semAt_some
def rptC (x:Rpt):List Value:=[.int .i64 x.ix,.int .u8 (x.st:Int),.int .i64 x.x,.int .i64 x.y,.int .u8 (x.e.k:Int),.int .i64 x.e.cl,.int .i64 x.e.sq,.int .u8 (x.e.ok:Int),.string x.e.key,.string x.e.old,.string x.e.val]
def inC (cls:Nat→Nat) (k:Nat):Bool:=decide (cls k=3∨cls k=2)
def zbV (cls:Nat→Nat) (rpt:Nat→Rpt) (ks:List Nat):List Rpt:=(ks.filter (inC cls)).map rpt
def zcu (ps:List Rpt):List Value:=ps.flatMap rptC
theorem zoU {cls:Nat→Nat} {rpt:Nat→Rpt} {ks:List Nat} {k:Nat} (h:cls k=3∨cls k=2):zbV cls rpt (ks++[k])=zbV cls rpt ks++[rpt k]:=by
 unfold zbV
 rw [List.filter_append,List.filter_cons_of_pos (by unfold inC;simpa using h)]
 simp
theorem zpS {cls:Nat→Nat} {rpt:Nat→Rpt} {ks:List Nat} {k:Nat} (h:¬(cls k=3∨cls k=2)):zbV cls rpt (ks++[k])=zbV cls rpt ks:=by
 unfold zbV
 rw [List.filter_append,List.filter_cons_of_neg (by unfold inC;simpa using h)]
 simp
theorem zpn (cls:Nat→Nat) (rpt:Nat→Rpt) (ks:List Nat):(zbV cls rpt ks).length≤ks.length:=by
 unfold zbV
 rw [List.length_map]
 exact List.length_filter_le _ _
theorem zhd (ps:List Rpt) (x:Rpt):zcu (ps++[x])=zcu ps++rptC x:=by
 unfold zcu
 simp
theorem zlf:(Tryz.prog.info? 115).map (fun i=>(i.zero,i.size,i.bytes))=some (some (.agg #[.int .i64 0,.int .u8 0,.int .i64 0,.int .i64 0,.int .u8 0,.int .i64 0,.int .i64 0,.int .u8 0,ByteArray.empty,ByteArray.empty,ByteArray.empty]),11,112):=by kernel_rfl
theorem ziK (w:World) (t:TypeId) (vs:List Value):∀j u,vs[j]?=some u→(w.alloc (.cells vs.toArray t)).cell? ((⟨w.heap.size,0,none⟩:Addr).add j)=some u:=by
 intro j u hj
 have h:=cell_of_row (w.alloc (.cells vs.toArray t)) w.heap.size j vs.toArray t (0,0) (World.alloc_heap_new w _)
 rw [List.getElem?_toArray,hj] at h
 have e:((⟨w.heap.size,0,none⟩:Addr).add j)=⟨w.heap.size,j,none⟩:=by
  simp [Addr.add]
  exact fun e=>e.symm
 rw [e]
 exact h
theorem ztn {b:Nat} {W W':World} (h:Below b W W') (hk:W'.heap[b+1]?=W.heap[b+1]?):Mod (fun k=>b≤k∧k≠b+1) W W' :=
 ⟨h.os,h.tape,h.output,Below.size h,fun k hlt hg=>by
  by_cases e:k=b+1
  ·subst e
   exact hk
  ·exact h.block k (by omega)⟩
def AllI (b:Nat) (w:World) (g:Nat) (cls:Nat→Nat) (rpt:Nat→Rpt) (pre:List SlIn) (W:World):Prop :=
 ((∃v,Boxed W b 66 v∧W.ownsRow b 115 11 v (zbV cls rpt (pre.map fun x=>x.1)).length (zcu (zbV cls rpt (pre.map fun x=>x.1)))∧True)∧Boxed W (b+1) 31 (.pointer (some ⟨g,0,none⟩)))∧Below b w W
def AllX (g b:Nat) (fv:Value) (cls:Nat→Nat) (rpt:Nat→Rpt) (x:SlIn) (a':Act) (W:World):Prop :=
 ∃q,W.heap[q]?=some (.cells (rptC (rpt x.1)).toArray 115 (0,0))∧a'={ tmps:=#[.pointer (some ⟨g,0,none⟩),undef,.slice none 0 0,.int .i64 0,.int .i64 0,.pointer (some ⟨b,0,none⟩),.int .u8 (cls x.1:Int),.pointer (some ⟨q,0,none⟩),.pointer (some ⟨g,0,none⟩),.int .i64 0,.int .i64 0,.bool false,undef,.pointer (some ⟨g,0,none⟩),fv,.int .u8 (cls x.1:Int),.agg (rptC (rpt x.1)).toArray,undef,undef,undef,undef,undef,undef,undef,undef,undef,undef,undef],defers:=[] }
theorem zqD {w:World} (g s:Nat) (hs9:s≤1900000000000) (cls:Nat→Nat) (rpt:Nat→Rpt) (hr:(cQ 30 #[aD g 0] w (.int .i64 0):Prop))
 (hcs:w.cell? (aD g 4)=some (.int .i64 (s:Int))) (hI:zgM (fun k=>w.heap.size≤k∧k≠w.heap.size+1) w g s cls rpt) :
 Calls Tryz.prog 17 #[aD g 0] w fun e w'=>∃v,e=.returned (.tuple #[v,.int .i64 0])∧w'.ownsRow w.heap.size 115 11 v (zbV cls rpt (List.range 24)).length (zcu (zbV cls rpt (List.range 24)))∧Ext w w':=by
 obtain ⟨i0,hi,hz0,hz1,hz2⟩:=info_parts zlf
 have hgl:g<w.heap.size:=World.block_lt_of_cell? w _ hcs
 have hE:Ext w ((w.alloc (.cells #[.slice none 0 0] 66)).alloc (.cells #[aD g 0] 31)):=((Ext.refl w).alloc _).alloc _
 have hI1:zgM (fun k=>w.heap.size≤k∧k≠w.heap.size+1) ((w.alloc (.cells #[.slice none 0 0] 66)).alloc (.cells #[aD g 0] 31)) g s cls rpt:=fun k hk W hm=>hI k hk W ((Mod.of_ext hE).trans hm fun _ hi=>.inl hi)
 have bO:Boxed ((w.alloc (.cells #[.slice none 0 0] 66)).alloc (.cells #[aD g 0] 31)) w.heap.size 66 (.slice none 0 0):=(Boxed.new w _ _).alloc _
 have bL:Boxed ((w.alloc (.cells #[.slice none 0 0] 66)).alloc (.cells #[aD g 0] 31)) (w.heap.size+1) 31 (aD g 0):=by
  have:=Boxed.new (w.alloc (.cells #[.slice none 0 0] 66)) 31 (aD g 0)
  rwa [World.size_alloc] at this
 have hst:=zjz 8 (by omega) (w.heap.size+1) _ g s hs9 cls rpt _ hI1 ⟨by omega,by omega⟩ bL.cell (zbi hE hcs)
 have HR:=qj hr
 have HST:=qj hst
 have HE:=qj hE
 have HB:=qj (And.intro bO bL)
 clear hI hI1 hst hcs hE bO bL hr hgl
 refine zda Tryz.func17 rfl ?_
 simp only [Tryz.ntmps17,List.size_toArray,List.length_cons,List.length_nil,Nat.reduceAdd,Nat.reduceSub,Array.replicate_succ,Array.replicate_zero,List.push_toArray,List.append_toArray,List.nil_append,List.cons_append]
 go_wp2_with fail
 refine HR.out.mono ?_
 rintro e w1 ⟨rfl,rfl⟩
 go_wp2_with fail
 refine (zoe g _).mono ?_
 rintro e w1 ⟨rfl,rfl⟩
 go_wp2_with fail
 refine (wpIn_wide (n:=9)).1 ?_
 refine wpIn_rangeFunc_ownH (F:=Fence.wide) (n:=9) rfl (by omega) (gf:=109) (lb:=#[aD (w.heap.size+1) 0]) rfl trivial (enters_of Tryz.func109 (by kernel_rfl) rfl)
  HST.out (fun h k=>h.trans k fun _ hi=>.inl hi) (fun W l o o' hl ho _ _=>ztB (w:=(w.alloc (.cells #[.slice none 0 0] 66)).alloc (.cells #[aD g 0] 31)) l o o' (fun k hk=>by simp at hk;omega) hl ho) (Below.refl _ _) (fun _=>rfl)
  (AllI w.heap.size w g cls rpt)
  (fun _ _ _=>False)
  (OwnFrom.and (OwnFrom.and (Own.from (holdsRow_own w.heap.size w.heap.size 66 115 11 (fun pre:List SlIn=>(zbV cls rpt (pre.map fun x=>x.1)).length) (fun pre:List SlIn=>zcu (zbV cls rpt (pre.map fun x=>x.1))) (fun _ _=>True)) _) (Own.from (boxed_own (w.heap.size+1) 31 (fun _=>.pointer (some ⟨g,0,none⟩))) _)) (ownFrom_below (Nat.le_refl _) HE.out.size))
  (fun _ _ _ _ _ hs _ _=>hs)
  ⟨⟨⟨_,HB.out.1,World.ownsRow_nil _ _ _ _,trivial⟩,HB.out.2⟩,HE.out⟩
  (AllX g w.heap.size (.func (.func 109) #[] #[aD (w.heap.size+1) 0]) cls rpt)
  (fun x a' _ X Y row hs hg hrow=>by
   obtain ⟨q,hq,e⟩:=hs
   exact ⟨q,(hg.block q (Array.getElem?_eq_some_iff.1 hq).1 (fun e'=>by obtain ⟨_,o,ho,hc⟩:=hrow q e'.symm;rw [hq] at ho;cases ho;cases hc)).trans hq,e⟩) ?assign ?body ?done ?stop
 case assign =>
  intro l pre x W K hI hK
  have HI:=qj hI
  have HK:=qj hK
  clear hI hK
  dsimp only [zrV]
  gi_wp2
  have hk:=KeepsOthers.alloc W (.cells (rptC (rpt x.1)).toArray 115)
  refine HK.out _ _ (hk.from _) ((Mod.refl _ _).ext ((Ext.refl W).alloc _)) ?_ ⟨_,World.alloc_heap_new W (.cells (rptC (rpt x.1)).toArray 115),rfl⟩
  obtain ⟨⟨⟨v,hv,hrow,_⟩,hbl⟩,hB⟩:=HI.out
  exact ⟨⟨⟨v,hv.alloc _,hrow.alloc _,trivial⟩,hbl.alloc _⟩,hB.alloc hB.size _⟩
 case body =>
  rintro l pre x a' W hl _ ⟨⟨⟨v,hv,hrow,_⟩,hbl⟩,hB⟩ ⟨q,hq,rfl⟩ hlt
  have hlen:(zbV cls rpt (pre.map fun x=>x.1)).length<24:=by
   have:=zpn cls rpt (pre.map fun x=>x.1)
   rw [List.length_map] at this
   omega
  have HQ:=qj hq
  clear hq
  by_cases hin:cls x.1=3∨cls x.1=2
  ·have hin2:=zoU (rpt:=rpt) (ks:=pre.map fun x=>x.1) hin
   have HIN:=qj hin2
   have hc:=hv.cell
   have c0:=cell_of_row W q 0 _ _ _ HQ.out
   have c1:=cell_of_row W q 1 _ _ _ HQ.out
   have c2:=cell_of_row W q 2 _ _ _ HQ.out
   have c3:=cell_of_row W q 3 _ _ _ HQ.out
   have c4:=cell_of_row W q 4 _ _ _ HQ.out
   have c5:=cell_of_row W q 5 _ _ _ HQ.out
   have c6:=cell_of_row W q 6 _ _ _ HQ.out
   have c7:=cell_of_row W q 7 _ _ _ HQ.out
   have c8:=cell_of_row W q 8 _ _ _ HQ.out
   have c9:=cell_of_row W q 9 _ _ _ HQ.out
   have c10:=cell_of_row W q 10 _ _ _ HQ.out
   simp only [rptC] at c0 c1 c2 c3 c4 c5 c6 c7 c8 c9 c10 ⊢
   simp at c0 c1 c2 c3 c4 c5 c6 c7 c8 c9 c10
   have h31:((3:Nat):Int)=3:=rfl
   rcases hin with hz | hz
   all_goals
    rw [hz]
    clear hz hin2
    gi_wp2_with (gi_at_builtin;revert c0)
    intro c0
    refine wpListIn_append_own _ rfl _ _ 66 rfl w.heap.size 115 i0 (.agg #[.int .i64 0,.int .u8 0,.int .i64 0,.int .i64 0,.int .u8 0,.int .i64 0,.int .i64 0,.int .u8 0,ByteArray.empty,ByteArray.empty,ByteArray.empty]) 11 112 (by kernel_rfl) hi hz0 hz1 hz2 ?_ ?_ v _ _ ?_ (hrow.alloc _) ⟨W.heap.size,0,none⟩ 1 1 (rptC (rpt x.1)) ?_ ?_ ?_ ?_ ?_ ?_ ?_ ?_
    case refine_1=>rfl
    case refine_2=>decide
    case refine_3=>rfl
    case refine_4=>rfl
    case refine_5=>rfl
    case refine_6=>exact ziK _ _ _
    case refine_7=>simp [rptC,Value.oneCell']
    case refine_8=>unfold maxLen;omega
    case refine_9=>omega
    case refine_10=>(have:=hB.size;simp;omega)
    intro v' w1 hown' hgrow _
    obtain ⟨g',cap',rfl⟩:=ownsRow_succ hown'
    obtain ⟨hv1,hv2,hr2,hk2,hb2⟩:=hv.appended (by decide) hrow hB.size (Nat.le_refl _) hown' hgrow
    have hbl1:=(hbl.alloc (.cells (rptC (rpt x.1)).toArray 115)).kept hgrow (hbl.not_row (by decide) hrow)
    have hc1:=hv1.cell
    have hf1:=hv1.frozen
    gi_wp2
    have hbl2:=hbl1.other (B':=w.heap.size) (by omega) (.slice (some ⟨g',0,none⟩) ((zbV cls rpt (pre.map fun x=>x.1)).length+1) cap')
    refine ⟨hk2.from _,ztn hb2 (hbl2.trans hbl.symm),⟨⟨_,hv2,?_,trivial⟩,hbl2⟩,hB.trans hb2⟩
    rw [List.map_append,List.map_cons,List.map_nil,HIN.out,zhd,List.length_append]
    exact hr2
  ·have HIN:=qj (zpS (rpt:=rpt) (ks:=pre.map fun x=>x.1) hin)
   obtain ⟨z,hz⟩:∃z,((cls x.1:Nat):Int)=z:=⟨_,rfl⟩
   have h3:¬z=3:=by omega
   have h2:¬z=2:=by omega
   have e3:(z == 3)=false:=by simpa using h3
   have e2:(z == 2)=false:=by simpa using h2
   rw [hz]
   clear hz hin
   gi_wp2
   refine ⟨KeepsFrom.refl _ _,Mod.refl _ _,⟨⟨v,hv,?_,trivial⟩,hbl⟩,hB⟩
   rw [List.map_append,List.map_cons,List.map_nil,HIN.out]
   exact hrow
 case done =>
  rintro D ys W hD hys ⟨⟨⟨v,hv,hrow,_⟩,_⟩,hB⟩ hK
  have hc:=hv.cell
  rw [hys] at hrow
  have HRW:=qj hrow
  have HBB:=qj hB
  clear hrow hys hB hv
  go_wp2_with fail
  refine ztO rfl hK (v:=.tuple #[v,.int .i64 0]) ?_ ?_
  ·simp [results,Tryz.results17,go_sem]
  ·exact ⟨v,rfl,ownsRow_putObj HRW.out _ hK rfl,HBB.out.trans (belowK_b (w:=w) (Nat.le_refl _) W D _ _ (Nat.le_trans HE.out.size hD) hK rfl rfl)⟩
 case stop =>
  rintro D c pre W _ _ h _
  exact h.elim
end
theorem zlo (m:DM) (r snap:Int) (n:Nat):zbV (fun k=>m.clsW r (snap+1+(k:Int))) (fun k=>m.rptW r (snap+1+(k:Int))) (List.range n)=m.allTo r snap n:=by
 unfold zbV DM.allTo
 rw [List.filter_map,List.map_map]
 rfl
section
variable {w0 w:World} {d:Nat} {F:Nat→Prop} {g s:Nat} {r inc:Int} {m:DM}
theorem zup (h:LD w0 w d F g s r inc m) (hL:LaidF w0) (hLS:LaidS w0) (hs:s≤1099511627752) (hup:m.up=true) (hfew:m.waits.length≤1000000) :
 Calls Tryz.prog 17 #[aD g 0] w fun e w'=>∃v,e=.returned (.tuple #[v,.int .i64 0])∧w'.ownsRow w.heap.size 115 11 v (m.allTo r (s:Int) 24).length (zcu (m.allTo r (s:Int) 24))∧Ext w w':=by
 have hr:=zcp h.log h.dk.disk
 have hE:upE m=0:=if_pos hup
 rw [hE] at hr
 have hI:zgM (fun k=>w.heap.size≤k∧k≠w.heap.size+1) w g s (fun k=>m.clsW r ((s:Int)+1+(k:Int))) (fun k=>m.rptW r ((s:Int)+1+(k:Int))):=fun k hk V hm=>by
  have hx:Ext w V:=Below.mod (Ext.refl w) hm (Nat.le_refl _) (fun k hk=>hk.1)
  have hV:=h.ext hx
  have e:((s:Int)+1+(k:Int))=((s+1+k:Nat):Int):=by omega
  simp only [e]
  exact zkJ hV.log hV.dk.disk (hV.laid hL) (hV.laidS hLS) (s+1+k) (by omega) (by omega) hfew
 have hq:=zqD g s (by omega) _ _ hr h.log.cells.2.2.2.2 hI
 rw [zlo] at hq
 exact hq
end
theorem zlW {w:World} {y d:Nat} {r inc:Int} {s:Nat} {q:Nat→Nat} {m:DM} (h:RLogAt w y d r inc s) (hd:RD w d q m) (hup:m.up=false) :
 (cQ 18 #[aD y 0] w (.tuple Zk.q):Prop):=by
 have hdd:m.down=true∨m.down=false∧m.dead=true:=by
  unfold DM.up at hup
  cases h1:m.down <;> cases h2:m.dead <;> simp [h1,h2] at hup ⊢
 obtain ⟨_,_,_,d4,d5⟩:=zcq hd
 obtain ⟨y0,_⟩:=h.cells
 clear hup h hd
 rcases hdd with hq | ⟨hq,hq2⟩
 all_goals
  rw [hq] at d4
  try rw [hq2] at d5
  go_enter Tryz.func18,Tryz.ntmps18
  go_wp2_with fail
  refine bodyPost_ret (v:=.tuple Zk.q) (by simp [results,Tryz.results18,go_sem]) rfl ⟨rfl,rfl⟩
theorem zqk {w:World} {y d:Nat} {r inc:Int} {s:Nat} {q:Nat→Nat} {m:DM} (h:RLogAt w y d r inc s) (hd:RD w d q m) (hs:s≤1099511627752) (hfew:m.waits.length≤1000000) (hup:m.up=true) :
 Calls Tryz.prog 18 #[aD y 0] w fun e w'=>∃v,e=.returned (.tuple #[v,.int .i64 0])∧w'.ownsRow w.heap.size 115 11 v (m.allTo r (s:Int) 24).length (zcu (m.allTo r (s:Int) 24))∧Ext w w':=by
 obtain ⟨i0,hi,hz0,hz1,hz2⟩:=info_parts zlf
 have hdd:m.down=false∧m.dead=false:=by
  unfold DM.up at hup
  cases h1:m.down <;> cases h2:m.dead <;> simp [h1,h2] at hup ⊢
 obtain ⟨_,_,_,d4,d5⟩:=zcq hd
 obtain ⟨y0,_,_,y3⟩:=h.cells
 have hs':(s:Int)≤1099511627752:=by omega
 have H:=qj h
 have HGT:=qj (fun (V:World) (hx:Ext w V) (k:Nat) (hk:k<24) (C:Nat) (R:Rpt) (hC:m.clsW r ((s:Int)+1+(k:Int))=C) (hR:m.rptW r ((s:Int)+1+(k:Int))=R) =>
  have e0:m.lkE s ((s:Int)+1+(k:Int))=0:=zht.2 ⟨⟨by omega,by omega⟩,hup⟩
  zkQ (h.ext hx) (hd.ext hx) hs ((s:Int)+1+(k:Int)) hfew C R 0 (by unfold DM.lkC;rw [if_pos e0];exact hC) (by unfold DM.lkR;rw [if_pos e0];exact hR) e0)
 rw [hdd.1] at d4
 rw [hdd.2] at d5
 clear hdd hup hs hfew h hd
 go_enter Tryz.func18,Tryz.ntmps18
 go_wp2_with fail
 clear d4 d5 y0 y3
 go_loopw [4,5] (fun v i wr=>∃k:Nat,k≤24∧i=.int .i64 ((s:Int)+1+(k:Int))∧Hid (wr.ownsRow w.heap.size 115 11 v (m.allTo r (s:Int) k).length (zcu (m.allTo r (s:Int) k))∧Ext w wr)) (fun _ i _=>s+26-(intOf i).toNat)
 case atStart=>exact ⟨0,Nat.zero_le _,by simp,qj ⟨World.ownsRow_nil _ _ _ _,Ext.refl w⟩⟩
 case round =>
  obtain ⟨k,hk,rfl,HG⟩:=hrel
  have y3:=(H.out.ext HG.out.2).cells.2.2.2
  by_cases hlt:k<24
  ·have hsc:=zmy m r (s:Int) k
   have hlen:=zfs m r (s:Int) k
   obtain ⟨C,hC⟩:∃C,m.clsW r ((s:Int)+1+(k:Int))=C:=⟨_,rfl⟩
   obtain ⟨R,hR⟩:∃R,m.rptW r ((s:Int)+1+(k:Int))=R:=⟨_,rfl⟩
   have HGE:=qj (HGT.out wr HG.out.2 k hlt C R hC hR)
   have hIN:m.inW r ((s:Int)+1+(k:Int))=decide (C=3∨C=2):=by unfold DM.inW;rw [hC]
   rw [hIN,hR] at hsc
   have HS:=qj hsc
   have hq:(s:Int)+1+(k:Int)≤(s:Int)+24:=by omega
   clear hsc hC hR hIN
   go_wp2_with fail
   refine HGE.out.mono ?_
   rintro e w2 ⟨rfl,hx⟩
   have HG1:=qj (And.intro (zck HG.out.1 hx) (HG.out.2.trans hx))
   clear hx y3
   go_upto_region 8 with (fail)
   have hq2:=heap_alloc_new w2 (.cells R 115)
   have hx2:=(Ext.refl w2).alloc (.cells R 115)
   generalize (w2.alloc (.cells R 115))=V at *
   have HG2:=qj (And.intro (zck HG1.out.1 hx2) (HG1.out.2.trans hx2))
   obtain ⟨c0,c1,c2,c3,c4,c5,c6,c7,c8,c9,c10⟩:=zam hq2
   generalize w2.heap.size=b at *
   clear hx2 hq2
   have hsz2:=HG2.out.2.size
   by_cases hin:C=3∨C=2
   ·rw [if_pos (decide_eq_true hin)] at HS
    rcases hin with rfl | rfl
    all_goals
     try rw [show ((3:Nat):Int)=3 from rfl]
     try rw [show ((2:Nat):Int)=2 from rfl]
     go_wp2_with (at_builtin;revert c0)
     intro c0
     refine wpList_append_own _ rfl _ _ 66 rfl w.heap.size 115 i0 (.agg #[.int .i64 0,.int .u8 0,.int .i64 0,.int .i64 0,.int .u8 0,.int .i64 0,.int .i64 0,.int .u8 0,ByteArray.empty,ByteArray.empty,ByteArray.empty]) 11 112 (by kernel_rfl) hi hz0 hz1 hz2 ?_ ?_ u4 _ _ ?_ (zck HG2.out.1 ((Ext.refl V).alloc _)) ⟨V.heap.size,0,none⟩ 1 1 (rptC R) ?_ ?_ ?_ ?_ ?_ ?_ ?_ ?_
     case refine_1=>rfl
     case refine_2=>decide
     case refine_3=>rfl
     case refine_4=>rfl
     case refine_5=>rfl
     case refine_6=>exact ziK _ _ _
     case refine_7=>simp [rptC,Value.oneCell']
     case refine_8=>unfold maxLen;omega
     case refine_9=>omega
     case refine_10=>(simp;omega)
     intro v1 w3 hown hg _
     have HG3:Hid (w3.ownsRow w.heap.size 115 11 v1 (m.allTo r (s:Int) (k+1)).length (zcu (m.allTo r (s:Int) (k+1)))∧Ext w w3):=by
      rw [HS.out,List.length_append,zhd]
      exact qj ⟨hown,Below.grown (HG2.out.2.alloc _) hg (Nat.le_trans HG2.out.2.size (by simp)) (fun g hg'=>(HG2.out.1.lt g hg').1)⟩
     clear hown hg c0 c1 c2 c3 c4 c5 c6 c7 c8 c9 c10
     go_wp2_with fail
     go_roundw
     case rel=>exact ⟨k+1,by omega,by go_num,HG3⟩
     case measure=>simp [intOf];omega
   ·rw [if_neg (by simpa using hin)] at HS
    obtain ⟨z,hz⟩:∃z,((C:Nat):Int)=z:=⟨_,rfl⟩
    have h3:¬z=3:=by omega
    have h2:¬z=2:=by omega
    have e3:(z == 3)=false:=by simpa using h3
    have e2:(z == 2)=false:=by simpa using h2
    rw [hz]
    clear hz hin h3 h2 c0 c1 c2 c3 c4 c5 c6 c7 c8 c9 c10
    go_wp2_with fail
    go_roundw
    case rel=>exact ⟨k+1,by omega,by go_num,by rw [HS.out];exact HG2⟩
    case measure=>simp [intOf];omega
  ·obtain rfl:k=24:=by omega
   go_wp2_with fail
   refine bodyPost_ret (v:=.tuple #[u4,.int .i64 0]) (by simp [results,Tryz.results18,go_sem]) rfl ⟨u4,rfl,HG.out.1,HG.out.2⟩
end Go.Proofs.YtdbpdhlecgoclaaGreatDoor
