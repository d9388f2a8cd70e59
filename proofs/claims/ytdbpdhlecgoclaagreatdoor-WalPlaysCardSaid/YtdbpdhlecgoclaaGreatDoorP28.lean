/-
  The contract of read: what is read of the record and the frames of an index.
-/
import Derived.Test.YtdbpdhlecgoclaaGreatDoorP00
import Derived.Test.YtdbpdhlecgoclaaGreatDoorP11
import Derived.Test.YtdbpdhlecgoclaaGreatDoorP18
import Derived.Test.YtdbpdhlecgoclaaGreatDoorP19
import Derived.Test.YtdbpdhlecgoclaaGreatDoorP20
import Derived.Test.YtdbpdhlecgoclaaGreatDoorP22
import Derived.Test.YtdbpdhlecgoclaaGreatDoorP24
import Derived.Test.YtdbpdhlecgoclaaGreatDoorP26
import Derived.Test.YtdbpdhlecgoclaaGreatDoorP27
import Derived.Deep.DeepCutAuto
import Derived.Deep.MidRow
import Derived.Deep.QuietTactic
namespace Go.Proofs.YtdbpdhlecgoclaaGreatDoor
set_option maxRecDepth 100000
set_option maxHeartbeats 6400000
open Go Go.RowKit
structure WRdS (w W:World) (b:Nat) (zr zt ht:Array Value):Prop where
 z4:W.heap[b]?=some (.cells zr 90 (0,0))
 z5:W.heap[b+1]?=some (.cells zt 93 (0,0))
 two:W.heap[b+1+1]?=some (.cells ht 93 (0,0))
 ext:Ext w W
 le:w.heap.size≤b
section
variable {w W:World} {b:Nat} {zr zt ht:Array Value}
theorem WRdS.make (w:World):WRdS w (((w.alloc (.cells Zk.f 90)).alloc (.cells Zk.a 93)).alloc (.cells Zk.a 93)) w.heap.size Zk.f Zk.a Zk.a:=by
 have row:∀(V:World) (cs:Array Value) (t:TypeId) (k:Nat),k=V.heap.size→(V.alloc (.cells cs t)).heap[k]?=some (.cells cs t (0,0)):=fun V cs t k hk=>by subst hk;exact heap_alloc_new V _
 have e1:Ext (w.alloc (.cells Zk.f 90)) ((w.alloc (.cells Zk.f 90)).alloc (.cells Zk.a 93)):=(Ext.refl _).alloc _
 have e2:Ext ((w.alloc (.cells Zk.f 90)).alloc (.cells Zk.a 93)) (((w.alloc (.cells Zk.f 90)).alloc (.cells Zk.a 93)).alloc (.cells Zk.a 93)):=(Ext.refl _).alloc _
 exact ⟨zaa e2 (zaa e1 (heap_alloc_new w _)),zaa e2 (row _ _ _ _ (by simp)),row _ _ _ _ (by simp),(((Ext.refl w).alloc _).alloc _).alloc _,Nat.le_refl _⟩
theorem WRdS.mono {W':World} (h:WRdS w W b zr zt ht) (hx:Ext W W'):WRdS w W' b zr zt ht:=⟨zaa hx h.z4,zaa hx h.z5,zaa hx h.two,h.ext.trans hx,h.le⟩
theorem WRdS.put6 (h:WRdS w W b zr zt ht) (o:Nat) (xs:List Value):WRdS w (W.setCells (b+1+1) o xs) b zr zt (setA ht o xs) :=
 ⟨zaC h.z4 (by omega) o xs,zaC h.z5 (by omega) o xs,zbl h.two o xs,zbm h.ext (by have:=h.le;omega) o xs,h.le⟩
theorem WRdS.put4 (h:WRdS w W b zr zt ht) (o:Nat) (xs:List Value):WRdS w (W.setCells b o xs) b (setA zr o xs) zt ht :=
 ⟨zbl h.z4 o xs,zaC h.z5 (by omega) o xs,zaC h.two (by omega) o xs,zbm h.ext h.le o xs,h.le⟩
theorem WRdS.put5 (h:WRdS w W b zr zt ht) (o:Nat) (xs:List Value):WRdS w (W.setCells (b+1) o xs) b zr (setA zt o xs) ht :=
 ⟨zaC h.z4 (by omega) o xs,zbl h.z5 o xs,zaC h.two (by omega) o xs,zbm h.ext (by have:=h.le;omega) o xs,h.le⟩
end
theorem WRdS.fin {w W:World} {b:Nat} {x0 x1 x2 x3 x4 y0 y1 y2 y3 y4 y5 y6 y7 y8 y9 y10 y11 y12 y13 y14 y15 y16 y17 y18 y19 y20 y21 z0 z1 z2 z3 z4 v0 v1 v2 v3 v4 v5 v6 v7 v8 v9 v10 v11 v12 v13 v14 v15 v16 v17 v18 v19 v20 v21:Value} {ht:Array Value} (h:WRdS w W b #[z0,z1,z2,z3,z4] #[v0,v1,v2,v3,v4,v5,v6,v7,v8,v9,v10,v11,v12,v13,v14,v15,v16,v17,v18,v19,v20,v21] ht) (i3:(Tryz.prog.info? 90).map (·.size)=some 5) (i4:(Tryz.prog.info? 93).map (·.size)=some 22) :
 let V:=(W.setCells b 0 [x0,x1,x2,x3,x4]).setCells (b+1) 0 [y0,y1,y2,y3,y4,y5,y6,y7,y8,y9,y10,y11,y12,y13,y14,y15,y16,y17,y18,y19,y20,y21]
 (loadVar 90 ⟨b,0,none⟩).run Tryz.prog V=.ok (.agg #[x0,x1,x2,x3,x4]) V∧(loadVar 93 ⟨b+1,0,none⟩).run Tryz.prog V=.ok (.agg #[y0,y1,y2,y3,y4,y5,y6,y7,y8,y9,y10,y11,y12,y13,y14,y15,y16,y17,y18,y19,y20,y21]) V∧Ext w V:=by
 intro V
 have hT:=(h.put4 0 [x0,x1,x2,x3,x4]).put5 0 [y0,y1,y2,y3,y4,y5,y6,y7,y8,y9,y10,y11,y12,y13,y14,y15,y16,y17,y18,y19,y20,y21]
 rw [arr5,ztL] at hT
 exact ⟨run_loadVar_mid V b 0 90 [x0,x1,x2,x3,x4] _ (zau [x0,x1,x2,x3,x4] hT.z4 0) Tryz.underlying90 rfl i3,run_loadVar_mid V (b+1) 0 93 [y0,y1,y2,y3,y4,y5,y6,y7,y8,y9,y10,y11,y12,y13,y14,y15,y16,y17,y18,y19,y20,y21] _ (zau [y0,y1,y2,y3,y4,y5,y6,y7,y8,y9,y10,y11,y12,y13,y14,y15,y16,y17,y18,y19,y20,y21] hT.z5 0) Tryz.underlying93 rfl i4,hT.ext⟩
theorem zmd {w:World} (g i q p0 p1:Nat) (p:Rec) (f0 f1:CopL)
 (hf0:∀V,(cL 35 #[.int .i64 i,.int .i64 0] V (.int .i64 (p0:Int)):Prop)) (hf1:∀V,(cL 35 #[.int .i64 i,.int .i64 1] V (.int .i64 (p1:Int)):Prop)) (hpl:∀V,(cL 36 #[.int .i64 i] V (.int .i64 (q:Int)):Prop))
 (hr0:∀V,Ext w V→(cL 63 #[aD g 0,.int .i64 p0] V (.agg f0):Prop))
 (hr1:∀V,Ext w V→(cL 63 #[aD g 0,.int .i64 p1] V (.agg f1):Prop))
 (hrr:∀V,Ext w V→(cL 64 #[aD g 0,.int .i64 q] V (.agg p):Prop)) :
 (cL 31 #[aD g 0,.int .i64 i] w (.tuple #[.agg p,.agg (f0,f1)]):Prop):=by
 have HS:=qj (WRdS.make w)
 have HF0:=qj hf0
 have HF1:=qj hf1
 have HPL:=qj hpl
 have HR0:=qj hr0
 have HR1:=qj hr1
 have HRR:=qj hrr
 have i3:(Tryz.prog.info? 90).map (·.size)=some 5:=by kernel_rfl
 have i4:(Tryz.prog.info? 93).map (·.size)=some 22:=by kernel_rfl
 have i5:(Tryz.prog.info? 92).map (·.size)=some 11:=by kernel_rfl
 have HI:=qj (And.intro i3 (And.intro i4 i5))
 clear hf0 hf1 hpl hr0 hr1 hrr i3 i4 i5
 go_enter Tryz.func31,Tryz.ntmps31
 go_wp2_with fail
 obtain ⟨b,hb⟩:∃b,w.heap.size=b:=⟨_,rfl⟩
 rw [hb] at HS ⊢
 generalize (((w.alloc (.cells Zk.f 90)).alloc (.cells Zk.a 93)).alloc (.cells Zk.a 93))=V0 at HS ⊢
 clear hb
 refine wp_loop_rounds 3 ?_
 rw [rounds_succ]
 go_wp2_with fail
 refine (HF0.out V0).mono ?_
 rintro e w1 ⟨rfl,hx⟩
 have HS:=qj (HS.out.mono hx)
 clear hx
 go_wp2_with fail
 refine (HR0.out w1 HS.out.ext).mono ?_
 rintro e w2 ⟨rfl,hx⟩
 have HS:=qj (HS.out.mono hx)
 have c0:=cell_of_row w2 (b+1+1) 0 _ _ _ (HS.out.two)
 have c1:=cell_of_row w2 (b+1+1) 1 _ _ _ (HS.out.two)
 have c2:=cell_of_row w2 (b+1+1) 2 _ _ _ (HS.out.two)
 have c3:=cell_of_row w2 (b+1+1) 3 _ _ _ (HS.out.two)
 have c4:=cell_of_row w2 (b+1+1) 4 _ _ _ (HS.out.two)
 have c5:=cell_of_row w2 (b+1+1) 5 _ _ _ (HS.out.two)
 have c6:=cell_of_row w2 (b+1+1) 6 _ _ _ (HS.out.two)
 have c7:=cell_of_row w2 (b+1+1) 7 _ _ _ (HS.out.two)
 have c8:=cell_of_row w2 (b+1+1) 8 _ _ _ (HS.out.two)
 have c9:=cell_of_row w2 (b+1+1) 9 _ _ _ (HS.out.two)
 have c10:=cell_of_row w2 (b+1+1) 10 _ _ _ (HS.out.two)
 have e0:=frozen_of_row w2 (b+1+1) 0 _ _ (HS.out.two)
 have e1:=frozen_of_row w2 (b+1+1) 1 _ _ (HS.out.two)
 have e2:=frozen_of_row w2 (b+1+1) 2 _ _ (HS.out.two)
 have e3:=frozen_of_row w2 (b+1+1) 3 _ _ (HS.out.two)
 have e4:=frozen_of_row w2 (b+1+1) 4 _ _ (HS.out.two)
 have e5:=frozen_of_row w2 (b+1+1) 5 _ _ (HS.out.two)
 have e6:=frozen_of_row w2 (b+1+1) 6 _ _ (HS.out.two)
 have e7:=frozen_of_row w2 (b+1+1) 7 _ _ (HS.out.two)
 have e8:=frozen_of_row w2 (b+1+1) 8 _ _ (HS.out.two)
 have e9:=frozen_of_row w2 (b+1+1) 9 _ _ (HS.out.two)
 have e10:=frozen_of_row w2 (b+1+1) 10 _ _ (HS.out.two)
 have hlt:=(Array.getElem?_eq_some_iff.1 HS.out.two).1
 clear hx
 go_wp2_with fail
 have hT:WRdS w (((((((((((w2.setCell (aD ((b+1+1)) 0) f0.st).setCell (aD ((b+1+1)) 1) f0.ix).setCell (aD ((b+1+1)) 2) f0.bx).setCell (aD ((b+1+1)) 3) f0.yb).setCell (aD ((b+1+1)) 4) f0.e.k).setCell (aD ((b+1+1)) 5) f0.e.cl).setCell (aD ((b+1+1)) 6) f0.e.sq).setCell (aD ((b+1+1)) 7) f0.e.ok).setCell (aD ((b+1+1)) 8) f0.e.key).setCell (aD ((b+1+1)) 9) f0.e.old).setCell (aD ((b+1+1)) 10) f0.e.val) b Zk.f Zk.a #[f0.st,f0.ix,f0.bx,f0.yb,f0.e.k,f0.e.cl,f0.e.sq,f0.e.ok,f0.e.key,f0.e.old,f0.e.val,.int .u8 0,.int .i64 0,.int .i64 0,.int .i64 0,.int .u8 0,.int .i64 0,.int .i64 0,.int .u8 0,.string ⟨#[]⟩,.string ⟨#[]⟩,.string ⟨#[]⟩]:=by
  have h1:=HS.out.put6 0 f0
  rw [zbB,zud] at h1
  rw [zrp]
  exact h1
 clear c0 c1 c2 c3 c4 c5 c6 c7 c8 c9 c10 e0 e1 e2 e3 e4 e5 e6 e7 e8 e9 e10 hlt
 generalize (((((((((((w2.setCell (aD ((b+1+1)) 0) f0.st).setCell (aD ((b+1+1)) 1) f0.ix).setCell (aD ((b+1+1)) 2) f0.bx).setCell (aD ((b+1+1)) 3) f0.yb).setCell (aD ((b+1+1)) 4) f0.e.k).setCell (aD ((b+1+1)) 5) f0.e.cl).setCell (aD ((b+1+1)) 6) f0.e.sq).setCell (aD ((b+1+1)) 7) f0.e.ok).setCell (aD ((b+1+1)) 8) f0.e.key).setCell (aD ((b+1+1)) 9) f0.e.old).setCell (aD ((b+1+1)) 10) f0.e.val)=V1 at hT ⊢
 have HS:=qj hT
 clear hT
 rw [rounds_succ]
 go_wp2_with fail
 refine (HF1.out V1).mono ?_
 rintro e w1 ⟨rfl,hx⟩
 have HS:=qj (HS.out.mono hx)
 clear hx
 go_wp2_with fail
 refine (HR1.out w1 HS.out.ext).mono ?_
 rintro e w2 ⟨rfl,hx⟩
 have HS:=qj (HS.out.mono hx)
 have c0:=cell_of_row w2 (b+1+1) 11 _ _ _ (HS.out.two)
 have c1:=cell_of_row w2 (b+1+1) 12 _ _ _ (HS.out.two)
 have c2:=cell_of_row w2 (b+1+1) 13 _ _ _ (HS.out.two)
 have c3:=cell_of_row w2 (b+1+1) 14 _ _ _ (HS.out.two)
 have c4:=cell_of_row w2 (b+1+1) 15 _ _ _ (HS.out.two)
 have c5:=cell_of_row w2 (b+1+1) 16 _ _ _ (HS.out.two)
 have c6:=cell_of_row w2 (b+1+1) 17 _ _ _ (HS.out.two)
 have c7:=cell_of_row w2 (b+1+1) 18 _ _ _ (HS.out.two)
 have c8:=cell_of_row w2 (b+1+1) 19 _ _ _ (HS.out.two)
 have c9:=cell_of_row w2 (b+1+1) 20 _ _ _ (HS.out.two)
 have c10:=cell_of_row w2 (b+1+1) 21 _ _ _ (HS.out.two)
 have e0:=frozen_of_row w2 (b+1+1) 11 _ _ (HS.out.two)
 have e1:=frozen_of_row w2 (b+1+1) 12 _ _ (HS.out.two)
 have e2:=frozen_of_row w2 (b+1+1) 13 _ _ (HS.out.two)
 have e3:=frozen_of_row w2 (b+1+1) 14 _ _ (HS.out.two)
 have e4:=frozen_of_row w2 (b+1+1) 15 _ _ (HS.out.two)
 have e5:=frozen_of_row w2 (b+1+1) 16 _ _ (HS.out.two)
 have e6:=frozen_of_row w2 (b+1+1) 17 _ _ (HS.out.two)
 have e7:=frozen_of_row w2 (b+1+1) 18 _ _ (HS.out.two)
 have e8:=frozen_of_row w2 (b+1+1) 19 _ _ (HS.out.two)
 have e9:=frozen_of_row w2 (b+1+1) 20 _ _ (HS.out.two)
 have e10:=frozen_of_row w2 (b+1+1) 21 _ _ (HS.out.two)
 have hlt:=(Array.getElem?_eq_some_iff.1 HS.out.two).1
 clear hx
 go_wp2_with fail
 have hT:WRdS w (((((((((((w2.setCell (aD ((b+1+1)) 11) f1.st).setCell (aD ((b+1+1)) 12) f1.ix).setCell (aD ((b+1+1)) 13) f1.bx).setCell (aD ((b+1+1)) 14) f1.yb).setCell (aD ((b+1+1)) 15) f1.e.k).setCell (aD ((b+1+1)) 16) f1.e.cl).setCell (aD ((b+1+1)) 17) f1.e.sq).setCell (aD ((b+1+1)) 18) f1.e.ok).setCell (aD ((b+1+1)) 19) f1.e.key).setCell (aD ((b+1+1)) 20) f1.e.old).setCell (aD ((b+1+1)) 21) f1.e.val) b Zk.f Zk.a (f0,f1):=by
  have h1:=HS.out.put6 11 f1
  rw [zbB,zuJ] at h1
  rw [zpH]
  exact h1
 clear c0 c1 c2 c3 c4 c5 c6 c7 c8 c9 c10 e0 e1 e2 e3 e4 e5 e6 e7 e8 e9 e10 hlt
 generalize (((((((((((w2.setCell (aD ((b+1+1)) 11) f1.st).setCell (aD ((b+1+1)) 12) f1.ix).setCell (aD ((b+1+1)) 13) f1.bx).setCell (aD ((b+1+1)) 14) f1.yb).setCell (aD ((b+1+1)) 15) f1.e.k).setCell (aD ((b+1+1)) 16) f1.e.cl).setCell (aD ((b+1+1)) 17) f1.e.sq).setCell (aD ((b+1+1)) 18) f1.e.ok).setCell (aD ((b+1+1)) 19) f1.e.key).setCell (aD ((b+1+1)) 20) f1.e.old).setCell (aD ((b+1+1)) 21) f1.e.val)=V2 at hT ⊢
 have HS:=qj hT
 clear hT
 rw [rounds_succ]
 go_upto_region 7 with (fail)
 have HS:=qj (HS.out.mono (Below.drew (Ext.refl V2)))
 refine wp_region_held_drew (S:=fun w'=>w'.heap[b+1+1]?=some (.cells (f0,f1) 93 (0,0))) (by kernel_rfl) (HS.out.two) (fun hHeld=>?_)
 refine tj (i:=0) (oi:=⟨some 19,.move (.tmp 0),31, "wal.go:182",#[],none⟩) rfl (by kernel_rfl) ?_
 try simp only [Act.put,sT,s0,s1]
 refine tj (i:=1) (oi:=⟨some 20,.move (.tmp 1),3, "wal.go:182",#[],none⟩) rfl (by kernel_rfl) ?_
 try simp only [Act.put,sT,s0,s1]
 refine tk (i:=4) (oi:=⟨some 23,.load 93 (.tmp 6),93, "wal.go:182",#[⟨5,.gcOnly .lateStores⟩],none⟩) (v:=.agg (f0,f1)) rfl (by kernel_rfl) (yieldsIf_load_mid (by rfl) 93 (.tmp 6) rfl (b+1+1) 0 rfl (f0,f1) _ (fun w hw=>zau (f0,f1) hw 0) Tryz.underlying93 rfl (by kernel_rfl)) ?_
 try simp only [Act.put,sT,s0,s1]
 generalize V2.drew=V3 at *
 refine wpAnyH_ready (rs:=[2]) (by kernel_rfl) (by simp) ?_
 refine AllReadyH.cons (o:=⟨some 21,.call { callee:=.value (.func 36),args:=#[.tmp 20],argTypes:=#[3] },3, "wal.go:182",#[⟨1,.data⟩],none⟩) rfl (fun K hK=>?_) AllReadyH.nil
 go_simp
 refine (HPL.out V3).mono ?_
 rintro e w6 ⟨rfl,hx⟩
 have HS:=qj (HS.out.mono hx)
 clear hx
 go_wp2_with fail
 refine hK.out _ _ (HS.out.two) (fun hHeld=>?_)
 clear hK K
 try simp only [Act.put,sT,s0,s1]
 refine wpAnyH_ready (rs:=[3]) (by kernel_rfl) (by simp) ?_
 refine AllReadyH.cons (o:=⟨some 22,.call { callee:=.value (.func 64),args:=#[.tmp 19,.tmp 21],argTypes:=#[31,3] },90, "wal.go:182",#[⟨0,.data⟩,⟨2,.data⟩,⟨2,.chain⟩],none⟩) rfl (fun K hK=>?_) AllReadyH.nil
 go_simp
 refine (HRR.out w6 HS.out.ext).mono ?_
 rintro e w7 ⟨rfl,hx⟩
 have HS:=qj (HS.out.mono hx)
 clear hx
 go_wp2_with fail
 refine hK.out _ _ (HS.out.two) (fun hHeld=>?_)
 clear hK K
 try simp only [Act.put,sT,s0,s1]
 refine wpAnyH_ready (rs:=[5]) (by kernel_rfl) (by simp) ?_
 refine AllReadyH.cons (o:=⟨none,.store 90 (.tmp 4) (.tmp 22),0, "wal.go:182",#[⟨3,.data⟩,⟨3,.chain⟩,⟨0,.phase⟩,⟨1,.phase⟩,⟨2,.phase⟩,⟨3,.phase⟩,⟨4,.textOnly .lateStores⟩],none⟩) rfl (fun K hK=>?_) AllReadyH.nil
 clear hHeld
 rw [if_pos (by rfl)]
 refine wp_store_mid 90 (.tmp 4) (.tmp 22) rfl b 0 p rfl rfl (zbZ HS.out.z4 0 5 (by simp)) HI.out.1 (by simp [Value.oneCell']) ?_
 refine hK.out _ _ ((HS.out.put4 0 _).two) (fun hHeld=>?_)
 clear hK K
 simp only [Act.put]
 refine wpAnyH_ready (rs:=[6]) (by kernel_rfl) (by simp) ?_
 refine AllReadyH.cons (o:=⟨none,.store 93 (.tmp 5) (.tmp 23),0, "wal.go:182",#[⟨4,.data⟩,⟨5,.chain⟩,⟨0,.phase⟩,⟨1,.phase⟩,⟨2,.phase⟩,⟨3,.phase⟩,⟨4,.phase⟩,⟨5,.phase⟩],none⟩) rfl (fun K hK=>?_) AllReadyH.nil
 clear hHeld
 rw [if_pos (by rfl)]
 refine wp_store_mid 93 (.tmp 5) (.tmp 23) rfl (b+1) 0 (f0,f1) rfl rfl (zbZ (HS.out.put4 0 _).z5 0 22 (by simp)) HI.out.2.1 (by simp [Value.oneCell']) ?_
 refine hK.out _ _ (((HS.out.put4 0 _).put5 0 _).two) (fun hHeld=>?_)
 clear hK K
 simp only [Act.put]
 refine wpAnyH_done (by kernel_rfl) ?_ _
 clear hHeld
 obtain ⟨hr3,hr4,hx⟩:=HS.out.fin (x0:=.int .u8 (p.st:Int)) (x1:=.int .i64 p.ix) (x2:=.int .i64 p.bx) (x3:=.int .i64 p.yb) (x4:=.int .i64 p.wh) (y0:=.int .u8 (f0.st:Int)) (y1:=.int .i64 f0.ix) (y2:=.int .i64 f0.bx) (y3:=.int .i64 f0.yb) (y4:=.int .u8 (f0.e.k:Int)) (y5:=.int .i64 f0.e.cl) (y6:=.int .i64 f0.e.sq) (y7:=.int .u8 (f0.e.ok:Int)) (y8:=.string f0.e.key) (y9:=.string f0.e.old) (y10:=.string f0.e.val) (y11:=.int .u8 (f1.st:Int)) (y12:=.int .i64 f1.ix) (y13:=.int .i64 f1.bx) (y14:=.int .i64 f1.yb) (y15:=.int .u8 (f1.e.k:Int)) (y16:=.int .i64 f1.e.cl) (y17:=.int .i64 f1.e.sq) (y18:=.int .u8 (f1.e.ok:Int)) (y19:=.string f1.e.key) (y20:=.string f1.e.old) (y21:=.string f1.e.val) HI.out.1 HI.out.2.1
 go_wp2_with fail
 refine bodyPost_ret (v:=.tuple #[.agg p,.agg (f0,f1)]) (zgv Tryz.results31 rfl rfl hr3 hr4) rfl ⟨rfl,hx⟩
theorem zlu {w:World} {g d s:Nat} {r inc:Int} {F:Nat→Prop} {m:DM} (h:LogAt w g d r inc s) (hd:zao w d F m) (hL:LaidF w) (hLS:LaidS w) (i:Nat) (h1:1≤i) (h2:i≤2000000000000) (hfew:m.waits.length≤1000000) :
 (cL 31 #[aD g 0,.int .i64 i] w (.tuple #[.agg (m.recM r (zax (i:Int))),.agg ((m.copM r (2 * zax (i:Int))),(m.copM r (2 * zax (i:Int)+1)))]):Prop):=by
 obtain ⟨q,hq,hq24⟩:=zcT (i:=(i:Int))
 have e0:2 * (q:Int)=((2 * q:Nat):Int):=by omega
 have e1:2 * (q:Int)+1=((2 * q+1:Nat):Int):=by omega
 have hpl:∀V,(cL 36 #[.int .i64 i] V (.int .i64 (q:Int)):Prop):=fun V=>by
  rw [←hq]
  exact (zcK i h1 h2 V).mono fun e w' hh=>⟨hh.1,hh.2 ▸ Ext.refl V⟩
 have hf0:∀V,(cL 35 #[.int .i64 i,.int .i64 0] V (.int .i64 ((2 * q:Nat):Int)):Prop):=fun V=>by
  rw [show ((2 * q:Nat):Int)=2 * zax (i:Int)+0 by rw [hq];omega]
  exact (zdf i 0 (.inl rfl) h1 h2 V).mono fun e w' hh=>⟨hh.1,hh.2 ▸ Ext.refl V⟩
 have hf1:∀V,(cL 35 #[.int .i64 i,.int .i64 1] V (.int .i64 ((2 * q+1:Nat):Int)):Prop):=fun V=>by
  rw [show ((2 * q+1:Nat):Int)=2 * zax (i:Int)+1 by rw [hq];omega]
  exact (zdf i 1 (.inr rfl) h1 h2 V).mono fun e w' hh=>⟨hh.1,hh.2 ▸ Ext.refl V⟩
 rw [hq,e1,e0]
 exact zmd g i q (2 * q) (2 * q+1) _ _ _ hf0 hf1 hpl (fun V hV=>zfj (h.ext hV) (hd.ext hV) (hL.ext hV) (hLS.ext hV) (2 * q) (by omega) hfew)
  (fun V hV=>zfj (h.ext hV) (hd.ext hV) (hL.ext hV) (hLS.ext hV) (2 * q+1) (by omega) hfew) (fun V hV=>zio (h.ext hV) (hd.ext hV) (hL.ext hV) (hLS.ext hV) q hq24 hfew)
theorem or2E (g cp:Nat) (a b:Int) (w:World) (h0:w.cell? (aD g 0)=some (.int .i64 a)) (h1:w.cell? (aD g 1)=some (.int .i64 b)) :
 Calls Tryz.prog 28 #[.slice (some ⟨g,0,none⟩) 2 cp] w fun e w'=>e=.returned (.int .i64 (orI a b))∧w'=w:=by
 by_cases k0:a=0
 case neg =>
  have ha:(a != 0)=true:=by simpa using k0
  have he:orI a b=a:=by simp [orI,k0]
  rw [he]
  go_enter Tryz.func28,Tryz.ntmps28
  go_wp2_with fail
  refine wp_loop_rounds 3 ?_
  rw [rounds_succ]
  go_wp2_with fail
  go_ret
  exact ⟨rfl,rfl⟩
 by_cases k1:b=0
 case neg =>
  have ha:(b != 0)=true:=by simpa using k1
  have he:orI a b=b:=by subst k0;simp [orI]
  rw [he]
  subst k0
  go_enter Tryz.func28,Tryz.ntmps28
  go_wp2_with fail
  refine wp_loop_rounds 3 ?_
  rw [rounds_succ]
  go_wp2_with fail
  rw [rounds_succ]
  go_wp2_with fail
  go_ret
  exact ⟨rfl,rfl⟩
 have he:orI a b=0:=by simp [orI,k0,k1]
 rw [he]
 subst k0
 subst k1
 ·skip
  go_enter Tryz.func28,Tryz.ntmps28
  go_wp2_with fail
  refine wp_loop_rounds 3 ?_
  rw [rounds_succ]
  go_wp2_with fail
  rw [rounds_succ]
  go_wp2_with fail
  rw [rounds_succ]
  go_wp2_with fail
  go_ret
  exact ⟨rfl,rfl⟩
theorem or3E (g cp:Nat) (a b c:Int) (w:World) (h0:w.cell? (aD g 0)=some (.int .i64 a)) (h1:w.cell? (aD g 1)=some (.int .i64 b)) (h2:w.cell? (aD g 2)=some (.int .i64 c)) :
 Calls Tryz.prog 28 #[.slice (some ⟨g,0,none⟩) 3 cp] w fun e w'=>e=.returned (.int .i64 (orI a (orI b c)))∧w'=w:=by
 by_cases k0:a=0
 case neg =>
  have ha:(a != 0)=true:=by simpa using k0
  have he:orI a (orI b c)=a:=by simp [orI,k0]
  rw [he]
  go_enter Tryz.func28,Tryz.ntmps28
  go_wp2_with fail
  refine wp_loop_rounds 4 ?_
  rw [rounds_succ]
  go_wp2_with fail
  go_ret
  exact ⟨rfl,rfl⟩
 by_cases k1:b=0
 case neg =>
  have ha:(b != 0)=true:=by simpa using k1
  have he:orI a (orI b c)=b:=by subst k0;simp [orI,k1]
  rw [he]
  subst k0
  go_enter Tryz.func28,Tryz.ntmps28
  go_wp2_with fail
  refine wp_loop_rounds 4 ?_
  rw [rounds_succ]
  go_wp2_with fail
  rw [rounds_succ]
  go_wp2_with fail
  go_ret
  exact ⟨rfl,rfl⟩
 by_cases k2:c=0
 case neg =>
  have ha:(c != 0)=true:=by simpa using k2
  have he:orI a (orI b c)=c:=by subst k0 k1;simp [orI]
  rw [he]
  subst k0
  subst k1
  go_enter Tryz.func28,Tryz.ntmps28
  go_wp2_with fail
  refine wp_loop_rounds 4 ?_
  rw [rounds_succ]
  go_wp2_with fail
  rw [rounds_succ]
  go_wp2_with fail
  rw [rounds_succ]
  go_wp2_with fail
  go_ret
  exact ⟨rfl,rfl⟩
 have he:orI a (orI b c)=0:=by simp [orI,k0,k1,k2]
 rw [he]
 subst k0
 subst k1
 subst k2
 ·skip
  go_enter Tryz.func28,Tryz.ntmps28
  go_wp2_with fail
  refine wp_loop_rounds 4 ?_
  rw [rounds_succ]
  go_wp2_with fail
  rw [rounds_succ]
  go_wp2_with fail
  rw [rounds_succ]
  go_wp2_with fail
  rw [rounds_succ]
  go_wp2_with fail
  go_ret
  exact ⟨rfl,rfl⟩
section
open Go Go.RowKit
theorem zhH:∀(pre xs ys:List Value),xs.length=ys.length→setA (pre++xs).toArray pre.length ys=(pre++ys).toArray
 | pre,[],[],_=>rfl
 | pre,x :: xs,y :: ys,h=>by
  have h1:(pre++x :: xs).toArray.setIfInBounds pre.length y=((pre++[y])++xs).toArray:=by
   apply Array.ext'
   simp
  show setA ((pre++x :: xs).toArray.setIfInBounds pre.length y) (pre.length+1) ys=_
  rw [h1]
  have h2:=zhH (pre++[y]) xs ys (by simpa using h)
  rw [List.length_append,List.length_singleton] at h2
  rw [h2]
  simp
 | _,[],_ :: _,h=>by simp at h
 | _,_ :: _,[],h=>by simp at h
theorem zqs (cs vs:Array Value) (h:cs.size=vs.size):setA cs 0 vs.toList=vs:=by
 have:=zhH [] cs.toList vs.toList (by simpa using h)
 simpa using this
theorem zis (W:World) (cs:Array Value) (t:TypeId) (i:Nat) (v:Value):(W.alloc (.cells cs t)).setCell (aD W.heap.size i) v=W.alloc (.cells (cs.setIfInBounds i v) t):=by
 have h:((W.alloc (.cells cs t)).setCell (aD W.heap.size i) v).heap=W.heap.push (.cells (cs.setIfInBounds i v) t):=by
  apply Array.ext_getElem?
  intro k
  unfold World.setCell World.alloc
  simp only
  rw [Array.getElem?_modify]
  by_cases hk:W.heap.size=k
  ·subst hk
   simp
  ·rw [if_neg hk,Array.getElem?_push,Array.getElem?_push,if_neg (by omega),if_neg (by omega)]
 exact congrArg (fun h=>World.mk h W.tape W.drawn W.os W.output) h
theorem zhx (W:World) (t:TypeId):∀(vs:List Value) (o:Nat) (cs:Array Value),(W.alloc (.cells cs t)).setCells W.heap.size o vs=W.alloc (.cells (setA cs o vs) t)
 | [],_,_=>rfl
 | v :: vs,o,cs=>by
  show ((W.alloc (.cells cs t)).setCell (aD W.heap.size o) v).setCells W.heap.size (o+1) vs=_
  rw [zis]
  exact zhx W t vs (o+1) _
theorem zeb (W:World) (cs vs:Array Value) (t:TypeId) (h:cs.size=vs.size):(W.alloc (.cells cs t)).setCells W.heap.size 0 vs.toList=W.alloc (.cells vs t):=by
 rw [zhx,zqs cs vs h]
variable {P:Program}
theorem zaP {ops:Array Oper} {rest:List Oper} {op:Oper} {a:Act} {W:World} {cs:Array Value} {t:TypeId} {Q:Exit→Act→World→Prop} (hgd:op.guard=none) (ty:TypeId) (x y:Operand) (ho:op.op=.store ty x y)
 (vs:Array Value) (g:Nat) (hg:g=W.heap.size) (hx:a.eval x=.pointer (some ⟨g,0,none⟩)) (hy:a.eval y=.agg vs) (hs:cs.size=vs.size) (hi:(P.info? ty).map (·.size)=some vs.size) (h1:vs.all (·.oneCell')=true)
 (h:wpList P ops Q rest (a.put op.dst undef) (W.alloc (.cells vs t))):wpList P ops Q (op :: rest) a (W.alloc (.cells cs t)):=by
 subst hg
 refine wpList_store_mid hgd ty x y ho W.heap.size 0 vs hx hy (zbZ (heap_alloc_new W _) 0 vs.size (by omega)) hi h1 ?_
 rw [zeb W cs vs t hs]
 exact h
end
section
variable {m:DM} {T:Nat→Prop} {h0:Nat→List Nat}
end
section
variable {m:DM} {s:Nat} {L:List Nat}
end
section
variable {m:DM} {pw:Int}
end

section
open Go Go.RowKit Go.Shelf
attribute [local go_sem] Oper.semAt_some
end
theorem zqy {r inc i:Int} {q:Nat} (hr:0≤r∧r≤6) (hi:0≤i∧i≤1099511627776) (hc:1≤inc∧inc≤1099511627776) (hq:q<24):mayB r 3 (q:Int) i inc=true:=by
 unfold mayB
 rw [decide_eq_true_iff]
 simp [plc]
 omega
theorem zqB {r inc i:Int} {p:Nat} (hr:0≤r∧r≤6) (hi:0≤i∧i≤1099511627776) (hc:1≤inc∧inc≤1099511627776) (hp:p<48):mayB r 4 (p:Int) i inc=true:=by
 unfold mayB
 rw [decide_eq_true_iff]
 simp [plc]
 omega
theorem zfF (m:DM) (r i:Int):m.nextW r i=0∨m.nextW r i=1:=(zpt _ _ _ _).1
structure Rpt where
 ix:Int:=0
 st:Nat:=0
 x:Int:=0
 y:Int:=0
 e:Ent:={}
instance (x:Rpt):CoeDep Rpt x (Array Value):=⟨#[.int .i64 x.ix,.int .u8 (x.st:Int),.int .i64 x.x,.int .i64 x.y,.int .u8 (x.e.k:Int),.int .i64 x.e.cl,.int .i64 x.e.sq,.int .u8 (x.e.ok:Int),.string x.e.key,.string x.e.old,.string x.e.val]⟩
instance (x:Rpt):CoeDep Rpt x (List Value):=⟨[.int .i64 x.ix,.int .u8 (x.st:Int),.int .i64 x.x,.int .i64 x.y,.int .u8 (x.e.k:Int),.int .i64 x.e.cl,.int .i64 x.e.sq,.int .u8 (x.e.ok:Int),.string x.e.key,.string x.e.old,.string x.e.val]⟩
def DM.clsW (m:DM) (r i:Int):Nat:=classL (m.recM r (zax i)) (m.copM r (2 * zax i)) (m.copM r (2 * zax i+1)) i
def zuc (p:Rec) (f0 f1:CopL) (i:Int):Nat:=if 0≤whereL p f0 f1 i then 2 else if p.of i then 3 else if beyL p f0 f1 i∨(p.st=2∧badL f0 f1) then 4 else 1
def ztF (p:Rec) (f0 f1:CopL) (i:Int):Rpt:=⟨i,zuc p f0 f1 i,repX p f0 f1 i,repY p f0 f1 i,repE p f0 f1 i⟩
def DM.rptW (m:DM) (r i:Int):Rpt:=ztF (m.recM r (zax i)) (m.copM r (2 * zax i)) (m.copM r (2 * zax i+1)) i
def DM.inW (m:DM) (r i:Int):Bool:=decide (m.clsW r i=3∨m.clsW r i=2)
def DM.allTo (m:DM) (r snap:Int) (n:Nat):List Rpt:=(((List.range n).map fun k=>snap+1+((k:Nat):Int)).filter (m.inW r)).map (m.rptW r)
theorem zmy (m:DM) (r snap:Int) (n:Nat):m.allTo r snap (n+1)=if m.inW r (snap+1+(n:Int))=true then m.allTo r snap n++[m.rptW r (snap+1+(n:Int))] else m.allTo r snap n:=by
 unfold DM.allTo
 rw [List.range_succ,List.map_append,List.filter_append,List.map_append]
 split
 ·rename_i h;simp [h]
 ·rename_i h;simp [h]
theorem zfs (m:DM) (r snap:Int) (n:Nat):(m.allTo r snap n).length≤n:=by
 unfold DM.allTo
 rw [List.length_map]
 refine Nat.le_trans (List.length_filter_le _ _) ?_
 simp
theorem zmJ {w:World} (g i:Nat) (p:Rec) (f0 f1:CopL) (C:Nat) (R:Rpt) (hx0:∃z:Int,∀V,(cL 65 #[.agg p,.agg (f0,f1),.int .i64 i] V (.tuple #[C,.agg R,z]):Prop))
 (hrd:∀V,Ext w V→(cL 31 #[aD g 0,.int .i64 i] V (.tuple #[.agg p,.agg (f0,f1)]):Prop)) :
 (cL 110 #[aD g 0,.int .i64 i] w (.tuple #[C,.agg R]):Prop):=by
 obtain ⟨z,hz⟩:=hx0
 have HW:=qj hz
 have HR:=qj hrd
 obtain ⟨b,w0,hw0,hE0,hT0,hz0w⟩:∃(b:Nat) (w0:World),(b=w.heap.size∧w0=w.alloc (.cells Zk.b 115))∧Ext w w0∧w0.heap[b]?=some (.cells Zk.b 115 (0,0))∧(w0.heap.size=b+1∧w.heap.size≤b) :=
  ⟨_,_,⟨rfl,rfl⟩,(Ext.refl w).alloc _,heap_alloc_new w _,by simp,Nat.le_refl _⟩
 have HE0:=qj hE0
 have HT0:=qj hT0
 have HZ0:=qj hz0w
 clear hz hrd hE0 hT0 hz0w
 go_enter Tryz.func110,Tryz.ntmps110
 go_wp2_with fail
 rw [←hw0.1,←hw0.2]
 clear hw0
 refine (HR.out _ HE0.out).mono ?_
 rintro e w1 ⟨rfl,hx⟩
 have HX:=qj (HE0.out.trans hx)
 have HT:=qj (zaa hx HT0.out)
 clear hx HE0 HT0
 have hi4:(Tryz.prog.info? 93).map (·.size)=some 22:=by kernel_rfl
 have HI4:=qj hi4
 clear hi4
 go_upto_region 2 with (refine zaP rfl 93 _ _ rfl (f0,f1) (w1.heap.size+1) (by simp) rfl rfl rfl HI4.out (by simp [Value.oneCell']) ?_)
 simp only [Act.put]
 have hr1:=zaa ((Ext.refl (w1.alloc (.cells p 90))).alloc (.cells (f0,f1) 93)) (heap_alloc_new w1 (.cells p 90))
 have hr2:=heap_alloc2_new w1 (.cells p 90) (.cells (f0,f1) 93)
 have hx1:=((Ext.refl w1).alloc (.cells p 90)).alloc (.cells (f0,f1) 93)
 have HX:=qj (HX.out.trans hx1)
 have HT:=qj (zaa hx1 HT.out)
 generalize (w1.alloc (.cells p 90)).alloc (.cells (f0,f1) 93)=W at *
 generalize w1.heap.size=g1 at *
 obtain ⟨c0,c1,c2,c3,c4⟩:=cr5 (hr1)
 have HRN:Hid (W.rangeAt (g1+1) 0 (f0,f1)):=qj (zau (f0,f1) hr2 0)
 clear hr1 hr2 hx1
 go_wp2_with (refine wpList_load_mid rfl 93 _ rfl (g1+1) 0 rfl (f0,f1) _ HRN.out Tryz.underlying93 rfl HI4.out ?_)
 refine (HW.out W).mono ?_
 rintro e w3 ⟨rfl,hx⟩
 have HX3:=qj (HX.out.trans hx)
 have hrb:=zaa hx HT.out
 have hrow9:=heap_alloc_new w3 (.cells R 115)
 have hlb:=(Array.getElem?_eq_some_iff.1 hrb).1
 clear hx c0 c1 c2 c3 c4 HRN HT HX
 go_upto_region 3 with (fail)
 have hx3:=(Ext.refl w3).alloc (.cells R 115)
 have hrb:=zaa hx3 hrb
 have hx3:=HX3.out.trans hx3
 have hne:b≠w3.heap.size:=by omega
 generalize w3.alloc (.cells R 115)=V at *
 generalize w3.heap.size=g9 at *
 have HRB:=qj hrb
 have HX3:=qj hx3
 have HR9:=qj hrow9
 have HNE:=qj hne
 have hlt:=(Array.getElem?_eq_some_iff.1 hrb).1
 obtain ⟨c0,c1,c2,c3,c4,c5,c6,c7,c8,c9,c10⟩:=cr11 (HR9.out)
 obtain ⟨d0,d1,d2,d3,d4,d5,d6,d7,d8,d9,d10⟩:=cr11 (HRB.out)
 obtain ⟨e0,e1,e2,e3,e4,e5,e6,e7,e8,e9,e10⟩:=fr11 (HRB.out)
 clear hrb hx3 hrow9 hlb hne
 go_region
 go_wp2_with fail
 have hrow:=zfe (HRB.out) R.ix R.st R.x R.y R.e.k R.e.cl R.e.sq R.e.ok R.e.key R.e.old R.e.val
 have hx:=zfA (HX3.out) (HZ0.out.2) R.ix R.st R.x R.y R.e.k R.e.cl R.e.sq R.e.ok R.e.key R.e.old R.e.val
 clear d0 d1 d2 d3 d4 d5 d6 d7 d8 d9 d10 e0 e1 e2 e3 e4 e5 e6 e7 e8 e9 e10
 generalize ((SW.mk V b R:World))=U at hrow hx ⊢
 obtain ⟨⟨c0,c1,c2,c3,c4,c5,c6,c7,c8,c9,c10⟩,_⟩:=zcl (w:=U.drew) hrow
 refine bodyPost_ret (v:=.tuple #[C,.agg R]) (by simp [results,Tryz.results110,go_sem,c0,c1,c2,c3,c4,c5,c6,c7,c8,c9,c10]) rfl ?_
 exact ⟨rfl,Below.drew hx⟩
def DM.lkE (m:DM) (s:Nat) (i:Int):Int:=orI (zdK s i) (upE m)
def DM.lkC (m:DM) (s:Nat) (r i:Int):Nat:=if m.lkE s i=0 then m.clsW r i else 0
def DM.lkR (m:DM) (s:Nat) (r i:Int):Rpt:=if m.lkE s i=0 then m.rptW r i else {}
theorem zht {m:DM} {s:Nat} {i:Int}:m.lkE s i=0↔((s:Int)+1≤i∧i≤(s:Int)+24)∧m.up=true:=by
 unfold DM.lkE orI zdK upE
 by_cases h1:(s:Int)+1≤i∧i≤(s:Int)+24 <;> by_cases h2:m.up=true <;> simp [h1,h2]
theorem znI (m:DM) (r q:Int):(m.recM r q).st≤2:=zsL _ _ _
theorem zgG (m:DM) (r q:Int):(m.copM r q).st≤2:=zsY _ _ _
section
variable {w:World} {g d s:Nat} {r inc:Int} {F:Nat→Prop} {m:DM}
theorem zkJ (h:LogAt w g d r inc s) (hd:zao w d F m) (hL:LaidF w) (hLS:LaidS w) (i:Nat) (h1:1≤i) (h2:i≤2000000000000) (hfew:m.waits.length≤1000000) :
 (cL 110 #[aD g 0,.int .i64 i] w (.tuple #[.int .u8 (m.clsW r i:Nat),.agg (m.rptW r i)]):Prop) :=
 zmJ g i _ _ _ (m.clsW r i) (m.rptW r i) ⟨_,fun V=>zeq (m.recM r (zax (i:Int))) (m.copM r (2 * zax (i:Int))) (m.copM r (2 * zax (i:Int)+1)) (i:Int) V (znI _ _ _) (zgG _ _ _) (zgG _ _ _) (zgA _ _ _)⟩
  (fun _ hV=>zlu (h.ext hV) (hd.ext hV) (hL.ext hV) (hLS.ext hV) i h1 h2 hfew)
theorem zmi (p:Option Addr) (i:Int) (a b:Int) (C:Nat) (R:Rpt) (hk:∀V,Ext w V→(cL 29 #[.pointer p,.int .i64 i] V a:Prop))
 (hr:∀V,Ext w V→(cQ 30 #[.pointer p] V b:Prop))
 (hc:orI a b=0→∀V,Ext w V→(cL 110 #[.pointer p,.int .i64 i] V (.tuple #[C,.agg R]):Prop))
 (h0:orI a b≠0→C=0∧R={}) :
 (cL 112 #[.pointer p,.int .i64 i] w (.tuple #[C,.agg R,.int .i64 (orI a b)]):Prop):=by
 have HK:=qj hk
 have HR:=qj hr
 have HC:=qj hc
 have H0:=qj h0
 obtain ⟨bb,w0,hw0,hE0,hT0,hz0w⟩:∃(bb:Nat) (w0:World),(bb=w.heap.size∧w0=w.alloc (.cells Zk.b 115))∧Ext w w0∧w0.heap[bb]?=some (.cells Zk.b 115 (0,0))∧(w0.heap.size=bb+1∧w.heap.size≤bb) :=
  ⟨_,_,⟨rfl,rfl⟩,(Ext.refl w).alloc _,heap_alloc_new w _,by simp,Nat.le_refl _⟩
 have HE0:=qj hE0
 have HT0:=qj hT0
 have HZ0:=qj hz0w
 clear hk hr hc h0 hE0 hT0 hz0w
 go_enter Tryz.func112,Tryz.ntmps112
 go_wp2_with fail
 rw [←hw0.1,←hw0.2]
 clear hw0
 refine (HK.out _ HE0.out).mono ?_
 rintro e w1 ⟨rfl,hx⟩
 have HX:=qj (HE0.out.trans hx)
 have HT:=qj (zaa hx HT0.out)
 clear hx HE0 HT0
 go_wp2_with fail
 refine (HR.out _ HX.out).mono ?_
 rintro e w2 ⟨rfl,rfl⟩
 go_wp2_with fail
 have hro:=heap_alloc_new w1 (.cells #[a,b] 25)
 have hxo:=(Ext.refl w1).alloc (.cells #[a,b] 25)
 refine (or2E w1.heap.size 2 a b _ (cell_of_row _ _ 0 _ _ _ hro) (cell_of_row _ _ 1 _ _ _ hro)).mono ?_
 rintro e w3 ⟨rfl,rfl⟩
 have HX:=qj (HX.out.trans hxo)
 have HT:=qj (zaa hxo HT.out)
 clear hro hxo
 generalize w1.alloc (.cells #[a,b] 25)=W at *
 obtain ⟨E,hE⟩:∃E,orI a b=E:=⟨_,rfl⟩
 rw [hE] at HC H0
 by_cases hz:E=0
 ·subst hz
  have HEQ:=qj hE
  rw [hE]
  clear hE
  go_wp2_with fail
  refine (HC.out (by first | rfl | trivial) _ HX.out).mono ?_
  rintro e w4 ⟨rfl,hx⟩
  have HX:=qj (HX.out.trans hx)
  have HT:=qj (zaa hx HT.out)
  have hlt:=(Array.getElem?_eq_some_iff.1 HT.out).1
  clear hx
  obtain ⟨d0,d1,d2,d3,d4,d5,d6,d7,d8,d9,d10⟩:=cr11 (HT.out)
  obtain ⟨e0,e1,e2,e3,e4,e5,e6,e7,e8,e9,e10⟩:=fr11 (HT.out)
  go_upto_region 5 with (fail)
  have hrb:=zfe HT.out R.ix R.st R.x R.y R.e.k R.e.cl R.e.sq R.e.ok R.e.key R.e.old R.e.val
  have hx:=zfA HX.out HZ0.out.2 R.ix R.st R.x R.y R.e.k R.e.cl R.e.sq R.e.ok R.e.key R.e.old R.e.val
  clear d0 d1 d2 d3 d4 d5 d6 d7 d8 d9 d10 e0 e1 e2 e3 e4 e5 e6 e7 e8 e9 e10 hlt
  generalize ((SW.mk w4 bb R:World))=V at hrb hx ⊢
  have HRB:=qj hrb
  have HX3:=qj hx
  have hlt:=(Array.getElem?_eq_some_iff.1 hrb).1
  clear hrb hx
  obtain ⟨d0,d1,d2,d3,d4,d5,d6,d7,d8,d9,d10⟩:=cr11 (HRB.out)
  obtain ⟨e0,e1,e2,e3,e4,e5,e6,e7,e8,e9,e10⟩:=fr11 (HRB.out)
  go_region
  go_wp2_with fail
  have hrow:=zfe (HRB.out) R.ix R.st R.x R.y R.e.k R.e.cl R.e.sq R.e.ok R.e.key R.e.old R.e.val
  have hx:=zfA (HX3.out) (HZ0.out.2) R.ix R.st R.x R.y R.e.k R.e.cl R.e.sq R.e.ok R.e.key R.e.old R.e.val
  clear d0 d1 d2 d3 d4 d5 d6 d7 d8 d9 d10 e0 e1 e2 e3 e4 e5 e6 e7 e8 e9 e10
  generalize ((SW.mk V bb R:World))=U at hrow hx ⊢
  obtain ⟨⟨c0,c1,c2,c3,c4,c5,c6,c7,c8,c9,c10⟩,_⟩:=zcl (w:=U.drew) hrow
  refine bodyPost_ret (v:=.tuple #[C,.agg R,.int .i64 0]) (by simp [results,Tryz.results112,go_sem,c0,c1,c2,c3,c4,c5,c6,c7,c8,c9,c10]) rfl ?_
  exact ⟨by rw [HEQ.out],Below.drew hx⟩
 ·obtain ⟨hC,hR⟩:=H0.out hz
  subst hC hR
  have HEQ:=qj hE
  rw [hE]
  have hne:(E != 0)=true:=by simpa using hz
  clear hz hE
  obtain ⟨d0,d1,d2,d3,d4,d5,d6,d7,d8,d9,d10⟩:=cr11 (HT.out)
  obtain ⟨e0,e1,e2,e3,e4,e5,e6,e7,e8,e9,e10⟩:=fr11 (HT.out)
  have hlt:=(Array.getElem?_eq_some_iff.1 HT.out).1
  go_wp2_with fail
  have hrow:=zfe (HT.out) (.int .i64 0) (.int .u8 0) (.int .i64 0) (.int .i64 0) (.int .u8 0) (.int .i64 0) (.int .i64 0) (.int .u8 0) (.string ⟨#[]⟩) (.string ⟨#[]⟩) (.string ⟨#[]⟩)
  have hx:=zfA (HX.out) (HZ0.out.2) (.int .i64 0) (.int .u8 0) (.int .i64 0) (.int .i64 0) (.int .u8 0) (.int .i64 0) (.int .i64 0) (.int .u8 0) (.string ⟨#[]⟩) (.string ⟨#[]⟩) (.string ⟨#[]⟩)
  clear d0 d1 d2 d3 d4 d5 d6 d7 d8 d9 d10 e0 e1 e2 e3 e4 e5 e6 e7 e8 e9 e10
  generalize ((SW.mk W bb Zk.j:World))=U at hrow hx ⊢
  obtain ⟨⟨c0,c1,c2,c3,c4,c5,c6,c7,c8,c9,c10⟩,_⟩:=zcl (w:=U) hrow
  refine bodyPost_ret (v:=.tuple #[.int .u8 0,.agg Zk.b,E]) (by simp [results,Tryz.results112,go_sem,c0,c1,c2,c3,c4,c5,c6,c7,c8,c9,c10]) rfl ?_
  exact ⟨by rw [HEQ.out];rfl,hx⟩
end
section
variable {w:World}
theorem zoc (p:Option Addr) (i E:Int) (C:Nat) (R:Rpt) (hl:∀V,Ext w V→(cL 112 #[.pointer p,i] V (.tuple #[C,.agg R,E]):Prop)) :
 (cL 54 #[.pointer p,i] w (.tuple #[.agg R,E]):Prop):=by
 have HL:=qj hl
 obtain ⟨b,w0,hw0,hE0,hT0,hz0w⟩:∃(b:Nat) (w0:World),(b=w.heap.size∧w0=w.alloc (.cells Zk.b 115))∧Ext w w0∧w0.heap[b]?=some (.cells Zk.b 115 (0,0))∧(w0.heap.size=b+1∧w.heap.size≤b) :=
  ⟨_,_,⟨rfl,rfl⟩,(Ext.refl w).alloc _,heap_alloc_new w _,by simp,Nat.le_refl _⟩
 have HE0:=qj hE0
 have HT0:=qj hT0
 have HZ0:=qj hz0w
 clear hl hE0 hT0 hz0w
 go_enter Tryz.func54,Tryz.ntmps54
 go_wp2_with fail
 rw [←hw0.1,←hw0.2]
 clear hw0
 refine (HL.out _ HE0.out).mono ?_
 rintro e w1 ⟨rfl,hx⟩
 have HX:=qj (HE0.out.trans hx)
 have HT:=qj (zaa hx HT0.out)
 clear hx HE0 HT0
 go_upto_region 2 with (fail)
 have hr9:=heap_alloc_new w1 (.cells R 115)
 have hx9:=(Ext.refl w1).alloc (.cells R 115)
 have HX:=qj (HX.out.trans hx9)
 have HT:=qj (zaa hx9 HT.out)
 generalize w1.alloc (.cells R 115)=V at *
 generalize w1.heap.size=g9 at *
 have HR9:=qj hr9
 have hlt:=(Array.getElem?_eq_some_iff.1 HT.out).1
 clear hr9 hx9
 obtain ⟨c0,c1,c2,c3,c4,c5,c6,c7,c8,c9,c10⟩:=cr11 (HR9.out)
 obtain ⟨d0,d1,d2,d3,d4,d5,d6,d7,d8,d9,d10⟩:=cr11 (HT.out)
 obtain ⟨e0,e1,e2,e3,e4,e5,e6,e7,e8,e9,e10⟩:=fr11 (HT.out)
 go_wp2_with fail
 have hrow:=zfe HT.out R.ix R.st R.x R.y R.e.k R.e.cl R.e.sq R.e.ok R.e.key R.e.old R.e.val
 have hx:=zfA HX.out HZ0.out.2 R.ix R.st R.x R.y R.e.k R.e.cl R.e.sq R.e.ok R.e.key R.e.old R.e.val
 clear d0 d1 d2 d3 d4 d5 d6 d7 d8 d9 d10 c0 c1 c2 c3 c4 c5 c6 c7 c8 c9 c10 e0 e1 e2 e3 e4 e5 e6 e7 e8 e9 e10 hlt
 generalize ((SW.mk V b R:World))=U at hrow hx ⊢
 obtain ⟨⟨c0,c1,c2,c3,c4,c5,c6,c7,c8,c9,c10⟩,_⟩:=zcl hrow
 refine bodyPost_ret (v:=.tuple #[.agg R,E]) (by simp [results,Tryz.results54,go_sem,c0,c1,c2,c3,c4,c5,c6,c7,c8,c9,c10]) rfl ?_
 exact ⟨rfl,hx⟩
theorem zlh (p:Option Addr) (i E:Int) (C:Nat) (R:Rpt) (hl:∀V,Ext w V→(cL 112 #[.pointer p,i] V (.tuple #[C,.agg R,E]):Prop)) :
 (cL 55 #[.pointer p,i] w (.tuple #[C,E]):Prop):=by
 have HL:=qj hl
 clear hl
 go_enter Tryz.func55,Tryz.ntmps55
 go_wp2_with fail
 refine (HL.out _ (Ext.refl w)).mono ?_
 rintro e w1 ⟨rfl,hx⟩
 have HX:=qj hx
 clear hx
 go_wp2_with fail
 refine bodyPost_ret (v:=.tuple #[C,E]) (by simp [results,Tryz.results55,go_sem]) rfl ?_
 exact ⟨rfl,HX.out.alloc _⟩
end
section
variable {w:World} {g d s:Nat} {r inc:Int} {F:Nat→Prop} {m:DM}
theorem zle (h:LogAt w g d r inc s) (hd:zao w d F m) (hL:LaidF w) (hLS:LaidS w) (hs:s≤1900000000000) (i:Int) (hfew:m.waits.length≤1000000) :
 (cL 112 #[aD g 0,.int .i64 i] w (.tuple #[.int .u8 (m.lkC s r i:Nat),.agg (m.lkR s r i),.int .i64 (m.lkE s i)]):Prop):=by
 refine zmi (some ⟨g,0,none⟩) i (zdK s i) (upE m) (m.lkC s r i) (m.lkR s r i) (fun V hV=>zfN (h.ext hV) (by omega) i) (fun V hV=>zcp (h.ext hV) (hd.ext hV)) (fun h0 V hV=>?_) (fun h0=>?_)
 ·have hl:=zht.1 h0
  have e1:m.lkC s r i=m.clsW r i:=if_pos h0
  have e2:m.lkR s r i=m.rptW r i:=if_pos h0
  obtain ⟨n,rfl⟩:=Int.eq_ofNat_of_zero_le (show 0≤i by omega)
  rw [e1,e2]
  exact zkJ (h.ext hV) (hd.ext hV) (hL.ext hV) (hLS.ext hV) n (by omega) (by omega) hfew
 ·exact ⟨if_neg h0,if_neg h0⟩
theorem zto (h:LogAt w g d r inc s) (hd:zao w d F m) (hL:LaidF w) (hLS:LaidS w) (hs:s≤1900000000000) (i:Int) (hfew:m.waits.length≤1000000) :
 (cL 54 #[aD g 0,.int .i64 i] w (.tuple #[.agg (m.lkR s r i),.int .i64 (m.lkE s i)]):Prop) :=
 zoc _ i _ _ _ fun _ hV=>zle (h.ext hV) (hd.ext hV) (hL.ext hV) (hLS.ext hV) hs i hfew
theorem zpu (h:LogAt w g d r inc s) (hd:zao w d F m) (hL:LaidF w) (hLS:LaidS w) (hs:s≤1900000000000) (i:Int) (hfew:m.waits.length≤1000000) :
 (cL 55 #[aD g 0,.int .i64 i] w (.tuple #[.int .u8 (m.lkC s r i:Nat),.int .i64 (m.lkE s i)]):Prop) :=
 zlh _ i _ _ (m.lkR s r i) fun _ hV=>zle (h.ext hV) (hd.ext hV) (hL.ext hV) (hLS.ext hV) hs i hfew
end
theorem zsk {A1 A2:Option Addr} {c1 c2:Nat} {l1 l2:List Nat} (w:World) (h1:By w A1 7 c1 l1) (h2:By w A2 1 c2 l2) :
 Calls Tryz.prog 61 #[.slice (some ⟨w.heap.size,0,none⟩) 2 2] (w.alloc (.cells #[.slice A1 7 c1,.slice A2 1 c2] 45)) fun e w'=>∃A' c',e=.returned (.slice A' 8 c')∧By w' A' 8 c' (l1++l2)∧(∀g o,A'=some ⟨g,o,none⟩→w.heap.size≤g)∧Ext w w':=by
 have hcat:cat [(.slice A1 7 c1,l1),(.slice A2 1 c2,l2)]=l1++l2:=by simp [cat]
 have hN:(cat [((.slice A1 7 c1:Value),l1),(.slice A2 1 c2,l2)]).length=8:=by rw [hcat,List.length_append,h1.len,h2.len]
 have hlt:∀b∈l1++l2,b<256:=by
  intro b hb
  rcases List.mem_append.1 hb with h | h
  ·exact h1.rd.lt b h
  ·exact h2.rd.lt b h
 have hp:=zfY (w:=w) (ps:=[(.slice A1 7 c1,l1),(.slice A2 1 c2,l2)]) (m:=2) (cs:=#[.slice A1 7 c1,.slice A2 1 c2]) (t:=45) rfl rfl (fun p hp=>by
  simp only [List.mem_cons,List.not_mem_nil,or_false] at hp
  rcases hp with rfl | rfl
  ·exact ⟨_,_,_,rfl,h1⟩
  ·exact ⟨_,_,_,rfl,h2⟩)
 refine (zfw _ 2 2 _ _ hp (by omega) (by rw [hN];omega)).mono ?_
 rintro e w' ⟨A',c',rfl,hown,hx⟩
 rw [hN,hcat] at hown
 refine ⟨A',c',by rw [hN],Bs.of_own hown hlt,fun g o hA=>?_,((Ext.refl w).alloc _).trans hx⟩
 have:=(hown.lt g (by rw [hA];rfl)).1
 simp at this
 omega
theorem zlT (x y h:Nat) (w:World) (hL:LaidS w) (hr:recB x y h=true) :
 Calls Tryz.prog 33 #[.agg #[.int .i64 x,.int .i64 y],.int .i64 h] w fun e w'=>∃A' c',e=.returned (.tuple #[.slice A' 8 c',.int .i64 0])∧By w' A' 8 c' (recL x y h)∧(∀g o,A'=some ⟨g,o,none⟩→w.heap.size≤g)∧Ext w w':=by
 have hrr:=zcm.1 hr
 have hE:=(Ext.refl w).alloc (.cells #[.int .i64 x,.int .i64 y] 38)
 have hrow:=heap_alloc_new w (.cells #[.int .i64 x,.int .i64 y] 38)
 have HB:=qj (show x≤1099511627776∧y<256∧h<256 by omega)
 have HL:=qj (hL.ext hE)
 have HM:=qj (fun V hV=>zmm (x:Int) (y:Int) (h:Int) V hV)
 rw [hr] at HM
 have HR:=qj hrow
 have HE:=qj hE
 have i0:=fun w=>(zav (x:Int) (y:Int) (h:Int) w).1
 have i1:=fun w=>(zav (x:Int) (y:Int) (h:Int) w).2.1
 have i2:=fun w=>(zav (x:Int) (y:Int) (h:Int) w).2.2
 have HRL:Hid (recL (x:Int) (y:Int) (h:Int)=digs 6 x++[y]++[h]):=qj (by unfold recL;rw [Int.toNat_natCast,Int.toNat_natCast,Int.toNat_natCast])
 clear hrr hr hE hL hrow
 go_enter Tryz.func33,Tryz.ntmps33
 go_upto_region 1 with (fail)
 generalize (w.alloc (.cells #[.int .i64 x,.int .i64 y] 38))=w0 at *
 generalize hg:w.heap.size=g at *
 have HG:=qj hg
 clear hg
 have b0:=cell_of_row w0 g 0 _ _ _ HR.out
 have b1:=cell_of_row w0 g 1 _ _ _ HR.out
 go_wp2_with fail
 refine (HM.out w0 HL.out.o).mono ?_
 rintro e w1 ⟨rfl,hx⟩
 have HE:=qj (HE.out.trans hx)
 have HL:=qj (HL.out.ext hx)
 have HR:=qj (zaa hx HR.out)
 clear hx b0 b1
 have b0:=cell_of_row w1 g 0 _ _ _ HR.out
 have b1:=cell_of_row w1 g 1 _ _ _ HR.out
 obtain ⟨t0,t1,t2⟩:=HL.out.t
 go_wp2_with fail
 refine wp_loop_rounds 4 ?_
 rw [rounds_succ]
 go_wp2_with fail
 refine (zuS x _ HL.out.o HB.out.1).mono ?_
 rintro e w2 ⟨A1,c1,rfl,hb,hx⟩
 have HE:=qj (HE.out.trans hx)
 have HL:=qj (HL.out.ext hx)
 have HBy:=qj hb
 clear hx hb b0 b1 t0 t1 t2
 go_wp2_with fail
 refine (zuL w2 (By.none_ w2) HBy.out).mono ?_
 rintro e w3 ⟨A2,c2,rfl,hb,hx⟩
 have HE:=qj (HE.out.trans hx)
 have HL:=qj (HL.out.ext hx)
 have HBy:=qj hb
 clear hx hb
 obtain ⟨t0,t1,t2⟩:=HL.out.t
 go_wp2_with fail
 rw [rounds_succ]
 go_wp2_with fail
 refine (ztJ y _ HL.out.o HB.out.2.1).mono ?_
 rintro e w4 ⟨A3,c3,rfl,hb,hx⟩
 have HE:=qj (HE.out.trans hx)
 have HL:=qj (HL.out.ext hx)
 have HBy:=qj (HBy.out.ext hx)
 have HB2:=qj hb
 clear hx hb t0 t1 t2
 go_wp2_with fail
 refine (zuM w4 HBy.out HB2.out).mono ?_
 rintro e w5 ⟨A4,c4,rfl,hb,hx⟩
 have HE:=qj (HE.out.trans hx)
 have HL:=qj (HL.out.ext hx)
 have HBy:=qj hb
 clear hx hb HB2
 obtain ⟨t0,t1,t2⟩:=HL.out.t
 go_wp2_with fail
 rw [rounds_succ]
 go_wp2_with fail
 refine (ztJ h _ HL.out.o HB.out.2.2).mono ?_
 rintro e w6 ⟨A5,c5,rfl,hb,hx⟩
 have HE:=qj (HE.out.trans hx)
 have HL:=qj (HL.out.ext hx)
 have HBy:=qj (HBy.out.ext hx)
 have HB2:=qj hb
 clear hx hb t0 t1 t2
 go_wp2_with fail
 refine (zsk w6 HBy.out HB2.out).mono ?_
 rintro e w7 ⟨A6,c6,rfl,hb,hfr,hx⟩
 have HFR:Hid (∀g o,A6=some ⟨g,o,none⟩→w.heap.size≤g):=qj fun g o hA=>Nat.le_trans HE.out.size (hfr g o hA)
 clear hfr
 have HE:=qj (HE.out.trans hx)
 have HBy:=qj hb
 clear hx hb HB2
 go_wp2_with fail
 rw [rounds_succ]
 go_wp2_with fail
 go_ret2
 exact ⟨A6,c6,rfl,HRL.out ▸ HBy.out,HFR.out,HE.out⟩
end Go.Proofs.YtdbpdhlecgoclaaGreatDoor
