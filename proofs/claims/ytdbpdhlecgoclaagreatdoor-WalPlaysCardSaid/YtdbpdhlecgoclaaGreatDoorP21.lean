/-
  What a slot is,by no frame.
-/
import Derived.Test.YtdbpdhlecgoclaaGreatDoorP00
import Derived.Test.YtdbpdhlecgoclaaGreatDoorP20
namespace Go.Proofs.YtdbpdhlecgoclaaGreatDoor
set_option maxRecDepth 100000
set_option maxHeartbeats 6400000
open Go Go.RowKit
theorem znS (p:Rec) (f0 f1:CopL) (i fi cl st bx yb:Int) (q:CopL→Bool) (hfi:fi=0∨fi=1) (hk:useL fi (q f0) (q f1) f0 f1=-1) (w:World)
 (hap:∀V,Calls Tryz.prog 123 #[.agg p,.agg (f0,f1),i] V fun e w'=>∃(F:Nat) (caps:Array Value),e=.returned (.agg #[.func (.func F) #[] caps,fi,.int .u8 cl,.int .i64 0,.int .u8 st,bx,yb,.int .u8 0,.int .i64 0,.int .i64 0,.int .u8 0,.string ⟨#[]⟩,.string ⟨#[]⟩,.string ⟨#[]⟩])∧Ext V w'∧Enters Tryz.prog F∧∀c,Asks w' F caps c (q c)) :
 (cL 65 #[.agg p,.agg (f0,f1),i] w (.tuple #[.int .u8 cl,.agg #[i,.int .u8 st,bx,yb,.int .u8 0,.int .i64 0,.int .i64 0,.int .u8 0,.string ⟨#[]⟩,.string ⟨#[]⟩,.string ⟨#[]⟩],.int .i64 (-1)]):Prop):=by
 have HW:=qj (WhS.make w p f0 f1)
 have HAP:=qj hap
 have HUS:=qj (fun F caps V hgo h0 h1=>zmT F caps fi hfi (.int .u8 cl) (.int .i64 0) (.int .u8 st) bx yb (.int .u8 0) (.int .i64 0) (.int .i64 0) (.int .u8 0) (.string ⟨#[]⟩) (.string ⟨#[]⟩) (.string ⟨#[]⟩) f0 f1 (q f0) (q f1) V hgo h0 h1)
 rw [hk] at HUS
 clear hap hk hfi
 go_enter Tryz.func65,Tryz.ntmps65
 go_upto_region 1 with (fail)
 generalize (((w.alloc (.cells p 90)).alloc (.cells (f0,f1) 93)).alloc (.cells Zk.b 115))=W at *
 generalize w.heap.size+1+1=g2 at *
 generalize w.heap.size+1=g1 at *
 generalize hg:w.heap.size=g at *
 have HG:=qj hg
 clear hg
 obtain ⟨c0,c1,c2,c3,c4⟩:=cr5 (HW.out.rec_)
 obtain ⟨N,hN,hsz⟩:=zaz
 have hld:=zar hN HW.out.two
 have HNN:=qj hN
 clear hN
 go_wp2_with fail
 refine (HAP.out W).mono ?_
 rintro e w1 ⟨F,caps,rfl,hx,hgo,hq⟩
 have HW:=qj (HW.out.mono hx)
 have HQ:=qj hq
 have HGO:=qj hgo
 clear hx hq hgo HAP c0 c1 c2 c3 c4 hsz hld HNN
 have HRL:=qj (heap_alloc_new w1 (.cells #[.func (.func F) #[] caps,fi,.int .u8 cl,.int .i64 0,.int .u8 st,bx,yb,.int .u8 0,.int .i64 0,.int .i64 0,.int .u8 0,.string ⟨#[]⟩,.string ⟨#[]⟩,.string ⟨#[]⟩] 179))
 have HX1:=qj ((Ext.refl w1).alloc (.cells #[.func (.func F) #[] caps,fi,.int .u8 cl,.int .i64 0,.int .u8 st,bx,yb,.int .u8 0,.int .i64 0,.int .i64 0,.int .u8 0,.string ⟨#[]⟩,.string ⟨#[]⟩,.string ⟨#[]⟩] 179))
 have HNE:Hid (w1.heap.size≠g2):=qj (by have:=(Array.getElem?_eq_some_iff.1 HW.out.rep).1;omega)
 go_upto_region 2 with (fail)
 have HW:=qj (HW.out.mono HX1.out)
 generalize (w1.alloc (.cells #[.func (.func F) #[] caps,fi,.int .u8 cl,.int .i64 0,.int .u8 st,bx,yb,.int .u8 0,.int .i64 0,.int .i64 0,.int .u8 0,.string ⟨#[]⟩,.string ⟨#[]⟩,.string ⟨#[]⟩] 179))=w2 at *
 generalize w1.heap.size=gr at *
 refine wp_region_held_drew (S:=fun w'=>w'.cell? (aD gr 2)=some (.int .u8 cl)∧w'.heap[gr]?=some (.cells #[.func (.func F) #[] caps,fi,.int .u8 cl,.int .i64 0,.int .u8 st,bx,yb,.int .u8 0,.int .i64 0,.int .i64 0,.int .u8 0,.string ⟨#[]⟩,.string ⟨#[]⟩,.string ⟨#[]⟩] 179 (0,0))∧TwoL w' g1 f0 f1) (by kernel_rfl) (⟨cell_of_row _ gr 2 _ _ _ (zaa (Ext.refl w2).drew HRL.out),zaa (Ext.refl w2).drew HRL.out,HW.out.two.ext (Ext.refl w2).drew⟩) (fun hHeld=>?_)
 refine tj (i:=0) (oi:=⟨some 14,.fieldAddr 179 (.tmp 9) 2,0, "slot.go:103",#[],none⟩) rfl (by kernel_rfl) ?_
 try simp only [Act.put,sT,s0,s1]
 refine tj (i:=1) (oi:=⟨some 15,.load 5 (.tmp 14),5, "slot.go:103",#[⟨0,.data⟩],none⟩) rfl (by kernel_rfl) ?_
 try simp only [Act.put,sT,s0,s1]
 refine tj (i:=2) (oi:=⟨some 16,.fieldAddr 179 (.tmp 9) 3,0, "slot.go:103",#[⟨7,.gcOnly .lateStores⟩],none⟩) rfl (by kernel_rfl) ?_
 try simp only [Act.put,sT,s0,s1]
 refine tk (i:=3) (oi:=⟨some 17,.load 115 (.tmp 16),115, "slot.go:103",#[⟨2,.data⟩,⟨7,.gcOnly .lateStores⟩],none⟩) (v:=.agg #[.int .i64 0,.int .u8 st,bx,yb,.int .u8 0,.int .i64 0,.int .i64 0,.int .u8 0,.string ⟨#[]⟩,.string ⟨#[]⟩,.string ⟨#[]⟩]) rfl (by kernel_rfl) (yieldsIf_load_mid (by rfl) 115 (.tmp 16) rfl gr 3 rfl [.int .i64 0,.int .u8 st,bx,yb,.int .u8 0,.int .i64 0,.int .i64 0,.int .u8 0,.string ⟨#[]⟩,.string ⟨#[]⟩,.string ⟨#[]⟩] _ (fun w hw=>zau [.func (.func F) #[] caps,fi,.int .u8 cl,.int .i64 0,.int .u8 st,bx,yb,.int .u8 0,.int .i64 0,.int .i64 0,.int .u8 0,.string ⟨#[]⟩,.string ⟨#[]⟩,.string ⟨#[]⟩] hw.2.1 3) Tryz.underlying115 rfl (by kernel_rfl)) ?_
 try simp only [Act.put,sT,s0,s1]
 refine tk (i:=4) (oi:=⟨some 18,.load 179 (.tmp 9),179, "slot.go:103",#[],none⟩) (v:=.agg #[.func (.func F) #[] caps,fi,.int .u8 cl,.int .i64 0,.int .u8 st,bx,yb,.int .u8 0,.int .i64 0,.int .i64 0,.int .u8 0,.string ⟨#[]⟩,.string ⟨#[]⟩,.string ⟨#[]⟩]) rfl (by kernel_rfl) (yieldsIf_load_mid (by rfl) 179 (.tmp 9) rfl gr 0 rfl [.func (.func F) #[] caps,fi,.int .u8 cl,.int .i64 0,.int .u8 st,bx,yb,.int .u8 0,.int .i64 0,.int .i64 0,.int .u8 0,.string ⟨#[]⟩,.string ⟨#[]⟩,.string ⟨#[]⟩] _ (fun w hw=>zau [.func (.func F) #[] caps,fi,.int .u8 cl,.int .i64 0,.int .u8 st,bx,yb,.int .u8 0,.int .i64 0,.int .i64 0,.int .u8 0,.string ⟨#[]⟩,.string ⟨#[]⟩,.string ⟨#[]⟩] hw.2.1 0) Tryz.underlying179 rfl (by kernel_rfl)) ?_
 try simp only [Act.put,sT,s0,s1]
 refine tk (i:=5) (oi:=⟨some 19,.load 93 (.tmp 4),93, "slot.go:103",#[],none⟩) (v:=.agg (f0,f1)) rfl (by kernel_rfl) (yieldsIf_load_mid (by rfl) 93 (.tmp 4) rfl g1 0 rfl (f0,f1) _ (fun w hw=>zau (f0,f1) hw.2.2 0) Tryz.underlying93 rfl (by kernel_rfl)) ?_
 try simp only [Act.put,sT,s0,s1]
 refine wpAnyH_ready (rs:=[6]) (by kernel_rfl) (by simp) ?_
 refine AllReadyH.cons (o:=⟨some 20,.call { callee:=.value (.func 124),args:=#[.tmp 18,.tmp 19],argTypes:=#[179,93] },3, "slot.go:103",#[⟨4,.data⟩,⟨5,.data⟩],none⟩) rfl (fun K hK=>?_) AllReadyH.nil
 go_simp
 refine (HUS.out F caps _ HGO.out (HQ.out f0 |>.ext (HX1.out.trans (Ext.refl w2).drew)) (HQ.out f1 |>.ext (HX1.out.trans (Ext.refl w2).drew))).mono ?_
 rintro e w3 ⟨rfl,hx⟩
 have HW:=qj (HW.out.mono ((Ext.refl w2).drew.trans hx))
 have HRL:=qj (zaa ((Ext.refl w2).drew.trans hx) HRL.out)
 clear hx hHeld
 go_wp2_with fail
 refine hK.out _ _ (⟨cell_of_row _ gr 2 _ _ _ HRL.out,HRL.out,HW.out.two⟩) (fun hHeld=>?_)
 clear hK K
 try simp only [Act.put,sT,s0,s1]
 refine tj (i:=7) (oi:=⟨some 6,.assign (.tmp 15),5, "slot.go:103",#[⟨1,.data⟩,⟨6,.chain⟩,⟨0,.phase⟩,⟨1,.phase⟩,⟨2,.textOnly .lateStores⟩,⟨3,.textOnly .lateStores⟩,⟨4,.textOnly .lateStores⟩,⟨5,.textOnly .lateStores⟩,⟨6,.textOnly .lateStoresUnsure⟩],none⟩) rfl (by kernel_rfl) ?_
 try simp only [Act.put,sT,s0,s1]
 obtain ⟨z0,z1,z2,z3,z4,z5,z6,z7,z8,z9,z10⟩:=cr11 (HW.out.rep)
 obtain ⟨y0,y1,y2,y3,y4,y5,y6,y7,y8,y9,y10⟩:=fr11 (HW.out.rep)
 have HRL:Hid ((((SW.mk w3 g2 [.int .i64 0,.int .u8 st,bx,yb,.int .u8 0,.int .i64 0,.int .i64 0,.int .u8 0,.string ⟨#[]⟩,.string ⟨#[]⟩,.string ⟨#[]⟩]:World))).heap[gr]?=some (.cells #[.func (.func F) #[] caps,fi,.int .u8 cl,.int .i64 0,.int .u8 st,bx,yb,.int .u8 0,.int .i64 0,.int .i64 0,.int .u8 0,.string ⟨#[]⟩,.string ⟨#[]⟩,.string ⟨#[]⟩] 179 (0,0))):=qj (zkE HRL.out HNE.out _ _ _ _ _ _ _ _ _ _ _)
 have HW:Hid (WhS w (((SW.mk w3 g2 [.int .i64 0,.int .u8 st,bx,yb,.int .u8 0,.int .i64 0,.int .i64 0,.int .u8 0,.string ⟨#[]⟩,.string ⟨#[]⟩,.string ⟨#[]⟩]:World))) p f0 f1 g g1 g2 #[.int .i64 0,.int .u8 st,bx,yb,.int .u8 0,.int .i64 0,.int .i64 0,.int .u8 0,.string ⟨#[]⟩,.string ⟨#[]⟩,.string ⟨#[]⟩]):=qj (HW.out.put _ _ _ _ _ _ _ _ _ _ _)
 refine wpAnyH_ready (rs:=[8]) (by kernel_rfl) (by simp) ?_
 refine AllReadyH.cons (o:=⟨none,.store 115 (.tmp 7) (.tmp 17),0, "slot.go:103",#[⟨3,.data⟩,⟨7,.chain⟩,⟨0,.phase⟩,⟨1,.phase⟩,⟨2,.phase⟩,⟨3,.phase⟩,⟨4,.textOnly .lateStores⟩,⟨5,.textOnly .lateStores⟩,⟨6,.textOnly .lateStoresUnsure⟩,⟨7,.phase⟩],none⟩) rfl (fun K hK=>?_) AllReadyH.nil
 clear hHeld
 go_simp
 refine hK.out _ _ (⟨cell_of_row _ gr 2 _ _ _ HRL.out,HRL.out,HW.out.two⟩) (fun hHeld=>?_)
 clear hK K
 try simp only [Act.put,sT,s0,s1]
 refine tj (i:=9) (oi:=⟨some 8,.assign (.tmp 20),3, "slot.go:103",#[⟨6,.data⟩,⟨8,.chain⟩,⟨0,.phase⟩,⟨1,.phase⟩,⟨2,.phase⟩,⟨3,.phase⟩,⟨4,.phase⟩,⟨5,.phase⟩,⟨6,.phase⟩,⟨7,.phase⟩,⟨8,.phase⟩],none⟩) rfl (by kernel_rfl) ?_
 try simp only [Act.put,sT,s0,s1]
 refine wpAnyH_done (by kernel_rfl) ?_ _
 clear hHeld
 generalize ((SW.mk w3 g2 [.int .i64 0,.int .u8 st,bx,yb,.int .u8 0,.int .i64 0,.int .i64 0,.int .u8 0,.string ⟨#[]⟩,.string ⟨#[]⟩,.string ⟨#[]⟩]:World))=w4 at *
 clear z0 z1 z2 z3 z4 z5 z6 z7 z8 z9 z10 y0 y1 y2 y3 y4 y5 y6 y7 y8 y9 y10 HRL HX1 HQ HGO HUS
 have z0:=cell_of_row w4 g2 0 _ _ _ HW.out.rep
 have y0:=frozen_of_row w4 g2 0 _ _ HW.out.rep
 have HW:=qj (HW.out.put0 i)
 go_upto_region 6 with (fail)
 generalize (w4.setCell (aD g2 0) i)=w7 at *
 clear z0 y0
 refine wp_region_held_drew (S:=fun w'=>w'.heap[g2]?=some (.cells #[i,.int .u8 st,bx,yb,.int .u8 0,.int .i64 0,.int .i64 0,.int .u8 0,.string ⟨#[]⟩,.string ⟨#[]⟩,.string ⟨#[]⟩] 115 (0,0))) (by kernel_rfl) ((HW.out.mono (Ext.refl w7).drew).rep) (fun hHeld=>?_)
 refine tj (i:=0) (oi:=⟨some 34,.move (.tmp 6),5, "slot.go:108",#[],none⟩) rfl (by kernel_rfl) ?_
 try simp only [Act.put,sT,s0,s1]
 refine tk (i:=1) (oi:=⟨some 35,.load 115 (.tmp 7),115, "slot.go:108",#[⟨3,.gcOnly .lateStores⟩],none⟩) (v:=.agg #[i,.int .u8 st,bx,yb,.int .u8 0,.int .i64 0,.int .i64 0,.int .u8 0,.string ⟨#[]⟩,.string ⟨#[]⟩,.string ⟨#[]⟩]) rfl (by kernel_rfl) (yieldsIf_load_mid (by rfl) 115 (.tmp 7) rfl g2 0 rfl [i,.int .u8 st,bx,yb,.int .u8 0,.int .i64 0,.int .i64 0,.int .u8 0,.string ⟨#[]⟩,.string ⟨#[]⟩,.string ⟨#[]⟩] _ (fun w hw=>zau [i,.int .u8 st,bx,yb,.int .u8 0,.int .i64 0,.int .i64 0,.int .u8 0,.string ⟨#[]⟩,.string ⟨#[]⟩,.string ⟨#[]⟩] hw 0) Tryz.underlying115 rfl (by kernel_rfl)) ?_
 try simp only [Act.put,sT,s0,s1]
 refine tj (i:=2) (oi:=⟨some 36,.move (.tmp 8),3, "slot.go:108",#[⟨4,.gcOnly .lateStores⟩],none⟩) rfl (by kernel_rfl) ?_
 try simp only [Act.put,sT,s0,s1]
 refine tj (i:=3) (oi:=⟨some 6,.assign (.tmp 34),5, "slot.go:108",#[⟨0,.data⟩,⟨0,.phase⟩,⟨1,.textOnly .lateStores⟩,⟨2,.textOnly .lateStores⟩],none⟩) rfl (by kernel_rfl) ?_
 try simp only [Act.put,sT,s0,s1]
 have HW:=qj (HW.out.mono (Ext.refl w7).drew)
 generalize w7.drew=w8 at *
 obtain ⟨z0,z1,z2,z3,z4,z5,z6,z7,z8,z9,z10⟩:=cr11 (HW.out.rep)
 obtain ⟨y0,y1,y2,y3,y4,y5,y6,y7,y8,y9,y10⟩:=fr11 (HW.out.rep)
 have HW:Hid (WhS w (((SW.mk w8 g2 [i,.int .u8 st,bx,yb,.int .u8 0,.int .i64 0,.int .i64 0,.int .u8 0,.string ⟨#[]⟩,.string ⟨#[]⟩,.string ⟨#[]⟩]:World))) p f0 f1 g g1 g2 #[i,.int .u8 st,bx,yb,.int .u8 0,.int .i64 0,.int .i64 0,.int .u8 0,.string ⟨#[]⟩,.string ⟨#[]⟩,.string ⟨#[]⟩]):=qj (HW.out.put _ _ _ _ _ _ _ _ _ _ _)
 refine wpAnyH_ready (rs:=[4]) (by kernel_rfl) (by simp) ?_
 refine AllReadyH.cons (o:=⟨none,.store 115 (.tmp 7) (.tmp 35),0, "slot.go:108",#[⟨1,.data⟩,⟨3,.chain⟩,⟨0,.phase⟩,⟨1,.phase⟩,⟨2,.textOnly .lateStores⟩,⟨3,.phase⟩],none⟩) rfl (fun K hK=>?_) AllReadyH.nil
 clear hHeld
 go_simp
 refine hK.out _ _ (HW.out.rep) (fun hHeld=>?_)
 clear hK K
 try simp only [Act.put,sT,s0,s1]
 refine tj (i:=5) (oi:=⟨some 8,.assign (.tmp 36),3, "slot.go:108",#[⟨2,.data⟩,⟨4,.chain⟩,⟨0,.phase⟩,⟨1,.phase⟩,⟨2,.phase⟩,⟨3,.phase⟩,⟨4,.phase⟩],none⟩) rfl (by kernel_rfl) ?_
 try simp only [Act.put,sT,s0,s1]
 refine wpAnyH_done (by kernel_rfl) ?_ _
 clear hHeld
 generalize ((SW.mk w8 g2 [i,.int .u8 st,bx,yb,.int .u8 0,.int .i64 0,.int .i64 0,.int .u8 0,.string ⟨#[]⟩,.string ⟨#[]⟩,.string ⟨#[]⟩]:World))=w9 at *
 clear z0 z1 z2 z3 z4 z5 z6 z7 z8 z9 z10 y0 y1 y2 y3 y4 y5 y6 y7 y8 y9 y10
 obtain ⟨z0,z1,z2,z3,z4,z5,z6,z7,z8,z9,z10⟩:=zfG HW.out.rep
 go_wp2_with fail
 refine bodyPost_ret (v:=.tuple #[.int .u8 cl,.agg #[i,.int .u8 st,bx,yb,.int .u8 0,.int .i64 0,.int .i64 0,.int .u8 0,.string ⟨#[]⟩,.string ⟨#[]⟩,.string ⟨#[]⟩],.int .i64 (-1)]) (by simp [results,Tryz.results65,go_sem,z0,z1,z2,z3,z4,z5,z6,z7,z8,z9,z10]) rfl ⟨rfl,HW.out.ext⟩
theorem zux (p:Rec) (f0 f1:CopL) (i fi cl st bx yb:Int) (q:CopL→Bool) (hfi:fi=0∨fi=1) (hk:useL fi (q f0) (q f1) f0 f1=0) (w:World)
 (hap:∀V,Calls Tryz.prog 123 #[.agg p,.agg (f0,f1),i] V fun e w'=>∃(F:Nat) (caps:Array Value),e=.returned (.agg #[.func (.func F) #[] caps,fi,.int .u8 cl,.int .i64 0,.int .u8 st,bx,yb,.int .u8 0,.int .i64 0,.int .i64 0,.int .u8 0,.string ⟨#[]⟩,.string ⟨#[]⟩,.string ⟨#[]⟩])∧Ext V w'∧Enters Tryz.prog F∧∀c,Asks w' F caps c (q c)) :
 (cL 65 #[.agg p,.agg (f0,f1),i] w (.tuple #[.int .u8 3,.agg #[i,.int .u8 2,f0.bx,f0.yb,f0.e.k,f0.e.cl,f0.e.sq,f0.e.ok,f0.e.key,f0.e.old,f0.e.val],.int .i64 (0)]):Prop):=by
 have HW:=qj (WhS.make w p f0 f1)
 have HAP:=qj hap
 have HUS:=qj (fun F caps V hgo h0 h1=>zmT F caps fi hfi (.int .u8 cl) (.int .i64 0) (.int .u8 st) bx yb (.int .u8 0) (.int .i64 0) (.int .i64 0) (.int .u8 0) (.string ⟨#[]⟩) (.string ⟨#[]⟩) (.string ⟨#[]⟩) f0 f1 (q f0) (q f1) V hgo h0 h1)
 rw [hk] at HUS
 clear hap hk hfi
 go_enter Tryz.func65,Tryz.ntmps65
 go_upto_region 1 with (fail)
 generalize (((w.alloc (.cells p 90)).alloc (.cells (f0,f1) 93)).alloc (.cells Zk.b 115))=W at *
 generalize w.heap.size+1+1=g2 at *
 generalize w.heap.size+1=g1 at *
 generalize hg:w.heap.size=g at *
 have HG:=qj hg
 clear hg
 obtain ⟨c0,c1,c2,c3,c4⟩:=cr5 (HW.out.rec_)
 obtain ⟨N,hN,hsz⟩:=zaz
 have hld:=zar hN HW.out.two
 have HNN:=qj hN
 clear hN
 go_wp2_with fail
 refine (HAP.out W).mono ?_
 rintro e w1 ⟨F,caps,rfl,hx,hgo,hq⟩
 have HW:=qj (HW.out.mono hx)
 have HQ:=qj hq
 have HGO:=qj hgo
 clear hx hq hgo HAP c0 c1 c2 c3 c4 hsz hld HNN
 have HRL:=qj (heap_alloc_new w1 (.cells #[.func (.func F) #[] caps,fi,.int .u8 cl,.int .i64 0,.int .u8 st,bx,yb,.int .u8 0,.int .i64 0,.int .i64 0,.int .u8 0,.string ⟨#[]⟩,.string ⟨#[]⟩,.string ⟨#[]⟩] 179))
 have HX1:=qj ((Ext.refl w1).alloc (.cells #[.func (.func F) #[] caps,fi,.int .u8 cl,.int .i64 0,.int .u8 st,bx,yb,.int .u8 0,.int .i64 0,.int .i64 0,.int .u8 0,.string ⟨#[]⟩,.string ⟨#[]⟩,.string ⟨#[]⟩] 179))
 have HNE:Hid (w1.heap.size≠g2):=qj (by have:=(Array.getElem?_eq_some_iff.1 HW.out.rep).1;omega)
 go_upto_region 2 with (fail)
 have HW:=qj (HW.out.mono HX1.out)
 generalize (w1.alloc (.cells #[.func (.func F) #[] caps,fi,.int .u8 cl,.int .i64 0,.int .u8 st,bx,yb,.int .u8 0,.int .i64 0,.int .i64 0,.int .u8 0,.string ⟨#[]⟩,.string ⟨#[]⟩,.string ⟨#[]⟩] 179))=w2 at *
 generalize w1.heap.size=gr at *
 refine wp_region_held_drew (S:=fun w'=>w'.cell? (aD gr 2)=some (.int .u8 cl)∧w'.heap[gr]?=some (.cells #[.func (.func F) #[] caps,fi,.int .u8 cl,.int .i64 0,.int .u8 st,bx,yb,.int .u8 0,.int .i64 0,.int .i64 0,.int .u8 0,.string ⟨#[]⟩,.string ⟨#[]⟩,.string ⟨#[]⟩] 179 (0,0))∧TwoL w' g1 f0 f1) (by kernel_rfl) (⟨cell_of_row _ gr 2 _ _ _ (zaa (Ext.refl w2).drew HRL.out),zaa (Ext.refl w2).drew HRL.out,HW.out.two.ext (Ext.refl w2).drew⟩) (fun hHeld=>?_)
 refine tj (i:=0) (oi:=⟨some 14,.fieldAddr 179 (.tmp 9) 2,0, "slot.go:103",#[],none⟩) rfl (by kernel_rfl) ?_
 try simp only [Act.put,sT,s0,s1]
 refine tj (i:=1) (oi:=⟨some 15,.load 5 (.tmp 14),5, "slot.go:103",#[⟨0,.data⟩],none⟩) rfl (by kernel_rfl) ?_
 try simp only [Act.put,sT,s0,s1]
 refine tj (i:=2) (oi:=⟨some 16,.fieldAddr 179 (.tmp 9) 3,0, "slot.go:103",#[⟨7,.gcOnly .lateStores⟩],none⟩) rfl (by kernel_rfl) ?_
 try simp only [Act.put,sT,s0,s1]
 refine tk (i:=3) (oi:=⟨some 17,.load 115 (.tmp 16),115, "slot.go:103",#[⟨2,.data⟩,⟨7,.gcOnly .lateStores⟩],none⟩) (v:=.agg #[.int .i64 0,.int .u8 st,bx,yb,.int .u8 0,.int .i64 0,.int .i64 0,.int .u8 0,.string ⟨#[]⟩,.string ⟨#[]⟩,.string ⟨#[]⟩]) rfl (by kernel_rfl) (yieldsIf_load_mid (by rfl) 115 (.tmp 16) rfl gr 3 rfl [.int .i64 0,.int .u8 st,bx,yb,.int .u8 0,.int .i64 0,.int .i64 0,.int .u8 0,.string ⟨#[]⟩,.string ⟨#[]⟩,.string ⟨#[]⟩] _ (fun w hw=>zau [.func (.func F) #[] caps,fi,.int .u8 cl,.int .i64 0,.int .u8 st,bx,yb,.int .u8 0,.int .i64 0,.int .i64 0,.int .u8 0,.string ⟨#[]⟩,.string ⟨#[]⟩,.string ⟨#[]⟩] hw.2.1 3) Tryz.underlying115 rfl (by kernel_rfl)) ?_
 try simp only [Act.put,sT,s0,s1]
 refine tk (i:=4) (oi:=⟨some 18,.load 179 (.tmp 9),179, "slot.go:103",#[],none⟩) (v:=.agg #[.func (.func F) #[] caps,fi,.int .u8 cl,.int .i64 0,.int .u8 st,bx,yb,.int .u8 0,.int .i64 0,.int .i64 0,.int .u8 0,.string ⟨#[]⟩,.string ⟨#[]⟩,.string ⟨#[]⟩]) rfl (by kernel_rfl) (yieldsIf_load_mid (by rfl) 179 (.tmp 9) rfl gr 0 rfl [.func (.func F) #[] caps,fi,.int .u8 cl,.int .i64 0,.int .u8 st,bx,yb,.int .u8 0,.int .i64 0,.int .i64 0,.int .u8 0,.string ⟨#[]⟩,.string ⟨#[]⟩,.string ⟨#[]⟩] _ (fun w hw=>zau [.func (.func F) #[] caps,fi,.int .u8 cl,.int .i64 0,.int .u8 st,bx,yb,.int .u8 0,.int .i64 0,.int .i64 0,.int .u8 0,.string ⟨#[]⟩,.string ⟨#[]⟩,.string ⟨#[]⟩] hw.2.1 0) Tryz.underlying179 rfl (by kernel_rfl)) ?_
 try simp only [Act.put,sT,s0,s1]
 refine tk (i:=5) (oi:=⟨some 19,.load 93 (.tmp 4),93, "slot.go:103",#[],none⟩) (v:=.agg (f0,f1)) rfl (by kernel_rfl) (yieldsIf_load_mid (by rfl) 93 (.tmp 4) rfl g1 0 rfl (f0,f1) _ (fun w hw=>zau (f0,f1) hw.2.2 0) Tryz.underlying93 rfl (by kernel_rfl)) ?_
 try simp only [Act.put,sT,s0,s1]
 refine wpAnyH_ready (rs:=[6]) (by kernel_rfl) (by simp) ?_
 refine AllReadyH.cons (o:=⟨some 20,.call { callee:=.value (.func 124),args:=#[.tmp 18,.tmp 19],argTypes:=#[179,93] },3, "slot.go:103",#[⟨4,.data⟩,⟨5,.data⟩],none⟩) rfl (fun K hK=>?_) AllReadyH.nil
 go_simp
 refine (HUS.out F caps _ HGO.out (HQ.out f0 |>.ext (HX1.out.trans (Ext.refl w2).drew)) (HQ.out f1 |>.ext (HX1.out.trans (Ext.refl w2).drew))).mono ?_
 rintro e w3 ⟨rfl,hx⟩
 have HW:=qj (HW.out.mono ((Ext.refl w2).drew.trans hx))
 have HRL:=qj (zaa ((Ext.refl w2).drew.trans hx) HRL.out)
 clear hx hHeld
 go_wp2_with fail
 refine hK.out _ _ (⟨cell_of_row _ gr 2 _ _ _ HRL.out,HRL.out,HW.out.two⟩) (fun hHeld=>?_)
 clear hK K
 try simp only [Act.put,sT,s0,s1]
 refine tj (i:=7) (oi:=⟨some 6,.assign (.tmp 15),5, "slot.go:103",#[⟨1,.data⟩,⟨6,.chain⟩,⟨0,.phase⟩,⟨1,.phase⟩,⟨2,.textOnly .lateStores⟩,⟨3,.textOnly .lateStores⟩,⟨4,.textOnly .lateStores⟩,⟨5,.textOnly .lateStores⟩,⟨6,.textOnly .lateStoresUnsure⟩],none⟩) rfl (by kernel_rfl) ?_
 try simp only [Act.put,sT,s0,s1]
 obtain ⟨z0,z1,z2,z3,z4,z5,z6,z7,z8,z9,z10⟩:=cr11 (HW.out.rep)
 obtain ⟨y0,y1,y2,y3,y4,y5,y6,y7,y8,y9,y10⟩:=fr11 (HW.out.rep)
 have HRL:Hid ((((SW.mk w3 g2 [.int .i64 0,.int .u8 st,bx,yb,.int .u8 0,.int .i64 0,.int .i64 0,.int .u8 0,.string ⟨#[]⟩,.string ⟨#[]⟩,.string ⟨#[]⟩]:World))).heap[gr]?=some (.cells #[.func (.func F) #[] caps,fi,.int .u8 cl,.int .i64 0,.int .u8 st,bx,yb,.int .u8 0,.int .i64 0,.int .i64 0,.int .u8 0,.string ⟨#[]⟩,.string ⟨#[]⟩,.string ⟨#[]⟩] 179 (0,0))):=qj (zkE HRL.out HNE.out _ _ _ _ _ _ _ _ _ _ _)
 have HW:Hid (WhS w (((SW.mk w3 g2 [.int .i64 0,.int .u8 st,bx,yb,.int .u8 0,.int .i64 0,.int .i64 0,.int .u8 0,.string ⟨#[]⟩,.string ⟨#[]⟩,.string ⟨#[]⟩]:World))) p f0 f1 g g1 g2 #[.int .i64 0,.int .u8 st,bx,yb,.int .u8 0,.int .i64 0,.int .i64 0,.int .u8 0,.string ⟨#[]⟩,.string ⟨#[]⟩,.string ⟨#[]⟩]):=qj (HW.out.put _ _ _ _ _ _ _ _ _ _ _)
 refine wpAnyH_ready (rs:=[8]) (by kernel_rfl) (by simp) ?_
 refine AllReadyH.cons (o:=⟨none,.store 115 (.tmp 7) (.tmp 17),0, "slot.go:103",#[⟨3,.data⟩,⟨7,.chain⟩,⟨0,.phase⟩,⟨1,.phase⟩,⟨2,.phase⟩,⟨3,.phase⟩,⟨4,.textOnly .lateStores⟩,⟨5,.textOnly .lateStores⟩,⟨6,.textOnly .lateStoresUnsure⟩,⟨7,.phase⟩],none⟩) rfl (fun K hK=>?_) AllReadyH.nil
 clear hHeld
 go_simp
 refine hK.out _ _ (⟨cell_of_row _ gr 2 _ _ _ HRL.out,HRL.out,HW.out.two⟩) (fun hHeld=>?_)
 clear hK K
 try simp only [Act.put,sT,s0,s1]
 refine tj (i:=9) (oi:=⟨some 8,.assign (.tmp 20),3, "slot.go:103",#[⟨6,.data⟩,⟨8,.chain⟩,⟨0,.phase⟩,⟨1,.phase⟩,⟨2,.phase⟩,⟨3,.phase⟩,⟨4,.phase⟩,⟨5,.phase⟩,⟨6,.phase⟩,⟨7,.phase⟩,⟨8,.phase⟩],none⟩) rfl (by kernel_rfl) ?_
 try simp only [Act.put,sT,s0,s1]
 refine wpAnyH_done (by kernel_rfl) ?_ _
 clear hHeld
 generalize ((SW.mk w3 g2 [.int .i64 0,.int .u8 st,bx,yb,.int .u8 0,.int .i64 0,.int .i64 0,.int .u8 0,.string ⟨#[]⟩,.string ⟨#[]⟩,.string ⟨#[]⟩]:World))=w4 at *
 clear z0 z1 z2 z3 z4 z5 z6 z7 z8 z9 z10 y0 y1 y2 y3 y4 y5 y6 y7 y8 y9 y10 HRL HX1 HQ HGO HUS
 go_upto_region 4 with (fail)
 refine wp_region_held_drew (S:=fun w'=>w'.cell? (aD g1 2)=some (.int .i64 f0.bx)∧w'.cell? (aD g1 3)=some (.int .i64 f0.yb)∧w'.cell? (aD g1 4)=some (.int .u8 (f0.e.k:Int))∧w'.cell? (aD g1 5)=some (.int .i64 f0.e.cl)∧w'.cell? (aD g1 6)=some (.int .i64 f0.e.sq)∧w'.cell? (aD g1 7)=some (.int .u8 (f0.e.ok:Int))∧w'.cell? (aD g1 8)=some (.string f0.e.key)∧w'.cell? (aD g1 9)=some (.string f0.e.old)∧w'.cell? (aD g1 10)=some (.string f0.e.val)) (by kernel_rfl) (ztG (HW.out.two.ext (Ext.refl w4).drew)) (fun hHeld=>?_)
 refine tj (i:=0) (oi:=⟨some 23,.move (.tmp 8),3, "slot.go:105",#[⟨9,.gcOnly .lateStores⟩],none⟩) rfl (by kernel_rfl) ?_
 try simp only [Act.put,sT,s0,s1]
 refine tj (i:=1) (oi:=⟨some 24,.indexAddr 93 (.tmp 4) (.tmp 23),0, "slot.go:105",#[⟨0,.data⟩,⟨9,.gcOnly .lateStores⟩],none⟩) rfl (by kernel_rfl) ?_
 try simp only [Act.put,sT,s0,s1]
 refine tj (i:=2) (oi:=⟨some 25,.fieldAddr 92 (.tmp 24) 2,0, "slot.go:105",#[⟨1,.data⟩,⟨9,.gcOnly .lateStores⟩],none⟩) rfl (by kernel_rfl) ?_
 try simp only [Act.put,sT,s0,s1]
 refine tj (i:=3) (oi:=⟨some 26,.load 38 (.tmp 25),38, "slot.go:105",#[⟨2,.data⟩,⟨9,.gcOnly .lateStores⟩],none⟩) rfl (by kernel_rfl) ?_
 try simp only [Act.put,sT,s0,s1]
 refine tj (i:=4) (oi:=⟨some 27,.move (.tmp 8),3, "slot.go:105",#[⟨9,.gcOnly .lateStores⟩],none⟩) rfl (by kernel_rfl) ?_
 try simp only [Act.put,sT,s0,s1]
 refine tj (i:=5) (oi:=⟨some 28,.indexAddr 93 (.tmp 4) (.tmp 27),0, "slot.go:105",#[⟨4,.data⟩,⟨9,.gcOnly .lateStores⟩],none⟩) rfl (by kernel_rfl) ?_
 try simp only [Act.put,sT,s0,s1]
 refine tj (i:=6) (oi:=⟨some 29,.fieldAddr 92 (.tmp 28) 3,0, "slot.go:105",#[⟨5,.data⟩,⟨9,.gcOnly .lateStores⟩],none⟩) rfl (by kernel_rfl) ?_
 try simp only [Act.put,sT,s0,s1]
 refine tj (i:=7) (oi:=⟨some 30,.load 42 (.tmp 29),42, "slot.go:105",#[⟨6,.data⟩,⟨9,.gcOnly .lateStores⟩],none⟩) rfl (by kernel_rfl) ?_
 try simp only [Act.put,sT,s0,s1]
 refine tj (i:=8) (oi:=⟨some 31,.build 115 #[(1,.const (.int .u8 2)),(2,.tmp 26),(3,.tmp 30)],115, "slot.go:105",#[⟨3,.data⟩,⟨7,.data⟩,⟨9,.gcOnly .lateStores⟩],none⟩) rfl (by kernel_rfl) ?_
 try simp only [Act.put,sT,s0,s1]
 refine tj (i:=9) (oi:=⟨some 6,.assign (.const (.int .u8 3)),5, "slot.go:105",#[⟨0,.textOnly .lateStores⟩,⟨1,.textOnly .lateStores⟩,⟨2,.textOnly .lateStores⟩,⟨3,.textOnly .lateStores⟩,⟨4,.textOnly .lateStores⟩,⟨5,.textOnly .lateStores⟩,⟨6,.textOnly .lateStores⟩,⟨7,.textOnly .lateStores⟩,⟨8,.textOnly .lateStores⟩],none⟩) rfl (by kernel_rfl) ?_
 try simp only [Act.put,sT,s0,s1]
 have HW:=qj (HW.out.mono (Ext.refl w4).drew)
 generalize w4.drew=w5 at *
 obtain ⟨z0,z1,z2,z3,z4,z5,z6,z7,z8,z9,z10⟩:=cr11 (HW.out.rep)
 obtain ⟨y0,y1,y2,y3,y4,y5,y6,y7,y8,y9,y10⟩:=fr11 (HW.out.rep)
 have HW:Hid (WhS w (((SW.mk w5 g2 [.int .i64 0,.int .u8 2,f0.bx,f0.yb,f0.e.k,f0.e.cl,f0.e.sq,f0.e.ok,f0.e.key,f0.e.old,f0.e.val]:World))) p f0 f1 g g1 g2 #[.int .i64 0,.int .u8 2,f0.bx,f0.yb,f0.e.k,f0.e.cl,f0.e.sq,f0.e.ok,f0.e.key,f0.e.old,f0.e.val]):=qj (HW.out.put _ _ _ _ _ _ _ _ _ _ _)
 refine wpAnyH_ready (rs:=[10]) (by kernel_rfl) (by simp) ?_
 refine AllReadyH.cons (o:=⟨none,.store 115 (.tmp 7) (.tmp 31),0, "slot.go:105",#[⟨8,.data⟩,⟨9,.chain⟩,⟨0,.phase⟩,⟨1,.phase⟩,⟨2,.phase⟩,⟨3,.phase⟩,⟨4,.phase⟩,⟨5,.phase⟩,⟨6,.phase⟩,⟨7,.phase⟩,⟨8,.phase⟩,⟨9,.phase⟩],none⟩) rfl (fun K hK=>?_) AllReadyH.nil
 clear hHeld
 go_simp
 refine hK.out _ _ (ztG HW.out.two) (fun hHeld=>?_)
 clear hK K
 try simp only [Act.put,sT,s0,s1]
 refine wpAnyH_done (by kernel_rfl) ?_ _
 clear hHeld
 generalize ((SW.mk w5 g2 [.int .i64 0,.int .u8 2,f0.bx,f0.yb,f0.e.k,f0.e.cl,f0.e.sq,f0.e.ok,f0.e.key,f0.e.old,f0.e.val]:World))=w6 at *
 clear z0 z1 z2 z3 z4 z5 z6 z7 z8 z9 z10 y0 y1 y2 y3 y4 y5 y6 y7 y8 y9 y10
 have z0:=cell_of_row w6 g2 0 _ _ _ HW.out.rep
 have y0:=frozen_of_row w6 g2 0 _ _ HW.out.rep
 have HW:=qj (HW.out.put0 i)
 go_upto_region 6 with (fail)
 generalize (w6.setCell (aD g2 0) i)=w7 at *
 clear z0 y0
 refine wp_region_held_drew (S:=fun w'=>w'.heap[g2]?=some (.cells #[i,.int .u8 2,f0.bx,f0.yb,f0.e.k,f0.e.cl,f0.e.sq,f0.e.ok,f0.e.key,f0.e.old,f0.e.val] 115 (0,0))) (by kernel_rfl) ((HW.out.mono (Ext.refl w7).drew).rep) (fun hHeld=>?_)
 refine tj (i:=0) (oi:=⟨some 34,.move (.tmp 6),5, "slot.go:108",#[],none⟩) rfl (by kernel_rfl) ?_
 try simp only [Act.put,sT,s0,s1]
 refine tk (i:=1) (oi:=⟨some 35,.load 115 (.tmp 7),115, "slot.go:108",#[⟨3,.gcOnly .lateStores⟩],none⟩) (v:=.agg #[i,.int .u8 2,f0.bx,f0.yb,f0.e.k,f0.e.cl,f0.e.sq,f0.e.ok,f0.e.key,f0.e.old,f0.e.val]) rfl (by kernel_rfl) (yieldsIf_load_mid (by rfl) 115 (.tmp 7) rfl g2 0 rfl [i,.int .u8 2,f0.bx,f0.yb,f0.e.k,f0.e.cl,f0.e.sq,f0.e.ok,f0.e.key,f0.e.old,f0.e.val] _ (fun w hw=>zau [i,.int .u8 2,f0.bx,f0.yb,f0.e.k,f0.e.cl,f0.e.sq,f0.e.ok,f0.e.key,f0.e.old,f0.e.val] hw 0) Tryz.underlying115 rfl (by kernel_rfl)) ?_
 try simp only [Act.put,sT,s0,s1]
 refine tj (i:=2) (oi:=⟨some 36,.move (.tmp 8),3, "slot.go:108",#[⟨4,.gcOnly .lateStores⟩],none⟩) rfl (by kernel_rfl) ?_
 try simp only [Act.put,sT,s0,s1]
 refine tj (i:=3) (oi:=⟨some 6,.assign (.tmp 34),5, "slot.go:108",#[⟨0,.data⟩,⟨0,.phase⟩,⟨1,.textOnly .lateStores⟩,⟨2,.textOnly .lateStores⟩],none⟩) rfl (by kernel_rfl) ?_
 try simp only [Act.put,sT,s0,s1]
 have HW:=qj (HW.out.mono (Ext.refl w7).drew)
 generalize w7.drew=w8 at *
 obtain ⟨z0,z1,z2,z3,z4,z5,z6,z7,z8,z9,z10⟩:=cr11 (HW.out.rep)
 obtain ⟨y0,y1,y2,y3,y4,y5,y6,y7,y8,y9,y10⟩:=fr11 (HW.out.rep)
 have HW:Hid (WhS w (((SW.mk w8 g2 [i,.int .u8 2,f0.bx,f0.yb,f0.e.k,f0.e.cl,f0.e.sq,f0.e.ok,f0.e.key,f0.e.old,f0.e.val]:World))) p f0 f1 g g1 g2 #[i,.int .u8 2,f0.bx,f0.yb,f0.e.k,f0.e.cl,f0.e.sq,f0.e.ok,f0.e.key,f0.e.old,f0.e.val]):=qj (HW.out.put _ _ _ _ _ _ _ _ _ _ _)
 refine wpAnyH_ready (rs:=[4]) (by kernel_rfl) (by simp) ?_
 refine AllReadyH.cons (o:=⟨none,.store 115 (.tmp 7) (.tmp 35),0, "slot.go:108",#[⟨1,.data⟩,⟨3,.chain⟩,⟨0,.phase⟩,⟨1,.phase⟩,⟨2,.textOnly .lateStores⟩,⟨3,.phase⟩],none⟩) rfl (fun K hK=>?_) AllReadyH.nil
 clear hHeld
 go_simp
 refine hK.out _ _ (HW.out.rep) (fun hHeld=>?_)
 clear hK K
 try simp only [Act.put,sT,s0,s1]
 refine tj (i:=5) (oi:=⟨some 8,.assign (.tmp 36),3, "slot.go:108",#[⟨2,.data⟩,⟨4,.chain⟩,⟨0,.phase⟩,⟨1,.phase⟩,⟨2,.phase⟩,⟨3,.phase⟩,⟨4,.phase⟩],none⟩) rfl (by kernel_rfl) ?_
 try simp only [Act.put,sT,s0,s1]
 refine wpAnyH_done (by kernel_rfl) ?_ _
 clear hHeld
 generalize ((SW.mk w8 g2 [i,.int .u8 2,f0.bx,f0.yb,f0.e.k,f0.e.cl,f0.e.sq,f0.e.ok,f0.e.key,f0.e.old,f0.e.val]:World))=w9 at *
 clear z0 z1 z2 z3 z4 z5 z6 z7 z8 z9 z10 y0 y1 y2 y3 y4 y5 y6 y7 y8 y9 y10
 obtain ⟨z0,z1,z2,z3,z4,z5,z6,z7,z8,z9,z10⟩:=zfG HW.out.rep
 go_wp2_with fail
 refine bodyPost_ret (v:=.tuple #[.int .u8 3,.agg #[i,.int .u8 2,f0.bx,f0.yb,f0.e.k,f0.e.cl,f0.e.sq,f0.e.ok,f0.e.key,f0.e.old,f0.e.val],.int .i64 (0)]) (by simp [results,Tryz.results65,go_sem,z0,z1,z2,z3,z4,z5,z6,z7,z8,z9,z10]) rfl ⟨rfl,HW.out.ext⟩
theorem zui (p:Rec) (f0 f1:CopL) (i fi cl st bx yb:Int) (q:CopL→Bool) (hfi:fi=0∨fi=1) (hk:useL fi (q f0) (q f1) f0 f1=1) (w:World)
 (hap:∀V,Calls Tryz.prog 123 #[.agg p,.agg (f0,f1),i] V fun e w'=>∃(F:Nat) (caps:Array Value),e=.returned (.agg #[.func (.func F) #[] caps,fi,.int .u8 cl,.int .i64 0,.int .u8 st,bx,yb,.int .u8 0,.int .i64 0,.int .i64 0,.int .u8 0,.string ⟨#[]⟩,.string ⟨#[]⟩,.string ⟨#[]⟩])∧Ext V w'∧Enters Tryz.prog F∧∀c,Asks w' F caps c (q c)) :
 (cL 65 #[.agg p,.agg (f0,f1),i] w (.tuple #[.int .u8 3,.agg #[i,.int .u8 2,f1.bx,f1.yb,f1.e.k,f1.e.cl,f1.e.sq,f1.e.ok,f1.e.key,f1.e.old,f1.e.val],.int .i64 (1)]):Prop):=by
 have HW:=qj (WhS.make w p f0 f1)
 have HAP:=qj hap
 have HUS:=qj (fun F caps V hgo h0 h1=>zmT F caps fi hfi (.int .u8 cl) (.int .i64 0) (.int .u8 st) bx yb (.int .u8 0) (.int .i64 0) (.int .i64 0) (.int .u8 0) (.string ⟨#[]⟩) (.string ⟨#[]⟩) (.string ⟨#[]⟩) f0 f1 (q f0) (q f1) V hgo h0 h1)
 rw [hk] at HUS
 clear hap hk hfi
 go_enter Tryz.func65,Tryz.ntmps65
 go_upto_region 1 with (fail)
 generalize (((w.alloc (.cells p 90)).alloc (.cells (f0,f1) 93)).alloc (.cells Zk.b 115))=W at *
 generalize w.heap.size+1+1=g2 at *
 generalize w.heap.size+1=g1 at *
 generalize hg:w.heap.size=g at *
 have HG:=qj hg
 clear hg
 obtain ⟨c0,c1,c2,c3,c4⟩:=cr5 (HW.out.rec_)
 obtain ⟨N,hN,hsz⟩:=zaz
 have hld:=zar hN HW.out.two
 have HNN:=qj hN
 clear hN
 go_wp2_with fail
 refine (HAP.out W).mono ?_
 rintro e w1 ⟨F,caps,rfl,hx,hgo,hq⟩
 have HW:=qj (HW.out.mono hx)
 have HQ:=qj hq
 have HGO:=qj hgo
 clear hx hq hgo HAP c0 c1 c2 c3 c4 hsz hld HNN
 have HRL:=qj (heap_alloc_new w1 (.cells #[.func (.func F) #[] caps,fi,.int .u8 cl,.int .i64 0,.int .u8 st,bx,yb,.int .u8 0,.int .i64 0,.int .i64 0,.int .u8 0,.string ⟨#[]⟩,.string ⟨#[]⟩,.string ⟨#[]⟩] 179))
 have HX1:=qj ((Ext.refl w1).alloc (.cells #[.func (.func F) #[] caps,fi,.int .u8 cl,.int .i64 0,.int .u8 st,bx,yb,.int .u8 0,.int .i64 0,.int .i64 0,.int .u8 0,.string ⟨#[]⟩,.string ⟨#[]⟩,.string ⟨#[]⟩] 179))
 have HNE:Hid (w1.heap.size≠g2):=qj (by have:=(Array.getElem?_eq_some_iff.1 HW.out.rep).1;omega)
 go_upto_region 2 with (fail)
 have HW:=qj (HW.out.mono HX1.out)
 generalize (w1.alloc (.cells #[.func (.func F) #[] caps,fi,.int .u8 cl,.int .i64 0,.int .u8 st,bx,yb,.int .u8 0,.int .i64 0,.int .i64 0,.int .u8 0,.string ⟨#[]⟩,.string ⟨#[]⟩,.string ⟨#[]⟩] 179))=w2 at *
 generalize w1.heap.size=gr at *
 refine wp_region_held_drew (S:=fun w'=>w'.cell? (aD gr 2)=some (.int .u8 cl)∧w'.heap[gr]?=some (.cells #[.func (.func F) #[] caps,fi,.int .u8 cl,.int .i64 0,.int .u8 st,bx,yb,.int .u8 0,.int .i64 0,.int .i64 0,.int .u8 0,.string ⟨#[]⟩,.string ⟨#[]⟩,.string ⟨#[]⟩] 179 (0,0))∧TwoL w' g1 f0 f1) (by kernel_rfl) (⟨cell_of_row _ gr 2 _ _ _ (zaa (Ext.refl w2).drew HRL.out),zaa (Ext.refl w2).drew HRL.out,HW.out.two.ext (Ext.refl w2).drew⟩) (fun hHeld=>?_)
 refine tj (i:=0) (oi:=⟨some 14,.fieldAddr 179 (.tmp 9) 2,0, "slot.go:103",#[],none⟩) rfl (by kernel_rfl) ?_
 try simp only [Act.put,sT,s0,s1]
 refine tj (i:=1) (oi:=⟨some 15,.load 5 (.tmp 14),5, "slot.go:103",#[⟨0,.data⟩],none⟩) rfl (by kernel_rfl) ?_
 try simp only [Act.put,sT,s0,s1]
 refine tj (i:=2) (oi:=⟨some 16,.fieldAddr 179 (.tmp 9) 3,0, "slot.go:103",#[⟨7,.gcOnly .lateStores⟩],none⟩) rfl (by kernel_rfl) ?_
 try simp only [Act.put,sT,s0,s1]
 refine tk (i:=3) (oi:=⟨some 17,.load 115 (.tmp 16),115, "slot.go:103",#[⟨2,.data⟩,⟨7,.gcOnly .lateStores⟩],none⟩) (v:=.agg #[.int .i64 0,.int .u8 st,bx,yb,.int .u8 0,.int .i64 0,.int .i64 0,.int .u8 0,.string ⟨#[]⟩,.string ⟨#[]⟩,.string ⟨#[]⟩]) rfl (by kernel_rfl) (yieldsIf_load_mid (by rfl) 115 (.tmp 16) rfl gr 3 rfl [.int .i64 0,.int .u8 st,bx,yb,.int .u8 0,.int .i64 0,.int .i64 0,.int .u8 0,.string ⟨#[]⟩,.string ⟨#[]⟩,.string ⟨#[]⟩] _ (fun w hw=>zau [.func (.func F) #[] caps,fi,.int .u8 cl,.int .i64 0,.int .u8 st,bx,yb,.int .u8 0,.int .i64 0,.int .i64 0,.int .u8 0,.string ⟨#[]⟩,.string ⟨#[]⟩,.string ⟨#[]⟩] hw.2.1 3) Tryz.underlying115 rfl (by kernel_rfl)) ?_
 try simp only [Act.put,sT,s0,s1]
 refine tk (i:=4) (oi:=⟨some 18,.load 179 (.tmp 9),179, "slot.go:103",#[],none⟩) (v:=.agg #[.func (.func F) #[] caps,fi,.int .u8 cl,.int .i64 0,.int .u8 st,bx,yb,.int .u8 0,.int .i64 0,.int .i64 0,.int .u8 0,.string ⟨#[]⟩,.string ⟨#[]⟩,.string ⟨#[]⟩]) rfl (by kernel_rfl) (yieldsIf_load_mid (by rfl) 179 (.tmp 9) rfl gr 0 rfl [.func (.func F) #[] caps,fi,.int .u8 cl,.int .i64 0,.int .u8 st,bx,yb,.int .u8 0,.int .i64 0,.int .i64 0,.int .u8 0,.string ⟨#[]⟩,.string ⟨#[]⟩,.string ⟨#[]⟩] _ (fun w hw=>zau [.func (.func F) #[] caps,fi,.int .u8 cl,.int .i64 0,.int .u8 st,bx,yb,.int .u8 0,.int .i64 0,.int .i64 0,.int .u8 0,.string ⟨#[]⟩,.string ⟨#[]⟩,.string ⟨#[]⟩] hw.2.1 0) Tryz.underlying179 rfl (by kernel_rfl)) ?_
 try simp only [Act.put,sT,s0,s1]
 refine tk (i:=5) (oi:=⟨some 19,.load 93 (.tmp 4),93, "slot.go:103",#[],none⟩) (v:=.agg (f0,f1)) rfl (by kernel_rfl) (yieldsIf_load_mid (by rfl) 93 (.tmp 4) rfl g1 0 rfl (f0,f1) _ (fun w hw=>zau (f0,f1) hw.2.2 0) Tryz.underlying93 rfl (by kernel_rfl)) ?_
 try simp only [Act.put,sT,s0,s1]
 refine wpAnyH_ready (rs:=[6]) (by kernel_rfl) (by simp) ?_
 refine AllReadyH.cons (o:=⟨some 20,.call { callee:=.value (.func 124),args:=#[.tmp 18,.tmp 19],argTypes:=#[179,93] },3, "slot.go:103",#[⟨4,.data⟩,⟨5,.data⟩],none⟩) rfl (fun K hK=>?_) AllReadyH.nil
 go_simp
 refine (HUS.out F caps _ HGO.out (HQ.out f0 |>.ext (HX1.out.trans (Ext.refl w2).drew)) (HQ.out f1 |>.ext (HX1.out.trans (Ext.refl w2).drew))).mono ?_
 rintro e w3 ⟨rfl,hx⟩
 have HW:=qj (HW.out.mono ((Ext.refl w2).drew.trans hx))
 have HRL:=qj (zaa ((Ext.refl w2).drew.trans hx) HRL.out)
 clear hx hHeld
 go_wp2_with fail
 refine hK.out _ _ (⟨cell_of_row _ gr 2 _ _ _ HRL.out,HRL.out,HW.out.two⟩) (fun hHeld=>?_)
 clear hK K
 try simp only [Act.put,sT,s0,s1]
 refine tj (i:=7) (oi:=⟨some 6,.assign (.tmp 15),5, "slot.go:103",#[⟨1,.data⟩,⟨6,.chain⟩,⟨0,.phase⟩,⟨1,.phase⟩,⟨2,.textOnly .lateStores⟩,⟨3,.textOnly .lateStores⟩,⟨4,.textOnly .lateStores⟩,⟨5,.textOnly .lateStores⟩,⟨6,.textOnly .lateStoresUnsure⟩],none⟩) rfl (by kernel_rfl) ?_
 try simp only [Act.put,sT,s0,s1]
 obtain ⟨z0,z1,z2,z3,z4,z5,z6,z7,z8,z9,z10⟩:=cr11 (HW.out.rep)
 obtain ⟨y0,y1,y2,y3,y4,y5,y6,y7,y8,y9,y10⟩:=fr11 (HW.out.rep)
 have HRL:Hid ((((SW.mk w3 g2 [.int .i64 0,.int .u8 st,bx,yb,.int .u8 0,.int .i64 0,.int .i64 0,.int .u8 0,.string ⟨#[]⟩,.string ⟨#[]⟩,.string ⟨#[]⟩]:World))).heap[gr]?=some (.cells #[.func (.func F) #[] caps,fi,.int .u8 cl,.int .i64 0,.int .u8 st,bx,yb,.int .u8 0,.int .i64 0,.int .i64 0,.int .u8 0,.string ⟨#[]⟩,.string ⟨#[]⟩,.string ⟨#[]⟩] 179 (0,0))):=qj (zkE HRL.out HNE.out _ _ _ _ _ _ _ _ _ _ _)
 have HW:Hid (WhS w (((SW.mk w3 g2 [.int .i64 0,.int .u8 st,bx,yb,.int .u8 0,.int .i64 0,.int .i64 0,.int .u8 0,.string ⟨#[]⟩,.string ⟨#[]⟩,.string ⟨#[]⟩]:World))) p f0 f1 g g1 g2 #[.int .i64 0,.int .u8 st,bx,yb,.int .u8 0,.int .i64 0,.int .i64 0,.int .u8 0,.string ⟨#[]⟩,.string ⟨#[]⟩,.string ⟨#[]⟩]):=qj (HW.out.put _ _ _ _ _ _ _ _ _ _ _)
 refine wpAnyH_ready (rs:=[8]) (by kernel_rfl) (by simp) ?_
 refine AllReadyH.cons (o:=⟨none,.store 115 (.tmp 7) (.tmp 17),0, "slot.go:103",#[⟨3,.data⟩,⟨7,.chain⟩,⟨0,.phase⟩,⟨1,.phase⟩,⟨2,.phase⟩,⟨3,.phase⟩,⟨4,.textOnly .lateStores⟩,⟨5,.textOnly .lateStores⟩,⟨6,.textOnly .lateStoresUnsure⟩,⟨7,.phase⟩],none⟩) rfl (fun K hK=>?_) AllReadyH.nil
 clear hHeld
 go_simp
 refine hK.out _ _ (⟨cell_of_row _ gr 2 _ _ _ HRL.out,HRL.out,HW.out.two⟩) (fun hHeld=>?_)
 clear hK K
 try simp only [Act.put,sT,s0,s1]
 refine tj (i:=9) (oi:=⟨some 8,.assign (.tmp 20),3, "slot.go:103",#[⟨6,.data⟩,⟨8,.chain⟩,⟨0,.phase⟩,⟨1,.phase⟩,⟨2,.phase⟩,⟨3,.phase⟩,⟨4,.phase⟩,⟨5,.phase⟩,⟨6,.phase⟩,⟨7,.phase⟩,⟨8,.phase⟩],none⟩) rfl (by kernel_rfl) ?_
 try simp only [Act.put,sT,s0,s1]
 refine wpAnyH_done (by kernel_rfl) ?_ _
 clear hHeld
 generalize ((SW.mk w3 g2 [.int .i64 0,.int .u8 st,bx,yb,.int .u8 0,.int .i64 0,.int .i64 0,.int .u8 0,.string ⟨#[]⟩,.string ⟨#[]⟩,.string ⟨#[]⟩]:World))=w4 at *
 clear z0 z1 z2 z3 z4 z5 z6 z7 z8 z9 z10 y0 y1 y2 y3 y4 y5 y6 y7 y8 y9 y10 HRL HX1 HQ HGO HUS
 go_upto_region 4 with (fail)
 refine wp_region_held_drew (S:=fun w'=>w'.cell? (aD g1 13)=some (.int .i64 f1.bx)∧w'.cell? (aD g1 14)=some (.int .i64 f1.yb)∧w'.cell? (aD g1 15)=some (.int .u8 (f1.e.k:Int))∧w'.cell? (aD g1 16)=some (.int .i64 f1.e.cl)∧w'.cell? (aD g1 17)=some (.int .i64 f1.e.sq)∧w'.cell? (aD g1 18)=some (.int .u8 (f1.e.ok:Int))∧w'.cell? (aD g1 19)=some (.string f1.e.key)∧w'.cell? (aD g1 20)=some (.string f1.e.old)∧w'.cell? (aD g1 21)=some (.string f1.e.val)) (by kernel_rfl) (ztW (HW.out.two.ext (Ext.refl w4).drew)) (fun hHeld=>?_)
 refine tj (i:=0) (oi:=⟨some 23,.move (.tmp 8),3, "slot.go:105",#[⟨9,.gcOnly .lateStores⟩],none⟩) rfl (by kernel_rfl) ?_
 try simp only [Act.put,sT,s0,s1]
 refine tj (i:=1) (oi:=⟨some 24,.indexAddr 93 (.tmp 4) (.tmp 23),0, "slot.go:105",#[⟨0,.data⟩,⟨9,.gcOnly .lateStores⟩],none⟩) rfl (by kernel_rfl) ?_
 try simp only [Act.put,sT,s0,s1]
 refine tj (i:=2) (oi:=⟨some 25,.fieldAddr 92 (.tmp 24) 2,0, "slot.go:105",#[⟨1,.data⟩,⟨9,.gcOnly .lateStores⟩],none⟩) rfl (by kernel_rfl) ?_
 try simp only [Act.put,sT,s0,s1]
 refine tj (i:=3) (oi:=⟨some 26,.load 38 (.tmp 25),38, "slot.go:105",#[⟨2,.data⟩,⟨9,.gcOnly .lateStores⟩],none⟩) rfl (by kernel_rfl) ?_
 try simp only [Act.put,sT,s0,s1]
 refine tj (i:=4) (oi:=⟨some 27,.move (.tmp 8),3, "slot.go:105",#[⟨9,.gcOnly .lateStores⟩],none⟩) rfl (by kernel_rfl) ?_
 try simp only [Act.put,sT,s0,s1]
 refine tj (i:=5) (oi:=⟨some 28,.indexAddr 93 (.tmp 4) (.tmp 27),0, "slot.go:105",#[⟨4,.data⟩,⟨9,.gcOnly .lateStores⟩],none⟩) rfl (by kernel_rfl) ?_
 try simp only [Act.put,sT,s0,s1]
 refine tj (i:=6) (oi:=⟨some 29,.fieldAddr 92 (.tmp 28) 3,0, "slot.go:105",#[⟨5,.data⟩,⟨9,.gcOnly .lateStores⟩],none⟩) rfl (by kernel_rfl) ?_
 try simp only [Act.put,sT,s0,s1]
 refine tj (i:=7) (oi:=⟨some 30,.load 42 (.tmp 29),42, "slot.go:105",#[⟨6,.data⟩,⟨9,.gcOnly .lateStores⟩],none⟩) rfl (by kernel_rfl) ?_
 try simp only [Act.put,sT,s0,s1]
 refine tj (i:=8) (oi:=⟨some 31,.build 115 #[(1,.const (.int .u8 2)),(2,.tmp 26),(3,.tmp 30)],115, "slot.go:105",#[⟨3,.data⟩,⟨7,.data⟩,⟨9,.gcOnly .lateStores⟩],none⟩) rfl (by kernel_rfl) ?_
 try simp only [Act.put,sT,s0,s1]
 refine tj (i:=9) (oi:=⟨some 6,.assign (.const (.int .u8 3)),5, "slot.go:105",#[⟨0,.textOnly .lateStores⟩,⟨1,.textOnly .lateStores⟩,⟨2,.textOnly .lateStores⟩,⟨3,.textOnly .lateStores⟩,⟨4,.textOnly .lateStores⟩,⟨5,.textOnly .lateStores⟩,⟨6,.textOnly .lateStores⟩,⟨7,.textOnly .lateStores⟩,⟨8,.textOnly .lateStores⟩],none⟩) rfl (by kernel_rfl) ?_
 try simp only [Act.put,sT,s0,s1]
 have HW:=qj (HW.out.mono (Ext.refl w4).drew)
 generalize w4.drew=w5 at *
 obtain ⟨z0,z1,z2,z3,z4,z5,z6,z7,z8,z9,z10⟩:=cr11 (HW.out.rep)
 obtain ⟨y0,y1,y2,y3,y4,y5,y6,y7,y8,y9,y10⟩:=fr11 (HW.out.rep)
 have HW:Hid (WhS w (((SW.mk w5 g2 [.int .i64 0,.int .u8 2,f1.bx,f1.yb,f1.e.k,f1.e.cl,f1.e.sq,f1.e.ok,f1.e.key,f1.e.old,f1.e.val]:World))) p f0 f1 g g1 g2 #[.int .i64 0,.int .u8 2,f1.bx,f1.yb,f1.e.k,f1.e.cl,f1.e.sq,f1.e.ok,f1.e.key,f1.e.old,f1.e.val]):=qj (HW.out.put _ _ _ _ _ _ _ _ _ _ _)
 refine wpAnyH_ready (rs:=[10]) (by kernel_rfl) (by simp) ?_
 refine AllReadyH.cons (o:=⟨none,.store 115 (.tmp 7) (.tmp 31),0, "slot.go:105",#[⟨8,.data⟩,⟨9,.chain⟩,⟨0,.phase⟩,⟨1,.phase⟩,⟨2,.phase⟩,⟨3,.phase⟩,⟨4,.phase⟩,⟨5,.phase⟩,⟨6,.phase⟩,⟨7,.phase⟩,⟨8,.phase⟩,⟨9,.phase⟩],none⟩) rfl (fun K hK=>?_) AllReadyH.nil
 clear hHeld
 go_simp
 refine hK.out _ _ (ztW HW.out.two) (fun hHeld=>?_)
 clear hK K
 try simp only [Act.put,sT,s0,s1]
 refine wpAnyH_done (by kernel_rfl) ?_ _
 clear hHeld
 generalize ((SW.mk w5 g2 [.int .i64 0,.int .u8 2,f1.bx,f1.yb,f1.e.k,f1.e.cl,f1.e.sq,f1.e.ok,f1.e.key,f1.e.old,f1.e.val]:World))=w6 at *
 clear z0 z1 z2 z3 z4 z5 z6 z7 z8 z9 z10 y0 y1 y2 y3 y4 y5 y6 y7 y8 y9 y10
 have z0:=cell_of_row w6 g2 0 _ _ _ HW.out.rep
 have y0:=frozen_of_row w6 g2 0 _ _ HW.out.rep
 have HW:=qj (HW.out.put0 i)
 go_upto_region 6 with (fail)
 generalize (w6.setCell (aD g2 0) i)=w7 at *
 clear z0 y0
 refine wp_region_held_drew (S:=fun w'=>w'.heap[g2]?=some (.cells #[i,.int .u8 2,f1.bx,f1.yb,f1.e.k,f1.e.cl,f1.e.sq,f1.e.ok,f1.e.key,f1.e.old,f1.e.val] 115 (0,0))) (by kernel_rfl) ((HW.out.mono (Ext.refl w7).drew).rep) (fun hHeld=>?_)
 refine tj (i:=0) (oi:=⟨some 34,.move (.tmp 6),5, "slot.go:108",#[],none⟩) rfl (by kernel_rfl) ?_
 try simp only [Act.put,sT,s0,s1]
 refine tk (i:=1) (oi:=⟨some 35,.load 115 (.tmp 7),115, "slot.go:108",#[⟨3,.gcOnly .lateStores⟩],none⟩) (v:=.agg #[i,.int .u8 2,f1.bx,f1.yb,f1.e.k,f1.e.cl,f1.e.sq,f1.e.ok,f1.e.key,f1.e.old,f1.e.val]) rfl (by kernel_rfl) (yieldsIf_load_mid (by rfl) 115 (.tmp 7) rfl g2 0 rfl [i,.int .u8 2,f1.bx,f1.yb,f1.e.k,f1.e.cl,f1.e.sq,f1.e.ok,f1.e.key,f1.e.old,f1.e.val] _ (fun w hw=>zau [i,.int .u8 2,f1.bx,f1.yb,f1.e.k,f1.e.cl,f1.e.sq,f1.e.ok,f1.e.key,f1.e.old,f1.e.val] hw 0) Tryz.underlying115 rfl (by kernel_rfl)) ?_
 try simp only [Act.put,sT,s0,s1]
 refine tj (i:=2) (oi:=⟨some 36,.move (.tmp 8),3, "slot.go:108",#[⟨4,.gcOnly .lateStores⟩],none⟩) rfl (by kernel_rfl) ?_
 try simp only [Act.put,sT,s0,s1]
 refine tj (i:=3) (oi:=⟨some 6,.assign (.tmp 34),5, "slot.go:108",#[⟨0,.data⟩,⟨0,.phase⟩,⟨1,.textOnly .lateStores⟩,⟨2,.textOnly .lateStores⟩],none⟩) rfl (by kernel_rfl) ?_
 try simp only [Act.put,sT,s0,s1]
 have HW:=qj (HW.out.mono (Ext.refl w7).drew)
 generalize w7.drew=w8 at *
 obtain ⟨z0,z1,z2,z3,z4,z5,z6,z7,z8,z9,z10⟩:=cr11 (HW.out.rep)
 obtain ⟨y0,y1,y2,y3,y4,y5,y6,y7,y8,y9,y10⟩:=fr11 (HW.out.rep)
 have HW:Hid (WhS w (((SW.mk w8 g2 [i,.int .u8 2,f1.bx,f1.yb,f1.e.k,f1.e.cl,f1.e.sq,f1.e.ok,f1.e.key,f1.e.old,f1.e.val]:World))) p f0 f1 g g1 g2 #[i,.int .u8 2,f1.bx,f1.yb,f1.e.k,f1.e.cl,f1.e.sq,f1.e.ok,f1.e.key,f1.e.old,f1.e.val]):=qj (HW.out.put _ _ _ _ _ _ _ _ _ _ _)
 refine wpAnyH_ready (rs:=[4]) (by kernel_rfl) (by simp) ?_
 refine AllReadyH.cons (o:=⟨none,.store 115 (.tmp 7) (.tmp 35),0, "slot.go:108",#[⟨1,.data⟩,⟨3,.chain⟩,⟨0,.phase⟩,⟨1,.phase⟩,⟨2,.textOnly .lateStores⟩,⟨3,.phase⟩],none⟩) rfl (fun K hK=>?_) AllReadyH.nil
 clear hHeld
 go_simp
 refine hK.out _ _ (HW.out.rep) (fun hHeld=>?_)
 clear hK K
 try simp only [Act.put,sT,s0,s1]
 refine tj (i:=5) (oi:=⟨some 8,.assign (.tmp 36),3, "slot.go:108",#[⟨2,.data⟩,⟨4,.chain⟩,⟨0,.phase⟩,⟨1,.phase⟩,⟨2,.phase⟩,⟨3,.phase⟩,⟨4,.phase⟩],none⟩) rfl (by kernel_rfl) ?_
 try simp only [Act.put,sT,s0,s1]
 refine wpAnyH_done (by kernel_rfl) ?_ _
 clear hHeld
 generalize ((SW.mk w8 g2 [i,.int .u8 2,f1.bx,f1.yb,f1.e.k,f1.e.cl,f1.e.sq,f1.e.ok,f1.e.key,f1.e.old,f1.e.val]:World))=w9 at *
 clear z0 z1 z2 z3 z4 z5 z6 z7 z8 z9 z10 y0 y1 y2 y3 y4 y5 y6 y7 y8 y9 y10
 obtain ⟨z0,z1,z2,z3,z4,z5,z6,z7,z8,z9,z10⟩:=zfG HW.out.rep
 go_wp2_with fail
 refine bodyPost_ret (v:=.tuple #[.int .u8 3,.agg #[i,.int .u8 2,f1.bx,f1.yb,f1.e.k,f1.e.cl,f1.e.sq,f1.e.ok,f1.e.key,f1.e.old,f1.e.val],.int .i64 (1)]) (by simp [results,Tryz.results65,go_sem,z0,z1,z2,z3,z4,z5,z6,z7,z8,z9,z10]) rfl ⟨rfl,HW.out.ext⟩
end Go.Proofs.YtdbpdhlecgoclaaGreatDoor
