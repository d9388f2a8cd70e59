/-
  The contracts of entry's Read and Parse.
-/
import Derived.Test.YtdbpdhlecgoclaaGreatDoorP00
import Derived.Test.YtdbpdhlecgoclaaGreatDoorP10
import Derived.Test.YtdbpdhlecgoclaaGreatDoorP11
import Derived.Test.YtdbpdhlecgoclaaGreatDoorP20
import Derived.Test.YtdbpdhlecgoclaaGreatDoorP23
import Derived.Test.YtdbpdhlecgoclaaGreatDoorP24
import Derived.Test.YtdbpdhlecgoclaaGreatDoorP26
import Derived.Deep.DeepCutAuto
import Derived.RegionTactic
import Derived.Deep.RegionHeld
namespace Go.Proofs.YtdbpdhlecgoclaaGreatDoor
set_option maxRecDepth 100000
set_option maxHeartbeats 6400000
open Go Go.RowKit
theorem RdS.make {w:World} {n c a:Nat} {A:Option Addr} {l:List Nat} (hb:By w A n c l) (hL:Laid w) (ha:a≤l.length) (hn:n≤9000000000000000000) :
 RdS (w.alloc (.cells #[.slice A n c,.int .i64 a,.bool false] 217)) w.heap.size A n c l a false :=
 ⟨heap_alloc_new w _,hb.ext ((Ext.refl w).alloc _),fun hn p hp=>by
  obtain ⟨g',o,e,hg,_⟩:=hb.rd.2 (by rw [hb.len];exact hn)
  rw [hp] at e
  injection e with e
  rw [e]
  dsimp only
  omega,ha,hn,hL.ext ((Ext.refl w).alloc _)⟩
theorem zaE {w:World} {g:Nat} {x0 x1:Value} {t:TypeId} (h:w.heap[g]?=some (.cells #[x0,x1] t (0,0))) :
 (w.cell? (aD g 0)=some x0∧w.cell? (aD g 1)=some x1)∧(w.frozen? (aD g 0)=false∧w.frozen? (aD g 1)=false):=⟨⟨cell_of_row w g 0 _ _ _ h,cell_of_row w g 1 _ _ _ h⟩,frozen_of_row w g 0 _ _ h,frozen_of_row w g 1 _ _ h⟩
theorem zbP {a w:World} (h:Ext a w) {g:Nat} (hg:a.heap.size≤g) (x0 x1:Value):Ext a ((w.setCell (aD g 0) x0).setCell (aD g 1) x1) :=
 (h.setCell (p:=⟨g,0,none⟩) hg _).setCell (p:=⟨g,1,none⟩) hg _
theorem zhe (A:Option Addr) (n c:Nat) (l:List Nat) (w:World) (hL:Laid w) (hb:By w A n c l) (hn:n≤9000000000000000000) :
 (cL 121 #[.slice A n c] w (.tuple #[.agg #[.int .i64 ((psE l).1:Int),.int .i64 ((psE l).2.1:Int)],.agg (psE l).2.2.1,.int .i64 (psE l).2.2.2]):Prop):=by
 have hx1:=(Ext.refl w).alloc (.cells Zk.e 38)
 have hx2:=(Ext.refl (w.alloc (.cells Zk.e 38))).alloc (.cells Zk.d 42)
 have hq2:=zab (heap_alloc_new w (.cells Zk.e 38)) hx2
 have hq3:=heap_alloc2_new w (.cells Zk.e 38) (.cells Zk.d 42)
 have hsz:((w.alloc (.cells Zk.e 38)).alloc (.cells Zk.d 42)).heap.size=w.heap.size+2:=by simp
 have HR:=qj (RdS.make (hb.ext (hx1.trans hx2)) (hL.ext (hx1.trans hx2)) (Nat.zero_le l.length) hn)
 rw [hsz] at HR
 have hx3:=(Ext.refl ((w.alloc (.cells Zk.e 38)).alloc (.cells Zk.d 42))).alloc (.cells #[.slice A n c,.int .i64 ((0:Nat):Int),.bool false] 217)
 have HQ2:=qj (zab hq2 hx3)
 have HQ3:=qj (zab hq3 hx3)
 have HE:=qj ((hx1.trans hx2).trans hx3)
 have HLN:=qj hb.len
 have HSP:=qj (zqd (l:=l))
 have HRS:=qj (fun x y e (h:bdR l=some (x,y,e))=>zfc h)
 have HRN:=qj (fun (h:bdR l=none)=>zec h)
 clear hx1 hx2 hx3 hq2 hq3 hsz hb hL
 go_enter Tryz.func121,Tryz.ntmps121
 go_wp2_with fail
 refine (zdl HR.out 6 rfl).mono ?_
 rintro e w1 ⟨rfl,hr,hm⟩
 have HR:=qj hr
 have HM:=qj hm
 clear hr hm
 go_wp2_with fail
 refine (zdl HR.out 1 rfl).mono ?_
 rintro e w2 ⟨rfl,hr,hm⟩
 have hm:=Mod.trans (F:=fun i=>i=w.heap.size+2) HM.out hm fun _ hi=>.inl hi
 have hr:RdS w2 (w.heap.size+2) A n c l (psA l) (psB l):=by
  unfold psA psB
  rw [Bool.false_or] at hr
  exact hr
 have HQ2:=qj (zah HQ2.out hm (by omega))
 have HQ3:=qj (zah HQ3.out hm (by omega))
 have HE:=qj (show Ext w w2 from Mod.to_ext (Mod.trans (F:=fun i=>i=w.heap.size+2) (Mod.of_ext (F:=fun i=>i=w.heap.size+2) HE.out) hm fun _ hi=>.inl hi) fun i hi=>by subst hi;omega)
 generalize (nmS l (nmS l 0 6).2.1 1).1=y at *
 generalize (nmS l 0 6).1=x at *
 have hx:=(Ext.refl w2).alloc (.cells #[.int .i64 x,.int .i64 y] 38)
 have hb6:=heap_alloc_new w2 (.cells #[.int .i64 x,.int .i64 y] 38)
 have HB6:=qj hb6
 have HR:=qj (hr.ext hx)
 have HQ2:=qj (zab HQ2.out hx)
 have HQ3:=qj (zab HQ3.out hx)
 have hs2:=HE.out.size
 have hg2:w.heap.size+2<w2.heap.size:=hr.lt
 have HE:=qj (HE.out.trans hx)
 clear hr hm hx hb6 HM
 go_wp2_with fail
 generalize (w2.alloc (.cells #[.int .i64 x,.int .i64 y] 38))=w3 at *
 generalize hg6:w2.heap.size=g6 at *
 refine (zpX HR.out).mono ?_
 rintro e w4 ⟨rfl,hr,hm⟩
 have HQ2:=qj (zah HQ2.out hm (by omega))
 have HQ3:=qj (zah HQ3.out hm (by omega))
 have HB6:=qj (zah HB6.out hm (by omega))
 have hg4:g6<w4.heap.size:=(Array.getElem?_eq_some_iff.1 HB6.out).1
 have HE:=qj (show Ext w w4 from Mod.to_ext (Mod.trans (F:=fun i=>i=w.heap.size+2) (Mod.of_ext (F:=fun i=>i=w.heap.size+2) HE.out) hm fun _ hi=>.inl hi) fun i hi=>by subst hi;omega)
 obtain ⟨q,hq⟩:∃q,enS l (psA l)=q:=⟨_,rfl⟩
 rw [hq] at HSP hr ⊢
 clear hq
 obtain ⟨⟨ek,cl,sq,ok,key,old,val⟩,m,sh⟩:=q
 dsimp only at HSP hr ⊢
 have hx:=(Ext.refl w4).alloc (.cells #[ek,cl,sq,ok,key,old,val] 42)
 have HB7:=qj (heap_alloc_new w4 (.cells #[ek,cl,sq,ok,key,old,val] 42))
 have HRR:=qj (hr.ext hx).row
 have HQ2:=qj (zab HQ2.out hx)
 have HQ3:=qj (zab HQ3.out hx)
 have HB6:=qj (zab HB6.out hx)
 have hs4:=HE.out.size
 have HE:=qj (HE.out.trans hx)
 clear hr hm hx HR
 go_upto_region 4 with (fail)
 generalize (w4.alloc (.cells #[ek,cl,sq,ok,key,old,val] 42))=W at *
 generalize hg7:w4.heap.size=g7 at *
 obtain ⟨⟨r0,r1,r2⟩,_⟩:=zdj HRR.out
 obtain ⟨⟨u0,u1⟩,v0,v1⟩:=zaE HQ2.out
 obtain ⟨d0,d1,d2,d3,d4,d5,d6⟩:=zaf HQ3.out
 obtain ⟨e0,e1,e2,e3,e4,e5,e6⟩:=zan HQ3.out
 obtain ⟨⟨b0,b1⟩,_⟩:=zaE HB6.out
 obtain ⟨c0,c1,c2,c3,c4,c5,c6⟩:=zaf HB7.out
 cases hs:(psB l || sh) with
 | true =>
  have HN:=qj (HRN.out (by
   rcases HSP.out with ⟨⟨h1,h2,_⟩,_⟩ | ⟨_,h⟩
   ·rw [h1,h2] at hs;cases hs
   ·exact h))
  rw [hs] at r2
  clear HSP HRN HRS hs
  go_wp2_with fail
  refine bodyPost_ret (v:=.tuple #[.agg Zk.e,.agg Zk.d,.int .i64 90]) ?_ rfl ⟨by rw [HN.out];rfl,?_⟩
  ·simp [results,Tryz.results121,go_sem,u0,u1,d0,d1,d2,d3,d4,d5,d6]
  ·exact zaU (zbP HE.out (Nat.le_refl _) _ _) (by omega) _ _ _ _ _ _ _
 | false =>
  have hpb:psB l=false∧sh=false:=by
   cases h1:psB l <;> rw [h1] at hs
   ·exact ⟨rfl,by simpa using hs⟩
   ·cases hs
  rw [hs] at r2
  by_cases hm:m=n
  ·have hne:((m:Int) != (n:Int))=false:=by rw [hm];simp
   cases hb:balE (x:Int) (y:Int) with
   | false =>
    have HN:=qj (HRN.out (by
     rcases HSP.out with ⟨⟨_,_,_,h,_⟩,_⟩ | ⟨_,h⟩
     ·rw [hb] at h;cases h
     ·exact h))
    have HBB:=qj hb
    clear HSP HRN HRS hs hpb hm hb
    go_wp2_with fail
    refine (zbc _ _ _).mono ?_
    rw [HBB.out]
    rintro e w5 ⟨rfl,hx⟩
    have HQ2:=qj (zab HQ2.out hx)
    have HQ3:=qj (zab HQ3.out hx)
    have HB6:=qj (zab HB6.out hx)
    have HB7:=qj (zab HB7.out hx)
    have HE:=qj (HE.out.trans hx)
    clear hx
    clear u0 u1 v0 v1 d0 d1 d2 d3 d4 d5 d6 e0 e1 e2 e3 e4 e5 e6 b0 b1 c0 c1 c2 c3 c4 c5 c6 r0 r1 r2
    obtain ⟨⟨u0,u1⟩,v0,v1⟩:=zaE HQ2.out
    obtain ⟨d0,d1,d2,d3,d4,d5,d6⟩:=zaf HQ3.out
    obtain ⟨e0,e1,e2,e3,e4,e5,e6⟩:=zan HQ3.out
    obtain ⟨⟨b0,b1⟩,_⟩:=zaE HB6.out
    obtain ⟨c0,c1,c2,c3,c4,c5,c6⟩:=zaf HB7.out
    go_wp2_with fail
    refine bodyPost_ret (v:=.tuple #[.agg Zk.e,.agg Zk.d,.int .i64 90]) ?_ rfl ⟨by rw [HN.out];rfl,?_⟩
    ·simp [results,Tryz.results121,go_sem,u0,u1,d0,d1,d2,d3,d4,d5,d6]
    ·exact zaU (zbP HE.out (Nat.le_refl _) _ _) (by omega) _ _ _ _ _ _ _
   | true =>
    have HBB:=qj hb
    cases hk:enOk ⟨ek,cl,sq,ok,key,old,val⟩ with
    | false =>
     have HN:=qj (HRN.out (by
      rcases HSP.out with ⟨⟨_,_,_,_,h⟩,_⟩ | ⟨_,h⟩
      ·rw [hk] at h;cases h
      ·exact h))
     have HKK:=qj hk
     clear HSP HRN HRS hs hpb hm hb hk
     go_wp2_with fail
     refine (zbc _ _ _).mono ?_
     rw [HBB.out]
     rintro e w5 ⟨rfl,hx⟩
     have HQ2:=qj (zab HQ2.out hx)
     have HQ3:=qj (zab HQ3.out hx)
     have HB6:=qj (zab HB6.out hx)
     have HB7:=qj (zab HB7.out hx)
     have HE:=qj (HE.out.trans hx)
     clear hx
     clear u0 u1 v0 v1 d0 d1 d2 d3 d4 d5 d6 e0 e1 e2 e3 e4 e5 e6 b0 b1 c0 c1 c2 c3 c4 c5 c6 r0 r1 r2
     obtain ⟨⟨u0,u1⟩,v0,v1⟩:=zaE HQ2.out
     obtain ⟨d0,d1,d2,d3,d4,d5,d6⟩:=zaf HQ3.out
     obtain ⟨e0,e1,e2,e3,e4,e5,e6⟩:=zan HQ3.out
     obtain ⟨⟨b0,b1⟩,_⟩:=zaE HB6.out
     obtain ⟨c0,c1,c2,c3,c4,c5,c6⟩:=zaf HB7.out
     go_wp2_with fail
     refine (zdQ _ _ _ _ _ _ _ _).mono ?_
     rw [HKK.out]
     rintro e w6 ⟨rfl,hx⟩
     have HQ2:=qj (zab HQ2.out hx)
     have HQ3:=qj (zab HQ3.out hx)
     have HB6:=qj (zab HB6.out hx)
     have HB7:=qj (zab HB7.out hx)
     have HE:=qj (HE.out.trans hx)
     clear hx
     clear u0 u1 v0 v1 d0 d1 d2 d3 d4 d5 d6 e0 e1 e2 e3 e4 e5 e6 b0 b1 c0 c1 c2 c3 c4 c5 c6
     obtain ⟨⟨u0,u1⟩,v0,v1⟩:=zaE HQ2.out
     obtain ⟨d0,d1,d2,d3,d4,d5,d6⟩:=zaf HQ3.out
     obtain ⟨e0,e1,e2,e3,e4,e5,e6⟩:=zan HQ3.out
     obtain ⟨⟨b0,b1⟩,_⟩:=zaE HB6.out
     obtain ⟨c0,c1,c2,c3,c4,c5,c6⟩:=zaf HB7.out
     go_wp2_with fail
     refine bodyPost_ret (v:=.tuple #[.agg Zk.e,.agg Zk.d,.int .i64 90]) ?_ rfl ⟨by rw [HN.out];rfl,?_⟩
     ·simp [results,Tryz.results121,go_sem,u0,u1,d0,d1,d2,d3,d4,d5,d6]
     ·exact zaU (zbP HE.out (Nat.le_refl _) _ _) (by omega) _ _ _ _ _ _ _
    | true =>
     have HN:=qj (HRS.out _ _ _ (by
      rcases HSP.out with ⟨_,h⟩ | ⟨h,_⟩
      ·exact h
      ·exfalso
       rw [hk,hb,hpb.1,hpb.2] at h
       have:=HLN.out
       simp at h
       omega))
     have HKK:=qj hk
     clear HSP HRN HRS hs hpb hm hb hk
     go_wp2_with fail
     refine (zbc _ _ _).mono ?_
     rw [HBB.out]
     rintro e w5 ⟨rfl,hx⟩
     have HQ2:=qj (zab HQ2.out hx)
     have HQ3:=qj (zab HQ3.out hx)
     have HB6:=qj (zab HB6.out hx)
     have HB7:=qj (zab HB7.out hx)
     have HE:=qj (HE.out.trans hx)
     clear hx
     clear u0 u1 v0 v1 d0 d1 d2 d3 d4 d5 d6 e0 e1 e2 e3 e4 e5 e6 b0 b1 c0 c1 c2 c3 c4 c5 c6 r0 r1 r2
     obtain ⟨⟨u0,u1⟩,v0,v1⟩:=zaE HQ2.out
     obtain ⟨d0,d1,d2,d3,d4,d5,d6⟩:=zaf HQ3.out
     obtain ⟨e0,e1,e2,e3,e4,e5,e6⟩:=zan HQ3.out
     obtain ⟨⟨b0,b1⟩,_⟩:=zaE HB6.out
     obtain ⟨c0,c1,c2,c3,c4,c5,c6⟩:=zaf HB7.out
     go_wp2_with fail
     refine (zdQ _ _ _ _ _ _ _ _).mono ?_
     rw [HKK.out]
     rintro e w6 ⟨rfl,hx⟩
     have HQ2:=qj (zab HQ2.out hx)
     have HQ3:=qj (zab HQ3.out hx)
     have HB6:=qj (zab HB6.out hx)
     have HB7:=qj (zab HB7.out hx)
     have HE:=qj (HE.out.trans hx)
     clear hx
     clear u0 u1 v0 v1 d0 d1 d2 d3 d4 d5 d6 e0 e1 e2 e3 e4 e5 e6 b0 b1 c0 c1 c2 c3 c4 c5 c6
     obtain ⟨⟨u0,u1⟩,v0,v1⟩:=zaE HQ2.out
     obtain ⟨d0,d1,d2,d3,d4,d5,d6⟩:=zaf HQ3.out
     obtain ⟨e0,e1,e2,e3,e4,e5,e6⟩:=zan HQ3.out
     obtain ⟨⟨b0,b1⟩,_⟩:=zaE HB6.out
     obtain ⟨c0,c1,c2,c3,c4,c5,c6⟩:=zaf HB7.out
     go_wp2_with fail
     go_region
     go_wp2_with fail
     refine bodyPost_ret (v:=.tuple #[.agg #[.int .i64 x,.int .i64 y],.agg #[ek,cl,sq,ok,key,old,val],.int .i64 0]) ?_ rfl ⟨by rw [HN.out],?_⟩
     ·simp [results,Tryz.results121,go_sem,u0,u1,d0,d1,d2,d3,d4,d5,d6]
     ·exact (zaU (zbP HE.out (Nat.le_refl _) _ _) (by omega) _ _ _ _ _ _ _).drew
  ·have hne:((m:Int) != (n:Int))=true:=by rw [bne_iff_ne];omega
   have HN:=qj (HRN.out (by
    rcases HSP.out with ⟨⟨_,_,h,_⟩,_⟩ | ⟨_,h⟩
    ·exact absurd (h.trans HLN.out) hm
    ·exact h))
   clear HSP HRN HRS hs hpb hm
   go_wp2_with fail
   refine bodyPost_ret (v:=.tuple #[.agg Zk.e,.agg Zk.d,.int .i64 90]) ?_ rfl ⟨by rw [HN.out];rfl,?_⟩
   ·simp [results,Tryz.results121,go_sem,u0,u1,d0,d1,d2,d3,d4,d5,d6]
   ·exact zaU (zbP HE.out (Nat.le_refl _) _ _) (by omega) _ _ _ _ _ _ _
theorem zfK {w:World} {g:Nat} {t:TypeId} {y0 y1 y2 y3 y4:Value} (h:w.heap[g]?=some (.cells #[y0,y1,y2,y3,y4] t (0,0))):((CW.mk w g [y0,y1,y2,y3,y4]:Prop))∧w.frozen? (aD g 0)=false∧w.frozen? (aD g 1)=false∧w.frozen? (aD g 2)=false∧w.frozen? (aD g 3)=false∧w.frozen? (aD g 4)=false:=⟨⟨cell_of_row w g 0 _ _ _ h,cell_of_row w g 1 _ _ _ h,cell_of_row w g 2 _ _ _ h,cell_of_row w g 3 _ _ _ h,cell_of_row w g 4 _ _ _ h⟩,frozen_of_row w g 0 _ _ h,frozen_of_row w g 1 _ _ h,frozen_of_row w g 2 _ _ h,frozen_of_row w g 3 _ _ h,frozen_of_row w g 4 _ _ h⟩
theorem zcl {w:World} {g:Nat} {t:TypeId} {y0 y1 y2 y3 y4 y5 y6 y7 y8 y9 y10:Value} (h:w.heap[g]?=some (.cells #[y0,y1,y2,y3,y4,y5,y6,y7,y8,y9,y10] t (0,0))):((CW.mk w g [y0,y1,y2,y3,y4,y5,y6,y7,y8,y9,y10]:Prop))∧w.frozen? (aD g 0)=false∧w.frozen? (aD g 1)=false∧w.frozen? (aD g 2)=false∧w.frozen? (aD g 3)=false∧w.frozen? (aD g 4)=false∧w.frozen? (aD g 5)=false∧w.frozen? (aD g 6)=false∧w.frozen? (aD g 7)=false∧w.frozen? (aD g 8)=false∧w.frozen? (aD g 9)=false∧w.frozen? (aD g 10)=false:=⟨⟨cell_of_row w g 0 _ _ _ h,cell_of_row w g 1 _ _ _ h,cell_of_row w g 2 _ _ _ h,cell_of_row w g 3 _ _ _ h,cell_of_row w g 4 _ _ _ h,cell_of_row w g 5 _ _ _ h,cell_of_row w g 6 _ _ _ h,cell_of_row w g 7 _ _ _ h,cell_of_row w g 8 _ _ _ h,cell_of_row w g 9 _ _ _ h,cell_of_row w g 10 _ _ _ h⟩,frozen_of_row w g 0 _ _ h,frozen_of_row w g 1 _ _ h,frozen_of_row w g 2 _ _ h,frozen_of_row w g 3 _ _ h,frozen_of_row w g 4 _ _ h,frozen_of_row w g 5 _ _ h,frozen_of_row w g 6 _ _ h,frozen_of_row w g 7 _ _ h,frozen_of_row w g 8 _ _ h,frozen_of_row w g 9 _ _ h,frozen_of_row w g 10 _ _ h⟩
theorem zjM (l:List Nat) (x y z:Int):(mbl l x y z).length≤l.length:=by
 unfold mbl obl
 split
 ·split
  ·unfold zaH;rw [List.length_take,List.length_drop];omega
  ·simp
 ·simp
theorem zli {m:DM} (hok:m.Ok) (S:Int):∀k,(m.gotL S k).length≤64 * k
 | 0=>by simp [DM.gotL]
 | k+1=>by
  unfold DM.gotL
  rw [List.length_append]
  have:=zli hok S k
  have h2:=(zdX hok (S+(k:Int))).2
  omega
theorem zkp {m:DM} (hok:m.Ok) (S:Int) (k:Nat):(m.plcL S k).length≤64 * k:=by
 unfold DM.plcL
 split
 ·simp
 ·exact zli hok S k
theorem wid3:wid 3=1:=by simp [wid]
theorem wid4:wid 4=2:=by simp [wid]
theorem zhh {q:Nat} (h:q<24):0≤zai 3 (q:Int):=by rw [zjY h];omega
theorem zgQ {p:Nat} (h:p<48):0≤zai 4 (p:Int):=by rw [zjw h];omega
theorem zss {r q:Int} {x:List Nat} (h:stM x r 3 q≠1):recQ r q x={ st:=stM x r 3 q }:=if_neg h
theorem zrl {r q:Int} {x:List Nat} (h:stM x r 3 q=1) (he:(rcR (mbl x r 3 q)).2.2.2≠0):recQ r q x={ st:=2 }:=by
 unfold recQ
 rw [if_pos h]
 unfold rcR at he
 cases hr:recR (mbl x r 3 q) with
 | some p=>obtain ⟨a,b,c⟩:=p;rw [hr] at he;exact absurd rfl he
 | none=>rfl
theorem zpC {r q:Int} {x:List Nat} (h:stM x r 3 q=1) (he:(rcR (mbl x r 3 q)).2.2.2=0):recQ r q x={ st:=1,ix:=(mfl x r 3 q 3:Nat),bx:=((rcR (mbl x r 3 q)).1:Nat),yb:=((rcR (mbl x r 3 q)).2.1:Nat),wh:=((rcR (mbl x r 3 q)).2.2.1:Nat) }:=by
 unfold recQ
 rw [if_pos h]
 unfold rcR at he ⊢
 cases hr:recR (mbl x r 3 q) with
 | some p=>rfl
 | none=>rw [hr] at he;exact absurd he (by decide)
theorem zsi {r q:Int} {x:List Nat} (h:stM x r 4 q≠1):copQ r q x={ st:=stM x r 4 q }:=if_neg h
theorem zri {r q:Int} {x:List Nat} (h:stM x r 4 q=1) (he:(psE (mbl x r 4 q)).2.2.2≠0):copQ r q x={ st:=2 }:=by
 unfold copQ
 rw [if_pos h]
 unfold psE at he
 cases hr:bdR (mbl x r 4 q) with
 | some p=>obtain ⟨a,b,c⟩:=p;rw [hr] at he;exact absurd rfl he
 | none=>rfl
theorem zrT {r q:Int} {x:List Nat} (h:stM x r 4 q=1) (he:(psE (mbl x r 4 q)).2.2.2=0):copQ r q x={ st:=1,ix:=(mfl x r 4 q 3:Nat),bx:=((psE (mbl x r 4 q)).1:Nat),yb:=((psE (mbl x r 4 q)).2.1:Nat),e:=(psE (mbl x r 4 q)).2.2.1 }:=by
 unfold copQ
 rw [if_pos h]
 unfold psE at he ⊢
 cases hr:bdR (mbl x r 4 q) with
 | some p=>rfl
 | none=>rw [hr] at he;exact absurd he (by decide)
section
variable {w:World} {g d s:Nat} {r inc:Int} {F:Nat→Prop} {m:DM}
theorem zuF (h:LogAt w g d r inc s) (hd:zao w d F m) (hL:LaidF w) (q:Nat) (hq:q<24) (hfew:m.waits.length≤1000000) :
 Calls Tryz.prog 120 #[aD g 0,.int .i64 3,.int .i64 q] w fun e w'=>∃A N,e=.returned (.tuple #[.int .u8 (stM (m.cb 3 q) r 3 q:Nat),.agg #[.int .i64 (mfl (m.cb 3 q) r 3 q 0:Nat),.int .i64 (mfl (m.cb 3 q) r 3 q 1:Nat),.int .i64 (mfl (m.cb 3 q) r 3 q 2:Nat),.int .i64 (mfl (m.cb 3 q) r 3 q 3:Nat),.int .i64 (mfl (m.cb 3 q) r 3 q 4:Nat)],.slice A N N]) ∧
  By w' A N N (mbl (m.cb 3 q) r 3 q)∧N≤64∧Ext w w':=by
 have hc:=zlq h hd hL 3 (q:Int) (zhh hq) hfew
 have hl:=zkp hd.ok (zai 3 (q:Int)) 1
 rw [wid3,zhL] at hc
 rw [zhL] at hl
 refine hc.mono fun e w' ⟨A,N,he,hb,hx⟩=>⟨A,N,he,hb,?_,hx⟩
 have h1:=hb.len
 have h2:=zjM (m.cb 3 (q:Int)) r 3 (q:Int)
 omega
theorem zug (h:LogAt w g d r inc s) (hd:zao w d F m) (hL:LaidF w) (p:Nat) (hp:p<48) (hfew:m.waits.length≤1000000) :
 Calls Tryz.prog 120 #[aD g 0,.int .i64 4,.int .i64 p] w fun e w'=>∃A N,e=.returned (.tuple #[.int .u8 (stM (m.fb p) r 4 p:Nat),.agg #[.int .i64 (mfl (m.fb p) r 4 p 0:Nat),.int .i64 (mfl (m.fb p) r 4 p 1:Nat),.int .i64 (mfl (m.fb p) r 4 p 2:Nat),.int .i64 (mfl (m.fb p) r 4 p 3:Nat),.int .i64 (mfl (m.fb p) r 4 p 4:Nat)],.slice A N N]) ∧
  By w' A N N (mbl (m.fb p) r 4 p)∧N≤128∧Ext w w':=by
 have hc:=zlq h hd hL 4 (p:Int) (zgQ hp) hfew
 have hl:=zkp hd.ok (zai 4 (p:Int)) 2
 rw [wid4,zhJ hd.ok] at hc
 rw [zhJ hd.ok] at hl
 refine hc.mono fun e w' ⟨A,N,he,hb,hx⟩=>⟨A,N,he,hb,?_,hx⟩
 have h1:=hb.len
 have h2:=zjM (m.fb (p:Int)) r 4 (p:Int)
 omega
theorem zio (h:LogAt w g d r inc s) (hd:zao w d F m) (hL:LaidF w) (hLS:LaidS w) (q:Nat) (hq:q<24) (hfew:m.waits.length≤1000000) :
 (cL 64 #[aD g 0,.int .i64 q] w (.agg (m.recM r q)):Prop):=by
 have ho:=fun V (hV:Ext w V)=>zuF (h.ext hV) (hd.ext hV) (hL.ext hV) q hq hfew
 unfold DM.recM
 generalize m.cb 3 (q:Int)=X at ho ⊢
 obtain ⟨T,hT⟩:∃T,stM X r 3 (q:Int)=T:=⟨_,rfl⟩
 obtain ⟨B,hB⟩:∃B,mbl X r 3 (q:Int)=B:=⟨_,rfl⟩
 rw [hT,hB] at ho
 have HS:=qj hLS
 have HL:=qj hLS.o
 have HO:=qj ho
 obtain ⟨b,w0,hw0,hE0,hT0,hz0w⟩:∃(b:Nat) (w0:World),(b=w.heap.size∧w0=w.alloc (.cells Zk.f 90))∧Ext w w0∧w0.heap[b]?=some (.cells Zk.f 90 (0,0))∧(w0.heap.size=b+1∧w.heap.size≤b) :=
  ⟨_,_,⟨rfl,rfl⟩,(Ext.refl w).alloc _,heap_alloc_new w _,by simp,Nat.le_refl _⟩
 have HE0:=qj hE0
 have HT0:=qj hT0
 have HZ0:=qj hz0w
 clear ho h hd hL hLS hfew hq hE0 hT0 hz0w
 by_cases h1:T=1
 ·subst h1
  by_cases he:(rcR B).2.2.2=0
  ·rw [zpC hT (by rw [hB];exact he),hB]
   have HE:=qj he
   clear hT hB he
   go_enter Tryz.func64,Tryz.ntmps64
   go_wp2_with fail
   rw [←hw0.1,←hw0.2]
   clear hw0
   refine (HO.out _ HE0.out).mono ?_
   rintro e w1 ⟨A,N,rfl,hb,hN,hx⟩
   have HB:=qj hb
   have HN:=qj hN
   have HX1:=qj hx
   have hrowT:=heap_alloc_new w1 (.cells #[.int .i64 (mfl X r 3 (q:Int) 0:Nat),.int .i64 (mfl X r 3 (q:Int) 1:Nat),.int .i64 (mfl X r 3 (q:Int) 2:Nat),.int .i64 (mfl X r 3 (q:Int) 3:Nat),.int .i64 (mfl X r 3 (q:Int) 4:Nat)] 44)
   have HRT:=qj hrowT
   have HXA:=qj ((Ext.refl w1).alloc (.cells #[.int .i64 (mfl X r 3 (q:Int) 0:Nat),.int .i64 (mfl X r 3 (q:Int) 1:Nat),.int .i64 (mfl X r 3 (q:Int) 2:Nat),.int .i64 (mfl X r 3 (q:Int) 3:Nat),.int .i64 (mfl X r 3 (q:Int) 4:Nat)] 44))
   have HX:Hid (Ext w (w1.alloc (.cells #[.int .i64 (mfl X r 3 (q:Int) 0:Nat),.int .i64 (mfl X r 3 (q:Int) 1:Nat),.int .i64 (mfl X r 3 (q:Int) 2:Nat),.int .i64 (mfl X r 3 (q:Int) 3:Nat),.int .i64 (mfl X r 3 (q:Int) 4:Nat)] 44))):=qj ((HE0.out.trans hx).trans HXA.out)
   have HROW:Hid ((w1.alloc (.cells #[.int .i64 (mfl X r 3 (q:Int) 0:Nat),.int .i64 (mfl X r 3 (q:Int) 1:Nat),.int .i64 (mfl X r 3 (q:Int) 2:Nat),.int .i64 (mfl X r 3 (q:Int) 3:Nat),.int .i64 (mfl X r 3 (q:Int) 4:Nat)] 44)).heap[b]?=some (.cells Zk.f 90 (0,0))):=qj (((hx.trans HXA.out).block _ (Array.getElem?_eq_some_iff.1 HT0.out).1).trans HT0.out)
   clear hb hN hx hrowT
   go_wp2_with fail
   refine (ziV A N N B _ (HS.out.ext HX.out) (HB.out.ext HXA.out) (by have:=HN.out;omega)).mono ?_
   rw [HE.out]
   rintro e w2 ⟨rfl,hx⟩
   generalize hq1:(rcR B).1=b1 at *
   generalize hq2:(rcR B).2.1=b2 at *
   generalize hq3:(rcR B).2.2.1=b3 at *
   have hcT:=cell_of_row w2 w1.heap.size 3 _ _ _ ((hx.block _ (Array.getElem?_eq_some_iff.1 HRT.out).1).trans HRT.out)
   have hlT:w1.heap.size<w2.heap.size:=(Array.getElem?_eq_some_iff.1 ((hx.block _ (Array.getElem?_eq_some_iff.1 HRT.out).1).trans HRT.out)).1
   have hrow:=(hx.block _ (Array.getElem?_eq_some_iff.1 HROW.out).1).trans HROW.out
   obtain ⟨⟨c0,c1,c2,c3,c4⟩,f0,f1,f2,f3,f4⟩:=zfK hrow
   have hlb:=(Array.getElem?_eq_some_iff.1 hrow).1
   have HX:Hid (Ext w w2):=qj (HX.out.trans hx)
   have HROW:Hid (w2.heap[b]?=some (.cells Zk.f 90 (0,0))):=qj hrow
   clear hx hrow HB HN HX1 HRT HXA
   go_wp2_with fail
   have hrow:=row5 HROW.out (.int .u8 1) (.int .i64 (mfl X r 3 (q:Int) 3:Nat)) (.int .i64 (b1:Nat)) (.int .i64 (b2:Nat)) (.int .i64 (b3:Nat))
   have hx:=ext5 HX.out HZ0.out.2 (.int .u8 1) (.int .i64 (mfl X r 3 (q:Int) 3:Nat)) (.int .i64 (b1:Nat)) (.int .i64 (b2:Nat)) (.int .i64 (b3:Nat))
   clear c0 c1 c2 c3 c4 f0 f1 f2 f3 f4
   generalize ((SW.mk w2 b [.int .u8 1,.int .i64 (mfl X r 3 (q:Int) 3:Nat),.int .i64 (b1:Nat),.int .i64 (b2:Nat),.int .i64 (b3:Nat)]:World))=V at hrow hx ⊢
   have hrow:=(Below.block ((Ext.refl V).alloc (.cells #[.int .i64 (b1:Nat),.int .i64 (b2:Nat)] 38)) b (Array.getElem?_eq_some_iff.1 hrow).1).trans hrow
   have hx:=hx.trans ((Ext.refl V).alloc (.cells #[.int .i64 (b1:Nat),.int .i64 (b2:Nat)] 38))
   obtain ⟨⟨c0,c1,c2,c3,c4⟩,_⟩:=zfK hrow
   refine bodyPost_ret (v:=.agg #[.int .u8 1,.int .i64 (mfl X r 3 (q:Int) 3:Nat),.int .i64 (b1:Nat),.int .i64 (b2:Nat),.int .i64 (b3:Nat)]) (by simp [results,Tryz.results64,go_sem,c0,c1,c2,c3,c4]) rfl ?_
   subst hq1 hq2 hq3
   exact ⟨rfl,hx⟩
  ·rw [zrl hT (by rw [hB];exact he)]
   obtain ⟨E,hE⟩:∃E,(rcR B).2.2.2=E:=⟨_,rfl⟩
   rw [hE] at he
   have hne:(E != 0)=true:=by simpa using he
   have HE:=qj hE
   clear hT hB he hE
   go_enter Tryz.func64,Tryz.ntmps64
   go_wp2_with fail
   rw [←hw0.1,←hw0.2]
   clear hw0
   refine (HO.out _ HE0.out).mono ?_
   rintro e w1 ⟨A,N,rfl,hb,hN,hx⟩
   have HB:=qj hb
   have HN:=qj hN
   have HX1:=qj hx
   have hrowT:=heap_alloc_new w1 (.cells #[.int .i64 (mfl X r 3 (q:Int) 0:Nat),.int .i64 (mfl X r 3 (q:Int) 1:Nat),.int .i64 (mfl X r 3 (q:Int) 2:Nat),.int .i64 (mfl X r 3 (q:Int) 3:Nat),.int .i64 (mfl X r 3 (q:Int) 4:Nat)] 44)
   have HRT:=qj hrowT
   have HXA:=qj ((Ext.refl w1).alloc (.cells #[.int .i64 (mfl X r 3 (q:Int) 0:Nat),.int .i64 (mfl X r 3 (q:Int) 1:Nat),.int .i64 (mfl X r 3 (q:Int) 2:Nat),.int .i64 (mfl X r 3 (q:Int) 3:Nat),.int .i64 (mfl X r 3 (q:Int) 4:Nat)] 44))
   have HX:Hid (Ext w (w1.alloc (.cells #[.int .i64 (mfl X r 3 (q:Int) 0:Nat),.int .i64 (mfl X r 3 (q:Int) 1:Nat),.int .i64 (mfl X r 3 (q:Int) 2:Nat),.int .i64 (mfl X r 3 (q:Int) 3:Nat),.int .i64 (mfl X r 3 (q:Int) 4:Nat)] 44))):=qj ((HE0.out.trans hx).trans HXA.out)
   have HROW:Hid ((w1.alloc (.cells #[.int .i64 (mfl X r 3 (q:Int) 0:Nat),.int .i64 (mfl X r 3 (q:Int) 1:Nat),.int .i64 (mfl X r 3 (q:Int) 2:Nat),.int .i64 (mfl X r 3 (q:Int) 3:Nat),.int .i64 (mfl X r 3 (q:Int) 4:Nat)] 44)).heap[b]?=some (.cells Zk.f 90 (0,0))):=qj (((hx.trans HXA.out).block _ (Array.getElem?_eq_some_iff.1 HT0.out).1).trans HT0.out)
   clear hb hN hx hrowT
   go_wp2_with fail
   refine (ziV A N N B _ (HS.out.ext HX.out) (HB.out.ext HXA.out) (by have:=HN.out;omega)).mono ?_
   rw [HE.out]
   rintro e w2 ⟨rfl,hx⟩
   generalize hq1:(rcR B).1=b1 at *
   generalize hq2:(rcR B).2.1=b2 at *
   generalize hq3:(rcR B).2.2.1=b3 at *
   have hcT:=cell_of_row w2 w1.heap.size 3 _ _ _ ((hx.block _ (Array.getElem?_eq_some_iff.1 HRT.out).1).trans HRT.out)
   have hlT:w1.heap.size<w2.heap.size:=(Array.getElem?_eq_some_iff.1 ((hx.block _ (Array.getElem?_eq_some_iff.1 HRT.out).1).trans HRT.out)).1
   have hrow:=(hx.block _ (Array.getElem?_eq_some_iff.1 HROW.out).1).trans HROW.out
   obtain ⟨⟨c0,c1,c2,c3,c4⟩,f0,f1,f2,f3,f4⟩:=zfK hrow
   have hlb:=(Array.getElem?_eq_some_iff.1 hrow).1
   have HX:Hid (Ext w w2):=qj (HX.out.trans hx)
   have HROW:Hid (w2.heap[b]?=some (.cells Zk.f 90 (0,0))):=qj hrow
   clear hx hrow HB HN HX1 HRT HXA
   go_wp2_with fail
   have hrow:=row5 HROW.out (.int .u8 2) (.int .i64 0) (.int .i64 0) (.int .i64 0) (.int .i64 0)
   have hx:=ext5 HX.out HZ0.out.2 (.int .u8 2) (.int .i64 0) (.int .i64 0) (.int .i64 0) (.int .i64 0)
   clear c0 c1 c2 c3 c4 f0 f1 f2 f3 f4
   generalize ((SW.mk w2 b [.int .u8 2,.int .i64 0,.int .i64 0,.int .i64 0,.int .i64 0]:World))=V at hrow hx ⊢
   have hrow:=(Below.block ((Ext.refl V).alloc (.cells #[.int .i64 (b1:Nat),.int .i64 (b2:Nat)] 38)) b (Array.getElem?_eq_some_iff.1 hrow).1).trans hrow
   have hx:=hx.trans ((Ext.refl V).alloc (.cells #[.int .i64 (b1:Nat),.int .i64 (b2:Nat)] 38))
   obtain ⟨⟨c0,c1,c2,c3,c4⟩,_⟩:=zfK hrow
   refine bodyPost_ret (v:=.agg #[.int .u8 2,.int .i64 0,.int .i64 0,.int .i64 0,.int .i64 0]) (by simp [results,Tryz.results64,go_sem,c0,c1,c2,c3,c4]) rfl ?_
   exact ⟨rfl,hx⟩
 ·rw [zss (by rw [hT];exact h1),hT]
  have hne:((T:Int) != 1)=true:=by simpa using (show ¬(T:Int)=1 from by omega)
  clear hT hB h1
  ·go_enter Tryz.func64,Tryz.ntmps64
   go_wp2_with fail
   rw [←hw0.1,←hw0.2]
   clear hw0
   refine (HO.out _ HE0.out).mono ?_
   rintro e w1 ⟨A,N,rfl,hb,hN,hx⟩
   have HB:=qj hb
   have HN:=qj hN
   have HX1:=qj hx
   have hrowT:=heap_alloc_new w1 (.cells #[.int .i64 (mfl X r 3 (q:Int) 0:Nat),.int .i64 (mfl X r 3 (q:Int) 1:Nat),.int .i64 (mfl X r 3 (q:Int) 2:Nat),.int .i64 (mfl X r 3 (q:Int) 3:Nat),.int .i64 (mfl X r 3 (q:Int) 4:Nat)] 44)
   have HRT:=qj hrowT
   have HXA:=qj ((Ext.refl w1).alloc (.cells #[.int .i64 (mfl X r 3 (q:Int) 0:Nat),.int .i64 (mfl X r 3 (q:Int) 1:Nat),.int .i64 (mfl X r 3 (q:Int) 2:Nat),.int .i64 (mfl X r 3 (q:Int) 3:Nat),.int .i64 (mfl X r 3 (q:Int) 4:Nat)] 44))
   have HX:Hid (Ext w (w1.alloc (.cells #[.int .i64 (mfl X r 3 (q:Int) 0:Nat),.int .i64 (mfl X r 3 (q:Int) 1:Nat),.int .i64 (mfl X r 3 (q:Int) 2:Nat),.int .i64 (mfl X r 3 (q:Int) 3:Nat),.int .i64 (mfl X r 3 (q:Int) 4:Nat)] 44))):=qj ((HE0.out.trans hx).trans HXA.out)
   have HROW:Hid ((w1.alloc (.cells #[.int .i64 (mfl X r 3 (q:Int) 0:Nat),.int .i64 (mfl X r 3 (q:Int) 1:Nat),.int .i64 (mfl X r 3 (q:Int) 2:Nat),.int .i64 (mfl X r 3 (q:Int) 3:Nat),.int .i64 (mfl X r 3 (q:Int) 4:Nat)] 44)).heap[b]?=some (.cells Zk.f 90 (0,0))):=qj (((hx.trans HXA.out).block _ (Array.getElem?_eq_some_iff.1 HT0.out).1).trans HT0.out)
   have hrow:=(hx.block _ (Array.getElem?_eq_some_iff.1 HT0.out).1).trans HT0.out
   obtain ⟨⟨c0,c1,c2,c3,c4⟩,f0,f1,f2,f3,f4⟩:=zfK hrow
   have hlb:=(Array.getElem?_eq_some_iff.1 hrow).1
   have HX:=qj (HE0.out.trans hx)
   have HROW:=qj hrow
   clear hb hN hx hrowT hrow HB HN HX1 HRT HXA
   go_wp2_with fail
   have hrow:=row5 HROW.out (.int .u8 (T:Nat)) (.int .i64 0) (.int .i64 0) (.int .i64 0) (.int .i64 0)
   have hx:=ext5 HX.out HZ0.out.2 (.int .u8 (T:Nat)) (.int .i64 0) (.int .i64 0) (.int .i64 0) (.int .i64 0)
   clear c0 c1 c2 c3 c4 f0 f1 f2 f3 f4
   generalize ((SW.mk w1 b [.int .u8 (T:Nat),.int .i64 0,.int .i64 0,.int .i64 0,.int .i64 0]:World))=V at hrow hx ⊢
   have hrow:=(Below.block ((Ext.refl V).alloc (.cells #[.int .i64 (mfl X r 3 (q:Int) 0:Nat),.int .i64 (mfl X r 3 (q:Int) 1:Nat),.int .i64 (mfl X r 3 (q:Int) 2:Nat),.int .i64 (mfl X r 3 (q:Int) 3:Nat),.int .i64 (mfl X r 3 (q:Int) 4:Nat)] 44)) b (Array.getElem?_eq_some_iff.1 hrow).1).trans hrow
   have hx:=hx.trans ((Ext.refl V).alloc (.cells #[.int .i64 (mfl X r 3 (q:Int) 0:Nat),.int .i64 (mfl X r 3 (q:Int) 1:Nat),.int .i64 (mfl X r 3 (q:Int) 2:Nat),.int .i64 (mfl X r 3 (q:Int) 3:Nat),.int .i64 (mfl X r 3 (q:Int) 4:Nat)] 44))
   obtain ⟨⟨c0,c1,c2,c3,c4⟩,_⟩:=zfK hrow
   refine bodyPost_ret (v:=.agg #[.int .u8 (T:Nat),.int .i64 0,.int .i64 0,.int .i64 0,.int .i64 0]) (by simp [results,Tryz.results64,go_sem,c0,c1,c2,c3,c4]) rfl ?_
   exact ⟨rfl,hx⟩
theorem zfj (h:LogAt w g d r inc s) (hd:zao w d F m) (hL:LaidF w) (hLS:LaidS w) (p:Nat) (hq:p<48) (hfew:m.waits.length≤1000000) :
 (cL 63 #[aD g 0,.int .i64 p] w (.agg (m.copM r p)):Prop):=by
 have ho:=fun V (hV:Ext w V)=>zug (h.ext hV) (hd.ext hV) (hL.ext hV) p hq hfew
 unfold DM.copM
 generalize m.fb (p:Int)=X at ho ⊢
 obtain ⟨T,hT⟩:∃T,stM X r 4 (p:Int)=T:=⟨_,rfl⟩
 obtain ⟨B,hB⟩:∃B,mbl X r 4 (p:Int)=B:=⟨_,rfl⟩
 rw [hT,hB] at ho
 have HS:=qj hLS
 have HL:=qj hLS.o
 have HO:=qj ho
 obtain ⟨b,w0,hw0,hE0,hT0,hz0w⟩:∃(b:Nat) (w0:World),(b=w.heap.size∧w0=w.alloc (.cells Zk.h 92))∧Ext w w0∧w0.heap[b]?=some (.cells Zk.h 92 (0,0))∧(w0.heap.size=b+1∧w.heap.size≤b) :=
  ⟨_,_,⟨rfl,rfl⟩,(Ext.refl w).alloc _,heap_alloc_new w _,by simp,Nat.le_refl _⟩
 have HE0:=qj hE0
 have HT0:=qj hT0
 have HZ0:=qj hz0w
 clear ho h hd hL hLS hfew hq hE0 hT0 hz0w
 by_cases h1:T=1
 ·subst h1
  by_cases he:(psE B).2.2.2=0
  ·rw [zrT hT (by rw [hB];exact he),hB]
   have HE:=qj he
   clear hT hB he
   go_enter Tryz.func63,Tryz.ntmps63
   go_wp2_with fail
   rw [←hw0.1,←hw0.2]
   clear hw0
   refine (HO.out _ HE0.out).mono ?_
   rintro e w1 ⟨A,N,rfl,hb,hN,hx⟩
   have HB:=qj hb
   have HN:=qj hN
   have HX1:=qj hx
   have hrowT:=heap_alloc_new w1 (.cells #[.int .i64 (mfl X r 4 (p:Int) 0:Nat),.int .i64 (mfl X r 4 (p:Int) 1:Nat),.int .i64 (mfl X r 4 (p:Int) 2:Nat),.int .i64 (mfl X r 4 (p:Int) 3:Nat),.int .i64 (mfl X r 4 (p:Int) 4:Nat)] 44)
   have HRT:=qj hrowT
   have HXA:=qj ((Ext.refl w1).alloc (.cells #[.int .i64 (mfl X r 4 (p:Int) 0:Nat),.int .i64 (mfl X r 4 (p:Int) 1:Nat),.int .i64 (mfl X r 4 (p:Int) 2:Nat),.int .i64 (mfl X r 4 (p:Int) 3:Nat),.int .i64 (mfl X r 4 (p:Int) 4:Nat)] 44))
   have HX:Hid (Ext w (w1.alloc (.cells #[.int .i64 (mfl X r 4 (p:Int) 0:Nat),.int .i64 (mfl X r 4 (p:Int) 1:Nat),.int .i64 (mfl X r 4 (p:Int) 2:Nat),.int .i64 (mfl X r 4 (p:Int) 3:Nat),.int .i64 (mfl X r 4 (p:Int) 4:Nat)] 44))):=qj ((HE0.out.trans hx).trans HXA.out)
   have HROW:Hid ((w1.alloc (.cells #[.int .i64 (mfl X r 4 (p:Int) 0:Nat),.int .i64 (mfl X r 4 (p:Int) 1:Nat),.int .i64 (mfl X r 4 (p:Int) 2:Nat),.int .i64 (mfl X r 4 (p:Int) 3:Nat),.int .i64 (mfl X r 4 (p:Int) 4:Nat)] 44)).heap[b]?=some (.cells Zk.h 92 (0,0))):=qj (((hx.trans HXA.out).block _ (Array.getElem?_eq_some_iff.1 HT0.out).1).trans HT0.out)
   clear hb hN hx hrowT
   go_wp2_with fail
   refine (zhe A N N B _ (HL.out.ext HX.out) (HB.out.ext HXA.out) (by have:=HN.out;omega)).mono ?_
   rw [HE.out]
   rintro e w2 ⟨rfl,hx⟩
   generalize hq1:(psE B).1=b1 at *
   generalize hq2:(psE B).2.1=b2 at *
   generalize hq3:(psE B).2.2.1=b3 at *
   have hcT:=cell_of_row w2 w1.heap.size 3 _ _ _ ((hx.block _ (Array.getElem?_eq_some_iff.1 HRT.out).1).trans HRT.out)
   have hlT:w1.heap.size<w2.heap.size:=(Array.getElem?_eq_some_iff.1 ((hx.block _ (Array.getElem?_eq_some_iff.1 HRT.out).1).trans HRT.out)).1
   have hrow:=(hx.block _ (Array.getElem?_eq_some_iff.1 HROW.out).1).trans HROW.out
   obtain ⟨⟨c0,c1,c2,c3,c4,c5,c6,c7,c8,c9,c10⟩,f0,f1,f2,f3,f4,f5,f6,f7,f8,f9,f10⟩:=zcl hrow
   have hlb:=(Array.getElem?_eq_some_iff.1 hrow).1
   have HX:Hid (Ext w w2):=qj (HX.out.trans hx)
   have HROW:Hid (w2.heap[b]?=some (.cells Zk.h 92 (0,0))):=qj hrow
   clear hx hrow HB HN HX1 HRT HXA
   go_wp2_with fail
   have hrow:=zfe HROW.out (.int .u8 1) (.int .i64 (mfl X r 4 (p:Int) 3:Nat)) (.int .i64 (b1:Nat)) (.int .i64 (b2:Nat)) (.int .u8 (b3.k:Nat)) b3.cl b3.sq (.int .u8 (b3.ok:Nat)) b3.key b3.old b3.val
   have hx:=zfA HX.out HZ0.out.2 (.int .u8 1) (.int .i64 (mfl X r 4 (p:Int) 3:Nat)) (.int .i64 (b1:Nat)) (.int .i64 (b2:Nat)) (.int .u8 (b3.k:Nat)) b3.cl b3.sq (.int .u8 (b3.ok:Nat)) b3.key b3.old b3.val
   clear c0 c1 c2 c3 c4 c5 c6 c7 c8 c9 c10 f0 f1 f2 f3 f4 f5 f6 f7 f8 f9 f10
   generalize ((SW.mk w2 b [.int .u8 1,.int .i64 (mfl X r 4 (p:Int) 3:Nat),.int .i64 (b1:Nat),.int .i64 (b2:Nat),.int .u8 (b3.k:Nat),b3.cl,b3.sq,.int .u8 (b3.ok:Nat),b3.key,b3.old,b3.val]:World))=V at hrow hx ⊢
   have hrow:=(Below.block (((Ext.refl V).alloc (.cells #[.int .i64 (b1:Nat),.int .i64 (b2:Nat)] 38)).alloc (.cells #[.int .u8 (b3.k:Nat),b3.cl,b3.sq,.int .u8 (b3.ok:Nat),b3.key,b3.old,b3.val] 42)) b (Array.getElem?_eq_some_iff.1 hrow).1).trans hrow
   have hx:=hx.trans (((Ext.refl V).alloc (.cells #[.int .i64 (b1:Nat),.int .i64 (b2:Nat)] 38)).alloc (.cells #[.int .u8 (b3.k:Nat),b3.cl,b3.sq,.int .u8 (b3.ok:Nat),b3.key,b3.old,b3.val] 42))
   obtain ⟨⟨c0,c1,c2,c3,c4,c5,c6,c7,c8,c9,c10⟩,_⟩:=zcl hrow
   refine bodyPost_ret (v:=.agg #[.int .u8 1,.int .i64 (mfl X r 4 (p:Int) 3:Nat),.int .i64 (b1:Nat),.int .i64 (b2:Nat),.int .u8 (b3.k:Nat),b3.cl,b3.sq,.int .u8 (b3.ok:Nat),b3.key,b3.old,b3.val]) (by simp [results,Tryz.results63,go_sem,c0,c1,c2,c3,c4,c5,c6,c7,c8,c9,c10]) rfl ?_
   subst hq1 hq2 hq3
   exact ⟨rfl,hx⟩
  ·rw [zri hT (by rw [hB];exact he)]
   obtain ⟨E,hE⟩:∃E,(psE B).2.2.2=E:=⟨_,rfl⟩
   rw [hE] at he
   have hne:(E != 0)=true:=by simpa using he
   have HE:=qj hE
   clear hT hB he hE
   go_enter Tryz.func63,Tryz.ntmps63
   go_wp2_with fail
   rw [←hw0.1,←hw0.2]
   clear hw0
   refine (HO.out _ HE0.out).mono ?_
   rintro e w1 ⟨A,N,rfl,hb,hN,hx⟩
   have HB:=qj hb
   have HN:=qj hN
   have HX1:=qj hx
   have hrowT:=heap_alloc_new w1 (.cells #[.int .i64 (mfl X r 4 (p:Int) 0:Nat),.int .i64 (mfl X r 4 (p:Int) 1:Nat),.int .i64 (mfl X r 4 (p:Int) 2:Nat),.int .i64 (mfl X r 4 (p:Int) 3:Nat),.int .i64 (mfl X r 4 (p:Int) 4:Nat)] 44)
   have HRT:=qj hrowT
   have HXA:=qj ((Ext.refl w1).alloc (.cells #[.int .i64 (mfl X r 4 (p:Int) 0:Nat),.int .i64 (mfl X r 4 (p:Int) 1:Nat),.int .i64 (mfl X r 4 (p:Int) 2:Nat),.int .i64 (mfl X r 4 (p:Int) 3:Nat),.int .i64 (mfl X r 4 (p:Int) 4:Nat)] 44))
   have HX:Hid (Ext w (w1.alloc (.cells #[.int .i64 (mfl X r 4 (p:Int) 0:Nat),.int .i64 (mfl X r 4 (p:Int) 1:Nat),.int .i64 (mfl X r 4 (p:Int) 2:Nat),.int .i64 (mfl X r 4 (p:Int) 3:Nat),.int .i64 (mfl X r 4 (p:Int) 4:Nat)] 44))):=qj ((HE0.out.trans hx).trans HXA.out)
   have HROW:Hid ((w1.alloc (.cells #[.int .i64 (mfl X r 4 (p:Int) 0:Nat),.int .i64 (mfl X r 4 (p:Int) 1:Nat),.int .i64 (mfl X r 4 (p:Int) 2:Nat),.int .i64 (mfl X r 4 (p:Int) 3:Nat),.int .i64 (mfl X r 4 (p:Int) 4:Nat)] 44)).heap[b]?=some (.cells Zk.h 92 (0,0))):=qj (((hx.trans HXA.out).block _ (Array.getElem?_eq_some_iff.1 HT0.out).1).trans HT0.out)
   clear hb hN hx hrowT
   go_wp2_with fail
   refine (zhe A N N B _ (HL.out.ext HX.out) (HB.out.ext HXA.out) (by have:=HN.out;omega)).mono ?_
   rw [HE.out]
   rintro e w2 ⟨rfl,hx⟩
   generalize hq1:(psE B).1=b1 at *
   generalize hq2:(psE B).2.1=b2 at *
   generalize hq3:(psE B).2.2.1=b3 at *
   have hcT:=cell_of_row w2 w1.heap.size 3 _ _ _ ((hx.block _ (Array.getElem?_eq_some_iff.1 HRT.out).1).trans HRT.out)
   have hlT:w1.heap.size<w2.heap.size:=(Array.getElem?_eq_some_iff.1 ((hx.block _ (Array.getElem?_eq_some_iff.1 HRT.out).1).trans HRT.out)).1
   have hrow:=(hx.block _ (Array.getElem?_eq_some_iff.1 HROW.out).1).trans HROW.out
   obtain ⟨⟨c0,c1,c2,c3,c4,c5,c6,c7,c8,c9,c10⟩,f0,f1,f2,f3,f4,f5,f6,f7,f8,f9,f10⟩:=zcl hrow
   have hlb:=(Array.getElem?_eq_some_iff.1 hrow).1
   have HX:Hid (Ext w w2):=qj (HX.out.trans hx)
   have HROW:Hid (w2.heap[b]?=some (.cells Zk.h 92 (0,0))):=qj hrow
   clear hx hrow HB HN HX1 HRT HXA
   go_wp2_with fail
   have hrow:=zfe HROW.out (.int .u8 2) (.int .i64 0) (.int .i64 0) (.int .i64 0) (.int .u8 0) (.int .i64 0) (.int .i64 0) (.int .u8 0) (.string ⟨#[]⟩) (.string ⟨#[]⟩) (.string ⟨#[]⟩)
   have hx:=zfA HX.out HZ0.out.2 (.int .u8 2) (.int .i64 0) (.int .i64 0) (.int .i64 0) (.int .u8 0) (.int .i64 0) (.int .i64 0) (.int .u8 0) (.string ⟨#[]⟩) (.string ⟨#[]⟩) (.string ⟨#[]⟩)
   clear c0 c1 c2 c3 c4 c5 c6 c7 c8 c9 c10 f0 f1 f2 f3 f4 f5 f6 f7 f8 f9 f10
   generalize ((SW.mk w2 b [.int .u8 2,.int .i64 0,.int .i64 0,.int .i64 0,.int .u8 0,.int .i64 0,.int .i64 0,.int .u8 0,.string ⟨#[]⟩,.string ⟨#[]⟩,.string ⟨#[]⟩]:World))=V at hrow hx ⊢
   have hrow:=(Below.block (((Ext.refl V).alloc (.cells #[.int .i64 (b1:Nat),.int .i64 (b2:Nat)] 38)).alloc (.cells #[.int .u8 (b3.k:Nat),b3.cl,b3.sq,.int .u8 (b3.ok:Nat),b3.key,b3.old,b3.val] 42)) b (Array.getElem?_eq_some_iff.1 hrow).1).trans hrow
   have hx:=hx.trans (((Ext.refl V).alloc (.cells #[.int .i64 (b1:Nat),.int .i64 (b2:Nat)] 38)).alloc (.cells #[.int .u8 (b3.k:Nat),b3.cl,b3.sq,.int .u8 (b3.ok:Nat),b3.key,b3.old,b3.val] 42))
   obtain ⟨⟨c0,c1,c2,c3,c4,c5,c6,c7,c8,c9,c10⟩,_⟩:=zcl hrow
   refine bodyPost_ret (v:=.agg #[.int .u8 2,.int .i64 0,.int .i64 0,.int .i64 0,.int .u8 0,.int .i64 0,.int .i64 0,.int .u8 0,.string ⟨#[]⟩,.string ⟨#[]⟩,.string ⟨#[]⟩]) (by simp [results,Tryz.results63,go_sem,c0,c1,c2,c3,c4,c5,c6,c7,c8,c9,c10]) rfl ?_
   exact ⟨rfl,hx⟩
 ·rw [zsi (by rw [hT];exact h1),hT]
  have hne:((T:Int) != 1)=true:=by simpa using (show ¬(T:Int)=1 from by omega)
  clear hT hB h1
  ·go_enter Tryz.func63,Tryz.ntmps63
   go_wp2_with fail
   rw [←hw0.1,←hw0.2]
   clear hw0
   refine (HO.out _ HE0.out).mono ?_
   rintro e w1 ⟨A,N,rfl,hb,hN,hx⟩
   have HB:=qj hb
   have HN:=qj hN
   have HX1:=qj hx
   have hrowT:=heap_alloc_new w1 (.cells #[.int .i64 (mfl X r 4 (p:Int) 0:Nat),.int .i64 (mfl X r 4 (p:Int) 1:Nat),.int .i64 (mfl X r 4 (p:Int) 2:Nat),.int .i64 (mfl X r 4 (p:Int) 3:Nat),.int .i64 (mfl X r 4 (p:Int) 4:Nat)] 44)
   have HRT:=qj hrowT
   have HXA:=qj ((Ext.refl w1).alloc (.cells #[.int .i64 (mfl X r 4 (p:Int) 0:Nat),.int .i64 (mfl X r 4 (p:Int) 1:Nat),.int .i64 (mfl X r 4 (p:Int) 2:Nat),.int .i64 (mfl X r 4 (p:Int) 3:Nat),.int .i64 (mfl X r 4 (p:Int) 4:Nat)] 44))
   have HX:Hid (Ext w (w1.alloc (.cells #[.int .i64 (mfl X r 4 (p:Int) 0:Nat),.int .i64 (mfl X r 4 (p:Int) 1:Nat),.int .i64 (mfl X r 4 (p:Int) 2:Nat),.int .i64 (mfl X r 4 (p:Int) 3:Nat),.int .i64 (mfl X r 4 (p:Int) 4:Nat)] 44))):=qj ((HE0.out.trans hx).trans HXA.out)
   have HROW:Hid ((w1.alloc (.cells #[.int .i64 (mfl X r 4 (p:Int) 0:Nat),.int .i64 (mfl X r 4 (p:Int) 1:Nat),.int .i64 (mfl X r 4 (p:Int) 2:Nat),.int .i64 (mfl X r 4 (p:Int) 3:Nat),.int .i64 (mfl X r 4 (p:Int) 4:Nat)] 44)).heap[b]?=some (.cells Zk.h 92 (0,0))):=qj (((hx.trans HXA.out).block _ (Array.getElem?_eq_some_iff.1 HT0.out).1).trans HT0.out)
   have hrow:=(hx.block _ (Array.getElem?_eq_some_iff.1 HT0.out).1).trans HT0.out
   obtain ⟨⟨c0,c1,c2,c3,c4,c5,c6,c7,c8,c9,c10⟩,f0,f1,f2,f3,f4,f5,f6,f7,f8,f9,f10⟩:=zcl hrow
   have hlb:=(Array.getElem?_eq_some_iff.1 hrow).1
   have HX:=qj (HE0.out.trans hx)
   have HROW:=qj hrow
   clear hb hN hx hrowT hrow HB HN HX1 HRT HXA
   go_wp2_with fail
   have hrow:=zfe HROW.out (.int .u8 (T:Nat)) (.int .i64 0) (.int .i64 0) (.int .i64 0) (.int .u8 0) (.int .i64 0) (.int .i64 0) (.int .u8 0) (.string ⟨#[]⟩) (.string ⟨#[]⟩) (.string ⟨#[]⟩)
   have hx:=zfA HX.out HZ0.out.2 (.int .u8 (T:Nat)) (.int .i64 0) (.int .i64 0) (.int .i64 0) (.int .u8 0) (.int .i64 0) (.int .i64 0) (.int .u8 0) (.string ⟨#[]⟩) (.string ⟨#[]⟩) (.string ⟨#[]⟩)
   clear c0 c1 c2 c3 c4 c5 c6 c7 c8 c9 c10 f0 f1 f2 f3 f4 f5 f6 f7 f8 f9 f10
   generalize ((SW.mk w1 b [.int .u8 (T:Nat),.int .i64 0,.int .i64 0,.int .i64 0,.int .u8 0,.int .i64 0,.int .i64 0,.int .u8 0,.string ⟨#[]⟩,.string ⟨#[]⟩,.string ⟨#[]⟩]:World))=V at hrow hx ⊢
   have hrow:=(Below.block ((Ext.refl V).alloc (.cells #[.int .i64 (mfl X r 4 (p:Int) 0:Nat),.int .i64 (mfl X r 4 (p:Int) 1:Nat),.int .i64 (mfl X r 4 (p:Int) 2:Nat),.int .i64 (mfl X r 4 (p:Int) 3:Nat),.int .i64 (mfl X r 4 (p:Int) 4:Nat)] 44)) b (Array.getElem?_eq_some_iff.1 hrow).1).trans hrow
   have hx:=hx.trans ((Ext.refl V).alloc (.cells #[.int .i64 (mfl X r 4 (p:Int) 0:Nat),.int .i64 (mfl X r 4 (p:Int) 1:Nat),.int .i64 (mfl X r 4 (p:Int) 2:Nat),.int .i64 (mfl X r 4 (p:Int) 3:Nat),.int .i64 (mfl X r 4 (p:Int) 4:Nat)] 44))
   obtain ⟨⟨c0,c1,c2,c3,c4,c5,c6,c7,c8,c9,c10⟩,_⟩:=zcl hrow
   refine bodyPost_ret (v:=.agg #[.int .u8 (T:Nat),.int .i64 0,.int .i64 0,.int .i64 0,.int .u8 0,.int .i64 0,.int .i64 0,.int .u8 0,.string ⟨#[]⟩,.string ⟨#[]⟩,.string ⟨#[]⟩]) (by simp [results,Tryz.results63,go_sem,c0,c1,c2,c3,c4,c5,c6,c7,c8,c9,c10]) rfl ?_
   exact ⟨rfl,hx⟩
end
theorem zbB (g:Nat):∀(vs:List Value) (w:World) (o:Nat),w.setCells g o vs=setL w g o vs
 | [],_,_=>rfl
 | _ :: vs,_,o=>zbB g vs _ (o+1)
theorem zbZ {w:World} {g:Nat} {cs:Array Value} {t:TypeId} (h:w.heap[g]?=some (.cells cs t (0,0))) (o n:Nat) (hn:o+n≤cs.size):w.there g o n:=fun j hj=>by
 refine ⟨?_,frozen_of_row w g (o+j) _ _ h⟩
 rw [cell_of_row w g (o+j) _ _ _ h,Array.getElem?_eq_getElem (by omega)]
 rfl
theorem zbl {w:World} {g:Nat} {cs:Array Value} {t:TypeId} (h:w.heap[g]?=some (.cells cs t (0,0))) (o:Nat) (vs:List Value):(w.setCells g o vs).heap[g]?=some (.cells (setA cs o vs) t (0,0)):=by
 rw [zbB]
 exact zdL vs w o cs h
theorem zaC {w:World} {g k:Nat} {ob:Obj} (h:w.heap[k]?=some ob) (hk:k≠g) (o:Nat) (vs:List Value):(w.setCells g o vs).heap[k]?=some ob:=by
 rw [zbB]
 exact zbH h hk vs o
theorem zbm {a w:World} (h:Ext a w) {g:Nat} (hg:a.heap.size≤g) (o:Nat) (vs:List Value):Ext a (w.setCells g o vs):=by
 rw [zbB]
 exact zaK h hg vs o
theorem zgv {P:Program} {fn:Func} {tmps:Array Value} {w:World} {a b:Tmp} {t u:TypeId} (hr:fn.results=#[.cell a t,.cell b u]) {A B:Addr} {va vb:Value} (ha:tmps.getD a undef=.pointer (some A)) (hb:tmps.getD b undef=.pointer (some B))
 (h1:(loadVar t A).run P w=.ok va w) (h2:(loadVar u B).run P w=.ok vb w):(results fn tmps).run P w=.ok (.tuple #[va,vb]) w:=by
 rw [Array.getD_eq_getD_getElem?] at ha hb
 simp [results,hr,asAddr,ha,hb,h1,h2,Sem.run_bind]
section
variable {w W W':World} {g g1 g2 g3 g4:Nat} {rv tv zr zt:Array Value} {r:Int}
end
end Go.Proofs.YtdbpdhlecgoclaaGreatDoor
