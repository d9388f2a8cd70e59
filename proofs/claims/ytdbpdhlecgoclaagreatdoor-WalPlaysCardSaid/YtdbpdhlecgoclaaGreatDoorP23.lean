/-
  Over which frame the next put of a slot goes.
-/
import Derived.Test.YtdbpdhlecgoclaaGreatDoorP00
import Derived.Test.YtdbpdhlecgoclaaGreatDoorP22
namespace Go.Proofs.YtdbpdhlecgoclaaGreatDoor
set_option maxRecDepth 100000
set_option maxHeartbeats 6400000
open Go Go.RowKit
theorem zbg (w:World) (p:Rec) (f0 f1:CopL):zbj ((w.alloc (.cells p 90)).alloc (.cells (f0,f1) 93)) w.heap.size p∧TwoL ((w.alloc (.cells p 90)).alloc (.cells (f0,f1) 93)) (w.heap.size+1) f0 f1∧Ext w ((w.alloc (.cells p 90)).alloc (.cells (f0,f1) 93)):=by
 refine ⟨(zbj.new w p).ext ((Ext.refl _).alloc _),?_,((Ext.refl w).alloc _).alloc _⟩
 have h:=TwoL.new (w.alloc (.cells p 90)) f0 f1
 rw [World.size_alloc] at h
 exact h
theorem zul (p:Rec) (f0 f1:CopL) (i:Int) (w:World) (hp:p.st≤2) (h0:f0.st≤2) (h1:f1.st≤2) (hw:p.wh=0∨p.wh=1) (hk:whereL p f0 f1 i=0) :
 (cL 32 #[.agg p,.agg (f0,f1),.int .i64 i] w (.int .i64 1):Prop):=by
 have HWH:=qj (fun V=>zeq p f0 f1 i V hp h0 h1 hw)
 have HP:=qj (zbg w p f0 f1)
 have HNA:=qj (zdw p hw)
 have HO:=qj zca
 rw [hk] at HWH
 clear hp h0 h1 hw hk
 go_enter Tryz.func32,Tryz.ntmps32
 go_upto_region 1 with (fail)
 generalize ((w.alloc (.cells p 90)).alloc (.cells (f0,f1) 93))=W at *
 generalize w.heap.size+1=g1 at *
 generalize hg:w.heap.size=g at *
 have HG:=qj hg
 clear hg
 obtain ⟨c0,c1,c2,c3,c4⟩:=cr5 (HP.out.1)
 obtain ⟨N,hN,hsz⟩:=zaz
 have hld:=zar hN HP.out.2.1
 have HNN:=qj hN
 clear hN
 go_wp2_with fail
 refine (HWH.out W).mono ?_
 rintro e w1 ⟨rfl,hx⟩
 have HX:=qj (((HP.out.2.2.trans hx).alloc (.cells #[.int .i64 i,.int .u8 (stateL p f0 f1 i:Nat),.int .i64 (repX p f0 f1 i),.int .i64 (repY p f0 f1 i),.int .u8 ((repE p f0 f1 i).k:Int),.int .i64 (repE p f0 f1 i).cl,.int .i64 (repE p f0 f1 i).sq,.int .u8 ((repE p f0 f1 i).ok:Int),.string (repE p f0 f1 i).key,.string (repE p f0 f1 i).old,.string (repE p f0 f1 i).val] 115)))
 have HR:=qj ((HP.out.1.ext hx).ext ((Ext.refl w1).alloc (.cells #[.int .i64 i,.int .u8 (stateL p f0 f1 i:Nat),.int .i64 (repX p f0 f1 i),.int .i64 (repY p f0 f1 i),.int .u8 ((repE p f0 f1 i).k:Int),.int .i64 (repE p f0 f1 i).cl,.int .i64 (repE p f0 f1 i).sq,.int .u8 ((repE p f0 f1 i).ok:Int),.string (repE p f0 f1 i).key,.string (repE p f0 f1 i).old,.string (repE p f0 f1 i).val] 115)))
 clear hx hsz hld HNN c0 c1 c2 c3 c4
 go_upto_region 2 with (fail)
 generalize (w1.alloc (.cells #[.int .i64 i,.int .u8 (stateL p f0 f1 i:Nat),.int .i64 (repX p f0 f1 i),.int .i64 (repY p f0 f1 i),.int .u8 ((repE p f0 f1 i).k:Int),.int .i64 (repE p f0 f1 i).cl,.int .i64 (repE p f0 f1 i).sq,.int .u8 ((repE p f0 f1 i).ok:Int),.string (repE p f0 f1 i).key,.string (repE p f0 f1 i).old,.string (repE p f0 f1 i).val] 115))=w2 at *
 go_wp2_with fail
 refine (HO.out _ (by simp) _).mono ?_
 rintro e w3 ⟨rfl,rfl⟩
 go_wp2_with fail
 go_ret
 exact ⟨rfl,HX.out⟩
theorem zua (p:Rec) (f0 f1:CopL) (i:Int) (w:World) (hp:p.st≤2) (h0:f0.st≤2) (h1:f1.st≤2) (hw:p.wh=0∨p.wh=1) (hk:whereL p f0 f1 i=1) :
 (cL 32 #[.agg p,.agg (f0,f1),.int .i64 i] w (.int .i64 0):Prop):=by
 have HWH:=qj (fun V=>zeq p f0 f1 i V hp h0 h1 hw)
 have HP:=qj (zbg w p f0 f1)
 have HNA:=qj (zdw p hw)
 have HO:=qj zca
 rw [hk] at HWH
 clear hp h0 h1 hw hk
 go_enter Tryz.func32,Tryz.ntmps32
 go_upto_region 1 with (fail)
 generalize ((w.alloc (.cells p 90)).alloc (.cells (f0,f1) 93))=W at *
 generalize w.heap.size+1=g1 at *
 generalize hg:w.heap.size=g at *
 have HG:=qj hg
 clear hg
 obtain ⟨c0,c1,c2,c3,c4⟩:=cr5 (HP.out.1)
 obtain ⟨N,hN,hsz⟩:=zaz
 have hld:=zar hN HP.out.2.1
 have HNN:=qj hN
 clear hN
 go_wp2_with fail
 refine (HWH.out W).mono ?_
 rintro e w1 ⟨rfl,hx⟩
 have HX:=qj (((HP.out.2.2.trans hx).alloc (.cells #[.int .i64 i,.int .u8 (stateL p f0 f1 i:Nat),.int .i64 (repX p f0 f1 i),.int .i64 (repY p f0 f1 i),.int .u8 ((repE p f0 f1 i).k:Int),.int .i64 (repE p f0 f1 i).cl,.int .i64 (repE p f0 f1 i).sq,.int .u8 ((repE p f0 f1 i).ok:Int),.string (repE p f0 f1 i).key,.string (repE p f0 f1 i).old,.string (repE p f0 f1 i).val] 115)))
 have HR:=qj ((HP.out.1.ext hx).ext ((Ext.refl w1).alloc (.cells #[.int .i64 i,.int .u8 (stateL p f0 f1 i:Nat),.int .i64 (repX p f0 f1 i),.int .i64 (repY p f0 f1 i),.int .u8 ((repE p f0 f1 i).k:Int),.int .i64 (repE p f0 f1 i).cl,.int .i64 (repE p f0 f1 i).sq,.int .u8 ((repE p f0 f1 i).ok:Int),.string (repE p f0 f1 i).key,.string (repE p f0 f1 i).old,.string (repE p f0 f1 i).val] 115)))
 clear hx hsz hld HNN c0 c1 c2 c3 c4
 go_upto_region 2 with (fail)
 generalize (w1.alloc (.cells #[.int .i64 i,.int .u8 (stateL p f0 f1 i:Nat),.int .i64 (repX p f0 f1 i),.int .i64 (repY p f0 f1 i),.int .u8 ((repE p f0 f1 i).k:Int),.int .i64 (repE p f0 f1 i).cl,.int .i64 (repE p f0 f1 i).sq,.int .u8 ((repE p f0 f1 i).ok:Int),.string (repE p f0 f1 i).key,.string (repE p f0 f1 i).old,.string (repE p f0 f1 i).val] 115))=w2 at *
 go_wp2_with fail
 refine (HO.out _ (by simp) _).mono ?_
 rintro e w3 ⟨rfl,rfl⟩
 go_wp2_with fail
 go_ret
 exact ⟨rfl,HX.out⟩
theorem zsG (p:Rec) (f0 f1:CopL) (i:Int) (w:World) (hp:p.st≤2) (h0:f0.st≤2) (h1:f1.st≤2) (hw:p.wh=0∨p.wh=1) (hk:whereL p f0 f1 i=-1) (hn:namedL p=0):
 (cL 32 #[.agg p,.agg (f0,f1),.int .i64 i] w (.int .i64 1):Prop):=by
 have HWH:=qj (fun V=>zeq p f0 f1 i V hp h0 h1 hw)
 have HP:=qj (zbg w p f0 f1)
 have HNA:=qj (zdw p hw)
 have HO:=qj zca
 rw [hk] at HWH
 rw [hn] at HNA
 clear hp h0 h1 hw hk hn
 go_enter Tryz.func32,Tryz.ntmps32
 go_upto_region 1 with (fail)
 generalize ((w.alloc (.cells p 90)).alloc (.cells (f0,f1) 93))=W at *
 generalize w.heap.size+1=g1 at *
 generalize hg:w.heap.size=g at *
 have HG:=qj hg
 clear hg
 obtain ⟨c0,c1,c2,c3,c4⟩:=cr5 (HP.out.1)
 obtain ⟨N,hN,hsz⟩:=zaz
 have hld:=zar hN HP.out.2.1
 have HNN:=qj hN
 clear hN
 go_wp2_with fail
 refine (HWH.out W).mono ?_
 rintro e w1 ⟨rfl,hx⟩
 have HX:=qj (((HP.out.2.2.trans hx).alloc (.cells #[.int .i64 i,.int .u8 (stateL p f0 f1 i:Nat),.int .i64 (repX p f0 f1 i),.int .i64 (repY p f0 f1 i),.int .u8 ((repE p f0 f1 i).k:Int),.int .i64 (repE p f0 f1 i).cl,.int .i64 (repE p f0 f1 i).sq,.int .u8 ((repE p f0 f1 i).ok:Int),.string (repE p f0 f1 i).key,.string (repE p f0 f1 i).old,.string (repE p f0 f1 i).val] 115)))
 have HR:=qj ((HP.out.1.ext hx).ext ((Ext.refl w1).alloc (.cells #[.int .i64 i,.int .u8 (stateL p f0 f1 i:Nat),.int .i64 (repX p f0 f1 i),.int .i64 (repY p f0 f1 i),.int .u8 ((repE p f0 f1 i).k:Int),.int .i64 (repE p f0 f1 i).cl,.int .i64 (repE p f0 f1 i).sq,.int .u8 ((repE p f0 f1 i).ok:Int),.string (repE p f0 f1 i).key,.string (repE p f0 f1 i).old,.string (repE p f0 f1 i).val] 115)))
 clear hx hsz hld HNN c0 c1 c2 c3 c4
 go_upto_region 2 with (fail)
 generalize (w1.alloc (.cells #[.int .i64 i,.int .u8 (stateL p f0 f1 i:Nat),.int .i64 (repX p f0 f1 i),.int .i64 (repY p f0 f1 i),.int .u8 ((repE p f0 f1 i).k:Int),.int .i64 (repE p f0 f1 i).cl,.int .i64 (repE p f0 f1 i).sq,.int .u8 ((repE p f0 f1 i).ok:Int),.string (repE p f0 f1 i).key,.string (repE p f0 f1 i).old,.string (repE p f0 f1 i).val] 115))=w2 at *
 obtain ⟨c0,c1,c2,c3,c4⟩:=cr5 (HR.out)
 go_wp2_with fail
 refine (HNA.out _).mono ?_
 rintro e w3 ⟨rfl,hx⟩
 have HX:=qj (HX.out.trans hx)
 clear hx
 go_wp2_with fail
 refine (HO.out _ (by simp) _).mono ?_
 rintro e w4 ⟨rfl,rfl⟩
 go_wp2_with fail
 go_ret
 exact ⟨rfl,HX.out⟩
theorem zso (p:Rec) (f0 f1:CopL) (i:Int) (w:World) (hp:p.st≤2) (h0:f0.st≤2) (h1:f1.st≤2) (hw:p.wh=0∨p.wh=1) (hk:whereL p f0 f1 i=-1) (hn:namedL p=1):
 (cL 32 #[.agg p,.agg (f0,f1),.int .i64 i] w (.int .i64 0):Prop):=by
 have HWH:=qj (fun V=>zeq p f0 f1 i V hp h0 h1 hw)
 have HP:=qj (zbg w p f0 f1)
 have HNA:=qj (zdw p hw)
 have HO:=qj zca
 rw [hk] at HWH
 rw [hn] at HNA
 clear hp h0 h1 hw hk hn
 go_enter Tryz.func32,Tryz.ntmps32
 go_upto_region 1 with (fail)
 generalize ((w.alloc (.cells p 90)).alloc (.cells (f0,f1) 93))=W at *
 generalize w.heap.size+1=g1 at *
 generalize hg:w.heap.size=g at *
 have HG:=qj hg
 clear hg
 obtain ⟨c0,c1,c2,c3,c4⟩:=cr5 (HP.out.1)
 obtain ⟨N,hN,hsz⟩:=zaz
 have hld:=zar hN HP.out.2.1
 have HNN:=qj hN
 clear hN
 go_wp2_with fail
 refine (HWH.out W).mono ?_
 rintro e w1 ⟨rfl,hx⟩
 have HX:=qj (((HP.out.2.2.trans hx).alloc (.cells #[.int .i64 i,.int .u8 (stateL p f0 f1 i:Nat),.int .i64 (repX p f0 f1 i),.int .i64 (repY p f0 f1 i),.int .u8 ((repE p f0 f1 i).k:Int),.int .i64 (repE p f0 f1 i).cl,.int .i64 (repE p f0 f1 i).sq,.int .u8 ((repE p f0 f1 i).ok:Int),.string (repE p f0 f1 i).key,.string (repE p f0 f1 i).old,.string (repE p f0 f1 i).val] 115)))
 have HR:=qj ((HP.out.1.ext hx).ext ((Ext.refl w1).alloc (.cells #[.int .i64 i,.int .u8 (stateL p f0 f1 i:Nat),.int .i64 (repX p f0 f1 i),.int .i64 (repY p f0 f1 i),.int .u8 ((repE p f0 f1 i).k:Int),.int .i64 (repE p f0 f1 i).cl,.int .i64 (repE p f0 f1 i).sq,.int .u8 ((repE p f0 f1 i).ok:Int),.string (repE p f0 f1 i).key,.string (repE p f0 f1 i).old,.string (repE p f0 f1 i).val] 115)))
 clear hx hsz hld HNN c0 c1 c2 c3 c4
 go_upto_region 2 with (fail)
 generalize (w1.alloc (.cells #[.int .i64 i,.int .u8 (stateL p f0 f1 i:Nat),.int .i64 (repX p f0 f1 i),.int .i64 (repY p f0 f1 i),.int .u8 ((repE p f0 f1 i).k:Int),.int .i64 (repE p f0 f1 i).cl,.int .i64 (repE p f0 f1 i).sq,.int .u8 ((repE p f0 f1 i).ok:Int),.string (repE p f0 f1 i).key,.string (repE p f0 f1 i).old,.string (repE p f0 f1 i).val] 115))=w2 at *
 obtain ⟨c0,c1,c2,c3,c4⟩:=cr5 (HR.out)
 go_wp2_with fail
 refine (HNA.out _).mono ?_
 rintro e w3 ⟨rfl,hx⟩
 have HX:=qj (HX.out.trans hx)
 clear hx
 go_wp2_with fail
 refine (HO.out _ (by simp) _).mono ?_
 rintro e w4 ⟨rfl,rfl⟩
 go_wp2_with fail
 go_ret
 exact ⟨rfl,HX.out⟩
theorem ztC (p:Rec) (f0 f1:CopL) (i:Int) (w:World) (hp:p.st≤2) (h0:f0.st≤2) (h1:f1.st≤2) (hw:p.wh=0∨p.wh=1) (hk:whereL p f0 f1 i=-1) (hn:namedL p=-1):
 (cL 32 #[.agg p,.agg (f0,f1),.int .i64 i] w (.int .i64 0):Prop):=by
 have HWH:=qj (fun V=>zeq p f0 f1 i V hp h0 h1 hw)
 have HP:=qj (zbg w p f0 f1)
 have HNA:=qj (zdw p hw)
 have HO:=qj zca
 rw [hk] at HWH
 rw [hn] at HNA
 clear hp h0 h1 hw hk hn
 go_enter Tryz.func32,Tryz.ntmps32
 go_upto_region 1 with (fail)
 generalize ((w.alloc (.cells p 90)).alloc (.cells (f0,f1) 93))=W at *
 generalize w.heap.size+1=g1 at *
 generalize hg:w.heap.size=g at *
 have HG:=qj hg
 clear hg
 obtain ⟨c0,c1,c2,c3,c4⟩:=cr5 (HP.out.1)
 obtain ⟨N,hN,hsz⟩:=zaz
 have hld:=zar hN HP.out.2.1
 have HNN:=qj hN
 clear hN
 go_wp2_with fail
 refine (HWH.out W).mono ?_
 rintro e w1 ⟨rfl,hx⟩
 have HX:=qj (((HP.out.2.2.trans hx).alloc (.cells #[.int .i64 i,.int .u8 (stateL p f0 f1 i:Nat),.int .i64 (repX p f0 f1 i),.int .i64 (repY p f0 f1 i),.int .u8 ((repE p f0 f1 i).k:Int),.int .i64 (repE p f0 f1 i).cl,.int .i64 (repE p f0 f1 i).sq,.int .u8 ((repE p f0 f1 i).ok:Int),.string (repE p f0 f1 i).key,.string (repE p f0 f1 i).old,.string (repE p f0 f1 i).val] 115)))
 have HR:=qj ((HP.out.1.ext hx).ext ((Ext.refl w1).alloc (.cells #[.int .i64 i,.int .u8 (stateL p f0 f1 i:Nat),.int .i64 (repX p f0 f1 i),.int .i64 (repY p f0 f1 i),.int .u8 ((repE p f0 f1 i).k:Int),.int .i64 (repE p f0 f1 i).cl,.int .i64 (repE p f0 f1 i).sq,.int .u8 ((repE p f0 f1 i).ok:Int),.string (repE p f0 f1 i).key,.string (repE p f0 f1 i).old,.string (repE p f0 f1 i).val] 115)))
 clear hx hsz hld HNN c0 c1 c2 c3 c4
 go_upto_region 2 with (fail)
 generalize (w1.alloc (.cells #[.int .i64 i,.int .u8 (stateL p f0 f1 i:Nat),.int .i64 (repX p f0 f1 i),.int .i64 (repY p f0 f1 i),.int .u8 ((repE p f0 f1 i).k:Int),.int .i64 (repE p f0 f1 i).cl,.int .i64 (repE p f0 f1 i).sq,.int .u8 ((repE p f0 f1 i).ok:Int),.string (repE p f0 f1 i).key,.string (repE p f0 f1 i).old,.string (repE p f0 f1 i).val] 115))=w2 at *
 obtain ⟨c0,c1,c2,c3,c4⟩:=cr5 (HR.out)
 go_wp2_with fail
 refine (HNA.out _).mono ?_
 rintro e w3 ⟨rfl,hx⟩
 have HX:=qj (HX.out.trans hx)
 clear hx
 go_wp2_with fail
 go_ret
 exact ⟨rfl,HX.out⟩
theorem zty (p:Rec) (f0 f1:CopL) (i:Int) (w:World) (hp:p.st≤2) (h0:f0.st≤2) (h1:f1.st≤2) (hw:p.wh=0∨p.wh=1) :
 (cL 32 #[.agg p,.agg (f0,f1),.int .i64 i] w (.int .i64 (nextL p f0 f1 i)):Prop):=by
 rcases zdm (p:=p) (f0:=f0) (f1:=f1) (i:=i) with h | ⟨h,_⟩ | ⟨h,_⟩
 ·by_cases hs:p.st=1
  ·have hn:namedL p=p.wh:=if_pos hs
   rcases hw with hz | hz
   ·rw [show nextL p f0 f1 i=1 from by unfold nextL;rw [h,if_neg (by omega),if_pos ⟨hs,hz⟩]]
    exact zsG p f0 f1 i w hp h0 h1 (.inl hz) h (hn.trans hz)
   ·rw [show nextL p f0 f1 i=0 from by unfold nextL;rw [h,if_neg (by omega),if_neg (by omega)]]
    exact zso p f0 f1 i w hp h0 h1 (.inr hz) h (hn.trans hz)
  ·rw [show nextL p f0 f1 i=0 from by unfold nextL;rw [h,if_neg (by omega),if_neg (by omega)]]
   exact ztC p f0 f1 i w hp h0 h1 hw h (if_neg hs)
 ·rw [show nextL p f0 f1 i=1 from by unfold nextL;rw [h];rfl]
  exact zul p f0 f1 i w hp h0 h1 hw h
 ·rw [show nextL p f0 f1 i=0 from by unfold nextL;rw [h];rfl]
  exact zua p f0 f1 i w hp h0 h1 hw h
def gtB (x y a b:Int):Bool:=decide (gtL x y a b)
theorem zep (x y a b:Int) (w:World):(cL 139 #[.agg #[x,y],.agg #[a,b]] w (.bool (gtB x y a b)):Prop):=by
 have hx:=((Ext.refl w).alloc (.cells #[x,y] 38)).alloc (.cells #[a,b] 38)
 have h0:=zaa ((Ext.refl _).alloc (.cells #[a,b] 38)) (heap_alloc_new w (.cells #[x,y] 38))
 have h1:=heap_alloc_new (w.alloc (.cells #[x,y] 38)) (.cells #[a,b] 38)
 rw [World.size_alloc] at h1
 obtain ⟨c0,c1⟩:=zaM h0
 obtain ⟨d0,d1⟩:=zaM h1
 have HX:=qj hx
 by_cases e:x=a
 ·have HQ:Hid (gtB x y a b=decide (b<y)):=qj (by unfold gtB;exact decide_eq_decide.2 (by unfold gtL;omega))
  rw [HQ.out]
  subst e
  have ee:(x == x)=true:=by simp
  clear hx h0 h1
  go_enter Tryz.func139,Tryz.ntmps139
  go_wp2_with fail
  go_ret
  exact ⟨rfl,HX.out⟩
 ·have HQ:Hid (gtB x y a b=decide (a<x)):=qj (by unfold gtB;exact decide_eq_decide.2 (by unfold gtL;omega))
  rw [HQ.out]
  have ee:(x == a)=false:=by simpa using e
  clear hx h0 h1 e
  go_enter Tryz.func139,Tryz.ntmps139
  go_wp2_with fail
  go_ret
  exact ⟨rfl,HX.out⟩
theorem zqW (c:CopL) (i:Int) (w:World):(cL 138 #[.agg c,.int .i64 i] w (.bool (isB c i)):Prop):=by
 have hr:=heap_alloc_new w (.cells c 92)
 have c0:=cell_of_row _ _ 0 _ _ _ hr
 have c1:=cell_of_row _ _ 1 _ _ _ hr
 have HX:=qj ((Ext.refl w).alloc (.cells c 92))
 obtain ⟨b,hb⟩:∃b,((c.st:Int) == 1)=b:=⟨_,rfl⟩
 have HQ:Hid (isB c i=(b && c.ix == i)):=qj (by unfold isB;rw [hb])
 rw [HQ.out]
 clear hr
 go_enter Tryz.func138,Tryz.ntmps138
 cases b with
 | true =>
  go_wp2_with fail
  go_ret
  exact ⟨rfl,HX.out⟩
 | false =>
  go_wp2_with fail
  go_ret
  exact ⟨rfl,HX.out⟩
theorem zpa (f0 f1:CopL) (w:World):(cL 140 #[.agg (f0,f1),.int .i64 0] w (.int .i64 (if gtB f1.bx f1.yb f0.bx f0.yb=true then 1 else 0)):Prop):=by
 have HX:=qj ((Ext.refl w).alloc (.cells (f0,f1) 93))
 have HT:=qj (TwoL.new w f0 f1)
 have HA:=qj (fun V=>zep f1.bx f1.yb f0.bx f0.yb V)
 generalize gtB f1.bx f1.yb f0.bx f0.yb=q at *
 go_enter Tryz.func140,Tryz.ntmps140
 go_upto_region 1 with (fail)
 generalize (w.alloc (.cells (f0,f1) 93))=W at *
 generalize w.heap.size=g at *
 have hxd:Ext W W.drew:=(Ext.refl W).drew
 have HT:=qj (HT.out.ext hxd)
 have HX:=qj (HX.out.trans hxd)
 obtain ⟨_,_,x2,x3,_⟩:=HT.out.first
 obtain ⟨_,_,y2,y3,_⟩:=HT.out.second
 have HS:=qj (And.intro x2 (And.intro x3 (And.intro y2 y3)))
 have hw:IntKind.i64.wrap (1-0)=1:=by decide
 have hw2:IntKind.i64.wrap 1=1:=by decide
 clear x2 x3 y2 y3 hxd
 go_wp2_with fail
 go_region_held3 (fun w'=>w'.cell? (aD g 2)=some (.int .i64 f0.bx)∧w'.cell? (aD g 3)=some (.int .i64 f0.yb)∧w'.cell? (aD g 13)=some (.int .i64 f1.bx)∧w'.cell? (aD g 14)=some (.int .i64 f1.yb))
  (first | with_reducible exact HS.out | exact ⟨zaq HX3.out HS.out.1,zaq HX3.out HS.out.2.1,zaq HX3.out HS.out.2.2.1,zaq HX3.out HS.out.2.2.2⟩)
  (first | (go_at_call 139;((with_reducible refine (HA.out _).mono ?_);rintro e w3 ⟨rfl,hx⟩;have HX3:=qj hx;clear hx)))
 have HX:=qj (HX.out.trans HX3.out)
 cases q with
 | true =>
  go_wp2_with fail
  go_ret
  exact ⟨rfl,HX.out⟩
 | false =>
  go_wp2_with fail
  go_ret
  exact ⟨rfl,HX.out⟩
theorem zoJ (f0 f1:CopL) (w:World):(cL 140 #[.agg (f0,f1),.int .i64 1] w (.int .i64 (if gtB f0.bx f0.yb f1.bx f1.yb=true then 0 else 1)):Prop):=by
 have HX:=qj ((Ext.refl w).alloc (.cells (f0,f1) 93))
 have HT:=qj (TwoL.new w f0 f1)
 have HA:=qj (fun V=>zep f0.bx f0.yb f1.bx f1.yb V)
 generalize gtB f0.bx f0.yb f1.bx f1.yb=q at *
 go_enter Tryz.func140,Tryz.ntmps140
 go_upto_region 1 with (fail)
 generalize (w.alloc (.cells (f0,f1) 93))=W at *
 generalize w.heap.size=g at *
 have hxd:Ext W W.drew:=(Ext.refl W).drew
 have HT:=qj (HT.out.ext hxd)
 have HX:=qj (HX.out.trans hxd)
 obtain ⟨_,_,x2,x3,_⟩:=HT.out.first
 obtain ⟨_,_,y2,y3,_⟩:=HT.out.second
 have HS:=qj (And.intro x2 (And.intro x3 (And.intro y2 y3)))
 have hw:IntKind.i64.wrap (1-1)=0:=by decide
 have hw2:IntKind.i64.wrap 0=0:=by decide
 clear x2 x3 y2 y3 hxd
 go_wp2_with fail
 go_region_held3 (fun w'=>w'.cell? (aD g 2)=some (.int .i64 f0.bx)∧w'.cell? (aD g 3)=some (.int .i64 f0.yb)∧w'.cell? (aD g 13)=some (.int .i64 f1.bx)∧w'.cell? (aD g 14)=some (.int .i64 f1.yb))
  (first | with_reducible exact HS.out | exact ⟨zaq HX3.out HS.out.1,zaq HX3.out HS.out.2.1,zaq HX3.out HS.out.2.2.1,zaq HX3.out HS.out.2.2.2⟩)
  (first | (go_at_call 139;((with_reducible refine (HA.out _).mono ?_);rintro e w3 ⟨rfl,hx⟩;have HX3:=qj hx;clear hx)))
 have HX:=qj (HX.out.trans HX3.out)
 cases q with
 | true =>
  go_wp2_with fail
  go_ret
  exact ⟨rfl,HX.out⟩
 | false =>
  go_wp2_with fail
  go_ret
  exact ⟨rfl,HX.out⟩
theorem zhN (p:Rec) (f0 f1:CopL) (i:Int) (w:World):(cL 141 #[.agg p,.agg (f0,f1),.int .i64 i] w (.bool (covB p f0 f1 i)):Prop):=by
 have HP:=qj (zbg w p f0 f1)
 obtain ⟨b0,h0⟩:∃b,((p.st:Int) == 1)=b:=⟨_,rfl⟩
 obtain ⟨b1,h1⟩:∃b,((f0.st:Int) == 1)=b:=⟨_,rfl⟩
 obtain ⟨b2,h2⟩:∃b,((f1.st:Int) == 1)=b:=⟨_,rfl⟩
 obtain ⟨q0,k0⟩:∃b,decide (i<p.ix)=b:=⟨_,rfl⟩
 obtain ⟨q1,k1⟩:∃b,decide (i<f0.ix)=b:=⟨_,rfl⟩
 obtain ⟨q2,k2⟩:∃b,decide (i<f1.ix)=b:=⟨_,rfl⟩
 have HQ:Hid (covB p f0 f1 i=(b0 && q0 || (b1 && q1 || b2 && q2))):=qj (by unfold covB zdA;rw [h0,h1,h2,k0,k1,k2])
 rw [HQ.out]
 go_enter Tryz.func141,Tryz.ntmps141
 go_upto_region 1 with (fail)
 generalize ((w.alloc (.cells p 90)).alloc (.cells (f0,f1) 93))=W at *
 generalize w.heap.size+1=g1 at *
 generalize w.heap.size=g at *
 obtain ⟨c0,c1,_⟩:=HP.out.1.cells
 obtain ⟨x0,x1,_⟩:=HP.out.2.1.first
 obtain ⟨y0,y1,_⟩:=HP.out.2.1.second
 have HX:=qj HP.out.2.2
 clear HP
 cases b0 <;> cases q0 <;> cases b1 <;> cases q1 <;> cases b2
 all_goals
  go_wp2_with fail
  go_ret
  exact ⟨by first | rfl | simp [k2],HX.out⟩
def whB (pg a b r0 r1 wo h0 h1 no:Bool):Int :=
 if pg=true then (if (a && !r0)=true∧(b && !r1)=true then (if wo=true then (if h1=true then 0 else 1) else (if h0=true then 1 else 0)) else if (a && !r0)=true then 0 else if (b && !r1)=true then 1 else -1)
 else if no=true then -1 else if a=true∧b=true then (if h0=true then 1 else 0) else if a=true then 0 else if b=true then 1 else -1
theorem zuk (p:Rec) (f0 f1:CopL) (i:Int) (_:p.wh=0∨p.wh=1) :
 whereL p f0 f1 i=whB (isR p i) (isB f0 i) (isB f1 i) (gtB p.bx p.yb f0.bx f0.yb) (gtB p.bx p.yb f1.bx f1.yb) (decide (p.wh=1)) (gtB f1.bx f1.yb f0.bx f0.yb) (gtB f0.bx f0.yb f1.bx f1.yb) (covB p f0 f1 i || (decide (p.st=2) && (decide (f0.st=2) || decide (f1.st=2)))):=by
 have k0:zct p f0 i↔(isB f0 i && !gtB p.bx p.yb f0.bx f0.yb)=true:=by unfold zct;rw [Bool.and_eq_true,zen,Bool.not_eq_true',gtB,decide_eq_false_iff_not]
 have k1:zct p f1 i↔(isB f1 i && !gtB p.bx p.yb f1.bx f1.yb)=true:=by unfold zct;rw [Bool.and_eq_true,zen,Bool.not_eq_true',gtB,decide_eq_false_iff_not]
 have kn:(beyL p f0 f1 i∨p.st=2∧badL f0 f1)↔(covB p f0 f1 i || (decide (p.st=2) && (decide (f0.st=2) || decide (f1.st=2))))=true:=by
  rw [Bool.or_eq_true,zdM,Bool.and_eq_true,Bool.or_eq_true,decide_eq_true_iff,decide_eq_true_iff,decide_eq_true_iff]
  rfl
 have g0:gtL f1.bx f1.yb f0.bx f0.yb↔gtB f1.bx f1.yb f0.bx f0.yb=true:=decide_eq_true_iff.symm
 have g1:gtL f0.bx f0.yb f1.bx f1.yb↔gtB f0.bx f0.yb f1.bx f1.yb=true:=decide_eq_true_iff.symm
 unfold whereL whB zco
 simp only [k0,k1,kn,g0,g1,←zen,←zgI,decide_eq_true_iff]
 generalize (isB f0 i && !gtB p.bx p.yb f0.bx f0.yb)=a
 generalize (isB f1 i && !gtB p.bx p.yb f1.bx f1.yb)=b
 generalize isR p i=c
 generalize gtB f0.bx f0.yb f1.bx f1.yb=d
 generalize gtB f1.bx f1.yb f0.bx f0.yb=e
 cases a <;> cases b <;> cases c <;> cases d <;> cases e <;> simp
theorem znm {w:World} {g1:Nat} {f0 f1:CopL} (h:TwoL w g1 f0 f1):(CW.mk w g1 (f0,f1):Prop) :=
 ⟨cell_of_row w g1 0 _ _ _ h,cell_of_row w g1 1 _ _ _ h,cell_of_row w g1 2 _ _ _ h,cell_of_row w g1 3 _ _ _ h,cell_of_row w g1 4 _ _ _ h,cell_of_row w g1 5 _ _ _ h,cell_of_row w g1 6 _ _ _ h,cell_of_row w g1 7 _ _ _ h,cell_of_row w g1 8 _ _ _ h,cell_of_row w g1 9 _ _ _ h,cell_of_row w g1 10 _ _ _ h,cell_of_row w g1 11 _ _ _ h,cell_of_row w g1 12 _ _ _ h,cell_of_row w g1 13 _ _ _ h,cell_of_row w g1 14 _ _ _ h,cell_of_row w g1 15 _ _ _ h,cell_of_row w g1 16 _ _ _ h,cell_of_row w g1 17 _ _ _ h,cell_of_row w g1 18 _ _ _ h,cell_of_row w g1 19 _ _ _ h,cell_of_row w g1 20 _ _ _ h,cell_of_row w g1 21 _ _ _ h⟩
theorem ziO (p:Rec) (f0 f1:CopL) (i:Int) (w:World) (hw:p.wh=0∨p.wh=1) :
 (cL 83 #[.agg p,.agg (f0,f1),.int .i64 i] w (.int .i64 (whereL p f0 f1 i)):Prop):=by
 have HP:=qj (zbg w p f0 f1)
 have HOF0:=qj (fun V=>zqW f0 i V)
 have HOF1:=qj (fun V=>zqW f1 i V)
 have HA0:=qj (fun V=>zep p.bx p.yb f0.bx f0.yb V)
 have HA1:=qj (fun V=>zep p.bx p.yb f1.bx f1.yb V)
 have HH0:=qj (fun V=>zpa f0 f1 V)
 have HH1:=qj (fun V=>zoJ f0 f1 V)
 have HB:=qj (fun V=>zhN p f0 f1 i V)
 rw [zuk p f0 f1 i hw]
 have hm:((p.wh).tmod 2 != 0)=decide (p.wh=1):=by rcases hw with h | h <;> rw [h] <;> rfl
 have hm2:(p.wh%2 != 0)=decide (p.wh=1):=by rcases hw with h | h <;> rw [h] <;> rfl
 have hwb:0≤p.wh∧p.wh≤1:=by omega
 obtain ⟨hw0,hw1⟩:=hwb
 obtain ⟨sp,hsp⟩:∃b,((p.st:Int) == 1)=b:=⟨_,rfl⟩
 obtain ⟨ip,hip⟩:∃b,(p.ix == i)=b:=⟨_,rfl⟩
 obtain ⟨bp,hbp⟩:∃b,((p.st:Int) == 2)=b:=⟨_,rfl⟩
 obtain ⟨bf,hbf⟩:∃b,((f0.st:Int) == 2)=b:=⟨_,rfl⟩
 obtain ⟨bg,hbg⟩:∃b,((f1.st:Int) == 2)=b:=⟨_,rfl⟩
 have eR:isR p i=(sp && ip):=by unfold isR;rw [hsp,hip]
 have eN:(decide (p.st=2) && (decide (f0.st=2) || decide (f1.st=2)))=(bp && (bf || bg)):=by
  rw [←hbp,←hbf,←hbg]
  have e:∀n:Nat,((n:Int) == 2)=decide (n=2):=fun n=>by rw [Bool.eq_iff_iff,beq_iff_eq,decide_eq_true_iff];omega
  rw [e,e,e]
 rw [eR,eN]
 generalize covB p f0 f1 i=cv at *
 generalize isB f0 i=a at *
 generalize isB f1 i=b at *
 generalize gtB p.bx p.yb f0.bx f0.yb=r0 at *
 generalize gtB p.bx p.yb f1.bx f1.yb=r1 at *
 generalize gtB f1.bx f1.yb f0.bx f0.yb=h0 at *
 generalize gtB f0.bx f0.yb f1.bx f1.yb=h1 at *
 generalize decide (p.wh=1)=wo at *
 obtain ⟨no,hno⟩:∃no,(cv || (bp && (bf || bg)))=no:=⟨_,rfl⟩
 rw [hno]
 have HNO:=qj hno
 clear hw eR eN hno
 go_enter Tryz.func83,Tryz.ntmps83
 go_upto_region 1 with (fail)
 generalize ((w.alloc (.cells p 90)).alloc (.cells (f0,f1) 93))=W at *
 generalize w.heap.size+1=g1 at *
 generalize w.heap.size=g at *
 have HR:=qj HP.out.1
 have HT:=qj HP.out.2.1
 have HX:=qj HP.out.2.2
 have hxd:Ext W W.drew:=(Ext.refl W).drew
 have HS:=qj (znm (HT.out.ext hxd))
 have HTd:=qj (HT.out.ext hxd)
 have HK:=qj (Ext.refl W.drew)
 clear HP
 go_wp2_with fail
 go_region_held3 (fun w'=>(CW.mk w' g1 (f0,f1):Prop))
  (first | with_reducible exact HS.out | exact znm (HTd.out.ext HK.out))
  (first
   | (go_at_call 138;((with_reducible refine (HOF0.out _).mono ?_);rintro e w3 ⟨rfl,hx⟩;have HK:=qj (HK.out.trans hx);clear hx))
   | (go_at_call 138;((with_reducible refine (HOF1.out _).mono ?_);rintro e w4 ⟨rfl,hx⟩;have HK:=qj (HK.out.trans hx);clear hx)))
 have HX:=qj ((HX.out.trans hxd).trans HK.out)
 have HR:=qj ((HR.out.ext hxd).ext HK.out)
 have HT:=qj (HTd.out.ext HK.out)
 clear hxd HS HTd HK
 obtain ⟨c0,c1,c2,c3,c4⟩:=HR.out.cells
 obtain ⟨x0,_,x2,x3,_⟩:=HT.out.first
 obtain ⟨y0,_,y2,y3,_⟩:=HT.out.second
 obtain ⟨N,hN,hsz⟩:=zaz
 have HN:=qj hN
 have hld:=zar hN HT.out
 clear hN
 by_cases hpg:sp=true∧ip=true
 ·obtain ⟨rfl,rfl⟩:=hpg
  clear HB HOF0 HOF1 hbp hbf hbg
  have hc:(a=false∧b=false)∨(a=false∧b=true∧r1=true)∨(a=false∧b=true∧r1=false)∨(a=true∧r0=true∧b=false)∨(a=true∧r0=true∧b=true∧r1=true)∨(a=true∧r0=true∧b=true∧r1=false)∨(a=true∧r0=false∧b=false)∨(a=true∧r0=false∧b=true∧r1=true)∨(a=true∧r0=false∧b=true∧r1=false∧wo=true)∨(a=true∧r0=false∧b=true∧r1=false∧wo=false):=by cases a <;> cases r0 <;> cases b <;> cases r1 <;> cases wo <;> simp
  rcases hc with ⟨rfl,rfl⟩ | ⟨rfl,rfl,rfl⟩ | ⟨rfl,rfl,rfl⟩ | ⟨rfl,rfl,rfl⟩ | ⟨rfl,rfl,rfl,rfl⟩ | ⟨rfl,rfl,rfl,rfl⟩ | ⟨rfl,rfl,rfl⟩ | ⟨rfl,rfl,rfl,rfl⟩ | ⟨rfl,rfl,rfl,rfl,rfl⟩ | ⟨rfl,rfl,rfl,rfl,rfl⟩
  all_goals
   go_wp2_with fail
   try
    with_reducible refine (HA0.out _).mono ?_
    rintro e w9 ⟨rfl,hx⟩
    have HX:=qj (HX.out.trans hx)
    have HR:=qj (HR.out.ext hx)
    have HT:=qj (HT.out.ext hx)
    clear hx c0 c1 c2 c3 c4 x0 x2 x3 y0 y2 y3 hld
    obtain ⟨c0,c1,c2,c3,c4⟩:=HR.out.cells
    obtain ⟨x0,_,x2,x3,_⟩:=HT.out.first
    obtain ⟨y0,_,y2,y3,_⟩:=HT.out.second
    have hld:=zar HN.out HT.out
    go_wp2_with fail
   try
    with_reducible refine (HA1.out _).mono ?_
    rintro e w9 ⟨rfl,hx⟩
    have HX:=qj (HX.out.trans hx)
    have HR:=qj (HR.out.ext hx)
    have HT:=qj (HT.out.ext hx)
    clear hx c0 c1 c2 c3 c4 x0 x2 x3 y0 y2 y3 hld
    obtain ⟨c0,c1,c2,c3,c4⟩:=HR.out.cells
    obtain ⟨x0,_,x2,x3,_⟩:=HT.out.first
    obtain ⟨y0,_,y2,y3,_⟩:=HT.out.second
    have hld:=zar HN.out HT.out
    go_wp2_with fail
   try
    with_reducible refine (HH0.out _).mono ?_
    rintro e w9 ⟨rfl,hx⟩
    have HX:=qj (HX.out.trans hx)
    have HR:=qj (HR.out.ext hx)
    have HT:=qj (HT.out.ext hx)
    clear hx c0 c1 c2 c3 c4 x0 x2 x3 y0 y2 y3 hld
    obtain ⟨c0,c1,c2,c3,c4⟩:=HR.out.cells
    obtain ⟨x0,_,x2,x3,_⟩:=HT.out.first
    obtain ⟨y0,_,y2,y3,_⟩:=HT.out.second
    have hld:=zar HN.out HT.out
    go_wp2_with fail
   try
    with_reducible refine (HH1.out _).mono ?_
    rintro e w9 ⟨rfl,hx⟩
    have HX:=qj (HX.out.trans hx)
    have HR:=qj (HR.out.ext hx)
    have HT:=qj (HT.out.ext hx)
    clear hx c0 c1 c2 c3 c4 x0 x2 x3 y0 y2 y3 hld
    obtain ⟨c0,c1,c2,c3,c4⟩:=HR.out.cells
    obtain ⟨x0,_,x2,x3,_⟩:=HT.out.first
    obtain ⟨y0,_,y2,y3,_⟩:=HT.out.second
    have hld:=zar HN.out HT.out
    go_wp2_with fail
   all_goals
    go_ret
    exact ⟨by simp [whB],HX.out⟩
 ·have hsi:sp=false∨sp=true∧ip=false:=by cases sp <;> cases ip <;> simp at hpg ⊢
  clear hpg HA0 HA1 HH1 HOF0 HOF1 hm hm2
  have hno:no=true∧(cv=true∨cv=false∧bp=true∧bf=true∨cv=false∧bp=true∧bf=false∧bg=true)∨no=false∧cv=false∧(bp=false∨bp=true∧bf=false∧bg=false):=by rw [←HNO.out];cases cv <;> cases bp <;> cases bf <;> cases bg <;> simp
  clear HNO
  rcases hno with ⟨rfl,hno2⟩ | ⟨rfl,rfl,hno2⟩
  ·rcases hsi with rfl | ⟨rfl,rfl⟩ <;> rcases hno2 with rfl | ⟨rfl,rfl,rfl⟩ | ⟨rfl,rfl,rfl,rfl⟩
   all_goals
    go_wp2_with fail
    refine (HB.out _).mono ?_
    rintro e w9 ⟨rfl,hx⟩
    have HX:=qj (HX.out.trans hx)
    have HR:=qj (HR.out.ext hx)
    have HT:=qj (HT.out.ext hx)
    clear hx c0 c1 c2 c3 c4 x0 x2 x3 y0 y2 y3 hld
    obtain ⟨c0,_⟩:=HR.out.cells
    obtain ⟨x0,_⟩:=HT.out.first
    obtain ⟨y0,_⟩:=HT.out.second
    go_wp2_with fail
    go_ret
    exact ⟨by simp [whB],HX.out⟩
  rcases hsi with rfl | ⟨rfl,rfl⟩ <;> rcases hno2 with rfl | ⟨rfl,rfl,rfl⟩ <;> cases a <;> cases b
  all_goals
   go_wp2_with fail
   try
    with_reducible refine (HB.out _).mono ?_
    rintro e w9 ⟨rfl,hx⟩
    have HX:=qj (HX.out.trans hx)
    have HR:=qj (HR.out.ext hx)
    have HT:=qj (HT.out.ext hx)
    clear hx c0 c1 c2 c3 c4 x0 x2 x3 y0 y2 y3 hld
    obtain ⟨c0,c1,c2,c3,c4⟩:=HR.out.cells
    obtain ⟨x0,_,x2,x3,_⟩:=HT.out.first
    obtain ⟨y0,_,y2,y3,_⟩:=HT.out.second
    have hld:=zar HN.out HT.out
    go_wp2_with fail
   try
    with_reducible refine (HH0.out _).mono ?_
    rintro e w9 ⟨rfl,hx⟩
    have HX:=qj (HX.out.trans hx)
    have HR:=qj (HR.out.ext hx)
    have HT:=qj (HT.out.ext hx)
    clear hx c0 c1 c2 c3 c4 x0 x2 x3 y0 y2 y3 hld
    obtain ⟨c0,c1,c2,c3,c4⟩:=HR.out.cells
    obtain ⟨x0,_,x2,x3,_⟩:=HT.out.first
    obtain ⟨y0,_,y2,y3,_⟩:=HT.out.second
    have hld:=zar HN.out HT.out
    go_wp2_with fail
   all_goals
    go_ret
    exact ⟨by simp [whB],HX.out⟩
end Go.Proofs.YtdbpdhlecgoclaaGreatDoor
